import Derived.Test.YtfpbgfmnjpamlaaGreatHv08
import Derived.Test.YtfpbgfmnjpamlaaGreatHv24
import Derived.Test.YtfpbgfmnjpamlaaGreatHv06
/- Two lists by rising keys as one; what keys that may turn are. -/
namespace Go.Proofs.YtfpbgfmnjpamlaaGreat
open Go.RowKit LeaseMath
set_option linter.unusedSimpArgs false
set_option linter.unusedVariables false

end Go.Proofs.YtfpbgfmnjpamlaaGreat

/- The document's marked and within. -/
namespace Go.Proofs.YtfpbgfmnjpamlaaGreat
open Go.RowKit LeaseMath
set_option maxRecDepth 100000
set_option linter.unusedSimpArgs false
set_option linter.unusedVariables false

theorem marked_of (ms : List Mk) (v : Value) (k : K) (w : World) (h : Rd markE w v ms) (hlen : ms.length ≤ 1000000000) : Calls Tryz.prog 144 #[v, .string (bk k)] w fun e w' => e = .returned (.bool (!decide (lastM ms k = 0))) ∧ w' = w := by
 have kl := rlast_of ms v k w h (by omega)
 obtain ⟨N, hN⟩ : ∃ N, N = lastM ms k := ⟨_, rfl⟩
 rw [← hN] at kl ⊢
 clear h hN
 by_cases h0 : N = 0
 ·have h0d : ((N : Int) != 0) = false := by simp [h0]
  rw [h0] at kl ⊢
  go_enter Tryz.func144, Tryz.ntmps144
  go_wp2_with fail
  refine kl.mono ?_
  rintro e w1 ⟨rfl, hw1⟩
  subst hw1
  go_wp2
  go_ret
  exact ⟨rfl, rfl⟩
 ·have h0d : ((N : Int) != 0) = true := by simpa using h0
  have E : Hid ((!decide (N = 0)) = true) := by show _ = _; rw [decide_eq_false h0]; rfl
  rw [E.out]
  clear h0
  go_enter Tryz.func144, Tryz.ntmps144
  go_wp2_with fail
  refine kl.mono ?_
  rintro e w1 ⟨rfl, hw1⟩
  subst hw1
  go_wp2
  go_ret
  exact ⟨rfl, rfl⟩

/-- Are all keys in spans, and has none a hold and a mark? -/
def withB (sp : List Sp) (hs : List Hd) (ms : List Mk) : Bool := (hs.all fun h => SpanMath.isIn sp h.1 && decide (lastM ms h.1 = 0)) && ms.all fun m => SpanMath.isIn sp m.1
theorem all_at {α : Type} {p : α → Bool} {l : List α} {i : Nat} {x : α} (h : l[i]? = some x) : (l.drop i).all p = (p x && (l.drop (i + 1)).all p) := by
 obtain ⟨hi, rfl⟩ := List.getElem?_eq_some_iff.1 h
 rw [List.drop_eq_getElem_cons hi, List.all_cons]
set_option maxHeartbeats 4000000 in
theorem within_of (sp : List Sp) (hs : List Hd) (ms : List Mk) (sv_ hv_ mv_ : Value) (w : World) (hS : Rd spE w sv_ sp) (hH : Rd holdE w hv_ hs) (hM_ : Rd markE w mv_ ms) (g0 : sp.length ≤ 1000000) (g1 : hs.length ≤ 1000000) (g2 : ms.length ≤ 1000000) :
  Calls Tryz.prog 82 #[sv_, hv_, mv_] w fun e w' => e = .returned (.bool (withB sp hs ms)) ∧ Below w.heap.size w w' := by
 obtain ⟨B, HB⟩ : ∃ B, Hid (B = withB sp hs ms) := ⟨_, rfl⟩
 rw [← HB.out]
 have HS : Hid (∀ k W, Below w.heap.size w W → _) := fun k W hW => refIn_of sp sv_ k W ((hS.below hW).sv) g0
 have HK : Hid (∀ k W, Below w.heap.size w W → _) := fun k W hW => marked_of ms mv_ k W (hM_.below hW) (by omega)
 have HH : Hid (Rd holdE w hv_ hs) := hH
 have HM : Hid (Rd markE w mv_ ms) := hM_
 obtain ⟨sa, sc, rfl, -, -⟩ := hS.shape
 obtain ⟨ha, hc_, rfl, -, -⟩ := hH.shape
 obtain ⟨ma, mc_, rfl, -, -⟩ := hM_.shape
 have HP0 : Hid (B = ((hs.drop 0).all (fun h => SpanMath.isIn sp h.1 && decide (lastM ms h.1 = 0)) && ms.all fun m => SpanMath.isIn sp m.1)) := HB.out
 clear HB hS hH hM_
 go_enter Tryz.func82, Tryz.ntmps82
 go_wp2
 go_loopg [7] hs.length (fun g s7 wr => ∃ i : Nat, i + g = hs.length ∧ s7 = .int .i64 (i : Int) ∧ Below w.heap.size w wr ∧ Hid (B = ((hs.drop i).all (fun h => SpanMath.isIn sp h.1 && decide (lastM ms h.1 = 0)) && ms.all fun m => SpanMath.isIn sp m.1)))
 case atStart => exact ⟨0, by omega, rfl, Below.refl _ _, HP0⟩
 case round =>
  obtain ⟨i, hig, rfl, hb, HP⟩ := hrel
  clear HP0
  by_cases hlt : i < hs.length
  ·have hlti : (i : Int) < (hs.length : Int) := by omega
   have hx : hs[i]? = some hs[i] := List.getElem?_eq_getElem hlt
   obtain ⟨z, hzz⟩ : ∃ z, z = hs[i] := ⟨_, rfl⟩
   rw [← hzz] at hx
   clear hzz
   obtain ⟨b, off, rfl, cc⟩ := rdh_at HH.out hx
   have HA := all_at (p := fun h => SpanMath.isIn sp h.1 && decide (lastM ms h.1 = 0)) hx
   obtain ⟨k, t, u⟩ := z
   dsimp only at HA cc
   obtain ⟨c0, c1, c2⟩ := cc wr hb
   have K1 := HS.out k wr hb
   cases h1 : SpanMath.isIn sp k with
   | false =>
    have E : Hid (B = false) := by show _ = _; rw [HP.out, HA, h1]; simp
    rw [h1] at K1
    clear HP HA cc hx
    go_wp2_with fail
    refine K1.mono ?_
    rintro e w1 ⟨rfl, hb1⟩
    go_wp2
    go_ret
    exact ⟨by rw [E.out]; rfl, keep_step hb (Nat.le_refl _) hb1⟩
   | true =>
    rw [h1] at K1
    have K2 := fun W hW => HK.out k W hW
    by_cases h2 : lastM ms k = 0
    ·have HN : Hid (B = ((hs.drop (i + 1)).all (fun h => SpanMath.isIn sp h.1 && decide (lastM ms h.1 = 0)) && ms.all fun m => SpanMath.isIn sp m.1)) := by show _ = _; rw [HP.out, HA, h1, decide_eq_true h2]; rfl
     rw [decide_eq_true h2] at K2
     clear HP HA hx h2
     go_wp2_with fail
     refine K1.mono ?_
     rintro e w1 ⟨rfl, hb1⟩
     have hb2 := keep_step hb (Nat.le_refl _) hb1
     have K3 := K2 w1 hb2
     obtain ⟨d0, d1, d2⟩ := cc w1 hb2
     clear K2 cc hb1
     go_wp2_with fail
     refine K3.mono ?_
     rintro e w2 ⟨rfl, hw2⟩
     subst hw2
     go_wp2
     go_roundg (gk - 1)
     case measure => omega
     case rel => exact ⟨i + 1, by omega, by go_num, hb2, HN⟩
    ·have E : Hid (B = false) := by show _ = _; rw [HP.out, HA, h1, decide_eq_false h2]; rfl
     rw [decide_eq_false h2] at K2
     clear HP HA hx h2
     go_wp2_with fail
     refine K1.mono ?_
     rintro e w1 ⟨rfl, hb1⟩
     have hb2 := keep_step hb (Nat.le_refl _) hb1
     have K3 := K2 w1 hb2
     obtain ⟨d0, d1, d2⟩ := cc w1 hb2
     clear K2 cc hb1
     go_wp2_with fail
     refine K3.mono ?_
     rintro e w2 ⟨rfl, hw2⟩
     subst hw2
     go_wp2
     go_ret
     exact ⟨by rw [E.out]; rfl, hb2⟩
  ·have hlti : ¬ (i : Int) < (hs.length : Int) := by omega
   have HP1 : Hid (B = ((ms.drop 0).all fun m => SpanMath.isIn sp m.1)) := by show _ = _; rw [HP.out, List.drop_of_length_le (by omega)]; rfl
   clear HP HH HK
   go_wp2
   go_loopg [8] ms.length (fun g s8 wr => ∃ i : Nat, i + g = ms.length ∧ s8 = .int .i64 (i : Int) ∧ Below w.heap.size w wr ∧ Hid (B = ((ms.drop i).all fun m => SpanMath.isIn sp m.1)))
   case atStart => exact ⟨0, by omega, rfl, hb, HP1⟩
   case round =>
    obtain ⟨i, hig, rfl, hb, HP⟩ := hrel
    clear HP1
    by_cases hlt : i < ms.length
    ·have hlti : (i : Int) < (ms.length : Int) := by omega
     have hx : ms[i]? = some ms[i] := List.getElem?_eq_getElem hlt
     obtain ⟨z, hzz⟩ : ∃ z, z = ms[i] := ⟨_, rfl⟩
     rw [← hzz] at hx
     clear hzz
     obtain ⟨b, off, rfl, cc⟩ := rdm_at HM.out hx
     have HA := all_at (p := fun m => SpanMath.isIn sp m.1) hx
     obtain ⟨k, t⟩ := z
     dsimp only at HA cc
     obtain ⟨c0, c1⟩ := cc wr hb
     have K1 := HS.out k wr hb
     cases h1 : SpanMath.isIn sp k with
     | false =>
      have E : Hid (B = false) := by show _ = _; rw [HP.out, HA, h1]; rfl
      rw [h1] at K1
      clear HP HA cc hx
      go_wp2_with fail
      refine K1.mono ?_
      rintro e w1 ⟨rfl, hb1⟩
      go_wp2
      go_ret
      exact ⟨by rw [E.out]; rfl, keep_step hb (Nat.le_refl _) hb1⟩
     | true =>
      rw [h1] at K1
      have HN : Hid (B = ((ms.drop (i + 1)).all fun m => SpanMath.isIn sp m.1)) := by show _ = _; rw [HP.out, HA, h1]; rfl
      clear HP HA cc hx
      go_wp2_with fail
      refine K1.mono ?_
      rintro e w1 ⟨rfl, hb1⟩
      go_wp2
      go_roundg (gk - 1)
      case measure => omega
      case rel => exact ⟨i + 1, by omega, by go_num, keep_step hb (Nat.le_refl _) hb1, HN⟩
    ·have hlti : ¬ (i : Int) < (ms.length : Int) := by omega
     have E : Hid (B = true) := by show _ = _; rw [HP.out, List.drop_of_length_le (by omega)]; rfl
     clear HP HM HS
     go_wp2
     go_ret
     exact ⟨by rw [E.out]; rfl, hb⟩
end Go.Proofs.YtfpbgfmnjpamlaaGreat

