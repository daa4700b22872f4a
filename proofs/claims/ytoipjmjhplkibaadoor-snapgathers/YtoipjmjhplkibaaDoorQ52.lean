import Derived.Test.YtoipjmjhplkibaaDoorQ36
import Derived.Test.YtoipjmjhplkibaaDoorQ30
import Derived.Test.YtoipjmjhplkibaaDoorQ51
import Derived.Test.YtoipjmjhplkibaaDoorQ15
import Derived.BigQuiet
/- The law SnapChunks answers true and leaves all memory as it was: the walk. -/
namespace Go.Proofs.YtoipjmjhplkibaaDoor
open Go.RowKit
set_option maxRecDepth 100000
set_option linter.unusedSimpArgs false
set_option linter.unusedVariables false

theorem gen_world {F : World → Prop} {w : World} (h : ∀ w', w' = w → F w') : F w := h w rfl
@[go_sem] theorem dec_le_no {a b : Int} (h : b < a) : decide (a ≤ b) = false := decide_eq_false (by omega)
@[go_sem] theorem dec_le_yes {a b : Int} (h : a ≤ b) : decide (a ≤ b) = true := decide_eq_true h
@[go_sem] theorem dec_lt_no2 {a b : Int} (h : b ≤ a) : decide (a < b) = false := decide_eq_false (by omega)
@[go_sem] theorem dec_lt_yes2 {a b : Int} (h : a < b) : decide (a < b) = true := decide_eq_true h

/-- A chunk of a row. -/
theorem Ck.at {n₀ e₀ : Nat} {w : World} {ao : Option Addr} {n cap : Nat} {ds : List (List Nat)} (h : Ck n₀ e₀ w (.slice ao n cap) ds) {i : Nat} {d : List Nat} (hd : ds[i]? = some d) : ∃ g a c, ao = some ⟨g, 0, none⟩ ∧ w.cell? ⟨g, i, none⟩ = some (.slice a d.length c) ∧ Fr.Bs e₀ w (.slice a d.length c) d := by
  obtain ⟨vs, h1, h2, h3⟩ := h
  have hi := (List.getElem?_eq_some_iff.1 hd).1
  have hv : vs[i]? = some vs[i] := List.getElem?_eq_getElem (by omega)
  have hB := h3 i _ d hv hd
  obtain ⟨a, c, e, -⟩ := id hB
  obtain ⟨g, cap', hs, -, hc⟩ := row_cell h1 (by omega)
  have := hc i _ hv
  rw [Nat.zero_add, e] at this
  rw [e] at hB
  cases hs
  exact ⟨g, a, c, rfl, this, hB⟩

set_option maxHeartbeats 4000000 in
theorem schunks_law (l : List Nat) (v : Value) (i size : Int) (w : World) (hT : Tb w) (hB : Fr.Bs w.heap.size w v l) (hl : ∀ c ∈ l, c < 256) (hs1 : -9223372036854775808 ≤ size) (hs2 : size ≤ 9223372036854775807) :
    Calls Tryd.prog 3 #[v, .int .i64 i, .int .i64 size] w fun e w' => e = .returned (.bool true) ∧ Below w.heap.size w w' := by
  have haw : ∀ W, Below w.heap.size w W → Calls Tryd.prog 5 #[] W fun e w' => e = .returned (.bool true) ∧ Below W.heap.size W w' := fun W hb => sawake_of W (hT.new hb)
  obtain ⟨a, c, rfl, hlc, hcm, -⟩ := id hB
  by_cases hlong : l.length ≤ 40000
  · have hlg : ¬ (40000 : Int) < (l.length : Int) := by omega
    have kC := refChunks_of w.heap.size l _ w hB (Nat.le_refl _) (by omega)
    have kn := fun W => count_of l.length W (by omega)
    have hlen := chk_len l
    have hsz : (size < 0 ∧ ∀ W, Calls Tryd.prog 8 #[.int .i64 size] W fun e w' => e = .returned (.int .i64 0) ∧ w' = W) ∨
        (∃ Q : Nat, 0 ≤ size ∧ ¬ size < 0 ∧ size / 256 = (Q : Int) ∧ size.tdiv 256 = (Q : Int) ∧ (Q : Int) ≤ 36028797018963968 ∧ (∃ R : Nat, size % 256 = (R : Int) ∧ size.tmod 256 = (R : Int) ∧ (0 : Int) < (R : Int)) ∧ ∀ W, Calls Tryd.prog 8 #[.int .i64 size] W fun e w' => e = .returned (.int .i64 ((Q : Int) + 1)) ∧ w' = W) ∨
        (size = 0 ∧ ∀ W, Calls Tryd.prog 8 #[.int .i64 0] W fun e w' => e = .returned (.int .i64 1) ∧ w' = W) ∨
        (∃ Q : Nat, 0 ≤ size ∧ ¬ size < 0 ∧ size / 256 = (Q : Int) ∧ size.tdiv 256 = (Q : Int) ∧ (Q : Int) ≤ 36028797018963968 ∧ size % 256 = 0 ∧ size.tmod 256 = 0 ∧ ¬ size = 0 ∧ (size == 0) = false ∧ ∀ W, Calls Tryd.prog 8 #[.int .i64 size] W fun e w' => e = .returned (.int .i64 (Q : Int)) ∧ w' = W) := by
      by_cases h0 : size < 0
      · exact .inl ⟨h0, fun W => count_neg size W h0⟩
      · obtain ⟨s, rfl⟩ : ∃ s : Nat, size = (s : Int) := ⟨size.toNat, by omega⟩
        have kc := fun W => count_of s W (by omega)
        by_cases hz : s = 0
        · subst hz
          exact .inr (.inr (.inl ⟨rfl, fun W => kc W⟩))
        · by_cases hr : s % 256 = 0
          · refine .inr (.inr (.inr ⟨s / 256, by omega, h0, by omega, by rw [Int.tdiv_eq_ediv_of_nonneg (by omega)]; omega, by omega, by omega, by rw [Int.tmod_eq_emod_of_nonneg (by omega)]; omega, by omega, by simp; omega, fun W => ?_⟩))
            have e : chunks s = s / 256 := by unfold chunks; omega
            have := kc W
            rw [e] at this
            exact this
          · refine .inr (.inl ⟨s / 256, by omega, h0, by omega, by rw [Int.tdiv_eq_ediv_of_nonneg (by omega)]; omega, by omega, ⟨s % 256, by omega, by rw [Int.tmod_eq_emod_of_nonneg (by omega)]; omega, by omega⟩, fun W => ?_⟩)
            have e : (chunks s : Int) = ((s / 256 : Nat) : Int) + 1 := by unfold chunks; omega
            have := kc W
            rw [e] at this
            exact this
    by_cases hi : 0 ≤ i ∧ i < (chunks l.length : Int)
    · obtain ⟨m, rfl⟩ : ∃ m : Nat, i = (m : Int) := ⟨i.toNat, by omega⟩
      have hm : m < chunks l.length := by omega
      have kk : ∀ W, Below w.heap.size w W → Calls Tryd.prog 7 #[.slice a l.length c, .int .i64 (m : Int)] W fun e w' => ∃ a n c, e = .returned (.tuple #[.slice a n c, .bool true]) ∧ Fr.Own W.heap.size w' (.slice a n c) (chAt l m) ∧ Below W.heap.size W w' := fun W hb => chunk_of w.heap.size l _ m W (hB.below hb) hb.size hm (by omega)
      have hat := chk_at hm
      have hby := chAt_bytes hl m
      have hm0 : (0 : Int) ≤ (m : Int) := by omega
      have hm1 : (m : Int) < (chunks l.length : Int) := by omega
      generalize chAt l m = D at *
      generalize chk l = CL at *
      clear hB hl
      go_enter Tryd.func3, Tryd.ntmps3
      go_wp2_with fail
      refine kC.mono ?_
      rintro e w1 ⟨ov, rfl, hCk, hb1⟩
      obtain ⟨ao, co, rfl⟩ := hCk.shape
      obtain ⟨g, a1, c1, rfl, hce, hBD⟩ := hCk.at hat
      rw [hlen] at *
      generalize chunks l.length = N at *
      have k1 := kk w1 hb1
      clear kC kk hCk
      go_wp2_with fail
      refine k1.mono ?_
      rintro e w2 ⟨a2, n2, c2, rfl, hO2, hb2⟩
      have hce2 := (hb2.cell (p := ⟨g, m, none⟩) (World.block_lt_of_cell? w1 _ hce)).trans hce
      have hBD2 := hBD.below (hb2.mono hb1.size)
      have hbw2 := hb1.trans (hb2.mono hb1.size)
      have s1 := fun k => Fr.str_of (hO2.bs.below (below_drewN (Below.refl _ w2) k)) hby
      have s2 := fun k => Fr.str_of (hBD2.below (below_drewN (Below.refl _ w2) k)) hby
      clear k1 hce hBD hBD2 hO2
      go_wp2
      go_big_quiet ((go_at_call 8; exact Calls.quiet_of_same (kn _)))
      refine gen_world ?_
      intro w3 hw3
      have hbw3 : Below w.heap.size w w3 := by rw [hw3]; exact below_drewN hbw2 _
      have ha := haw w3 hbw3
      clear haw hw3 kn s1 s2 hce2
      rcases hsz with ⟨h1, ks⟩ | ⟨Q, h0, h1, h2, h3, h4, ⟨R, h5, h6, h7⟩, ks⟩ | ⟨rfl, ks⟩ | ⟨Q, h0, h1, h2, h3, h4, h5, h6, h7, h8, ks⟩ <;>
      (go_wp2_with fail
       refine (ks _).mono ?_
       rintro e w4 ⟨rfl, hw4⟩
       rw [hw4]
       clear ks hw4
       go_wp2_with fail
       refine ha.mono ?_
       rintro e w5 ⟨rfl, hb5⟩
       clear ha
       go_wp2
       go_ret
       exact ⟨rfl, hbw3.trans (hb5.mono hbw3.size)⟩)
    · have kk : ∀ W, Below w.heap.size w W → Calls Tryd.prog 7 #[.slice a l.length c, .int .i64 i] W fun e w' => e = .returned (.tuple #[.slice none 0 0, .bool false]) ∧ w' = W := fun W hb => chunk_no w.heap.size l _ i W (hB.below hb) hi
      have hx : i < 0 ∨ (0 ≤ i ∧ (chunks l.length : Int) ≤ i) := by omega
      generalize chk l = CL at *
      clear hB hl hi
      go_enter Tryd.func3, Tryd.ntmps3
      go_wp2_with fail
      refine kC.mono ?_
      rintro e w1 ⟨ov, rfl, hCk, hb1⟩
      obtain ⟨ao, co, rfl⟩ := hCk.shape
      rw [hlen] at *
      generalize chunks l.length = N at *
      have k1 := kk w1 hb1
      clear kC kk hCk
      go_wp2_with fail
      refine k1.mono ?_
      rintro e w2 ⟨rfl, hw2⟩
      rw [hw2]
      clear k1 hw2
      rcases hx with hx | ⟨hx, hx'⟩ <;>
      go_wp2 <;>
      go_big_quiet ((go_at_call 8; exact Calls.quiet_of_same (kn _))) <;>
      refine gen_world ?_ <;>
      intro w3 hw3 <;>
      (have hbw3 : Below w.heap.size w w3 := by rw [hw3]; exact below_drewN hb1 _) <;>
      have ha := haw w3 hbw3 <;>
      clear haw hw3 kn <;>
      rcases hsz with ⟨h1, ks⟩ | ⟨Q, h0, h1, h2, h3, h4, ⟨R, h5, h6, h7⟩, ks⟩ | ⟨rfl, ks⟩ | ⟨Q, h0, h1, h2, h3, h4, h5, h6, h7, h8, ks⟩ <;>
      (go_wp2_with fail
       refine (ks _).mono ?_
       rintro e w4 ⟨rfl, hw4⟩
       rw [hw4]
       clear ks hw4
       go_wp2_with fail
       refine ha.mono ?_
       rintro e w5 ⟨rfl, hb5⟩
       clear ha
       go_wp2
       go_ret
       exact ⟨rfl, hbw3.trans (hb5.mono hbw3.size)⟩)
  · have hlg : (40000 : Int) < (l.length : Int) := by omega
    have ka := haw w (Below.refl _ _)
    clear haw hB
    go_enter Tryd.func3, Tryd.ntmps3
    go_wp2_with fail
    refine ka.mono ?_
    rintro e w3 ⟨rfl, hb3⟩
    clear ka
    go_wp2
    go_ret
    exact ⟨rfl, hb3⟩
end Go.Proofs.YtoipjmjhplkibaaDoor

