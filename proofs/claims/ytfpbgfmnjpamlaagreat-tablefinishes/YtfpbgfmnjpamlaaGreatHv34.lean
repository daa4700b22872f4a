import Derived.Test.YtfpbgfmnjpamlaaGreatHv10
import Derived.Test.YtfpbgfmnjpamlaaGreatHv24
/- Inspect of the program; the law's light and acquire. -/
namespace Go.Proofs.YtfpbgfmnjpamlaaGreat
open Go.RowKit LeaseMath
set_option maxRecDepth 100000
set_option linter.unusedSimpArgs false
set_option linter.unusedVariables false

/-- What Inspect tells. -/
def inspM (t : Tb) (k : K) : Nat × Int :=
 if 64 < k.length then (0, 1) else if inP t.spans k = false then (0, 10) else if itdB t.ints k = true then (0, 9) else (heldN t.holds k, 0)
theorem held_find (l : List Hd) (k : K) : (goth (findM l k)).2.1 = heldN l k := by
 unfold goth heldN
 cases findM l k <;> rfl
set_option maxHeartbeats 4000000 in
theorem inspect_of (z : Tz) (k : K) (w : World) (hR : TbR w z) (g2 : z.t.holds.length ≤ 1000000000) (g4 : z.t.ints.length ≤ 1000000000) :
  Calls Tryz.prog 28 #[tv z, .string (bk k)] w fun e w' => e = .returned (.tuple #[.int .u64 ((inspM z.t k).1 : Int), .int .i64 (inspM z.t k).2]) ∧ Below w.heap.size w w' := by
 obtain ⟨IM, HIM⟩ : ∃ IM, Hid (IM = inspM z.t k) := ⟨_, rfl⟩
 rw [← HIM.out]
 have hRH : Hid (TbR w z) := hR
 have HE : Hid (inspM z.t k = (if 64 < k.length then (0, 1) else if inP z.t.spans k = false then (0, 10) else if itdB z.t.ints k = true then (0, 9) else (heldN z.t.holds k, 0))) := rfl
 have k0 := fun W => tkey_of k W
 have k1 : Hid (∀ W, Below w.heap.size w W → _) := fun W hW => in_of z.t.spans _ k W ((hRH.out.1.below hW).sv)
 have k2 : Hid (∀ W, Below w.heap.size w W → _) := fun W hW => intended_of z k W (hRH.out.below hW) g4
 have k3 : Hid (∀ W, Below w.heap.size w W → _) := fun W hW => find_of z.t.holds _ k W (hRH.out.2.2.1.below hW) (by omega)
 have hf := held_find z.t.holds k
 obtain ⟨S, HS⟩ : ∃ S, Hid (S = inP z.t.spans k) := ⟨_, rfl⟩
 obtain ⟨I, HI⟩ : ∃ I, Hid (I = itdB z.t.ints k) := ⟨_, rfl⟩
 obtain ⟨Fd, HF⟩ : ∃ Fd, Hid (Fd = findM z.t.holds k) := ⟨_, rfl⟩
 rw [← HS.out] at k1 HE
 rw [← HI.out] at k2 HE
 rw [← HF.out] at k3 hf
 obtain ⟨⟨hk1, ht1, hu1⟩, hg⟩ : ∃ y : Hd, goth Fd = y := ⟨_, rfl⟩
 rw [hg] at k3 hf
 dsimp only at hf
 rw [← hf] at HE
 replace HIM : Hid (IM = _) := HIM.out.trans HE.out
 obtain ⟨hs, hb, cl⟩ := tb_box w z
 have hsz : w.heap.size + 1 ≤ (w.alloc (tc z)).heap.size := by omega
 have hx0 : Below (w.heap.size + 1) (w.alloc (tc z)) (w.alloc (tc z)) := Below.refl _ _
 have BW : ∀ W, Below (w.heap.size + 1) (w.alloc (tc z)) W → Below w.heap.size w W := fun W hW => hb.trans (hW.mono (Nat.le_succ _))
 clear HS HI HF HE hf hR g2 g4 hs hb hg
 obtain ⟨⟨nw, sp, fr, hs_, ms, is⟩, ⟨sa, sc⟩, ⟨fa, fc⟩, ⟨ha, hc_⟩, ⟨ma, mc_⟩, ⟨ia, ic_⟩⟩ := z
 dsimp only [tv, tc] at *
 obtain ⟨c0, c1, c2, c3, c4, c5⟩ := cl _ hx0
 by_cases hk : k.length ≤ 64
 ·rw [decide_eq_true hk] at k0
  cases S with
  | false =>
   have E : Hid (IM = (0, 10)) := by show _ = _; rw [HIM.out, if_neg (by omega)]; rfl
   clear HIM k2 k3 hk
   go_enter Tryz.func28, Tryz.ntmps28
   go_wp2_with fail
   refine (k0 _).mono ?_
   rintro e w1 ⟨rfl, hw1⟩
   subst hw1
   go_wp2_with fail
   refine (k1.out _ (BW _ hx0)).mono ?_
   rintro e w2 ⟨rfl, hbc⟩
   have hx2 := keep_step hx0 hsz hbc
   go_wp2
   refine bodyPost_ret (results_two rfl _ _ _) rfl ?_
   exact ⟨by rw [E.out]; rfl, BW _ hx2⟩
  | true =>
   cases I with
   | true =>
    have E : Hid (IM = (0, 9)) := by show _ = _; rw [HIM.out, if_neg (by omega)]; rfl
    clear HIM k3 hk
    go_enter Tryz.func28, Tryz.ntmps28
    go_wp2_with fail
    refine (k0 _).mono ?_
    rintro e w1 ⟨rfl, hw1⟩
    subst hw1
    go_wp2_with fail
    refine (k1.out _ (BW _ hx0)).mono ?_
    rintro e w2 ⟨rfl, hbc⟩
    have hx2 := keep_step hx0 hsz hbc
    obtain ⟨d0, d1, d2, d3, d4, d5⟩ := cl _ hx2
    clear hbc
    go_wp2_with fail
    refine (k2.out _ (BW _ hx2)).mono ?_
    rintro e w3 ⟨rfl, hbc⟩
    have hx3 := keep_step hx2 hsz hbc
    go_wp2
    refine bodyPost_ret (results_two rfl _ _ _) rfl ?_
    exact ⟨by rw [E.out]; rfl, BW _ hx3⟩
   | false =>
    have E : Hid (IM = (ht1, 0)) := by show _ = _; rw [HIM.out, if_neg (by omega)]; rfl
    clear HIM hk
    go_enter Tryz.func28, Tryz.ntmps28
    go_wp2_with fail
    refine (k0 _).mono ?_
    rintro e w1 ⟨rfl, hw1⟩
    subst hw1
    go_wp2_with fail
    refine (k1.out _ (BW _ hx0)).mono ?_
    rintro e w2 ⟨rfl, hbc⟩
    have hx2 := keep_step hx0 hsz hbc
    obtain ⟨d0, d1, d2, d3, d4, d5⟩ := cl _ hx2
    clear hbc
    go_wp2_with fail
    refine (k2.out _ (BW _ hx2)).mono ?_
    rintro e w3 ⟨rfl, hbc⟩
    have hx3 := keep_step hx2 hsz hbc
    obtain ⟨e0, e1, e2, e3, e4, e5⟩ := cl _ hx3
    clear hbc
    go_wp2_with fail
    refine (k3.out _ (BW _ hx3)).mono ?_
    rintro e w4 ⟨rfl, hbc⟩
    have hx4 := keep_step hx3 hsz hbc
    obtain ⟨hsy, hby, cly⟩ := hd_box w4 (hk1, ht1, hu1)
    obtain ⟨l0, l1, l2⟩ := cly _ (Below.refl _ _)
    have hx5 := keep_step hx4 hsz hby
    dsimp only [hc, hv] at *
    clear hbc cly hsy hby
    go_wp2
    refine bodyPost_ret (results_two rfl _ _ _) rfl ?_
    exact ⟨by rw [E.out]; rfl, BW _ hx5⟩
 ·rw [decide_eq_false hk] at k0
  have E : Hid (IM = (0, 1)) := by show _ = _; rw [HIM.out, if_pos (by omega)]
  clear HIM k1 k2 k3 hk
  go_enter Tryz.func28, Tryz.ntmps28
  go_wp2_with fail
  refine (k0 _).mono ?_
  rintro e w1 ⟨rfl, hw1⟩
  subst hw1
  go_wp2
  refine bodyPost_ret (results_two rfl _ _ _) rfl ?_
  exact ⟨by rw [E.out]; rfl, BW _ hx0⟩

/-- Is a table not too great? -/
def lightT (t : Tb) : Bool := decide (locksN t ≤ 100) && decide (t.spans.length + t.frozen.length ≤ 24)
set_option maxHeartbeats 2000000 in
theorem light_of (z : Tz) (w : World) (g0 : z.t.spans.length ≤ 1000000000000000000) (g1 : z.t.frozen.length ≤ 1000000000000000000) (g2 : z.t.holds.length ≤ 1000000000000000000) (g3 : z.t.marks.length ≤ 1000000000000000000) (g4 : z.t.ints.length ≤ 1000000000000000000) : Calls Tryz.prog 9 #[tv z] w fun e w' => e = .returned (.bool (lightT z.t)) ∧ Below w.heap.size w w' := by
 obtain ⟨B, HB⟩ : ∃ B, Hid (B = lightT z.t) := ⟨_, rfl⟩
 rw [← HB.out]
 obtain ⟨hs, hb, cl⟩ := tb_box w z
 obtain ⟨c0, c1, c2, c3, c4, c5⟩ := cl _ (Below.refl _ _)
 have j1 : IntKind.i64.wrap ((z.t.holds.length : Int) + (z.t.marks.length : Int)) = (z.t.holds.length : Int) + (z.t.marks.length : Int) := IntWalk.i64_in _ (by omega)
 have j2 : IntKind.i64.wrap ((z.t.holds.length : Int) + (z.t.marks.length : Int) + (z.t.ints.length : Int)) = (z.t.holds.length : Int) + (z.t.marks.length : Int) + (z.t.ints.length : Int) := IntWalk.i64_in _ (by omega)
 have j3 : IntKind.i64.wrap ((z.t.spans.length : Int) + (z.t.frozen.length : Int)) = (z.t.spans.length : Int) + (z.t.frozen.length : Int) := IntWalk.i64_in _ (by omega)
 dsimp only [tv, tc] at *
 clear cl
 by_cases h1 : locksN z.t ≤ 100
 ·have h1i : (z.t.holds.length : Int) + (z.t.marks.length : Int) + (z.t.ints.length : Int) ≤ 100 := by unfold locksN at h1; omega
  have h1d : decide ((z.t.holds.length : Int) + (z.t.marks.length : Int) + (z.t.ints.length : Int) ≤ 100) = true := decide_eq_true h1i
  by_cases h2 : z.t.spans.length + z.t.frozen.length ≤ 24
  ·have h2i : (z.t.spans.length : Int) + (z.t.frozen.length : Int) ≤ 24 := by omega
   have h2d : decide ((z.t.spans.length : Int) + (z.t.frozen.length : Int) ≤ 24) = true := decide_eq_true h2i
   have E : Hid (B = true) := by show _ = _; rw [HB.out]; unfold lightT; rw [decide_eq_true h1, decide_eq_true h2]; rfl
   clear HB g0 g1 g2 g3 g4 h1 h2
   go_enter Tryz.func9, Tryz.ntmps9
   go_wp2
   go_ret
   exact ⟨by rw [E.out]; first | rfl | simp, hb⟩
  ·have h2i : ¬ (z.t.spans.length : Int) + (z.t.frozen.length : Int) ≤ 24 := by omega
   have h2d : decide ((z.t.spans.length : Int) + (z.t.frozen.length : Int) ≤ 24) = false := decide_eq_false h2i
   have E : Hid (B = false) := by show _ = _; rw [HB.out]; unfold lightT; rw [decide_eq_false h2]; simp
   clear HB g0 g1 g2 g3 g4 h1 h2
   go_enter Tryz.func9, Tryz.ntmps9
   go_wp2
   go_ret
   exact ⟨by rw [E.out]; first | rfl | simp, hb⟩
 ·have h1i : ¬ (z.t.holds.length : Int) + (z.t.marks.length : Int) + (z.t.ints.length : Int) ≤ 100 := by unfold locksN at h1; omega
  have h1d : decide ((z.t.holds.length : Int) + (z.t.marks.length : Int) + (z.t.ints.length : Int) ≤ 100) = false := decide_eq_false h1i
  have E : Hid (B = false) := by show _ = _; rw [HB.out]; unfold lightT; rw [decide_eq_false h1]; rfl
  clear HB g0 g1 g2 g3 g4 h1
  go_enter Tryz.func9, Tryz.ntmps9
  go_wp2
  go_ret
  exact ⟨by rw [E.out]; first | rfl | simp, hb⟩
end Go.Proofs.YtfpbgfmnjpamlaaGreat

