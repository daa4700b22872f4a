import Derived.Test.YtfpbgfmnjpamlaaGreatHu41
import Derived.Test.YtfpbgfmnjpamlaaGreatHu51
/- The law TablePrepares. -/
namespace Go.Proofs.YtfpbgfmnjpamlaaGreat
open Go.RowKit LeaseMath
set_option maxRecDepth 100000
set_option linter.unusedSimpArgs false
set_option linter.unusedVariables false

@[reducible] def xc (d : Cq) (c : Cl) (a : Sa) (tk : Nat) : Obj := .cells #[.int .i64 d.1, .int .u64 (d.2 : Int), .int .i64 c.kind, .slice a.1 c.keys.length a.2, .int .u64 (c.token : Int), .int .i64 c.ttl, .int .u64 (tk : Int)] 35
@[reducible] def xval (d : Cq) (c : Cl) (a : Sa) (tk : Nat) : Value := .agg #[.int .i64 d.1, .int .u64 (d.2 : Int), .int .i64 c.kind, .slice a.1 c.keys.length a.2, .int .u64 (c.token : Int), .int .i64 c.ttl, .int .u64 (tk : Int)]
/-- What Prepare tells is not too great. -/
theorem prepW_len {t : Tb} {d : Cq} {c : Cl} {tk : Nat} (h : (prepW t d c tk).2 = 0 → okT (prepW t d c tk).1 = true) (h' : (prepW t d c tk).2 ≠ 0 → (prepW t d c tk).1 = noT) : (prepW t d c tk).1.spans.length ≤ 1000000 ∧ (prepW t d c tk).1.frozen.length ≤ 1000000 ∧ (prepW t d c tk).1.holds.length ≤ 1000000 ∧ (prepW t d c tk).1.marks.length ≤ 1000000 ∧ (prepW t d c tk).1.ints.length ≤ 1000000 := by
 by_cases h0 : (prepW t d c tk).2 = 0
 ·obtain ⟨s1, s2, s3, s4, s5⟩ := ok_sizes (h h0)
  exact ⟨by omega, by omega, by omega, by omega, by omega⟩
 ·rw [h' h0]
  exact ⟨Nat.zero_le _, Nat.zero_le _, Nat.zero_le _, Nat.zero_le _, Nat.zero_le _⟩
set_option maxHeartbeats 16000000 in
theorem prepares_law (z : Tz) (d : Cq) (c : Cl) (a : Sa) (tk : Nat) (w : World) (hR : TbR w z) (hK : Rd kyE w (.slice a.1 c.keys.length a.2) c.keys) (g0 : z.t.spans.length ≤ 140737488355328) (g1 : z.t.frozen.length ≤ 140737488355328) (g2 : z.t.holds.length ≤ 140737488355328) (g3 : z.t.marks.length ≤ 140737488355328) (g4 : z.t.ints.length ≤ 140737488355328) (g5 : c.keys.length ≤ 140737488355328) :
  Calls Tryz.prog 3 #[tv z, xval d c a tk] w fun e w' => e = .returned (.bool true) ∧ Below w.heap.size w w' := by
 have k9 : Hid (∀ W, _) := fun W => light_of z W (by omega) (by omega) (by omega) (by omega) (by omega)
 have k10 : Hid (∀ W, _) := fun W => awake_of W
 have k11 : Hid (lightT z.t = true → c.keys.length ≤ 40 → ∀ W, Below w.heap.size w W → _) := fun h h' W hW => prep_law z d c a tk W (hR.below hW) (hK.below hW) h h'
 have k12 : Hid (lightT z.t = true → c.keys.length ≤ 40 → ∀ W, Below w.heap.size w W → _) := fun h h' W hW => rprep_of z d c a tk W (hR.below hW) (hK.below hW) (by have := (light_iff.1 h).1; omega) (by omega)
 have HLN : Hid ((prepW z.t d c tk).1.spans.length ≤ 1000000 ∧ (prepW z.t d c tk).1.frozen.length ≤ 1000000 ∧ (prepW z.t d c tk).1.holds.length ≤ 1000000 ∧ (prepW z.t d c tk).1.marks.length ≤ 1000000 ∧ (prepW z.t d c tk).1.ints.length ≤ 1000000) := prepW_len (fun h => (prepW_ok h).1) prep_no
 obtain ⟨LT, hLT⟩ : ∃ b, Hid (b = lightT z.t) := ⟨_, rfl⟩
 rw [← hLT.out] at k9 k11 k12
 obtain ⟨q1, q2, q3, q4⟩ := two_boxes6 w (tc z) (xc d c a tk)
 obtain ⟨w0, hw0⟩ : ∃ W, (w.alloc (tc z)).alloc (xc d c a tk) = W := ⟨_, rfl⟩
 rw [hw0] at q1 q2 q3 q4
 obtain ⟨PW, hPW⟩ : ∃ P, Hid (P = prepW z.t d c tk) := ⟨_, rfl⟩
 rw [← hPW.out] at k11 k12 HLN
 clear hLT hPW hR hK g0 g1 g2 g3 g4
 obtain ⟨⟨nw, sp, fr, hs_, ms, is⟩, ⟨sa, sc⟩, ⟨fa, fc⟩, ⟨ha, hc⟩, ⟨ma, mc⟩, ⟨ia, ic_⟩⟩ := z
 obtain ⟨d1, d2⟩ := d
 obtain ⟨kd, ks, ct, tt⟩ := c
 obtain ⟨aa, ac⟩ := a
 dsimp only [tv, tc, xval, xc, cv, idv] at *
 have HC : Hid (∀ W, Below (w.heap.size + 2) w0 W → Below w.heap.size w W ∧ W.heap[w.heap.size]? = _ ∧ W.heap[w.heap.size + 1]? = _) := fun W hW => ⟨q4.trans (hW.mono (by omega)), (hW.block w.heap.size (by omega)).trans q2, (hW.block (w.heap.size + 1) (by omega)).trans q3⟩
 have hz : w.heap.size + 2 ≤ w0.heap.size := by omega
 have hb0 : Below (w.heap.size + 2) w0 w0 := Below.refl _ _
 obtain ⟨c0, c1, c2, c3, c4, c5⟩ := cells6 q2
 obtain ⟨x0, x1, x2, x3, x4, x5, x6⟩ := cells7 q3
 clear q1 q2 q3 q4
 go_enter Tryz.func3, Tryz.ntmps3
 go_wp2_with fail
 refine (k9.out _).mono ?_
 rintro e w1 ⟨rfl, hbc⟩
 have hb1 := keep_step hb0 hz hbc
 clear hbc c0 c1 c2 c3 c4 c5 x0 x1 x2 x3 x4 x5 x6 k9
 obtain ⟨-, P1, X1⟩ := HC.out _ hb1
 obtain ⟨c0, c1, c2, c3, c4, c5⟩ := cells6 P1
 obtain ⟨x0, x1, x2, x3, x4, x5, x6⟩ := cells7 X1
 cases LT with
 | false =>
  clear k11 k12
  go_wp2_with fail
  refine (k10.out _).mono ?_
  rintro e w2 ⟨rfl, hbc⟩
  go_wp2
  go_ret
  exact ⟨rfl, (HC.out _ (keep_step hb1 hz hbc)).1⟩
 | true =>
  by_cases hk : 40 < ks.length
  ·have hki : (40 : Int) < (ks.length : Int) := by omega
   have hkd : decide ((40 : Int) < (ks.length : Int)) = true := decide_eq_true hki
   clear k11 k12
   go_wp2_with fail
   refine (k10.out _).mono ?_
   rintro e w2 ⟨rfl, hbc⟩
   go_wp2
   go_ret
   exact ⟨rfl, (HC.out _ (keep_step hb1 hz hbc)).1⟩
  ·have hki : ¬ (40 : Int) < (ks.length : Int) := by omega
   have hkd : decide ((40 : Int) < (ks.length : Int)) = false := decide_eq_false hki
   have K11 := k11.out rfl (by omega) w1 (HC.out _ hb1).1
   have K12 : Hid (∀ W, Below w.heap.size w W → _) := k12.out rfl (by omega)
   clear k11 k12
   go_wp2_with fail
   refine K11.mono ?_
   rintro e w2 ⟨⟨z2, rfl, hz2_, hO2⟩, hbc⟩
   have hz2 : Hid (z2.t = PW.1) := hz2_
   clear hz2_
   have hb2 := keep_step hb1 hz hbc
   have hzw2 : w.heap.size + 2 ≤ w2.heap.size := Nat.le_trans hz hb2.size
   obtain ⟨s2, p2, b2⟩ := one_box w2 (tc z2)
   have hR2 : TbR w2 z2 := hO2.tbr
   obtain ⟨w3, hw3⟩ : ∃ W, w2.alloc (tc z2) = W := ⟨_, rfl⟩
   rw [hw3] at s2 p2 b2
   have hb3 := hb2.trans (b2.mono hzw2)
   have HR2 : Hid (∀ W, Below w2.heap.size w2 W → TbR W z2) := fun W hW => hR2.below hW
   clear hO2 hR2 hbc c0 c1 c2 c3 c4 c5 x0 x1 x2 x3 x4 x5 x6 P1 X1 K11
   obtain ⟨t2, ⟨a1, v1⟩, ⟨a2, v2⟩, ⟨a3, v3⟩, ⟨a4, v4⟩, ⟨a5, v5⟩⟩ := z2
   dsimp only [tv, tc] at *
   obtain ⟨-, P1, X1⟩ := HC.out _ hb3
   obtain ⟨x0, x1, x2, x3, x4, x5, x6⟩ := cells7 X1
   obtain ⟨c0, c1, c2, c3, c4, c5⟩ := cells6 P1
   have hbA : Below (w2.heap.size + 1) w3 w3 := Below.refl _ _
   have hzA : w2.heap.size + 1 ≤ w3.heap.size := by omega
   have HA : Hid (∀ W, Below (w2.heap.size + 1) w3 W → Below w.heap.size w W ∧ W.heap[w2.heap.size]? = _ ∧ Below w2.heap.size w2 W) := fun W hW => ⟨(HC.out _ (hb3.trans (hW.mono (by omega)))).1, (hW.block w2.heap.size (by omega)).trans p2, b2.trans (hW.mono (by omega))⟩
   have K12' := K12.out w3 (HA.out _ hbA).1
   clear K12
   go_wp2_with fail
   refine K12'.mono ?_
   rintro e w4 ⟨⟨z4, rfl, hz4_, hR4⟩, hbc⟩
   have hz4 : Hid (z4.t = PW.1) := hz4_
   have hb4 := keep_step hbA hzA hbc
   have hzw4 : w2.heap.size + 1 ≤ w4.heap.size := Nat.le_trans hzA hb4.size
   obtain ⟨s4, p4, b4⟩ := one_box w4 (tc z4)
   obtain ⟨w5, hw5⟩ : ∃ W, w4.alloc (tc z4) = W := ⟨_, rfl⟩
   rw [hw5] at s4 p4 b4
   have hb5 := hb4.trans (b4.mono hzw4)
   have hR5 := hR4.below b4
   clear hz4_ hbc K12' hR4 c0 c1 c2 c3 c4 c5 x0 x1 x2 x3 x4 x5 x6 P1 X1 s2 p2 b2
   obtain ⟨hW5, PA, hW25⟩ := HA.out _ hb5
   have KS := fun (c : Int) => lsame_of ⟨t2, (a1, v1), (a2, v2), (a3, v3), (a4, v4), (a5, v5)⟩ z4 c w5 (HR2.out _ hW25) hR5 (by rw [hz4.out]; exact hz2.out) (by rw [show t2 = PW.1 from hz2.out]; exact HLN.out.1) (by rw [show t2 = PW.1 from hz2.out]; exact HLN.out.2.1) (by rw [show t2 = PW.1 from hz2.out]; exact HLN.out.2.2.1) (by rw [show t2 = PW.1 from hz2.out]; exact HLN.out.2.2.2.1) (by rw [show t2 = PW.1 from hz2.out]; exact HLN.out.2.2.2.2)
   obtain ⟨t4, ⟨o1, n1⟩, ⟨o2, n2⟩, ⟨o3, n3⟩, ⟨o4, n4⟩, ⟨o5, n5⟩⟩ := z4
   obtain ⟨PT, PC⟩ := PW
   dsimp only [tv, tc] at *
   obtain ⟨c0, c1, c2, c3, c4, c5⟩ := cells6 PA
   obtain ⟨x0, x1, x2, x3, x4, x5⟩ := cells6 p4
   have KS' := KS PC
   clear KS hz4 hz2 hR5 HLN
   go_wp2_with fail
   refine KS'.mono ?_
   rintro e w6 ⟨rfl, hbc⟩
   have hb6 : Below (w2.heap.size + 1) w3 w6 := hb5.trans (hbc.mono (by have := hb5.size; omega))
   clear hbc KS' c0 c1 c2 c3 c4 c5 x0 x1 x2 x3 x4 x5
   go_wp2_with fail
   refine (k10.out _).mono ?_
   rintro e w7 ⟨rfl, hbc⟩
   have hb7 := keep_step hb6 hzA hbc
   go_wp2
   go_ret
   exact ⟨rfl, (HA.out _ hb7).1⟩
end Go.Proofs.YtfpbgfmnjpamlaaGreat

