import Derived.Test.YtglbjimpaoikfaaHx43
import Derived.Test.YtglbjimpaoikfaaHx45
/- The document's Applied. -/
namespace Go.Proofs.Ytglbjimpaoikfaa
open Go.RowKit LeaseMath QuorumMath
set_option maxRecDepth 100000
set_option linter.unusedSimpArgs false
set_option linter.unusedVariables false

theorem XR.close {w : World} {x : Tx} {k g y d : Sa} (b : Bool) (h : XR w ⟨x, k, g, y, d⟩) : XR w ⟨closeM x b, k, g, y, d⟩ := by
 unfold closeM
 split
 ·exact h
 ·exact h
def appliedM (x : Tx) (g : Int) (l : List Int) (b : Bool) : Tx × Int := if okX x = true then (if g ∈ x.groups then (if (decide (x.state = 2) || decide (x.state = 3)) = true then (if g ∈ x.done then (noX, 6) else (closeM (setD x l) b, 0)) else (noX, 7)) else (noX, 4)) else (noX, 1)
set_option maxHeartbeats 16000000 in
theorem rapplied_of (z : Xz) (g : Int) (w : World) (hR : XR w z) (gk : z.t.keys.length ≤ 1000000) (g1 : z.t.groups.length ≤ 1000000) (g2 : z.t.yes.length ≤ 1000000) (g3 : z.t.done.length ≤ 1000000) : Calls Try.prog 29 #[xv z, .int .i64 g] w fun e w' => ∃ R, Hid (R = appliedM z.t g (plusL z.t.done g 16) (subB z.t.groups (plusL z.t.done g 16))) ∧ (∃ k g' y d : Sa, e = .returned (.tuple #[xv ⟨R.1, k, g', y, d⟩, .int .i64 R.2]) ∧ KX w w' z ⟨R.1, k, g', y, d⟩) ∧ Below w.heap.size w w' := by
 obtain ⟨R, HRR⟩ : ∃ R, Hid (R = appliedM z.t g (plusL z.t.done g 16) (subB z.t.groups (plusL z.t.done g 16))) := ⟨_, rfl⟩
 suffices hs : Calls Try.prog 29 #[xv z, .int .i64 g] w fun e w' => (∃ k g' y d : Sa, e = .returned (.tuple #[xv ⟨R.1, k, g', y, d⟩, .int .i64 R.2]) ∧ KX w w' z ⟨R.1, k, g', y, d⟩) ∧ Below w.heap.size w w' from hs.mono fun e w' h => ⟨R, HRR, h.1, h.2⟩
 obtain ⟨q1, q2, q3, q4⟩ := two_boxesX w (xc z) (.cells #[.int .i64 0, .int .u64 0, .int .i64 0, .slice none 0 0, .int .u64 0, .int .i64 0, .slice none 0 0, .int .i64 0, .slice none 0 0, .slice none 0 0, .int .i64 0] 29)
 obtain ⟨w0, hw0⟩ : ∃ W, (w.alloc (xc z)).alloc (.cells #[.int .i64 0, .int .u64 0, .int .i64 0, .slice none 0 0, .int .u64 0, .int .i64 0, .slice none 0 0, .int .i64 0, .slice none 0 0, .slice none 0 0, .int .i64 0] 29) = W := ⟨_, rfl⟩
 rw [hw0] at q1 q2 q3 q4
 have k1 := rmay_of z w0 (hR.below q4) gk (by omega) (by omega) (by omega)
 have k2 : Hid (XR w z) := hR
 have k5 : Hid (∀ W, Below w.heap.size w W → _) := fun W hW => rin_of z.t.groups _ g W (hR.2.1.below hW) (by omega)
 have k6 : Hid (∀ W, Below w.heap.size w W → _) := fun W hW => rin_of z.t.done _ g W (hR.2.2.2.below hW) (by omega)
 have k7 : Hid (∀ W, Below w.heap.size w W → _) := fun W hW => rplus_of z.t.done _ g W (hR.2.2.2.below hW) (by omega)
 have HL16 : Hid ((plusL z.t.done g 16).length ≤ 16) := plus_len _ _ _
 have k3 : Hid (∀ (u : Value) (W : World), Rd intE W u (plusL z.t.done g 16) → Below w.heap.size w W → _) := fun u W h1 hW => rall_of z.t.groups (plusL z.t.done g 16) _ u W (hR.2.1.below hW) h1 (by omega) (by have := plus_len z.t.done g 16; omega)
 have hst : okX z.t = true → _ := okX_state
 unfold appliedM at HRR
 generalize plusL z.t.done g 16 = L at *
 generalize okX z.t = b at *
 generalize subB z.t.groups L = a at *
 have hz0 : w.heap.size + 2 ≤ w0.heap.size := by omega
 obtain ⟨⟨⟨i1, i2⟩, kd, ks, tk, tt, gs, st, ys, ds, cd⟩, ⟨ka, kc⟩, ⟨ga, gc⟩, ⟨ya, yc⟩, ⟨da, dc⟩⟩ := z
 dsimp only [xv, xc] at *
 obtain ⟨c0, c1, c2, c3, c4, c5, c6, c7, c8, c9, c10⟩ := cells11 q2
 clear hR gk g1 g2 g3 q1
 cases b with
 | false =>
  clear hst
  try simp only [Bool.false_eq_true, if_false] at k1
  have E : Hid (R = (noX, 1)) := by show _ = _; rw [HRR.out]; rw [if_neg (by simp)]
  clear HRR k2 k3 k7 HL16 k5 k6
  go_enter Try.func29, Try.ntmps29
  go_wp2_with fail
  refine k1.mono ?_
  rintro e wc ⟨rfl, hbc⟩
  replace q2 := (hbc.block w.heap.size (by omega)).trans q2
  replace q3 := (hbc.block (w.heap.size + 1) (by omega)).trans q3
  replace q4 := q4.trans (hbc.mono q4.size)
  replace hz0 := Nat.le_trans hz0 hbc.size
  obtain ⟨c0, c1, c2, c3, c4, c5, c6, c7, c8, c9, c10⟩ := cells11 q2
  obtain ⟨e0, e1, e2, e3, e4, e5, e6, e7, e8, e9, e10⟩ := cells11 q3
  obtain ⟨f0, f1, f2, f3, f4, f5, f6, f7, f8, f9, f10⟩ := f_cells11 q3
  clear hbc k1
  have S : Hid _ := set11_block q3 (.int .i64 0) (.int .u64 0) (.int .i64 0) (.slice none 0 0) (.int .u64 0) (.int .i64 0) (.slice none 0 0) (.int .i64 0) (.slice none 0 0) (.slice none 0 0) (.int .i64 0)
  have SB : Hid _ := set11_below (.int .i64 0) (.int .u64 0) (.int .i64 0) (.slice none 0 0) (.int .u64 0) (.int .i64 0) (.slice none 0 0) (.int .i64 0) (.slice none 0 0) (.slice none 0 0) (.int .i64 0) (g := w.heap.size + 1) q4 (Nat.le_succ _)
  clear q2 q3 q4 hz0
  go_wp2
  refine bodyPost_ret (results_txe rfl _ _ (w.heap.size + 1) _ _ _ _ _ _ _ _ _ _ _ rfl S.out) rfl ?_
  exact ⟨⟨(none, 0), (none, 0), (none, 0), (none, 0), by rw [E.out]; rfl, by rw [E.out]; exact fun W _ _ => (XO.none 0 W).xr⟩, SB.out⟩
 | true =>
  replace hst := hst rfl
  try simp only [if_true] at k1
  by_cases h0 : g ∈ gs
  ·rw [decide_eq_true h0] at k5
   by_cases h1 : st = 1
   ·have h1d : (st == 1) = true := by simp [h1]
    have hto : ¬ (decide (st = 2) || decide (st = 3)) = true := by rw [h1]; decide
    clear h1 hst
    have E : Hid (R = (noX, 7)) := by show _ = _; rw [HRR.out]; rw [if_pos rfl, if_pos h0, if_neg hto]
    clear HRR k2 k3 k7 HL16 h0 hto k6
    go_enter Try.func29, Try.ntmps29
    go_wp2_with fail
    refine k1.mono ?_
    rintro e wc ⟨rfl, hbc⟩
    replace q2 := (hbc.block w.heap.size (by omega)).trans q2
    replace q3 := (hbc.block (w.heap.size + 1) (by omega)).trans q3
    replace q4 := q4.trans (hbc.mono q4.size)
    replace hz0 := Nat.le_trans hz0 hbc.size
    obtain ⟨c0, c1, c2, c3, c4, c5, c6, c7, c8, c9, c10⟩ := cells11 q2
    obtain ⟨e0, e1, e2, e3, e4, e5, e6, e7, e8, e9, e10⟩ := cells11 q3
    obtain ⟨f0, f1, f2, f3, f4, f5, f6, f7, f8, f9, f10⟩ := f_cells11 q3
    clear hbc k1
    go_wp2_with fail
    refine (k5.out _ q4).mono ?_
    rintro e wq ⟨rfl, hwq⟩
    subst wq
    clear k5
    have S : Hid _ := set11_block q3 (.int .i64 0) (.int .u64 0) (.int .i64 0) (.slice none 0 0) (.int .u64 0) (.int .i64 0) (.slice none 0 0) (.int .i64 0) (.slice none 0 0) (.slice none 0 0) (.int .i64 0)
    have SB : Hid _ := set11_below (.int .i64 0) (.int .u64 0) (.int .i64 0) (.slice none 0 0) (.int .u64 0) (.int .i64 0) (.slice none 0 0) (.int .i64 0) (.slice none 0 0) (.slice none 0 0) (.int .i64 0) (g := w.heap.size + 1) q4 (Nat.le_succ _)
    clear q2 q3 q4 hz0
    go_wp2
    refine bodyPost_ret (results_txe rfl _ _ (w.heap.size + 1) _ _ _ _ _ _ _ _ _ _ _ rfl S.out) rfl ?_
    exact ⟨⟨(none, 0), (none, 0), (none, 0), (none, 0), by rw [E.out]; rfl, by rw [E.out]; exact fun W _ _ => (XO.none 0 W).xr⟩, SB.out⟩
   ·have h1d : (st == 1) = false := by simpa using h1
    by_cases h4 : st = 4
    ·have h4d : (st == 4) = true := by simp [h4]
     have hto : ¬ (decide (st = 2) || decide (st = 3)) = true := by rw [h4]; decide
     clear h1 h4 hst
     have E : Hid (R = (noX, 7)) := by show _ = _; rw [HRR.out]; rw [if_pos rfl, if_pos h0, if_neg hto]
     clear HRR k2 k3 k7 HL16 h0 hto k6
     go_enter Try.func29, Try.ntmps29
     go_wp2_with fail
     refine k1.mono ?_
     rintro e wc ⟨rfl, hbc⟩
     replace q2 := (hbc.block w.heap.size (by omega)).trans q2
     replace q3 := (hbc.block (w.heap.size + 1) (by omega)).trans q3
     replace q4 := q4.trans (hbc.mono q4.size)
     replace hz0 := Nat.le_trans hz0 hbc.size
     obtain ⟨c0, c1, c2, c3, c4, c5, c6, c7, c8, c9, c10⟩ := cells11 q2
     obtain ⟨e0, e1, e2, e3, e4, e5, e6, e7, e8, e9, e10⟩ := cells11 q3
     obtain ⟨f0, f1, f2, f3, f4, f5, f6, f7, f8, f9, f10⟩ := f_cells11 q3
     clear hbc k1
     go_wp2_with fail
     refine (k5.out _ q4).mono ?_
     rintro e wq ⟨rfl, hwq⟩
     subst wq
     clear k5
     have S : Hid _ := set11_block q3 (.int .i64 0) (.int .u64 0) (.int .i64 0) (.slice none 0 0) (.int .u64 0) (.int .i64 0) (.slice none 0 0) (.int .i64 0) (.slice none 0 0) (.slice none 0 0) (.int .i64 0)
     have SB : Hid _ := set11_below (.int .i64 0) (.int .u64 0) (.int .i64 0) (.slice none 0 0) (.int .u64 0) (.int .i64 0) (.slice none 0 0) (.int .i64 0) (.slice none 0 0) (.slice none 0 0) (.int .i64 0) (g := w.heap.size + 1) q4 (Nat.le_succ _)
     clear q2 q3 q4 hz0
     go_wp2
     refine bodyPost_ret (results_txe rfl _ _ (w.heap.size + 1) _ _ _ _ _ _ _ _ _ _ _ rfl S.out) rfl ?_
     exact ⟨⟨(none, 0), (none, 0), (none, 0), (none, 0), by rw [E.out]; rfl, by rw [E.out]; exact fun W _ _ => (XO.none 0 W).xr⟩, SB.out⟩
    ·have h4d : (st == 4) = false := by simpa using h4
     have hto : (decide (st = 2) || decide (st = 3)) = true := by
      rcases hst with e | e | e | e
      ·exact absurd e h1
      ·rw [e]; decide
      ·rw [e]; decide
      ·exact absurd e h4
     clear h1 h4 hst
     by_cases h3 : g ∈ ds
     ·rw [decide_eq_true h3] at k6
      have E : Hid (R = (noX, 6)) := by show _ = _; rw [HRR.out]; rw [if_pos rfl, if_pos h0, if_pos hto, if_pos h3]
      clear HRR k2 k3 k7 HL16 h0 hto h3
      go_enter Try.func29, Try.ntmps29
      go_wp2_with fail
      refine k1.mono ?_
      rintro e wc ⟨rfl, hbc⟩
      replace q2 := (hbc.block w.heap.size (by omega)).trans q2
      replace q3 := (hbc.block (w.heap.size + 1) (by omega)).trans q3
      replace q4 := q4.trans (hbc.mono q4.size)
      replace hz0 := Nat.le_trans hz0 hbc.size
      obtain ⟨c0, c1, c2, c3, c4, c5, c6, c7, c8, c9, c10⟩ := cells11 q2
      obtain ⟨e0, e1, e2, e3, e4, e5, e6, e7, e8, e9, e10⟩ := cells11 q3
      obtain ⟨f0, f1, f2, f3, f4, f5, f6, f7, f8, f9, f10⟩ := f_cells11 q3
      clear hbc k1
      go_wp2_with fail
      refine (k5.out _ q4).mono ?_
      rintro e wq ⟨rfl, hwq⟩
      subst wq
      clear k5
      go_wp2_with fail
      refine (k6.out _ q4).mono ?_
      rintro e wq ⟨rfl, hwq⟩
      subst wq
      clear k6
      have S : Hid _ := set11_block q3 (.int .i64 0) (.int .u64 0) (.int .i64 0) (.slice none 0 0) (.int .u64 0) (.int .i64 0) (.slice none 0 0) (.int .i64 0) (.slice none 0 0) (.slice none 0 0) (.int .i64 0)
      have SB : Hid _ := set11_below (.int .i64 0) (.int .u64 0) (.int .i64 0) (.slice none 0 0) (.int .u64 0) (.int .i64 0) (.slice none 0 0) (.int .i64 0) (.slice none 0 0) (.slice none 0 0) (.int .i64 0) (g := w.heap.size + 1) q4 (Nat.le_succ _)
      clear q2 q3 q4 hz0
      go_wp2
      refine bodyPost_ret (results_txe rfl _ _ (w.heap.size + 1) _ _ _ _ _ _ _ _ _ _ _ rfl S.out) rfl ?_
      exact ⟨⟨(none, 0), (none, 0), (none, 0), (none, 0), by rw [E.out]; rfl, by rw [E.out]; exact fun W _ _ => (XO.none 0 W).xr⟩, SB.out⟩
     ·rw [decide_eq_false h3] at k6
      have E : Hid (R = (closeM (setD ⟨(i1, i2), kd, ks, tk, tt, gs, st, ys, ds, cd⟩ L) a, 0)) := by show _ = _; rw [HRR.out]; rw [if_pos rfl, if_pos h0, if_pos hto, if_neg h3]
      clear HRR h0 h3 hto HL16
      go_enter Try.func29, Try.ntmps29
      go_wp2_with fail
      refine k1.mono ?_
      rintro e wc ⟨rfl, hbc⟩
      replace q2 := (hbc.block w.heap.size (by omega)).trans q2
      replace q3 := (hbc.block (w.heap.size + 1) (by omega)).trans q3
      replace q4 := q4.trans (hbc.mono q4.size)
      replace hz0 := Nat.le_trans hz0 hbc.size
      obtain ⟨c0, c1, c2, c3, c4, c5, c6, c7, c8, c9, c10⟩ := cells11 q2
      obtain ⟨e0, e1, e2, e3, e4, e5, e6, e7, e8, e9, e10⟩ := cells11 q3
      obtain ⟨f0, f1, f2, f3, f4, f5, f6, f7, f8, f9, f10⟩ := f_cells11 q3
      clear hbc k1
      go_wp2_with fail
      refine (k5.out _ q4).mono ?_
      rintro e wq ⟨rfl, hwq⟩
      subst wq
      clear k5
      go_wp2_with fail
      refine (k6.out _ q4).mono ?_
      rintro e wq ⟨rfl, hwq⟩
      subst wq
      clear k6
      go_wp2_with fail
      refine (k7.out _ q4).mono ?_
      rintro e w2 ⟨u, rfl, hO, hbc⟩
      obtain ⟨ua, uc, rfl, -⟩ := hO.1.shape
      replace q2 := (hbc.block w.heap.size (by omega)).trans q2
      replace q3 := (hbc.block (w.heap.size + 1) (by omega)).trans q3
      replace hO := hO.mono q4.size
      replace q4 := q4.trans (hbc.mono q4.size)
      replace hz0 := Nat.le_trans hz0 hbc.size
      clear hbc k7
      obtain ⟨c0, c1, c2, c3, c4, c5, c6, c7, c8, c9, c10⟩ := cells11 q2
      obtain ⟨s0, s1, s2, s3, s4, s5, s6, s7, s8, s9, s10⟩ := f_cells11 q2
      have X2 := set_block q2 (j := 9) (.slice ua L.length uc)
      have Y2 : (w2.setCell ⟨w.heap.size, 9, none⟩ (.slice ua L.length uc)).heap[w.heap.size + 1]? = _ := (set_other (by omega)).trans q3
      have B2 := q4.setCell (p := ⟨w.heap.size, 9, none⟩) (Nat.le_refl _) (.slice ua L.length uc)
      have OU := (hO.at_other (w' := w2.setCell ⟨w.heap.size, 9, none⟩ (.slice ua L.length uc)) q2 (by decide) (fun k hk => set_other hk))
      obtain ⟨W2, hW2⟩ : ∃ W, w2.setCell ⟨w.heap.size, 9, none⟩ (.slice ua L.length uc) = W := ⟨_, rfl⟩
      rw [hW2] at X2 Y2 B2 OU
      simp only [List.setIfInBounds_toArray, List.set_cons_zero, List.set_cons_succ] at X2
      have HX : Hid (∀ W, XR W ⟨⟨(i1, i2), kd, ks, tk, tt, gs, st, ys, ds, cd⟩, (ka, kc), (ga, gc), (ya, yc), (da, dc)⟩ → Rd intE W (.slice ua L.length uc) L → XR W ⟨setD ⟨(i1, i2), kd, ks, tk, tt, gs, st, ys, ds, cd⟩ L, (ka, kc), (ga, gc), (ya, yc), (ua, uc)⟩) := fun W h hu => ⟨h.1, h.2.1, h.2.2.1, hu⟩
      clear q2 q3 q4 hz0 hO
      obtain ⟨n0, n1, n2, n3, n4, n5, n6, n7, n8, n9, n10⟩ := cells11 X2
      have k4 := k3.out _ W2 OU.1.rd B2
      replace OU : Hid _ := OU
      clear k2 k3
      cases a with
      | false =>
       go_wp2_with fail
       refine k4.mono ?_
       rintro e we ⟨rfl, hwe⟩
       subst we
       clear k4
       obtain ⟨e0, e1, e2, e3, e4, e5, e6, e7, e8, e9, e10⟩ := cells11 Y2
       obtain ⟨g0, g1, g2, g3, g4, g5, g6, g7, g8, g9, g10⟩ := f_cells11 Y2
       have S : Hid _ := set11_block Y2 (.int .i64 i1) (.int .u64 (i2 : Int)) (.int .i64 kd) (.slice ka ks.length kc) (.int .u64 (tk : Int)) (.int .i64 tt) (.slice ga gs.length gc) (.int .i64 st) (.slice ya ys.length yc) (.slice ua L.length uc) (.int .i64 cd)
       have SB : Hid _ := set11_below (.int .i64 i1) (.int .u64 (i2 : Int)) (.int .i64 kd) (.slice ka ks.length kc) (.int .u64 (tk : Int)) (.int .i64 tt) (.slice ga gs.length gc) (.int .i64 st) (.slice ya ys.length yc) (.slice ua L.length uc) (.int .i64 cd) (g := w.heap.size + 1) B2 (Nat.le_succ _)
       have SO : Hid _ := Ow.at_other OU.out Y2 (by decide) (fun k hk => set11_other (.int .i64 i1) (.int .u64 (i2 : Int)) (.int .i64 kd) (.slice ka ks.length kc) (.int .u64 (tk : Int)) (.int .i64 tt) (.slice ga gs.length gc) (.int .i64 st) (.slice ya ys.length yc) (.slice ua L.length uc) (.int .i64 cd) hk)
       clear X2 Y2 B2 OU
       go_wp2
       refine bodyPost_ret (results_txe rfl _ _ (w.heap.size + 1) _ _ _ _ _ _ _ _ _ _ _ rfl S.out) rfl ?_
       exact ⟨⟨(ka, kc), (ga, gc), (ya, yc), (ua, uc), by rw [E.out]; rfl, by rw [E.out]; exact fun W h hk => XR.close false (HX.out W h (Ow.keepK SO.out (Nat.le_refl _) hk))⟩, SB.out⟩
      | true =>
       go_wp2_with fail
       refine k4.mono ?_
       rintro e we ⟨rfl, hwe⟩
       subst we
       clear k4
       obtain ⟨s0, s1, s2, s3, s4, s5, s6, s7, s8, s9, s10⟩ := f_cells11 X2
       have X4 := set_block X2 (j := 7) (.int .i64 4)
       have Y4 : (W2.setCell ⟨w.heap.size, 7, none⟩ (.int .i64 4)).heap[w.heap.size + 1]? = _ := (set_other (by omega)).trans Y2
       have B4 := B2.setCell (p := ⟨w.heap.size, 7, none⟩) (Nat.le_refl _) (.int .i64 4)
       have O6 := Ow.at_other OU.out (w' := W2.setCell ⟨w.heap.size, 7, none⟩ (.int .i64 4)) X2 (by decide) (fun k hk => set_other hk)
       obtain ⟨W4, hW4⟩ : ∃ W, W2.setCell ⟨w.heap.size, 7, none⟩ (.int .i64 4) = W := ⟨_, rfl⟩
       rw [hW4] at X4 Y4 B4 O6
       simp only [List.setIfInBounds_toArray, List.set_cons_zero, List.set_cons_succ] at X4
       clear X2 Y2 B2 OU
       obtain ⟨m0, m1, m2, m3, m4, m5, m6, m7, m8, m9, m10⟩ := cells11 X4
       obtain ⟨e0, e1, e2, e3, e4, e5, e6, e7, e8, e9, e10⟩ := cells11 Y4
       obtain ⟨g0, g1, g2, g3, g4, g5, g6, g7, g8, g9, g10⟩ := f_cells11 Y4
       have S : Hid _ := set11_block Y4 (.int .i64 i1) (.int .u64 (i2 : Int)) (.int .i64 kd) (.slice ka ks.length kc) (.int .u64 (tk : Int)) (.int .i64 tt) (.slice ga gs.length gc) (.int .i64 4) (.slice ya ys.length yc) (.slice ua L.length uc) (.int .i64 cd)
       have SB : Hid _ := set11_below (.int .i64 i1) (.int .u64 (i2 : Int)) (.int .i64 kd) (.slice ka ks.length kc) (.int .u64 (tk : Int)) (.int .i64 tt) (.slice ga gs.length gc) (.int .i64 4) (.slice ya ys.length yc) (.slice ua L.length uc) (.int .i64 cd) (g := w.heap.size + 1) B4 (Nat.le_succ _)
       have SO : Hid _ := Ow.at_other O6 Y4 (by decide) (fun k hk => set11_other (.int .i64 i1) (.int .u64 (i2 : Int)) (.int .i64 kd) (.slice ka ks.length kc) (.int .u64 (tk : Int)) (.int .i64 tt) (.slice ga gs.length gc) (.int .i64 4) (.slice ya ys.length yc) (.slice ua L.length uc) (.int .i64 cd) hk)
       clear X4 Y4 B4 O6
       go_wp2
       refine bodyPost_ret (results_txe rfl _ _ (w.heap.size + 1) _ _ _ _ _ _ _ _ _ _ _ rfl S.out) rfl ?_
       exact ⟨⟨(ka, kc), (ga, gc), (ya, yc), (ua, uc), by rw [E.out]; rfl, by rw [E.out]; exact fun W h hk => XR.close true (HX.out W h (Ow.keepK SO.out (Nat.le_refl _) hk))⟩, SB.out⟩
  ·rw [decide_eq_false h0] at k5
   have E : Hid (R = (noX, 4)) := by show _ = _; rw [HRR.out]; rw [if_pos rfl, if_neg h0]
   clear HRR k2 k3 k7 HL16 h0 hst k6
   go_enter Try.func29, Try.ntmps29
   go_wp2_with fail
   refine k1.mono ?_
   rintro e wc ⟨rfl, hbc⟩
   replace q2 := (hbc.block w.heap.size (by omega)).trans q2
   replace q3 := (hbc.block (w.heap.size + 1) (by omega)).trans q3
   replace q4 := q4.trans (hbc.mono q4.size)
   replace hz0 := Nat.le_trans hz0 hbc.size
   obtain ⟨c0, c1, c2, c3, c4, c5, c6, c7, c8, c9, c10⟩ := cells11 q2
   obtain ⟨e0, e1, e2, e3, e4, e5, e6, e7, e8, e9, e10⟩ := cells11 q3
   obtain ⟨f0, f1, f2, f3, f4, f5, f6, f7, f8, f9, f10⟩ := f_cells11 q3
   clear hbc k1
   go_wp2_with fail
   refine (k5.out _ q4).mono ?_
   rintro e wq ⟨rfl, hwq⟩
   subst wq
   clear k5
   have S : Hid _ := set11_block q3 (.int .i64 0) (.int .u64 0) (.int .i64 0) (.slice none 0 0) (.int .u64 0) (.int .i64 0) (.slice none 0 0) (.int .i64 0) (.slice none 0 0) (.slice none 0 0) (.int .i64 0)
   have SB : Hid _ := set11_below (.int .i64 0) (.int .u64 0) (.int .i64 0) (.slice none 0 0) (.int .u64 0) (.int .i64 0) (.slice none 0 0) (.int .i64 0) (.slice none 0 0) (.slice none 0 0) (.int .i64 0) (g := w.heap.size + 1) q4 (Nat.le_succ _)
   clear q2 q3 q4 hz0
   go_wp2
   refine bodyPost_ret (results_txe rfl _ _ (w.heap.size + 1) _ _ _ _ _ _ _ _ _ _ _ rfl S.out) rfl ?_
   exact ⟨⟨(none, 0), (none, 0), (none, 0), (none, 0), by rw [E.out]; rfl, by rw [E.out]; exact fun W _ _ => (XO.none 0 W).xr⟩, SB.out⟩
end Go.Proofs.Ytglbjimpaoikfaa

