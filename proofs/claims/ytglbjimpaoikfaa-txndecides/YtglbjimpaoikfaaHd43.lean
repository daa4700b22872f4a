import Derived.Test.YtglbjimpaoikfaaHd41
/- Applied of txn: what it refuses. -/
namespace Go.Proofs.Ytglbjimpaoikfaa
open Go.RowKit LeaseMath QuorumMath
set_option maxRecDepth 100000
set_option linter.unusedSimpArgs false
set_option linter.unusedVariables false

def setD (x : Tx) (l : List Int) : Tx := { x with done := l }
def closeM (x : Tx) (b : Bool) : Tx := if b = true then { x with state := 4 } else x
/-- Why Applied refuses. -/
def appliedC (x : Tx) (g : Int) : Int := if okX x = true then (if g ∈ x.groups then (if (decide (x.state = 2) || decide (x.state = 3)) = true then 6 else 7) else 4) else 1
theorem XO.close {n : Nat} {w : World} {x : Tx} {k g y d : Sa} (b : Bool) (h : XO n w ⟨x, k, g, y, d⟩) : XO n w ⟨closeM x b, k, g, y, d⟩ := by
  unfold closeM
  split
  · exact h
  · exact h
set_option maxHeartbeats 16000000 in
theorem applied_but (z : Xz) (g : Int) (w : World) (hR : XR w z) (gk : z.t.keys.length ≤ 1000000) (g1 : z.t.groups.length ≤ 1000000) (g2 : z.t.yes.length ≤ 1000000) (g3 : z.t.done.length ≤ 100000) (hno : ¬ (okX z.t = true ∧ g ∈ z.t.groups ∧ (decide (z.t.state = 2) || decide (z.t.state = 3)) = true ∧ g ∉ z.t.done)) : Calls Try.prog 28 #[xv z, .int .i64 g] w fun e w' => e = .returned (.tuple #[xv noXz, .int .i64 (appliedC z.t g)]) ∧ Below w.heap.size w w' := by
  unfold appliedC
  rw [show xv noXz = .agg #[.int .i64 0, .int .u64 0, .int .i64 0, .slice none 0 0, .int .u64 0, .int .i64 0, .slice none 0 0, .int .i64 0, .slice none 0 0, .slice none 0 0, .int .i64 0] from rfl]
  obtain ⟨q1, q2, q3, q4⟩ := two_boxesX w (xc z) (.cells #[.int .i64 0, .int .u64 0, .int .i64 0, .slice none 0 0, .int .u64 0, .int .i64 0, .slice none 0 0, .int .i64 0, .slice none 0 0, .slice none 0 0, .int .i64 0] 29)
  obtain ⟨w0, hw0⟩ : ∃ W, (w.alloc (xc z)).alloc (.cells #[.int .i64 0, .int .u64 0, .int .i64 0, .slice none 0 0, .int .u64 0, .int .i64 0, .slice none 0 0, .int .i64 0, .slice none 0 0, .slice none 0 0, .int .i64 0] 29) = W := ⟨_, rfl⟩
  rw [hw0] at q1 q2 q3 q4
  have k1 := xcheck_of z w0 (hR.below q4) gk (by omega) (by omega) (by omega)
  have k5 : Hid (∀ W, Below w.heap.size w W → _) := fun W hW => contains_of z.t.groups _ g W (hR.2.1.below hW) (by omega)
  have k6 : Hid (∀ W, Below w.heap.size w W → _) := fun W hW => contains_of z.t.done _ g W (hR.2.2.2.below hW) (by omega)
  have k8 : ∀ W, _ := fun W => told_of z W
  replace k8 := (show Hid _ from k8)
  generalize okX z.t = b at *
  generalize hto : (decide (z.t.state = 2) || decide (z.t.state = 3)) = t at *
  clear hto
  have hz0 : w.heap.size + 2 ≤ w0.heap.size := by omega
  obtain ⟨⟨⟨i1, i2⟩, kd, ks, tk, tt, gs, st, ys, ds, cd⟩, ⟨ka, kc⟩, ⟨ga, gc⟩, ⟨ya, yc⟩, ⟨da, dc⟩⟩ := z
  dsimp only [xv, xc] at *
  obtain ⟨c0, c1, c2, c3, c4, c5, c6, c7, c8, c9, c10⟩ := cells11 q2
  clear hR gk g1 g2 g3 q1
  cases b with
  | false =>
    try simp only [Bool.false_eq_true, if_false] at k1
    simp only [Bool.false_eq_true, if_false]
    clear k5 k6 k8 hno
    go_enter Try.func28, Try.ntmps28
    go_wp2_with fail
    refine k1.mono ?_
    rintro e wc ⟨rfl, hbc⟩
    replace q2 := (hbc.block w.heap.size (by omega)).trans q2
    replace q3 := (hbc.block (w.heap.size + 1) (by omega)).trans q3
    replace q4 := q4.trans (hbc.mono q4.size)
    replace hz0 := Nat.le_trans hz0 hbc.size
    obtain ⟨c0, c1, c2, c3, c4, c5, c6, c7, c8, c9, c10⟩ := cells11 q2
    obtain ⟨e0, e1, e2, e3, e4, e5, e6, e7, e8, e9, e10⟩ := cells11 q3
    obtain ⟨f0, f1, f2, f3, f4, f5, f6, f7, f8, f9, f10⟩ := f_cells11 q3
    clear hbc k1
    have S : Hid _ := set11_block q3 (.int .i64 0) (.int .u64 0) (.int .i64 0) (.slice none 0 0) (.int .u64 0) (.int .i64 0) (.slice none 0 0) (.int .i64 0) (.slice none 0 0) (.slice none 0 0) (.int .i64 0)
    have SB : Hid _ := set11_below (.int .i64 0) (.int .u64 0) (.int .i64 0) (.slice none 0 0) (.int .u64 0) (.int .i64 0) (.slice none 0 0) (.int .i64 0) (.slice none 0 0) (.slice none 0 0) (.int .i64 0) (g := w.heap.size + 1) q4 (Nat.le_succ _)
    clear q2 q3 q4 hz0
    go_wp2
    refine bodyPost_ret (results_txe rfl _ _ (w.heap.size + 1) _ _ _ _ _ _ _ _ _ _ _ rfl S.out) rfl ?_
    exact ⟨rfl, SB.out⟩
  | true =>
    try simp only [if_true] at k1
    simp only [if_true]
    by_cases h0 : g ∈ gs
    · rw [decide_eq_true h0] at k5
      simp only [h0, if_true]
      cases t with
      | false =>
        simp only [Bool.false_eq_true, if_false]
        clear h0 hno k6
        go_enter Try.func28, Try.ntmps28
        go_wp2_with fail
        refine k1.mono ?_
        rintro e wc ⟨rfl, hbc⟩
        replace q2 := (hbc.block w.heap.size (by omega)).trans q2
        replace q3 := (hbc.block (w.heap.size + 1) (by omega)).trans q3
        replace q4 := q4.trans (hbc.mono q4.size)
        replace hz0 := Nat.le_trans hz0 hbc.size
        obtain ⟨c0, c1, c2, c3, c4, c5, c6, c7, c8, c9, c10⟩ := cells11 q2
        obtain ⟨e0, e1, e2, e3, e4, e5, e6, e7, e8, e9, e10⟩ := cells11 q3
        obtain ⟨f0, f1, f2, f3, f4, f5, f6, f7, f8, f9, f10⟩ := f_cells11 q3
        clear hbc k1
        go_wp2_with fail
        refine (k5.out _ q4).mono ?_
        rintro e wq ⟨rfl, hwq⟩
        subst wq
        clear k5
        go_wp2_with fail
        refine (k8.out _).mono ?_
        rintro e wt ⟨rfl, hbc⟩
        replace q2 := (hbc.block w.heap.size (by omega)).trans q2
        replace q3 := (hbc.block (w.heap.size + 1) (by omega)).trans q3
        replace q4 := q4.trans (hbc.mono q4.size)
        replace hz0 := Nat.le_trans hz0 hbc.size
        obtain ⟨c0, c1, c2, c3, c4, c5, c6, c7, c8, c9, c10⟩ := cells11 q2
        obtain ⟨e0, e1, e2, e3, e4, e5, e6, e7, e8, e9, e10⟩ := cells11 q3
        obtain ⟨f0, f1, f2, f3, f4, f5, f6, f7, f8, f9, f10⟩ := f_cells11 q3
        clear hbc k8
        have S : Hid _ := set11_block q3 (.int .i64 0) (.int .u64 0) (.int .i64 0) (.slice none 0 0) (.int .u64 0) (.int .i64 0) (.slice none 0 0) (.int .i64 0) (.slice none 0 0) (.slice none 0 0) (.int .i64 0)
        have SB : Hid _ := set11_below (.int .i64 0) (.int .u64 0) (.int .i64 0) (.slice none 0 0) (.int .u64 0) (.int .i64 0) (.slice none 0 0) (.int .i64 0) (.slice none 0 0) (.slice none 0 0) (.int .i64 0) (g := w.heap.size + 1) q4 (Nat.le_succ _)
        clear q2 q3 q4 hz0
        go_wp2
        refine bodyPost_ret (results_txe rfl _ _ (w.heap.size + 1) _ _ _ _ _ _ _ _ _ _ _ rfl S.out) rfl ?_
        exact ⟨rfl, SB.out⟩
      | true =>
        simp only [if_true]
        have h3 : g ∈ ds := by
          by_cases h3 : g ∈ ds
          · exact h3
          · exact absurd ⟨rfl, h0, rfl, h3⟩ hno
        rw [decide_eq_true h3] at k6
        clear h0 hno h3
        go_enter Try.func28, Try.ntmps28
        go_wp2_with fail
        refine k1.mono ?_
        rintro e wc ⟨rfl, hbc⟩
        replace q2 := (hbc.block w.heap.size (by omega)).trans q2
        replace q3 := (hbc.block (w.heap.size + 1) (by omega)).trans q3
        replace q4 := q4.trans (hbc.mono q4.size)
        replace hz0 := Nat.le_trans hz0 hbc.size
        obtain ⟨c0, c1, c2, c3, c4, c5, c6, c7, c8, c9, c10⟩ := cells11 q2
        obtain ⟨e0, e1, e2, e3, e4, e5, e6, e7, e8, e9, e10⟩ := cells11 q3
        obtain ⟨f0, f1, f2, f3, f4, f5, f6, f7, f8, f9, f10⟩ := f_cells11 q3
        clear hbc k1
        go_wp2_with fail
        refine (k5.out _ q4).mono ?_
        rintro e wq ⟨rfl, hwq⟩
        subst wq
        clear k5
        go_wp2_with fail
        refine (k8.out _).mono ?_
        rintro e wt ⟨rfl, hbc⟩
        replace q2 := (hbc.block w.heap.size (by omega)).trans q2
        replace q3 := (hbc.block (w.heap.size + 1) (by omega)).trans q3
        replace q4 := q4.trans (hbc.mono q4.size)
        replace hz0 := Nat.le_trans hz0 hbc.size
        obtain ⟨c0, c1, c2, c3, c4, c5, c6, c7, c8, c9, c10⟩ := cells11 q2
        obtain ⟨e0, e1, e2, e3, e4, e5, e6, e7, e8, e9, e10⟩ := cells11 q3
        obtain ⟨f0, f1, f2, f3, f4, f5, f6, f7, f8, f9, f10⟩ := f_cells11 q3
        clear hbc k8
        go_wp2_with fail
        refine (k6.out _ q4).mono ?_
        rintro e wq ⟨rfl, hwq⟩
        subst wq
        clear k6
        have S : Hid _ := set11_block q3 (.int .i64 0) (.int .u64 0) (.int .i64 0) (.slice none 0 0) (.int .u64 0) (.int .i64 0) (.slice none 0 0) (.int .i64 0) (.slice none 0 0) (.slice none 0 0) (.int .i64 0)
        have SB : Hid _ := set11_below (.int .i64 0) (.int .u64 0) (.int .i64 0) (.slice none 0 0) (.int .u64 0) (.int .i64 0) (.slice none 0 0) (.int .i64 0) (.slice none 0 0) (.slice none 0 0) (.int .i64 0) (g := w.heap.size + 1) q4 (Nat.le_succ _)
        clear q2 q3 q4 hz0
        go_wp2
        refine bodyPost_ret (results_txe rfl _ _ (w.heap.size + 1) _ _ _ _ _ _ _ _ _ _ _ rfl S.out) rfl ?_
        exact ⟨rfl, SB.out⟩
    · rw [decide_eq_false h0] at k5
      simp only [h0, if_false]
      clear h0 hno k6 k8
      go_enter Try.func28, Try.ntmps28
      go_wp2_with fail
      refine k1.mono ?_
      rintro e wc ⟨rfl, hbc⟩
      replace q2 := (hbc.block w.heap.size (by omega)).trans q2
      replace q3 := (hbc.block (w.heap.size + 1) (by omega)).trans q3
      replace q4 := q4.trans (hbc.mono q4.size)
      replace hz0 := Nat.le_trans hz0 hbc.size
      obtain ⟨c0, c1, c2, c3, c4, c5, c6, c7, c8, c9, c10⟩ := cells11 q2
      obtain ⟨e0, e1, e2, e3, e4, e5, e6, e7, e8, e9, e10⟩ := cells11 q3
      obtain ⟨f0, f1, f2, f3, f4, f5, f6, f7, f8, f9, f10⟩ := f_cells11 q3
      clear hbc k1
      go_wp2_with fail
      refine (k5.out _ q4).mono ?_
      rintro e wq ⟨rfl, hwq⟩
      subst wq
      clear k5
      have S : Hid _ := set11_block q3 (.int .i64 0) (.int .u64 0) (.int .i64 0) (.slice none 0 0) (.int .u64 0) (.int .i64 0) (.slice none 0 0) (.int .i64 0) (.slice none 0 0) (.slice none 0 0) (.int .i64 0)
      have SB : Hid _ := set11_below (.int .i64 0) (.int .u64 0) (.int .i64 0) (.slice none 0 0) (.int .u64 0) (.int .i64 0) (.slice none 0 0) (.int .i64 0) (.slice none 0 0) (.slice none 0 0) (.int .i64 0) (g := w.heap.size + 1) q4 (Nat.le_succ _)
      clear q2 q3 q4 hz0
      go_wp2
      refine bodyPost_ret (results_txe rfl _ _ (w.heap.size + 1) _ _ _ _ _ _ _ _ _ _ _ rfl S.out) rfl ?_
      exact ⟨rfl, SB.out⟩
end Go.Proofs.Ytglbjimpaoikfaa

