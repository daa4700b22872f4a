import Derived.Test.YtglbjimpaoikfaaHe37
/- Applied of txn: what it refuses. -/
namespace Go.Proofs.Ytglbjimpaoikfaa
open Go.RowKit LeaseMath QuorumMath
set_option maxRecDepth 100000
set_option linter.unusedSimpArgs false
set_option linter.unusedVariables false

def setD (x : Tx) (l : List Int) : Tx := { x with done := l }
def closeM (x : Tx) (b : Bool) : Tx := if b = true then { x with state := 4 } else x
/-- Why Applied refuses. -/
def appliedC (x : Tx) (g : Int) : Int := if okX x = true then (if g ∈ x.groups then (if (decide (x.state = 2) || decide (x.state = 3)) = true then 6 else 7) else 4) else 1
theorem XO.close {n : Nat} {w : World} {x : Tx} {k g y d : Sa} (b : Bool) (h : XO n w ⟨x, k, g, y, d⟩) : XO n w ⟨closeM x b, k, g, y, d⟩ := by
  unfold closeM
  split
  · exact h
  · exact h
set_option maxHeartbeats 16000000 in
theorem applied_but (z : Xz) (g : Int) (w : World) (hR : XR w z) (gk : z.t.keys.length ≤ 1000000) (g1 : z.t.groups.length ≤ 1000000) (g2 : z.t.yes.length ≤ 1000000) (g3 : z.t.done.length ≤ 100000) (hno : ¬ (okX z.t = true ∧ g ∈ z.t.groups ∧ (decide (z.t.state = 2) || decide (z.t.state = 3)) = true ∧ g ∉ z.t.done)) : Calls Try.prog 28 #[xv z, .int .i64 g] w fun e w' => e = .returned (.tuple #[xv noXz, .int .i64 (appliedC z.t g)]) ∧ Below w.heap.size w w' := by
  unfold appliedC
  rw [show xv noXz = .agg #[.int .i64 0, .int .u64 0, .int .i64 0, .slice none 0 0, .int .u64 0, .int .i64 0, .slice none 0 0, .int .i64 0, .slice none 0 0, .slice none 0 0, .int .i64 0] from rfl]
  obtain ⟨q1, q2, q3, q4⟩ := two_boxesX w (xc z) (.cells #[.int .i64 0, .int .u64 0, .int .i64 0, .slice none 0 0, .int .u64 0, .int .i64 0, .slice none 0 0, .int .i64 0, .slice none 0 0, .slice none 0 0, .int .i64 0] 29)
  obtain ⟨w0, hw0⟩ : ∃ W, (w.alloc (xc z)).alloc (.cells #[.int .i64 0, .int .u64 0, .int .i64 0, .slice none 0 0, .int .u64 0, .int .i64 0, .slice none 0 0, .int .i64 0, .slice none 0 0, .slice none 0 0, .int .i64 0] 29) = W := ⟨_, rfl⟩
  rw [hw0] at q1 q2 q3 q4
  have k1 := xcheck_of z w0 (hR.below q4) gk (by omega) (by omega) (by omega)
  have k5 : Hid (∀ W, Below w.heap.size w W → _) := fun W hW => contains_of z.t.groups _ g W (hR.2.1.below hW) (by omega)
  have k6 : Hid (∀ W, Below w.heap.size w W → _) := fun W hW => contains_of z.t.done _ g W (hR.2.2.2.below hW) (by omega)
  have k8 : ∀ W, _ := fun W => told_of z W
  replace k8 := (show Hid _ from k8)
  generalize okX z.t = b at *
  generalize hto : (decide (z.t.state = 2) || decide (z.t.state = 3)) = t at *
  clear hto
  have hz0 : w.heap.size + 2 ≤ w0.heap.size := by omega
  obtain ⟨⟨⟨i1, i2⟩, kd, ks, tk, tt, gs, st, ys, ds, cd⟩, ⟨ka, kc⟩, ⟨ga, gc⟩, ⟨ya, yc⟩, ⟨da, dc⟩⟩ := z
  dsimp only [xv, xc] at *
  obtain ⟨c0, c1, c2, c3, c4, c5, c6, c7, c8, c9, c10⟩ := cells11 q2
  clear hR gk g1 g2 g3 q1
  cases b with
  | false =>
    try simp only [Bool.false_eq_true, if_false] at k1
    simp only [Bool.false_eq_true, if_false]
    clear k5 k6 k8 hno
    go_enter Try.func28, Try.ntmps28
    go_wp2_with fail
    refine k1.mono ?_
    rintro e wc ⟨rfl, hbc⟩
    replace q2 := (hbc.block w.heap.size (by omega)).trans q2
    replace q3 := (hbc.block (w.heap.size + 1) (by omega)).trans q3
    replace q4 := q4.trans (hbc.mono q4.size)
    replace hz0 := Nat.le_trans hz0 hbc.size
    obtain ⟨c0, c1, c2, c3, c4, c5, c6, c7, c8, c9, c10⟩ := cells11 q2
    obtain ⟨e0, e1, e2, e3, e4, e5, e6, e7, e8, e9, e10⟩ := cells11 q3
    obtain ⟨f0, f1, f2, f3, f4, f5, f6, f7, f8, f9, f10⟩ := f_cells11 q3
    clear hbc k1
    have S : Hid _ := set11_block q3 (.int .i64 0) (.int .u64 0) (.int .i64 0) (.slice none 0 0) (.int .u64 0) (.int .i64 0) (.slice none 0 0) (.int .i64 0) (.slice none 0 0) (.slice none 0 0) (.int .i64 0)
    have SB : Hid _ := set11_below (.int .i64 0) (.int .u64 0) (.int .i64 0) (.slice none 0 0) (.int .u64 0) (.int .i64 0) (.slice none 0 0) (.int .i64 0) (.slice none 0 0) (.slice none 0 0) (.int .i64 0) (g := w.heap.size + 1) q4 (Nat.le_succ _)
    clear q2 q3 q4 hz0
    go_wp2
    refine bodyPost_ret (results_txe rfl _ _ (w.heap.size + 1) _ _ _ _ _ _ _ _ _ _ _ rfl S.out) rfl ?_
    exact ⟨rfl, SB.out⟩
  | true =>
    try simp only [if_true] at k1
    simp only [if_true]
    by_cases h0 : g ∈ gs
    · rw [decide_eq_true h0] at k5
      simp only [h0, if_true]
      cases t with
      | false =>
        simp only [Bool.false_eq_true, if_false]
        clear h0 hno k6
        go_enter Try.func28, Try.ntmps28
        go_wp2_with fail
        refine k1.mono ?_
        rintro e wc ⟨rfl, hbc⟩
        replace q2 := (hbc.block w.heap.size (by omega)).trans q2
        replace q3 := (hbc.block (w.heap.size + 1) (by omega)).trans q3
        replace q4 := q4.trans (hbc.mono q4.size)
        replace hz0 := Nat.le_trans hz0 hbc.size
        obtain ⟨c0, c1, c2, c3, c4, c5, c6, c7, c8, c9, c10⟩ := cells11 q2
        obtain ⟨e0, e1, e2, e3, e4, e5, e6, e7, e8, e9, e10⟩ := cells11 q3
        obtain ⟨f0, f1, f2, f3, f4, f5, f6, f7, f8, f9, f10⟩ := f_cells11 q3
        clear hbc k1
        go_wp2_with fail
        refine (k5.out _ q4).mono ?_
        rintro e wq ⟨rfl, hwq⟩
        subst wq
        clear k5
        go_wp2_with fail
        refine (k8.out _).mono ?_
        rintro e wt ⟨rfl, hbc⟩
        replace q2 := (hbc.block w.heap.size (by omega)).trans q2
        replace q3 := (hbc.block (w.heap.size + 1) (by omega)).trans q3
        replace q4 := q4.trans (hbc.mono q4.size)
        replace hz0 := Nat.le_trans hz0 hbc.size
        obtain ⟨c0, c1, c2, c3, c4, c5, c6, c7, c8, c9, c10⟩ := cells11 q2
        obtain ⟨e0, e1, e2, e3, e4, e5, e6, e7, e8, e9, e10⟩ := cells11 q3
        obtain ⟨f0, f1, f2, f3, f4, f5, f6, f7, f8, f9, f10⟩ := f_cells11 q3
        clear hbc k8
        have S : Hid _ := set11_block q3 (.int .i64 0) (.int .u64 0) (.int .i64 0) (.slice none 0 0) (.int .u64 0) (.int .i64 0) (.slice none 0 0) (.int .i64 0) (.slice none 0 0) (.slice none 0 0) (.int .i64 0)
        have SB : Hid _ := set11_below (.int .i64 0) (.int .u64 0) (.int .i64 0) (.slice none 0 0) (.int .u64 0) (.int .i64 0) (.slice none 0 0) (.int .i64 0) (.slice none 0 0) (.slice none 0 0) (.int .i64 0) (g := w.heap.size + 1) q4 (Nat.le_succ _)
        clear q2 q3 q4 hz0
        go_wp2
        refine bodyPost_ret (results_txe rfl _ _ (w.heap.size + 1) _ _ _ _ _ _ _ _ _ _ _ rfl S.out) rfl ?_
        exact ⟨rfl, SB.out⟩
      | true =>
        simp only [if_true]
        have h3 : g ∈ ds := by
          by_cases h3 : g ∈ ds
          · exact h3
          · exact absurd ⟨rfl, h0, rfl, h3⟩ hno
        rw [decide_eq_true h3] at k6
        clear h0 hno h3
        go_enter Try.func28, Try.ntmps28
        go_wp2_with fail
        refine k1.mono ?_
        rintro e wc ⟨rfl, hbc⟩
        replace q2 := (hbc.block w.heap.size (by omega)).trans q2
        replace q3 := (hbc.block (w.heap.size + 1) (by omega)).trans q3
        replace q4 := q4.trans (hbc.mono q4.size)
        replace hz0 := Nat.le_trans hz0 hbc.size
        obtain ⟨c0, c1, c2, c3, c4, c5, c6, c7, c8, c9, c10⟩ := cells11 q2
        obtain ⟨e0, e1, e2, e3, e4, e5, e6, e7, e8, e9, e10⟩ := cells11 q3
        obtain ⟨f0, f1, f2, f3, f4, f5, f6, f7, f8, f9, f10⟩ := f_cells11 q3
        clear hbc k1
        go_wp2_with fail
        refine (k5.out _ q4).mono ?_
        rintro e wq ⟨rfl, hwq⟩
        subst wq
        clear k5
        go_wp2_with fail
        refine (k8.out _).mono ?_
        rintro e wt ⟨rfl, hbc⟩
        replace q2 := (hbc.block w.heap.size (by omega)).trans q2
        replace q3 := (hbc.block (w.heap.size + 1) (by omega)).trans q3
        replace q4 := q4.trans (hbc.mono q4.size)
        replace hz0 := Nat.le_trans hz0 hbc.size
        obtain ⟨c0, c1, c2, c3, c4, c5, c6, c7, c8, c9, c10⟩ := cells11 q2
        obtain ⟨e0, e1, e2, e3, e4, e5, e6, e7, e8, e9, e10⟩ := cells11 q3
        obtain ⟨f0, f1, f2, f3, f4, f5, f6, f7, f8, f9, f10⟩ := f_cells11 q3
        clear hbc k8
        go_wp2_with fail
        refine (k6.out _ q4).mono ?_
        rintro e wq ⟨rfl, hwq⟩
        subst wq
        clear k6
        have S : Hid _ := set11_block q3 (.int .i64 0) (.int .u64 0) (.int .i64 0) (.slice none 0 0) (.int .u64 0) (.int .i64 0) (.slice none 0 0) (.int .i64 0) (.slice none 0 0) (.slice none 0 0) (.int .i64 0)
        have SB : Hid _ := set11_below (.int .i64 0) (.int .u64 0) (.int .i64 0) (.slice none 0 0) (.int .u64 0) (.int .i64 0) (.slice none 0 0) (.int .i64 0) (.slice none 0 0) (.slice none 0 0) (.int .i64 0) (g := w.heap.size + 1) q4 (Nat.le_succ _)
        clear q2 q3 q4 hz0
        go_wp2
        refine bodyPost_ret (results_txe rfl _ _ (w.heap.size + 1) _ _ _ _ _ _ _ _ _ _ _ rfl S.out) rfl ?_
        exact ⟨rfl, SB.out⟩
    · rw [decide_eq_false h0] at k5
      simp only [h0, if_false]
      clear h0 hno k6 k8
      go_enter Try.func28, Try.ntmps28
      go_wp2_with fail
      refine k1.mono ?_
      rintro e wc ⟨rfl, hbc⟩
      replace q2 := (hbc.block w.heap.size (by omega)).trans q2
      replace q3 := (hbc.block (w.heap.size + 1) (by omega)).trans q3
      replace q4 := q4.trans (hbc.mono q4.size)
      replace hz0 := Nat.le_trans hz0 hbc.size
      obtain ⟨c0, c1, c2, c3, c4, c5, c6, c7, c8, c9, c10⟩ := cells11 q2
      obtain ⟨e0, e1, e2, e3, e4, e5, e6, e7, e8, e9, e10⟩ := cells11 q3
      obtain ⟨f0, f1, f2, f3, f4, f5, f6, f7, f8, f9, f10⟩ := f_cells11 q3
      clear hbc k1
      go_wp2_with fail
      refine (k5.out _ q4).mono ?_
      rintro e wq ⟨rfl, hwq⟩
      subst wq
      clear k5
      have S : Hid _ := set11_block q3 (.int .i64 0) (.int .u64 0) (.int .i64 0) (.slice none 0 0) (.int .u64 0) (.int .i64 0) (.slice none 0 0) (.int .i64 0) (.slice none 0 0) (.slice none 0 0) (.int .i64 0)
      have SB : Hid _ := set11_below (.int .i64 0) (.int .u64 0) (.int .i64 0) (.slice none 0 0) (.int .u64 0) (.int .i64 0) (.slice none 0 0) (.int .i64 0) (.slice none 0 0) (.slice none 0 0) (.int .i64 0) (g := w.heap.size + 1) q4 (Nat.le_succ _)
      clear q2 q3 q4 hz0
      go_wp2
      refine bodyPost_ret (results_txe rfl _ _ (w.heap.size + 1) _ _ _ _ _ _ _ _ _ _ _ rfl S.out) rfl ?_
      exact ⟨rfl, SB.out⟩
end Go.Proofs.Ytglbjimpaoikfaa

/- Applied of txn: a group is done. -/
namespace Go.Proofs.Ytglbjimpaoikfaa
open Go.RowKit LeaseMath QuorumMath
set_option maxRecDepth 100000
set_option linter.unusedSimpArgs false
set_option linter.unusedVariables false

set_option maxHeartbeats 16000000 in
theorem applied_done (z : Xz) (g : Int) (K : Nat) (w : World) (hR : XR w z) (gk : z.t.keys.length ≤ 1000000) (g1 : z.t.groups.length ≤ 1000000) (g2 : z.t.yes.length ≤ 1000000) (g3 : z.t.done.length ≤ 100000) (hS : Spot z.t.done g K) (hp : z.t.done.Pairwise (· ≤ ·)) (h0 : okX z.t = true) (hg0 : g ∈ z.t.groups) (h1 : (decide (z.t.state = 2) || decide (z.t.state = 3)) = true) (h3 : g ∉ z.t.done) : Calls Try.prog 28 #[xv z, .int .i64 g] w fun e w' => (∃ k g' y d : Sa, e = .returned (.tuple #[xv ⟨closeM (setD z.t (z.t.done.take K ++ [g] ++ z.t.done.drop K)) (allB (setD z.t (z.t.done.take K ++ [g] ++ z.t.done.drop K)) (z.t.done.take K ++ [g] ++ z.t.done.drop K)), k, g', y, d⟩, .int .i64 0]) ∧ XO w.heap.size w' ⟨closeM (setD z.t (z.t.done.take K ++ [g] ++ z.t.done.drop K)) (allB (setD z.t (z.t.done.take K ++ [g] ++ z.t.done.drop K)) (z.t.done.take K ++ [g] ++ z.t.done.drop K)), k, g', y, d⟩) ∧ Below w.heap.size w w' := by
  obtain ⟨R, HRR⟩ : ∃ R, Hid (R = closeM (setD z.t (z.t.done.take K ++ [g] ++ z.t.done.drop K)) (allB (setD z.t (z.t.done.take K ++ [g] ++ z.t.done.drop K)) (z.t.done.take K ++ [g] ++ z.t.done.drop K))) := ⟨_, rfl⟩
  rw [← HRR.out]
  have hll := ins_len (g := g) hS.1
  obtain ⟨q1, q2, q3, q4⟩ := two_boxesX w (xc z) (.cells #[.int .i64 0, .int .u64 0, .int .i64 0, .slice none 0 0, .int .u64 0, .int .i64 0, .slice none 0 0, .int .i64 0, .slice none 0 0, .slice none 0 0, .int .i64 0] 29)
  obtain ⟨w0, hw0⟩ : ∃ W, (w.alloc (xc z)).alloc (.cells #[.int .i64 0, .int .u64 0, .int .i64 0, .slice none 0 0, .int .u64 0, .int .i64 0, .slice none 0 0, .int .i64 0, .slice none 0 0, .slice none 0 0, .int .i64 0] 29) = W := ⟨_, rfl⟩
  rw [hw0] at q1 q2 q3 q4
  have k1 := xcheck_of z w0 (hR.below q4) gk (by omega) (by omega) (by omega)
  have k5 : Hid (∀ W, Below w.heap.size w W → _) := fun W hW => contains_of z.t.groups _ g W (hR.2.1.below hW) (by omega)
  have k6 : Hid (∀ W, Below w.heap.size w W → _) := fun W hW => contains_of z.t.done _ g W (hR.2.2.2.below hW) (by omega)
  have k8 : ∀ W, _ := fun W => told_of z W
  have k2 : Hid (∀ W, Below w.heap.size w W → _) := fun W hW => own2_of z W (hR.below hW) gk g1 g2 (by omega)
  have k7 : Hid (∀ (n : Nat) (v : Value) W, Ow intE 3 n W v z.t.done → n ≤ W.heap.size → _) := fun n v W h1 h2 => with_of n z.t.done v K g W h1 (by omega) hS hp h2
  have k3 : Hid (∀ (k g' y d : Sa) (W : World), _) := fun k g' y d W => all_of ⟨setD z.t (z.t.done.take K ++ [g] ++ z.t.done.drop K), k, g', y, d⟩ d (z.t.done.take K ++ [g] ++ z.t.done.drop K) W (by show z.t.groups.length ≤ _; omega) (by omega)
  dsimp only at k3
  rw [h0] at k1
  rw [decide_eq_true hg0] at k5
  rw [decide_eq_false h3] at k6
  rw [h1] at k8
  simp only [if_true] at k1
  replace k8 := (show Hid _ from k8)
  generalize (z.t.done.take K ++ [g] ++ z.t.done.drop K) = L at *
  generalize allB (setD z.t L) L = a at *
  have hz0 : w.heap.size + 2 ≤ w0.heap.size := by omega
  obtain ⟨⟨⟨i1, i2⟩, kd, ks, tk, tt, gs, st, ys, ds, cd⟩, ⟨ka, kc⟩, ⟨ga, gc⟩, ⟨ya, yc⟩, ⟨da, dc⟩⟩ := z
  dsimp only [xv, xc] at *
  obtain ⟨c0, c1, c2, c3, c4, c5, c6, c7, c8, c9, c10⟩ := cells11 q2
  clear hR gk g1 g2 g3 q1 hS hp hll h0 hg0 h1 h3
  go_enter Try.func28, Try.ntmps28
  go_wp2_with fail
  refine k1.mono ?_
  rintro e wc ⟨rfl, hbc⟩
  replace q2 := (hbc.block w.heap.size (by omega)).trans q2
  replace q3 := (hbc.block (w.heap.size + 1) (by omega)).trans q3
  replace q4 := q4.trans (hbc.mono q4.size)
  replace hz0 := Nat.le_trans hz0 hbc.size
  obtain ⟨c0, c1, c2, c3, c4, c5, c6, c7, c8, c9, c10⟩ := cells11 q2
  obtain ⟨e0, e1, e2, e3, e4, e5, e6, e7, e8, e9, e10⟩ := cells11 q3
  obtain ⟨f0, f1, f2, f3, f4, f5, f6, f7, f8, f9, f10⟩ := f_cells11 q3
  clear hbc k1
  go_wp2_with fail
  refine (k5.out _ q4).mono ?_
  rintro e wq ⟨rfl, hwq⟩
  subst wq
  clear k5
  go_wp2_with fail
  refine (k8.out _).mono ?_
  rintro e wt ⟨rfl, hbc⟩
  replace q2 := (hbc.block w.heap.size (by omega)).trans q2
  replace q3 := (hbc.block (w.heap.size + 1) (by omega)).trans q3
  replace q4 := q4.trans (hbc.mono q4.size)
  replace hz0 := Nat.le_trans hz0 hbc.size
  obtain ⟨c0, c1, c2, c3, c4, c5, c6, c7, c8, c9, c10⟩ := cells11 q2
  obtain ⟨e0, e1, e2, e3, e4, e5, e6, e7, e8, e9, e10⟩ := cells11 q3
  obtain ⟨f0, f1, f2, f3, f4, f5, f6, f7, f8, f9, f10⟩ := f_cells11 q3
  clear hbc k8
  go_wp2_with fail
  refine (k6.out _ q4).mono ?_
  rintro e wq ⟨rfl, hwq⟩
  subst wq
  clear k6
  go_wp2_with fail
  refine (k2.out _ q4).mono ?_
  rintro e wd ⟨⟨⟨ka', kc'⟩, ⟨ga', gc'⟩, ⟨ya', yc'⟩, ⟨da', dc'⟩, rfl, O1, AP⟩, hbc⟩
  replace q2 := (hbc.block w.heap.size (by omega)).trans q2
  replace q3 := (hbc.block (w.heap.size + 1) (by omega)).trans q3
  replace O1 := O1.mono q4.size
  replace q4 := q4.trans (hbc.mono q4.size)
  replace hz0 := Nat.le_trans hz0 hbc.size
  replace AP : Hid _ := AP
  clear hbc k2
  obtain ⟨c0, c1, c2, c3, c4, c5, c6, c7, c8, c9, c10⟩ := cells11 q2
  obtain ⟨f0, f1, f2, f3, f4, f5, f6, f7, f8, f9, f10⟩ := f_cells11 q2
  have X1 := set11_block q2 (.int .i64 i1) (.int .u64 (i2 : Int)) (.int .i64 kd) (.slice ka' ks.length kc') (.int .u64 (tk : Int)) (.int .i64 tt) (.slice ga' gs.length gc') (.int .i64 st) (.slice ya' ys.length yc') (.slice da' ds.length dc') (.int .i64 cd)
  have Y1 := (set11_other (.int .i64 i1) (.int .u64 (i2 : Int)) (.int .i64 kd) (.slice ka' ks.length kc') (.int .u64 (tk : Int)) (.int .i64 tt) (.slice ga' gs.length gc') (.int .i64 st) (.slice ya' ys.length yc') (.slice da' ds.length dc') (.int .i64 cd) (show w.heap.size + 1 ≠ w.heap.size by omega)).trans q3
  have B1 := set11_below (.int .i64 i1) (.int .u64 (i2 : Int)) (.int .i64 kd) (.slice ka' ks.length kc') (.int .u64 (tk : Int)) (.int .i64 tt) (.slice ga' gs.length gc') (.int .i64 st) (.slice ya' ys.length yc') (.slice da' ds.length dc') (.int .i64 cd) (g := w.heap.size) q4 (Nat.le_refl _)
  have O2 := O1.at_other q2 (fun k hk => set11_other (.int .i64 i1) (.int .u64 (i2 : Int)) (.int .i64 kd) (.slice ka' ks.length kc') (.int .u64 (tk : Int)) (.int .i64 tt) (.slice ga' gs.length gc') (.int .i64 st) (.slice ya' ys.length yc') (.slice da' ds.length dc') (.int .i64 cd) hk)
  obtain ⟨W1, hW1⟩ : ∃ W, set11 wd w.heap.size (.int .i64 i1) (.int .u64 (i2 : Int)) (.int .i64 kd) (.slice ka' ks.length kc') (.int .u64 (tk : Int)) (.int .i64 tt) (.slice ga' gs.length gc') (.int .i64 st) (.slice ya' ys.length yc') (.slice da' ds.length dc') (.int .i64 cd) = W := ⟨_, rfl⟩
  rw [hW1] at X1 Y1 B1 O2
  unfold set11 at hW1
  clear O1 q2 q3 q4 hz0
  obtain ⟨h0, h1, h2, h3, h4, h5, h6, h7, h8, h9, h10⟩ := cells11 X1
  have kw := k7.out w.heap.size _ W1 O2.2.2.2 B1.size
  replace O2 : Hid _ := O2
  clear k7
  go_wp2_with fail
  refine Calls.mono kw ?_
  rintro e w2 ⟨u, rfl, hO, hg, hf⟩
  obtain ⟨ua, uc, rfl, -⟩ := hO.1.shape
  have X1' := (hg.block w.heap.size (by have := Array.getElem?_eq_some_iff.1 X1; exact this.1) (fun e => by obtain ⟨cs, hc⟩ := O2.out.2.2.2.1.block e.symm; rw [X1] at hc; simp at hc)).trans X1
  have Y1' := (hg.block (w.heap.size + 1) (by have := Array.getElem?_eq_some_iff.1 Y1; exact this.1) (fun e => by obtain ⟨cs, hc⟩ := O2.out.2.2.2.1.block e.symm; rw [Y1] at hc; simp at hc)).trans Y1
  have B1' := B1.trans (grown_below hg B1.size O2.out.2.2.2.2)
  have P0 := ow_grown O2.out.1 hg (fun k hk e => by obtain ⟨cs, hc⟩ := O2.out.1.1.block hk; obtain ⟨cs', hc'⟩ := O2.out.2.2.2.1.block e; rw [hc] at hc'; simp at hc')
  have P1 := ow_grown O2.out.2.1 hg (fun k hk e => AP.out.2.2 k e hk)
  have P2 := ow_grown O2.out.2.2.1 hg (fun k hk e => AP.out.2.1 k e hk)
  have O3 : XO w.heap.size w2 ⟨setD ⟨(i1, i2), kd, ks, tk, tt, gs, st, ys, ds, cd⟩ L, (ka', kc'), (ga', gc'), (ya', yc'), (ua, uc)⟩ := ⟨P0, P1, P2, hO⟩
  clear P0 P1 P2 hO hg hf kw O2 AP X1 Y1 B1
  obtain ⟨c0, c1, c2, c3, c4, c5, c6, c7, c8, c9, c10⟩ := cells11 X1'
  obtain ⟨s0, s1, s2, s3, s4, s5, s6, s7, s8, s9, s10⟩ := f_cells11 X1'
  have X2 := set_block X1' (j := 9) (.slice ua L.length uc)
  have Y2 : (w2.setCell ⟨w.heap.size, 9, none⟩ (.slice ua L.length uc)).heap[w.heap.size + 1]? = _ := (set_other (by omega)).trans Y1'
  have B2 := B1'.setCell (p := ⟨w.heap.size, 9, none⟩) (Nat.le_refl _) (.slice ua L.length uc)
  have O4 := O3.at_other (w' := w2.setCell ⟨w.heap.size, 9, none⟩ (.slice ua L.length uc)) X1' (fun k hk => set_other hk)
  obtain ⟨W2, hW2⟩ : ∃ W, w2.setCell ⟨w.heap.size, 9, none⟩ (.slice ua L.length uc) = W := ⟨_, rfl⟩
  rw [hW2] at X2 Y2 B2 O4
  simp only [List.setIfInBounds_toArray, List.set_cons_zero, List.set_cons_succ] at X2
  clear X1' Y1' B1' O3
  obtain ⟨n0, n1, n2, n3, n4, n5, n6, n7, n8, n9, n10⟩ := cells11 X2
  have k4 := k3.out (ka', kc') (ga', gc') (ya', yc') (ua, uc) W2
  replace O4 : Hid (XO w.heap.size W2 ⟨setD ⟨(i1, i2), kd, ks, tk, tt, gs, st, ys, ds, cd⟩ L, (ka', kc'), (ga', gc'), (ya', yc'), (ua, uc)⟩) := O4
  clear k3
  dsimp only [xv, setD] at k4
  cases a with
  | false =>
    go_wp2_with fail
    refine k4.mono ?_
    rintro e we ⟨rfl, hbc⟩
    have Y3 := (hbc.block (w.heap.size + 1) (by have := Array.getElem?_eq_some_iff.1 Y2; exact this.1)).trans Y2
    have X3 := (hbc.block w.heap.size (by have := Array.getElem?_eq_some_iff.1 X2; exact this.1)).trans X2
    have O5 := XO.below O4.out hbc
    have B3 := B2.trans (hbc.mono B2.size)
    clear hbc k4 X2 Y2 B2 O4
    obtain ⟨c0, c1, c2, c3, c4, c5, c6, c7, c8, c9, c10⟩ := cells11 X3
    obtain ⟨e0, e1, e2, e3, e4, e5, e6, e7, e8, e9, e10⟩ := cells11 Y3
    obtain ⟨g0, g1, g2, g3, g4, g5, g6, g7, g8, g9, g10⟩ := f_cells11 Y3
    have S : Hid _ := set11_block Y3 (.int .i64 i1) (.int .u64 (i2 : Int)) (.int .i64 kd) (.slice ka' ks.length kc') (.int .u64 (tk : Int)) (.int .i64 tt) (.slice ga' gs.length gc') (.int .i64 st) (.slice ya' ys.length yc') (.slice ua L.length uc) (.int .i64 cd)
    have SB : Hid _ := set11_below (.int .i64 i1) (.int .u64 (i2 : Int)) (.int .i64 kd) (.slice ka' ks.length kc') (.int .u64 (tk : Int)) (.int .i64 tt) (.slice ga' gs.length gc') (.int .i64 st) (.slice ya' ys.length yc') (.slice ua L.length uc) (.int .i64 cd) (g := w.heap.size + 1) B3 (Nat.le_succ _)
    have SO : Hid _ := O5.at_other Y3 (fun k hk => set11_other (.int .i64 i1) (.int .u64 (i2 : Int)) (.int .i64 kd) (.slice ka' ks.length kc') (.int .u64 (tk : Int)) (.int .i64 tt) (.slice ga' gs.length gc') (.int .i64 st) (.slice ya' ys.length yc') (.slice ua L.length uc) (.int .i64 cd) hk)
    clear X3 Y3 B3 O5
    go_wp2
    refine bodyPost_ret (results_txe rfl _ _ (w.heap.size + 1) _ _ _ _ _ _ _ _ _ _ _ rfl S.out) rfl ?_
    exact ⟨⟨(ka', kc'), (ga', gc'), (ya', yc'), (ua, uc), by rw [HRR.out]; rfl, by rw [HRR.out]; exact XO.close false SO.out⟩, SB.out⟩
  | true =>
    go_wp2_with fail
    refine k4.mono ?_
    rintro e we ⟨rfl, hbc⟩
    have Y3 := (hbc.block (w.heap.size + 1) (by have := Array.getElem?_eq_some_iff.1 Y2; exact this.1)).trans Y2
    have X3 := (hbc.block w.heap.size (by have := Array.getElem?_eq_some_iff.1 X2; exact this.1)).trans X2
    have O5 := XO.below O4.out hbc
    have B3 := B2.trans (hbc.mono B2.size)
    clear hbc k4 X2 Y2 B2 O4
    obtain ⟨c0, c1, c2, c3, c4, c5, c6, c7, c8, c9, c10⟩ := cells11 X3
    obtain ⟨s0, s1, s2, s3, s4, s5, s6, s7, s8, s9, s10⟩ := f_cells11 X3
    have X4 := set_block X3 (j := 7) (.int .i64 4)
    have Y4 : (we.setCell ⟨w.heap.size, 7, none⟩ (.int .i64 4)).heap[w.heap.size + 1]? = _ := (set_other (by omega)).trans Y3
    have B4 := B3.setCell (p := ⟨w.heap.size, 7, none⟩) (Nat.le_refl _) (.int .i64 4)
    have O6 := O5.at_other (w' := we.setCell ⟨w.heap.size, 7, none⟩ (.int .i64 4)) X3 (fun k hk => set_other hk)
    obtain ⟨W4, hW4⟩ : ∃ W, we.setCell ⟨w.heap.size, 7, none⟩ (.int .i64 4) = W := ⟨_, rfl⟩
    rw [hW4] at X4 Y4 B4 O6
    simp only [List.setIfInBounds_toArray, List.set_cons_zero, List.set_cons_succ] at X4
    clear X3 Y3 B3 O5
    obtain ⟨m0, m1, m2, m3, m4, m5, m6, m7, m8, m9, m10⟩ := cells11 X4
    obtain ⟨e0, e1, e2, e3, e4, e5, e6, e7, e8, e9, e10⟩ := cells11 Y4
    obtain ⟨g0, g1, g2, g3, g4, g5, g6, g7, g8, g9, g10⟩ := f_cells11 Y4
    have S : Hid _ := set11_block Y4 (.int .i64 i1) (.int .u64 (i2 : Int)) (.int .i64 kd) (.slice ka' ks.length kc') (.int .u64 (tk : Int)) (.int .i64 tt) (.slice ga' gs.length gc') (.int .i64 4) (.slice ya' ys.length yc') (.slice ua L.length uc) (.int .i64 cd)
    have SB : Hid _ := set11_below (.int .i64 i1) (.int .u64 (i2 : Int)) (.int .i64 kd) (.slice ka' ks.length kc') (.int .u64 (tk : Int)) (.int .i64 tt) (.slice ga' gs.length gc') (.int .i64 4) (.slice ya' ys.length yc') (.slice ua L.length uc) (.int .i64 cd) (g := w.heap.size + 1) B4 (Nat.le_succ _)
    have SO : Hid _ := O6.at_other Y4 (fun k hk => set11_other (.int .i64 i1) (.int .u64 (i2 : Int)) (.int .i64 kd) (.slice ka' ks.length kc') (.int .u64 (tk : Int)) (.int .i64 tt) (.slice ga' gs.length gc') (.int .i64 4) (.slice ya' ys.length yc') (.slice ua L.length uc) (.int .i64 cd) hk)
    clear X4 Y4 B4 O6
    go_wp2
    refine bodyPost_ret (results_txe rfl _ _ (w.heap.size + 1) _ _ _ _ _ _ _ _ _ _ _ rfl S.out) rfl ?_
    exact ⟨⟨(ka', kc'), (ga', gc'), (ya', yc'), (ua, uc), by rw [HRR.out]; rfl, by rw [HRR.out]; exact XO.close true SO.out⟩, SB.out⟩
end Go.Proofs.Ytglbjimpaoikfaa

