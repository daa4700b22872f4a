import Derived.Test.YtglbjimpaoikfaaHe35
/- Voted of txn. -/
namespace Go.Proofs.Ytglbjimpaoikfaa
open Go.RowKit LeaseMath QuorumMath
set_option maxRecDepth 100000
set_option linter.unusedSimpArgs false
set_option linter.unusedVariables false

def setV (x : Tx) (c : Int) : Tx := { x with state := 3, code := c }
def setY (x : Tx) (l : List Int) : Tx := { x with yes := l }
/-- What Voted tells: a record and a code. -/
def votedM (x : Tx) (g c : Int) (l : List Int) (b : Bool) : Tx × Int := if okX x = true then (if g ∈ x.groups then (if x.state = 1 then (if c = 0 then (if g ∈ x.yes then (noX, 6) else (agreeM (setY x l) b, 0)) else (setV x c, 0)) else (noX, 7)) else (noX, 4)) else (noX, 1)
set_option maxHeartbeats 16000000 in
theorem voted_but (z : Xz) (g c : Int) (L : List Int) (w : World) (hR : XR w z) (gk : z.t.keys.length ≤ 1000000) (g1 : z.t.groups.length ≤ 1000000) (g2 : z.t.yes.length ≤ 100000) (g3 : z.t.done.length ≤ 1000000) (hno : Hid (¬ (okX z.t = true ∧ g ∈ z.t.groups ∧ z.t.state = 1 ∧ c = 0 ∧ g ∉ z.t.yes))) : Calls Try.prog 26 #[xv z, .int .i64 g, .int .i64 c] w fun e w' => ∃ R, Hid (R = votedM z.t g c L (allB (setY z.t L) L)) ∧ (∃ k g y d : Sa, e = .returned (.tuple #[xv ⟨R.1, k, g, y, d⟩, .int .i64 R.2]) ∧ XO w.heap.size w' ⟨R.1, k, g, y, d⟩) ∧ Below w.heap.size w w' := by
  obtain ⟨q1, q2, q3, q4⟩ := two_boxesX w (xc z) (.cells #[.int .i64 0, .int .u64 0, .int .i64 0, .slice none 0 0, .int .u64 0, .int .i64 0, .slice none 0 0, .int .i64 0, .slice none 0 0, .slice none 0 0, .int .i64 0] 29)
  obtain ⟨w0, hw0⟩ : ∃ W, (w.alloc (xc z)).alloc (.cells #[.int .i64 0, .int .u64 0, .int .i64 0, .slice none 0 0, .int .u64 0, .int .i64 0, .slice none 0 0, .int .i64 0, .slice none 0 0, .slice none 0 0, .int .i64 0] 29) = W := ⟨_, rfl⟩
  rw [hw0] at q1 q2 q3 q4
  have k1 := xcheck_of z w0 (hR.below q4) gk (by omega) (by omega) (by omega)
  have k2 : Hid (∀ W, Below w.heap.size w W → _) := fun W hW => own_of z W (hR.below hW) gk g1 (by omega) g3
  have k5 : Hid (∀ W, Below w.heap.size w W → _) := fun W hW => contains_of z.t.groups _ g W (hR.2.1.below hW) (by omega)
  have k6 : Hid (∀ W, Below w.heap.size w W → _) := fun W hW => contains_of z.t.yes _ g W (hR.2.2.1.below hW) (by omega)
  unfold votedM
  generalize okX z.t = b at *
  generalize allB (setY z.t L) L = a at *
  have hz0 : w.heap.size + 2 ≤ w0.heap.size := by omega
  obtain ⟨⟨⟨i1, i2⟩, kd, ks, tk, tt, gs, st, ys, ds, cd⟩, ⟨ka, kc⟩, ⟨ga, gc⟩, ⟨ya, yc⟩, ⟨da, dc⟩⟩ := z
  dsimp only [xv, xc] at *
  obtain ⟨c0, c1, c2, c3, c4, c5, c6, c7, c8, c9, c10⟩ := cells11 q2
  clear hR gk g1 g2 g3 q1
  cases b with
  | false =>
    try simp only [Bool.false_eq_true, if_false] at k1
    clear k2
    refine Calls.mono (R := fun e w' => (e = .returned (.tuple #[.agg #[.int .i64 0, .int .u64 0, .int .i64 0, .slice none 0 0, .int .u64 0, .int .i64 0, .slice none 0 0, .int .i64 0, .slice none 0 0, .slice none 0 0, .int .i64 0], .int .i64 1])) ∧ Below w.heap.size w w') ?_ (fun e w' h => ⟨(noX, 1), by show _ = _; rw [if_neg (by simp)], ⟨(none, 0), (none, 0), (none, 0), (none, 0), h.1, XO.none _ _⟩, h.2⟩)
    clear k5 k6
    go_enter Try.func26, Try.ntmps26
    go_wp2_with fail
    refine k1.mono ?_
    rintro e wc ⟨rfl, hbc⟩
    replace q2 := (hbc.block w.heap.size (by omega)).trans q2
    replace q3 := (hbc.block (w.heap.size + 1) (by omega)).trans q3
    replace q4 := q4.trans (hbc.mono q4.size)
    replace hz0 := Nat.le_trans hz0 hbc.size
    obtain ⟨c0, c1, c2, c3, c4, c5, c6, c7, c8, c9, c10⟩ := cells11 q2
    obtain ⟨e0, e1, e2, e3, e4, e5, e6, e7, e8, e9, e10⟩ := cells11 q3
    obtain ⟨f0, f1, f2, f3, f4, f5, f6, f7, f8, f9, f10⟩ := f_cells11 q3
    clear hbc k1
    have S : Hid _ := set11_block q3 (.int .i64 0) (.int .u64 0) (.int .i64 0) (.slice none 0 0) (.int .u64 0) (.int .i64 0) (.slice none 0 0) (.int .i64 0) (.slice none 0 0) (.slice none 0 0) (.int .i64 0)
    have SB : Hid _ := set11_below (.int .i64 0) (.int .u64 0) (.int .i64 0) (.slice none 0 0) (.int .u64 0) (.int .i64 0) (.slice none 0 0) (.int .i64 0) (.slice none 0 0) (.slice none 0 0) (.int .i64 0) (g := w.heap.size + 1) q4 (Nat.le_succ _)
    clear q2 q3 q4 hz0
    go_wp2
    refine bodyPost_ret (results_txe rfl _ _ (w.heap.size + 1) _ _ _ _ _ _ _ _ _ _ _ rfl S.out) rfl ?_
    exact ⟨rfl, SB.out⟩
  | true =>
    try simp only [if_true] at k1
    by_cases h0 : g ∈ gs
    · rw [decide_eq_true h0] at k5
      by_cases h1 : st = 1
      · have h1d : (st != 1) = false := by simp [h1]
        by_cases h2 : c = 0
        · have h2d : (c == 0) = true := by simp [h2]
          have h2e : (c != 0) = false := by simp [h2]
          by_cases h3 : g ∈ ys
          · rw [decide_eq_true h3] at k6
            clear k2
            refine Calls.mono (R := fun e w' => (e = .returned (.tuple #[.agg #[.int .i64 0, .int .u64 0, .int .i64 0, .slice none 0 0, .int .u64 0, .int .i64 0, .slice none 0 0, .int .i64 0, .slice none 0 0, .slice none 0 0, .int .i64 0], .int .i64 6])) ∧ Below w.heap.size w w') ?_ (fun e w' h => ⟨(noX, 6), by show _ = _; rw [if_pos rfl, if_pos h0, if_pos h1, if_pos h2, if_pos h3], ⟨(none, 0), (none, 0), (none, 0), (none, 0), h.1, XO.none _ _⟩, h.2⟩)
            clear h0 h1 h2 h3
            go_enter Try.func26, Try.ntmps26
            go_wp2_with fail
            refine k1.mono ?_
            rintro e wc ⟨rfl, hbc⟩
            replace q2 := (hbc.block w.heap.size (by omega)).trans q2
            replace q3 := (hbc.block (w.heap.size + 1) (by omega)).trans q3
            replace q4 := q4.trans (hbc.mono q4.size)
            replace hz0 := Nat.le_trans hz0 hbc.size
            obtain ⟨c0, c1, c2, c3, c4, c5, c6, c7, c8, c9, c10⟩ := cells11 q2
            obtain ⟨e0, e1, e2, e3, e4, e5, e6, e7, e8, e9, e10⟩ := cells11 q3
            obtain ⟨f0, f1, f2, f3, f4, f5, f6, f7, f8, f9, f10⟩ := f_cells11 q3
            clear hbc k1
            go_wp2_with fail
            refine (k5.out _ q4).mono ?_
            rintro e wq ⟨rfl, hwq⟩
            subst wq
            clear k5
            go_wp2_with fail
            refine (k6.out _ q4).mono ?_
            rintro e wq ⟨rfl, hwq⟩
            subst wq
            clear k6
            have S : Hid _ := set11_block q3 (.int .i64 0) (.int .u64 0) (.int .i64 0) (.slice none 0 0) (.int .u64 0) (.int .i64 0) (.slice none 0 0) (.int .i64 0) (.slice none 0 0) (.slice none 0 0) (.int .i64 0)
            have SB : Hid _ := set11_below (.int .i64 0) (.int .u64 0) (.int .i64 0) (.slice none 0 0) (.int .u64 0) (.int .i64 0) (.slice none 0 0) (.int .i64 0) (.slice none 0 0) (.slice none 0 0) (.int .i64 0) (g := w.heap.size + 1) q4 (Nat.le_succ _)
            clear q2 q3 q4 hz0
            go_wp2
            refine bodyPost_ret (results_txe rfl _ _ (w.heap.size + 1) _ _ _ _ _ _ _ _ _ _ _ rfl S.out) rfl ?_
            exact ⟨rfl, SB.out⟩
          · exact absurd ⟨rfl, h0, h1, h2, h3⟩ hno.out
        · have h2d : (c == 0) = false := by simpa using h2
          have h2e : (c != 0) = true := by simpa using h2
          clear k6
          refine Calls.mono (R := fun e w' => (∃ k g' y d : Sa, e = .returned (.tuple #[xv ⟨setV ⟨(i1, i2), kd, ks, tk, tt, gs, st, ys, ds, cd⟩ c, k, g', y, d⟩, .int .i64 0]) ∧ XO w.heap.size w' ⟨setV ⟨(i1, i2), kd, ks, tk, tt, gs, st, ys, ds, cd⟩ c, k, g', y, d⟩) ∧ Below w.heap.size w w') ?_ (fun e w' h => ⟨(setV ⟨(i1, i2), kd, ks, tk, tt, gs, st, ys, ds, cd⟩ c, 0), by show _ = _; simp only [if_true]; rw [if_pos h0, if_pos h1, if_neg h2], h.1, h.2⟩)
          clear h0 h1 h2 hno
          go_enter Try.func26, Try.ntmps26
          go_wp2_with fail
          refine k1.mono ?_
          rintro e wc ⟨rfl, hbc⟩
          replace q2 := (hbc.block w.heap.size (by omega)).trans q2
          replace q3 := (hbc.block (w.heap.size + 1) (by omega)).trans q3
          replace q4 := q4.trans (hbc.mono q4.size)
          replace hz0 := Nat.le_trans hz0 hbc.size
          obtain ⟨c0, c1, c2, c3, c4, c5, c6, c7, c8, c9, c10⟩ := cells11 q2
          obtain ⟨e0, e1, e2, e3, e4, e5, e6, e7, e8, e9, e10⟩ := cells11 q3
          obtain ⟨f0, f1, f2, f3, f4, f5, f6, f7, f8, f9, f10⟩ := f_cells11 q3
          clear hbc k1
          go_wp2_with fail
          refine (k5.out _ q4).mono ?_
          rintro e wq ⟨rfl, hwq⟩
          subst wq
          clear k5
          go_wp2_with fail
          refine (k2.out _ q4).mono ?_
          rintro e wd ⟨⟨⟨ka', kc'⟩, ⟨ga', gc'⟩, ⟨ya', yc'⟩, ⟨da', dc'⟩, rfl, O1⟩, hbc⟩
          replace q2 := (hbc.block w.heap.size (by omega)).trans q2
          replace q3 := (hbc.block (w.heap.size + 1) (by omega)).trans q3
          replace O1 := O1.mono q4.size
          replace q4 := q4.trans (hbc.mono q4.size)
          replace hz0 := Nat.le_trans hz0 hbc.size
          clear hbc k2
          obtain ⟨c0, c1, c2, c3, c4, c5, c6, c7, c8, c9, c10⟩ := cells11 q2
          obtain ⟨f0, f1, f2, f3, f4, f5, f6, f7, f8, f9, f10⟩ := f_cells11 q2
          have X1 := set11_block q2 (.int .i64 i1) (.int .u64 (i2 : Int)) (.int .i64 kd) (.slice ka' ks.length kc') (.int .u64 (tk : Int)) (.int .i64 tt) (.slice ga' gs.length gc') (.int .i64 st) (.slice ya' ys.length yc') (.slice da' ds.length dc') (.int .i64 cd)
          have Y1 := (set11_other (.int .i64 i1) (.int .u64 (i2 : Int)) (.int .i64 kd) (.slice ka' ks.length kc') (.int .u64 (tk : Int)) (.int .i64 tt) (.slice ga' gs.length gc') (.int .i64 st) (.slice ya' ys.length yc') (.slice da' ds.length dc') (.int .i64 cd) (show w.heap.size + 1 ≠ w.heap.size by omega)).trans q3
          have B1 := set11_below (.int .i64 i1) (.int .u64 (i2 : Int)) (.int .i64 kd) (.slice ka' ks.length kc') (.int .u64 (tk : Int)) (.int .i64 tt) (.slice ga' gs.length gc') (.int .i64 st) (.slice ya' ys.length yc') (.slice da' ds.length dc') (.int .i64 cd) (g := w.heap.size) q4 (Nat.le_refl _)
          have O2 := O1.at_other q2 (fun k hk => set11_other (.int .i64 i1) (.int .u64 (i2 : Int)) (.int .i64 kd) (.slice ka' ks.length kc') (.int .u64 (tk : Int)) (.int .i64 tt) (.slice ga' gs.length gc') (.int .i64 st) (.slice ya' ys.length yc') (.slice da' ds.length dc') (.int .i64 cd) hk)
          obtain ⟨W1, hW1⟩ : ∃ W, set11 wd w.heap.size (.int .i64 i1) (.int .u64 (i2 : Int)) (.int .i64 kd) (.slice ka' ks.length kc') (.int .u64 (tk : Int)) (.int .i64 tt) (.slice ga' gs.length gc') (.int .i64 st) (.slice ya' ys.length yc') (.slice da' ds.length dc') (.int .i64 cd) = W := ⟨_, rfl⟩
          rw [hW1] at X1 Y1 B1 O2
          unfold set11 at hW1
          clear O1 q2 q3 q4 hz0
          obtain ⟨h0, h1, h2, h3, h4, h5, h6, h7, h8, h9, h10⟩ := cells11 X1
          obtain ⟨s0, s1, s2, s3, s4, s5, s6, s7, s8, s9, s10⟩ := f_cells11 X1
          have X2 := set_block (set_block X1 (j := 7) (.int .i64 3)) (j := 10) (.int .i64 c)
          have Y2 : ((W1.setCell ⟨w.heap.size, 7, none⟩ (.int .i64 3)).setCell ⟨w.heap.size, 10, none⟩ (.int .i64 c)).heap[w.heap.size + 1]? = _ := (set_other (by omega)).trans ((set_other (by omega)).trans Y1)
          have B2 := (B1.setCell (p := ⟨w.heap.size, 7, none⟩) (Nat.le_refl _) (.int .i64 3)).setCell (p := ⟨w.heap.size, 10, none⟩) (Nat.le_refl _) (.int .i64 c)
          have O3 := O2.at_other (w' := (W1.setCell ⟨w.heap.size, 7, none⟩ (.int .i64 3)).setCell ⟨w.heap.size, 10, none⟩ (.int .i64 c)) X1 (fun k hk => (set_other hk).trans (set_other hk))
          obtain ⟨W2, hW2⟩ : ∃ W, (W1.setCell ⟨w.heap.size, 7, none⟩ (.int .i64 3)).setCell ⟨w.heap.size, 10, none⟩ (.int .i64 c) = W := ⟨_, rfl⟩
          rw [hW2] at X2 Y2 B2 O3
          simp only [List.setIfInBounds_toArray, List.set_cons_zero, List.set_cons_succ] at X2
          clear X1 Y1 B1 O2
          obtain ⟨n0, n1, n2, n3, n4, n5, n6, n7, n8, n9, n10⟩ := cells11 X2
          obtain ⟨e0, e1, e2, e3, e4, e5, e6, e7, e8, e9, e10⟩ := cells11 Y2
          obtain ⟨g0, g1, g2, g3, g4, g5, g6, g7, g8, g9, g10⟩ := f_cells11 Y2
          have S : Hid _ := set11_block Y2 (.int .i64 i1) (.int .u64 (i2 : Int)) (.int .i64 kd) (.slice ka' ks.length kc') (.int .u64 (tk : Int)) (.int .i64 tt) (.slice ga' gs.length gc') (.int .i64 3) (.slice ya' ys.length yc') (.slice da' ds.length dc') (.int .i64 c)
          have SB : Hid _ := set11_below (.int .i64 i1) (.int .u64 (i2 : Int)) (.int .i64 kd) (.slice ka' ks.length kc') (.int .u64 (tk : Int)) (.int .i64 tt) (.slice ga' gs.length gc') (.int .i64 3) (.slice ya' ys.length yc') (.slice da' ds.length dc') (.int .i64 c) (g := w.heap.size + 1) B2 (Nat.le_succ _)
          have SO : Hid _ := O3.at_other Y2 (fun k hk => set11_other (.int .i64 i1) (.int .u64 (i2 : Int)) (.int .i64 kd) (.slice ka' ks.length kc') (.int .u64 (tk : Int)) (.int .i64 tt) (.slice ga' gs.length gc') (.int .i64 3) (.slice ya' ys.length yc') (.slice da' ds.length dc') (.int .i64 c) hk)
          clear Y2 B2 O3 X2
          go_wp2
          refine bodyPost_ret (results_txe rfl _ _ (w.heap.size + 1) _ _ _ _ _ _ _ _ _ _ _ rfl S.out) rfl ?_
          exact ⟨⟨(ka', kc'), (ga', gc'), (ya', yc'), (da', dc'), rfl, SO.out⟩, SB.out⟩
      · have h1d : (st != 1) = true := by simpa using h1
        clear k2
        refine Calls.mono (R := fun e w' => (e = .returned (.tuple #[.agg #[.int .i64 0, .int .u64 0, .int .i64 0, .slice none 0 0, .int .u64 0, .int .i64 0, .slice none 0 0, .int .i64 0, .slice none 0 0, .slice none 0 0, .int .i64 0], .int .i64 7])) ∧ Below w.heap.size w w') ?_ (fun e w' h => ⟨(noX, 7), by show _ = _; rw [if_pos rfl, if_pos h0, if_neg h1], ⟨(none, 0), (none, 0), (none, 0), (none, 0), h.1, XO.none _ _⟩, h.2⟩)
        clear h0 h1 k6
        go_enter Try.func26, Try.ntmps26
        go_wp2_with fail
        refine k1.mono ?_
        rintro e wc ⟨rfl, hbc⟩
        replace q2 := (hbc.block w.heap.size (by omega)).trans q2
        replace q3 := (hbc.block (w.heap.size + 1) (by omega)).trans q3
        replace q4 := q4.trans (hbc.mono q4.size)
        replace hz0 := Nat.le_trans hz0 hbc.size
        obtain ⟨c0, c1, c2, c3, c4, c5, c6, c7, c8, c9, c10⟩ := cells11 q2
        obtain ⟨e0, e1, e2, e3, e4, e5, e6, e7, e8, e9, e10⟩ := cells11 q3
        obtain ⟨f0, f1, f2, f3, f4, f5, f6, f7, f8, f9, f10⟩ := f_cells11 q3
        clear hbc k1
        go_wp2_with fail
        refine (k5.out _ q4).mono ?_
        rintro e wq ⟨rfl, hwq⟩
        subst wq
        clear k5
        have S : Hid _ := set11_block q3 (.int .i64 0) (.int .u64 0) (.int .i64 0) (.slice none 0 0) (.int .u64 0) (.int .i64 0) (.slice none 0 0) (.int .i64 0) (.slice none 0 0) (.slice none 0 0) (.int .i64 0)
        have SB : Hid _ := set11_below (.int .i64 0) (.int .u64 0) (.int .i64 0) (.slice none 0 0) (.int .u64 0) (.int .i64 0) (.slice none 0 0) (.int .i64 0) (.slice none 0 0) (.slice none 0 0) (.int .i64 0) (g := w.heap.size + 1) q4 (Nat.le_succ _)
        clear q2 q3 q4 hz0
        go_wp2
        refine bodyPost_ret (results_txe rfl _ _ (w.heap.size + 1) _ _ _ _ _ _ _ _ _ _ _ rfl S.out) rfl ?_
        exact ⟨rfl, SB.out⟩
    · rw [decide_eq_false h0] at k5
      clear k2
      refine Calls.mono (R := fun e w' => (e = .returned (.tuple #[.agg #[.int .i64 0, .int .u64 0, .int .i64 0, .slice none 0 0, .int .u64 0, .int .i64 0, .slice none 0 0, .int .i64 0, .slice none 0 0, .slice none 0 0, .int .i64 0], .int .i64 4])) ∧ Below w.heap.size w w') ?_ (fun e w' h => ⟨(noX, 4), by show _ = _; rw [if_pos rfl, if_neg h0], ⟨(none, 0), (none, 0), (none, 0), (none, 0), h.1, XO.none _ _⟩, h.2⟩)
      clear h0 k6
      go_enter Try.func26, Try.ntmps26
      go_wp2_with fail
      refine k1.mono ?_
      rintro e wc ⟨rfl, hbc⟩
      replace q2 := (hbc.block w.heap.size (by omega)).trans q2
      replace q3 := (hbc.block (w.heap.size + 1) (by omega)).trans q3
      replace q4 := q4.trans (hbc.mono q4.size)
      replace hz0 := Nat.le_trans hz0 hbc.size
      obtain ⟨c0, c1, c2, c3, c4, c5, c6, c7, c8, c9, c10⟩ := cells11 q2
      obtain ⟨e0, e1, e2, e3, e4, e5, e6, e7, e8, e9, e10⟩ := cells11 q3
      obtain ⟨f0, f1, f2, f3, f4, f5, f6, f7, f8, f9, f10⟩ := f_cells11 q3
      clear hbc k1
      go_wp2_with fail
      refine (k5.out _ q4).mono ?_
      rintro e wq ⟨rfl, hwq⟩
      subst wq
      clear k5
      have S : Hid _ := set11_block q3 (.int .i64 0) (.int .u64 0) (.int .i64 0) (.slice none 0 0) (.int .u64 0) (.int .i64 0) (.slice none 0 0) (.int .i64 0) (.slice none 0 0) (.slice none 0 0) (.int .i64 0)
      have SB : Hid _ := set11_below (.int .i64 0) (.int .u64 0) (.int .i64 0) (.slice none 0 0) (.int .u64 0) (.int .i64 0) (.slice none 0 0) (.int .i64 0) (.slice none 0 0) (.slice none 0 0) (.int .i64 0) (g := w.heap.size + 1) q4 (Nat.le_succ _)
      clear q2 q3 q4 hz0
      go_wp2
      refine bodyPost_ret (results_txe rfl _ _ (w.heap.size + 1) _ _ _ _ _ _ _ _ _ _ _ rfl S.out) rfl ?_
      exact ⟨rfl, SB.out⟩
end Go.Proofs.Ytglbjimpaoikfaa

