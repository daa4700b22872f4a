import Derived.Test.YtglbjimpaoikfaaHe31
/- agreed of txn, settle of the document. -/
namespace Go.Proofs.Ytglbjimpaoikfaa
open Go.RowKit LeaseMath
set_option maxRecDepth 100000
set_option linter.unusedSimpArgs false
set_option linter.unusedVariables false

def setS (x : Tx) (s : Int) : Tx := { x with state := s }
/-- An open record that is to commit, if b and it has its token. -/
def agreeM (x : Tx) (b : Bool) : Tx := if x.token ≠ 0 ∧ b = true then setS x 2 else x
set_option maxHeartbeats 8000000 in
theorem agreed_of (z : Xz) (w : World) (hR : XR w z) (g1 : z.t.groups.length ≤ 1000000) (g2 : z.t.yes.length ≤ 1000000) : Calls Try.prog 47 #[xv z] w fun e w' => e = .returned (xv ⟨agreeM z.t (allB z.t z.t.yes), z.k, z.g, z.y, z.d⟩) ∧ Below w.heap.size w w' := by
  obtain ⟨R, HRR⟩ : ∃ R, Hid (R = xv ⟨agreeM z.t (allB z.t z.t.yes), z.k, z.g, z.y, z.d⟩) := ⟨_, rfl⟩
  rw [← HRR.out]
  obtain ⟨q1, q2, q3, q4⟩ := two_boxesX w (xc z) (.cells #[.int .i64 0, .int .u64 0, .int .i64 0, .slice none 0 0, .int .u64 0, .int .i64 0, .slice none 0 0, .int .i64 0, .slice none 0 0, .slice none 0 0, .int .i64 0] 29)
  obtain ⟨w0, hw0⟩ : ∃ W, (w.alloc (xc z)).alloc (.cells #[.int .i64 0, .int .u64 0, .int .i64 0, .slice none 0 0, .int .u64 0, .int .i64 0, .slice none 0 0, .int .i64 0, .slice none 0 0, .slice none 0 0, .int .i64 0] 29) = W := ⟨_, rfl⟩
  rw [hw0] at q1 q2 q3 q4
  have k1 := all_of z z.y z.t.yes w0 (by omega) (by omega)
  generalize (allB z.t z.t.yes) = b at *
  have hz0 : w.heap.size + 2 ≤ w0.heap.size := by omega
  obtain ⟨⟨⟨i1, i2⟩, kd, ks, tk, tt, gs, st, ys, ds, cd⟩, ⟨ka, kc⟩, ⟨ga, gc⟩, ⟨ya, yc⟩, ⟨da, dc⟩⟩ := z
  dsimp only [xv, xc] at *
  obtain ⟨c0, c1, c2, c3, c4, c5, c6, c7, c8, c9, c10⟩ := cells11 q2
  clear hR g1 g2 q1
  by_cases h1 : tk = 0
  · have h1d : ((tk : Int) != 0) = false := by simp [h1]
    have E : Hid (R = xv ⟨⟨(i1, i2), kd, ks, tk, tt, gs, st, ys, ds, cd⟩, (ka, kc), (ga, gc), (ya, yc), (da, dc)⟩) := by show _ = _; rw [HRR.out]; unfold agreeM; rw [if_neg (fun h => h.1 h1)]
    clear HRR h1
    go_enter Try.func47, Try.ntmps47
    clear k1 hz0
    obtain ⟨p0, p1, p2, p3, p4, p5, p6, p7, p8, p9, p10⟩ := cells11 q2
    obtain ⟨e0, e1, e2, e3, e4, e5, e6, e7, e8, e9, e10⟩ := cells11 q3
    obtain ⟨f0, f1, f2, f3, f4, f5, f6, f7, f8, f9, f10⟩ := f_cells11 q3
    have S : Hid _ := set11_block q3 (.int .i64 i1) (.int .u64 (i2 : Int)) (.int .i64 kd) (.slice ka ks.length kc) (.int .u64 (tk : Int)) (.int .i64 tt) (.slice ga gs.length gc) (.int .i64 st) (.slice ya ys.length yc) (.slice da ds.length dc) (.int .i64 cd)
    have SB : Hid _ := set11_below (.int .i64 i1) (.int .u64 (i2 : Int)) (.int .i64 kd) (.slice ka ks.length kc) (.int .u64 (tk : Int)) (.int .i64 tt) (.slice ga gs.length gc) (.int .i64 st) (.slice ya ys.length yc) (.slice da ds.length dc) (.int .i64 cd) (g := w.heap.size + 1) q4 (Nat.le_succ _)
    clear q2 q3 q4
    go_wp2
    refine bodyPost_ret (results_tx rfl _ _ (w.heap.size + 1) _ _ _ _ _ _ _ _ _ _ _ rfl S.out) rfl ?_
    exact ⟨by first | (rw [E.out]; done) | (rw [E.out]; rfl), SB.out⟩
  · have h1d : ((tk : Int) != 0) = true := by simpa using h1
    cases b with
    | false =>
      have E : Hid (R = xv ⟨⟨(i1, i2), kd, ks, tk, tt, gs, st, ys, ds, cd⟩, (ka, kc), (ga, gc), (ya, yc), (da, dc)⟩) := by show _ = _; rw [HRR.out]; unfold agreeM; rw [if_neg (by simp)]
      clear HRR h1
      go_enter Try.func47, Try.ntmps47
      go_wp2_with fail
      refine k1.mono ?_
      rintro e w1 ⟨rfl, hbc⟩
      have hs1 := hbc.size
      replace q2 := (hbc.block w.heap.size (by omega)).trans q2
      replace q3 := (hbc.block (w.heap.size + 1) (by omega)).trans q3
      replace q4 := q4.trans (hbc.mono q4.size)
      clear hbc hs1 hz0 k1
      obtain ⟨p0, p1, p2, p3, p4, p5, p6, p7, p8, p9, p10⟩ := cells11 q2
      obtain ⟨e0, e1, e2, e3, e4, e5, e6, e7, e8, e9, e10⟩ := cells11 q3
      obtain ⟨f0, f1, f2, f3, f4, f5, f6, f7, f8, f9, f10⟩ := f_cells11 q3
      have S : Hid _ := set11_block q3 (.int .i64 i1) (.int .u64 (i2 : Int)) (.int .i64 kd) (.slice ka ks.length kc) (.int .u64 (tk : Int)) (.int .i64 tt) (.slice ga gs.length gc) (.int .i64 st) (.slice ya ys.length yc) (.slice da ds.length dc) (.int .i64 cd)
      have SB : Hid _ := set11_below (.int .i64 i1) (.int .u64 (i2 : Int)) (.int .i64 kd) (.slice ka ks.length kc) (.int .u64 (tk : Int)) (.int .i64 tt) (.slice ga gs.length gc) (.int .i64 st) (.slice ya ys.length yc) (.slice da ds.length dc) (.int .i64 cd) (g := w.heap.size + 1) q4 (Nat.le_succ _)
      clear q2 q3 q4
      go_wp2
      refine bodyPost_ret (results_tx rfl _ _ (w.heap.size + 1) _ _ _ _ _ _ _ _ _ _ _ rfl S.out) rfl ?_
      exact ⟨by first | (rw [E.out]; done) | (rw [E.out]; rfl), SB.out⟩
    | true =>
      have E : Hid (R = xv ⟨⟨(i1, i2), kd, ks, tk, tt, gs, 2, ys, ds, cd⟩, (ka, kc), (ga, gc), (ya, yc), (da, dc)⟩) := by show _ = _; rw [HRR.out]; unfold agreeM; rw [if_pos ⟨h1, rfl⟩]; rfl
      clear HRR h1
      go_enter Try.func47, Try.ntmps47
      go_wp2_with fail
      refine k1.mono ?_
      rintro e w1 ⟨rfl, hbc⟩
      have hs1 := hbc.size
      replace q2 := (hbc.block w.heap.size (by omega)).trans q2
      replace q3 := (hbc.block (w.heap.size + 1) (by omega)).trans q3
      replace q4 := q4.trans (hbc.mono q4.size)
      clear hbc hs1 hz0 k1
      obtain ⟨h0, h1, h2, h3, h4, h5, h6, h7, h8, h9, h10⟩ := f_cells11 q2
      obtain ⟨s0, s1, s2, s3, s4, s5, s6, s7, s8, s9, s10⟩ := cells11 q2
      have X1 := set_block q2 (j := 7) (.int .i64 2)
      have Y1 : (w1.setCell ⟨w.heap.size, 7, none⟩ (.int .i64 2)).heap[w.heap.size + 1]? = _ := (set_other (by omega)).trans q3
      have B1 := q4.setCell (p := ⟨w.heap.size, 7, none⟩) (Nat.le_refl _) (.int .i64 2)
      obtain ⟨V1, hV1⟩ : ∃ W, w1.setCell ⟨w.heap.size, 7, none⟩ (.int .i64 2) = W := ⟨_, rfl⟩
      rw [hV1] at X1 Y1 B1
      simp only [List.setIfInBounds_toArray, List.set_cons_zero, List.set_cons_succ] at X1
      obtain ⟨p0, p1, p2, p3, p4, p5, p6, p7, p8, p9, p10⟩ := cells11 X1
      obtain ⟨e0, e1, e2, e3, e4, e5, e6, e7, e8, e9, e10⟩ := cells11 Y1
      obtain ⟨f0, f1, f2, f3, f4, f5, f6, f7, f8, f9, f10⟩ := f_cells11 Y1
      have S : Hid _ := set11_block Y1 (.int .i64 i1) (.int .u64 (i2 : Int)) (.int .i64 kd) (.slice ka ks.length kc) (.int .u64 (tk : Int)) (.int .i64 tt) (.slice ga gs.length gc) (.int .i64 2) (.slice ya ys.length yc) (.slice da ds.length dc) (.int .i64 cd)
      have SB : Hid _ := set11_below (.int .i64 i1) (.int .u64 (i2 : Int)) (.int .i64 kd) (.slice ka ks.length kc) (.int .u64 (tk : Int)) (.int .i64 tt) (.slice ga gs.length gc) (.int .i64 2) (.slice ya ys.length yc) (.slice da ds.length dc) (.int .i64 cd) (g := w.heap.size + 1) B1 (Nat.le_succ _)
      clear q2 q3 q4 X1 Y1 B1
      go_wp2
      refine bodyPost_ret (results_tx rfl _ _ (w.heap.size + 1) _ _ _ _ _ _ _ _ _ _ _ rfl S.out) rfl ?_
      exact ⟨by first | (rw [E.out]; done) | (rw [E.out]; rfl), SB.out⟩
end Go.Proofs.Ytglbjimpaoikfaa

/- Token of txn, and the document's. -/
namespace Go.Proofs.Ytglbjimpaoikfaa
open Go.RowKit LeaseMath
set_option maxRecDepth 100000
set_option linter.unusedSimpArgs false
set_option linter.unusedVariables false

def setT (x : Tx) (t : Nat) : Tx := { x with token := t }
/-- What Token tells: a record and a code. -/
def tokenM (x : Tx) (t : Nat) (b : Bool) : Tx × Int := if okX x = true then (if x.state = 1 then (if t = 0 then (noX, 1) else if x.token = 0 then (agreeM (setT x t) b, 0) else (noX, 6)) else (noX, 7)) else (noX, 1)
theorem XO.agree {n : Nat} {w : World} {x : Tx} {k g y d : Sa} (b : Bool) (h : XO n w ⟨x, k, g, y, d⟩) : XO n w ⟨agreeM x b, k, g, y, d⟩ := by
  unfold agreeM
  split
  · exact h
  · exact h
theorem XR.agree {w : World} {x : Tx} {k g y d : Sa} (b : Bool) (h : XR w ⟨x, k, g, y, d⟩) : XR w ⟨agreeM x b, k, g, y, d⟩ := by
  unfold agreeM
  split
  · exact h
  · exact h
theorem XO.none (n : Nat) (w : World) : XO n w noXz := ⟨Ow.nil _ _ _ _, Ow.nil _ _ _ _, Ow.nil _ _ _ _, Ow.nil _ _ _ _⟩
theorem XO.at_other {n g : Nat} {w w' : World} {z : Xz} {cs : Array Value} (h : XO n w z) (hg : w.heap[g]? = some (.cells cs 29 (0, 0))) (hw : ∀ k, k ≠ g → w'.heap[k]? = w.heap[k]?) : XO n w' z := ⟨h.1.at_other hg (by decide) hw, h.2.1.at_other hg (by decide) hw, h.2.2.1.at_other hg (by decide) hw, h.2.2.2.at_other hg (by decide) hw⟩
set_option maxHeartbeats 16000000 in
theorem token_of (z : Xz) (t : Nat) (w : World) (hR : XR w z) (gk : z.t.keys.length ≤ 1000000) (g1 : z.t.groups.length ≤ 1000000) (g2 : z.t.yes.length ≤ 1000000) (g3 : z.t.done.length ≤ 1000000) : Calls Try.prog 23 #[xv z, .int .u64 (t : Int)] w fun e w' => (∃ k g y d : Sa, e = .returned (.tuple #[xv ⟨(tokenM z.t t (allB z.t z.t.yes)).1, k, g, y, d⟩, .int .i64 (tokenM z.t t (allB z.t z.t.yes)).2]) ∧ XO w.heap.size w' ⟨(tokenM z.t t (allB z.t z.t.yes)).1, k, g, y, d⟩) ∧ Below w.heap.size w w' := by
  obtain ⟨R, HRR⟩ : ∃ R, Hid (R = tokenM z.t t (allB z.t z.t.yes)) := ⟨_, rfl⟩
  rw [← HRR.out]
  obtain ⟨q1, q2, q3, q4⟩ := two_boxesX w (xc z) (.cells #[.int .i64 0, .int .u64 0, .int .i64 0, .slice none 0 0, .int .u64 0, .int .i64 0, .slice none 0 0, .int .i64 0, .slice none 0 0, .slice none 0 0, .int .i64 0] 29)
  obtain ⟨w0, hw0⟩ : ∃ W, (w.alloc (xc z)).alloc (.cells #[.int .i64 0, .int .u64 0, .int .i64 0, .slice none 0 0, .int .u64 0, .int .i64 0, .slice none 0 0, .int .i64 0, .slice none 0 0, .slice none 0 0, .int .i64 0] 29) = W := ⟨_, rfl⟩
  rw [hw0] at q1 q2 q3 q4
  have k1 := xcheck_of z w0 (hR.below q4) gk (by omega) (by omega) (by omega)
  have k2 : Hid (∀ W, Below w.heap.size w W → _) := fun W hW => own_of z W (hR.below hW) gk g1 g2 g3
  have k3 : Hid (∀ (k g y d : Sa) (W : World), XR W ⟨setT z.t t, k, g, y, d⟩ → _) := fun k g y d W hW => agreed_of ⟨setT z.t t, k, g, y, d⟩ W hW g1 g2
  have kb : Hid (allB (setT z.t t) (setT z.t t).yes = allB z.t z.t.yes) := rfl
  simp only [kb.out] at k3
  unfold tokenM at HRR
  generalize okX z.t = b at *
  generalize allB z.t z.t.yes = a at *
  have hz0 : w.heap.size + 2 ≤ w0.heap.size := by omega
  obtain ⟨⟨⟨i1, i2⟩, kd, ks, tk, tt, gs, st, ys, ds, cd⟩, ⟨ka, kc⟩, ⟨ga, gc⟩, ⟨ya, yc⟩, ⟨da, dc⟩⟩ := z
  dsimp only [xv, xc] at *
  obtain ⟨c0, c1, c2, c3, c4, c5, c6, c7, c8, c9, c10⟩ := cells11 q2
  clear hR gk g1 g2 g3 q1 kb
  cases b with
  | false =>
    try simp only [Bool.false_eq_true, if_false] at k1
    have E : Hid (R = (noX, 1)) := by show _ = _; rw [HRR.out]; rw [if_neg (by simp)]
    clear HRR k2 k3 
    go_enter Try.func23, Try.ntmps23
    go_wp2_with fail
    refine k1.mono ?_
    rintro e wc ⟨rfl, hbc⟩
    replace q2 := (hbc.block w.heap.size (by omega)).trans q2
    replace q3 := (hbc.block (w.heap.size + 1) (by omega)).trans q3
    replace q4 := q4.trans (hbc.mono q4.size)
    replace hz0 := Nat.le_trans hz0 hbc.size
    obtain ⟨c0, c1, c2, c3, c4, c5, c6, c7, c8, c9, c10⟩ := cells11 q2
    obtain ⟨e0, e1, e2, e3, e4, e5, e6, e7, e8, e9, e10⟩ := cells11 q3
    obtain ⟨f0, f1, f2, f3, f4, f5, f6, f7, f8, f9, f10⟩ := f_cells11 q3
    clear hbc k1
    have S : Hid _ := set11_block q3 (.int .i64 0) (.int .u64 0) (.int .i64 0) (.slice none 0 0) (.int .u64 0) (.int .i64 0) (.slice none 0 0) (.int .i64 0) (.slice none 0 0) (.slice none 0 0) (.int .i64 0)
    have SB : Hid _ := set11_below (.int .i64 0) (.int .u64 0) (.int .i64 0) (.slice none 0 0) (.int .u64 0) (.int .i64 0) (.slice none 0 0) (.int .i64 0) (.slice none 0 0) (.slice none 0 0) (.int .i64 0) (g := w.heap.size + 1) q4 (Nat.le_succ _)
    clear q2 q3 q4 hz0
    go_wp2
    refine bodyPost_ret (results_txe rfl _ _ (w.heap.size + 1) _ _ _ _ _ _ _ _ _ _ _ rfl S.out) rfl ?_
    exact ⟨⟨(none, 0), (none, 0), (none, 0), (none, 0), by rw [E.out]; rfl, by rw [E.out]; exact XO.none _ _⟩, SB.out⟩
  | true =>
    try simp only [if_true] at k1
    by_cases h1 : st = 1
    · have h1d : (st != 1) = false := by simp [h1]
      by_cases h2 : t = 0
      · have h2d : ((t : Int) == 0) = true := by simp [h2]
        have E : Hid (R = (noX, 1)) := by show _ = _; rw [HRR.out]; rw [if_pos rfl, if_pos h1, if_pos h2]
        clear HRR k2 k3 h1 h2
        go_enter Try.func23, Try.ntmps23
        go_wp2_with fail
        refine k1.mono ?_
        rintro e wc ⟨rfl, hbc⟩
        replace q2 := (hbc.block w.heap.size (by omega)).trans q2
        replace q3 := (hbc.block (w.heap.size + 1) (by omega)).trans q3
        replace q4 := q4.trans (hbc.mono q4.size)
        replace hz0 := Nat.le_trans hz0 hbc.size
        obtain ⟨c0, c1, c2, c3, c4, c5, c6, c7, c8, c9, c10⟩ := cells11 q2
        obtain ⟨e0, e1, e2, e3, e4, e5, e6, e7, e8, e9, e10⟩ := cells11 q3
        obtain ⟨f0, f1, f2, f3, f4, f5, f6, f7, f8, f9, f10⟩ := f_cells11 q3
        clear hbc k1
        have S : Hid _ := set11_block q3 (.int .i64 0) (.int .u64 0) (.int .i64 0) (.slice none 0 0) (.int .u64 0) (.int .i64 0) (.slice none 0 0) (.int .i64 0) (.slice none 0 0) (.slice none 0 0) (.int .i64 0)
        have SB : Hid _ := set11_below (.int .i64 0) (.int .u64 0) (.int .i64 0) (.slice none 0 0) (.int .u64 0) (.int .i64 0) (.slice none 0 0) (.int .i64 0) (.slice none 0 0) (.slice none 0 0) (.int .i64 0) (g := w.heap.size + 1) q4 (Nat.le_succ _)
        clear q2 q3 q4 hz0
        go_wp2
        refine bodyPost_ret (results_txe rfl _ _ (w.heap.size + 1) _ _ _ _ _ _ _ _ _ _ _ rfl S.out) rfl ?_
        exact ⟨⟨(none, 0), (none, 0), (none, 0), (none, 0), by rw [E.out]; rfl, by rw [E.out]; exact XO.none _ _⟩, SB.out⟩
      · have h2d : ((t : Int) == 0) = false := by simpa using h2
        by_cases h3 : tk = 0
        · have h3d : ((tk : Int) != 0) = false := by simp [h3]
          have E : Hid (R = (agreeM (setT ⟨(i1, i2), kd, ks, tk, tt, gs, st, ys, ds, cd⟩ t) a, 0)) := by show _ = _; rw [HRR.out]; rw [if_pos rfl, if_pos h1, if_neg h2, if_pos h3]
          clear HRR h1 h2 h3
          go_enter Try.func23, Try.ntmps23
          go_wp2_with fail
          refine k1.mono ?_
          rintro e wc ⟨rfl, hbc⟩
          replace q2 := (hbc.block w.heap.size (by omega)).trans q2
          replace q3 := (hbc.block (w.heap.size + 1) (by omega)).trans q3
          replace q4 := q4.trans (hbc.mono q4.size)
          replace hz0 := Nat.le_trans hz0 hbc.size
          obtain ⟨c0, c1, c2, c3, c4, c5, c6, c7, c8, c9, c10⟩ := cells11 q2
          obtain ⟨e0, e1, e2, e3, e4, e5, e6, e7, e8, e9, e10⟩ := cells11 q3
          obtain ⟨f0, f1, f2, f3, f4, f5, f6, f7, f8, f9, f10⟩ := f_cells11 q3
          clear hbc k1
          go_wp2_with fail
          refine (k2.out _ q4).mono ?_
          rintro e wd ⟨⟨⟨ka', kc'⟩, ⟨ga', gc'⟩, ⟨ya', yc'⟩, ⟨da', dc'⟩, rfl, O1⟩, hbc⟩
          replace q2 := (hbc.block w.heap.size (by omega)).trans q2
          replace q3 := (hbc.block (w.heap.size + 1) (by omega)).trans q3
          replace O1 := O1.mono q4.size
          replace q4 := q4.trans (hbc.mono q4.size)
          replace hz0 := Nat.le_trans hz0 hbc.size
          clear hbc k2
          obtain ⟨c0, c1, c2, c3, c4, c5, c6, c7, c8, c9, c10⟩ := cells11 q2
          obtain ⟨f0, f1, f2, f3, f4, f5, f6, f7, f8, f9, f10⟩ := f_cells11 q2
          have X1 := set11_block q2 (.int .i64 i1) (.int .u64 (i2 : Int)) (.int .i64 kd) (.slice ka' ks.length kc') (.int .u64 (tk : Int)) (.int .i64 tt) (.slice ga' gs.length gc') (.int .i64 st) (.slice ya' ys.length yc') (.slice da' ds.length dc') (.int .i64 cd)
          have Y1 := (set11_other (.int .i64 i1) (.int .u64 (i2 : Int)) (.int .i64 kd) (.slice ka' ks.length kc') (.int .u64 (tk : Int)) (.int .i64 tt) (.slice ga' gs.length gc') (.int .i64 st) (.slice ya' ys.length yc') (.slice da' ds.length dc') (.int .i64 cd) (show w.heap.size + 1 ≠ w.heap.size by omega)).trans q3
          have B1 := set11_below (.int .i64 i1) (.int .u64 (i2 : Int)) (.int .i64 kd) (.slice ka' ks.length kc') (.int .u64 (tk : Int)) (.int .i64 tt) (.slice ga' gs.length gc') (.int .i64 st) (.slice ya' ys.length yc') (.slice da' ds.length dc') (.int .i64 cd) (g := w.heap.size) q4 (Nat.le_refl _)
          have O2 := O1.at_other q2 (fun k hk => set11_other (.int .i64 i1) (.int .u64 (i2 : Int)) (.int .i64 kd) (.slice ka' ks.length kc') (.int .u64 (tk : Int)) (.int .i64 tt) (.slice ga' gs.length gc') (.int .i64 st) (.slice ya' ys.length yc') (.slice da' ds.length dc') (.int .i64 cd) hk)
          obtain ⟨W1, hW1⟩ : ∃ W, set11 wd w.heap.size (.int .i64 i1) (.int .u64 (i2 : Int)) (.int .i64 kd) (.slice ka' ks.length kc') (.int .u64 (tk : Int)) (.int .i64 tt) (.slice ga' gs.length gc') (.int .i64 st) (.slice ya' ys.length yc') (.slice da' ds.length dc') (.int .i64 cd) = W := ⟨_, rfl⟩
          rw [hW1] at X1 Y1 B1 O2
          unfold set11 at hW1
          clear O1 q2 q3 q4 hz0
          obtain ⟨h0, h1, h2, h3, h4, h5, h6, h7, h8, h9, h10⟩ := cells11 X1
          obtain ⟨s0, s1, s2, s3, s4, s5, s6, s7, s8, s9, s10⟩ := f_cells11 X1
          have X2 := set_block X1 (j := 4) (.int .u64 (t : Int))
          have Y2 : (W1.setCell ⟨w.heap.size, 4, none⟩ (.int .u64 (t : Int))).heap[w.heap.size + 1]? = _ := (set_other (by omega)).trans Y1
          have B2 := B1.setCell (p := ⟨w.heap.size, 4, none⟩) (Nat.le_refl _) (.int .u64 (t : Int))
          have O3 := O2.at_other (w' := W1.setCell ⟨w.heap.size, 4, none⟩ (.int .u64 (t : Int))) X1 (fun k hk => set_other hk)
          obtain ⟨W2, hW2⟩ : ∃ W, W1.setCell ⟨w.heap.size, 4, none⟩ (.int .u64 (t : Int)) = W := ⟨_, rfl⟩
          rw [hW2] at X2 Y2 B2 O3
          simp only [List.setIfInBounds_toArray, List.set_cons_zero, List.set_cons_succ] at X2
          clear X1 Y1 B1 O2
          obtain ⟨n0, n1, n2, n3, n4, n5, n6, n7, n8, n9, n10⟩ := cells11 X2
          have k4 := k3.out (ka', kc') (ga', gc') (ya', yc') (da', dc') W2 ⟨O3.1.1.rd, O3.2.1.1.rd, O3.2.2.1.1.rd, O3.2.2.2.1.rd⟩
          have O4 : Hid (XO w.heap.size W2 ⟨agreeM (setT ⟨(i1, i2), kd, ks, tk, tt, gs, st, ys, ds, cd⟩ t) a, (ka', kc'), (ga', gc'), (ya', yc'), (da', dc')⟩) := XO.agree a O3
          generalize agreeM (setT ⟨(i1, i2), kd, ks, tk, tt, gs, st, ys, ds, cd⟩ t) a = r at *
          clear O3 k3
          dsimp only [xv, setT] at k4
          obtain ⟨⟨r1, r2⟩, r3, r4, r5, r6, r7, r8, r9, r10, r11⟩ := r
          dsimp only at k4
          go_wp2_with fail
          refine k4.mono ?_
          rintro e we ⟨rfl, hbc⟩
          have Y3 := (hbc.block (w.heap.size + 1) (by have := Array.getElem?_eq_some_iff.1 Y2; exact this.1)).trans Y2
          have O5 := O4.out.below hbc
          have B3 := B2.trans (hbc.mono B2.size)
          clear hbc k4 X2 O4
          obtain ⟨e0, e1, e2, e3, e4, e5, e6, e7, e8, e9, e10⟩ := cells11 Y3
          obtain ⟨g0, g1, g2, g3, g4, g5, g6, g7, g8, g9, g10⟩ := f_cells11 Y3
          have S : Hid _ := set11_block Y3 (.int .i64 r1) (.int .u64 (r2 : Int)) (.int .i64 r3) (.slice ka' r4.length kc') (.int .u64 (r5 : Int)) (.int .i64 r6) (.slice ga' r7.length gc') (.int .i64 r8) (.slice ya' r9.length yc') (.slice da' r10.length dc') (.int .i64 r11)
          have SB : Hid _ := set11_below (.int .i64 r1) (.int .u64 (r2 : Int)) (.int .i64 r3) (.slice ka' r4.length kc') (.int .u64 (r5 : Int)) (.int .i64 r6) (.slice ga' r7.length gc') (.int .i64 r8) (.slice ya' r9.length yc') (.slice da' r10.length dc') (.int .i64 r11) (g := w.heap.size + 1) B3 (Nat.le_succ _)
          have SO : Hid _ := O5.at_other Y3 (fun k hk => set11_other (.int .i64 r1) (.int .u64 (r2 : Int)) (.int .i64 r3) (.slice ka' r4.length kc') (.int .u64 (r5 : Int)) (.int .i64 r6) (.slice ga' r7.length gc') (.int .i64 r8) (.slice ya' r9.length yc') (.slice da' r10.length dc') (.int .i64 r11) hk)
          clear Y2 Y3 B2 B3 O5
          go_wp2
          refine bodyPost_ret (results_txe rfl _ _ (w.heap.size + 1) _ _ _ _ _ _ _ _ _ _ _ rfl S.out) rfl ?_
          exact ⟨⟨(ka', kc'), (ga', gc'), (ya', yc'), (da', dc'), by first | (rw [E.out]; done) | (rw [E.out]; rfl), by rw [E.out]; exact SO.out⟩, SB.out⟩
        · have h3d : ((tk : Int) != 0) = true := by simpa using h3
          have E : Hid (R = (noX, 6)) := by show _ = _; rw [HRR.out]; rw [if_pos rfl, if_pos h1, if_neg h2, if_neg h3]
          clear HRR k2 k3 h1 h2 h3
          go_enter Try.func23, Try.ntmps23
          go_wp2_with fail
          refine k1.mono ?_
          rintro e wc ⟨rfl, hbc⟩
          replace q2 := (hbc.block w.heap.size (by omega)).trans q2
          replace q3 := (hbc.block (w.heap.size + 1) (by omega)).trans q3
          replace q4 := q4.trans (hbc.mono q4.size)
          replace hz0 := Nat.le_trans hz0 hbc.size
          obtain ⟨c0, c1, c2, c3, c4, c5, c6, c7, c8, c9, c10⟩ := cells11 q2
          obtain ⟨e0, e1, e2, e3, e4, e5, e6, e7, e8, e9, e10⟩ := cells11 q3
          obtain ⟨f0, f1, f2, f3, f4, f5, f6, f7, f8, f9, f10⟩ := f_cells11 q3
          clear hbc k1
          have S : Hid _ := set11_block q3 (.int .i64 0) (.int .u64 0) (.int .i64 0) (.slice none 0 0) (.int .u64 0) (.int .i64 0) (.slice none 0 0) (.int .i64 0) (.slice none 0 0) (.slice none 0 0) (.int .i64 0)
          have SB : Hid _ := set11_below (.int .i64 0) (.int .u64 0) (.int .i64 0) (.slice none 0 0) (.int .u64 0) (.int .i64 0) (.slice none 0 0) (.int .i64 0) (.slice none 0 0) (.slice none 0 0) (.int .i64 0) (g := w.heap.size + 1) q4 (Nat.le_succ _)
          clear q2 q3 q4 hz0
          go_wp2
          refine bodyPost_ret (results_txe rfl _ _ (w.heap.size + 1) _ _ _ _ _ _ _ _ _ _ _ rfl S.out) rfl ?_
          exact ⟨⟨(none, 0), (none, 0), (none, 0), (none, 0), by rw [E.out]; rfl, by rw [E.out]; exact XO.none _ _⟩, SB.out⟩
    · have h1d : (st != 1) = true := by simpa using h1
      have E : Hid (R = (noX, 7)) := by show _ = _; rw [HRR.out]; rw [if_pos rfl, if_neg h1]
      clear HRR k2 k3 h1
      go_enter Try.func23, Try.ntmps23
      go_wp2_with fail
      refine k1.mono ?_
      rintro e wc ⟨rfl, hbc⟩
      replace q2 := (hbc.block w.heap.size (by omega)).trans q2
      replace q3 := (hbc.block (w.heap.size + 1) (by omega)).trans q3
      replace q4 := q4.trans (hbc.mono q4.size)
      replace hz0 := Nat.le_trans hz0 hbc.size
      obtain ⟨c0, c1, c2, c3, c4, c5, c6, c7, c8, c9, c10⟩ := cells11 q2
      obtain ⟨e0, e1, e2, e3, e4, e5, e6, e7, e8, e9, e10⟩ := cells11 q3
      obtain ⟨f0, f1, f2, f3, f4, f5, f6, f7, f8, f9, f10⟩ := f_cells11 q3
      clear hbc k1
      have S : Hid _ := set11_block q3 (.int .i64 0) (.int .u64 0) (.int .i64 0) (.slice none 0 0) (.int .u64 0) (.int .i64 0) (.slice none 0 0) (.int .i64 0) (.slice none 0 0) (.slice none 0 0) (.int .i64 0)
      have SB : Hid _ := set11_below (.int .i64 0) (.int .u64 0) (.int .i64 0) (.slice none 0 0) (.int .u64 0) (.int .i64 0) (.slice none 0 0) (.int .i64 0) (.slice none 0 0) (.slice none 0 0) (.int .i64 0) (g := w.heap.size + 1) q4 (Nat.le_succ _)
      clear q2 q3 q4 hz0
      go_wp2
      refine bodyPost_ret (results_txe rfl _ _ (w.heap.size + 1) _ _ _ _ _ _ _ _ _ _ _ rfl S.out) rfl ?_
      exact ⟨⟨(none, 0), (none, 0), (none, 0), (none, 0), by rw [E.out]; rfl, by rw [E.out]; exact XO.none _ _⟩, SB.out⟩
end Go.Proofs.Ytglbjimpaoikfaa

