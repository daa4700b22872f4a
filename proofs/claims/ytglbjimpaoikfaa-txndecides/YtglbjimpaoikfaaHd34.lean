import Derived.Test.YtglbjimpaoikfaaHd33
/- agreed of txn, settle of the document. -/
namespace Go.Proofs.Ytglbjimpaoikfaa
open Go.RowKit LeaseMath
set_option maxRecDepth 100000
set_option linter.unusedSimpArgs false
set_option linter.unusedVariables false

def setS (x : Tx) (s : Int) : Tx := { x with state := s }
/-- An open record that is to commit, if b and it has its token. -/
def agreeM (x : Tx) (b : Bool) : Tx := if x.token ≠ 0 ∧ b = true then setS x 2 else x
set_option maxHeartbeats 8000000 in
theorem agreed_of (z : Xz) (w : World) (hR : XR w z) (g1 : z.t.groups.length ≤ 1000000) (g2 : z.t.yes.length ≤ 1000000) : Calls Try.prog 47 #[xv z] w fun e w' => e = .returned (xv ⟨agreeM z.t (allB z.t z.t.yes), z.k, z.g, z.y, z.d⟩) ∧ Below w.heap.size w w' := by
  obtain ⟨R, HRR⟩ : ∃ R, Hid (R = xv ⟨agreeM z.t (allB z.t z.t.yes), z.k, z.g, z.y, z.d⟩) := ⟨_, rfl⟩
  rw [← HRR.out]
  obtain ⟨q1, q2, q3, q4⟩ := two_boxesX w (xc z) (.cells #[.int .i64 0, .int .u64 0, .int .i64 0, .slice none 0 0, .int .u64 0, .int .i64 0, .slice none 0 0, .int .i64 0, .slice none 0 0, .slice none 0 0, .int .i64 0] 29)
  obtain ⟨w0, hw0⟩ : ∃ W, (w.alloc (xc z)).alloc (.cells #[.int .i64 0, .int .u64 0, .int .i64 0, .slice none 0 0, .int .u64 0, .int .i64 0, .slice none 0 0, .int .i64 0, .slice none 0 0, .slice none 0 0, .int .i64 0] 29) = W := ⟨_, rfl⟩
  rw [hw0] at q1 q2 q3 q4
  have k1 := all_of z z.y z.t.yes w0 (by omega) (by omega)
  generalize (allB z.t z.t.yes) = b at *
  have hz0 : w.heap.size + 2 ≤ w0.heap.size := by omega
  obtain ⟨⟨⟨i1, i2⟩, kd, ks, tk, tt, gs, st, ys, ds, cd⟩, ⟨ka, kc⟩, ⟨ga, gc⟩, ⟨ya, yc⟩, ⟨da, dc⟩⟩ := z
  dsimp only [xv, xc] at *
  obtain ⟨c0, c1, c2, c3, c4, c5, c6, c7, c8, c9, c10⟩ := cells11 q2
  clear hR g1 g2 q1
  by_cases h1 : tk = 0
  · have h1d : ((tk : Int) != 0) = false := by simp [h1]
    have E : Hid (R = xv ⟨⟨(i1, i2), kd, ks, tk, tt, gs, st, ys, ds, cd⟩, (ka, kc), (ga, gc), (ya, yc), (da, dc)⟩) := by show _ = _; rw [HRR.out]; unfold agreeM; rw [if_neg (fun h => h.1 h1)]
    clear HRR h1
    go_enter Try.func47, Try.ntmps47
    clear k1 hz0
    obtain ⟨p0, p1, p2, p3, p4, p5, p6, p7, p8, p9, p10⟩ := cells11 q2
    obtain ⟨e0, e1, e2, e3, e4, e5, e6, e7, e8, e9, e10⟩ := cells11 q3
    obtain ⟨f0, f1, f2, f3, f4, f5, f6, f7, f8, f9, f10⟩ := f_cells11 q3
    have S : Hid _ := set11_block q3 (.int .i64 i1) (.int .u64 (i2 : Int)) (.int .i64 kd) (.slice ka ks.length kc) (.int .u64 (tk : Int)) (.int .i64 tt) (.slice ga gs.length gc) (.int .i64 st) (.slice ya ys.length yc) (.slice da ds.length dc) (.int .i64 cd)
    have SB : Hid _ := set11_below (.int .i64 i1) (.int .u64 (i2 : Int)) (.int .i64 kd) (.slice ka ks.length kc) (.int .u64 (tk : Int)) (.int .i64 tt) (.slice ga gs.length gc) (.int .i64 st) (.slice ya ys.length yc) (.slice da ds.length dc) (.int .i64 cd) (g := w.heap.size + 1) q4 (Nat.le_succ _)
    clear q2 q3 q4
    go_wp2
    refine bodyPost_ret (results_tx rfl _ _ (w.heap.size + 1) _ _ _ _ _ _ _ _ _ _ _ rfl S.out) rfl ?_
    exact ⟨by first | (rw [E.out]; done) | (rw [E.out]; rfl), SB.out⟩
  · have h1d : ((tk : Int) != 0) = true := by simpa using h1
    cases b with
    | false =>
      have E : Hid (R = xv ⟨⟨(i1, i2), kd, ks, tk, tt, gs, st, ys, ds, cd⟩, (ka, kc), (ga, gc), (ya, yc), (da, dc)⟩) := by show _ = _; rw [HRR.out]; unfold agreeM; rw [if_neg (by simp)]
      clear HRR h1
      go_enter Try.func47, Try.ntmps47
      go_wp2_with fail
      refine k1.mono ?_
      rintro e w1 ⟨rfl, hbc⟩
      have hs1 := hbc.size
      replace q2 := (hbc.block w.heap.size (by omega)).trans q2
      replace q3 := (hbc.block (w.heap.size + 1) (by omega)).trans q3
      replace q4 := q4.trans (hbc.mono q4.size)
      clear hbc hs1 hz0 k1
      obtain ⟨p0, p1, p2, p3, p4, p5, p6, p7, p8, p9, p10⟩ := cells11 q2
      obtain ⟨e0, e1, e2, e3, e4, e5, e6, e7, e8, e9, e10⟩ := cells11 q3
      obtain ⟨f0, f1, f2, f3, f4, f5, f6, f7, f8, f9, f10⟩ := f_cells11 q3
      have S : Hid _ := set11_block q3 (.int .i64 i1) (.int .u64 (i2 : Int)) (.int .i64 kd) (.slice ka ks.length kc) (.int .u64 (tk : Int)) (.int .i64 tt) (.slice ga gs.length gc) (.int .i64 st) (.slice ya ys.length yc) (.slice da ds.length dc) (.int .i64 cd)
      have SB : Hid _ := set11_below (.int .i64 i1) (.int .u64 (i2 : Int)) (.int .i64 kd) (.slice ka ks.length kc) (.int .u64 (tk : Int)) (.int .i64 tt) (.slice ga gs.length gc) (.int .i64 st) (.slice ya ys.length yc) (.slice da ds.length dc) (.int .i64 cd) (g := w.heap.size + 1) q4 (Nat.le_succ _)
      clear q2 q3 q4
      go_wp2
      refine bodyPost_ret (results_tx rfl _ _ (w.heap.size + 1) _ _ _ _ _ _ _ _ _ _ _ rfl S.out) rfl ?_
      exact ⟨by first | (rw [E.out]; done) | (rw [E.out]; rfl), SB.out⟩
    | true =>
      have E : Hid (R = xv ⟨⟨(i1, i2), kd, ks, tk, tt, gs, 2, ys, ds, cd⟩, (ka, kc), (ga, gc), (ya, yc), (da, dc)⟩) := by show _ = _; rw [HRR.out]; unfold agreeM; rw [if_pos ⟨h1, rfl⟩]; rfl
      clear HRR h1
      go_enter Try.func47, Try.ntmps47
      go_wp2_with fail
      refine k1.mono ?_
      rintro e w1 ⟨rfl, hbc⟩
      have hs1 := hbc.size
      replace q2 := (hbc.block w.heap.size (by omega)).trans q2
      replace q3 := (hbc.block (w.heap.size + 1) (by omega)).trans q3
      replace q4 := q4.trans (hbc.mono q4.size)
      clear hbc hs1 hz0 k1
      obtain ⟨h0, h1, h2, h3, h4, h5, h6, h7, h8, h9, h10⟩ := f_cells11 q2
      obtain ⟨s0, s1, s2, s3, s4, s5, s6, s7, s8, s9, s10⟩ := cells11 q2
      have X1 := set_block q2 (j := 7) (.int .i64 2)
      have Y1 : (w1.setCell ⟨w.heap.size, 7, none⟩ (.int .i64 2)).heap[w.heap.size + 1]? = _ := (set_other (by omega)).trans q3
      have B1 := q4.setCell (p := ⟨w.heap.size, 7, none⟩) (Nat.le_refl _) (.int .i64 2)
      obtain ⟨V1, hV1⟩ : ∃ W, w1.setCell ⟨w.heap.size, 7, none⟩ (.int .i64 2) = W := ⟨_, rfl⟩
      rw [hV1] at X1 Y1 B1
      simp only [List.setIfInBounds_toArray, List.set_cons_zero, List.set_cons_succ] at X1
      obtain ⟨p0, p1, p2, p3, p4, p5, p6, p7, p8, p9, p10⟩ := cells11 X1
      obtain ⟨e0, e1, e2, e3, e4, e5, e6, e7, e8, e9, e10⟩ := cells11 Y1
      obtain ⟨f0, f1, f2, f3, f4, f5, f6, f7, f8, f9, f10⟩ := f_cells11 Y1
      have S : Hid _ := set11_block Y1 (.int .i64 i1) (.int .u64 (i2 : Int)) (.int .i64 kd) (.slice ka ks.length kc) (.int .u64 (tk : Int)) (.int .i64 tt) (.slice ga gs.length gc) (.int .i64 2) (.slice ya ys.length yc) (.slice da ds.length dc) (.int .i64 cd)
      have SB : Hid _ := set11_below (.int .i64 i1) (.int .u64 (i2 : Int)) (.int .i64 kd) (.slice ka ks.length kc) (.int .u64 (tk : Int)) (.int .i64 tt) (.slice ga gs.length gc) (.int .i64 2) (.slice ya ys.length yc) (.slice da ds.length dc) (.int .i64 cd) (g := w.heap.size + 1) B1 (Nat.le_succ _)
      clear q2 q3 q4 X1 Y1 B1
      go_wp2
      refine bodyPost_ret (results_tx rfl _ _ (w.heap.size + 1) _ _ _ _ _ _ _ _ _ _ _ rfl S.out) rfl ?_
      exact ⟨by first | (rw [E.out]; done) | (rw [E.out]; rfl), SB.out⟩
end Go.Proofs.Ytglbjimpaoikfaa

