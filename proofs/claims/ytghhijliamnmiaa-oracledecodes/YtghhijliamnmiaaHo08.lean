import Derived.Test.YtghhijliamnmiaaHo07
/- Recover of the program and of the document. -/
namespace Go.Proofs.Ytghhijliamnmiaa
open Go.RowKit OracleMath
set_option maxRecDepth 100000
set_option linter.unusedSimpArgs false
set_option linter.unusedVariables false

set_option maxHeartbeats 4000000 in
theorem recover_of (x : Wn) (w : World) (hok : OkW x) : Calls Try.prog 11 #[wv x] w fun e w' => e = .returned (.tuple #[wv (recM x).1, .int .i64 (recM x).2]) ∧ Below w.heap.size w w' := by
  obtain ⟨q1, q3, cl⟩ := two_box w (wc x) zc
  have kc := check_of x ((w.alloc (wc x)).alloc zc) hok
  rw [q1] at kc
  have HS : Hid (w.heap.size ≤ w.heap.size + 2) := Nat.le_add_right _ _
  have hn : Hid (x.1 < 18446744073709551616) := hok.1
  have hl : Hid (x.2.1 < 18446744073709551616) := hok.2
  obtain ⟨-, x0, x1, x2⟩ := h_cells (cl _ (Below.refl _ _)).1
  obtain ⟨n, l, s⟩ := x
  obtain ⟨R, HR⟩ : ∃ R, Hid (R = recM (n, l, s)) := ⟨_, rfl⟩
  rw [← HR.out]
  cases hm : mayB (n, l, s) with
  | false =>
    rw [hm] at kc
    simp only [Bool.false_eq_true, if_false] at kc
    have E : Hid (R = ((0, 0, false), 1)) := by show _ = _; rw [HR.out]; exact if_pos hm
    dsimp only [wv, wc] at *
    clear hok HR hm q1
    go_enter Try.func11, Try.ntmps11
    go_wp2_with fail
    refine kc.mono ?_
    rintro e w1 ⟨rfl, hb1⟩
    obtain ⟨q4, q5⟩ := cl _ hb1
    obtain ⟨⟨f0, f1, f2⟩, c0, c1, c2⟩ := h_cells q4
    obtain ⟨⟨g0, g1, g2⟩, d0, d1, d2⟩ := h_cells q5
    have hbw := q3.trans (hb1.mono HS.out)
    clear kc cl hb1 q3 x0 x1 x2
    have HB3 := h_set q5 (.int .u64 0) (.int .u64 0) (.bool false)
    have HBW := h_below (g := w.heap.size + 1) (.int .u64 0) (.int .u64 0) (.bool false) hbw (Nat.le_succ _)
    clear q4 q5 hbw
    go_wp2
    (try simp only [Exit.inBlock, Exit.then])
    refine bodyPost_ret (results_w2 rfl _ _ (w.heap.size + 1) _ _ _ rfl HB3) rfl ?_
    exact ⟨by rw [E.out]; rfl, HBW⟩
  | true =>
    rw [hm] at kc
    simp only [if_true] at kc
    have E0 : R = (behM (n, l, s) l, 0) := by rw [HR.out]; exact if_neg (by rw [hm]; simp)
    obtain ⟨⟨n2, l2, s2⟩, hv2⟩ : ∃ y : Wn, y = behM (n, l, s) l := ⟨_, rfl⟩
    have E : Hid (R = ((n2, l2, s2), 0)) := by show _ = _; rw [E0, hv2]
    have kb : Hid (∀ W, Calls Try.prog 22 #[wv (n, l, s), .int .u64 (l : Int)] W fun e w' => e = .returned (wv (n2, l2, s2)) ∧ Below W.heap.size W w') := fun W => by rw [hv2]; exact behind_of (n, l, s) l W hl.out
    dsimp only [wv, wc] at *
    clear hok HR hm q1 E0 hv2
    go_enter Try.func11, Try.ntmps11
    go_wp2_with fail
    refine kc.mono ?_
    rintro e w1 ⟨rfl, hb1⟩
    obtain ⟨q4, q5⟩ := cl _ hb1
    obtain ⟨⟨f0, f1, f2⟩, c0, c1, c2⟩ := h_cells q4
    obtain ⟨⟨g0, g1, g2⟩, d0, d1, d2⟩ := h_cells q5
    have hbw := q3.trans (hb1.mono HS.out)
    have kb1 := kb.out w1
    clear kc hb1 q3 x0 x1 x2
    go_wp2_with fail
    refine kb1.mono ?_
    rintro e w2 ⟨rfl, hb2⟩
    have hsz : w.heap.size + 1 < w1.heap.size := (Array.getElem?_eq_some_iff.1 q5).1
    have q6 := (hb2.block (w.heap.size + 1) hsz).trans q5
    have hbw2 := hbw.trans (hb2.mono hbw.size)
    clear f0 f1 f2 c0 c1 c2 g0 g1 g2 d0 d1 d2
    obtain ⟨⟨g0, g1, g2⟩, d0, d1, d2⟩ := h_cells q6
    have HB3 := h_set q6 (.int .u64 (n2 : Int)) (.int .u64 (l2 : Int)) (.bool s2)
    have HBW := h_below (g := w.heap.size + 1) (.int .u64 (n2 : Int)) (.int .u64 (l2 : Int)) (.bool s2) hbw2 (Nat.le_succ _)
    clear q4 q5 q6 hbw hbw2 hb2 kb kb1 cl hsz
    go_wp2
    refine bodyPost_ret (results_w2 rfl _ _ (w.heap.size + 1) _ _ _ rfl HB3) rfl ?_
    exact ⟨by rw [E.out]; rfl, HBW⟩
set_option maxHeartbeats 4000000 in
theorem rrecover_of (x : Wn) (w : World) (hok : OkW x) : Calls Try.prog 12 #[wv x] w fun e w' => e = .returned (.tuple #[wv (recM x).1, .int .i64 (recM x).2]) ∧ Below w.heap.size w w' := by
  obtain ⟨q1, q3, cl⟩ := two_box w (wc x) zc
  have kc := rmay_of x ((w.alloc (wc x)).alloc zc) hok
  rw [q1] at kc
  have HS : Hid (w.heap.size ≤ w.heap.size + 2) := Nat.le_add_right _ _
  have hn : Hid (x.1 < 18446744073709551616) := hok.1
  have hl : Hid (x.2.1 < 18446744073709551616) := hok.2
  obtain ⟨-, x0, x1, x2⟩ := h_cells (cl _ (Below.refl _ _)).1
  obtain ⟨n, l, s⟩ := x
  obtain ⟨R, HR⟩ : ∃ R, Hid (R = recM (n, l, s)) := ⟨_, rfl⟩
  rw [← HR.out]
  cases hm : mayB (n, l, s) with
  | false =>
    rw [hm] at kc
    have E : Hid (R = ((0, 0, false), 1)) := by show _ = _; rw [HR.out]; exact if_pos hm
    dsimp only [wv, wc] at *
    clear hok HR hm q1
    go_enter Try.func12, Try.ntmps12
    go_wp2_with fail
    refine kc.mono ?_
    rintro e w1 ⟨rfl, hb1⟩
    obtain ⟨q4, q5⟩ := cl _ hb1
    obtain ⟨⟨f0, f1, f2⟩, c0, c1, c2⟩ := h_cells q4
    obtain ⟨⟨g0, g1, g2⟩, d0, d1, d2⟩ := h_cells q5
    have hbw := q3.trans (hb1.mono HS.out)
    clear kc cl hb1 q3 x0 x1 x2
    have HB3 := h_set q5 (.int .u64 0) (.int .u64 0) (.bool false)
    have HBW := h_below (g := w.heap.size + 1) (.int .u64 0) (.int .u64 0) (.bool false) hbw (Nat.le_succ _)
    clear q4 q5 hbw
    go_wp2
    (try simp only [Exit.inBlock, Exit.then])
    refine bodyPost_ret (results_w2 rfl _ _ (w.heap.size + 1) _ _ _ rfl HB3) rfl ?_
    exact ⟨by rw [E.out]; rfl, HBW⟩
  | true =>
    rw [hm] at kc
    have E0 : R = (behM (n, l, s) l, 0) := by rw [HR.out]; exact if_neg (by rw [hm]; simp)
    by_cases h3 : l = 18446744073709551615
    · have E : Hid (R = ((18446744073709551615, 18446744073709551615, true), 0)) := by show _ = _; rw [E0, h3]; rfl
      subst h3
      dsimp only [wv, wc] at *
      clear hok HR hm q1 E0
      go_enter Try.func12, Try.ntmps12
      go_wp2_with fail
      refine kc.mono ?_
      rintro e w1 ⟨rfl, hb1⟩
      obtain ⟨q4, q5⟩ := cl _ hb1
      obtain ⟨⟨f0, f1, f2⟩, c0, c1, c2⟩ := h_cells q4
      obtain ⟨⟨g0, g1, g2⟩, d0, d1, d2⟩ := h_cells q5
      have hbw := q3.trans (hb1.mono HS.out)
      clear kc cl hb1 q3 x0 x1 x2
      have b1 := set_0 q4 (.int .u64 18446744073709551615)
      have p1 := set_far (g := w.heap.size) (i := 0) q5 (Nat.ne_of_lt (Nat.lt_succ_self _)) (.int .u64 18446744073709551615)
      have B1 : Below w.heap.size w (w1.setCell ⟨w.heap.size, 0, none⟩ (.int .u64 18446744073709551615)) := hbw.setCell (p := ⟨w.heap.size, 0, none⟩) (Nat.le_refl _) _
      obtain ⟨W1, hW1⟩ : ∃ W1, w1.setCell ⟨w.heap.size, 0, none⟩ (.int .u64 18446744073709551615) = W1 := ⟨_, rfl⟩
      rw [hW1] at b1 p1 B1
      obtain ⟨⟨fa1, fb1, fc1⟩, ra1, rb1, rc1⟩ := h_cells b1
      obtain ⟨⟨ja1, jb1, jc1⟩, ia1, ib1, ic1⟩ := h_cells p1
      have b2 := set_2 b1 (.bool true)
      have p2 := set_far (g := w.heap.size) (i := 2) p1 (Nat.ne_of_lt (Nat.lt_succ_self _)) (.bool true)
      have B2 : Below w.heap.size w (W1.setCell ⟨w.heap.size, 2, none⟩ (.bool true)) := B1.setCell (p := ⟨w.heap.size, 2, none⟩) (Nat.le_refl _) _
      obtain ⟨W2, hW2⟩ : ∃ W2, W1.setCell ⟨w.heap.size, 2, none⟩ (.bool true) = W2 := ⟨_, rfl⟩
      rw [hW2] at b2 p2 B2
      obtain ⟨⟨fa2, fb2, fc2⟩, ra2, rb2, rc2⟩ := h_cells b2
      obtain ⟨⟨ja2, jb2, jc2⟩, ia2, ib2, ic2⟩ := h_cells p2
      have HB3 := h_set p2 (.int .u64 18446744073709551615) (.int .u64 18446744073709551615) (.bool true)
      have HBW := h_below (g := w.heap.size + 1) (.int .u64 18446744073709551615) (.int .u64 18446744073709551615) (.bool true) B2 (Nat.le_succ _)
      clear q4 q5 hbw b1 p1 B1 b2 p2 B2
      go_wp2
      refine bodyPost_ret (results_w2 rfl _ _ (w.heap.size + 1) _ _ _ rfl HB3) rfl ?_
      exact ⟨by rw [E.out]; rfl, HBW⟩
    · have e3 : ((l : Int) == 18446744073709551615) = false := by simp; omega
      have E : Hid (R = ((l + 1, l, s), 0)) := by show _ = _; rw [E0]; exact congrArg (·, (0 : Int)) (if_neg h3)
      have hwl := add_one h3 hl.out
      generalize l + 1 = k at *
      dsimp only [wv, wc] at *
      clear hok HR hm q1 E0 h3
      go_enter Try.func12, Try.ntmps12
      go_wp2_with fail
      refine kc.mono ?_
      rintro e w1 ⟨rfl, hb1⟩
      obtain ⟨q4, q5⟩ := cl _ hb1
      obtain ⟨⟨f0, f1, f2⟩, c0, c1, c2⟩ := h_cells q4
      obtain ⟨⟨g0, g1, g2⟩, d0, d1, d2⟩ := h_cells q5
      have hbw := q3.trans (hb1.mono HS.out)
      clear kc cl hb1 q3 x0 x1 x2
      have b1 := set_0 q4 (.int .u64 (k : Int))
      have p1 := set_far (g := w.heap.size) (i := 0) q5 (Nat.ne_of_lt (Nat.lt_succ_self _)) (.int .u64 (k : Int))
      have B1 : Below w.heap.size w (w1.setCell ⟨w.heap.size, 0, none⟩ (.int .u64 (k : Int))) := hbw.setCell (p := ⟨w.heap.size, 0, none⟩) (Nat.le_refl _) _
      obtain ⟨W1, hW1⟩ : ∃ W1, w1.setCell ⟨w.heap.size, 0, none⟩ (.int .u64 (k : Int)) = W1 := ⟨_, rfl⟩
      rw [hW1] at b1 p1 B1
      obtain ⟨⟨fa1, fb1, fc1⟩, ra1, rb1, rc1⟩ := h_cells b1
      obtain ⟨⟨ja1, jb1, jc1⟩, ia1, ib1, ic1⟩ := h_cells p1
      have HB3 := h_set p1 (.int .u64 (k : Int)) (.int .u64 (l : Int)) (.bool s)
      have HBW := h_below (g := w.heap.size + 1) (.int .u64 (k : Int)) (.int .u64 (l : Int)) (.bool s) B1 (Nat.le_succ _)
      clear q4 q5 hbw b1 p1 B1
      go_wp2
      refine bodyPost_ret (results_w2 rfl _ _ (w.heap.size + 1) _ _ _ rfl HB3) rfl ?_
      exact ⟨by rw [E.out]; rfl, HBW⟩
end Go.Proofs.Ytghhijliamnmiaa

