import Derived.Test.YtghhijliamnmiaaHo08
/- Take of the program and of the document. -/
namespace Go.Proofs.Ytghhijliamnmiaa
open Go.RowKit OracleMath
set_option maxRecDepth 100000
set_option linter.unusedSimpArgs false
set_option linter.unusedVariables false

set_option maxHeartbeats 4000000 in
theorem take_of (x : Wn) (w : World) (hok : OkW x) : Calls Try.prog 9 #[wv x] w fun e w' => e = .returned (.tuple #[wv (takM x).1, .int .u64 ((takM x).2.1 : Int), .int .i64 (takM x).2.2]) ∧ Below w.heap.size w w' := by
  obtain ⟨q1, q3, cl⟩ := two_box w (wc x) zc
  have kc := check_of x ((w.alloc (wc x)).alloc zc) hok
  rw [q1] at kc
  have HS : Hid (w.heap.size ≤ w.heap.size + 2) := Nat.le_add_right _ _
  have hn : Hid (x.1 < 18446744073709551616) := hok.1
  have hl : Hid (x.2.1 < 18446744073709551616) := hok.2
  obtain ⟨-, x0, x1, x2⟩ := h_cells (cl _ (Below.refl _ _)).1
  obtain ⟨n, l, s⟩ := x
  obtain ⟨R, HR⟩ : ∃ R, Hid (R = takM (n, l, s)) := ⟨_, rfl⟩
  rw [← HR.out]
  cases hm : mayB (n, l, s) with
  | false =>
    rw [hm] at kc
    simp only [Bool.false_eq_true, if_false] at kc
    have E : Hid (R = ((0, 0, false), 0, 1)) := by show _ = _; rw [HR.out]; exact if_pos hm
    dsimp only [wv, wc] at *
    clear hok HR hm q1
    go_enter Try.func9, Try.ntmps9
    go_wp2_with fail
    refine kc.mono ?_
    rintro e w1 ⟨rfl, hb1⟩
    obtain ⟨q4, q5⟩ := cl _ hb1
    obtain ⟨⟨f0, f1, f2⟩, c0, c1, c2⟩ := h_cells q4
    obtain ⟨⟨g0, g1, g2⟩, d0, d1, d2⟩ := h_cells q5
    have hbw := q3.trans (hb1.mono HS.out)
    clear kc cl hb1 q3 x0 x1 x2
    have HB3 := h_set q5 (.int .u64 0) (.int .u64 0) (.bool false)
    have HBW := h_below (g := w.heap.size + 1) (.int .u64 0) (.int .u64 0) (.bool false) hbw (Nat.le_succ _)
    clear q4 q5 hbw
    go_wp2
    (try simp only [Exit.inBlock, Exit.then])
    refine bodyPost_ret (results_w3 rfl _ _ (w.heap.size + 1) _ _ _ rfl HB3) rfl ?_
    exact ⟨by rw [E.out]; rfl, HBW⟩
  | true =>
    rw [hm] at kc
    simp only [if_true] at kc
    have hmf : ¬ mayB (n, l, s) = false := by rw [hm]; simp
    have hm' := may_iff.1 hm
    cases s with
    | true =>
      have E : Hid (R = ((0, 0, false), 0, 11)) := by show _ = _; rw [HR.out]; exact (if_neg hmf).trans (if_pos rfl)
      dsimp only [wv, wc] at *
      clear hok HR hm hm' hmf q1
      go_enter Try.func9, Try.ntmps9
      go_wp2_with fail
      refine kc.mono ?_
      rintro e w1 ⟨rfl, hb1⟩
      obtain ⟨q4, q5⟩ := cl _ hb1
      obtain ⟨⟨f0, f1, f2⟩, c0, c1, c2⟩ := h_cells q4
      obtain ⟨⟨g0, g1, g2⟩, d0, d1, d2⟩ := h_cells q5
      have hbw := q3.trans (hb1.mono HS.out)
      clear kc cl hb1 q3 x0 x1 x2
      have HB3 := h_set q5 (.int .u64 0) (.int .u64 0) (.bool false)
      have HBW := h_below (g := w.heap.size + 1) (.int .u64 0) (.int .u64 0) (.bool false) hbw (Nat.le_succ _)
      clear q4 q5 hbw
      go_wp2
      (try simp only [Exit.inBlock, Exit.then])
      refine bodyPost_ret (results_w3 rfl _ _ (w.heap.size + 1) _ _ _ rfl HB3) rfl ?_
      exact ⟨by rw [E.out]; rfl, HBW⟩
    | false =>
      obtain ⟨L, hL⟩ : ∃ L, L = lefM (n, l, false) := ⟨_, rfl⟩
      have kl : Hid (∀ W, Calls Try.prog 16 #[wv (n, l, false)] W fun e w' => e = .returned (.int .u64 (L : Int)) ∧ Below W.heap.size W w') := fun W => by rw [hL]; exact left_of (n, l, false) W hok
      have hLe : L = l + 1 - n := by rw [hL]; exact if_neg (by rw [hm]; simp)
      by_cases h2 : l < n
      · have E : Hid (R = ((0, 0, false), 0, 9)) := by show _ = _; rw [HR.out]; exact (if_neg hmf).trans ((if_neg (by simp)).trans (if_pos h2))
        obtain rfl : L = 0 := by omega
        dsimp only [wv, wc] at *
        clear hok HR hm hm' hmf q1 h2 hL hLe
        go_enter Try.func9, Try.ntmps9
        go_wp2_with fail
        refine kc.mono ?_
        rintro e w1 ⟨rfl, hb1⟩
        obtain ⟨q4, q5⟩ := cl _ hb1
        obtain ⟨⟨f0, f1, f2⟩, c0, c1, c2⟩ := h_cells q4
        obtain ⟨⟨g0, g1, g2⟩, d0, d1, d2⟩ := h_cells q5
        have hbw := q3.trans (hb1.mono HS.out)
        have kl1 := kl.out w1
        clear kc hb1 q3 x0 x1 x2
        go_wp2_with fail
        refine kl1.mono ?_
        rintro e w2 ⟨rfl, hb2⟩
        have hsz : w.heap.size + 1 < w1.heap.size := (Array.getElem?_eq_some_iff.1 q5).1
        have q7 := (hb2.block (w.heap.size + 1) hsz).trans q5
        have q6 := (hb2.block w.heap.size (Nat.lt_of_succ_lt hsz)).trans q4
        have hbw2 := hbw.trans (hb2.mono hbw.size)
        clear f0 f1 f2 c0 c1 c2 g0 g1 g2 d0 d1 d2 q4 q5 hbw hsz hb2 cl kl kl1
        obtain ⟨⟨f0, f1, f2⟩, c0, c1, c2⟩ := h_cells q6
        obtain ⟨⟨g0, g1, g2⟩, d0, d1, d2⟩ := h_cells q7
        have HB3 := h_set q7 (.int .u64 0) (.int .u64 0) (.bool false)
        have HBW := h_below (g := w.heap.size + 1) (.int .u64 0) (.int .u64 0) (.bool false) hbw2 (Nat.le_succ _)
        clear q6 q7 hbw2
        go_wp2
        (try simp only [Exit.inBlock, Exit.then])
        refine bodyPost_ret (results_w3 rfl _ _ (w.heap.size + 1) _ _ _ rfl HB3) rfl ?_
        exact ⟨by rw [E.out]; rfl, HBW⟩
      · have e2 : ((L : Int) == 0) = false := by simp; omega
        obtain ⟨⟨n2, l2, s2⟩, hv2⟩ : ∃ y : Wn, y = behM (n, l, false) n := ⟨_, rfl⟩
        have E : Hid (R = ((n2, l2, s2), n, 0)) := by show _ = _; rw [HR.out, hv2]; exact (if_neg hmf).trans ((if_neg (by simp)).trans (if_neg h2))
        have kb : Hid (∀ W, Calls Try.prog 22 #[wv (n, l, false), .int .u64 (n : Int)] W fun e w' => e = .returned (wv (n2, l2, s2)) ∧ Below W.heap.size W w') := fun W => by rw [hv2]; exact behind_of (n, l, false) n W hn.out
        dsimp only [wv, wc] at *
        clear hok HR hm hm' hmf q1 h2 hL hLe hv2
        go_enter Try.func9, Try.ntmps9
        go_wp2_with fail
        refine kc.mono ?_
        rintro e w1 ⟨rfl, hb1⟩
        obtain ⟨q4, q5⟩ := cl _ hb1
        obtain ⟨⟨f0, f1, f2⟩, c0, c1, c2⟩ := h_cells q4
        obtain ⟨⟨g0, g1, g2⟩, d0, d1, d2⟩ := h_cells q5
        have hbw := q3.trans (hb1.mono HS.out)
        have kl1 := kl.out w1
        clear kc hb1 q3 x0 x1 x2
        go_wp2_with fail
        refine kl1.mono ?_
        rintro e w2 ⟨rfl, hb2⟩
        have hsz : w.heap.size + 1 < w1.heap.size := (Array.getElem?_eq_some_iff.1 q5).1
        have q7 := (hb2.block (w.heap.size + 1) hsz).trans q5
        have q6 := (hb2.block w.heap.size (Nat.lt_of_succ_lt hsz)).trans q4
        have hbw2 := hbw.trans (hb2.mono hbw.size)
        clear f0 f1 f2 c0 c1 c2 g0 g1 g2 d0 d1 d2 q4 q5 hbw hsz hb2 cl kl kl1
        obtain ⟨⟨f0, f1, f2⟩, c0, c1, c2⟩ := h_cells q6
        obtain ⟨⟨g0, g1, g2⟩, d0, d1, d2⟩ := h_cells q7
        have q8 : w2.drew.heap[w.heap.size + 1]? = some zc := q7
        go_wp2
        refine wp_region_L (fun W => W.heap[w.heap.size]? = some (.cells #[.int .u64 (n : Int), .int .u64 (l : Int), .bool false] 24 (0, 0)) ∧ Below w.heap.size w W) [] (by kernel_rfl) ?_
        have yS : (fun W => W.heap[w.heap.size]? = some (.cells #[.int .u64 (n : Int), .int .u64 (l : Int), .bool false] 24 (0, 0)) ∧ Below w.heap.size w W) w2.drew := ⟨q6, hbw2.drew⟩
        refine wpAnyL_take 0 rfl (by kernel_rfl) (by kernel_rfl) (by kernel_rfl) (by kernel_rfl) (fun _ _ _ h => h) (wanted_none rfl) (by intro w' hS'; obtain ⟨xb, xB⟩ := hS'; obtain ⟨-, y0, y1, y2⟩ := h_cells xb; go_simp <;> rfl) yS ?_
        try simp only [List.getElem_toArray, List.getElem_cons_succ, List.getElem_cons_zero, Act.put, List.setIfInBounds_toArray, List.set_cons_zero, List.set_cons_succ]
        refine wpAnyL_take 1 rfl (by kernel_rfl) (by kernel_rfl) (by kernel_rfl) (by kernel_rfl) (fun _ _ _ h => h) (wanted_none rfl) (by intro w' hS'; obtain ⟨xb, xB⟩ := hS'; obtain ⟨-, y0, y1, y2⟩ := h_cells xb; go_simp <;> rfl) yS ?_
        try simp only [List.getElem_toArray, List.getElem_cons_succ, List.getElem_cons_zero, Act.put, List.setIfInBounds_toArray, List.set_cons_zero, List.set_cons_succ]
        refine wpAnyL_take 2 rfl (by kernel_rfl) (by kernel_rfl) (by kernel_rfl) (by kernel_rfl) (fun _ _ _ h => h) (wanted_none rfl) (by intro w' hS'; obtain ⟨xb, xB⟩ := hS'; obtain ⟨-, y0, y1, y2⟩ := h_cells xb; go_simp <;> rfl) yS ?_
        try simp only [List.getElem_toArray, List.getElem_cons_succ, List.getElem_cons_zero, Act.put, List.setIfInBounds_toArray, List.set_cons_zero, List.set_cons_succ]
        refine wpAnyL_take 4 rfl (by kernel_rfl) (by kernel_rfl) (by kernel_rfl) (by kernel_rfl) (fun _ _ _ h => h) (wanted_none rfl) (by intro w' hS'; obtain ⟨xb, xB⟩ := hS'; obtain ⟨-, y0, y1, y2⟩ := h_cells xb; go_simp <;> rfl) yS ?_
        try simp only [List.getElem_toArray, List.getElem_cons_succ, List.getElem_cons_zero, Act.put, List.setIfInBounds_toArray, List.set_cons_zero, List.set_cons_succ]
        refine wpAnyL_take 5 rfl (by kernel_rfl) (by kernel_rfl) (by kernel_rfl) (by kernel_rfl) (fun _ _ _ h => h) (wanted_none rfl) (by intro w' hS'; obtain ⟨xb, xB⟩ := hS'; obtain ⟨-, y0, y1, y2⟩ := h_cells xb; go_simp <;> rfl) yS ?_
        try simp only [List.getElem_toArray, List.getElem_cons_succ, List.getElem_cons_zero, Act.put, List.setIfInBounds_toArray, List.set_cons_zero, List.set_cons_succ]
        refine wpAnyL_one 3 (by kernel_rfl) rfl (wanted_none rfl) ?_
        intro K' hK'
        go_simp
        go_at_call 22
        refine (kb.out _).mono ?_
        rintro e w3 ⟨rfl, hb3⟩
        have hsz : w.heap.size + 1 < w2.drew.heap.size := (Array.getElem?_eq_some_iff.1 q8).1
        have q9 := (hb3.block (w.heap.size + 1) hsz).trans q8
        have hS3 : (fun W => W.heap[w.heap.size]? = some (.cells #[.int .u64 (n : Int), .int .u64 (l : Int), .bool false] 24 (0, 0)) ∧ Below w.heap.size w W) w3 := ⟨(hb3.block w.heap.size (Nat.lt_of_succ_lt hsz)).trans yS.1, yS.2.trans (hb3.mono yS.2.size)⟩
        refine hK'.out _ _ (.inr hS3) ?_
        clear hK' K'
        try simp only [List.getElem_toArray, List.getElem_cons_succ, List.getElem_cons_zero, Act.put, List.setIfInBounds_toArray, List.set_cons_zero, List.set_cons_succ]
        have HB3 := h_set q9 (.int .u64 (n2 : Int)) (.int .u64 (l2 : Int)) (.bool s2)
        have HBW := h_below (g := w.heap.size + 1) (.int .u64 (n2 : Int)) (.int .u64 (l2 : Int)) (.bool s2) hS3.2 (Nat.le_succ _)
        have HX := set_far (g := w.heap.size + 1) (i := 2) (set_far (g := w.heap.size + 1) (i := 1) (set_far (g := w.heap.size + 1) (i := 0) hS3.1 (Nat.ne_of_gt (Nat.lt_succ_self _)) (.int .u64 (n2 : Int))) (Nat.ne_of_gt (Nat.lt_succ_self _)) (.int .u64 (l2 : Int))) (Nat.ne_of_gt (Nat.lt_succ_self _)) (.bool s2)
        obtain ⟨⟨u0, u1, u2⟩, v0, v1, v2⟩ := h_cells q9
        refine wpAnyL_one 6 (by kernel_rfl) rfl (wanted_none rfl) ?_
        intro K' hK'
        go_simp
        refine hK'.out _ _ (.inr ⟨HX, HBW⟩) ?_
        clear hK' K'
        try simp only [List.getElem_toArray, List.getElem_cons_succ, List.getElem_cons_zero, Act.put, List.setIfInBounds_toArray, List.set_cons_zero, List.set_cons_succ]
        refine wpAnyL_take 7 rfl (by kernel_rfl) (by kernel_rfl) (by kernel_rfl) (by kernel_rfl) (fun _ _ _ h => h) (wanted_none rfl) (by intro w' hS'; obtain ⟨xb, xB⟩ := hS'; obtain ⟨-, y0, y1, y2⟩ := h_cells xb; go_simp <;> rfl) ⟨HX, HBW⟩ ?_
        try simp only [List.getElem_toArray, List.getElem_cons_succ, List.getElem_cons_zero, Act.put, List.setIfInBounds_toArray, List.set_cons_zero, List.set_cons_succ]
        refine wpAnyL_take 8 rfl (by kernel_rfl) (by kernel_rfl) (by kernel_rfl) (by kernel_rfl) (fun _ _ _ h => h) (wanted_none rfl) (by intro w' hS'; obtain ⟨xb, xB⟩ := hS'; obtain ⟨-, y0, y1, y2⟩ := h_cells xb; go_simp <;> rfl) ⟨HX, HBW⟩ ?_
        try simp only [List.getElem_toArray, List.getElem_cons_succ, List.getElem_cons_zero, Act.put, List.setIfInBounds_toArray, List.set_cons_zero, List.set_cons_succ]
        refine wpAnyL_done (by kernel_rfl) (NoPanic.normal ?_) _
        generalize ((w3.setCell ⟨w.heap.size + 1, 0, none⟩ (.int .u64 (n2 : Int))).setCell ⟨w.heap.size + 1, 1, none⟩ (.int .u64 (l2 : Int))).setCell ⟨w.heap.size + 1, 2, none⟩ (.bool s2) = W5 at *
        clear HX
        go_wp2
        (try simp only [Exit.inBlock, Exit.then])
        refine bodyPost_ret (results_w3 rfl _ _ (w.heap.size + 1) _ _ _ rfl HB3) rfl ?_
        exact ⟨by rw [E.out]; rfl, HBW⟩
set_option maxHeartbeats 4000000 in
theorem rtake_of (x : Wn) (w : World) (hok : OkW x) : Calls Try.prog 10 #[wv x] w fun e w' => e = .returned (.tuple #[wv (takM x).1, .int .u64 ((takM x).2.1 : Int), .int .i64 (takM x).2.2]) ∧ Below w.heap.size w w' := by
  obtain ⟨q1, q3, cl⟩ := two_box w (wc x) zc
  have kc := rmay_of x ((w.alloc (wc x)).alloc zc) hok
  rw [q1] at kc
  have HS : Hid (w.heap.size ≤ w.heap.size + 2) := Nat.le_add_right _ _
  have hn : Hid (x.1 < 18446744073709551616) := hok.1
  have hl : Hid (x.2.1 < 18446744073709551616) := hok.2
  obtain ⟨-, x0, x1, x2⟩ := h_cells (cl _ (Below.refl _ _)).1
  obtain ⟨n, l, s⟩ := x
  obtain ⟨R, HR⟩ : ∃ R, Hid (R = takM (n, l, s)) := ⟨_, rfl⟩
  rw [← HR.out]
  cases hm : mayB (n, l, s) with
  | false =>
    rw [hm] at kc
    have E : Hid (R = ((0, 0, false), 0, 1)) := by show _ = _; rw [HR.out]; exact if_pos hm
    dsimp only [wv, wc] at *
    clear hok HR hm q1
    go_enter Try.func10, Try.ntmps10
    go_wp2_with fail
    refine kc.mono ?_
    rintro e w1 ⟨rfl, hb1⟩
    obtain ⟨q4, q5⟩ := cl _ hb1
    obtain ⟨⟨f0, f1, f2⟩, c0, c1, c2⟩ := h_cells q4
    obtain ⟨⟨g0, g1, g2⟩, d0, d1, d2⟩ := h_cells q5
    have hbw := q3.trans (hb1.mono HS.out)
    clear kc cl hb1 q3 x0 x1 x2
    have HB3 := h_set q5 (.int .u64 0) (.int .u64 0) (.bool false)
    have HBW := h_below (g := w.heap.size + 1) (.int .u64 0) (.int .u64 0) (.bool false) hbw (Nat.le_succ _)
    clear q4 q5 hbw
    go_wp2
    (try simp only [Exit.inBlock, Exit.then])
    refine bodyPost_ret (results_w3 rfl _ _ (w.heap.size + 1) _ _ _ rfl HB3) rfl ?_
    exact ⟨by rw [E.out]; rfl, HBW⟩
  | true =>
    rw [hm] at kc
    have hmf : ¬ mayB (n, l, s) = false := by rw [hm]; simp
    have hm' := may_iff.1 hm
    cases s with
    | true =>
      have E : Hid (R = ((0, 0, false), 0, 11)) := by show _ = _; rw [HR.out]; exact (if_neg hmf).trans (if_pos rfl)
      dsimp only [wv, wc] at *
      clear hok HR hm hm' hmf q1
      go_enter Try.func10, Try.ntmps10
      go_wp2_with fail
      refine kc.mono ?_
      rintro e w1 ⟨rfl, hb1⟩
      obtain ⟨q4, q5⟩ := cl _ hb1
      obtain ⟨⟨f0, f1, f2⟩, c0, c1, c2⟩ := h_cells q4
      obtain ⟨⟨g0, g1, g2⟩, d0, d1, d2⟩ := h_cells q5
      have hbw := q3.trans (hb1.mono HS.out)
      clear kc cl hb1 q3 x0 x1 x2
      have HB3 := h_set q5 (.int .u64 0) (.int .u64 0) (.bool false)
      have HBW := h_below (g := w.heap.size + 1) (.int .u64 0) (.int .u64 0) (.bool false) hbw (Nat.le_succ _)
      clear q4 q5 hbw
      go_wp2
      (try simp only [Exit.inBlock, Exit.then])
      refine bodyPost_ret (results_w3 rfl _ _ (w.heap.size + 1) _ _ _ rfl HB3) rfl ?_
      exact ⟨by rw [E.out]; rfl, HBW⟩
    | false =>
      by_cases h2 : l < n
      · have E : Hid (R = ((0, 0, false), 0, 9)) := by show _ = _; rw [HR.out]; exact (if_neg hmf).trans ((if_neg (by simp)).trans (if_pos h2))
        have e2 : decide ((l : Int) < (n : Int)) = true := by simp [h2]
        have e3 : decide (l < n) = true := by simp [h2]
        dsimp only [wv, wc] at *
        clear hok HR hm hm' hmf q1 h2
        go_enter Try.func10, Try.ntmps10
        go_wp2_with fail
        refine kc.mono ?_
        rintro e w1 ⟨rfl, hb1⟩
        obtain ⟨q4, q5⟩ := cl _ hb1
        obtain ⟨⟨f0, f1, f2⟩, c0, c1, c2⟩ := h_cells q4
        obtain ⟨⟨g0, g1, g2⟩, d0, d1, d2⟩ := h_cells q5
        have hbw := q3.trans (hb1.mono HS.out)
        clear kc cl hb1 q3 x0 x1 x2
        have HB3 := h_set q5 (.int .u64 0) (.int .u64 0) (.bool false)
        have HBW := h_below (g := w.heap.size + 1) (.int .u64 0) (.int .u64 0) (.bool false) hbw (Nat.le_succ _)
        clear q4 q5 hbw
        go_wp2
        (try simp only [Exit.inBlock, Exit.then])
        refine bodyPost_ret (results_w3 rfl _ _ (w.heap.size + 1) _ _ _ rfl HB3) rfl ?_
        exact ⟨by rw [E.out]; rfl, HBW⟩
      · have e2 : decide ((l : Int) < (n : Int)) = false := by simp; omega
        have e9 : decide (l < n) = false := by simp; omega
        have E0 : R = (behM (n, l, false) n, n, 0) := by rw [HR.out]; exact (if_neg hmf).trans ((if_neg (by simp)).trans (if_neg h2))
        by_cases h3 : n = 18446744073709551615
        · have E : Hid (R = ((18446744073709551615, l, true), 18446744073709551615, 0)) := by show _ = _; rw [E0, h3]; rfl
          obtain rfl : l = 18446744073709551615 := by have := hl.out; dsimp only at this; omega
          subst h3
          dsimp only [wv, wc] at *
          clear hok HR hm hm' hmf q1 E0 h2
          go_enter Try.func10, Try.ntmps10
          go_wp2_with fail
          refine kc.mono ?_
          rintro e w1 ⟨rfl, hb1⟩
          obtain ⟨q4, q5⟩ := cl _ hb1
          obtain ⟨⟨f0, f1, f2⟩, c0, c1, c2⟩ := h_cells q4
          obtain ⟨⟨g0, g1, g2⟩, d0, d1, d2⟩ := h_cells q5
          have hbw := q3.trans (hb1.mono HS.out)
          clear kc cl hb1 q3 x0 x1 x2
          have b1 := set_2 q4 (.bool true)
          have p1 := set_far (g := w.heap.size) (i := 2) q5 (Nat.ne_of_lt (Nat.lt_succ_self _)) (.bool true)
          have B1 : Below w.heap.size w (w1.setCell ⟨w.heap.size, 2, none⟩ (.bool true)) := hbw.setCell (p := ⟨w.heap.size, 2, none⟩) (Nat.le_refl _) _
          obtain ⟨W1, hW1⟩ : ∃ W1, w1.setCell ⟨w.heap.size, 2, none⟩ (.bool true) = W1 := ⟨_, rfl⟩
          rw [hW1] at b1 p1 B1
          obtain ⟨⟨fa1, fb1, fc1⟩, ra1, rb1, rc1⟩ := h_cells b1
          obtain ⟨⟨ja1, jb1, jc1⟩, ia1, ib1, ic1⟩ := h_cells p1
          have HB3 := h_set p1 (.int .u64 18446744073709551615) (.int .u64 18446744073709551615) (.bool true)
          have HBW := h_below (g := w.heap.size + 1) (.int .u64 18446744073709551615) (.int .u64 18446744073709551615) (.bool true) B1 (Nat.le_succ _)
          clear q4 q5 hbw b1 p1 B1
          go_wp2
          refine bodyPost_ret (results_w3 rfl _ _ (w.heap.size + 1) _ _ _ rfl HB3) rfl ?_
          exact ⟨by rw [E.out]; rfl, HBW⟩
        · have e3 : ((n : Int) == 18446744073709551615) = false := by simp; omega
          have E : Hid (R = ((n + 1, l, false), n, 0)) := by show _ = _; rw [E0]; exact congrArg (·, n, (0 : Int)) (if_neg h3)
          have hwl := add_one h3 hn.out
          generalize n + 1 = k at *
          dsimp only [wv, wc] at *
          clear hok HR hm hm' hmf q1 E0 h3 h2
          go_enter Try.func10, Try.ntmps10
          go_wp2_with fail
          refine kc.mono ?_
          rintro e w1 ⟨rfl, hb1⟩
          obtain ⟨q4, q5⟩ := cl _ hb1
          obtain ⟨⟨f0, f1, f2⟩, c0, c1, c2⟩ := h_cells q4
          obtain ⟨⟨g0, g1, g2⟩, d0, d1, d2⟩ := h_cells q5
          have hbw := q3.trans (hb1.mono HS.out)
          clear kc cl hb1 q3 x0 x1 x2
          have b1 := set_0 q4 (.int .u64 (k : Int))
          have p1 := set_far (g := w.heap.size) (i := 0) q5 (Nat.ne_of_lt (Nat.lt_succ_self _)) (.int .u64 (k : Int))
          have B1 : Below w.heap.size w (w1.setCell ⟨w.heap.size, 0, none⟩ (.int .u64 (k : Int))) := hbw.setCell (p := ⟨w.heap.size, 0, none⟩) (Nat.le_refl _) _
          obtain ⟨W1, hW1⟩ : ∃ W1, w1.setCell ⟨w.heap.size, 0, none⟩ (.int .u64 (k : Int)) = W1 := ⟨_, rfl⟩
          rw [hW1] at b1 p1 B1
          obtain ⟨⟨fa1, fb1, fc1⟩, ra1, rb1, rc1⟩ := h_cells b1
          obtain ⟨⟨ja1, jb1, jc1⟩, ia1, ib1, ic1⟩ := h_cells p1
          have HB3 := h_set p1 (.int .u64 (k : Int)) (.int .u64 (l : Int)) (.bool false)
          have HBW := h_below (g := w.heap.size + 1) (.int .u64 (k : Int)) (.int .u64 (l : Int)) (.bool false) B1 (Nat.le_succ _)
          clear q4 q5 hbw b1 p1 B1
          go_wp2
          refine bodyPost_ret (results_w3 rfl _ _ (w.heap.size + 1) _ _ _ rfl HB3) rfl ?_
          exact ⟨by rw [E.out]; rfl, HBW⟩
end Go.Proofs.Ytghhijliamnmiaa

