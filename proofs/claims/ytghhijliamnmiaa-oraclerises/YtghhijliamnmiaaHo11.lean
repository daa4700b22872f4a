import Derived.Test.YtghhijliamnmiaaHo07
/- Extend of the document. -/
namespace Go.Proofs.Ytghhijliamnmiaa
open Go.RowKit OracleMath
set_option maxRecDepth 100000
set_option linter.unusedSimpArgs false
set_option linter.unusedVariables false

set_option maxHeartbeats 4000000 in
theorem rextend_of (x : Wn) (z : Int) (w : World) (hok : OkW x) : Calls Try.prog 8 #[wv x, .int .i64 z] w fun e w' => e = .returned (.tuple #[wv (extM x z).1, .int .i64 (extM x z).2]) ∧ Below w.heap.size w w' := by
  obtain ⟨q1, q3, cl⟩ := two_box w (wc x) zc
  have kc := rmay_of x ((w.alloc (wc x)).alloc zc) hok
  rw [q1] at kc
  have HS : Hid (w.heap.size ≤ w.heap.size + 2) := Nat.le_add_right _ _
  have hn : Hid (x.1 < 18446744073709551616) := hok.1
  have hl : Hid (x.2.1 < 18446744073709551616) := hok.2
  obtain ⟨-, x0, x1, x2⟩ := h_cells (cl _ (Below.refl _ _)).1
  obtain ⟨n, l, s⟩ := x
  obtain ⟨R, HR⟩ : ∃ R, Hid (R = extM (n, l, s) z) := ⟨_, rfl⟩
  rw [← HR.out]
  cases hm : mayB (n, l, s) with
  | false =>
    rw [hm] at kc
    have E : Hid (R = ((0, 0, false), 1)) := by show _ = _; rw [HR.out]; exact if_pos (.inl hm)
    dsimp only [wv, wc] at *
    clear hok HR hm q1
    go_enter Try.func8, Try.ntmps8
    go_wp2_with fail
    refine kc.mono ?_
    rintro e w1 ⟨rfl, hb1⟩
    obtain ⟨q4, q5⟩ := cl _ hb1
    obtain ⟨⟨f0, f1, f2⟩, c0, c1, c2⟩ := h_cells q4
    obtain ⟨⟨g0, g1, g2⟩, d0, d1, d2⟩ := h_cells q5
    have hbw := q3.trans (hb1.mono HS.out)
    clear kc cl hb1 q3 x0 x1 x2
    have HB3 := h_set q5 (.int .u64 0) (.int .u64 0) (.bool false)
    have HBW := h_below (g := w.heap.size + 1) (.int .u64 0) (.int .u64 0) (.bool false) hbw (Nat.le_succ _)
    clear q4 q5 hbw
    go_wp2
    (try simp only [Exit.inBlock, Exit.then])
    refine bodyPost_ret (results_w2 rfl _ _ (w.heap.size + 1) _ _ _ rfl HB3) rfl ?_
    exact ⟨by rw [E.out]; rfl, HBW⟩
  | true =>
    rw [hm] at kc
    by_cases hz1 : z < 1
    · have E : Hid (R = ((0, 0, false), 1)) := by show _ = _; rw [HR.out]; exact if_pos (.inr (.inl hz1))
      have e1 : decide (z < 1) = true := decide_eq_true hz1
      dsimp only [wv, wc] at *
      clear hok HR hm q1 hz1
      go_enter Try.func8, Try.ntmps8
      go_wp2_with fail
      refine kc.mono ?_
      rintro e w1 ⟨rfl, hb1⟩
      obtain ⟨q4, q5⟩ := cl _ hb1
      obtain ⟨⟨f0, f1, f2⟩, c0, c1, c2⟩ := h_cells q4
      obtain ⟨⟨g0, g1, g2⟩, d0, d1, d2⟩ := h_cells q5
      have hbw := q3.trans (hb1.mono HS.out)
      clear kc cl hb1 q3 x0 x1 x2
      have HB3 := h_set q5 (.int .u64 0) (.int .u64 0) (.bool false)
      have HBW := h_below (g := w.heap.size + 1) (.int .u64 0) (.int .u64 0) (.bool false) hbw (Nat.le_succ _)
      clear q4 q5 hbw
      go_wp2
      (try simp only [Exit.inBlock, Exit.then])
      refine bodyPost_ret (results_w2 rfl _ _ (w.heap.size + 1) _ _ _ rfl HB3) rfl ?_
      exact ⟨by rw [E.out]; rfl, HBW⟩
    · by_cases hz2 : 65536 < z
      · have E : Hid (R = ((0, 0, false), 1)) := by show _ = _; rw [HR.out]; exact if_pos (.inr (.inr hz2))
        have e1 : decide (z < 1) = false := decide_eq_false hz1
        have e2 : decide (65536 < z) = true := decide_eq_true hz2
        dsimp only [wv, wc] at *
        clear hok HR hm q1 hz1 hz2
        go_enter Try.func8, Try.ntmps8
        go_wp2_with fail
        refine kc.mono ?_
        rintro e w1 ⟨rfl, hb1⟩
        obtain ⟨q4, q5⟩ := cl _ hb1
        obtain ⟨⟨f0, f1, f2⟩, c0, c1, c2⟩ := h_cells q4
        obtain ⟨⟨g0, g1, g2⟩, d0, d1, d2⟩ := h_cells q5
        have hbw := q3.trans (hb1.mono HS.out)
        clear kc cl hb1 q3 x0 x1 x2
        have HB3 := h_set q5 (.int .u64 0) (.int .u64 0) (.bool false)
        have HBW := h_below (g := w.heap.size + 1) (.int .u64 0) (.int .u64 0) (.bool false) hbw (Nat.le_succ _)
        clear q4 q5 hbw
        go_wp2
        (try simp only [Exit.inBlock, Exit.then])
        refine bodyPost_ret (results_w2 rfl _ _ (w.heap.size + 1) _ _ _ rfl HB3) rfl ?_
        exact ⟨by rw [E.out]; rfl, HBW⟩
      · have hnn : ¬ (mayB (n, l, s) = false ∨ z < 1 ∨ 65536 < z) := by rw [hm]; rintro (h | h | h); cases h; exact hz1 h; exact hz2 h
        have e1 : decide (z < 1) = false := decide_eq_false hz1
        have e2 : decide (65536 < z) = false := decide_eq_false hz2
        obtain ⟨m, rfl⟩ : ∃ m : Nat, z = (m : Int) := ⟨z.toNat, by omega⟩
        have H1 : Hid (1 ≤ m ∧ m ≤ 65536) := ⟨by omega, by omega⟩
        clear hz1 hz2
        by_cases h3 : l = 18446744073709551615
        · have E : Hid (R = ((0, 0, false), 11)) := by show _ = _; rw [HR.out]; exact (if_neg hnn).trans (if_pos h3)
          dsimp only [wv, wc] at *
          clear hok HR hm q1 hnn
          subst h3
          go_enter Try.func8, Try.ntmps8
          go_wp2_with fail
          refine kc.mono ?_
          rintro e w1 ⟨rfl, hb1⟩
          obtain ⟨q4, q5⟩ := cl _ hb1
          obtain ⟨⟨f0, f1, f2⟩, c0, c1, c2⟩ := h_cells q4
          obtain ⟨⟨g0, g1, g2⟩, d0, d1, d2⟩ := h_cells q5
          have hbw := q3.trans (hb1.mono HS.out)
          clear kc cl hb1 q3 x0 x1 x2
          have HB3 := h_set q5 (.int .u64 0) (.int .u64 0) (.bool false)
          have HBW := h_below (g := w.heap.size + 1) (.int .u64 0) (.int .u64 0) (.bool false) hbw (Nat.le_succ _)
          clear q4 q5 hbw
          go_wp2
          (try simp only [Exit.inBlock, Exit.then])
          refine bodyPost_ret (results_w2 rfl _ _ (w.heap.size + 1) _ _ _ rfl HB3) rfl ?_
          exact ⟨by rw [E.out]; rfl, HBW⟩
        · have e3 : ((l : Int) == 18446744073709551615) = false := by simp; omega
          obtain ⟨k, hk⟩ : ∃ k, k = min (l + m) 18446744073709551615 := ⟨_, rfl⟩
          have E : Hid (R = ((n, k, s), 0)) := by show _ = _; rw [HR.out, hk]; exact (if_neg hnn).trans (if_neg h3)
          have hwm : IntKind.u64.wrap (m : Int) = (m : Int) := IntWalk.u64_in _ (by have := H1.out; omega)
          by_cases h4 : l + m < 18446744073709551616
          · obtain rfl : k = l + m := by omega
            have hwk : IntKind.u64.wrap ((l : Int) + (m : Int)) = ((l + m : Nat) : Int) := by
              rw [show ((l : Int) + (m : Int)) = ((l + m : Nat) : Int) by omega]
              exact IntWalk.u64_in _ (by omega)
            have e4 : decide (((l + m : Nat) : Int) < (l : Int)) = false := by simp; omega
            have e5 : decide (l + m < l) = false := by simp
            clear hk h4
            generalize l + m = k at *
            dsimp only [wv, wc] at *
            clear hok HR hm q1 hnn h3
            go_enter Try.func8, Try.ntmps8
            go_wp2_with fail
            refine kc.mono ?_
            rintro e w1 ⟨rfl, hb1⟩
            obtain ⟨q4, q5⟩ := cl _ hb1
            obtain ⟨⟨f0, f1, f2⟩, c0, c1, c2⟩ := h_cells q4
            obtain ⟨⟨g0, g1, g2⟩, d0, d1, d2⟩ := h_cells q5
            have hbw := q3.trans (hb1.mono HS.out)
            clear kc cl hb1 q3 x0 x1 x2
            have b1 := set_1 q4 (.int .u64 (k : Int))
            have b2 := set_far (g := w.heap.size) (i := 1) q5 (Nat.ne_of_lt (Nat.lt_succ_self _)) (.int .u64 (k : Int))
            have hbw1 : Below w.heap.size w (w1.setCell ⟨w.heap.size, 1, none⟩ (.int .u64 (k : Int))) := hbw.setCell (p := ⟨w.heap.size, 1, none⟩) (Nat.le_refl _) _
            obtain ⟨W1, hW1⟩ : ∃ W1, w1.setCell ⟨w.heap.size, 1, none⟩ (.int .u64 (k : Int)) = W1 := ⟨_, rfl⟩
            rw [hW1] at b1 b2 hbw1
            obtain ⟨-, r0, r1, r2⟩ := h_cells b1
            obtain ⟨⟨j0, j1, j2⟩, i0, i1, i2⟩ := h_cells b2
            have HB3 := h_set b2 (.int .u64 (n : Int)) (.int .u64 (k : Int)) (.bool s)
            have HBW := h_below (g := w.heap.size + 1) (.int .u64 (n : Int)) (.int .u64 (k : Int)) (.bool s) hbw1 (Nat.le_succ _)
            clear q4 q5 hbw b1 b2 hbw1
            go_wp2
            refine bodyPost_ret (results_w2 rfl _ _ (w.heap.size + 1) _ _ _ rfl HB3) rfl ?_
            exact ⟨by rw [E.out]; rfl, HBW⟩
          · obtain rfl : k = 18446744073709551615 := by omega
            obtain ⟨y, hy⟩ : ∃ y, y = l + m - 18446744073709551616 := ⟨_, rfl⟩
            have hwk : IntKind.u64.wrap ((l : Int) + (m : Int)) = (y : Int) := by
              have := hl.out
              have := H1.out
              dsimp only at *
              rw [show ((l : Int) + (m : Int)) = (y : Int) + 18446744073709551616 by omega]
              simp only [IntKind.wrap, IntKind.bits, IntKind.signed, Bool.false_and, Bool.false_eq_true, if_false]
              omega
            have e4 : decide ((y : Int) < (l : Int)) = true := by have := H1.out; have := hl.out; dsimp only at *; simp; omega
            have e5 : decide (y < l) = true := by have := H1.out; have := hl.out; dsimp only at *; simp; omega
            clear hk h4 hy
            dsimp only [wv, wc] at *
            clear hok HR hm q1 hnn h3
            go_enter Try.func8, Try.ntmps8
            go_wp2_with fail
            refine kc.mono ?_
            rintro e w1 ⟨rfl, hb1⟩
            obtain ⟨q4, q5⟩ := cl _ hb1
            obtain ⟨⟨f0, f1, f2⟩, c0, c1, c2⟩ := h_cells q4
            obtain ⟨⟨g0, g1, g2⟩, d0, d1, d2⟩ := h_cells q5
            have hbw := q3.trans (hb1.mono HS.out)
            clear kc cl hb1 q3 x0 x1 x2
            have b1 := set_1 q4 (.int .u64 18446744073709551615)
            have b2 := set_far (g := w.heap.size) (i := 1) q5 (Nat.ne_of_lt (Nat.lt_succ_self _)) (.int .u64 18446744073709551615)
            have hbw1 : Below w.heap.size w (w1.setCell ⟨w.heap.size, 1, none⟩ (.int .u64 18446744073709551615)) := hbw.setCell (p := ⟨w.heap.size, 1, none⟩) (Nat.le_refl _) _
            obtain ⟨W1, hW1⟩ : ∃ W1, w1.setCell ⟨w.heap.size, 1, none⟩ (.int .u64 18446744073709551615) = W1 := ⟨_, rfl⟩
            rw [hW1] at b1 b2 hbw1
            obtain ⟨-, r0, r1, r2⟩ := h_cells b1
            obtain ⟨⟨j0, j1, j2⟩, i0, i1, i2⟩ := h_cells b2
            have HB3 := h_set b2 (.int .u64 (n : Int)) (.int .u64 18446744073709551615) (.bool s)
            have HBW := h_below (g := w.heap.size + 1) (.int .u64 (n : Int)) (.int .u64 18446744073709551615) (.bool s) hbw1 (Nat.le_succ _)
            clear q4 q5 hbw b1 b2 hbw1
            go_wp2
            refine bodyPost_ret (results_w2 rfl _ _ (w.heap.size + 1) _ _ _ rfl HB3) rfl ?_
            exact ⟨by rw [E.out]; rfl, HBW⟩
end Go.Proofs.Ytghhijliamnmiaa

