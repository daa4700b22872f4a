import Derived.Test.YtghhijliamnmiaaHo12
/- The law OracleTurns answers true. -/
namespace Go.Proofs.Ytghhijliamnmiaa
open Go.RowKit OracleMath
set_option maxRecDepth 100000
set_option linter.unusedSimpArgs false
set_option linter.unusedVariables false

set_option maxHeartbeats 8000000 in
theorem turns_law (x : Wn) (z : Int) (nx : Nat) (w : World) (hok : OkW x) (hnx : nx < 18446744073709551616) : Calls Try.prog 3 #[wv x, .int .i64 z, .int .u64 (nx : Int)] w fun e w' => e = .returned (.bool true) ∧ Below w.heap.size w w' := by
  obtain ⟨C, HC⟩ : ∃ C : Int, C = if mayB x then 0 else 1 := ⟨_, rfl⟩
  obtain ⟨M, HM⟩ : ∃ M : Bool, M = mayB x := ⟨_, rfl⟩
  have hCM : (C == 0) = M := by rw [HC, HM]; cases mayB x <;> rfl
  obtain ⟨L, HL⟩ : ∃ L, L = lefM x := ⟨_, rfl⟩
  obtain ⟨⟨⟨a1, a2, a3⟩, ac⟩, HA⟩ : ∃ R, R = extM x z := ⟨_, rfl⟩
  obtain ⟨⟨⟨b1, b2, b3⟩, bt, bc⟩, HB⟩ : ∃ R, R = takM x := ⟨_, rfl⟩
  obtain ⟨⟨⟨d1, d2, d3⟩, dc⟩, HD⟩ : ∃ R, R = recM x := ⟨_, rfl⟩
  have kC : Hid (∀ W, Calls Try.prog 13 #[wv x] W fun e w' => e = .returned (.int .i64 C) ∧ Below W.heap.size W w') := fun W => by rw [HC]; exact check_of x W hok
  have kM : Hid (∀ W, Calls Try.prog 14 #[wv x] W fun e w' => e = .returned (.bool M) ∧ Below W.heap.size W w') := fun W => by rw [HM]; exact rmay_of x W hok
  have kL : Hid (∀ W, Calls Try.prog 16 #[wv x] W fun e w' => e = .returned (.int .u64 (L : Int)) ∧ Below W.heap.size W w') := fun W => by rw [HL]; exact left_of x W hok
  have kA1 : Hid (∀ W, Calls Try.prog 7 #[wv x, .int .i64 z] W fun e w' => e = .returned (.tuple #[.agg #[.int .u64 (a1 : Int), .int .u64 (a2 : Int), .bool a3], .int .i64 ac]) ∧ Below W.heap.size W w') := fun W => by have h9 := extend_of x z W hok; rw [← HA] at h9; exact h9
  have kA2 : Hid (∀ W, Calls Try.prog 8 #[wv x, .int .i64 z] W fun e w' => e = .returned (.tuple #[.agg #[.int .u64 (a1 : Int), .int .u64 (a2 : Int), .bool a3], .int .i64 ac]) ∧ Below W.heap.size W w') := fun W => by have h9 := rextend_of x z W hok; rw [← HA] at h9; exact h9
  have kB1 : Hid (∀ W, Calls Try.prog 9 #[wv x] W fun e w' => e = .returned (.tuple #[.agg #[.int .u64 (b1 : Int), .int .u64 (b2 : Int), .bool b3], .int .u64 (bt : Int), .int .i64 bc]) ∧ Below W.heap.size W w') := fun W => by have h9 := take_of x W hok; rw [← HB] at h9; exact h9
  have kB2 : Hid (∀ W, Calls Try.prog 10 #[wv x] W fun e w' => e = .returned (.tuple #[.agg #[.int .u64 (b1 : Int), .int .u64 (b2 : Int), .bool b3], .int .u64 (bt : Int), .int .i64 bc]) ∧ Below W.heap.size W w') := fun W => by have h9 := rtake_of x W hok; rw [← HB] at h9; exact h9
  have kD1 : Hid (∀ W, Calls Try.prog 11 #[wv x] W fun e w' => e = .returned (.tuple #[.agg #[.int .u64 (d1 : Int), .int .u64 (d2 : Int), .bool d3], .int .i64 dc]) ∧ Below W.heap.size W w') := fun W => by have h9 := recover_of x W hok; rw [← HD] at h9; exact h9
  have kD2 : Hid (∀ W, Calls Try.prog 12 #[wv x] W fun e w' => e = .returned (.tuple #[.agg #[.int .u64 (d1 : Int), .int .u64 (d2 : Int), .bool d3], .int .i64 dc]) ∧ Below W.heap.size W w') := fun W => by have h9 := rrecover_of x W hok; rw [← HD] at h9; exact h9
  have hLn : Hid (M = false → L = 0) := fun h => by rw [HL]; exact if_pos (.inl (by rw [← HM]; exact h))
  have hLs : Hid (x.2.2 = true → L = 0) := fun h => by rw [HL]; exact if_pos (.inr h)
  have hLm : Hid (M = true → x.2.2 = false → L = x.2.1 + 1 - x.1) := fun h h2 => by rw [HL]; exact if_neg (by rw [← HM, h, h2]; simp)
  have hn0 : Hid (M = true → x.1 ≠ 0) := fun h => (may_iff.1 (by rw [← HM]; exact h)).1
  obtain ⟨n, l, s⟩ := x
  have hn : Hid (n < 18446744073709551616) := hok.1
  have hl : Hid (l < 18446744073709551616) := hok.2
  dsimp only [wv] at *
  clear HC HM HL HA HB HD hok
  obtain ⟨t0, n0, B0⟩ := one_box w (.cells #[.int .u64 (n : Int), .int .u64 (l : Int), .bool s] 24)
  obtain ⟨-, c0, c1, c2⟩ := h_cells n0
  have hbw : Below w.heap.size w (w.alloc (.cells #[.int .u64 (n : Int), .int .u64 (l : Int), .bool s] 24)) := B0
  have HK0 : Hid (w.heap.size < (w.alloc (.cells #[.int .u64 (n : Int), .int .u64 (l : Int), .bool s] 24)).heap.size) := by show _ < _; rw [t0]; exact Nat.lt_succ_self _
  have kk := kA1.out (w.alloc (.cells #[.int .u64 (n : Int), .int .u64 (l : Int), .bool s] 24))
  obtain ⟨g0, hg0⟩ : ∃ g0, g0 = w.heap.size := ⟨_, rfl⟩
  rw [← hg0] at c0 c1 c2 n0 HK0
  go_enter Try.func3, Try.ntmps3
  go_wp2_with fail
  rw [← hg0]
  clear hg0 t0 B0 HK0
  generalize w.alloc (.cells #[.int .u64 (n : Int), .int .u64 (l : Int), .bool s] 24) = W0 at *
  refine kk.mono ?_
  rintro e v1 ⟨rfl, hb⟩
  clear kk c0 c1 c2
  obtain ⟨t1, n1, B1⟩ := one_box v1 (.cells #[.int .u64 (a1 : Int), .int .u64 (a2 : Int), .bool a3] 24)
  have hbw' := (hbw.trans (hb.mono hbw.size)).trans (B1.mono (hbw.trans (hb.mono hbw.size)).size)
  have n0' := (B1.block g0 (Nat.lt_of_lt_of_le (Array.getElem?_eq_some_iff.1 n0).1 hb.size)).trans ((hb.block g0 (Array.getElem?_eq_some_iff.1 n0).1).trans n0)
  clear n0 hbw hb
  have n0 := n0'
  clear n0'
  have hbw := hbw'
  clear hbw'
  obtain ⟨g1, hg1⟩ : ∃ g, g = v1.heap.size := ⟨_, rfl⟩
  rw [← hg1] at n1
  obtain ⟨-, c0, c1, c2⟩ := h_cells n0
  have kk := kA2.out (v1.alloc (.cells #[.int .u64 (a1 : Int), .int .u64 (a2 : Int), .bool a3] 24))
  go_wp2_with fail
  rw [← hg1]
  clear hg1 t1 B1
  generalize v1.alloc (.cells #[.int .u64 (a1 : Int), .int .u64 (a2 : Int), .bool a3] 24) = W1 at *
  refine kk.mono ?_
  rintro e v2 ⟨rfl, hb⟩
  clear kk c0 c1 c2
  obtain ⟨t2, n2, B2⟩ := one_box v2 (.cells #[.int .u64 (a1 : Int), .int .u64 (a2 : Int), .bool a3] 24)
  have hbw' := (hbw.trans (hb.mono hbw.size)).trans (B2.mono (hbw.trans (hb.mono hbw.size)).size)
  have n0' := (B2.block g0 (Nat.lt_of_lt_of_le (Array.getElem?_eq_some_iff.1 n0).1 hb.size)).trans ((hb.block g0 (Array.getElem?_eq_some_iff.1 n0).1).trans n0)
  have n1' := (B2.block g1 (Nat.lt_of_lt_of_le (Array.getElem?_eq_some_iff.1 n1).1 hb.size)).trans ((hb.block g1 (Array.getElem?_eq_some_iff.1 n1).1).trans n1)
  clear n0 n1 hbw hb
  have n0 := n0'
  clear n0'
  have n1 := n1'
  clear n1'
  have hbw := hbw'
  clear hbw'
  obtain ⟨g2, hg2⟩ : ∃ g, g = v2.heap.size := ⟨_, rfl⟩
  rw [← hg2] at n2
  obtain ⟨-, c0, c1, c2⟩ := h_cells n0
  have kk := kB1.out (v2.alloc (.cells #[.int .u64 (a1 : Int), .int .u64 (a2 : Int), .bool a3] 24))
  go_wp2_with fail
  rw [← hg2]
  clear hg2 t2 B2
  generalize v2.alloc (.cells #[.int .u64 (a1 : Int), .int .u64 (a2 : Int), .bool a3] 24) = W2 at *
  refine kk.mono ?_
  rintro e v3 ⟨rfl, hb⟩
  clear kk c0 c1 c2
  obtain ⟨t3, n3, B3⟩ := one_box v3 (.cells #[.int .u64 (b1 : Int), .int .u64 (b2 : Int), .bool b3] 24)
  have hbw' := (hbw.trans (hb.mono hbw.size)).trans (B3.mono (hbw.trans (hb.mono hbw.size)).size)
  have n0' := (B3.block g0 (Nat.lt_of_lt_of_le (Array.getElem?_eq_some_iff.1 n0).1 hb.size)).trans ((hb.block g0 (Array.getElem?_eq_some_iff.1 n0).1).trans n0)
  have n1' := (B3.block g1 (Nat.lt_of_lt_of_le (Array.getElem?_eq_some_iff.1 n1).1 hb.size)).trans ((hb.block g1 (Array.getElem?_eq_some_iff.1 n1).1).trans n1)
  have n2' := (B3.block g2 (Nat.lt_of_lt_of_le (Array.getElem?_eq_some_iff.1 n2).1 hb.size)).trans ((hb.block g2 (Array.getElem?_eq_some_iff.1 n2).1).trans n2)
  clear n0 n1 n2 hbw hb
  have n0 := n0'
  clear n0'
  have n1 := n1'
  clear n1'
  have n2 := n2'
  clear n2'
  have hbw := hbw'
  clear hbw'
  obtain ⟨g3, hg3⟩ : ∃ g, g = v3.heap.size := ⟨_, rfl⟩
  rw [← hg3] at n3
  obtain ⟨-, c0, c1, c2⟩ := h_cells n0
  have kk := kB2.out (v3.alloc (.cells #[.int .u64 (b1 : Int), .int .u64 (b2 : Int), .bool b3] 24))
  go_wp2_with fail
  rw [← hg3]
  clear hg3 t3 B3
  generalize v3.alloc (.cells #[.int .u64 (b1 : Int), .int .u64 (b2 : Int), .bool b3] 24) = W3 at *
  refine kk.mono ?_
  rintro e v4 ⟨rfl, hb⟩
  clear kk c0 c1 c2
  obtain ⟨t4, n4, B4⟩ := one_box v4 (.cells #[.int .u64 (b1 : Int), .int .u64 (b2 : Int), .bool b3] 24)
  have hbw' := (hbw.trans (hb.mono hbw.size)).trans (B4.mono (hbw.trans (hb.mono hbw.size)).size)
  have n0' := (B4.block g0 (Nat.lt_of_lt_of_le (Array.getElem?_eq_some_iff.1 n0).1 hb.size)).trans ((hb.block g0 (Array.getElem?_eq_some_iff.1 n0).1).trans n0)
  have n1' := (B4.block g1 (Nat.lt_of_lt_of_le (Array.getElem?_eq_some_iff.1 n1).1 hb.size)).trans ((hb.block g1 (Array.getElem?_eq_some_iff.1 n1).1).trans n1)
  have n2' := (B4.block g2 (Nat.lt_of_lt_of_le (Array.getElem?_eq_some_iff.1 n2).1 hb.size)).trans ((hb.block g2 (Array.getElem?_eq_some_iff.1 n2).1).trans n2)
  have n3' := (B4.block g3 (Nat.lt_of_lt_of_le (Array.getElem?_eq_some_iff.1 n3).1 hb.size)).trans ((hb.block g3 (Array.getElem?_eq_some_iff.1 n3).1).trans n3)
  clear n0 n1 n2 n3 hbw hb
  have n0 := n0'
  clear n0'
  have n1 := n1'
  clear n1'
  have n2 := n2'
  clear n2'
  have n3 := n3'
  clear n3'
  have hbw := hbw'
  clear hbw'
  obtain ⟨g4, hg4⟩ : ∃ g, g = v4.heap.size := ⟨_, rfl⟩
  rw [← hg4] at n4
  obtain ⟨-, c0, c1, c2⟩ := h_cells n0
  have kk := kD1.out (v4.alloc (.cells #[.int .u64 (b1 : Int), .int .u64 (b2 : Int), .bool b3] 24))
  go_wp2_with fail
  rw [← hg4]
  clear hg4 t4 B4
  generalize v4.alloc (.cells #[.int .u64 (b1 : Int), .int .u64 (b2 : Int), .bool b3] 24) = W4 at *
  refine kk.mono ?_
  rintro e v5 ⟨rfl, hb⟩
  clear kk c0 c1 c2
  obtain ⟨t5, n5, B5⟩ := one_box v5 (.cells #[.int .u64 (d1 : Int), .int .u64 (d2 : Int), .bool d3] 24)
  have hbw' := (hbw.trans (hb.mono hbw.size)).trans (B5.mono (hbw.trans (hb.mono hbw.size)).size)
  have n0' := (B5.block g0 (Nat.lt_of_lt_of_le (Array.getElem?_eq_some_iff.1 n0).1 hb.size)).trans ((hb.block g0 (Array.getElem?_eq_some_iff.1 n0).1).trans n0)
  have n1' := (B5.block g1 (Nat.lt_of_lt_of_le (Array.getElem?_eq_some_iff.1 n1).1 hb.size)).trans ((hb.block g1 (Array.getElem?_eq_some_iff.1 n1).1).trans n1)
  have n2' := (B5.block g2 (Nat.lt_of_lt_of_le (Array.getElem?_eq_some_iff.1 n2).1 hb.size)).trans ((hb.block g2 (Array.getElem?_eq_some_iff.1 n2).1).trans n2)
  have n3' := (B5.block g3 (Nat.lt_of_lt_of_le (Array.getElem?_eq_some_iff.1 n3).1 hb.size)).trans ((hb.block g3 (Array.getElem?_eq_some_iff.1 n3).1).trans n3)
  have n4' := (B5.block g4 (Nat.lt_of_lt_of_le (Array.getElem?_eq_some_iff.1 n4).1 hb.size)).trans ((hb.block g4 (Array.getElem?_eq_some_iff.1 n4).1).trans n4)
  clear n0 n1 n2 n3 n4 hbw hb
  have n0 := n0'
  clear n0'
  have n1 := n1'
  clear n1'
  have n2 := n2'
  clear n2'
  have n3 := n3'
  clear n3'
  have n4 := n4'
  clear n4'
  have hbw := hbw'
  clear hbw'
  obtain ⟨g5, hg5⟩ : ∃ g, g = v5.heap.size := ⟨_, rfl⟩
  rw [← hg5] at n5
  obtain ⟨-, c0, c1, c2⟩ := h_cells n0
  have kk := kD2.out (v5.alloc (.cells #[.int .u64 (d1 : Int), .int .u64 (d2 : Int), .bool d3] 24))
  go_wp2_with fail
  rw [← hg5]
  clear hg5 t5 B5
  generalize v5.alloc (.cells #[.int .u64 (d1 : Int), .int .u64 (d2 : Int), .bool d3] 24) = W5 at *
  refine kk.mono ?_
  rintro e v6 ⟨rfl, hb⟩
  clear kk c0 c1 c2
  obtain ⟨t6, n6, B6⟩ := one_box v6 (.cells #[.int .u64 (d1 : Int), .int .u64 (d2 : Int), .bool d3] 24)
  have hbw' := (hbw.trans (hb.mono hbw.size)).trans (B6.mono (hbw.trans (hb.mono hbw.size)).size)
  have n0' := (B6.block g0 (Nat.lt_of_lt_of_le (Array.getElem?_eq_some_iff.1 n0).1 hb.size)).trans ((hb.block g0 (Array.getElem?_eq_some_iff.1 n0).1).trans n0)
  have n1' := (B6.block g1 (Nat.lt_of_lt_of_le (Array.getElem?_eq_some_iff.1 n1).1 hb.size)).trans ((hb.block g1 (Array.getElem?_eq_some_iff.1 n1).1).trans n1)
  have n2' := (B6.block g2 (Nat.lt_of_lt_of_le (Array.getElem?_eq_some_iff.1 n2).1 hb.size)).trans ((hb.block g2 (Array.getElem?_eq_some_iff.1 n2).1).trans n2)
  have n3' := (B6.block g3 (Nat.lt_of_lt_of_le (Array.getElem?_eq_some_iff.1 n3).1 hb.size)).trans ((hb.block g3 (Array.getElem?_eq_some_iff.1 n3).1).trans n3)
  have n4' := (B6.block g4 (Nat.lt_of_lt_of_le (Array.getElem?_eq_some_iff.1 n4).1 hb.size)).trans ((hb.block g4 (Array.getElem?_eq_some_iff.1 n4).1).trans n4)
  have n5' := (B6.block g5 (Nat.lt_of_lt_of_le (Array.getElem?_eq_some_iff.1 n5).1 hb.size)).trans ((hb.block g5 (Array.getElem?_eq_some_iff.1 n5).1).trans n5)
  clear n0 n1 n2 n3 n4 n5 hbw hb
  have n0 := n0'
  clear n0'
  have n1 := n1'
  clear n1'
  have n2 := n2'
  clear n2'
  have n3 := n3'
  clear n3'
  have n4 := n4'
  clear n4'
  have n5 := n5'
  clear n5'
  have hbw := hbw'
  clear hbw'
  obtain ⟨g6, hg6⟩ : ∃ g, g = v6.heap.size := ⟨_, rfl⟩
  rw [← hg6] at n6
  obtain ⟨-, c0, c1, c2⟩ := h_cells n0
  go_wp2
  rw [← hg6]
  clear hg6 t6 B6
  generalize v6.alloc (.cells #[.int .u64 (d1 : Int), .int .u64 (d2 : Int), .bool d3] 24) = W6 at *
  refine wp_region_L (fun W => W.heap[g0]? = some (.cells #[.int .u64 (n : Int), .int .u64 (l : Int), .bool s] 24 (0, 0)) ∧ W.heap[g1]? = some (.cells #[.int .u64 (a1 : Int), .int .u64 (a2 : Int), .bool a3] 24 (0, 0)) ∧ W.heap[g2]? = some (.cells #[.int .u64 (a1 : Int), .int .u64 (a2 : Int), .bool a3] 24 (0, 0)) ∧ W.heap[g3]? = some (.cells #[.int .u64 (b1 : Int), .int .u64 (b2 : Int), .bool b3] 24 (0, 0)) ∧ W.heap[g4]? = some (.cells #[.int .u64 (b1 : Int), .int .u64 (b2 : Int), .bool b3] 24 (0, 0)) ∧ W.heap[g5]? = some (.cells #[.int .u64 (d1 : Int), .int .u64 (d2 : Int), .bool d3] 24 (0, 0)) ∧ W.heap[g6]? = some (.cells #[.int .u64 (d1 : Int), .int .u64 (d2 : Int), .bool d3] 24 (0, 0)) ∧ Below w.heap.size w W) [] (by kernel_rfl) ?_
  have yS : (fun W => W.heap[g0]? = some (.cells #[.int .u64 (n : Int), .int .u64 (l : Int), .bool s] 24 (0, 0)) ∧ W.heap[g1]? = some (.cells #[.int .u64 (a1 : Int), .int .u64 (a2 : Int), .bool a3] 24 (0, 0)) ∧ W.heap[g2]? = some (.cells #[.int .u64 (a1 : Int), .int .u64 (a2 : Int), .bool a3] 24 (0, 0)) ∧ W.heap[g3]? = some (.cells #[.int .u64 (b1 : Int), .int .u64 (b2 : Int), .bool b3] 24 (0, 0)) ∧ W.heap[g4]? = some (.cells #[.int .u64 (b1 : Int), .int .u64 (b2 : Int), .bool b3] 24 (0, 0)) ∧ W.heap[g5]? = some (.cells #[.int .u64 (d1 : Int), .int .u64 (d2 : Int), .bool d3] 24 (0, 0)) ∧ W.heap[g6]? = some (.cells #[.int .u64 (d1 : Int), .int .u64 (d2 : Int), .bool d3] 24 (0, 0)) ∧ Below w.heap.size w W) W6.drew := ⟨n0, n1, n2, n3, n4, n5, n6, hbw.drew⟩
  refine wpAnyL_take 0 rfl (by kernel_rfl) (by kernel_rfl) (by kernel_rfl) (by kernel_rfl) (fun _ _ _ h => h) (by kernel_rfl) (by intro w' hS'; obtain ⟨x0, x1, x2, x3, x4, x5, x6, xB⟩ := hS'; obtain ⟨-, y0a, y0b, y0c⟩ := h_cells x0; obtain ⟨-, y1a, y1b, y1c⟩ := h_cells x1; obtain ⟨-, y2a, y2b, y2c⟩ := h_cells x2; obtain ⟨-, y3a, y3b, y3c⟩ := h_cells x3; obtain ⟨-, y4a, y4b, y4c⟩ := h_cells x4; obtain ⟨-, y5a, y5b, y5c⟩ := h_cells x5; obtain ⟨-, y6a, y6b, y6c⟩ := h_cells x6; go_simp <;> rfl) yS ?_
  try simp only [List.getElem_toArray, List.getElem_cons_succ, List.getElem_cons_zero, Act.put, List.setIfInBounds_toArray, List.set_cons_zero, List.set_cons_succ]
  refine wpAnyL_take 3 rfl (by kernel_rfl) (by kernel_rfl) (by kernel_rfl) (by kernel_rfl) (fun _ _ _ h => h) (by kernel_rfl) (by intro w' hS'; obtain ⟨x0, x1, x2, x3, x4, x5, x6, xB⟩ := hS'; obtain ⟨-, y0a, y0b, y0c⟩ := h_cells x0; obtain ⟨-, y1a, y1b, y1c⟩ := h_cells x1; obtain ⟨-, y2a, y2b, y2c⟩ := h_cells x2; obtain ⟨-, y3a, y3b, y3c⟩ := h_cells x3; obtain ⟨-, y4a, y4b, y4c⟩ := h_cells x4; obtain ⟨-, y5a, y5b, y5c⟩ := h_cells x5; obtain ⟨-, y6a, y6b, y6c⟩ := h_cells x6; go_simp <;> rfl) yS ?_
  try simp only [List.getElem_toArray, List.getElem_cons_succ, List.getElem_cons_zero, Act.put, List.setIfInBounds_toArray, List.set_cons_zero, List.set_cons_succ]
  refine wpAnyL_one 1 (by kernel_rfl) rfl (by kernel_rfl) ?_
  intro K' hK'
  go_simp
  go_at_call 13
  refine (kC.out _).mono ?_
  rintro e U1 ⟨rfl, hq⟩
  have yS1 : (fun W => W.heap[g0]? = some (.cells #[.int .u64 (n : Int), .int .u64 (l : Int), .bool s] 24 (0, 0)) ∧ W.heap[g1]? = some (.cells #[.int .u64 (a1 : Int), .int .u64 (a2 : Int), .bool a3] 24 (0, 0)) ∧ W.heap[g2]? = some (.cells #[.int .u64 (a1 : Int), .int .u64 (a2 : Int), .bool a3] 24 (0, 0)) ∧ W.heap[g3]? = some (.cells #[.int .u64 (b1 : Int), .int .u64 (b2 : Int), .bool b3] 24 (0, 0)) ∧ W.heap[g4]? = some (.cells #[.int .u64 (b1 : Int), .int .u64 (b2 : Int), .bool b3] 24 (0, 0)) ∧ W.heap[g5]? = some (.cells #[.int .u64 (d1 : Int), .int .u64 (d2 : Int), .bool d3] 24 (0, 0)) ∧ W.heap[g6]? = some (.cells #[.int .u64 (d1 : Int), .int .u64 (d2 : Int), .bool d3] 24 (0, 0)) ∧ Below w.heap.size w W) U1 := ⟨(hq.block g0 (Array.getElem?_eq_some_iff.1 yS.1).1).trans yS.1, (hq.block g1 (Array.getElem?_eq_some_iff.1 yS.2.1).1).trans yS.2.1, (hq.block g2 (Array.getElem?_eq_some_iff.1 yS.2.2.1).1).trans yS.2.2.1, (hq.block g3 (Array.getElem?_eq_some_iff.1 yS.2.2.2.1).1).trans yS.2.2.2.1, (hq.block g4 (Array.getElem?_eq_some_iff.1 yS.2.2.2.2.1).1).trans yS.2.2.2.2.1, (hq.block g5 (Array.getElem?_eq_some_iff.1 yS.2.2.2.2.2.1).1).trans yS.2.2.2.2.2.1, (hq.block g6 (Array.getElem?_eq_some_iff.1 yS.2.2.2.2.2.2.1).1).trans yS.2.2.2.2.2.2.1, yS.2.2.2.2.2.2.2.trans (hq.mono yS.2.2.2.2.2.2.2.size)⟩
  clear hq
  refine hK'.out _ _ (.inr yS1) ?_
  clear hK' K'
  try simp only [List.getElem_toArray, List.getElem_cons_succ, List.getElem_cons_zero, Act.put, List.setIfInBounds_toArray, List.set_cons_zero, List.set_cons_succ]
  refine wpAnyL_take 2 rfl (by kernel_rfl) (by kernel_rfl) (by kernel_rfl) (by kernel_rfl) (fun _ _ _ h => h) (by kernel_rfl) (by intro w' hS'; obtain ⟨x0, x1, x2, x3, x4, x5, x6, xB⟩ := hS'; obtain ⟨-, y0a, y0b, y0c⟩ := h_cells x0; obtain ⟨-, y1a, y1b, y1c⟩ := h_cells x1; obtain ⟨-, y2a, y2b, y2c⟩ := h_cells x2; obtain ⟨-, y3a, y3b, y3c⟩ := h_cells x3; obtain ⟨-, y4a, y4b, y4c⟩ := h_cells x4; obtain ⟨-, y5a, y5b, y5c⟩ := h_cells x5; obtain ⟨-, y6a, y6b, y6c⟩ := h_cells x6; go_simp <;> rfl) yS1 ?_
  try simp only [List.getElem_toArray, List.getElem_cons_succ, List.getElem_cons_zero, Act.put, List.setIfInBounds_toArray, List.set_cons_zero, List.set_cons_succ]
  refine wpAnyL_one 4 (by kernel_rfl) rfl (by kernel_rfl) ?_
  intro K' hK'
  go_simp
  go_at_call 14
  refine (kM.out _).mono ?_
  rintro e U2 ⟨rfl, hq⟩
  have yS2 : (fun W => W.heap[g0]? = some (.cells #[.int .u64 (n : Int), .int .u64 (l : Int), .bool s] 24 (0, 0)) ∧ W.heap[g1]? = some (.cells #[.int .u64 (a1 : Int), .int .u64 (a2 : Int), .bool a3] 24 (0, 0)) ∧ W.heap[g2]? = some (.cells #[.int .u64 (a1 : Int), .int .u64 (a2 : Int), .bool a3] 24 (0, 0)) ∧ W.heap[g3]? = some (.cells #[.int .u64 (b1 : Int), .int .u64 (b2 : Int), .bool b3] 24 (0, 0)) ∧ W.heap[g4]? = some (.cells #[.int .u64 (b1 : Int), .int .u64 (b2 : Int), .bool b3] 24 (0, 0)) ∧ W.heap[g5]? = some (.cells #[.int .u64 (d1 : Int), .int .u64 (d2 : Int), .bool d3] 24 (0, 0)) ∧ W.heap[g6]? = some (.cells #[.int .u64 (d1 : Int), .int .u64 (d2 : Int), .bool d3] 24 (0, 0)) ∧ Below w.heap.size w W) U2 := ⟨(hq.block g0 (Array.getElem?_eq_some_iff.1 yS1.1).1).trans yS1.1, (hq.block g1 (Array.getElem?_eq_some_iff.1 yS1.2.1).1).trans yS1.2.1, (hq.block g2 (Array.getElem?_eq_some_iff.1 yS1.2.2.1).1).trans yS1.2.2.1, (hq.block g3 (Array.getElem?_eq_some_iff.1 yS1.2.2.2.1).1).trans yS1.2.2.2.1, (hq.block g4 (Array.getElem?_eq_some_iff.1 yS1.2.2.2.2.1).1).trans yS1.2.2.2.2.1, (hq.block g5 (Array.getElem?_eq_some_iff.1 yS1.2.2.2.2.2.1).1).trans yS1.2.2.2.2.2.1, (hq.block g6 (Array.getElem?_eq_some_iff.1 yS1.2.2.2.2.2.2.1).1).trans yS1.2.2.2.2.2.2.1, yS1.2.2.2.2.2.2.2.trans (hq.mono yS1.2.2.2.2.2.2.2.size)⟩
  clear hq
  refine hK'.out _ _ (.inr yS2) ?_
  clear hK' K'
  try simp only [List.getElem_toArray, List.getElem_cons_succ, List.getElem_cons_zero, Act.put, List.setIfInBounds_toArray, List.set_cons_zero, List.set_cons_succ]
  refine wpAnyL_take 5 rfl (by kernel_rfl) (by kernel_rfl) (by kernel_rfl) (by kernel_rfl) (fun _ _ _ h => h) (by kernel_rfl) (by intro w' hS'; obtain ⟨x0, x1, x2, x3, x4, x5, x6, xB⟩ := hS'; obtain ⟨-, y0a, y0b, y0c⟩ := h_cells x0; obtain ⟨-, y1a, y1b, y1c⟩ := h_cells x1; obtain ⟨-, y2a, y2b, y2c⟩ := h_cells x2; obtain ⟨-, y3a, y3b, y3c⟩ := h_cells x3; obtain ⟨-, y4a, y4b, y4c⟩ := h_cells x4; obtain ⟨-, y5a, y5b, y5c⟩ := h_cells x5; obtain ⟨-, y6a, y6b, y6c⟩ := h_cells x6; go_simp <;> rfl) yS2 ?_
  try simp only [List.getElem_toArray, List.getElem_cons_succ, List.getElem_cons_zero, Act.put, List.setIfInBounds_toArray, List.set_cons_zero, List.set_cons_succ]
  refine wpAnyL_take 6 rfl (by kernel_rfl) (by kernel_rfl) (by kernel_rfl) (by kernel_rfl) (fun _ _ _ h => h) (by kernel_rfl) (by intro w' hS'; obtain ⟨x0, x1, x2, x3, x4, x5, x6, xB⟩ := hS'; obtain ⟨-, y0a, y0b, y0c⟩ := h_cells x0; obtain ⟨-, y1a, y1b, y1c⟩ := h_cells x1; obtain ⟨-, y2a, y2b, y2c⟩ := h_cells x2; obtain ⟨-, y3a, y3b, y3c⟩ := h_cells x3; obtain ⟨-, y4a, y4b, y4c⟩ := h_cells x4; obtain ⟨-, y5a, y5b, y5c⟩ := h_cells x5; obtain ⟨-, y6a, y6b, y6c⟩ := h_cells x6; go_simp <;> rfl) yS2 ?_
  try simp only [List.getElem_toArray, List.getElem_cons_succ, List.getElem_cons_zero, Act.put, List.setIfInBounds_toArray, List.set_cons_zero, List.set_cons_succ]
  refine wpAnyL_take 7 rfl (by kernel_rfl) (by kernel_rfl) (by kernel_rfl) (by kernel_rfl) (fun _ _ _ h => h) (by kernel_rfl) (by intro w' hS'; obtain ⟨x0, x1, x2, x3, x4, x5, x6, xB⟩ := hS'; obtain ⟨-, y0a, y0b, y0c⟩ := h_cells x0; obtain ⟨-, y1a, y1b, y1c⟩ := h_cells x1; obtain ⟨-, y2a, y2b, y2c⟩ := h_cells x2; obtain ⟨-, y3a, y3b, y3c⟩ := h_cells x3; obtain ⟨-, y4a, y4b, y4c⟩ := h_cells x4; obtain ⟨-, y5a, y5b, y5c⟩ := h_cells x5; obtain ⟨-, y6a, y6b, y6c⟩ := h_cells x6; go_simp <;> rfl) yS2 ?_
  try simp only [List.getElem_toArray, List.getElem_cons_succ, List.getElem_cons_zero, Act.put, List.setIfInBounds_toArray, List.set_cons_zero, List.set_cons_succ]
  refine wpAnyL_take 8 rfl (by kernel_rfl) (by kernel_rfl) (by kernel_rfl) (by kernel_rfl) (fun _ _ _ h => h) (by kernel_rfl) (by intro w' hS'; obtain ⟨x0, x1, x2, x3, x4, x5, x6, xB⟩ := hS'; obtain ⟨-, y0a, y0b, y0c⟩ := h_cells x0; obtain ⟨-, y1a, y1b, y1c⟩ := h_cells x1; obtain ⟨-, y2a, y2b, y2c⟩ := h_cells x2; obtain ⟨-, y3a, y3b, y3c⟩ := h_cells x3; obtain ⟨-, y4a, y4b, y4c⟩ := h_cells x4; obtain ⟨-, y5a, y5b, y5c⟩ := h_cells x5; obtain ⟨-, y6a, y6b, y6c⟩ := h_cells x6; go_simp <;> rfl) yS2 ?_
  try simp only [List.getElem_toArray, List.getElem_cons_succ, List.getElem_cons_zero, Act.put, List.setIfInBounds_toArray, List.set_cons_zero, List.set_cons_succ]
  refine wpAnyL_take 9 rfl (by kernel_rfl) (by kernel_rfl) (by kernel_rfl) (by kernel_rfl) (fun _ _ _ h => h) (by kernel_rfl) (by intro w' hS'; obtain ⟨x0, x1, x2, x3, x4, x5, x6, xB⟩ := hS'; obtain ⟨-, y0a, y0b, y0c⟩ := h_cells x0; obtain ⟨-, y1a, y1b, y1c⟩ := h_cells x1; obtain ⟨-, y2a, y2b, y2c⟩ := h_cells x2; obtain ⟨-, y3a, y3b, y3c⟩ := h_cells x3; obtain ⟨-, y4a, y4b, y4c⟩ := h_cells x4; obtain ⟨-, y5a, y5b, y5c⟩ := h_cells x5; obtain ⟨-, y6a, y6b, y6c⟩ := h_cells x6; go_simp <;> rfl) yS2 ?_
  try simp only [List.getElem_toArray, List.getElem_cons_succ, List.getElem_cons_zero, Act.put, List.setIfInBounds_toArray, List.set_cons_zero, List.set_cons_succ]
  refine wpAnyL_take 10 rfl (by kernel_rfl) (by kernel_rfl) (by kernel_rfl) (by kernel_rfl) (fun _ _ _ h => h) (by kernel_rfl) (by intro w' hS'; obtain ⟨x0, x1, x2, x3, x4, x5, x6, xB⟩ := hS'; obtain ⟨-, y0a, y0b, y0c⟩ := h_cells x0; obtain ⟨-, y1a, y1b, y1c⟩ := h_cells x1; obtain ⟨-, y2a, y2b, y2c⟩ := h_cells x2; obtain ⟨-, y3a, y3b, y3c⟩ := h_cells x3; obtain ⟨-, y4a, y4b, y4c⟩ := h_cells x4; obtain ⟨-, y5a, y5b, y5c⟩ := h_cells x5; obtain ⟨-, y6a, y6b, y6c⟩ := h_cells x6; go_simp <;> rfl) yS2 ?_
  try simp only [List.getElem_toArray, List.getElem_cons_succ, List.getElem_cons_zero, Act.put, List.setIfInBounds_toArray, List.set_cons_zero, List.set_cons_succ]
  refine wpAnyL_take 11 rfl (by kernel_rfl) (by kernel_rfl) (by kernel_rfl) (by kernel_rfl) (fun _ _ _ h => h) (by kernel_rfl) (by intro w' hS'; obtain ⟨x0, x1, x2, x3, x4, x5, x6, xB⟩ := hS'; obtain ⟨-, y0a, y0b, y0c⟩ := h_cells x0; obtain ⟨-, y1a, y1b, y1c⟩ := h_cells x1; obtain ⟨-, y2a, y2b, y2c⟩ := h_cells x2; obtain ⟨-, y3a, y3b, y3c⟩ := h_cells x3; obtain ⟨-, y4a, y4b, y4c⟩ := h_cells x4; obtain ⟨-, y5a, y5b, y5c⟩ := h_cells x5; obtain ⟨-, y6a, y6b, y6c⟩ := h_cells x6; go_simp <;> rfl) yS2 ?_
  try simp only [List.getElem_toArray, List.getElem_cons_succ, List.getElem_cons_zero, Act.put, List.setIfInBounds_toArray, List.set_cons_zero, List.set_cons_succ]
  refine wpAnyL_take 12 rfl (by kernel_rfl) (by kernel_rfl) (by kernel_rfl) (by kernel_rfl) (fun _ _ _ h => h) (by kernel_rfl) (by intro w' hS'; obtain ⟨x0, x1, x2, x3, x4, x5, x6, xB⟩ := hS'; obtain ⟨-, y0a, y0b, y0c⟩ := h_cells x0; obtain ⟨-, y1a, y1b, y1c⟩ := h_cells x1; obtain ⟨-, y2a, y2b, y2c⟩ := h_cells x2; obtain ⟨-, y3a, y3b, y3c⟩ := h_cells x3; obtain ⟨-, y4a, y4b, y4c⟩ := h_cells x4; obtain ⟨-, y5a, y5b, y5c⟩ := h_cells x5; obtain ⟨-, y6a, y6b, y6c⟩ := h_cells x6; go_simp <;> rfl) yS2 ?_
  try simp only [List.getElem_toArray, List.getElem_cons_succ, List.getElem_cons_zero, Act.put, List.setIfInBounds_toArray, List.set_cons_zero, List.set_cons_succ]
  refine wpAnyL_take 13 rfl (by kernel_rfl) (by kernel_rfl) (by kernel_rfl) (by kernel_rfl) (fun _ _ _ h => h) (by kernel_rfl) (by intro w' hS'; obtain ⟨x0, x1, x2, x3, x4, x5, x6, xB⟩ := hS'; obtain ⟨-, y0a, y0b, y0c⟩ := h_cells x0; obtain ⟨-, y1a, y1b, y1c⟩ := h_cells x1; obtain ⟨-, y2a, y2b, y2c⟩ := h_cells x2; obtain ⟨-, y3a, y3b, y3c⟩ := h_cells x3; obtain ⟨-, y4a, y4b, y4c⟩ := h_cells x4; obtain ⟨-, y5a, y5b, y5c⟩ := h_cells x5; obtain ⟨-, y6a, y6b, y6c⟩ := h_cells x6; go_simp <;> rfl) yS2 ?_
  try simp only [List.getElem_toArray, List.getElem_cons_succ, List.getElem_cons_zero, Act.put, List.setIfInBounds_toArray, List.set_cons_zero, List.set_cons_succ]
  refine wpAnyL_take 14 rfl (by kernel_rfl) (by kernel_rfl) (by kernel_rfl) (by kernel_rfl) (fun _ _ _ h => h) (by kernel_rfl) (by intro w' hS'; obtain ⟨x0, x1, x2, x3, x4, x5, x6, xB⟩ := hS'; obtain ⟨-, y0a, y0b, y0c⟩ := h_cells x0; obtain ⟨-, y1a, y1b, y1c⟩ := h_cells x1; obtain ⟨-, y2a, y2b, y2c⟩ := h_cells x2; obtain ⟨-, y3a, y3b, y3c⟩ := h_cells x3; obtain ⟨-, y4a, y4b, y4c⟩ := h_cells x4; obtain ⟨-, y5a, y5b, y5c⟩ := h_cells x5; obtain ⟨-, y6a, y6b, y6c⟩ := h_cells x6; go_simp <;> rfl) yS2 ?_
  try simp only [List.getElem_toArray, List.getElem_cons_succ, List.getElem_cons_zero, Act.put, List.setIfInBounds_toArray, List.set_cons_zero, List.set_cons_succ]
  refine wpAnyL_take 15 rfl (by kernel_rfl) (by kernel_rfl) (by kernel_rfl) (by kernel_rfl) (fun _ _ _ h => h) (by kernel_rfl) (by intro w' hS'; obtain ⟨x0, x1, x2, x3, x4, x5, x6, xB⟩ := hS'; obtain ⟨-, y0a, y0b, y0c⟩ := h_cells x0; obtain ⟨-, y1a, y1b, y1c⟩ := h_cells x1; obtain ⟨-, y2a, y2b, y2c⟩ := h_cells x2; obtain ⟨-, y3a, y3b, y3c⟩ := h_cells x3; obtain ⟨-, y4a, y4b, y4c⟩ := h_cells x4; obtain ⟨-, y5a, y5b, y5c⟩ := h_cells x5; obtain ⟨-, y6a, y6b, y6c⟩ := h_cells x6; go_simp <;> rfl) yS2 ?_
  try simp only [List.getElem_toArray, List.getElem_cons_succ, List.getElem_cons_zero, Act.put, List.setIfInBounds_toArray, List.set_cons_zero, List.set_cons_succ]
  refine wpAnyL_take 16 rfl (by kernel_rfl) (by kernel_rfl) (by kernel_rfl) (by kernel_rfl) (fun _ _ _ h => h) (by kernel_rfl) (by intro w' hS'; obtain ⟨x0, x1, x2, x3, x4, x5, x6, xB⟩ := hS'; obtain ⟨-, y0a, y0b, y0c⟩ := h_cells x0; obtain ⟨-, y1a, y1b, y1c⟩ := h_cells x1; obtain ⟨-, y2a, y2b, y2c⟩ := h_cells x2; obtain ⟨-, y3a, y3b, y3c⟩ := h_cells x3; obtain ⟨-, y4a, y4b, y4c⟩ := h_cells x4; obtain ⟨-, y5a, y5b, y5c⟩ := h_cells x5; obtain ⟨-, y6a, y6b, y6c⟩ := h_cells x6; go_simp <;> rfl) yS2 ?_
  try simp only [List.getElem_toArray, List.getElem_cons_succ, List.getElem_cons_zero, Act.put, List.setIfInBounds_toArray, List.set_cons_zero, List.set_cons_succ]
  refine wpAnyL_take 17 rfl (by kernel_rfl) (by kernel_rfl) (by kernel_rfl) (by kernel_rfl) (fun _ _ _ h => h) (by kernel_rfl) (by intro w' hS'; obtain ⟨x0, x1, x2, x3, x4, x5, x6, xB⟩ := hS'; obtain ⟨-, y0a, y0b, y0c⟩ := h_cells x0; obtain ⟨-, y1a, y1b, y1c⟩ := h_cells x1; obtain ⟨-, y2a, y2b, y2c⟩ := h_cells x2; obtain ⟨-, y3a, y3b, y3c⟩ := h_cells x3; obtain ⟨-, y4a, y4b, y4c⟩ := h_cells x4; obtain ⟨-, y5a, y5b, y5c⟩ := h_cells x5; obtain ⟨-, y6a, y6b, y6c⟩ := h_cells x6; go_simp <;> rfl) yS2 ?_
  try simp only [List.getElem_toArray, List.getElem_cons_succ, List.getElem_cons_zero, Act.put, List.setIfInBounds_toArray, List.set_cons_zero, List.set_cons_succ]
  refine wpAnyL_take 18 rfl (by kernel_rfl) (by kernel_rfl) (by kernel_rfl) (by kernel_rfl) (fun _ _ _ h => h) (by kernel_rfl) (by intro w' hS'; obtain ⟨x0, x1, x2, x3, x4, x5, x6, xB⟩ := hS'; obtain ⟨-, y0a, y0b, y0c⟩ := h_cells x0; obtain ⟨-, y1a, y1b, y1c⟩ := h_cells x1; obtain ⟨-, y2a, y2b, y2c⟩ := h_cells x2; obtain ⟨-, y3a, y3b, y3c⟩ := h_cells x3; obtain ⟨-, y4a, y4b, y4c⟩ := h_cells x4; obtain ⟨-, y5a, y5b, y5c⟩ := h_cells x5; obtain ⟨-, y6a, y6b, y6c⟩ := h_cells x6; go_simp <;> rfl) yS2 ?_
  try simp only [List.getElem_toArray, List.getElem_cons_succ, List.getElem_cons_zero, Act.put, List.setIfInBounds_toArray, List.set_cons_zero, List.set_cons_succ]
  refine wpAnyL_take 19 rfl (by kernel_rfl) (by kernel_rfl) (by kernel_rfl) (by kernel_rfl) (fun _ _ _ h => h) (by kernel_rfl) (by intro w' hS'; obtain ⟨x0, x1, x2, x3, x4, x5, x6, xB⟩ := hS'; obtain ⟨-, y0a, y0b, y0c⟩ := h_cells x0; obtain ⟨-, y1a, y1b, y1c⟩ := h_cells x1; obtain ⟨-, y2a, y2b, y2c⟩ := h_cells x2; obtain ⟨-, y3a, y3b, y3c⟩ := h_cells x3; obtain ⟨-, y4a, y4b, y4c⟩ := h_cells x4; obtain ⟨-, y5a, y5b, y5c⟩ := h_cells x5; obtain ⟨-, y6a, y6b, y6c⟩ := h_cells x6; go_simp <;> rfl) yS2 ?_
  try simp only [List.getElem_toArray, List.getElem_cons_succ, List.getElem_cons_zero, Act.put, List.setIfInBounds_toArray, List.set_cons_zero, List.set_cons_succ]
  refine wpAnyL_take 20 rfl (by kernel_rfl) (by kernel_rfl) (by kernel_rfl) (by kernel_rfl) (fun _ _ _ h => h) (by kernel_rfl) (by intro w' hS'; obtain ⟨x0, x1, x2, x3, x4, x5, x6, xB⟩ := hS'; obtain ⟨-, y0a, y0b, y0c⟩ := h_cells x0; obtain ⟨-, y1a, y1b, y1c⟩ := h_cells x1; obtain ⟨-, y2a, y2b, y2c⟩ := h_cells x2; obtain ⟨-, y3a, y3b, y3c⟩ := h_cells x3; obtain ⟨-, y4a, y4b, y4c⟩ := h_cells x4; obtain ⟨-, y5a, y5b, y5c⟩ := h_cells x5; obtain ⟨-, y6a, y6b, y6c⟩ := h_cells x6; go_simp <;> rfl) yS2 ?_
  try simp only [List.getElem_toArray, List.getElem_cons_succ, List.getElem_cons_zero, Act.put, List.setIfInBounds_toArray, List.set_cons_zero, List.set_cons_succ]
  refine wpAnyL_take 21 rfl (by kernel_rfl) (by kernel_rfl) (by kernel_rfl) (by kernel_rfl) (fun _ _ _ h => h) (by kernel_rfl) (by intro w' hS'; obtain ⟨x0, x1, x2, x3, x4, x5, x6, xB⟩ := hS'; obtain ⟨-, y0a, y0b, y0c⟩ := h_cells x0; obtain ⟨-, y1a, y1b, y1c⟩ := h_cells x1; obtain ⟨-, y2a, y2b, y2c⟩ := h_cells x2; obtain ⟨-, y3a, y3b, y3c⟩ := h_cells x3; obtain ⟨-, y4a, y4b, y4c⟩ := h_cells x4; obtain ⟨-, y5a, y5b, y5c⟩ := h_cells x5; obtain ⟨-, y6a, y6b, y6c⟩ := h_cells x6; go_simp <;> rfl) yS2 ?_
  try simp only [List.getElem_toArray, List.getElem_cons_succ, List.getElem_cons_zero, Act.put, List.setIfInBounds_toArray, List.set_cons_zero, List.set_cons_succ]
  refine wpAnyL_take 22 rfl (by kernel_rfl) (by kernel_rfl) (by kernel_rfl) (by kernel_rfl) (fun _ _ _ h => h) (by kernel_rfl) (by intro w' hS'; obtain ⟨x0, x1, x2, x3, x4, x5, x6, xB⟩ := hS'; obtain ⟨-, y0a, y0b, y0c⟩ := h_cells x0; obtain ⟨-, y1a, y1b, y1c⟩ := h_cells x1; obtain ⟨-, y2a, y2b, y2c⟩ := h_cells x2; obtain ⟨-, y3a, y3b, y3c⟩ := h_cells x3; obtain ⟨-, y4a, y4b, y4c⟩ := h_cells x4; obtain ⟨-, y5a, y5b, y5c⟩ := h_cells x5; obtain ⟨-, y6a, y6b, y6c⟩ := h_cells x6; go_simp <;> rfl) yS2 ?_
  try simp only [List.getElem_toArray, List.getElem_cons_succ, List.getElem_cons_zero, Act.put, List.setIfInBounds_toArray, List.set_cons_zero, List.set_cons_succ]
  refine wpAnyL_take 23 rfl (by kernel_rfl) (by kernel_rfl) (by kernel_rfl) (by kernel_rfl) (fun _ _ _ h => h) (by kernel_rfl) (by intro w' hS'; obtain ⟨x0, x1, x2, x3, x4, x5, x6, xB⟩ := hS'; obtain ⟨-, y0a, y0b, y0c⟩ := h_cells x0; obtain ⟨-, y1a, y1b, y1c⟩ := h_cells x1; obtain ⟨-, y2a, y2b, y2c⟩ := h_cells x2; obtain ⟨-, y3a, y3b, y3c⟩ := h_cells x3; obtain ⟨-, y4a, y4b, y4c⟩ := h_cells x4; obtain ⟨-, y5a, y5b, y5c⟩ := h_cells x5; obtain ⟨-, y6a, y6b, y6c⟩ := h_cells x6; go_simp <;> rfl) yS2 ?_
  try simp only [List.getElem_toArray, List.getElem_cons_succ, List.getElem_cons_zero, Act.put, List.setIfInBounds_toArray, List.set_cons_zero, List.set_cons_succ]
  refine wpAnyL_take 24 rfl (by kernel_rfl) (by kernel_rfl) (by kernel_rfl) (by kernel_rfl) (fun _ _ _ h => h) (by kernel_rfl) (by intro w' hS'; obtain ⟨x0, x1, x2, x3, x4, x5, x6, xB⟩ := hS'; obtain ⟨-, y0a, y0b, y0c⟩ := h_cells x0; obtain ⟨-, y1a, y1b, y1c⟩ := h_cells x1; obtain ⟨-, y2a, y2b, y2c⟩ := h_cells x2; obtain ⟨-, y3a, y3b, y3c⟩ := h_cells x3; obtain ⟨-, y4a, y4b, y4c⟩ := h_cells x4; obtain ⟨-, y5a, y5b, y5c⟩ := h_cells x5; obtain ⟨-, y6a, y6b, y6c⟩ := h_cells x6; go_simp <;> rfl) yS2 ?_
  try simp only [List.getElem_toArray, List.getElem_cons_succ, List.getElem_cons_zero, Act.put, List.setIfInBounds_toArray, List.set_cons_zero, List.set_cons_succ]
  refine wpAnyL_take 25 rfl (by kernel_rfl) (by kernel_rfl) (by kernel_rfl) (by kernel_rfl) (fun _ _ _ h => h) (by kernel_rfl) (by intro w' hS'; obtain ⟨x0, x1, x2, x3, x4, x5, x6, xB⟩ := hS'; obtain ⟨-, y0a, y0b, y0c⟩ := h_cells x0; obtain ⟨-, y1a, y1b, y1c⟩ := h_cells x1; obtain ⟨-, y2a, y2b, y2c⟩ := h_cells x2; obtain ⟨-, y3a, y3b, y3c⟩ := h_cells x3; obtain ⟨-, y4a, y4b, y4c⟩ := h_cells x4; obtain ⟨-, y5a, y5b, y5c⟩ := h_cells x5; obtain ⟨-, y6a, y6b, y6c⟩ := h_cells x6; go_simp <;> rfl) yS2 ?_
  try simp only [List.getElem_toArray, List.getElem_cons_succ, List.getElem_cons_zero, Act.put, List.setIfInBounds_toArray, List.set_cons_zero, List.set_cons_succ]
  refine wpAnyL_take 26 rfl (by kernel_rfl) (by kernel_rfl) (by kernel_rfl) (by kernel_rfl) (fun _ _ _ h => h) (by kernel_rfl) (by intro w' hS'; obtain ⟨x0, x1, x2, x3, x4, x5, x6, xB⟩ := hS'; obtain ⟨-, y0a, y0b, y0c⟩ := h_cells x0; obtain ⟨-, y1a, y1b, y1c⟩ := h_cells x1; obtain ⟨-, y2a, y2b, y2c⟩ := h_cells x2; obtain ⟨-, y3a, y3b, y3c⟩ := h_cells x3; obtain ⟨-, y4a, y4b, y4c⟩ := h_cells x4; obtain ⟨-, y5a, y5b, y5c⟩ := h_cells x5; obtain ⟨-, y6a, y6b, y6c⟩ := h_cells x6; go_simp <;> rfl) yS2 ?_
  try simp only [List.getElem_toArray, List.getElem_cons_succ, List.getElem_cons_zero, Act.put, List.setIfInBounds_toArray, List.set_cons_zero, List.set_cons_succ]
  refine wpAnyL_take 27 rfl (by kernel_rfl) (by kernel_rfl) (by kernel_rfl) (by kernel_rfl) (fun _ _ _ h => h) (by kernel_rfl) (by intro w' hS'; obtain ⟨x0, x1, x2, x3, x4, x5, x6, xB⟩ := hS'; obtain ⟨-, y0a, y0b, y0c⟩ := h_cells x0; obtain ⟨-, y1a, y1b, y1c⟩ := h_cells x1; obtain ⟨-, y2a, y2b, y2c⟩ := h_cells x2; obtain ⟨-, y3a, y3b, y3c⟩ := h_cells x3; obtain ⟨-, y4a, y4b, y4c⟩ := h_cells x4; obtain ⟨-, y5a, y5b, y5c⟩ := h_cells x5; obtain ⟨-, y6a, y6b, y6c⟩ := h_cells x6; go_simp <;> rfl) yS2 ?_
  try simp only [List.getElem_toArray, List.getElem_cons_succ, List.getElem_cons_zero, Act.put, List.setIfInBounds_toArray, List.set_cons_zero, List.set_cons_succ]
  refine wpAnyL_take 28 rfl (by kernel_rfl) (by kernel_rfl) (by kernel_rfl) (by kernel_rfl) (fun _ _ _ h => h) (by kernel_rfl) (by intro w' hS'; obtain ⟨x0, x1, x2, x3, x4, x5, x6, xB⟩ := hS'; obtain ⟨-, y0a, y0b, y0c⟩ := h_cells x0; obtain ⟨-, y1a, y1b, y1c⟩ := h_cells x1; obtain ⟨-, y2a, y2b, y2c⟩ := h_cells x2; obtain ⟨-, y3a, y3b, y3c⟩ := h_cells x3; obtain ⟨-, y4a, y4b, y4c⟩ := h_cells x4; obtain ⟨-, y5a, y5b, y5c⟩ := h_cells x5; obtain ⟨-, y6a, y6b, y6c⟩ := h_cells x6; go_simp <;> rfl) yS2 ?_
  try simp only [List.getElem_toArray, List.getElem_cons_succ, List.getElem_cons_zero, Act.put, List.setIfInBounds_toArray, List.set_cons_zero, List.set_cons_succ]
  refine wpAnyL_take 29 rfl (by kernel_rfl) (by kernel_rfl) (by kernel_rfl) (by kernel_rfl) (fun _ _ _ h => h) (by kernel_rfl) (by intro w' hS'; obtain ⟨x0, x1, x2, x3, x4, x5, x6, xB⟩ := hS'; obtain ⟨-, y0a, y0b, y0c⟩ := h_cells x0; obtain ⟨-, y1a, y1b, y1c⟩ := h_cells x1; obtain ⟨-, y2a, y2b, y2c⟩ := h_cells x2; obtain ⟨-, y3a, y3b, y3c⟩ := h_cells x3; obtain ⟨-, y4a, y4b, y4c⟩ := h_cells x4; obtain ⟨-, y5a, y5b, y5c⟩ := h_cells x5; obtain ⟨-, y6a, y6b, y6c⟩ := h_cells x6; go_simp <;> rfl) yS2 ?_
  try simp only [List.getElem_toArray, List.getElem_cons_succ, List.getElem_cons_zero, Act.put, List.setIfInBounds_toArray, List.set_cons_zero, List.set_cons_succ]
  refine wpAnyL_take 30 rfl (by kernel_rfl) (by kernel_rfl) (by kernel_rfl) (by kernel_rfl) (fun _ _ _ h => h) (by kernel_rfl) (by intro w' hS'; obtain ⟨x0, x1, x2, x3, x4, x5, x6, xB⟩ := hS'; obtain ⟨-, y0a, y0b, y0c⟩ := h_cells x0; obtain ⟨-, y1a, y1b, y1c⟩ := h_cells x1; obtain ⟨-, y2a, y2b, y2c⟩ := h_cells x2; obtain ⟨-, y3a, y3b, y3c⟩ := h_cells x3; obtain ⟨-, y4a, y4b, y4c⟩ := h_cells x4; obtain ⟨-, y5a, y5b, y5c⟩ := h_cells x5; obtain ⟨-, y6a, y6b, y6c⟩ := h_cells x6; go_simp <;> rfl) yS2 ?_
  try simp only [List.getElem_toArray, List.getElem_cons_succ, List.getElem_cons_zero, Act.put, List.setIfInBounds_toArray, List.set_cons_zero, List.set_cons_succ]
  refine wpAnyL_take 31 rfl (by kernel_rfl) (by kernel_rfl) (by kernel_rfl) (by kernel_rfl) (fun _ _ _ h => h) (by kernel_rfl) (by intro w' hS'; obtain ⟨x0, x1, x2, x3, x4, x5, x6, xB⟩ := hS'; obtain ⟨-, y0a, y0b, y0c⟩ := h_cells x0; obtain ⟨-, y1a, y1b, y1c⟩ := h_cells x1; obtain ⟨-, y2a, y2b, y2c⟩ := h_cells x2; obtain ⟨-, y3a, y3b, y3c⟩ := h_cells x3; obtain ⟨-, y4a, y4b, y4c⟩ := h_cells x4; obtain ⟨-, y5a, y5b, y5c⟩ := h_cells x5; obtain ⟨-, y6a, y6b, y6c⟩ := h_cells x6; go_simp <;> rfl) yS2 ?_
  try simp only [List.getElem_toArray, List.getElem_cons_succ, List.getElem_cons_zero, Act.put, List.setIfInBounds_toArray, List.set_cons_zero, List.set_cons_succ]
  refine wpAnyL_take 32 rfl (by kernel_rfl) (by kernel_rfl) (by kernel_rfl) (by kernel_rfl) (fun _ _ _ h => h) (by kernel_rfl) (by intro w' hS'; obtain ⟨x0, x1, x2, x3, x4, x5, x6, xB⟩ := hS'; obtain ⟨-, y0a, y0b, y0c⟩ := h_cells x0; obtain ⟨-, y1a, y1b, y1c⟩ := h_cells x1; obtain ⟨-, y2a, y2b, y2c⟩ := h_cells x2; obtain ⟨-, y3a, y3b, y3c⟩ := h_cells x3; obtain ⟨-, y4a, y4b, y4c⟩ := h_cells x4; obtain ⟨-, y5a, y5b, y5c⟩ := h_cells x5; obtain ⟨-, y6a, y6b, y6c⟩ := h_cells x6; go_simp <;> rfl) yS2 ?_
  try simp only [List.getElem_toArray, List.getElem_cons_succ, List.getElem_cons_zero, Act.put, List.setIfInBounds_toArray, List.set_cons_zero, List.set_cons_succ]
  refine wpAnyL_take 33 rfl (by kernel_rfl) (by kernel_rfl) (by kernel_rfl) (by kernel_rfl) (fun _ _ _ h => h) (by kernel_rfl) (by intro w' hS'; obtain ⟨x0, x1, x2, x3, x4, x5, x6, xB⟩ := hS'; obtain ⟨-, y0a, y0b, y0c⟩ := h_cells x0; obtain ⟨-, y1a, y1b, y1c⟩ := h_cells x1; obtain ⟨-, y2a, y2b, y2c⟩ := h_cells x2; obtain ⟨-, y3a, y3b, y3c⟩ := h_cells x3; obtain ⟨-, y4a, y4b, y4c⟩ := h_cells x4; obtain ⟨-, y5a, y5b, y5c⟩ := h_cells x5; obtain ⟨-, y6a, y6b, y6c⟩ := h_cells x6; go_simp <;> rfl) yS2 ?_
  try simp only [List.getElem_toArray, List.getElem_cons_succ, List.getElem_cons_zero, Act.put, List.setIfInBounds_toArray, List.set_cons_zero, List.set_cons_succ]
  refine wpAnyL_take 34 rfl (by kernel_rfl) (by kernel_rfl) (by kernel_rfl) (by kernel_rfl) (fun _ _ _ h => h) (by kernel_rfl) (by intro w' hS'; obtain ⟨x0, x1, x2, x3, x4, x5, x6, xB⟩ := hS'; obtain ⟨-, y0a, y0b, y0c⟩ := h_cells x0; obtain ⟨-, y1a, y1b, y1c⟩ := h_cells x1; obtain ⟨-, y2a, y2b, y2c⟩ := h_cells x2; obtain ⟨-, y3a, y3b, y3c⟩ := h_cells x3; obtain ⟨-, y4a, y4b, y4c⟩ := h_cells x4; obtain ⟨-, y5a, y5b, y5c⟩ := h_cells x5; obtain ⟨-, y6a, y6b, y6c⟩ := h_cells x6; go_simp <;> rfl) yS2 ?_
  try simp only [List.getElem_toArray, List.getElem_cons_succ, List.getElem_cons_zero, Act.put, List.setIfInBounds_toArray, List.set_cons_zero, List.set_cons_succ]
  refine wpAnyL_take 35 rfl (by kernel_rfl) (by kernel_rfl) (by kernel_rfl) (by kernel_rfl) (fun _ _ _ h => h) (by kernel_rfl) (by intro w' hS'; obtain ⟨x0, x1, x2, x3, x4, x5, x6, xB⟩ := hS'; obtain ⟨-, y0a, y0b, y0c⟩ := h_cells x0; obtain ⟨-, y1a, y1b, y1c⟩ := h_cells x1; obtain ⟨-, y2a, y2b, y2c⟩ := h_cells x2; obtain ⟨-, y3a, y3b, y3c⟩ := h_cells x3; obtain ⟨-, y4a, y4b, y4c⟩ := h_cells x4; obtain ⟨-, y5a, y5b, y5c⟩ := h_cells x5; obtain ⟨-, y6a, y6b, y6c⟩ := h_cells x6; go_simp <;> rfl) yS2 ?_
  try simp only [List.getElem_toArray, List.getElem_cons_succ, List.getElem_cons_zero, Act.put, List.setIfInBounds_toArray, List.set_cons_zero, List.set_cons_succ]
  refine wpAnyL_take 36 rfl (by kernel_rfl) (by kernel_rfl) (by kernel_rfl) (by kernel_rfl) (fun _ _ _ h => h) (by kernel_rfl) (by intro w' hS'; obtain ⟨x0, x1, x2, x3, x4, x5, x6, xB⟩ := hS'; obtain ⟨-, y0a, y0b, y0c⟩ := h_cells x0; obtain ⟨-, y1a, y1b, y1c⟩ := h_cells x1; obtain ⟨-, y2a, y2b, y2c⟩ := h_cells x2; obtain ⟨-, y3a, y3b, y3c⟩ := h_cells x3; obtain ⟨-, y4a, y4b, y4c⟩ := h_cells x4; obtain ⟨-, y5a, y5b, y5c⟩ := h_cells x5; obtain ⟨-, y6a, y6b, y6c⟩ := h_cells x6; go_simp <;> rfl) yS2 ?_
  try simp only [List.getElem_toArray, List.getElem_cons_succ, List.getElem_cons_zero, Act.put, List.setIfInBounds_toArray, List.set_cons_zero, List.set_cons_succ]
  refine wpAnyL_take 37 rfl (by kernel_rfl) (by kernel_rfl) (by kernel_rfl) (by kernel_rfl) (fun _ _ _ h => h) (by kernel_rfl) (by intro w' hS'; obtain ⟨x0, x1, x2, x3, x4, x5, x6, xB⟩ := hS'; obtain ⟨-, y0a, y0b, y0c⟩ := h_cells x0; obtain ⟨-, y1a, y1b, y1c⟩ := h_cells x1; obtain ⟨-, y2a, y2b, y2c⟩ := h_cells x2; obtain ⟨-, y3a, y3b, y3c⟩ := h_cells x3; obtain ⟨-, y4a, y4b, y4c⟩ := h_cells x4; obtain ⟨-, y5a, y5b, y5c⟩ := h_cells x5; obtain ⟨-, y6a, y6b, y6c⟩ := h_cells x6; go_simp <;> rfl) yS2 ?_
  try simp only [List.getElem_toArray, List.getElem_cons_succ, List.getElem_cons_zero, Act.put, List.setIfInBounds_toArray, List.set_cons_zero, List.set_cons_succ]
  refine wpAnyL_take 38 rfl (by kernel_rfl) (by kernel_rfl) (by kernel_rfl) (by kernel_rfl) (fun _ _ _ h => h) (by kernel_rfl) (by intro w' hS'; obtain ⟨x0, x1, x2, x3, x4, x5, x6, xB⟩ := hS'; obtain ⟨-, y0a, y0b, y0c⟩ := h_cells x0; obtain ⟨-, y1a, y1b, y1c⟩ := h_cells x1; obtain ⟨-, y2a, y2b, y2c⟩ := h_cells x2; obtain ⟨-, y3a, y3b, y3c⟩ := h_cells x3; obtain ⟨-, y4a, y4b, y4c⟩ := h_cells x4; obtain ⟨-, y5a, y5b, y5c⟩ := h_cells x5; obtain ⟨-, y6a, y6b, y6c⟩ := h_cells x6; go_simp <;> rfl) yS2 ?_
  try simp only [List.getElem_toArray, List.getElem_cons_succ, List.getElem_cons_zero, Act.put, List.setIfInBounds_toArray, List.set_cons_zero, List.set_cons_succ]
  refine wpAnyL_take 39 rfl (by kernel_rfl) (by kernel_rfl) (by kernel_rfl) (by kernel_rfl) (fun _ _ _ h => h) (by kernel_rfl) (by intro w' hS'; obtain ⟨x0, x1, x2, x3, x4, x5, x6, xB⟩ := hS'; obtain ⟨-, y0a, y0b, y0c⟩ := h_cells x0; obtain ⟨-, y1a, y1b, y1c⟩ := h_cells x1; obtain ⟨-, y2a, y2b, y2c⟩ := h_cells x2; obtain ⟨-, y3a, y3b, y3c⟩ := h_cells x3; obtain ⟨-, y4a, y4b, y4c⟩ := h_cells x4; obtain ⟨-, y5a, y5b, y5c⟩ := h_cells x5; obtain ⟨-, y6a, y6b, y6c⟩ := h_cells x6; go_simp <;> rfl) yS2 ?_
  try simp only [List.getElem_toArray, List.getElem_cons_succ, List.getElem_cons_zero, Act.put, List.setIfInBounds_toArray, List.set_cons_zero, List.set_cons_succ]
  refine wpAnyL_take 40 rfl (by kernel_rfl) (by kernel_rfl) (by kernel_rfl) (by kernel_rfl) (fun _ _ _ h => h) (by kernel_rfl) (by intro w' hS'; obtain ⟨x0, x1, x2, x3, x4, x5, x6, xB⟩ := hS'; obtain ⟨-, y0a, y0b, y0c⟩ := h_cells x0; obtain ⟨-, y1a, y1b, y1c⟩ := h_cells x1; obtain ⟨-, y2a, y2b, y2c⟩ := h_cells x2; obtain ⟨-, y3a, y3b, y3c⟩ := h_cells x3; obtain ⟨-, y4a, y4b, y4c⟩ := h_cells x4; obtain ⟨-, y5a, y5b, y5c⟩ := h_cells x5; obtain ⟨-, y6a, y6b, y6c⟩ := h_cells x6; go_simp <;> rfl) yS2 ?_
  try simp only [List.getElem_toArray, List.getElem_cons_succ, List.getElem_cons_zero, Act.put, List.setIfInBounds_toArray, List.set_cons_zero, List.set_cons_succ]
  refine wpAnyL_done (by kernel_rfl) (NoPanic.normal ?_) _
  have hS2 := yS2
  obtain ⟨z0, -, -, -, -, -, -, zB⟩ := hS2
  clear yS yS1 yS2 n0 n1 n2 n3 n4 n5 n6 hbw kC kA1 kA2 kB1 kB2 kD1 kD2
  obtain ⟨-, c0, c1, c2⟩ := h_cells z0
  have km := kM.out U2
  have kN : Hid (∀ W, Calls Try.prog 15 #[.int .u64 (nx : Int)] W fun e w' => e = .returned (.tuple #[wv (if nx = 0 then (0, 0, false) else (nx, nx - 1, false)), .int .i64 (if nx = 0 then 1 else 0)]) ∧ Below W.heap.size W w') := fun W => new_of nx W hnx
  go_wp2_with fail
  refine km.mono ?_
  rintro e U3 ⟨rfl, hq⟩
  have z3 := (hq.block g0 (Array.getElem?_eq_some_iff.1 z0).1).trans z0
  have zB3 := zB.trans (hq.mono zB.size)
  clear km kM z0 zB hq c0 c1 c2
  obtain ⟨-, c0, c1, c2⟩ := h_cells z3
  cases M with
  | false =>
    obtain rfl : L = 0 := hLn.out rfl
    clear hLn hLs hLm hn0 hn hl
    by_cases hz : nx = 0
    · rw [if_pos hz, if_pos hz] at kN
      subst hz
      dsimp only [wv] at kN
      have kn := kN.out U3
      go_wp2_with fail
      refine kn.mono ?_
      rintro e U4 ⟨rfl, hq⟩
      have z4 := (hq.block g0 (Array.getElem?_eq_some_iff.1 z3).1).trans z3
      have zB4 := zB3.trans (hq.mono zB3.size)
      obtain ⟨tt, nn, BB⟩ := one_box U4 (.cells #[.int .u64 0, .int .u64 0, .bool false] 24)
      have z5 := (BB.block g0 (Array.getElem?_eq_some_iff.1 z4).1).trans z4
      have zB5 := zB4.trans (BB.mono zB4.size)
      have kl := kL.out (U4.alloc (.cells #[.int .u64 0, .int .u64 0, .bool false] 24))
      clear kn kN hq z3 zB3 z4 zB4 c0 c1 c2
      obtain ⟨-, c0, c1, c2⟩ := h_cells z5
      obtain ⟨g9, hg9⟩ : ∃ g, g = U4.heap.size := ⟨_, rfl⟩
      rw [← hg9] at nn
      go_wp2_with fail
      rw [← hg9]
      clear hg9 tt BB
      generalize U4.alloc (.cells #[.int .u64 0, .int .u64 0, .bool false] 24) = U5 at *
      refine kl.mono ?_
      rintro e U6 ⟨rfl, hq⟩
      have nn6 := (hq.block g9 (Array.getElem?_eq_some_iff.1 nn).1).trans nn
      have zB6 := zB5.trans (hq.mono zB5.size)
      obtain ⟨-, e0, e1, e2⟩ := h_cells nn6
      have ka := awake_of U6
      clear kl kL hq nn z5 zB5 c0 c1 c2
      go_wp2_with fail
      refine ka.mono ?_
      rintro e U7 ⟨rfl, hq⟩
      have zB7 := zB6.trans (hq.mono zB6.size)
      clear ka hq nn6 zB6 e0 e1 e2
      go_wp2
      go_ret
      exact ⟨rfl, zB7⟩
    · rw [if_neg hz, if_neg hz] at kN
      have e8 : ((nx : Int) == 0) = false := by simp [hz]
      obtain ⟨p, hp, hwp⟩ := sub_one hz hnx
      rw [show nx - 1 = p by have := hp.out; omega] at kN
      dsimp only [wv] at kN
      clear hp hnx
      have kn := kN.out U3
      go_wp2_with fail
      refine kn.mono ?_
      rintro e U4 ⟨rfl, hq⟩
      have z4 := (hq.block g0 (Array.getElem?_eq_some_iff.1 z3).1).trans z3
      have zB4 := zB3.trans (hq.mono zB3.size)
      obtain ⟨tt, nn, BB⟩ := one_box U4 (.cells #[.int .u64 (nx : Int), .int .u64 (p : Int), .bool false] 24)
      have z5 := (BB.block g0 (Array.getElem?_eq_some_iff.1 z4).1).trans z4
      have zB5 := zB4.trans (BB.mono zB4.size)
      have kl := kL.out (U4.alloc (.cells #[.int .u64 (nx : Int), .int .u64 (p : Int), .bool false] 24))
      clear kn kN hq z3 zB3 z4 zB4 c0 c1 c2
      obtain ⟨-, c0, c1, c2⟩ := h_cells z5
      obtain ⟨g9, hg9⟩ : ∃ g, g = U4.heap.size := ⟨_, rfl⟩
      rw [← hg9] at nn
      go_wp2_with fail
      rw [← hg9]
      clear hg9 tt BB
      generalize U4.alloc (.cells #[.int .u64 (nx : Int), .int .u64 (p : Int), .bool false] 24) = U5 at *
      refine kl.mono ?_
      rintro e U6 ⟨rfl, hq⟩
      have nn6 := (hq.block g9 (Array.getElem?_eq_some_iff.1 nn).1).trans nn
      have zB6 := zB5.trans (hq.mono zB5.size)
      obtain ⟨-, e0, e1, e2⟩ := h_cells nn6
      have ka := awake_of U6
      clear kl kL hq nn z5 zB5 c0 c1 c2
      go_wp2_with fail
      refine ka.mono ?_
      rintro e U7 ⟨rfl, hq⟩
      have zB7 := zB6.trans (hq.mono zB6.size)
      clear ka hq nn6 zB6 e0 e1 e2
      go_wp2
      go_ret
      exact ⟨rfl, zB7⟩
  | true =>
    cases s with
    | true =>
      obtain rfl : L = 0 := hLs.out rfl
      clear hLn hLs hLm hn0 hn hl
      by_cases hz : nx = 0
      · rw [if_pos hz, if_pos hz] at kN
        subst hz
        dsimp only [wv] at kN
        have kn := kN.out U3
        go_wp2_with fail
        refine kn.mono ?_
        rintro e U4 ⟨rfl, hq⟩
        have z4 := (hq.block g0 (Array.getElem?_eq_some_iff.1 z3).1).trans z3
        have zB4 := zB3.trans (hq.mono zB3.size)
        obtain ⟨tt, nn, BB⟩ := one_box U4 (.cells #[.int .u64 0, .int .u64 0, .bool false] 24)
        have z5 := (BB.block g0 (Array.getElem?_eq_some_iff.1 z4).1).trans z4
        have zB5 := zB4.trans (BB.mono zB4.size)
        have kl := kL.out (U4.alloc (.cells #[.int .u64 0, .int .u64 0, .bool false] 24))
        clear kn kN hq z3 zB3 z4 zB4 c0 c1 c2
        obtain ⟨-, c0, c1, c2⟩ := h_cells z5
        obtain ⟨g9, hg9⟩ : ∃ g, g = U4.heap.size := ⟨_, rfl⟩
        rw [← hg9] at nn
        go_wp2_with fail
        rw [← hg9]
        clear hg9 tt BB
        generalize U4.alloc (.cells #[.int .u64 0, .int .u64 0, .bool false] 24) = U5 at *
        refine kl.mono ?_
        rintro e U6 ⟨rfl, hq⟩
        have nn6 := (hq.block g9 (Array.getElem?_eq_some_iff.1 nn).1).trans nn
        have zB6 := zB5.trans (hq.mono zB5.size)
        obtain ⟨-, e0, e1, e2⟩ := h_cells nn6
        have ka := awake_of U6
        clear kl kL hq nn z5 zB5 c0 c1 c2
        go_wp2_with fail
        refine ka.mono ?_
        rintro e U7 ⟨rfl, hq⟩
        have zB7 := zB6.trans (hq.mono zB6.size)
        clear ka hq nn6 zB6 e0 e1 e2
        go_wp2
        go_ret
        exact ⟨rfl, zB7⟩
      · rw [if_neg hz, if_neg hz] at kN
        have e8 : ((nx : Int) == 0) = false := by simp [hz]
        obtain ⟨p, hp, hwp⟩ := sub_one hz hnx
        rw [show nx - 1 = p by have := hp.out; omega] at kN
        dsimp only [wv] at kN
        clear hp hnx
        have kn := kN.out U3
        go_wp2_with fail
        refine kn.mono ?_
        rintro e U4 ⟨rfl, hq⟩
        have z4 := (hq.block g0 (Array.getElem?_eq_some_iff.1 z3).1).trans z3
        have zB4 := zB3.trans (hq.mono zB3.size)
        obtain ⟨tt, nn, BB⟩ := one_box U4 (.cells #[.int .u64 (nx : Int), .int .u64 (p : Int), .bool false] 24)
        have z5 := (BB.block g0 (Array.getElem?_eq_some_iff.1 z4).1).trans z4
        have zB5 := zB4.trans (BB.mono zB4.size)
        have kl := kL.out (U4.alloc (.cells #[.int .u64 (nx : Int), .int .u64 (p : Int), .bool false] 24))
        clear kn kN hq z3 zB3 z4 zB4 c0 c1 c2
        obtain ⟨-, c0, c1, c2⟩ := h_cells z5
        obtain ⟨g9, hg9⟩ : ∃ g, g = U4.heap.size := ⟨_, rfl⟩
        rw [← hg9] at nn
        go_wp2_with fail
        rw [← hg9]
        clear hg9 tt BB
        generalize U4.alloc (.cells #[.int .u64 (nx : Int), .int .u64 (p : Int), .bool false] 24) = U5 at *
        refine kl.mono ?_
        rintro e U6 ⟨rfl, hq⟩
        have nn6 := (hq.block g9 (Array.getElem?_eq_some_iff.1 nn).1).trans nn
        have zB6 := zB5.trans (hq.mono zB5.size)
        obtain ⟨-, e0, e1, e2⟩ := h_cells nn6
        have ka := awake_of U6
        clear kl kL hq nn z5 zB5 c0 c1 c2
        go_wp2_with fail
        refine ka.mono ?_
        rintro e U7 ⟨rfl, hq⟩
        have zB7 := zB6.trans (hq.mono zB6.size)
        clear ka hq nn6 zB6 e0 e1 e2
        go_wp2
        go_ret
        exact ⟨rfl, zB7⟩
    | false =>
      have hLe : L = l + 1 - n := hLm.out rfl rfl
      have hn00 : n ≠ 0 := hn0.out rfl
      by_cases hnl : n ≤ l
      · have e1 : decide ((n : Int) ≤ (l : Int)) = true := by simp [hnl]
        have e2 : decide (n ≤ l) = true := by simp [hnl]
        obtain ⟨d, hd⟩ : ∃ d : Nat, d = l - n := ⟨_, rfl⟩
        have hw1 : IntKind.u64.wrap ((l : Int) - (n : Int)) = (d : Int) := by
          rw [show ((l : Int) - (n : Int)) = (d : Int) by omega]
          exact IntWalk.u64_in _ (by have := hl.out; omega)
        have hw2 : IntKind.u64.wrap ((d : Int) + 1) = (L : Int) := by
          rw [show ((d : Int) + 1) = (L : Int) by omega]
          exact IntWalk.u64_in _ (by have := hl.out; omega)
        clear hLn hLs hLm hn0 hn hl hLe hn00 hnl hd
        by_cases hz : nx = 0
        · rw [if_pos hz, if_pos hz] at kN
          subst hz
          dsimp only [wv] at kN
          have kn := kN.out U3
          go_wp2_with fail
          refine kn.mono ?_
          rintro e U4 ⟨rfl, hq⟩
          have z4 := (hq.block g0 (Array.getElem?_eq_some_iff.1 z3).1).trans z3
          have zB4 := zB3.trans (hq.mono zB3.size)
          obtain ⟨tt, nn, BB⟩ := one_box U4 (.cells #[.int .u64 0, .int .u64 0, .bool false] 24)
          have z5 := (BB.block g0 (Array.getElem?_eq_some_iff.1 z4).1).trans z4
          have zB5 := zB4.trans (BB.mono zB4.size)
          have kl := kL.out (U4.alloc (.cells #[.int .u64 0, .int .u64 0, .bool false] 24))
          clear kn kN hq z3 zB3 z4 zB4 c0 c1 c2
          obtain ⟨-, c0, c1, c2⟩ := h_cells z5
          obtain ⟨g9, hg9⟩ : ∃ g, g = U4.heap.size := ⟨_, rfl⟩
          rw [← hg9] at nn
          go_wp2_with fail
          rw [← hg9]
          clear hg9 tt BB
          generalize U4.alloc (.cells #[.int .u64 0, .int .u64 0, .bool false] 24) = U5 at *
          refine kl.mono ?_
          rintro e U6 ⟨rfl, hq⟩
          have nn6 := (hq.block g9 (Array.getElem?_eq_some_iff.1 nn).1).trans nn
          have zB6 := zB5.trans (hq.mono zB5.size)
          obtain ⟨-, e0, e1, e2⟩ := h_cells nn6
          have ka := awake_of U6
          clear kl kL hq nn z5 zB5 c0 c1 c2
          go_wp2_with fail
          refine ka.mono ?_
          rintro e U7 ⟨rfl, hq⟩
          have zB7 := zB6.trans (hq.mono zB6.size)
          clear ka hq nn6 zB6 e0 e1 e2
          go_wp2
          go_ret
          exact ⟨rfl, zB7⟩
        · rw [if_neg hz, if_neg hz] at kN
          have e8 : ((nx : Int) == 0) = false := by simp [hz]
          obtain ⟨p, hp, hwp⟩ := sub_one hz hnx
          rw [show nx - 1 = p by have := hp.out; omega] at kN
          dsimp only [wv] at kN
          clear hp hnx
          have kn := kN.out U3
          go_wp2_with fail
          refine kn.mono ?_
          rintro e U4 ⟨rfl, hq⟩
          have z4 := (hq.block g0 (Array.getElem?_eq_some_iff.1 z3).1).trans z3
          have zB4 := zB3.trans (hq.mono zB3.size)
          obtain ⟨tt, nn, BB⟩ := one_box U4 (.cells #[.int .u64 (nx : Int), .int .u64 (p : Int), .bool false] 24)
          have z5 := (BB.block g0 (Array.getElem?_eq_some_iff.1 z4).1).trans z4
          have zB5 := zB4.trans (BB.mono zB4.size)
          have kl := kL.out (U4.alloc (.cells #[.int .u64 (nx : Int), .int .u64 (p : Int), .bool false] 24))
          clear kn kN hq z3 zB3 z4 zB4 c0 c1 c2
          obtain ⟨-, c0, c1, c2⟩ := h_cells z5
          obtain ⟨g9, hg9⟩ : ∃ g, g = U4.heap.size := ⟨_, rfl⟩
          rw [← hg9] at nn
          go_wp2_with fail
          rw [← hg9]
          clear hg9 tt BB
          generalize U4.alloc (.cells #[.int .u64 (nx : Int), .int .u64 (p : Int), .bool false] 24) = U5 at *
          refine kl.mono ?_
          rintro e U6 ⟨rfl, hq⟩
          have nn6 := (hq.block g9 (Array.getElem?_eq_some_iff.1 nn).1).trans nn
          have zB6 := zB5.trans (hq.mono zB5.size)
          obtain ⟨-, e0, e1, e2⟩ := h_cells nn6
          have ka := awake_of U6
          clear kl kL hq nn z5 zB5 c0 c1 c2
          go_wp2_with fail
          refine ka.mono ?_
          rintro e U7 ⟨rfl, hq⟩
          have zB7 := zB6.trans (hq.mono zB6.size)
          clear ka hq nn6 zB6 e0 e1 e2
          go_wp2
          go_ret
          exact ⟨rfl, zB7⟩
      · have e1 : decide ((n : Int) ≤ (l : Int)) = false := by simp; omega
        have e2 : decide (n ≤ l) = false := by simp; omega
        obtain rfl : L = 0 := by omega
        clear hLn hLs hLm hn0 hn hl hLe hn00 hnl
        by_cases hz : nx = 0
        · rw [if_pos hz, if_pos hz] at kN
          subst hz
          dsimp only [wv] at kN
          have kn := kN.out U3
          go_wp2_with fail
          refine kn.mono ?_
          rintro e U4 ⟨rfl, hq⟩
          have z4 := (hq.block g0 (Array.getElem?_eq_some_iff.1 z3).1).trans z3
          have zB4 := zB3.trans (hq.mono zB3.size)
          obtain ⟨tt, nn, BB⟩ := one_box U4 (.cells #[.int .u64 0, .int .u64 0, .bool false] 24)
          have z5 := (BB.block g0 (Array.getElem?_eq_some_iff.1 z4).1).trans z4
          have zB5 := zB4.trans (BB.mono zB4.size)
          have kl := kL.out (U4.alloc (.cells #[.int .u64 0, .int .u64 0, .bool false] 24))
          clear kn kN hq z3 zB3 z4 zB4 c0 c1 c2
          obtain ⟨-, c0, c1, c2⟩ := h_cells z5
          obtain ⟨g9, hg9⟩ : ∃ g, g = U4.heap.size := ⟨_, rfl⟩
          rw [← hg9] at nn
          go_wp2_with fail
          rw [← hg9]
          clear hg9 tt BB
          generalize U4.alloc (.cells #[.int .u64 0, .int .u64 0, .bool false] 24) = U5 at *
          refine kl.mono ?_
          rintro e U6 ⟨rfl, hq⟩
          have nn6 := (hq.block g9 (Array.getElem?_eq_some_iff.1 nn).1).trans nn
          have zB6 := zB5.trans (hq.mono zB5.size)
          obtain ⟨-, e0, e1, e2⟩ := h_cells nn6
          have ka := awake_of U6
          clear kl kL hq nn z5 zB5 c0 c1 c2
          go_wp2_with fail
          refine ka.mono ?_
          rintro e U7 ⟨rfl, hq⟩
          have zB7 := zB6.trans (hq.mono zB6.size)
          clear ka hq nn6 zB6 e0 e1 e2
          go_wp2
          go_ret
          exact ⟨rfl, zB7⟩
        · rw [if_neg hz, if_neg hz] at kN
          have e8 : ((nx : Int) == 0) = false := by simp [hz]
          obtain ⟨p, hp, hwp⟩ := sub_one hz hnx
          rw [show nx - 1 = p by have := hp.out; omega] at kN
          dsimp only [wv] at kN
          clear hp hnx
          have kn := kN.out U3
          go_wp2_with fail
          refine kn.mono ?_
          rintro e U4 ⟨rfl, hq⟩
          have z4 := (hq.block g0 (Array.getElem?_eq_some_iff.1 z3).1).trans z3
          have zB4 := zB3.trans (hq.mono zB3.size)
          obtain ⟨tt, nn, BB⟩ := one_box U4 (.cells #[.int .u64 (nx : Int), .int .u64 (p : Int), .bool false] 24)
          have z5 := (BB.block g0 (Array.getElem?_eq_some_iff.1 z4).1).trans z4
          have zB5 := zB4.trans (BB.mono zB4.size)
          have kl := kL.out (U4.alloc (.cells #[.int .u64 (nx : Int), .int .u64 (p : Int), .bool false] 24))
          clear kn kN hq z3 zB3 z4 zB4 c0 c1 c2
          obtain ⟨-, c0, c1, c2⟩ := h_cells z5
          obtain ⟨g9, hg9⟩ : ∃ g, g = U4.heap.size := ⟨_, rfl⟩
          rw [← hg9] at nn
          go_wp2_with fail
          rw [← hg9]
          clear hg9 tt BB
          generalize U4.alloc (.cells #[.int .u64 (nx : Int), .int .u64 (p : Int), .bool false] 24) = U5 at *
          refine kl.mono ?_
          rintro e U6 ⟨rfl, hq⟩
          have nn6 := (hq.block g9 (Array.getElem?_eq_some_iff.1 nn).1).trans nn
          have zB6 := zB5.trans (hq.mono zB5.size)
          obtain ⟨-, e0, e1, e2⟩ := h_cells nn6
          have ka := awake_of U6
          clear kl kL hq nn z5 zB5 c0 c1 c2
          go_wp2_with fail
          refine ka.mono ?_
          rintro e U7 ⟨rfl, hq⟩
          have zB7 := zB6.trans (hq.mono zB6.size)
          clear ka hq nn6 zB6 e0 e1 e2
          go_wp2
          go_ret
          exact ⟨rfl, zB7⟩
end Go.Proofs.Ytghhijliamnmiaa

