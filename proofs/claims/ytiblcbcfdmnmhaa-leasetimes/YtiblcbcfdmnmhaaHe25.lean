import Derived.Test.YtiblcbcfdmnmhaaHe14
import Derived.Test.YtiblcbcfdmnmhaaHe18
import Derived.Test.YtiblcbcfdmnmhaaHe21
/- The law LeaseTimes. -/
namespace Go.Proofs.Ytiblcbcfdmnmhaa
open Go.RowKit LeaseMath
set_option maxRecDepth 100000
set_option linter.unusedSimpArgs false
set_option linter.unusedVariables false

set_option maxHeartbeats 8000000 in
theorem times_low (zs : List Hd) (lv : Value) (now ttl : Int) (w : World) (hL : Rd holdE w lv zs) (h0 : now < 0) : Calls Try.prog 4 #[lv, .int .i64 now, .int .i64 ttl] w fun e w' => e = .returned (.bool true) ∧ Below w.heap.size w w' := by
  have k1 := until_of now ttl w
  have kd := due_of zs lv now w hL
  have k6 : ∀ W, Below w.heap.size w W → _ := fun W hW => rmay_of zs lv W (hL.below hW)
  have k7 := fun W => awake_of W
  have HL : Hid (Rd holdE w lv zs) := hL
  have TB : timeB now = false := by rw [← Bool.not_eq_true, time_iff]; omega
  have hmt : (mayB holdB zs && timeB now) = false := by rw [TB, Bool.and_false]
  have hun : untilM now ttl = (0, 1) := by simp [untilM, TB]
  have a1 : ¬ (0 : Int) ≤ now := by omega
  have a1d : decide ((0 : Int) ≤ now) = false := decide_eq_false a1
  unfold DueT at kd
  simp only [hmt, Bool.false_eq_true, if_false, if_true] at kd
  obtain ⟨ao, cap, rfl, -, -⟩ := hL.shape
  rw [hun] at k1
  dsimp only at k1
  clear k6
  clear hL hun hmt TB
  go_enter Try.func4, Try.ntmps4
  go_wp2_with fail
  refine k1.mono ?_
  rintro e w1 ⟨rfl, hw1⟩
  subst hw1
  clear k1
  go_wp2_with fail
  refine kd.mono ?_
  rintro e w2 ⟨⟨u, v, P, Q, rfl, hP, hQ, hPe, hQe⟩, hw2⟩
  subst hPe hQe
  have hRu := hP.1.rd
  have hRv := hQ.1.rd
  obtain ⟨ua, uc, rfl, -⟩ := hP.1.shape
  obtain ⟨va, vc, rfl, -⟩ := hQ.1.shape
  clear hP hQ
  have kk7 := k7 w2
  clear kd HL hRu hRv
  go_wp2_with fail
  refine kk7.mono ?_
  rintro e w4 ⟨rfl, hb4⟩
  have hw4 := hw2.trans (hb4.mono hw2.size)
  clear kk7 hb4 hw2
  go_wp2
  go_ret
  exact ⟨by first | rfl | simp, hw4⟩

set_option maxHeartbeats 8000000 in
theorem times_high (zs : List Hd) (lv : Value) (now ttl : Int) (w : World) (hL : Rd holdE w lv zs) (h0 : 2147483647 < now) : Calls Try.prog 4 #[lv, .int .i64 now, .int .i64 ttl] w fun e w' => e = .returned (.bool true) ∧ Below w.heap.size w w' := by
  have k1 := until_of now ttl w
  have kd := due_of zs lv now w hL
  have k6 : ∀ W, Below w.heap.size w W → _ := fun W hW => rmay_of zs lv W (hL.below hW)
  have k7 := fun W => awake_of W
  have HL : Hid (Rd holdE w lv zs) := hL
  have TB : timeB now = false := by rw [← Bool.not_eq_true, time_iff]; omega
  have hmt : (mayB holdB zs && timeB now) = false := by rw [TB, Bool.and_false]
  have hun : untilM now ttl = (0, 1) := by simp [untilM, TB]
  have a1 : (0 : Int) ≤ now := by omega
  have a2 : ¬ now ≤ 2147483647 := by omega
  have a2d : decide (now ≤ 2147483647) = false := decide_eq_false a2
  unfold DueT at kd
  simp only [hmt, Bool.false_eq_true, if_false, if_true] at kd
  obtain ⟨ao, cap, rfl, -, -⟩ := hL.shape
  rw [hun] at k1
  dsimp only at k1
  clear k6
  clear hL hun hmt TB
  go_enter Try.func4, Try.ntmps4
  go_wp2_with fail
  refine k1.mono ?_
  rintro e w1 ⟨rfl, hw1⟩
  subst hw1
  clear k1
  go_wp2_with fail
  refine kd.mono ?_
  rintro e w2 ⟨⟨u, v, P, Q, rfl, hP, hQ, hPe, hQe⟩, hw2⟩
  subst hPe hQe
  have hRu := hP.1.rd
  have hRv := hQ.1.rd
  obtain ⟨ua, uc, rfl, -⟩ := hP.1.shape
  obtain ⟨va, vc, rfl, -⟩ := hQ.1.shape
  clear hP hQ
  have kk7 := k7 w2
  clear kd HL hRu hRv
  go_wp2_with fail
  refine kk7.mono ?_
  rintro e w4 ⟨rfl, hb4⟩
  have hw4 := hw2.trans (hb4.mono hw2.size)
  clear kk7 hb4 hw2
  go_wp2
  go_ret
  exact ⟨by first | rfl | simp, hw4⟩

set_option maxHeartbeats 8000000 in
theorem times_tl_false (zs : List Hd) (lv : Value) (now ttl : Int) (w : World) (hL : Rd holdE w lv zs) (h0 : 0 ≤ now) (h1 : now ≤ 2147483647) (h2 : ttl < 1) (hB : mayB holdB zs = false) : Calls Try.prog 4 #[lv, .int .i64 now, .int .i64 ttl] w fun e w' => e = .returned (.bool true) ∧ Below w.heap.size w w' := by
  have k1 := until_of now ttl w
  have kd := due_of zs lv now w hL
  have k6 : ∀ W, Below w.heap.size w W → _ := fun W hW => rmay_of zs lv W (hL.below hW)
  have k7 := fun W => awake_of W
  have HL : Hid (Rd holdE w lv zs) := hL
  have TB : timeB now = true := time_iff.2 ⟨h0, h1⟩
  have hmt : (mayB holdB zs && timeB now) = false := by rw [TB, hB]; rfl
  have a1d : decide ((0 : Int) ≤ now) = true := decide_eq_true h0
  have a2d : decide (now ≤ 2147483647) = true := decide_eq_true h1
  have b1 : ttl < 1 := by omega
  have b1d : decide (ttl < 1) = true := decide_eq_true b1
  have hun : untilM now ttl = (0, 1) := by unfold untilM; rw [decide_eq_false (show ¬ 1 ≤ ttl by omega)]; simp
  unfold DueT at kd
  simp only [hmt, Bool.false_eq_true, if_false, if_true] at kd
  obtain ⟨ao, cap, rfl, -, -⟩ := hL.shape
  rw [hun] at k1
  dsimp only at k1
  rw [hB] at k6
  clear hL hun hmt hB TB
  go_enter Try.func4, Try.ntmps4
  go_wp2_with fail
  refine k1.mono ?_
  rintro e w1 ⟨rfl, hw1⟩
  subst hw1
  clear k1
  go_wp2_with fail
  refine kd.mono ?_
  rintro e w2 ⟨⟨u, v, P, Q, rfl, hP, hQ, hPe, hQe⟩, hw2⟩
  subst hPe hQe
  have hRu := hP.1.rd
  have hRv := hQ.1.rd
  obtain ⟨ua, uc, rfl, -⟩ := hP.1.shape
  obtain ⟨va, vc, rfl, -⟩ := hQ.1.shape
  clear hP hQ
  clear HL hRu hRv
  have kk6 := k6 w2 hw2
  clear kd k6
  go_wp2_with fail
  refine kk6.mono ?_
  rintro e w3 ⟨rfl, hb3⟩
  have hw3 := hw2.trans (hb3.mono hw2.size)
  have kk7 := k7 w3
  clear kk6 hb3 hw2
  go_wp2_with fail
  refine kk7.mono ?_
  rintro e w4 ⟨rfl, hb4⟩
  have hw4 := hw3.trans (hb4.mono hw3.size)
  clear kk7 hb4 hw3
  go_wp2
  go_ret
  exact ⟨by first | rfl | simp, hw4⟩

set_option maxHeartbeats 8000000 in
theorem times_th_false (zs : List Hd) (lv : Value) (now ttl : Int) (w : World) (hL : Rd holdE w lv zs) (h0 : 0 ≤ now) (h1 : now ≤ 2147483647) (h2 : 1048576 < ttl) (hB : mayB holdB zs = false) : Calls Try.prog 4 #[lv, .int .i64 now, .int .i64 ttl] w fun e w' => e = .returned (.bool true) ∧ Below w.heap.size w w' := by
  have k1 := until_of now ttl w
  have kd := due_of zs lv now w hL
  have k6 : ∀ W, Below w.heap.size w W → _ := fun W hW => rmay_of zs lv W (hL.below hW)
  have k7 := fun W => awake_of W
  have HL : Hid (Rd holdE w lv zs) := hL
  have TB : timeB now = true := time_iff.2 ⟨h0, h1⟩
  have hmt : (mayB holdB zs && timeB now) = false := by rw [TB, hB]; rfl
  have a1d : decide ((0 : Int) ≤ now) = true := decide_eq_true h0
  have a2d : decide (now ≤ 2147483647) = true := decide_eq_true h1
  have b1 : ¬ ttl < 1 := by omega
  have b1d : decide (ttl < 1) = false := decide_eq_false b1
  have b2 : 1048576 < ttl := by omega
  have b2d : decide (1048576 < ttl) = true := decide_eq_true b2
  have hun : untilM now ttl = (0, 1) := by unfold untilM; rw [decide_eq_false (show ¬ ttl ≤ 1048576 by omega)]; simp
  unfold DueT at kd
  simp only [hmt, Bool.false_eq_true, if_false, if_true] at kd
  obtain ⟨ao, cap, rfl, -, -⟩ := hL.shape
  rw [hun] at k1
  dsimp only at k1
  rw [hB] at k6
  clear hL hun hmt hB TB
  go_enter Try.func4, Try.ntmps4
  go_wp2_with fail
  refine k1.mono ?_
  rintro e w1 ⟨rfl, hw1⟩
  subst hw1
  clear k1
  go_wp2_with fail
  refine kd.mono ?_
  rintro e w2 ⟨⟨u, v, P, Q, rfl, hP, hQ, hPe, hQe⟩, hw2⟩
  subst hPe hQe
  have hRu := hP.1.rd
  have hRv := hQ.1.rd
  obtain ⟨ua, uc, rfl, -⟩ := hP.1.shape
  obtain ⟨va, vc, rfl, -⟩ := hQ.1.shape
  clear hP hQ
  clear HL hRu hRv
  have kk6 := k6 w2 hw2
  clear kd k6
  go_wp2_with fail
  refine kk6.mono ?_
  rintro e w3 ⟨rfl, hb3⟩
  have hw3 := hw2.trans (hb3.mono hw2.size)
  have kk7 := k7 w3
  clear kk6 hb3 hw2
  go_wp2_with fail
  refine kk7.mono ?_
  rintro e w4 ⟨rfl, hb4⟩
  have hw4 := hw3.trans (hb4.mono hw3.size)
  clear kk7 hb4 hw3
  go_wp2
  go_ret
  exact ⟨by first | rfl | simp, hw4⟩

set_option maxHeartbeats 8000000 in
theorem times_t1_false (zs : List Hd) (lv : Value) (now ttl : Int) (w : World) (hL : Rd holdE w lv zs) (h0 : 0 ≤ now) (h1 : now ≤ 2147483647) (h2 : 1 ≤ ttl) (h3 : ttl ≤ 1048576) (h4 : ttl ≤ 2147483647 - now) (hB : mayB holdB zs = false) : Calls Try.prog 4 #[lv, .int .i64 now, .int .i64 ttl] w fun e w' => e = .returned (.bool true) ∧ Below w.heap.size w w' := by
  have k1 := until_of now ttl w
  have kd := due_of zs lv now w hL
  have k6 : ∀ W, Below w.heap.size w W → _ := fun W hW => rmay_of zs lv W (hL.below hW)
  have k7 := fun W => awake_of W
  have HL : Hid (Rd holdE w lv zs) := hL
  have TB : timeB now = true := time_iff.2 ⟨h0, h1⟩
  have hmt : (mayB holdB zs && timeB now) = false := by rw [TB, hB]; rfl
  have a1d : decide ((0 : Int) ≤ now) = true := decide_eq_true h0
  have a2d : decide (now ≤ 2147483647) = true := decide_eq_true h1
  have b1 : ¬ ttl < 1 := by omega
  have b1d : decide (ttl < 1) = false := decide_eq_false b1
  have b2 : ¬ 1048576 < ttl := by omega
  have b2d : decide (1048576 < ttl) = false := decide_eq_false b2
  have j1 : IntKind.i64.wrap (now + ttl) = now + ttl := IntWalk.i64_in _ (by omega)
  have hun : untilM now ttl = (now + ttl, 0) := by unfold untilM laterM; rw [TB, decide_eq_true (show 1 ≤ ttl by omega), decide_eq_true (show ttl ≤ 1048576 by omega), if_pos (by omega : ttl ≤ 2147483647 - now)]; rfl
  have d1 : ¬ 2147483647 < now + ttl := by omega
  have d1d : decide (2147483647 < now + ttl) = false := decide_eq_false d1
  have d2 : (now + ttl != now + ttl) = false := by simp
  unfold DueT at kd
  simp only [hmt, Bool.false_eq_true, if_false, if_true] at kd
  obtain ⟨ao, cap, rfl, -, -⟩ := hL.shape
  rw [hun] at k1
  dsimp only at k1
  rw [hB] at k6
  clear hL hun hmt hB TB
  go_enter Try.func4, Try.ntmps4
  go_wp2_with fail
  refine k1.mono ?_
  rintro e w1 ⟨rfl, hw1⟩
  subst hw1
  clear k1
  go_wp2_with fail
  refine kd.mono ?_
  rintro e w2 ⟨⟨u, v, P, Q, rfl, hP, hQ, hPe, hQe⟩, hw2⟩
  subst hPe hQe
  have hRu := hP.1.rd
  have hRv := hQ.1.rd
  obtain ⟨ua, uc, rfl, -⟩ := hP.1.shape
  obtain ⟨va, vc, rfl, -⟩ := hQ.1.shape
  clear hP hQ
  clear HL hRu hRv
  have kk6 := k6 w2 hw2
  clear kd k6
  go_wp2_with fail
  refine kk6.mono ?_
  rintro e w3 ⟨rfl, hb3⟩
  have hw3 := hw2.trans (hb3.mono hw2.size)
  have kk7 := k7 w3
  clear kk6 hb3 hw2
  go_wp2_with fail
  refine kk7.mono ?_
  rintro e w4 ⟨rfl, hb4⟩
  have hw4 := hw3.trans (hb4.mono hw3.size)
  clear kk7 hb4 hw3
  go_wp2
  go_ret
  exact ⟨by first | rfl | simp, hw4⟩

set_option maxHeartbeats 8000000 in
theorem times_t2_false (zs : List Hd) (lv : Value) (now ttl : Int) (w : World) (hL : Rd holdE w lv zs) (h0 : 0 ≤ now) (h1 : now ≤ 2147483647) (h2 : 1 ≤ ttl) (h3 : ttl ≤ 1048576) (h4 : ¬ ttl ≤ 2147483647 - now) (hB : mayB holdB zs = false) : Calls Try.prog 4 #[lv, .int .i64 now, .int .i64 ttl] w fun e w' => e = .returned (.bool true) ∧ Below w.heap.size w w' := by
  have k1 := until_of now ttl w
  have kd := due_of zs lv now w hL
  have k6 : ∀ W, Below w.heap.size w W → _ := fun W hW => rmay_of zs lv W (hL.below hW)
  have k7 := fun W => awake_of W
  have HL : Hid (Rd holdE w lv zs) := hL
  have TB : timeB now = true := time_iff.2 ⟨h0, h1⟩
  have hmt : (mayB holdB zs && timeB now) = false := by rw [TB, hB]; rfl
  have a1d : decide ((0 : Int) ≤ now) = true := decide_eq_true h0
  have a2d : decide (now ≤ 2147483647) = true := decide_eq_true h1
  have b1 : ¬ ttl < 1 := by omega
  have b1d : decide (ttl < 1) = false := decide_eq_false b1
  have b2 : ¬ 1048576 < ttl := by omega
  have b2d : decide (1048576 < ttl) = false := decide_eq_false b2
  have j1 : IntKind.i64.wrap (now + ttl) = now + ttl := IntWalk.i64_in _ (by omega)
  have hun : untilM now ttl = (2147483647, 0) := by unfold untilM laterM; rw [TB, decide_eq_true (show 1 ≤ ttl by omega), decide_eq_true (show ttl ≤ 1048576 by omega), if_neg (by omega : ¬ ttl ≤ 2147483647 - now)]; rfl
  have d1 : ¬ now + ttl < 2147483647 := by omega
  have d1d : decide (now + ttl < 2147483647) = false := decide_eq_false d1
  have d3 : ¬ (2147483647 : Int) = now + ttl := by omega
  have d2 : ((2147483647 : Int) != now + ttl) = true := by simpa using d3
  unfold DueT at kd
  simp only [hmt, Bool.false_eq_true, if_false, if_true] at kd
  obtain ⟨ao, cap, rfl, -, -⟩ := hL.shape
  rw [hun] at k1
  dsimp only at k1
  rw [hB] at k6
  clear hL hun hmt hB TB
  go_enter Try.func4, Try.ntmps4
  go_wp2_with fail
  refine k1.mono ?_
  rintro e w1 ⟨rfl, hw1⟩
  subst hw1
  clear k1
  go_wp2_with fail
  refine kd.mono ?_
  rintro e w2 ⟨⟨u, v, P, Q, rfl, hP, hQ, hPe, hQe⟩, hw2⟩
  subst hPe hQe
  have hRu := hP.1.rd
  have hRv := hQ.1.rd
  obtain ⟨ua, uc, rfl, -⟩ := hP.1.shape
  obtain ⟨va, vc, rfl, -⟩ := hQ.1.shape
  clear hP hQ
  clear HL hRu hRv
  have kk6 := k6 w2 hw2
  clear kd k6
  go_wp2_with fail
  refine kk6.mono ?_
  rintro e w3 ⟨rfl, hb3⟩
  have hw3 := hw2.trans (hb3.mono hw2.size)
  have kk7 := k7 w3
  clear kk6 hb3 hw2
  go_wp2_with fail
  refine kk7.mono ?_
  rintro e w4 ⟨rfl, hb4⟩
  have hw4 := hw3.trans (hb4.mono hw3.size)
  clear kk7 hb4 hw3
  go_wp2
  go_ret
  exact ⟨by first | rfl | simp, hw4⟩
end Go.Proofs.Ytiblcbcfdmnmhaa

