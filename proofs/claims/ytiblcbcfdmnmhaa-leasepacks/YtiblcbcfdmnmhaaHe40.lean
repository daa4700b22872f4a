import Derived.Test.YtiblcbcfdmnmhaaHe39
import Derived.Test.YtiblcbcfdmnmhaaHe14
import Derived.Test.YtiblcbcfdmnmhaaHe21
/- The law LeasePacks. -/
namespace Go.Proofs.Ytiblcbcfdmnmhaa
open Go.RowKit LeaseMath
set_option maxRecDepth 100000
set_option linter.unusedSimpArgs false
set_option linter.unusedVariables false

set_option maxHeartbeats 8000000 in
theorem packs_may (zs : List Hd) (lv : Value) (now thn : Int) (w : World) (hL : Rd holdE w lv zs) (hB : mayB holdB zs = false) : Calls Try.prog 6 #[lv, .int .i64 now, .int .i64 thn] w fun e w' => e = .returned (.bool true) ∧ Below w.heap.size w w' := by
  have k1 := pack_of zs lv now w hL
  have k6 : ∀ W, Below w.heap.size w W → _ := fun W hW => rmay_of zs lv W (hL.below hW)
  have k7 := fun W => awake_of W
  have HL : Hid (Rd holdE w lv zs) := hL
  have TB : True := trivial
  have hmt : (mayB holdB zs && timeB now) = false := by rw [hB]; rfl
  unfold PackT at k1
  simp only [hmt, Bool.false_eq_true, if_false, if_true] at k1
  obtain ⟨ao, cap, rfl, -, -⟩ := hL.shape
  rw [hB] at k6
  clear hL hmt hB HL TB
  go_enter Try.func6, Try.ntmps6
  go_wp2_with fail
  refine k1.mono ?_
  rintro e w1 ⟨⟨v1, Q1, rfl, hO1, hQ1⟩, hw1⟩
  subst hQ1
  have hR1 := hO1.1.rd
  obtain ⟨a1, p1, rfl, -⟩ := hO1.1.shape
  have kk6 := k6 w1 hw1
  clear k1 k6 hO1
  go_wp2_with fail
  refine kk6.mono ?_
  rintro e w2 ⟨rfl, hb2⟩
  have hw2 := hw1.trans (hb2.mono hw1.size)
  have hR1 := hR1.below hb2
  clear kk6 hb2 hw1
  clear hR1
  have kk7 := k7 w2
  go_wp2_with fail
  refine kk7.mono ?_
  rintro e w9 ⟨rfl, hb9⟩
  have hw9 := hw2.trans (hb9.mono hw2.size)
  clear kk7 hb9 hw2
  go_wp2
  go_ret
  exact ⟨by first | rfl | simp, hw9⟩

set_option maxHeartbeats 8000000 in
theorem packs_low (zs : List Hd) (lv : Value) (now thn : Int) (w : World) (hL : Rd holdE w lv zs) (h0 : now < 0) (hB : mayB holdB zs = true) : Calls Try.prog 6 #[lv, .int .i64 now, .int .i64 thn] w fun e w' => e = .returned (.bool true) ∧ Below w.heap.size w w' := by
  have k1 := pack_of zs lv now w hL
  have k6 : ∀ W, Below w.heap.size w W → _ := fun W hW => rmay_of zs lv W (hL.below hW)
  have k7 := fun W => awake_of W
  have HL : Hid (Rd holdE w lv zs) := hL
  have TB : timeB now = false := by rw [← Bool.not_eq_true, time_iff]; omega
  have hmt : (mayB holdB zs && timeB now) = false := by rw [TB, Bool.and_false]
  have a1d : decide (now < 0) = true := decide_eq_true h0
  unfold PackT at k1
  simp only [hmt, Bool.false_eq_true, if_false, if_true] at k1
  obtain ⟨ao, cap, rfl, -, -⟩ := hL.shape
  rw [hB] at k6
  clear hL hmt hB HL TB
  go_enter Try.func6, Try.ntmps6
  go_wp2_with fail
  refine k1.mono ?_
  rintro e w1 ⟨⟨v1, Q1, rfl, hO1, hQ1⟩, hw1⟩
  subst hQ1
  have hR1 := hO1.1.rd
  obtain ⟨a1, p1, rfl, -⟩ := hO1.1.shape
  have kk6 := k6 w1 hw1
  clear k1 k6 hO1
  go_wp2_with fail
  refine kk6.mono ?_
  rintro e w2 ⟨rfl, hb2⟩
  have hw2 := hw1.trans (hb2.mono hw1.size)
  have hR1 := hR1.below hb2
  clear kk6 hb2 hw1
  clear hR1
  have kk7 := k7 w2
  go_wp2_with fail
  refine kk7.mono ?_
  rintro e w9 ⟨rfl, hb9⟩
  have hw9 := hw2.trans (hb9.mono hw2.size)
  clear kk7 hb9 hw2
  go_wp2
  go_ret
  exact ⟨by first | rfl | simp, hw9⟩

set_option maxHeartbeats 8000000 in
theorem packs_high (zs : List Hd) (lv : Value) (now thn : Int) (w : World) (hL : Rd holdE w lv zs) (h0 : 2147483647 < now) (hB : mayB holdB zs = true) : Calls Try.prog 6 #[lv, .int .i64 now, .int .i64 thn] w fun e w' => e = .returned (.bool true) ∧ Below w.heap.size w w' := by
  have k1 := pack_of zs lv now w hL
  have k6 : ∀ W, Below w.heap.size w W → _ := fun W hW => rmay_of zs lv W (hL.below hW)
  have k7 := fun W => awake_of W
  have HL : Hid (Rd holdE w lv zs) := hL
  have TB : timeB now = false := by rw [← Bool.not_eq_true, time_iff]; omega
  have hmt : (mayB holdB zs && timeB now) = false := by rw [TB, Bool.and_false]
  have a1 : ¬ now < 0 := by omega
  have a1d : decide (now < 0) = false := decide_eq_false a1
  have a2d : decide (2147483647 < now) = true := decide_eq_true h0
  unfold PackT at k1
  simp only [hmt, Bool.false_eq_true, if_false, if_true] at k1
  obtain ⟨ao, cap, rfl, -, -⟩ := hL.shape
  rw [hB] at k6
  clear hL hmt hB HL TB
  go_enter Try.func6, Try.ntmps6
  go_wp2_with fail
  refine k1.mono ?_
  rintro e w1 ⟨⟨v1, Q1, rfl, hO1, hQ1⟩, hw1⟩
  subst hQ1
  have hR1 := hO1.1.rd
  obtain ⟨a1, p1, rfl, -⟩ := hO1.1.shape
  have kk6 := k6 w1 hw1
  clear k1 k6 hO1
  go_wp2_with fail
  refine kk6.mono ?_
  rintro e w2 ⟨rfl, hb2⟩
  have hw2 := hw1.trans (hb2.mono hw1.size)
  have hR1 := hR1.below hb2
  clear kk6 hb2 hw1
  clear hR1
  have kk7 := k7 w2
  go_wp2_with fail
  refine kk7.mono ?_
  rintro e w9 ⟨rfl, hb9⟩
  have hw9 := hw2.trans (hb9.mono hw2.size)
  clear kk7 hb9 hw2
  go_wp2
  go_ret
  exact ⟨by first | rfl | simp, hw9⟩

set_option maxHeartbeats 8000000 in
theorem packs_tlow (zs : List Hd) (lv : Value) (now thn : Int) (w : World) (hL : Rd holdE w lv zs) (h0 : 0 ≤ now) (h1 : now ≤ 2147483647) (hB : mayB holdB zs = true) (h2 : thn < 0) : Calls Try.prog 6 #[lv, .int .i64 now, .int .i64 thn] w fun e w' => e = .returned (.bool true) ∧ Below w.heap.size w w' := by
  have k1 := pack_of zs lv now w hL
  have k6 : ∀ W, Below w.heap.size w W → _ := fun W hW => rmay_of zs lv W (hL.below hW)
  have k7 := fun W => awake_of W
  have HL : Hid (Rd holdE w lv zs) := hL
  have TB : timeB now = true := time_iff.2 ⟨h0, h1⟩
  have hmt : (mayB holdB zs && timeB now) = true := by rw [TB, hB]; rfl
  have a1 : ¬ now < 0 := by omega
  have a1d : decide (now < 0) = false := decide_eq_false a1
  have a2 : ¬ 2147483647 < now := by omega
  have a2d : decide (2147483647 < now) = false := decide_eq_false a2
  have TT : timeB thn = false := by rw [← Bool.not_eq_true, time_iff]; omega
  have b1d : decide (thn < 0) = true := decide_eq_true h2
  unfold PackT at k1
  simp only [hmt, Bool.false_eq_true, if_false, if_true] at k1
  obtain ⟨ao, cap, rfl, -, -⟩ := hL.shape
  rw [hB] at k6
  have hm2 : mayB holdB (zs.map (packM now)) = true := may_map (fun h => ⟨rfl, rfl⟩) (fun h hh => pack_time TB ((may_iff.1 hB).2.1 h hh)) hB
  have hlen := (may_iff.1 hB).1
  have hll : (zs.map (packM now)).length = zs.length := by simp
  have k2 : ∀ (u : Value) W, Rd holdE W u (zs.map (packM now)) → _ := fun u W h => unpack_of (zs.map (packM now)) u thn W h
  unfold UnpackT at k2
  simp only [hm2, Bool.true_and, TT, Bool.false_eq_true, if_false, if_true] at k2
  clear hL hmt hB HL TB TT hm2
  go_enter Try.func6, Try.ntmps6
  go_wp2_with fail
  refine k1.mono ?_
  rintro e w1 ⟨⟨v1, Q1, rfl, hO1, hQ1⟩, hw1⟩
  subst hQ1
  have hR1 := hO1.1.rd
  obtain ⟨a1, p1, rfl, -⟩ := hO1.1.shape
  rw [hll] at hR1 ⊢
  have kk6 := k6 w1 hw1
  clear k1 k6 hO1
  go_wp2_with fail
  refine kk6.mono ?_
  rintro e w2 ⟨rfl, hb2⟩
  have hw2 := hw1.trans (hb2.mono hw1.size)
  have hR1 := hR1.below hb2
  clear kk6 hb2 hw1
  have kk2 := k2 _ w2 hR1
  clear k2
  go_wp2_with fail
  refine kk2.mono ?_
  rintro e w3 ⟨⟨v3, Q3, rfl, hO3, hQ3⟩, hb3⟩
  subst hQ3
  have hR3 := hO3.1.rd
  obtain ⟨a3, p3, rfl, -⟩ := hO3.1.shape
  have hw3 := hw2.trans (hb3.mono hw2.size)
  have hR1 := hR1.below hb3
  clear kk2 hO3 hb3 hw2
  clear hR1 hR3
  have kk7 := k7 w3
  go_wp2_with fail
  refine kk7.mono ?_
  rintro e w9 ⟨rfl, hb9⟩
  have hw9 := hw3.trans (hb9.mono hw3.size)
  clear kk7 hb9 hw3
  go_wp2
  go_ret
  exact ⟨by first | rfl | simp, hw9⟩

set_option maxHeartbeats 8000000 in
theorem packs_thigh (zs : List Hd) (lv : Value) (now thn : Int) (w : World) (hL : Rd holdE w lv zs) (h0 : 0 ≤ now) (h1 : now ≤ 2147483647) (hB : mayB holdB zs = true) (h2 : 2147483647 < thn) : Calls Try.prog 6 #[lv, .int .i64 now, .int .i64 thn] w fun e w' => e = .returned (.bool true) ∧ Below w.heap.size w w' := by
  have k1 := pack_of zs lv now w hL
  have k6 : ∀ W, Below w.heap.size w W → _ := fun W hW => rmay_of zs lv W (hL.below hW)
  have k7 := fun W => awake_of W
  have HL : Hid (Rd holdE w lv zs) := hL
  have TB : timeB now = true := time_iff.2 ⟨h0, h1⟩
  have hmt : (mayB holdB zs && timeB now) = true := by rw [TB, hB]; rfl
  have a1 : ¬ now < 0 := by omega
  have a1d : decide (now < 0) = false := decide_eq_false a1
  have a2 : ¬ 2147483647 < now := by omega
  have a2d : decide (2147483647 < now) = false := decide_eq_false a2
  have TT : timeB thn = false := by rw [← Bool.not_eq_true, time_iff]; omega
  have b1 : ¬ thn < 0 := by omega
  have b1d : decide (thn < 0) = false := decide_eq_false b1
  have b2d : decide (2147483647 < thn) = true := decide_eq_true h2
  unfold PackT at k1
  simp only [hmt, Bool.false_eq_true, if_false, if_true] at k1
  obtain ⟨ao, cap, rfl, -, -⟩ := hL.shape
  rw [hB] at k6
  have hm2 : mayB holdB (zs.map (packM now)) = true := may_map (fun h => ⟨rfl, rfl⟩) (fun h hh => pack_time TB ((may_iff.1 hB).2.1 h hh)) hB
  have hlen := (may_iff.1 hB).1
  have hll : (zs.map (packM now)).length = zs.length := by simp
  have k2 : ∀ (u : Value) W, Rd holdE W u (zs.map (packM now)) → _ := fun u W h => unpack_of (zs.map (packM now)) u thn W h
  unfold UnpackT at k2
  simp only [hm2, Bool.true_and, TT, Bool.false_eq_true, if_false, if_true] at k2
  clear hL hmt hB HL TB TT hm2
  go_enter Try.func6, Try.ntmps6
  go_wp2_with fail
  refine k1.mono ?_
  rintro e w1 ⟨⟨v1, Q1, rfl, hO1, hQ1⟩, hw1⟩
  subst hQ1
  have hR1 := hO1.1.rd
  obtain ⟨a1, p1, rfl, -⟩ := hO1.1.shape
  rw [hll] at hR1 ⊢
  have kk6 := k6 w1 hw1
  clear k1 k6 hO1
  go_wp2_with fail
  refine kk6.mono ?_
  rintro e w2 ⟨rfl, hb2⟩
  have hw2 := hw1.trans (hb2.mono hw1.size)
  have hR1 := hR1.below hb2
  clear kk6 hb2 hw1
  have kk2 := k2 _ w2 hR1
  clear k2
  go_wp2_with fail
  refine kk2.mono ?_
  rintro e w3 ⟨⟨v3, Q3, rfl, hO3, hQ3⟩, hb3⟩
  subst hQ3
  have hR3 := hO3.1.rd
  obtain ⟨a3, p3, rfl, -⟩ := hO3.1.shape
  have hw3 := hw2.trans (hb3.mono hw2.size)
  have hR1 := hR1.below hb3
  clear kk2 hO3 hb3 hw2
  clear hR1 hR3
  have kk7 := k7 w3
  go_wp2_with fail
  refine kk7.mono ?_
  rintro e w9 ⟨rfl, hb9⟩
  have hw9 := hw3.trans (hb9.mono hw3.size)
  clear kk7 hb9 hw3
  go_wp2
  go_ret
  exact ⟨by first | rfl | simp, hw9⟩
end Go.Proofs.Ytiblcbcfdmnmhaa

