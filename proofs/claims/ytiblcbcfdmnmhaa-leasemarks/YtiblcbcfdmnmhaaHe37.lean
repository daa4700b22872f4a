import Derived.Test.YtiblcbcfdmnmhaaHe36
import Derived.Test.YtiblcbcfdmnmhaaHe18
import Derived.Test.YtiblcbcfdmnmhaaHe21
/- The law LeaseMarks. -/
namespace Go.Proofs.Ytiblcbcfdmnmhaa
open Go.RowKit LeaseMath
set_option maxRecDepth 100000
set_option linter.unusedSimpArgs false
set_option linter.unusedVariables false

theorem mark_len {l : List Mk} {k : Nat} {c : K} {t : Nat} : (markM l k c t).1.length ≤ 1024 := by
  unfold markM putC
  split
  · split
    · assumption
    · simp
  · simp
theorem mark_last {l : List Mk} {k : Nat} {c : K} {t : Nat} (hS : mayB markB l = true → Plc l c k) (h : (markM l k c t).2 = 0) : lastM (markM l k c t).1 c = max t (lastM l c) := by
  unfold markM at *
  split at h
  · rename_i h1
    rw [if_pos h1]
    have hm : mayB markB l = true := (Bool.and_eq_true _ _ ▸ h1).1
    unfold putC at *
    split at h
    · rename_i h2
      rw [if_pos h2]
      generalize max t (lastM l c) = x
      show lastM (keptM l k (c, x)) c = x
      unfold lastM
      rw [show findM (keptM l k (c, x)) c = some (c, x) from kept_find (may_iff.1 hm).2.2 (hS hm)]
    · cases h
  · cases h

set_option maxHeartbeats 8000000 in
theorem marks_true_ok (zs : List Mk) (lv : Value) (c : K) (t : Nat) (K : Nat) (w : World) (hL : Rd markE w lv zs) (hlen : zs.length * 24 ≤ 140737488355328) (hS : mayB markB zs = true → Plc zs c K) (hB : mayB markB zs = true) (hm0 : (markM zs K c t).2 = 0) : Calls Try.prog 5 #[lv, .string (bk c), .int .u64 (t : Int)] w fun e w' => e = .returned (.bool true) ∧ Below w.heap.size w w' := by
  have hl62 : zs.length ≤ 4611686018427387904 := by omega
  have k1 := mark_of zs lv c t K w hL hS
  have k2 : ∀ W, Below w.heap.size w W → _ := fun W hW => rmark_of zs lv c t K W (hL.below hW) hS
  have k3 : ∀ W, Below w.heap.size w W → _ := fun W hW => checkm_of (hL.below hW)
  have k4 : ∀ W, Below w.heap.size w W → _ := fun W hW => rmarks_of zs lv W (hL.below hW)
  have hml : (markM zs K c t).1.length ≤ 4611686018427387904 := Nat.le_trans mark_len (by decide)
  have k5 : ∀ (u v : Value) W, Rd markE W u (markM zs K c t).1 → Rd markE W v (markM zs K c t).1 → _ := fun u v W h1 h2 => samem_of (markM zs K c t).1 u v W h1 h2 hml
  have k6 : ∀ W, Below w.heap.size w W → _ := fun W hW => last_of zs lv c W (hL.below hW) hl62
  have k7 : ∀ W, Below w.heap.size w W → _ := fun W hW => rlast_of zs lv c W (hL.below hW) hl62
  have k8 : ∀ (u : Value) W, Rd markE W u (markM zs K c t).1 → _ := fun u W h1 => last_of (markM zs K c t).1 u c W h1 hml
  have k11 := fun W => awake_of W
  rw [hB] at k3 k4
  simp only [if_true, Bool.false_eq_true, if_false] at k3
  have hmx := mark_last hS hm0
  obtain ⟨ao, cap, rfl, -, -⟩ := hL.shape
  generalize markM zs K c t = m at *
  generalize lastM zs c = la at *
  rw [hmx] at k8
  have hmm : (m.2 != m.2) = false := by simp
  have hll : ((la : Int) != (la : Int)) = false := by simp
  have hx1 : (t : Int) ≤ ((max t la : Nat) : Int) := by omega
  have hx2 : (la : Int) ≤ ((max t la : Nat) : Int) := by omega
  generalize max t la = mx at *
  obtain ⟨ml, mr⟩ := m
  dsimp only at *
  subst hm0
  clear hL hB hS hmx
  go_enter Try.func5, Try.ntmps5
  go_wp2_with fail
  refine k1.mono ?_
  rintro e w1 ⟨⟨v1, rfl, hO1⟩, hw1⟩
  have hR1 := hO1.1.rd
  obtain ⟨a1, p1, rfl, -⟩ := hO1.1.shape
  have kk2 := k2 w1 hw1
  clear k1 k2 hO1
  go_wp2_with fail
  refine kk2.mono ?_
  rintro e w2 ⟨⟨v2, rfl, hO2⟩, hb2⟩
  have hw2 := hw1.trans (hb2.mono hw1.size)
  have hR1 := hR1.below hb2
  have hR2 := hO2.1.rd
  obtain ⟨a2, p2, rfl, -⟩ := hO2.1.shape
  have kk3 := k3 w2 hw2
  clear kk2 k3 hO2 hb2 hw1
  go_wp2_with fail
  refine kk3.mono ?_
  rintro e w3 ⟨rfl, hb3⟩
  have hw3 := hw2.trans (hb3.mono hw2.size)
  have hR1 := hR1.below hb3
  have hR2 := hR2.below hb3
  have kk4 := k4 w3 hw3
  clear kk3 k4 hb3 hw2
  go_wp2_with fail
  refine kk4.mono ?_
  rintro e w4 ⟨rfl, hb4⟩
  have hw4 := hw3.trans (hb4.mono hw3.size)
  have hR1 := hR1.below hb4
  have hR2 := hR2.below hb4
  have kk5 := k5 _ _ w4 hR1 hR2
  clear kk4 k5 hb4 hw3 hR2
  go_wp2_with fail
  refine kk5.mono ?_
  rintro e w5 ⟨rfl, hb5⟩
  have hw5 := hw4.trans (hb5.mono hw4.size)
  have hR1 := hR1.below hb5
  have kk6 := k6 w5 hw5
  clear kk5 hb5 hw4
  go_wp2_with fail
  refine kk6.mono ?_
  rintro e w6 ⟨rfl, hb6⟩
  have hw6 := hw5.trans (hb6.mono hw5.size)
  have hR1 := hR1.below hb6
  have kk7 := k7 w6 hw6
  clear kk6 hb6 hw5
  go_wp2_with fail
  refine kk7.mono ?_
  rintro e w7 ⟨rfl, hb7⟩
  subst hb7
  have hw7 := hw6
  have hb7 : True := trivial

  have kk8 := k8 (.slice a1 ml.length p1) w7 hR1
  clear kk7 k7 hb7
  go_wp2_with fail
  refine kk8.mono ?_
  rintro e w8 ⟨rfl, hb8⟩
  have hw8 := hw7.trans (hb8.mono hw7.size)
  have hR1 := hR1.below hb8
  have kk9 := k8 (.slice a1 ml.length p1) w8 hR1
  clear kk8 k8 hb8 hw7
  go_wp2_with fail
  refine kk9.mono ?_
  rintro e w9 ⟨rfl, hb9⟩
  have hw9 := hw8.trans (hb9.mono hw8.size)
  have kk10 := k6 w9 hw9
  clear kk9 k6 hb9 hw8 hR1
  go_wp2_with fail
  refine kk10.mono ?_
  rintro e w10 ⟨rfl, hb10⟩
  have hw7 := hw9.trans (hb10.mono hw9.size)
  have kk11 := k11 w10
  clear kk10 hb10 hw9
  go_wp2_with fail
  refine kk11.mono ?_
  rintro e w13 ⟨rfl, hb13⟩
  have hw13 := hw7.trans (hb13.mono hw7.size)
  clear kk11 hb13 hw7
  go_wp2
  go_ret
  exact ⟨rfl, hw13⟩

set_option maxHeartbeats 8000000 in
theorem marks_true_no (zs : List Mk) (lv : Value) (c : K) (t : Nat) (K : Nat) (w : World) (hL : Rd markE w lv zs) (hlen : zs.length * 24 ≤ 140737488355328) (hS : mayB markB zs = true → Plc zs c K) (hB : mayB markB zs = true) (hm0 : ¬ (markM zs K c t).2 = 0) : Calls Try.prog 5 #[lv, .string (bk c), .int .u64 (t : Int)] w fun e w' => e = .returned (.bool true) ∧ Below w.heap.size w w' := by
  have hl62 : zs.length ≤ 4611686018427387904 := by omega
  have k1 := mark_of zs lv c t K w hL hS
  have k2 : ∀ W, Below w.heap.size w W → _ := fun W hW => rmark_of zs lv c t K W (hL.below hW) hS
  have k3 : ∀ W, Below w.heap.size w W → _ := fun W hW => checkm_of (hL.below hW)
  have k4 : ∀ W, Below w.heap.size w W → _ := fun W hW => rmarks_of zs lv W (hL.below hW)
  have hml : (markM zs K c t).1.length ≤ 4611686018427387904 := Nat.le_trans mark_len (by decide)
  have k5 : ∀ (u v : Value) W, Rd markE W u (markM zs K c t).1 → Rd markE W v (markM zs K c t).1 → _ := fun u v W h1 h2 => samem_of (markM zs K c t).1 u v W h1 h2 hml
  have k6 : ∀ W, Below w.heap.size w W → _ := fun W hW => last_of zs lv c W (hL.below hW) hl62
  have k7 : ∀ W, Below w.heap.size w W → _ := fun W hW => rlast_of zs lv c W (hL.below hW) hl62
  have k8 : ∀ (u : Value) W, Rd markE W u (markM zs K c t).1 → _ := fun u W h1 => last_of (markM zs K c t).1 u c W h1 hml
  have k11 := fun W => awake_of W
  rw [hB] at k3 k4
  simp only [if_true, Bool.false_eq_true, if_false] at k3
  have hmx : True := trivial
  obtain ⟨ao, cap, rfl, -, -⟩ := hL.shape
  generalize markM zs K c t = m at *
  generalize lastM zs c = la at *

  have hmm : (m.2 != m.2) = false := by simp
  have hll : ((la : Int) != (la : Int)) = false := by simp



  obtain ⟨ml, mr⟩ := m
  dsimp only at *
  have hm1 : (mr != 0) = true := by simpa using hm0
  clear hL hB hS hmx
  go_enter Try.func5, Try.ntmps5
  go_wp2_with fail
  refine k1.mono ?_
  rintro e w1 ⟨⟨v1, rfl, hO1⟩, hw1⟩
  have hR1 := hO1.1.rd
  obtain ⟨a1, p1, rfl, -⟩ := hO1.1.shape
  have kk2 := k2 w1 hw1
  clear k1 k2 hO1
  go_wp2_with fail
  refine kk2.mono ?_
  rintro e w2 ⟨⟨v2, rfl, hO2⟩, hb2⟩
  have hw2 := hw1.trans (hb2.mono hw1.size)
  have hR1 := hR1.below hb2
  have hR2 := hO2.1.rd
  obtain ⟨a2, p2, rfl, -⟩ := hO2.1.shape
  have kk3 := k3 w2 hw2
  clear kk2 k3 hO2 hb2 hw1
  go_wp2_with fail
  refine kk3.mono ?_
  rintro e w3 ⟨rfl, hb3⟩
  have hw3 := hw2.trans (hb3.mono hw2.size)
  have hR1 := hR1.below hb3
  have hR2 := hR2.below hb3
  have kk4 := k4 w3 hw3
  clear kk3 k4 hb3 hw2
  go_wp2_with fail
  refine kk4.mono ?_
  rintro e w4 ⟨rfl, hb4⟩
  have hw4 := hw3.trans (hb4.mono hw3.size)
  have hR1 := hR1.below hb4
  have hR2 := hR2.below hb4
  have kk5 := k5 _ _ w4 hR1 hR2
  clear kk4 k5 hb4 hw3 hR2
  go_wp2_with fail
  refine kk5.mono ?_
  rintro e w5 ⟨rfl, hb5⟩
  have hw5 := hw4.trans (hb5.mono hw4.size)
  have hR1 := hR1.below hb5
  have kk6 := k6 w5 hw5
  clear kk5 hb5 hw4
  go_wp2_with fail
  refine kk6.mono ?_
  rintro e w6 ⟨rfl, hb6⟩
  have hw6 := hw5.trans (hb6.mono hw5.size)
  have hR1 := hR1.below hb6
  have kk7 := k7 w6 hw6
  clear kk6 hb6 hw5
  go_wp2_with fail
  refine kk7.mono ?_
  rintro e w7 ⟨rfl, hb7⟩
  subst hb7
  have hw7 := hw6
  have hb7 : True := trivial

  have kk11 := k11 w7
  clear kk7 k7 hb7 k6 k8 hR1
  go_wp2_with fail
  refine kk11.mono ?_
  rintro e w13 ⟨rfl, hb13⟩
  have hw13 := hw7.trans (hb13.mono hw7.size)
  clear kk11 hb13 hw7
  go_wp2
  go_ret
  exact ⟨rfl, hw13⟩

set_option maxHeartbeats 8000000 in
theorem marks_false_no (zs : List Mk) (lv : Value) (c : K) (t : Nat) (K : Nat) (w : World) (hL : Rd markE w lv zs) (hlen : zs.length * 24 ≤ 140737488355328) (hS : mayB markB zs = true → Plc zs c K) (hB : mayB markB zs = false) (hm0 : ¬ (markM zs K c t).2 = 0) : Calls Try.prog 5 #[lv, .string (bk c), .int .u64 (t : Int)] w fun e w' => e = .returned (.bool true) ∧ Below w.heap.size w w' := by
  have hl62 : zs.length ≤ 4611686018427387904 := by omega
  have k1 := mark_of zs lv c t K w hL hS
  have k2 : ∀ W, Below w.heap.size w W → _ := fun W hW => rmark_of zs lv c t K W (hL.below hW) hS
  have k3 : ∀ W, Below w.heap.size w W → _ := fun W hW => checkm_of (hL.below hW)
  have k4 : ∀ W, Below w.heap.size w W → _ := fun W hW => rmarks_of zs lv W (hL.below hW)
  have hml : (markM zs K c t).1.length ≤ 4611686018427387904 := Nat.le_trans mark_len (by decide)
  have k5 : ∀ (u v : Value) W, Rd markE W u (markM zs K c t).1 → Rd markE W v (markM zs K c t).1 → _ := fun u v W h1 h2 => samem_of (markM zs K c t).1 u v W h1 h2 hml
  have k6 : ∀ W, Below w.heap.size w W → _ := fun W hW => last_of zs lv c W (hL.below hW) hl62
  have k7 : ∀ W, Below w.heap.size w W → _ := fun W hW => rlast_of zs lv c W (hL.below hW) hl62
  have k8 : ∀ (u : Value) W, Rd markE W u (markM zs K c t).1 → _ := fun u W h1 => last_of (markM zs K c t).1 u c W h1 hml
  have k11 := fun W => awake_of W
  rw [hB] at k3 k4
  simp only [if_true, Bool.false_eq_true, if_false] at k3
  have hmx : True := trivial
  obtain ⟨ao, cap, rfl, -, -⟩ := hL.shape
  generalize markM zs K c t = m at *
  generalize lastM zs c = la at *

  have hmm : (m.2 != m.2) = false := by simp
  have hll : ((la : Int) != (la : Int)) = false := by simp



  obtain ⟨ml, mr⟩ := m
  dsimp only at *
  have hm1 : (mr != 0) = true := by simpa using hm0
  clear hL hB hS hmx
  go_enter Try.func5, Try.ntmps5
  go_wp2_with fail
  refine k1.mono ?_
  rintro e w1 ⟨⟨v1, rfl, hO1⟩, hw1⟩
  have hR1 := hO1.1.rd
  obtain ⟨a1, p1, rfl, -⟩ := hO1.1.shape
  have kk2 := k2 w1 hw1
  clear k1 k2 hO1
  go_wp2_with fail
  refine kk2.mono ?_
  rintro e w2 ⟨⟨v2, rfl, hO2⟩, hb2⟩
  have hw2 := hw1.trans (hb2.mono hw1.size)
  have hR1 := hR1.below hb2
  have hR2 := hO2.1.rd
  obtain ⟨a2, p2, rfl, -⟩ := hO2.1.shape
  have kk3 := k3 w2 hw2
  clear kk2 k3 hO2 hb2 hw1
  go_wp2_with fail
  refine kk3.mono ?_
  rintro e w3 ⟨rfl, hb3⟩
  have hw3 := hw2.trans (hb3.mono hw2.size)
  have hR1 := hR1.below hb3
  have hR2 := hR2.below hb3
  have kk4 := k4 w3 hw3
  clear kk3 k4 hb3 hw2
  go_wp2_with fail
  refine kk4.mono ?_
  rintro e w4 ⟨rfl, hb4⟩
  have hw4 := hw3.trans (hb4.mono hw3.size)
  have hR1 := hR1.below hb4
  have hR2 := hR2.below hb4
  have kk5 := k5 _ _ w4 hR1 hR2
  clear kk4 k5 hb4 hw3 hR2
  go_wp2_with fail
  refine kk5.mono ?_
  rintro e w5 ⟨rfl, hb5⟩
  have hw5 := hw4.trans (hb5.mono hw4.size)
  have hR1 := hR1.below hb5
  have kk6 := k6 w5 hw5
  clear kk5 hb5 hw4
  go_wp2_with fail
  refine kk6.mono ?_
  rintro e w6 ⟨rfl, hb6⟩
  have hw6 := hw5.trans (hb6.mono hw5.size)
  have hR1 := hR1.below hb6
  have kk7 := k7 w6 hw6
  clear kk6 hb6 hw5
  go_wp2_with fail
  refine kk7.mono ?_
  rintro e w7 ⟨rfl, hb7⟩
  subst hb7
  have hw7 := hw6
  have hb7 : True := trivial

  have kk11 := k11 w7
  clear kk7 k7 hb7 k6 k8 hR1
  go_wp2_with fail
  refine kk11.mono ?_
  rintro e w13 ⟨rfl, hb13⟩
  have hw13 := hw7.trans (hb13.mono hw7.size)
  clear kk11 hb13 hw7
  go_wp2
  go_ret
  exact ⟨rfl, hw13⟩

theorem marks_law (zs : List Mk) (lv : Value) (c : K) (t : Nat) (w : World) (hL : Rd markE w lv zs) (hlen : zs.length * 24 ≤ 140737488355328) : Calls Try.prog 5 #[lv, .string (bk c), .int .u64 (t : Int)] w fun e w' => e = .returned (.bool true) ∧ Below w.heap.size w w' := by
  cases hB : mayB markB zs with
  | true =>
    obtain ⟨K, hK⟩ := plc_ex c (may_iff.1 hB).2.2
    by_cases h0 : (markM zs K c t).2 = 0
    · exact marks_true_ok zs lv c t K w hL hlen (fun _ => hK) hB h0
    · exact marks_true_no zs lv c t K w hL hlen (fun _ => hK) hB h0
  | false =>
    have h0 : ¬ (markM zs 0 c t).2 = 0 := by unfold markM; rw [hB]; simp
    exact marks_false_no zs lv c t 0 w hL hlen (fun h => by rw [hB] at h; cases h) hB h0
end Go.Proofs.Ytiblcbcfdmnmhaa

