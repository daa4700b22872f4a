import Derived.Test.YtfbmeeankkfjbaaHq10
/- The law's own awake; QuorumNeeds. -/
namespace Go.Proofs.Ytfbmeeankkfjbaa
open Go.RowKit QuorumMath
set_option maxRecDepth 100000
set_option linter.unusedSimpArgs false
set_option linter.unusedVariables false

/-- What a copy leaves. -/
def CopyT {α : Type} (E : El α) (t : TypeId) (w : World) (ys : List α) (v' : Value) (w' : World) : Prop := Ow E t w.heap.size w' v' ys ∧ Below w.heap.size w w'
theorem made_ints {w : World} {g : Nat} {zs : List Int} {cs : Array Value} (hg : w.heap[g]? = some (.cells cs 3 (0, 0))) (he : cs.toList = intE.flat zs) (hl : zs.length ≤ maxLen) : Rd intE w (.slice (some ⟨g, 0, none⟩) zs.length zs.length) zs := (Rk.made hg he hl).rd
theorem awake_com : comM [1, 2, 3] [(1, 0, 5), (2, 0, 7), (3, 0, 2)] = 5 := by decide
theorem awake_won : wonB [1, 2, 3] [3, 1] = true := by decide
theorem awake_lost : lostB [1, 2, 3] [3] = false := by decide

set_option maxHeartbeats 2000000 in
theorem awake_of (w : World) : Calls Try.prog 9 #[] w fun e w' => e = .returned (.bool true) ∧ Below w.heap.size w w' := by
  obtain ⟨hs0, g0, hb0⟩ := one_box w (.cells #[.int .i64 1, .int .u64 0, .int .u64 5, .int .i64 2, .int .u64 0, .int .u64 7, .int .i64 3, .int .u64 0, .int .u64 2] 43)
  have hP : Rd peerE (w.alloc (.cells #[.int .i64 1, .int .u64 0, .int .u64 5, .int .i64 2, .int .u64 0, .int .u64 7, .int .i64 3, .int .u64 0, .int .u64 2] 43)) (.slice (some ⟨w.heap.size, 0, none⟩) 3 3) [(1, 0, 5), (2, 0, 7), (3, 0, 2)] := (Rk.made (E := peerE) (xs := [(1, 0, 5), (2, 0, 7), (3, 0, 2)]) g0 rfl (by unfold maxLen; simp)).rd
  go_enter Try.func9, Try.ntmps9
  clear g0
  go_wp2_with fail
  generalize w.alloc (.cells #[.int .i64 1, .int .u64 0, .int .u64 5, .int .i64 2, .int .u64 0, .int .u64 7, .int .i64 3, .int .u64 0, .int .u64 2] 43) = w1 at *
  obtain ⟨hs1, g1, hb1⟩ := one_box w1 (.cells #[.int .i64 1, .int .i64 2, .int .i64 3] 3)
  have k1 : Calls Try.prog 16 #[.slice (some ⟨w1.heap.size, 0, none⟩) 3 3, .slice (some ⟨w.heap.size, 0, none⟩) 3 3] (w1.alloc (.cells #[.int .i64 1, .int .i64 2, .int .i64 3] 3)) _ := commit_of [1, 2, 3] _ [(1, 0, 5), (2, 0, 7), (3, 0, 2)] _ _ (made_ints (zs := [1, 2, 3]) g1 rfl (by unfold maxLen; simp)) (hP.below hb1) (by simp) (by simp)
  rw [awake_com, hs0] at k1
  have hb01 := hb0.trans (hb1.mono hb0.size)
  refine k1.mono ?_
  rintro e w2 ⟨rfl, hb2⟩
  have hb02 := hb01.trans (hb2.mono hb01.size)
  clear k1 hs0 hs1 g1 hb1 hb0 hb01 hb2 hP
  obtain ⟨hs3, g3, hb3⟩ := one_box w2 (.cells #[.int .i64 1, .int .i64 2, .int .i64 3] 3)
  have hV3 := made_ints (zs := [1, 2, 3]) g3 rfl (by unfold maxLen; simp)
  go_wp2_with fail
  generalize w2.alloc (.cells #[.int .i64 1, .int .i64 2, .int .i64 3] 3) = w3 at *
  obtain ⟨hs4, g4, hb4⟩ := one_box w3 (.cells #[.int .i64 3, .int .i64 1] 3)
  have k2 : Calls Try.prog 13 #[.slice (some ⟨w2.heap.size, 0, none⟩) 3 3, .slice (some ⟨w3.heap.size, 0, none⟩) 2 2] (w3.alloc (.cells #[.int .i64 3, .int .i64 1] 3)) _ := won_of [1, 2, 3] _ [3, 1] _ _ (hV3.below hb4) (made_ints (zs := [3, 1]) g4 rfl (by unfold maxLen; simp)) (by simp) (by simp)
  rw [awake_won, hs3] at k2
  have hb03 := hb02.trans (hb3.mono hb02.size)
  have hb04 := hb03.trans (hb4.mono hb03.size)
  refine k2.mono ?_
  rintro e w5 ⟨rfl, hw5⟩
  rw [← hw5] at hb04
  clear k2 hs3 hs4 g3 g4 hb3 hb4 hV3 hb02 hb03 hw5
  obtain ⟨hs6, g6, hb6⟩ := one_box w5 (.cells #[.int .i64 1, .int .i64 2, .int .i64 3] 3)
  have hV6 := made_ints (zs := [1, 2, 3]) g6 rfl (by unfold maxLen; simp)
  go_wp2_with fail
  generalize w5.alloc (.cells #[.int .i64 1, .int .i64 2, .int .i64 3] 3) = w6 at *
  obtain ⟨hs7, g7, hb7⟩ := one_box w6 (.cells #[.int .i64 3] 3)
  have k3 : Calls Try.prog 14 #[.slice (some ⟨w5.heap.size, 0, none⟩) 3 3, .slice (some ⟨w6.heap.size, 0, none⟩) 1 1] (w6.alloc (.cells #[.int .i64 3] 3)) _ := lost_of [1, 2, 3] _ [3] _ _ (hV6.below hb7) (made_ints (zs := [3]) g7 rfl (by unfold maxLen; simp)) (by simp) (by simp)
  rw [awake_lost, hs6] at k3
  have hb06 := hb04.trans (hb6.mono hb04.size)
  have hb07 := hb06.trans (hb7.mono hb06.size)
  refine k3.mono ?_
  rintro e w8 ⟨rfl, hw8⟩
  rw [← hw8] at hb07
  clear k3 hs6 hs7 g6 g7 hb6 hb7 hV6 hb04 hb06 hw8
  go_wp2
  go_ret
  exact ⟨rfl, hb07⟩

theorem needs_law (n : Int) (w : World) (h1 : -9223372036854775808 ≤ n) (h2 : n ≤ 9223372036854775807) : Calls Try.prog 4 #[.int .i64 n] w fun e w' => e = .returned (.bool true) ∧ Below w.heap.size w w' := by
  have kn := need_of n w h2
  have ka := awake_of w
  by_cases hn : n < 1
  · have e0 : needM n = 0 := by unfold needM; rw [if_pos hn]
    rw [e0] at kn
    go_enter Try.func4, Try.ntmps4
    go_wp2_with fail
    refine kn.mono ?_
    rintro e w1 ⟨rfl, hw1⟩
    subst hw1
    go_wp2_with fail
    refine ka.mono ?_
    rintro e w2 ⟨rfl, hb⟩
    go_wp2
    go_ret
    exact ⟨rfl, hb⟩
  · obtain ⟨k, hk⟩ : ∃ k, Hid (k = needM n) := ⟨_, rfl⟩
    rw [← hk.out] at kn
    have hk1 : Hid (k = n / 2 + 1) := by show _ = _; rw [hk.out]; unfold needM; rw [if_neg hn]
    have q0 : 1 ≤ k := by have := hk1.out; omega
    have q1 : n - k < k := by have := hk1.out; omega
    have q2 : k - 1 ≤ n - (k - 1) := by have := hk1.out; omega
    have q3 : k ≤ n := by have := hk1.out; omega
    clear hk hk1
    go_enter Try.func4, Try.ntmps4
    go_wp2_with fail
    refine kn.mono ?_
    rintro e w1 ⟨rfl, hw1⟩
    subst hw1
    clear kn
    go_wp2_with fail
    refine ka.mono ?_
    rintro e w2 ⟨rfl, hb⟩
    go_wp2
    go_ret
    exact ⟨rfl, hb⟩
end Go.Proofs.Ytfbmeeankkfjbaa

