import Derived.Test.YtkglckngiggbhaaHk09
import Derived.Test.YtkglckngiggbhaaHk20
/- The law's own awake. -/
namespace Go.Proofs.Ytkglckngiggbhaa
open Go.RowKit QuorumMath
set_option maxRecDepth 100000
set_option linter.unusedSimpArgs false
set_option linter.unusedVariables false

theorem made_ints {w : World} {g : Nat} {zs : List Int} {cs : Array Value} (hg : w.heap[g]? = some (.cells cs 3 (0, 0))) (he : cs.toList = intE.flat zs) (hl : zs.length ≤ maxLen) : Rd intE w (.slice (some ⟨g, 0, none⟩) zs.length zs.length) zs := (Rk.made hg he hl).rd
theorem awake_way : wayM [1, 2, 3] [2, 3, 4] = [[1, 2, 3], [1, 2, 3, 4], [2, 3, 4]] := by decide
theorem awake_caught : caughtM [(4, 0, 5)] 4 9 13 = true := by decide

set_option maxHeartbeats 2000000 in
theorem awake_of (w : World) : Calls Try.prog 10 #[] w fun e w' => e = .returned (.bool true) ∧ Below w.heap.size w w' := by
  obtain ⟨hs0, g0, hb0⟩ := one_box w (.cells #[.int .i64 1, .int .i64 2, .int .i64 3] 3)
  have hP : Rd intE _ (.slice (some ⟨w.heap.size, 0, none⟩) 3 3) [1, 2, 3] := made_ints (zs := [1, 2, 3]) g0 rfl (by unfold maxLen; simp)
  go_enter Try.func10, Try.ntmps10
  clear g0
  go_wp2_with fail
  generalize w.alloc (.cells #[.int .i64 1, .int .i64 2, .int .i64 3] 3) = w1 at *
  obtain ⟨hs1, g1, hb1⟩ := one_box w1 (.cells #[.int .i64 2, .int .i64 3, .int .i64 4] 3)
  have k1 : Calls Try.prog 6 #[.slice (some ⟨w.heap.size, 0, none⟩) 3 3, .slice (some ⟨w1.heap.size, 0, none⟩) 3 3] (w1.alloc (.cells #[.int .i64 2, .int .i64 3, .int .i64 4] 3)) _ := way_yes [1, 2, 3] [2, 3, 4] _ _ _ (hP.below hb1) (made_ints (zs := [2, 3, 4]) g1 rfl (by unfold maxLen; simp)) (by decide) (by decide)
  rw [awake_way, hs0] at k1
  have hb01 := hb0.trans (hb1.mono hb0.size)
  refine k1.mono ?_
  rintro e w2 ⟨v, rfl, hW, hb2⟩
  obtain ⟨va, vc, hv⟩ := hW.shape
  have hv' : v = .slice va 3 vc := hv
  subst hv'
  have hb02 := hb01.trans (hb2.mono hb01.size)
  obtain ⟨b, off, sa, sc, rfl, -, c⟩ := hW.at hb2.size (i := 1) (l := [1, 2, 3, 4]) rfl
  clear k1 hs0 hs1 g1 hb1 hb0 hb01 hP hW
  obtain ⟨hs3, g3, hb3⟩ := one_box w2 (.cells #[.int .i64 1, .int .i64 2, .int .i64 3, .int .i64 4] 3)
  have hV3 : Rd intE _ (.slice (some ⟨w2.heap.size, 0, none⟩) 4 4) [1, 2, 3, 4] := made_ints (zs := [1, 2, 3, 4]) g3 rfl (by unfold maxLen; simp)
  obtain ⟨c0, -⟩ := c w2 (Below.refl _ _)
  obtain ⟨-, hR⟩ := c _ hb3
  have hR' : Rd intE _ (.slice sa 4 sc) [1, 2, 3, 4] := hR.rd
  have c0' : w2.cell? ⟨b, off + 1, none⟩ = some (.slice sa 4 sc) := c0
  clear c0 hR c
  have k2 := ints_of [1, 2, 3, 4] (.slice sa 4 sc) (.slice (some ⟨w2.heap.size, 0, none⟩) 4 4) _ hR' hV3 (by simp)
  have hb03 := hb02.trans (hb3.mono hb02.size)
  clear hV3 hR' g3 hb2
  go_wp2_with fail
  refine k2.mono ?_
  rintro e w4 ⟨rfl, hb4⟩
  have hb04 := hb03.trans (hb4.mono hb03.size)
  clear k2 c0' hs3 hb3 hb4 hb03 hb02
  obtain ⟨hs5, g5, hb5⟩ := one_box w4 (.cells #[.int .i64 4, .int .u64 0, .int .u64 5] 45)
  have hP5 : Rd peerE _ (.slice (some ⟨w4.heap.size, 0, none⟩) 1 1) [(4, 0, 5)] := (Rk.made (E := peerE) (xs := [(4, 0, 5)]) g5 rfl (by unfold maxLen; simp)).rd
  have k3 : Calls Try.prog 16 #[.slice (some ⟨w4.heap.size, 0, none⟩) 1 1, .int .i64 4, .int .u64 9, .int .u64 13] _ _ := caught_of [(4, 0, 5)] _ 4 9 13 _ hP5 (by simp) (by simp) (by decide) (by decide)
  rw [awake_caught] at k3
  have hb05 := hb04.trans (hb5.mono hb04.size)
  clear hP5 g5
  go_wp2_with fail
  refine k3.mono ?_
  rintro e w6 ⟨rfl, hb6⟩
  have hb06 := hb05.trans (hb6.mono hb05.size)
  clear k3
  go_wp2
  go_ret
  exact ⟨rfl, hb06⟩
end Go.Proofs.Ytkglckngiggbhaa

