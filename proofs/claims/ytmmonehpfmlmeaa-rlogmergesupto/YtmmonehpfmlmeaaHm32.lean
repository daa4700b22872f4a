import Derived.Test.YtmmonehpfmlmeaaHm30
import Derived.Test.YtmmonehpfmlmeaaHm31
/- The law's small. -/
namespace RlogMath
open QuorumMath
/-- The base of a log of node 1 alone. -/
def smM : Me := ⟨0, 0, 0, [1]⟩
theorem sm_may : mayB smM [] = true := by decide
theorem sm_app : appM smM [] 3 1 [7] = (0, smM, [⟨1, 3, 1, [7]⟩]) := app_ok (by decide) (by decide) (by decide) (by decide)
theorem zero_may : mayB zeroMe [] = false := by decide
end RlogMath
namespace Go.Proofs.Ytmmonehpfmlmeaa
open Go.RowKit QuorumMath RlogMath
set_option maxRecDepth 100000
set_option linter.unusedSimpArgs false
set_option linter.unusedVariables false

set_option maxHeartbeats 1000000 in
theorem small_of2 (w : World) : Calls Try.prog 33 #[] w fun e w' => ∃ s : Sl, e = .returned (.agg #[.int .u64 0, .int .u64 0, .int .i64 0, .slice s.1 s.2.1 s.2.2, .slice none 0 0]) ∧ DataV w' (smM, s) ∧ Below w.heap.size w w' := by
  obtain ⟨h1, h2, h3⟩ := one_box w (.cells #[.int .u64 0, .int .u64 0, .int .i64 0, .slice (some ⟨w.heap.size + 1, 0, none⟩) 1 1, .slice none 0 0] 28)
  obtain ⟨q1, q2, q3⟩ := one_box (w.alloc (.cells #[.int .u64 0, .int .u64 0, .int .i64 0, .slice (some ⟨w.heap.size + 1, 0, none⟩) 1 1, .slice none 0 0] 28)) (.cells #[.int .u8 1] 5)
  rw [h1] at q1 q2 q3
  have HF : Hid (_ = _) := (q3.block w.heap.size (Nat.lt_succ_self _)).trans h2
  have hb : Hid (Below _ _ _) := h3.trans (q3.mono (Nat.le_succ _))
  have hR : Hid (Rd byteE _ _ _) := (Rk.made (E := byteE) (xs := [1]) q2 rfl (by unfold maxLen; simp)).rd
  clear h1 h2 h3 q1 q2 q3
  go_enter Try.func33, Try.ntmps33
  go_wp2
  (try simp only [Exit.inBlock, Exit.then])
  refine bodyPost_ret (results_lg1 rfl _ _ w.heap.size _ _ _ _ _ rfl HF.out) rfl ?_
  exact ⟨(some ⟨w.heap.size + 1, 0, none⟩, 1, 1), rfl, hR.out, hb.out⟩
theorem small_of (w : World) : Calls Try.prog 33 #[] w fun e w' => ∃ v, e = .returned v ∧ LogM w' v smM [] ∧ Below w.heap.size w w' :=
  (small_of2 w).mono fun e w' ⟨s, he, hD, hb⟩ => ⟨_, he, ⟨s, [], .slice none 0 0, rfl, hD, ents_nil _, rfl⟩, hb⟩

theorem sm_ok (s : Sl) : EzOk (smM, s) := ⟨show 0 < 18446744073709551616 by decide, show 0 < 18446744073709551616 by decide, show ∀ c ∈ [1], c < 256 by decide⟩

end Go.Proofs.Ytmmonehpfmlmeaa

