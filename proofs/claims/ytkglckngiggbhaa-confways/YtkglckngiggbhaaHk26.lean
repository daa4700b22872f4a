import Derived.Test.YtkglckngiggbhaaHk23
import Derived.Test.YtkglckngiggbhaaHk25
import Derived.Test.YtkglckngiggbhaaRows
import Derived.ProofKit
import Derived.OpenShut
import Derived.JoinedCond
import Derived.Carry
import Derived.Lib.SmallJoins
/- The law ConfWays answers true at every input and leaves all memory as it was. -/
namespace Go.Proofs.Ytkglckngiggbhaa
open Go.ChangeShapes Go.WideShapes Go.ChangeAt Go.RowKit QuorumMath
set_option maxRecDepth 100000
set_option linter.unusedSimpArgs false
set_option linter.unusedVariables false

theorem ways_contract (H : Type) (enc : TypeId × Value → H) (W : World) (base : Nat) (args : Array Value) (ds gs : List (DataW H)) (before : List MemPlace)
    (hval : ∀ (j : Nat) t v, Try.f3.params[j]? = some t → args[j]? = some v → Value.okWide Try.prog W .any base t v)
    (hW : DataW.Whole enc Try.prog Try.f3.params.toList Rows.confWaysSpec.vars false W args.toList ds gs before)
    (hsz : (DataW.weightsEach Try.prog (Try.f3.params.toList ++ Rows.confWaysSpec.plain.varTypes Try.prog) (ds ++ gs)).all (· ≤ reachBytes) = true) :
    Calls Try.prog 3 args W fun e W' => ∃ v, e = .returned v ∧ Rows.confWaysSpec.post enc Try.prog Try.f3 false true false false W args v W' := by
  have hW' := hW
  obtain ⟨p, q, hA0, hV, rfl, hfz, hnd⟩ := hW
  have hA : DataW.TrodAll enc Try.prog W 0 (fun _ => true) true Try.f3.params.toList args.toList ds p := hA0
  rw [Try.params3] at hA hval hsz
  obtain ⟨v0, v1, d0, d1, p0, p1, rfl, rfl, rfl, h0, h1⟩ := trodAll_two hA
  obtain ⟨rfl, rfl⟩ := trodVars_none hV
  obtain ⟨x0, hR0, hform0⟩ := ints_arg (hval 0 22 v0 rfl rfl) h0
  have hlen0 : x0.length * 8 ≤ 140737488355328 := by
    rcases hform0 with rfl | ⟨el, sp, hd, hel⟩
    · simp
    · have h9 := sized_slice hsz (j := 0) (t := 22) (e := 3) (elems := el) (spare := sp) rfl (by simpa using hd) Try.underlying22
      rw [bytes_int] at h9
      unfold reachBytes at h9
      have h8 : x0.length * 8 ≤ (el.length + sp.length) * 8 := Nat.mul_le_mul_right _ (by omega)
      omega
  obtain ⟨x1, hR1, hform1⟩ := ints_arg (hval 1 22 v1 rfl rfl) h1
  have hlen1 : x1.length * 8 ≤ 140737488355328 := by
    rcases hform1 with rfl | ⟨el, sp, hd, hel⟩
    · simp
    · have h9 := sized_slice hsz (j := 1) (t := 22) (e := 3) (elems := el) (spare := sp) rfl (by simpa using hd) Try.underlying22
      rw [bytes_int] at h9
      unfold reachBytes at h9
      have h8 : x1.length * 8 ≤ (el.length + sp.length) * 8 := Nat.mul_le_mul_right _ (by omega)
      omega
  have hlt : ∀ y ∈ p0 ++ p1, y.block < W.heap.size := fun y hy => by simpa using hW'.lt y (by simpa using hy)
  have es : Rows.confWaysSpec.fn H ([d0, d1] ++ []) = { results := [.lit (.bool true)], args := [d0, d1] } := by simp [Rows.confWaysSpec]
  refine (ways_law x0 v0 x1 v1 W hR0 hlen0 hR1 hlen1).mono fun e W' ⟨he, hb⟩ => ?_
  subst he
  refine ⟨_, rfl, _, _, _, [], p0 ++ p1, [], hW', ?_, ?_, ?_, hb.frame _, fun h => by cases h⟩
  · rw [es]; exact trodAll_mk1 (shut_bool Try.underlying4 true)
  · rw [es]
    exact trodAll_mk2 (Below.trod laidOut (by kernel_rfl) (of_decide_eq_true (by kernel_rfl)) h0 hb (fun y hy => hlt y (by simp [hy]))) (Below.trod laidOut (by kernel_rfl) (of_decide_eq_true (by kernel_rfl)) h1 hb (fun y hy => hlt y (by simp [hy])))
  · rw [es]; rfl

theorem ways_lifted (os : Os) (started : os.Started) (H : Type) (enc : TypeId × Value → H) :
    ReturnsInHanded {} Try.checked os 3 .any (Rows.confWaysSpec.pre6 enc Try.prog Try.f3 Rows.confWaysRow.domain false) (Rows.confWaysSpec.post enc Try.prog Try.f3 false true false false) := by
  refine returnsInHanded_of_change_sized (C := Try.checked) own started (by kernel_rfl) Try.func3
    (ChangeSpec.witness6 (enc := enc) (C := Try.checked) false ⟨#[], #[.slice none 0 0, .slice none 0 0], []⟩ 8 (by kernel_rfl) (by kernel_rfl) (by kernel_rfl) (by kernel_rfl) (by kernel_rfl)) ?_
  intro W base args ds gs before hval hW _ hsz _
  exact ways_contract H enc W base args ds gs before hval hW hsz

theorem ways_row : Rows.ConfWaysSaid :=
  OpenClaim.holds_of_wide 3 Try.f3 rfl rfl rfl rfl rfl rfl rfl ⟨rfl, rfl, rfl, rfl, rfl⟩ rfl rfl rfl rfl rfl (by kernel_rfl) Try.func3 (by kernel_rfl)
    (of_decide_eq_true (by kernel_rfl)) (by unfold Func.isWrapper; rw [if_neg (of_decide_eq_false (by kernel_rfl))]; exact ⟨rfl, rfl⟩)
    (fun os started H enc _ => ways_lifted os started H enc)
#print axioms ways_row
end Go.Proofs.Ytkglckngiggbhaa

