import Derived.Test.YtlgnnfhnkfjafaaHp43
import Derived.Test.YtlgnnfhnkfjafaaHp45
import Derived.Test.YtlgnnfhnkfjafaaRows
import Derived.ProofKit
import Derived.OpenShut
import Derived.JoinedCond
import Derived.Carry
import Derived.Lib.SmallJoins
/- The law PlanTurns answers true at every input and leaves all memory as it was. -/
namespace Go.Proofs.Ytlgnnfhnkfjafaa
open Go.ChangeShapes Go.WideShapes Go.ChangeAt Go.RowKit SpanMath ChartMath PlanMath
set_option maxRecDepth 100000
set_option linter.unusedSimpArgs false
set_option linter.unusedVariables false

theorem turns_contract (H : Type) (enc : TypeId × Value → H) (W : World) (base : Nat) (args : Array Value) (ds gs : List (DataW H)) (before : List MemPlace)
    (hval : ∀ (j : Nat) t v, Try.f3.params[j]? = some t → args[j]? = some v → Value.okWide Try.prog W .any base t v)
    (hW : DataW.Whole enc Try.prog Try.f3.params.toList Rows.planTurnsSpec.vars false W args.toList ds gs before)
    (hsz : (DataW.weightsEach Try.prog (Try.f3.params.toList ++ Rows.planTurnsSpec.plain.varTypes Try.prog) (ds ++ gs)).all (· ≤ reachBytes) = true) :
    Calls Try.prog 3 args W fun e W' => ∃ v, e = .returned v ∧ Rows.planTurnsSpec.post enc Try.prog Try.f3 false true false false W args v W' := by
  have hW' := hW
  obtain ⟨p, q, hA0, hV, rfl, hfz, hnd⟩ := hW
  have hA : DataW.TrodAll enc Try.prog W 0 (fun _ => true) true Try.f3.params.toList args.toList ds p := hA0
  rw [Try.params3] at hA hval hsz
  obtain ⟨v0, v1, v2, d0, d1, d2, p0, p1, p2, rfl, rfl, rfl, h0, h1, h2⟩ := trodAll_three hA
  obtain ⟨rfl, rfl⟩ := trodVars_none hV
  obtain ⟨x0, hR0, hd0⟩ := ranges_arg (hval 0 22 v0 rfl rfl) h0
  have l0 : x0.length ≤ 140737488355328 := by
    rcases hd0 with rfl | ⟨el, sp, hd, hl⟩
    · simp
    · have h9 := sized_slice hsz (j := 0) (t := 22) (e := 47) (elems := el) (spare := sp) rfl (by simpa using hd) Try.underlying22
      rw [bytes_range] at h9
      unfold reachBytes at h9
      have h8 : x0.length * 1 ≤ (el.length + sp.length) * 48 := Nat.mul_le_mul (by omega) (by omega)
      omega
  obtain ⟨x1, hR1, hd1⟩ := plans_arg (hval 1 23 v1 rfl rfl) h1
  have l1 : x1.length ≤ 140737488355328 := by
    rcases hd1 with rfl | ⟨el, sp, hd, hl⟩
    · simp
    · have h9 := sized_slice hsz (j := 1) (t := 23) (e := 45) (elems := el) (spare := sp) rfl (by simpa using hd) Try.underlying23
      rw [bytes_plan] at h9
      unfold reachBytes at h9
      have h8 : x1.length * 1 ≤ (el.length + sp.length) * 64 := Nat.mul_le_mul (by omega) (by omega)
      omega
  obtain ⟨a2, n2, k2, g2, s2, e2⟩ := turn_arg (hval 2 26 v2 rfl rfl) h2
  have hlt : ∀ y ∈ p0 ++ p1 ++ p2, y.block < W.heap.size := fun y hy => by simpa using hW'.lt y (by simpa using hy)
  have es : Rows.planTurnsSpec.fn H ([d0, d1, d2] ++ []) = { results := [.lit (.bool true)], args := [d0, d1, d2] } := by simp [Rows.planTurnsSpec]
  subst e2
  refine (turns_law x0 x1 v0 v1 a2 n2 k2 g2 s2 W hR0 hR1 l0 l1).mono fun e W' ⟨he, hb⟩ => ?_
  subst he
  refine ⟨_, rfl, _, _, _, [], p0 ++ p1 ++ p2, [], hW', ?_, ?_, ?_, hb.frame _, fun h => by cases h⟩
  · rw [es]; exact trodAll_mk1 (shut_bool Try.underlying4 true)
  · rw [es]
    rw [List.append_assoc]
    exact trodAll_mk3 (Below.trod laidOut (by kernel_rfl) (of_decide_eq_true (by kernel_rfl)) h0 hb (fun y hy => hlt y (by simp [hy]))) (Below.trod laidOut (by kernel_rfl) (of_decide_eq_true (by kernel_rfl)) h1 hb (fun y hy => hlt y (by simp [hy]))) (Below.trod laidOut (by kernel_rfl) (of_decide_eq_true (by kernel_rfl)) h2 hb (fun y hy => hlt y (by simp [hy])))
  · rw [es]; rfl

theorem turns_lifted (os : Os) (started : os.Started) (H : Type) (enc : TypeId × Value → H) :
    ReturnsInHanded {} Try.checked os 3 .any (Rows.planTurnsSpec.pre6 enc Try.prog Try.f3 Rows.planTurnsRow.domain false) (Rows.planTurnsSpec.post enc Try.prog Try.f3 false true false false) := by
  refine returnsInHanded_of_change_sized (C := Try.checked) own started (by kernel_rfl) Try.func3
    (ChangeSpec.witness6 (enc := enc) (C := Try.checked) false ⟨#[], #[.slice none 0 0, .slice none 0 0, .agg #[.int .i64 0, .int .u64 0, .string { data := #[] }, .int .i64 0, .int .i64 0]], []⟩ 8 (by kernel_rfl) (by kernel_rfl) (by kernel_rfl) (by kernel_rfl) (by kernel_rfl)) ?_
  intro W base args ds gs before hval hW _ hsz _
  exact turns_contract H enc W base args ds gs before hval hW hsz

theorem turns_row : Rows.PlanTurnsSaid :=
  OpenClaim.holds_of_wide 3 Try.f3 rfl rfl rfl rfl rfl rfl rfl ⟨rfl, rfl, rfl, rfl, rfl⟩ rfl rfl rfl rfl rfl (by kernel_rfl) Try.func3 (by kernel_rfl)
    (of_decide_eq_true (by kernel_rfl)) (by unfold Func.isWrapper; rw [if_neg (of_decide_eq_false (by kernel_rfl))]; exact ⟨rfl, rfl⟩)
    (fun os started H enc _ => turns_lifted os started H enc)
#print axioms turns_row
end Go.Proofs.Ytlgnnfhnkfjafaa

