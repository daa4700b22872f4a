import Derived.Test.YtglbjimpaoikfaaHd50
import Derived.Test.YtglbjimpaoikfaaHd53
import Derived.Test.YtglbjimpaoikfaaRows
import Derived.ProofKit
import Derived.OpenShut
import Derived.JoinedCond
import Derived.Carry
import Derived.Lib.SmallJoins
/- The law TxnDecides answers true at every input and leaves all memory as it was. -/
namespace Go.Proofs.Ytglbjimpaoikfaa
open Go.ChangeShapes Go.WideShapes Go.ChangeAt Go.RowKit LeaseMath
set_option maxRecDepth 100000
set_option linter.unusedSimpArgs false
set_option linter.unusedVariables false

theorem decides_contract (H : Type) (enc : TypeId × Value → H) (W : World) (base : Nat) (args : Array Value) (ds gs : List (DataW H)) (before : List MemPlace)
    (hval : ∀ (j : Nat) t v, Try.f5.params[j]? = some t → args[j]? = some v → Value.okWide Try.prog W .any base t v)
    (hW : DataW.Whole enc Try.prog Try.f5.params.toList Rows.txnDecidesSpec.vars false W args.toList ds gs before)
    (hsz : (DataW.weightsEach Try.prog (Try.f5.params.toList ++ Rows.txnDecidesSpec.plain.varTypes Try.prog) (ds ++ gs)).all (· ≤ reachBytes) = true) :
    Calls Try.prog 5 args W fun e W' => ∃ v, e = .returned v ∧ Rows.txnDecidesSpec.post enc Try.prog Try.f5 false true false false W args v W' := by
  have hW' := hW
  obtain ⟨p, q, hA0, hV, rfl, hfz, hnd⟩ := hW
  have hA : DataW.TrodAll enc Try.prog W 0 (fun _ => true) true Try.f5.params.toList args.toList ds p := hA0
  rw [Try.params5] at hA hval hsz
  obtain ⟨v0, v1, d0, d1, p0, p1, rfl, rfl, rfl, h0, h1⟩ := trodAll_two hA
  obtain ⟨rfl, rfl⟩ := trodVars_none hV
  obtain ⟨x0, e0, hR0, s0⟩ := rec_arg (hval 0 29 v0 rfl rfl) h0
  have l0 := s0 hsz (j := 0) rfl (by simp)
  obtain ⟨x1, hR1, hd1⟩ := says_arg (hval 1 54 v1 rfl rfl) h1
  have l1 : x1.length ≤ 140737488355328 := by
    rcases hd1 with rfl | ⟨el, sp, hd, hl⟩
    · simp
    · have h9 := sized_slice hsz (j := 1) (t := 54) (e := 47) (elems := el) (spare := sp) rfl (by simpa using hd) Try.underlying54
      rw [bytes_say] at h9
      unfold reachBytes at h9
      have h8 : x1.length * 1 ≤ (el.length + sp.length) * 32 := Nat.mul_le_mul (by omega) (by omega)
      omega
  have hlt : ∀ y ∈ p0 ++ p1, y.block < W.heap.size := fun y hy => by simpa using hW'.lt y (by simpa using hy)
  have es : Rows.txnDecidesSpec.fn H ([d0, d1] ++ []) = { results := [.lit (.bool true)], args := [d0, d1] } := by simp [Rows.txnDecidesSpec]
  subst e0
  refine (decides_law x0 x1 v1 W hR0 hR1 l1 l0.1 l0.2.1 l0.2.2.1 l0.2.2.2).mono fun e W' ⟨he, hb⟩ => ?_
  subst he
  refine ⟨_, rfl, _, _, _, [], p0 ++ p1, [], hW', ?_, ?_, ?_, hb.frame _, fun h => by cases h⟩
  · rw [es]; exact trodAll_mk1 (shut_bool Try.underlying4 true)
  · rw [es]
    exact trodAll_mk2 (Below.trod laidOut (by kernel_rfl) (of_decide_eq_true (by kernel_rfl)) h0 hb (fun y hy => hlt y (by simp [hy]))) (Below.trod laidOut (by kernel_rfl) (of_decide_eq_true (by kernel_rfl)) h1 hb (fun y hy => hlt y (by simp [hy])))
  · rw [es]; rfl

theorem decides_lifted (os : Os) (started : os.Started) (H : Type) (enc : TypeId × Value → H) :
    ReturnsInHanded {} Try.checked os 5 .any (Rows.txnDecidesSpec.pre6 enc Try.prog Try.f5 Rows.txnDecidesRow.domain false) (Rows.txnDecidesSpec.post enc Try.prog Try.f5 false true false false) := by
  refine returnsInHanded_of_change_sized (C := Try.checked) own started (by kernel_rfl) Try.func5
    (ChangeSpec.witness6 (enc := enc) (C := Try.checked) false ⟨#[], #[.agg #[.int .i64 0, .int .u64 0, .int .i64 0, .slice none 0 0, .int .u64 0, .int .i64 0, .slice none 0 0, .int .i64 0, .slice none 0 0, .slice none 0 0, .int .i64 0], .slice none 0 0], []⟩ 8 (by kernel_rfl) (by kernel_rfl) (by kernel_rfl) (by kernel_rfl) (by kernel_rfl)) ?_
  intro W base args ds gs before hval hW _ hsz _
  exact decides_contract H enc W base args ds gs before hval hW hsz

theorem decides_row : Rows.TxnDecidesSaid :=
  OpenClaim.holds_of_wide 5 Try.f5 rfl rfl rfl rfl rfl rfl rfl ⟨rfl, rfl, rfl, rfl, rfl⟩ rfl rfl rfl rfl rfl (by kernel_rfl) Try.func5 (by kernel_rfl)
    (of_decide_eq_true (by kernel_rfl)) (by unfold Func.isWrapper; rw [if_neg (of_decide_eq_false (by kernel_rfl))]; exact ⟨rfl, rfl⟩)
    (fun os started H enc _ => decides_lifted os started H enc)
#print axioms decides_row
end Go.Proofs.Ytglbjimpaoikfaa

