/- The law DiskOwns answers true at every name and byte slice and leaves its arguments and all memory as they were. -/
import Derived.Test.YtcnljocgpoaepaaOwnsLaw
import Derived.Test.YtcnljocgpoaepaaRows
import Derived.ProofKit
import Derived.OpenShut
import Derived.JoinedCond
import Derived.Carry
import Derived.Lib.SmallJoins
namespace Go.Proofs.Ytcnljocgpoaepaa
open Go.ChangeShapes Go.WideShapes Go.ChangeAt Go.RowKit DiskMath
set_option maxRecDepth 100000
set_option linter.unusedSimpArgs false
set_option linter.unusedVariables false

theorem owns_own : ownKnob Try.prog.godebug = none := by kernel_rfl
theorem owns_laidOut : laidOutB Try.prog = true := by kernel_rfl

theorem owns_contract (H : Type) (enc : TypeId × Value → H) (W : World) (base : Nat) (args : Array Value) (ds gs : List (DataW H)) (before : List MemPlace)
    (hval : ∀ (j : Nat) t v, Try.f5.params[j]? = some t → args[j]? = some v → Value.okWide Try.prog W .any base t v)
    (hW : DataW.Whole enc Try.prog Try.f5.params.toList Rows.diskOwnsSpec.vars false W args.toList ds gs before)
    (hsz : (DataW.weightsEach Try.prog (Try.f5.params.toList ++ Rows.diskOwnsSpec.plain.varTypes Try.prog) (ds ++ gs)).all (· ≤ reachBytes) = true) :
    Calls Try.prog 5 args W fun e W' => ∃ v, e = .returned v ∧ Rows.diskOwnsSpec.post enc Try.prog Try.f5 false true false false W args v W' := by
  have hW' := hW
  obtain ⟨p, q, hA0, hV, rfl, hfz, hnd⟩ := hW
  have hA : DataW.TrodAll enc Try.prog W 0 (fun _ => true) true Try.f5.params.toList args.toList ds p := hA0
  rw [Try.params5] at hA hval hsz
  obtain ⟨v0, v1, d0, d1, p0, p1, rfl, rfl, rfl, h0, h1⟩ := trodAll_two hA
  obtain ⟨rfl, rfl⟩ := trodVars_none hV
  have hh0 := h0
  have hh1 := h1
  obtain ⟨s0, e0⟩ := okWide_string Try.underlying9 (hval 0 9 v0 rfl rfl)
  obtain ⟨f0, g0⟩ := h0
  rw [show v0.cells.toList = [v0] by rw [e0]; rfl] at g0
  obtain ⟨n, i0, _, hn⟩ := DataW.trod_string Try.underlying9 g0
  simp only [List.cons.injEq, and_true] at i0
  obtain ⟨a1, len1, cap1, e1⟩ := okWide_slice Try.underlying33 (hval 1 33 v1 rfl rfl)
  obtain ⟨f1, g1⟩ := h1
  rw [show v1.cells.toList = [v1] by rw [e1]; rfl] at g1
  obtain ⟨l, hB, hb0, hform⟩ := @bs_opened keepAll _ _ _ _ _ _ (fun _ _ => trivial) g1
  have hlt : ∀ x ∈ p0 ++ p1, x.block < W.heap.size := fun x hx => by simpa using hW'.lt x (by simpa using hx)
  have hlen : l.length ≤ 140737488355328 := by
    rcases hform with rfl | ⟨el, sp, hd, hel⟩
    · simp
    · have h1 := sized_slice hsz (j := 1) (t := 33) (e := 5) (elems := el) (spare := sp) rfl (by simpa using hd) Try.underlying33
      rw [byte_bytes] at h1
      unfold reachBytes at h1
      omega
  have es : Rows.diskOwnsSpec.fn H ([d0, d1] ++ []) = { results := [.lit (.bool true)], args := [d0, d1] } := by simp [Rows.diskOwnsSpec]
  have hl := owns_law n v1 l W hB hn hb0 hlen
  rw [← i0] at hl
  refine hl.mono fun e W' ⟨he, hb⟩ => ?_
  subst he
  refine ⟨_, rfl, _, _, _, [], p0 ++ p1, [], hW', ?_, ?_, ?_, hb.frame _, fun h => by cases h⟩
  · rw [es]; exact trodAll_mk1 (shut_bool Try.underlying4 true)
  · rw [es]
    exact trodAll_cons_mk (Below.trod owns_laidOut (by kernel_rfl) (of_decide_eq_true (by kernel_rfl)) hh0 hb (fun x hx => hlt x (List.mem_append_left _ hx)))
      (trodAll_mk1 (Below.trod owns_laidOut (by kernel_rfl) (of_decide_eq_true (by kernel_rfl)) hh1 hb (fun x hx => hlt x (List.mem_append_right _ hx))))
  · rw [es]; rfl

theorem owns_lifted (os : Os) (started : os.Started) (H : Type) (enc : TypeId × Value → H) :
    ReturnsInHanded {} Try.checked os 5 .any (Rows.diskOwnsSpec.pre6 enc Try.prog Try.f5 Rows.diskOwnsRow.domain false) (Rows.diskOwnsSpec.post enc Try.prog Try.f5 false true false false) := by
  refine returnsInHanded_of_change_sized (C := Try.checked) owns_own started (by kernel_rfl) Try.func5
    (ChangeSpec.witness6 (enc := enc) (C := Try.checked) false ⟨#[], #[.string ⟨#[]⟩, .slice none 0 0], []⟩ 8 (by kernel_rfl) (by kernel_rfl) (by kernel_rfl) (by kernel_rfl) (by kernel_rfl)) ?_
  intro W base args ds gs before hval hW _ hsz _
  exact owns_contract H enc W base args ds gs before hval hW hsz

theorem owns_row : Rows.DiskOwnsSaid :=
  OpenClaim.holds_of_wide 5 Try.f5 rfl rfl rfl rfl rfl rfl rfl ⟨rfl, rfl, rfl, rfl, rfl⟩ rfl rfl rfl rfl rfl (by kernel_rfl) Try.func5 (by kernel_rfl)
    (of_decide_eq_true (by kernel_rfl)) (by unfold Func.isWrapper; rw [if_neg (of_decide_eq_false (by kernel_rfl))]; exact ⟨rfl, rfl⟩)
    (fun os started H enc _ => owns_lifted os started H enc)
#print axioms owns_row
end Go.Proofs.Ytcnljocgpoaepaa
