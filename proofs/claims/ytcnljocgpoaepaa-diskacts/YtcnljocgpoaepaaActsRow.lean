/- The law DiskActs answers true at all files and acts and leaves its arguments and all memory as they were. -/
import Derived.Test.YtcnljocgpoaepaaActsLaw
import Derived.Test.YtcnljocgpoaepaaSafeRow
import Derived.Test.YtcnljocgpoaepaaRows
import Derived.ProofKit
import Derived.OpenShut
import Derived.JoinedCond
import Derived.Carry
import Derived.Lib.SmallJoins
namespace Go.Proofs.Ytcnljocgpoaepaa
open Go.ChangeShapes Go.WideShapes Go.ChangeAt Go.RowKit DiskMath
set_option maxRecDepth 100000
set_option linter.unusedSimpArgs false
set_option linter.unusedVariables false

theorem acts_own : ownKnob Try.prog.godebug = none := by kernel_rfl
theorem acts_laidOut : laidOutB Try.prog = true := by kernel_rfl
theorem acts_contract (H : Type) (enc : TypeId × Value → H) (W : World) (base : Nat) (args : Array Value) (ds gs : List (DataW H)) (before : List MemPlace)
    (hval : ∀ (j : Nat) t v, Try.f3.params[j]? = some t → args[j]? = some v → Value.okWide Try.prog W .any base t v)
    (hW : DataW.Whole enc Try.prog Try.f3.params.toList Rows.diskActsSpec.vars false W args.toList ds gs before)
    (hsz : (DataW.weightsEach Try.prog (Try.f3.params.toList ++ Rows.diskActsSpec.plain.varTypes Try.prog) (ds ++ gs)).all (· ≤ reachBytes) = true) :
    Calls Try.prog 3 args W fun e W' => ∃ v, e = .returned v ∧ Rows.diskActsSpec.post enc Try.prog Try.f3 false true false false W args v W' := by
  have hW' := hW
  obtain ⟨p, q, hA0, hV, rfl, hfz, hnd⟩ := hW
  have hA : DataW.TrodAll enc Try.prog W 0 (fun _ => true) true Try.f3.params.toList args.toList ds p := hA0
  rw [Try.params3] at hA hval hsz
  obtain ⟨v0, v1, d0, d1, p0, p1, rfl, rfl, rfl, h0, h1⟩ := trodAll_two hA
  obtain ⟨rfl, rfl⟩ := trodVars_none hV
  have hh0 := h0
  have hh1 := h1
  obtain ⟨a0, len0, cap0, e0⟩ := okWide_slice Try.underlying22 (hval 0 22 v0 rfl rfl)
  obtain ⟨f0, g0⟩ := h0
  rw [show v0.cells.toList = [v0] by rw [e0]; rfl] at g0
  obtain ⟨rs, hRv, hrs, _⟩ := @files_opened keepAll _ _ _ _ _ _ (fun _ _ => trivial) g0
  obtain ⟨a1, len1, cap1, e1⟩ := okWide_slice Try.underlying23 (hval 1 23 v1 rfl rfl)
  obtain ⟨f1, g1⟩ := h1
  rw [show v1.cells.toList = [v1] by rw [e1]; rfl] at g1
  obtain ⟨l, hAv, hok, hform⟩ := @acts_opened keepAll _ _ _ _ _ _ (fun _ _ => trivial) g1
  have hlt : ∀ x ∈ p0 ++ p1, x.block < W.heap.size := fun x hx => by simpa using hW'.lt x (by simpa using hx)
  have hbl : ∀ x ∈ l, x.b.length ≤ 140737488355328 := fun x hx => by
    by_cases hne : x.b = []
    · rw [hne]; simp
    · obtain ⟨el, sp, hd, z0, z1, z2, u1, s1, z4, z5, hm, hl⟩ := (hform x hx).1 hne
      have := acts_sized hsz (j := 1) rfl (show ([d0, d1] ++ [])[1]? = some _ by simpa using hd) hm
      omega
  have hcl : ∀ x ∈ l, x.cuts.length * 8 ≤ 140737488355328 := fun x hx => by
    by_cases hne : x.cuts = []
    · rw [hne]; simp
    · obtain ⟨el, sp, hd, z0, z1, z2, z3, z4, u1, s1, hm, hl⟩ := (hform x hx).2 hne
      have := cuts_sized hsz (j := 1) rfl (show ([d0, d1] ++ [])[1]? = some _ by simpa using hd) hm
      omega
  have es : Rows.diskActsSpec.fn H ([d0, d1] ++ []) = { results := [.lit (.bool true)], args := [d0, d1] } := by simp [Rows.diskActsSpec]
  refine (acts_law rs l v0 v1 W hRv (fun r hr => (hrs r hr).2) hAv hok hbl hcl).mono fun e W' ⟨he, hb⟩ => ?_
  subst he
  refine ⟨_, rfl, _, _, _, [], p0 ++ p1, [], hW', ?_, ?_, ?_, hb.frame _, fun h => by cases h⟩
  · rw [es]; exact trodAll_mk1 (shut_bool Try.underlying4 true)
  · rw [es]
    exact trodAll_cons_mk (Below.trod acts_laidOut (by kernel_rfl) (of_decide_eq_true (by kernel_rfl)) hh0 hb (fun x hx => hlt x (List.mem_append_left _ hx)))
      (trodAll_mk1 (Below.trod acts_laidOut (by kernel_rfl) (of_decide_eq_true (by kernel_rfl)) hh1 hb (fun x hx => hlt x (List.mem_append_right _ hx))))
  · rw [es]; rfl

theorem acts_lifted (os : Os) (started : os.Started) (H : Type) (enc : TypeId × Value → H) :
    ReturnsInHanded {} Try.checked os 3 .any (Rows.diskActsSpec.pre6 enc Try.prog Try.f3 Rows.diskActsRow.domain false) (Rows.diskActsSpec.post enc Try.prog Try.f3 false true false false) := by
  refine returnsInHanded_of_change_sized (C := Try.checked) acts_own started (by kernel_rfl) Try.func3
    (ChangeSpec.witness6 (enc := enc) (C := Try.checked) false ⟨#[], #[.slice none 0 0, .slice none 0 0], []⟩ 8 (by kernel_rfl) (by kernel_rfl) (by kernel_rfl) (by kernel_rfl) (by kernel_rfl)) ?_
  intro W base args ds gs before hval hW _ hsz _
  exact acts_contract H enc W base args ds gs before hval hW hsz

theorem acts_row : Rows.DiskActsSaid :=
  OpenClaim.holds_of_wide 3 Try.f3 rfl rfl rfl rfl rfl rfl rfl ⟨rfl, rfl, rfl, rfl, rfl⟩ rfl rfl rfl rfl rfl (by kernel_rfl) Try.func3 (by kernel_rfl)
    (of_decide_eq_true (by kernel_rfl)) (by unfold Func.isWrapper; rw [if_neg (of_decide_eq_false (by kernel_rfl))]; exact ⟨rfl, rfl⟩)
    (fun os started H enc _ => acts_lifted os started H enc)
#print axioms acts_row
end Go.Proofs.Ytcnljocgpoaepaa
