/- The law DiskSafe answers true at all acts and cuts and leaves its arguments and all memory as they were. -/
import Derived.Test.YtcnljocgpoaepaaSafeLaw
import Derived.Test.YtcnljocgpoaepaaRows
import Derived.ProofKit
import Derived.OpenShut
import Derived.JoinedCond
import Derived.Carry
import Derived.Lib.SmallJoins
namespace Go.Proofs.Ytcnljocgpoaepaa
open Go.ChangeShapes Go.WideShapes Go.ChangeAt Go.RowKit DiskMath
set_option maxRecDepth 100000
set_option linter.unusedSimpArgs false
set_option linter.unusedVariables false

theorem safe_own : ownKnob Try.prog.godebug = none := by kernel_rfl
theorem safe_laidOut : laidOutB Try.prog = true := by kernel_rfl
theorem int_bytes : Try.prog.bytesOf 3 = 8 := by kernel_rfl

theorem cuts_sized {H : Type} {ts : List TypeId} {ds : List (DataW H)} {j : Nat} {el sp e1 s1 : List (DataW H)} {d0 d1 d2 d3 d4 : DataW H} (h : (DataW.weightsEach Try.prog ts ds).all (· ≤ reachBytes) = true) (ht : ts[j]? = some 23) (hd : ds[j]? = some (.slice el sp)) (hm : DataW.agg [d0, d1, d2, d3, d4, .slice e1 s1] ∈ el) : e1.length * 8 ≤ 140737488355328 := by
  have h0 : (e1.length + s1.length) * Try.prog.bytesOf 3 ∈ (DataW.slice e1 s1 : DataW H).weights Try.prog 34 := by simp [DataW.weights, Try.underlying34]
  have h1 : (e1.length + s1.length) * Try.prog.bytesOf 3 ∈ (DataW.agg [d0, d1, d2, d3, d4, .slice e1 s1] : DataW H).weights Try.prog 36 := by
    simp only [DataW.weights, Try.underlying36]
    exact DataW.weights_mem_each (j := 5) rfl rfl _ h0
  have h2 := weights_all h1 hm
  have h3 : (e1.length + s1.length) * Try.prog.bytesOf 3 ∈ (DataW.slice el sp : DataW H).weights Try.prog 23 := by
    simp only [DataW.weights, Try.underlying23]
    exact List.mem_cons_of_mem _ (List.mem_append_left _ h2)
  have := List.all_eq_true.1 h _ (DataW.weights_mem_each ht hd _ h3)
  rw [int_bytes] at this
  unfold reachBytes at this
  simp at this
  omega

theorem safe_contract (H : Type) (enc : TypeId × Value → H) (W : World) (base : Nat) (args : Array Value) (ds gs : List (DataW H)) (before : List MemPlace)
    (hval : ∀ (j : Nat) t v, Try.f4.params[j]? = some t → args[j]? = some v → Value.okWide Try.prog W .any base t v)
    (hW : DataW.Whole enc Try.prog Try.f4.params.toList Rows.diskSafeSpec.vars false W args.toList ds gs before)
    (hsz : (DataW.weightsEach Try.prog (Try.f4.params.toList ++ Rows.diskSafeSpec.plain.varTypes Try.prog) (ds ++ gs)).all (· ≤ reachBytes) = true) :
    Calls Try.prog 4 args W fun e W' => ∃ v, e = .returned v ∧ Rows.diskSafeSpec.post enc Try.prog Try.f4 false true false false W args v W' := by
  have hW' := hW
  obtain ⟨p, q, hA0, hV, rfl, hfz, hnd⟩ := hW
  have hA : DataW.TrodAll enc Try.prog W 0 (fun _ => true) true Try.f4.params.toList args.toList ds p := hA0
  rw [Try.params4] at hA hval hsz
  obtain ⟨v0, v1, d0, d1, p0, p1, rfl, rfl, rfl, h0, h1⟩ := trodAll_two hA
  obtain ⟨rfl, rfl⟩ := trodVars_none hV
  have hh0 := h0
  have hh1 := h1
  obtain ⟨a0, len0, cap0, e0⟩ := okWide_slice Try.underlying23 (hval 0 23 v0 rfl rfl)
  obtain ⟨f0, g0⟩ := h0
  rw [show v0.cells.toList = [v0] by rw [e0]; rfl] at g0
  obtain ⟨l, hAv, hok, hform⟩ := @acts_opened keepAll _ _ _ _ _ _ (fun _ _ => trivial) g0
  obtain ⟨a1, len1, cap1, e1⟩ := okWide_slice Try.underlying34 (hval 1 34 v1 rfl rfl)
  obtain ⟨f1, g1⟩ := h1
  rw [show v1.cells.toList = [v1] by rw [e1]; rfl] at g1
  obtain ⟨cuts, hN, _⟩ := ints_opened g1
  have hlt : ∀ x ∈ p0 ++ p1, x.block < W.heap.size := fun x hx => by simpa using hW'.lt x (by simpa using hx)
  have hbl : ∀ x ∈ l, x.b.length ≤ 140737488355328 := fun x hx => by
    by_cases hne : x.b = []
    · rw [hne]; simp
    · obtain ⟨el, sp, hd, z0, z1, z2, u1, s1, z4, z5, hm, hl⟩ := (hform x hx).1 hne
      have := acts_sized hsz (j := 0) rfl (show ([d0, d1] ++ [])[0]? = some _ by simpa using hd) hm
      omega
  have hcl : ∀ x ∈ l, x.cuts.length * 8 ≤ 140737488355328 := fun x hx => by
    by_cases hne : x.cuts = []
    · rw [hne]; simp
    · obtain ⟨el, sp, hd, z0, z1, z2, z3, z4, u1, s1, hm, hl⟩ := (hform x hx).2 hne
      have := cuts_sized hsz (j := 0) rfl (show ([d0, d1] ++ [])[0]? = some _ by simpa using hd) hm
      omega
  have es : Rows.diskSafeSpec.fn H ([d0, d1] ++ []) = { results := [.lit (.bool true)], args := [d0, d1] } := by simp [Rows.diskSafeSpec]
  refine (safe_law l cuts v0 v1 W hAv hok hN hbl hcl).mono fun e W' ⟨he, hb⟩ => ?_
  subst he
  refine ⟨_, rfl, _, _, _, [], p0 ++ p1, [], hW', ?_, ?_, ?_, hb.frame _, fun h => by cases h⟩
  · rw [es]; exact trodAll_mk1 (shut_bool Try.underlying4 true)
  · rw [es]
    exact trodAll_cons_mk (Below.trod safe_laidOut (by kernel_rfl) (of_decide_eq_true (by kernel_rfl)) hh0 hb (fun x hx => hlt x (List.mem_append_left _ hx)))
      (trodAll_mk1 (Below.trod safe_laidOut (by kernel_rfl) (of_decide_eq_true (by kernel_rfl)) hh1 hb (fun x hx => hlt x (List.mem_append_right _ hx))))
  · rw [es]; rfl

theorem safe_lifted (os : Os) (started : os.Started) (H : Type) (enc : TypeId × Value → H) :
    ReturnsInHanded {} Try.checked os 4 .any (Rows.diskSafeSpec.pre6 enc Try.prog Try.f4 Rows.diskSafeRow.domain false) (Rows.diskSafeSpec.post enc Try.prog Try.f4 false true false false) := by
  refine returnsInHanded_of_change_sized (C := Try.checked) safe_own started (by kernel_rfl) Try.func4
    (ChangeSpec.witness6 (enc := enc) (C := Try.checked) false ⟨#[], #[.slice none 0 0, .slice none 0 0], []⟩ 8 (by kernel_rfl) (by kernel_rfl) (by kernel_rfl) (by kernel_rfl) (by kernel_rfl)) ?_
  intro W base args ds gs before hval hW _ hsz _
  exact safe_contract H enc W base args ds gs before hval hW hsz

theorem safe_row : Rows.DiskSafeSaid :=
  OpenClaim.holds_of_wide 4 Try.f4 rfl rfl rfl rfl rfl rfl rfl ⟨rfl, rfl, rfl, rfl, rfl⟩ rfl rfl rfl rfl rfl (by kernel_rfl) Try.func4 (by kernel_rfl)
    (of_decide_eq_true (by kernel_rfl)) (by unfold Func.isWrapper; rw [if_neg (of_decide_eq_false (by kernel_rfl))]; exact ⟨rfl, rfl⟩)
    (fun os started H enc _ => safe_lifted os started H enc)
#print axioms safe_row
end Go.Proofs.Ytcnljocgpoaepaa
