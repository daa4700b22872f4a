import Derived.Test.YtglbjimpaoikfaaHe01
/- As SpRegL; an operation is taken first where those of M wait for it in some steps. -/
namespace Go.Proofs.Ytglbjimpaoikfaa
open Go.RowKit
set_option linter.unusedVariables false

/-- Does number m wait for one of U? -/
def stopped (md : Region.Mode) (ops : Array Oper) (U : List Nat) (m : Nat) : Bool := match ops[m]? with | some om => om.after.any fun e => Region.binds md e && U.contains e.on | none => false
theorem stopped_spec {md : Region.Mode} {ops : Array Oper} {U : List Nat} {j : Nat} {oj : Oper} (h : stopped md ops U j = true) (hj : ops[j]? = some oj) : ∃ e ∈ oj.after, Region.binds md e = true ∧ e.on ∈ U := by
  unfold stopped at h
  rw [hj] at h
  simp only [Array.any_eq_true'] at h
  obtain ⟨e, he, h2⟩ := h
  rw [Bool.and_eq_true] at h2
  exact ⟨e, he, h2.1, by simpa using h2.2⟩
def stoppedAll (md : Region.Mode) (ops : Array Oper) (M U : List Nat) (listed : Array Bool) (i : Nat) : Bool := U.contains i && (M.all (stopped md ops U) && (U.all (fun u => u == i || stopped md ops U u) && U.all fun u => !listed.getD u true))
theorem stoppedAll_spec {md : Region.Mode} {ops : Array Oper} {M U : List Nat} {listed : Array Bool} {i : Nat} (h : stoppedAll md ops M U listed i = true) : i ∈ U ∧ (∀ m ∈ M, stopped md ops U m = true) ∧ (∀ u ∈ U, u = i ∨ stopped md ops U u = true) ∧ ∀ u ∈ U, listed.getD u true = false := by
  unfold stoppedAll at h
  rw [Bool.and_eq_true, Bool.and_eq_true, Bool.and_eq_true, List.all_eq_true, List.all_eq_true, List.all_eq_true] at h
  exact ⟨by simpa using h.1, h.2.1, fun u hu => by simpa using h.2.2.1 u hu, fun u hu => by simpa using h.2.2.2 u hu⟩
theorem wpAnyL_firstU {P : Program} {md : Region.Mode} {ops : Array Oper} {Q : Exit → Act → World → Prop} {S : World → Prop} {M : List Nat} {i : Nat} {oi : Oper} {v : Value} (hi : ops[i]? = some oi) (hsel : ∀ (j : Nat) (o : Oper) cs b, ops[j]? = some o → o.op ≠ .select cs b)
    (hQ : ∀ c a w, Q (.panic c) (a.put oi.dst v) w → Q (.panic c) a w) {U : List Nat} (hiU : i ∈ U) (hM : ∀ m ∈ M, stopped md ops U m = true) (hU : ∀ u ∈ U, u = i ∨ stopped md ops U u = true) :
    ∀ (fuel : Nat) (listed : Array Bool) (a : Act) (w : World),
      (∀ u ∈ U, listed.getD u true = false) →
      (∀ j oj, ops[j]? = some oj → j ≠ i → listed.getD j true = false → (∀ e ∈ oj.after, Region.binds md e = true → e.on ≠ i) → oi.apart ops oj = true) →
      i ∈ Region.ready md ops listed → YieldsIf P ops S oi v a → S w →
      wpAnyL P md ops Q S M fuel (listed.setIfInBounds i true) (a.put oi.dst v) w → wpAnyL P md ops Q S M (fuel + 1) listed a w := by
  intro fuel
  induction fuel with
  | zero =>
    intro listed a w _ _ hr hy hS H
    refine ⟨fun h => (by rw [h] at hr; cases hr), fun j hj => ?_⟩
    by_cases hji : j = i
    · subst hji; exact hy.wpOp hi hS ⟨.inr hS, H⟩
    · have := ready_mono hj hji
      rw [H.1] at this
      cases this
  | succ fuel ih =>
    intro listed a w hun0 hfree hr hy hS H
    refine ⟨fun h => (by rw [h] at hr; cases hr), fun j hj => ?_⟩
    by_cases hji : j = i
    · subst hji; exact hy.wpOp hi hS ⟨.inr hS, H⟩
    · have h1 := H.2 j (ready_mono hj hji)
      obtain ⟨hjun, oj, hoj, hall⟩ := mem_ready.1 hj
      have hnot : ∀ e ∈ oj.after, Region.binds md e = true → e.on ≠ i := fun e he hb heq => by
        have h1 := hall e he hb
        have h0 := (mem_ready.1 hr).1
        rw [heq] at h1
        rcases Nat.lt_or_ge i listed.size with h' | h'
        · simp [h'] at h0 h1; rw [h0] at h1; cases h1
        · simp [Array.getElem?_eq_none h'] at h1
      have hst : stopped md ops U j = true → False := fun h => by
        obtain ⟨e, he, hb, hon⟩ := stopped_spec h hoj
        have h1 := hall e he hb
        have h0 := hun0 e.on hon
        rcases Nat.lt_or_ge e.on listed.size with h' | h'
        · simp [h'] at h0 h1; rw [h0] at h1; cases h1
        · simp [Array.getElem?_eq_none h'] at h1
      have hjM : j ∉ M := fun hm => hst (hM j hm)
      have hjU : j ∉ U := fun hm => (hU j hm).elim hji hst
      have h2 := wpOp_putIf hoj (hfree j oj hoj hji hjun hnot) (fun cs b => hsel i oi cs b hi) (fun cs b => hsel j oj cs b hoj) hQ hy h1
      have hfree' : ∀ k ok, ops[k]? = some ok → k ≠ i → (listed.setIfInBounds j true).getD k true = false →
          (∀ e ∈ ok.after, Region.binds md e = true → e.on ≠ i) → oi.apart ops ok = true := fun k ok hk hki hun hno => by
        refine hfree k ok hk hki ?_ hno
        by_cases hjk : j = k
        · subst hjk; exact hjun
        · rw [getD_set_ne true hjk] at hun; exact hun
      refine wpOp_mono (fun a' w' h3 => ⟨h3.2.1, ih (listed.setIfInBounds j true) a' w' (fun u hu => by rw [getD_set_ne true (fun e : j = u => hjU (by rw [e]; exact hu))]; exact hun0 u hu) hfree' (ready_mono hr (Ne.symm hji)) h3.1 (h3.2.1.resolve_left hjM) ?_⟩) h2
      rw [Array.setIfInBounds_comm _ _ hji]
      exact h3.2.2

/-- Take number i first: what is of M waits, in some steps, for it. -/
theorem wpAnyL_takeU {P : Program} {md : Region.Mode} {ops : Array Oper} {Q : Exit → Act → World → Prop} {S : World → Prop} {M : List Nat} (i : Nat) (U : List Nat) {oi : Oper} {v : Value} {fuel : Nat} {listed : Array Bool} {a : Act} {w : World} (hi : ops[i]? = some oi)
    (hs : Region.noSelect ops = true) (hf : Region.free md ops listed i = true) (hr : (Region.ready md ops listed).contains i = true) (hM : stoppedAll md ops M U listed i = true)
    (hQ : ∀ c a w, Q (.panic c) (a.put oi.dst v) w → Q (.panic c) a w) (hw : Region.wanted oi (yielded ops a.tmps) = true) (hy : ∀ w, S w → (execOp a.eval oi).run P w = .ok (.value v) w) (hS : S w)
    (h : wpAnyL P md ops Q S M fuel (listed.setIfInBounds i true) (a.put oi.dst v) w) : wpAnyL P md ops Q S M (fuel + 1) listed a w :=
  wpAnyL_firstU hi (Region.noSelect_spec hs) hQ (stoppedAll_spec hM).1 (stoppedAll_spec hM).2.1 (stoppedAll_spec hM).2.2.1 fuel listed a w (stoppedAll_spec hM).2.2.2 (Region.free_spec hi hf) (by simpa using hr) (.inl ⟨hw, hy⟩) hS h

end Go.Proofs.Ytglbjimpaoikfaa

