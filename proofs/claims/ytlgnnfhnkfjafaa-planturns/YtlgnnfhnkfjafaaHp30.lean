import Derived.Test.YtlgnnfhnkfjafaaHp17
/- Plain mathematics of plans (stage 21): which go with a chart; what a split, a merge leaves of them. -/
namespace PlanMath
open SpanMath ChartMath
set_option linter.unusedSimpArgs false
set_option linter.unusedVariables false

/-- A plan: id, span, from, to, step. -/
abbrev Pl := Nat × Sp × Int × Int × Int
def okP (p : Pl) : Bool := decide (p.1 ≠ 0) && gOk p.2.2.1 && gOk p.2.2.2.1 && decide (p.2.2.1 ≠ p.2.2.2.1) && decide (1 ≤ p.2.2.2.2) && decide (p.2.2.2.2 ≤ 5)
/-- Who keeps the range, by the step. -/
def keeper (p : Pl) : Int := if 3 < p.2.2.2.2 then p.2.2.2.1 else p.2.2.1
def goesB (l : List Rg) (p : Pl) : Bool := l.any fun r => decide (r.1 = p.2.1) && decide (r.2.1 = keeper p)
def planB (l : List Rg) (ps : List Pl) : Bool := mayC l && decide (ps.length ≤ 1) && ps.all fun p => okP p && goesB l p
theorem goes_iff {l : List Rg} {p : Pl} : goesB l p = true ↔ ∃ r ∈ l, r.1 = p.2.1 ∧ r.2.1 = keeper p := by
  unfold goesB
  rw [List.any_eq_true]
  simp only [Bool.and_eq_true, decide_eq_true_eq]
theorem has_low {s : Sp} (h : may s = true) : has s s.1 = true := by
  unfold may at h
  unfold has
  simp only [Bool.and_eq_true] at h
  rw [h.2]
  simp
theorem span_ne {s : Sp} (h : may s = true) : s.1 ≠ s.2 ∨ s.2 = [] := by
  rcases (may_iff.1 h).2 with h | h
  · exact .inr h
  · exact .inl fun e => absurd h (by rw [e]; exact List.lt_irrefl _)
theorem chart_may {l : List Rg} (h : Chart l) {r : Rg} (hr : r ∈ l) : may r.1 = true := by
  have h1 := h.ok r hr
  unfold rOk at h1
  rw [Bool.and_eq_true, Bool.and_eq_true] at h1
  exact h1.1.1
theorem chart_same {l : List Rg} (h : Chart l) {i j : Nat} {r s : Rg} (hi : l[i]? = some r) (hj : l[j]? = some s) (he : r.1 = s.1) : i = j := by
  have h1 := has_low (chart_may h (List.mem_of_getElem? hi))
  exact h.one hi hj h1 (by rw [← he]; exact h1)
/-- The first range of that span is the only one. -/
theorem goes_at {l : List Rg} (h : Chart l) {i : Nat} {r : Rg} {p : Pl} (hi : l[i]? = some r) (he : r.1 = p.2.1) : goesB l p = decide (r.2.1 = keeper p) := by
  rw [Bool.eq_iff_iff, goes_iff, decide_eq_true_eq]
  constructor
  · rintro ⟨s, hs, h1, h2⟩
    obtain ⟨j, hj⟩ := List.mem_iff_getElem?.1 hs
    have := chart_same h hi hj (he.trans h1.symm)
    subst this
    rw [hi] at hj
    cases hj
    exact h2
  · intro h2
    exact ⟨r, List.mem_of_getElem? hi, he, h2⟩
theorem mem_parts {l : List Rg} {i j : Nat} (hij : i ≤ j) {x : Rg} (hx : x ∈ l.take i ++ l.drop j) : ∃ k, l[k]? = some x ∧ (k < i ∨ j ≤ k) := by
  rcases List.mem_append.1 hx with h | h
  · obtain ⟨k, hk, e⟩ := List.mem_iff_getElem.1 h
    rw [List.length_take] at hk
    rw [List.getElem_take] at e
    exact ⟨k, by rw [← e]; exact List.getElem?_eq_getElem (by omega), .inl (by omega)⟩
  · obtain ⟨k, hk, e⟩ := List.mem_iff_getElem.1 h
    rw [List.length_drop] at hk
    rw [List.getElem_drop] at e
    exact ⟨j + k, by rw [← e]; exact List.getElem?_eq_getElem (by omega), .inr (by omega)⟩
theorem parts_mem {l : List Rg} {i j k : Nat} {x : Rg} (hk : l[k]? = some x) (h : k < i ∨ j ≤ k) : x ∈ l.take i ++ l.drop j := by
  obtain ⟨hl, rfl⟩ := List.getElem?_eq_some_iff.1 hk
  rw [List.mem_append]
  rcases h with h | h
  · exact .inl (List.mem_iff_getElem.2 ⟨k, by rw [List.length_take]; omega, by rw [List.getElem_take]⟩)
  · exact .inr (List.mem_iff_getElem.2 ⟨k - j, by rw [List.length_drop]; omega, by rw [List.getElem_drop]; congr 1; omega⟩)
theorem spliced_mem {l : List Rg} {i j : Nat} {ws : List (Sp × Int)} {e : Int} {x : Rg} : x ∈ spliced l i j ws e ↔ x ∈ l.take i ++ l.drop j ∨ ∃ y ∈ ws, x = (y.1, y.2, e) := by
  unfold spliced
  simp only [List.mem_append, List.mem_map]
  constructor
  · rintro ((h | ⟨y, hy, rfl⟩) | h)
    · exact .inl (.inl h)
    · exact .inr ⟨y, hy, rfl⟩
    · exact .inl (.inr h)
  · rintro ((h | h) | ⟨y, hy, rfl⟩)
    · exact .inl (.inl h)
    · exact .inr h
    · exact .inl (.inr ⟨y, hy, rfl⟩)
theorem put_zero {l m : List Rg} {i j : Nat} {ws : List (Sp × Int)} (h : putM l i j ws = (m, 0)) : m = spliced l i j ws (ver l + 1) := by
  unfold putM at h
  split at h
  · simp at h
  · exact (Prod.mk.inj h).1.symm
/-- Ranges are turned: a plan goes with what is left just if none of those that were turned is its span. -/
theorem goes_spliced {l : List Rg} (h : Chart l) {i j : Nat} (hij : i ≤ j) {ws : List (Sp × Int)} {p : Pl} (hg : goesB l p = true) (hw : ∀ y ∈ ws, ∀ k r, i ≤ k → k < j → l[k]? = some r → y.1 ≠ r.1) (e : Int) : goesB (spliced l i j ws e) p = true ↔ ∀ k r, i ≤ k → k < j → l[k]? = some r → r.1 ≠ p.2.1 := by
  constructor
  · intro h1 k r h2 h3 h4 h5
    obtain ⟨x, hx, h6, h7⟩ := goes_iff.1 h1
    rcases spliced_mem.1 hx with h8 | ⟨y, hy, rfl⟩
    · obtain ⟨q, h9, h10⟩ := mem_parts hij h8
      have := chart_same h h4 h9 (h5.trans h6.symm)
      omega
    · exact hw y hy k r h2 h3 h4 (h6.trans h5.symm)
  · intro h1
    obtain ⟨x, hx, h6, h7⟩ := goes_iff.1 hg
    obtain ⟨k, hk⟩ := List.mem_iff_getElem?.1 hx
    refine goes_iff.2 ⟨x, spliced_mem.2 (.inl (parts_mem hk ?_)), h6, h7⟩
    by_cases h8 : k < i
    · exact .inl h8
    · by_cases h9 : j ≤ k
      · exact .inr h9
      · exact absurd h6 (h1 k x (by omega) (by omega) hk)
theorem plan_iff {l : List Rg} {p : Pl} : planB l [p] = true ↔ mayC l = true ∧ okP p = true ∧ goesB l p = true := by
  unfold planB
  simp [and_assoc]
theorem plan_nil {l : List Rg} : planB l [] = mayC l := by
  unfold planB
  simp
/-- A split: the plan's range is not turned. -/
theorem split_plan {l m : List Rg} {p : Pl} {k : K} {i : Nat} {r : Rg} (hp : planB l [p] = true) (hs : splitM l k = (m, 0)) (hf : findM l k = some i) (hr : l[i]? = some r) : planB m [p] = decide (r.1 ≠ p.2.1) := by
  obtain ⟨h1, h2, h3⟩ := plan_iff.1 hp
  have hC := mayC_iff.1 h1
  have hm := (split_ok hs).1
  obtain ⟨-, -, r', hr', hk⟩ := findM_some hf
  rw [hr] at hr'
  cases hr'
  have hne : r.1.1 ≠ k := by
    intro e
    unfold splitM at hs
    rw [hf] at hs
    simp only [hr] at hs
    rw [if_pos e] at hs
    simp at hs
  have hput : putM l i (i + 1) [((r.1.1, k), r.2.1), ((k, r.1.2), r.2.1)] = (m, 0) := by
    unfold splitM at hs
    rw [hf] at hs
    simp only [hr] at hs
    rw [if_neg hne] at hs
    exact hs
  obtain rfl := put_zero hput
  have hw : ∀ y ∈ [((r.1.1, k), r.2.1), ((k, r.1.2), r.2.1)], ∀ q s, i ≤ q → q < i + 1 → l[q]? = some s → y.1 ≠ s.1 := by
    intro y hy q s h4 h5 h6 h7
    obtain rfl : q = i := by omega
    rw [hr] at h6
    cases h6
    simp only [List.mem_cons, List.not_mem_nil, or_false] at hy
    rcases hy with rfl | rfl
    · have e : k = r.1.2 := congrArg Prod.snd h7
      unfold has blw at hk
      simp only [Bool.and_eq_true, Bool.or_eq_true, decide_eq_true_eq] at hk
      rcases hk.2 with h8 | h8
      · have h9 : k = [] := e.trans h8
        rw [h9] at hk hne
        have := hk.1
        exact hne (by cases hh : r.1.1 with | nil => rfl | cons a b => rw [hh] at this; exact absurd this (by simp))
      · rw [e] at h8
        exact absurd h8 (List.lt_irrefl _)
    · exact hne (congrArg Prod.fst h7).symm
  rw [Bool.eq_iff_iff, decide_eq_true_eq, plan_iff, goes_spliced hC (Nat.le_succ i) h3 hw]
  constructor
  · rintro ⟨-, -, h4⟩
    exact h4 i r (Nat.le_refl _) (Nat.lt_succ_self _) hr
  · intro h4
    refine ⟨mayC_iff.2 hm, h2, fun q s h5 h6 h7 => ?_⟩
    obtain rfl : q = i := by omega
    rw [hr] at h7
    cases h7
    exact h4
end PlanMath

