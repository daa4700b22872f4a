import Derived.Test.YtncoandnelgkeaaGreatHc20
/- Voters of logs that may be; what leading leaves: plain mathematics. -/
namespace RaftMath
open QuorumMath RlogMath

theorem votF_vot : ∀ (l : List Me) (i t : Nat) (d : List Nat), behB i t l = true → votB (nodesI d) = true → votB (nodesI (votF d l)) = true
  | [], _, _, _, _, h => h
  | e :: l, i, t, d, hb, h => by
    rw [behB, Bool.and_eq_true, Bool.and_eq_true, Bool.and_eq_true, Bool.and_eq_true] at hb
    obtain ⟨⟨_, h4⟩, h5⟩ := hb
    rw [votF]
    refine votF_vot l _ _ _ h5 ?_
    split
    · rename_i hk
      unfold entB at h4
      simp only [Bool.and_eq_true, Bool.or_eq_true, Bool.not_eq_true', decide_eq_true_eq, decide_eq_false_iff_not] at h4
      rcases h4.2 with h | h
      · exact absurd hk h
      · exact h
    · exact h
theorem may_vot {b : Me} {l : List Me} (h : mayB b l = true) : votB (votM b l) = true := by
  refine votF_vot l _ _ _ (may_beh h) ?_
  unfold mayB at h
  simp only [Bool.and_eq_true, decide_eq_true_eq] at h
  exact h.1.1.1.2
theorem may_vlen {b : Me} {l : List Me} (h : mayB b l = true) : (votM b l).length ≤ 7 := (votB_iff.1 (may_vot h)).2.1
theorem app_cases (b : Me) (l : List Me) (t : Nat) (k : Int) (d : List Nat) : (appM b l t k d).1 = 1 ∧ appM b l t k d = (1, zeroMe, []) ∨ (appM b l t k d).1 = 2 ∧ appM b l t k d = (2, zeroMe, []) ∨ (appM b l t k d = (0, b, l ++ [⟨(lastM b l).1 + 1, t, k, d⟩]) ∧ mayB b l = true ∧ (lastM b l).2 ≤ t ∧ entB ⟨(lastM b l).1 + 1, t, k, d⟩ = true ∧ (lastM b l).1 < 4611686018427387904 ∧ l.length < 4096) := by
  unfold appM
  by_cases h : (mayB b l && decide ((lastM b l).2 ≤ t) && entB ⟨(lastM b l).1 + 1, t, k, d⟩) = true
  · rw [if_pos h]
    simp only [Bool.and_eq_true, decide_eq_true_eq] at h
    by_cases h2 : l.length = 4096 ∨ 4611686018427387904 ≤ (lastM b l).1
    · rw [if_pos h2]; exact .inr (.inl ⟨rfl, rfl⟩)
    · rw [if_neg h2]
      have := (may_last h.1.1).2.2
      exact .inr (.inr ⟨rfl, h.1.1, h.1.2, h.2, by omega, by omega⟩)
  · rw [if_neg h]; exact .inl ⟨rfl, rfl⟩
theorem beh_snoc : ∀ (l : List Me) (i t : Nat) (b e : Me), b.idx = i → b.term = t → behB i t l = true → e.idx = (lastM b l).1 + 1 → (lastM b l).2 ≤ e.term → entB e = true → (lastM b l).1 ≠ 18446744073709551615 → behB i t (l ++ [e]) = true
  | [], i, t, b, e, hi, ht, _, h1, h2, h3, h4 => by
    subst hi ht
    rw [lastM_nil'] at h1 h2 h4
    show behB b.idx b.term [e] = true
    rw [behB, behB]
    simp only [Bool.and_eq_true, decide_eq_true_eq, and_true]
    exact ⟨⟨⟨h4, h1⟩, h2⟩, h3⟩
  | a :: l, i, t, b, e, hi, ht, h, h1, h2, h3, h4 => by
    have e1 : lastM b (a :: l) = lastM a l := by
      unfold lastM
      cases l with
      | nil => rfl
      | cons x l => simp [List.getLast?_cons_cons]; cases h : (x :: l).getLast? <;> simp_all
    rw [e1] at h1 h2 h4
    rw [behB] at h
    simp only [Bool.and_eq_true, decide_eq_true_eq] at h
    show behB i t (a :: (l ++ [e])) = true
    rw [behB]
    simp only [Bool.and_eq_true, decide_eq_true_eq]
    exact ⟨h.1, beh_snoc l a.idx a.term a e rfl rfl h.2 h1 h2 h3 h4⟩
where
  lastM_nil' (b : Me) : lastM b [] = (b.idx, b.term) := rfl
/-- The log behind an entry more may be. -/
theorem app_may {b : Me} {l : List Me} {t : Nat} {k : Int} {d : List Nat} (h : (appM b l t k d).1 = 0) : mayB (appM b l t k d).2.1 (appM b l t k d).2.2 = true := by
  rcases app_cases b l t k d with h1 | h1 | ⟨h1, h2, h3, h4, h5, h6⟩
  · rw [h1.1] at h; cases h
  · rw [h1.1] at h; cases h
  · rw [h1]
    have hb := beh_snoc l b.idx b.term b ⟨(lastM b l).1 + 1, t, k, d⟩ rfl rfl (may_beh h2) rfl h3 h4 (by omega)
    unfold mayB at h2 ⊢
    simp only [Bool.and_eq_true, decide_eq_true_eq] at h2 ⊢
    exact ⟨⟨h2.1.1, by rw [List.length_append]; simp; omega⟩, hb⟩
end RaftMath

