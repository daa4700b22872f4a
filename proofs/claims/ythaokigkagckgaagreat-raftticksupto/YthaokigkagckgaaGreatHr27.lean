import Derived.Test.YthaokigkagckgaaGreatHr02
/- Who follows: plain mathematics. -/
namespace QuorumMath
set_option linter.unusedSimpArgs false
set_option linter.unusedVariables false

/-- The voters with a node, or without it, as the document asks each number. -/
def keepP (v : List Int) (node : Int) (inn : Bool) (n : Int) : Bool := decide (n = node) && inn || !decide (n = node) && decide (n ∈ v)
def nums (k : Nat) : List Int := (List.range k).map fun n : Nat => (n : Int) + 1
def keepM (v : List Int) (node : Int) (inn : Bool) : List Int := (nums 7).filter (keepP v node inn)
theorem nums_mem {k : Nat} {n : Int} : n ∈ nums k ↔ 1 ≤ n ∧ n ≤ k := by
  unfold nums
  rw [List.mem_map]
  constructor
  · rintro ⟨m, hm, rfl⟩
    rw [List.mem_range] at hm
    omega
  · intro h
    exact ⟨(n - 1).toNat, by rw [List.mem_range]; omega, by omega⟩
theorem nums_ris (k : Nat) : (nums k).Pairwise (· < ·) := by
  unfold nums
  rw [List.pairwise_map]
  exact List.pairwise_lt_range.imp (by intro a b h; omega)
theorem nums_succ (k : Nat) : nums (k + 1) = nums k ++ [(k : Int) + 1] := by
  unfold nums
  rw [List.range_succ, List.map_append]
  rfl
theorem nums_len (k : Nat) : (nums k).length = k := by simp [nums]
theorem keep_mem {v : List Int} {node : Int} {inn : Bool} {n : Int} : n ∈ keepM v node inn ↔ (1 ≤ n ∧ n ≤ 7) ∧ keepP v node inn n = true := by
  unfold keepM
  rw [List.mem_filter, nums_mem]
  rfl
theorem keep_ris (v : List Int) (node : Int) (inn : Bool) : Ris (keepM v node inn) := by
  refine ⟨fun n hn => (keep_mem.1 hn).1, ?_⟩
  exact (nums_ris 7).sublist List.filter_sublist
theorem ris_le {v : List Int} (h : v.Pairwise (· < ·)) : v.Pairwise (· ≤ ·) := h.imp (by intro a b h; omega)
/-- A number put in its place. -/
theorem ins_eq {v : List Int} {z : Int} {k : Nat} (hv : Ris v) (hz : 1 ≤ z ∧ z ≤ 7) (hs : Spot v z k) (hn : z ∉ v) : v.take k ++ ([z] ++ v.drop k) = keepM v z true := by
  have hlo : ∀ x ∈ v.take k, x < z := fun x hx => by
    obtain ⟨j, hj, e⟩ := List.mem_iff_getElem.1 hx
    rw [List.length_take] at hj
    have := hs.2.1 j x (by omega) (by rw [← e, List.getElem_take]; exact List.getElem?_eq_getElem _)
    exact this
  have hhi : ∀ x ∈ v.drop k, z < x := fun x hx => by
    obtain ⟨j, hj, e⟩ := List.mem_iff_getElem.1 hx
    rw [List.length_drop] at hj
    have h1 := hs.2.2 (k + j) x (by omega) (by rw [← e, List.getElem_drop]; exact List.getElem?_eq_getElem _)
    have h2 : x ≠ z := fun h => hn (h ▸ List.mem_of_mem_drop hx)
    omega
  refine rising_ext ?_ (keep_ris v z true).2 fun n => ?_
  · rw [List.pairwise_append]
    refine ⟨hv.2.sublist (List.take_sublist _ _), ?_, fun a ha b hb => ?_⟩
    · rw [List.singleton_append, List.pairwise_cons]
      exact ⟨hhi, hv.2.sublist (List.drop_sublist _ _)⟩
    · rw [List.singleton_append, List.mem_cons] at hb
      have h1 := hlo a ha
      rcases hb with rfl | hb
      · exact h1
      · have := hhi b hb
        omega
  · rw [keep_mem]
    have hm : n ∈ v.take k ++ ([z] ++ v.drop k) ↔ n = z ∨ n ∈ v := by
      conv => rhs; rw [← List.take_append_drop k v]
      simp only [List.mem_append, List.mem_singleton]
      grind
    rw [hm]
    unfold keepP
    by_cases h1 : n = z
    · subst h1
      simp [hz]
    · simp only [h1, false_or, decide_false, Bool.false_and, Bool.not_false, Bool.true_and, Bool.false_or, decide_eq_true_eq]
      exact ⟨fun h => ⟨hv.1 n h, h⟩, fun h => h.2⟩
/-- A number taken away. -/
theorem del_eq {v : List Int} {z : Int} {k : Nat} (hv : Ris v) (hk : v[k]? = some z) : v.take k ++ v.drop (k + 1) = keepM v z false := by
  have hkl := (List.getElem?_eq_some_iff.1 hk).1
  have hp := List.pairwise_iff_getElem.1 hv.2
  have he : v[k] = z := (List.getElem?_eq_some_iff.1 hk).2
  have hlo : ∀ x ∈ v.take k, x < z := fun x hx => by
    obtain ⟨j, hj, e⟩ := List.mem_iff_getElem.1 hx
    rw [List.length_take] at hj
    have := hp j k (by omega) hkl (by omega)
    rw [List.getElem_take] at e
    omega
  have hhi : ∀ x ∈ v.drop (k + 1), z < x := fun x hx => by
    obtain ⟨j, hj, e⟩ := List.mem_iff_getElem.1 hx
    rw [List.length_drop] at hj
    have := hp k (k + 1 + j) hkl (by omega) (by omega)
    rw [List.getElem_drop] at e
    omega
  have hsplit : v = v.take k ++ (z :: v.drop (k + 1)) := by
    conv => lhs; rw [← List.take_append_drop k v, List.drop_eq_getElem_cons hkl, he]
  refine rising_ext ?_ (keep_ris v z false).2 fun n => ?_
  · rw [List.pairwise_append]
    exact ⟨hv.2.sublist (List.take_sublist _ _), hv.2.sublist (List.drop_sublist _ _), fun a ha b hb => by
      have := hlo a ha
      have := hhi b hb
      omega⟩
  · rw [keep_mem]
    have hm : n ∈ v ↔ n = z ∨ n ∈ v.take k ++ v.drop (k + 1) := by
      conv => lhs; rw [hsplit]
      simp only [List.mem_append, List.mem_cons]
      grind
    have hne : n ∈ v.take k ++ v.drop (k + 1) → n ≠ z := fun h => by
      rcases List.mem_append.1 h with h | h
      · have := hlo n h; omega
      · have := hhi n h; omega
    unfold keepP
    by_cases h1 : n = z
    · constructor
      · intro h; exact absurd h1 (hne h)
      · rintro ⟨_, h⟩
        simp [h1] at h
    · simp only [h1, false_or, decide_false, Bool.false_and, Bool.not_false, Bool.true_and, Bool.false_or, decide_eq_true_eq] at hm ⊢
      rw [← hm]
      exact ⟨fun h => ⟨hv.1 n h, h⟩, fun h => h.2⟩
/-- What Next tells: a code and a row. -/
def nextC (v : List Int) (node : Int) (inn : Bool) : Int × List Int :=
  if votB v && nodeB node then
    if decide (node ∈ v) = inn then (6, []) else if (keepM v node inn).length = 0 then (4, []) else (0, keepM v node inn)
  else (1, [])
theorem keep_in {v : List Int} {z : Int} (hv : Ris v) (hz : 1 ≤ z ∧ z ≤ 7) (hn : z ∉ v) : ∃ k, k ≤ v.length ∧ keepM v z true = v.take k ++ ([z] ++ v.drop k) := by
  obtain ⟨k, hk⟩ := spot_ex v z (ris_le hv.2)
  exact ⟨k, hk.1, (ins_eq hv hz hk hn).symm⟩
theorem keep_out {v : List Int} {z : Int} (hv : Ris v) (hn : z ∈ v) : ∃ k, v[k]? = some z ∧ keepM v z false = v.take k ++ v.drop (k + 1) := by
  obtain ⟨k, hk, e⟩ := List.mem_iff_getElem.1 hn
  have h : v[k]? = some z := by rw [List.getElem?_eq_getElem hk, e]
  exact ⟨k, h, (del_eq hv h).symm⟩
/-- The voters that follow have one node more, or one less. -/
theorem next_one {v : List Int} {z : Int} {inn : Bool} (hv : Ris v) (hz : 1 ≤ z ∧ z ≤ 7) (hn : decide (z ∈ v) ≠ inn) :
    (v.Sublist (keepM v z inn) ∧ (keepM v z inn).length = v.length + 1) ∨ ((keepM v z inn).Sublist v ∧ (keepM v z inn).length + 1 = v.length) := by
  cases inn with
  | true =>
    obtain ⟨k, hk, e⟩ := keep_in hv hz (by simpa using hn)
    refine .inl ⟨?_, by rw [e]; simp; omega⟩
    rw [e]
    conv => lhs; rw [← List.take_append_drop k v]
    exact (List.Sublist.refl _).append (List.sublist_append_right _ _)
  | false =>
    obtain ⟨k, hk, e⟩ := keep_out hv (by simpa using hn)
    have hkl := (List.getElem?_eq_some_iff.1 hk).1
    refine .inr ⟨?_, by rw [e]; simp; omega⟩
    rw [e]
    conv => rhs; rw [← List.take_append_drop k v]
    refine (List.Sublist.refl _).append ?_
    rw [List.drop_eq_getElem_cons hkl]
    exact List.sublist_cons_self _ _
def safeB (a b : List Int) : Bool := votB a && votB b && decide ((a.length : Int) + (b.length : Int) - 2 * (cnt a b : Nat) ≤ 1)
theorem cnt_all {a b : List Int} (h : ∀ n ∈ a, n ∈ b) : cnt a b = a.length := by
  unfold cnt
  rw [List.countP_eq_length]
  intro n hn
  simpa using h n hn
theorem cnt_sublist {a b : List Int} (h : b.Sublist a) : b.length ≤ cnt a b := by
  have h1 := (cnt_sub h b).1
  rw [cnt_all (fun n hn => hn)] at h1
  exact h1
theorem safe_next {v : List Int} {z : Int} {inn : Bool} (hv : votB v = true) (hz : nodeB z = true) (hn : decide (z ∈ v) ≠ inn) (h0 : (keepM v z inn).length ≠ 0) : safeB v (keepM v z inn) = true := by
  have hV := votB_iff.1 hv
  have hz' : 1 ≤ z ∧ z ≤ 7 := by simpa [nodeB] using hz
  unfold safeB
  rw [hv, vot_yes (keep_ris v z inn) (by omega), Bool.and_self, Bool.true_and, decide_eq_true_eq]
  rcases next_one (vot_ris hV) hz' hn with ⟨h1, h2⟩ | ⟨h1, h2⟩
  · have := cnt_all (fun n hn => h1.subset hn)
    omega
  · have := cnt_sublist h1
    omega
/-- Majorities of voters, and of voters that follow them, meet. -/
theorem majors_meet {v p q : List Int} {z : Int} {inn : Bool} (hv : votB v = true) (hp : v.length < 2 * cnt v p) (b : List Int) (hb : b = if (nextC v z inn).1 = 0 then (nextC v z inn).2 else v) (hq : b.length < 2 * cnt b q) : ∃ n, n ∈ p ∧ n ∈ q := by
  have hself : v.length < 2 * cnt v q → ∃ n, n ∈ p ∧ n ∈ q := fun h => meet_one (List.Sublist.refl v) (by omega) hp h
  unfold nextC at hb
  cases hz : nodeB z with
  | false =>
    rw [hv, hz] at hb
    simp only [Bool.and_false, Bool.false_eq_true, if_false] at hb
    rw [if_neg (by decide)] at hb
    subst hb
    exact hself hq
  | true =>
    rw [hv, hz] at hb
    simp only [Bool.and_self, if_true] at hb
    by_cases h1 : decide (z ∈ v) = inn
    · rw [if_pos h1, if_neg (by decide)] at hb
      subst hb
      exact hself hq
    · rw [if_neg h1] at hb
      by_cases h2 : (keepM v z inn).length = 0
      · rw [if_pos h2, if_neg (by decide)] at hb
        subst hb
        exact hself hq
      · rw [if_neg h2, if_pos rfl] at hb
        subst hb
        have hz' : 1 ≤ z ∧ z ≤ 7 := by simpa [nodeB] using hz
        rcases next_one (vot_ris (votB_iff.1 hv)) hz' h1 with ⟨h3, h4⟩ | ⟨h3, h4⟩
        · exact meet_one h3 (by omega) hp hq
        · exact meet_one' h3 (by omega) hp hq
end QuorumMath

