
/- Plain mathematics of majorities (stage 12): two majorities of voters that differ by one node at most meet; the greatest number that a majority has. -/
namespace QuorumMath
set_option linter.unusedSimpArgs false
set_option linter.unusedVariables false

end QuorumMath

/- Voters, majorities, who follows: plain mathematics. -/
namespace QuorumMath
set_option linter.unusedSimpArgs false
set_option linter.unusedVariables false

/-- Where a number stands, or would. -/
def Spot (v : List Int) (z : Int) (k : Nat) : Prop := k ≤ v.length ∧ (∀ j x, j < k → v[j]? = some x → x < z) ∧ ∀ j x, k ≤ j → v[j]? = some x → z ≤ x
theorem spot_ex : ∀ (v : List Int) (z : Int), v.Pairwise (· ≤ ·) → ∃ k, Spot v z k
  | [], z, _ => ⟨0, by simp [Spot]⟩
  | x :: v, z, h => by
    have h' := List.pairwise_cons.1 h
    by_cases hx : x < z
    · obtain ⟨k, h1, h2, h3⟩ := spot_ex v z h'.2
      refine ⟨k + 1, by simp; omega, fun j y hj hy => ?_, fun j y hj hy => ?_⟩
      · cases j with
        | zero => simp only [List.getElem?_cons_zero, Option.some.injEq] at hy; omega
        | succ j => exact h2 j y (by omega) (by simpa using hy)
      · cases j with
        | zero => omega
        | succ j => exact h3 j y (by omega) (by simpa using hy)
    · refine ⟨0, Nat.zero_le _, fun j y hj => by omega, fun j y _ hy => ?_⟩
      cases j with
      | zero => simp only [List.getElem?_cons_zero, Option.some.injEq] at hy; omega
      | succ j =>
        have := h'.1 y (List.mem_of_getElem? (by simpa using hy))
        omega
theorem spot_in {v : List Int} {z : Int} {k : Nat} (h : Spot v z k) (hp : v.Pairwise (· ≤ ·)) : z ∈ v ↔ v[k]? = some z := by
  constructor
  · intro hz
    obtain ⟨j, hj, e⟩ := List.mem_iff_getElem.1 hz
    have h0 : v[j]? = some z := by rw [List.getElem?_eq_getElem hj, e]
    by_cases hjk : j < k
    · have := h.2.1 j z hjk h0
      omega
    · have hkl : k < v.length := by omega
      have h1 := h.2.2 k v[k] (Nat.le_refl _) (List.getElem?_eq_getElem hkl)
      rw [List.getElem?_eq_getElem hkl]
      rcases Nat.lt_or_ge k j with h2 | h2
      · have := List.pairwise_iff_getElem.1 hp k j hkl hj h2
        rw [e] at this
        congr 1
        omega
      · obtain rfl : j = k := by omega
        rw [e]
  · intro h0
    exact List.mem_of_getElem? h0
end QuorumMath

