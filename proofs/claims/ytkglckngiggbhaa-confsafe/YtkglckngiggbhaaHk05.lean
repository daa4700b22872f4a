import Derived.Test.YtkglckngiggbhaaHk04
/- Voters, majorities, who follows: plain mathematics. -/
namespace QuorumMath
set_option linter.unusedSimpArgs false
set_option linter.unusedVariables false

/-- May a node have that number? -/
def nodeB (z : Int) : Bool := decide (1 ≤ z) && decide (z ≤ 7)
def votB (l : List Int) : Bool := decide (1 ≤ l.length) && decide (l.length ≤ 7) && decide (∀ n ∈ l, 1 ≤ n ∧ n ≤ 7) && decide (l.Pairwise (· < ·))
theorem votB_iff {l : List Int} : votB l = true ↔ Voters l := by simp [votB, Voters, and_assoc]
/-- Nodes that rise. -/
def Ris (l : List Int) : Prop := (∀ n ∈ l, 1 ≤ n ∧ n ≤ 7) ∧ l.Pairwise (· < ·)
theorem ris_len : ∀ (l : List Int) (k : Int), k ≤ 7 → (∀ n ∈ l, k < n ∧ n ≤ 7) → l.Pairwise (· < ·) → (l.length : Int) ≤ 7 - k
  | [], k, hk, _, _ => by simp; omega
  | x :: l, k, hk, h, hp => by
    have hx := h x (by simp)
    have hp' := List.pairwise_cons.1 hp
    have := ris_len l x hx.2 (fun n hn => ⟨hp'.1 n hn, (h n (List.mem_cons_of_mem _ hn)).2⟩) hp'.2
    rw [List.length_cons]
    omega
theorem ris_vot {l : List Int} (h : Ris l) (h0 : 0 < l.length) : Voters l := by
  have := ris_len l 0 (by omega) (fun n hn => by have := h.1 n hn; omega) h.2
  exact ⟨h0, by omega, h.1, h.2⟩
theorem vot_ris {l : List Int} (h : Voters l) : Ris l := ⟨h.2.2.1, h.2.2.2⟩
theorem ris_nil : Ris [] := ⟨by simp, List.Pairwise.nil⟩
theorem ris_snoc {l : List Int} {i : Nat} {x : Int} (hx : l[i]? = some x) (h : Ris (l.take i)) (h1 : 1 ≤ x) (h2 : x ≤ 7) (h3 : ∀ j y, i = j + 1 → l[j]? = some y → y < x) : Ris (l.take (i + 1)) := by
  have e : l.take (i + 1) = l.take i ++ [x] := by rw [List.take_add_one, hx]; rfl
  have hi := (List.getElem?_eq_some_iff.1 hx).1
  rw [e]
  refine ⟨fun n hn => ?_, ?_⟩
  · rcases List.mem_append.1 hn with hn | hn
    · exact h.1 n hn
    · rw [List.mem_singleton] at hn
      subst hn
      exact ⟨h1, h2⟩
  · rw [List.pairwise_append]
    refine ⟨h.2, List.pairwise_singleton _ _, fun a ha b hb => ?_⟩
    rw [List.mem_singleton] at hb
    subst hb
    cases i with
    | zero => simp at ha
    | succ j =>
      have hj : j < l.length := by omega
      have hlt := h3 j l[j] rfl (List.getElem?_eq_getElem hj)
      have e2 : l.take (j + 1) = l.take j ++ [l[j]] := by rw [List.take_add_one, List.getElem?_eq_getElem hj]; rfl
      have hp := h.2
      rw [e2, List.pairwise_append] at hp
      rw [e2] at ha
      rcases List.mem_append.1 ha with ha | ha
      · have := hp.2.2 a ha l[j] (by simp)
        omega
      · rw [List.mem_singleton] at ha
        omega
theorem votB_false {l : List Int} (h : ¬ Voters l) : votB l = false := by
  rw [Bool.eq_false_iff]
  intro h'
  exact h (votB_iff.1 h')
theorem vot_not_node {l : List Int} {i : Nat} {x : Int} (hx : l[i]? = some x) (h : ¬ (1 ≤ x ∧ x ≤ 7)) : votB l = false :=
  votB_false fun hv => h (hv.2.2.1 x (List.mem_of_getElem? hx))
theorem vot_not_rise {l : List Int} {j : Nat} {x y : Int} (hx : l[j + 1]? = some x) (hy : l[j]? = some y) (h : ¬ y < x) : votB l = false := by
  refine votB_false fun hv => h ?_
  obtain ⟨h1, rfl⟩ := List.getElem?_eq_some_iff.1 hx
  obtain ⟨h2, rfl⟩ := List.getElem?_eq_some_iff.1 hy
  exact List.pairwise_iff_getElem.1 hv.2.2.2 j (j + 1) h2 h1 (by omega)
theorem vot_nil : votB [] = false := by simp [votB]
theorem vot_yes {l : List Int} (h : Ris l) (h0 : 0 < l.length) : votB l = true := votB_iff.2 (ris_vot h h0)

/-- How many of the first are in a list. -/
theorem cnt_take {v l : List Int} {i : Nat} {x : Int} (hx : v[i]? = some x) : cnt (v.take (i + 1)) l = cnt (v.take i) l + if x ∈ l then 1 else 0 := by
  have e : v.take (i + 1) = v.take i ++ [x] := by rw [List.take_add_one, hx]; rfl
  unfold cnt
  rw [e, List.countP_append]
  simp
def wonB (v l : List Int) : Bool := votB v && decide (v.length < 2 * cnt v l)
def lostB (v l : List Int) : Bool := votB v && decide (2 * (v.length - cnt v l) ≤ v.length)

/-- What a node has, by its first peer. -/
def mOf : List (Int × Int × Nat) → Int → Nat
  | [], _ => 0
  | p :: l, n => if p.1 = n then p.2.2 else mOf l n
theorem mOf_at {ps : List (Int × Int × Nat)} {i : Nat} {p : Int × Int × Nat} (h : ps[i]? = some p) (n : Int) : mOf (ps.drop i) n = if p.1 = n then p.2.2 else mOf (ps.drop (i + 1)) n := by
  obtain ⟨h1, rfl⟩ := List.getElem?_eq_some_iff.1 h
  rw [List.drop_eq_getElem_cons h1, mOf]
def comM (v : List Int) (ps : List (Int × Int × Nat)) : Nat := if votB v then bestFrom (v.map (mOf ps)) 0 (v.map (mOf ps)) else 0

/-- Rising rows are known by what is in them. -/
theorem rising_ext : ∀ {a b : List Int}, a.Pairwise (· < ·) → b.Pairwise (· < ·) → (∀ n, n ∈ a ↔ n ∈ b) → a = b
  | [], [], _, _, _ => rfl
  | [], y :: b, _, _, h => by have := (h y).2 (by simp); simp at this
  | x :: a, [], _, _, h => by have := (h x).1 (by simp); simp at this
  | x :: a, y :: b, ha, hb, h => by
    have ha' := List.pairwise_cons.1 ha
    have hb' := List.pairwise_cons.1 hb
    have hxy : x = y := by
      have h1 := (h x).1 (by simp)
      have h2 := (h y).2 (by simp)
      rcases List.mem_cons.1 h1 with h1 | h1
      · exact h1
      · rcases List.mem_cons.1 h2 with h2 | h2
        · exact h2.symm
        · have := ha'.1 y h2
          have := hb'.1 x h1
          omega
    subst hxy
    congr 1
    refine rising_ext ha'.2 hb'.2 fun n => ?_
    constructor
    · intro hn
      have := (h n).1 (List.mem_cons_of_mem _ hn)
      rcases List.mem_cons.1 this with e | h3
      · have := ha'.1 n hn
        omega
      · exact h3
    · intro hn
      have := (h n).2 (List.mem_cons_of_mem _ hn)
      rcases List.mem_cons.1 this with e | h3
      · have := hb'.1 n hn
        omega
      · exact h3

/-- Where a number stands, or would. -/
def Spot (v : List Int) (z : Int) (k : Nat) : Prop := k ≤ v.length ∧ (∀ j x, j < k → v[j]? = some x → x < z) ∧ ∀ j x, k ≤ j → v[j]? = some x → z ≤ x
theorem spot_ex : ∀ (v : List Int) (z : Int), v.Pairwise (· ≤ ·) → ∃ k, Spot v z k
  | [], z, _ => ⟨0, by simp [Spot]⟩
  | x :: v, z, h => by
    have h' := List.pairwise_cons.1 h
    by_cases hx : x < z
    · obtain ⟨k, h1, h2, h3⟩ := spot_ex v z h'.2
      refine ⟨k + 1, by simp; omega, fun j y hj hy => ?_, fun j y hj hy => ?_⟩
      · cases j with
        | zero => simp only [List.getElem?_cons_zero, Option.some.injEq] at hy; omega
        | succ j => exact h2 j y (by omega) (by simpa using hy)
      · cases j with
        | zero => omega
        | succ j => exact h3 j y (by omega) (by simpa using hy)
    · refine ⟨0, Nat.zero_le _, fun j y hj => by omega, fun j y _ hy => ?_⟩
      cases j with
      | zero => simp only [List.getElem?_cons_zero, Option.some.injEq] at hy; omega
      | succ j =>
        have := h'.1 y (List.mem_of_getElem? (by simpa using hy))
        omega
theorem spot_in {v : List Int} {z : Int} {k : Nat} (h : Spot v z k) (hp : v.Pairwise (· ≤ ·)) : z ∈ v ↔ v[k]? = some z := by
  constructor
  · intro hz
    obtain ⟨j, hj, e⟩ := List.mem_iff_getElem.1 hz
    have h0 : v[j]? = some z := by rw [List.getElem?_eq_getElem hj, e]
    by_cases hjk : j < k
    · have := h.2.1 j z hjk h0
      omega
    · have hkl : k < v.length := by omega
      have h1 := h.2.2 k v[k] (Nat.le_refl _) (List.getElem?_eq_getElem hkl)
      rw [List.getElem?_eq_getElem hkl]
      rcases Nat.lt_or_ge k j with h2 | h2
      · have := List.pairwise_iff_getElem.1 hp k j hkl hj h2
        rw [e] at this
        congr 1
        omega
      · obtain rfl : j = k := by omega
        rw [e]
  · intro h0
    exact List.mem_of_getElem? h0
end QuorumMath

