import Derived.Test.YtfbmeeankkfjbaaHq20
/- What is committed never falls: plain mathematics. -/
namespace QuorumMath
set_option linter.unusedSimpArgs false
set_option linter.unusedVariables false

/-- Has a node's first peer as much? -/
def metB : List (Int × Int × Nat) → Int → Nat → Bool
  | [], _, _ => false
  | p :: l, x, c => if p.1 = x then decide (c ≤ p.2.2) else metB l x c
theorem metB_at {ps : List (Int × Int × Nat)} {i : Nat} {p : Int × Int × Nat} (h : ps[i]? = some p) (x : Int) (c : Nat) : metB (ps.drop i) x c = if p.1 = x then decide (c ≤ p.2.2) else metB (ps.drop (i + 1)) x c := by
  obtain ⟨h1, rfl⟩ := List.getElem?_eq_some_iff.1 h
  rw [List.drop_eq_getElem_cons h1, metB]
theorem metB_mOf : ∀ (ps : List (Int × Int × Nat)) (x : Int) (c : Nat), 0 < c → metB ps x c = decide (c ≤ mOf ps x)
  | [], x, c, hc => by
    show false = decide (c ≤ 0)
    exact (decide_eq_false (by omega)).symm
  | p :: l, x, c, hc => by
    rw [metB, mOf, metB_mOf l x c hc]
    split <;> rfl
def metN (ps : List (Int × Int × Nat)) (c : Nat) (v : List Int) : Nat := v.countP fun x => metB ps x c
theorem metN_nil (ps : List (Int × Int × Nat)) (c : Nat) : metN ps c [] = 0 := rfl
theorem metN_take {ps : List (Int × Int × Nat)} {c : Nat} {v : List Int} {i : Nat} {x : Int} (hx : v[i]? = some x) : metN ps c (v.take (i + 1)) = metN ps c (v.take i) + if metB ps x c then 1 else 0 := by
  have e : v.take (i + 1) = v.take i ++ [x] := by rw [List.take_add_one, hx]; rfl
  unfold metN
  rw [e, List.countP_append]
  simp [List.countP_cons]
theorem metN_has (ps : List (Int × Int × Nat)) {c : Nat} (hc : 0 < c) : ∀ v : List Int, metN ps c v = has (v.map (mOf ps)) c
  | [] => rfl
  | x :: v => by
    have ih := metN_has ps hc v
    unfold metN has at ih ⊢
    rw [List.map_cons, List.countP_cons, List.countP_cons, ih, metB_mOf ps x c hc]
/-- A majority has what is committed. -/
theorem met_major {v : List Int} {ps : List (Int × Int × Nat)} (hv : votB v = true) (hc : 0 < comM v ps) : v.length < 2 * metN ps (comM v ps) v := by
  rw [metN_has ps hc]
  have h1 := (votB_iff.1 hv).1
  have e : comM v ps = bestFrom (v.map (mOf ps)) 0 (v.map (mOf ps)) := by unfold comM; rw [hv]; rfl
  have h := best_has (bestFrom_best (v.map (mOf ps))) (by rw [List.length_map]; omega)
  rw [← e, List.length_map] at h
  exact h
/-- Peers that got no less far. -/
def UpP (ps qs : List (Int × Int × Nat)) : Prop := ps.length = qs.length ∧ ∀ (i : Nat) (p q : Int × Int × Nat), ps[i]? = some p → qs[i]? = some q → p.1 = q.1 ∧ p.2.2 ≤ q.2.2
theorem UpP.refl (ps : List (Int × Int × Nat)) : UpP ps ps := ⟨rfl, fun i p q h1 h2 => by rw [h1] at h2; cases h2; exact ⟨rfl, Nat.le_refl _⟩⟩
theorem UpP.set {ps qs : List (Int × Int × Nat)} (h : UpP ps qs) {k : Nat} {q : Int × Int × Nat} (hq : qs[k]? = some q) (r : Nat) : UpP ps (qs.set k (q.1, q.2.1, q.2.2 + r)) := by
  refine ⟨by rw [List.length_set]; exact h.1, fun i p q' hp hq' => ?_⟩
  by_cases hik : k = i
  · subst hik
    have hkl := (List.getElem?_eq_some_iff.1 hq).1
    rw [List.getElem?_set_self hkl] at hq'
    cases hq'
    have := h.2 k p q hp hq
    exact ⟨this.1, by show p.2.2 ≤ q.2.2 + r; omega⟩
  · rw [List.getElem?_set_ne hik] at hq'
    exact h.2 i p q' hp hq'
theorem mOf_up : ∀ {ps qs : List (Int × Int × Nat)}, UpP ps qs → ∀ x, mOf ps x ≤ mOf qs x
  | [], [], _, x => Nat.le_refl _
  | [], q :: qs, h, x => Nat.zero_le _
  | p :: ps, [], h, x => by have := h.1; simp at this
  | p :: ps, q :: qs, h, x => by
    have h0 := h.2 0 p q rfl rfl
    have ih := mOf_up (ps := ps) (qs := qs) ⟨by have := h.1; simpa using this, fun i a b ha hb => h.2 (i + 1) a b (by simpa using ha) (by simpa using hb)⟩ x
    rw [mOf, mOf, ← h0.1]
    split
    · exact h0.2
    · exact ih
theorem map_up {ps qs : List (Int × Int × Nat)} (h : UpP ps qs) : ∀ v : List Int, Upto (v.map (mOf ps)) (v.map (mOf qs))
  | [] => trivial
  | x :: v => ⟨mOf_up h x, map_up h v⟩
theorem com_up {v : List Int} {ps qs : List (Int × Int × Nat)} (h : UpP ps qs) : comM v ps ≤ comM v qs := by
  unfold comM
  split
  · exact best_rises (map_up h v) (bestFrom_best _) (bestFrom_best _)
  · exact Nat.le_refl _
end QuorumMath

