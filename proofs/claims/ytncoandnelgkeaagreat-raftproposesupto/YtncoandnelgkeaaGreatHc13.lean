import Derived.Test.YtncoandnelgkeaaGreatHc11
import Derived.Test.YtncoandnelgkeaaGreatHc12
/- The program's Compact. -/
namespace RlogMath
theorem votF_len {N : Nat} : ∀ (l : List Me) (d : List Nat), (∀ e ∈ l, e.data.length ≤ N) → d.length ≤ N → (votF d l).length ≤ N
  | [], d, _, h => h
  | e :: l, d, hl, h => by
    rw [votF]
    refine votF_len l _ (fun y hy => hl y (List.mem_cons_of_mem _ hy)) ?_
    split
    · exact hl e List.mem_cons_self
    · exact h
theorem cut_take {x : Nat} : ∀ (l : List Me) (d : List Nat), (∀ e ∈ l, e.idx ≤ x) → cutM d x l = votF d l
  | [], d, _ => rfl
  | e :: l, d, h => by
    have h1 := h e List.mem_cons_self
    show cutM (if e.idx ≤ x ∧ e.kind = 2 then e.data else d) x l = votF (if e.kind = 2 then e.data else d) l
    rw [cut_take l _ (fun y hy => h y (List.mem_cons_of_mem _ hy))]
    by_cases hk : e.kind = 2
    · rw [if_pos ⟨h1, hk⟩, if_pos hk]
    · rw [if_neg (fun h => hk h.2), if_neg hk]
theorem cut_drop {x : Nat} : ∀ (l : List Me) (d : List Nat), (∀ e ∈ l, x < e.idx) → cutM d x l = d
  | [], d, _ => rfl
  | e :: l, d, h => by
    have h1 := h e List.mem_cons_self
    show cutM (if e.idx ≤ x ∧ e.kind = 2 then e.data else d) x l = d
    rw [if_neg (fun h => by omega)]
    exact cut_drop l d fun y hy => h y (List.mem_cons_of_mem _ hy)
theorem cut_append (x : Nat) (l m : List Me) (d : List Nat) : cutM d x (l ++ m) = cutM (cutM d x l) x m := by unfold cutM; rw [List.foldl_append]
/-- Compact, by places. -/
theorem comp_place {b : Me} {l : List Me} {x t : Nat} (h : mayB b l = true) (hx : ¬ x ≤ b.idx) (ht : termM b l x = some t) : compM b l x = (0, ⟨x, t, 0, votF b.data (l.take (x - b.idx))⟩, l.drop (x - b.idx)) := by
  have hp := term_place h ht
  obtain ⟨n, hn⟩ : ∃ n, n = x - b.idx := ⟨_, rfl⟩
  have h1 : ∀ e ∈ l.take n, e.idx ≤ x := fun e he => by
    obtain ⟨k, hk⟩ := List.getElem?_of_mem he
    rw [List.getElem?_take] at hk
    split at hk
    · have := may_num h hk
      omega
    · cases hk
  have h2 : ∀ e ∈ l.drop n, x < e.idx := fun e he => by
    obtain ⟨k, hk⟩ := List.getElem?_of_mem he
    rw [List.getElem?_drop] at hk
    have := may_num h hk
    omega
  rw [comp_ok h hx ht, ← hn]
  have e1 : cutM b.data x l = votF b.data (l.take n) := by
    conv => lhs; rw [← List.take_append_drop n l]
    rw [cut_append, cut_take _ _ h1, cut_drop _ _ h2]
  have e2 : (l.filter fun e => decide (x < e.idx)) = l.drop n := by
    conv => lhs; rw [← List.take_append_drop n l]
    rw [List.filter_append, List.filter_eq_nil_iff.2 (fun e he => by have := h1 e he; simp; omega), List.filter_eq_self.2 (fun e he => by simpa using h2 e he), List.nil_append]
  rw [e1, e2]
end RlogMath
namespace Go.Proofs.YtncoandnelgkeaaGreat
open Go.RowKit QuorumMath RlogMath
set_option maxRecDepth 100000
set_option linter.unusedSimpArgs false
set_option linter.unusedVariables false

end Go.Proofs.YtncoandnelgkeaaGreat

