import Derived.Test.YtghhijliamnmiaaProg
import Derived.WalkKit
import Derived.ArgAppend
import Derived.Below
import Derived.Laws.AppendOwnNone
import Derived.OwnWalk
import Derived.Deep.LoopGhost
import Derived.Deep.QuietTactic
import Derived.Deep.RegionHeld3
import Derived.WalkSmall
import Derived.BigQuiet
import Derived.Laws.IdiomStrings
import Derived.Laws.Cover1
import Derived.Sort.Walk0
/- Rows of one's own, of any element: what append makes of one, and that its row is the old one, or new. -/
namespace Go.Proofs.Ytghhijliamnmiaa
open Go.RowKit
set_option maxRecDepth 100000
set_option linter.unusedSimpArgs false
set_option linter.unusedVariables false

theorem cells_of_block {w : World} {b : Nat} {cs : Array Value} {t : TypeId} (h : w.heap[b]? = some (.cells cs t (0, 0))) (i : Nat) : w.cell? ⟨b, i, none⟩ = cs[i]? := by
  simp [World.cell?, h]
theorem frozen_of {w : World} {q : Nat} {cs : Array Value} {t : TypeId} (h : w.heap[q]? = some (.cells cs t (0, 0))) (i : Nat) : w.frozen? ⟨q, i, none⟩ = false := by
  simp [World.frozen?, h]

/-- How an element lies in cells. -/
structure El (α : Type) where
  enc : α → List Value
  k : Nat
  len : ∀ x, (enc x).length = k
  one : ∀ x, ∀ u ∈ enc x, u.oneCell' = true
  pos : 0 < k

/-- Elements as cells. -/
def El.flat {α : Type} (E : El α) (xs : List α) : List Value := xs.flatMap E.enc
theorem El.flat_cons {α : Type} (E : El α) (x : α) (xs : List α) : E.flat (x :: xs) = E.enc x ++ E.flat xs := by simp [El.flat]
theorem El.flat_length {α : Type} (E : El α) : ∀ xs : List α, (E.flat xs).length = xs.length * E.k
  | [] => by simp [El.flat]
  | x :: xs => by rw [El.flat_cons, List.length_append, El.flat_length E xs, E.len, List.length_cons, Nat.add_mul]; omega
theorem El.flat_get {α : Type} (E : El α) : ∀ (xs : List α) (i : Nat) (x : α) (j : Nat), xs[i]? = some x → j < E.k → (E.flat xs)[i * E.k + j]? = (E.enc x)[j]?
  | [], i, x, j, h, _ => by simp at h
  | y :: xs, 0, x, j, h, hj => by
    simp only [List.getElem?_cons_zero, Option.some.injEq] at h
    subst h
    rw [El.flat_cons, Nat.zero_mul, Nat.zero_add, List.getElem?_append_left (by rw [E.len]; exact hj)]
  | y :: xs, i + 1, x, j, h, hj => by
    have h1 := El.flat_get E xs i x j (by simpa using h) hj
    rw [El.flat_cons, Nat.add_mul, Nat.one_mul, List.getElem?_append_right (by rw [E.len]; omega), E.len, ← h1]
    congr 1
    omega
/-- A row of one's own. -/
def Rk {α : Type} (E : El α) (w : World) (t : TypeId) (v : Value) (xs : List α) : Prop := w.ownsRow 0 t E.k v xs.length (E.flat xs)

theorem Rk.shape {α : Type} {E : El α} {w : World} {t : TypeId} {v : Value} {xs : List α} (h : Rk E w t v xs) : ∃ ao cap, v = .slice ao xs.length cap ∧ xs.length ≤ cap ∧ cap ≤ maxLen ∧ (ao = none → xs = []) := by
  obtain ⟨_, ⟨r1, r2⟩ | ⟨g, cp, _, r1, _, _, r2, r3, _⟩⟩ := h
  · exact ⟨none, 0, by rw [r1, r2], by omega, Nat.zero_le _, fun _ => List.eq_nil_of_length_eq_zero r2⟩
  · exact ⟨_, _, r1, r2, r3, fun h => by cases h⟩
theorem Rk.nil {α : Type} (E : El α) (w : World) (t : TypeId) : Rk E w t (.slice none 0 0) [] := World.ownsRow_nil w 0 t E.k
theorem Rk.cells {α : Type} {E : El α} {w : World} {t : TypeId} {v : Value} {xs : List α} (h : Rk E w t v xs) (hne : 0 < xs.length) : ∃ g cap cur, v = .slice (some ⟨g, 0, none⟩) xs.length cap ∧ xs.length ≤ cap ∧ cap ≤ maxLen ∧ w.heap[g]? = some (.cells cur t (0, 0)) ∧ cur.size = cap * E.k ∧ cur.toList.take (xs.length * E.k) = E.flat xs ∧ (∀ i x j, xs[i]? = some x → j < E.k → w.cell? ⟨g, i * E.k + j, none⟩ = (E.enc x)[j]?) ∧ ∀ i, w.frozen? ⟨g, i, none⟩ = false := by
  obtain ⟨_, ⟨_, r2⟩ | ⟨g, cp, cur, r1, _, hbk, hle, hm, hcs, ht⟩⟩ := id h
  · omega
  · refine ⟨g, cp, cur, r1, hle, hm, hbk, hcs, ht, fun i x j hx hj => ?_, fun i => frozen_of hbk i⟩
    have hi := (List.getElem?_eq_some_iff.1 hx).1
    rw [cells_of_block hbk, ← El.flat_get E xs i x j hx hj, ← ht, List.getElem?_take_of_lt (by
      have : (i + 1) * E.k ≤ xs.length * E.k := Nat.mul_le_mul_right _ hi
      rw [Nat.add_mul] at this
      omega)]
    simp
theorem Rk.same {α : Type} {E : El α} {w w' : World} {t : TypeId} {v : Value} {xs : List α} (h : Rk E w t v xs) (hs : ∀ k, v.ownBlock = some k → w'.heap[k]? = w.heap[k]?) : Rk E w' t v xs := by
  obtain ⟨h0, h1 | ⟨g, cap, cur, e1, hg, hbk, r⟩⟩ := h
  · exact ⟨h0, .inl h1⟩
  · exact ⟨h0, .inr ⟨g, cap, cur, e1, hg, (hs g (by rw [e1]; rfl)).trans hbk, r⟩⟩
theorem Rk.lt {α : Type} {E : El α} {w : World} {t : TypeId} {v : Value} {xs : List α} (h : Rk E w t v xs) {k : Nat} (hk : v.ownBlock = some k) : k < w.heap.size := (World.ownsRow.lt h k hk).2
theorem Rk.block {α : Type} {E : El α} {w : World} {t : TypeId} {v : Value} {xs : List α} (h : Rk E w t v xs) {k : Nat} (hk : v.ownBlock = some k) : ∃ cs, w.heap[k]? = some (.cells cs t (0, 0)) := by
  obtain ⟨_, ⟨r1, _⟩ | ⟨g, cp, cur, r1, _, hbk, _⟩⟩ := h
  · rw [r1] at hk; cases hk
  · rw [r1] at hk
    obtain rfl : g = k := by simpa [Value.ownBlock] using hk
    exact ⟨cur, hbk⟩
end Go.Proofs.Ytghhijliamnmiaa

