import Derived.Test.YtghhijliamnmiaaHo03
import Derived.Lib.AppendZerosOnto
/- Rows as they are read and made, of any element; numbers and peers as elements. -/
namespace Go.Proofs.Ytghhijliamnmiaa
open Go.RowKit
set_option maxRecDepth 100000
set_option linter.unusedSimpArgs false
set_option linter.unusedVariables false

/-- One box. -/
theorem one_box (w : World) (o : Obj) : (w.alloc o).heap.size = w.heap.size + 1 ∧ (w.alloc o).heap[w.heap.size]? = some o ∧ Below w.heap.size w (w.alloc o) := ⟨by simp, heap_alloc_new w o, (Below.refl _ _).alloc (Nat.le_refl _) _⟩

/-- A slice as it is read, of any element. -/
def Rd {α : Type} (E : El α) (w : World) (v : Value) (xs : List α) : Prop :=
  ∃ ao cap, v = .slice ao xs.length cap ∧ xs.length ≤ cap ∧ (ao = none → cap = 0) ∧ ∀ (i : Nat) (x : α) (j : Nat) (u : Value), xs[i]? = some x → (E.enc x)[j]? = some u → ∃ b off, ao = some ⟨b, off, none⟩ ∧ w.cell? ⟨b, off + (i * E.k + j), none⟩ = some u
theorem Rd.below {α : Type} {E : El α} {w w' : World} {v : Value} {xs : List α} (h : Rd E w v xs) (hb : Below w.heap.size w w') : Rd E w' v xs := by
  obtain ⟨ao, cap, e, h0, h1, h2⟩ := h
  refine ⟨ao, cap, e, h0, h1, fun i x j u hx hu => ?_⟩
  obtain ⟨b, off, r1, r2⟩ := h2 i x j u hx hu
  exact ⟨b, off, r1, (hb.cell (p := ⟨b, off + (i * E.k + j), none⟩) (World.block_lt_of_cell? w _ r2)).trans r2⟩
theorem Rk.rd {α : Type} {E : El α} {w : World} {t : TypeId} {v : Value} {xs : List α} (h : Rk E w t v xs) : Rd E w v xs := by
  obtain ⟨_, ⟨r1, r2⟩ | ⟨g, cp, cur, r1, _, hbk, hle, hm, hcs, ht⟩⟩ := id h
  · refine ⟨none, 0, by rw [r1, r2], by omega, fun _ => rfl, fun i x j u hx => ?_⟩
    rw [List.eq_nil_of_length_eq_zero r2] at hx
    simp at hx
  · refine ⟨_, cp, r1, hle, (fun h => by cases h), fun i x j u hx hu => ⟨g, 0, rfl, ?_⟩⟩
    have hj : j < E.k := by
      have := (List.getElem?_eq_some_iff.1 hu).1
      rw [E.len] at this
      exact this
    have hi := (List.getElem?_eq_some_iff.1 hx).1
    rw [Nat.zero_add, cells_of_block hbk, ← hu, ← El.flat_get E xs i x j hx hj, ← ht, List.getElem?_take_of_lt (by
      have : (i + 1) * E.k ≤ xs.length * E.k := Nat.mul_le_mul_right _ hi
      rw [Nat.add_mul] at this
      omega)]
    simp
/-- All its cells. -/
theorem Rd.cells {α : Type} {E : El α} {w : World} {xs : List α} {b off n cap : Nat} (h : Rd E w (.slice (some ⟨b, off, none⟩) n cap) xs) : ∀ j u, (E.flat xs)[j]? = some u → w.cell? ⟨b, off + j, none⟩ = some u := by
  obtain ⟨ao, cap', e, _, _, h2⟩ := h
  cases e
  intro j u hu
  have hj := (List.getElem?_eq_some_iff.1 hu).1
  rw [El.flat_length] at hj
  have hk := E.pos
  have hi : j / E.k < xs.length := Nat.div_lt_of_lt_mul (by rw [Nat.mul_comm]; exact hj)
  have hjm : j / E.k * E.k + j % E.k = j := by
    have := Nat.div_add_mod j E.k
    rw [Nat.mul_comm] at this
    exact this
  have hx : xs[j / E.k]? = some xs[j / E.k] := List.getElem?_eq_getElem hi
  have hget := El.flat_get E xs (j / E.k) xs[j / E.k] (j % E.k) hx (Nat.mod_lt _ hk)
  rw [hjm, hu] at hget
  obtain ⟨b', off', r1, r2⟩ := h2 (j / E.k) _ (j % E.k) u hx hget.symm
  cases r1
  rw [hjm] at r2
  exact r2

/-- A row of one's own, in blocks from n on. -/
def Ow {α : Type} (E : El α) (t : TypeId) (n : Nat) (w : World) (v : Value) (l : List α) : Prop := Rk E w t v l ∧ ∀ k, v.ownBlock = some k → n ≤ k
theorem Ow.nil {α : Type} (E : El α) (t : TypeId) (n : Nat) (w : World) : Ow E t n w (.slice none 0 0) [] := ⟨Rk.nil _ _ _, fun k hk => by cases hk⟩
theorem Ow.below {α : Type} {E : El α} {t : TypeId} {n : Nat} {w w' : World} {v : Value} {l : List α} (h : Ow E t n w v l) (hb : Below w.heap.size w w') : Ow E t n w' v l := ⟨h.1.same fun k hk => hb.block k (h.1.lt hk), h.2⟩
theorem Ow.mono {α : Type} {E : El α} {t : TypeId} {n m : Nat} {w : World} {v : Value} {l : List α} (h : Ow E t n w v l) (hm : m ≤ n) : Ow E t m w v l := ⟨h.1, fun k hk => Nat.le_trans hm (h.2 k hk)⟩
/-- A slice's own form. -/
theorem Rd.shape {α : Type} {E : El α} {w : World} {v : Value} {xs : List α} (h : Rd E w v xs) : ∃ ao cap, v = .slice ao xs.length cap ∧ xs.length ≤ cap ∧ (ao = none → cap = 0) := by
  obtain ⟨ao, cap, e, h1, h2, _⟩ := h
  exact ⟨ao, cap, e, h1, h2⟩
end Go.Proofs.Ytghhijliamnmiaa

