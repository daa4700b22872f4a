import Derived.Test.YtfpbgfmnjpamlaaGreatHv13
import Derived.Test.YtfpbgfmnjpamlaaGreatHv07
/- What slices.SortFunc of the library leaves of a row of one's own, of any element. -/
namespace Go.Proofs.YtfpbgfmnjpamlaaGreat
open Go.RowKit LeaseMath
set_option maxRecDepth 100000
set_option linter.unusedSimpArgs false
set_option linter.unusedVariables false

theorem flatK_flat {α : Type} [Inhabited α] (E : El α) (xs : List α) : (Go.Sort.flatK E.enc E.k xs.toArray).toList = E.flat xs := by
 have hk := E.pos
 apply List.ext_getElem?
 intro j
 by_cases hj : j < xs.length * E.k
 ·have hi : j / E.k < xs.length := Nat.div_lt_of_lt_mul (by rw [Nat.mul_comm]; exact hj)
  have hm := Nat.mod_lt j hk
  have hx : xs[j / E.k]? = some xs[j / E.k] := List.getElem?_eq_getElem hi
  have hjm : j / E.k * E.k + j % E.k = j := by
   have := Nat.div_add_mod j E.k
   rw [Nat.mul_comm] at this
   exact this
  have h1 := El.flat_get E xs (j / E.k) xs[j / E.k] (j % E.k) hx hm
  rw [hjm] at h1
  rw [h1]
  have h2 := Go.Sort.get_flatK E.enc E.k xs.toArray j (by simpa using hj)
  have h3 : (Go.Sort.flatK E.enc E.k xs.toArray).size = xs.length * E.k := by simp
  have h4 : xs.toArray[j / E.k]! = xs[j / E.k] := by simp [hi]
  have h5 : j % E.k < (E.enc xs[j / E.k]).length := by rw [E.len]; exact hm
  rw [h4] at h2
  rw [getElem!_pos (Go.Sort.flatK E.enc E.k xs.toArray) j (by omega), getElem!_pos (E.enc xs[j / E.k]) (j % E.k) h5] at h2
  rw [List.getElem?_eq_getElem h5, ← h2, Array.getElem?_toList, Array.getElem?_eq_getElem (by omega)]
 ·rw [List.getElem?_eq_none (by simp; omega), List.getElem?_eq_none (by rw [El.flat_length]; omega)]
theorem Rk.holdsK {α : Type} [Inhabited α] {E : El α} {w : World} {t : TypeId} {g n cap : Nat} {xs : List α} (h : Rk E w t (.slice (some ⟨g, 0, none⟩) n cap) xs) : Go.Sort.HoldsK E.enc E.k w g 0 xs.toArray := by
 obtain ⟨h0, ⟨r1, r2⟩ | ⟨g', cp, cur, e1, hg, hbk, hle, hm, hcs, ht⟩⟩ := h
 ·cases r1
 ·cases e1
  intro j hj
  rw [Nat.zero_add]
  have hj' : j < xs.length * E.k := by simpa using hj
  refine ⟨?_, frozen_of hbk j⟩
  rw [cells_of_block hbk]
  have h1 : (E.flat xs)[j]? = cur[j]? := by rw [← ht, List.getElem?_take_of_lt (by omega)]; simp
  rw [← h1, ← flatK_flat, Array.getElem?_toList, Array.getElem?_eq_getElem hj, getElem!_pos (Go.Sort.flatK E.enc E.k xs.toArray) j hj]
  rfl
theorem putCells_take {F cur : Array Value} (h : F.size ≤ cur.size) : ((Go.Sort.putCells id 0 F cur).toList).take F.size = F.toList := by
 apply List.ext_getElem?
 intro j
 rw [List.getElem?_take]
 by_cases hj : j < F.size
 ·rw [if_pos hj, Array.getElem?_toList, Array.getElem?_toList]
  unfold Go.Sort.putCells
  rw [Array.getElem?_mapIdx, Array.getElem?_eq_getElem (show j < cur.size by omega), Array.getElem?_eq_getElem hj]
  simp [hj]
 ·rw [if_neg hj, List.getElem?_eq_none (by simpa using Nat.le_of_not_lt hj)]
/-- The row behind the sort; all else. -/
theorem Rk.sorted {α : Type} [Inhabited α] {E : El α} {w : World} {t : TypeId} {g n cap m : Nat} {xs : List α} {d' : Array α} {os : Array Obj} (h : Rk E w t (.slice (some ⟨g, 0, none⟩) n cap) xs) (hs : d'.size = xs.length) :
  Rk E (Go.Proofs.sortWorldK E.enc E.k w g 0 m d' os) t (.slice (some ⟨g, 0, none⟩) n cap) d'.toList ∧ ∀ n0, n0 ≤ g → Below n0 w (Go.Proofs.sortWorldK E.enc E.k w g 0 m d' os) := by
 obtain ⟨h0, ⟨r1, r2⟩ | ⟨g', cp, cur, e1, hg, hbk, hle, hm, hcs, ht⟩⟩ := h
 ·cases r1
 ·cases e1
  have hgl := (Array.getElem?_eq_some_iff.1 hbk).1
  have hfl := flatK_flat E d'.toList
  have hfs : (Go.Sort.flatK E.enc E.k d').size = d'.size * E.k := by simp
  have hdl : d'.toList.length = xs.length := by rw [Array.length_toList]; exact hs
  have hbk2 : (Go.Proofs.sortWorldK E.enc E.k w g 0 m d' os).heap[g]? = some (.cells (Go.Sort.putCells id 0 (Go.Sort.flatK E.enc E.k d') cur) t (0, 0)) := by
   unfold Go.Proofs.sortWorldK
   rw [Go.Sort.heap_grow_old _ _ (by rw [Go.Sort.size_putRowK]; exact hgl)]
   show ((w.heap).modify g (Go.Sort.onCells (Go.Sort.putCells id 0 (Go.Sort.flatK E.enc E.k d'))))[g]? = _
   rw [Array.getElem?_modify, if_pos rfl, hbk]
   rfl
  constructor
  ·refine ⟨by rw [El.flat_length], .inr ⟨g, cap, _, by rw [hdl], Nat.zero_le _, hbk2, by rw [hdl]; exact hle, hm, ?_, ?_⟩⟩
   ·simpa [Go.Sort.putCells] using hcs
   ·rw [hdl, ← hs, ← hfs, putCells_take (by rw [hfs, hs, hcs]; exact Nat.mul_le_mul_right _ hle)]
    rw [Array.toArray_toList] at hfl
    exact hfl
  ·intro n0 hn
   refine ⟨rfl, rfl, rfl, ?_, fun k hk => ?_⟩
   ·unfold Go.Proofs.sortWorldK
    rw [Go.Sort.size_grow, Go.Sort.size_putRowK]
    exact Nat.le_add_right _ _
   ·unfold Go.Proofs.sortWorldK
    rw [Go.Sort.heap_grow_old _ _ (by rw [Go.Sort.size_putRowK]; show k < w.heap.size; omega)]
    show ((w.heap).modify g (Go.Sort.onCells (Go.Sort.putCells id 0 (Go.Sort.flatK E.enc E.k d'))))[k]? = _
    rw [Array.getElem?_modify, if_neg (by omega)]
theorem swo_key {β : Type} [Inhabited (K × β)] : Go.Sort.SWO (ltOf fun x y : K × β => cmpM x.1 y.1) where
 irrefl x := by
  have h : ¬ x.1 < x.1 := by grind
  simp [ltOf, cmpM, h]
 trans x y z h1 h2 := by
  unfold ltOf cmpM at *
  simp only [decide_eq_true_eq] at *
  have a1 : x.1 < y.1 := by by_cases h : x.1 < y.1 <;> simp [h] at h1 ⊢; split at h1 <;> omega
  have a2 : y.1 < z.1 := by by_cases h : y.1 < z.1 <;> simp [h] at h2 ⊢; split at h2 <;> omega
  rw [if_pos (klt_trans a1 a2)]
  omega
 ntrans x y z h1 h2 := by
  unfold ltOf cmpM at *
  simp only [decide_eq_false_iff_not] at *
  have a1 : ¬ x.1 < y.1 := fun h => h1 (by rw [if_pos h]; omega)
  have a2 : ¬ y.1 < z.1 := fun h => h2 (by rw [if_pos h]; omega)
  have a3 : ¬ x.1 < z.1 := by grind
  rw [if_neg a3]
  split <;> omega
/-- What is sorted is known by its elements, where keys are unlike. -/
theorem sorted_eq {β : Type} [Inhabited (K × β)] {d' : Array (K × β)} {m xs : List (K × β)} (hs : Go.Sort.SortedIn (ltOf fun x y : K × β => cmpM x.1 y.1) 0 xs.length d') (hp : d'.toList.Perm xs) (hm : m.Perm xs) (hpw : m.Pairwise (fun a b => a.1 < b.1)) : d'.toList = m := by
 have hl : d'.size = xs.length := by rw [← Array.length_toList]; exact hp.length_eq
 have h1 : d'.toList.Pairwise (fun a b => ¬ b.1 < a.1) := by
  rw [List.pairwise_iff_getElem]
  intro i j hi hj hij hlt
  have h2 := hs i j (Nat.zero_le _) hij (by rw [Array.length_toList] at hj; omega)
  rw [Array.length_toList] at hi hj
  rw [getElem!_pos d' i hi, getElem!_pos d' j hj] at h2
  rw [Array.getElem_toList, Array.getElem_toList] at hlt
  have h3 : cmpM d'[j].1 d'[i].1 = -1 := by unfold cmpM; rw [if_pos hlt]
  have h4 : ltOf (fun x y : K × β => cmpM x.1 y.1) d'[j] d'[i] = decide (cmpM d'[j].1 d'[i].1 < 0) := rfl
  rw [h4, h3] at h2
  cases h2
 have h2 : m.Pairwise (fun a b => ¬ b.1 < a.1) := hpw.imp fun h h' => by grind
 have hnd : m.Pairwise (fun a b => a.1 ≠ b.1) := hpw.imp fun h e => by rw [e] at h; grind
 have hpm := hp.trans hm.symm
 have inj : ∀ a b, a ∈ m → b ∈ m → a.1 = b.1 → a = b := by
  intro a b ha hb he
  obtain ⟨i, hi, rfl⟩ := List.mem_iff_getElem.1 ha
  obtain ⟨j, hj, rfl⟩ := List.mem_iff_getElem.1 hb
  rcases Nat.lt_trichotomy i j with h | h | h
  ·exact absurd he ((List.pairwise_iff_getElem.1 hnd) i j hi hj h)
  ·subst h; rfl
  ·exact absurd he.symm ((List.pairwise_iff_getElem.1 hnd) j i hj hi h)
 exact hpm.eq_of_pairwise (fun a b ha hb hab hba => inj a b (hpm.mem_iff.1 ha) hb (by grind)) h1 h2
end Go.Proofs.YtfpbgfmnjpamlaaGreat

