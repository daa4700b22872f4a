/- The contract of the program's names: the files' names, rising, in a row of the call's own. -/
import Derived.Test.YtcnljocgpoaepaaKeep
import Derived.Sort.KeysCollected
import Derived.Sort.OwnSorted
namespace Go.Proofs.Ytcnljocgpoaepaa
open Go.RowKit DiskMath Go.Maps Go.Sort Go.Shelf
set_option maxRecDepth 100000
set_option linter.unusedSimpArgs false
set_option linter.unusedVariables false

/-- A slice of texts, as it is read. -/
def Tv (n₀ : Nat) (w : World) (v : Value) (l : List ByteArray) : Prop :=
  ∃ ao cap, v = .slice ao l.length cap ∧ ∀ (i : Nat) (s : ByteArray), l[i]? = some s → ∃ b off, ao = some ⟨b, off, none⟩ ∧ w.cell? ⟨b, off + i, none⟩ = some (.string s) ∧ n₀ ≤ b
def bytesOfName (s : ByteArray) : List UInt8 := s.data.toList
theorem bytesOfName_inj {s t : ByteArray} (h : bytesOfName s = bytesOfName t) : s = t := ByteArray.ext (Array.toList_inj.1 h)
theorem enc_name (s : ByteArray) : encStr (bytesOfName s) = .string s := by
  unfold encStr bytesOfName
  rfl

/-- The names, as bytes. -/
def namesB (fs : Files) : List (List UInt8) := fs.map fun f => bytesOfName f.name
theorem namesB_sorted : ∀ {fs : Files}, Rises strOrd fs → (namesB fs).Pairwise (fun x y => decide (x ≤ y) = true) ∧ (namesB fs).Nodup
  | [], _ => ⟨List.Pairwise.nil, List.nodup_nil⟩
  | f :: fs, h => by
    have ih := namesB_sorted h.2
    have hlt : ∀ x ∈ namesB fs, bytesOfName f.name < x := by
      intro x hx
      obtain ⟨g, hg, rfl⟩ := List.mem_map.1 hx
      have := h.1 g hg
      unfold strOrd at this
      simp only [ByteArray.toList_eq] at this
      exact this
    refine ⟨List.Pairwise.cons (fun x hx => ?_) ih.1, List.nodup_cons.2 ⟨fun hm => ?_, ih.2⟩⟩
    · rw [decide_eq_true_iff]
      exact List.le_of_lt (hlt x hx)
    · exact List.lt_irrefl _ (hlt _ hm)

theorem names_sorted {w : World} {m : Nat} {ρ : Mark} {M : ByteArray → Option Value} {q : Nat} {fs : Files} (h : DiskAt ρ M w q m fs) {D : DataW Value} (hown : w.ownsMap Try.prog 9 heldElem m fs.length D)
    (hD : ∀ s z, D.atKey (keyLit s) z = match M s with | none => z | some v => .held v) {ss : List (List UInt8)} (hp : ss.Perm (strKeys D)) : ss.mergeSort (fun x y => decide (x ≤ y)) = namesB fs := by
  obtain ⟨hs, hnd⟩ := namesB_sorted h.sound.1
  have hmem : ∀ x, x ∈ namesB fs ↔ Maps.has D (.string x) = true := by
    intro x
    have hx := Mp.has hD (⟨x.toArray⟩ : ByteArray)
    have e1 : keyLit ⟨x.toArray⟩ = .string x := by simp [keyLit]
    rw [e1] at hx
    rw [hx]
    constructor
    · intro hm
      obtain ⟨f, hf, hfx⟩ := List.mem_map.1 hm
      have hn : f.name = ⟨x.toArray⟩ := by rw [← hfx]; simp [bytesOfName]
      have hg := h.sound.1.get_of_mem hf
      rw [hn] at hg
      obtain ⟨p, v, hM, _⟩ := h.yes _ _ hg
      rw [hM]; rfl
    · intro hm
      cases hg : get fs ⟨x.toArray⟩ with
      | none => rw [h.no _ hg] at hm; cases hm
      | some f =>
        refine List.mem_map.2 ⟨f, get_mem hg, ?_⟩
        rw [get_name hg]
        simp [bytesOfName]
  have hp2 : (namesB fs).Perm (strKeys D) := Collected.perm (left := fun _ => false) ⟨hnd, fun x => by rw [hmem]; simp⟩ hown keyed Try.underlying9 (fun _ => rfl)
  have hq := hp.trans hp2.symm
  have tr : ∀ a b c : List UInt8, decide (a ≤ b) = true → decide (b ≤ c) = true → decide (a ≤ c) = true := fun a b c h1 h2 => by
    simp only [decide_eq_true_eq] at *
    exact List.le_trans h1 h2
  have to : ∀ a b : List UInt8, (decide (a ≤ b) || decide (b ≤ a)) = true := fun a b => by
    simp only [Bool.or_eq_true, decide_eq_true_eq]
    exact List.le_total a b
  refine List.Perm.eq_of_pairwise (le := fun a b => decide (a ≤ b) = true) (fun a b _ _ h1 h2 => ?_) (List.pairwise_mergeSort tr to ss) hs ((List.mergeSort_perm ss _).trans hq)
  simp only [decide_eq_true_eq] at h1 h2
  exact List.le_antisymm h1 h2

/-- What names tells. -/
def NamesT (w : World) (fs : Files) (e : Ending) (w' : World) : Prop := ∃ v, e = .returned v ∧ Tv w.heap.size w' v (fs.map Fl.name) ∧ Below w.heap.size w w'

set_option maxHeartbeats 1000000 in
theorem names_of {ρ : Mark} {M : ByteArray → Option Value} {w : World} {q m : Nat} {fs : Files} (h : DiskAt ρ M w q m fs) :
    Calls Try.prog 36 #[.pointer (some ⟨q, 0, none⟩)] w (NamesT w fs) := by
  have hc := h.cell
  obtain ⟨D, hown, hD1, hD2⟩ := id h.map
  have hl := h.sound.2.1
  have hmax : Maps.size D ≤ maxLen := by rw [hD1]; unfold maxLen; omega
  have hbytes : Maps.size D * 16 ≤ 140737488355328 := by rw [hD1]; omega
  have hfin : ∀ w' v (ss : List (List UInt8)), ss.Perm (strKeys D) → w'.ownsRow (w.alloc (.cells #[.map (some m)] 50)).heap.size 9 1 v ss.length ((ss.mergeSort (fun x y => decide (x ≤ y))).map encStr) → Below (w.alloc (.cells #[.map (some m)] 50)).heap.size (w.alloc (.cells #[.map (some m)] 50)) w' → NamesT w fs (.returned v) w' := by
    intro w' v ss hS hrow hb
    have hsort := names_sorted h hown hD2 hS
    have hlen : ss.length = fs.length := by
      have := congrArg List.length hsort
      rw [List.length_mergeSort] at this
      rw [this]
      simp [namesB]
    rw [hsort, hlen] at hrow
    have hv : ∃ ao cap, v = .slice ao fs.length cap := by
      obtain ⟨_, ⟨r1, r2⟩ | ⟨g, cp, _, r1, _⟩⟩ := hrow
      · exact ⟨none, 0, by rw [r1, r2]⟩
      · exact ⟨_, _, r1⟩
    obtain ⟨ao, cap, rfl⟩ := hv
    refine ⟨_, rfl, ⟨ao, cap, by simp, fun i s hs => ?_⟩, ((Below.refl _ w).alloc (Nat.le_refl _) _).trans (hb.mono (by simp))⟩
    have hi : i < fs.length := by
      have := (List.getElem?_eq_some_iff.1 hs).1
      simpa using this
    obtain ⟨g, cp, e2, _, hcell⟩ := row_cell hrow (by omega)
    simp only [Value.slice.injEq] at e2
    refine ⟨g, 0, e2.1, hcell i _ ?_, ?_⟩
    case refine_2 =>
      have := (World.ownsRow.lt hrow g (by rw [e2.1]; rfl)).1
      simp at this
      omega
    rw [List.getElem?_map] at hs ⊢
    obtain ⟨f, hf, rfl⟩ := Option.map_eq_some_iff.1 hs
    unfold namesB
    rw [List.getElem?_map, hf]
    exact congrArg some (enc_name f.name)
  generalize NamesT w fs = T at *
  clear h
  refine (callsIn_wide (n := 6)).1 ?_
  have hfK : Fence.wide.fn 44 := trivial
  have hfS : Fence.wide.fn 43 := trivial
  refine callsIn_of_wp Try.func36 rfl trivial ?_ rfl
  simp only [Try.ntmps36, List.size_toArray, List.length_cons, List.length_nil, Nat.reduceAdd, Nat.reduceSub, Array.replicate_succ, Array.replicate_zero, List.push_toArray, List.append_toArray, List.nil_append, List.cons_append]
  gi_wp2_with (first
    | (gi_at_call 44; refine (Try.maps_Keys_44 _ _).mono ?_; rintro e w' ⟨rfl, rfl⟩)
    | (gi_at_call 43; refine (Try.slices_Sorted_keys_43_44 m fs.length D heldElem w hown hmax hbytes).mono ?_; rintro e w' ⟨v, ss, rfl, hS, hrow, hnil, hb⟩))
  exact hfin _ _ ss hS hrow hb
end Go.Proofs.Ytcnljocgpoaepaa
