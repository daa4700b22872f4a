/- How a slice of byte slices that came in is read: its cells hold slices that hold the bytes; each is no longer than memory bears. -/
import Derived.Test.YtlminobaohkalaaDoorLift
import Derived.Test.YtlminobaohkalaaDoorSame
import Derived.SizedLaws
namespace Go.Proofs.YtlminobaohkalaaDoor
open Go.ChangeShapes Go.WideShapes Go.ChangeAt Go.RowKit CrcMath
set_option maxRecDepth 100000
set_option linter.unusedSimpArgs false

theorem cells_slice : Tryd.prog.cellsOf 22 = 1 := by kernel_rfl

/-- A slice of byte slices, opened. -/
theorem data_opened {H : Type} {enc : TypeId × Value → H} {W : World} {fuel : Nat} {v : Value} {x : DataW H × List MemPlace}
    (h : DataW.trod enc Tryd.prog W 0 (fun _ => true) true fuel 36 [v] = some x) :
    ∃ ds, Dv W v ds ∧ (∀ d ∈ ds, ∀ c ∈ d, c < 256) ∧ ∀ d ∈ ds, d ≠ [] → ∃ el sp, x.1 = .slice el sp ∧ ∃ e1 s1, DataW.slice e1 s1 ∈ el ∧ e1.length = d.length := by
  rcases Deep.open_slice1 Tryd.underlying36 cells_slice h with ⟨hcs, hx⟩ | ⟨a, len, cap, m, n, V, D, Pl, hcs, _, hl, hm, hmm, hx, hc⟩
  · obtain rfl : v = .slice none 0 0 := by simpa using hcs
    exact ⟨[], ⟨none, 0, rfl, fun i d hd => by simp at hd⟩, by simp, by simp⟩
  · obtain rfl : v = .slice (some a) len cap := by simpa using hcs
    have hmc : m = cap := by rw [hmm]; rfl
    subst hmc
    have each : ∀ i, i < len → ∃ d : List Nat, W.cell? (a.add i) = some (V i) ∧ Bs W.heap.size W (V i) d ∧ (∀ c ∈ d, c < 256) ∧ (d = [] ∨ ∃ e1 s1, D i = .slice e1 s1 ∧ e1.length = d.length) := by
      intro i hi
      obtain ⟨h1, h2⟩ := hc i (by omega)
      obtain ⟨d, g1, g2, _, _, g5⟩ := bs_opened h2
      exact ⟨d, h1, g1, g2, g5⟩
    obtain ⟨Q, hQ⟩ := Deep.choose_lt (α := List Nat) each
    have hzl : ((List.range len).map Q).length = len := by simp
    refine ⟨(List.range len).map Q, ⟨some a, m, by rw [hzl], fun i d hd => ?_⟩, ?_, ?_⟩
    · have hi : i < len := by
        have := (List.getElem?_eq_some_iff.1 hd).1
        simpa using this
      have e : Q i = d := by simpa [hi] using hd
      obtain ⟨g1, g2, _, _⟩ := hQ i hi
      have gz := (hQ 0 (by omega)).1
      obtain ⟨b, off, spot⟩ := a
      have hspot : spot = none := by simpa [Addr.add] using World.cell?_spot gz
      subst hspot
      rw [Addr.add_lit] at g1
      rw [e] at g2
      exact ⟨b, off, V i, rfl, g1, g2⟩
    · intro d hd
      obtain ⟨i, hi, rfl⟩ := List.mem_map.1 hd
      exact (hQ i (List.mem_range.1 hi)).2.2.1
    · intro d hd hne
      obtain ⟨i, hi, rfl⟩ := List.mem_map.1 hd
      have hil := List.mem_range.1 hi
      rcases (hQ i hil).2.2.2 with h0 | ⟨e1, s1, h1, h2⟩
      · exact absurd h0 hne
      · exact ⟨_, _, (Prod.mk.inj hx).1, e1, s1, List.mem_map.2 ⟨i, hi, h1⟩, h2⟩

theorem weights_all {H : Type} {t : TypeId} {d : DataW H} {n : Nat} (hn : n ∈ d.weights Tryd.prog t) : ∀ {l : List (DataW H)}, d ∈ l → n ∈ DataW.weightsAll Tryd.prog t l
  | [], h => by cases h
  | x :: l, h => by
    simp only [DataW.weightsAll, List.mem_append]
    rcases List.mem_cons.1 h with rfl | h
    · exact .inl hn
    · exact .inr (weights_all hn h)

theorem data_sized {H : Type} {ts : List TypeId} {ds : List (DataW H)} {j : Nat} {el sp e1 s1 : List (DataW H)} (h : (DataW.weightsEach Tryd.prog ts ds).all (· ≤ reachBytes) = true) (ht : ts[j]? = some 36) (hd : ds[j]? = some (.slice el sp)) (hm : DataW.slice e1 s1 ∈ el) : e1.length ≤ 140737488355328 := by
  have h1 : (e1.length + s1.length) * Tryd.prog.bytesOf 5 ∈ (DataW.slice e1 s1 : DataW H).weights Tryd.prog 22 := by simp [DataW.weights, Tryd.underlying22]
  have h2 := weights_all h1 hm
  have h3 : (e1.length + s1.length) * Tryd.prog.bytesOf 5 ∈ (DataW.slice el sp : DataW H).weights Tryd.prog 36 := by
    simp only [DataW.weights, Tryd.underlying36]
    exact List.mem_cons_of_mem _ (List.mem_append_left _ h2)
  have := List.all_eq_true.1 h _ (DataW.weights_mem_each ht hd _ h3)
  rw [byte_bytes] at this
  unfold reachBytes at this
  simp at this
  omega
end Go.Proofs.YtlminobaohkalaaDoor
