/- Bytes of one's own that are turned, one by one. -/
import Derived.Test.YtcnljocgpoaepaaAwake
namespace Go.Proofs.Ytcnljocgpoaepaa
open Go.RowKit DiskMath
set_option maxRecDepth 100000
set_option linter.unusedSimpArgs false
set_option linter.unusedVariables false

/-- A slice of bytes, whatever they are, in a row from block n on. -/
def Rw (n : Nat) (w : World) (v : Value) (len : Nat) : Prop :=
  ∃ ao cap, v = .slice ao len cap ∧ (0 < len → ∃ g off, ao = some ⟨g, off, none⟩ ∧ n ≤ g ∧ ∃ cur, w.heap[g]? = some (.cells cur 5 (0, 0)) ∧ ∀ j, j < len → ∃ c : Int, cur[off + j]? = some (.int .u8 c))

theorem Own.rw {n : Nat} {w : World} {v : Value} {l : List Nat} (h : Own n w v l) : Rw n w v l.length := by
  obtain ⟨_, ⟨rfl, h0⟩ | ⟨g, cap, cur, rfl, hg, hb, hl, hm, hs, ht⟩⟩ := h
  · exact ⟨none, 0, by rw [h0], fun h => by omega⟩
  · refine ⟨some ⟨g, 0, none⟩, cap, rfl, fun _ => ⟨g, 0, rfl, hg, cur, hb, fun j hj => ⟨((l[j]'hj : Nat) : Int), ?_⟩⟩⟩
    have h1 : (bc l)[j]? = some (.int .u8 ((l[j]'hj : Nat) : Int)) := by simp [bc, hj]
    rw [← ht, List.getElem?_take] at h1
    split at h1
    · simpa using h1
    · cases h1

theorem Rw.shape {n : Nat} {w : World} {v : Value} {len : Nat} (h : Rw n w v len) : ∃ ao cap, v = .slice ao len cap := by
  obtain ⟨ao, cap, e, _⟩ := h
  exact ⟨ao, cap, e⟩

/-- One byte turned. -/
theorem Rw.step {n : Nat} {w : World} {v : Value} {len : Nat} (h : Rw n w v len) {j : Nat} (hj : j < len) :
    ∃ g off cap, v = .slice (some ⟨g, off, none⟩) len cap ∧ n ≤ g ∧ (∃ c : Int, w.cell? ⟨g, off + j, none⟩ = some (.int .u8 c)) ∧ w.frozen? ⟨g, off + j, none⟩ = false ∧ ∀ c : Int, Rw n (w.setCell ⟨g, off + j, none⟩ (.int .u8 c)) v len ∧ Below n w (w.setCell ⟨g, off + j, none⟩ (.int .u8 c)) := by
  obtain ⟨ao, cap, rfl, h2⟩ := h
  obtain ⟨g, off, rfl, hg, cur, hb, hc⟩ := h2 (by omega)
  obtain ⟨c, hcj⟩ := hc j hj
  refine ⟨g, off, cap, rfl, hg, ⟨c, by rw [cells_of_block hb]; exact hcj⟩, frozen_of hb _, fun c' => ⟨⟨_, _, rfl, fun _ => ⟨g, off, rfl, hg, cur.setIfInBounds (off + j) (.int .u8 c'), ?_, fun i hi => ?_⟩⟩, (Below.refl n w).setCell (p := ⟨g, off + j, none⟩) hg _⟩⟩
  · simp [World.setCell, Array.getElem?_modify, hb]
  · by_cases e : off + j = off + i
    · refine ⟨c', ?_⟩
      rw [← e, Array.getElem?_setIfInBounds_self]
      have := (Array.getElem?_eq_some_iff.1 hcj).1
      simp [this]
    · obtain ⟨c2, h3⟩ := hc i hi
      exact ⟨c2, by rw [Array.getElem?_setIfInBounds_ne e]; exact h3⟩
end Go.Proofs.Ytcnljocgpoaepaa
