import Derived.Test.YtebkfkijlopmoaaHo13
import Derived.Test.YtebkfkijlopmoaaHo14
import Derived.Test.YtebkfkijlopmoaaHo19
import Derived.Deep.RegionHeld3
/- The contracts of Number and Bytes, whole, of the program's reader and of the document's: they tell, and leave, the same. -/
namespace Go.Proofs.Ytebkfkijlopmoaa.Wi
open Go.RowKit WireMath
set_option maxRecDepth 100000
set_option linter.unusedSimpArgs false

theorem Rr.cells {n₀ r : Nat} {l : List Nat} {a b : Nat} {w : World} (h : Rr n₀ w r l a b) : w.cell? ⟨r, 1, none⟩ = some (.int .i64 (a : Int)) ∧ w.cell? ⟨r, 2, none⟩ = some (.int .i64 (b : Int)) ∧ w.frozen? ⟨r, 1, none⟩ = false ∧ a ≤ l.length := by
  obtain ⟨sv, h1, h2, h3, h4⟩ := h
  exact ⟨by rw [cells_of_block h1]; rfl, by rw [cells_of_block h1]; rfl, frozen_of h1 1, h3⟩

end Go.Proofs.Ytebkfkijlopmoaa.Wi

