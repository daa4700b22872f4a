import Derived.Test.YtglbjimpaoikfaaHe09
import Derived.Lib.Bytealg
/- Keys as values; holds and marks as they are read. -/
namespace Go.Proofs.Ytglbjimpaoikfaa
open Go.RowKit LeaseMath
set_option maxRecDepth 100000
set_option linter.unusedSimpArgs false
set_option linter.unusedVariables false

@[go_sem high] theorem geq_bk (t : TypeId) (a b : K) : binOp .geq t (.string (bk a)) (.string (bk b)) = pure (.bool (decide (b ≤ a))) := by
  rw [binOp_string_geq, bk_toList, bk_toList, bytesLess_eq]
  congr 2
  by_cases h : a < b
  · rw [decide_eq_true h, decide_eq_false (by grind)]; rfl
  · rw [decide_eq_false h, decide_eq_true (by grind)]; rfl
/-- A hold's value; a mark's. -/
@[reducible] def hv (h : Hd) : Value := .agg #[.string (bk h.1), .int .u64 (h.2.1 : Int), .int .i64 h.2.2]
@[reducible] def mv (m : Mk) : Value := .agg #[.string (bk m.1), .int .u64 (m.2 : Int)]
def holdE : El Hd := ⟨fun h => [.string (bk h.1), .int .u64 (h.2.1 : Int), .int .i64 h.2.2], 3, fun _ => rfl, fun x u hu => by
  simp only [List.mem_cons, List.not_mem_nil, or_false] at hu
  rcases hu with rfl | rfl | rfl <;> rfl, by decide⟩
def markE : El Mk := ⟨fun h => [.string (bk h.1), .int .u64 (h.2 : Int)], 2, fun _ => rfl, fun x u hu => by
  simp only [List.mem_cons, List.not_mem_nil, or_false] at hu
  rcases hu with rfl | rfl <;> rfl, by decide⟩
theorem Rd.nil {α : Type} (E : El α) (w : World) : Rd E w (.slice none 0 0) [] := ⟨none, 0, rfl, Nat.le_refl _, fun _ => rfl, fun i x j u hx => by simp at hx⟩
end Go.Proofs.Ytglbjimpaoikfaa

