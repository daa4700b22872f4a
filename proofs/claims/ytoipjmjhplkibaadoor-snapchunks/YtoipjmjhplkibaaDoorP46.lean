import Derived.Test.YtoipjmjhplkibaaDoorP45
import Derived.Test.YtoipjmjhplkibaaDoorP08
/- The contracts of the document's ReadUvarint, ReadVarint and ReadFixed: they tell, and leave, what the program's readers do. -/
namespace Go.Proofs.YtoipjmjhplkibaaDoor.Fr
open Go.RowKit WireMath
set_option maxRecDepth 100000
set_option linter.unusedSimpArgs false

theorem src_drop {l : List Nat} {a i : Nat} : (src l a 0).drop i = src l (a + i) 0 := by
  simp [src, List.drop_drop]

theorem uv_none {l : List Nat} {a b : Nat} (h : rd 10 0 0 (src l a b) = none) : uvN l a b = 0 ∧ uvA l a b = a ∧ uvE l a b = wb b 5 := by
  refine ⟨by simp [uvN, h], by simp [uvA, h], by simp [uvE, h]⟩
theorem uv_some {l : List Nat} {a b n k : Nat} (h : rd 10 0 0 (src l a b) = some (n, k)) : uvN l a b = n ∧ uvA l a b = a + k ∧ uvE l a b = b := by
  refine ⟨by simp [uvN, h], by simp [uvA, h], by simp [uvE, h]⟩

/-- Where nothing is read behind what was wrong. -/
theorem rd_bad {l : List Nat} {a b : Nat} (hb : b ≠ 0) : rd 10 0 0 (src l a b) = none := by
  have : src l a b = [] := by unfold src; rw [if_neg hb]
  rw [this]; rfl

end Go.Proofs.YtoipjmjhplkibaaDoor.Fr

