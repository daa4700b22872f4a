import Derived.Test.YtfpbgfmnjpamlaaGreatHt21
/- Which of two keys is ahead. -/
namespace Go.Proofs.YtfpbgfmnjpamlaaGreat
open Go.RowKit LeaseMath
set_option maxRecDepth 100000
set_option linter.unusedSimpArgs false
set_option linter.unusedVariables false

theorem cmp_lt {a b : K} (h : a < b) : cmpM a b = -1 := if_pos h
theorem cmp_ge {a b : K} (h : ¬ a < b) : ¬ cmpM a b < 0 := by
  unfold cmpM
  rw [if_neg h]
  split <;> omega
theorem cmp_eq (a : K) : cmpM a a = 0 := by
  have h : ¬ a < a := by grind
  unfold cmpM
  rw [if_neg h, if_neg h]
theorem cmp_ne {a b : K} (h : ¬ a = b) : ¬ cmpM a b = 0 := by
  unfold cmpM
  split
  · omega
  · split
    · omega
    · exact absurd (by grind) h
end Go.Proofs.YtfpbgfmnjpamlaaGreat

