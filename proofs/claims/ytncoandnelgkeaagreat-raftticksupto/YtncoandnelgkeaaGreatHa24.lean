import Derived.Test.YtncoandnelgkeaaGreatHa12
/- The contract of the document's Append. -/
namespace Go.Proofs.YtncoandnelgkeaaGreat
open Go.RowKit QuorumMath RlogMath
set_option maxRecDepth 100000
set_option linter.unusedSimpArgs false
set_option linter.unusedVariables false

theorem Ow.ow1 {α : Type} {E : El α} {t : TypeId} {n : Nat} {w : World} {v : Value} {l : List α} (h : Ow E t n w v l) : Rk E w t v l := h.1
theorem app_ents {w : World} {v x : Value} {xs ys : List Ez} (h : Rk entE w 25 v xs) (hx : Rd entE w x ys) (hlen : xs.length ≤ 10000000000) (hly : ys.length ≤ 10000000000) :
    ∀ ty, ∃ v' w', (Builtin.append_ #[26, 26] ty #[v, x]).run Tryz.prog w = .ok v' w' ∧ PushT entE 25 w v (xs ++ ys) v' w' := by
  obtain ⟨i0, i1, i2, i3, i4⟩ := info_get infoEnt
  exact append_rd entE w _ _ i0 _ _ Tryz.underlying26 i1 i2 i3 i4 rfl (by decide) v x xs ys h hx hlen hly

end Go.Proofs.YtncoandnelgkeaaGreat

