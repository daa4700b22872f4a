import Derived.Test.YtlgnnfhnkfjafaaHp15
/- The contract of Add. -/
namespace Go.Proofs.Ytlgnnfhnkfjafaa
open Go.RowKit SpanMath
set_option maxRecDepth 100000
set_option linter.unusedSimpArgs false
set_option linter.unusedVariables false

/-- What stands between two rounds: s in its box, what is below it, what is above it. -/
structure DSt (n : Nat) (w W : World) (lo hi : Value) (s : Sp) (L H : List Sp) : Prop where
  base : Below n w W
  room : n + 1 ≤ W.heap.size
  box : W.heap[n]? = some (.cells #[.string (bk s.1), .string (bk s.2)] 43 (0, 0))
  rlo : Rk spE W 43 lo L
  rhi : Rk spE W 43 hi H
  offL : ∀ k, lo.ownBlock = some k → n + 1 ≤ k ∧ hi.ownBlock ≠ some k
  offH : ∀ k, hi.ownBlock = some k → n + 1 ≤ k
theorem DSt.below {n : Nat} {w W W' : World} {lo hi : Value} {s : Sp} {L H : List Sp} (h : DSt n w W lo hi s L H) (hb : Below W.heap.size W W') : DSt n w W' lo hi s L H :=
  ⟨h.base.trans (hb.mono (by have := h.room; omega)), Nat.le_trans h.room hb.size, (hb.block n (by have := h.room; omega)).trans h.box, h.rlo.same fun k hk => hb.block k (h.rlo.lt hk), h.rhi.same fun k hk => hb.block k (h.rhi.lt hk), h.offL, h.offH⟩
theorem DSt.drew {n : Nat} {w W : World} {lo hi : Value} {s : Sp} {L H : List Sp} (h : DSt n w W lo hi s L H) : DSt n w W.drew lo hi s L H := h.below (Below.refl _ _).drew

end Go.Proofs.Ytlgnnfhnkfjafaa

