import Derived.Test.YtlgnnfhnkfjafaaHp13
/- The contract of Less. -/
namespace Go.Proofs.Ytlgnnfhnkfjafaa
open Go.RowKit SpanMath
set_option maxRecDepth 100000
set_option linter.unusedSimpArgs false
set_option linter.unusedVariables false

/-- What stands between two rounds of the inner loop. -/
structure LSt (n p : Nat) (w0 W : World) (st sd : Value) (x : Sp) (acc os : List Sp) : Prop where
  base : Below (n + 1) w0 W
  box : W.heap[p]? = some (.cells #[.string (bk x.1), .string (bk x.2)] 43 (0, 0))
  sides : Rk spE W 43 sd os
  stay : Rk spE W 43 st acc
  off : ∀ k, st.ownBlock = some k → n + 1 ≤ k ∧ k ≠ p ∧ sd.ownBlock ≠ some k
theorem LSt.below {n p : Nat} {w0 W W' : World} {st sd : Value} {x : Sp} {acc os : List Sp} (h : LSt n p w0 W st sd x acc os) (hN : n + 1 ≤ W.heap.size) (hb : Below W.heap.size W W') : LSt n p w0 W' st sd x acc os :=
  ⟨h.base.trans (hb.mono hN), (hb.block p (Array.getElem?_eq_some_iff.1 h.box).1).trans h.box, h.sides.same fun k hk => hb.block k (h.sides.lt hk), h.stay.same fun k hk => hb.block k (h.stay.lt hk), h.off⟩
theorem LSt.push {n p : Nat} {w0 W W' : World} {st st' sd : Value} {x : Sp} {acc acc' os : List Sp} (h : LSt n p w0 W st sd x acc os) (hN : n + 1 ≤ W.heap.size) (hp : PushT spE 43 W st acc' st' W') : LSt n p w0 W' st' sd x acc' os := by
  obtain ⟨h1, h2, h3⟩ := hp
  have hpl := (Array.getElem?_eq_some_iff.1 h.box).1
  refine ⟨h.base.trans (grown_below h2 hN fun k hk => (h.off k hk).1), (h2.block p hpl fun e => (h.off p e.symm).2.1 rfl).trans h.box, h.sides.same fun k hk => h2.block k (h.sides.lt hk) fun e => (h.off k e.symm).2.2 hk, h1, fun k hk => ?_⟩
  rcases h3 k hk with h' | h'
  · exact h.off k h'
  · refine ⟨by omega, by omega, fun e => ?_⟩
    have := h.sides.lt e
    omega

theorem take_succ_get {α : Type} {l : List α} {i : Nat} {x : α} (h : l[i]? = some x) : l.take (i + 1) = l.take i ++ [x] := by
  obtain ⟨h1, rfl⟩ := List.getElem?_eq_some_iff.1 h
  rw [List.take_succ_eq_append_getElem h1]
end Go.Proofs.Ytlgnnfhnkfjafaa

