import Derived.Test.YtfpbgfmnjpamlaaGreatHt18
/- The contract of Add. -/
namespace Go.Proofs.YtfpbgfmnjpamlaaGreat
open Go.RowKit SpanMath
set_option maxRecDepth 100000
set_option linter.unusedSimpArgs false
set_option linter.unusedVariables false

/-- What stands between two rounds: s in its box, what is below it, what is above it. -/
structure DSt (n : Nat) (w W : World) (lo hi : Value) (s : Sp) (L H : List Sp) : Prop where
  base : Below n w W
  room : n + 1 ≤ W.heap.size
  box : W.heap[n]? = some (.cells #[.string (bk s.1), .string (bk s.2)] 47 (0, 0))
  rlo : Rk spE W 47 lo L
  rhi : Rk spE W 47 hi H
  offL : ∀ k, lo.ownBlock = some k → n + 1 ≤ k ∧ hi.ownBlock ≠ some k
  offH : ∀ k, hi.ownBlock = some k → n + 1 ≤ k
theorem DSt.below {n : Nat} {w W W' : World} {lo hi : Value} {s : Sp} {L H : List Sp} (h : DSt n w W lo hi s L H) (hb : Below W.heap.size W W') : DSt n w W' lo hi s L H :=
  ⟨h.base.trans (hb.mono (by have := h.room; omega)), Nat.le_trans h.room hb.size, (hb.block n (by have := h.room; omega)).trans h.box, h.rlo.same fun k hk => hb.block k (h.rlo.lt hk), h.rhi.same fun k hk => hb.block k (h.rhi.lt hk), h.offL, h.offH⟩
theorem DSt.drew {n : Nat} {w W : World} {lo hi : Value} {s : Sp} {L H : List Sp} (h : DSt n w W lo hi s L H) : DSt n w W.drew lo hi s L H := h.below (Below.refl _ _).drew

end Go.Proofs.YtfpbgfmnjpamlaaGreat

/- The law's own awake and light. -/
namespace Go.Proofs.YtfpbgfmnjpamlaaGreat
open Go.RowKit SpanMath
set_option maxRecDepth 100000
set_option linter.unusedSimpArgs false
set_option linter.unusedVariables false

end Go.Proofs.YtfpbgfmnjpamlaaGreat

/- The document's own insert and places: keys in a rising list. -/
namespace Go.Proofs.YtfpbgfmnjpamlaaGreat
open Go.RowKit SpanMath
set_option maxRecDepth 100000
set_option linter.unusedSimpArgs false
set_option linter.unusedVariables false

/-- Keys as elements. -/
def strE : El K := ⟨fun k => [.string (bk k)], 1, fun _ => rfl, fun x u hu => by
  simp only [List.mem_singleton] at hu
  subst hu
  rfl, by decide⟩
theorem Rd.left {w : World} {b off n cap : Nat} {xs : List K} (h : Rd strE w (.slice (some ⟨b, off, none⟩) n cap) xs) {k : Nat} (hk : k ≤ xs.length) : Rd strE w (.slice (if cap = k then some ⟨b, off, none⟩ else some ⟨b, off + k, none⟩) (n - k) (cap - k)) (xs.drop k) := by
  obtain ⟨ao', cap', e, h0, h1, h2⟩ := h
  cases e
  have hl : (xs.drop k).length = xs.length - k := by rw [List.length_drop]
  refine ⟨_, _, by rw [hl], by rw [hl]; omega, (by split <;> simp), fun i x j u hx hu => ?_⟩
  rw [List.getElem?_drop] at hx
  obtain ⟨b', off', r1, r2⟩ := h2 (k + i) x j u hx hu
  cases r1
  have hi := (List.getElem?_eq_some_iff.1 hx).1
  refine ⟨b, off + k, by rw [if_neg (by omega)], ?_⟩
  have hk1 : strE.k = 1 := rfl
  rw [hk1] at r2 ⊢
  rw [show off + k + (i * 1 + j) = off + ((k + i) * 1 + j) by omega]
  exact r2
end Go.Proofs.YtfpbgfmnjpamlaaGreat

