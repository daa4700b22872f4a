import Derived.Test.YtebkfkijlopmoaaHo20
/- The contract of the document's ReadBytes. -/
namespace Go.Proofs.Ytebkfkijlopmoaa.Wi
open Go.RowKit WireMath
set_option maxRecDepth 100000
set_option linter.unusedSimpArgs false

theorem Own.kept {n₀ q : Nat} {w w' : World} {v : Value} {l : List Nat} (h : Own n₀ w v l) (hk : Kp q w w') (hne : ∀ k, v.ownBlock = some k → k ≠ q) : Own n₀ w' v l := by
  obtain ⟨h0, h1 | ⟨g, cap, cur, e1, hg, hbk, r⟩⟩ := h
  · exact ⟨h0, .inl h1⟩
  · subst e1
    exact ⟨h0, .inr ⟨g, cap, cur, rfl, hg, (hk.block g (Array.getElem?_eq_some_iff.1 hbk).1 (fun e => hne g rfl (Option.some.inj e))).trans hbk, r⟩⟩
end Go.Proofs.Ytebkfkijlopmoaa.Wi

