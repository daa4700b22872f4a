import Derived.Test.YtebkfkijlopmoaaHs18
import Derived.Deep.RegionLaw
/- The contract of the law's own written, of bytes and of all items. -/
namespace Go.Proofs.Ytebkfkijlopmoaa.Wi
open Go.RowKit WireMath
set_option maxRecDepth 100000
set_option linter.unusedSimpArgs false

/-- append of a whole slice behind one's own, as one step of a region that draws its order. -/
theorem step_append_bs {ops : Array Oper} {o : Oper} {a : Act} {w : World} {K : Act → World → Prop} {Q : Exit → Act → World → Prop} {E : Prop}
    (hg : o.guard = none) (s x : Operand) (ho : o.op = .call { callee := .builtin .append, args := #[s, x], argTypes := #[26, 26] })
    (n₀ : Nat) (v : Value) (l : List Nat) (hs : a.eval s = v) (hown : Own n₀ w v l) (hn₀ : n₀ ≤ w.heap.size)
    (n₁ : Nat) (xv : Value) (r : List Nat) (hx : a.eval x = xv) (hB : Bs n₁ w xv r) (hlen : l.length + r.length ≤ 140737488355328)
    (hK : ∀ v' w', Own n₀ w' v' (l ++ r) → Below n₀ w w' → K (a.put o.dst v') w') :
    if Region.wanted o (yielded ops a.tmps) = true then Oper.wp Try.prog o a w K Q else E := by
  have hw : Region.wanted o (yielded ops a.tmps) = true := by simp [Region.wanted, hg]
  rw [if_pos hw]
  obtain ⟨v', w', hrun, r1, r2, _, _⟩ := run_append_bs w o.type n₀ v l hown hn₀ n₁ xv r hB hlen
  unfold Oper.wp
  simp [execOp, ho, resolve, invoke, builtin, hs, hx, hrun, Result.andThen]
  exact hK v' w' r1 r2

end Go.Proofs.Ytebkfkijlopmoaa.Wi

