import Derived.Test.YtebkfkijlopmoaaHo24
/- Calls that came in, with their ranges. -/
namespace Go.Proofs.Ytebkfkijlopmoaa
open Go.ChangeShapes Go.WideShapes Go.RowKit SessionMath
set_option maxRecDepth 100000
set_option linter.unusedSimpArgs false
set_option linter.unusedVariables false

/-- A call whose numbers an int and a uint64 bear. -/
def CqOk (z : Cq) : Prop := z.2 < 18446744073709551616 ∧ -9223372036854775808 ≤ z.1 ∧ z.1 ≤ 9223372036854775807
theorem id_openedR {H : Type} {enc : TypeId × Value → H} {W : World} {fuel : Nat} {cs : List Value} {y : DataW H × List MemPlace} (hlen : cs.length = 2)
    (h : DataW.trod enc Try.prog W 0 (fun _ => true) true fuel 25 cs = some y) : ∃ z : Cq, cs = idE.enc z ∧ CqOk z := by
  obtain ⟨y0, y1, k, g0, g1⟩ := id_struct h
  match cs, hlen with
  | [v0, v1], _ =>
    have g0' : DataW.trod enc Try.prog W 0 (fun _ => true) true k 3 [v0] = some y0 := g0
    have g1' : DataW.trod enc Try.prog W 0 (fun _ => true) true k 23 [v1] = some y1 := g1
    obtain ⟨z0, i0, _, j0⟩ := DataW.trod_int Try.underlying3 g0'
    obtain ⟨z1, i1, _, j1⟩ := DataW.trod_int Try.underlying23 g1'
    simp only [List.cons.injEq, and_true] at i0 i1
    subst i0 i1
    obtain ⟨n1, rfl, l1⟩ := u64_wf j1
    have h0 : IntKind.i64.min ≤ z0 ∧ z0 ≤ IntKind.i64.max := by simpa [Lit.wf] using j0
    exact ⟨(z0, n1), rfl, l1, h0.1, h0.2⟩
theorem ids_argR {H : Type} {enc : TypeId × Value → H} {W : World} {base : Nat} {v : Value} {d : DataW H} {ps : List MemPlace}
    (ho : Value.okWide Try.prog W .any base 44 v) (h : DataW.Trod enc Try.prog W 0 (fun _ => true) true 44 v d ps) :
    ∃ zs : List Cq, Rd idE W v zs ∧ ∀ z ∈ zs, CqOk z := by
  obtain ⟨a0, len0, cap0, rfl⟩ := okWide_slice Try.underlying44 ho
  obtain ⟨fuel, hf⟩ := h
  exact slice_opened idE CqOk (0, 0) Try.underlying44 cells_id (fun fuel cs y hl h => id_openedR hl h) (x := (d, ps)) hf
end Go.Proofs.Ytebkfkijlopmoaa

