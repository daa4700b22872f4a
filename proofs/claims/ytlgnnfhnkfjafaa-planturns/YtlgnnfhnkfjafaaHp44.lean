import Derived.Test.YtlgnnfhnkfjafaaHp13
import Derived.Deep.SlicePairs
import Derived.ProofKit
import Derived.Lib.SmallJoins
import Derived.SizedLaws
/- How what came in is read: keys, spans, slices of spans. -/
namespace Go.Proofs.Ytlgnnfhnkfjafaa
open Go.ChangeShapes Go.WideShapes Go.RowKit SpanMath
set_option maxRecDepth 100000
set_option linter.unusedSimpArgs false
set_option linter.unusedVariables false

theorem cells_span : Try.prog.cellsOf 43 = 2 := by kernel_rfl
theorem laidOut : laidOutB Try.prog = true := by kernel_rfl
theorem own : ownKnob Try.prog.godebug = none := by kernel_rfl
/-- A span's cells, opened. -/
theorem span_opened {H : Type} {enc : TypeId × Value → H} {W : World} {fuel : Nat} {cs : List Value} {y : DataW H × List MemPlace}
    (h : DataW.trod enc Try.prog W 0 (fun _ => true) true fuel 43 cs = some y) : ∃ s : Sp, cs = [.string (bk s.1), .string (bk s.2)] := by
  obtain ⟨y0, y1, n, _, hl, g0, g1⟩ := trod_struct2 Try.underlying43 h
  rw [cells_span] at hl
  match cs, hl with
  | [v0, v1], _ =>
    have g0' : DataW.trod enc Try.prog W 0 (fun _ => true) true n 9 [v0] = some y0 := g0
    have g1' : DataW.trod enc Try.prog W 0 (fun _ => true) true n 9 [v1] = some y1 := g1
    obtain ⟨s0, i0, _, _⟩ := DataW.trod_string Try.underlying9 g0'
    obtain ⟨s1, i1, _, _⟩ := DataW.trod_string Try.underlying9 g1'
    simp only [List.cons.injEq, and_true] at i0 i1
    obtain ⟨k0, rfl⟩ := bk_of s0
    obtain ⟨k1, rfl⟩ := bk_of s1
    exact ⟨(k0, k1), by rw [i0, i1]⟩
end Go.Proofs.Ytlgnnfhnkfjafaa

