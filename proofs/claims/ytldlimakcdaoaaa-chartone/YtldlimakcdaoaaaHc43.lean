import Derived.Test.YtldlimakcdaoaaaHc32
/- Turns that came in. -/
namespace Go.Proofs.Ytldlimakcdaoaaa
open Go.ChangeShapes Go.WideShapes Go.RowKit SpanMath ChartMath
set_option maxRecDepth 100000
set_option linter.unusedSimpArgs false
set_option linter.unusedVariables false

/-- A turn: what, which key, which group. -/
abbrev Tn := Int × K × Int
def tnE : El Tn := ⟨fun t => [.int .i64 t.1, .string (bk t.2.1), .int .i64 t.2.2], 3, fun _ => rfl, fun x u hu => by
  simp only [List.mem_cons, List.not_mem_nil, or_false] at hu
  rcases hu with rfl | rfl | rfl <;> rfl, by decide⟩
theorem cells_turn : Try.prog.cellsOf 54 = 3 := by kernel_rfl
theorem bytes_turn : Try.prog.bytesOf 54 = 32 := by kernel_rfl
theorem turn_opened {H : Type} {enc : TypeId × Value → H} {W : World} {fuel : Nat} {cs : List Value} {y : DataW H × List MemPlace}
    (h : DataW.trod enc Try.prog W 0 (fun _ => true) true fuel 54 cs = some y) (hl : cs.length = 3) : ∃ t : Tn, cs = tnE.enc t := by
  obtain ⟨y0, y1, y2, n, _, _, g0, g1, g2⟩ := Deep.trod_struct3 Try.underlying54 h
  match cs, hl with
  | [v0, v1, v2], _ =>
    have g0' : DataW.trod enc Try.prog W 0 (fun _ => true) true n 3 [v0] = some y0 := g0
    have g1' : DataW.trod enc Try.prog W 0 (fun _ => true) true n 9 [v1] = some y1 := g1
    have g2' : DataW.trod enc Try.prog W 0 (fun _ => true) true n 3 [v2] = some y2 := g2
    obtain ⟨z0, i0, _, _⟩ := DataW.trod_int Try.underlying3 g0'
    obtain ⟨s1, i1, _, _⟩ := DataW.trod_string Try.underlying9 g1'
    obtain ⟨z2, i2, _, _⟩ := DataW.trod_int Try.underlying3 g2'
    simp only [List.cons.injEq, and_true] at i0 i1 i2
    obtain ⟨k1, rfl⟩ := bk_of s1
    exact ⟨(z0, k1, z2), by rw [i0, i1, i2]; rfl⟩
theorem turns_arg {H : Type} {enc : TypeId × Value → H} {W : World} {base : Nat} {v : Value} {d : DataW H} {ps : List MemPlace} (hval : Value.okWide Try.prog W .any base 52 v)
    (h : DataW.Trod enc Try.prog W 0 (fun _ => true) true 52 v d ps) : ∃ l : List Tn, Rd tnE W v l ∧ (l = [] ∨ ∃ el sp, d = .slice el sp ∧ el.length = l.length) :=
  slice_arg tnE (0, [], 0) Try.underlying52 cells_turn (fun _ _ _ h hl => turn_opened h hl) hval h
end Go.Proofs.Ytldlimakcdaoaaa

