import Derived.Test.YtglbjimpaoikfaaHd52
import Derived.Test.YtglbjimpaoikfaaHd50
/- A slice of says that came in. -/
namespace Go.Proofs.Ytglbjimpaoikfaa
open Go.ChangeShapes Go.WideShapes Go.RowKit LeaseMath
set_option maxRecDepth 100000
set_option linter.unusedSimpArgs false
set_option linter.unusedVariables false

theorem say_opened {H : Type} {enc : TypeId × Value → H} {W : World} {fuel : Nat} {cs : List Value} {y : DataW H × List MemPlace}
    (h : DataW.trod enc Try.prog W 0 (fun _ => true) true fuel 47 cs = some y) (hl : cs.length = 4) : ∃ r : Sy, cs = sayE.enc r := by
  obtain ⟨xs, n, _, rfl, hl2, hlen, hf⟩ := DataW.trod_struct Try.underlying47 h
  match cs, hl, xs, hlen with
  | [v0, v1, v2, v3], _, [y0, y1, y2, y3], _ =>
    have g0 : DataW.trod enc Try.prog W 0 (fun _ => true) true n 3 ((([v0, v1, v2, v3] : List Value).drop 0).take (Try.prog.cellsOf 3)) = some y0 := by simpa using hf 0 _ rfl
    have g1 : DataW.trod enc Try.prog W 0 (fun _ => true) true n 3 ((([v0, v1, v2, v3] : List Value).drop 1).take (Try.prog.cellsOf 3)) = some y1 := by simpa using hf 1 _ rfl
    have g2 : DataW.trod enc Try.prog W 0 (fun _ => true) true n 27 ((([v0, v1, v2, v3] : List Value).drop 2).take (Try.prog.cellsOf 27)) = some y2 := by simpa using hf 2 _ rfl
    have g3 : DataW.trod enc Try.prog W 0 (fun _ => true) true n 22 ((([v0, v1, v2, v3] : List Value).drop 3).take (Try.prog.cellsOf 22)) = some y3 := by simpa using hf 3 _ rfl
    have g0' : DataW.trod enc Try.prog W 0 (fun _ => true) true n 3 [v0] = some y0 := g0
    obtain ⟨z0, i0, _, j0⟩ := DataW.trod_int Try.underlying3 g0'
    have g1' : DataW.trod enc Try.prog W 0 (fun _ => true) true n 3 [v1] = some y1 := g1
    obtain ⟨z1, i1, _, j1⟩ := DataW.trod_int Try.underlying3 g1'
    have g2' : DataW.trod enc Try.prog W 0 (fun _ => true) true n 27 [v2] = some y2 := g2
    obtain ⟨z2, i2, _, j2⟩ := DataW.trod_int Try.underlying27 g2'
    have g3' : DataW.trod enc Try.prog W 0 (fun _ => true) true n 22 [v3] = some y3 := g3
    obtain ⟨z3, i3, _, j3⟩ := DataW.trod_int Try.underlying22 g3'
    simp only [List.cons.injEq, and_true] at i0 i1 i2 i3
    obtain ⟨n3, rfl, _⟩ := u64_wf j3
    exact ⟨(z0, z1, z2, n3), by rw [i0, i1, i2, i3]; rfl⟩
theorem bytes_say : Try.prog.bytesOf 47 = 32 := by kernel_rfl
theorem says_arg {H : Type} {enc : TypeId × Value → H} {W : World} {base : Nat} {v : Value} {d : DataW H} {ps : List MemPlace} (hval : Value.okWide Try.prog W .any base 54 v)
    (h : DataW.Trod enc Try.prog W 0 (fun _ => true) true 54 v d ps) : ∃ l : List Sy, Rd sayE W v l ∧ (l = [] ∨ ∃ el sp, d = .slice el sp ∧ el.length = l.length) :=
  slice_arg sayE (0, 0, 0, 0) Try.underlying54 cells_say (fun _ _ _ h hl => say_opened h hl) hval h
end Go.Proofs.Ytglbjimpaoikfaa

