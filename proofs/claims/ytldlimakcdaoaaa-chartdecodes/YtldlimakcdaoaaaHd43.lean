import Derived.Test.YtldlimakcdaoaaaHd27
import Derived.Deep.SlicePairs
import Derived.ProofKit
import Derived.Lib.SmallJoins
import Derived.SizedLaws
/- How what came in is read: keys, spans, slices of spans. -/
namespace Go.Proofs.Ytldlimakcdaoaaa
open Go.ChangeShapes Go.WideShapes Go.RowKit SpanMath
set_option maxRecDepth 100000
set_option linter.unusedSimpArgs false
set_option linter.unusedVariables false

theorem cells_span : Try.prog.cellsOf 40 = 2 := by kernel_rfl
theorem laidOut : laidOutB Try.prog = true := by kernel_rfl
theorem own : ownKnob Try.prog.godebug = none := by kernel_rfl
/-- A span's cells, opened. -/
theorem span_opened {H : Type} {enc : TypeId × Value → H} {W : World} {fuel : Nat} {cs : List Value} {y : DataW H × List MemPlace}
    (h : DataW.trod enc Try.prog W 0 (fun _ => true) true fuel 40 cs = some y) : ∃ s : Sp, cs = [.string (bk s.1), .string (bk s.2)] := by
  obtain ⟨y0, y1, n, _, hl, g0, g1⟩ := trod_struct2 Try.underlying40 h
  rw [cells_span] at hl
  match cs, hl with
  | [v0, v1], _ =>
    have g0' : DataW.trod enc Try.prog W 0 (fun _ => true) true n 9 [v0] = some y0 := g0
    have g1' : DataW.trod enc Try.prog W 0 (fun _ => true) true n 9 [v1] = some y1 := g1
    obtain ⟨s0, i0, _, _⟩ := DataW.trod_string Try.underlying9 g0'
    obtain ⟨s1, i1, _, _⟩ := DataW.trod_string Try.underlying9 g1'
    simp only [List.cons.injEq, and_true] at i0 i1
    obtain ⟨k0, rfl⟩ := bk_of s0
    obtain ⟨k1, rfl⟩ := bk_of s1
    exact ⟨(k0, k1), by rw [i0, i1]⟩
/-- A span that came in. -/
theorem span_arg {H : Type} {enc : TypeId × Value → H} {W : World} {base : Nat} {v : Value} {d : DataW H} {ps : List MemPlace} (hval : Value.okWide Try.prog W .any base 40 v)
    (h : DataW.Trod enc Try.prog W 0 (fun _ => true) true 40 v d ps) : ∃ s : Sp, v = sv s := by
  obtain ⟨cs, rfl, _⟩ := okWide_struct Try.underlying40 hval
  obtain ⟨fuel, hf⟩ := h
  obtain ⟨s, hs⟩ := span_opened hf
  refine ⟨s, ?_⟩
  have : cs.toList = [.string (bk s.1), .string (bk s.2)] := hs
  show Value.agg cs = .agg #[.string (bk s.1), .string (bk s.2)]
  congr 1
  rw [← Array.toList_inj]
  simpa using this
/-- A key that came in. -/
theorem key_arg {H : Type} {enc : TypeId × Value → H} {W : World} {base : Nat} {v : Value} (hval : Value.okWide Try.prog W .any base 9 v) : ∃ k : K, v = .string (bk k) := by
  obtain ⟨s, rfl⟩ := okWide_string Try.underlying9 hval
  obtain ⟨k, rfl⟩ := bk_of s
  exact ⟨k, rfl⟩
/-- A slice of spans that came in. -/
theorem spans_arg {H : Type} {enc : TypeId × Value → H} {W : World} {base : Nat} {v : Value} {d : DataW H} {ps : List MemPlace} (hval : Value.okWide Try.prog W .any base 48 v)
    (h : DataW.Trod enc Try.prog W 0 (fun _ => true) true 48 v d ps) : ∃ l : List Sp, Rd spE W v l := by
  obtain ⟨a0, len0, cap0, e0⟩ := okWide_slice Try.underlying48 hval
  obtain ⟨fuel, hf⟩ := h
  rw [show v.cells.toList = [v] by rw [e0]; rfl] at hf
  rcases Deep.open_slice Try.underlying48 hf with ⟨hcs, hx⟩ | ⟨a, len, cap, m, n, D, Pl, hcs, _, hl, hm, hmm, hx, hc⟩
  · obtain rfl : v = .slice none 0 0 := by simpa using hcs
    exact ⟨[], none, 0, rfl, by simp, fun _ => rfl, fun i x j u hx => by simp at hx⟩
  · obtain rfl : v = .slice (some a) len cap := by simpa using hcs
    have hmc : m = cap := by rw [hmm]; rfl
    subst hmc
    have each : ∀ i, i < len → ∃ s : Sp, ∀ j u, ([.string (bk s.1), .string (bk s.2)] : List Value)[j]? = some u → W.cell? (a.add (i * 2 + j)) = some u := by
      intro i hi
      obtain ⟨cs', h1, h2⟩ := hc i (by omega)
      rw [cells_span] at h1
      obtain ⟨_, hlen, hcell⟩ := World.cells?_some h1
      obtain ⟨s, hs⟩ := span_opened h2
      refine ⟨s, fun j u hu => ?_⟩
      have hj := (List.getElem?_eq_some_iff.1 hu).1
      have e := hcell j (by simpa using hj)
      rw [Deep.add_add, hs, hu] at e
      exact e
    haveI : Inhabited Sp := ⟨([], [])⟩
    obtain ⟨Q, hQ⟩ := Deep.choose_lt (α := Sp) each
    have hzl : ((List.range len).map Q).length = len := by simp
    refine ⟨(List.range len).map Q, some a, m, by rw [hzl], by rw [hzl]; exact hl, (fun h => by cases h), fun i x j u hx hu => ?_⟩
    have hi : i < len := by
      have := (List.getElem?_eq_some_iff.1 hx).1
      simpa using this
    have e : Q i = x := by simpa [hi] using hx
    have g := hQ i hi j u (by rw [e]; exact hu)
    obtain ⟨b, off, spot⟩ := a
    have hspot : spot = none := by
      have g0 := hQ 0 (by omega) 0 _ rfl
      simpa [Addr.add] using World.cell?_spot g0
    subst hspot
    rw [Addr.add_lit] at g
    exact ⟨b, off, rfl, g⟩
end Go.Proofs.Ytldlimakcdaoaaa

