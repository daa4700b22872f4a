import Derived.Test.YtiblcbcfdmnmhaaHe05
import Derived.Test.YtiblcbcfdmnmhaaRows
import Derived.Deep.SlicePairs
import Derived.ProofKit
import Derived.Lib.SmallJoins
import Derived.SizedLaws
/- What came in: holds, marks, keys, numbers. -/
namespace Go.Proofs.Ytiblcbcfdmnmhaa
open Go.ChangeShapes Go.WideShapes Go.RowKit LeaseMath
set_option maxRecDepth 100000
set_option linter.unusedSimpArgs false
set_option linter.unusedVariables false

theorem laidOut : laidOutB Try.prog = true := by kernel_rfl
theorem own : ownKnob Try.prog.godebug = none := by kernel_rfl
/-- A slice that came in, of any element whose cells can be opened. -/
theorem slice_arg {α : Type} (E : El α) (z : α) {H : Type} {enc : TypeId × Value → H} {W : World} {base : Nat} {v : Value} {d : DataW H} {ps : List MemPlace} {t e : TypeId} (ht : Try.prog.underlying t = some (.slice e)) (hce : Try.prog.cellsOf e = E.k)
    (hop : ∀ fuel cs y, DataW.trod enc Try.prog W 0 (fun _ => true) true fuel e cs = some y → cs.length = E.k → ∃ x : α, cs = E.enc x)
    (hval : Value.okWide Try.prog W .any base t v) (h : DataW.Trod enc Try.prog W 0 (fun _ => true) true t v d ps) : ∃ l : List α, Rd E W v l ∧ (l = [] ∨ ∃ el sp, d = .slice el sp ∧ el.length = l.length) := by
  obtain ⟨a0, len0, cap0, e0⟩ := okWide_slice ht hval
  obtain ⟨fuel, hf⟩ := h
  rw [show v.cells.toList = [v] by rw [e0]; rfl] at hf
  rcases Deep.open_slice ht hf with ⟨hcs, hx⟩ | ⟨a, len, cap, m, n, D, Pl, hcs, _, hl, hm, hmm, hx, hc⟩
  · obtain rfl : v = .slice none 0 0 := by simpa using hcs
    exact ⟨[], ⟨none, 0, rfl, by simp, fun _ => rfl, fun i x j u hx => by simp at hx⟩, .inl rfl⟩
  · obtain rfl : v = .slice (some a) len cap := by simpa using hcs
    have hmc : m = cap := by rw [hmm]; rfl
    subst hmc
    have each : ∀ i, i < len → ∃ s : α, ∀ j u, (E.enc s)[j]? = some u → W.cell? (a.add (i * E.k + j)) = some u := by
      intro i hi
      obtain ⟨cs', h1, h2⟩ := hc i (by omega)
      rw [hce] at h1
      obtain ⟨_, hlen, hcell⟩ := World.cells?_some h1
      obtain ⟨s, hs⟩ := hop _ _ _ h2 hlen
      refine ⟨s, fun j u hu => ?_⟩
      have hj := (List.getElem?_eq_some_iff.1 hu).1
      rw [E.len] at hj
      have e := hcell j hj
      rw [Deep.add_add, hs, hu] at e
      exact e
    haveI : Inhabited α := ⟨z⟩
    obtain ⟨Q, hQ⟩ := Deep.choose_lt (α := α) each
    have hzl : ((List.range len).map Q).length = len := by simp
    refine ⟨(List.range len).map Q, ⟨some a, m, by rw [hzl], by rw [hzl]; exact hl, (fun h => by cases h), fun i x j u hx hu => ?_⟩, .inr ⟨_, _, (Prod.mk.inj hx).1, by simp⟩⟩
    have hi : i < len := by
      have := (List.getElem?_eq_some_iff.1 hx).1
      simpa using this
    have e : Q i = x := by simpa [hi] using hx
    have g := hQ i hi j u (by rw [e]; exact hu)
    obtain ⟨b, off, spot⟩ := a
    have hspot : spot = none := by
      have g0 := hQ 0 (by omega) 0 ((E.enc (Q 0))[0]'(by rw [E.len]; exact E.pos)) (List.getElem?_eq_getElem _)
      rw [Nat.zero_mul] at g0
      simpa [Addr.add] using World.cell?_spot g0
    subst hspot
    rw [Addr.add_lit] at g
    exact ⟨b, off, rfl, g⟩

theorem cells_hold : Try.prog.cellsOf 25 = 3 := by kernel_rfl
theorem cells_mark : Try.prog.cellsOf 61 = 2 := by kernel_rfl
theorem bytes_hold : Try.prog.bytesOf 25 = 32 := by kernel_rfl
theorem bytes_mark : Try.prog.bytesOf 61 = 24 := by kernel_rfl
theorem u64_wf {z : Int} (h : (Lit.int .u64 z).wf = true) : ∃ n : Nat, z = (n : Int) ∧ n < 18446744073709551616 := by
  have g : IntKind.u64.min ≤ z ∧ z ≤ IntKind.u64.max := by simpa [Lit.wf] using h
  have g1 : (0 : Int) ≤ z := g.1
  have g2 : z ≤ 18446744073709551615 := g.2
  exact ⟨z.toNat, by omega, by omega⟩
/-- A hold's cells, opened; a mark's. -/
theorem hold_opened {H : Type} {enc : TypeId × Value → H} {W : World} {fuel : Nat} {cs : List Value} {y : DataW H × List MemPlace}
    (h : DataW.trod enc Try.prog W 0 (fun _ => true) true fuel 25 cs = some y) (hl : cs.length = 3) : ∃ r : Hd, cs = holdE.enc r := by
  obtain ⟨y0, y1, y2, n, _, _, g0, g1, g2⟩ := Deep.trod_struct3 Try.underlying25 h
  match cs, hl with
  | [v0, v1, v2], _ =>
    have g0' : DataW.trod enc Try.prog W 0 (fun _ => true) true n 9 [v0] = some y0 := g0
    have g1' : DataW.trod enc Try.prog W 0 (fun _ => true) true n 23 [v1] = some y1 := g1
    have g2' : DataW.trod enc Try.prog W 0 (fun _ => true) true n 3 [v2] = some y2 := g2
    obtain ⟨s0, i0, _, _⟩ := DataW.trod_string Try.underlying9 g0'
    obtain ⟨z1, i1, _, j1⟩ := DataW.trod_int Try.underlying23 g1'
    obtain ⟨z2, i2, _, _⟩ := DataW.trod_int Try.underlying3 g2'
    simp only [List.cons.injEq, and_true] at i0 i1 i2
    obtain ⟨k0, rfl⟩ := bk_of s0
    obtain ⟨n1, rfl, _⟩ := u64_wf j1
    exact ⟨(k0, n1, z2), by rw [i0, i1, i2]; rfl⟩
theorem mark_opened {H : Type} {enc : TypeId × Value → H} {W : World} {fuel : Nat} {cs : List Value} {y : DataW H × List MemPlace}
    (h : DataW.trod enc Try.prog W 0 (fun _ => true) true fuel 61 cs = some y) (hl : cs.length = 2) : ∃ r : Mk, cs = markE.enc r := by
  obtain ⟨xs, n, _, rfl, hl2, hlen, hf⟩ := DataW.trod_struct Try.underlying61 h
  match cs, hl, xs, hlen with
  | [v0, v1], _, [y0, y1], _ =>
    have g0 : DataW.trod enc Try.prog W 0 (fun _ => true) true n 9 ((([v0, v1] : List Value).drop 0).take (Try.prog.cellsOf 9)) = some y0 := by simpa using hf 0 _ rfl
    have g1 : DataW.trod enc Try.prog W 0 (fun _ => true) true n 23 ((([v0, v1] : List Value).drop 1).take (Try.prog.cellsOf 23)) = some y1 := by simpa using hf 1 _ rfl
    have g0' : DataW.trod enc Try.prog W 0 (fun _ => true) true n 9 [v0] = some y0 := g0
    have g1' : DataW.trod enc Try.prog W 0 (fun _ => true) true n 23 [v1] = some y1 := g1
    obtain ⟨s0, i0, _, _⟩ := DataW.trod_string Try.underlying9 g0'
    obtain ⟨z1, i1, _, j1⟩ := DataW.trod_int Try.underlying23 g1'
    simp only [List.cons.injEq, and_true] at i0 i1
    obtain ⟨k0, rfl⟩ := bk_of s0
    obtain ⟨n1, rfl, _⟩ := u64_wf j1
    exact ⟨(k0, n1), by rw [i0, i1]; rfl⟩
theorem holds_arg {H : Type} {enc : TypeId × Value → H} {W : World} {base : Nat} {v : Value} {d : DataW H} {ps : List MemPlace} (hval : Value.okWide Try.prog W .any base 22 v)
    (h : DataW.Trod enc Try.prog W 0 (fun _ => true) true 22 v d ps) : ∃ l : List Hd, Rd holdE W v l ∧ (l = [] ∨ ∃ el sp, d = .slice el sp ∧ el.length = l.length) :=
  slice_arg holdE ([], 0, 0) Try.underlying22 cells_hold (fun _ _ _ h hl => hold_opened h hl) hval h
theorem marks_arg {H : Type} {enc : TypeId × Value → H} {W : World} {base : Nat} {v : Value} {d : DataW H} {ps : List MemPlace} (hval : Value.okWide Try.prog W .any base 42 v)
    (h : DataW.Trod enc Try.prog W 0 (fun _ => true) true 42 v d ps) : ∃ l : List Mk, Rd markE W v l ∧ (l = [] ∨ ∃ el sp, d = .slice el sp ∧ el.length = l.length) :=
  slice_arg markE ([], 0) Try.underlying42 cells_mark (fun _ _ _ h hl => mark_opened h hl) hval h
/-- A hold that came in. -/
theorem hold_arg {H : Type} {enc : TypeId × Value → H} {W : World} {base : Nat} {v : Value} {d : DataW H} {ps : List MemPlace} (hval : Value.okWide Try.prog W .any base 25 v)
    (h : DataW.Trod enc Try.prog W 0 (fun _ => true) true 25 v d ps) : ∃ s : Hd, v = hv s := by
  simp only [Value.okWide, Try.underlying25] at hval
  obtain ⟨cs, rfl, hsz, _⟩ := hval
  rw [cells_hold] at hsz
  obtain ⟨fuel, hf⟩ := h
  have hf' : DataW.trod enc Try.prog W 0 (fun _ => true) true fuel 25 cs.toList = some (d, ps) := hf
  obtain ⟨s, hs⟩ := hold_opened hf' (by simpa using hsz)
  refine ⟨s, ?_⟩
  show Value.agg cs = .agg _
  congr 1
  rw [← Array.toList_inj]
  exact hs
/-- A key that came in; a number. -/
theorem key_arg {H : Type} {enc : TypeId × Value → H} {W : World} {base : Nat} {v : Value} (hval : Value.okWide Try.prog W .any base 9 v) : ∃ k : K, v = .string (bk k) := by
  obtain ⟨s, rfl⟩ := okWide_string Try.underlying9 hval
  obtain ⟨k, rfl⟩ := bk_of s
  exact ⟨k, rfl⟩
theorem int_arg {W : World} {base : Nat} {v : Value} (hval : Value.okWide Try.prog W .any base 3 v) : ∃ z : Int, v = .int .i64 z := by
  obtain ⟨z, rfl, _⟩ := okWide_int Try.underlying3 hval
  exact ⟨z, rfl⟩
theorem u64_arg {H : Type} {enc : TypeId × Value → H} {W : World} {base : Nat} {v : Value} {d : DataW H} {ps : List MemPlace} (hval : Value.okWide Try.prog W .any base 23 v) (h : DataW.Trod enc Try.prog W 0 (fun _ => true) true 23 v d ps) : ∃ n : Nat, v = .int .u64 (n : Int) ∧ n < 18446744073709551616 := by
  obtain ⟨z, rfl⟩ := okWide_int Try.underlying23 hval
  obtain ⟨fuel, hf⟩ := h
  have hf' : DataW.trod enc Try.prog W 0 (fun _ => true) true fuel 23 [.int .u64 z] = some (d, ps) := hf
  obtain ⟨y, e1, _, e3⟩ := DataW.trod_int Try.underlying23 hf'
  have e : z = y := by simpa using e1
  subst e
  obtain ⟨n, rfl, l⟩ := u64_wf e3
  exact ⟨n, rfl, l⟩
end Go.Proofs.Ytiblcbcfdmnmhaa

