import Derived.Test.YtkglckngiggbhaaHk03
import Derived.Deep.SlicePairs
import Derived.ProofKit
import Derived.Lib.SmallJoins
import Derived.SizedLaws
import Derived.Deep.Strs
/- How what came in is read: slices of numbers and of peers, arrays of two numbers. -/
namespace Go.Proofs.Ytkglckngiggbhaa
open Go.ChangeShapes Go.WideShapes Go.RowKit
set_option maxRecDepth 100000
set_option linter.unusedSimpArgs false
set_option linter.unusedVariables false

theorem laidOut : laidOutB Try.prog = true := by kernel_rfl
theorem own : ownKnob Try.prog.godebug = none := by kernel_rfl
/-- A slice that came in, of any element whose cells can be opened. -/
theorem slice_arg {α : Type} (E : El α) (z : α) {H : Type} {enc : TypeId × Value → H} {W : World} {base : Nat} {v : Value} {d : DataW H} {ps : List MemPlace} {t e : TypeId} (ht : Try.prog.underlying t = some (.slice e)) (hce : Try.prog.cellsOf e = E.k)
    (hop : ∀ fuel cs y, DataW.trod enc Try.prog W 0 (fun _ => true) true fuel e cs = some y → cs.length = E.k → ∃ x : α, cs = E.enc x)
    (hval : Value.okWide Try.prog W .any base t v) (h : DataW.Trod enc Try.prog W 0 (fun _ => true) true t v d ps) : ∃ l : List α, Rd E W v l ∧ (l = [] ∨ ∃ el sp, d = .slice el sp ∧ el.length = l.length) := by
  obtain ⟨a0, len0, cap0, e0⟩ := okWide_slice ht hval
  obtain ⟨fuel, hf⟩ := h
  rw [show v.cells.toList = [v] by rw [e0]; rfl] at hf
  rcases Deep.open_slice ht hf with ⟨hcs, hx⟩ | ⟨a, len, cap, m, n, D, Pl, hcs, _, hl, hm, hmm, hx, hc⟩
  · obtain rfl : v = .slice none 0 0 := by simpa using hcs
    exact ⟨[], ⟨none, 0, rfl, by simp, fun _ => rfl, fun i x j u hx => by simp at hx⟩, .inl rfl⟩
  · obtain rfl : v = .slice (some a) len cap := by simpa using hcs
    have hmc : m = cap := by rw [hmm]; rfl
    subst hmc
    have each : ∀ i, i < len → ∃ s : α, ∀ j u, (E.enc s)[j]? = some u → W.cell? (a.add (i * E.k + j)) = some u := by
      intro i hi
      obtain ⟨cs', h1, h2⟩ := hc i (by omega)
      rw [hce] at h1
      obtain ⟨_, hlen, hcell⟩ := World.cells?_some h1
      obtain ⟨s, hs⟩ := hop _ _ _ h2 hlen
      refine ⟨s, fun j u hu => ?_⟩
      have hj := (List.getElem?_eq_some_iff.1 hu).1
      rw [E.len] at hj
      have e := hcell j hj
      rw [Deep.add_add, hs, hu] at e
      exact e
    haveI : Inhabited α := ⟨z⟩
    obtain ⟨Q, hQ⟩ := Deep.choose_lt (α := α) each
    have hzl : ((List.range len).map Q).length = len := by simp
    refine ⟨(List.range len).map Q, ⟨some a, m, by rw [hzl], by rw [hzl]; exact hl, (fun h => by cases h), fun i x j u hx hu => ?_⟩, .inr ⟨_, _, (Prod.mk.inj hx).1, by simp⟩⟩
    have hi : i < len := by
      have := (List.getElem?_eq_some_iff.1 hx).1
      simpa using this
    have e : Q i = x := by simpa [hi] using hx
    have g := hQ i hi j u (by rw [e]; exact hu)
    obtain ⟨b, off, spot⟩ := a
    have hspot : spot = none := by
      have g0 := hQ 0 (by omega) 0 ((E.enc (Q 0))[0]'(by rw [E.len]; exact E.pos)) (List.getElem?_eq_getElem _)
      rw [Nat.zero_mul] at g0
      simpa [Addr.add] using World.cell?_spot g0
    subst hspot
    rw [Addr.add_lit] at g
    exact ⟨b, off, rfl, g⟩


theorem cells_peer : Try.prog.cellsOf 45 = 3 := by kernel_rfl
theorem cells_int : Try.prog.cellsOf 3 = 1 := by kernel_rfl
theorem cells_u8 : Try.prog.cellsOf 5 = 1 := by kernel_rfl
theorem bytes_peer : Try.prog.bytesOf 45 = 24 := by kernel_rfl
theorem bytes_int : Try.prog.bytesOf 3 = 8 := by kernel_rfl
/-- A peer's cells, opened. -/
theorem peer_opened {H : Type} {enc : TypeId × Value → H} {W : World} {fuel : Nat} {cs : List Value} {y : DataW H × List MemPlace}
    (h : DataW.trod enc Try.prog W 0 (fun _ => true) true fuel 45 cs = some y) (hl : cs.length = 3) : ∃ r : Pr, cs = peerE.enc r := by
  obtain ⟨y0, y1, y2, n, _, _, g0, g1, g2⟩ := Deep.trod_struct3 Try.underlying45 h
  match cs, hl with
  | [v0, v1, v2], _ =>
    have g0' : DataW.trod enc Try.prog W 0 (fun _ => true) true n 3 [v0] = some y0 := g0
    have g1' : DataW.trod enc Try.prog W 0 (fun _ => true) true n 36 [v1] = some y1 := g1
    have g2' : DataW.trod enc Try.prog W 0 (fun _ => true) true n 36 [v2] = some y2 := g2
    obtain ⟨z0, i0, _, _⟩ := DataW.trod_int Try.underlying3 g0'
    obtain ⟨z1, i1, _, _⟩ := DataW.trod_int Try.underlying36 g1'
    obtain ⟨z2, i2, _, e2⟩ := DataW.trod_int Try.underlying36 g2'
    have h3 : IntKind.u64.min ≤ z2 ∧ z2 ≤ IntKind.u64.max := by simpa [Lit.wf] using e2
    have h4 : (0 : Int) ≤ z2 := h3.1
    simp only [List.cons.injEq, and_true] at i0 i1 i2
    refine ⟨(z0, z1, z2.toNat), ?_⟩
    rw [i0, i1, i2]
    show _ = [Value.int .i64 z0, .int .u64 z1, .int .u64 (z2.toNat : Int)]
    rw [Int.toNat_of_nonneg h4]
/-- Slices that came in. -/
theorem peers_arg {H : Type} {enc : TypeId × Value → H} {W : World} {base : Nat} {v : Value} {d : DataW H} {ps : List MemPlace} (hval : Value.okWide Try.prog W .any base 35 v)
    (h : DataW.Trod enc Try.prog W 0 (fun _ => true) true 35 v d ps) : ∃ l : List Pr, Rd peerE W v l ∧ (l = [] ∨ ∃ el sp, d = .slice el sp ∧ el.length = l.length) :=
  slice_arg peerE (0, 0, 0) Try.underlying35 cells_peer (fun _ _ _ h hl => peer_opened h hl) hval h
theorem ints_arg {H : Type} {enc : TypeId × Value → H} {W : World} {base : Nat} {v : Value} {d : DataW H} {ps : List MemPlace} (hval : Value.okWide Try.prog W .any base 22 v)
    (h : DataW.Trod enc Try.prog W 0 (fun _ => true) true 22 v d ps) : ∃ l : List Int, Rd intE W v l ∧ (l = [] ∨ ∃ el sp, d = .slice el sp ∧ el.length = l.length) :=
  slice_arg intE 0 Try.underlying22 cells_int (fun _ _ _ h hl => by
    obtain ⟨z, e, _⟩ := DataW.trod_int Try.underlying3 h
    exact ⟨z, e⟩) hval h
/-- A number that came in. -/
theorem int_arg {H : Type} {enc : TypeId × Value → H} {W : World} {base : Nat} {v : Value} {d : DataW H} {ps : List MemPlace} (hval : Value.okWide Try.prog W .any base 3 v) (h : DataW.Trod enc Try.prog W 0 (fun _ => true) true 3 v d ps) : ∃ z : Int, v = .int .i64 z ∧ -9223372036854775808 ≤ z ∧ z ≤ 9223372036854775807 := by
  obtain ⟨z, rfl⟩ := okWide_int Try.underlying3 hval
  obtain ⟨fuel, hf⟩ := h
  have hf' : DataW.trod enc Try.prog W 0 (fun _ => true) true fuel 3 [.int .i64 z] = some (d, ps) := hf
  obtain ⟨y, e1, _, e3⟩ := DataW.trod_int Try.underlying3 hf'
  have e : z = y := by simpa using e1
  subst e
  have h3 : IntKind.i64.min ≤ z ∧ z ≤ IntKind.i64.max := by simpa [Lit.wf] using e3
  exact ⟨z, rfl, h3⟩
theorem u8_arg {H : Type} {enc : TypeId × Value → H} {W : World} {base : Nat} {v : Value} {d : DataW H} {ps : List MemPlace} (hval : Value.okWide Try.prog W .any base 5 v) (h : DataW.Trod enc Try.prog W 0 (fun _ => true) true 5 v d ps) : ∃ n : Nat, v = .int .u8 (n : Int) ∧ n < 256 := by
  obtain ⟨z, rfl⟩ := okWide_int Try.underlying5 hval
  obtain ⟨fuel, hf⟩ := h
  have hf' : DataW.trod enc Try.prog W 0 (fun _ => true) true fuel 5 [.int .u8 z] = some (d, ps) := hf
  obtain ⟨y, e1, _, e3⟩ := DataW.trod_int Try.underlying5 hf'
  have e : z = y := by simpa using e1
  subst e
  have h3 : IntKind.u8.min ≤ z ∧ z ≤ IntKind.u8.max := by simpa [Lit.wf] using e3
  have h4 : 0 ≤ z ∧ z ≤ 255 := h3
  exact ⟨z.toNat, by rw [Int.toNat_of_nonneg h4.1], by omega⟩
end Go.Proofs.Ytkglckngiggbhaa

