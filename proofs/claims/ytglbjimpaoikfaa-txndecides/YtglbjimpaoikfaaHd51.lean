import Derived.Test.YtglbjimpaoikfaaHd10
import Derived.Test.YtglbjimpaoikfaaRows
import Derived.Deep.SlicePairs
import Derived.ProofKit
import Derived.Lib.SmallJoins
import Derived.SizedLaws
/- What came in: holds, marks, keys, numbers. -/
namespace Go.Proofs.Ytglbjimpaoikfaa
open Go.ChangeShapes Go.WideShapes Go.RowKit LeaseMath
set_option maxRecDepth 100000
set_option linter.unusedSimpArgs false
set_option linter.unusedVariables false

theorem laidOut : laidOutB Try.prog = true := by kernel_rfl
theorem own : ownKnob Try.prog.godebug = none := by kernel_rfl
/-- A slice that came in, of any element whose cells can be opened. -/
theorem slice_arg {α : Type} (E : El α) (z : α) {H : Type} {enc : TypeId × Value → H} {W : World} {base : Nat} {v : Value} {d : DataW H} {ps : List MemPlace} {t e : TypeId} (ht : Try.prog.underlying t = some (.slice e)) (hce : Try.prog.cellsOf e = E.k)
    (hop : ∀ fuel cs y, DataW.trod enc Try.prog W 0 (fun _ => true) true fuel e cs = some y → cs.length = E.k → ∃ x : α, cs = E.enc x)
    (hval : Value.okWide Try.prog W .any base t v) (h : DataW.Trod enc Try.prog W 0 (fun _ => true) true t v d ps) : ∃ l : List α, Rd E W v l ∧ (l = [] ∨ ∃ el sp, d = .slice el sp ∧ el.length = l.length) := by
  obtain ⟨a0, len0, cap0, e0⟩ := okWide_slice ht hval
  obtain ⟨fuel, hf⟩ := h
  rw [show v.cells.toList = [v] by rw [e0]; rfl] at hf
  rcases Deep.open_slice ht hf with ⟨hcs, hx⟩ | ⟨a, len, cap, m, n, D, Pl, hcs, _, hl, hm, hmm, hx, hc⟩
  · obtain rfl : v = .slice none 0 0 := by simpa using hcs
    exact ⟨[], ⟨none, 0, rfl, by simp, fun _ => rfl, fun i x j u hx => by simp at hx⟩, .inl rfl⟩
  · obtain rfl : v = .slice (some a) len cap := by simpa using hcs
    have hmc : m = cap := by rw [hmm]; rfl
    subst hmc
    have each : ∀ i, i < len → ∃ s : α, ∀ j u, (E.enc s)[j]? = some u → W.cell? (a.add (i * E.k + j)) = some u := by
      intro i hi
      obtain ⟨cs', h1, h2⟩ := hc i (by omega)
      rw [hce] at h1
      obtain ⟨_, hlen, hcell⟩ := World.cells?_some h1
      obtain ⟨s, hs⟩ := hop _ _ _ h2 hlen
      refine ⟨s, fun j u hu => ?_⟩
      have hj := (List.getElem?_eq_some_iff.1 hu).1
      rw [E.len] at hj
      have e := hcell j hj
      rw [Deep.add_add, hs, hu] at e
      exact e
    haveI : Inhabited α := ⟨z⟩
    obtain ⟨Q, hQ⟩ := Deep.choose_lt (α := α) each
    have hzl : ((List.range len).map Q).length = len := by simp
    refine ⟨(List.range len).map Q, ⟨some a, m, by rw [hzl], by rw [hzl]; exact hl, (fun h => by cases h), fun i x j u hx hu => ?_⟩, .inr ⟨_, _, (Prod.mk.inj hx).1, by simp⟩⟩
    have hi : i < len := by
      have := (List.getElem?_eq_some_iff.1 hx).1
      simpa using this
    have e : Q i = x := by simpa [hi] using hx
    have g := hQ i hi j u (by rw [e]; exact hu)
    obtain ⟨b, off, spot⟩ := a
    have hspot : spot = none := by
      have g0 := hQ 0 (by omega) 0 ((E.enc (Q 0))[0]'(by rw [E.len]; exact E.pos)) (List.getElem?_eq_getElem _)
      rw [Nat.zero_mul] at g0
      simpa [Addr.add] using World.cell?_spot g0
    subst hspot
    rw [Addr.add_lit] at g
    exact ⟨b, off, rfl, g⟩

theorem u64_wf {z : Int} (h : (Lit.int .u64 z).wf = true) : ∃ n : Nat, z = (n : Int) ∧ n < 18446744073709551616 := by
  have g : IntKind.u64.min ≤ z ∧ z ≤ IntKind.u64.max := by simpa [Lit.wf] using h
  have g1 : (0 : Int) ≤ z := g.1
  have g2 : z ≤ 18446744073709551615 := g.2
  exact ⟨z.toNat, by omega, by omega⟩
end Go.Proofs.Ytglbjimpaoikfaa

