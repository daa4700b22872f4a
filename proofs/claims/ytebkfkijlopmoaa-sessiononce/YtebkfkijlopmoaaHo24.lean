import Derived.Test.YtebkfkijlopmoaaHo23
import Derived.Test.YtebkfkijlopmoaaRows
import Derived.Deep.SlicePairs
import Derived.ProofKit
import Derived.Lib.SmallJoins
/- What came in: seats, calls, bytes. -/
namespace Go.Proofs.Ytebkfkijlopmoaa
open Go.ChangeShapes Go.WideShapes Go.RowKit SessionMath
set_option maxRecDepth 100000
set_option linter.unusedSimpArgs false
set_option linter.unusedVariables false

theorem laidOut : laidOutB Try.prog = true := by kernel_rfl
theorem own : ownKnob Try.prog.godebug = none := by kernel_rfl
theorem cells_id : Try.prog.cellsOf 25 = 2 := by kernel_rfl
/-- A slice of any element, opened. -/
theorem slice_opened {α : Type} (E : El α) (P : α → Prop) (x0 : α) {ts t : TypeId} {H : Type} {enc : TypeId × Value → H} {W : World} (hu : Try.prog.underlying ts = some (.slice t)) (hk : Try.prog.cellsOf t = E.k)
    (hel : ∀ (fuel : Nat) (cs : List Value) (y : DataW H × List MemPlace), cs.length = E.k → DataW.trod enc Try.prog W 0 (fun _ => true) true fuel t cs = some y → ∃ z, cs = E.enc z ∧ P z)
    {fuel : Nat} {v : Value} {x : DataW H × List MemPlace} (h : DataW.trod enc Try.prog W 0 (fun _ => true) true fuel ts [v] = some x) : ∃ zs : List α, Rd E W v zs ∧ ∀ z ∈ zs, P z := by
  rcases Deep.open_slice hu h with ⟨hcs, hx⟩ | ⟨a, len, cap, m, n, D, Pl, hcs, _, hl, hm, hmm, hx, hc⟩
  · obtain rfl : v = .slice none 0 0 := by simpa using hcs
    exact ⟨[], ⟨none, 0, rfl, Nat.le_refl _, fun _ => rfl, fun i x j u hx => by simp at hx⟩, by simp⟩
  · obtain rfl : v = .slice (some a) len cap := by simpa using hcs
    have hmc : m = cap := by rw [hmm]; rfl
    subst hmc
    have each : ∀ i, i < len → ∃ z : α, (∀ j u, (E.enc z)[j]? = some u → W.cell? (a.add (i * E.k + j)) = some u) ∧ P z := by
      intro i hi
      obtain ⟨cs', h1, h2⟩ := hc i (by omega)
      rw [hk] at h1
      obtain ⟨_, hlen, hcell⟩ := World.cells?_some h1
      obtain ⟨z, hs, hp⟩ := hel _ _ _ hlen h2
      refine ⟨z, fun j u hu => ?_, hp⟩
      have hj := (List.getElem?_eq_some_iff.1 hu).1
      rw [E.len] at hj
      have e := hcell j hj
      rw [Deep.add_add, hs, hu] at e
      exact e
    haveI : Inhabited α := ⟨x0⟩
    obtain ⟨Q, hQ⟩ := Deep.choose_lt (α := α) each
    have hzl : ((List.range len).map Q).length = len := by simp
    refine ⟨(List.range len).map Q, ⟨some a, m, by rw [hzl], by rw [hzl]; exact hl, (fun h => by cases h), fun i x j u hx' hu => ?_⟩, fun z hz => ?_⟩
    · have hi : i < len := by
        have := (List.getElem?_eq_some_iff.1 hx').1
        simpa using this
      have e : Q i = x := by simpa [hi] using hx'
      have g := (hQ i hi).1 j u (by rw [e]; exact hu)
      obtain ⟨b, off, spot⟩ := a
      have hspot : spot = none := by
        have g0 := (hQ 0 (by omega)).1 0 ((E.enc (Q 0))[0]'(by rw [E.len]; exact E.pos)) (List.getElem?_eq_getElem _)
        rw [Nat.zero_mul] at g0
        simpa [Addr.add] using World.cell?_spot g0
      subst hspot
      rw [Addr.add_lit] at g
      exact ⟨b, off, rfl, g⟩
    · obtain ⟨i, hi, rfl⟩ := List.mem_map.1 hz
      exact (hQ i (by simpa using hi)).2
theorem u64_wf {z : Int} (h : (Lit.int .u64 z).wf = true) : ∃ n : Nat, z = (n : Int) ∧ n < 18446744073709551616 := by
  have g : IntKind.u64.min ≤ z ∧ z ≤ IntKind.u64.max := by simpa [Lit.wf] using h
  have g1 : (0 : Int) ≤ z := g.1
  have g2 : z ≤ 18446744073709551615 := g.2
  exact ⟨z.toNat, by omega, by omega⟩
/-- Calls as elements. -/
abbrev Cq := Int × Nat
def idE : El Cq := ⟨fun z => [.int .i64 z.1, .int .u64 (z.2 : Int)], 2, fun _ => rfl, fun x u hu => by
  simp only [List.mem_cons, List.not_mem_nil, or_false] at hu
  rcases hu with rfl | rfl <;> rfl, by decide⟩
theorem id_struct {H : Type} {enc : TypeId × Value → H} {W : World} {fuel : Nat} {cs : List Value} {x : DataW H × List MemPlace} (h : DataW.trod enc Try.prog W 0 (fun _ => true) true fuel 25 cs = some x) :
    ∃ y0 y1 k, DataW.trod enc Try.prog W 0 (fun _ => true) true k 3 ((cs.drop 0).take (Try.prog.cellsOf 3)) = some y0 ∧ DataW.trod enc Try.prog W 0 (fun _ => true) true k 23 ((cs.drop 1).take (Try.prog.cellsOf 23)) = some y1 := by
  obtain ⟨xs, n, _, rfl, hl, hlen, hf⟩ := DataW.trod_struct Try.underlying25 h
  match xs, hlen with
  | [y0, y1], _ => exact ⟨y0, y1, n, by simpa using hf 0 _ rfl, by simpa using hf 1 _ rfl⟩
end Go.Proofs.Ytebkfkijlopmoaa

