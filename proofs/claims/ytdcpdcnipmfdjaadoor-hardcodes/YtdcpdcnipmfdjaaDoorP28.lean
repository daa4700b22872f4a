import Derived.Test.YtdcpdcnipmfdjaaDoorP26
import Derived.Test.YtdcpdcnipmfdjaaDoorP27
import Derived.Deep.SlicePairs
import Derived.ProofKit
import Derived.Lib.SmallJoins
import Derived.Deep.Strs
import Derived.ChangeArms
/- How what came in is read: byte slices, slices of numbers, of files and of acts; each slice with its own datum, for the form's reach. -/
namespace Go.Proofs.YtdcpdcnipmfdjaaDoor
open Go.ChangeShapes Go.WideShapes Go.RowKit DiskMath
set_option maxRecDepth 100000
set_option linter.unusedSimpArgs false

theorem cells_byte : Tryd.prog.cellsOf 5 = 1 := by kernel_rfl
theorem cells_int : Tryd.prog.cellsOf 3 = 1 := by kernel_rfl
/-- A byte slice, opened. -/
theorem bs_opened [Keep] {H : Type} {enc : TypeId × Value → H} {W : World} {fuel : Nat} {sv : Value} {x : DataW H × List MemPlace}
    (hk : ∀ b, b < W.heap.size → kOk b) (h : DataW.trod enc Tryd.prog W 0 (fun _ => true) true fuel 25 [sv] = some x) :
    ∃ s, Bs W.heap.size W sv s ∧ (∀ c ∈ s, c < 256) ∧ (s = [] ∨ ∃ el sp, x.1 = .slice el sp ∧ el.length = s.length) := by
  rcases Deep.open_slice1 Tryd.underlying25 cells_byte h with ⟨hcs, hx⟩ | ⟨a, len, cap, m, n, V, D, Pl, hcs, _, hl, hm, hmm, hx, hc⟩
  · obtain rfl : sv = .slice none 0 0 := by simpa using hcs
    exact ⟨[], Bs.nil _ _, by simp, .inl rfl⟩
  · obtain rfl : sv = .slice (some a) len cap := by simpa using hcs
    have hmc : m = cap := by rw [hmm]; rfl
    subst hmc
    have each : ∀ i, i < len → ∃ c : Nat, W.cell? (a.add i) = some (.int .u8 (c : Int)) ∧ c < 256 := by
      intro i hi
      obtain ⟨h1, h2⟩ := hc i (by omega)
      obtain ⟨k, g1, g2, g3⟩ := DataW.trod_int Tryd.underlying5 h2
      simp only [List.cons.injEq, and_true] at g1
      have hk : 0 ≤ k ∧ k ≤ 255 := by
        have g4 : IntKind.u8.min ≤ k ∧ k ≤ IntKind.u8.max := by simpa [Lit.wf] using g3
        exact g4
      exact ⟨k.toNat, by rw [h1, g1, Int.toNat_of_nonneg hk.1], by omega⟩
    obtain ⟨Q, hQ⟩ := Deep.choose_lt (α := Nat) each
    have hzl : ((List.range len).map Q).length = len := by simp
    refine ⟨(List.range len).map Q, ⟨some a, m, by rw [hzl], by rw [hzl]; exact hl, hm, (fun h => by cases h), fun hne => ?_⟩, ?_, .inr ⟨_, _, (Prod.mk.inj hx).1, by simp⟩⟩
    · have h0 : 0 < len := by
        rcases Nat.eq_zero_or_pos len with h0 | h0
        · subst h0; simp at hne
        · exact h0
      have hc0 := (hQ 0 h0).1
      obtain ⟨b, off, spot⟩ := a
      have hspot : spot = none := by simpa [Addr.add] using World.cell?_spot hc0
      subst hspot
      refine ⟨b, off, rfl, ⟨World.block_lt_of_cell? W _ hc0, hk b (World.block_lt_of_cell? W _ hc0)⟩, fun j c hj => ?_⟩
      have hj' : j < len := by
        have := (List.getElem?_eq_some_iff.1 hj).1
        simpa using this
      have e : Q j = c := by simpa [hj'] using hj
      have g1 := (hQ j hj').1
      rw [Addr.add_lit] at g1
      rw [g1, e]
    · intro c hc
      obtain ⟨i, hi, rfl⟩ := List.mem_map.1 hc
      exact (hQ i (List.mem_range.1 hi)).2

/-- A slice of numbers, opened. -/
theorem ints_opened {H : Type} {enc : TypeId × Value → H} {W : World} {fuel : Nat} {sv : Value} {x : DataW H × List MemPlace}
    (h : DataW.trod enc Tryd.prog W 0 (fun _ => true) true fuel 66 [sv] = some x) :
    ∃ s, Nv W sv s ∧ (s = [] ∨ ∃ el sp, x.1 = .slice el sp ∧ el.length = s.length) := by
  rcases Deep.open_slice1 Tryd.underlying66 cells_int h with ⟨hcs, hx⟩ | ⟨a, len, cap, m, n, V, D, Pl, hcs, _, hl, hm, hmm, hx, hc⟩
  · obtain rfl : sv = .slice none 0 0 := by simpa using hcs
    exact ⟨[], ⟨none, 0, rfl, fun _ => rfl, fun i c hc => by simp at hc⟩, .inl rfl⟩
  · obtain rfl : sv = .slice (some a) len cap := by simpa using hcs
    have hmc : m = cap := by rw [hmm]; rfl
    subst hmc
    have each : ∀ i, i < len → ∃ c : Int, W.cell? (a.add i) = some (.int .i64 c) := by
      intro i hi
      obtain ⟨h1, h2⟩ := hc i (by omega)
      obtain ⟨k, g1, g2, g3⟩ := DataW.trod_int Tryd.underlying3 h2
      simp only [List.cons.injEq, and_true] at g1
      exact ⟨k, by rw [h1, g1]⟩
    obtain ⟨Q, hQ⟩ := Deep.choose_lt (α := Int) each
    have hzl : ((List.range len).map Q).length = len := by simp
    refine ⟨(List.range len).map Q, ⟨some a, m, by rw [hzl], (fun h => by cases h), fun i c hc => ?_⟩, .inr ⟨_, _, (Prod.mk.inj hx).1, by simp⟩⟩
    have hi : i < len := by
      have := (List.getElem?_eq_some_iff.1 hc).1
      simpa using this
    have e : Q i = c := by simpa [hi] using hc
    have g1 := hQ i hi
    have gz := hQ 0 (by omega)
    obtain ⟨b, off, spot⟩ := a
    have hspot : spot = none := by simpa [Addr.add] using World.cell?_spot gz
    subst hspot
    rw [Addr.add_lit, e] at g1
    exact ⟨b, off, rfl, g1⟩

end Go.Proofs.YtdcpdcnipmfdjaaDoor

/- How the acts of HardActs that came in are read. -/
namespace Go.Proofs.YtdcpdcnipmfdjaaDoor
open Go.ChangeShapes Go.WideShapes Go.RowKit DiskMath
set_option maxRecDepth 100000
set_option linter.unusedSimpArgs false

theorem cells_hard : Tryd.prog.cellsOf 24 = 3 := by kernel_rfl

/-- An act as it came in. -/
structure Ha where
  crash : Bool
  cuts : List Int
  group : Int
  t : Nat
  v : Int
  c : Nat

/-- An act's six values. -/
def HaV (w : World) (x : Ha) (vs : List Value) : Prop :=
  ∃ cv, vs = [.bool x.crash, cv, .int .i64 x.group, .int .u64 (x.t : Int), .int .i64 x.v, .int .u64 (x.c : Int)] ∧ Nv w cv x.cuts
def HaOk (x : Ha) : Prop := x.t < 18446744073709551616 ∧ x.c < 18446744073709551616
/-- A slice of acts, as it is read. -/
def Hv (w : World) (v : Value) (l : List Ha) : Prop :=
  ∃ ao cap, v = .slice ao l.length cap ∧ ∀ (i : Nat) (x : Ha), l[i]? = some x → ∃ b off vs, ao = some ⟨b, off, none⟩ ∧ HaV w x vs ∧ ∀ (j : Nat) (u : Value), vs[j]? = some u → w.cell? ⟨b, off + i * 6 + j, none⟩ = some u

theorem trod_struct4 {H : Type} {enc : TypeId × Value → H} {P : Program} {w : World} {base : Nat} {spare : Nat → Bool} {held : Bool} {t : TypeId} {f0 f1 f2 f3 : Field} {fuel : Nat} {cs : List Value} {x : DataW H × List MemPlace} (ht : P.underlying t = some (.struct #[f0, f1, f2, f3])) (h : DataW.trod enc P w base spare held fuel t cs = some x) :
    ∃ y0 y1 y2 y3 n, x.1 = .agg [y0.1, y1.1, y2.1, y3.1] ∧ cs.length = P.cellsOf t ∧ DataW.trod enc P w base spare held n f0.type ((cs.drop f0.offset).take (P.cellsOf f0.type)) = some y0 ∧
      DataW.trod enc P w base spare held n f1.type ((cs.drop f1.offset).take (P.cellsOf f1.type)) = some y1 ∧ DataW.trod enc P w base spare held n f2.type ((cs.drop f2.offset).take (P.cellsOf f2.type)) = some y2 ∧
      DataW.trod enc P w base spare held n f3.type ((cs.drop f3.offset).take (P.cellsOf f3.type)) = some y3 := by
  obtain ⟨xs, n, _, rfl, hl, hlen, hf⟩ := DataW.trod_struct ht h
  match xs, hlen with
  | [y0, y1, y2, y3], _ => exact ⟨y0, y1, y2, y3, n, by simp, hl, by simpa using hf 0 f0 rfl, by simpa using hf 1 f1 rfl, by simpa using hf 2 f2 rfl, by simpa using hf 3 f3 rfl⟩

theorem u64_nat {z : Int} (h : (Lit.int .u64 z).wf = true) : ∃ n : Nat, z = (n : Int) ∧ n < 18446744073709551616 := by
  have g : IntKind.u64.min ≤ z ∧ z ≤ IntKind.u64.max := by simpa [Lit.wf] using h
  have g1 : (0 : Int) ≤ z := g.1
  have g2 : z ≤ 18446744073709551615 := g.2
  exact ⟨z.toNat, by omega, by omega⟩

/-- A state, opened. -/
theorem hard_opened {H : Type} {enc : TypeId × Value → H} {W : World} {fuel : Nat} {cs : List Value} {y : DataW H × List MemPlace} (hlen : cs.length = 3)
    (h : DataW.trod enc Tryd.prog W 0 (fun _ => true) true fuel 24 cs = some y) : ∃ (t : Nat) (v : Int) (c : Nat), cs = [.int .u64 (t : Int), .int .i64 v, .int .u64 (c : Int)] ∧ t < 18446744073709551616 ∧ c < 18446744073709551616 ∧ -9223372036854775808 ≤ v ∧ v ≤ 9223372036854775807 := by
  obtain ⟨y0, y1, y2, k, -, -, g0, g1, g2⟩ := Deep.trod_struct3 Tryd.underlying24 h
  match cs, hlen with
  | [v0, v1, v2], _ =>
    have g0' : DataW.trod enc Tryd.prog W 0 (fun _ => true) true k 22 [v0] = some y0 := g0
    have g1' : DataW.trod enc Tryd.prog W 0 (fun _ => true) true k 3 [v1] = some y1 := g1
    have g2' : DataW.trod enc Tryd.prog W 0 (fun _ => true) true k 22 [v2] = some y2 := g2
    obtain ⟨z0, i0, _, j0⟩ := DataW.trod_int Tryd.underlying22 g0'
    obtain ⟨z1, i1, _, j1⟩ := DataW.trod_int Tryd.underlying3 g1'
    obtain ⟨z2, i2, _, j2⟩ := DataW.trod_int Tryd.underlying22 g2'
    simp only [List.cons.injEq, and_true] at i0 i1 i2
    subst i0 i1 i2
    obtain ⟨n0, rfl, l0⟩ := u64_nat j0
    obtain ⟨n2, rfl, l2⟩ := u64_nat j2
    have g : IntKind.i64.min ≤ z1 ∧ z1 ≤ IntKind.i64.max := by simpa [Lit.wf] using j1
    exact ⟨n0, z1, n2, rfl, l0, l2, g.1, g.2⟩

end Go.Proofs.YtdcpdcnipmfdjaaDoor

