import Derived.Test.YtoipjmjhplkibaaDoorQ23
import Derived.Test.YtoipjmjhplkibaaDoorQ24
import Derived.Deep.SlicePairs
import Derived.ProofKit
import Derived.Lib.SmallJoins
/- How what came in is read: byte slices, slices of numbers, of files and of acts; each slice with its own datum, for the form's reach. -/
namespace Go.Proofs.YtoipjmjhplkibaaDoor
open Go.ChangeShapes Go.WideShapes Go.RowKit DiskMath
set_option maxRecDepth 100000
set_option linter.unusedSimpArgs false

theorem cells_byte : Tryd.prog.cellsOf 5 = 1 := by kernel_rfl
theorem cells_int : Tryd.prog.cellsOf 3 = 1 := by kernel_rfl
/-- A byte slice, opened. -/
theorem bs_opened [Keep] {H : Type} {enc : TypeId × Value → H} {W : World} {fuel : Nat} {sv : Value} {x : DataW H × List MemPlace}
    (hk : ∀ b, b < W.heap.size → kOk b) (h : DataW.trod enc Tryd.prog W 0 (fun _ => true) true fuel 22 [sv] = some x) :
    ∃ s, Bs W.heap.size W sv s ∧ (∀ c ∈ s, c < 256) ∧ (s = [] ∨ ∃ el sp, x.1 = .slice el sp ∧ el.length = s.length) := by
  rcases Deep.open_slice1 Tryd.underlying22 cells_byte h with ⟨hcs, hx⟩ | ⟨a, len, cap, m, n, V, D, Pl, hcs, _, hl, hm, hmm, hx, hc⟩
  · obtain rfl : sv = .slice none 0 0 := by simpa using hcs
    exact ⟨[], Bs.nil _ _, by simp, .inl rfl⟩
  · obtain rfl : sv = .slice (some a) len cap := by simpa using hcs
    have hmc : m = cap := by rw [hmm]; rfl
    subst hmc
    have each : ∀ i, i < len → ∃ c : Nat, W.cell? (a.add i) = some (.int .u8 (c : Int)) ∧ c < 256 := by
      intro i hi
      obtain ⟨h1, h2⟩ := hc i (by omega)
      obtain ⟨k, g1, g2, g3⟩ := DataW.trod_int Tryd.underlying5 h2
      simp only [List.cons.injEq, and_true] at g1
      have hk : 0 ≤ k ∧ k ≤ 255 := by
        have g4 : IntKind.u8.min ≤ k ∧ k ≤ IntKind.u8.max := by simpa [Lit.wf] using g3
        exact g4
      exact ⟨k.toNat, by rw [h1, g1, Int.toNat_of_nonneg hk.1], by omega⟩
    obtain ⟨Q, hQ⟩ := Deep.choose_lt (α := Nat) each
    have hzl : ((List.range len).map Q).length = len := by simp
    refine ⟨(List.range len).map Q, ⟨some a, m, by rw [hzl], by rw [hzl]; exact hl, hm, (fun h => by cases h), fun hne => ?_⟩, ?_, .inr ⟨_, _, (Prod.mk.inj hx).1, by simp⟩⟩
    · have h0 : 0 < len := by
        rcases Nat.eq_zero_or_pos len with h0 | h0
        · subst h0; simp at hne
        · exact h0
      have hc0 := (hQ 0 h0).1
      obtain ⟨b, off, spot⟩ := a
      have hspot : spot = none := by simpa [Addr.add] using World.cell?_spot hc0
      subst hspot
      refine ⟨b, off, rfl, ⟨World.block_lt_of_cell? W _ hc0, hk b (World.block_lt_of_cell? W _ hc0)⟩, fun j c hj => ?_⟩
      have hj' : j < len := by
        have := (List.getElem?_eq_some_iff.1 hj).1
        simpa using this
      have e : Q j = c := by simpa [hj'] using hj
      have g1 := (hQ j hj').1
      rw [Addr.add_lit] at g1
      rw [g1, e]
    · intro c hc
      obtain ⟨i, hi, rfl⟩ := List.mem_map.1 hc
      exact (hQ i (List.mem_range.1 hi)).2

/-- A slice of numbers, opened. -/
theorem ints_opened {H : Type} {enc : TypeId × Value → H} {W : World} {fuel : Nat} {sv : Value} {x : DataW H × List MemPlace}
    (h : DataW.trod enc Tryd.prog W 0 (fun _ => true) true fuel 40 [sv] = some x) :
    ∃ s, Nv W sv s ∧ (s = [] ∨ ∃ el sp, x.1 = .slice el sp ∧ el.length = s.length) := by
  rcases Deep.open_slice1 Tryd.underlying40 cells_int h with ⟨hcs, hx⟩ | ⟨a, len, cap, m, n, V, D, Pl, hcs, _, hl, hm, hmm, hx, hc⟩
  · obtain rfl : sv = .slice none 0 0 := by simpa using hcs
    exact ⟨[], ⟨none, 0, rfl, fun _ => rfl, fun i c hc => by simp at hc⟩, .inl rfl⟩
  · obtain rfl : sv = .slice (some a) len cap := by simpa using hcs
    have hmc : m = cap := by rw [hmm]; rfl
    subst hmc
    have each : ∀ i, i < len → ∃ c : Int, W.cell? (a.add i) = some (.int .i64 c) := by
      intro i hi
      obtain ⟨h1, h2⟩ := hc i (by omega)
      obtain ⟨k, g1, g2, g3⟩ := DataW.trod_int Tryd.underlying3 h2
      simp only [List.cons.injEq, and_true] at g1
      exact ⟨k, by rw [h1, g1]⟩
    obtain ⟨Q, hQ⟩ := Deep.choose_lt (α := Int) each
    have hzl : ((List.range len).map Q).length = len := by simp
    refine ⟨(List.range len).map Q, ⟨some a, m, by rw [hzl], (fun h => by cases h), fun i c hc => ?_⟩, .inr ⟨_, _, (Prod.mk.inj hx).1, by simp⟩⟩
    have hi : i < len := by
      have := (List.getElem?_eq_some_iff.1 hc).1
      simpa using this
    have e : Q i = c := by simpa [hi] using hc
    have g1 := hQ i hi
    have gz := hQ 0 (by omega)
    obtain ⟨b, off, spot⟩ := a
    have hspot : spot = none := by simpa [Addr.add] using World.cell?_spot gz
    subst hspot
    rw [Addr.add_lit, e] at g1
    exact ⟨b, off, rfl, g1⟩

end Go.Proofs.YtoipjmjhplkibaaDoor

