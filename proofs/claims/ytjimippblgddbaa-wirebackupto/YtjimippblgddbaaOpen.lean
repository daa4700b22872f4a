/- How a byte slice and a slice of items that came in are read: their cells hold the bytes, the items; and what the arguments' bulk bounds. -/
import Derived.Test.YtjimippblgddbaaBs
import Derived.Test.YtjimippblgddbaaRows
import Derived.Deep.SlicePairs
import Derived.ProofKit
import Derived.Lib.SmallJoins
namespace Go.Proofs.Ytjimippblgddbaa
open Go.ChangeShapes Go.WideShapes Go.RowKit WireMath
set_option maxRecDepth 100000
set_option linter.unusedSimpArgs false

theorem cells_byte : Try.prog.cellsOf 5 = 1 := by kernel_rfl
theorem cells_it : Try.prog.cellsOf 28 = 4 := by kernel_rfl

theorem len_le_bulk {H : Type} (s : List Nat) : s.length ≤ Rows.uptoBulkAll (s.map fun (c : Nat) => DataW.lit (H := H) (.int .u8 (c : Int))) := by
  induction s with
  | nil => simp
  | cons c r ih => simp only [List.map_cons, Rows.uptoBulkAll, Rows.uptoBulk, List.length_cons]; omega

/-- A byte slice, opened. -/
theorem bs_opened {H : Type} {enc : TypeId × Value → H} {W : World} {fuel : Nat} {sv : Value} {x : DataW H × List MemPlace}
    (h : DataW.trod enc Try.prog W 0 (fun _ => true) true fuel 22 [sv] = some x) :
    ∃ s, Bs W.heap.size W sv s ∧ (∀ c ∈ s, c < 256) ∧ s.length ≤ Rows.uptoBulk x.1 ∧ s.length ≤ maxLen ∧ (s = [] ∨ ∃ el sp, x.1 = .slice el sp ∧ el.length = s.length) := by
  rcases Deep.open_slice1 Try.underlying22 cells_byte h with ⟨hcs, hx⟩ | ⟨a, len, cap, m, n, V, D, Pl, hcs, _, hl, hm, hmm, hx, hc⟩
  · obtain rfl : sv = .slice none 0 0 := by simpa using hcs
    exact ⟨[], Bs.nil _ _, by simp, Nat.zero_le _, Nat.zero_le _, .inl rfl⟩
  · obtain rfl : sv = .slice (some a) len cap := by simpa using hcs
    have hmc : m = cap := by rw [hmm]; rfl
    subst hmc
    have each : ∀ i, i < len → ∃ c : Nat, W.cell? (a.add i) = some (.int .u8 (c : Int)) ∧ D i = .lit (.int .u8 (c : Int)) ∧ c < 256 := by
      intro i hi
      obtain ⟨h1, h2⟩ := hc i (by omega)
      obtain ⟨k, g1, g2, g3⟩ := DataW.trod_int Try.underlying5 h2
      simp only [List.cons.injEq, and_true] at g1
      simp only [Prod.mk.injEq] at g2
      have hk : 0 ≤ k ∧ k ≤ 255 := by
        have g4 : IntKind.u8.min ≤ k ∧ k ≤ IntKind.u8.max := by simpa [Lit.wf] using g3
        exact g4
      refine ⟨k.toNat, by rw [h1, g1, Int.toNat_of_nonneg hk.1], by rw [g2.1, Int.toNat_of_nonneg hk.1], by omega⟩
    obtain ⟨Q, hQ⟩ := Deep.choose_lt (α := Nat) each
    have hzl : ((List.range len).map Q).length = len := by simp
    refine ⟨(List.range len).map Q, ⟨some a, m, by rw [hzl], by rw [hzl]; exact hl, hm, (fun h => by cases h), fun hne => ?_⟩, ?_, ?_, by rw [hzl]; omega, .inr ⟨_, _, (Prod.mk.inj hx).1, by simp⟩⟩
    · have h0 : 0 < len := by
        rcases Nat.eq_zero_or_pos len with h0 | h0
        · subst h0; simp at hne
        · exact h0
      have hc0 := (hQ 0 h0).1
      obtain ⟨b, off, spot⟩ := a
      have hspot : spot = none := by simpa [Addr.add] using World.cell?_spot hc0
      subst hspot
      have hb : b < W.heap.size := World.block_lt_of_cell? W _ hc0
      refine ⟨b, off, rfl, hb, fun j c hj => ?_⟩
      have hj' : j < len := by
        have := (List.getElem?_eq_some_iff.1 hj).1
        simpa using this
      have e : Q j = c := by simpa [hj'] using hj
      have g1 := (hQ j hj').1
      rw [Addr.add_lit] at g1
      rw [g1, e]
    · intro c hc
      obtain ⟨i, hi, rfl⟩ := List.mem_map.1 hc
      exact (hQ i (List.mem_range.1 hi)).2.2
    · have e : (List.range len).map D = ((List.range len).map Q).map fun (c : Nat) => DataW.lit (H := H) (.int .u8 (c : Int)) := by
        rw [List.map_map]
        exact List.map_congr_left fun i hi => by rw [(hQ i (List.mem_range.1 hi)).2.1]; rfl
      rw [(Prod.mk.inj hx).1, e]
      have := len_le_bulk (H := H) ((List.range len).map Q)
      simp only [Rows.uptoBulk]
      omega

theorem bulk_append {H : Type} (l r : List (DataW H)) : Rows.uptoBulkAll (l ++ r) = Rows.uptoBulkAll l + Rows.uptoBulkAll r := by
  induction l with
  | nil => simp [Rows.uptoBulkAll]
  | cons x l ih => simp only [List.cons_append, Rows.uptoBulkAll, ih]; omega

/-- An item: what it is, its number, its bytes' slice, the bytes, and at most how many. -/
def It : Type := Int × Nat × Value × List Nat × Int
def It.d (x : It) : Int := x.1
def It.n (x : It) : Nat := x.2.1
def It.v (x : It) : Value := x.2.2.1
def It.s (x : It) : List Nat := x.2.2.2.1
def It.m (x : It) : Int := x.2.2.2.2

/-- An item whose parts may be. -/
def It.ok (n₀ : Nat) (w : World) (x : It) : Prop := Bs n₀ w x.v x.s ∧ x.n < 18446744073709551616 ∧ (∀ c ∈ x.s, c < 256) ∧ x.s.length ≤ maxLen ∧ (-9223372036854775808 ≤ x.m ∧ x.m ≤ 9223372036854775807)

def tot (l : List It) : Nat := (l.map fun x => 10 + x.s.length).sum

/-- A slice of items. -/
def Items (n₀ : Nat) (w : World) (v : Value) (l : List It) : Prop :=
  ∃ ao cap, v = .slice ao l.length cap ∧ l.length ≤ cap ∧ cap ≤ maxLen ∧ (∀ x ∈ l, x.ok n₀ w) ∧
    (l ≠ [] → ∃ b off, ao = some ⟨b, off, none⟩ ∧ b < n₀ ∧ ∀ (j : Nat) (x : It), l[j]? = some x →
      w.cell? ⟨b, off + j * 4, none⟩ = some (.int .i64 x.d) ∧ w.cell? ⟨b, off + j * 4 + 1, none⟩ = some (.int .u64 (x.n : Int)) ∧ w.cell? ⟨b, off + j * 4 + 2, none⟩ = some x.v ∧ w.cell? ⟨b, off + j * 4 + 3, none⟩ = some (.int .i64 x.m))

theorem items_opened {H : Type} {enc : TypeId × Value → H} {W : World} {fuel : Nat} {v : Value} {x : DataW H × List MemPlace}
    (h : DataW.trod enc Try.prog W 0 (fun _ => true) true fuel 23 [v] = some x) :
    ∃ l, Items W.heap.size W v l ∧ tot l ≤ 10 * Rows.uptoBulk x.1 := by
  rcases Deep.open_slice Try.underlying23 h with ⟨hcs, hx⟩ | ⟨a, len, cap, m, n, D, Pl, hcs, _, hl, hm, hmm, hx, hc⟩
  · obtain rfl : v = .slice none 0 0 := by simpa using hcs
    exact ⟨[], ⟨none, 0, rfl, Nat.le_refl _, Nat.zero_le _, by simp, fun h => absurd rfl h⟩, Nat.zero_le _⟩
  · obtain rfl : v = .slice (some a) len cap := by simpa using hcs
    have hmc : m = cap := by rw [hmm]; rfl
    subst hmc
    have each : ∀ i, i < len → ∃ q : It, q.ok W.heap.size W ∧ W.cell? (a.add (i * 4)) = some (.int .i64 q.d) ∧ W.cell? (a.add (i * 4 + 1)) = some (.int .u64 (q.n : Int)) ∧ W.cell? (a.add (i * 4 + 2)) = some q.v ∧ W.cell? (a.add (i * 4 + 3)) = some (.int .i64 q.m) ∧ q.s.length + 1 ≤ Rows.uptoBulk (D i) := by
      intro i hi
      obtain ⟨cs', h1, h2⟩ := hc i (by omega)
      rw [cells_it] at h1
      obtain ⟨_, hlen, hcell⟩ := World.cells?_some h1
      obtain ⟨y0, y1, y2, y3, k, hxy, _, g0, g1, g2, g3⟩ := Joins.trod_struct4 Try.underlying28 h2
      match cs', hlen with
      | [v0, v1, v2, v3], _ =>
        have e0 := hcell 0 (by omega)
        have e1 := hcell 1 (by omega)
        have e2 := hcell 2 (by omega)
        have e3 := hcell 3 (by omega)
        rw [Deep.add_add] at e0 e1 e2 e3
        have g0' : DataW.trod enc Try.prog W 0 (fun _ => true) true k 3 [v0] = some y0 := g0
        have g1' : DataW.trod enc Try.prog W 0 (fun _ => true) true k 26 [v1] = some y1 := g1
        have g2' : DataW.trod enc Try.prog W 0 (fun _ => true) true k 22 [v2] = some y2 := g2
        have g3' : DataW.trod enc Try.prog W 0 (fun _ => true) true k 3 [v3] = some y3 := g3
        obtain ⟨z0, i0, _, _⟩ := DataW.trod_int Try.underlying3 g0'
        obtain ⟨z1, i1, _, j1⟩ := DataW.trod_int Try.underlying26 g1'
        obtain ⟨z3, i3, _, j3⟩ := DataW.trod_int Try.underlying3 g3'
        obtain ⟨s, hs, hs1, hs2, hs3, _⟩ := bs_opened g2'
        simp only [List.cons.injEq, and_true] at i0 i1 i3
        have j1' : IntKind.u64.min ≤ z1 ∧ z1 ≤ IntKind.u64.max := by simpa [Lit.wf] using j1
        have j3' : IntKind.i64.min ≤ z3 ∧ z3 ≤ IntKind.i64.max := by simpa [Lit.wf] using j3
        have k1 : 0 ≤ z1 ∧ z1 ≤ 18446744073709551615 := j1'
        have k3 : -9223372036854775808 ≤ z3 ∧ z3 ≤ 9223372036854775807 := j3'
        simp only [Prod.mk.injEq] at hxy
        refine ⟨(z0, z1.toNat, v2, s, z3), ⟨hs, ?_, hs1, hs3, k3⟩, ?_, ?_, ?_, ?_, ?_⟩
        · show z1.toNat < _; omega
        · show _ = some (Value.int .i64 z0); rw [← i0]; simpa using e0
        · show _ = some (Value.int .u64 ((z1.toNat : Nat) : Int)); rw [Int.toNat_of_nonneg k1.1, ← i1]; simpa using e1
        · show _ = some v2; simpa using e2
        · show _ = some (Value.int .i64 z3); rw [← i3]; simpa using e3
        · show s.length + 1 ≤ _
          rw [hxy.1]
          simp only [Rows.uptoBulk, Rows.uptoBulkAll]
          omega
    haveI : Inhabited It := ⟨((0 : Int), (0 : Nat), Value.slice none 0 0, ([] : List Nat), (0 : Int))⟩
    obtain ⟨Q, hQ⟩ := Deep.choose_lt (α := It) each
    have hzl : ((List.range len).map Q).length = len := by simp
    refine ⟨(List.range len).map Q, ⟨some a, m, by rw [hzl], by rw [hzl]; exact hl, hm, ?_, fun hne => ?_⟩, ?_⟩
    · intro q hq
      obtain ⟨i, hi, rfl⟩ := List.mem_map.1 hq
      exact (hQ i (List.mem_range.1 hi)).1
    · have h0 : 0 < len := by
        rcases Nat.eq_zero_or_pos len with h0 | h0
        · subst h0; simp at hne
        · exact h0
      have hc0 := (hQ 0 h0).2.1
      obtain ⟨b, off, spot⟩ := a
      have hspot : spot = none := by simpa [Addr.add] using World.cell?_spot hc0
      subst hspot
      have hb : b < W.heap.size := World.block_lt_of_cell? W _ hc0
      refine ⟨b, off, rfl, hb, fun j q hj => ?_⟩
      have hj' : j < len := by
        have := (List.getElem?_eq_some_iff.1 hj).1
        simpa using this
      have e : Q j = q := by simpa [hj'] using hj
      obtain ⟨_, g0, g1, g2, g3, _⟩ := hQ j hj'
      rw [Addr.add_lit, e] at g0 g1 g2 g3
      simp only [Nat.add_assoc] at g0 g1 g2 g3 ⊢
      exact ⟨g0, g1, g2, g3⟩
    · have key : ∀ k, k ≤ len → tot ((List.range k).map Q) ≤ 10 * Rows.uptoBulkAll ((List.range k).map D) := by
        intro k
        induction k with
        | zero => intro _; simp [tot]
        | succ k ih =>
          intro hk
          have h1 := ih (by omega)
          have h2 := (hQ k (by omega)).2.2.2.2.2
          rw [List.range_succ, List.map_append, List.map_append, bulk_append]
          simp only [tot, List.map_append, List.sum_append, List.map_cons, List.map_nil, List.sum_cons, List.sum_nil, Rows.uptoBulkAll] at h1 ⊢
          omega
      have h3 := key len (Nat.le_refl _)
      rw [(Prod.mk.inj hx).1]
      simp only [Rows.uptoBulk]
      omega
end Go.Proofs.Ytjimippblgddbaa
