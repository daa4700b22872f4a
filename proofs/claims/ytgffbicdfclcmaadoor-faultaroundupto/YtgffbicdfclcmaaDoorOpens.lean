/- How a slice of causes that came in is read: its cells hold texts and codes; and that it reads as before wherever old memory stays as it was. -/
import Derived.Test.YtgffbicdfclcmaaDoorBack
import Derived.Deep.SlicePairs
import Derived.ProofKit
namespace Go.Proofs.YtgffbicdfclcmaaDoor
open Go.ChangeShapes Go.WideShapes Go.RowKit
set_option maxRecDepth 100000

theorem laidOut : laidOutB Tryd.prog = true := by kernel_rfl
theorem cells32 : Tryd.prog.cellsOf 32 = 2 := by kernel_rfl
theorem cells9 : Tryd.prog.cellsOf 9 = 1 := by kernel_rfl
theorem cells30 : Tryd.prog.cellsOf 30 = 1 := by kernel_rfl

theorem causes_of {H : Type} {enc : TypeId × Value → H} {W : World} {base : Nat} {v : Value} {d : DataW H} {ps : List MemPlace}
    (hv : Value.okWide Tryd.prog W .any base 22 v) (h : DataW.Trod enc Tryd.prog W 0 (fun _ => true) true 22 v d ps) :
    ∃ a len cap zs, v = .slice a len cap ∧ Causes W.heap.size W (.slice a len cap) zs ∧ len ≤ cap ∧ cap ≤ maxLen ∧ (∀ c ∈ zs, (Lit.int .i64 c.2).wf = true ∧ c.1.size ≤ maxLen) ∧
      (d = .nil ∧ zs = [] ∨ ∃ sp, d = .slice (zs.map fun c => .agg [.lit (.string c.1.data.toList), .lit (.int .i64 c.2)]) sp) := by
  obtain ⟨a0, len, cap, rfl⟩ := okWide_slice Tryd.underlying22 hv
  obtain ⟨fuel, hf⟩ := h
  rcases Deep.open_slice_pairs Tryd.underlying22 Tryd.underlying32 cells32 rfl rfl cells9 cells30 hf with ⟨hcs, hx⟩ | ⟨a, len', cap', m, n, V0, V1, D0, D1, P0, P1, hcs, _, hl, hm, hmm, hx, hc⟩
  · have hcs' : Value.slice a0 len cap = .slice none 0 0 := by simpa [Value.cells] using hcs
    cases hcs'
    exact ⟨none, 0, 0, [], rfl, .inl ⟨_, _, rfl, rfl⟩, Nat.le_refl _, Nat.zero_le _, by simp, .inl ⟨by simpa using congrArg Prod.fst hx, rfl⟩⟩
  · have hcs' : Value.slice a0 len cap = .slice (some a) len' cap' := by simpa [Value.cells] using hcs
    cases hcs'
    have hmc : m = cap := by rw [hmm]; rfl
    subst hmc
    have each : ∀ i, i < len → ∃ q : ByteArray × Int, W.cell? (a.add (i * 2)) = some (.string q.1) ∧ W.cell? (a.add (i * 2 + 1)) = some (.int .i64 q.2) ∧ D0 i = .lit (.string q.1.data.toList) ∧ D1 i = .lit (.int .i64 q.2) ∧ (Lit.int .i64 q.2).wf = true ∧ q.1.size ≤ maxLen := by
      intro i hi
      obtain ⟨h1, h2, h3, h4⟩ := hc i (by omega)
      obtain ⟨s, e1, e2, e3⟩ := DataW.trod_string Tryd.underlying9 h3
      obtain ⟨k, g1, g2, g3⟩ := DataW.trod_int Tryd.underlying30 h4
      simp only [List.cons.injEq, and_true] at e1 g1
      simp only [Prod.mk.injEq] at e2 g2
      exact ⟨(s, k), by rw [h1, e1], by rw [h2, g1], e2.1, g2.1, g3, e3⟩
    obtain ⟨Q, hQ⟩ := Deep.choose_lt (α := ByteArray × Int) each
    have hzl : ((List.range len).map Q).length = len := by simp
    refine ⟨some a, len, m, (List.range len).map Q, rfl, ?_, hl, hm, ?_, .inr ⟨(List.range (m - len)).map fun j => .agg [D0 (len + j), D1 (len + j)], ?_⟩⟩
    · by_cases h0 : len = 0
      · subst h0
        exact .inl ⟨_, _, rfl, rfl⟩
      · have hc0 := (hQ 0 (by omega)).1
        obtain ⟨b, off, spot⟩ := a
        have hspot : spot = none := by simpa [Addr.add] using World.cell?_spot hc0
        subst hspot
        have hb : b < W.heap.size := by
          rcases Nat.lt_or_ge b W.heap.size with h' | h'
          · exact h'
          · simp [World.cell?, Addr.add, Array.getElem?_eq_none h'] at hc0
        refine .inr ⟨b, off, m, by rw [hzl], hb, fun j hj => ?_⟩
        have hj' : j < len := by rw [hzl] at hj; exact hj
        have e : ((List.range len).map Q)[j] = Q j := by simp
        rw [e]
        have g1 := (hQ j hj').1
        have g2 := (hQ j hj').2.1
        rw [add_plain] at g1 g2
        exact ⟨g1, by rw [Nat.add_assoc]; exact g2⟩
    · intro c hcm
      obtain ⟨i, hi, rfl⟩ := List.mem_map.1 hcm
      have := hQ i (List.mem_range.1 hi)
      exact ⟨this.2.2.2.2.1, this.2.2.2.2.2⟩
    · rw [(Prod.mk.inj hx).1, List.map_map]
      congr 1
      exact List.map_congr_left fun i hi => by
        have := hQ i (List.mem_range.1 hi)
        rw [this.2.2.1, this.2.2.2.1]; rfl
end Go.Proofs.YtgffbicdfclcmaaDoor
