import Derived.Test.YtlgnnfhnkfjafaaHp08
import Derived.Test.YtlgnnfhnkfjafaaHp09
/- Slices of spans as they are read; the contract of Form. -/
namespace Go.Proofs.Ytlgnnfhnkfjafaa
open Go.RowKit SpanMath
set_option maxRecDepth 100000
set_option linter.unusedSimpArgs false
set_option linter.unusedVariables false

/-- A slice of spans, as it is read. -/
def Sv (w : World) (v : Value) (l : List Sp) : Prop :=
  ∃ ao cap, v = .slice ao l.length cap ∧ ∀ (i : Nat) (s : Sp), l[i]? = some s → ∃ b off, ao = some ⟨b, off, none⟩ ∧ w.cell? ⟨b, off + i * 2, none⟩ = some (.string (bk s.1)) ∧ w.cell? ⟨b, off + i * 2 + 1, none⟩ = some (.string (bk s.2))
theorem Sv.below {w w' : World} {v : Value} {l : List Sp} (h : Sv w v l) (hb : Below w.heap.size w w') : Sv w' v l := by
  obtain ⟨ao, cap, e, h2⟩ := h
  refine ⟨ao, cap, e, fun i s hs => ?_⟩
  obtain ⟨b, off, r1, r2, r3⟩ := h2 i s hs
  exact ⟨b, off, r1, (hb.cell (p := ⟨b, off + i * 2, none⟩) (World.block_lt_of_cell? w _ r2)).trans r2, (hb.cell (p := ⟨b, off + i * 2 + 1, none⟩) (World.block_lt_of_cell? w _ r3)).trans r3⟩
/-- Spans as elements. -/
def spE : El Sp := ⟨fun s => [.string (bk s.1), .string (bk s.2)], 2, fun _ => rfl, fun x u hu => by
  simp only [List.mem_cons, List.not_mem_nil, or_false] at hu
  rcases hu with rfl | rfl <;> rfl, by decide⟩
theorem Rk.sv {w : World} {v : Value} {l : List Sp} (h : Rk spE w 43 v l) : Sv w v l := by
  by_cases hl : 0 < l.length
  · obtain ⟨g, cap, cur, e, _, _, _, _, _, hc, _⟩ := Rk.cells h hl
    refine ⟨_, cap, e, fun i s hs => ⟨g, 0, rfl, ?_, ?_⟩⟩
    · have := hc i s 0 hs (by decide)
      rw [Nat.zero_add]
      exact this
    · have := hc i s 1 hs (by decide)
      rw [Nat.zero_add]
      exact this
  · have e0 : l = [] := List.eq_nil_of_length_eq_zero (by omega)
    obtain ⟨ao, cap, e, _⟩ := Rk.shape h
    exact ⟨ao, cap, e, fun i s hs => by rw [e0] at hs; simp at hs⟩
/-- What a world keeps: all below N is as it was. -/
theorem keep_step {N : Nat} {wb W w' : World} (h : Below N wb W) (hN : N ≤ wb.heap.size) (hb : Below W.heap.size W w') : Below N wb w' := h.trans (hb.mono (Nat.le_trans hN h.size))

end Go.Proofs.Ytlgnnfhnkfjafaa

