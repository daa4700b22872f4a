import Derived.Test.YtghhijliamnmiaaHo09
import Derived.Test.YtghhijliamnmiaaHo10
import Derived.Test.YtghhijliamnmiaaHo11
/- The law asks first that a token is taken. -/
namespace Go.Proofs.Ytghhijliamnmiaa
open Go.RowKit OracleMath
set_option maxRecDepth 100000
set_option linter.unusedSimpArgs false
set_option linter.unusedVariables false

set_option maxHeartbeats 4000000 in
theorem awake_of (w : World) : Calls Try.prog 17 #[] w fun e w' => e = .returned (.bool true) ∧ Below w.heap.size w w' := by
  have kN : Hid (∀ W, Calls Try.prog 15 #[.int .u64 1] W fun e w' => e = .returned (.tuple #[.agg #[.int .u64 1, .int .u64 0, .bool false], .int .i64 0]) ∧ Below W.heap.size W w') := fun W => new_of 1 W (by decide)
  have kE : Hid (∀ W, Calls Try.prog 7 #[.agg #[.int .u64 1, .int .u64 0, .bool false], .int .i64 2] W fun e w' => e = .returned (.tuple #[.agg #[.int .u64 1, .int .u64 2, .bool false], .int .i64 0]) ∧ Below W.heap.size W w') := fun W => extend_of (1, 0, false) 2 W ⟨by decide, by decide⟩
  have kT : Hid (∀ W, Calls Try.prog 9 #[.agg #[.int .u64 1, .int .u64 2, .bool false]] W fun e w' => e = .returned (.tuple #[.agg #[.int .u64 2, .int .u64 2, .bool false], .int .u64 1, .int .i64 0]) ∧ Below W.heap.size W w') := fun W => take_of (1, 2, false) W ⟨by decide, by decide⟩
  have kL : Hid (∀ W, Calls Try.prog 16 #[.agg #[.int .u64 2, .int .u64 2, .bool false]] W fun e w' => e = .returned (.int .u64 1) ∧ Below W.heap.size W w') := fun W => left_of (2, 2, false) W ⟨by decide, by decide⟩
  have k1 := kN.out w
  go_enter Try.func17, Try.ntmps17
  go_wp2_with fail
  refine k1.mono ?_
  rintro e w1 ⟨rfl, hb1⟩
  obtain ⟨s1, n1, B1⟩ := one_box w1 (.cells #[.int .u64 1, .int .u64 0, .bool false] 24)
  obtain ⟨⟨f0, f1, f2⟩, c0, c1, c2⟩ := h_cells n1
  have hb01 := hb1.trans (B1.mono hb1.size)
  have k2 := kE.out (w1.alloc (.cells #[.int .u64 1, .int .u64 0, .bool false] 24))
  clear k1
  have hlt1 : w1.heap.size < (w1.alloc (.cells #[.int .u64 1, .int .u64 0, .bool false] 24)).heap.size := by rw [s1]; exact Nat.lt_succ_self _
  have HN1 : Hid (w.heap.size ≤ w1.heap.size) := hb1.size
  obtain ⟨g, hg⟩ : ∃ g, g = w1.heap.size := ⟨_, rfl⟩
  have HG : Hid (g = w1.heap.size) := hg
  have HGw : Hid (w.heap.size ≤ g) := by show _ ≤ _; rw [hg]; exact HN1.out
  rw [← hg] at n1 hlt1
  go_wp2_with fail
  rw [← hg]
  clear f0 f1 f2 c0 c1 c2
  clear hg
  generalize w1.alloc (.cells #[.int .u64 1, .int .u64 0, .bool false] 24) = W1 at *
  refine k2.mono ?_
  rintro e w2 ⟨rfl, hb2⟩
  have n2 := (hb2.block g hlt1).trans n1
  have hb02 := hb01.trans (hb2.mono hb01.size)
  have m2 := h_set n2 (.int .u64 1) (.int .u64 2) (.bool false)
  have M2 := h_below (g := g) (.int .u64 1) (.int .u64 2) (.bool false) hb02 HGw.out
  obtain ⟨⟨f0, f1, f2⟩, c0, c1, c2⟩ := h_cells n2
  obtain ⟨W2, hW2⟩ : ∃ W2, ((w2.setCell ⟨g, 0, none⟩ (.int .u64 1)).setCell ⟨g, 1, none⟩ (.int .u64 2)).setCell ⟨g, 2, none⟩ (.bool false) = W2 := ⟨_, rfl⟩
  rw [hW2] at m2 M2
  obtain ⟨⟨p0, p1, p2⟩, d0, d1, d2⟩ := h_cells m2
  have k3 := kT.out W2
  clear k2 n1 n2 hb01 hb02 hb1 hb2 HN1 B1 s1 hlt1
  go_wp2_with fail
  refine k3.mono ?_
  rintro e w3 ⟨rfl, hb3⟩
  have hlt2 : g < W2.heap.size := (Array.getElem?_eq_some_iff.1 m2).1
  have n3 := (hb3.block g hlt2).trans m2
  have hb03 := M2.trans (hb3.mono M2.size)
  have m3 := h_set n3 (.int .u64 2) (.int .u64 2) (.bool false)
  have M3 := h_below (g := g) (.int .u64 2) (.int .u64 2) (.bool false) hb03 HGw.out
  clear f0 f1 f2 c0 c1 c2 p0 p1 p2 d0 d1 d2 hW2 k3 m2 M2 hb3
  obtain ⟨⟨f0, f1, f2⟩, c0, c1, c2⟩ := h_cells n3
  obtain ⟨W3, hW3⟩ : ∃ W3, ((w3.setCell ⟨g, 0, none⟩ (.int .u64 2)).setCell ⟨g, 1, none⟩ (.int .u64 2)).setCell ⟨g, 2, none⟩ (.bool false) = W3 := ⟨_, rfl⟩
  rw [hW3] at m3 M3
  obtain ⟨⟨p0, p1, p2⟩, d0, d1, d2⟩ := h_cells m3
  have k4 := kL.out W3
  clear n3 hb03 m3 hlt2
  go_wp2_with fail
  refine k4.mono ?_
  rintro e w4 ⟨rfl, hb4⟩
  have hb04 := M3.trans (hb4.mono M3.size)
  clear f0 f1 f2 c0 c1 c2 p0 p1 p2 d0 d1 d2 hW3 k4 M3 hb4
  go_wp2
  go_ret
  exact ⟨rfl, hb04⟩
end Go.Proofs.Ytghhijliamnmiaa

