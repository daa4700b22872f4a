import Derived.Test.YtglbjimpaoikfaaHe29
import Derived.Test.YtglbjimpaoikfaaHe30
/- Same of txn and of the document, SameReply, SameCall: alike ones are alike. -/
namespace Go.Proofs.Ytglbjimpaoikfaa
open Go.RowKit LeaseMath
set_option maxRecDepth 100000
set_option linter.unusedSimpArgs false
set_option linter.unusedVariables false

@[go_sem high] theorem eqIn_id (w : World) (c : Int) (q : Nat) : (Op.equalIn 10000 24 (.agg #[.int .i64 c, .int .u64 (q : Int)]) (.agg #[.int .i64 c, .int .u64 (q : Int)])).run Try.prog w = .ok true w := by
  have u4 := Try.underlying3
  have a4 := Try.isAgg3
  have z4 := Try.sizeOf3
  have u5 := Try.underlying22
  have a5 := Try.isAgg22
  have z5 := Try.sizeOf22
  have hS2 : Try.prog.underlying 24 = some (.struct (Try.prog.fieldsOf 24)) := by kernel_rfl
  have hp2 : Try.prog.stoodInHeld 24 = false := by kernel_rfl
  rw [show (10000 : Nat) = 9999 + 1 from rfl, run_equalIn_agg w 9999 24 _ _ hS2 hp2]
  simp only [Program.fieldsOf, Try.underlying24]
  go_simp
end Go.Proofs.Ytglbjimpaoikfaa

/- own of txn; a record's eleven cells stored. -/
namespace Go.Proofs.Ytglbjimpaoikfaa
open Go.RowKit LeaseMath
set_option maxRecDepth 100000
set_option linter.unusedSimpArgs false
set_option linter.unusedVariables false

def set11 (w : World) (g : Nat) (a0 a1 a2 a3 a4 a5 a6 a7 a8 a9 a10 : Value) : World := ((((((((((w.setCell ⟨g, 0, none⟩ a0).setCell ⟨g, 1, none⟩ a1).setCell ⟨g, 2, none⟩ a2).setCell ⟨g, 3, none⟩ a3).setCell ⟨g, 4, none⟩ a4).setCell ⟨g, 5, none⟩ a5).setCell ⟨g, 6, none⟩ a6).setCell ⟨g, 7, none⟩ a7).setCell ⟨g, 8, none⟩ a8).setCell ⟨g, 9, none⟩ a9).setCell ⟨g, 10, none⟩ a10
theorem set11_block {w : World} {g : Nat} {b0 b1 b2 b3 b4 b5 b6 b7 b8 b9 b10 : Value} {t : TypeId} (h : w.heap[g]? = some (.cells #[b0, b1, b2, b3, b4, b5, b6, b7, b8, b9, b10] t (0, 0))) (a0 a1 a2 a3 a4 a5 a6 a7 a8 a9 a10 : Value) : (set11 w g a0 a1 a2 a3 a4 a5 a6 a7 a8 a9 a10).heap[g]? = some (.cells #[a0, a1, a2, a3, a4, a5, a6, a7, a8, a9, a10] t (0, 0)) := by
  unfold set11
  rw [set_block (set_block (set_block (set_block (set_block (set_block (set_block (set_block (set_block (set_block (set_block h _) _) _) _) _) _) _) _) _) _) _]
  simp
theorem set11_below {n g : Nat} {w0 w : World} (a0 a1 a2 a3 a4 a5 a6 a7 a8 a9 a10 : Value) (hB : Below n w0 w) (hn : n ≤ g) : Below n w0 (set11 w g a0 a1 a2 a3 a4 a5 a6 a7 a8 a9 a10) := ((((((((((hB.setCell (p := ⟨g, 0, none⟩) hn _).setCell (p := ⟨g, 1, none⟩) hn _).setCell (p := ⟨g, 2, none⟩) hn _).setCell (p := ⟨g, 3, none⟩) hn _).setCell (p := ⟨g, 4, none⟩) hn _).setCell (p := ⟨g, 5, none⟩) hn _).setCell (p := ⟨g, 6, none⟩) hn _).setCell (p := ⟨g, 7, none⟩) hn _).setCell (p := ⟨g, 8, none⟩) hn _).setCell (p := ⟨g, 9, none⟩) hn _).setCell (p := ⟨g, 10, none⟩) hn _
theorem set11_other {w : World} {g k : Nat} (a0 a1 a2 a3 a4 a5 a6 a7 a8 a9 a10 : Value) (h : k ≠ g) : (set11 w g a0 a1 a2 a3 a4 a5 a6 a7 a8 a9 a10).heap[k]? = w.heap[k]? := by
  unfold set11
  simp only [set_other h]
theorem f_cells11 {w : World} {g : Nat} {b0 b1 b2 b3 b4 b5 b6 b7 b8 b9 b10 : Value} {t : TypeId} (h : w.heap[g]? = some (.cells #[b0, b1, b2, b3, b4, b5, b6, b7, b8, b9, b10] t (0, 0))) : (w.frozen? ⟨g, 0, none⟩ = false ∧ w.frozen? ⟨g, 1, none⟩ = false ∧ w.frozen? ⟨g, 2, none⟩ = false ∧ w.frozen? ⟨g, 3, none⟩ = false ∧ w.frozen? ⟨g, 4, none⟩ = false ∧ w.frozen? ⟨g, 5, none⟩ = false ∧ w.frozen? ⟨g, 6, none⟩ = false ∧ w.frozen? ⟨g, 7, none⟩ = false ∧ w.frozen? ⟨g, 8, none⟩ = false ∧ w.frozen? ⟨g, 9, none⟩ = false ∧ w.frozen? ⟨g, 10, none⟩ = false) := ⟨frozen_of h 0, frozen_of h 1, frozen_of h 2, frozen_of h 3, frozen_of h 4, frozen_of h 5, frozen_of h 6, frozen_of h 7, frozen_of h 8, frozen_of h 9, frozen_of h 10⟩
theorem results_tx {fn : Func} {p : Tmp} (h : fn.results = #[.cell p 29]) (tmps : Array Value) (w : World) (g : Nat) (a0 a1 a2 a3 a4 a5 a6 a7 a8 a9 a10 : Value)
    (hp : tmps.getD p undef = .pointer (some ⟨g, 0, none⟩)) (hg : w.heap[g]? = some (.cells #[a0, a1, a2, a3, a4, a5, a6, a7, a8, a9, a10] 29 (0, 0))) :
    (results fn tmps).run Try.prog w = .ok (.agg #[a0, a1, a2, a3, a4, a5, a6, a7, a8, a9, a10]) w := by
  have hp' : tmps[p]?.getD undef = .pointer (some ⟨g, 0, none⟩) := by simpa using hp
  simp [results, h, hp', asAddr, run_loadVar_row w g 29 29 #[a0, a1, a2, a3, a4, a5, a6, a7, a8, a9, a10] (0, 0) _ hg Try.underlying29 rfl (by kernel_rfl)]
theorem results_txe {fn : Func} {p u : Tmp} (h : fn.results = #[.cell p 29, .tmp u]) (tmps : Array Value) (w : World) (g : Nat) (a0 a1 a2 a3 a4 a5 a6 a7 a8 a9 a10 : Value)
    (hp : tmps.getD p undef = .pointer (some ⟨g, 0, none⟩)) (hg : w.heap[g]? = some (.cells #[a0, a1, a2, a3, a4, a5, a6, a7, a8, a9, a10] 29 (0, 0))) :
    (results fn tmps).run Try.prog w = .ok (.tuple #[.agg #[a0, a1, a2, a3, a4, a5, a6, a7, a8, a9, a10], tmps.getD u undef]) w := by
  have hp' : tmps[p]?.getD undef = .pointer (some ⟨g, 0, none⟩) := by simpa using hp
  simp [results, h, hp', asAddr, run_loadVar_row w g 29 29 #[a0, a1, a2, a3, a4, a5, a6, a7, a8, a9, a10] (0, 0) _ hg Try.underlying29 rfl (by kernel_rfl)]
/-- A record of one's own from block n on. -/
def XO (n : Nat) (w : World) (z : Xz) : Prop := Ow kyE 9 n w (.slice z.k.1 z.t.keys.length z.k.2) z.t.keys ∧ Ow intE 3 n w (.slice z.g.1 z.t.groups.length z.g.2) z.t.groups ∧ Ow intE 3 n w (.slice z.y.1 z.t.yes.length z.y.2) z.t.yes ∧ Ow intE 3 n w (.slice z.d.1 z.t.done.length z.d.2) z.t.done
theorem XO.xr {n : Nat} {w : World} {z : Xz} (h : XO n w z) : XR w z := ⟨h.1.1.rd, h.2.1.1.rd, h.2.2.1.1.rd, h.2.2.2.1.rd⟩
theorem XO.below {n : Nat} {w w' : World} {z : Xz} (h : XO n w z) (hb : Below w.heap.size w w') : XO n w' z := ⟨h.1.below hb, h.2.1.below hb, h.2.2.1.below hb, h.2.2.2.below hb⟩
theorem XO.mono {n m : Nat} {w : World} {z : Xz} (h : XO n w z) (hm : m ≤ n) : XO m w z := ⟨h.1.mono hm, h.2.1.mono hm, h.2.2.1.mono hm, h.2.2.2.mono hm⟩
set_option maxHeartbeats 8000000 in
theorem own_of (z : Xz) (w : World) (hR : XR w z) (gk : z.t.keys.length ≤ 1000000) (g1 : z.t.groups.length ≤ 1000000) (g2 : z.t.yes.length ≤ 1000000) (g3 : z.t.done.length ≤ 1000000) : Calls Try.prog 46 #[xv z] w fun e w' => (∃ k g y d : Sa, e = .returned (xv ⟨z.t, k, g, y, d⟩) ∧ XO w.heap.size w' ⟨z.t, k, g, y, d⟩) ∧ Below w.heap.size w w' := by
  obtain ⟨q1, q2, q3, q4⟩ := two_boxesX w (xc z) (.cells #[.int .i64 0, .int .u64 0, .int .i64 0, .slice none 0 0, .int .u64 0, .int .i64 0, .slice none 0 0, .int .i64 0, .slice none 0 0, .slice none 0 0, .int .i64 0] 29)
  obtain ⟨w0, hw0⟩ : ∃ W, (w.alloc (xc z)).alloc (.cells #[.int .i64 0, .int .u64 0, .int .i64 0, .slice none 0 0, .int .u64 0, .int .i64 0, .slice none 0 0, .int .i64 0, .slice none 0 0, .slice none 0 0, .int .i64 0] 29) = W := ⟨_, rfl⟩
  rw [hw0] at q1 q2 q3 q4
  have k1 : Hid (∀ W, Below w.heap.size w W → _) := fun W hW => clonek_of z.t.keys _ W (hR.1.below hW) gk
  have k2 : Hid (∀ W, Below w.heap.size w W → _) := fun W hW => clonei_of z.t.groups _ W (hR.2.1.below hW) g1
  have k3 : Hid (∀ W, Below w.heap.size w W → _) := fun W hW => clonei_of z.t.yes _ W (hR.2.2.1.below hW) g2
  have k4 : Hid (∀ W, Below w.heap.size w W → _) := fun W hW => clonei_of z.t.done _ W (hR.2.2.2.below hW) g3
  obtain ⟨⟨⟨i1, i2⟩, kd, ks, tk, tt, gs, st, ys, ds, cd⟩, ⟨ka, kc⟩, ⟨ga, gc⟩, ⟨ya, yc⟩, ⟨da, dc⟩⟩ := z
  dsimp only [xv, xc] at *
  obtain ⟨c0, c1, c2, c3, c4, c5, c6, c7, c8, c9, c10⟩ := cells11 q2
  have hz0 : w.heap.size + 2 ≤ w0.heap.size := by omega
  clear hR gk g1 g2 g3 q1
  go_enter Try.func46, Try.ntmps46
  go_wp2_with fail
  refine (k1.out _ q4).mono ?_
  rintro e v0 ⟨u, rfl, O0, hbc⟩
  obtain ⟨ka', kc', rfl, -, -⟩ := O0.1.rd.shape
  have x0 := (hbc.block w.heap.size (by omega)).trans q2
  have y0 := (hbc.block (w.heap.size + 1) (by omega)).trans q3
  have b0 := q4.trans (hbc.mono q4.size)
  have z0 := Nat.le_trans hz0 hbc.size
  replace O0 := O0.mono q4.size
  obtain ⟨f0, f1, f2, f3, f4, f5, f6, f7, f8, f9, f10⟩ := f_cells11 x0
  obtain ⟨c0, c1, c2, c3, c4, c5, c6, c7, c8, c9, c10⟩ := cells11 x0
  have X0 := set_block x0 (j := 3) (.slice ka' ks.length kc')
  have Y0 : (v0.setCell ⟨w.heap.size, 3, none⟩ (.slice ka' ks.length kc')).heap[w.heap.size + 1]? = _ := (set_other (by omega)).trans y0
  have B0 := b0.setCell (p := ⟨w.heap.size, 3, none⟩) (Nat.le_refl _) (.slice ka' ks.length kc')
  have Q0 := ow_set1 (g := w.heap.size) (j := 3) O0 x0 (by decide) (.slice ka' ks.length kc')
  have Z0 : w.heap.size + 2 ≤ (v0.setCell ⟨w.heap.size, 3, none⟩ (.slice ka' ks.length kc')).heap.size := Nat.le_trans z0 (((Below.refl 0 v0).setCell (p := ⟨w.heap.size, 3, none⟩) (Nat.zero_le _) (.slice ka' ks.length kc')).size)
  obtain ⟨V0, hV0⟩ : ∃ W, v0.setCell ⟨w.heap.size, 3, none⟩ (.slice ka' ks.length kc') = W := ⟨_, rfl⟩
  rw [hV0] at X0 Y0 B0 Z0 Q0
  simp only [List.setIfInBounds_toArray, List.set_cons_zero, List.set_cons_succ] at X0
  clear hbc b0 z0 y0 x0 O0
  obtain ⟨d0, d1, d2, d3, d4, d5, d6, d7, d8, d9, d10⟩ := cells11 X0
  go_wp2_with fail
  refine (k2.out _ B0).mono ?_
  rintro e v1 ⟨u, rfl, O1, hbc⟩
  obtain ⟨ga', gc', rfl, -, -⟩ := O1.1.rd.shape
  have x1 := (hbc.block w.heap.size (by omega)).trans X0
  have y1 := (hbc.block (w.heap.size + 1) (by omega)).trans Y0
  have b1 := B0.trans (hbc.mono B0.size)
  have z1 := Nat.le_trans Z0 hbc.size
  replace O1 := O1.mono B0.size
  have P0_1 := Q0.below hbc
  obtain ⟨f0, f1, f2, f3, f4, f5, f6, f7, f8, f9, f10⟩ := f_cells11 x1
  obtain ⟨c0, c1, c2, c3, c4, c5, c6, c7, c8, c9, c10⟩ := cells11 x1
  have X1 := set_block x1 (j := 6) (.slice ga' gs.length gc')
  have Y1 : (v1.setCell ⟨w.heap.size, 6, none⟩ (.slice ga' gs.length gc')).heap[w.heap.size + 1]? = _ := (set_other (by omega)).trans y1
  have B1 := b1.setCell (p := ⟨w.heap.size, 6, none⟩) (Nat.le_refl _) (.slice ga' gs.length gc')
  have Q1 := ow_set1 (g := w.heap.size) (j := 6) O1 x1 (by decide) (.slice ga' gs.length gc')
  have R0_1 := ow_set1 (g := w.heap.size) (j := 6) P0_1 x1 (by decide) (.slice ga' gs.length gc')
  have Z1 : w.heap.size + 2 ≤ (v1.setCell ⟨w.heap.size, 6, none⟩ (.slice ga' gs.length gc')).heap.size := Nat.le_trans z1 (((Below.refl 0 v1).setCell (p := ⟨w.heap.size, 6, none⟩) (Nat.zero_le _) (.slice ga' gs.length gc')).size)
  obtain ⟨V1, hV1⟩ : ∃ W, v1.setCell ⟨w.heap.size, 6, none⟩ (.slice ga' gs.length gc') = W := ⟨_, rfl⟩
  rw [hV1] at X1 Y1 B1 Z1 R0_1 Q1
  simp only [List.setIfInBounds_toArray, List.set_cons_zero, List.set_cons_succ] at X1
  clear hbc b1 z1 y1 x1 O1
  obtain ⟨d0, d1, d2, d3, d4, d5, d6, d7, d8, d9, d10⟩ := cells11 X1
  go_wp2_with fail
  refine (k3.out _ B1).mono ?_
  rintro e v2 ⟨u, rfl, O2, hbc⟩
  obtain ⟨ya', yc', rfl, -, -⟩ := O2.1.rd.shape
  have x2 := (hbc.block w.heap.size (by omega)).trans X1
  have y2 := (hbc.block (w.heap.size + 1) (by omega)).trans Y1
  have b2 := B1.trans (hbc.mono B1.size)
  have z2 := Nat.le_trans Z1 hbc.size
  replace O2 := O2.mono B1.size
  have P0_2 := R0_1.below hbc
  have P1_2 := Q1.below hbc
  obtain ⟨f0, f1, f2, f3, f4, f5, f6, f7, f8, f9, f10⟩ := f_cells11 x2
  obtain ⟨c0, c1, c2, c3, c4, c5, c6, c7, c8, c9, c10⟩ := cells11 x2
  have X2 := set_block x2 (j := 8) (.slice ya' ys.length yc')
  have Y2 : (v2.setCell ⟨w.heap.size, 8, none⟩ (.slice ya' ys.length yc')).heap[w.heap.size + 1]? = _ := (set_other (by omega)).trans y2
  have B2 := b2.setCell (p := ⟨w.heap.size, 8, none⟩) (Nat.le_refl _) (.slice ya' ys.length yc')
  have Q2 := ow_set1 (g := w.heap.size) (j := 8) O2 x2 (by decide) (.slice ya' ys.length yc')
  have R0_2 := ow_set1 (g := w.heap.size) (j := 8) P0_2 x2 (by decide) (.slice ya' ys.length yc')
  have R1_2 := ow_set1 (g := w.heap.size) (j := 8) P1_2 x2 (by decide) (.slice ya' ys.length yc')
  have Z2 : w.heap.size + 2 ≤ (v2.setCell ⟨w.heap.size, 8, none⟩ (.slice ya' ys.length yc')).heap.size := Nat.le_trans z2 (((Below.refl 0 v2).setCell (p := ⟨w.heap.size, 8, none⟩) (Nat.zero_le _) (.slice ya' ys.length yc')).size)
  obtain ⟨V2, hV2⟩ : ∃ W, v2.setCell ⟨w.heap.size, 8, none⟩ (.slice ya' ys.length yc') = W := ⟨_, rfl⟩
  rw [hV2] at X2 Y2 B2 Z2 R0_2 R1_2 Q2
  simp only [List.setIfInBounds_toArray, List.set_cons_zero, List.set_cons_succ] at X2
  clear hbc b2 z2 y2 x2 O2
  obtain ⟨d0, d1, d2, d3, d4, d5, d6, d7, d8, d9, d10⟩ := cells11 X2
  go_wp2_with fail
  refine (k4.out _ B2).mono ?_
  rintro e v3 ⟨u, rfl, O3, hbc⟩
  obtain ⟨da', dc', rfl, -, -⟩ := O3.1.rd.shape
  have x3 := (hbc.block w.heap.size (by omega)).trans X2
  have y3 := (hbc.block (w.heap.size + 1) (by omega)).trans Y2
  have b3 := B2.trans (hbc.mono B2.size)
  have z3 := Nat.le_trans Z2 hbc.size
  replace O3 := O3.mono B2.size
  have P0_3 := R0_2.below hbc
  have P1_3 := R1_2.below hbc
  have P2_3 := Q2.below hbc
  obtain ⟨f0, f1, f2, f3, f4, f5, f6, f7, f8, f9, f10⟩ := f_cells11 x3
  obtain ⟨c0, c1, c2, c3, c4, c5, c6, c7, c8, c9, c10⟩ := cells11 x3
  have X3 := set_block x3 (j := 9) (.slice da' ds.length dc')
  have Y3 : (v3.setCell ⟨w.heap.size, 9, none⟩ (.slice da' ds.length dc')).heap[w.heap.size + 1]? = _ := (set_other (by omega)).trans y3
  have B3 := b3.setCell (p := ⟨w.heap.size, 9, none⟩) (Nat.le_refl _) (.slice da' ds.length dc')
  have Q3 := ow_set1 (g := w.heap.size) (j := 9) O3 x3 (by decide) (.slice da' ds.length dc')
  have R0_3 := ow_set1 (g := w.heap.size) (j := 9) P0_3 x3 (by decide) (.slice da' ds.length dc')
  have R1_3 := ow_set1 (g := w.heap.size) (j := 9) P1_3 x3 (by decide) (.slice da' ds.length dc')
  have R2_3 := ow_set1 (g := w.heap.size) (j := 9) P2_3 x3 (by decide) (.slice da' ds.length dc')
  have Z3 : w.heap.size + 2 ≤ (v3.setCell ⟨w.heap.size, 9, none⟩ (.slice da' ds.length dc')).heap.size := Nat.le_trans z3 (((Below.refl 0 v3).setCell (p := ⟨w.heap.size, 9, none⟩) (Nat.zero_le _) (.slice da' ds.length dc')).size)
  obtain ⟨V3, hV3⟩ : ∃ W, v3.setCell ⟨w.heap.size, 9, none⟩ (.slice da' ds.length dc') = W := ⟨_, rfl⟩
  rw [hV3] at X3 Y3 B3 Z3 R0_3 R1_3 R2_3 Q3
  simp only [List.setIfInBounds_toArray, List.set_cons_zero, List.set_cons_succ] at X3
  clear hbc b3 z3 y3 x3 O3
  obtain ⟨d0, d1, d2, d3, d4, d5, d6, d7, d8, d9, d10⟩ := cells11 X3
  obtain ⟨g0, g1, g2, g3, g4, g5, g6, g7, g8, g9, g10⟩ := f_cells11 Y3
  obtain ⟨e0, e1, e2, e3, e4, e5, e6, e7, e8, e9, e10⟩ := cells11 Y3
  have S := set11_block Y3 (.int .i64 i1) (.int .u64 (i2 : Int)) (.int .i64 kd) (.slice ka' ks.length kc') (.int .u64 (tk : Int)) (.int .i64 tt) (.slice ga' gs.length gc') (.int .i64 st) (.slice ya' ys.length yc') (.slice da' ds.length dc') (.int .i64 cd)
  have SB := set11_below (.int .i64 i1) (.int .u64 (i2 : Int)) (.int .i64 kd) (.slice ka' ks.length kc') (.int .u64 (tk : Int)) (.int .i64 tt) (.slice ga' gs.length gc') (.int .i64 st) (.slice ya' ys.length yc') (.slice da' ds.length dc') (.int .i64 cd) (g := w.heap.size + 1) B3 (Nat.le_succ _)
  have F0 := Ow.at_other R0_3 Y3 (by decide) (fun k hk => set11_other (.int .i64 i1) (.int .u64 (i2 : Int)) (.int .i64 kd) (.slice ka' ks.length kc') (.int .u64 (tk : Int)) (.int .i64 tt) (.slice ga' gs.length gc') (.int .i64 st) (.slice ya' ys.length yc') (.slice da' ds.length dc') (.int .i64 cd) hk)
  have F1 := Ow.at_other R1_3 Y3 (by decide) (fun k hk => set11_other (.int .i64 i1) (.int .u64 (i2 : Int)) (.int .i64 kd) (.slice ka' ks.length kc') (.int .u64 (tk : Int)) (.int .i64 tt) (.slice ga' gs.length gc') (.int .i64 st) (.slice ya' ys.length yc') (.slice da' ds.length dc') (.int .i64 cd) hk)
  have F2 := Ow.at_other R2_3 Y3 (by decide) (fun k hk => set11_other (.int .i64 i1) (.int .u64 (i2 : Int)) (.int .i64 kd) (.slice ka' ks.length kc') (.int .u64 (tk : Int)) (.int .i64 tt) (.slice ga' gs.length gc') (.int .i64 st) (.slice ya' ys.length yc') (.slice da' ds.length dc') (.int .i64 cd) hk)
  have F3 := Ow.at_other Q3 Y3 (by decide) (fun k hk => set11_other (.int .i64 i1) (.int .u64 (i2 : Int)) (.int .i64 kd) (.slice ka' ks.length kc') (.int .u64 (tk : Int)) (.int .i64 tt) (.slice ga' gs.length gc') (.int .i64 st) (.slice ya' ys.length yc') (.slice da' ds.length dc') (.int .i64 cd) hk)
  have HF : Hid _ := (⟨F0, F1, F2, F3⟩ : _ ∧ _ ∧ _ ∧ _)
  have HSB : Hid _ := SB
  have HS : Hid _ := S
  clear F0 F1 F2 F3 S SB X3 Y3 B3 Z3 R0_3 R1_3 R2_3 Q3
  go_wp2
  refine bodyPost_ret (results_tx rfl _ _ (w.heap.size + 1) _ _ _ _ _ _ _ _ _ _ _ rfl HS.out) rfl ?_
  exact ⟨⟨(ka', kc'), (ga', gc'), (ya', yc'), (da', dc'), rfl, HF.out⟩, HSB.out⟩
end Go.Proofs.Ytglbjimpaoikfaa

