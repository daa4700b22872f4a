import Derived.Test.YtglbjimpaoikfaaHe36
/- own of txn: its new rows lie in blocks apart. -/
namespace Go.Proofs.Ytglbjimpaoikfaa
open Go.RowKit LeaseMath
set_option maxRecDepth 100000
set_option linter.unusedSimpArgs false
set_option linter.unusedVariables false

def Apart (z : Xz) : Prop := (∀ k, (Value.slice z.y.1 z.t.yes.length z.y.2).ownBlock = some k → (Value.slice z.g.1 z.t.groups.length z.g.2).ownBlock ≠ some k) ∧ (∀ k, (Value.slice z.d.1 z.t.done.length z.d.2).ownBlock = some k → (Value.slice z.y.1 z.t.yes.length z.y.2).ownBlock ≠ some k) ∧ ∀ k, (Value.slice z.d.1 z.t.done.length z.d.2).ownBlock = some k → (Value.slice z.g.1 z.t.groups.length z.g.2).ownBlock ≠ some k
set_option maxHeartbeats 8000000 in
theorem own2_of (z : Xz) (w : World) (hR : XR w z) (gk : z.t.keys.length ≤ 1000000) (g1 : z.t.groups.length ≤ 1000000) (g2 : z.t.yes.length ≤ 1000000) (g3 : z.t.done.length ≤ 1000000) : Calls Try.prog 46 #[xv z] w fun e w' => (∃ k g y d : Sa, e = .returned (xv ⟨z.t, k, g, y, d⟩) ∧ XO w.heap.size w' ⟨z.t, k, g, y, d⟩ ∧ Apart ⟨z.t, k, g, y, d⟩) ∧ Below w.heap.size w w' := by
  obtain ⟨q1, q2, q3, q4⟩ := two_boxesX w (xc z) (.cells #[.int .i64 0, .int .u64 0, .int .i64 0, .slice none 0 0, .int .u64 0, .int .i64 0, .slice none 0 0, .int .i64 0, .slice none 0 0, .slice none 0 0, .int .i64 0] 29)
  obtain ⟨w0, hw0⟩ : ∃ W, (w.alloc (xc z)).alloc (.cells #[.int .i64 0, .int .u64 0, .int .i64 0, .slice none 0 0, .int .u64 0, .int .i64 0, .slice none 0 0, .int .i64 0, .slice none 0 0, .slice none 0 0, .int .i64 0] 29) = W := ⟨_, rfl⟩
  rw [hw0] at q1 q2 q3 q4
  have k1 : Hid (∀ W, Below w.heap.size w W → _) := fun W hW => clonek_of z.t.keys _ W (hR.1.below hW) gk
  have k2 : Hid (∀ W, Below w.heap.size w W → _) := fun W hW => clonei_of z.t.groups _ W (hR.2.1.below hW) g1
  have k3 : Hid (∀ W, Below w.heap.size w W → _) := fun W hW => clonei_of z.t.yes _ W (hR.2.2.1.below hW) g2
  have k4 : Hid (∀ W, Below w.heap.size w W → _) := fun W hW => clonei_of z.t.done _ W (hR.2.2.2.below hW) g3
  obtain ⟨⟨⟨i1, i2⟩, kd, ks, tk, tt, gs, st, ys, ds, cd⟩, ⟨ka, kc⟩, ⟨ga, gc⟩, ⟨ya, yc⟩, ⟨da, dc⟩⟩ := z
  dsimp only [xv, xc] at *
  obtain ⟨c0, c1, c2, c3, c4, c5, c6, c7, c8, c9, c10⟩ := cells11 q2
  have hz0 : w.heap.size + 2 ≤ w0.heap.size := by omega
  clear hR gk g1 g2 g3 q1
  go_enter Try.func46, Try.ntmps46
  go_wp2_with fail
  refine (k1.out _ q4).mono ?_
  rintro e v0 ⟨u, rfl, O0, hbc⟩
  obtain ⟨ka', kc', rfl, -, -⟩ := O0.1.rd.shape
  have x0 := (hbc.block w.heap.size (by omega)).trans q2
  have y0 := (hbc.block (w.heap.size + 1) (by omega)).trans q3
  have b0 := q4.trans (hbc.mono q4.size)
  have z0 := Nat.le_trans hz0 hbc.size
  replace O0 := O0.mono q4.size
  obtain ⟨f0, f1, f2, f3, f4, f5, f6, f7, f8, f9, f10⟩ := f_cells11 x0
  obtain ⟨c0, c1, c2, c3, c4, c5, c6, c7, c8, c9, c10⟩ := cells11 x0
  have X0 := set_block x0 (j := 3) (.slice ka' ks.length kc')
  have Y0 : (v0.setCell ⟨w.heap.size, 3, none⟩ (.slice ka' ks.length kc')).heap[w.heap.size + 1]? = _ := (set_other (by omega)).trans y0
  have B0 := b0.setCell (p := ⟨w.heap.size, 3, none⟩) (Nat.le_refl _) (.slice ka' ks.length kc')
  have Q0 := ow_set1 (g := w.heap.size) (j := 3) O0 x0 (by decide) (.slice ka' ks.length kc')
  have Z0 : w.heap.size + 2 ≤ (v0.setCell ⟨w.heap.size, 3, none⟩ (.slice ka' ks.length kc')).heap.size := Nat.le_trans z0 (((Below.refl 0 v0).setCell (p := ⟨w.heap.size, 3, none⟩) (Nat.zero_le _) (.slice ka' ks.length kc')).size)
  obtain ⟨V0, hV0⟩ : ∃ W, v0.setCell ⟨w.heap.size, 3, none⟩ (.slice ka' ks.length kc') = W := ⟨_, rfl⟩
  rw [hV0] at X0 Y0 B0 Z0 Q0
  simp only [List.setIfInBounds_toArray, List.set_cons_zero, List.set_cons_succ] at X0
  clear hbc b0 z0 y0 x0 O0
  obtain ⟨d0, d1, d2, d3, d4, d5, d6, d7, d8, d9, d10⟩ := cells11 X0
  go_wp2_with fail
  refine (k2.out _ B0).mono ?_
  rintro e v1 ⟨u, rfl, O1, hbc⟩
  obtain ⟨ga', gc', rfl, -, -⟩ := O1.1.rd.shape
  have x1 := (hbc.block w.heap.size (by omega)).trans X0
  have y1 := (hbc.block (w.heap.size + 1) (by omega)).trans Y0
  have b1 := B0.trans (hbc.mono B0.size)
  have z1 := Nat.le_trans Z0 hbc.size
  replace O1 := O1.mono B0.size
  have P0_1 := Q0.below hbc
  obtain ⟨f0, f1, f2, f3, f4, f5, f6, f7, f8, f9, f10⟩ := f_cells11 x1
  obtain ⟨c0, c1, c2, c3, c4, c5, c6, c7, c8, c9, c10⟩ := cells11 x1
  have X1 := set_block x1 (j := 6) (.slice ga' gs.length gc')
  have Y1 : (v1.setCell ⟨w.heap.size, 6, none⟩ (.slice ga' gs.length gc')).heap[w.heap.size + 1]? = _ := (set_other (by omega)).trans y1
  have B1 := b1.setCell (p := ⟨w.heap.size, 6, none⟩) (Nat.le_refl _) (.slice ga' gs.length gc')
  have Q1 := ow_set1 (g := w.heap.size) (j := 6) O1 x1 (by decide) (.slice ga' gs.length gc')
  have R0_1 := ow_set1 (g := w.heap.size) (j := 6) P0_1 x1 (by decide) (.slice ga' gs.length gc')
  have Z1 : w.heap.size + 2 ≤ (v1.setCell ⟨w.heap.size, 6, none⟩ (.slice ga' gs.length gc')).heap.size := Nat.le_trans z1 (((Below.refl 0 v1).setCell (p := ⟨w.heap.size, 6, none⟩) (Nat.zero_le _) (.slice ga' gs.length gc')).size)
  obtain ⟨V1, hV1⟩ : ∃ W, v1.setCell ⟨w.heap.size, 6, none⟩ (.slice ga' gs.length gc') = W := ⟨_, rfl⟩
  rw [hV1] at X1 Y1 B1 Z1 R0_1 Q1
  simp only [List.setIfInBounds_toArray, List.set_cons_zero, List.set_cons_succ] at X1
  clear hbc b1 z1 y1 x1 O1
  obtain ⟨d0, d1, d2, d3, d4, d5, d6, d7, d8, d9, d10⟩ := cells11 X1
  go_wp2_with fail
  refine (k3.out _ B1).mono ?_
  rintro e v2 ⟨u, rfl, O2, hbc⟩
  obtain ⟨ya', yc', rfl, -, -⟩ := O2.1.rd.shape
  have D21 : Hid (∀ k, (Value.slice ya' ys.length yc').ownBlock = some k → (Value.slice ga' gs.length gc').ownBlock ≠ some k) := fun k h1 h2 => by have a := O2.2 k h1; have b := Q1.1.lt h2; omega
  have x2 := (hbc.block w.heap.size (by omega)).trans X1
  have y2 := (hbc.block (w.heap.size + 1) (by omega)).trans Y1
  have b2 := B1.trans (hbc.mono B1.size)
  have z2 := Nat.le_trans Z1 hbc.size
  replace O2 := O2.mono B1.size
  have P0_2 := R0_1.below hbc
  have P1_2 := Q1.below hbc
  obtain ⟨f0, f1, f2, f3, f4, f5, f6, f7, f8, f9, f10⟩ := f_cells11 x2
  obtain ⟨c0, c1, c2, c3, c4, c5, c6, c7, c8, c9, c10⟩ := cells11 x2
  have X2 := set_block x2 (j := 8) (.slice ya' ys.length yc')
  have Y2 : (v2.setCell ⟨w.heap.size, 8, none⟩ (.slice ya' ys.length yc')).heap[w.heap.size + 1]? = _ := (set_other (by omega)).trans y2
  have B2 := b2.setCell (p := ⟨w.heap.size, 8, none⟩) (Nat.le_refl _) (.slice ya' ys.length yc')
  have Q2 := ow_set1 (g := w.heap.size) (j := 8) O2 x2 (by decide) (.slice ya' ys.length yc')
  have R0_2 := ow_set1 (g := w.heap.size) (j := 8) P0_2 x2 (by decide) (.slice ya' ys.length yc')
  have R1_2 := ow_set1 (g := w.heap.size) (j := 8) P1_2 x2 (by decide) (.slice ya' ys.length yc')
  have Z2 : w.heap.size + 2 ≤ (v2.setCell ⟨w.heap.size, 8, none⟩ (.slice ya' ys.length yc')).heap.size := Nat.le_trans z2 (((Below.refl 0 v2).setCell (p := ⟨w.heap.size, 8, none⟩) (Nat.zero_le _) (.slice ya' ys.length yc')).size)
  obtain ⟨V2, hV2⟩ : ∃ W, v2.setCell ⟨w.heap.size, 8, none⟩ (.slice ya' ys.length yc') = W := ⟨_, rfl⟩
  rw [hV2] at X2 Y2 B2 Z2 R0_2 R1_2 Q2
  simp only [List.setIfInBounds_toArray, List.set_cons_zero, List.set_cons_succ] at X2
  clear hbc b2 z2 y2 x2 O2
  obtain ⟨d0, d1, d2, d3, d4, d5, d6, d7, d8, d9, d10⟩ := cells11 X2
  go_wp2_with fail
  refine (k4.out _ B2).mono ?_
  rintro e v3 ⟨u, rfl, O3, hbc⟩
  obtain ⟨da', dc', rfl, -, -⟩ := O3.1.rd.shape
  have D31 : Hid (∀ k, (Value.slice da' ds.length dc').ownBlock = some k → (Value.slice ga' gs.length gc').ownBlock ≠ some k) := fun k h1 h2 => by have a := O3.2 k h1; have b := R1_2.1.lt h2; omega
  have D32 : Hid (∀ k, (Value.slice da' ds.length dc').ownBlock = some k → (Value.slice ya' ys.length yc').ownBlock ≠ some k) := fun k h1 h2 => by have a := O3.2 k h1; have b := Q2.1.lt h2; omega
  have x3 := (hbc.block w.heap.size (by omega)).trans X2
  have y3 := (hbc.block (w.heap.size + 1) (by omega)).trans Y2
  have b3 := B2.trans (hbc.mono B2.size)
  have z3 := Nat.le_trans Z2 hbc.size
  replace O3 := O3.mono B2.size
  have P0_3 := R0_2.below hbc
  have P1_3 := R1_2.below hbc
  have P2_3 := Q2.below hbc
  obtain ⟨f0, f1, f2, f3, f4, f5, f6, f7, f8, f9, f10⟩ := f_cells11 x3
  obtain ⟨c0, c1, c2, c3, c4, c5, c6, c7, c8, c9, c10⟩ := cells11 x3
  have X3 := set_block x3 (j := 9) (.slice da' ds.length dc')
  have Y3 : (v3.setCell ⟨w.heap.size, 9, none⟩ (.slice da' ds.length dc')).heap[w.heap.size + 1]? = _ := (set_other (by omega)).trans y3
  have B3 := b3.setCell (p := ⟨w.heap.size, 9, none⟩) (Nat.le_refl _) (.slice da' ds.length dc')
  have Q3 := ow_set1 (g := w.heap.size) (j := 9) O3 x3 (by decide) (.slice da' ds.length dc')
  have R0_3 := ow_set1 (g := w.heap.size) (j := 9) P0_3 x3 (by decide) (.slice da' ds.length dc')
  have R1_3 := ow_set1 (g := w.heap.size) (j := 9) P1_3 x3 (by decide) (.slice da' ds.length dc')
  have R2_3 := ow_set1 (g := w.heap.size) (j := 9) P2_3 x3 (by decide) (.slice da' ds.length dc')
  have Z3 : w.heap.size + 2 ≤ (v3.setCell ⟨w.heap.size, 9, none⟩ (.slice da' ds.length dc')).heap.size := Nat.le_trans z3 (((Below.refl 0 v3).setCell (p := ⟨w.heap.size, 9, none⟩) (Nat.zero_le _) (.slice da' ds.length dc')).size)
  obtain ⟨V3, hV3⟩ : ∃ W, v3.setCell ⟨w.heap.size, 9, none⟩ (.slice da' ds.length dc') = W := ⟨_, rfl⟩
  rw [hV3] at X3 Y3 B3 Z3 R0_3 R1_3 R2_3 Q3
  simp only [List.setIfInBounds_toArray, List.set_cons_zero, List.set_cons_succ] at X3
  clear hbc b3 z3 y3 x3 O3
  obtain ⟨d0, d1, d2, d3, d4, d5, d6, d7, d8, d9, d10⟩ := cells11 X3
  obtain ⟨g0, g1, g2, g3, g4, g5, g6, g7, g8, g9, g10⟩ := f_cells11 Y3
  obtain ⟨e0, e1, e2, e3, e4, e5, e6, e7, e8, e9, e10⟩ := cells11 Y3
  have S := set11_block Y3 (.int .i64 i1) (.int .u64 (i2 : Int)) (.int .i64 kd) (.slice ka' ks.length kc') (.int .u64 (tk : Int)) (.int .i64 tt) (.slice ga' gs.length gc') (.int .i64 st) (.slice ya' ys.length yc') (.slice da' ds.length dc') (.int .i64 cd)
  have SB := set11_below (.int .i64 i1) (.int .u64 (i2 : Int)) (.int .i64 kd) (.slice ka' ks.length kc') (.int .u64 (tk : Int)) (.int .i64 tt) (.slice ga' gs.length gc') (.int .i64 st) (.slice ya' ys.length yc') (.slice da' ds.length dc') (.int .i64 cd) (g := w.heap.size + 1) B3 (Nat.le_succ _)
  have F0 := Ow.at_other R0_3 Y3 (by decide) (fun k hk => set11_other (.int .i64 i1) (.int .u64 (i2 : Int)) (.int .i64 kd) (.slice ka' ks.length kc') (.int .u64 (tk : Int)) (.int .i64 tt) (.slice ga' gs.length gc') (.int .i64 st) (.slice ya' ys.length yc') (.slice da' ds.length dc') (.int .i64 cd) hk)
  have F1 := Ow.at_other R1_3 Y3 (by decide) (fun k hk => set11_other (.int .i64 i1) (.int .u64 (i2 : Int)) (.int .i64 kd) (.slice ka' ks.length kc') (.int .u64 (tk : Int)) (.int .i64 tt) (.slice ga' gs.length gc') (.int .i64 st) (.slice ya' ys.length yc') (.slice da' ds.length dc') (.int .i64 cd) hk)
  have F2 := Ow.at_other R2_3 Y3 (by decide) (fun k hk => set11_other (.int .i64 i1) (.int .u64 (i2 : Int)) (.int .i64 kd) (.slice ka' ks.length kc') (.int .u64 (tk : Int)) (.int .i64 tt) (.slice ga' gs.length gc') (.int .i64 st) (.slice ya' ys.length yc') (.slice da' ds.length dc') (.int .i64 cd) hk)
  have F3 := Ow.at_other Q3 Y3 (by decide) (fun k hk => set11_other (.int .i64 i1) (.int .u64 (i2 : Int)) (.int .i64 kd) (.slice ka' ks.length kc') (.int .u64 (tk : Int)) (.int .i64 tt) (.slice ga' gs.length gc') (.int .i64 st) (.slice ya' ys.length yc') (.slice da' ds.length dc') (.int .i64 cd) hk)
  have HF : Hid _ := (⟨F0, F1, F2, F3⟩ : _ ∧ _ ∧ _ ∧ _)
  have HSB : Hid _ := SB
  have HS : Hid _ := S
  clear F0 F1 F2 F3 S SB X3 Y3 B3 Z3 R0_3 R1_3 R2_3 Q3
  go_wp2
  refine bodyPost_ret (results_tx rfl _ _ (w.heap.size + 1) _ _ _ _ _ _ _ _ _ _ _ rfl HS.out) rfl ?_
  exact ⟨⟨(ka', kc'), (ga', gc'), (ya', yc'), (da', dc'), rfl, HF.out, D21.out, D32.out, D31.out⟩, HSB.out⟩
end Go.Proofs.Ytglbjimpaoikfaa

/- Voted of txn: a new yes. -/
namespace Go.Proofs.Ytglbjimpaoikfaa
open Go.RowKit LeaseMath QuorumMath
set_option maxRecDepth 100000
set_option linter.unusedSimpArgs false
set_option linter.unusedVariables false

theorem ow_grown {α : Type} {E : El α} {t : TypeId} {n : Nat} {w w' : World} {v : Value} {l : List α} {row : Option Nat} (h : Ow E t n w v l) (hg : w.grownBy w' row) (hne : ∀ k, v.ownBlock = some k → row ≠ some k) : Ow E t n w' v l := ⟨h.1.same fun k hk => hg.block k (h.1.lt hk) (fun e => hne k hk e.symm), h.2⟩
set_option maxHeartbeats 16000000 in
theorem voted_yes (z : Xz) (g c : Int) (K : Nat) (w : World) (hR : XR w z) (gk : z.t.keys.length ≤ 1000000) (g1 : z.t.groups.length ≤ 1000000) (g2 : z.t.yes.length ≤ 100000) (g3 : z.t.done.length ≤ 1000000) (hS : Spot z.t.yes g K) (hp : z.t.yes.Pairwise (· ≤ ·)) (h0 : okX z.t = true) (hg0 : g ∈ z.t.groups) (h1 : z.t.state = 1) (h2 : c = 0) (h3 : g ∉ z.t.yes) : Calls Try.prog 26 #[xv z, .int .i64 g, .int .i64 c] w fun e w' => (∃ k g' y d : Sa, e = .returned (.tuple #[xv ⟨agreeM (setY z.t (z.t.yes.take K ++ [g] ++ z.t.yes.drop K)) (allB (setY z.t (z.t.yes.take K ++ [g] ++ z.t.yes.drop K)) (z.t.yes.take K ++ [g] ++ z.t.yes.drop K)), k, g', y, d⟩, .int .i64 0]) ∧ XO w.heap.size w' ⟨agreeM (setY z.t (z.t.yes.take K ++ [g] ++ z.t.yes.drop K)) (allB (setY z.t (z.t.yes.take K ++ [g] ++ z.t.yes.drop K)) (z.t.yes.take K ++ [g] ++ z.t.yes.drop K)), k, g', y, d⟩) ∧ Below w.heap.size w w' := by
  obtain ⟨R, HRR⟩ : ∃ R, Hid (R = agreeM (setY z.t (z.t.yes.take K ++ [g] ++ z.t.yes.drop K)) (allB (setY z.t (z.t.yes.take K ++ [g] ++ z.t.yes.drop K)) (z.t.yes.take K ++ [g] ++ z.t.yes.drop K))) := ⟨_, rfl⟩
  rw [← HRR.out]
  have hll := ins_len (g := g) hS.1
  obtain ⟨q1, q2, q3, q4⟩ := two_boxesX w (xc z) (.cells #[.int .i64 0, .int .u64 0, .int .i64 0, .slice none 0 0, .int .u64 0, .int .i64 0, .slice none 0 0, .int .i64 0, .slice none 0 0, .slice none 0 0, .int .i64 0] 29)
  obtain ⟨w0, hw0⟩ : ∃ W, (w.alloc (xc z)).alloc (.cells #[.int .i64 0, .int .u64 0, .int .i64 0, .slice none 0 0, .int .u64 0, .int .i64 0, .slice none 0 0, .int .i64 0, .slice none 0 0, .slice none 0 0, .int .i64 0] 29) = W := ⟨_, rfl⟩
  rw [hw0] at q1 q2 q3 q4
  have k1 := xcheck_of z w0 (hR.below q4) gk (by omega) (by omega) (by omega)
  have k2 : Hid (∀ W, Below w.heap.size w W → _) := fun W hW => own2_of z W (hR.below hW) gk g1 (by omega) g3
  have k5 : Hid (∀ W, Below w.heap.size w W → _) := fun W hW => contains_of z.t.groups _ g W (hR.2.1.below hW) (by omega)
  have k6 : Hid (∀ W, Below w.heap.size w W → _) := fun W hW => contains_of z.t.yes _ g W (hR.2.2.1.below hW) (by omega)
  have k7 : Hid (∀ (n : Nat) (v : Value) W, Ow intE 3 n W v z.t.yes → n ≤ W.heap.size → _) := fun n v W h1 h2 => with_of n z.t.yes v K g W h1 (by omega) hS hp h2
  have k3 : Hid (∀ (k g' y d : Sa) (W : World), XR W ⟨setY z.t (z.t.yes.take K ++ [g] ++ z.t.yes.drop K), k, g', y, d⟩ → _) := fun k g' y d W hW => agreed_of ⟨setY z.t (z.t.yes.take K ++ [g] ++ z.t.yes.drop K), k, g', y, d⟩ W hW g1 (by show (z.t.yes.take K ++ [g] ++ z.t.yes.drop K).length ≤ _; omega)
  have kb : Hid (∀ l, allB (setY z.t l) (setY z.t l).yes = allB (setY z.t l) l) := fun l => rfl
  simp only [kb.out] at k3
  rw [h0] at k1
  rw [decide_eq_true hg0] at k5
  rw [decide_eq_false h3] at k6
  simp only [if_true] at k1
  generalize (z.t.yes.take K ++ [g] ++ z.t.yes.drop K) = L at *
  generalize allB (setY z.t L) L = a at *
  have hz0 : w.heap.size + 2 ≤ w0.heap.size := by omega
  obtain ⟨⟨⟨i1, i2⟩, kd, ks, tk, tt, gs, st, ys, ds, cd⟩, ⟨ka, kc⟩, ⟨ga, gc⟩, ⟨ya, yc⟩, ⟨da, dc⟩⟩ := z
  dsimp only [xv, xc] at *
  obtain ⟨c0, c1, c2, c3, c4, c5, c6, c7, c8, c9, c10⟩ := cells11 q2
  have h1d : (st != 1) = false := by simp [h1]
  have h2d : (c == 0) = true := by simp [h2]
  have h2e : (c != 0) = false := by simp [h2]
  clear hR gk g1 g2 g3 q1 kb hS hp hll h0 hg0 h1 h2 h3
  go_enter Try.func26, Try.ntmps26
  go_wp2_with fail
  refine k1.mono ?_
  rintro e wc ⟨rfl, hbc⟩
  replace q2 := (hbc.block w.heap.size (by omega)).trans q2
  replace q3 := (hbc.block (w.heap.size + 1) (by omega)).trans q3
  replace q4 := q4.trans (hbc.mono q4.size)
  replace hz0 := Nat.le_trans hz0 hbc.size
  obtain ⟨c0, c1, c2, c3, c4, c5, c6, c7, c8, c9, c10⟩ := cells11 q2
  obtain ⟨e0, e1, e2, e3, e4, e5, e6, e7, e8, e9, e10⟩ := cells11 q3
  obtain ⟨f0, f1, f2, f3, f4, f5, f6, f7, f8, f9, f10⟩ := f_cells11 q3
  clear hbc k1
  go_wp2_with fail
  refine (k5.out _ q4).mono ?_
  rintro e wq ⟨rfl, hwq⟩
  subst wq
  clear k5
  go_wp2_with fail
  refine (k6.out _ q4).mono ?_
  rintro e wq ⟨rfl, hwq⟩
  subst wq
  clear k6
  go_wp2_with fail
  refine (k2.out _ q4).mono ?_
  rintro e wd ⟨⟨⟨ka', kc'⟩, ⟨ga', gc'⟩, ⟨ya', yc'⟩, ⟨da', dc'⟩, rfl, O1, AP⟩, hbc⟩
  replace q2 := (hbc.block w.heap.size (by omega)).trans q2
  replace q3 := (hbc.block (w.heap.size + 1) (by omega)).trans q3
  replace O1 := O1.mono q4.size
  replace q4 := q4.trans (hbc.mono q4.size)
  replace hz0 := Nat.le_trans hz0 hbc.size
  replace AP : Hid _ := AP
  clear hbc k2
  obtain ⟨c0, c1, c2, c3, c4, c5, c6, c7, c8, c9, c10⟩ := cells11 q2
  obtain ⟨f0, f1, f2, f3, f4, f5, f6, f7, f8, f9, f10⟩ := f_cells11 q2
  have X1 := set11_block q2 (.int .i64 i1) (.int .u64 (i2 : Int)) (.int .i64 kd) (.slice ka' ks.length kc') (.int .u64 (tk : Int)) (.int .i64 tt) (.slice ga' gs.length gc') (.int .i64 st) (.slice ya' ys.length yc') (.slice da' ds.length dc') (.int .i64 cd)
  have Y1 := (set11_other (.int .i64 i1) (.int .u64 (i2 : Int)) (.int .i64 kd) (.slice ka' ks.length kc') (.int .u64 (tk : Int)) (.int .i64 tt) (.slice ga' gs.length gc') (.int .i64 st) (.slice ya' ys.length yc') (.slice da' ds.length dc') (.int .i64 cd) (show w.heap.size + 1 ≠ w.heap.size by omega)).trans q3
  have B1 := set11_below (.int .i64 i1) (.int .u64 (i2 : Int)) (.int .i64 kd) (.slice ka' ks.length kc') (.int .u64 (tk : Int)) (.int .i64 tt) (.slice ga' gs.length gc') (.int .i64 st) (.slice ya' ys.length yc') (.slice da' ds.length dc') (.int .i64 cd) (g := w.heap.size) q4 (Nat.le_refl _)
  have O2 := O1.at_other q2 (fun k hk => set11_other (.int .i64 i1) (.int .u64 (i2 : Int)) (.int .i64 kd) (.slice ka' ks.length kc') (.int .u64 (tk : Int)) (.int .i64 tt) (.slice ga' gs.length gc') (.int .i64 st) (.slice ya' ys.length yc') (.slice da' ds.length dc') (.int .i64 cd) hk)
  obtain ⟨W1, hW1⟩ : ∃ W, set11 wd w.heap.size (.int .i64 i1) (.int .u64 (i2 : Int)) (.int .i64 kd) (.slice ka' ks.length kc') (.int .u64 (tk : Int)) (.int .i64 tt) (.slice ga' gs.length gc') (.int .i64 st) (.slice ya' ys.length yc') (.slice da' ds.length dc') (.int .i64 cd) = W := ⟨_, rfl⟩
  rw [hW1] at X1 Y1 B1 O2
  unfold set11 at hW1
  clear O1 q2 q3 q4 hz0
  obtain ⟨h0, h1, h2, h3, h4, h5, h6, h7, h8, h9, h10⟩ := cells11 X1
  have kw := k7.out w.heap.size _ W1 O2.2.2.1 B1.size
  replace O2 : Hid _ := O2
  clear k7
  go_wp2_with fail
  refine Calls.mono kw ?_
  rintro e w2 ⟨u, rfl, hO, hg, hf⟩
  obtain ⟨ua, uc, rfl, -⟩ := hO.1.shape
  have X1' := (hg.block w.heap.size (by have := Array.getElem?_eq_some_iff.1 X1; exact this.1) (fun e => by obtain ⟨cs, hc⟩ := O2.out.2.2.1.1.block e.symm; rw [X1] at hc; simp at hc)).trans X1
  have Y1' := (hg.block (w.heap.size + 1) (by have := Array.getElem?_eq_some_iff.1 Y1; exact this.1) (fun e => by obtain ⟨cs, hc⟩ := O2.out.2.2.1.1.block e.symm; rw [Y1] at hc; simp at hc)).trans Y1
  have B1' := B1.trans (grown_below hg B1.size O2.out.2.2.1.2)
  have P0 := ow_grown O2.out.1 hg (fun k hk e => by obtain ⟨cs, hc⟩ := O2.out.1.1.block hk; obtain ⟨cs', hc'⟩ := O2.out.2.2.1.1.block e; rw [hc] at hc'; simp at hc')
  have P1 := ow_grown O2.out.2.1 hg (fun k hk e => AP.out.1 k e hk)
  have P3 := ow_grown O2.out.2.2.2 hg (fun k hk e => AP.out.2.1 k hk e)
  have O3 : XO w.heap.size w2 ⟨setY ⟨(i1, i2), kd, ks, tk, tt, gs, st, ys, ds, cd⟩ L, (ka', kc'), (ga', gc'), (ua, uc), (da', dc')⟩ := ⟨P0, P1, hO, P3⟩
  clear P0 P1 P3 hO hg hf kw O2 AP X1 Y1 B1
  obtain ⟨c0, c1, c2, c3, c4, c5, c6, c7, c8, c9, c10⟩ := cells11 X1'
  obtain ⟨s0, s1, s2, s3, s4, s5, s6, s7, s8, s9, s10⟩ := f_cells11 X1'
  have X2 := set_block X1' (j := 8) (.slice ua L.length uc)
  have Y2 : (w2.setCell ⟨w.heap.size, 8, none⟩ (.slice ua L.length uc)).heap[w.heap.size + 1]? = _ := (set_other (by omega)).trans Y1'
  have B2 := B1'.setCell (p := ⟨w.heap.size, 8, none⟩) (Nat.le_refl _) (.slice ua L.length uc)
  have O4 := O3.at_other (w' := w2.setCell ⟨w.heap.size, 8, none⟩ (.slice ua L.length uc)) X1' (fun k hk => set_other hk)
  obtain ⟨W2, hW2⟩ : ∃ W, w2.setCell ⟨w.heap.size, 8, none⟩ (.slice ua L.length uc) = W := ⟨_, rfl⟩
  rw [hW2] at X2 Y2 B2 O4
  simp only [List.setIfInBounds_toArray, List.set_cons_zero, List.set_cons_succ] at X2
  clear X1' Y1' B1' O3
  obtain ⟨n0, n1, n2, n3, n4, n5, n6, n7, n8, n9, n10⟩ := cells11 X2
  have k4 := k3.out (ka', kc') (ga', gc') (ua, uc) (da', dc') W2 O4.xr
  have O5 : Hid (XO w.heap.size W2 ⟨agreeM (setY ⟨(i1, i2), kd, ks, tk, tt, gs, st, ys, ds, cd⟩ L) a, (ka', kc'), (ga', gc'), (ua, uc), (da', dc')⟩) := XO.agree a O4
  generalize agreeM (setY ⟨(i1, i2), kd, ks, tk, tt, gs, st, ys, ds, cd⟩ L) a = r at *
  clear O4 k3
  dsimp only [xv, setY] at k4
  obtain ⟨⟨r1, r2⟩, r3, r4, r5, r6, r7, r8, r9, r10, r11⟩ := r
  dsimp only at k4
  go_wp2_with fail
  refine k4.mono ?_
  rintro e we ⟨rfl, hbc⟩
  have Y3 := (hbc.block (w.heap.size + 1) (by have := Array.getElem?_eq_some_iff.1 Y2; exact this.1)).trans Y2
  have O6 := O5.out.below hbc
  have B3 := B2.trans (hbc.mono B2.size)
  clear hbc k4 X2 O5
  obtain ⟨e0, e1, e2, e3, e4, e5, e6, e7, e8, e9, e10⟩ := cells11 Y3
  obtain ⟨g0, g1, g2, g3, g4, g5, g6, g7, g8, g9, g10⟩ := f_cells11 Y3
  have S : Hid _ := set11_block Y3 (.int .i64 r1) (.int .u64 (r2 : Int)) (.int .i64 r3) (.slice ka' r4.length kc') (.int .u64 (r5 : Int)) (.int .i64 r6) (.slice ga' r7.length gc') (.int .i64 r8) (.slice ua r9.length uc) (.slice da' r10.length dc') (.int .i64 r11)
  have SB : Hid _ := set11_below (.int .i64 r1) (.int .u64 (r2 : Int)) (.int .i64 r3) (.slice ka' r4.length kc') (.int .u64 (r5 : Int)) (.int .i64 r6) (.slice ga' r7.length gc') (.int .i64 r8) (.slice ua r9.length uc) (.slice da' r10.length dc') (.int .i64 r11) (g := w.heap.size + 1) B3 (Nat.le_succ _)
  have SO : Hid _ := O6.at_other Y3 (fun k hk => set11_other (.int .i64 r1) (.int .u64 (r2 : Int)) (.int .i64 r3) (.slice ka' r4.length kc') (.int .u64 (r5 : Int)) (.int .i64 r6) (.slice ga' r7.length gc') (.int .i64 r8) (.slice ua r9.length uc) (.slice da' r10.length dc') (.int .i64 r11) hk)
  clear Y2 Y3 B2 B3 O6
  go_wp2
  refine bodyPost_ret (results_txe rfl _ _ (w.heap.size + 1) _ _ _ _ _ _ _ _ _ _ _ rfl S.out) rfl ?_
  exact ⟨⟨(ka', kc'), (ga', gc'), (ua, uc), (da', dc'), by first | (rw [HRR.out]; done) | (rw [HRR.out]; rfl), by rw [HRR.out]; exact SO.out⟩, SB.out⟩
end Go.Proofs.Ytglbjimpaoikfaa

