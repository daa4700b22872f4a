import Derived.Test.YtfpbgfmnjpamlaaGreatHv08
import Derived.Test.YtfpbgfmnjpamlaaGreatHv10
import Derived.Test.YtfpbgfmnjpamlaaGreatHv11
import Derived.Test.YtfpbgfmnjpamlaaGreatHv37
import Derived.Test.YtfpbgfmnjpamlaaGreatHv38
/- Same of the document at alike tables; the law's same and acquire. -/
namespace Go.Proofs.YtfpbgfmnjpamlaaGreat
open Go.RowKit LeaseMath
set_option maxRecDepth 100000
set_option linter.unusedSimpArgs false
set_option linter.unusedVariables false

@[go_sem high] theorem eqIn_it (w : World) (k : K) (c : Int) (q : Nat) (kd : Int) (tk : Nat) (tt : Int) : (Op.equalIn 10000 63 (.agg #[.string (bk k), .int .i64 c, .int .u64 (q : Int), .int .i64 kd, .int .u64 (tk : Int), .int .i64 tt]) (.agg #[.string (bk k), .int .i64 c, .int .u64 (q : Int), .int .i64 kd, .int .u64 (tk : Int), .int .i64 tt])).run Tryz.prog w = .ok true w := by
 have u3 := Tryz.underlying9
 have a3 := Tryz.isAgg9
 have z3 := Tryz.sizeOf9
 have u4 := Tryz.underlying3
 have a4 := Tryz.isAgg3
 have z4 := Tryz.sizeOf3
 have u5 := Tryz.underlying28
 have a5 := Tryz.isAgg28
 have z5 := Tryz.sizeOf28
 have u6 := Tryz.underlying30
 have a6 := Tryz.isAgg30
 have z6 := Tryz.sizeOf30
 have hS : Tryz.prog.underlying 63 = some (.struct (Tryz.prog.fieldsOf 63)) := by kernel_rfl
 have hp : Tryz.prog.stoodInHeld 63 = false := by kernel_rfl
 have hS2 : Tryz.prog.underlying 30 = some (.struct (Tryz.prog.fieldsOf 30)) := by kernel_rfl
 have hp2 : Tryz.prog.stoodInHeld 30 = false := by kernel_rfl
 have hI : ∀ w, (Op.equalIn 9999 30 (.agg #[.int .i64 c, .int .u64 (q : Int)]) (.agg #[.int .i64 c, .int .u64 (q : Int)])).run Tryz.prog w = .ok true w := fun w => by
  rw [show (9999 : Nat) = 9998 + 1 from rfl, run_equalIn_agg w 9998 30 _ _ hS2 hp2]
  simp only [Program.fieldsOf, Tryz.underlying30]
  go_simp
 rw [show (10000 : Nat) = 9999 + 1 from rfl, run_equalIn_agg w 9999 63 _ _ hS hp]
 simp only [Program.fieldsOf, Tryz.underlying63]
 go_simp
set_option maxHeartbeats 4000000 in
theorem samex_of (zs : List It) (zv yv : Value) (w : World) (hZ : Rd itE w zv zs) (hY : Rd itE w yv zs) (hlen : zs.length ≤ 4611686018427387904) : Calls Tryz.prog 92 #[zv, yv] w fun e w' => e = .returned (.bool true) ∧ Below w.heap.size w w' := by
 have HZ : Hid (Rd itE w zv zs) := hZ
 have HY : Hid (Rd itE w yv zs) := hY
 obtain ⟨za, zc, rfl, -, -⟩ := hZ.shape
 obtain ⟨ya, yc, rfl, -, -⟩ := hY.shape
 clear hZ hY
 go_enter Tryz.func92, Tryz.ntmps92
 go_wp2
 go_loopg [5] zs.length (fun g s wr => ∃ i : Nat, i + g = zs.length ∧ s = .int .i64 (i : Int) ∧ Below w.heap.size w wr)
 case atStart => exact ⟨0, by simp, rfl, Below.refl _ _⟩
 case round =>
  obtain ⟨i, hig, rfl, hb⟩ := hrel
  by_cases hlt : i < zs.length
  ·have hlti : (i : Int) < (zs.length : Int) := by omega
   have hz : zs[i]? = some zs[i] := List.getElem?_eq_getElem hlt
   obtain ⟨z, hzz⟩ : ∃ z, z = zs[i] := ⟨_, rfl⟩
   rw [← hzz] at hz
   clear hzz
   obtain ⟨b, off, rfl, cz⟩ := rdx_at HZ.out hz
   obtain ⟨b2, off2, rfl, cy⟩ := rdx_at HY.out hz
   obtain ⟨c0, c1, c2, c3, c4, c5⟩ := cz wr hb
   obtain ⟨d0, d1, d2, d3, d4, d5⟩ := cy wr hb
   obtain ⟨k, ⟨c, q⟩, kd, tk, tt⟩ := z
   dsimp only at *
   clear HZ HY hz cz cy
   go_wp2
   go_quiet (fail)
   have hb2 := below_drewN hb nq
   clear hb c0 c1 c2 c3 c4 c5 d0 d1 d2 d3 d4 d5
   generalize wr.drewN nq = w5 at *
   go_wp2
   go_roundg (gk - 1)
   case measure => omega
   case rel => exact ⟨i + 1, by omega, by go_num, hb2⟩
  ·have hlti : ¬ (i : Int) < (zs.length : Int) := by omega
   clear HZ HY
   go_wp2
   go_ret
   exact ⟨rfl, hb⟩


set_option maxHeartbeats 4000000 in
theorem rsame_of (x y : Tz) (w : World) (hX : TbR w x) (hY : TbR w y) (he : x.t = y.t) (g0 : x.t.spans.length ≤ 1000000) (g1 : x.t.frozen.length ≤ 1000000) (g2 : x.t.holds.length ≤ 1000000) (g3 : x.t.marks.length ≤ 1000000) (g4 : x.t.ints.length ≤ 1000000) : Calls Tryz.prog 29 #[tv x, tv y] w fun e w' => e = .returned (.bool true) ∧ Below w.heap.size w w' := by
 obtain ⟨t, ⟨xs1, xs2⟩, ⟨xf1, xf2⟩, ⟨xh1, xh2⟩, ⟨xm1, xm2⟩, ⟨xi1, xi2⟩⟩ := x
 obtain ⟨t', ⟨ys1, ys2⟩, ⟨yf1, yf2⟩, ⟨yh1, yh2⟩, ⟨ym1, ym2⟩, ⟨yi1, yi2⟩⟩ := y
 dsimp only at he g0 g1 g2 g3 g4
 subst he
 have HX : Hid (TbR w _) := hX
 have HY : Hid (TbR w _) := hY
 have k1 : Hid (∀ W, Below w.heap.size w W → _) := fun W hW => same_of t.spans t.spans _ _ W ((HX.out.1.below hW).sv) ((HY.out.1.below hW).sv) g0
 have k2 : Hid (∀ W, Below w.heap.size w W → _) := fun W hW => same_of t.frozen t.frozen _ _ W ((HX.out.2.1.below hW).sv) ((HY.out.2.1.below hW).sv) g1
 have k3 : Hid (∀ W, Below w.heap.size w W → _) := fun W hW => sameh_of t.holds _ _ W (HX.out.2.2.1.below hW) (HY.out.2.2.1.below hW) (by omega)
 have k4 : Hid (∀ W, Below w.heap.size w W → _) := fun W hW => samem_of t.marks _ _ W (HX.out.2.2.2.1.below hW) (HY.out.2.2.2.1.below hW) (by omega)
 have k5 : Hid (∀ W, Below w.heap.size w W → _) := fun W hW => samex_of t.ints _ _ W (HX.out.2.2.2.2.below hW) (HY.out.2.2.2.2.below hW) (by omega)
 dsimp only [tv] at *
 obtain ⟨q1, q2, q3, q4⟩ := two_boxes6 w (.cells #[.int .i64 t.now, .slice xs1 t.spans.length xs2, .slice xf1 t.frozen.length xf2, .slice xh1 t.holds.length xh2, .slice xm1 t.marks.length xm2, .slice xi1 t.ints.length xi2] 27) (.cells #[.int .i64 t.now, .slice ys1 t.spans.length ys2, .slice yf1 t.frozen.length yf2, .slice yh1 t.holds.length yh2, .slice ym1 t.marks.length ym2, .slice yi1 t.ints.length yi2] 27)
 obtain ⟨w0, hw0⟩ : ∃ W, (w.alloc (.cells #[.int .i64 t.now, .slice xs1 t.spans.length xs2, .slice xf1 t.frozen.length xf2, .slice xh1 t.holds.length xh2, .slice xm1 t.marks.length xm2, .slice xi1 t.ints.length xi2] 27)).alloc (.cells #[.int .i64 t.now, .slice ys1 t.spans.length ys2, .slice yf1 t.frozen.length yf2, .slice yh1 t.holds.length yh2, .slice ym1 t.marks.length ym2, .slice yi1 t.ints.length yi2] 27) = W := ⟨_, rfl⟩
 rw [hw0] at q1 q2 q3 q4
 have HC : Hid (∀ W, Below (w.heap.size + 2) w0 W → Below w.heap.size w W ∧ W.heap[w.heap.size]? = _ ∧ W.heap[w.heap.size + 1]? = _) := fun W hW => ⟨q4.trans (hW.mono (by omega)), (hW.block w.heap.size (by omega)).trans q2, (hW.block (w.heap.size + 1) (by omega)).trans q3⟩
 have hz : w.heap.size + 2 ≤ w0.heap.size := by omega
 have hb0 : Below (w.heap.size + 2) w0 w0 := Below.refl _ _
 obtain ⟨-, c0, c1, c2, c3, c4, c5⟩ := t_cells q2
 obtain ⟨-, d0, d1, d2, d3, d4, d5⟩ := t_cells q3
 have e1 : decide (t.spans = t.spans) = true := decide_eq_true rfl
 have e2 : decide (t.frozen = t.frozen) = true := decide_eq_true rfl
 clear q1 q2 q3 q4 hX hY g0 g1 g2 g3 g4
 go_enter Tryz.func29, Tryz.ntmps29
 go_wp2_with fail
 refine (k1.out _ (HC.out _ hb0).1).mono ?_
 rintro e w1 ⟨rfl, hbc⟩
 rw [e1]
 have hb1 := keep_step hb0 hz hbc
 clear hbc c0 c1 c2 c3 c4 c5 d0 d1 d2 d3 d4 d5
 obtain ⟨-, c0, c1, c2, c3, c4, c5⟩ := t_cells (HC.out _ hb1).2.1
 obtain ⟨-, d0, d1, d2, d3, d4, d5⟩ := t_cells (HC.out _ hb1).2.2
 go_wp2_with fail
 refine (k2.out _ (HC.out _ hb1).1).mono ?_
 rintro e w2 ⟨rfl, hbc⟩
 rw [e2]
 have hb2 := keep_step hb1 hz hbc
 clear hbc c0 c1 c2 c3 c4 c5 d0 d1 d2 d3 d4 d5
 obtain ⟨-, c0, c1, c2, c3, c4, c5⟩ := t_cells (HC.out _ hb2).2.1
 obtain ⟨-, d0, d1, d2, d3, d4, d5⟩ := t_cells (HC.out _ hb2).2.2
 go_wp2_with fail
 refine (k3.out _ (HC.out _ hb2).1).mono ?_
 rintro e w3 ⟨rfl, hbc⟩
 have hb3 := keep_step hb2 hz hbc
 clear hbc c0 c1 c2 c3 c4 c5 d0 d1 d2 d3 d4 d5
 obtain ⟨-, c0, c1, c2, c3, c4, c5⟩ := t_cells (HC.out _ hb3).2.1
 obtain ⟨-, d0, d1, d2, d3, d4, d5⟩ := t_cells (HC.out _ hb3).2.2
 go_wp2_with fail
 refine (k4.out _ (HC.out _ hb3).1).mono ?_
 rintro e w4 ⟨rfl, hbc⟩
 have hb4 := keep_step hb3 hz hbc
 clear hbc c0 c1 c2 c3 c4 c5 d0 d1 d2 d3 d4 d5
 obtain ⟨-, c0, c1, c2, c3, c4, c5⟩ := t_cells (HC.out _ hb4).2.1
 obtain ⟨-, d0, d1, d2, d3, d4, d5⟩ := t_cells (HC.out _ hb4).2.2
 go_wp2_with fail
 refine (k5.out _ (HC.out _ hb4).1).mono ?_
 rintro e w5 ⟨rfl, hbc⟩
 have hb5 := keep_step hb4 hz hbc
 clear hbc c0 c1 c2 c3 c4 c5 d0 d1 d2 d3 d4 d5
 obtain ⟨-, c0, c1, c2, c3, c4, c5⟩ := t_cells (HC.out _ hb5).2.1
 obtain ⟨-, d0, d1, d2, d3, d4, d5⟩ := t_cells (HC.out _ hb5).2.2
 go_wp2
 go_ret
 exact ⟨rfl, (HC.out _ hb5).1⟩

set_option maxHeartbeats 2000000 in
theorem lsame_of (x y : Tz) (c : Int) (w : World) (hX : TbR w x) (hY : TbR w y) (he : x.t = y.t) (g0 : x.t.spans.length ≤ 1000000) (g1 : x.t.frozen.length ≤ 1000000) (g2 : x.t.holds.length ≤ 1000000) (g3 : x.t.marks.length ≤ 1000000) (g4 : x.t.ints.length ≤ 1000000) : Calls Tryz.prog 13 #[tv x, .int .i64 c, tv y, .int .i64 c] w fun e w' => e = .returned (.bool true) ∧ Below w.heap.size w w' := by
 obtain ⟨q1, q2, q3, q4⟩ := two_boxes6 w (tc x) (tc y)
 have K := rsame_of x y _ (hX.below q4) (hY.below q4) he g0 g1 g2 g3 g4
 obtain ⟨-, c0, c1, c2, c3, c4, c5⟩ := t_cells q2
 obtain ⟨-, d0, d1, d2, d3, d4, d5⟩ := t_cells q3
 have hz : w.heap.size ≤ ((w.alloc (tc x)).alloc (tc y)).heap.size := by omega
 have hcc : ((c : Int) == c) = true := by simp
 dsimp only [tv, tc] at *
 clear hX hY he g0 g1 g2 g3 g4 q1 q2 q3
 go_enter Tryz.func13, Tryz.ntmps13
 go_wp2_with fail
 refine K.mono ?_
 rintro e w1 ⟨rfl, hb1⟩
 go_wp2
 go_ret
 exact ⟨rfl, q4.trans (hb1.mono hz)⟩
end Go.Proofs.YtfpbgfmnjpamlaaGreat

