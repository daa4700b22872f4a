import Derived.Test.YtfpbgfmnjpamlaaGreatHv27
import Derived.Test.YtfpbgfmnjpamlaaGreatHv31
/- Finish of the program. -/
namespace Go.Proofs.YtfpbgfmnjpamlaaGreat
open Go.RowKit LeaseMath
set_option maxRecDepth 100000
set_option linter.unusedSimpArgs false
set_option linter.unusedVariables false

/-- What Finish tells. -/
def finM (t : Tb) (d : Cq) (commit : Bool) : Tb × Nat × Int :=
 if okT t = false then (noT, 0, 1)
 else if (mineM t.ints d).length = 0 then (noT, 0, 4)
 else (if commit then (mineM t.ints d).foldl turnM { t with ints := t.ints.filter fun x => !decide (x.2.1 = d) } else { t with ints := t.ints.filter fun x => !decide (x.2.1 = d) }, (mineM t.ints d).length, 0)
def FinT (n0 : Nat) (m : Tb × Nat × Int) (e : Ending) (w' : World) : Prop := ∃ z : Tz, e = .returned (.tuple #[tv z, .int .i64 (m.2.1 : Int), .int .i64 m.2.2]) ∧ z.t = m.1 ∧ TbO n0 w' z
theorem FinT.mk {n0 : Nat} {w : World} {z : Tz} {t : Tb} {n : Nat} {c : Int} {m : Tb × Nat × Int} (h : m = (t, n, c)) (hz : z.t = t) (hT : TbO n0 w z) : FinT n0 m (.returned (.tuple #[tv z, .int .i64 (n : Int), .int .i64 c])) w := ⟨z, by rw [h], by rw [h]; exact hz, hT⟩
/-- All below n as it was, but block g. -/
structure FrB (n g : Nat) (w w' : World) : Prop where
 os : w'.os = w.os
 tape : w'.tape = w.tape
 output : w'.output = w.output
 size : w.heap.size ≤ w'.heap.size
 block : ∀ j, j < n → j ≠ g → w'.heap[j]? = w.heap[j]?
theorem FrB.refl (n g : Nat) (w : World) : FrB n g w w := ⟨rfl, rfl, rfl, Nat.le_refl _, fun _ _ _ => rfl⟩
theorem FrB.then {n g : Nat} {w w1 w2 : World} (h : FrB n g w w1) (hb : Below n w1 w2) : FrB n g w w2 := ⟨hb.os.trans h.os, hb.tape.trans h.tape, hb.output.trans h.output, Nat.le_trans h.size hb.size, fun j hj hg => (hb.block j hj).trans (h.block j hj hg)⟩
theorem FrB.set {n g : Nat} {w w1 w2 : World} (h : FrB n g w w1) (hb : w1.grownBy w2 (some g)) (hn : n ≤ w1.heap.size) : FrB n g w w2 := ⟨hb.os.trans h.os, hb.tape.trans h.tape, hb.output.trans h.output, Nat.le_trans h.size hb.size, fun j hj hg => (hb.block j (by omega) (fun e => hg (Option.some.inj e))).trans (h.block j hj hg)⟩
theorem FrB.below6 {n g g2 k : Nat} {w0 u w : World} (a b c d e f : Value) (hb : Below k w0 u) (h : FrB n g u w) (h1 : k ≤ g) (h2 : k ≤ g2) (h3 : k ≤ n) : Below k w0 (set6 w g2 a b c d e f) :=
 set6_below a b c d e f ⟨h.os.trans hb.os, h.tape.trans hb.tape, h.output.trans hb.output, Nat.le_trans hb.size h.size, fun j hj => (h.block j (by omega) (by omega)).trans (hb.block j hj)⟩ h2
theorem turn_holds (t : Tb) (x : It) (h1 : t.holds.length ≤ 1000000) (h2 : t.marks.length ≤ 1000000) : (turnM t x).holds.length ≤ 1000000 ∧ (turnM t x).marks.length ≤ 1000000 := by
 have hset : ∀ (k : Nat) (s : Hd), (setM holdB t.holds k s).1.length ≤ 1000000 := fun k s => by
  unfold setM
  split
  ·split
   ·rename_i h; exact Nat.le_trans h (by decide)
   ·simp
  ·simp
 have hmk : ∀ (k : Nat) (c : K) (n : Nat), (markM t.marks k c n).1.length ≤ 1000000 := fun k c n => by
  unfold markM putC
  split
  ·split
   ·rename_i h; exact Nat.le_trans h (by decide)
   ·simp
  ·simp
 unfold turnM
 split
 ·exact ⟨hset _ _, Nat.le_trans (List.length_filter_le _ _) h2⟩
 ·split
  ·exact ⟨Nat.le_trans (List.length_filter_le _ _) h1, hmk _ _ _⟩
  ·split
   ·split
    ·exact ⟨hset _ _, h2⟩
    ·exact ⟨h1, h2⟩
   ·exact ⟨h1, h2⟩
theorem fold_at {t : Tb} {l : List It} {i : Nat} {x : It} (h : l[i]? = some x) : (l.take (i + 1)).foldl turnM t = turnM ((l.take i).foldl turnM t) x := by
 rw [take_succ_get h, List.foldl_append]
 rfl
theorem fold_len (t : Tb) (l : List It) (h1 : t.holds.length ≤ 1000000) (h2 : t.marks.length ≤ 1000000) : (l.foldl turnM t).holds.length ≤ 1000000 ∧ (l.foldl turnM t).marks.length ≤ 1000000 := by
 induction l generalizing t with
 | nil => exact ⟨h1, h2⟩
 | cons x l ih => exact ih (turnM t x) (turn_holds t x h1 h2).1 (turn_holds t x h1 h2).2
theorem fin1_of {w : World} {q : Nat} {d : Cq} (h1 : w.cell? ⟨q, 0, none⟩ = some (.int .i64 d.1)) (h2 : w.cell? ⟨q, 1, none⟩ = some (.int .u64 (d.2 : Int))) (x : It) :
  Calls Tryz.prog 46 #[iv x, .pointer (some ⟨q, 0, none⟩)] w fun e w' => e = .returned (.bool (decide (x.2.1 = d))) ∧ Below w.heap.size w w' := by
 obtain ⟨k, ⟨c, y⟩, kd, tk, tt⟩ := x
 obtain ⟨d1, d2⟩ := d
 obtain ⟨hs, hb, cl⟩ := it_box w (k, (c, y), kd, tk, tt)
 obtain ⟨c0, c1, c2, c3, c4, c5⟩ := cl _ (Below.refl _ _)
 have g1 := (hb.cell (p := ⟨q, 0, none⟩) (World.block_lt_of_cell? w _ h1)).trans h1
 have g2 := (hb.cell (p := ⟨q, 1, none⟩) (World.block_lt_of_cell? w _ h2)).trans h2
 have E : Hid (decide (((c, y) : Cq) = (d1, d2)) = (decide (c = d1) && decide (y = d2))) := by show _ = _; rw [Bool.eq_iff_iff]; simp
 dsimp only [iv, ic] at *
 rw [E.out]
 clear cl h1 h2 E
 go_enter Tryz.func46, Tryz.ntmps46
 go_wp2
 go_ret
 exact ⟨rfl, hb⟩

set_option maxHeartbeats 16000000 in
theorem finish_of (z : Tz) (d : Cq) (cm : Bool) (w : World) (hR : TbR w z) (g2 : z.t.holds.length ≤ 1000000) (g3 : z.t.marks.length ≤ 1000000) (g4 : z.t.ints.length ≤ 1000000) (hkd : ∀ x ∈ mineM z.t.ints d, x.2.2.1 = 1 ∨ x.2.2.1 = 2 ∨ x.2.2.1 = 3) :
  Calls Tryz.prog 14 #[tv z, idv d, .bool cm] w fun e w' => FinT w.heap.size (finM z.t d cm) e w' ∧ Below w.heap.size w w' := by
 obtain ⟨FM, HFM⟩ : ∃ FM, Hid (FM = finM z.t d cm) := ⟨_, rfl⟩
 rw [← HFM.out]
 have hRH : Hid (TbR w z) := hR
 have k1 : Hid (∀ W, Below w.heap.size w W → _) := fun W hW => tcheck_of z W (hRH.out.below hW) (by omega) (by omega) (by omega)
 have k4 : Hid (∀ W, Below w.heap.size w W → _) := fun W hW => intents_of z d W (hRH.out.below hW) (by omega)
 have k6 : Hid (okT z.t = true → ∀ W, Below w.heap.size w W → _) := fun h W hW => own_of z W (hRH.out.below hW) (by have := okT_spans h; omega) (by have := okT_spans h; omega) g2 g3 g4
 obtain ⟨t0, ht0⟩ : ∃ t0 : Tb, t0 = { z.t with ints := z.t.ints.filter fun x => !decide (x.2.1 = d) } := ⟨_, rfl⟩
 have HPE : Hid (finM z.t d cm = (if okT z.t = false then (noT, 0, 1) else if (mineM z.t.ints d).length = 0 then (noT, 0, 4) else (if cm then (mineM z.t.ints d).foldl turnM t0 else t0, (mineM z.t.ints d).length, 0))) := by rw [ht0]; rfl
 have hml : Hid ((mineM z.t.ints d).length ≤ 1000000) := by
  show _ ≤ _
  have := List.length_filter_le (fun x : It => decide (x.2.1 = d)) z.t.ints
  unfold mineM
  omega
 obtain ⟨O, HO⟩ : ∃ O, Hid (O = okT z.t) := ⟨_, rfl⟩
 obtain ⟨MI, HMI⟩ : ∃ O, Hid (O = mineM z.t.ints d) := ⟨_, rfl⟩
 rw [← HO.out] at k1 k6 HPE
 rw [← HMI.out] at k4 HPE hml hkd
 replace HFM : Hid (FM = _) := HFM.out.trans HPE.out
 clear HO HMI HPE hR
 obtain ⟨⟨nw, sp, fr, hs_, ms, is⟩, ⟨sa, sc⟩, ⟨fa, fc⟩, ⟨ha, hc⟩, ⟨ma, mc⟩, ⟨ia, ic_⟩⟩ := z
 obtain ⟨d1_, d2_⟩ := d
 dsimp only [tv, idv] at *
 obtain ⟨q1, q2, q3, q4, q5⟩ := three_boxes6 w (.cells #[.int .i64 nw, .slice sa sp.length sc, .slice fa fr.length fc, .slice ha hs_.length hc, .slice ma ms.length mc, .slice ia is.length ic_] 27) (.cells #[.int .i64 d1_, .int .u64 (d2_ : Int)] 30) (.cells #[.int .i64 0, .slice none 0 0, .slice none 0 0, .slice none 0 0, .slice none 0 0, .slice none 0 0] 27)
 obtain ⟨w0, hw0⟩ : ∃ W, ((w.alloc (.cells #[.int .i64 nw, .slice sa sp.length sc, .slice fa fr.length fc, .slice ha hs_.length hc, .slice ma ms.length mc, .slice ia is.length ic_] 27)).alloc (.cells #[.int .i64 d1_, .int .u64 (d2_ : Int)] 30)).alloc (.cells #[.int .i64 0, .slice none 0 0, .slice none 0 0, .slice none 0 0, .slice none 0 0, .slice none 0 0] 27) = W := ⟨_, rfl⟩
 rw [hw0] at q1 q2 q3 q4 q5
 have hz0 : w.heap.size + 3 ≤ w0.heap.size := by omega
 have hb0 : Below (w.heap.size + 3) w0 w0 := Below.refl _ _
 obtain ⟨-, c0, c1, c2, c3, c4, c5⟩ := t_cells q2
 go_enter Tryz.func14, Tryz.ntmps14
 go_wp2_with fail
 refine (k1.out _ q5).mono ?_
 rintro e w1 ⟨rfl, hbc⟩
 have hb1 := keep_step hb0 hz0 hbc
 clear hbc k1 c0 c1 c2 c3 c4 c5
 have p1 := (hb1.block w.heap.size (by omega)).trans q2
 have i1 := (hb1.block (w.heap.size + 1) (by omega)).trans q3
 obtain ⟨-, c0, c1, c2, c3, c4, c5⟩ := t_cells p1
 have d0 : w1.cell? ⟨w.heap.size + 1, 0, none⟩ = some (.int .i64 d1_) := by rw [cells_of_block i1]; rfl
 have d1 : w1.cell? ⟨w.heap.size + 1, 1, none⟩ = some (.int .u64 (d2_ : Int)) := by rw [cells_of_block i1]; rfl
 cases O with
 | false =>
  have E : Hid (FM = (noT, 0, 1)) := by show _ = _; rw [HFM.out]; rfl
  clear HFM k4 k6 p1 i1
  have hblk := (hb1.block (w.heap.size + 2) (by omega)).trans q4
  have hbw := q5.trans (hb1.mono (by omega))
  obtain ⟨⟨f0, f1, f2, f3, f4, f5⟩, b0, b1, b2, b3, b4, b5⟩ := t_cells hblk
  have S6 := set6_block hblk (.int .i64 0) (.slice none 0 0) (.slice none 0 0) (.slice none 0 0) (.slice none 0 0) (.slice none 0 0)
  have B6 := set6_below (.int .i64 0) (.slice none 0 0) (.slice none 0 0) (.slice none 0 0) (.slice none 0 0) (.slice none 0 0) (g := w.heap.size + 2) hbw (by omega)
  unfold set6 at S6 B6
  go_wp2
  (try simp only [Exit.inBlock, Exit.then])
  refine bodyPost_ret (results_tbne rfl _ _ (w.heap.size + 2) _ _ _ _ _ _ rfl S6) rfl ?_
  exact ⟨FinT.mk (n := 0) (z := noZ) E.out rfl (noZ_o _ _), B6⟩
 | true =>
  have k6' : Hid _ := k6.out rfl
  have HF2 : Hid (FM = (if MI.length = 0 then (noT, 0, 4) else (if cm then MI.foldl turnM t0 else t0, MI.length, 0))) := by show _ = _; rw [HFM.out, if_neg (by simp)]
  clear HFM k6
  go_wp2_with fail
  refine (k4.out _ (q5.trans (hb1.mono (by omega)))).mono ?_
  rintro e uB ⟨⟨mv_, rfl, hMO⟩, hbc⟩
  have hb2 := keep_step hb1 hz0 hbc
  replace hMO : Ow itE 63 (w.heap.size + 3) uB mv_ MI := hMO.mono (Nat.le_trans hz0 hb1.size)
  obtain ⟨xa, xc, hmv, -⟩ := hMO.1.shape
  clear hbc k4 c0 c1 c2 c3 c4 c5 d0 d1 p1 i1
  by_cases hmi : MI.length = 0
  ·have E : Hid (FM = (noT, 0, 4)) := by show _ = _; rw [HF2.out, if_pos hmi]
   rw [hmi] at hmv
   subst hmv
   clear HF2 hmi k6'
   have hblk := (hb2.block (w.heap.size + 2) (by omega)).trans q4
   have hbw := q5.trans (hb2.mono (by omega))
   obtain ⟨⟨f0, f1, f2, f3, f4, f5⟩, b0, b1, b2, b3, b4, b5⟩ := t_cells hblk
   have S6 := set6_block hblk (.int .i64 0) (.slice none 0 0) (.slice none 0 0) (.slice none 0 0) (.slice none 0 0) (.slice none 0 0)
   have B6 := set6_below (.int .i64 0) (.slice none 0 0) (.slice none 0 0) (.slice none 0 0) (.slice none 0 0) (.slice none 0 0) (g := w.heap.size + 2) hbw (by omega)
   unfold set6 at S6 B6
   go_wp2
   (try simp only [Exit.inBlock, Exit.then])
   refine bodyPost_ret (results_tbne rfl _ _ (w.heap.size + 2) _ _ _ _ _ _ rfl S6) rfl ?_
   exact ⟨FinT.mk (n := 0) (z := noZ) E.out rfl (noZ_o _ _), B6⟩
  ·have hmi2 : ((MI.length : Int) == 0) = false := by simpa using hmi
   have HF3 : Hid (FM = (if cm then MI.foldl turnM t0 else t0, MI.length, 0)) := by show _ = _; rw [HF2.out, if_neg hmi]
   have pB := (hb2.block w.heap.size (by omega)).trans q2
   have iB := (hb2.block (w.heap.size + 1) (by omega)).trans q3
   have rB := (hb2.block (w.heap.size + 2) (by omega)).trans q4
   have hbB := q5.trans (hb2.mono (by omega : w.heap.size ≤ w.heap.size + 3))
   have hzB : w.heap.size + 3 ≤ uB.heap.size := Nat.le_trans hz0 hb2.size
   have K6 := k6'.out uB hbB
   obtain ⟨-, c0, c1, c2, c3, c4, c5⟩ := t_cells pB
   subst hmv
   clear HF2 k6' hmi q1 q2 q3 q4 hw0 hb0 hb1 hb2 hz0
   go_wp2_with fail
   refine K6.mono ?_
   rintro e u1 ⟨⟨z1, rfl, ht1, hT1⟩, hb1⟩
   obtain ⟨t1, ⟨a1, s1⟩, ⟨a2, s2⟩, ⟨a3, s3⟩, ⟨a4, s4⟩, ⟨a5, s5⟩⟩ := z1
   dsimp only at ht1
   subst ht1
   dsimp only [tv] at *
   have p1 := (hb1.block w.heap.size (by omega)).trans pB
   have FR1 : FrB uB.heap.size w.heap.size uB u1 := (FrB.refl _ _ _).then hb1
   obtain ⟨⟨f0, f1, f2, f3, f4, f5⟩, x0, x1, x2, x3, x4, x5⟩ := t_cells p1
   have P2 := set6_block p1 (.int .i64 nw) (.slice a1 sp.length s1) (.slice a2 fr.length s2) (.slice a3 hs_.length s3) (.slice a4 ms.length s4) (.slice a5 is.length s5)
   have T2 := hT1.setc p1 (grown_set6 (.int .i64 nw) (.slice a1 sp.length s1) (.slice a2 fr.length s2) (.slice a3 hs_.length s3) (.slice a4 ms.length s4) (.slice a5 is.length s5))
   have FR2 := FR1.set (grown_set6 (.int .i64 nw) (.slice a1 sp.length s1) (.slice a2 fr.length s2) (.slice a3 hs_.length s3) (.slice a4 ms.length s4) (.slice a5 is.length s5)) hb1.size
   have hz2 : uB.heap.size ≤ (set6 u1 w.heap.size (.int .i64 nw) (.slice a1 sp.length s1) (.slice a2 fr.length s2) (.slice a3 hs_.length s3) (.slice a4 ms.length s4) (.slice a5 is.length s5)).heap.size := FR2.size
   unfold set6 at P2 T2 FR2 hz2
   obtain ⟨W2, hW2⟩ : ∃ W, (((((u1.setCell ⟨w.heap.size, 0, none⟩ (.int .i64 nw)).setCell ⟨w.heap.size, 1, none⟩ (.slice a1 sp.length s1)).setCell ⟨w.heap.size, 2, none⟩ (.slice a2 fr.length s2)).setCell ⟨w.heap.size, 3, none⟩ (.slice a3 hs_.length s3)).setCell ⟨w.heap.size, 4, none⟩ (.slice a4 ms.length s4)).setCell ⟨w.heap.size, 5, none⟩ (.slice a5 is.length s5) = W := ⟨_, rfl⟩
   rw [hW2] at P2 T2 FR2 hz2
   have i2 := (FR2.block (w.heap.size + 1) (by omega) (by omega)).trans iB
   have z0 : W2.cell? ⟨w.heap.size + 1, 0, none⟩ = some (.int .i64 d1_) := by rw [cells_of_block i2]; rfl
   have z1 : W2.cell? ⟨w.heap.size + 1, 1, none⟩ = some (.int .u64 (d2_ : Int)) := by rw [cells_of_block i2]; rfl
   have hlt5 : ∀ G, (Value.slice a5 is.length s5).ownBlock = some G → uB.heap.size ≤ G := fun G hG => T2.2.2.2.2.2 G hG
   have KD := deletefI_of (fun x => decide (x.2.1 = (d1_, d2_))) (.pointer (some ⟨w.heap.size + 1, 0, none⟩)) T2.2.2.2.2.1 g4 (fun x W hx h1 h2 => by
    have hW1 : W.heap[w.heap.size + 1]? = W2.heap[w.heap.size + 1]? := by
     cases hob : (Value.slice a5 is.length s5).ownBlock with
     | none => exact (h2 hob).block _ (by omega)
     | some G => exact (h1 G hob).block _ (by omega) (fun e => by have := Option.some.inj e; have := hlt5 G hob; omega)
    refine fin1_of (d := (d1_, d2_)) ?_ ?_ x
    ·rw [cells_of_block (hW1.trans i2)]; rfl
    ·rw [cells_of_block (hW1.trans i2)]; rfl)
   obtain ⟨-, m0, m1, m2, m3, m4, m5⟩ := t_cells P2
   go_wp2_with fail
   refine KD.mono ?_
   rintro e w4 ⟨v4_, rfl, hR4, hg4, how4⟩
   obtain ⟨a6, s6, hv4, -, -⟩ := hR4.rd.shape
   subst hv4
   have hIG : ∀ G, (Value.slice a5 is.length s5).ownBlock = some G → ∃ cs, W2.heap[G]? = some (.cells cs 63 (0, 0)) := fun G hG => T2.2.2.2.2.1.block hG
   have hO4 : Ow itE 63 uB.heap.size w4 (.slice a6 (is.filter (fun x => !decide (x.2.1 = (d1_, d2_)))).length s6) (is.filter (fun x => !decide (x.2.1 = (d1_, d2_)))) := ⟨hR4, fun j hj => T2.2.2.2.2.2 j (by rw [← how4]; exact hj)⟩
   have hb4 : Below uB.heap.size W2 w4 := grown_below hg4 hz2 hlt5
   have FR4 := FR2.then hb4
   have p4 := (hb4.block w.heap.size (by omega)).trans P2
   have T4 : TbO uB.heap.size w4 ⟨⟨nw, sp, fr, hs_, ms, is.filter (fun x => !decide (x.2.1 = (d1_, d2_)))⟩, (a1, s1), (a2, s2), (a3, s3), (a4, s4), (a6, s6)⟩ := ⟨T2.1.far hg4 hIG (by decide), T2.2.1.far hg4 hIG (by decide), T2.2.2.1.far hg4 hIG (by decide), T2.2.2.2.1.far hg4 hIG (by decide), hO4⟩
   have hz4 : uB.heap.size ≤ w4.heap.size := Nat.le_trans hz2 hb4.size
   clear KD K6 hT1 hb1 p1 FR1 P2 T2 FR2 hz2 i2 z0 z1 hlt5 hR4 hg4 how4 hIG hO4 hb4 x0 x1 x2 x3 x4 x5 m0 m1 m2 m3 m4 m5 f0 f1 f2 f3 f4 f5 c0 c1 c2 c3 c4 c5
   generalize (is.filter (fun x => !decide (x.2.1 = (d1_, d2_)))) = L6 at *
   obtain ⟨⟨f0, f1, f2, f3, f4, f5⟩, c0, c1, c2, c3, c4, c5⟩ := t_cells p4
   have P' := set_block p4 (j := 5) (.slice a6 L6.length s6)
   have T' := T4.setc p4 (grown_setc (w := w4) (g := w.heap.size) (j := 5) (.slice a6 L6.length s6))
   have FR' := FR4.set (grown_setc (w := w4) (g := w.heap.size) (j := 5) (.slice a6 L6.length s6)) hz4
   have hz5 : uB.heap.size ≤ (w4.setCell ⟨w.heap.size, 5, none⟩ (.slice a6 L6.length s6)).heap.size := FR'.size
   obtain ⟨W5, hW5⟩ : ∃ W, w4.setCell ⟨w.heap.size, 5, none⟩ (.slice a6 L6.length s6) = W := ⟨_, rfl⟩
   rw [hW5] at P' T' FR' hz5
   obtain ⟨zz, hzz, hzt⟩ : ∃ zz : Tz, zz = ⟨⟨nw, sp, fr, hs_, ms, L6⟩, (a1, s1), (a2, s2), (a3, s3), (a4, s4), (a6, s6)⟩ ∧ zz.t = t0 := ⟨_, rfl, ht0.symm⟩
   have P5 : W5.heap[w.heap.size]? = some (tc zz) := by rw [hzz]; exact P'
   rw [← hzz] at T'
   have hl0 : t0.holds.length ≤ 1000000 ∧ t0.marks.length ≤ 1000000 := by rw [ht0]; exact ⟨g2, g3⟩
   have hmR5 : ∀ W, FrB uB.heap.size w.heap.size uB W → Rd itE W (.slice xa MI.length xc) MI := fun W hF => (hMO.1.same fun j hj => hF.block j (hMO.1.lt hj) (by have := hMO.2 j hj; omega)).rd
   clear P' p4 T4 FR4 hz4
   cases cm with
   | false =>
    have E : Hid (FM = (t0, MI.length, 0)) := by show _ = _; rw [HF3.out]; rfl
    rw [← hzt] at E
    have P := P5
    have TT := T'
    have FR := FR'
    clear HF3 P5 T' FR' hmR5 hzt hzz hl0
    obtain ⟨tt0, ⟨b1, v1⟩, ⟨b2, v2⟩, ⟨b3, v3⟩, ⟨b4, v4⟩, ⟨b5, v5⟩⟩ := zz
    dsimp only [tc] at *
    have R2 := (FR.block (w.heap.size + 2) (by omega) (by omega)).trans rB
    obtain ⟨-, m0, m1, m2, m3, m4, m5⟩ := t_cells P
    obtain ⟨⟨g0, g1, g2_, g3_, g4_, g5⟩, y0, y1, y2, y3, y4, y5⟩ := t_cells R2
    have S6 := set6_block R2 (.int .i64 tt0.now) (.slice b1 tt0.spans.length v1) (.slice b2 tt0.frozen.length v2) (.slice b3 tt0.holds.length v3) (.slice b4 tt0.marks.length v4) (.slice b5 tt0.ints.length v5)
    have T6 := TT.setc R2 (grown_set6 (.int .i64 tt0.now) (.slice b1 tt0.spans.length v1) (.slice b2 tt0.frozen.length v2) (.slice b3 tt0.holds.length v3) (.slice b4 tt0.marks.length v4) (.slice b5 tt0.ints.length v5))
    have B6 := FrB.below6 (.int .i64 tt0.now) (.slice b1 tt0.spans.length v1) (.slice b2 tt0.frozen.length v2) (.slice b3 tt0.holds.length v3) (.slice b4 tt0.marks.length v4) (.slice b5 tt0.ints.length v5) (g2 := w.heap.size + 2) hbB FR (Nat.le_refl _) (Nat.le_add_right _ _) (by omega)
    unfold set6 at S6 T6 B6
    clear R2 TT FR
    go_wp2
    (try simp only [Exit.inBlock, Exit.then])
    refine bodyPost_ret (results_tbne rfl _ _ (w.heap.size + 2) _ _ _ _ _ _ rfl S6) rfl ?_
    exact ⟨FinT.mk (z := ⟨tt0, (b1, v1), (b2, v2), (b3, v3), (b4, v4), (b5, v5)⟩) E.out rfl (T6.mono (by omega)), B6⟩
   | true =>
    have HF4 : Hid (FM = (MI.foldl turnM t0, MI.length, 0)) := by show _ = _; rw [HF3.out]; rfl
    clear HF3
    go_wp2
    go_loopg [33] MI.length (fun g s33 wr => ∃ (i : Nat) (zi : Tz), i + g = MI.length ∧ s33 = .int .i64 (i : Int) ∧ wr.heap[w.heap.size]? = some (tc zi) ∧ TbO uB.heap.size wr zi ∧ FrB uB.heap.size w.heap.size uB wr ∧ Hid (zi.t = (MI.take i).foldl turnM t0))
    case atStart => exact ⟨0, zz, by omega, rfl, P5, T', FR', by show _ = _; rw [hzt]; rfl⟩
    case round =>
     obtain ⟨i, zi, hig, rfl, P, TT, FR, HZ⟩ := hrel
     clear P5 T' FR' hzt hzz hW5 hz5
     have hbound := fold_len t0 (MI.take i) hl0.1 hl0.2
     rw [← HZ.out] at hbound
     have hzr : uB.heap.size ≤ wr.heap.size := FR.size
     by_cases hlt : i < MI.length
     ·have hlti : (i : Int) < (MI.length : Int) := by omega
      have hmlb : MI.length ≤ 1000000 := hml.out
      have hx : MI[i]? = some MI[i] := List.getElem?_eq_getElem hlt
      obtain ⟨x, hxx⟩ : ∃ x, x = MI[i] := ⟨_, rfl⟩
      rw [← hxx] at hx
      clear hxx
      have hkx := hkd x (List.mem_of_getElem? hx)
      obtain ⟨b, off, ea, cc⟩ := rdx_at (hmR5 wr FR) hx
      subst ea
      obtain ⟨e0, e1, e2, e3, e4, e5⟩ := cc wr (Below.refl _ _)
      obtain ⟨hsx, hbx, clx⟩ := it_box wr x
      have px := (hbx.block w.heap.size (by omega)).trans P
      have Tx := TT.below hbx
      have FRx := FR.then (hbx.mono hzr)
      have HN : Hid ((MI.take (i + 1)).foldl turnM t0 = turnM zi.t x) := by show _ = _; rw [fold_at hx, HZ.out]
      have KT := turned_of zi x uB.heap.size (wr.alloc (ic x)) Tx (by omega) hkx hbound.1 hbound.2
      obtain ⟨m0, m1, m2, m3, m4, m5⟩ := clx _ (Below.refl _ _)
      obtain ⟨ti, ⟨b1, v1⟩, ⟨b2, v2⟩, ⟨b3, v3⟩, ⟨b4, v4⟩, ⟨b5, v5⟩⟩ := zi
      obtain ⟨k, ⟨c, q⟩, kd, tk, tt⟩ := x
      dsimp only [tc, tv, iv, ic] at *
      obtain ⟨⟨f0, f1, f2, f3, f4, f5⟩, c0, c1, c2, c3, c4, c5⟩ := t_cells px
      clear cc hx HZ clx hsx hbx P TT FR hmR5 hkx hkd
      go_wp2_with fail
      refine KT.mono ?_
      rintro e w6 ⟨⟨z6, rfl, ht6, hT6⟩, hb6⟩
      have p6 := (hb6.block w.heap.size (by omega)).trans px
      have FR6 := FRx.then hb6
      obtain ⟨t6, ⟨o1, n1⟩, ⟨o2, n2⟩, ⟨o3, n3⟩, ⟨o4, n4⟩, ⟨o5, n5⟩⟩ := z6
      dsimp only [tv] at *
      obtain ⟨⟨f0', f1', f2', f3', f4', f5'⟩, c0', c1', c2', c3', c4', c5'⟩ := t_cells p6
      have P7 := set6_block p6 (.int .i64 t6.now) (.slice o1 t6.spans.length n1) (.slice o2 t6.frozen.length n2) (.slice o3 t6.holds.length n3) (.slice o4 t6.marks.length n4) (.slice o5 t6.ints.length n5)
      have T7 := hT6.setc p6 (grown_set6 (.int .i64 t6.now) (.slice o1 t6.spans.length n1) (.slice o2 t6.frozen.length n2) (.slice o3 t6.holds.length n3) (.slice o4 t6.marks.length n4) (.slice o5 t6.ints.length n5))
      have FR7 := FR6.set (grown_set6 (.int .i64 t6.now) (.slice o1 t6.spans.length n1) (.slice o2 t6.frozen.length n2) (.slice o3 t6.holds.length n3) (.slice o4 t6.marks.length n4) (.slice o5 t6.ints.length n5)) FR6.size
      unfold set6 at P7 T7 FR7
      have HN7 : Hid (t6 = (MI.take (i + 1)).foldl turnM t0) := by show _ = _; rw [HN.out]; exact ht6
      have P7H : Hid _ := P7
      have T7H : Hid _ := T7
      have FR7H : Hid _ := FR7
      clear KT hT6 hb6 px Tx FRx p6 FR6 P7 T7 FR7 HN ht6 hbound hl0
      go_wp2
      go_roundg (gk - 1)
      case measure => omega
      case rel => exact ⟨i + 1, ⟨t6, (o1, n1), (o2, n2), (o3, n3), (o4, n4), (o5, n5)⟩, by omega, by go_num, P7H.out, T7H.out, FR7H.out, HN7⟩
     ·have hlti : ¬ (i : Int) < (MI.length : Int) := by omega
      have E : Hid (FM = (zi.t, MI.length, 0)) := by show _ = _; rw [HF4.out, HZ.out, List.take_of_length_le (by omega)]
      clear HF4 HZ hbound hmR5 hl0
      obtain ⟨tt0, ⟨b1, v1⟩, ⟨b2, v2⟩, ⟨b3, v3⟩, ⟨b4, v4⟩, ⟨b5, v5⟩⟩ := zi
      dsimp only [tc] at *
      have R2 := (FR.block (w.heap.size + 2) (by omega) (by omega)).trans rB
      obtain ⟨-, m0, m1, m2, m3, m4, m5⟩ := t_cells P
      obtain ⟨⟨g0, g1, g2_, g3_, g4_, g5⟩, y0, y1, y2, y3, y4, y5⟩ := t_cells R2
      have S6 := set6_block R2 (.int .i64 tt0.now) (.slice b1 tt0.spans.length v1) (.slice b2 tt0.frozen.length v2) (.slice b3 tt0.holds.length v3) (.slice b4 tt0.marks.length v4) (.slice b5 tt0.ints.length v5)
      have T6 := TT.setc R2 (grown_set6 (.int .i64 tt0.now) (.slice b1 tt0.spans.length v1) (.slice b2 tt0.frozen.length v2) (.slice b3 tt0.holds.length v3) (.slice b4 tt0.marks.length v4) (.slice b5 tt0.ints.length v5))
      have B6 := FrB.below6 (.int .i64 tt0.now) (.slice b1 tt0.spans.length v1) (.slice b2 tt0.frozen.length v2) (.slice b3 tt0.holds.length v3) (.slice b4 tt0.marks.length v4) (.slice b5 tt0.ints.length v5) (g2 := w.heap.size + 2) hbB FR (Nat.le_refl _) (Nat.le_add_right _ _) (by omega)
      unfold set6 at S6 T6 B6
      clear R2 TT FR
      go_wp2
      (try simp only [Exit.inBlock, Exit.then])
      refine bodyPost_ret (results_tbne rfl _ _ (w.heap.size + 2) _ _ _ _ _ _ rfl S6) rfl ?_
      exact ⟨FinT.mk (z := ⟨tt0, (b1, v1), (b2, v2), (b3, v3), (b4, v4), (b5, v5)⟩) E.out rfl (T6.mono (by omega)), B6⟩
end Go.Proofs.YtfpbgfmnjpamlaaGreat

