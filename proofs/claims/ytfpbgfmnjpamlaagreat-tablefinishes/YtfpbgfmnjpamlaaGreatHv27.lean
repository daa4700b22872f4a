import Derived.Test.YtfpbgfmnjpamlaaGreatHv12
import Derived.Test.YtfpbgfmnjpamlaaGreatHv19
import Derived.Test.YtfpbgfmnjpamlaaGreatHv23
import Derived.Test.YtfpbgfmnjpamlaaGreatHv25
import Derived.Test.YtfpbgfmnjpamlaaGreatHv26
import Derived.Test.YtfpbgfmnjpamlaaGreatHv24
/- turned: a table behind an intent. -/
namespace Go.Proofs.YtfpbgfmnjpamlaaGreat
open Go.RowKit LeaseMath
set_option maxRecDepth 100000
set_option linter.unusedSimpArgs false
set_option linter.unusedVariables false

/-- A key's place. -/
def plcN {β : Type} (l : List (K × β)) (c : K) : Nat := (l.takeWhile fun x => decide (x.1 < c)).length
theorem plcN_plc {β : Type} : ∀ {l : List (K × β)} (c : K), l.Pairwise (fun a b => a.1 < b.1) → Plc l c (plcN l c)
 | [], c, _ => ⟨by simp [plcN], by simp, by simp⟩
 | x :: l, c, h => by
  rw [List.pairwise_cons] at h
  by_cases hx : x.1 < c
  ·obtain ⟨h1, h2, h3⟩ := plcN_plc c h.2
   have e : plcN (x :: l) c = plcN l c + 1 := by unfold plcN; rw [List.takeWhile_cons, if_pos (by simpa using hx)]; rfl
   rw [e]
   refine ⟨by simpa using h1, fun i s hi hs => ?_, fun i s hi hs => ?_⟩
   ·cases i with
    | zero => simp only [List.getElem?_cons_zero, Option.some.injEq] at hs; rw [← hs]; exact hx
    | succ i => exact h2 i s (by omega) (by simpa using hs)
   ·cases i with
    | zero => omega
    | succ i => exact h3 i s (by omega) (by simpa using hs)
  ·have e : plcN (x :: l) c = 0 := by unfold plcN; rw [List.takeWhile_cons, if_neg (by simpa using hx)]; rfl
   rw [e]
   refine ⟨by simp, fun i s hi _ => by omega, fun i s _ hs => ?_⟩
   cases i with
   | zero => simp only [List.getElem?_cons_zero, Option.some.injEq] at hs; rw [← hs]; grind
   | succ i =>
    have := h.1 s (List.mem_of_getElem? (by simpa using hs))
    grind
/-- A table behind an intent. -/
def turnM (t : Tb) (x : It) : Tb :=
 if x.2.2.1 = 1 then { t with holds := (setM holdB t.holds (plcN t.holds x.1) (x.1, x.2.2.2.1, (untilM t.now x.2.2.2.2).1)).1, marks := t.marks.filter fun m => !decide (m.1 = x.1) }
 else if x.2.2.1 = 2 then { t with holds := dropM t.holds x.1, marks := (markM t.marks (plcN t.marks x.1) x.1 x.2.2.2.1).1 }
 else if x.2.2.1 = 3 then (match findM t.holds x.1 with
  | some h => { t with holds := (setM holdB t.holds (plcN t.holds h.1) (h.1, h.2.1, max h.2.2 (untilM t.now x.2.2.2.2).1)).1 }
  | none => t)
 else t
theorem trn1_of {w : World} {q : Nat} {c : K} (h1 : w.cell? ⟨q, 0, none⟩ = some (.string (bk c))) (x : Mk) :
  Calls Tryz.prog 113 #[mv x, .pointer (some ⟨q, 0, none⟩)] w fun e w' => e = .returned (.bool (decide (x.1 = c))) ∧ Below w.heap.size w w' := by
 obtain ⟨k, t⟩ := x
 obtain ⟨hs, hb, cl⟩ := mk_box w (k, t)
 obtain ⟨c0, c1⟩ := cl _ (Below.refl _ _)
 have g1 := (hb.cell (p := ⟨q, 0, none⟩) (World.block_lt_of_cell? w _ h1)).trans h1
 dsimp only [mv, mc] at *
 clear cl h1
 go_enter Tryz.func113, Tryz.ntmps113
 go_wp2
 go_ret
 exact ⟨rfl, hb⟩
theorem Ow.far {α : Type} {E : El α} {t t' : TypeId} {n : Nat} {w w' : World} {v : Value} {l : List α} {row : Option Nat} (h : Ow E t n w v l) (hg : w.grownBy w' row) (hm : ∀ G, row = some G → ∃ cs, w.heap[G]? = some (.cells cs t' (0, 0))) (hne : t ≠ t') : Ow E t n w' v l :=
 ⟨h.1.same fun k hk => hg.block k (h.1.lt hk) (fun e => by
  obtain ⟨cs, h1⟩ := hm k e.symm
  obtain ⟨cs', h2⟩ := h.1.block hk
  rw [h1] at h2
  injection h2 with h2
  injection h2 with _ h3 _
  exact hne h3.symm), h.2⟩
theorem three_boxes6 (w : World) (a b c : Obj) : (((w.alloc a).alloc b).alloc c).heap.size = w.heap.size + 3 ∧ (((w.alloc a).alloc b).alloc c).heap[w.heap.size]? = some a ∧ (((w.alloc a).alloc b).alloc c).heap[w.heap.size + 1]? = some b ∧ (((w.alloc a).alloc b).alloc c).heap[w.heap.size + 2]? = some c ∧ Below w.heap.size w (((w.alloc a).alloc b).alloc c) := by
 obtain ⟨a1, a2, a3, a4⟩ := two_boxes6 w a b
 obtain ⟨b1, b2, b3⟩ := one_box ((w.alloc a).alloc b) c
 rw [a1] at b1 b2 b3
 exact ⟨b1, (b3.block w.heap.size (by omega)).trans a2, (b3.block (w.heap.size + 1) (by omega)).trans a3, b2, a4.trans (b3.mono (by omega))⟩

theorem grown_setc {w : World} {g j : Nat} (u : Value) : w.grownBy (w.setCell ⟨g, j, none⟩ u) (some g) := grown_set ⟨rfl, rfl, rfl, Nat.le_refl _, fun _ _ _ => rfl⟩
theorem grown_set6 {w : World} {g : Nat} (a b c d e f : Value) : w.grownBy (set6 w g a b c d e f) (some g) := by
 unfold set6
 exact grown_set (grown_set (grown_set (grown_set (grown_set (grown_setc _)))))
theorem Ow.setc {α : Type} {E : El α} {t : TypeId} {n g : Nat} {w w' : World} {v : Value} {l : List α} {cs : Array Value} (h : Ow E t n w v l) (hg : w.heap[g]? = some (.cells cs 27 (0, 0))) (hw : w.grownBy w' (some g)) (hne : t ≠ 27) : Ow E t n w' v l := h.far hw (fun G hG => by cases hG; exact ⟨cs, hg⟩) hne
theorem TbO.setc {n g : Nat} {w w' : World} {z : Tz} {cs : Array Value} (h : TbO n w z) (hg : w.heap[g]? = some (.cells cs 27 (0, 0))) (hw : w.grownBy w' (some g)) : TbO n w' z := ⟨h.1.setc hg hw (by decide), h.2.1.setc hg hw (by decide), h.2.2.1.setc hg hw (by decide), h.2.2.2.1.setc hg hw (by decide), h.2.2.2.2.setc hg hw (by decide)⟩

set_option maxHeartbeats 8000000 in
theorem turned1_of (z : Tz) (x : It) (n : Nat) (w : World) (hT : TbO n w z) (hn : n ≤ w.heap.size) (hk : x.2.2.1 = 1) (g2 : z.t.holds.length ≤ 1000000) (g3 : z.t.marks.length ≤ 1000000) : Calls Tryz.prog 47 #[tv z, iv x] w fun e w' => (∃ z', e = .returned (tv z') ∧ z'.t = turnM z.t x ∧ TbO n w' z') ∧ Below n w w' := by
 obtain ⟨TM, HTM⟩ : ∃ TM, Hid (TM = turnM z.t x) := ⟨_, rfl⟩
 rw [← HTM.out]
 obtain ⟨⟨nw, sp, fr, hs_, ms, is⟩, ⟨sa, sc⟩, ⟨fa, fc⟩, ⟨ha, hc⟩, ⟨ma, mc⟩, ⟨ia, ic_⟩⟩ := z
 obtain ⟨k, ⟨c, q⟩, kd, tk, tt⟩ := x
 obtain ⟨q1, q2, q3, q4, q5⟩ := three_boxes6 w (.cells #[.int .i64 nw, .slice sa sp.length sc, .slice fa fr.length fc, .slice ha hs_.length hc, .slice ma ms.length mc, .slice ia is.length ic_] 27) (.cells #[.string (bk k), .int .i64 c, .int .u64 (q : Int), .int .i64 kd, .int .u64 (tk : Int), .int .i64 tt] 63) (.cells #[.int .i64 0, .slice none 0 0, .slice none 0 0, .slice none 0 0, .slice none 0 0, .slice none 0 0] 27)
 dsimp only [tv, iv] at *
 obtain ⟨w0, hw0⟩ : ∃ W, ((w.alloc (.cells #[.int .i64 nw, .slice sa sp.length sc, .slice fa fr.length fc, .slice ha hs_.length hc, .slice ma ms.length mc, .slice ia is.length ic_] 27)).alloc (.cells #[.string (bk k), .int .i64 c, .int .u64 (q : Int), .int .i64 kd, .int .u64 (tk : Int), .int .i64 tt] 63)).alloc (.cells #[.int .i64 0, .slice none 0 0, .slice none 0 0, .slice none 0 0, .slice none 0 0, .slice none 0 0] 27) = W := ⟨_, rfl⟩
 rw [hw0] at q1 q2 q3 q4 q5
 have T0 := hT.below q5
 have hz0 : w.heap.size + 3 ≤ w0.heap.size := by omega
 have hbn : Below n w w0 := q5.mono hn
 obtain ⟨⟨f0, f1, f2, f3, f4, f5⟩, c0, c1, c2, c3, c4, c5⟩ := t_cells q2
 obtain ⟨-, d0, d1, d2, d3, d4, d5⟩ := t_cells q3
 have hlt : ∀ G, (Value.slice ma ms.length mc).ownBlock = some G → G < w.heap.size := fun G hG => hT.2.2.2.1.1.lt hG
 have hMB := fun G hG => hT.2.2.2.1.1.block (k := G) hG
 (try dsimp only at hk)
 subst hk
 have KU := fun W => until_of nw tt W
 have KS := set_of hs_ _ (k, tk, (untilM nw tt).1) (plcN hs_ k) w0 T0.2.2.1.1.rd (fun h => plcN_plc k (may_iff.1 h).2.2)
 have E0 : Hid (TM = ⟨nw, sp, fr, (setM holdB hs_ (plcN hs_ k) (k, tk, (untilM nw tt).1)).1, ms.filter (fun m => !decide (m.1 = k)), is⟩) := by show _ = _; rw [HTM.out]; rfl
 clear HTM
 generalize setM holdB hs_ (plcN hs_ k) (k, tk, (untilM nw tt).1) = SM at *
 generalize untilM nw tt = U at *
 obtain ⟨L3, sc3⟩ := SM
 obtain ⟨U1, U2⟩ := U
 dsimp only at KS KU E0
 have p := q2
 have r := q3
 have s := q4
 have T := T0
 have hb := hbn
 have hz := hz0
 go_enter Tryz.func47, Tryz.ntmps47
 go_wp2_with fail
 refine (KU _).mono ?_
 rintro e w1 ⟨rfl, hw1⟩
 subst hw1
 clear KU
 go_wp2_with fail
 refine KS.mono ?_
 rintro e w2 ⟨⟨v2, rfl, O⟩, hb2⟩
 dsimp only at O
 obtain ⟨a3, s3, rfl, -, -⟩ := O.1.rd.shape
 replace O : Ow holdE 59 n w2 (.slice a3 L3.length s3) L3 := O.mono (by omega)
 have p := (hb2.block w.heap.size (by omega)).trans p
 have r := (hb2.block (w.heap.size + 1) (by omega)).trans r
 have s := (hb2.block (w.heap.size + 2) (by omega)).trans s
 have hb := hb.trans (hb2.mono (by omega))
 have T := T.below hb2
 have hz := Nat.le_trans hz hb2.size
 clear KS hb2 f0 f1 f2 f3 f4 f5 c0 c1 c2 c3 c4 c5 d0 d1 d2 d3 d4 d5
 have P' := set_block p (j := 3) (.slice a3 L3.length s3)
 have r' : (w2.setCell ⟨w.heap.size, 3, none⟩ (.slice a3 L3.length s3)).heap[w.heap.size + 1]? = _ := (set_other (by omega)).trans r
 have s' : (w2.setCell ⟨w.heap.size, 3, none⟩ (.slice a3 L3.length s3)).heap[w.heap.size + 2]? = _ := (set_other (by omega)).trans s
 have hb' : Below n w (w2.setCell ⟨w.heap.size, 3, none⟩ (.slice a3 L3.length s3)) := hb.setCell (p := ⟨w.heap.size, 3, none⟩) hn _
 have T' := T.setc p (grown_setc (w := w2) (g := w.heap.size) (j := 3) (.slice a3 L3.length s3))
 have O' := O.setc p (grown_setc (w := w2) (g := w.heap.size) (j := 3) (.slice a3 L3.length s3)) (by decide)
 have hz' : w.heap.size + 3 ≤ (w2.setCell ⟨w.heap.size, 3, none⟩ (.slice a3 L3.length s3)).heap.size := by simpa using hz
 obtain ⟨⟨f0, f1, f2, f3, f4, f5⟩, c0, c1, c2, c3, c4, c5⟩ := t_cells p
 obtain ⟨-, d0, d1, d2, d3, d4, d5⟩ := t_cells r
 obtain ⟨W3, hW3⟩ : ∃ W, w2.setCell ⟨w.heap.size, 3, none⟩ (.slice a3 L3.length s3) = W := ⟨_, rfl⟩
 rw [hW3] at P' r' s' hb' T' O' hz'
 clear p r s T O hb hz
 have p : W3.heap[w.heap.size]? = some (.cells #[.int .i64 nw, .slice sa sp.length sc, .slice fa fr.length fc, .slice a3 L3.length s3, .slice ma ms.length mc, .slice ia is.length ic_] 27 (0, 0)) := P'
 have r := r'
 have s := s'
 have hb := hb'
 have T := T'
 have O := O'
 have hz := hz'
 clear P' r' s' hb' T' O' hz'
 have z0 := (t_cells r).2.1
 have KD := deletefM_of (fun m => decide (m.1 = k)) (.pointer (some ⟨w.heap.size + 1, 0, none⟩)) T.2.2.2.1.1 g3 (fun m W hm h1 h2 => by
  refine trn1_of ?_ m
  cases hob : (Value.slice ma ms.length mc).ownBlock with
  | none => exact ((h2 hob).cell (p := ⟨w.heap.size + 1, 0, none⟩) (by dsimp only; omega)).trans z0
  | some G =>
   have hl := hlt G hob
   have hbk := (h1 G hob).block (w.heap.size + 1) (by omega) (fun e => by have := Option.some.inj e; omega)
   have e9 := hbk.trans r
   rw [cells_of_block e9]
   rfl)
 obtain ⟨-, x0, x1, x2, x3, x4, x5⟩ := t_cells p
 go_wp2_with fail
 refine KD.mono ?_
 rintro e w4 ⟨v4, rfl, hR4, hg4, how4⟩
 obtain ⟨a4, s4, hv4, -, -⟩ := hR4.rd.shape
 subst hv4
 have hO4 : Ow markE 61 n w4 (.slice a4 (ms.filter (fun m => !decide (m.1 = k))).length s4) (ms.filter (fun m => !decide (m.1 = k))) := ⟨hR4, fun j hj => T.2.2.2.1.2 j (by rw [← how4]; exact hj)⟩
 have hMG : ∀ G, (Value.slice ma ms.length mc).ownBlock = some G → ∃ cs, W3.heap[G]? = some (.cells cs 61 (0, 0)) := fun G hG => T.2.2.2.1.1.block hG
 have p4 := (hg4.block w.heap.size (by omega) (fun e => by have := hlt _ e.symm; omega)).trans p
 have s4_ := (hg4.block (w.heap.size + 2) (by omega) (fun e => by have := hlt _ e.symm; omega)).trans s
 have hb4 : Below n w w4 := hb.trans (grown_below hg4 (Nat.le_trans hn hb.size) (fun G hG => T.2.2.2.1.2 G hG))
 have T4 : TbO n w4 ⟨⟨nw, sp, fr, L3, ms.filter (fun m => !decide (m.1 = k)), is⟩, (sa, sc), (fa, fc), (a3, s3), (a4, s4), (ia, ic_)⟩ := ⟨T.1.far hg4 hMG (by decide), T.2.1.far hg4 hMG (by decide), O.far hg4 hMG (by decide), hO4, T.2.2.2.2.far hg4 hMG (by decide)⟩
 have E : Hid (TM = _) := E0
 have hz4 : w.heap.size + 3 ≤ w4.heap.size := Nat.le_trans hz hg4.size
 clear KD p r s T O hb hz hR4 hg4 how4 hO4 hMG z0 x0 x1 x2 x3 x4 x5 E0 d0 d1 d2 d3 d4 d5 f0 f1 f2 f3 f4 f5 c0 c1 c2 c3 c4 c5 g2 g3 hlt hMB hT T0
 generalize (ms.filter (fun m => !decide (m.1 = k))) = L4 at *
 obtain ⟨⟨f0, f1, f2, f3, f4, f5⟩, c0, c1, c2, c3, c4, c5⟩ := t_cells p4
 have P' := set_block p4 (j := 4) (.slice a4 L4.length s4)
 have s' : (w4.setCell ⟨w.heap.size, 4, none⟩ (.slice a4 L4.length s4)).heap[w.heap.size + 2]? = _ := (set_other (by omega)).trans s4_
 have hb' : Below n w (w4.setCell ⟨w.heap.size, 4, none⟩ (.slice a4 L4.length s4)) := hb4.setCell (p := ⟨w.heap.size, 4, none⟩) hn _
 have T' := T4.setc p4 (grown_setc (w := w4) (g := w.heap.size) (j := 4) (.slice a4 L4.length s4))
 obtain ⟨W5, hW5⟩ : ∃ W, w4.setCell ⟨w.heap.size, 4, none⟩ (.slice a4 L4.length s4) = W := ⟨_, rfl⟩
 rw [hW5] at P' s' hb' T'
 have p : W5.heap[w.heap.size]? = some (.cells #[.int .i64 nw, .slice sa sp.length sc, .slice fa fr.length fc, .slice a3 L3.length s3, .slice a4 L4.length s4, .slice ia is.length ic_] 27 (0, 0)) := P'
 have r := s'
 have s := s'
 have hb := hb'
 have T := T'
 clear P' s' hb' T' p4 s4_ hb4 T4
 obtain ⟨-, m0, m1, m2, m3, m4, m5⟩ := t_cells p
 obtain ⟨⟨g0, g1, g2, g3, g4, g5⟩, y0, y1, y2, y3, y4, y5⟩ := t_cells s
 have S6 := set6_block s (.int .i64 nw) (.slice sa sp.length sc) (.slice fa fr.length fc) (.slice a3 L3.length s3) (.slice a4 L4.length s4) (.slice ia is.length ic_)
 have B6 := set6_below (.int .i64 nw) (.slice sa sp.length sc) (.slice fa fr.length fc) (.slice a3 L3.length s3) (.slice a4 L4.length s4) (.slice ia is.length ic_) (g := w.heap.size + 2) hb (Nat.le_trans hn (Nat.le_add_right _ _))
 have T6 := T.setc s (grown_set6 (.int .i64 nw) (.slice sa sp.length sc) (.slice fa fr.length fc) (.slice a3 L3.length s3) (.slice a4 L4.length s4) (.slice ia is.length ic_))
 unfold set6 at S6 B6 T6
 clear p r s T hb
 go_wp2
 (try simp only [Exit.inBlock, Exit.then])
 refine bodyPost_ret (results_tb rfl _ _ (w.heap.size + 2) _ _ _ _ _ _ rfl S6) rfl ?_
 exact ⟨⟨_, rfl, E.out.symm, T6⟩, B6⟩

set_option maxHeartbeats 8000000 in
theorem turned2_of (z : Tz) (x : It) (n : Nat) (w : World) (hT : TbO n w z) (hn : n ≤ w.heap.size) (hk : x.2.2.1 = 2) (g2 : z.t.holds.length ≤ 1000000) (g3 : z.t.marks.length ≤ 1000000) : Calls Tryz.prog 47 #[tv z, iv x] w fun e w' => (∃ z', e = .returned (tv z') ∧ z'.t = turnM z.t x ∧ TbO n w' z') ∧ Below n w w' := by
 obtain ⟨TM, HTM⟩ : ∃ TM, Hid (TM = turnM z.t x) := ⟨_, rfl⟩
 rw [← HTM.out]
 obtain ⟨⟨nw, sp, fr, hs_, ms, is⟩, ⟨sa, sc⟩, ⟨fa, fc⟩, ⟨ha, hc⟩, ⟨ma, mc⟩, ⟨ia, ic_⟩⟩ := z
 obtain ⟨k, ⟨c, q⟩, kd, tk, tt⟩ := x
 obtain ⟨q1, q2, q3, q4, q5⟩ := three_boxes6 w (.cells #[.int .i64 nw, .slice sa sp.length sc, .slice fa fr.length fc, .slice ha hs_.length hc, .slice ma ms.length mc, .slice ia is.length ic_] 27) (.cells #[.string (bk k), .int .i64 c, .int .u64 (q : Int), .int .i64 kd, .int .u64 (tk : Int), .int .i64 tt] 63) (.cells #[.int .i64 0, .slice none 0 0, .slice none 0 0, .slice none 0 0, .slice none 0 0, .slice none 0 0] 27)
 dsimp only [tv, iv] at *
 obtain ⟨w0, hw0⟩ : ∃ W, ((w.alloc (.cells #[.int .i64 nw, .slice sa sp.length sc, .slice fa fr.length fc, .slice ha hs_.length hc, .slice ma ms.length mc, .slice ia is.length ic_] 27)).alloc (.cells #[.string (bk k), .int .i64 c, .int .u64 (q : Int), .int .i64 kd, .int .u64 (tk : Int), .int .i64 tt] 63)).alloc (.cells #[.int .i64 0, .slice none 0 0, .slice none 0 0, .slice none 0 0, .slice none 0 0, .slice none 0 0] 27) = W := ⟨_, rfl⟩
 rw [hw0] at q1 q2 q3 q4 q5
 have T0 := hT.below q5
 have hz0 : w.heap.size + 3 ≤ w0.heap.size := by omega
 have hbn : Below n w w0 := q5.mono hn
 obtain ⟨⟨f0, f1, f2, f3, f4, f5⟩, c0, c1, c2, c3, c4, c5⟩ := t_cells q2
 obtain ⟨-, d0, d1, d2, d3, d4, d5⟩ := t_cells q3
 have hlt : ∀ G, (Value.slice ma ms.length mc).ownBlock = some G → G < w.heap.size := fun G hG => hT.2.2.2.1.1.lt hG
 have hMB := fun G hG => hT.2.2.2.1.1.block (k := G) hG
 (try dsimp only at hk)
 subst hk
 have KD := drop_of hs_ _ k w0 T0.2.2.1.1.rd (by omega)
 have KM : ∀ W, Rd markE W (.slice ma ms.length mc) ms → _ := fun W h => mark_of ms (.slice ma ms.length mc) k tk (plcN ms k) W h (fun h => plcN_plc k (may_iff.1 h).2.2)
 have E0 : Hid (TM = ⟨nw, sp, fr, dropM hs_ k, (markM ms (plcN ms k) k tk).1, is⟩) := by show _ = _; rw [HTM.out]; rfl
 clear HTM
 generalize markM ms (plcN ms k) k tk = MM at *
 generalize dropM hs_ k = L3 at *
 obtain ⟨L4, mc4⟩ := MM
 dsimp only at KM E0
 have p := q2
 have r := q3
 have s := q4
 have T := T0
 have hb := hbn
 have hz := hz0
 go_enter Tryz.func47, Tryz.ntmps47
 go_wp2_with fail
 refine KD.mono ?_
 rintro e w2 ⟨⟨v2, rfl, O⟩, hb2⟩
 obtain ⟨a3, s3, rfl, -, -⟩ := O.1.rd.shape
 replace O : Ow holdE 59 n w2 (.slice a3 L3.length s3) L3 := O.mono (by omega)
 have p := (hb2.block w.heap.size (by omega)).trans p
 have r := (hb2.block (w.heap.size + 1) (by omega)).trans r
 have s := (hb2.block (w.heap.size + 2) (by omega)).trans s
 have hb := hb.trans (hb2.mono (by omega))
 have T := T.below hb2
 have hz := Nat.le_trans hz hb2.size
 clear KD hb2 f0 f1 f2 f3 f4 f5 c0 c1 c2 c3 c4 c5 d0 d1 d2 d3 d4 d5
 have P' := set_block p (j := 3) (.slice a3 L3.length s3)
 have r' : (w2.setCell ⟨w.heap.size, 3, none⟩ (.slice a3 L3.length s3)).heap[w.heap.size + 1]? = _ := (set_other (by omega)).trans r
 have s' : (w2.setCell ⟨w.heap.size, 3, none⟩ (.slice a3 L3.length s3)).heap[w.heap.size + 2]? = _ := (set_other (by omega)).trans s
 have hb' : Below n w (w2.setCell ⟨w.heap.size, 3, none⟩ (.slice a3 L3.length s3)) := hb.setCell (p := ⟨w.heap.size, 3, none⟩) hn _
 have T' := T.setc p (grown_setc (w := w2) (g := w.heap.size) (j := 3) (.slice a3 L3.length s3))
 have O' := O.setc p (grown_setc (w := w2) (g := w.heap.size) (j := 3) (.slice a3 L3.length s3)) (by decide)
 have hz' : w.heap.size + 3 ≤ (w2.setCell ⟨w.heap.size, 3, none⟩ (.slice a3 L3.length s3)).heap.size := by simpa using hz
 obtain ⟨⟨f0, f1, f2, f3, f4, f5⟩, c0, c1, c2, c3, c4, c5⟩ := t_cells p
 obtain ⟨-, d0, d1, d2, d3, d4, d5⟩ := t_cells r
 obtain ⟨W3, hW3⟩ : ∃ W, w2.setCell ⟨w.heap.size, 3, none⟩ (.slice a3 L3.length s3) = W := ⟨_, rfl⟩
 rw [hW3] at P' r' s' hb' T' O' hz'
 clear p r s T O hb hz
 have p : W3.heap[w.heap.size]? = some (.cells #[.int .i64 nw, .slice sa sp.length sc, .slice fa fr.length fc, .slice a3 L3.length s3, .slice ma ms.length mc, .slice ia is.length ic_] 27 (0, 0)) := P'
 have r := r'
 have s := s'
 have hb := hb'
 have T := T'
 have O3 := O'
 have hz := hz'
 clear P' r' s' hb' T' O' hz'
 obtain ⟨-, i0, i1, i2, i3, i4, i5⟩ := t_cells p
 obtain ⟨-, j0, j1, j2, j3, j4, j5⟩ := t_cells r
 have KM1 := KM W3 T.2.2.2.1.1.rd
 go_wp2_with fail
 refine KM1.mono ?_
 rintro e w4 ⟨⟨v4, rfl, O⟩, hb4⟩
 dsimp only at O
 obtain ⟨a4, s4, rfl, -, -⟩ := O.1.rd.shape
 replace O : Ow markE 61 n w4 (.slice a4 L4.length s4) L4 := O.mono (by omega)
 have O3 := O3.below hb4
 have p := (hb4.block w.heap.size (by omega)).trans p
 have r := (hb4.block (w.heap.size + 1) (by omega)).trans r
 have s := (hb4.block (w.heap.size + 2) (by omega)).trans s
 have hb := hb.trans (hb4.mono (by omega))
 have T := T.below hb4
 have hz := Nat.le_trans hz hb4.size
 clear KM KM1 hb4 f0 f1 f2 f3 f4 f5 c0 c1 c2 c3 c4 c5 d0 d1 d2 d3 d4 d5 i0 i1 i2 i3 i4 i5 j0 j1 j2 j3 j4 j5
 have P' := set_block p (j := 4) (.slice a4 L4.length s4)
 have r' : (w4.setCell ⟨w.heap.size, 4, none⟩ (.slice a4 L4.length s4)).heap[w.heap.size + 1]? = _ := (set_other (by omega)).trans r
 have s' : (w4.setCell ⟨w.heap.size, 4, none⟩ (.slice a4 L4.length s4)).heap[w.heap.size + 2]? = _ := (set_other (by omega)).trans s
 have hb' : Below n w (w4.setCell ⟨w.heap.size, 4, none⟩ (.slice a4 L4.length s4)) := hb.setCell (p := ⟨w.heap.size, 4, none⟩) hn _
 have T' := T.setc p (grown_setc (w := w4) (g := w.heap.size) (j := 4) (.slice a4 L4.length s4))
 have O' := O.setc p (grown_setc (w := w4) (g := w.heap.size) (j := 4) (.slice a4 L4.length s4)) (by decide)
 have hz' : w.heap.size + 3 ≤ (w4.setCell ⟨w.heap.size, 4, none⟩ (.slice a4 L4.length s4)).heap.size := by simpa using hz
 obtain ⟨⟨f0, f1, f2, f3, f4, f5⟩, c0, c1, c2, c3, c4, c5⟩ := t_cells p
 obtain ⟨-, d0, d1, d2, d3, d4, d5⟩ := t_cells r
 obtain ⟨W5, hW5⟩ : ∃ W, w4.setCell ⟨w.heap.size, 4, none⟩ (.slice a4 L4.length s4) = W := ⟨_, rfl⟩
 rw [hW5] at P' r' s' hb' T' O' hz'
 have O3' := O3.setc p (grown_setc (w := w4) (g := w.heap.size) (j := 4) (.slice a4 L4.length s4)) (by decide)
 rw [hW5] at O3'
 clear p r s hb hz O O3
 have p : W5.heap[w.heap.size]? = some (.cells #[.int .i64 nw, .slice sa sp.length sc, .slice fa fr.length fc, .slice a3 L3.length s3, .slice a4 L4.length s4, .slice ia is.length ic_] 27 (0, 0)) := P'
 have r := r'
 have s := s'
 have hb := hb'
 have TT : TbO n W5 ⟨⟨nw, sp, fr, L3, L4, is⟩, (sa, sc), (fa, fc), (a3, s3), (a4, s4), (ia, ic_)⟩ := ⟨T'.1, T'.2.1, O3', O', T'.2.2.2.2⟩
 clear T
 have T := TT
 have E : Hid (TM = _) := E0
 clear P' r' s' hb' T' O' O3' hz' TT E0 hT T0 g2 g3 hlt hMB
 obtain ⟨-, m0, m1, m2, m3, m4, m5⟩ := t_cells p
 obtain ⟨⟨g0, g1, g2, g3, g4, g5⟩, y0, y1, y2, y3, y4, y5⟩ := t_cells s
 have S6 := set6_block s (.int .i64 nw) (.slice sa sp.length sc) (.slice fa fr.length fc) (.slice a3 L3.length s3) (.slice a4 L4.length s4) (.slice ia is.length ic_)
 have B6 := set6_below (.int .i64 nw) (.slice sa sp.length sc) (.slice fa fr.length fc) (.slice a3 L3.length s3) (.slice a4 L4.length s4) (.slice ia is.length ic_) (g := w.heap.size + 2) hb (Nat.le_trans hn (Nat.le_add_right _ _))
 have T6 := T.setc s (grown_set6 (.int .i64 nw) (.slice sa sp.length sc) (.slice fa fr.length fc) (.slice a3 L3.length s3) (.slice a4 L4.length s4) (.slice ia is.length ic_))
 unfold set6 at S6 B6 T6
 clear p r s T hb
 go_wp2
 (try simp only [Exit.inBlock, Exit.then])
 refine bodyPost_ret (results_tb rfl _ _ (w.heap.size + 2) _ _ _ _ _ _ rfl S6) rfl ?_
 exact ⟨⟨_, rfl, E.out.symm, T6⟩, B6⟩

set_option maxHeartbeats 8000000 in
theorem turned3n_of (z : Tz) (x : It) (n : Nat) (w : World) (hT : TbO n w z) (hn : n ≤ w.heap.size) (hk : x.2.2.1 = 3) (g2 : z.t.holds.length ≤ 1000000) (g3 : z.t.marks.length ≤ 1000000) (hf : findM z.t.holds x.1 = none) : Calls Tryz.prog 47 #[tv z, iv x] w fun e w' => (∃ z', e = .returned (tv z') ∧ z'.t = turnM z.t x ∧ TbO n w' z') ∧ Below n w w' := by
 obtain ⟨TM, HTM⟩ : ∃ TM, Hid (TM = turnM z.t x) := ⟨_, rfl⟩
 rw [← HTM.out]
 obtain ⟨⟨nw, sp, fr, hs_, ms, is⟩, ⟨sa, sc⟩, ⟨fa, fc⟩, ⟨ha, hc⟩, ⟨ma, mc⟩, ⟨ia, ic_⟩⟩ := z
 obtain ⟨k, ⟨c, q⟩, kd, tk, tt⟩ := x
 obtain ⟨q1, q2, q3, q4, q5⟩ := three_boxes6 w (.cells #[.int .i64 nw, .slice sa sp.length sc, .slice fa fr.length fc, .slice ha hs_.length hc, .slice ma ms.length mc, .slice ia is.length ic_] 27) (.cells #[.string (bk k), .int .i64 c, .int .u64 (q : Int), .int .i64 kd, .int .u64 (tk : Int), .int .i64 tt] 63) (.cells #[.int .i64 0, .slice none 0 0, .slice none 0 0, .slice none 0 0, .slice none 0 0, .slice none 0 0] 27)
 dsimp only [tv, iv] at *
 obtain ⟨w0, hw0⟩ : ∃ W, ((w.alloc (.cells #[.int .i64 nw, .slice sa sp.length sc, .slice fa fr.length fc, .slice ha hs_.length hc, .slice ma ms.length mc, .slice ia is.length ic_] 27)).alloc (.cells #[.string (bk k), .int .i64 c, .int .u64 (q : Int), .int .i64 kd, .int .u64 (tk : Int), .int .i64 tt] 63)).alloc (.cells #[.int .i64 0, .slice none 0 0, .slice none 0 0, .slice none 0 0, .slice none 0 0, .slice none 0 0] 27) = W := ⟨_, rfl⟩
 rw [hw0] at q1 q2 q3 q4 q5
 have T0 := hT.below q5
 have hz0 : w.heap.size + 3 ≤ w0.heap.size := by omega
 have hbn : Below n w w0 := q5.mono hn
 obtain ⟨⟨f0, f1, f2, f3, f4, f5⟩, c0, c1, c2, c3, c4, c5⟩ := t_cells q2
 obtain ⟨-, d0, d1, d2, d3, d4, d5⟩ := t_cells q3
 have hlt : ∀ G, (Value.slice ma ms.length mc).ownBlock = some G → G < w.heap.size := fun G hG => hT.2.2.2.1.1.lt hG
 have hMB := fun G hG => hT.2.2.2.1.1.block (k := G) hG
 (try dsimp only at hk hf)
 subst hk
 have KF := find_of hs_ _ k w0 T0.2.2.1.1.rd (by omega)
 rw [hf] at KF
 simp only [Option.isSome_none, goth, Option.getD_none] at KF
 replace KF : Calls Tryz.prog 90 #[.slice ha hs_.length hc, .string (bk k)] w0 fun e w' => e = .returned (.tuple #[.agg #[.string { data := #[] }, .int .u64 0, .int .i64 0], .bool false]) ∧ Below w0.heap.size w0 w' := KF
 have E0 : Hid (TM = ⟨nw, sp, fr, hs_, ms, is⟩) := by
  show _ = _
  rw [HTM.out]
  unfold turnM
  dsimp only
  rw [if_neg (by decide), if_neg (by decide), if_pos rfl, hf]
 clear HTM hf
 have p := q2
 have r := q3
 have s := q4
 have T := T0
 have hb := hbn
 have hz := hz0
 go_enter Tryz.func47, Tryz.ntmps47
 go_wp2_with fail
 refine KF.mono ?_
 rintro e w2 ⟨rfl, hb2⟩
 have p := (hb2.block w.heap.size (by omega)).trans p
 have r := (hb2.block (w.heap.size + 1) (by omega)).trans r
 have s := (hb2.block (w.heap.size + 2) (by omega)).trans s
 have hb := hb.trans (hb2.mono (by omega))
 have T := T.below hb2
 have hz := Nat.le_trans hz hb2.size
 clear KF f0 f1 f2 f3 f4 f5 c0 c1 c2 c3 c4 c5 d0 d1 d2 d3 d4 d5
 have p2 := p
 have r2 := r
 have s2 := s
 have hb_2 := hb
 have T2 := T
 have E : Hid (TM = _) := E0
 obtain ⟨tz, nz, Bz⟩ := one_box w2 (.cells #[.string { data := #[] }, .int .u64 0, .int .i64 0] 59)
 have pz := (Bz.block w.heap.size (by omega)).trans p2
 have sz := (Bz.block (w.heap.size + 2) (by omega)).trans s2
 obtain ⟨-, m0, m1, m2, m3, m4, m5⟩ := t_cells pz
 obtain ⟨⟨g0, g1, g2, g3, g4, g5⟩, y0, y1, y2, y3, y4, y5⟩ := t_cells sz
 have S6 := set6_block sz (.int .i64 nw) (.slice sa sp.length sc) (.slice fa fr.length fc) (.slice ha hs_.length hc) (.slice ma ms.length mc) (.slice ia is.length ic_)
 have T6 := (T2.below Bz).setc sz (grown_set6 (.int .i64 nw) (.slice sa sp.length sc) (.slice fa fr.length fc) (.slice ha hs_.length hc) (.slice ma ms.length mc) (.slice ia is.length ic_))
 have B6 := set6_below (.int .i64 nw) (.slice sa sp.length sc) (.slice fa fr.length fc) (.slice ha hs_.length hc) (.slice ma ms.length mc) (.slice ia is.length ic_) (g := w.heap.size + 2) (hb_2.trans (Bz.mono (by omega))) (Nat.le_trans hn (Nat.le_add_right _ _))
 unfold set6 at S6 T6 B6
 clear p r s hb T p2 r2 s2 hb_2 T2 hb2 hz E0 pz sz nz
 go_wp2
 (try simp only [Exit.inBlock, Exit.then])
 refine bodyPost_ret (results_tb rfl _ _ (w.heap.size + 2) _ _ _ _ _ _ rfl S6) rfl ?_
 exact ⟨⟨_, rfl, E.out.symm, T6⟩, B6⟩

set_option maxHeartbeats 8000000 in
theorem turned3s_of (z : Tz) (x : It) (n : Nat) (w : World) (hT : TbO n w z) (hn : n ≤ w.heap.size) (hk : x.2.2.1 = 3) (g2 : z.t.holds.length ≤ 1000000) (g3 : z.t.marks.length ≤ 1000000) (hf : (findM z.t.holds x.1).isSome = true) : Calls Tryz.prog 47 #[tv z, iv x] w fun e w' => (∃ z', e = .returned (tv z') ∧ z'.t = turnM z.t x ∧ TbO n w' z') ∧ Below n w w' := by
 obtain ⟨TM, HTM⟩ : ∃ TM, Hid (TM = turnM z.t x) := ⟨_, rfl⟩
 rw [← HTM.out]
 obtain ⟨⟨nw, sp, fr, hs_, ms, is⟩, ⟨sa, sc⟩, ⟨fa, fc⟩, ⟨ha, hc⟩, ⟨ma, mc⟩, ⟨ia, ic_⟩⟩ := z
 obtain ⟨k, ⟨c, q⟩, kd, tk, tt⟩ := x
 obtain ⟨q1, q2, q3, q4, q5⟩ := three_boxes6 w (.cells #[.int .i64 nw, .slice sa sp.length sc, .slice fa fr.length fc, .slice ha hs_.length hc, .slice ma ms.length mc, .slice ia is.length ic_] 27) (.cells #[.string (bk k), .int .i64 c, .int .u64 (q : Int), .int .i64 kd, .int .u64 (tk : Int), .int .i64 tt] 63) (.cells #[.int .i64 0, .slice none 0 0, .slice none 0 0, .slice none 0 0, .slice none 0 0, .slice none 0 0] 27)
 dsimp only [tv, iv] at *
 obtain ⟨w0, hw0⟩ : ∃ W, ((w.alloc (.cells #[.int .i64 nw, .slice sa sp.length sc, .slice fa fr.length fc, .slice ha hs_.length hc, .slice ma ms.length mc, .slice ia is.length ic_] 27)).alloc (.cells #[.string (bk k), .int .i64 c, .int .u64 (q : Int), .int .i64 kd, .int .u64 (tk : Int), .int .i64 tt] 63)).alloc (.cells #[.int .i64 0, .slice none 0 0, .slice none 0 0, .slice none 0 0, .slice none 0 0, .slice none 0 0] 27) = W := ⟨_, rfl⟩
 rw [hw0] at q1 q2 q3 q4 q5
 have T0 := hT.below q5
 have hz0 : w.heap.size + 3 ≤ w0.heap.size := by omega
 have hbn : Below n w w0 := q5.mono hn
 obtain ⟨⟨f0, f1, f2, f3, f4, f5⟩, c0, c1, c2, c3, c4, c5⟩ := t_cells q2
 obtain ⟨-, d0, d1, d2, d3, d4, d5⟩ := t_cells q3
 have hlt : ∀ G, (Value.slice ma ms.length mc).ownBlock = some G → G < w.heap.size := fun G hG => hT.2.2.2.1.1.lt hG
 have hMB := fun G hG => hT.2.2.2.1.1.block (k := G) hG
 (try dsimp only at hk hf)
 subst hk
 have KF := find_of hs_ _ k w0 T0.2.2.1.1.rd (by omega)
 obtain ⟨⟨hk1, ht1, hu1⟩, hfe⟩ := Option.isSome_iff_exists.1 hf
 rw [hfe] at KF
 simp only [Option.isSome_some, goth, Option.getD_some] at KF
 have KU := fun W => until_of nw tt W
 have KS : ∀ W, Rd holdE W (.slice ha hs_.length hc) hs_ → _ := fun W h => set_of hs_ (.slice ha hs_.length hc) (hk1, ht1, max hu1 (untilM nw tt).1) (plcN hs_ hk1) W h (fun h => plcN_plc hk1 (may_iff.1 h).2.2)
 have E0 : Hid (TM = ⟨nw, sp, fr, (setM holdB hs_ (plcN hs_ hk1) (hk1, ht1, max hu1 (untilM nw tt).1)).1, ms, is⟩) := by
  show _ = _
  rw [HTM.out]
  unfold turnM
  dsimp only
  rw [if_neg (by decide), if_neg (by decide), if_pos rfl, hfe]
 clear HTM hf hfe
 generalize setM holdB hs_ (plcN hs_ hk1) (hk1, ht1, max hu1 (untilM nw tt).1) = SM at *
 generalize untilM nw tt = U at *
 obtain ⟨L3, sc3⟩ := SM
 obtain ⟨U1, U2⟩ := U
 dsimp only at KS KU E0
 have hmx : ∀ (W : World) (ts : Array TypeId) (ty : TypeId), (Builtin.max_ ts ty #[.int .i64 hu1, .int .i64 U1]).run Tryz.prog W = .ok (.int .i64 (max hu1 U1)) W := fun W ts ty => by
  by_cases h : hu1 < U1
  ·have h' : max hu1 U1 = U1 := by omega
   rw [h']
   simp [Builtin.max_, Builtin.max2, asBool, h]
  ·have h' : max hu1 U1 = hu1 := by omega
   rw [h']
   simp [Builtin.max_, Builtin.max2, asBool, h]
 generalize max hu1 U1 = MX at *
 have p := q2
 have r := q3
 have s := q4
 have T := T0
 have hb := hbn
 have hz := hz0
 go_enter Tryz.func47, Tryz.ntmps47
 go_wp2_with fail
 refine KF.mono ?_
 rintro e w2 ⟨rfl, hb2⟩
 have p := (hb2.block w.heap.size (by omega)).trans p
 have r := (hb2.block (w.heap.size + 1) (by omega)).trans r
 have s := (hb2.block (w.heap.size + 2) (by omega)).trans s
 have hb := hb.trans (hb2.mono (by omega))
 have T := T.below hb2
 have hz := Nat.le_trans hz hb2.size
 clear KF f0 f1 f2 f3 f4 f5 c0 c1 c2 c3 c4 c5 d0 d1 d2 d3 d4 d5
 have p2 := p
 have r2 := r
 have s2 := s
 have hb_2 := hb
 have T2 := T
 obtain ⟨hsx, hbx, clx⟩ := hd_box w2 (hk1, ht1, hu1)
 have hbx2 := (hd_box w2 (hk1, ht1, hu1)).2.1
 have p := (hbx.block w.heap.size (by omega)).trans p
 have r := (hbx.block (w.heap.size + 1) (by omega)).trans r
 have s := (hbx.block (w.heap.size + 2) (by omega)).trans s
 have hb := hb.trans (hbx.mono (by omega))
 have T := T.below hbx
 obtain ⟨⟨f0, f1, f2, f3, f4, f5⟩, c0, c1, c2, c3, c4, c5⟩ := t_cells p
 obtain ⟨-, d0, d1, d2, d3, d4, d5⟩ := t_cells r
 obtain ⟨b0, b1, b2⟩ := clx _ (Below.refl _ _)
 have E : Hid (TM = _) := E0
 obtain ⟨hsy, hby, cly⟩ := hd_box w2 (hk1, ht1, MX)
 dsimp only [Go.Proofs.YtfpbgfmnjpamlaaGreat.hc] at *
 obtain ⟨l0, l1, l2⟩ := cly _ (Below.refl _ _)
 have p' := (hby.block w.heap.size (by omega)).trans p2
 have r' := (hby.block (w.heap.size + 1) (by omega)).trans r2
 have s' := (hby.block (w.heap.size + 2) (by omega)).trans s2
 have hb' := hb_2.trans (hby.mono (by omega))
 have T' := T2.below hby
 have hz' : w.heap.size + 3 ≤ (w2.alloc (.cells #[.string (bk hk1), .int .u64 (ht1 : Int), .int .i64 MX] 59)).heap.size := by omega
 obtain ⟨-, m0, m1, m2, m3, m4, m5⟩ := t_cells p'
 obtain ⟨-, j0, j1, j2, j3, j4, j5⟩ := t_cells r'
 have KS1 := KS _ T'.2.2.1.1.rd
 go_wp2_with fail
 refine (KU _).mono ?_
 rintro e w3 ⟨rfl, hw3⟩
 subst hw3
 clear KU
 go_wp2_with fail
 refine KS1.mono ?_
 rintro e w5 ⟨⟨v5, rfl, O⟩, hb5⟩
 dsimp only at O
 obtain ⟨a3, s3, rfl, -, -⟩ := O.1.rd.shape
 clear p r s hb T
 replace O : Ow holdE 59 n w5 (.slice a3 L3.length s3) L3 := O.mono (by omega)
 have p := (hb5.block w.heap.size (by omega)).trans p'
 have r := (hb5.block (w.heap.size + 1) (by omega)).trans r'
 have s := (hb5.block (w.heap.size + 2) (by omega)).trans s'
 have hb := hb'.trans (hb5.mono (by omega))
 have T := T'.below hb5
 have hz := Nat.le_trans hz' hb5.size
 clear KS KS1 hb5 hby hbx clx cly hsx hsy hbx2 hb2 p' r' s' hb' T' hz' p2 r2 s2 hb_2 T2 b0 b1 b2 l0 l1 l2 m0 m1 m2 m3 m4 m5 j0 j1 j2 j3 j4 j5 f0 f1 f2 f3 f4 f5 c0 c1 c2 c3 c4 c5 d0 d1 d2 d3 d4 d5
 have P' := set_block p (j := 3) (.slice a3 L3.length s3)
 have r' : (w5.setCell ⟨w.heap.size, 3, none⟩ (.slice a3 L3.length s3)).heap[w.heap.size + 1]? = _ := (set_other (by omega)).trans r
 have s' : (w5.setCell ⟨w.heap.size, 3, none⟩ (.slice a3 L3.length s3)).heap[w.heap.size + 2]? = _ := (set_other (by omega)).trans s
 have hb' : Below n w (w5.setCell ⟨w.heap.size, 3, none⟩ (.slice a3 L3.length s3)) := hb.setCell (p := ⟨w.heap.size, 3, none⟩) hn _
 have T' := T.setc p (grown_setc (w := w5) (g := w.heap.size) (j := 3) (.slice a3 L3.length s3))
 have O' := O.setc p (grown_setc (w := w5) (g := w.heap.size) (j := 3) (.slice a3 L3.length s3)) (by decide)
 have hz' : w.heap.size + 3 ≤ (w5.setCell ⟨w.heap.size, 3, none⟩ (.slice a3 L3.length s3)).heap.size := by simpa using hz
 obtain ⟨⟨f0, f1, f2, f3, f4, f5⟩, c0, c1, c2, c3, c4, c5⟩ := t_cells p
 obtain ⟨-, d0, d1, d2, d3, d4, d5⟩ := t_cells r
 obtain ⟨W6, hW6⟩ : ∃ W, w5.setCell ⟨w.heap.size, 3, none⟩ (.slice a3 L3.length s3) = W := ⟨_, rfl⟩
 rw [hW6] at P' r' s' hb' T' O' hz'
 clear p r s T O hb hz
 have p : W6.heap[w.heap.size]? = some (.cells #[.int .i64 nw, .slice sa sp.length sc, .slice fa fr.length fc, .slice a3 L3.length s3, .slice ma ms.length mc, .slice ia is.length ic_] 27 (0, 0)) := P'
 have r := r'
 have s := s'
 have hb := hb'
 have T : TbO n W6 ⟨⟨nw, sp, fr, L3, ms, is⟩, (sa, sc), (fa, fc), (a3, s3), (ma, mc), (ia, ic_)⟩ := ⟨T'.1, T'.2.1, O', T'.2.2.2.1, T'.2.2.2.2⟩
 clear P' r' s' hb' T' O' hz'
 obtain ⟨-, m0, m1, m2, m3, m4, m5⟩ := t_cells p
 obtain ⟨⟨g0, g1, g2, g3, g4, g5⟩, y0, y1, y2, y3, y4, y5⟩ := t_cells s
 have S6 := set6_block s (.int .i64 nw) (.slice sa sp.length sc) (.slice fa fr.length fc) (.slice a3 L3.length s3) (.slice ma ms.length mc) (.slice ia is.length ic_)
 have B6 := set6_below (.int .i64 nw) (.slice sa sp.length sc) (.slice fa fr.length fc) (.slice a3 L3.length s3) (.slice ma ms.length mc) (.slice ia is.length ic_) (g := w.heap.size + 2) hb (Nat.le_trans hn (Nat.le_add_right _ _))
 have T6 := T.setc s (grown_set6 (.int .i64 nw) (.slice sa sp.length sc) (.slice fa fr.length fc) (.slice a3 L3.length s3) (.slice ma ms.length mc) (.slice ia is.length ic_))
 unfold set6 at S6 B6 T6
 clear p r s T hb
 go_wp2
 (try simp only [Exit.inBlock, Exit.then])
 refine bodyPost_ret (results_tb rfl _ _ (w.heap.size + 2) _ _ _ _ _ _ rfl S6) rfl ?_
 exact ⟨⟨_, rfl, E.out.symm, T6⟩, B6⟩

theorem turned_of (z : Tz) (x : It) (n : Nat) (w : World) (hT : TbO n w z) (hn : n ≤ w.heap.size) (hk : x.2.2.1 = 1 ∨ x.2.2.1 = 2 ∨ x.2.2.1 = 3) (g2 : z.t.holds.length ≤ 1000000) (g3 : z.t.marks.length ≤ 1000000) : Calls Tryz.prog 47 #[tv z, iv x] w fun e w' => (∃ z', e = .returned (tv z') ∧ z'.t = turnM z.t x ∧ TbO n w' z') ∧ Below n w w' := by
 rcases hk with h | h | h
 ·exact turned1_of z x n w hT hn h g2 g3
 ·exact turned2_of z x n w hT hn h g2 g3
 ·cases hf : findM z.t.holds x.1 with
  | none => exact turned3n_of z x n w hT hn h g2 g3 hf
  | some y => exact turned3s_of z x n w hT hn h g2 g3 (by rw [hf]; rfl)
end Go.Proofs.YtfpbgfmnjpamlaaGreat

