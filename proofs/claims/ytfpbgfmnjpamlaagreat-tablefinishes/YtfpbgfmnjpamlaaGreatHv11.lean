import Derived.Test.YtfpbgfmnjpamlaaGreatHv08
import Derived.Test.YtfpbgfmnjpamlaaGreatHv06
import Derived.Lib.SliceRun
/- slices.Clone of a table's rows; own; boxes of six cells. -/
namespace Go.Proofs.YtfpbgfmnjpamlaaGreat
open Go.RowKit LeaseMath
set_option maxRecDepth 100000
set_option linter.unusedSimpArgs false
set_option linter.unusedVariables false

def CopyT {α : Type} (E : El α) (t : TypeId) (w : World) (l : List α) (v : Value) (w' : World) : Prop := Ow E t w.heap.size w' v l ∧ Below w.heap.size w w'

theorem copy_s {w : World} {x : Value} {ys : List Sp} (hx : Rd spE w x ys) (hly : ys.length ≤ 1000000) :
  ∀ ty, ∃ v' w', (Builtin.append_ #[22, 22] ty #[.slice (some ⟨w.heap.size, 0, none⟩) 0 0, x]).run Tryz.prog (w.alloc (.cells #[] 47)) = .ok v' w' ∧ CopyT spE 47 w ys v' w' := by
 intro ty
 obtain ⟨q1, q2, q3⟩ := one_box w (.cells #[] 47)
 have hO : Ow spE 47 w.heap.size (w.alloc (.cells #[] 47)) (.slice (some ⟨w.heap.size, 0, none⟩) 0 0) [] := ⟨Rk.made (xs := []) q2 rfl (by unfold maxLen; simp), fun k hk => by cases hk; exact Nat.le_refl _⟩
 obtain ⟨v', w', h1, h2⟩ := append_sp hO.1 (hx.below q3) (by simp) hly ty
 obtain ⟨h3, h4⟩ := hO.push (by rw [q1]; omega) h2
 exact ⟨v', w', h1, h3, q3.trans h4⟩
theorem clones_of (l : List Sp) (lv : Value) (w : World) (hL : Rd spE w lv l) (hlen : l.length ≤ 1000000) : Calls Tryz.prog 99 #[lv] w fun e w' => ∃ v, e = .returned v ∧ Ow spE 47 w.heap.size w' v l ∧ Below w.heap.size w w' := by
 have hrun : Hid _ := copy_s hL hlen
 obtain ⟨ao, cap, rfl, -, h0⟩ := hL.shape
 have hnil : ∀ w', (binOp .eql 22 (.slice ao l.length cap) (.slice none 0 0)).run Tryz.prog w' = .ok (.bool ao.isNone) w' := fun w' => Lib.run_eql_slice_nil w' 22 47 ao l.length cap 0 0 Tryz.underlying22
 cases ao with
 | none =>
  have hc := h0 rfl
  have hl0 : l = [] := by
   obtain ⟨a', c', e, h1, _, _⟩ := hL
   cases e
   exact List.eq_nil_of_length_eq_zero (by omega)
  subst hl0 hc
  simp only [Option.isNone_none, List.length_nil] at hnil ⊢
  clear hrun hL
  go_enter Tryz.func99, Tryz.ntmps99
  go_wp2
  go_ret
  exact ⟨_, rfl, Ow.nil _ _ _ _, Below.refl _ _⟩
 | some a =>
  simp only [Option.isNone_some] at hnil
  clear hL h0
  go_enter Tryz.func99, Tryz.ntmps99
  go_wp2_with (at_builtin; refine wp_by rfl _ _ _ rfl _ _ rfl rfl hrun.out ?_)
  intro u w1 hp1
  obtain ⟨h1, h2⟩ := hp1
  obtain ⟨ua, uc, rfl, -, -⟩ := h1.1.rd.shape
  clear hrun
  go_wp2
  go_ret
  exact ⟨_, rfl, h1, h2⟩

theorem copy_h {w : World} {x : Value} {ys : List Hd} (hx : Rd holdE w x ys) (hly : ys.length ≤ 1000000) :
  ∀ ty, ∃ v' w', (Builtin.append_ #[23, 23] ty #[.slice (some ⟨w.heap.size, 0, none⟩) 0 0, x]).run Tryz.prog (w.alloc (.cells #[] 59)) = .ok v' w' ∧ CopyT holdE 59 w ys v' w' := by
 intro ty
 obtain ⟨q1, q2, q3⟩ := one_box w (.cells #[] 59)
 have hO : Ow holdE 59 w.heap.size (w.alloc (.cells #[] 59)) (.slice (some ⟨w.heap.size, 0, none⟩) 0 0) [] := ⟨Rk.made (xs := []) q2 rfl (by unfold maxLen; simp), fun k hk => by cases hk; exact Nat.le_refl _⟩
 obtain ⟨v', w', h1, h2⟩ := append_hold hO.1 (hx.below q3) (by simp) hly ty
 obtain ⟨h3, h4⟩ := hO.push (by rw [q1]; omega) h2
 exact ⟨v', w', h1, h3, q3.trans h4⟩
theorem cloneh_of (l : List Hd) (lv : Value) (w : World) (hL : Rd holdE w lv l) (hlen : l.length ≤ 1000000) : Calls Tryz.prog 100 #[lv] w fun e w' => ∃ v, e = .returned v ∧ Ow holdE 59 w.heap.size w' v l ∧ Below w.heap.size w w' := by
 have hrun : Hid _ := copy_h hL hlen
 obtain ⟨ao, cap, rfl, -, h0⟩ := hL.shape
 have hnil : ∀ w', (binOp .eql 23 (.slice ao l.length cap) (.slice none 0 0)).run Tryz.prog w' = .ok (.bool ao.isNone) w' := fun w' => Lib.run_eql_slice_nil w' 23 59 ao l.length cap 0 0 Tryz.underlying23
 cases ao with
 | none =>
  have hc := h0 rfl
  have hl0 : l = [] := by
   obtain ⟨a', c', e, h1, _, _⟩ := hL
   cases e
   exact List.eq_nil_of_length_eq_zero (by omega)
  subst hl0 hc
  simp only [Option.isNone_none, List.length_nil] at hnil ⊢
  clear hrun hL
  go_enter Tryz.func100, Tryz.ntmps100
  go_wp2
  go_ret
  exact ⟨_, rfl, Ow.nil _ _ _ _, Below.refl _ _⟩
 | some a =>
  simp only [Option.isNone_some] at hnil
  clear hL h0
  go_enter Tryz.func100, Tryz.ntmps100
  go_wp2_with (at_builtin; refine wp_by rfl _ _ _ rfl _ _ rfl rfl hrun.out ?_)
  intro u w1 hp1
  obtain ⟨h1, h2⟩ := hp1
  obtain ⟨ua, uc, rfl, -, -⟩ := h1.1.rd.shape
  clear hrun
  go_wp2
  go_ret
  exact ⟨_, rfl, h1, h2⟩

theorem copy_m {w : World} {x : Value} {ys : List Mk} (hx : Rd markE w x ys) (hly : ys.length ≤ 1000000) :
  ∀ ty, ∃ v' w', (Builtin.append_ #[24, 24] ty #[.slice (some ⟨w.heap.size, 0, none⟩) 0 0, x]).run Tryz.prog (w.alloc (.cells #[] 61)) = .ok v' w' ∧ CopyT markE 61 w ys v' w' := by
 intro ty
 obtain ⟨q1, q2, q3⟩ := one_box w (.cells #[] 61)
 have hO : Ow markE 61 w.heap.size (w.alloc (.cells #[] 61)) (.slice (some ⟨w.heap.size, 0, none⟩) 0 0) [] := ⟨Rk.made (xs := []) q2 rfl (by unfold maxLen; simp), fun k hk => by cases hk; exact Nat.le_refl _⟩
 obtain ⟨v', w', h1, h2⟩ := append_mark hO.1 (hx.below q3) (by simp) hly ty
 obtain ⟨h3, h4⟩ := hO.push (by rw [q1]; omega) h2
 exact ⟨v', w', h1, h3, q3.trans h4⟩
theorem clonem_of (l : List Mk) (lv : Value) (w : World) (hL : Rd markE w lv l) (hlen : l.length ≤ 1000000) : Calls Tryz.prog 101 #[lv] w fun e w' => ∃ v, e = .returned v ∧ Ow markE 61 w.heap.size w' v l ∧ Below w.heap.size w w' := by
 have hrun : Hid _ := copy_m hL hlen
 obtain ⟨ao, cap, rfl, -, h0⟩ := hL.shape
 have hnil : ∀ w', (binOp .eql 24 (.slice ao l.length cap) (.slice none 0 0)).run Tryz.prog w' = .ok (.bool ao.isNone) w' := fun w' => Lib.run_eql_slice_nil w' 24 61 ao l.length cap 0 0 Tryz.underlying24
 cases ao with
 | none =>
  have hc := h0 rfl
  have hl0 : l = [] := by
   obtain ⟨a', c', e, h1, _, _⟩ := hL
   cases e
   exact List.eq_nil_of_length_eq_zero (by omega)
  subst hl0 hc
  simp only [Option.isNone_none, List.length_nil] at hnil ⊢
  clear hrun hL
  go_enter Tryz.func101, Tryz.ntmps101
  go_wp2
  go_ret
  exact ⟨_, rfl, Ow.nil _ _ _ _, Below.refl _ _⟩
 | some a =>
  simp only [Option.isNone_some] at hnil
  clear hL h0
  go_enter Tryz.func101, Tryz.ntmps101
  go_wp2_with (at_builtin; refine wp_by rfl _ _ _ rfl _ _ rfl rfl hrun.out ?_)
  intro u w1 hp1
  obtain ⟨h1, h2⟩ := hp1
  obtain ⟨ua, uc, rfl, -, -⟩ := h1.1.rd.shape
  clear hrun
  go_wp2
  go_ret
  exact ⟨_, rfl, h1, h2⟩

theorem copy_x {w : World} {x : Value} {ys : List It} (hx : Rd itE w x ys) (hly : ys.length ≤ 1000000) :
  ∀ ty, ∃ v' w', (Builtin.append_ #[25, 25] ty #[.slice (some ⟨w.heap.size, 0, none⟩) 0 0, x]).run Tryz.prog (w.alloc (.cells #[] 63)) = .ok v' w' ∧ CopyT itE 63 w ys v' w' := by
 intro ty
 obtain ⟨q1, q2, q3⟩ := one_box w (.cells #[] 63)
 have hO : Ow itE 63 w.heap.size (w.alloc (.cells #[] 63)) (.slice (some ⟨w.heap.size, 0, none⟩) 0 0) [] := ⟨Rk.made (xs := []) q2 rfl (by unfold maxLen; simp), fun k hk => by cases hk; exact Nat.le_refl _⟩
 obtain ⟨v', w', h1, h2⟩ := append_it hO.1 (hx.below q3) (by simp) hly ty
 obtain ⟨h3, h4⟩ := hO.push (by rw [q1]; omega) h2
 exact ⟨v', w', h1, h3, q3.trans h4⟩
theorem clonex_of (l : List It) (lv : Value) (w : World) (hL : Rd itE w lv l) (hlen : l.length ≤ 1000000) : Calls Tryz.prog 102 #[lv] w fun e w' => ∃ v, e = .returned v ∧ Ow itE 63 w.heap.size w' v l ∧ Below w.heap.size w w' := by
 have hrun : Hid _ := copy_x hL hlen
 obtain ⟨ao, cap, rfl, -, h0⟩ := hL.shape
 have hnil : ∀ w', (binOp .eql 25 (.slice ao l.length cap) (.slice none 0 0)).run Tryz.prog w' = .ok (.bool ao.isNone) w' := fun w' => Lib.run_eql_slice_nil w' 25 63 ao l.length cap 0 0 Tryz.underlying25
 cases ao with
 | none =>
  have hc := h0 rfl
  have hl0 : l = [] := by
   obtain ⟨a', c', e, h1, _, _⟩ := hL
   cases e
   exact List.eq_nil_of_length_eq_zero (by omega)
  subst hl0 hc
  simp only [Option.isNone_none, List.length_nil] at hnil ⊢
  clear hrun hL
  go_enter Tryz.func102, Tryz.ntmps102
  go_wp2
  go_ret
  exact ⟨_, rfl, Ow.nil _ _ _ _, Below.refl _ _⟩
 | some a =>
  simp only [Option.isNone_some] at hnil
  clear hL h0
  go_enter Tryz.func102, Tryz.ntmps102
  go_wp2_with (at_builtin; refine wp_by rfl _ _ _ rfl _ _ rfl rfl hrun.out ?_)
  intro u w1 hp1
  obtain ⟨h1, h2⟩ := hp1
  obtain ⟨ua, uc, rfl, -, -⟩ := h1.1.rd.shape
  clear hrun
  go_wp2
  go_ret
  exact ⟨_, rfl, h1, h2⟩

/-- A box of six cells. -/
theorem t_cells {w : World} {g : Nat} {a b c d e f : Value} {t : TypeId} (h : w.heap[g]? = some (.cells #[a, b, c, d, e, f] t (0, 0))) : (w.frozen? ⟨g, 0, none⟩ = false ∧ w.frozen? ⟨g, 1, none⟩ = false ∧ w.frozen? ⟨g, 2, none⟩ = false ∧ w.frozen? ⟨g, 3, none⟩ = false ∧ w.frozen? ⟨g, 4, none⟩ = false ∧ w.frozen? ⟨g, 5, none⟩ = false) ∧ w.cell? ⟨g, 0, none⟩ = some a ∧ w.cell? ⟨g, 1, none⟩ = some b ∧ w.cell? ⟨g, 2, none⟩ = some c ∧ w.cell? ⟨g, 3, none⟩ = some d ∧ w.cell? ⟨g, 4, none⟩ = some e ∧ w.cell? ⟨g, 5, none⟩ = some f :=
 ⟨⟨frozen_of h 0, frozen_of h 1, frozen_of h 2, frozen_of h 3, frozen_of h 4, frozen_of h 5⟩, by rw [cells_of_block h]; rfl, by rw [cells_of_block h]; rfl, by rw [cells_of_block h]; rfl, by rw [cells_of_block h]; rfl, by rw [cells_of_block h]; rfl, by rw [cells_of_block h]; rfl⟩
theorem set_block {w : World} {g j : Nat} {cs : Array Value} {t : TypeId} (h : w.heap[g]? = some (.cells cs t (0, 0))) (u : Value) : (w.setCell ⟨g, j, none⟩ u).heap[g]? = some (.cells (cs.setIfInBounds j u) t (0, 0)) := by
 simp [World.setCell, Array.getElem?_modify, h]
/-- All six cells are turned. -/
def set6 (w : World) (g : Nat) (a b c d e f : Value) : World := ((((((w.setCell ⟨g, 0, none⟩ a).setCell ⟨g, 1, none⟩ b).setCell ⟨g, 2, none⟩ c).setCell ⟨g, 3, none⟩ d).setCell ⟨g, 4, none⟩ e).setCell ⟨g, 5, none⟩ f)
theorem set6_block {w : World} {g : Nat} {a b c d e f : Value} {t : TypeId} (h : w.heap[g]? = some (.cells #[a, b, c, d, e, f] t (0, 0))) (a' b' c' d' e' f' : Value) : (set6 w g a' b' c' d' e' f').heap[g]? = some (.cells #[a', b', c', d', e', f'] t (0, 0)) := by
 unfold set6
 rw [set_block (set_block (set_block (set_block (set_block (set_block h _) _) _) _) _) _]
 simp
theorem set6_below {n g : Nat} {w0 w : World} (a b c d e f : Value) (hB : Below n w0 w) (hn : n ≤ g) : Below n w0 (set6 w g a b c d e f) := (((((hB.setCell (p := ⟨g, 0, none⟩) hn _).setCell (p := ⟨g, 1, none⟩) hn _).setCell (p := ⟨g, 2, none⟩) hn _).setCell (p := ⟨g, 3, none⟩) hn _).setCell (p := ⟨g, 4, none⟩) hn _).setCell (p := ⟨g, 5, none⟩) hn _
theorem set_other {w : World} {g j k : Nat} {u : Value} (h : k ≠ g) : (w.setCell ⟨g, j, none⟩ u).heap[k]? = w.heap[k]? := Below.heap_setCell _ _ _ _ h
theorem set6_other {w : World} {g k : Nat} (a b c d e f : Value) (h : k ≠ g) : (set6 w g a b c d e f).heap[k]? = w.heap[k]? := by
 unfold set6
 rw [set_other h, set_other h, set_other h, set_other h, set_other h, set_other h]
theorem Ow.keep {α : Type} {E : El α} {t : TypeId} {n : Nat} {w w' : World} {v : Value} {l : List α} (h : Ow E t n w v l) (hs : ∀ k, n ≤ k → k < w.heap.size → w'.heap[k]? = w.heap[k]?) : Ow E t n w' v l := ⟨h.1.same fun k hk => hs k (h.2 k hk) (h.1.lt hk), h.2⟩
theorem results_tb {fn : Func} {p : Tmp} (h : fn.results = #[.cell p 27]) (tmps : Array Value) (w : World) (g : Nat) (a b c d e f : Value)
  (hp : tmps.getD p undef = .pointer (some ⟨g, 0, none⟩)) (hg : w.heap[g]? = some (.cells #[a, b, c, d, e, f] 27 (0, 0))) :
  (results fn tmps).run Tryz.prog w = .ok (.agg #[a, b, c, d, e, f]) w := by
 have hp' : tmps[p]?.getD undef = .pointer (some ⟨g, 0, none⟩) := by simpa using hp
 simp [results, h, hp', asAddr, run_loadVar_row w g 27 27 #[a, b, c, d, e, f] (0, 0) _ hg Tryz.underlying27 rfl (by kernel_rfl)]
theorem results_tbe {fn : Func} {p u : Tmp} (h : fn.results = #[.cell p 27, .tmp u]) (tmps : Array Value) (w : World) (g : Nat) (a b c d e f : Value)
  (hp : tmps.getD p undef = .pointer (some ⟨g, 0, none⟩)) (hg : w.heap[g]? = some (.cells #[a, b, c, d, e, f] 27 (0, 0))) :
  (results fn tmps).run Tryz.prog w = .ok (.tuple #[.agg #[a, b, c, d, e, f], tmps.getD u undef]) w := by
 have hp' : tmps[p]?.getD undef = .pointer (some ⟨g, 0, none⟩) := by simpa using hp
 simp [results, h, hp', asAddr, run_loadVar_row w g 27 27 #[a, b, c, d, e, f] (0, 0) _ hg Tryz.underlying27 rfl (by kernel_rfl)]
theorem results_tbne {fn : Func} {p u v : Tmp} (h : fn.results = #[.cell p 27, .tmp u, .tmp v]) (tmps : Array Value) (w : World) (g : Nat) (a b c d e f : Value)
  (hp : tmps.getD p undef = .pointer (some ⟨g, 0, none⟩)) (hg : w.heap[g]? = some (.cells #[a, b, c, d, e, f] 27 (0, 0))) :
  (results fn tmps).run Tryz.prog w = .ok (.tuple #[.agg #[a, b, c, d, e, f], tmps.getD u undef, tmps.getD v undef]) w := by
 have hp' : tmps[p]?.getD undef = .pointer (some ⟨g, 0, none⟩) := by simpa using hp
 simp [results, h, hp', asAddr, run_loadVar_row w g 27 27 #[a, b, c, d, e, f] (0, 0) _ hg Tryz.underlying27 rfl (by kernel_rfl)]
/-- A table whose rows are its own, in blocks from n on. -/
def TbO (n : Nat) (w : World) (z : Tz) : Prop := Ow spE 47 n w (.slice z.s.1 z.t.spans.length z.s.2) z.t.spans ∧ Ow spE 47 n w (.slice z.f.1 z.t.frozen.length z.f.2) z.t.frozen ∧ Ow holdE 59 n w (.slice z.h.1 z.t.holds.length z.h.2) z.t.holds ∧ Ow markE 61 n w (.slice z.m.1 z.t.marks.length z.m.2) z.t.marks ∧ Ow itE 63 n w (.slice z.i.1 z.t.ints.length z.i.2) z.t.ints
theorem TbO.tbr {n : Nat} {w : World} {z : Tz} (h : TbO n w z) : TbR w z := ⟨h.1.1.rd, h.2.1.1.rd, h.2.2.1.1.rd, h.2.2.2.1.1.rd, h.2.2.2.2.1.rd⟩
theorem TbO.below {n : Nat} {w w' : World} {z : Tz} (h : TbO n w z) (hb : Below w.heap.size w w') : TbO n w' z := ⟨h.1.below hb, h.2.1.below hb, h.2.2.1.below hb, h.2.2.2.1.below hb, h.2.2.2.2.below hb⟩
theorem TbO.keep {n : Nat} {w w' : World} {z : Tz} (h : TbO n w z) (hs : ∀ k, n ≤ k → k < w.heap.size → w'.heap[k]? = w.heap[k]?) : TbO n w' z := ⟨h.1.keep hs, h.2.1.keep hs, h.2.2.1.keep hs, h.2.2.2.1.keep hs, h.2.2.2.2.keep hs⟩
theorem TbO.mono {n m : Nat} {w : World} {z : Tz} (h : TbO n w z) (hm : m ≤ n) : TbO m w z := ⟨h.1.mono hm, h.2.1.mono hm, h.2.2.1.mono hm, h.2.2.2.1.mono hm, h.2.2.2.2.mono hm⟩

theorem two_boxes6 (w : World) (x y : Obj) : ((w.alloc x).alloc y).heap.size = w.heap.size + 2 ∧ ((w.alloc x).alloc y).heap[w.heap.size]? = some x ∧ ((w.alloc x).alloc y).heap[w.heap.size + 1]? = some y ∧ Below w.heap.size w ((w.alloc x).alloc y) := by
 obtain ⟨a1, a2, a3⟩ := one_box w x
 obtain ⟨b1, b2, b3⟩ := one_box (w.alloc x) y
 rw [a1] at b1 b2 b3
 exact ⟨b1, (b3.block w.heap.size (Nat.lt_succ_self _)).trans a2, b2, a3.trans (b3.mono (Nat.le_succ _))⟩

set_option maxHeartbeats 4000000 in
theorem own_of (z : Tz) (w : World) (hR : TbR w z) (g0 : z.t.spans.length ≤ 1000000) (g1 : z.t.frozen.length ≤ 1000000) (g2 : z.t.holds.length ≤ 1000000) (g3 : z.t.marks.length ≤ 1000000) (g4 : z.t.ints.length ≤ 1000000) : Calls Tryz.prog 38 #[tv z] w fun e w' => (∃ z', e = .returned (tv z') ∧ z'.t = z.t ∧ TbO w.heap.size w' z') ∧ Below w.heap.size w w' := by
 have hRH : Hid (TbR w z) := hR
 obtain ⟨⟨nw, sp, fr, hs_, ms, is⟩, ⟨sa, sc⟩, ⟨fa, fc⟩, ⟨ha, hc⟩, ⟨ma, mc⟩, ⟨ia, ic_⟩⟩ := z
 dsimp only [tv] at *
 have k1 : Hid (∀ W, Below w.heap.size w W → _) := fun W hW => clones_of sp _ W (hRH.out.1.below hW) g0
 have k2 : Hid (∀ W, Below w.heap.size w W → _) := fun W hW => clones_of fr _ W (hRH.out.2.1.below hW) g1
 have k3 : Hid (∀ W, Below w.heap.size w W → _) := fun W hW => cloneh_of hs_ _ W (hRH.out.2.2.1.below hW) g2
 have k4 : Hid (∀ W, Below w.heap.size w W → _) := fun W hW => clonem_of ms _ W (hRH.out.2.2.2.1.below hW) g3
 have k5 : Hid (∀ W, Below w.heap.size w W → _) := fun W hW => clonex_of is _ W (hRH.out.2.2.2.2.below hW) g4
 obtain ⟨q1, q2, q3, q4⟩ := two_boxes6 w (.cells #[.int .i64 nw, .slice sa sp.length sc, .slice fa fr.length fc, .slice ha hs_.length hc, .slice ma ms.length mc, .slice ia is.length ic_] 27) (.cells #[.int .i64 0, .slice none 0 0, .slice none 0 0, .slice none 0 0, .slice none 0 0, .slice none 0 0] 27)
 obtain ⟨⟨f0, f1, f2, f3, f4, f5⟩, d0, d1, d2, d3, d4, d5⟩ := t_cells q2
 clear hR g0 g1 g2 g3 g4
 go_enter Tryz.func38, Tryz.ntmps38
 go_wp2_with fail
 refine (k1.out _ q4).mono ?_
 rintro e u1 ⟨v1, rfl, hO1, hb1⟩
 obtain ⟨a1, c1, rfl, -, -⟩ := hO1.1.rd.shape
 have hz1 : w.heap.size + 2 ≤ u1.heap.size := by have := hb1.size; omega
 rw [q1] at hb1 hO1
 have p1 := (hb1.block w.heap.size (by omega)).trans q2
 have r1 := (hb1.block (w.heap.size + 1) (by omega)).trans q3
 have B1 := q4.trans (hb1.mono (by omega))
 have O1 := hO1
 obtain ⟨⟨f0, f1, f2, f3, f4, f5⟩, d0, d1, d2, d3, d4, d5⟩ := t_cells p1
 have P1 := set_block p1 (j := 1) (.slice a1 sp.length c1)
 have R1 : (u1.setCell ⟨w.heap.size, 1, none⟩ (.slice a1 sp.length c1)).heap[w.heap.size + 1]? = _ := (set_other (by omega)).trans r1
 have BB1 : Below w.heap.size w (u1.setCell ⟨w.heap.size, 1, none⟩ (.slice a1 sp.length c1)) := B1.setCell (p := ⟨w.heap.size, 1, none⟩) (Nat.le_refl _) _
 replace O1 := O1.keep (w' := u1.setCell ⟨w.heap.size, 1, none⟩ (.slice a1 sp.length c1)) (fun k hk _ => set_other (by omega))
 have y1 : w.heap.size + 2 ≤ (u1.setCell ⟨w.heap.size, 1, none⟩ (.slice a1 sp.length c1)).heap.size := by simpa using hz1
 obtain ⟨W1, HW1⟩ : ∃ W, u1.setCell ⟨w.heap.size, 1, none⟩ (.slice a1 sp.length c1) = W := ⟨_, rfl⟩
 rw [HW1] at P1 R1 BB1 y1 O1
 replace P1 : W1.heap[w.heap.size]? = some (.cells #[.int .i64 nw, .slice a1 sp.length c1, .slice fa fr.length fc, .slice ha hs_.length hc, .slice ma ms.length mc, .slice ia is.length ic_] 27 (0, 0)) := P1
 clear p1 r1 B1 hO1 hb1 hz1 k1 q1 q2 q3 q4
 obtain ⟨-, e0, e1, e2, e3, e4, e5⟩ := t_cells P1
 go_wp2_with fail
 refine (k2.out _ BB1).mono ?_
 rintro e u2 ⟨v2, rfl, hO2, hb2⟩
 obtain ⟨a2, c2, rfl, -, -⟩ := hO2.1.rd.shape
 have hz2 : w.heap.size + 2 ≤ u2.heap.size := Nat.le_trans y1 hb2.size
 have p2 := (hb2.block w.heap.size (by omega)).trans P1
 have r2 := (hb2.block (w.heap.size + 1) (by omega)).trans R1
 have B2 := keep_step BB1 (Nat.le_refl _) hb2
 replace O1 := O1.below hb2
 have O2 : Ow spE 47 (w.heap.size + 2) u2 _ _ := hO2.mono y1
 obtain ⟨⟨f0, f1, f2, f3, f4, f5⟩, d0, d1, d2, d3, d4, d5⟩ := t_cells p2
 have P2 := set_block p2 (j := 2) (.slice a2 fr.length c2)
 have R2 : (u2.setCell ⟨w.heap.size, 2, none⟩ (.slice a2 fr.length c2)).heap[w.heap.size + 1]? = _ := (set_other (by omega)).trans r2
 have BB2 : Below w.heap.size w (u2.setCell ⟨w.heap.size, 2, none⟩ (.slice a2 fr.length c2)) := B2.setCell (p := ⟨w.heap.size, 2, none⟩) (Nat.le_refl _) _
 replace O1 := O1.keep (w' := u2.setCell ⟨w.heap.size, 2, none⟩ (.slice a2 fr.length c2)) (fun k hk _ => set_other (by omega))
 replace O2 := O2.keep (w' := u2.setCell ⟨w.heap.size, 2, none⟩ (.slice a2 fr.length c2)) (fun k hk _ => set_other (by omega))
 have y2 : w.heap.size + 2 ≤ (u2.setCell ⟨w.heap.size, 2, none⟩ (.slice a2 fr.length c2)).heap.size := by simpa using hz2
 obtain ⟨W2, HW2⟩ : ∃ W, u2.setCell ⟨w.heap.size, 2, none⟩ (.slice a2 fr.length c2) = W := ⟨_, rfl⟩
 rw [HW2] at P2 R2 BB2 y2 O1 O2
 replace P2 : W2.heap[w.heap.size]? = some (.cells #[.int .i64 nw, .slice a1 sp.length c1, .slice a2 fr.length c2, .slice ha hs_.length hc, .slice ma ms.length mc, .slice ia is.length ic_] 27 (0, 0)) := P2
 clear p2 r2 B2 hO2 hb2 hz2 k2 P1 R1 BB1 y1
 obtain ⟨-, e0, e1, e2, e3, e4, e5⟩ := t_cells P2
 go_wp2_with fail
 refine (k3.out _ BB2).mono ?_
 rintro e u3 ⟨v3, rfl, hO3, hb3⟩
 obtain ⟨a3, c3, rfl, -, -⟩ := hO3.1.rd.shape
 have hz3 : w.heap.size + 2 ≤ u3.heap.size := Nat.le_trans y2 hb3.size
 have p3 := (hb3.block w.heap.size (by omega)).trans P2
 have r3 := (hb3.block (w.heap.size + 1) (by omega)).trans R2
 have B3 := keep_step BB2 (Nat.le_refl _) hb3
 replace O1 := O1.below hb3
 replace O2 := O2.below hb3
 have O3 : Ow holdE 59 (w.heap.size + 2) u3 _ _ := hO3.mono y2
 obtain ⟨⟨f0, f1, f2, f3, f4, f5⟩, d0, d1, d2, d3, d4, d5⟩ := t_cells p3
 have P3 := set_block p3 (j := 3) (.slice a3 hs_.length c3)
 have R3 : (u3.setCell ⟨w.heap.size, 3, none⟩ (.slice a3 hs_.length c3)).heap[w.heap.size + 1]? = _ := (set_other (by omega)).trans r3
 have BB3 : Below w.heap.size w (u3.setCell ⟨w.heap.size, 3, none⟩ (.slice a3 hs_.length c3)) := B3.setCell (p := ⟨w.heap.size, 3, none⟩) (Nat.le_refl _) _
 replace O1 := O1.keep (w' := u3.setCell ⟨w.heap.size, 3, none⟩ (.slice a3 hs_.length c3)) (fun k hk _ => set_other (by omega))
 replace O2 := O2.keep (w' := u3.setCell ⟨w.heap.size, 3, none⟩ (.slice a3 hs_.length c3)) (fun k hk _ => set_other (by omega))
 replace O3 := O3.keep (w' := u3.setCell ⟨w.heap.size, 3, none⟩ (.slice a3 hs_.length c3)) (fun k hk _ => set_other (by omega))
 have y3 : w.heap.size + 2 ≤ (u3.setCell ⟨w.heap.size, 3, none⟩ (.slice a3 hs_.length c3)).heap.size := by simpa using hz3
 obtain ⟨W3, HW3⟩ : ∃ W, u3.setCell ⟨w.heap.size, 3, none⟩ (.slice a3 hs_.length c3) = W := ⟨_, rfl⟩
 rw [HW3] at P3 R3 BB3 y3 O1 O2 O3
 replace P3 : W3.heap[w.heap.size]? = some (.cells #[.int .i64 nw, .slice a1 sp.length c1, .slice a2 fr.length c2, .slice a3 hs_.length c3, .slice ma ms.length mc, .slice ia is.length ic_] 27 (0, 0)) := P3
 clear p3 r3 B3 hO3 hb3 hz3 k3 P2 R2 BB2 y2
 obtain ⟨-, e0, e1, e2, e3, e4, e5⟩ := t_cells P3
 go_wp2_with fail
 refine (k4.out _ BB3).mono ?_
 rintro e u4 ⟨v4, rfl, hO4, hb4⟩
 obtain ⟨a4, c4, rfl, -, -⟩ := hO4.1.rd.shape
 have hz4 : w.heap.size + 2 ≤ u4.heap.size := Nat.le_trans y3 hb4.size
 have p4 := (hb4.block w.heap.size (by omega)).trans P3
 have r4 := (hb4.block (w.heap.size + 1) (by omega)).trans R3
 have B4 := keep_step BB3 (Nat.le_refl _) hb4
 replace O1 := O1.below hb4
 replace O2 := O2.below hb4
 replace O3 := O3.below hb4
 have O4 : Ow markE 61 (w.heap.size + 2) u4 _ _ := hO4.mono y3
 obtain ⟨⟨f0, f1, f2, f3, f4, f5⟩, d0, d1, d2, d3, d4, d5⟩ := t_cells p4
 have P4 := set_block p4 (j := 4) (.slice a4 ms.length c4)
 have R4 : (u4.setCell ⟨w.heap.size, 4, none⟩ (.slice a4 ms.length c4)).heap[w.heap.size + 1]? = _ := (set_other (by omega)).trans r4
 have BB4 : Below w.heap.size w (u4.setCell ⟨w.heap.size, 4, none⟩ (.slice a4 ms.length c4)) := B4.setCell (p := ⟨w.heap.size, 4, none⟩) (Nat.le_refl _) _
 replace O1 := O1.keep (w' := u4.setCell ⟨w.heap.size, 4, none⟩ (.slice a4 ms.length c4)) (fun k hk _ => set_other (by omega))
 replace O2 := O2.keep (w' := u4.setCell ⟨w.heap.size, 4, none⟩ (.slice a4 ms.length c4)) (fun k hk _ => set_other (by omega))
 replace O3 := O3.keep (w' := u4.setCell ⟨w.heap.size, 4, none⟩ (.slice a4 ms.length c4)) (fun k hk _ => set_other (by omega))
 replace O4 := O4.keep (w' := u4.setCell ⟨w.heap.size, 4, none⟩ (.slice a4 ms.length c4)) (fun k hk _ => set_other (by omega))
 have y4 : w.heap.size + 2 ≤ (u4.setCell ⟨w.heap.size, 4, none⟩ (.slice a4 ms.length c4)).heap.size := by simpa using hz4
 obtain ⟨W4, HW4⟩ : ∃ W, u4.setCell ⟨w.heap.size, 4, none⟩ (.slice a4 ms.length c4) = W := ⟨_, rfl⟩
 rw [HW4] at P4 R4 BB4 y4 O1 O2 O3 O4
 replace P4 : W4.heap[w.heap.size]? = some (.cells #[.int .i64 nw, .slice a1 sp.length c1, .slice a2 fr.length c2, .slice a3 hs_.length c3, .slice a4 ms.length c4, .slice ia is.length ic_] 27 (0, 0)) := P4
 clear p4 r4 B4 hO4 hb4 hz4 k4 P3 R3 BB3 y3
 obtain ⟨-, e0, e1, e2, e3, e4, e5⟩ := t_cells P4
 go_wp2_with fail
 refine (k5.out _ BB4).mono ?_
 rintro e u5 ⟨v5, rfl, hO5, hb5⟩
 obtain ⟨a5, c5, rfl, -, -⟩ := hO5.1.rd.shape
 have hz5 : w.heap.size + 2 ≤ u5.heap.size := Nat.le_trans y4 hb5.size
 have p5 := (hb5.block w.heap.size (by omega)).trans P4
 have r5 := (hb5.block (w.heap.size + 1) (by omega)).trans R4
 have B5 := keep_step BB4 (Nat.le_refl _) hb5
 replace O1 := O1.below hb5
 replace O2 := O2.below hb5
 replace O3 := O3.below hb5
 replace O4 := O4.below hb5
 have O5 : Ow itE 63 (w.heap.size + 2) u5 _ _ := hO5.mono y4
 obtain ⟨⟨f0, f1, f2, f3, f4, f5⟩, d0, d1, d2, d3, d4, d5⟩ := t_cells p5
 have P5 := set_block p5 (j := 5) (.slice a5 is.length c5)
 have R5 : (u5.setCell ⟨w.heap.size, 5, none⟩ (.slice a5 is.length c5)).heap[w.heap.size + 1]? = _ := (set_other (by omega)).trans r5
 have BB5 : Below w.heap.size w (u5.setCell ⟨w.heap.size, 5, none⟩ (.slice a5 is.length c5)) := B5.setCell (p := ⟨w.heap.size, 5, none⟩) (Nat.le_refl _) _
 replace O1 := O1.keep (w' := u5.setCell ⟨w.heap.size, 5, none⟩ (.slice a5 is.length c5)) (fun k hk _ => set_other (by omega))
 replace O2 := O2.keep (w' := u5.setCell ⟨w.heap.size, 5, none⟩ (.slice a5 is.length c5)) (fun k hk _ => set_other (by omega))
 replace O3 := O3.keep (w' := u5.setCell ⟨w.heap.size, 5, none⟩ (.slice a5 is.length c5)) (fun k hk _ => set_other (by omega))
 replace O4 := O4.keep (w' := u5.setCell ⟨w.heap.size, 5, none⟩ (.slice a5 is.length c5)) (fun k hk _ => set_other (by omega))
 replace O5 := O5.keep (w' := u5.setCell ⟨w.heap.size, 5, none⟩ (.slice a5 is.length c5)) (fun k hk _ => set_other (by omega))
 have y5 : w.heap.size + 2 ≤ (u5.setCell ⟨w.heap.size, 5, none⟩ (.slice a5 is.length c5)).heap.size := by simpa using hz5
 obtain ⟨W5, HW5⟩ : ∃ W, u5.setCell ⟨w.heap.size, 5, none⟩ (.slice a5 is.length c5) = W := ⟨_, rfl⟩
 rw [HW5] at P5 R5 BB5 y5 O1 O2 O3 O4 O5
 replace P5 : W5.heap[w.heap.size]? = some (.cells #[.int .i64 nw, .slice a1 sp.length c1, .slice a2 fr.length c2, .slice a3 hs_.length c3, .slice a4 ms.length c4, .slice a5 is.length c5] 27 (0, 0)) := P5
 clear p5 r5 B5 hO5 hb5 hz5 k5 P4 R4 BB4 y4
 obtain ⟨-, e0, e1, e2, e3, e4, e5⟩ := t_cells P5
 obtain ⟨⟨f0, f1, f2, f3, f4, f5⟩, d0, d1, d2, d3, d4, d5⟩ := t_cells P5
 obtain ⟨⟨g0, g1, g2, g3, g4, g5⟩, b0, b1, b2, b3, b4, b5⟩ := t_cells R5
 have S6 := set6_block R5 (.int .i64 nw) (.slice a1 sp.length c1) (.slice a2 fr.length c2) (.slice a3 hs_.length c3) (.slice a4 ms.length c4) (.slice a5 is.length c5)
 have B6 := set6_below (.int .i64 nw) (.slice a1 sp.length c1) (.slice a2 fr.length c2) (.slice a3 hs_.length c3) (.slice a4 ms.length c4) (.slice a5 is.length c5) (g := w.heap.size + 1) BB5 (Nat.le_succ _)
 have T6 : TbO (w.heap.size + 2) W5 ⟨⟨nw, sp, fr, hs_, ms, is⟩, (a1, c1), (a2, c2), (a3, c3), (a4, c4), (a5, c5)⟩ := ⟨O1, O2, O3, O4, O5⟩
 have T7 := (T6.keep (fun k hk _ => set6_other (g := w.heap.size + 1) (.int .i64 nw) (.slice a1 sp.length c1) (.slice a2 fr.length c2) (.slice a3 hs_.length c3) (.slice a4 ms.length c4) (.slice a5 is.length c5) (by omega))).mono (Nat.le_trans (Nat.le_succ _) (Nat.le_succ _) : w.heap.size ≤ w.heap.size + 2)
 unfold set6 at S6 B6 T7
 clear O1 O2 O3 O4 O5 T6 P5 R5 BB5
 go_wp2
 (try simp only [Exit.inBlock, Exit.then])
 refine bodyPost_ret (results_tb rfl _ _ (w.heap.size + 1) _ _ _ _ _ _ rfl S6) rfl ?_
 exact ⟨⟨_, rfl, rfl, T7⟩, B6⟩
end Go.Proofs.YtfpbgfmnjpamlaaGreat

