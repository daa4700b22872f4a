import Derived.Test.YtfpbgfmnjpamlaaGreatHu43
import Derived.Test.YtfpbgfmnjpamlaaGreatHu36
import Derived.Test.YtfpbgfmnjpamlaaGreatHu44
import Derived.Test.YtfpbgfmnjpamlaaGreatHu24
import Derived.Test.YtfpbgfmnjpamlaaGreatHu11
import Derived.Test.YtfpbgfmnjpamlaaGreatHu30
/- Which tables may be, as the document asks it. -/
namespace Go.Proofs.YtfpbgfmnjpamlaaGreat
open Go.RowKit LeaseMath
set_option linter.unusedSimpArgs false
set_option linter.unusedVariables false

def rcovB (l : List Sp) (s : Sp) : Bool := decide (SpanMath.leftOf l [s] = [])
theorem cov_same {l : List Sp} {s : Sp} (hl : SpanMath.formB l = true) (hs : SpanMath.may s = true) : rcovB l s = covP l s := by
 obtain ⟨-, h2, h3⟩ := SpanMath.formB_iff.1 hl
 unfold rcovB covP
 rw [hl, Bool.true_and, Bool.eq_iff_iff, decide_eq_true_eq, SpanMath.covers_left h3 (SpanMath.may_iff.1 hs).2, List.any_eq_true]
 constructor
 ·rintro ⟨x, hx, hm⟩
  refine ⟨x, hx, ?_⟩
  unfold meetP
  rw [SpanMath.may_iff.2 ⟨h2 x hx, h3.2 x hx⟩, hs]
  simpa using hm
 ·rintro ⟨x, hx, hm⟩
  refine ⟨x, hx, ?_⟩
  unfold meetP at hm
  rw [SpanMath.may_iff.2 ⟨h2 x hx, h3.2 x hx⟩, hs] at hm
  simpa using hm
theorem all_same {α : Type} {p q : α → Bool} {l : List α} (h : ∀ x ∈ l, p x = q x) : l.all p = l.all q := by
 rw [Bool.eq_iff_iff, List.all_eq_true, List.all_eq_true]
 exact ⟨fun g x hx => by rw [← h x hx]; exact g x hx, fun g x hx => by rw [h x hx]; exact g x hx⟩
theorem inP_in {sp : List Sp} {k : K} (h : SpanMath.formB sp = true) (hk : k.length ≤ 64) : inP sp k = SpanMath.isIn sp k := by
 unfold inP
 rw [h, decide_eq_true hk]
 rfl
theorem held_iff {hs : List Hd} {k : K} (h : mayB holdB hs = true) : heldN hs k = 0 ↔ ∀ y ∈ hs, y.1 ≠ k := by
 refine ⟨fun h0 y hy he => ?_, held_none⟩
 rw [heldN_find, find_mem (may_up h) hy he] at h0
 exact (hold_iff.1 ((may_iff.1 h).2.1 y hy)).2.1 h0
theorem last_iff {ms : List Mk} {k : K} (h : mayB markB ms = true) : lastM ms k = 0 ↔ ∀ y ∈ ms, y.1 ≠ k := by
 refine ⟨fun h0 y hy he => ?_, fun h9 => by unfold lastM; rw [find_none h9]⟩
 unfold lastM at h0
 rw [find_mem (may_up h) hy he] at h0
 exact (mark_iff.1 ((may_iff.1 h).2.1 y hy)).2 h0
theorem with_same {sp : List Sp} {hs : List Hd} {ms : List Mk} (h : SpanMath.formB sp = true) (h1 : mayB holdB hs = true) (h2 : mayB markB ms = true) : locksB sp hs ms = withB sp hs ms := by
 unfold locksB withB
 rw [h1, h2]
 simp only [Bool.true_and]
 have e1 : (hs.all fun h => inP sp h.1) = hs.all fun h => SpanMath.isIn sp h.1 := all_same fun y hy => inP_in h (hold_iff.1 ((may_iff.1 h1).2.1 y hy)).1
 rw [e1, Bool.eq_iff_iff]
 simp only [Bool.and_eq_true, List.all_eq_true, decide_eq_true_eq]
 constructor
 ·rintro ⟨a, b⟩
  refine ⟨fun y hy => ⟨b y hy, (last_iff h2).2 fun m hm he => ?_⟩, fun m hm => ?_⟩
  ·exact (held_iff h1).1 (a m hm).1 y hy he.symm
  ·rw [← inP_in h (mark_iff.1 ((may_iff.1 h2).2.1 m hm)).1]
   exact (a m hm).2
 ·rintro ⟨a, b⟩
  refine ⟨fun m hm => ⟨(held_iff h1).2 fun y hy he => ?_, ?_⟩, fun y hy => (a y hy).1⟩
  ·exact (last_iff h2).1 (a y hy).2 m hm he.symm
  ·rw [inP_in h (mark_iff.1 ((may_iff.1 h2).2.1 m hm)).1]
   exact b m hm
/-- An intent, as the document asks it. -/
def rintB (sp : List Sp) (x : It) : Bool := decide (x.1.length ≤ 64) && idB x.2.1 && turnB x.2.2.1 x.2.2.2.2 && decide (x.2.2.2.1 ≠ 0) && SpanMath.isIn sp x.1
theorem rint_same {sp : List Sp} (h : SpanMath.formB sp = true) : rintB sp = intB sp := by
 funext x
 unfold rintB intB inP
 rw [h]
 cases decide (x.1.length ≤ 64) <;> cases idB x.2.1 <;> cases turnB x.2.2.1 x.2.2.2.2 <;> cases decide (x.2.2.2.1 ≠ 0) <;> rfl
/-- A table, as the document asks it. -/
def rmayT (t : Tb) : Bool := timeB t.now && (SpanMath.formB t.spans && (SpanMath.formB t.frozen && (mayB holdB t.holds && (mayB markB t.marks && ((t.frozen.all fun s => rcovB t.spans s) && (withB t.spans t.holds t.marks && (decide (locksN t ≤ 1024) && walk (rintB t.spans) none t.ints)))))))
theorem rmay_same (t : Tb) : rmayT t = okT t := by
 unfold rmayT okT spansB
 cases h0 : timeB t.now
 ·rfl
 cases h1 : SpanMath.formB t.spans
 ·rfl
 cases h2 : SpanMath.formB t.frozen
 ·rfl
 obtain ⟨-, q2, q3⟩ := SpanMath.formB_iff.1 h2
 rw [all_same (p := fun s => rcovB t.spans s) (q := fun s => covP t.spans s) fun s hs => cov_same h1 (SpanMath.may_iff.2 ⟨q2 s hs, q3.2 s hs⟩)]
 cases h3 : mayB holdB t.holds
 ·unfold locksB
  rw [h3]
  simp
 cases h4 : mayB markB t.marks
 ·unfold locksB
  rw [h3, h4]
  simp
 rw [with_same h1 h3 h4, rint_same h1]
 unfold intsB
 cases (t.frozen.all fun s => covP t.spans s) <;> cases withB t.spans t.holds t.marks <;> cases decide (locksN t ≤ 1024) <;> rfl
theorem rint_at {sp : List Sp} {l : List It} {i : Nat} {x : It} (h : l[i]? = some x) : walk (rintB sp) (prev l i) (l.drop i) = (rintB sp x && lnk (prev l i) x && walk (rintB sp) (prev l (i + 1)) (l.drop (i + 1))) := by
 rw [walk_at h, prev_succ h]
end Go.Proofs.YtfpbgfmnjpamlaaGreat

/- The document's intent, refused. -/
namespace Go.Proofs.YtfpbgfmnjpamlaaGreat
open Go.RowKit LeaseMath
set_option maxRecDepth 100000
set_option linter.unusedSimpArgs false
set_option linter.unusedVariables false

theorem results_ib {fn : Func} {p u : Tmp} (h : fn.results = #[.cell p 63, .tmp u]) (tmps : Array Value) (w : World) (g : Nat) (a b c d e f : Value)
  (hp : tmps.getD p undef = .pointer (some ⟨g, 0, none⟩)) (hg : w.heap[g]? = some (.cells #[a, b, c, d, e, f] 63 (0, 0))) :
  (results fn tmps).run Tryz.prog w = .ok (.tuple #[.agg #[a, b, c, d, e, f], tmps.getD u undef]) w := by
 have hp' : tmps[p]?.getD undef = .pointer (some ⟨g, 0, none⟩) := by simpa using hp
 simp [results, h, hp', asAddr, run_loadVar_row w g 63 63 #[a, b, c, d, e, f] (0, 0) _ hg Tryz.underlying63 rfl (by kernel_rfl)]
@[reducible] def goti (o : Option It) : It := o.getD ([], (0, 0), 0, 0, 0)
def IntT (B : Bool) (e : Ending) : Prop := ∃ x : It, e = .returned (.tuple #[iv x, .bool B])
theorem itd_at {l : List It} {i : Nat} {x : It} (c : K) (h : l[i]? = some x) : itdB (l.drop i) c = (decide (x.1 = c) || itdB (l.drop (i + 1)) c) := by
 obtain ⟨hi, rfl⟩ := List.getElem?_eq_some_iff.1 h
 unfold itdB
 rw [List.drop_eq_getElem_cons hi, List.any_cons]
set_option maxHeartbeats 4000000 in
theorem rintent_of (z : Tz) (c : K) (w : World) (hR : TbR w z) (hlen : z.t.ints.length ≤ 1000000000) : Calls Tryz.prog 107 #[tv z, .string (bk c)] w fun e w' => IntT (itdB z.t.ints c) e ∧ Below w.heap.size w w' := by
 obtain ⟨T, HT⟩ : ∃ T, Hid (T = itdB z.t.ints c) := ⟨_, rfl⟩
 rw [← HT.out]
 have HL : Hid (Rd itE w (.slice z.i.1 z.t.ints.length z.i.2) z.t.ints) := hR.2.2.2.2
 obtain ⟨⟨nw, sp, fr, hs_, ms, is⟩, ⟨sa, sc⟩, ⟨fa, fc⟩, ⟨ha, hc⟩, ⟨ma, mc⟩, ⟨ia, ic_⟩⟩ := z
 dsimp only [tv] at *
 clear hR
 obtain ⟨q1, q2, q3, q4⟩ := two_boxes6 w (.cells #[.int .i64 nw, .slice sa sp.length sc, .slice fa fr.length fc, .slice ha hs_.length hc, .slice ma ms.length mc, .slice ia is.length ic_] 27) (.cells #[.string { data := #[] }, .int .i64 0, .int .u64 0, .int .i64 0, .int .u64 0, .int .i64 0] 63)
 obtain ⟨w0, hw0⟩ : ∃ W, (w.alloc (.cells #[.int .i64 nw, .slice sa sp.length sc, .slice fa fr.length fc, .slice ha hs_.length hc, .slice ma ms.length mc, .slice ia is.length ic_] 27)).alloc (.cells #[.string { data := #[] }, .int .i64 0, .int .u64 0, .int .i64 0, .int .u64 0, .int .i64 0] 63) = W := ⟨_, rfl⟩
 rw [hw0] at q1 q2 q3 q4
 have HW0 : Hid (∀ W, Below (w.heap.size + 2) w0 W → Below w.heap.size w W ∧ W.heap[w.heap.size]? = _ ∧ W.heap[w.heap.size + 1]? = _) := fun W hW => ⟨q4.trans (hW.mono (by omega)), (hW.block w.heap.size (by omega)).trans q2, (hW.block (w.heap.size + 1) (by omega)).trans q3⟩
 clear q1 q2 q3 q4
 go_enter Tryz.func107, Tryz.ntmps107
 go_wp2
 go_loopg [6] is.length (fun g s6 wr => ∃ i : Nat, i + g = is.length ∧ s6 = .int .i64 (i : Int) ∧ Below (w.heap.size + 2) w0 wr ∧ Hid (itdB (is.drop i) c = T))
 case atStart => exact ⟨0, by omega, rfl, Below.refl _ _, HT.out.symm⟩
 case round =>
  obtain ⟨i, hig, rfl, hb, HP⟩ := hrel
  obtain ⟨hbw, hbt, hbx⟩ := HW0.out wr hb
  obtain ⟨-, t0, t1, t2, t3, t4, t5⟩ := t_cells hbt
  by_cases hlt : i < is.length
  ·have hlti : (i : Int) < (is.length : Int) := by omega
   have hx : is[i]? = some is[i] := List.getElem?_eq_getElem hlt
   obtain ⟨x, hzz⟩ : ∃ z, z = is[i] := ⟨_, rfl⟩
   rw [← hzz] at hx
   clear hzz
   obtain ⟨b, off, rfl, cc⟩ := rdx_at HL.out hx
   obtain ⟨g0, g1, g2, g3, g4, g5⟩ := cc wr hbw
   have HA := itd_at c hx
   obtain ⟨k, ⟨d1, d2⟩, kd, tk, tt⟩ := x
   dsimp only at *
   clear cc hx
   by_cases hk : k = c
   ·have E : Hid (T = true) := by show _ = _; rw [← HP.out, HA, decide_eq_true hk]; rfl
    obtain ⟨⟨f0, f1, f2, f3, f4, f5⟩, c0, c1, c2, c3, c4, c5⟩ := t_cells hbx
    have HB3 := set6_block hbx (.string (bk k)) (.int .i64 d1) (.int .u64 (d2 : Int)) (.int .i64 kd) (.int .u64 (tk : Int)) (.int .i64 tt)
    have HBW := set6_below (g := w.heap.size + 1) (.string (bk k)) (.int .i64 d1) (.int .u64 (d2 : Int)) (.int .i64 kd) (.int .u64 (tk : Int)) (.int .i64 tt) hbw (Nat.le_succ _)
    have hkd : decide (k = c) = true := decide_eq_true hk
    unfold set6 at HB3 HBW
    clear HP HA hk HL hbx hbt hbw HW0 hb HT
    go_wp2
    (try simp only [Exit.inBlock, Exit.then])
    refine bodyPost_ret (results_ib rfl _ _ (w.heap.size + 1) _ _ _ _ _ _ rfl HB3) rfl ?_
    exact ⟨⟨(k, (d1, d2), kd, tk, tt), by rw [E.out]; rfl⟩, HBW⟩
   ·have HN : Hid (itdB (is.drop (i + 1)) c = T) := by show _ = _; rw [← HP.out, HA, decide_eq_false hk]; rfl
    have hkd : decide (k = c) = false := decide_eq_false hk
    clear HP HA HL hbx hbt hbw HW0 HT
    go_wp2
    go_roundg (gk - 1)
    case measure => omega
    case rel => exact ⟨i + 1, by omega, by go_num, hb, HN⟩
  ·have hlti : ¬ (i : Int) < (is.length : Int) := by omega
   have E : Hid (T = false) := by show _ = _; rw [← HP.out, List.drop_of_length_le (by omega)]; rfl
   obtain ⟨⟨f0, f1, f2, f3, f4, f5⟩, c0, c1, c2, c3, c4, c5⟩ := t_cells hbx
   have HB3 := set6_block hbx (.string { data := #[] }) (.int .i64 0) (.int .u64 0) (.int .i64 0) (.int .u64 0) (.int .i64 0)
   have HBW := set6_below (g := w.heap.size + 1) (.string { data := #[] }) (.int .i64 0) (.int .u64 0) (.int .i64 0) (.int .u64 0) (.int .i64 0) hbw (Nat.le_succ _)
   unfold set6 at HB3 HBW
   clear HP HL hbx hbt hbw HW0 hb HT
   go_wp2
   (try simp only [Exit.inBlock, Exit.then])
   refine bodyPost_ret (results_ib rfl _ _ (w.heap.size + 1) _ _ _ _ _ _ rfl HB3) rfl ?_
   exact ⟨⟨(([], (0, 0), 0, 0, 0) : It), by rw [E.out]; rfl⟩, HBW⟩

/-- A key is refused, as the document asks it. -/
def rref (t : Tb) (kd : Int) (ct tk : Nat) (k : K) : Int :=
 if SpanMath.isIn t.spans k = false then 10
 else if (itdB t.ints k || SpanMath.isIn t.frozen k) = true then 9
 else if kd = 1 then (if (findM t.holds k).isSome = true then 8 else if tk ≤ lastM t.marks k then 9 else 0)
 else (if (!(findM t.holds k).isSome || decide ((goth (findM t.holds k)).2.1 ≠ ct)) = true then 4 else 0)
theorem rref_same {t : Tb} {kd : Int} {ct tk : Nat} {k : K} (h : okT t = true) (hk : k.length ≤ 64) (hc : kd ≠ 1 → ct ≠ 0) : rref t kd ct tk k = refOne t kd ct tk k := by
 obtain ⟨h1, h2, h3, h4, h5⟩ := okT_iff.1 h
 obtain ⟨l1, l2, l3, l4⟩ := locks_iff.1 h4
 have f1 : SpanMath.formB t.spans = true := by unfold spansB at h2; simp only [Bool.and_eq_true] at h2; exact h2.1.1
 have f2 : SpanMath.formB t.frozen = true := by unfold spansB at h2; simp only [Bool.and_eq_true] at h2; exact h2.1.2
 unfold rref refOne
 rw [inP_in f1 hk, inP_in f2 hk, Bool.or_comm]
 have e1 : (findM t.holds k).isSome = true ↔ heldN t.holds k ≠ 0 := by
  rw [heldN_find]
  cases hf : findM t.holds k with
  | none => simp
  | some y =>
   obtain ⟨y1, y2⟩ := (find_iff (may_up l1)).1 hf
   have := (hold_iff.1 ((may_iff.1 l1).2.1 y y1)).2.1
   simpa using this
 by_cases q1 : SpanMath.isIn t.spans k = false
 ·rw [if_pos q1, if_pos q1]
 ·rw [if_neg q1, if_neg q1]
  by_cases q2 : (SpanMath.isIn t.frozen k || itdB t.ints k) = true
  ·rw [if_pos q2, if_pos q2]
  ·rw [if_neg q2, if_neg q2]
   by_cases q3 : kd = 1
   ·rw [if_pos q3, if_pos q3]
    by_cases q4 : (findM t.holds k).isSome = true
    ·rw [if_pos q4, if_pos (e1.1 q4)]
    ·rw [if_neg q4, if_neg (fun h => q4 (e1.2 h))]
   ·rw [if_neg q3, if_neg q3, heldN_find]
    have hc' := hc q3
    cases hf : findM t.holds k with
    | none => rw [if_pos (by simp), if_pos (fun h => hc' h.symm)]
    | some y =>
     by_cases q5 : y.2.1 = ct
     ·rw [if_neg (by simp [q5]), if_neg (by simp [q5])]
     ·rw [if_pos (by simp [q5]), if_pos (by simpa using q5)]
end Go.Proofs.YtfpbgfmnjpamlaaGreat

