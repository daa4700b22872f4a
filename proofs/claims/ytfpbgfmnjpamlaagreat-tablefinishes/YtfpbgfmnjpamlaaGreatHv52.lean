import Derived.Test.YtfpbgfmnjpamlaaGreatHv33
import Derived.Test.YtfpbgfmnjpamlaaGreatHv47
import Derived.Test.YtfpbgfmnjpamlaaGreatHv41
import Derived.Test.YtfpbgfmnjpamlaaGreatHv48
import Derived.Test.YtfpbgfmnjpamlaaGreatHv49
import Derived.Test.YtfpbgfmnjpamlaaGreatHv26
import Derived.Test.YtfpbgfmnjpamlaaGreatHv24
import Derived.Test.YtfpbgfmnjpamlaaGreatHv51
import Derived.Test.YtfpbgfmnjpamlaaGreatHv01
/- The document's until and Unmark; what an intent turns, as the document has it. -/
namespace Go.Proofs.YtfpbgfmnjpamlaaGreat
open Go.RowKit LeaseMath
set_option maxRecDepth 100000
set_option linter.unusedSimpArgs false
set_option linter.unusedVariables false

theorem runtil_of (now ttl : Int) (w : World) (h0 : 0 ≤ now) (h1 : now ≤ 2147483647) (h2 : 0 ≤ ttl) (h3 : ttl ≤ 2147483647) : Calls Tryz.prog 50 #[.int .i64 now, .int .i64 ttl] w fun e w' => e = .returned (.int .i64 (laterM now ttl)) ∧ w' = w := by
 obtain ⟨R, HR⟩ : ∃ r, Hid (r = laterM now ttl) := ⟨_, rfl⟩
 rw [← HR.out]
 have j1 : IntKind.i64.wrap (2147483647 - now) = 2147483647 - now := IntWalk.i64_in _ (by omega)
 by_cases h : ttl ≤ 2147483647 - now
 ·have hg : ¬ 2147483647 - now < ttl := by omega
  have hgd : decide (2147483647 - now < ttl) = false := decide_eq_false hg
  have j2 : IntKind.i64.wrap (now + ttl) = now + ttl := IntWalk.i64_in _ (by omega)
  have E : Hid (R = now + ttl) := by show _ = _; rw [HR.out]; unfold laterM; rw [if_pos h]
  clear HR h
  go_enter Tryz.func50, Tryz.ntmps50
  go_wp2
  go_ret
  exact ⟨by rw [E.out]; rfl, rfl⟩
 ·have hg : 2147483647 - now < ttl := by omega
  have hgd : decide (2147483647 - now < ttl) = true := decide_eq_true hg
  have E : Hid (R = 2147483647) := by show _ = _; rw [HR.out]; unfold laterM; rw [if_neg h]
  clear HR h
  go_enter Tryz.func50, Tryz.ntmps50
  go_wp2
  go_ret
  exact ⟨by rw [E.out]; rfl, rfl⟩
/-- Marks without a key's. -/
def unmM (l : List Mk) (c : K) : List Mk := l.filter (fun x => !decide (x.1 = c))
theorem unm_yes {l : List Mk} {c : K} {i : Nat} {s : Mk} (h : l[i]? = some s) (hp : ¬ s.1 = c) : unmM (l.take (i + 1)) c = unmM (l.take i) c ++ [s] := flt_yes h (by simp [hp])
theorem unm_no {l : List Mk} {c : K} {i : Nat} {s : Mk} (h : l[i]? = some s) (hp : s.1 = c) : unmM (l.take (i + 1)) c = unmM (l.take i) c := flt_no h (by simp [hp])
theorem unm_len (l : List Mk) (c : K) (i : Nat) : (unmM (l.take i) c).length ≤ l.length ∧ (unmM (l.take i) c).length ≤ i := by
 have := List.length_filter_le (fun x : Mk => !decide (x.1 = c)) (l.take i)
 rw [List.length_take] at this
 unfold unmM
 omega

set_option maxHeartbeats 4000000 in
theorem runmark_of (zs : List Mk) (lv : Value) (c : K) (w : World) (hL : Rd markE w lv zs) (hlen : zs.length ≤ 1000000) : Calls Tryz.prog 48 #[lv, .string (bk c)] w fun e w' => (∃ v, e = .returned v ∧ Ow markE 61 w.heap.size w' v (unmM zs c)) ∧ Below w.heap.size w w' := by
 have HL : Hid (Rd markE w lv zs) := hL
 obtain ⟨ao, cap, rfl, -, -⟩ := hL.shape
 clear hL
 obtain ⟨q1, q2, q3⟩ := one_box w (.cells #[] 61)
 have hG0 : Ow markE 61 w.heap.size (w.alloc (.cells #[] 61)) (.slice (some ⟨w.heap.size, 0, none⟩) 0 0) (unmM (zs.take 0) c) := ⟨Rk.made (xs := []) q2 rfl (by unfold maxLen; simp), fun k hk => by cases hk; exact Nat.le_refl _⟩
 go_enter Tryz.func48, Tryz.ntmps48
 go_wp2
 clear q1 q2
 generalize w.alloc (.cells #[] 61) = w5 at *
 go_loopg [5, 6] zs.length (fun g s5 s6 wr => ∃ (i : Nat) (st : Value), i + g = zs.length ∧ s6 = .int .i64 (i : Int) ∧ st = s5 ∧ Ow markE 61 w.heap.size wr st (unmM (zs.take i) c) ∧ Below w.heap.size w wr)
 case atStart => exact ⟨0, _, by omega, rfl, rfl, hG0, q3⟩
 case round =>
  obtain ⟨i, st, hig, rfl, rfl, hO, hb⟩ := hrel
  clear hG0 q3
  obtain ⟨hcl, hcl2⟩ := unm_len zs c i
  obtain ⟨sa, sc, hst, -⟩ := hO.1.shape
  by_cases hlt : i < zs.length
  ·have hlti : (i : Int) < (zs.length : Int) := by omega
   have hx : zs[i]? = some zs[i] := List.getElem?_eq_getElem hlt
   obtain ⟨z, hzz⟩ : ∃ z, z = zs[i] := ⟨_, rfl⟩
   rw [← hzz] at hx
   clear hzz
   obtain ⟨b, off, rfl, cc⟩ := rdm_at HL.out hx
   obtain ⟨c0, c1⟩ := cc wr hb
   by_cases hk : z.1 = c
   ·have HN := unm_no hx hk
    rw [← HN] at hO
    obtain ⟨k, t⟩ := z
    dsimp only at *
    have hkd : decide (k = c) = true := decide_eq_true hk
    rw [HN] at hO
    have hO1 : Hid (Ow markE 61 w.heap.size wr st (unmM (zs.take (i + 1)) c)) := by show Ow _ _ _ _ _ _; rw [HN]; exact hO
    generalize (unmM (zs.take i) c).length = cn at *
    subst hst
    clear hO cc hx HN HL hk
    go_wp2
    go_roundg (gk - 1)
    case measure => omega
    case rel => exact ⟨i + 1, _, by omega, by go_num, rfl, hO1.out, hb⟩
   ·have HN : Hid _ := unm_yes hx hk
    have hrunH : Hid _ := push_mark z hO.1 (by omega)
    have HGP : Hid (∀ v' w', PushT markE 61 wr st (unmM (zs.take i) c ++ [z]) v' w' → Ow markE 61 w.heap.size w' v' (unmM (zs.take (i + 1)) c) ∧ Below w.heap.size wr w') := fun v' w' hp => by
     rw [HN.out]
     exact hO.push hb.size hp
    obtain ⟨k, t⟩ := z
    dsimp only at *
    have hkd : decide (k = c) = false := decide_eq_false hk
    clear hO cc hx HN HL
    generalize (unmM (zs.take i) c).length = cn at hst
    subst hst
    go_wp2_with (at_builtin; refine wp_by rfl _ _ _ rfl _ _ rfl rfl hrunH.out ?_)
    intro v6 w6 hp6
    obtain ⟨hO6, hb6⟩ := HGP.out v6 w6 hp6
    have hb06 := hb.trans hb6
    clear hrunH hp6 hb6 HGP hb
    go_wp2
    go_roundg (gk - 1)
    case measure => omega
    case rel => exact ⟨i + 1, v6, by omega, by go_num, rfl, hO6, hb06⟩
  ·have hlti : ¬ (i : Int) < (zs.length : Int) := by omega
   have HF : Hid (Ow markE 61 w.heap.size wr st (unmM zs c)) := by rw [List.take_of_length_le (by omega)] at hO; exact hO
   clear HL hO
   subst hst
   go_wp2
   go_ret
   exact ⟨⟨_, rfl, HF.out⟩, hb⟩

/-- One put in the place of itself. -/
theorem kept_self {l : List Hd} {h : Hd} (hu : l.Pairwise (fun a b => a.1 < b.1)) (hf : findM l h.1 = some h) : keptM l (plcN l h.1) h = l := by
 have hp := plcN_plc h.1 hu
 have e := plc_find hu hp
 rw [hf] at e
 generalize plcN l h.1 = k at *
 by_cases hb : hasB l k h.1 = true
 ·rw [if_pos hb] at e
  unfold keptM behN
  rw [if_pos hb]
  obtain ⟨hi, he⟩ := List.getElem?_eq_some_iff.1 e.symm
  rw [List.append_assoc, ← he]
  simp
 ·rw [if_neg hb] at e
  cases e
/-- An intent turned, as the document has it. -/
theorem rturn_one {t : Tb} {x : It} {n : Nat} (h : Room t (n + 1)) (hx : intB t.spans x = true) (hk : x.2.2.1 = 1) : turnM t x = { t with holds := keptM t.holds (plcN t.holds x.1) (x.1, x.2.2.2.1, laterM t.now x.2.2.2.2), marks := unmM t.marks x.1 } ∧ t.holds.length ≤ 1024 ∧ t.marks.length ≤ 1024 ∧ t.holds.Pairwise (fun a b => a.1 < b.1) ∧ Plc t.holds x.1 (plcN t.holds x.1) ∧ 0 ≤ t.now ∧ t.now ≤ 2147483647 ∧ 1 ≤ x.2.2.2.2 ∧ x.2.2.2.2 ≤ 1048576 := by
 obtain ⟨i1, i2, i3, i4⟩ := int_iff.1 hx
 obtain ⟨a1, a2, a3, a4, a5, a6⟩ := h
 obtain ⟨l1, l2⟩ := turn_ttl i2 (.inl hk)
 have ht := time_iff.1 (later_time a1 l1 l2)
 have hn := time_iff.1 a1
 obtain ⟨b1, b2, b3⟩ := set_kept (s := (x.1, x.2.2.2.1, (untilM t.now x.2.2.2.2).1)) a2 (hold_iff.2 ⟨inP_len i4, i3, ht.1, ht.2⟩) (by omega)
 dsimp only at b1
 rw [turn_one hk, b1]
 have hu : (untilM t.now x.2.2.2.2).1 = laterM t.now x.2.2.2.2 := by unfold untilM; rw [if_pos (by simp [a1, l1, l2])]
 rw [hu]
 exact ⟨rfl, (may_iff.1 a2).1, (may_iff.1 a3).1, may_up a2, plcN_plc _ (may_up a2), hn.1, hn.2, l1, l2⟩
theorem rturn_two {t : Tb} {x : It} (hk : x.2.2.1 = 2) : turnM t x = { t with holds := dropM t.holds x.1, marks := (markM t.marks (plcN t.marks x.1) x.1 x.2.2.2.1).1 } := turn_two hk
theorem rturn_three {t : Tb} {x : It} {n : Nat} (h : Room t (n + 1)) (hx : intB t.spans x = true) (hk : x.2.2.1 = 3) : turnM t x = (match findM t.holds x.1 with | none => t | some y => if y.2.2 < laterM t.now x.2.2.2.2 then { t with holds := keptM t.holds (plcN t.holds y.1) (y.1, y.2.1, laterM t.now x.2.2.2.2) } else t) ∧ t.holds.length ≤ 1024 ∧ t.marks.length ≤ 1024 ∧ t.holds.Pairwise (fun a b => a.1 < b.1) ∧ (∀ y : Hd, Plc t.holds y.1 (plcN t.holds y.1)) ∧ 0 ≤ t.now ∧ t.now ≤ 2147483647 ∧ 1 ≤ x.2.2.2.2 ∧ x.2.2.2.2 ≤ 1048576 := by
 obtain ⟨i1, i2, i3, i4⟩ := int_iff.1 hx
 obtain ⟨a1, a2, a3, a4, a5, a6⟩ := h
 obtain ⟨l1, l2⟩ := turn_ttl i2 (.inr hk)
 have ht := time_iff.1 (later_time a1 l1 l2)
 have hn := time_iff.1 a1
 have hup := may_up a2
 have hu : (untilM t.now x.2.2.2.2).1 = laterM t.now x.2.2.2.2 := by unfold untilM; rw [if_pos (by simp [a1, l1, l2])]
 refine ⟨?_, (may_iff.1 a2).1, (may_iff.1 a3).1, hup, fun y => plcN_plc _ hup, hn.1, hn.2, l1, l2⟩
 cases hf : findM t.holds x.1 with
 | none => exact turn_none hk hf
 | some y =>
  obtain ⟨f1, f2⟩ := (find_iff hup).1 hf
  have hy := hold_iff.1 ((may_iff.1 a2).2.1 y f1)
  rw [turn_yes hk hf]
  rw [hu] at ht ⊢
  have hb : holdB (y.1, y.2.1, max y.2.2 (laterM t.now x.2.2.2.2)) = true := hold_iff.2 ⟨hy.1, hy.2.1, by dsimp only; omega, by dsimp only; omega⟩
  obtain ⟨b1, b2, b3⟩ := set_kept (s := (y.1, y.2.1, max y.2.2 (laterM t.now x.2.2.2.2))) a2 hb (by omega)
  dsimp only at b1
  rw [b1]
  by_cases hlt : y.2.2 < laterM t.now x.2.2.2.2
  ·dsimp only
   rw [if_pos hlt, Int.max_eq_right (by omega)]
  ·dsimp only
   rw [if_neg hlt, Int.max_eq_left (by omega)]
   rw [show ((y.1, y.2.1, y.2.2) : Hd) = y from rfl, kept_self hup (by rw [f2]; exact hf)]
theorem turn_ints (t : Tb) (L : List It) (x : It) : turnM { t with ints := L } x = { turnM t x with ints := L } := by
 unfold turnM
 split
 ·rfl
 ·split
  ·rfl
  ·split
   ·dsimp only
    cases findM t.holds x.1 <;> rfl
   ·rfl
theorem fold_ints (L : List It) : ∀ (l : List It) (t : Tb), l.foldl turnM { t with ints := L } = { l.foldl turnM t with ints := L }
 | [], t => rfl
 | x :: l, t => by rw [List.foldl_cons, List.foldl_cons, turn_ints, fold_ints L l]
theorem mine_yes {l : List It} {d : Cq} {i : Nat} {x : It} (h : l[i]? = some x) (hd : x.2.1 = d) : mineM (l.take (i + 1)) d = mineM (l.take i) d ++ [x] := by
 unfold mineM
 rw [take_succ_get h, List.filter_append]
 simp [hd]
theorem mine_no {l : List It} {d : Cq} {i : Nat} {x : It} (h : l[i]? = some x) (hd : x.2.1 ≠ d) : mineM (l.take (i + 1)) d = mineM (l.take i) d := by
 unfold mineM
 rw [take_succ_get h, List.filter_append]
 simp [hd]
def othM (l : List It) (d : Cq) : List It := l.filter fun x => !decide (x.2.1 = d)
theorem oth_yes {l : List It} {d : Cq} {i : Nat} {x : It} (h : l[i]? = some x) (hd : x.2.1 ≠ d) : othM (l.take (i + 1)) d = othM (l.take i) d ++ [x] := by
 unfold othM
 rw [take_succ_get h, List.filter_append]
 simp [hd]
theorem oth_no {l : List It} {d : Cq} {i : Nat} {x : It} (h : l[i]? = some x) (hd : x.2.1 = d) : othM (l.take (i + 1)) d = othM (l.take i) d := by
 unfold othM
 rw [take_succ_get h, List.filter_append]
 simp [hd]
theorem mine_len (l : List It) (d : Cq) (i : Nat) : (mineM (l.take i) d).length ≤ i ∧ (mineM (l.take i) d).length ≤ l.length ∧ (othM (l.take i) d).length ≤ l.length := by
 have h1 := List.length_filter_le (fun x : It => decide (x.2.1 = d)) (l.take i)
 have h2 := List.length_filter_le (fun x : It => !decide (x.2.1 = d)) (l.take i)
 rw [List.length_take] at h1 h2
 unfold mineM othM
 omega
/-- The table behind so many of its intents. -/
def finT (t : Tb) (d : Cq) (cm : Bool) (i : Nat) : Tb := if cm then (mineM (t.ints.take i) d).foldl turnM t else t
theorem fint_zero (t : Tb) (d : Cq) (cm : Bool) : finT t d cm 0 = t := by
 unfold finT
 rw [List.take_zero]
 cases cm <;> rfl
theorem fint_no {t : Tb} {d : Cq} {cm : Bool} {i : Nat} {x : It} (h : t.ints[i]? = some x) (hd : x.2.1 ≠ d) : finT t d cm (i + 1) = finT t d cm i := by
 unfold finT
 rw [mine_no h hd]
theorem fint_off {t : Tb} {d : Cq} {i j : Nat} : finT t d false i = finT t d false j := rfl
theorem fint_yes {t : Tb} {d : Cq} {i : Nat} {x : It} (h : t.ints[i]? = some x) (hd : x.2.1 = d) : finT t d true (i + 1) = turnM (finT t d true i) x := by
 unfold finT
 rw [if_pos rfl, if_pos rfl, mine_yes h hd, List.foldl_append]
 rfl
/-- What holds of it, while an intent is left. -/
theorem fint_room {t : Tb} {d : Cq} {cm : Bool} {i : Nat} (h : okT t = true) (hi : i < t.ints.length) : (∃ n, Room (finT t d cm i) (n + 1)) ∧ (finT t d cm i).now = t.now ∧ (finT t d cm i).spans = t.spans ∧ (finT t d cm i).frozen = t.frozen ∧ (finT t d cm i).ints = t.ints := by
 have hr := ok_room h
 cases cm with
 | false => exact ⟨⟨t.ints.length - 1, by rw [show t.ints.length - 1 + 1 = t.ints.length by omega]; exact hr⟩, rfl, rfl, rfl, rfl⟩
 | true =>
  have hl := (mine_len t.ints d i).1
  obtain ⟨g1, g2, g3, g4, g5, -⟩ := fold_room (l := mineM (t.ints.take i) d) (t := t) (n := t.ints.length - (mineM (t.ints.take i) d).length) (by rw [show (mineM (t.ints.take i) d).length + (t.ints.length - (mineM (t.ints.take i) d).length) = t.ints.length by omega]; exact hr) (fun x hx => (ints_iff.1 (okT_iff.1 h).2.2.2.2).1 x (List.mem_of_mem_take (mine_mem.1 hx).1))
  unfold finT
  rw [if_pos rfl]
  exact ⟨⟨t.ints.length - (mineM (t.ints.take i) d).length - 1, by rw [show t.ints.length - (mineM (t.ints.take i) d).length - 1 + 1 = t.ints.length - (mineM (t.ints.take i) d).length by omega]; exact g1⟩, g2, g3, g4, g5⟩
theorem fint_all {t : Tb} {d : Cq} {cm : Bool} (h : okT t = true) : finM t d cm = if (mineM t.ints d).length = 0 then (noT, 0, 4) else ({ finT t d cm t.ints.length with ints := othM t.ints d }, (mineM t.ints d).length, 0) := by
 unfold finM
 rw [if_neg (by rw [h]; decide)]
 by_cases hm : (mineM t.ints d).length = 0
 ·rw [if_pos hm, if_pos hm]
 ·rw [if_neg hm, if_neg hm]
  unfold finT othM
  rw [List.take_length]
  cases cm with
  | false => rfl
  | true =>
   rw [if_pos rfl, if_pos rfl, fold_ints]
def RFinT (m : Tb × Nat × Int) (e : Ending) (w' : World) : Prop := ∃ z : Tz, e = .returned (.tuple #[tv z, .int .i64 (m.2.1 : Int), .int .i64 m.2.2]) ∧ z.t = m.1 ∧ TbR w' z
theorem RFinT.mk {w : World} {z : Tz} {t : Tb} {n : Nat} {c : Int} {m : Tb × Nat × Int} (h : m = (t, n, c)) (hz : z.t = t) (hT : TbR w z) : RFinT m (.returned (.tuple #[tv z, .int .i64 (n : Int), .int .i64 c])) w := ⟨z, by rw [h], by rw [h]; exact hz, hT⟩
/-- A table that is read whatever becomes of one block. -/
def TbS (g : Nat) (w : World) (z : Tz) : Prop := ∀ W, FrB w.heap.size g w W → TbR W z
theorem FrB.trans {n m g : Nat} {w w1 w2 : World} (h : FrB n g w w1) (h2 : FrB m g w1 w2) (hn : n ≤ m) : FrB n g w w2 := ⟨h2.os.trans h.os, h2.tape.trans h.tape, h2.output.trans h.output, Nat.le_trans h.size h2.size, fun j hj hg => (h2.block j (by omega) hg).trans (h.block j hj hg)⟩
theorem TbS.step {g : Nat} {w w' : World} {z : Tz} (h : TbS g w z) (hf : FrB w.heap.size g w w') : TbS g w' z := fun W hW => h W (hf.trans hW hf.size)
theorem TbS.r {g : Nat} {w : World} {z : Tz} (h : TbS g w z) : TbR w z := h w (FrB.refl _ _ _)
end Go.Proofs.YtfpbgfmnjpamlaaGreat

/- The document's Finish. -/
namespace Go.Proofs.YtfpbgfmnjpamlaaGreat
open Go.RowKit LeaseMath
set_option maxRecDepth 100000
set_option linter.unusedSimpArgs false
set_option linter.unusedVariables false

theorem fin_cells2 {w : World} {g : Nat} {a b : Value} {t : TypeId} (H : w.heap[g]? = some (.cells #[a, b] t (0, 0))) : w.cell? ⟨g, 0, none⟩ = some a ∧ w.cell? ⟨g, 1, none⟩ = some b := by
  refine ⟨?_, ?_⟩ <;> rw [cells_of_block H] <;> rfl
theorem blk_lt {w : World} {g : Nat} {o : Obj} (h : w.heap[g]? = some o) : g < w.heap.size := (Array.getElem?_eq_some_iff.1 h).1
/-- All as it was, but blocks n to n + 2 and rows of intents that are not older. -/
structure Fry (n : Nat) (w w' : World) : Prop where
  os : w'.os = w.os
  tape : w'.tape = w.tape
  output : w'.output = w.output
  size : w.heap.size ≤ w'.heap.size
  block : ∀ j, j < w.heap.size → (j < n ∨ (n + 3 ≤ j ∧ ∀ cs, w.heap[j]? ≠ some (.cells cs 63 (0, 0)))) → w'.heap[j]? = w.heap[j]?
theorem Fry.refl (n : Nat) (w : World) : Fry n w w := ⟨rfl, rfl, rfl, Nat.le_refl _, fun _ _ _ => rfl⟩
theorem Fry.trans {n : Nat} {a b c : World} (h : Fry n a b) (k : Fry n b c) : Fry n a c := ⟨k.os.trans h.os, k.tape.trans h.tape, k.output.trans h.output, Nat.le_trans h.size k.size, fun j hj hi => by
  have e := h.block j hj hi
  exact (k.block j (Nat.lt_of_lt_of_le hj h.size) (hi.imp id fun q => ⟨q.1, fun cs => by rw [e]; exact q.2 cs⟩)).trans e⟩
theorem Fry.of_below {n : Nat} {w w' : World} (h : Below w.heap.size w w') : Fry n w w' := ⟨h.os, h.tape, h.output, h.size, fun j hj _ => h.block j hj⟩
theorem Fry.of_set {n g j : Nat} {w : World} (u : Value) (h1 : n ≤ g) (h2 : g < n + 3) : Fry n w (w.setCell ⟨g, j, none⟩ u) := ⟨rfl, rfl, rfl, by simp, fun k _ hn => set_other (by omega)⟩
theorem Fry.of_set6 {n g : Nat} {w : World} (a b c d e f : Value) (h1 : n ≤ g) (h2 : g < n + 3) : Fry n w (set6 w g a b c d e f) := by
  unfold set6
  exact (Fry.of_set a h1 h2).trans ((Fry.of_set b h1 h2).trans ((Fry.of_set c h1 h2).trans ((Fry.of_set d h1 h2).trans ((Fry.of_set e h1 h2).trans (Fry.of_set f h1 h2)))))
theorem Fry.of_push {n : Nat} {w w' : World} {v : Value} {l l' : List It} {v' : Value} (h : Ow itE 63 (n + 3) w v l) (hp : PushT itE 63 w v l' v' w') : Fry n w w' := by
  obtain ⟨-, hg, -⟩ := hp
  refine ⟨hg.os, hg.tape, hg.output, hg.size, fun j hj hi => hg.block j hj fun e => ?_⟩
  obtain ⟨cs, hc⟩ := h.1.block e.symm
  have hn := h.2 j e.symm
  rcases hi with hi | ⟨-, hi⟩
  · omega
  · exact hi cs hc
/-- A table that is read whatever becomes of these. -/
def TbY (n : Nat) (w : World) (z : Tz) : Prop := ∀ W, Fry n w W → TbR W z
theorem TbY.step {n : Nat} {w w' : World} {z : Tz} (h : TbY n w z) (hf : Fry n w w') : TbY n w' z := fun W hW => h W (hf.trans hW)
theorem TbY.r {n : Nat} {w : World} {z : Tz} (h : TbY n w z) : TbR w z := h w (Fry.refl _ _)
theorem TbY.arg {w w' : World} {z : Tz} (h : TbR w z) (hb : Below w.heap.size w w') : TbY w.heap.size w' z := fun W hW => h.below ⟨hW.os.trans hb.os, hW.tape.trans hb.tape, hW.output.trans hb.output, Nat.le_trans hb.size hW.size, fun k hk => (hW.block k (Nat.lt_of_lt_of_le hk hb.size) (.inl hk)).trans (hb.block k hk)⟩
theorem ow_fry {α : Type} {E : El α} {t : TypeId} {n : Nat} {w W : World} {v : Value} {l : List α} (h : Ow E t (n + 3) w v l) (ht : t ≠ 63) (hf : Fry n w W) : Ow E t (n + 3) W v l := ⟨h.1.same fun k hk => hf.block k (h.1.lt hk) (.inr ⟨h.2 k hk, fun cs hc => by
  obtain ⟨cs', hc'⟩ := h.1.block hk
  rw [hc'] at hc
  simp only [Option.some.injEq, Obj.cells.injEq] at hc
  exact ht hc.2.1⟩), h.2⟩
theorem TbY.holds {n : Nat} {w : World} {z : Tz} {a : Option Addr} {c : Nat} {l : List Hd} (h : TbY n w z) (ho : Ow holdE 59 (n + 3) w (.slice a l.length c) l) : TbY n w { z with t := { z.t with holds := l }, h := (a, c) } := fun W hW => ⟨(h W hW).1, (h W hW).2.1, (ow_fry ho (by decide) hW).1.rd, (h W hW).2.2.2.1, (h W hW).2.2.2.2⟩
theorem TbY.marks {n : Nat} {w : World} {z : Tz} {a : Option Addr} {c : Nat} {l : List Mk} (h : TbY n w z) (ho : Ow markE 61 (n + 3) w (.slice a l.length c) l) : TbY n w { z with t := { z.t with marks := l }, m := (a, c) } := fun W hW => ⟨(h W hW).1, (h W hW).2.1, (h W hW).2.2.1, (ow_fry ho (by decide) hW).1.rd, (h W hW).2.2.2.2⟩
theorem fold_rest (l : List It) : ∀ t : Tb, (l.foldl turnM t).now = t.now ∧ (l.foldl turnM t).spans = t.spans ∧ (l.foldl turnM t).frozen = t.frozen ∧ (l.foldl turnM t).ints = t.ints := by
  induction l with
  | nil => exact fun t => ⟨rfl, rfl, rfl, rfl⟩
  | cons x l ih =>
    intro t
    obtain ⟨a1, a2, a3, a4⟩ := turn_rest t x
    obtain ⟨b1, b2, b3, b4⟩ := ih (turnM t x)
    rw [List.foldl_cons]
    exact ⟨b1.trans a1, b2.trans a2, b3.trans a3, b4.trans a4⟩
theorem fint_rest (t : Tb) (d : Cq) (cm : Bool) (i : Nat) : (finT t d cm i).now = t.now ∧ (finT t d cm i).spans = t.spans ∧ (finT t d cm i).frozen = t.frozen ∧ (finT t d cm i).ints = t.ints := by
  unfold finT
  cases cm with
  | false => exact ⟨rfl, rfl, rfl, rfl⟩
  | true => exact fold_rest _ _

set_option maxHeartbeats 32000000 in
theorem rfin_of (z : Tz) (d : Cq) (cm : Bool) (w : World) (hR : TbR w z) (g4 : z.t.ints.length ≤ 1000000) :
    Calls Tryz.prog 15 #[tv z, idv d, .bool cm] w fun e w' => RFinT (finM z.t d cm) e w' ∧ Below w.heap.size w w' := by
  obtain ⟨FM, HFM⟩ : ∃ FM, Hid (FM = finM z.t d cm) := ⟨_, rfl⟩
  rw [← HFM.out]
  have HR : Hid (∀ W, Below w.heap.size w W → TbR W z) := fun W hW => hR.below hW
  have hRH : Hid (TbR w z) := hR
  have kM : Hid (∀ W, Below w.heap.size w W → _) := fun W hW => rtmay_of z W (HR.out _ hW) (by omega)
  obtain ⟨T0, hT0⟩ : ∃ T0, Hid (T0 = z.t) := ⟨_, rfl⟩
  have HF1 : Hid (okT T0 = false → FM = (noT, 0, 1)) := fun h => by rw [HFM.out, ← hT0.out]; unfold finM; rw [if_pos h]
  have HF2 : Hid (okT T0 = true → FM = if (mineM T0.ints d).length = 0 then (noT, 0, 4) else ({ finT T0 d cm T0.ints.length with ints := othM T0.ints d }, (mineM T0.ints d).length, 0)) := fun h => by rw [HFM.out, ← hT0.out]; exact fint_all h
  have HZ0 : Hid (z.t = finT T0 d cm 0) := by show _ = _; rw [fint_zero, hT0.out]
  have HI0 : Hid (T0.ints = z.t.ints) := by show _ = _; rw [hT0.out]
  have HN0 : Hid (T0.now = z.t.now) := by show _ = _; rw [hT0.out]
  have HS0 : Hid (T0.spans = z.t.spans) := by show _ = _; rw [hT0.out]
  have HV0 : Hid (T0.frozen = z.t.frozen) := by show _ = _; rw [hT0.out]
  obtain ⟨O, HO⟩ : ∃ O, Hid (okT T0 = O) := ⟨_, rfl⟩
  rw [← hT0.out, HO.out] at kM
  rw [HO.out] at HF1 HF2
  clear HFM hR
  obtain ⟨q1, q2, q3, q4, q5⟩ := three_boxes6 w (tc z) (idc d) (.cells #[.int .i64 0, .slice none 0 0, .slice none 0 0, .slice none 0 0, .slice none 0 0, .slice none 0 0] 27)
  obtain ⟨w0, hw0⟩ : ∃ W, ((w.alloc (tc z)).alloc (idc d)).alloc (.cells #[.int .i64 0, .slice none 0 0, .slice none 0 0, .slice none 0 0, .slice none 0 0, .slice none 0 0] 27) = W := ⟨_, rfl⟩
  rw [hw0] at q1 q2 q3 q4 q5
  have HY0 : Hid (∀ W, Below w.heap.size w W → TbY w.heap.size W z) := fun W hW => TbY.arg hRH.out hW
  obtain ⟨zz, hzz⟩ : ∃ zz, Hid (zz = z) := ⟨_, rfl⟩
  have HY1 : Hid (∀ W, Below w.heap.size w W → TbY w.heap.size W zz) := fun W hW => by rw [hzz.out]; exact HY0.out W hW
  have HZ1 : Hid (zz.t = finT T0 d cm 0) := by show _ = _; rw [hzz.out]; exact HZ0.out
  have HT1 : Hid (∀ {W : World}, W.heap[w.heap.size]? = some (tc z) → W.heap[w.heap.size]? = some (tc zz)) := fun h => by rw [hzz.out]; exact h
  clear hzz HZ0 HY0 hT0
  obtain ⟨⟨nw, sp, fr, hs_, ms, is⟩, ⟨sa, sc⟩, ⟨fa, fc⟩, ⟨ha, hc⟩, ⟨ma, mc⟩, ⟨ia, ic_⟩⟩ := z
  obtain ⟨d1, d2⟩ := d
  dsimp only [tv, tc, idv, idc] at *
  have hz : w.heap.size + 3 ≤ w0.heap.size := by omega
  have hb0 : Below (w.heap.size + 3) w0 w0 := Below.refl _ _
  obtain ⟨c0, c1, c2, c3, c4, c5⟩ := cells6 q2
  go_enter Tryz.func15, Tryz.ntmps15
  go_wp2_with fail
  refine (kM.out _ q5).mono ?_
  rintro e w1 ⟨rfl, hbc⟩
  have hb1 := keep_step hb0 hz hbc
  have hbw1 := q5.trans (hb1.mono (by omega : w.heap.size ≤ w.heap.size + 3))
  have bZ1 := (hb1.block (w.heap.size + 2) (by omega)).trans q4
  have bT1 := (hb1.block w.heap.size (by omega)).trans q2
  clear hbc kM hb0 c0 c1 c2 c3 c4 c5
  cases O with
  | false =>
    have E : Hid (FM = (noT, 0, 1)) := HF1.out rfl
    clear HF1 HF2
    obtain ⟨⟨f0, f1, f2, f3, f4, f5⟩, z0, z1, z2, z3, z4, z5⟩ := t_cells bZ1
    have S6 := set6_block bZ1 (.int .i64 0) (.slice none 0 0) (.slice none 0 0) (.slice none 0 0) (.slice none 0 0) (.slice none 0 0)
    have B6 := set6_below (.int .i64 0) (.slice none 0 0) (.slice none 0 0) (.slice none 0 0) (.slice none 0 0) (.slice none 0 0) (g := w.heap.size + 2) hbw1 (by omega)
    unfold set6 at S6 B6
    go_wp2
    (try simp only [Exit.inBlock, Exit.then])
    refine bodyPost_ret (results_tbne rfl _ _ (w.heap.size + 2) _ _ _ _ _ _ rfl S6) rfl ?_
    exact ⟨RFinT.mk (n := 0) (z := noZ) E.out rfl (noZ_r _), B6⟩
  | true =>
    replace HF2 : Hid _ := HF2.out rfl
    obtain ⟨e1_, e2_, e3_⟩ := one_box w1 (.cells #[] 63)
    have hz1 : w.heap.size + 3 ≤ w1.heap.size := Nat.le_trans hz hb1.size
    have HO0 : Ow itE 63 (w.heap.size + 3) (w1.alloc (.cells #[] 63)) (.slice (some ⟨w1.heap.size, 0, none⟩) 0 0) (othM (is.take 0) (d1, d2)) := by
      rw [List.take_zero]
      exact ⟨Rk.made (E := itE) (xs := []) e2_ rfl (by unfold maxLen; simp), fun k hk => by cases hk; exact hz1⟩
    have hb2 := hb1.trans (e3_.mono hz1)
    have hbw2 := q5.trans (hb2.mono (by omega : w.heap.size ≤ w.heap.size + 3))
    have FR0 : FrB (w.heap.size + 3) w.heap.size w0 (w1.alloc (.cells #[] 63)) := ⟨hb2.os, hb2.tape, hb2.output, hb2.size, fun j hj _ => hb2.block j hj⟩
    have P0 := HT1.out ((e3_.block w.heap.size (by omega)).trans bT1)
    have Y0 := HY1.out _ hbw2
    obtain ⟨c0, c1, c2, c3, c4, c5⟩ := cells6 ((e3_.block w.heap.size (by omega)).trans bT1)
    clear HF1 HT1 HY1 e1_ e2_ e3_ hb1 hbw1 bZ1 bT1 hb2 hbw2 hw0 q1 q2
    have HIL : Hid (T0.ints.length ≤ 1000000) := by rw [HI0.out]; exact g4
    go_wp2
    clear c0 c1 c2 c3 c4 c5
    go_loopg [9, 10, 11] is.length (fun g s9 s10 s11 wr => ∃ (i : Nat) (v : Value) (zi : Tz), i + g = is.length ∧ s11 = .int .i64 (i : Int) ∧ s10 = .int .i64 ((mineM (is.take i) (d1, d2)).length : Int) ∧ v = s9 ∧ Ow itE 63 (w.heap.size + 3) wr v (othM (is.take i) (d1, d2)) ∧ wr.heap[w.heap.size]? = some (tc zi) ∧ TbY w.heap.size wr zi ∧ FrB (w.heap.size + 3) w.heap.size w0 wr ∧ Hid (zi.t = finT T0 (d1, d2) cm i))
    case atStart => exact ⟨0, _, zz, by omega, rfl, by rw [List.take_zero]; rfl, rfl, HO0, P0, Y0, FR0, HZ1⟩
    case round =>
      obtain ⟨i, v, zi, hig, rfl, rfl, rfl, hO, P, TY, FR, HZ⟩ := hrel
      clear HO0 P0 Y0 FR0 HZ1
      obtain ⟨hl1, hl2, hl3⟩ := mine_len is (d1, d2) i
      obtain ⟨r1, r2, r3, r4⟩ := fint_rest T0 (d1, d2) cm i
      rw [← HZ.out] at r1 r2 r3 r4
      rw [HN0.out] at r1
      rw [HS0.out] at r2
      rw [HV0.out] at r3
      rw [HI0.out] at r4
      obtain ⟨⟨nw', sp', fr', hi, mi, is'⟩, ⟨a1, v1⟩, ⟨a2, v2⟩, ⟨a3, v3⟩, ⟨a4, v4⟩, ⟨a5, v5⟩⟩ := zi
      dsimp only [tc] at *
      subst r1 r2 r3 r4
      have hzr : w.heap.size + 3 ≤ wr.heap.size := Nat.le_trans hz FR.size
      have bI := (FR.block (w.heap.size + 1) (by omega) (by omega)).trans q3
      have bZ := (FR.block (w.heap.size + 2) (by omega) (by omega)).trans q4
      have hbw : Below w.heap.size w wr := ⟨FR.os.trans q5.os, FR.tape.trans q5.tape, FR.output.trans q5.output, Nat.le_trans q5.size FR.size, fun j hj => (FR.block j (by omega) (by omega)).trans (q5.block j hj)⟩
      obtain ⟨c0, c1, c2, c3, c4, c5⟩ := cells6 P
      by_cases hlt : i < is'.length
      · have hlti : (i : Int) < (is'.length : Int) := by omega
        have hx : is'[i]? = some is'[i] := List.getElem?_eq_getElem hlt
        obtain ⟨x, hxx⟩ : ∃ x, x = is'[i] := ⟨_, rfl⟩
        rw [← hxx] at hx
        clear hxx
        obtain ⟨b, off, ea, cc⟩ := rdx_at TY.r.2.2.2.2 hx
        subst ea
        obtain ⟨e0, e1, e2, e3, e4, e5⟩ := cc wr (Below.refl _ _)
        obtain ⟨hsy, py, hby⟩ := one_box wr (ic x)
        obtain ⟨wy, hwy⟩ : ∃ W, wr.alloc (ic x) = W := ⟨_, rfl⟩
        rw [hwy] at hsy py hby
        have hOy := hO.below hby
        have Py := (hby.block w.heap.size (by omega)).trans P
        have TYy := TY.step (Fry.of_below hby)
        have FRy := FR.then (hby.mono hzr)
        have bIy := (hby.block (w.heap.size + 1) (by omega)).trans bI
        have hzy : w.heap.size + 3 ≤ wy.heap.size := by omega
        have hzy1 : wr.heap.size + 1 ≤ wy.heap.size := by omega
        clear hsy
        have HX : Hid (is'[i]? = some x) := hx
        have hxT : Hid (T0.ints[i]? = some x) := by show _ = _; rw [HI0.out]; exact hx
        obtain ⟨xk, ⟨x1, x2⟩, xkd, xtk, xtt⟩ := x
        dsimp only [ic] at *
        obtain ⟨y0, y1, y2, y3, y4, y5⟩ := cells6 py
        obtain ⟨i0, i1⟩ := fin_cells2 bIy
        obtain ⟨m0, m1, m2, m3, m4, m5⟩ := cells6 Py
        clear hx hO TY FR P bI bZ cc
        by_cases hd : (x1, x2) = (d1, d2)
        · have HM : Hid _ := mine_yes HX.out hd
          have HOT : Hid _ := oth_no HX.out hd
          obtain ⟨h1, h2⟩ : x1 = d1 ∧ x2 = d2 := by simpa using hd
          have h1d : decide (x1 = d1) = true := decide_eq_true h1
          have h2d : decide (x2 = d2) = true := decide_eq_true h2
          clear h1 h2
          have HMC : Hid (((mineM (is'.take (i + 1)) (d1, d2)).length : Int) = ((mineM (is'.take i) (d1, d2)).length : Int) + 1) := by show _ = _; rw [HM.out, List.length_append]; rfl
          have hOyn : Ow itE 63 (w.heap.size + 3) wy v (othM (is'.take (i + 1)) (d1, d2)) := by rw [HOT.out]; exact hOy
          obtain ⟨⟨rn, RM⟩, -⟩ := fint_room (d := (d1, d2)) (cm := cm) (i := i) HO.out (by rw [HI0.out]; exact hlt)
          rw [← HZ.out] at RM
          have HIB : Hid (intB sp' (xk, (x1, x2), xkd, xtk, xtt) = true) := by
            have := (ints_iff.1 (okT_iff.1 HO.out).2.2.2.2).1 _ (List.mem_of_getElem? hxT.out)
            rw [HS0.out] at this
            exact this
          have hhl : hi.length ≤ 1024 := by have := RM.len; dsimp only at this; omega
          have hml : mi.length ≤ 1024 := by have := RM.len; dsimp only at this; omega
          have RMH : Hid (Room ⟨nw', sp', fr', hi, mi, is'⟩ (rn + 1)) := RM
          have HY : Hid (∀ W, Below wy.heap.size wy W → W.heap[w.heap.size]? = some (.cells #[.int .i64 nw', .slice a1 sp'.length v1, .slice a2 fr'.length v2, .slice a3 hi.length v3, .slice a4 mi.length v4, .slice (some ⟨b, off, none⟩) is'.length v5] 27 (0, 0)) ∧ W.heap[wr.heap.size]? = some (.cells #[.string (bk xk), .int .i64 x1, .int .u64 (x2 : Int), .int .i64 xkd, .int .u64 (xtk : Int), .int .i64 xtt] 63 (0, 0)) ∧ TbY w.heap.size W ⟨⟨nw', sp', fr', hi, mi, is'⟩, (a1, v1), (a2, v2), (a3, v3), (a4, v4), (some ⟨b, off, none⟩, v5)⟩ ∧ Ow itE 63 (w.heap.size + 3) W v (othM (is'.take (i + 1)) (d1, d2)) ∧ FrB (w.heap.size + 3) w.heap.size w0 W) := fun W hW => ⟨(hW.block w.heap.size (by omega)).trans Py, (hW.block wr.heap.size (by omega)).trans py, TYy.step (Fry.of_below hW), hOyn.below hW, FRy.then (hW.mono hzy)⟩
          have KF := rfind_of hi _ xk wy TYy.r.2.2.1 (by omega)
          obtain ⟨⟨hk, ht, hu⟩, hgoth⟩ : ∃ h : Hd, goth (findM hi xk) = h := ⟨_, rfl⟩
          obtain ⟨HD, hHD⟩ : ∃ b, Hid ((findM hi xk).isSome = b) := ⟨_, rfl⟩
          rw [hgoth, hHD.out] at KF
          have HG : Hid (goth (findM hi xk) = (hk, ht, hu)) := hgoth
          have jn : IntKind.i64.wrap (((mineM (is'.take i) (d1, d2)).length : Int) + 1) = ((mineM (is'.take i) (d1, d2)).length : Int) + 1 := IntWalk.i64_in _ (by have := HIL.out; rw [HI0.out] at this; omega)
          dsimp only [hv] at KF
          clear RM hOy HOT HM hgoth hby Py py TYy FRy hOyn hl1 hl2 hl3
          generalize (mineM (is'.take i) (d1, d2)).length = mn at *
          go_wp2_with fail
          refine KF.mono ?_
          rintro e w3 ⟨rfl, hb3⟩
          have hz3 : wy.heap.size ≤ w3.heap.size := hb3.size
          obtain ⟨s4, p4, b4⟩ := one_box w3 (.cells #[.string (bk hk), .int .u64 (ht : Int), .int .i64 hu] 59)
          obtain ⟨w4, hw4⟩ : ∃ W, w3.alloc (.cells #[.string (bk hk), .int .u64 (ht : Int), .int .i64 hu] 59) = W := ⟨_, rfl⟩
          rw [hw4] at s4 p4 b4
          have hb4 := hb3.trans (b4.mono hz3)
          have hz4 : w3.heap.size + 1 ≤ w4.heap.size := by omega
          clear KF hb3 b4 s4 c0 c1 c2 c3 c4 c5 m0 m1 m2 m3 m4 m5 y0 y1 y2 y3 y4 y5 i0 i1 e0 e1 e2 e3 e4 e5
          obtain ⟨PA, QA, TA, OA, FA⟩ := HY.out _ hb4
          obtain ⟨m0, m1, m2, m3, m4, m5⟩ := cells6 PA
          obtain ⟨y0, y1, y2, y3, y4, y5⟩ := cells6 QA
          obtain ⟨h0, h1_, h2_⟩ := cells3 p4
          cases cm with
          | false =>
            have HN : Hid (⟨nw', sp', fr', hi, mi, is'⟩ = finT T0 (d1, d2) false (i + 1)) := by show _ = _; rw [HZ.out]; exact fint_off
            clear HZ HG hHD RMH HIB p4 h0 h1_ h2_
            go_wp2
            go_roundg (gk - 1)
            case measure => omega
            case rel => exact ⟨i + 1, v, ⟨⟨nw', sp', fr', hi, mi, is'⟩, (a1, v1), (a2, v2), (a3, v3), (a4, v4), (some ⟨b, off, none⟩, v5)⟩, by omega, by go_num, by rw [HMC.out], rfl, OA, PA, TA, FA, HN⟩
          | true =>
            have HN0 : Hid (turnM ⟨nw', sp', fr', hi, mi, is'⟩ (xk, (x1, x2), xkd, xtk, xtt) = finT T0 (d1, d2) true (i + 1)) := by show _ = _; rw [fint_yes hxT.out hd, ← HZ.out]
            clear HZ hxT HX
            rcases turn_kind (int_iff.1 HIB.out).2.1 with hkd | hkd | hkd
            · obtain ⟨HT1_, -, -, hpw, hpl, hn0, hn1, htl, hth⟩ := rturn_one RMH.out HIB.out hkd
              dsimp only at HT1_ hpw hpl hn0 hn1 htl hth
              have HN1 : Hid (⟨nw', sp', fr', keptM hi (plcN hi xk) (xk, xtk, laterM nw' xtt), unmM mi xk, is'⟩ = finT T0 (d1, d2) true (i + 1)) := by show _ = _; rw [← HN0.out, HT1_]
              have HPW : Hid (hi.Pairwise (fun a b => a.1 < b.1)) := hpw
              have HPL : Hid (Plc hi xk (plcN hi xk)) := hpl
              have hkb : (xkd == 1) = true := by simpa using hkd
              have KU := runmark_of mi _ xk w4 TA.r.2.2.2.1 (by omega)
              obtain ⟨UM, hUM⟩ : ∃ l, Hid (unmM mi xk = l) := ⟨_, rfl⟩
              rw [hUM.out] at KU HN1
              clear HT1_ hkd HN0 RMH HIB HG hHD h0 h1_ h2_ p4 hpw hpl
              go_wp2_with fail
              refine KU.mono ?_
              rintro e w5 ⟨⟨u_, rfl, hOu⟩, hbu⟩
              obtain ⟨ua, uc, hu_, -⟩ := hOu.1.shape
              subst hu_
              have hb5 := hb4.trans (hbu.mono (by have := hb4.size; omega))
              have hOu3 := hOu.mono (by have := hb4.size; omega : w.heap.size + 3 ≤ w4.heap.size)
              clear KU m0 m1 m2 m3 m4 m5 y0 y1 y2 y3 y4 y5 PA QA TA OA FA hOu hbu
              obtain ⟨PA, QA, TA, OA, FA⟩ := HY.out _ hb5
              obtain ⟨⟨f0, f1, f2, f3, f4, f5⟩, m0, m1, m2, m3, m4, m5⟩ := t_cells PA
              have P6 := set_block PA (j := 4) (.slice ua UM.length uc)
              have FY6 := Fry.of_set (n := w.heap.size) (g := w.heap.size) (w := w5) (j := 4) (.slice ua UM.length uc) (Nat.le_refl _) (by omega)
              have hOu6 := ow_fry hOu3 (by decide) FY6
              have TY6 := (TA.step FY6).marks hOu6
              have OA6 : Ow itE 63 (w.heap.size + 3) (w5.setCell ⟨w.heap.size, 4, none⟩ (.slice ua UM.length uc)) v (othM (is'.take (i + 1)) (d1, d2)) := OA.keep fun k hk _ => set_other (by omega)
              have FR6 := FA.set (grown_setc (w := w5) (g := w.heap.size) (j := 4) (.slice ua UM.length uc)) (Nat.le_trans hz FA.size)
              have Q6 : (w5.setCell ⟨w.heap.size, 4, none⟩ (.slice ua UM.length uc)).heap[wr.heap.size]? = _ := (set_other (by omega)).trans QA
              obtain ⟨w6, hw6⟩ : ∃ W, w5.setCell ⟨w.heap.size, 4, none⟩ (.slice ua UM.length uc) = W := ⟨_, rfl⟩
              rw [hw6] at P6 TY6 OA6 FR6 Q6
              have P6' : w6.heap[w.heap.size]? = some (.cells #[.int .i64 nw', .slice a1 sp'.length v1, .slice a2 fr'.length v2, .slice a3 hi.length v3, .slice ua UM.length uc, .slice (some ⟨b, off, none⟩) is'.length v5] 27 (0, 0)) := P6
              clear hOu3 hOu6 FY6 P6 HY PA QA TA OA FA
              have hz6 : w.heap.size + 3 ≤ w6.heap.size := Nat.le_trans hz FR6.size
              have hdr : Below w6.heap.size w6 w6.drew := (Below.refl w6.heap.size w6).drew
              have hb6d : w6.drew.heap.size = w6.heap.size := rfl
              have P7 := (hdr.block w.heap.size (by omega)).trans P6'
              have Q7 := (hdr.block wr.heap.size (blk_lt Q6)).trans Q6
              have TY7 := TY6.step (Fry.of_below hdr)
              have OA7 := OA6.below hdr
              have FR7 := FR6.then (hdr.mono hz6)
              have hz7 : w.heap.size + 3 ≤ w6.drew.heap.size := Nat.le_trans hz FR7.size
              clear hb6d
              go_wp2
              refine wp_region_L (fun W => ((W.cell? ⟨w.heap.size, 0, none⟩ = some (.int .i64 nw') ∧ W.cell? ⟨w.heap.size, 3, none⟩ = some (.slice a3 hi.length v3)) ∧ (W.cell? ⟨wr.heap.size, 0, none⟩ = some (.string (bk xk)) ∧ W.cell? ⟨wr.heap.size, 4, none⟩ = some (.int .u64 (xtk : Int)) ∧ W.cell? ⟨wr.heap.size, 5, none⟩ = some (.int .i64 xtt))) ∧ Below w6.drew.heap.size w6.drew W) [14] (by kernel_rfl) ?_
              clear hdr TY6 OA6 FR6 Q6 P6' hz6 m0 m1 m2 m3 m4 m5 f0 f1 f2 f3 f4 f5
              generalize w6.drew = wd at *
              have hqs := blk_lt Q7
              have cl : ∀ W, Below wd.heap.size wd W → (fun W => ((W.cell? ⟨w.heap.size, 0, none⟩ = some (.int .i64 nw') ∧ W.cell? ⟨w.heap.size, 3, none⟩ = some (.slice a3 hi.length v3)) ∧ (W.cell? ⟨wr.heap.size, 0, none⟩ = some (.string (bk xk)) ∧ W.cell? ⟨wr.heap.size, 4, none⟩ = some (.int .u64 (xtk : Int)) ∧ W.cell? ⟨wr.heap.size, 5, none⟩ = some (.int .i64 xtt))) ∧ Below wd.heap.size wd W) W := fun W hW => ⟨⟨⟨(cells6 ((hW.block w.heap.size (by omega)).trans P7)).1, (cells6 ((hW.block w.heap.size (by omega)).trans P7)).2.2.2.1⟩, (cells6 ((hW.block wr.heap.size hqs).trans Q7)).1, (cells6 ((hW.block wr.heap.size hqs).trans Q7)).2.2.2.2.1, (cells6 ((hW.block wr.heap.size hqs).trans Q7)).2.2.2.2.2⟩, hW⟩
              have yS := cl wd (Below.refl _ _)
              have KP := rput_of hi _ (xk, xtk, laterM nw' xtt) (plcN hi xk) wd TY7.r.2.2.1 hhl HPW.out HPL.out
              dsimp only [hv] at KP
              obtain ⟨KM_, hKM⟩ : ∃ l, Hid (keptM hi (plcN hi xk) (xk, xtk, laterM nw' xtt) = l) := ⟨_, rfl⟩
              rw [hKM.out] at KP HN1
              refine wpAnyL_take 0 rfl (by kernel_rfl) (by kernel_rfl) (by kernel_rfl) (by kernel_rfl) (fun _ _ _ h => h) (by kernel_rfl) (by intro w' hS'; obtain ⟨⟨⟨x0, x1_⟩, ⟨x2_, x3_, x4_⟩⟩, xb⟩ := hS'; go_simp <;> rfl) yS ?_
              try simp only [List.getElem_toArray, List.getElem_cons_succ, List.getElem_cons_zero, Act.put, List.setIfInBounds_toArray, List.set_cons_zero, List.set_cons_succ]
              refine wpAnyL_take 1 rfl (by kernel_rfl) (by kernel_rfl) (by kernel_rfl) (by kernel_rfl) (fun _ _ _ h => h) (by kernel_rfl) (by intro w' hS'; obtain ⟨⟨⟨x0, x1_⟩, ⟨x2_, x3_, x4_⟩⟩, xb⟩ := hS'; go_simp <;> rfl) yS ?_
              try simp only [List.getElem_toArray, List.getElem_cons_succ, List.getElem_cons_zero, Act.put, List.setIfInBounds_toArray, List.set_cons_zero, List.set_cons_succ]
              refine wpAnyL_take 2 rfl (by kernel_rfl) (by kernel_rfl) (by kernel_rfl) (by kernel_rfl) (fun _ _ _ h => h) (by kernel_rfl) (by intro w' hS'; obtain ⟨⟨⟨x0, x1_⟩, ⟨x2_, x3_, x4_⟩⟩, xb⟩ := hS'; go_simp <;> rfl) yS ?_
              try simp only [List.getElem_toArray, List.getElem_cons_succ, List.getElem_cons_zero, Act.put, List.setIfInBounds_toArray, List.set_cons_zero, List.set_cons_succ]
              refine wpAnyL_take 3 rfl (by kernel_rfl) (by kernel_rfl) (by kernel_rfl) (by kernel_rfl) (fun _ _ _ h => h) (by kernel_rfl) (by intro w' hS'; obtain ⟨⟨⟨x0, x1_⟩, ⟨x2_, x3_, x4_⟩⟩, xb⟩ := hS'; go_simp <;> rfl) yS ?_
              try simp only [List.getElem_toArray, List.getElem_cons_succ, List.getElem_cons_zero, Act.put, List.setIfInBounds_toArray, List.set_cons_zero, List.set_cons_succ]
              refine wpAnyL_take 4 rfl (by kernel_rfl) (by kernel_rfl) (by kernel_rfl) (by kernel_rfl) (fun _ _ _ h => h) (by kernel_rfl) (by intro w' hS'; obtain ⟨⟨⟨x0, x1_⟩, ⟨x2_, x3_, x4_⟩⟩, xb⟩ := hS'; go_simp <;> rfl) yS ?_
              try simp only [List.getElem_toArray, List.getElem_cons_succ, List.getElem_cons_zero, Act.put, List.setIfInBounds_toArray, List.set_cons_zero, List.set_cons_succ]
              refine wpAnyL_take 5 rfl (by kernel_rfl) (by kernel_rfl) (by kernel_rfl) (by kernel_rfl) (fun _ _ _ h => h) (by kernel_rfl) (by intro w' hS'; obtain ⟨⟨⟨x0, x1_⟩, ⟨x2_, x3_, x4_⟩⟩, xb⟩ := hS'; go_simp <;> rfl) yS ?_
              try simp only [List.getElem_toArray, List.getElem_cons_succ, List.getElem_cons_zero, Act.put, List.setIfInBounds_toArray, List.set_cons_zero, List.set_cons_succ]
              refine wpAnyL_take 6 rfl (by kernel_rfl) (by kernel_rfl) (by kernel_rfl) (by kernel_rfl) (fun _ _ _ h => h) (by kernel_rfl) (by intro w' hS'; obtain ⟨⟨⟨x0, x1_⟩, ⟨x2_, x3_, x4_⟩⟩, xb⟩ := hS'; go_simp <;> rfl) yS ?_
              try simp only [List.getElem_toArray, List.getElem_cons_succ, List.getElem_cons_zero, Act.put, List.setIfInBounds_toArray, List.set_cons_zero, List.set_cons_succ]
              refine wpAnyL_take 7 rfl (by kernel_rfl) (by kernel_rfl) (by kernel_rfl) (by kernel_rfl) (fun _ _ _ h => h) (by kernel_rfl) (by intro w' hS'; obtain ⟨⟨⟨x0, x1_⟩, ⟨x2_, x3_, x4_⟩⟩, xb⟩ := hS'; go_simp <;> rfl) yS ?_
              try simp only [List.getElem_toArray, List.getElem_cons_succ, List.getElem_cons_zero, Act.put, List.setIfInBounds_toArray, List.set_cons_zero, List.set_cons_succ]
              refine wpAnyL_take 8 rfl (by kernel_rfl) (by kernel_rfl) (by kernel_rfl) (by kernel_rfl) (fun _ _ _ h => h) (by kernel_rfl) (by intro w' hS'; obtain ⟨⟨⟨x0, x1_⟩, ⟨x2_, x3_, x4_⟩⟩, xb⟩ := hS'; go_simp <;> rfl) yS ?_
              try simp only [List.getElem_toArray, List.getElem_cons_succ, List.getElem_cons_zero, Act.put, List.setIfInBounds_toArray, List.set_cons_zero, List.set_cons_succ]
              refine wpAnyL_take 9 rfl (by kernel_rfl) (by kernel_rfl) (by kernel_rfl) (by kernel_rfl) (fun _ _ _ h => h) (by kernel_rfl) (by intro w' hS'; obtain ⟨⟨⟨x0, x1_⟩, ⟨x2_, x3_, x4_⟩⟩, xb⟩ := hS'; go_simp <;> rfl) yS ?_
              try simp only [List.getElem_toArray, List.getElem_cons_succ, List.getElem_cons_zero, Act.put, List.setIfInBounds_toArray, List.set_cons_zero, List.set_cons_succ]
              refine wpAnyL_one 10 (by kernel_rfl) rfl (by kernel_rfl) ?_
              intro K' hK'
              go_simp
              go_at_call 50
              refine (runtil_of nw' xtt _ hn0 hn1 (by omega) (by omega)).mono ?_
              rintro e wU ⟨rfl, hwU⟩
              subst hwU
              refine hK'.out _ _ (.inr yS) ?_
              clear hK' K'
              try simp only [List.getElem_toArray, List.getElem_cons_succ, List.getElem_cons_zero, Act.put, List.setIfInBounds_toArray, List.set_cons_zero, List.set_cons_succ]
              refine wpAnyL_take 11 rfl (by kernel_rfl) (by kernel_rfl) (by kernel_rfl) (by kernel_rfl) (fun _ _ _ h => h) (by kernel_rfl) (by intro w' hS'; obtain ⟨⟨⟨x0, x1_⟩, ⟨x2_, x3_, x4_⟩⟩, xb⟩ := hS'; go_simp <;> rfl) yS ?_
              try simp only [List.getElem_toArray, List.getElem_cons_succ, List.getElem_cons_zero, Act.put, List.setIfInBounds_toArray, List.set_cons_zero, List.set_cons_succ]
              refine wpAnyL_one 12 (by kernel_rfl) rfl (by kernel_rfl) ?_
              intro K' hK'
              go_simp
              go_at_call 49
              refine KP.mono ?_
              rintro e w7 ⟨⟨p_, rfl, hOp⟩, hbp⟩
              obtain ⟨pa_, pc_, hp_, -⟩ := hOp.1.shape
              subst hp_
              refine hK'.out _ _ (.inr (cl _ hbp)) ?_
              clear hK' K'
              try simp only [List.getElem_toArray, List.getElem_cons_succ, List.getElem_cons_zero, Act.put, List.setIfInBounds_toArray, List.set_cons_zero, List.set_cons_succ]
              refine wpAnyL_take 13 rfl (by kernel_rfl) (by kernel_rfl) (by kernel_rfl) (by kernel_rfl) (fun _ _ _ h => h) (by kernel_rfl) (by intro w' hS'; obtain ⟨⟨⟨x0, x1_⟩, ⟨x2_, x3_, x4_⟩⟩, xb⟩ := hS'; go_simp <;> rfl) (cl _ hbp) ?_
              try simp only [List.getElem_toArray, List.getElem_cons_succ, List.getElem_cons_zero, Act.put, List.setIfInBounds_toArray, List.set_cons_zero, List.set_cons_succ]
              have P8 := (hbp.block w.heap.size (by omega)).trans P7
              have hOp3 := hOp.mono hz7
              obtain ⟨⟨f0, f1, f2, f3, f4, f5⟩, m0, m1, m2, m3, m4, m5⟩ := t_cells P8
              have P9 := set_block P8 (j := 3) (.slice pa_ KM_.length pc_)
              have FY9 := Fry.of_set (n := w.heap.size) (g := w.heap.size) (w := w7) (j := 3) (.slice pa_ KM_.length pc_) (Nat.le_refl _) (by omega)
              have TY9 := (((TY7.step (Fry.of_below hbp)).step FY9).holds (ow_fry hOp3 (by decide) FY9))
              have OA9 : Ow itE 63 (w.heap.size + 3) (w7.setCell ⟨w.heap.size, 3, none⟩ (.slice pa_ KM_.length pc_)) v (othM (is'.take (i + 1)) (d1, d2)) := (OA7.below hbp).keep fun k hk _ => set_other (by omega)
              have FR9 := (FR7.then (hbp.mono hz7)).set (grown_setc (w := w7) (g := w.heap.size) (j := 3) (.slice pa_ KM_.length pc_)) (Nat.le_trans hz7 hbp.size)
              obtain ⟨w9, hw9⟩ : ∃ W, w7.setCell ⟨w.heap.size, 3, none⟩ (.slice pa_ KM_.length pc_) = W := ⟨_, rfl⟩
              rw [hw9] at P9 TY9 OA9 FR9
              refine wpAnyL_one 14 (by kernel_rfl) rfl (by kernel_rfl) ?_
              intro K' hK'
              go_simp
              refine hK'.out _ _ (.inl (by decide)) ?_
              clear hK' K'
              try simp only [List.getElem_toArray, List.getElem_cons_succ, List.getElem_cons_zero, Act.put, List.setIfInBounds_toArray, List.set_cons_zero, List.set_cons_succ]
              refine wpAnyL_done (by kernel_rfl) (NoPanic.normal ?_) _
              have HN : Hid (⟨nw', sp', fr', KM_, UM, is'⟩ = finT T0 (d1, d2) true (i + 1)) := HN1
              clear KP hOp hOp3 P7 Q7 TY7 OA7 FR7 P8 FY9 f0 f1 f2 f3 f4 f5 m0 m1 m2 m3 m4 m5 cl yS
              go_wp2
              go_roundg (gk - 1)
              case measure => omega
              case rel => exact ⟨i + 1, v, ⟨⟨nw', sp', fr', KM_, UM, is'⟩, (a1, v1), (a2, v2), (pa_, pc_), (ua, uc), (some ⟨b, off, none⟩, v5)⟩, by omega, by go_num, by rw [HMC.out], rfl, OA9, P9, TY9, FR9, HN⟩
            · have HN1 : Hid (⟨nw', sp', fr', dropM hi xk, (markM mi (plcN mi xk) xk xtk).1, is'⟩ = finT T0 (d1, d2) true (i + 1)) := by show _ = _; rw [← HN0.out, rturn_two hkd]
              have hkd2 : xkd = 2 := hkd
              have hkb1 : (xkd == 1) = false := by simp [hkd2]
              have hkb : (xkd == 2) = true := by simpa using hkd2
              clear hkd2
              have HPM : Hid (mayB markB mi = true → Plc mi xk (plcN mi xk)) := fun h => plcN_plc _ (may_up h)
              have KD := rdrop_of hi _ xk w4 TA.r.2.2.1 (by omega)
              obtain ⟨DM, hDM⟩ : ∃ l, Hid (dropM hi xk = l) := ⟨_, rfl⟩
              rw [hDM.out] at KD HN1
              clear hkd HN0 RMH HIB HG hHD h0 h1_ h2_ p4
              go_wp2_with fail
              refine KD.mono ?_
              rintro e w5 ⟨⟨u_, rfl, hOu⟩, hbu⟩
              obtain ⟨ua, uc, hu_, -⟩ := hOu.1.shape
              subst hu_
              have hb5 := hb4.trans (hbu.mono (by have := hb4.size; omega))
              have hOu3 := hOu.mono (by have := hb4.size; omega : w.heap.size + 3 ≤ w4.heap.size)
              clear KD m0 m1 m2 m3 m4 m5 y0 y1 y2 y3 y4 y5 PA QA TA OA FA hOu hbu
              obtain ⟨PA, QA, TA, OA, FA⟩ := HY.out _ hb5
              obtain ⟨⟨f0, f1, f2, f3, f4, f5⟩, m0, m1, m2, m3, m4, m5⟩ := t_cells PA
              obtain ⟨y0, y1, y2, y3, y4, y5⟩ := cells6 QA
              have P6 := set_block PA (j := 3) (.slice ua DM.length uc)
              have FY6 := Fry.of_set (n := w.heap.size) (g := w.heap.size) (w := w5) (j := 3) (.slice ua DM.length uc) (Nat.le_refl _) (by omega)
              have TY6 := (TA.step FY6).holds (ow_fry hOu3 (by decide) FY6)
              have OA6 : Ow itE 63 (w.heap.size + 3) (w5.setCell ⟨w.heap.size, 3, none⟩ (.slice ua DM.length uc)) v (othM (is'.take (i + 1)) (d1, d2)) := OA.keep fun k hk _ => set_other (by omega)
              have FR6 := FA.set (grown_setc (w := w5) (g := w.heap.size) (j := 3) (.slice ua DM.length uc)) (Nat.le_trans hz FA.size)
              have Q6 : (w5.setCell ⟨w.heap.size, 3, none⟩ (.slice ua DM.length uc)).heap[wr.heap.size]? = _ := (set_other (by omega)).trans QA
              obtain ⟨w6, hw6⟩ : ∃ W, w5.setCell ⟨w.heap.size, 3, none⟩ (.slice ua DM.length uc) = W := ⟨_, rfl⟩
              rw [hw6] at P6 TY6 OA6 FR6 Q6
              have P6' : w6.heap[w.heap.size]? = some (.cells #[.int .i64 nw', .slice a1 sp'.length v1, .slice a2 fr'.length v2, .slice ua DM.length uc, .slice a4 mi.length v4, .slice (some ⟨b, off, none⟩) is'.length v5] 27 (0, 0)) := P6
              have hz6 : w.heap.size + 3 ≤ w6.heap.size := Nat.le_trans hz FR6.size
              have KK := rmark_of mi _ xk xtk (plcN mi xk) w6 TY6.r.2.2.2.1 HPM.out
              obtain ⟨⟨MM_, MC⟩, hMM⟩ : ∃ l, Hid (markM mi (plcN mi xk) xk xtk = l) := ⟨_, rfl⟩
              rw [hMM.out] at KK HN1
              clear hOu3 FY6 P6 HY PA QA TA OA FA HPM
              obtain ⟨l0, l1, l2, l3, l4, l5⟩ := cells6 P6'
              obtain ⟨n0, n1, n2, n3, n4, n5⟩ := cells6 Q6
              go_wp2_with fail
              clear f0 f1 f2 f3 f4 f5 l0 l1 l2 l3 l4 l5 n0 n1 n2 n3 n4 n5
              refine KK.mono ?_
              rintro e w7 ⟨⟨p_, rfl, hOp⟩, hbp⟩
              dsimp only at hOp HN1
              obtain ⟨pa_, pc_, hp_, -⟩ := hOp.1.shape
              subst hp_
              have P8 := (hbp.block w.heap.size (by omega)).trans P6'
              have hOp3 := hOp.mono hz6
              clear m0 m1 m2 m3 m4 m5 y0 y1 y2 y3 y4 y5 KK hOp
              obtain ⟨⟨f0, f1, f2, f3, f4, f5⟩, m0, m1, m2, m3, m4, m5⟩ := t_cells P8
              have P9 := set_block P8 (j := 4) (.slice pa_ MM_.length pc_)
              have FY9 := Fry.of_set (n := w.heap.size) (g := w.heap.size) (w := w7) (j := 4) (.slice pa_ MM_.length pc_) (Nat.le_refl _) (by omega)
              have TY9 := (((TY6.step (Fry.of_below hbp)).step FY9).marks (ow_fry hOp3 (by decide) FY9))
              have OA9 : Ow itE 63 (w.heap.size + 3) (w7.setCell ⟨w.heap.size, 4, none⟩ (.slice pa_ MM_.length pc_)) v (othM (is'.take (i + 1)) (d1, d2)) := (OA6.below hbp).keep fun k hk _ => set_other (by omega)
              have FR9 := (FR6.then (hbp.mono hz6)).set (grown_setc (w := w7) (g := w.heap.size) (j := 4) (.slice pa_ MM_.length pc_)) (Nat.le_trans hz6 hbp.size)
              obtain ⟨w9, hw9⟩ : ∃ W, w7.setCell ⟨w.heap.size, 4, none⟩ (.slice pa_ MM_.length pc_) = W := ⟨_, rfl⟩
              rw [hw9] at P9 TY9 OA9 FR9
              have HN : Hid (⟨nw', sp', fr', DM, MM_, is'⟩ = finT T0 (d1, d2) true (i + 1)) := HN1
              clear hOp3 P6' Q6 TY6 OA6 FR6 P8 FY9
              go_wp2
              go_roundg (gk - 1)
              case measure => omega
              case rel => exact ⟨i + 1, v, ⟨⟨nw', sp', fr', DM, MM_, is'⟩, (a1, v1), (a2, v2), (ua, uc), (pa_, pc_), (some ⟨b, off, none⟩, v5)⟩, by omega, by go_num, by rw [HMC.out], rfl, OA9, P9, TY9, FR9, HN⟩
            · obtain ⟨HT3_, -, -, hpw, hpl, hn0, hn1, htl, hth⟩ := rturn_three RMH.out HIB.out hkd
              dsimp only at HT3_ hpw hpl hn0 hn1 htl hth
              have HT3 : Hid (finT T0 (d1, d2) true (i + 1) = _) := HN0.out.symm.trans HT3_
              have HPW : Hid (hi.Pairwise (fun a b => a.1 < b.1)) := hpw
              have HPL : Hid (∀ y : Hd, Plc hi y.1 (plcN hi y.1)) := hpl
              have hkd3 : xkd = 3 := hkd
              have hkb1 : (xkd == 1) = false := by simp [hkd3]
              have hkb : (xkd == 2) = false := by simp [hkd3]
              clear hkd3
              clear hkd HT3_ HN0 hpw hpl
              cases HD with
              | false =>
                have HN : Hid (⟨nw', sp', fr', hi, mi, is'⟩ = finT T0 (d1, d2) true (i + 1)) := by
                  show _ = _
                  rw [HT3.out]
                  have := hHD.out
                  cases hf : findM hi xk with
                  | none => rfl
                  | some y => rw [hf] at this; cases this
                clear HT3 HG hHD
                have hdr : Below w4.heap.size w4 w4.drew := (Below.refl w4.heap.size w4).drew
                have yS : (fun W => ((W.cell? ⟨w.heap.size, 0, none⟩ = some (.int .i64 nw') ∧ W.cell? ⟨wr.heap.size, 5, none⟩ = some (.int .i64 xtt)) ∧ W.cell? ⟨w3.heap.size, 2, none⟩ = some (.int .i64 hu)) ∧ Below w4.heap.size w4 W) w4.drew := ⟨⟨⟨(cells6 ((hdr.block w.heap.size (by have := hb4.size; omega)).trans PA)).1, (cells6 ((hdr.block wr.heap.size (blk_lt QA)).trans QA)).2.2.2.2.2⟩, (cells3 ((hdr.block w3.heap.size (by omega)).trans p4)).2.2⟩, hdr⟩
                have hbd := hb4.trans (hdr.mono (by have := hb4.size; omega : wy.heap.size ≤ w4.heap.size))
                have pd := (hdr.block w3.heap.size (by omega)).trans p4
                clear PA QA TA OA FA p4 hdr
                go_wp2
                refine wp_region_L (fun W => ((W.cell? ⟨w.heap.size, 0, none⟩ = some (.int .i64 nw') ∧ W.cell? ⟨wr.heap.size, 5, none⟩ = some (.int .i64 xtt)) ∧ W.cell? ⟨w3.heap.size, 2, none⟩ = some (.int .i64 hu)) ∧ Below w4.heap.size w4 W) [] (by kernel_rfl) ?_
                clear m0 m1 m2 m3 m4 m5 y0 y1 y2 y3 y4 y5 h0 h1_ h2_
                refine wpAnyL_take 0 rfl (by kernel_rfl) (by kernel_rfl) (by kernel_rfl) (by kernel_rfl) (fun _ _ _ h => h) (by kernel_rfl) (by intro w' hS'; obtain ⟨⟨⟨x0, x1_⟩, x2_⟩, xb⟩ := hS'; go_simp <;> rfl) yS ?_
                try simp only [List.getElem_toArray, List.getElem_cons_succ, List.getElem_cons_zero, Act.put, List.setIfInBounds_toArray, List.set_cons_zero, List.set_cons_succ]
                refine wpAnyL_take 1 rfl (by kernel_rfl) (by kernel_rfl) (by kernel_rfl) (by kernel_rfl) (fun _ _ _ h => h) (by kernel_rfl) (by intro w' hS'; obtain ⟨⟨⟨x0, x1_⟩, x2_⟩, xb⟩ := hS'; go_simp <;> rfl) yS ?_
                try simp only [List.getElem_toArray, List.getElem_cons_succ, List.getElem_cons_zero, Act.put, List.setIfInBounds_toArray, List.set_cons_zero, List.set_cons_succ]
                refine wpAnyL_skip 2 rfl (by kernel_rfl) (by kernel_rfl) (by kernel_rfl) (by kernel_rfl) (fun _ _ _ h => h) (by kernel_rfl) yS ?_
                try simp only [List.getElem_toArray, List.getElem_cons_succ, List.getElem_cons_zero, Act.put, List.setIfInBounds_toArray, List.set_cons_zero, List.set_cons_succ]
                refine wpAnyL_skip 3 rfl (by kernel_rfl) (by kernel_rfl) (by kernel_rfl) (by kernel_rfl) (fun _ _ _ h => h) (by kernel_rfl) yS ?_
                try simp only [List.getElem_toArray, List.getElem_cons_succ, List.getElem_cons_zero, Act.put, List.setIfInBounds_toArray, List.set_cons_zero, List.set_cons_succ]
                refine wpAnyL_skip 4 rfl (by kernel_rfl) (by kernel_rfl) (by kernel_rfl) (by kernel_rfl) (fun _ _ _ h => h) (by kernel_rfl) yS ?_
                try simp only [List.getElem_toArray, List.getElem_cons_succ, List.getElem_cons_zero, Act.put, List.setIfInBounds_toArray, List.set_cons_zero, List.set_cons_succ]
                refine wpAnyL_skip 5 rfl (by kernel_rfl) (by kernel_rfl) (by kernel_rfl) (by kernel_rfl) (fun _ _ _ h => h) (by kernel_rfl) yS ?_
                try simp only [List.getElem_toArray, List.getElem_cons_succ, List.getElem_cons_zero, Act.put, List.setIfInBounds_toArray, List.set_cons_zero, List.set_cons_succ]
                refine wpAnyL_skip 6 rfl (by kernel_rfl) (by kernel_rfl) (by kernel_rfl) (by kernel_rfl) (fun _ _ _ h => h) (by kernel_rfl) yS ?_
                try simp only [List.getElem_toArray, List.getElem_cons_succ, List.getElem_cons_zero, Act.put, List.setIfInBounds_toArray, List.set_cons_zero, List.set_cons_succ]
                refine wpAnyL_skip 7 rfl (by kernel_rfl) (by kernel_rfl) (by kernel_rfl) (by kernel_rfl) (fun _ _ _ h => h) (by kernel_rfl) yS ?_
                try simp only [List.getElem_toArray, List.getElem_cons_succ, List.getElem_cons_zero, Act.put, List.setIfInBounds_toArray, List.set_cons_zero, List.set_cons_succ]
                refine wpAnyL_skip 8 rfl (by kernel_rfl) (by kernel_rfl) (by kernel_rfl) (by kernel_rfl) (fun _ _ _ h => h) (by kernel_rfl) yS ?_
                try simp only [List.getElem_toArray, List.getElem_cons_succ, List.getElem_cons_zero, Act.put, List.setIfInBounds_toArray, List.set_cons_zero, List.set_cons_succ]
                refine wpAnyL_skip 9 rfl (by kernel_rfl) (by kernel_rfl) (by kernel_rfl) (by kernel_rfl) (fun _ _ _ h => h) (by kernel_rfl) yS ?_
                try simp only [List.getElem_toArray, List.getElem_cons_succ, List.getElem_cons_zero, Act.put, List.setIfInBounds_toArray, List.set_cons_zero, List.set_cons_succ]
                refine wpAnyL_take 10 rfl (by kernel_rfl) (by kernel_rfl) (by kernel_rfl) (by kernel_rfl) (fun _ _ _ h => h) (by kernel_rfl) (by intro w' hS'; obtain ⟨⟨⟨x0, x1_⟩, x2_⟩, xb⟩ := hS'; go_simp <;> rfl) yS ?_
                try simp only [List.getElem_toArray, List.getElem_cons_succ, List.getElem_cons_zero, Act.put, List.setIfInBounds_toArray, List.set_cons_zero, List.set_cons_succ]
                refine wpAnyL_take 11 rfl (by kernel_rfl) (by kernel_rfl) (by kernel_rfl) (by kernel_rfl) (fun _ _ _ h => h) (by kernel_rfl) (by intro w' hS'; obtain ⟨⟨⟨x0, x1_⟩, x2_⟩, xb⟩ := hS'; go_simp <;> rfl) yS ?_
                try simp only [List.getElem_toArray, List.getElem_cons_succ, List.getElem_cons_zero, Act.put, List.setIfInBounds_toArray, List.set_cons_zero, List.set_cons_succ]
                refine wpAnyL_done (by kernel_rfl) (NoPanic.normal ?_) _
                clear yS
                generalize w4.drew = wd at *
                obtain ⟨PA, QA, TA, OA, FA⟩ := HY.out _ hbd
                go_wp2
                go_roundg (gk - 1)
                case measure => omega
                case rel => exact ⟨i + 1, v, ⟨⟨nw', sp', fr', hi, mi, is'⟩, (a1, v1), (a2, v2), (a3, v3), (a4, v4), (some ⟨b, off, none⟩, v5)⟩, by omega, by go_num, by rw [HMC.out], rfl, OA, PA, TA, FA, HN⟩
              | true =>
                have HF : Hid (findM hi xk = some (hk, ht, hu)) := by
                  show _ = _
                  have h1 := hHD.out
                  have h2 := HG.out
                  cases hf : findM hi xk with
                  | none => rw [hf] at h1; cases h1
                  | some y => rw [hf] at h2; rw [show y = (hk, ht, hu) from h2]
                have HT4 : Hid (finT T0 (d1, d2) true (i + 1) = if hu < laterM nw' xtt then ⟨nw', sp', fr', keptM hi (plcN hi hk) (hk, ht, laterM nw' xtt), mi, is'⟩ else ⟨nw', sp', fr', hi, mi, is'⟩) := by
                  show _ = _
                  rw [HT3.out, HF.out]
                clear HT3 HG hHD HF
                by_cases hlt2 : hu < laterM nw' xtt
                · have hltd : decide (hu < laterM nw' xtt) = true := decide_eq_true hlt2
                  have HN1 : Hid (⟨nw', sp', fr', keptM hi (plcN hi hk) (hk, ht, laterM nw' xtt), mi, is'⟩ = finT T0 (d1, d2) true (i + 1)) := by show _ = _; rw [HT4.out, if_pos hlt2]
                  clear HT4 hlt2
                  have hdr : Below w4.heap.size w4 w4.drew := (Below.refl w4.heap.size w4).drew
                  have yS : (fun W => ((W.cell? ⟨w.heap.size, 0, none⟩ = some (.int .i64 nw') ∧ W.cell? ⟨wr.heap.size, 5, none⟩ = some (.int .i64 xtt)) ∧ W.cell? ⟨w3.heap.size, 2, none⟩ = some (.int .i64 hu)) ∧ Below w4.heap.size w4 W) w4.drew := ⟨⟨⟨(cells6 ((hdr.block w.heap.size (by have := hb4.size; omega)).trans PA)).1, (cells6 ((hdr.block wr.heap.size (blk_lt QA)).trans QA)).2.2.2.2.2⟩, (cells3 ((hdr.block w3.heap.size (by omega)).trans p4)).2.2⟩, hdr⟩
                  have hbd := hb4.trans (hdr.mono (by have := hb4.size; omega : wy.heap.size ≤ w4.heap.size))
                  have pd := (hdr.block w3.heap.size (by omega)).trans p4
                  clear PA QA TA OA FA p4 hdr
                  go_wp2
                  refine wp_region_L (fun W => ((W.cell? ⟨w.heap.size, 0, none⟩ = some (.int .i64 nw') ∧ W.cell? ⟨wr.heap.size, 5, none⟩ = some (.int .i64 xtt)) ∧ W.cell? ⟨w3.heap.size, 2, none⟩ = some (.int .i64 hu)) ∧ Below w4.heap.size w4 W) [] (by kernel_rfl) ?_
                  clear m0 m1 m2 m3 m4 m5 y0 y1 y2 y3 y4 y5 h0 h1_ h2_
                  refine wpAnyL_take 0 rfl (by kernel_rfl) (by kernel_rfl) (by kernel_rfl) (by kernel_rfl) (fun _ _ _ h => h) (by kernel_rfl) (by intro w' hS'; obtain ⟨⟨⟨x0, x1_⟩, x2_⟩, xb⟩ := hS'; go_simp <;> rfl) yS ?_
                  try simp only [List.getElem_toArray, List.getElem_cons_succ, List.getElem_cons_zero, Act.put, List.setIfInBounds_toArray, List.set_cons_zero, List.set_cons_succ]
                  refine wpAnyL_take 1 rfl (by kernel_rfl) (by kernel_rfl) (by kernel_rfl) (by kernel_rfl) (fun _ _ _ h => h) (by kernel_rfl) (by intro w' hS'; obtain ⟨⟨⟨x0, x1_⟩, x2_⟩, xb⟩ := hS'; go_simp <;> rfl) yS ?_
                  try simp only [List.getElem_toArray, List.getElem_cons_succ, List.getElem_cons_zero, Act.put, List.setIfInBounds_toArray, List.set_cons_zero, List.set_cons_succ]
                  refine wpAnyL_take 2 rfl (by kernel_rfl) (by kernel_rfl) (by kernel_rfl) (by kernel_rfl) (fun _ _ _ h => h) (by kernel_rfl) (by intro w' hS'; obtain ⟨⟨⟨x0, x1_⟩, x2_⟩, xb⟩ := hS'; go_simp <;> rfl) yS ?_
                  try simp only [List.getElem_toArray, List.getElem_cons_succ, List.getElem_cons_zero, Act.put, List.setIfInBounds_toArray, List.set_cons_zero, List.set_cons_succ]
                  refine wpAnyL_take 3 rfl (by kernel_rfl) (by kernel_rfl) (by kernel_rfl) (by kernel_rfl) (fun _ _ _ h => h) (by kernel_rfl) (by intro w' hS'; obtain ⟨⟨⟨x0, x1_⟩, x2_⟩, xb⟩ := hS'; go_simp <;> rfl) yS ?_
                  try simp only [List.getElem_toArray, List.getElem_cons_succ, List.getElem_cons_zero, Act.put, List.setIfInBounds_toArray, List.set_cons_zero, List.set_cons_succ]
                  refine wpAnyL_take 4 rfl (by kernel_rfl) (by kernel_rfl) (by kernel_rfl) (by kernel_rfl) (fun _ _ _ h => h) (by kernel_rfl) (by intro w' hS'; obtain ⟨⟨⟨x0, x1_⟩, x2_⟩, xb⟩ := hS'; go_simp <;> rfl) yS ?_
                  try simp only [List.getElem_toArray, List.getElem_cons_succ, List.getElem_cons_zero, Act.put, List.setIfInBounds_toArray, List.set_cons_zero, List.set_cons_succ]
                  refine wpAnyL_take 5 rfl (by kernel_rfl) (by kernel_rfl) (by kernel_rfl) (by kernel_rfl) (fun _ _ _ h => h) (by kernel_rfl) (by intro w' hS'; obtain ⟨⟨⟨x0, x1_⟩, x2_⟩, xb⟩ := hS'; go_simp <;> rfl) yS ?_
                  try simp only [List.getElem_toArray, List.getElem_cons_succ, List.getElem_cons_zero, Act.put, List.setIfInBounds_toArray, List.set_cons_zero, List.set_cons_succ]
                  refine wpAnyL_take 7 rfl (by kernel_rfl) (by kernel_rfl) (by kernel_rfl) (by kernel_rfl) (fun _ _ _ h => h) (by kernel_rfl) (by intro w' hS'; obtain ⟨⟨⟨x0, x1_⟩, x2_⟩, xb⟩ := hS'; go_simp <;> rfl) yS ?_
                  try simp only [List.getElem_toArray, List.getElem_cons_succ, List.getElem_cons_zero, Act.put, List.setIfInBounds_toArray, List.set_cons_zero, List.set_cons_succ]
                  refine wpAnyL_take 8 rfl (by kernel_rfl) (by kernel_rfl) (by kernel_rfl) (by kernel_rfl) (fun _ _ _ h => h) (by kernel_rfl) (by intro w' hS'; obtain ⟨⟨⟨x0, x1_⟩, x2_⟩, xb⟩ := hS'; go_simp <;> rfl) yS ?_
                  try simp only [List.getElem_toArray, List.getElem_cons_succ, List.getElem_cons_zero, Act.put, List.setIfInBounds_toArray, List.set_cons_zero, List.set_cons_succ]
                  refine wpAnyL_one 6 (by kernel_rfl) rfl (by kernel_rfl) ?_
                  intro K' hK'
                  go_simp
                  go_at_call 50
                  refine (runtil_of nw' xtt _ hn0 hn1 (by omega) (by omega)).mono ?_
                  rintro e wU ⟨rfl, hwU⟩
                  subst hwU
                  refine hK'.out _ _ (.inr yS) ?_
                  clear hK' K'
                  try simp only [List.getElem_toArray, List.getElem_cons_succ, List.getElem_cons_zero, Act.put, List.setIfInBounds_toArray, List.set_cons_zero, List.set_cons_succ]
                  refine wpAnyL_take 9 rfl (by kernel_rfl) (by kernel_rfl) (by kernel_rfl) (by kernel_rfl) (fun _ _ _ h => h) (by kernel_rfl) (by intro w' hS'; obtain ⟨⟨⟨x0, x1_⟩, x2_⟩, xb⟩ := hS'; go_simp <;> rfl) yS ?_
                  try simp only [List.getElem_toArray, List.getElem_cons_succ, List.getElem_cons_zero, Act.put, List.setIfInBounds_toArray, List.set_cons_zero, List.set_cons_succ]
                  refine wpAnyL_take 10 rfl (by kernel_rfl) (by kernel_rfl) (by kernel_rfl) (by kernel_rfl) (fun _ _ _ h => h) (by kernel_rfl) (by intro w' hS'; obtain ⟨⟨⟨x0, x1_⟩, x2_⟩, xb⟩ := hS'; go_simp <;> rfl) yS ?_
                  try simp only [List.getElem_toArray, List.getElem_cons_succ, List.getElem_cons_zero, Act.put, List.setIfInBounds_toArray, List.set_cons_zero, List.set_cons_succ]
                  refine wpAnyL_take 11 rfl (by kernel_rfl) (by kernel_rfl) (by kernel_rfl) (by kernel_rfl) (fun _ _ _ h => h) (by kernel_rfl) (by intro w' hS'; obtain ⟨⟨⟨x0, x1_⟩, x2_⟩, xb⟩ := hS'; go_simp <;> rfl) yS ?_
                  try simp only [List.getElem_toArray, List.getElem_cons_succ, List.getElem_cons_zero, Act.put, List.setIfInBounds_toArray, List.set_cons_zero, List.set_cons_succ]
                  refine wpAnyL_done (by kernel_rfl) (NoPanic.normal ?_) _
                  clear yS
                  generalize w4.drew = wd at *
                  obtain ⟨PA, QA, TA, OA, FA⟩ := HY.out _ hbd
                  obtain ⟨m0, m1, m2, m3, m4, m5⟩ := cells6 PA
                  obtain ⟨y0, y1, y2, y3, y4, y5⟩ := cells6 QA
                  have KU := runtil_of nw' xtt wd hn0 hn1 (by omega) (by omega)
                  obtain ⟨LT, hLT⟩ : ∃ l, Hid (laterM nw' xtt = l) := ⟨_, rfl⟩
                  rw [hLT.out] at KU HN1
                  go_wp2_with fail
                  refine KU.mono ?_
                  rintro e wU ⟨rfl, hwU⟩
                  subst hwU
                  obtain ⟨⟨f0, f1_, f2_⟩, h0, h1_, h2_⟩ := h_cells pd
                  have hw3s : wy.heap.size ≤ w3.heap.size := hz3
                  have pe := set_block pd (j := 2) (.int .i64 LT)
                  have hbe := hbd.setCell (p := ⟨w3.heap.size, 2, none⟩) hw3s (.int .i64 LT)
                  obtain ⟨we, hwe⟩ : ∃ W, wU.setCell ⟨w3.heap.size, 2, none⟩ (.int .i64 LT) = W := ⟨_, rfl⟩
                  rw [hwe] at pe hbe
                  have pe' : we.heap[w3.heap.size]? = some (.cells #[.string (bk hk), .int .u64 (ht : Int), .int .i64 LT] 59 (0, 0)) := pe
                  clear m0 m1 m2 m3 m4 m5 y0 y1 y2 y3 y4 y5 PA QA TA OA FA KU pe
                  obtain ⟨PA, QA, TA, OA, FA⟩ := HY.out _ hbe
                  have KP := rput_of hi _ (hk, ht, LT) (plcN hi hk) we TA.r.2.2.1 hhl HPW.out (HPL.out (hk, ht, LT))
                  dsimp only [hv] at KP
                  obtain ⟨KM_, hKM⟩ : ∃ l, Hid (keptM hi (plcN hi hk) (hk, ht, LT) = l) := ⟨_, rfl⟩
                  rw [hKM.out] at KP HN1
                  obtain ⟨m0, m1, m2, m3, m4, m5⟩ := cells6 PA
                  obtain ⟨g0, g1, g2⟩ := cells3 pe'
                  go_wp2_with fail
                  clear f0 f1_ f2_ h0 h1_ h2_
                  refine KP.mono ?_
                  rintro e w7 ⟨⟨p_, rfl, hOp⟩, hbp⟩
                  obtain ⟨pa_, pc_, hp_, -⟩ := hOp.1.shape
                  subst hp_
                  have hze : w.heap.size + 3 ≤ we.heap.size := Nat.le_trans hzy hbe.size
                  have P8 := (hbp.block w.heap.size (by omega)).trans PA
                  have hOp3 := hOp.mono hze
                  clear m0 m1 m2 m3 m4 m5 g0 g1 g2 KP hOp
                  obtain ⟨⟨f0, f1, f2, f3, f4, f5⟩, m0, m1, m2, m3, m4, m5⟩ := t_cells P8
                  have P9 := set_block P8 (j := 3) (.slice pa_ KM_.length pc_)
                  have FY9 := Fry.of_set (n := w.heap.size) (g := w.heap.size) (w := w7) (j := 3) (.slice pa_ KM_.length pc_) (Nat.le_refl _) (by omega)
                  have TY9 := (((TA.step (Fry.of_below hbp)).step FY9).holds (ow_fry hOp3 (by decide) FY9))
                  have OA9 : Ow itE 63 (w.heap.size + 3) (w7.setCell ⟨w.heap.size, 3, none⟩ (.slice pa_ KM_.length pc_)) v (othM (is'.take (i + 1)) (d1, d2)) := (OA.below hbp).keep fun k hk _ => set_other (by omega)
                  have FR9 := (FA.then (hbp.mono hze)).set (grown_setc (w := w7) (g := w.heap.size) (j := 3) (.slice pa_ KM_.length pc_)) (Nat.le_trans hze hbp.size)
                  obtain ⟨w9, hw9⟩ : ∃ W, w7.setCell ⟨w.heap.size, 3, none⟩ (.slice pa_ KM_.length pc_) = W := ⟨_, rfl⟩
                  rw [hw9] at P9 TY9 OA9 FR9
                  have HN : Hid (⟨nw', sp', fr', KM_, mi, is'⟩ = finT T0 (d1, d2) true (i + 1)) := HN1
                  clear hOp3 PA QA TA OA FA P8 FY9 pd pe'
                  go_wp2
                  go_roundg (gk - 1)
                  case measure => omega
                  case rel => exact ⟨i + 1, v, ⟨⟨nw', sp', fr', KM_, mi, is'⟩, (a1, v1), (a2, v2), (pa_, pc_), (a4, v4), (some ⟨b, off, none⟩, v5)⟩, by omega, by go_num, by rw [HMC.out], rfl, OA9, P9, TY9, FR9, HN⟩
                · have hltd : decide (hu < laterM nw' xtt) = false := decide_eq_false hlt2
                  have HN : Hid (⟨nw', sp', fr', hi, mi, is'⟩ = finT T0 (d1, d2) true (i + 1)) := by show _ = _; rw [HT4.out, if_neg hlt2]
                  clear HT4 hlt2
                  have hdr : Below w4.heap.size w4 w4.drew := (Below.refl w4.heap.size w4).drew
                  have yS : (fun W => ((W.cell? ⟨w.heap.size, 0, none⟩ = some (.int .i64 nw') ∧ W.cell? ⟨wr.heap.size, 5, none⟩ = some (.int .i64 xtt)) ∧ W.cell? ⟨w3.heap.size, 2, none⟩ = some (.int .i64 hu)) ∧ Below w4.heap.size w4 W) w4.drew := ⟨⟨⟨(cells6 ((hdr.block w.heap.size (by have := hb4.size; omega)).trans PA)).1, (cells6 ((hdr.block wr.heap.size (blk_lt QA)).trans QA)).2.2.2.2.2⟩, (cells3 ((hdr.block w3.heap.size (by omega)).trans p4)).2.2⟩, hdr⟩
                  have hbd := hb4.trans (hdr.mono (by have := hb4.size; omega : wy.heap.size ≤ w4.heap.size))
                  have pd := (hdr.block w3.heap.size (by omega)).trans p4
                  clear PA QA TA OA FA p4 hdr
                  go_wp2
                  refine wp_region_L (fun W => ((W.cell? ⟨w.heap.size, 0, none⟩ = some (.int .i64 nw') ∧ W.cell? ⟨wr.heap.size, 5, none⟩ = some (.int .i64 xtt)) ∧ W.cell? ⟨w3.heap.size, 2, none⟩ = some (.int .i64 hu)) ∧ Below w4.heap.size w4 W) [] (by kernel_rfl) ?_
                  clear m0 m1 m2 m3 m4 m5 y0 y1 y2 y3 y4 y5 h0 h1_ h2_
                  refine wpAnyL_take 0 rfl (by kernel_rfl) (by kernel_rfl) (by kernel_rfl) (by kernel_rfl) (fun _ _ _ h => h) (by kernel_rfl) (by intro w' hS'; obtain ⟨⟨⟨x0, x1_⟩, x2_⟩, xb⟩ := hS'; go_simp <;> rfl) yS ?_
                  try simp only [List.getElem_toArray, List.getElem_cons_succ, List.getElem_cons_zero, Act.put, List.setIfInBounds_toArray, List.set_cons_zero, List.set_cons_succ]
                  refine wpAnyL_take 1 rfl (by kernel_rfl) (by kernel_rfl) (by kernel_rfl) (by kernel_rfl) (fun _ _ _ h => h) (by kernel_rfl) (by intro w' hS'; obtain ⟨⟨⟨x0, x1_⟩, x2_⟩, xb⟩ := hS'; go_simp <;> rfl) yS ?_
                  try simp only [List.getElem_toArray, List.getElem_cons_succ, List.getElem_cons_zero, Act.put, List.setIfInBounds_toArray, List.set_cons_zero, List.set_cons_succ]
                  refine wpAnyL_take 2 rfl (by kernel_rfl) (by kernel_rfl) (by kernel_rfl) (by kernel_rfl) (fun _ _ _ h => h) (by kernel_rfl) (by intro w' hS'; obtain ⟨⟨⟨x0, x1_⟩, x2_⟩, xb⟩ := hS'; go_simp <;> rfl) yS ?_
                  try simp only [List.getElem_toArray, List.getElem_cons_succ, List.getElem_cons_zero, Act.put, List.setIfInBounds_toArray, List.set_cons_zero, List.set_cons_succ]
                  refine wpAnyL_take 3 rfl (by kernel_rfl) (by kernel_rfl) (by kernel_rfl) (by kernel_rfl) (fun _ _ _ h => h) (by kernel_rfl) (by intro w' hS'; obtain ⟨⟨⟨x0, x1_⟩, x2_⟩, xb⟩ := hS'; go_simp <;> rfl) yS ?_
                  try simp only [List.getElem_toArray, List.getElem_cons_succ, List.getElem_cons_zero, Act.put, List.setIfInBounds_toArray, List.set_cons_zero, List.set_cons_succ]
                  refine wpAnyL_take 4 rfl (by kernel_rfl) (by kernel_rfl) (by kernel_rfl) (by kernel_rfl) (fun _ _ _ h => h) (by kernel_rfl) (by intro w' hS'; obtain ⟨⟨⟨x0, x1_⟩, x2_⟩, xb⟩ := hS'; go_simp <;> rfl) yS ?_
                  try simp only [List.getElem_toArray, List.getElem_cons_succ, List.getElem_cons_zero, Act.put, List.setIfInBounds_toArray, List.set_cons_zero, List.set_cons_succ]
                  refine wpAnyL_take 5 rfl (by kernel_rfl) (by kernel_rfl) (by kernel_rfl) (by kernel_rfl) (fun _ _ _ h => h) (by kernel_rfl) (by intro w' hS'; obtain ⟨⟨⟨x0, x1_⟩, x2_⟩, xb⟩ := hS'; go_simp <;> rfl) yS ?_
                  try simp only [List.getElem_toArray, List.getElem_cons_succ, List.getElem_cons_zero, Act.put, List.setIfInBounds_toArray, List.set_cons_zero, List.set_cons_succ]
                  refine wpAnyL_take 7 rfl (by kernel_rfl) (by kernel_rfl) (by kernel_rfl) (by kernel_rfl) (fun _ _ _ h => h) (by kernel_rfl) (by intro w' hS'; obtain ⟨⟨⟨x0, x1_⟩, x2_⟩, xb⟩ := hS'; go_simp <;> rfl) yS ?_
                  try simp only [List.getElem_toArray, List.getElem_cons_succ, List.getElem_cons_zero, Act.put, List.setIfInBounds_toArray, List.set_cons_zero, List.set_cons_succ]
                  refine wpAnyL_take 8 rfl (by kernel_rfl) (by kernel_rfl) (by kernel_rfl) (by kernel_rfl) (fun _ _ _ h => h) (by kernel_rfl) (by intro w' hS'; obtain ⟨⟨⟨x0, x1_⟩, x2_⟩, xb⟩ := hS'; go_simp <;> rfl) yS ?_
                  try simp only [List.getElem_toArray, List.getElem_cons_succ, List.getElem_cons_zero, Act.put, List.setIfInBounds_toArray, List.set_cons_zero, List.set_cons_succ]
                  refine wpAnyL_one 6 (by kernel_rfl) rfl (by kernel_rfl) ?_
                  intro K' hK'
                  go_simp
                  go_at_call 50
                  refine (runtil_of nw' xtt _ hn0 hn1 (by omega) (by omega)).mono ?_
                  rintro e wU ⟨rfl, hwU⟩
                  subst hwU
                  refine hK'.out _ _ (.inr yS) ?_
                  clear hK' K'
                  try simp only [List.getElem_toArray, List.getElem_cons_succ, List.getElem_cons_zero, Act.put, List.setIfInBounds_toArray, List.set_cons_zero, List.set_cons_succ]
                  refine wpAnyL_take 9 rfl (by kernel_rfl) (by kernel_rfl) (by kernel_rfl) (by kernel_rfl) (fun _ _ _ h => h) (by kernel_rfl) (by intro w' hS'; obtain ⟨⟨⟨x0, x1_⟩, x2_⟩, xb⟩ := hS'; go_simp <;> rfl) yS ?_
                  try simp only [List.getElem_toArray, List.getElem_cons_succ, List.getElem_cons_zero, Act.put, List.setIfInBounds_toArray, List.set_cons_zero, List.set_cons_succ]
                  refine wpAnyL_take 10 rfl (by kernel_rfl) (by kernel_rfl) (by kernel_rfl) (by kernel_rfl) (fun _ _ _ h => h) (by kernel_rfl) (by intro w' hS'; obtain ⟨⟨⟨x0, x1_⟩, x2_⟩, xb⟩ := hS'; go_simp <;> rfl) yS ?_
                  try simp only [List.getElem_toArray, List.getElem_cons_succ, List.getElem_cons_zero, Act.put, List.setIfInBounds_toArray, List.set_cons_zero, List.set_cons_succ]
                  refine wpAnyL_take 11 rfl (by kernel_rfl) (by kernel_rfl) (by kernel_rfl) (by kernel_rfl) (fun _ _ _ h => h) (by kernel_rfl) (by intro w' hS'; obtain ⟨⟨⟨x0, x1_⟩, x2_⟩, xb⟩ := hS'; go_simp <;> rfl) yS ?_
                  try simp only [List.getElem_toArray, List.getElem_cons_succ, List.getElem_cons_zero, Act.put, List.setIfInBounds_toArray, List.set_cons_zero, List.set_cons_succ]
                  refine wpAnyL_done (by kernel_rfl) (NoPanic.normal ?_) _
                  clear yS
                  generalize w4.drew = wd at *
                  obtain ⟨PA, QA, TA, OA, FA⟩ := HY.out _ hbd
                  go_wp2
                  go_roundg (gk - 1)
                  case measure => omega
                  case rel => exact ⟨i + 1, v, ⟨⟨nw', sp', fr', hi, mi, is'⟩, (a1, v1), (a2, v2), (a3, v3), (a4, v4), (some ⟨b, off, none⟩, v5)⟩, by omega, by go_num, by rw [HMC.out], rfl, OA, PA, TA, FA, HN⟩
        · have HM : Hid _ := mine_no HX.out hd
          have HOT : Hid _ := oth_yes HX.out hd
          have HN : Hid (⟨nw', sp', fr', hi, mi, is'⟩ = finT T0 (d1, d2) cm (i + 1)) := by show _ = _; rw [fint_no hxT.out hd]; exact HZ.out
          by_cases h1 : x1 = d1
          · have h2 : ¬ x2 = d2 := fun h2 => hd (by rw [h1, h2])
            have h1d : decide (x1 = d1) = true := decide_eq_true h1
            have h2d : decide (x2 = d2) = false := decide_eq_false h2
            clear hd h1
            have hrunH : Hid _ := push_it (xk, (x1, x2), xkd, xtk, xtt) hOy.1 (by omega)
            have HGP : Hid (∀ v' w', PushT itE 63 wy v (othM (is'.take i) (d1, d2) ++ [(xk, (x1, x2), xkd, xtk, xtt)]) v' w' → (Ow itE 63 (w.heap.size + 3) w' v' (othM (is'.take (i + 1)) (d1, d2)) ∧ Below (w.heap.size + 3) wy w') ∧ Fry w.heap.size wy w') := fun v' w' hp => by
              rw [HOT.out]
              exact ⟨hOy.push hzy hp, Fry.of_push hOy hp⟩
            obtain ⟨va, vc, hva, -⟩ := hOy.1.shape
            clear hOy HZ HOT
            generalize (othM (is'.take i) (d1, d2)).length = kl at *
            subst hva
            go_wp2_with (at_builtin; refine wp_by rfl _ _ _ rfl _ _ rfl rfl hrunH.out ?_)
            intro v6 w6 hp6
            obtain ⟨⟨hO6, hb6⟩, hf6⟩ := HGP.out v6 w6 hp6
            have P6 := (hb6.block w.heap.size (by omega)).trans Py
            have FR6 := FRy.then hb6
            have TY6 := TYy.step hf6
            have HMC : Hid (((mineM (is'.take (i + 1)) (d1, d2)).length : Int) = ((mineM (is'.take i) (d1, d2)).length : Int)) := by show _ = _; rw [HM.out]
            clear hrunH hp6 HGP HM Py FRy TYy hb6 hf6 hbw
            go_wp2
            go_roundg (gk - 1)
            case measure => omega
            case rel => exact ⟨i + 1, v6, ⟨⟨nw', sp', fr', hi, mi, is'⟩, (a1, v1), (a2, v2), (a3, v3), (a4, v4), (some ⟨b, off, none⟩, v5)⟩, by omega, by go_num, by rw [HMC.out], rfl, hO6, P6, TY6, FR6, HN⟩
          · have h1d : decide (x1 = d1) = false := decide_eq_false h1
            clear hd
            have hrunH : Hid _ := push_it (xk, (x1, x2), xkd, xtk, xtt) hOy.1 (by omega)
            have HGP : Hid (∀ v' w', PushT itE 63 wy v (othM (is'.take i) (d1, d2) ++ [(xk, (x1, x2), xkd, xtk, xtt)]) v' w' → (Ow itE 63 (w.heap.size + 3) w' v' (othM (is'.take (i + 1)) (d1, d2)) ∧ Below (w.heap.size + 3) wy w') ∧ Fry w.heap.size wy w') := fun v' w' hp => by
              rw [HOT.out]
              exact ⟨hOy.push hzy hp, Fry.of_push hOy hp⟩
            obtain ⟨va, vc, hva, -⟩ := hOy.1.shape
            clear hOy HZ HOT
            generalize (othM (is'.take i) (d1, d2)).length = kl at *
            subst hva
            go_wp2_with (at_builtin; refine wp_by rfl _ _ _ rfl _ _ rfl rfl hrunH.out ?_)
            intro v6 w6 hp6
            obtain ⟨⟨hO6, hb6⟩, hf6⟩ := HGP.out v6 w6 hp6
            have P6 := (hb6.block w.heap.size (by omega)).trans Py
            have FR6 := FRy.then hb6
            have TY6 := TYy.step hf6
            have HMC : Hid (((mineM (is'.take (i + 1)) (d1, d2)).length : Int) = ((mineM (is'.take i) (d1, d2)).length : Int)) := by show _ = _; rw [HM.out]
            clear hrunH hp6 HGP HM Py FRy TYy hb6 hf6 hbw
            go_wp2
            go_roundg (gk - 1)
            case measure => omega
            case rel => exact ⟨i + 1, v6, ⟨⟨nw', sp', fr', hi, mi, is'⟩, (a1, v1), (a2, v2), (a3, v3), (a4, v4), (some ⟨b, off, none⟩, v5)⟩, by omega, by go_num, by rw [HMC.out], rfl, hO6, P6, TY6, FR6, HN⟩
      · have hlti : ¬ (i : Int) < (is'.length : Int) := by omega
        have hmn : Hid (FM = if (mineM is' (d1, d2)).length = 0 then (noT, 0, 4) else ({ finT T0 (d1, d2) cm is'.length with ints := othM is' (d1, d2) }, (mineM is' (d1, d2)).length, 0)) := by show _ = _; rw [HF2.out, HI0.out]
        rw [List.take_of_length_le (by omega)] at hO hl2 ⊢
        have hie : i = is'.length := by omega
        have HZE : Hid (⟨nw', sp', fr', hi, mi, is'⟩ = finT T0 (d1, d2) cm is'.length) := by show _ = _; rw [← hie]; exact HZ.out
        obtain ⟨ML, HML⟩ : ∃ l, Hid ((mineM is' (d1, d2)).length = l) := ⟨_, rfl⟩
        rw [HML.out] at hmn hl2 ⊢
        clear HZ HF2 hie hig hl1 hl3 HML
        by_cases hm0 : ML = 0
        · have E : Hid (FM = (noT, 0, 4)) := by show _ = _; rw [hmn.out, if_pos hm0]
          have hmb : ((ML : Int) == 0) = true := by simpa using hm0
          clear hmn hm0
          obtain ⟨⟨f0, f1, f2, f3, f4, f5⟩, z0, z1, z2, z3, z4, z5⟩ := t_cells bZ
          have S6 := set6_block bZ (.int .i64 0) (.slice none 0 0) (.slice none 0 0) (.slice none 0 0) (.slice none 0 0) (.slice none 0 0)
          have B6 := set6_below (.int .i64 0) (.slice none 0 0) (.slice none 0 0) (.slice none 0 0) (.slice none 0 0) (.slice none 0 0) (g := w.heap.size + 2) hbw (by omega)
          unfold set6 at S6 B6
          go_wp2
          (try simp only [Exit.inBlock, Exit.then])
          refine bodyPost_ret (results_tbne rfl _ _ (w.heap.size + 2) _ _ _ _ _ _ rfl S6) rfl ?_
          exact ⟨RFinT.mk (n := 0) (z := noZ) E.out rfl (noZ_r _), B6⟩
        · have hmb : ((ML : Int) == 0) = false := by simpa using hm0
          have E : Hid (FM = ({ (⟨nw', sp', fr', hi, mi, is'⟩ : Tb) with ints := othM is' (d1, d2) }, ML, 0)) := by show _ = _; rw [hmn.out, if_neg hm0, ← HZE.out]
          obtain ⟨va, vc, hva, -⟩ := hO.1.shape
          obtain ⟨OT, HOT⟩ : ∃ l, Hid (othM is' (d1, d2) = l) := ⟨_, rfl⟩
          rw [HOT.out] at hO hva E
          subst hva
          have P5 := set_block P (j := 5) (.slice va OT.length vc)
          have B5 := hbw.setCell (p := ⟨w.heap.size, 5, none⟩) (Nat.le_refl _) (.slice va OT.length vc)
          have O5 : Ow itE 63 (w.heap.size + 3) (wr.setCell ⟨w.heap.size, 5, none⟩ (.slice va OT.length vc)) (.slice va OT.length vc) OT := hO.keep fun k hk _ => set_other (by omega)
          have Z5 : (wr.setCell ⟨w.heap.size, 5, none⟩ (.slice va OT.length vc)).heap[w.heap.size + 2]? = _ := (set_other (by omega)).trans bZ
          have Y5 := TY.step (Fry.of_set (n := w.heap.size) (g := w.heap.size) (w := wr) (j := 5) (.slice va OT.length vc) (Nat.le_refl _) (by omega))
          obtain ⟨⟨f0, f1, f2, f3, f4, f5⟩, -⟩ := t_cells P
          obtain ⟨w5, hw5⟩ : ∃ W, wr.setCell ⟨w.heap.size, 5, none⟩ (.slice va OT.length vc) = W := ⟨_, rfl⟩
          rw [hw5] at P5 B5 O5 Z5 Y5
          have P5' : w5.heap[w.heap.size]? = some (.cells #[.int .i64 nw', .slice a1 sp'.length v1, .slice a2 fr'.length v2, .slice a3 hi.length v3, .slice a4 mi.length v4, .slice va OT.length vc] 27 (0, 0)) := P5
          obtain ⟨l0, l1, l2, l3, l4, l5⟩ := cells6 P5'
          obtain ⟨⟨z0', z1', z2', z3', z4', z5'⟩, z0, z1, z2, z3, z4, z5⟩ := t_cells Z5
          have S6 := set6_block Z5 (.int .i64 nw') (.slice a1 sp'.length v1) (.slice a2 fr'.length v2) (.slice a3 hi.length v3) (.slice a4 mi.length v4) (.slice va OT.length vc)
          have B6 := set6_below (.int .i64 nw') (.slice a1 sp'.length v1) (.slice a2 fr'.length v2) (.slice a3 hi.length v3) (.slice a4 mi.length v4) (.slice va OT.length vc) (g := w.heap.size + 2) B5 (by omega)
          have O6 : Ow itE 63 (w.heap.size + 3) (set6 w5 (w.heap.size + 2) (.int .i64 nw') (.slice a1 sp'.length v1) (.slice a2 fr'.length v2) (.slice a3 hi.length v3) (.slice a4 mi.length v4) (.slice va OT.length vc)) (.slice va OT.length vc) OT := O5.keep fun k hk _ => set6_other _ _ _ _ _ _ (by omega)
          have Y6 := Y5 _ (Fry.of_set6 (g := w.heap.size + 2) (.int .i64 nw') (.slice a1 sp'.length v1) (.slice a2 fr'.length v2) (.slice a3 hi.length v3) (.slice a4 mi.length v4) (.slice va OT.length vc) (Nat.le_add_right _ _) (by omega))
          unfold set6 at S6 B6 O6 Y6
          clear P5 P5' B5 O5 Z5 Y5 hO TY FR P bI bZ hbw hm0 HOT hmn
          go_wp2
          (try simp only [Exit.inBlock, Exit.then])
          refine bodyPost_ret (results_tbne rfl _ _ (w.heap.size + 2) _ _ _ _ _ _ rfl S6) rfl ?_
          exact ⟨RFinT.mk (z := ⟨⟨nw', sp', fr', hi, mi, OT⟩, (a1, v1), (a2, v2), (a3, v3), (a4, v4), (va, vc)⟩) E.out rfl ⟨Y6.1, Y6.2.1, Y6.2.2.1, Y6.2.2.2.1, O6.1.rd⟩, B6⟩
end Go.Proofs.YtfpbgfmnjpamlaaGreat

/- The law TableFinishes. -/
namespace Go.Proofs.YtfpbgfmnjpamlaaGreat
open Go.RowKit LeaseMath
set_option maxRecDepth 100000
set_option linter.unusedSimpArgs false
set_option linter.unusedVariables false

/-- Finish of a table that may not be. -/
theorem finish_no (z : Tz) (d : Cq) (cm : Bool) (w : World) (hR : TbR w z) (g2 : z.t.holds.length ≤ 1000000) (g3 : z.t.marks.length ≤ 1000000) (g4 : z.t.ints.length ≤ 1000000) (hno : okT z.t = false) :
  Calls Tryz.prog 14 #[tv z, idv d, .bool cm] w fun e w' => FinT w.heap.size (finM z.t d cm) e w' ∧ Below w.heap.size w w' := by
 obtain ⟨FM, HFM⟩ : ∃ FM, Hid (FM = finM z.t d cm) := ⟨_, rfl⟩
 rw [← HFM.out]
 have hRH : Hid (TbR w z) := hR
 have k1 : Hid (∀ W, Below w.heap.size w W → _) := fun W hW => tcheck_of z W (hRH.out.below hW) (by omega) (by omega) (by omega)
 have k4 : Hid (∀ W, Below w.heap.size w W → _) := fun W hW => intents_of z d W (hRH.out.below hW) (by omega)
 have k6 : Hid (okT z.t = true → ∀ W, Below w.heap.size w W → _) := fun h W hW => own_of z W (hRH.out.below hW) (by have := okT_spans h; omega) (by have := okT_spans h; omega) g2 g3 g4
 obtain ⟨t0, ht0⟩ : ∃ t0 : Tb, t0 = { z.t with ints := z.t.ints.filter fun x => !decide (x.2.1 = d) } := ⟨_, rfl⟩
 have HPE : Hid (finM z.t d cm = (if okT z.t = false then (noT, 0, 1) else if (mineM z.t.ints d).length = 0 then (noT, 0, 4) else (if cm then (mineM z.t.ints d).foldl turnM t0 else t0, (mineM z.t.ints d).length, 0))) := by rw [ht0]; rfl
 have hml : Hid ((mineM z.t.ints d).length ≤ 1000000) := by
  show _ ≤ _
  have := List.length_filter_le (fun x : It => decide (x.2.1 = d)) z.t.ints
  unfold mineM
  omega
 obtain ⟨O, HO⟩ : ∃ O, Hid (O = okT z.t) := ⟨_, rfl⟩
 obtain ⟨MI, HMI⟩ : ∃ O, Hid (O = mineM z.t.ints d) := ⟨_, rfl⟩
 have hOf : O = false := by rw [HO.out]; exact hno
 subst hOf
 rw [← HO.out] at k1 k6 HPE
 rw [← HMI.out] at k4 HPE hml
 replace HFM : Hid (FM = _) := HFM.out.trans HPE.out
 clear HO HMI HPE hR
 obtain ⟨⟨nw, sp, fr, hs_, ms, is⟩, ⟨sa, sc⟩, ⟨fa, fc⟩, ⟨ha, hc⟩, ⟨ma, mc⟩, ⟨ia, ic_⟩⟩ := z
 obtain ⟨d1_, d2_⟩ := d
 dsimp only [tv, idv] at *
 obtain ⟨q1, q2, q3, q4, q5⟩ := three_boxes6 w (.cells #[.int .i64 nw, .slice sa sp.length sc, .slice fa fr.length fc, .slice ha hs_.length hc, .slice ma ms.length mc, .slice ia is.length ic_] 27) (.cells #[.int .i64 d1_, .int .u64 (d2_ : Int)] 30) (.cells #[.int .i64 0, .slice none 0 0, .slice none 0 0, .slice none 0 0, .slice none 0 0, .slice none 0 0] 27)
 obtain ⟨w0, hw0⟩ : ∃ W, ((w.alloc (.cells #[.int .i64 nw, .slice sa sp.length sc, .slice fa fr.length fc, .slice ha hs_.length hc, .slice ma ms.length mc, .slice ia is.length ic_] 27)).alloc (.cells #[.int .i64 d1_, .int .u64 (d2_ : Int)] 30)).alloc (.cells #[.int .i64 0, .slice none 0 0, .slice none 0 0, .slice none 0 0, .slice none 0 0, .slice none 0 0] 27) = W := ⟨_, rfl⟩
 rw [hw0] at q1 q2 q3 q4 q5
 have hz0 : w.heap.size + 3 ≤ w0.heap.size := by omega
 have hb0 : Below (w.heap.size + 3) w0 w0 := Below.refl _ _
 obtain ⟨-, c0, c1, c2, c3, c4, c5⟩ := t_cells q2
 go_enter Tryz.func14, Tryz.ntmps14
 go_wp2_with fail
 refine (k1.out _ q5).mono ?_
 rintro e w1 ⟨rfl, hbc⟩
 have hb1 := keep_step hb0 hz0 hbc
 clear hbc k1 c0 c1 c2 c3 c4 c5
 have p1 := (hb1.block w.heap.size (by omega)).trans q2
 have i1 := (hb1.block (w.heap.size + 1) (by omega)).trans q3
 obtain ⟨-, c0, c1, c2, c3, c4, c5⟩ := t_cells p1
 have d0 : w1.cell? ⟨w.heap.size + 1, 0, none⟩ = some (.int .i64 d1_) := by rw [cells_of_block i1]; rfl
 have d1 : w1.cell? ⟨w.heap.size + 1, 1, none⟩ = some (.int .u64 (d2_ : Int)) := by rw [cells_of_block i1]; rfl
 have E : Hid (FM = (noT, 0, 1)) := by show _ = _; rw [HFM.out]; rfl
 clear HFM k4 k6 p1 i1
 have hblk := (hb1.block (w.heap.size + 2) (by omega)).trans q4
 have hbw := q5.trans (hb1.mono (by omega))
 obtain ⟨⟨f0, f1, f2, f3, f4, f5⟩, b0, b1, b2, b3, b4, b5⟩ := t_cells hblk
 have S6 := set6_block hblk (.int .i64 0) (.slice none 0 0) (.slice none 0 0) (.slice none 0 0) (.slice none 0 0) (.slice none 0 0)
 have B6 := set6_below (.int .i64 0) (.slice none 0 0) (.slice none 0 0) (.slice none 0 0) (.slice none 0 0) (.slice none 0 0) (g := w.heap.size + 2) hbw (by omega)
 unfold set6 at S6 B6
 go_wp2
 (try simp only [Exit.inBlock, Exit.then])
 refine bodyPost_ret (results_tbne rfl _ _ (w.heap.size + 2) _ _ _ _ _ _ rfl S6) rfl ?_
 exact ⟨FinT.mk (n := 0) (z := noZ) E.out rfl (noZ_o _ _), B6⟩

/-- Finish of the program, of any light table. -/
theorem fin_any (z : Tz) (d : Cq) (cm : Bool) (w : World) (hR : TbR w z) (hl : lightT z.t = true) :
  Calls Tryz.prog 14 #[tv z, idv d, .bool cm] w fun e w' => FinT w.heap.size (finM z.t d cm) e w' ∧ Below w.heap.size w w' := by
 obtain ⟨l1, l2⟩ := light_iff.1 hl
 cases h : okT z.t with
 | false => exact finish_no z d cm w hR (by omega) (by omega) (by omega) h
 | true => exact finish_of z d cm w hR (by omega) (by omega) (by omega) fun x hx => turn_kind (int_iff.1 ((ints_iff.1 (okT_iff.1 h).2.2.2.2).1 x (mine_mem.1 hx).1)).2.1
theorem finM_len (t : Tb) (d : Cq) (cm : Bool) : (finM t d cm).1.spans.length ≤ 1000000 ∧ (finM t d cm).1.frozen.length ≤ 1000000 ∧ (finM t d cm).1.holds.length ≤ 1000000 ∧ (finM t d cm).1.marks.length ≤ 1000000 ∧ (finM t d cm).1.ints.length ≤ 1000000 := by
 cases h : okT t with
 | false =>
  have : finM t d cm = (noT, 0, 1) := by unfold finM; rw [if_pos h]
  rw [this]
  exact ⟨Nat.zero_le _, Nat.zero_le _, Nat.zero_le _, Nat.zero_le _, Nat.zero_le _⟩
 | true =>
  by_cases hm : (mineM t.ints d).length = 0
  ·have : finM t d cm = (noT, 0, 4) := by rw [fint_all h, if_pos hm]
   rw [this]
   exact ⟨Nat.zero_le _, Nat.zero_le _, Nat.zero_le _, Nat.zero_le _, Nat.zero_le _⟩
  ·obtain ⟨s1, s2, s3, s4, s5⟩ := ok_sizes (fin_ok cm h hm).1
   exact ⟨by omega, by omega, by omega, by omega, by omega⟩
set_option maxHeartbeats 16000000 in
theorem finishes_law (z : Tz) (d : Cq) (cm : Bool) (w : World) (hR : TbR w z) (g0 : z.t.spans.length ≤ 140737488355328) (g1 : z.t.frozen.length ≤ 140737488355328) (g2 : z.t.holds.length ≤ 140737488355328) (g3 : z.t.marks.length ≤ 140737488355328) (g4 : z.t.ints.length ≤ 140737488355328) :
  Calls Tryz.prog 4 #[tv z, idv d, .bool cm] w fun e w' => e = .returned (.bool true) ∧ Below w.heap.size w w' := by
 have k9 : Hid (∀ W, _) := fun W => light_of z W (by omega) (by omega) (by omega) (by omega) (by omega)
 have k10 : Hid (∀ W, _) := fun W => awake_of W
 have k11 : Hid (lightT z.t = true → ∀ W, Below w.heap.size w W → _) := fun h W hW => fin_any z d cm W (hR.below hW) h
 have k12 : Hid (lightT z.t = true → ∀ W, Below w.heap.size w W → _) := fun h W hW => rfin_of z d cm W (hR.below hW) (by have := (light_iff.1 h).1; omega)
 have HLN : Hid _ := finM_len z.t d cm
 obtain ⟨LT, hLT⟩ : ∃ b, Hid (b = lightT z.t) := ⟨_, rfl⟩
 rw [← hLT.out] at k9 k11 k12
 obtain ⟨q1, q2, q3, q4⟩ := two_boxes6 w (tc z) (idc d)
 obtain ⟨w0, hw0⟩ : ∃ W, (w.alloc (tc z)).alloc (idc d) = W := ⟨_, rfl⟩
 rw [hw0] at q1 q2 q3 q4
 obtain ⟨PW, hPW⟩ : ∃ P, Hid (P = finM z.t d cm) := ⟨_, rfl⟩
 rw [← hPW.out] at k11 k12 HLN
 clear hLT hPW hR g0 g1 g2 g3 g4
 obtain ⟨⟨nw, sp, fr, hs_, ms, is⟩, ⟨sa, sc⟩, ⟨fa, fc⟩, ⟨ha, hc⟩, ⟨ma, mc⟩, ⟨ia, ic_⟩⟩ := z
 obtain ⟨d1, d2⟩ := d
 dsimp only [tv, tc, idv, idc] at *
 have HC : Hid (∀ W, Below (w.heap.size + 2) w0 W → Below w.heap.size w W ∧ W.heap[w.heap.size]? = _ ∧ W.heap[w.heap.size + 1]? = _) := fun W hW => ⟨q4.trans (hW.mono (by omega)), (hW.block w.heap.size (by omega)).trans q2, (hW.block (w.heap.size + 1) (by omega)).trans q3⟩
 have hz : w.heap.size + 2 ≤ w0.heap.size := by omega
 have hb0 : Below (w.heap.size + 2) w0 w0 := Below.refl _ _
 obtain ⟨c0, c1, c2, c3, c4, c5⟩ := cells6 q2
 obtain ⟨x0, x1⟩ := fin_cells2 q3
 clear q1 q2 q3 q4
 go_enter Tryz.func4, Tryz.ntmps4
 go_wp2_with fail
 refine (k9.out _).mono ?_
 rintro e w1 ⟨rfl, hbc⟩
 have hb1 := keep_step hb0 hz hbc
 clear hbc c0 c1 c2 c3 c4 c5 x0 x1 k9
 obtain ⟨-, P1, X1⟩ := HC.out _ hb1
 obtain ⟨c0, c1, c2, c3, c4, c5⟩ := cells6 P1
 obtain ⟨x0, x1⟩ := fin_cells2 X1
 cases LT with
 | false =>
  clear k11 k12
  go_wp2_with fail
  refine (k10.out _).mono ?_
  rintro e w2 ⟨rfl, hbc⟩
  go_wp2
  go_ret
  exact ⟨rfl, (HC.out _ (keep_step hb1 hz hbc)).1⟩
 | true =>
  have K11 := k11.out rfl w1 (HC.out _ hb1).1
  have K12 : Hid (∀ W, Below w.heap.size w W → _) := k12.out rfl
  clear k11 k12
  go_wp2_with fail
  refine K11.mono ?_
  rintro e w2 ⟨⟨z2, rfl, hz2_, hO2⟩, hbc⟩
  have hz2 : Hid (z2.t = PW.1) := hz2_
  clear hz2_
  have hb2 := keep_step hb1 hz hbc
  have hzw2 : w.heap.size + 2 ≤ w2.heap.size := Nat.le_trans hz hb2.size
  obtain ⟨s2, p2, b2⟩ := one_box w2 (tc z2)
  have hR2 : TbR w2 z2 := hO2.tbr
  obtain ⟨w3, hw3⟩ : ∃ W, w2.alloc (tc z2) = W := ⟨_, rfl⟩
  rw [hw3] at s2 p2 b2
  have hb3 := hb2.trans (b2.mono hzw2)
  have HR2 : Hid (∀ W, Below w2.heap.size w2 W → TbR W z2) := fun W hW => hR2.below hW
  clear hO2 hR2 hbc c0 c1 c2 c3 c4 c5 x0 x1 P1 X1 K11
  obtain ⟨t2, ⟨a1, v1⟩, ⟨a2, v2⟩, ⟨a3, v3⟩, ⟨a4, v4⟩, ⟨a5, v5⟩⟩ := z2
  dsimp only [tv, tc] at *
  obtain ⟨-, P1, X1⟩ := HC.out _ hb3
  obtain ⟨x0, x1⟩ := fin_cells2 X1
  obtain ⟨c0, c1, c2, c3, c4, c5⟩ := cells6 P1
  have hbA : Below (w2.heap.size + 1) w3 w3 := Below.refl _ _
  have hzA : w2.heap.size + 1 ≤ w3.heap.size := by omega
  have HA : Hid (∀ W, Below (w2.heap.size + 1) w3 W → Below w.heap.size w W ∧ W.heap[w2.heap.size]? = _ ∧ Below w2.heap.size w2 W) := fun W hW => ⟨(HC.out _ (hb3.trans (hW.mono (by omega)))).1, (hW.block w2.heap.size (by omega)).trans p2, b2.trans (hW.mono (by omega))⟩
  have K12' := K12.out w3 (HA.out _ hbA).1
  clear K12
  go_wp2_with fail
  refine K12'.mono ?_
  rintro e w4 ⟨⟨z4, rfl, hz4_, hR4⟩, hbc⟩
  have hz4 : Hid (z4.t = PW.1) := hz4_
  have hb4 := keep_step hbA hzA hbc
  have hzw4 : w2.heap.size + 1 ≤ w4.heap.size := Nat.le_trans hzA hb4.size
  obtain ⟨s4, p4, b4⟩ := one_box w4 (tc z4)
  obtain ⟨w5, hw5⟩ : ∃ W, w4.alloc (tc z4) = W := ⟨_, rfl⟩
  rw [hw5] at s4 p4 b4
  have hb5 := hb4.trans (b4.mono hzw4)
  have hR5 := hR4.below b4
  clear hz4_ hbc K12' hR4 c0 c1 c2 c3 c4 c5 x0 x1 P1 X1 s2 p2 b2
  obtain ⟨hW5, PA, hW25⟩ := HA.out _ hb5
  have KS := fun (c : Int) => lsame_of ⟨t2, (a1, v1), (a2, v2), (a3, v3), (a4, v4), (a5, v5)⟩ z4 c w5 (HR2.out _ hW25) hR5 (by rw [hz4.out]; exact hz2.out) (by rw [show t2 = PW.1 from hz2.out]; exact HLN.out.1) (by rw [show t2 = PW.1 from hz2.out]; exact HLN.out.2.1) (by rw [show t2 = PW.1 from hz2.out]; exact HLN.out.2.2.1) (by rw [show t2 = PW.1 from hz2.out]; exact HLN.out.2.2.2.1) (by rw [show t2 = PW.1 from hz2.out]; exact HLN.out.2.2.2.2)
  obtain ⟨t4, ⟨o1, n1⟩, ⟨o2, n2⟩, ⟨o3, n3⟩, ⟨o4, n4⟩, ⟨o5, n5⟩⟩ := z4
  obtain ⟨PT, PN, PC⟩ := PW
  dsimp only [tv, tc] at *
  obtain ⟨c0, c1, c2, c3, c4, c5⟩ := cells6 PA
  obtain ⟨u0, u1, u2, u3, u4, u5⟩ := cells6 p4
  have KS' := KS PC
  clear KS hz4 hz2 hR5 HLN
  go_wp2_with fail
  refine KS'.mono ?_
  rintro e w6 ⟨rfl, hbc⟩
  have hb6 : Below (w2.heap.size + 1) w3 w6 := hb5.trans (hbc.mono (by have := hb5.size; omega))
  clear hbc KS' c0 c1 c2 c3 c4 c5 u0 u1 u2 u3 u4 u5
  go_wp2_with fail
  refine (k10.out _).mono ?_
  rintro e w7 ⟨rfl, hbc⟩
  have hb7 := keep_step hb6 hzA hbc
  go_wp2
  go_ret
  exact ⟨rfl, (HA.out _ hb7).1⟩
end Go.Proofs.YtfpbgfmnjpamlaaGreat

