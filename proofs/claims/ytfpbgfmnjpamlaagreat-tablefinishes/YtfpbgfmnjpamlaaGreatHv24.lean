import Derived.Test.YtfpbgfmnjpamlaaGreatHv18
/- Who has a key: the program's Find and Last, and the document's. -/
namespace Go.Proofs.YtfpbgfmnjpamlaaGreat
open Go.RowKit LeaseMath
set_option maxRecDepth 100000
set_option linter.unusedSimpArgs false
set_option linter.unusedVariables false

theorem results_hb {fn : Func} {p u : Tmp} (h : fn.results = #[.cell p 59, .tmp u]) (tmps : Array Value) (w : World) (g : Nat) (a b c : Value)
  (hp : tmps.getD p undef = .pointer (some ⟨g, 0, none⟩)) (hg : w.heap[g]? = some (.cells #[a, b, c] 59 (0, 0))) :
  (results fn tmps).run Tryz.prog w = .ok (.tuple #[.agg #[a, b, c], tmps.getD u undef]) w := by
 have hp' : tmps[p]?.getD undef = .pointer (some ⟨g, 0, none⟩) := by simpa using hp
 simp [results, h, hp', asAddr, run_loadVar_row w g 59 59 #[a, b, c] (0, 0) _ hg Tryz.underlying59 rfl (by kernel_rfl)]
theorem h_set {w : World} {g : Nat} {a b c : Value} {t : TypeId} (h : w.heap[g]? = some (.cells #[a, b, c] t (0, 0))) (x y z : Value) : (((w.setCell ⟨g, 0, none⟩ x).setCell ⟨g, 1, none⟩ y).setCell ⟨g, 2, none⟩ z).heap[g]? = some (.cells #[x, y, z] t (0, 0)) := by
 simp [World.setCell, Array.getElem?_modify, h]
theorem h_cells {w : World} {g : Nat} {a b c : Value} {t : TypeId} (h : w.heap[g]? = some (.cells #[a, b, c] t (0, 0))) : (w.frozen? ⟨g, 0, none⟩ = false ∧ w.frozen? ⟨g, 1, none⟩ = false ∧ w.frozen? ⟨g, 2, none⟩ = false) ∧ w.cell? ⟨g, 0, none⟩ = some a ∧ w.cell? ⟨g, 1, none⟩ = some b ∧ w.cell? ⟨g, 2, none⟩ = some c :=
 ⟨⟨frozen_of h 0, frozen_of h 1, frozen_of h 2⟩, by rw [cells_of_block h]; rfl, by rw [cells_of_block h]; rfl, by rw [cells_of_block h]; rfl⟩
theorem h_below {n g : Nat} {w0 w : World} (x y z : Value) (hB : Below n w0 w) (hn : n ≤ g) : Below n w0 (((w.setCell ⟨g, 0, none⟩ x).setCell ⟨g, 1, none⟩ y).setCell ⟨g, 2, none⟩ z) := ((hB.setCell (p := ⟨g, 0, none⟩) hn _).setCell (p := ⟨g, 1, none⟩) hn _).setCell (p := ⟨g, 2, none⟩) hn _

theorem results_mb {fn : Func} {p u : Tmp} (h : fn.results = #[.cell p 61, .tmp u]) (tmps : Array Value) (w : World) (g : Nat) (a b : Value)
  (hp : tmps.getD p undef = .pointer (some ⟨g, 0, none⟩)) (hg : w.heap[g]? = some (.cells #[a, b] 61 (0, 0))) :
  (results fn tmps).run Tryz.prog w = .ok (.tuple #[.agg #[a, b], tmps.getD u undef]) w := by
 have hp' : tmps[p]?.getD undef = .pointer (some ⟨g, 0, none⟩) := by simpa using hp
 simp [results, h, hp', asAddr, run_loadVar_row w g 61 61 #[a, b] (0, 0) _ hg Tryz.underlying61 rfl (by kernel_rfl)]
theorem m_set {w : World} {g : Nat} {a b : Value} {t : TypeId} (h : w.heap[g]? = some (.cells #[a, b] t (0, 0))) (x y : Value) : ((w.setCell ⟨g, 0, none⟩ x).setCell ⟨g, 1, none⟩ y).heap[g]? = some (.cells #[x, y] t (0, 0)) := by
 simp [World.setCell, Array.getElem?_modify, h]
theorem m_cells {w : World} {g : Nat} {a b : Value} {t : TypeId} (h : w.heap[g]? = some (.cells #[a, b] t (0, 0))) : (w.frozen? ⟨g, 0, none⟩ = false ∧ w.frozen? ⟨g, 1, none⟩ = false) ∧ w.cell? ⟨g, 0, none⟩ = some a ∧ w.cell? ⟨g, 1, none⟩ = some b :=
 ⟨⟨frozen_of h 0, frozen_of h 1⟩, by rw [cells_of_block h]; rfl, by rw [cells_of_block h]; rfl⟩
theorem m_below {n g : Nat} {w0 w : World} (x y : Value) (hB : Below n w0 w) (hn : n ≤ g) : Below n w0 ((w.setCell ⟨g, 0, none⟩ x).setCell ⟨g, 1, none⟩ y) := (hB.setCell (p := ⟨g, 0, none⟩) hn _).setCell (p := ⟨g, 1, none⟩) hn _

/-- Whose a key is. -/
@[reducible] def goth (o : Option Hd) : Hd := o.getD ([], 0, 0)
set_option maxHeartbeats 4000000 in
theorem firsth_of (zs : List Hd) (lv : Value) (c : K) (w : World) (hL : Rd holdE w lv zs) (hlen : zs.length ≤ 4611686018427387904) : Calls Tryz.prog 151 #[lv, .string (bk c), .func (.func 152) #[] #[]] w fun e w' => e = .returned (.tuple #[hv (goth (findM zs c)), .bool (findM zs c).isSome]) ∧ Below w.heap.size w w' := by
 obtain ⟨T, HT⟩ : ∃ T : Option Hd, Hid (T = findM zs c) := ⟨_, rfl⟩
 rw [← HT.out]
 have HL : Hid (Rd holdE w lv zs) := hL
 obtain ⟨ao, cap, rfl, -, -⟩ := hL.shape
 clear hL
 obtain ⟨q1, q2, q3⟩ := one_box w (.cells #[.string { data := #[] }, .int .u64 0, .int .i64 0] 59)
 go_enter Tryz.func151, Tryz.ntmps151
 go_wp2
 have q1r : Hid (w.heap.size + 1 ≤ (w.alloc (.cells #[.string { data := #[] }, .int .u64 0, .int .i64 0] 59)).heap.size) := by show _ ≤ _; omega
 have HW0 : Hid (∀ W, Below (w.heap.size + 1) (w.alloc (.cells #[.string { data := #[] }, .int .u64 0, .int .i64 0] 59)) W → Below w.heap.size w W ∧ W.heap[w.heap.size]? = some (.cells #[.string { data := #[] }, .int .u64 0, .int .i64 0] 59 (0, 0))) := fun W hW => ⟨q3.trans (hW.mono (Nat.le_succ _)), (hW.block w.heap.size (Nat.lt_succ_self _)).trans q2⟩
 clear q1 q2 q3
 generalize w.alloc (.cells #[.string { data := #[] }, .int .u64 0, .int .i64 0] 59) = w0 at *
 go_loopg [13] zs.length (fun g s13 wr => ∃ i : Nat, i + g = zs.length ∧ s13 = .int .i64 (i : Int) ∧ Below (w.heap.size + 1) w0 wr ∧ Hid (findM (zs.drop i) c = T))
 case atStart => exact ⟨0, by omega, rfl, Below.refl _ _, HT.out.symm⟩
 case round =>
  obtain ⟨i, hig, rfl, hb, HP⟩ := hrel
  obtain ⟨hbw, hbx⟩ := HW0.out wr hb
  by_cases hlt : i < zs.length
  ·have hlti : (i : Int) < (zs.length : Int) := by omega
   have hx : zs[i]? = some zs[i] := List.getElem?_eq_getElem hlt
   obtain ⟨z, hzz⟩ : ∃ z, z = zs[i] := ⟨_, rfl⟩
   rw [← hzz] at hx
   clear hzz
   obtain ⟨b, off, rfl, cc⟩ := rdh_at HL.out hx
   obtain ⟨c0, c1, c2⟩ := cc wr hbw
   have HA := find_at (c := c) hx
   obtain ⟨hs, hbz, cl⟩ := hd_box wr z
   obtain ⟨d0, d1, d2⟩ := cl _ (Below.refl _ _)
   have kf := keyh_of z (wr.alloc (hc z))
   rw [hs] at kf
   have hb1 : Below (w.heap.size + 1) w0 (wr.alloc (hc z)) := keep_step hb q1r.out hbz
   obtain ⟨k, t, u⟩ := z
   dsimp only [hv, hc] at *
   have hs' : Hid (wr.heap.size + 1 ≤ (wr.alloc (.cells #[.string (bk k), .int .u64 (t : Int), .int .i64 u] 59)).heap.size) := by show _ ≤ _; omega
   clear hs hbz cc hx
   go_wp2_with fail
   refine kf.mono ?_
   rintro e w2 ⟨rfl, hb2⟩
   have hb3 : Below (w.heap.size + 1) w0 w2 := hb1.trans (hb2.mono (Nat.le_trans (Nat.le_trans q1r.out hb.size) (Nat.le_succ _)))
   obtain ⟨g0, g1, g2⟩ := cl _ hb2
   obtain ⟨hbw3, hbx3⟩ := HW0.out w2 hb3
   clear kf cl d0 d1 d2 c0 c1 c2 hb1 hb2
   by_cases hk : k = c
   ·have E : Hid (T = some (k, t, u)) := by show _ = _; rw [← HP.out, HA, if_pos hk]
    obtain ⟨⟨f0, f1, f2⟩, c0, c1, c2⟩ := h_cells hbx3
    have HB3 := h_set hbx3 (.string (bk k)) (.int .u64 (t : Int)) (.int .i64 u)
    have HBW := h_below (g := w.heap.size) (.string (bk k)) (.int .u64 (t : Int)) (.int .i64 u) hbw3 (Nat.le_refl _)
    have hkd : decide (k = c) = true := decide_eq_true hk
    clear HP HA hk HL hbx hb3 hbx3 hbw hbw3 HW0
    go_wp2
    (try simp only [Exit.inBlock, Exit.then])
    refine bodyPost_ret (results_hb rfl _ _ w.heap.size _ _ _ rfl HB3) rfl ?_
    exact ⟨by rw [E.out]; rfl, HBW⟩
   ·have HN : Hid (findM (zs.drop (i + 1)) c = T) := by show _ = _; rw [← HP.out, HA, if_neg hk]
    have hkd : decide (k = c) = false := decide_eq_false hk
    clear HP HA HL hbx hbx3 hbw hbw3 HW0
    go_wp2
    go_roundg (gk - 1)
    case measure => omega
    case rel => exact ⟨i + 1, by omega, by go_num, hb3, HN⟩
  ·have hlti : ¬ (i : Int) < (zs.length : Int) := by omega
   have E : Hid (T = none) := by show _ = _; rw [← HP.out, List.drop_of_length_le (by omega)]; rfl
   obtain ⟨p1, p2, p3⟩ := one_box wr (.cells #[.string { data := #[] }, .int .u64 0, .int .i64 0] 59)
   obtain ⟨hbw3, hbx3⟩ := HW0.out _ (keep_step hb q1r.out p3)
   obtain ⟨⟨f0, f1, f2⟩, c0, c1, c2⟩ := h_cells hbx3
   have HB3 := h_set hbx3 (.string { data := #[] }) (.int .u64 0) (.int .i64 0)
   have HBW := h_below (g := w.heap.size) (.string { data := #[] }) (.int .u64 0) (.int .i64 0) hbw3 (Nat.le_refl _)
   clear HP HL hbx hbw hbx3 hbw3 HW0 p1 p2 p3
   go_wp2
   (try simp only [Exit.inBlock, Exit.then])
   refine bodyPost_ret (results_hb rfl _ _ w.heap.size _ _ _ rfl HB3) rfl ?_
   exact ⟨by rw [E.out]; rfl, HBW⟩

/-- Whose a key is. -/
@[reducible] def gotm (o : Option Mk) : Mk := o.getD ([], 0)
set_option maxHeartbeats 4000000 in
theorem firstm_of (zs : List Mk) (lv : Value) (c : K) (w : World) (hL : Rd markE w lv zs) (hlen : zs.length ≤ 4611686018427387904) : Calls Tryz.prog 154 #[lv, .string (bk c), .func (.func 155) #[] #[]] w fun e w' => e = .returned (.tuple #[mv (gotm (findM zs c)), .bool (findM zs c).isSome]) ∧ Below w.heap.size w w' := by
 obtain ⟨T, HT⟩ : ∃ T : Option Mk, Hid (T = findM zs c) := ⟨_, rfl⟩
 rw [← HT.out]
 have HL : Hid (Rd markE w lv zs) := hL
 obtain ⟨ao, cap, rfl, -, -⟩ := hL.shape
 clear hL
 obtain ⟨q1, q2, q3⟩ := one_box w (.cells #[.string { data := #[] }, .int .u64 0] 61)
 go_enter Tryz.func154, Tryz.ntmps154
 go_wp2
 have q1r : Hid (w.heap.size + 1 ≤ (w.alloc (.cells #[.string { data := #[] }, .int .u64 0] 61)).heap.size) := by show _ ≤ _; omega
 have HW0 : Hid (∀ W, Below (w.heap.size + 1) (w.alloc (.cells #[.string { data := #[] }, .int .u64 0] 61)) W → Below w.heap.size w W ∧ W.heap[w.heap.size]? = some (.cells #[.string { data := #[] }, .int .u64 0] 61 (0, 0))) := fun W hW => ⟨q3.trans (hW.mono (Nat.le_succ _)), (hW.block w.heap.size (Nat.lt_succ_self _)).trans q2⟩
 clear q1 q2 q3
 generalize w.alloc (.cells #[.string { data := #[] }, .int .u64 0] 61) = w0 at *
 go_loopg [13] zs.length (fun g s13 wr => ∃ i : Nat, i + g = zs.length ∧ s13 = .int .i64 (i : Int) ∧ Below (w.heap.size + 1) w0 wr ∧ Hid (findM (zs.drop i) c = T))
 case atStart => exact ⟨0, by omega, rfl, Below.refl _ _, HT.out.symm⟩
 case round =>
  obtain ⟨i, hig, rfl, hb, HP⟩ := hrel
  obtain ⟨hbw, hbx⟩ := HW0.out wr hb
  by_cases hlt : i < zs.length
  ·have hlti : (i : Int) < (zs.length : Int) := by omega
   have hx : zs[i]? = some zs[i] := List.getElem?_eq_getElem hlt
   obtain ⟨z, hzz⟩ : ∃ z, z = zs[i] := ⟨_, rfl⟩
   rw [← hzz] at hx
   clear hzz
   obtain ⟨b, off, rfl, cc⟩ := rdm_at HL.out hx
   obtain ⟨c0, c1⟩ := cc wr hbw
   have HA := find_at (c := c) hx
   obtain ⟨hs, hbz, cl⟩ := mk_box wr z
   obtain ⟨d0, d1⟩ := cl _ (Below.refl _ _)
   have kf := keym_of z (wr.alloc (mc z))
   rw [hs] at kf
   have hb1 : Below (w.heap.size + 1) w0 (wr.alloc (mc z)) := keep_step hb q1r.out hbz
   obtain ⟨k, t⟩ := z
   dsimp only [mv, mc] at *
   have hs' : Hid (wr.heap.size + 1 ≤ (wr.alloc (.cells #[.string (bk k), .int .u64 (t : Int)] 61)).heap.size) := by show _ ≤ _; omega
   clear hs hbz cc hx
   go_wp2_with fail
   refine kf.mono ?_
   rintro e w2 ⟨rfl, hb2⟩
   have hb3 : Below (w.heap.size + 1) w0 w2 := hb1.trans (hb2.mono (Nat.le_trans (Nat.le_trans q1r.out hb.size) (Nat.le_succ _)))
   obtain ⟨g0, g1⟩ := cl _ hb2
   obtain ⟨hbw3, hbx3⟩ := HW0.out w2 hb3
   clear kf cl d0 d1 c0 c1 hb1 hb2
   by_cases hk : k = c
   ·have E : Hid (T = some (k, t)) := by show _ = _; rw [← HP.out, HA, if_pos hk]
    obtain ⟨⟨f0, f1⟩, c0, c1⟩ := m_cells hbx3
    have HB3 := m_set hbx3 (.string (bk k)) (.int .u64 (t : Int))
    have HBW := m_below (g := w.heap.size) (.string (bk k)) (.int .u64 (t : Int)) hbw3 (Nat.le_refl _)
    have hkd : decide (k = c) = true := decide_eq_true hk
    clear HP HA hk HL hbx hb3 hbx3 hbw hbw3 HW0
    go_wp2
    (try simp only [Exit.inBlock, Exit.then])
    refine bodyPost_ret (results_mb rfl _ _ w.heap.size _ _ rfl HB3) rfl ?_
    exact ⟨by rw [E.out]; rfl, HBW⟩
   ·have HN : Hid (findM (zs.drop (i + 1)) c = T) := by show _ = _; rw [← HP.out, HA, if_neg hk]
    have hkd : decide (k = c) = false := decide_eq_false hk
    clear HP HA HL hbx hbx3 hbw hbw3 HW0
    go_wp2
    go_roundg (gk - 1)
    case measure => omega
    case rel => exact ⟨i + 1, by omega, by go_num, hb3, HN⟩
  ·have hlti : ¬ (i : Int) < (zs.length : Int) := by omega
   have E : Hid (T = none) := by show _ = _; rw [← HP.out, List.drop_of_length_le (by omega)]; rfl
   obtain ⟨p1, p2, p3⟩ := one_box wr (.cells #[.string { data := #[] }, .int .u64 0] 61)
   obtain ⟨hbw3, hbx3⟩ := HW0.out _ (keep_step hb q1r.out p3)
   obtain ⟨⟨f0, f1⟩, c0, c1⟩ := m_cells hbx3
   have HB3 := m_set hbx3 (.string { data := #[] }) (.int .u64 0)
   have HBW := m_below (g := w.heap.size) (.string { data := #[] }) (.int .u64 0) hbw3 (Nat.le_refl _)
   clear HP HL hbx hbw hbx3 hbw3 HW0 p1 p2 p3
   go_wp2
   (try simp only [Exit.inBlock, Exit.then])
   refine bodyPost_ret (results_mb rfl _ _ w.heap.size _ _ rfl HB3) rfl ?_
   exact ⟨by rw [E.out]; rfl, HBW⟩

set_option maxHeartbeats 2000000 in
theorem find_of (zs : List Hd) (lv : Value) (c : K) (w : World) (hL : Rd holdE w lv zs) (hlen : zs.length ≤ 4611686018427387904) : Calls Tryz.prog 90 #[lv, .string (bk c)] w fun e w' => e = .returned (.tuple #[hv (goth (findM zs c)), .bool (findM zs c).isSome]) ∧ Below w.heap.size w w' := by
 obtain ⟨q1, q2, q3⟩ := one_box w (.cells #[.string { data := #[] }, .int .u64 0, .int .i64 0] 59)
 have kf := firsth_of zs lv c _ (hL.below q3) hlen
 rw [q1] at kf
 obtain ⟨ao, cap, rfl, -, -⟩ := hL.shape
 generalize findM zs c = T at *
 generalize goth T = z at *
 generalize T.isSome = B at *
 obtain ⟨k, t, u⟩ := z
 dsimp only [hv] at *
 clear hL
 go_enter Tryz.func90, Tryz.ntmps90
 go_wp2_with fail
 refine kf.mono ?_
 rintro e w2 ⟨rfl, hb2⟩
 have hbw : Below w.heap.size w w2 := q3.trans (hb2.mono (Nat.le_succ _))
 have hbx := (hb2.block w.heap.size (Nat.lt_succ_self _)).trans q2
 obtain ⟨⟨f0, f1, f2⟩, c0, c1, c2⟩ := h_cells hbx
 have HB3 := h_set hbx (.string (bk k)) (.int .u64 (t : Int)) (.int .i64 u)
 have HBW := h_below (g := w.heap.size) (.string (bk k)) (.int .u64 (t : Int)) (.int .i64 u) hbw (Nat.le_refl _)
 clear kf q1 q2 q3 hb2 hbw hbx
 go_wp2
 (try simp only [Exit.inBlock, Exit.then])
 refine bodyPost_ret (results_hb rfl _ _ w.heap.size _ _ _ rfl HB3) rfl ?_
 exact ⟨rfl, HBW⟩

set_option maxHeartbeats 4000000 in
theorem rfind_of (zs : List Hd) (lv : Value) (c : K) (w : World) (hL : Rd holdE w lv zs) (hlen : zs.length ≤ 4611686018427387904) : Calls Tryz.prog 24 #[lv, .string (bk c)] w fun e w' => e = .returned (.tuple #[hv (goth (findM zs c)), .bool (findM zs c).isSome]) ∧ Below w.heap.size w w' := by
 obtain ⟨T, HT⟩ : ∃ T : Option Hd, Hid (T = findM zs c) := ⟨_, rfl⟩
 rw [← HT.out]
 have HL : Hid (Rd holdE w lv zs) := hL
 obtain ⟨ao, cap, rfl, -, -⟩ := hL.shape
 clear hL
 obtain ⟨q1, q2, q3⟩ := one_box w (.cells #[.string { data := #[] }, .int .u64 0, .int .i64 0] 59)
 go_enter Tryz.func24, Tryz.ntmps24
 go_wp2
 have HW0 : Hid (∀ W, Below (w.heap.size + 1) (w.alloc (.cells #[.string { data := #[] }, .int .u64 0, .int .i64 0] 59)) W → Below w.heap.size w W ∧ W.heap[w.heap.size]? = some (.cells #[.string { data := #[] }, .int .u64 0, .int .i64 0] 59 (0, 0))) := fun W hW => ⟨q3.trans (hW.mono (Nat.le_succ _)), (hW.block w.heap.size (Nat.lt_succ_self _)).trans q2⟩
 clear q1 q2 q3
 generalize w.alloc (.cells #[.string { data := #[] }, .int .u64 0, .int .i64 0] 59) = w0 at *
 go_loopg [6] zs.length (fun g s6 wr => ∃ i : Nat, i + g = zs.length ∧ s6 = .int .i64 (i : Int) ∧ Below (w.heap.size + 1) w0 wr ∧ Hid (findM (zs.drop i) c = T))
 case atStart => exact ⟨0, by omega, rfl, Below.refl _ _, HT.out.symm⟩
 case round =>
  obtain ⟨i, hig, rfl, hb, HP⟩ := hrel
  obtain ⟨hbw, hbx⟩ := HW0.out wr hb
  by_cases hlt : i < zs.length
  ·have hlti : (i : Int) < (zs.length : Int) := by omega
   have hx : zs[i]? = some zs[i] := List.getElem?_eq_getElem hlt
   obtain ⟨z, hzz⟩ : ∃ z, z = zs[i] := ⟨_, rfl⟩
   rw [← hzz] at hx
   clear hzz
   obtain ⟨b, off, rfl, cc⟩ := rdh_at HL.out hx
   obtain ⟨g0, g1, g2⟩ := cc wr hbw
   have HA := find_at (c := c) hx
   obtain ⟨k, t, u⟩ := z
   dsimp only at *
   clear cc hx
   by_cases hk : k = c
   ·have E : Hid (T = some (k, t, u)) := by show _ = _; rw [← HP.out, HA, if_pos hk]
    obtain ⟨⟨f0, f1, f2⟩, c0, c1, c2⟩ := h_cells hbx
    have HB3 := h_set hbx (.string (bk k)) (.int .u64 (t : Int)) (.int .i64 u)
    have HBW := h_below (g := w.heap.size) (.string (bk k)) (.int .u64 (t : Int)) (.int .i64 u) hbw (Nat.le_refl _)
    have hkd : decide (k = c) = true := decide_eq_true hk
    clear HP HA hk HL hbx hbw HW0
    go_wp2
    (try simp only [Exit.inBlock, Exit.then])
    refine bodyPost_ret (results_hb rfl _ _ w.heap.size _ _ _ rfl HB3) rfl ?_
    exact ⟨by rw [E.out]; rfl, HBW⟩
   ·have HN : Hid (findM (zs.drop (i + 1)) c = T) := by show _ = _; rw [← HP.out, HA, if_neg hk]
    have hkd : decide (k = c) = false := decide_eq_false hk
    clear HP HA HL hbx hbw HW0
    go_wp2
    go_roundg (gk - 1)
    case measure => omega
    case rel => exact ⟨i + 1, by omega, by go_num, hb, HN⟩
  ·have hlti : ¬ (i : Int) < (zs.length : Int) := by omega
   have E : Hid (T = none) := by show _ = _; rw [← HP.out, List.drop_of_length_le (by omega)]; rfl
   obtain ⟨⟨f0, f1, f2⟩, c0, c1, c2⟩ := h_cells hbx
   have HB3 := h_set hbx (.string { data := #[] }) (.int .u64 0) (.int .i64 0)
   have HBW := h_below (g := w.heap.size) (.string { data := #[] }) (.int .u64 0) (.int .i64 0) hbw (Nat.le_refl _)
   clear HP HL hbx hbw HW0
   go_wp2
   (try simp only [Exit.inBlock, Exit.then])
   refine bodyPost_ret (results_hb rfl _ _ w.heap.size _ _ _ rfl HB3) rfl ?_
   exact ⟨by rw [E.out]; rfl, HBW⟩

theorem last_got (zs : List Mk) (c : K) : lastM zs c = (gotm (findM zs c)).2 := by
 unfold lastM gotm
 cases findM zs c <;> rfl
set_option maxHeartbeats 2000000 in
theorem last_of (zs : List Mk) (lv : Value) (c : K) (w : World) (hL : Rd markE w lv zs) (hlen : zs.length ≤ 4611686018427387904) : Calls Tryz.prog 104 #[lv, .string (bk c)] w fun e w' => e = .returned (.int .u64 (lastM zs c : Int)) ∧ Below w.heap.size w w' := by
 have kf : ∀ W, Below w.heap.size w W → _ := fun W hW => firstm_of zs lv c W (hL.below hW) hlen
 rw [last_got]
 obtain ⟨ao, cap, rfl, -, -⟩ := hL.shape
 generalize findM zs c = T at *
 generalize gotm T = z at *
 generalize T.isSome = B at *
 obtain ⟨k, t⟩ := z
 dsimp only [mv] at *
 clear hL
 have k0 := kf w (Below.refl _ _)
 go_enter Tryz.func104, Tryz.ntmps104
 go_wp2_with fail
 refine k0.mono ?_
 rintro e w2 ⟨rfl, hb2⟩
 have hb3 := hb2.alloc hb2.size (.cells #[.string (bk k), .int .u64 (t : Int)] 61)
 clear kf k0
 go_wp2
 go_ret
 exact ⟨rfl, by first | exact hb3 | exact hb2⟩

set_option maxHeartbeats 4000000 in
theorem rlast_of (zs : List Mk) (lv : Value) (c : K) (w : World) (hL : Rd markE w lv zs) (hlen : zs.length ≤ 4611686018427387904) : Calls Tryz.prog 108 #[lv, .string (bk c)] w fun e w' => e = .returned (.int .u64 (lastM zs c : Int)) ∧ w' = w := by
 obtain ⟨T, HT⟩ : ∃ T : Nat, Hid (T = lastM zs c) := ⟨_, rfl⟩
 rw [← HT.out]
 have HL : Hid (Rd markE w lv zs) := hL
 obtain ⟨ao, cap, rfl, -, -⟩ := hL.shape
 clear hL
 go_enter Tryz.func108, Tryz.ntmps108
 go_wp2
 go_loopg [5] zs.length (fun g s6 wr => ∃ i : Nat, i + g = zs.length ∧ s6 = .int .i64 (i : Int) ∧ wr = w ∧ Hid (T = lastM (zs.drop i) c))
 case atStart => exact ⟨0, by omega, rfl, rfl, HT⟩
 case round =>
  obtain ⟨i, hig, rfl, rfl, HP⟩ := hrel
  by_cases hlt : i < zs.length
  ·have hlti : (i : Int) < (zs.length : Int) := by omega
   have hx : zs[i]? = some zs[i] := List.getElem?_eq_getElem hlt
   obtain ⟨z, hzz⟩ : ∃ z, z = zs[i] := ⟨_, rfl⟩
   rw [← hzz] at hx
   clear hzz
   obtain ⟨b, off, rfl, cc⟩ := rdm_at HL.out hx
   obtain ⟨g0, g1⟩ := cc wr (Below.refl _ _)
   have HA := find_at (c := c) hx
   obtain ⟨k, t⟩ := z
   dsimp only at *
   clear cc hx
   by_cases hk : k = c
   ·have E : Hid (T = t) := by show _ = _; rw [HP.out]; unfold lastM; rw [HA, if_pos hk]
    have hkd : decide (k = c) = true := decide_eq_true hk
    clear HP HA hk HL
    go_wp2
    go_ret
    exact ⟨by rw [E.out]; rfl, rfl⟩
   ·have HN : Hid (T = lastM (zs.drop (i + 1)) c) := by show _ = _; rw [HP.out]; unfold lastM; rw [HA, if_neg hk]
    have hkd : decide (k = c) = false := decide_eq_false hk
    clear HP HA HL
    go_wp2
    go_roundg (gk - 1)
    case measure => omega
    case rel => exact ⟨i + 1, by omega, by go_num, rfl, HN⟩
  ·have hlti : ¬ (i : Int) < (zs.length : Int) := by omega
   have E : Hid (T = 0) := by show _ = _; rw [HP.out, List.drop_of_length_le (by omega)]; rfl
   clear HP HL
   go_wp2
   go_ret
   exact ⟨by rw [E.out]; rfl, rfl⟩
end Go.Proofs.YtfpbgfmnjpamlaaGreat

