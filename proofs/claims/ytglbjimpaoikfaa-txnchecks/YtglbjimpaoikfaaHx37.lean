import Derived.Test.YtglbjimpaoikfaaHx36
/- The document's Token. -/
namespace Go.Proofs.Ytglbjimpaoikfaa
open Go.RowKit LeaseMath
set_option maxRecDepth 100000
set_option linter.unusedSimpArgs false
set_option linter.unusedVariables false

set_option maxHeartbeats 16000000 in
theorem rtoken_of (z : Xz) (t : Nat) (w : World) (hR : XR w z) (gk : z.t.keys.length ≤ 1000000) (g1 : z.t.groups.length ≤ 1000000) (g2 : z.t.yes.length ≤ 1000000) (g3 : z.t.done.length ≤ 1000000) : Calls Try.prog 24 #[xv z, .int .u64 (t : Int)] w fun e w' => (∃ k g y d : Sa, e = .returned (.tuple #[xv ⟨(tokenM z.t t (subB z.t.groups z.t.yes)).1, k, g, y, d⟩, .int .i64 (tokenM z.t t (subB z.t.groups z.t.yes)).2]) ∧ XR w' ⟨(tokenM z.t t (subB z.t.groups z.t.yes)).1, k, g, y, d⟩) ∧ Below w.heap.size w w' := by
 obtain ⟨R, HRR⟩ : ∃ R, Hid (R = tokenM z.t t (subB z.t.groups z.t.yes)) := ⟨_, rfl⟩
 rw [← HRR.out]
 obtain ⟨q1, q2, q3, q4⟩ := two_boxesX w (xc z) (.cells #[.int .i64 0, .int .u64 0, .int .i64 0, .slice none 0 0, .int .u64 0, .int .i64 0, .slice none 0 0, .int .i64 0, .slice none 0 0, .slice none 0 0, .int .i64 0] 29)
 obtain ⟨w0, hw0⟩ : ∃ W, (w.alloc (xc z)).alloc (.cells #[.int .i64 0, .int .u64 0, .int .i64 0, .slice none 0 0, .int .u64 0, .int .i64 0, .slice none 0 0, .int .i64 0, .slice none 0 0, .slice none 0 0, .int .i64 0] 29) = W := ⟨_, rfl⟩
 rw [hw0] at q1 q2 q3 q4
 have k1 := rmay_of z w0 (hR.below q4) gk (by omega) (by omega) (by omega)
 have k2 : Hid (XR w z) := hR
 have k3 : Hid (∀ (W : World), Below w.heap.size w W → _) := fun W hW => settle_of ⟨setT z.t t, z.k, z.g, z.y, z.d⟩ W (hR.below hW) g1 g2
 have kb : Hid (subB (setT z.t t).groups (setT z.t t).yes = subB z.t.groups z.t.yes) := rfl
 simp only [kb.out] at k3
 unfold tokenM at HRR
 generalize okX z.t = b at *
 generalize subB z.t.groups z.t.yes = a at *
 have hz0 : w.heap.size + 2 ≤ w0.heap.size := by omega
 obtain ⟨⟨⟨i1, i2⟩, kd, ks, tk, tt, gs, st, ys, ds, cd⟩, ⟨ka, kc⟩, ⟨ga, gc⟩, ⟨ya, yc⟩, ⟨da, dc⟩⟩ := z
 dsimp only [xv, xc] at *
 obtain ⟨c0, c1, c2, c3, c4, c5, c6, c7, c8, c9, c10⟩ := cells11 q2
 clear hR gk g1 g2 g3 q1 kb
 cases b with
 | false =>
  try simp only [Bool.false_eq_true, if_false] at k1
  have E : Hid (R = (noX, 1)) := by show _ = _; rw [HRR.out]; rw [if_neg (by simp)]
  clear HRR k2 k3 
  go_enter Try.func24, Try.ntmps24
  go_wp2_with fail
  refine k1.mono ?_
  rintro e wc ⟨rfl, hbc⟩
  replace q2 := (hbc.block w.heap.size (by omega)).trans q2
  replace q3 := (hbc.block (w.heap.size + 1) (by omega)).trans q3
  replace q4 := q4.trans (hbc.mono q4.size)
  replace hz0 := Nat.le_trans hz0 hbc.size
  obtain ⟨c0, c1, c2, c3, c4, c5, c6, c7, c8, c9, c10⟩ := cells11 q2
  obtain ⟨e0, e1, e2, e3, e4, e5, e6, e7, e8, e9, e10⟩ := cells11 q3
  obtain ⟨f0, f1, f2, f3, f4, f5, f6, f7, f8, f9, f10⟩ := f_cells11 q3
  clear hbc k1
  have S : Hid _ := set11_block q3 (.int .i64 0) (.int .u64 0) (.int .i64 0) (.slice none 0 0) (.int .u64 0) (.int .i64 0) (.slice none 0 0) (.int .i64 0) (.slice none 0 0) (.slice none 0 0) (.int .i64 0)
  have SB : Hid _ := set11_below (.int .i64 0) (.int .u64 0) (.int .i64 0) (.slice none 0 0) (.int .u64 0) (.int .i64 0) (.slice none 0 0) (.int .i64 0) (.slice none 0 0) (.slice none 0 0) (.int .i64 0) (g := w.heap.size + 1) q4 (Nat.le_succ _)
  clear q2 q3 q4 hz0
  go_wp2
  refine bodyPost_ret (results_txe rfl _ _ (w.heap.size + 1) _ _ _ _ _ _ _ _ _ _ _ rfl S.out) rfl ?_
  exact ⟨⟨(none, 0), (none, 0), (none, 0), (none, 0), by rw [E.out]; rfl, by rw [E.out]; exact (XO.none 0 _).xr⟩, SB.out⟩
 | true =>
  try simp only [if_true] at k1
  by_cases h1 : st = 1
  ·have h1d : (st != 1) = false := by simp [h1]
   by_cases h2 : t = 0
   ·have h2d : ((t : Int) == 0) = true := by simp [h2]
    have E : Hid (R = (noX, 1)) := by show _ = _; rw [HRR.out]; rw [if_pos rfl, if_pos h1, if_pos h2]
    clear HRR k2 k3 h1 h2
    go_enter Try.func24, Try.ntmps24
    go_wp2_with fail
    refine k1.mono ?_
    rintro e wc ⟨rfl, hbc⟩
    replace q2 := (hbc.block w.heap.size (by omega)).trans q2
    replace q3 := (hbc.block (w.heap.size + 1) (by omega)).trans q3
    replace q4 := q4.trans (hbc.mono q4.size)
    replace hz0 := Nat.le_trans hz0 hbc.size
    obtain ⟨c0, c1, c2, c3, c4, c5, c6, c7, c8, c9, c10⟩ := cells11 q2
    obtain ⟨e0, e1, e2, e3, e4, e5, e6, e7, e8, e9, e10⟩ := cells11 q3
    obtain ⟨f0, f1, f2, f3, f4, f5, f6, f7, f8, f9, f10⟩ := f_cells11 q3
    clear hbc k1
    have S : Hid _ := set11_block q3 (.int .i64 0) (.int .u64 0) (.int .i64 0) (.slice none 0 0) (.int .u64 0) (.int .i64 0) (.slice none 0 0) (.int .i64 0) (.slice none 0 0) (.slice none 0 0) (.int .i64 0)
    have SB : Hid _ := set11_below (.int .i64 0) (.int .u64 0) (.int .i64 0) (.slice none 0 0) (.int .u64 0) (.int .i64 0) (.slice none 0 0) (.int .i64 0) (.slice none 0 0) (.slice none 0 0) (.int .i64 0) (g := w.heap.size + 1) q4 (Nat.le_succ _)
    clear q2 q3 q4 hz0
    go_wp2
    refine bodyPost_ret (results_txe rfl _ _ (w.heap.size + 1) _ _ _ _ _ _ _ _ _ _ _ rfl S.out) rfl ?_
    exact ⟨⟨(none, 0), (none, 0), (none, 0), (none, 0), by rw [E.out]; rfl, by rw [E.out]; exact (XO.none 0 _).xr⟩, SB.out⟩
   ·have h2d : ((t : Int) == 0) = false := by simpa using h2
    by_cases h3 : tk = 0
    ·have h3d : ((tk : Int) != 0) = false := by simp [h3]
     have E : Hid (R = (agreeM (setT ⟨(i1, i2), kd, ks, tk, tt, gs, st, ys, ds, cd⟩ t) a, 0)) := by show _ = _; rw [HRR.out]; rw [if_pos rfl, if_pos h1, if_neg h2, if_pos h3]
     clear HRR h1 h2 h3
     go_enter Try.func24, Try.ntmps24
     go_wp2_with fail
     refine k1.mono ?_
     rintro e wc ⟨rfl, hbc⟩
     replace q2 := (hbc.block w.heap.size (by omega)).trans q2
     replace q3 := (hbc.block (w.heap.size + 1) (by omega)).trans q3
     replace q4 := q4.trans (hbc.mono q4.size)
     replace hz0 := Nat.le_trans hz0 hbc.size
     obtain ⟨c0, c1, c2, c3, c4, c5, c6, c7, c8, c9, c10⟩ := cells11 q2
     obtain ⟨e0, e1, e2, e3, e4, e5, e6, e7, e8, e9, e10⟩ := cells11 q3
     obtain ⟨f0, f1, f2, f3, f4, f5, f6, f7, f8, f9, f10⟩ := f_cells11 q3
     clear hbc k1
     obtain ⟨s0, s1, s2, s3, s4, s5, s6, s7, s8, s9, s10⟩ := f_cells11 q2
     have X2 := set_block q2 (j := 4) (.int .u64 (t : Int))
     have Y2 : (wc.setCell ⟨w.heap.size, 4, none⟩ (.int .u64 (t : Int))).heap[w.heap.size + 1]? = _ := (set_other (by omega)).trans q3
     have B2 := q4.setCell (p := ⟨w.heap.size, 4, none⟩) (Nat.le_refl _) (.int .u64 (t : Int))
     obtain ⟨W2, hW2⟩ : ∃ W, wc.setCell ⟨w.heap.size, 4, none⟩ (.int .u64 (t : Int)) = W := ⟨_, rfl⟩
     rw [hW2] at X2 Y2 B2
     simp only [List.setIfInBounds_toArray, List.set_cons_zero, List.set_cons_succ] at X2
     clear q2 q3 q4 hz0
     obtain ⟨n0, n1, n2, n3, n4, n5, n6, n7, n8, n9, n10⟩ := cells11 X2
     have k4 := k3.out W2 B2
     have O4 : Hid (∀ W, Below w.heap.size w W → XR W ⟨agreeM (setT ⟨(i1, i2), kd, ks, tk, tt, gs, st, ys, ds, cd⟩ t) a, (ka, kc), (ga, gc), (ya, yc), (da, dc)⟩) := fun W hW => XR.agree a (XR.below (z := ⟨setT ⟨(i1, i2), kd, ks, tk, tt, gs, st, ys, ds, cd⟩ t, (ka, kc), (ga, gc), (ya, yc), (da, dc)⟩) k2.out hW)
     generalize agreeM (setT ⟨(i1, i2), kd, ks, tk, tt, gs, st, ys, ds, cd⟩ t) a = r at *
     clear k2 k3
     dsimp only [xv, setT] at k4
     obtain ⟨⟨r1, r2⟩, r3, r4, r5, r6, r7, r8, r9, r10, r11⟩ := r
     dsimp only at k4
     go_wp2_with fail
     refine k4.mono ?_
     rintro e we ⟨rfl, hbc⟩
     have Y3 := (hbc.block (w.heap.size + 1) (by have := Array.getElem?_eq_some_iff.1 Y2; exact this.1)).trans Y2
     have B3 := B2.trans (hbc.mono B2.size)
     clear hbc k4 X2
     obtain ⟨e0, e1, e2, e3, e4, e5, e6, e7, e8, e9, e10⟩ := cells11 Y3
     obtain ⟨g0, g1, g2, g3, g4, g5, g6, g7, g8, g9, g10⟩ := f_cells11 Y3
     have S : Hid _ := set11_block Y3 (.int .i64 r1) (.int .u64 (r2 : Int)) (.int .i64 r3) (.slice ka r4.length kc) (.int .u64 (r5 : Int)) (.int .i64 r6) (.slice ga r7.length gc) (.int .i64 r8) (.slice ya r9.length yc) (.slice da r10.length dc) (.int .i64 r11)
     have SB : Hid _ := set11_below (.int .i64 r1) (.int .u64 (r2 : Int)) (.int .i64 r3) (.slice ka r4.length kc) (.int .u64 (r5 : Int)) (.int .i64 r6) (.slice ga r7.length gc) (.int .i64 r8) (.slice ya r9.length yc) (.slice da r10.length dc) (.int .i64 r11) (g := w.heap.size + 1) B3 (Nat.le_succ _)
     have SO : Hid _ := O4.out _ SB.out
     clear Y2 Y3 B2 B3 O4
     go_wp2
     refine bodyPost_ret (results_txe rfl _ _ (w.heap.size + 1) _ _ _ _ _ _ _ _ _ _ _ rfl S.out) rfl ?_
     exact ⟨⟨(ka, kc), (ga, gc), (ya, yc), (da, dc), by first | (rw [E.out]; done) | (rw [E.out]; rfl), by rw [E.out]; exact SO.out⟩, SB.out⟩
    ·have h3d : ((tk : Int) != 0) = true := by simpa using h3
     have E : Hid (R = (noX, 6)) := by show _ = _; rw [HRR.out]; rw [if_pos rfl, if_pos h1, if_neg h2, if_neg h3]
     clear HRR k2 k3 h1 h2 h3
     go_enter Try.func24, Try.ntmps24
     go_wp2_with fail
     refine k1.mono ?_
     rintro e wc ⟨rfl, hbc⟩
     replace q2 := (hbc.block w.heap.size (by omega)).trans q2
     replace q3 := (hbc.block (w.heap.size + 1) (by omega)).trans q3
     replace q4 := q4.trans (hbc.mono q4.size)
     replace hz0 := Nat.le_trans hz0 hbc.size
     obtain ⟨c0, c1, c2, c3, c4, c5, c6, c7, c8, c9, c10⟩ := cells11 q2
     obtain ⟨e0, e1, e2, e3, e4, e5, e6, e7, e8, e9, e10⟩ := cells11 q3
     obtain ⟨f0, f1, f2, f3, f4, f5, f6, f7, f8, f9, f10⟩ := f_cells11 q3
     clear hbc k1
     have S : Hid _ := set11_block q3 (.int .i64 0) (.int .u64 0) (.int .i64 0) (.slice none 0 0) (.int .u64 0) (.int .i64 0) (.slice none 0 0) (.int .i64 0) (.slice none 0 0) (.slice none 0 0) (.int .i64 0)
     have SB : Hid _ := set11_below (.int .i64 0) (.int .u64 0) (.int .i64 0) (.slice none 0 0) (.int .u64 0) (.int .i64 0) (.slice none 0 0) (.int .i64 0) (.slice none 0 0) (.slice none 0 0) (.int .i64 0) (g := w.heap.size + 1) q4 (Nat.le_succ _)
     clear q2 q3 q4 hz0
     go_wp2
     refine bodyPost_ret (results_txe rfl _ _ (w.heap.size + 1) _ _ _ _ _ _ _ _ _ _ _ rfl S.out) rfl ?_
     exact ⟨⟨(none, 0), (none, 0), (none, 0), (none, 0), by rw [E.out]; rfl, by rw [E.out]; exact (XO.none 0 _).xr⟩, SB.out⟩
  ·have h1d : (st != 1) = true := by simpa using h1
   have E : Hid (R = (noX, 7)) := by show _ = _; rw [HRR.out]; rw [if_pos rfl, if_neg h1]
   clear HRR k2 k3 h1
   go_enter Try.func24, Try.ntmps24
   go_wp2_with fail
   refine k1.mono ?_
   rintro e wc ⟨rfl, hbc⟩
   replace q2 := (hbc.block w.heap.size (by omega)).trans q2
   replace q3 := (hbc.block (w.heap.size + 1) (by omega)).trans q3
   replace q4 := q4.trans (hbc.mono q4.size)
   replace hz0 := Nat.le_trans hz0 hbc.size
   obtain ⟨c0, c1, c2, c3, c4, c5, c6, c7, c8, c9, c10⟩ := cells11 q2
   obtain ⟨e0, e1, e2, e3, e4, e5, e6, e7, e8, e9, e10⟩ := cells11 q3
   obtain ⟨f0, f1, f2, f3, f4, f5, f6, f7, f8, f9, f10⟩ := f_cells11 q3
   clear hbc k1
   have S : Hid _ := set11_block q3 (.int .i64 0) (.int .u64 0) (.int .i64 0) (.slice none 0 0) (.int .u64 0) (.int .i64 0) (.slice none 0 0) (.int .i64 0) (.slice none 0 0) (.slice none 0 0) (.int .i64 0)
   have SB : Hid _ := set11_below (.int .i64 0) (.int .u64 0) (.int .i64 0) (.slice none 0 0) (.int .u64 0) (.int .i64 0) (.slice none 0 0) (.int .i64 0) (.slice none 0 0) (.slice none 0 0) (.int .i64 0) (g := w.heap.size + 1) q4 (Nat.le_succ _)
   clear q2 q3 q4 hz0
   go_wp2
   refine bodyPost_ret (results_txe rfl _ _ (w.heap.size + 1) _ _ _ _ _ _ _ _ _ _ _ rfl S.out) rfl ?_
   exact ⟨⟨(none, 0), (none, 0), (none, 0), (none, 0), by rw [E.out]; rfl, by rw [E.out]; exact (XO.none 0 _).xr⟩, SB.out⟩
end Go.Proofs.Ytglbjimpaoikfaa

/- The document's plus. -/
namespace Go.Proofs.Ytglbjimpaoikfaa
open Go.RowKit LeaseMath
set_option maxRecDepth 100000
set_option linter.unusedSimpArgs false
set_option linter.unusedVariables false

def nums (k : Nat) : List Int := (List.range k).map fun n : Nat => (n : Int) + 1
theorem nums_mem {k : Nat} {n : Int} : n ∈ nums k ↔ 1 ≤ n ∧ n ≤ k := by
 unfold nums
 rw [List.mem_map]
 constructor
 ·rintro ⟨m, hm, rfl⟩
  rw [List.mem_range] at hm
  omega
 ·intro h
  exact ⟨(n - 1).toNat, by rw [List.mem_range]; omega, by omega⟩
theorem nums_ris (k : Nat) : (nums k).Pairwise (· < ·) := by
 unfold nums
 rw [List.pairwise_map]
 exact List.pairwise_lt_range.imp (by intro a b h; omega)
theorem nums_succ (k : Nat) : nums (k + 1) = nums k ++ [(k : Int) + 1] := by
 unfold nums
 rw [List.range_succ, List.map_append]
 rfl
theorem nums_len (k : Nat) : (nums k).length = k := by simp [nums]
def plusP (l : List Int) (g n : Int) : Bool := decide (n = g) || decide (n ∈ l)
def plusL (l : List Int) (g : Int) (k : Nat) : List Int := (nums k).filter (plusP l g)
theorem plus_len (l : List Int) (g : Int) (k : Nat) : (plusL l g k).length ≤ k := by
 have := List.length_filter_le (plusP l g) (nums k)
 rw [nums_len] at this
 exact this
theorem plus_in {l : List Int} {g : Int} {k : Nat} (h : plusP l g ((k : Int) + 1) = true) : plusL l g (k + 1) = plusL l g k ++ [(k : Int) + 1] := by
 unfold plusL
 rw [nums_succ, List.filter_append]
 simp [h]
theorem plus_out {l : List Int} {g : Int} {k : Nat} (h : plusP l g ((k : Int) + 1) = false) : plusL l g (k + 1) = plusL l g k := by
 unfold plusL
 rw [nums_succ, List.filter_append]
 simp [h]
set_option maxHeartbeats 2000000 in
theorem rplus_of (l : List Int) (lv : Value) (z : Int) (w : World) (hL : Rd intE w lv l) (hlen : l.length ≤ 1000000) : Calls Try.prog 53 #[lv, .int .i64 z] w fun e w' => ∃ u, e = .returned u ∧ Ow intE 3 w.heap.size w' u (plusL l z 16) ∧ Below w.heap.size w w' := by
 have kc : Hid (∀ x W, Below w.heap.size w W → _) := fun x W (hW : Below w.heap.size w W) => rin_of l lv x W (hL.below hW) (by omega)
 obtain ⟨oa, oc, rfl, -, -⟩ := hL.shape
 clear hL
 obtain ⟨q1, q2, q3⟩ := one_box w (.cells #[] 3)
 have hO0 : Hid (Ow intE 3 w.heap.size (w.alloc (.cells #[] 3)) (.slice (some ⟨w.heap.size, 0, none⟩) 0 0) []) := ⟨Rk.made (xs := []) q2 rfl (by unfold maxLen; simp), fun k hk => by cases hk; exact Nat.le_refl _⟩
 clear q1 q2
 go_enter Try.func53, Try.ntmps53
 go_wp2
 go_loopg [5, 6] 16 (fun g s5 s6 wr => ∃ (i : Nat) (y : Int) (st : Value), i + g = 16 ∧ y = (i : Int) + 1 ∧ s6 = .int .i64 y ∧ st = s5 ∧ Ow intE 3 w.heap.size wr st (plusL l z i) ∧ Below w.heap.size w wr)
 case atStart => exact ⟨0, 1, _, rfl, rfl, rfl, rfl, hO0.out, q3⟩
 case round =>
  obtain ⟨i, y, st, hig, hyi, rfl, rfl, hO, hb⟩ := hrel
  by_cases hlt : i < 16
  ·have hle : y ≤ 16 := by omega
   have j1 : IntKind.i64.wrap (y + 1) = y + 1 := IntWalk.i64_in _ (by omega)
   have hyn : Hid (y = (i : Int) + 1) := hyi
   have HI : Hid (i + gk = 16 ∧ i < 16) := ⟨hig, hlt⟩
   have hll := plus_len l z i
   by_cases hg : y = z
   ·have hgd : (y == z) = true := by simp [hg]
    have HPP : Hid (plusP l z y = true) := by show _ = _; simp [plusP, hg]
    have hrun : Hid _ := push_int y hO.1 (by omega)
    have HP : Hid (∀ v' w', PushT intE 3 wr st (plusL l z i ++ [y]) v' w' → Ow intE 3 w.heap.size w' v' (plusL l z (i + 1)) ∧ Below w.heap.size wr w') := fun v' w' h => by
     rw [plus_in (by rw [← hyi]; exact HPP.out), ← hyi]
     exact hO.push hb.size h
    obtain ⟨sa, sc, rfl, -⟩ := hO.1.shape
    generalize plusL l z i = L at *
    clear hO kc hyi hll hig hlt HPP hg
    go_wp2_with (at_builtin; refine wp_by rfl _ _ _ rfl _ _ rfl rfl hrun.out ?_)
    intro u w2 hp
    obtain ⟨h1, h2⟩ := HP.out u w2 hp
    obtain ⟨ua, uc, rfl, -⟩ := h1.1.shape
    have hb2 := hb.trans h2
    clear hrun HP hp h2
    go_wp2
    go_roundg (gk - 1)
    case measure => have := HI.out; omega
    case rel => exact ⟨i + 1, y + 1, _, by have := HI.out; omega, by rw [hyn.out]; omega, by first | rfl | go_num, rfl, h1, hb2⟩
   ·have hgd : (y == z) = false := by simpa using hg
    have kc1 := kc.out y wr hb
    by_cases hm : y ∈ l
    ·rw [decide_eq_true hm] at kc1
     have HPP : Hid (plusP l z y = true) := by show _ = _; simp [plusP, hm]
     have hrun : Hid _ := push_int y hO.1 (by omega)
     have HP : Hid (∀ v' w', PushT intE 3 wr st (plusL l z i ++ [y]) v' w' → Ow intE 3 w.heap.size w' v' (plusL l z (i + 1)) ∧ Below w.heap.size wr w') := fun v' w' h => by
      rw [plus_in (by rw [← hyi]; exact HPP.out), ← hyi]
      exact hO.push hb.size h
     obtain ⟨sa, sc, rfl, -⟩ := hO.1.shape
     generalize plusL l z i = L at *
     clear hO kc hyi hll hig hlt HPP hg hm
     go_wp2_with fail
     refine kc1.mono ?_
     rintro e w1 ⟨rfl, hw1⟩
     subst hw1
     clear kc1
     go_wp2_with (at_builtin; refine wp_by rfl _ _ _ rfl _ _ rfl rfl hrun.out ?_)
     intro u w2 hp
     obtain ⟨h1, h2⟩ := HP.out u w2 hp
     obtain ⟨ua, uc, rfl, -⟩ := h1.1.shape
     have hb2 := hb.trans h2
     clear hrun HP hp h2
     go_wp2
     go_roundg (gk - 1)
     case measure => have := HI.out; omega
     case rel => exact ⟨i + 1, y + 1, _, by have := HI.out; omega, by rw [hyn.out]; omega, by first | rfl | go_num, rfl, h1, hb2⟩
    ·rw [decide_eq_false hm] at kc1
     have HO : Hid (Ow intE 3 w.heap.size wr st (plusL l z (i + 1))) := by
      show Ow _ _ _ _ _ _
      rw [plus_out (by rw [← hyi]; simp [plusP, hg, hm])]
      exact hO
     obtain ⟨sa, sc, rfl, -⟩ := hO.1.shape
     clear hO kc hyi hll hig hlt hg hm
     go_wp2_with fail
     refine kc1.mono ?_
     rintro e w1 ⟨rfl, hw1⟩
     subst hw1
     clear kc1
     go_wp2
     go_roundg (gk - 1)
     case measure => have := HI.out; omega
     case rel => exact ⟨i + 1, y + 1, _, by have := HI.out; omega, by rw [hyn.out]; omega, by first | rfl | go_num, rfl, HO.out, hb⟩
  ·have hle : ¬ y ≤ 16 := by omega
   obtain rfl : i = 16 := by omega
   obtain ⟨sa, sc, rfl, -⟩ := hO.1.shape
   have HO : Hid _ := hO
   clear hO kc hyi
   go_wp2
   go_ret
   exact ⟨_, rfl, HO.out, hb⟩
end Go.Proofs.Ytglbjimpaoikfaa

