import Derived.Test.YtglbjimpaoikfaaHx42
/- The document's Voted. -/
namespace Go.Proofs.Ytglbjimpaoikfaa
open Go.RowKit LeaseMath QuorumMath
set_option maxRecDepth 100000
set_option linter.unusedSimpArgs false
set_option linter.unusedVariables false

/-- What is read whenever the given record is, and the memory made meanwhile stands. -/
def KX (w w' : World) (z u : Xz) : Prop := ∀ W : World, XR W z → (∀ k, w.heap.size ≤ k → k < w'.heap.size → W.heap[k]? = w'.heap[k]?) → XR W u
theorem Ow.keepK {α : Type} {E : El α} {t : TypeId} {n m : Nat} {w' W : World} {v : Value} {l : List α} (h : Ow E t n w' v l) (hm : m ≤ n) (hk : ∀ k, m ≤ k → k < w'.heap.size → W.heap[k]? = w'.heap[k]?) : Rd E W v l := (h.1.same fun k e => hk k (Nat.le_trans hm (h.2 k e)) (h.1.lt e)).rd
theorem XR.setV {w : World} {x : Tx} {k g y d : Sa} (c : Int) (h : XR w ⟨x, k, g, y, d⟩) : XR w ⟨setV x c, k, g, y, d⟩ := h
set_option maxHeartbeats 16000000 in
theorem rvoted_of (z : Xz) (g c : Int) (w : World) (hR : XR w z) (gk : z.t.keys.length ≤ 1000000) (g1 : z.t.groups.length ≤ 1000000) (g2 : z.t.yes.length ≤ 1000000) (g3 : z.t.done.length ≤ 1000000) : Calls Try.prog 27 #[xv z, .int .i64 g, .int .i64 c] w fun e w' => ∃ R, Hid (R = votedM z.t g c (plusL z.t.yes g 16) (subB z.t.groups (plusL z.t.yes g 16))) ∧ (∃ k g' y d : Sa, e = .returned (.tuple #[xv ⟨R.1, k, g', y, d⟩, .int .i64 R.2]) ∧ KX w w' z ⟨R.1, k, g', y, d⟩) ∧ Below w.heap.size w w' := by
 obtain ⟨R, HRR⟩ : ∃ R, Hid (R = votedM z.t g c (plusL z.t.yes g 16) (subB z.t.groups (plusL z.t.yes g 16))) := ⟨_, rfl⟩
 suffices hs : Calls Try.prog 27 #[xv z, .int .i64 g, .int .i64 c] w fun e w' => (∃ k g' y d : Sa, e = .returned (.tuple #[xv ⟨R.1, k, g', y, d⟩, .int .i64 R.2]) ∧ KX w w' z ⟨R.1, k, g', y, d⟩) ∧ Below w.heap.size w w' from hs.mono fun e w' h => ⟨R, HRR, h.1, h.2⟩
 obtain ⟨q1, q2, q3, q4⟩ := two_boxesX w (xc z) (.cells #[.int .i64 0, .int .u64 0, .int .i64 0, .slice none 0 0, .int .u64 0, .int .i64 0, .slice none 0 0, .int .i64 0, .slice none 0 0, .slice none 0 0, .int .i64 0] 29)
 obtain ⟨w0, hw0⟩ : ∃ W, (w.alloc (xc z)).alloc (.cells #[.int .i64 0, .int .u64 0, .int .i64 0, .slice none 0 0, .int .u64 0, .int .i64 0, .slice none 0 0, .int .i64 0, .slice none 0 0, .slice none 0 0, .int .i64 0] 29) = W := ⟨_, rfl⟩
 rw [hw0] at q1 q2 q3 q4
 have k1 := rmay_of z w0 (hR.below q4) gk (by omega) (by omega) (by omega)
 have k2 : Hid (XR w z) := hR
 have k5 : Hid (∀ W, Below w.heap.size w W → _) := fun W hW => rin_of z.t.groups _ g W (hR.2.1.below hW) (by omega)
 have k6 : Hid (∀ W, Below w.heap.size w W → _) := fun W hW => rin_of z.t.yes _ g W (hR.2.2.1.below hW) (by omega)
 have k7 : Hid (∀ W, Below w.heap.size w W → _) := fun W hW => rplus_of z.t.yes _ g W (hR.2.2.1.below hW) (by omega)
 have HL16 : Hid ((plusL z.t.yes g 16).length ≤ 16) := plus_len _ _ _
 have k3 : Hid (∀ (y : Sa) (W : World), XR W ⟨setY z.t (plusL z.t.yes g 16), z.k, z.g, y, z.d⟩ → _) := fun y W hW => settle_of ⟨setY z.t (plusL z.t.yes g 16), z.k, z.g, y, z.d⟩ W hW g1 (by show (plusL z.t.yes g 16).length ≤ _; have := plus_len z.t.yes g 16; omega)
 have kb : Hid (subB (setY z.t (plusL z.t.yes g 16)).groups (setY z.t (plusL z.t.yes g 16)).yes = subB z.t.groups (plusL z.t.yes g 16)) := rfl
 simp only [kb.out] at k3
 unfold votedM at HRR
 generalize plusL z.t.yes g 16 = L at *
 generalize okX z.t = b at *
 generalize subB z.t.groups L = a at *
 have hz0 : w.heap.size + 2 ≤ w0.heap.size := by omega
 obtain ⟨⟨⟨i1, i2⟩, kd, ks, tk, tt, gs, st, ys, ds, cd⟩, ⟨ka, kc⟩, ⟨ga, gc⟩, ⟨ya, yc⟩, ⟨da, dc⟩⟩ := z
 dsimp only [xv, xc] at *
 obtain ⟨c0, c1, c2, c3, c4, c5, c6, c7, c8, c9, c10⟩ := cells11 q2
 clear hR gk g1 g2 g3 q1 kb
 cases b with
 | false =>
  try simp only [Bool.false_eq_true, if_false] at k1
  have E : Hid (R = (noX, 1)) := by show _ = _; rw [HRR.out]; rw [if_neg (by simp)]
  clear HRR k2 k3 k7 HL16 k5 k6
  go_enter Try.func27, Try.ntmps27
  go_wp2_with fail
  refine k1.mono ?_
  rintro e wc ⟨rfl, hbc⟩
  replace q2 := (hbc.block w.heap.size (by omega)).trans q2
  replace q3 := (hbc.block (w.heap.size + 1) (by omega)).trans q3
  replace q4 := q4.trans (hbc.mono q4.size)
  replace hz0 := Nat.le_trans hz0 hbc.size
  obtain ⟨c0, c1, c2, c3, c4, c5, c6, c7, c8, c9, c10⟩ := cells11 q2
  obtain ⟨e0, e1, e2, e3, e4, e5, e6, e7, e8, e9, e10⟩ := cells11 q3
  obtain ⟨f0, f1, f2, f3, f4, f5, f6, f7, f8, f9, f10⟩ := f_cells11 q3
  clear hbc k1
  have S : Hid _ := set11_block q3 (.int .i64 0) (.int .u64 0) (.int .i64 0) (.slice none 0 0) (.int .u64 0) (.int .i64 0) (.slice none 0 0) (.int .i64 0) (.slice none 0 0) (.slice none 0 0) (.int .i64 0)
  have SB : Hid _ := set11_below (.int .i64 0) (.int .u64 0) (.int .i64 0) (.slice none 0 0) (.int .u64 0) (.int .i64 0) (.slice none 0 0) (.int .i64 0) (.slice none 0 0) (.slice none 0 0) (.int .i64 0) (g := w.heap.size + 1) q4 (Nat.le_succ _)
  clear q2 q3 q4 hz0
  go_wp2
  refine bodyPost_ret (results_txe rfl _ _ (w.heap.size + 1) _ _ _ _ _ _ _ _ _ _ _ rfl S.out) rfl ?_
  exact ⟨⟨(none, 0), (none, 0), (none, 0), (none, 0), by rw [E.out]; rfl, by rw [E.out]; exact fun W _ _ => (XO.none 0 W).xr⟩, SB.out⟩
 | true =>
  try simp only [if_true] at k1
  by_cases h0 : g ∈ gs
  ·rw [decide_eq_true h0] at k5
   by_cases h1 : st = 1
   ·have h1d : (st != 1) = false := by simp [h1]
    by_cases h2 : c = 0
    ·have h2d : (c == 0) = true := by simp [h2]
     have h2e : (c != 0) = false := by simp [h2]
     by_cases h3 : g ∈ ys
     ·rw [decide_eq_true h3] at k6
      have E : Hid (R = (noX, 6)) := by show _ = _; rw [HRR.out]; rw [if_pos rfl, if_pos h0, if_pos h1, if_pos h2, if_pos h3]
      clear HRR k2 k3 k7 HL16 h0 h1 h2 h3
      go_enter Try.func27, Try.ntmps27
      go_wp2_with fail
      refine k1.mono ?_
      rintro e wc ⟨rfl, hbc⟩
      replace q2 := (hbc.block w.heap.size (by omega)).trans q2
      replace q3 := (hbc.block (w.heap.size + 1) (by omega)).trans q3
      replace q4 := q4.trans (hbc.mono q4.size)
      replace hz0 := Nat.le_trans hz0 hbc.size
      obtain ⟨c0, c1, c2, c3, c4, c5, c6, c7, c8, c9, c10⟩ := cells11 q2
      obtain ⟨e0, e1, e2, e3, e4, e5, e6, e7, e8, e9, e10⟩ := cells11 q3
      obtain ⟨f0, f1, f2, f3, f4, f5, f6, f7, f8, f9, f10⟩ := f_cells11 q3
      clear hbc k1
      go_wp2_with fail
      refine (k5.out _ q4).mono ?_
      rintro e wq ⟨rfl, hwq⟩
      subst wq
      clear k5
      go_wp2_with fail
      refine (k6.out _ q4).mono ?_
      rintro e wq ⟨rfl, hwq⟩
      subst wq
      clear k6
      have S : Hid _ := set11_block q3 (.int .i64 0) (.int .u64 0) (.int .i64 0) (.slice none 0 0) (.int .u64 0) (.int .i64 0) (.slice none 0 0) (.int .i64 0) (.slice none 0 0) (.slice none 0 0) (.int .i64 0)
      have SB : Hid _ := set11_below (.int .i64 0) (.int .u64 0) (.int .i64 0) (.slice none 0 0) (.int .u64 0) (.int .i64 0) (.slice none 0 0) (.int .i64 0) (.slice none 0 0) (.slice none 0 0) (.int .i64 0) (g := w.heap.size + 1) q4 (Nat.le_succ _)
      clear q2 q3 q4 hz0
      go_wp2
      refine bodyPost_ret (results_txe rfl _ _ (w.heap.size + 1) _ _ _ _ _ _ _ _ _ _ _ rfl S.out) rfl ?_
      exact ⟨⟨(none, 0), (none, 0), (none, 0), (none, 0), by rw [E.out]; rfl, by rw [E.out]; exact fun W _ _ => (XO.none 0 W).xr⟩, SB.out⟩
     ·rw [decide_eq_false h3] at k6
      have E : Hid (R = (agreeM (setY ⟨(i1, i2), kd, ks, tk, tt, gs, st, ys, ds, cd⟩ L) a, 0)) := by show _ = _; rw [HRR.out]; rw [if_pos rfl, if_pos h0, if_pos h1, if_pos h2, if_neg h3]
      clear HRR h0 h1 h2 h3 HL16
      go_enter Try.func27, Try.ntmps27
      go_wp2_with fail
      refine k1.mono ?_
      rintro e wc ⟨rfl, hbc⟩
      replace q2 := (hbc.block w.heap.size (by omega)).trans q2
      replace q3 := (hbc.block (w.heap.size + 1) (by omega)).trans q3
      replace q4 := q4.trans (hbc.mono q4.size)
      replace hz0 := Nat.le_trans hz0 hbc.size
      obtain ⟨c0, c1, c2, c3, c4, c5, c6, c7, c8, c9, c10⟩ := cells11 q2
      obtain ⟨e0, e1, e2, e3, e4, e5, e6, e7, e8, e9, e10⟩ := cells11 q3
      obtain ⟨f0, f1, f2, f3, f4, f5, f6, f7, f8, f9, f10⟩ := f_cells11 q3
      clear hbc k1
      go_wp2_with fail
      refine (k5.out _ q4).mono ?_
      rintro e wq ⟨rfl, hwq⟩
      subst wq
      clear k5
      go_wp2_with fail
      refine (k6.out _ q4).mono ?_
      rintro e wq ⟨rfl, hwq⟩
      subst wq
      clear k6
      go_wp2_with fail
      refine (k7.out _ q4).mono ?_
      rintro e w2 ⟨u, rfl, hO, hbc⟩
      obtain ⟨ua, uc, rfl, -⟩ := hO.1.shape
      replace q2 := (hbc.block w.heap.size (by omega)).trans q2
      replace q3 := (hbc.block (w.heap.size + 1) (by omega)).trans q3
      replace hO := hO.mono q4.size
      replace q4 := q4.trans (hbc.mono q4.size)
      replace hz0 := Nat.le_trans hz0 hbc.size
      clear hbc k7
      obtain ⟨c0, c1, c2, c3, c4, c5, c6, c7, c8, c9, c10⟩ := cells11 q2
      obtain ⟨s0, s1, s2, s3, s4, s5, s6, s7, s8, s9, s10⟩ := f_cells11 q2
      have X2 := set_block q2 (j := 8) (.slice ua L.length uc)
      have Y2 : (w2.setCell ⟨w.heap.size, 8, none⟩ (.slice ua L.length uc)).heap[w.heap.size + 1]? = _ := (set_other (by omega)).trans q3
      have B2 := q4.setCell (p := ⟨w.heap.size, 8, none⟩) (Nat.le_refl _) (.slice ua L.length uc)
      have OU := (hO.at_other (w' := w2.setCell ⟨w.heap.size, 8, none⟩ (.slice ua L.length uc)) q2 (by decide) (fun k hk => set_other hk))
      obtain ⟨W2, hW2⟩ : ∃ W, w2.setCell ⟨w.heap.size, 8, none⟩ (.slice ua L.length uc) = W := ⟨_, rfl⟩
      rw [hW2] at X2 Y2 B2 OU
      simp only [List.setIfInBounds_toArray, List.set_cons_zero, List.set_cons_succ] at X2
      have HX : Hid (∀ W, XR W ⟨⟨(i1, i2), kd, ks, tk, tt, gs, st, ys, ds, cd⟩, (ka, kc), (ga, gc), (ya, yc), (da, dc)⟩ → Rd intE W (.slice ua L.length uc) L → XR W ⟨setY ⟨(i1, i2), kd, ks, tk, tt, gs, st, ys, ds, cd⟩ L, (ka, kc), (ga, gc), (ua, uc), (da, dc)⟩) := fun W h hu => ⟨h.1, h.2.1, hu, h.2.2.2⟩
      clear q2 q3 q4 hz0 hO
      obtain ⟨n0, n1, n2, n3, n4, n5, n6, n7, n8, n9, n10⟩ := cells11 X2
      have k4 := k3.out (ua, uc) W2 (HX.out W2 (k2.out.below B2) OU.1.rd)
      have HY : Hid (∀ W, XR W ⟨⟨(i1, i2), kd, ks, tk, tt, gs, st, ys, ds, cd⟩, (ka, kc), (ga, gc), (ya, yc), (da, dc)⟩ → Rd intE W (.slice ua L.length uc) L → XR W ⟨agreeM (setY ⟨(i1, i2), kd, ks, tk, tt, gs, st, ys, ds, cd⟩ L) a, (ka, kc), (ga, gc), (ua, uc), (da, dc)⟩) := fun W h1 h2 => XR.agree a (HX.out W h1 h2)
      replace OU : Hid _ := OU
      generalize agreeM (setY ⟨(i1, i2), kd, ks, tk, tt, gs, st, ys, ds, cd⟩ L) a = r at *
      clear k2 k3 HX
      dsimp only [xv, setY] at k4
      obtain ⟨⟨r1, r2⟩, r3, r4, r5, r6, r7, r8, r9, r10, r11⟩ := r
      dsimp only at k4
      go_wp2_with fail
      refine k4.mono ?_
      rintro e we ⟨rfl, hbc⟩
      have Y3 := (hbc.block (w.heap.size + 1) (by have := Array.getElem?_eq_some_iff.1 Y2; exact this.1)).trans Y2
      have B3 := B2.trans (hbc.mono B2.size)
      have O6 := Ow.below OU.out hbc
      clear hbc k4 X2 OU
      obtain ⟨e0, e1, e2, e3, e4, e5, e6, e7, e8, e9, e10⟩ := cells11 Y3
      obtain ⟨g0, g1, g2, g3, g4, g5, g6, g7, g8, g9, g10⟩ := f_cells11 Y3
      have S : Hid _ := set11_block Y3 (.int .i64 r1) (.int .u64 (r2 : Int)) (.int .i64 r3) (.slice ka r4.length kc) (.int .u64 (r5 : Int)) (.int .i64 r6) (.slice ga r7.length gc) (.int .i64 r8) (.slice ua r9.length uc) (.slice da r10.length dc) (.int .i64 r11)
      have SB : Hid _ := set11_below (.int .i64 r1) (.int .u64 (r2 : Int)) (.int .i64 r3) (.slice ka r4.length kc) (.int .u64 (r5 : Int)) (.int .i64 r6) (.slice ga r7.length gc) (.int .i64 r8) (.slice ua r9.length uc) (.slice da r10.length dc) (.int .i64 r11) (g := w.heap.size + 1) B3 (Nat.le_succ _)
      have SO : Hid _ := Ow.at_other O6 Y3 (by decide) (fun k hk => set11_other (.int .i64 r1) (.int .u64 (r2 : Int)) (.int .i64 r3) (.slice ka r4.length kc) (.int .u64 (r5 : Int)) (.int .i64 r6) (.slice ga r7.length gc) (.int .i64 r8) (.slice ua r9.length uc) (.slice da r10.length dc) (.int .i64 r11) hk)
      clear Y2 Y3 B2 B3 O6
      go_wp2
      refine bodyPost_ret (results_txe rfl _ _ (w.heap.size + 1) _ _ _ _ _ _ _ _ _ _ _ rfl S.out) rfl ?_
      exact ⟨⟨(ka, kc), (ga, gc), (ua, uc), (da, dc), by first | (rw [E.out]; done) | (rw [E.out]; rfl), by rw [E.out]; exact fun W h hk => HY.out W h (Ow.keepK SO.out (Nat.le_refl _) hk)⟩, SB.out⟩
    ·have h2d : (c == 0) = false := by simpa using h2
     have h2e : (c != 0) = true := by simpa using h2
     have E : Hid (R = (setV ⟨(i1, i2), kd, ks, tk, tt, gs, st, ys, ds, cd⟩ c, 0)) := by show _ = _; rw [HRR.out]; rw [if_pos rfl, if_pos h0, if_pos h1, if_neg h2]
     clear HRR h0 h1 h2 k3 k6 k7 HL16
     go_enter Try.func27, Try.ntmps27
     go_wp2_with fail
     refine k1.mono ?_
     rintro e wc ⟨rfl, hbc⟩
     replace q2 := (hbc.block w.heap.size (by omega)).trans q2
     replace q3 := (hbc.block (w.heap.size + 1) (by omega)).trans q3
     replace q4 := q4.trans (hbc.mono q4.size)
     replace hz0 := Nat.le_trans hz0 hbc.size
     obtain ⟨c0, c1, c2, c3, c4, c5, c6, c7, c8, c9, c10⟩ := cells11 q2
     obtain ⟨e0, e1, e2, e3, e4, e5, e6, e7, e8, e9, e10⟩ := cells11 q3
     obtain ⟨f0, f1, f2, f3, f4, f5, f6, f7, f8, f9, f10⟩ := f_cells11 q3
     clear hbc k1
     go_wp2_with fail
     refine (k5.out _ q4).mono ?_
     rintro e wq ⟨rfl, hwq⟩
     subst wq
     clear k5
     obtain ⟨s0, s1, s2, s3, s4, s5, s6, s7, s8, s9, s10⟩ := f_cells11 q2
     have X2 := set_block (set_block q2 (j := 7) (.int .i64 3)) (j := 10) (.int .i64 c)
     have Y2 : ((wc.setCell ⟨w.heap.size, 7, none⟩ (.int .i64 3)).setCell ⟨w.heap.size, 10, none⟩ (.int .i64 c)).heap[w.heap.size + 1]? = _ := (set_other (by omega)).trans ((set_other (by omega)).trans q3)
     have B2 := (q4.setCell (p := ⟨w.heap.size, 7, none⟩) (Nat.le_refl _) (.int .i64 3)).setCell (p := ⟨w.heap.size, 10, none⟩) (Nat.le_refl _) (.int .i64 c)
     obtain ⟨W2, hW2⟩ : ∃ W, (wc.setCell ⟨w.heap.size, 7, none⟩ (.int .i64 3)).setCell ⟨w.heap.size, 10, none⟩ (.int .i64 c) = W := ⟨_, rfl⟩
     rw [hW2] at X2 Y2 B2
     simp only [List.setIfInBounds_toArray, List.set_cons_zero, List.set_cons_succ] at X2
     clear q2 q3 q4 hz0
     obtain ⟨n0, n1, n2, n3, n4, n5, n6, n7, n8, n9, n10⟩ := cells11 X2
     obtain ⟨e0, e1, e2, e3, e4, e5, e6, e7, e8, e9, e10⟩ := cells11 Y2
     obtain ⟨g0, g1, g2, g3, g4, g5, g6, g7, g8, g9, g10⟩ := f_cells11 Y2
     have S : Hid _ := set11_block Y2 (.int .i64 i1) (.int .u64 (i2 : Int)) (.int .i64 kd) (.slice ka ks.length kc) (.int .u64 (tk : Int)) (.int .i64 tt) (.slice ga gs.length gc) (.int .i64 3) (.slice ya ys.length yc) (.slice da ds.length dc) (.int .i64 c)
     have SB : Hid _ := set11_below (.int .i64 i1) (.int .u64 (i2 : Int)) (.int .i64 kd) (.slice ka ks.length kc) (.int .u64 (tk : Int)) (.int .i64 tt) (.slice ga gs.length gc) (.int .i64 3) (.slice ya ys.length yc) (.slice da ds.length dc) (.int .i64 c) (g := w.heap.size + 1) B2 (Nat.le_succ _)
     clear Y2 B2 X2 k2
     go_wp2
     refine bodyPost_ret (results_txe rfl _ _ (w.heap.size + 1) _ _ _ _ _ _ _ _ _ _ _ rfl S.out) rfl ?_
     exact ⟨⟨(ka, kc), (ga, gc), (ya, yc), (da, dc), by rw [E.out]; rfl, by rw [E.out]; exact fun W h _ => XR.setV c h⟩, SB.out⟩
   ·have h1d : (st != 1) = true := by simpa using h1
    have E : Hid (R = (noX, 7)) := by show _ = _; rw [HRR.out]; rw [if_pos rfl, if_pos h0, if_neg h1]
    clear HRR k2 k3 k7 HL16 h0 h1 k6
    go_enter Try.func27, Try.ntmps27
    go_wp2_with fail
    refine k1.mono ?_
    rintro e wc ⟨rfl, hbc⟩
    replace q2 := (hbc.block w.heap.size (by omega)).trans q2
    replace q3 := (hbc.block (w.heap.size + 1) (by omega)).trans q3
    replace q4 := q4.trans (hbc.mono q4.size)
    replace hz0 := Nat.le_trans hz0 hbc.size
    obtain ⟨c0, c1, c2, c3, c4, c5, c6, c7, c8, c9, c10⟩ := cells11 q2
    obtain ⟨e0, e1, e2, e3, e4, e5, e6, e7, e8, e9, e10⟩ := cells11 q3
    obtain ⟨f0, f1, f2, f3, f4, f5, f6, f7, f8, f9, f10⟩ := f_cells11 q3
    clear hbc k1
    go_wp2_with fail
    refine (k5.out _ q4).mono ?_
    rintro e wq ⟨rfl, hwq⟩
    subst wq
    clear k5
    have S : Hid _ := set11_block q3 (.int .i64 0) (.int .u64 0) (.int .i64 0) (.slice none 0 0) (.int .u64 0) (.int .i64 0) (.slice none 0 0) (.int .i64 0) (.slice none 0 0) (.slice none 0 0) (.int .i64 0)
    have SB : Hid _ := set11_below (.int .i64 0) (.int .u64 0) (.int .i64 0) (.slice none 0 0) (.int .u64 0) (.int .i64 0) (.slice none 0 0) (.int .i64 0) (.slice none 0 0) (.slice none 0 0) (.int .i64 0) (g := w.heap.size + 1) q4 (Nat.le_succ _)
    clear q2 q3 q4 hz0
    go_wp2
    refine bodyPost_ret (results_txe rfl _ _ (w.heap.size + 1) _ _ _ _ _ _ _ _ _ _ _ rfl S.out) rfl ?_
    exact ⟨⟨(none, 0), (none, 0), (none, 0), (none, 0), by rw [E.out]; rfl, by rw [E.out]; exact fun W _ _ => (XO.none 0 W).xr⟩, SB.out⟩
  ·rw [decide_eq_false h0] at k5
   have E : Hid (R = (noX, 4)) := by show _ = _; rw [HRR.out]; rw [if_pos rfl, if_neg h0]
   clear HRR k2 k3 k7 HL16 h0 k6
   go_enter Try.func27, Try.ntmps27
   go_wp2_with fail
   refine k1.mono ?_
   rintro e wc ⟨rfl, hbc⟩
   replace q2 := (hbc.block w.heap.size (by omega)).trans q2
   replace q3 := (hbc.block (w.heap.size + 1) (by omega)).trans q3
   replace q4 := q4.trans (hbc.mono q4.size)
   replace hz0 := Nat.le_trans hz0 hbc.size
   obtain ⟨c0, c1, c2, c3, c4, c5, c6, c7, c8, c9, c10⟩ := cells11 q2
   obtain ⟨e0, e1, e2, e3, e4, e5, e6, e7, e8, e9, e10⟩ := cells11 q3
   obtain ⟨f0, f1, f2, f3, f4, f5, f6, f7, f8, f9, f10⟩ := f_cells11 q3
   clear hbc k1
   go_wp2_with fail
   refine (k5.out _ q4).mono ?_
   rintro e wq ⟨rfl, hwq⟩
   subst wq
   clear k5
   have S : Hid _ := set11_block q3 (.int .i64 0) (.int .u64 0) (.int .i64 0) (.slice none 0 0) (.int .u64 0) (.int .i64 0) (.slice none 0 0) (.int .i64 0) (.slice none 0 0) (.slice none 0 0) (.int .i64 0)
   have SB : Hid _ := set11_below (.int .i64 0) (.int .u64 0) (.int .i64 0) (.slice none 0 0) (.int .u64 0) (.int .i64 0) (.slice none 0 0) (.int .i64 0) (.slice none 0 0) (.slice none 0 0) (.int .i64 0) (g := w.heap.size + 1) q4 (Nat.le_succ _)
   clear q2 q3 q4 hz0
   go_wp2
   refine bodyPost_ret (results_txe rfl _ _ (w.heap.size + 1) _ _ _ _ _ _ _ _ _ _ _ rfl S.out) rfl ?_
   exact ⟨⟨(none, 0), (none, 0), (none, 0), (none, 0), by rw [E.out]; rfl, by rw [E.out]; exact fun W _ _ => (XO.none 0 W).xr⟩, SB.out⟩
end Go.Proofs.Ytglbjimpaoikfaa

