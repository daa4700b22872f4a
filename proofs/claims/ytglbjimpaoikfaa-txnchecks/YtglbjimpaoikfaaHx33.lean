import Derived.Test.YtglbjimpaoikfaaHx31
import Derived.Test.YtglbjimpaoikfaaHx32
/- Same of txn and of the document, SameReply, SameCall: alike ones are alike. -/
namespace Go.Proofs.Ytglbjimpaoikfaa
open Go.RowKit LeaseMath
set_option maxRecDepth 100000
set_option linter.unusedSimpArgs false
set_option linter.unusedVariables false

@[go_sem high] theorem eqIn_id (w : World) (c : Int) (q : Nat) : (Op.equalIn 10000 24 (.agg #[.int .i64 c, .int .u64 (q : Int)]) (.agg #[.int .i64 c, .int .u64 (q : Int)])).run Try.prog w = .ok true w := by
 have u4 := Try.underlying3
 have a4 := Try.isAgg3
 have z4 := Try.sizeOf3
 have u5 := Try.underlying22
 have a5 := Try.isAgg22
 have z5 := Try.sizeOf22
 have hS2 : Try.prog.underlying 24 = some (.struct (Try.prog.fieldsOf 24)) := by kernel_rfl
 have hp2 : Try.prog.stoodInHeld 24 = false := by kernel_rfl
 rw [show (10000 : Nat) = 9999 + 1 from rfl, run_equalIn_agg w 9999 24 _ _ hS2 hp2]
 simp only [Program.fieldsOf, Try.underlying24]
 go_simp
theorem sameReply_of (c : Int) (t : Nat) (w : World) : Calls Try.prog 13 #[rpv c t, rpv c t] w fun e w' => e = .returned (.bool true) ∧ Below w.heap.size w w' := by
 obtain ⟨q1, q2, q3, q4⟩ := two_boxesX w (.cells #[.int .i64 c, .int .u64 (t : Int), .slice none 0 0] 34) (.cells #[.int .i64 c, .int .u64 (t : Int), .slice none 0 0] 34)
 obtain ⟨c0, c1, c2⟩ := cells3 q2
 obtain ⟨d0, d1, d2⟩ := cells3 q3
 have h1 : (c != c) = false := by simp
 have h2 : ((t : Int) != (t : Int)) = false := by simp
 clear q1 q2 q3
 go_enter Try.func13, Try.ntmps13
 go_wp2
 go_loopg [5] 0 (fun g s5 wr => s5 = .int .i64 0 ∧ wr = (w.alloc (.cells #[.int .i64 c, .int .u64 (t : Int), .slice none 0 0] 34)).alloc (.cells #[.int .i64 c, .int .u64 (t : Int), .slice none 0 0] 34))
 case atStart => exact ⟨rfl, rfl⟩
 case round =>
  obtain ⟨rfl, rfl⟩ := hrel
  go_wp2
  go_ret
  exact ⟨rfl, q4⟩
theorem sameCall_of (c : Cl) (a b : Sa) (w : World) (hA : Rd kyE w (.slice a.1 c.keys.length a.2) c.keys) (hB : Rd kyE w (.slice b.1 c.keys.length b.2) c.keys) (hlen : c.keys.length ≤ 1000000) : Calls Try.prog 19 #[cv c a, cv c b] w fun e w' => e = .returned (.bool true) ∧ Below w.heap.size w w' := by
 obtain ⟨q1, q2, q3, q4⟩ := two_boxesX w (.cells #[.int .i64 c.kind, .slice a.1 c.keys.length a.2, .int .u64 (c.token : Int), .int .i64 c.ttl] 43) (.cells #[.int .i64 c.kind, .slice b.1 c.keys.length b.2, .int .u64 (c.token : Int), .int .i64 c.ttl] 43)
 obtain ⟨w0, hw0⟩ : ∃ W, (w.alloc (.cells #[.int .i64 c.kind, .slice a.1 c.keys.length a.2, .int .u64 (c.token : Int), .int .i64 c.ttl] 43)).alloc (.cells #[.int .i64 c.kind, .slice b.1 c.keys.length b.2, .int .u64 (c.token : Int), .int .i64 c.ttl] 43) = W := ⟨_, rfl⟩
 rw [hw0] at q1 q2 q3 q4
 have k1 := texts_of c.keys _ _ w0 (hA.below q4) (hB.below q4) (by omega)
 obtain ⟨c0, c1, c2, c3⟩ := cells4 q2
 obtain ⟨d0, d1, d2, d3⟩ := cells4 q3
 clear hA hB hlen q2 q3
 obtain ⟨kd, ks, tk, tt⟩ := c
 obtain ⟨aa, ac⟩ := a
 obtain ⟨ba, bc⟩ := b
 dsimp only [cv] at *
 have q5 : w.heap.size ≤ w0.heap.size := q4.size
 clear q1
 go_enter Try.func19, Try.ntmps19
 go_wp2_with fail
 refine k1.mono ?_
 rintro e w1 ⟨rfl, hb1⟩
 go_wp2
 go_ret
 exact ⟨rfl, q4.trans (hb1.mono q5)⟩
set_option maxHeartbeats 4000000 in
theorem xsame_of (x : Tx) (k g y d k' g' y' d' : Sa) (w : World) (hR : XR w ⟨x, k, g, y, d⟩) (hS : XR w ⟨x, k', g', y', d'⟩) (gk : x.keys.length ≤ 1000000) (g1 : x.groups.length ≤ 1000000) (g2 : x.yes.length ≤ 1000000) (g3 : x.done.length ≤ 1000000) : Calls Try.prog 22 #[xv ⟨x, k, g, y, d⟩, xv ⟨x, k', g', y', d'⟩] w fun e w' => e = .returned (.bool true) ∧ Below w.heap.size w w' := by
 obtain ⟨q1, q2, q3, q4⟩ := two_boxesX w (xc ⟨x, k, g, y, d⟩) (xc ⟨x, k', g', y', d'⟩)
 obtain ⟨w0, hw0⟩ : ∃ W, (w.alloc (xc ⟨x, k, g, y, d⟩)).alloc (xc ⟨x, k', g', y', d'⟩) = W := ⟨_, rfl⟩
 rw [hw0] at q1 q2 q3 q4
 have r := hR.below q4
 have s := hS.below q4
 have A2 : Hid (∀ W, Below w0.heap.size w0 W → W.heap[w.heap.size]? = some (xc ⟨x, k, g, y, d⟩)) := fun W hW => (hW.block _ (by omega)).trans q2
 have A3 : Hid (∀ W, Below w0.heap.size w0 W → W.heap[w.heap.size + 1]? = some (xc ⟨x, k', g', y', d'⟩)) := fun W hW => (hW.block _ (by omega)).trans q3
 have A4 : Hid (∀ W, Below w0.heap.size w0 W → Below w.heap.size w W) := fun W hW => q4.trans (hW.mono (by omega))
 have k1 : Hid (∀ W, Below w0.heap.size w0 W → _) := fun W hW => equalk_of x.keys _ _ W (r.1.below hW) (s.1.below hW) (by omega)
 have k2 : Hid (∀ W, Below w0.heap.size w0 W → _) := fun W hW => equali_of x.groups _ _ W (r.2.1.below hW) (s.2.1.below hW) (by omega)
 have k3 : Hid (∀ W, Below w0.heap.size w0 W → _) := fun W hW => equali_of x.yes _ _ W (r.2.2.1.below hW) (s.2.2.1.below hW) (by omega)
 have k4 : Hid (∀ W, Below w0.heap.size w0 W → _) := fun W hW => equali_of x.done _ _ W (r.2.2.2.below hW) (s.2.2.2.below hW) (by omega)
 have hx0 : Below w0.heap.size w0 w0 := Below.refl _ _
 obtain ⟨⟨i1, i2⟩, kd, ks, tk, tt, gs, st, ys, ds, cd⟩ := x
 obtain ⟨ka, kc⟩ := k
 obtain ⟨ga, gc⟩ := g
 obtain ⟨ya, yc⟩ := y
 obtain ⟨da, dc⟩ := d
 obtain ⟨ka', kc'⟩ := k'
 obtain ⟨ga', gc'⟩ := g'
 obtain ⟨ya', yc'⟩ := y'
 obtain ⟨da', dc'⟩ := d'
 dsimp only [xv, xc] at *
 obtain ⟨c0, c1, c2, c3, c4, c5, c6, c7, c8, c9, c10⟩ := cells11 q2
 obtain ⟨d0, d1, d2, d3, d4, d5, d6, d7, d8, d9, d10⟩ := cells11 q3
 clear hR hS r s gk g1 g2 g3 q1 q2 q3 q4
 go_enter Try.func22, Try.ntmps22
 go_wp2_with fail
 refine (k1.out _ hx0).mono ?_
 rintro e w1 ⟨rfl, hbc⟩
 have hx1 := hx0.trans (hbc.mono hx0.size)
 obtain ⟨c0, c1, c2, c3, c4, c5, c6, c7, c8, c9, c10⟩ := cells11 (A2.out w1 hx1)
 obtain ⟨d0, d1, d2, d3, d4, d5, d6, d7, d8, d9, d10⟩ := cells11 (A3.out w1 hx1)
 clear hbc
 go_wp2_with fail
 refine (k2.out _ hx1).mono ?_
 rintro e w2 ⟨rfl, hbc⟩
 have hx2 := hx1.trans (hbc.mono hx1.size)
 obtain ⟨c0, c1, c2, c3, c4, c5, c6, c7, c8, c9, c10⟩ := cells11 (A2.out w2 hx2)
 obtain ⟨d0, d1, d2, d3, d4, d5, d6, d7, d8, d9, d10⟩ := cells11 (A3.out w2 hx2)
 clear hbc
 go_wp2_with fail
 refine (k3.out _ hx2).mono ?_
 rintro e w3 ⟨rfl, hbc⟩
 have hx3 := hx2.trans (hbc.mono hx2.size)
 obtain ⟨c0, c1, c2, c3, c4, c5, c6, c7, c8, c9, c10⟩ := cells11 (A2.out w3 hx3)
 obtain ⟨d0, d1, d2, d3, d4, d5, d6, d7, d8, d9, d10⟩ := cells11 (A3.out w3 hx3)
 clear hbc
 go_wp2_with fail
 refine (k4.out _ hx3).mono ?_
 rintro e w4 ⟨rfl, hbc⟩
 have hx4 := hx3.trans (hbc.mono hx3.size)
 obtain ⟨c0, c1, c2, c3, c4, c5, c6, c7, c8, c9, c10⟩ := cells11 (A2.out w4 hx4)
 obtain ⟨d0, d1, d2, d3, d4, d5, d6, d7, d8, d9, d10⟩ := cells11 (A3.out w4 hx4)
 clear hbc
 go_wp2
 go_ret
 exact ⟨rfl, A4.out _ hx4⟩
set_option maxHeartbeats 4000000 in
theorem rsame_of (x : Tx) (k g y d k' g' y' d' : Sa) (w : World) (hR : XR w ⟨x, k, g, y, d⟩) (hS : XR w ⟨x, k', g', y', d'⟩) (gk : x.keys.length ≤ 1000000) (g1 : x.groups.length ≤ 1000000) (g2 : x.yes.length ≤ 1000000) (g3 : x.done.length ≤ 1000000) : Calls Try.prog 49 #[xv ⟨x, k, g, y, d⟩, xv ⟨x, k', g', y', d'⟩] w fun e w' => e = .returned (.bool true) ∧ Below w.heap.size w w' := by
 obtain ⟨q1, q2, q3, q4⟩ := two_boxesX w (xc ⟨x, k, g, y, d⟩) (xc ⟨x, k', g', y', d'⟩)
 obtain ⟨w0, hw0⟩ : ∃ W, (w.alloc (xc ⟨x, k, g, y, d⟩)).alloc (xc ⟨x, k', g', y', d'⟩) = W := ⟨_, rfl⟩
 rw [hw0] at q1 q2 q3 q4
 have r := hR.below q4
 have s := hS.below q4
 have A2 : Hid (∀ W, Below w0.heap.size w0 W → W.heap[w.heap.size]? = some (xc ⟨x, k, g, y, d⟩)) := fun W hW => (hW.block _ (by omega)).trans q2
 have A3 : Hid (∀ W, Below w0.heap.size w0 W → W.heap[w.heap.size + 1]? = some (xc ⟨x, k', g', y', d'⟩)) := fun W hW => (hW.block _ (by omega)).trans q3
 have A4 : Hid (∀ W, Below w0.heap.size w0 W → Below w.heap.size w W) := fun W hW => q4.trans (hW.mono (by omega))
 have k1 : Hid (∀ W, Below w0.heap.size w0 W → _) := fun W hW => texts_of x.keys _ _ W (r.1.below hW) (s.1.below hW) (by omega)
 have k2 : Hid (∀ W, Below w0.heap.size w0 W → _) := fun W hW => intsS_of x.groups _ _ W (r.2.1.below hW) (s.2.1.below hW) (by omega)
 have k3 : Hid (∀ W, Below w0.heap.size w0 W → _) := fun W hW => intsS_of x.yes _ _ W (r.2.2.1.below hW) (s.2.2.1.below hW) (by omega)
 have k4 : Hid (∀ W, Below w0.heap.size w0 W → _) := fun W hW => intsS_of x.done _ _ W (r.2.2.2.below hW) (s.2.2.2.below hW) (by omega)
 have hx0 : Below w0.heap.size w0 w0 := Below.refl _ _
 obtain ⟨⟨i1, i2⟩, kd, ks, tk, tt, gs, st, ys, ds, cd⟩ := x
 obtain ⟨ka, kc⟩ := k
 obtain ⟨ga, gc⟩ := g
 obtain ⟨ya, yc⟩ := y
 obtain ⟨da, dc⟩ := d
 obtain ⟨ka', kc'⟩ := k'
 obtain ⟨ga', gc'⟩ := g'
 obtain ⟨ya', yc'⟩ := y'
 obtain ⟨da', dc'⟩ := d'
 dsimp only [xv, xc] at *
 obtain ⟨c0, c1, c2, c3, c4, c5, c6, c7, c8, c9, c10⟩ := cells11 q2
 obtain ⟨d0, d1, d2, d3, d4, d5, d6, d7, d8, d9, d10⟩ := cells11 q3
 clear hR hS r s gk g1 g2 g3 q1 q2 q3 q4
 go_enter Try.func49, Try.ntmps49
 go_wp2_with fail
 refine (k1.out _ hx0).mono ?_
 rintro e w1 ⟨rfl, hbc⟩
 have hx1 := hx0.trans (hbc.mono hx0.size)
 obtain ⟨c0, c1, c2, c3, c4, c5, c6, c7, c8, c9, c10⟩ := cells11 (A2.out w1 hx1)
 obtain ⟨d0, d1, d2, d3, d4, d5, d6, d7, d8, d9, d10⟩ := cells11 (A3.out w1 hx1)
 clear hbc
 go_wp2_with fail
 refine (k2.out _ hx1).mono ?_
 rintro e w2 ⟨rfl, hbc⟩
 have hx2 := hx1.trans (hbc.mono hx1.size)
 obtain ⟨c0, c1, c2, c3, c4, c5, c6, c7, c8, c9, c10⟩ := cells11 (A2.out w2 hx2)
 obtain ⟨d0, d1, d2, d3, d4, d5, d6, d7, d8, d9, d10⟩ := cells11 (A3.out w2 hx2)
 clear hbc
 go_wp2_with fail
 refine (k3.out _ hx2).mono ?_
 rintro e w3 ⟨rfl, hbc⟩
 have hx3 := hx2.trans (hbc.mono hx2.size)
 obtain ⟨c0, c1, c2, c3, c4, c5, c6, c7, c8, c9, c10⟩ := cells11 (A2.out w3 hx3)
 obtain ⟨d0, d1, d2, d3, d4, d5, d6, d7, d8, d9, d10⟩ := cells11 (A3.out w3 hx3)
 clear hbc
 go_wp2_with fail
 refine (k4.out _ hx3).mono ?_
 rintro e w4 ⟨rfl, hbc⟩
 have hx4 := hx3.trans (hbc.mono hx3.size)
 obtain ⟨c0, c1, c2, c3, c4, c5, c6, c7, c8, c9, c10⟩ := cells11 (A2.out w4 hx4)
 obtain ⟨d0, d1, d2, d3, d4, d5, d6, d7, d8, d9, d10⟩ := cells11 (A3.out w4 hx4)
 clear hbc
 go_wp2
 go_ret
 exact ⟨rfl, A4.out _ hx4⟩
end Go.Proofs.Ytglbjimpaoikfaa

