import Derived.Test.YtglbjimpaoikfaaHx48
import Derived.Test.YtglbjimpaoikfaaHx53
/- The law TxnTurns answers true. -/
namespace Go.Proofs.Ytglbjimpaoikfaa
open Go.RowKit LeaseMath
set_option maxRecDepth 100000
set_option linter.unusedSimpArgs false
set_option linter.unusedVariables false

theorem light_len {x : Tx} (h : lightX x = true) : x.keys.length ≤ 40 ∧ x.groups.length ≤ 40 ∧ x.yes.length ≤ 40 ∧ x.done.length ≤ 40 := by
 unfold lightX at h
 simp only [Bool.and_eq_true, decide_eq_true_eq] at h
 exact ⟨h.1.1.1, h.1.1.2, h.1.2, h.2⟩
theorem at_lt {w : World} {n : Nat} {x : Obj} (h : w.heap[n]? = some x) : n < w.heap.size := (Array.getElem?_eq_some_iff.1 h).1
set_option maxHeartbeats 32000000 in
theorem turns_law (z : Xz) (sa sg sc : Int) (sk : Nat) (w : World) (hR : XR w z) (gk : z.t.keys.length ≤ 140737488355328) (g1 : z.t.groups.length ≤ 140737488355328) (g2 : z.t.yes.length ≤ 140737488355328) (g3 : z.t.done.length ≤ 140737488355328) : Calls Try.prog 4 #[xv z, .agg #[.int .i64 sa, .int .i64 sg, .int .i64 sc, .int .u64 (sk : Int)]] w fun e w' => e = .returned (.bool true) ∧ Below w.heap.size w w' := by
 obtain ⟨q1, q2, q3, q4⟩ := two_boxesX w (xc z) (.cells #[.int .i64 sa, .int .i64 sg, .int .i64 sc, .int .u64 (sk : Int)] 47)
 obtain ⟨w0, hw0⟩ : ∃ W, (w.alloc (xc z)).alloc (.cells #[.int .i64 sa, .int .i64 sg, .int .i64 sc, .int .u64 (sk : Int)] 47) = W := ⟨_, rfl⟩
 rw [hw0] at q1 q2 q3 q4
 have k0 := light_of z w0 gk g1 g2 g3
 have HL : Hid (lightX z.t = true → _) := fun h => light_len h
 have HA : Hid (∀ W, Below (w.heap.size + 2) w0 W → Below w.heap.size w W ∧ W.heap[w.heap.size]? = some (xc z) ∧ W.heap[w.heap.size + 1]? = some (.cells #[.int .i64 sa, .int .i64 sg, .int .i64 sc, .int .u64 (sk : Int)] 47 (0, 0))) := fun W hW => ⟨q4.trans (hW.mono (by omega)), (hW.block w.heap.size (by omega)).trans q2, (hW.block (w.heap.size + 1) (by omega)).trans q3⟩
 have hn : Hid (w.heap.size + 2 ≤ w0.heap.size) := by show _ ≤ _; omega
 have hb0 : Below (w.heap.size + 2) w0 w0 := Below.refl _ _
 generalize hlx : lightX z.t = lx at *
 cases lx with
 | false =>
  clear HL hlx gk g1 g2 g3 hR
  obtain ⟨⟨⟨i1, i2⟩, kd, ks, tk, tt, gs, st, ys, ds, cd⟩, ⟨ka, kc⟩, ⟨ga, gc⟩, ⟨ya, yc⟩, ⟨da, dc⟩⟩ := z
  dsimp only [xv, xc] at *
  obtain ⟨c0, c1, c2, c3, c4, c5, c6, c7, c8, c9, c10⟩ := cells11 q2
  clear q1 q2 q3 q4
  go_enter Try.func4, Try.ntmps4
  go_wp2_with fail
  refine k0.mono ?_
  rintro e w1 ⟨rfl, hbc⟩
  have hb1 := keep_step hb0 hn.out hbc
  have k1 := awake_of w1
  clear k0 hbc
  go_wp2_with fail
  refine k1.mono ?_
  rintro e w2 ⟨rfl, hbc⟩
  go_wp2
  go_ret
  exact ⟨rfl, (HA.out _ (keep_step hb1 hn.out hbc)).1⟩
 | true =>
  have hl := HL.out rfl
  obtain ⟨gk', g1', g2', g3'⟩ := hl
  have A1 : Hid (∀ W, Below w.heap.size w W → _) := fun W hW => token_of z sk W (hR.below hW) (by omega) (by omega) (by omega) (by omega)
  have A2 : Hid (∀ W, Below w.heap.size w W → _) := fun W hW => rtoken_of z sk W (hR.below hW) (by omega) (by omega) (by omega) (by omega)
  have A3 : Hid (∀ W, Below w.heap.size w W → _) := fun W hW => voted_m z sg sc W (hR.below hW) gk' g1' g2' g3'
  have A4 : Hid (∀ W, Below w.heap.size w W → _) := fun W hW => rvoted_m z sg sc W (hR.below hW) gk' g1' g2' g3'
  have A5 : Hid (∀ W, Below w.heap.size w W → _) := fun W hW => applied_m z sg W (hR.below hW) gk' g1' g2' g3'
  have A6 : Hid (∀ W, Below w.heap.size w W → _) := fun W hW => rapplied_m z sg W (hR.below hW) gk' g1' g2' g3'
  have HZ : Hid (∀ W, Below w.heap.size w W → XR W z) := fun W hW => hR.below hW
  rw [token_both] at A2
  have L1 : Hid _ := token_len (x := z.t) (t := sk) (b := allB z.t z.t.yes) (n := 40) ⟨gk', g1', g2', g3'⟩
  have L2 : Hid _ := voted_len (x := z.t) (g := sg) (c := sc) (l := plusL z.t.yes sg 16) (b := subB z.t.groups (plusL z.t.yes sg 16)) (n := 40) (by have := plus_len z.t.yes sg 16; omega) ⟨gk', g1', g2', g3'⟩
  have L3 : Hid _ := applied_len (x := z.t) (g := sg) (l := plusL z.t.done sg 16) (b := subB z.t.groups (plusL z.t.done sg 16)) (n := 40) (by have := plus_len z.t.done sg 16; omega) ⟨gk', g1', g2', g3'⟩
  generalize tokenM z.t sk (allB z.t z.t.yes) = M1 at *
  generalize votedM z.t sg sc (plusL z.t.yes sg 16) (subB z.t.groups (plusL z.t.yes sg 16)) = M2 at *
  generalize appliedM z.t sg (plusL z.t.done sg 16) (subB z.t.groups (plusL z.t.done sg 16)) = M3 at *
  obtain ⟨X1, C1⟩ := M1
  obtain ⟨X2, C2⟩ := M2
  obtain ⟨X3, C3⟩ := M3
  dsimp only at L1 L2 L3
  have S1 : Hid (∀ (k g y d k' g' y' d' : Sa) W, XR W ⟨X1, k, g, y, d⟩ → XR W ⟨X1, k', g', y', d'⟩ → _) := fun k g y d k' g' y' d' W h1 h2 => lsame_of X1 C1 k g y d k' g' y' d' W h1 h2 (by have := L1.out.1; omega) (by have := L1.out.2.1; omega) (by have := L1.out.2.2.1; omega) (by have := L1.out.2.2.2; omega)
  have S2 : Hid (∀ (k g y d k' g' y' d' : Sa) W, XR W ⟨X2, k, g, y, d⟩ → XR W ⟨X2, k', g', y', d'⟩ → _) := fun k g y d k' g' y' d' W h1 h2 => lsame_of X2 C2 k g y d k' g' y' d' W h1 h2 (by have := L2.out.1; omega) (by have := L2.out.2.1; omega) (by have := L2.out.2.2.1; omega) (by have := L2.out.2.2.2; omega)
  have S3 : Hid (∀ (k g y d k' g' y' d' : Sa) W, XR W ⟨X3, k, g, y, d⟩ → XR W ⟨X3, k', g', y', d'⟩ → _) := fun k g y d k' g' y' d' W h1 h2 => lsame_of X3 C3 k g y d k' g' y' d' W h1 h2 (by have := L3.out.1; omega) (by have := L3.out.2.1; omega) (by have := L3.out.2.2.1; omega) (by have := L3.out.2.2.2; omega)
  clear HL hlx gk g1 g2 g3 gk' g1' g2' g3' L1 L2 L3 hR
  obtain ⟨⟨⟨i1, i2⟩, kd, ks, tk, tt, gs, st, ys, ds, cd⟩, ⟨ka, kc⟩, ⟨ga, gc⟩, ⟨ya, yc⟩, ⟨da, dc⟩⟩ := z
  dsimp only [xv, xc] at k0 A1 A2 A3 A4 A5 A6 HA q2 S1 S2 S3
  have HX : Hid (∀ W, Below (w.heap.size + 2) w0 W → _) := fun W hW => cells11 (HA.out W hW).2.1
  have HS : Hid (∀ W, Below (w.heap.size + 2) w0 W → _) := fun W hW => cells4 (HA.out W hW).2.2
  have HB : Hid (∀ W, Below (w.heap.size + 2) w0 W → Below w.heap.size w W) := fun W hW => (HA.out W hW).1
  obtain ⟨c0, c1, c2, c3, c4, c5, c6, c7, c8, c9, c10⟩ := cells11 q2
  clear q1 q2 q3 q4 HA
  go_enter Try.func4, Try.ntmps4
  go_wp2_with fail
  refine k0.mono ?_
  rintro e w1 ⟨rfl, hbc⟩
  have hb1 := keep_step hb0 hn.out hbc
  have k1 := A1.out w1 (HB.out _ hb1)
  obtain ⟨c0, c1, c2, c3, c4, c5, c6, c7, c8, c9, c10⟩ := HX.out _ hb1
  obtain ⟨s0, s1, s2, s3⟩ := HS.out _ hb1
  clear k0 hbc hb0 A1
  go_wp2_with fail
  refine k1.mono ?_
  rintro e w2 ⟨⟨⟨ka1, kc1⟩, ⟨ga1, gc1⟩, ⟨ya1, yc1⟩, ⟨da1, dc1⟩, rfl, O1⟩, hbc⟩
  have hb2 := keep_step hb1 hn.out hbc
  have hn2 : w.heap.size + 2 ≤ w2.heap.size := Nat.le_trans hn.out hb2.size
  obtain ⟨z2, r2, p2⟩ := one_box w2 (.cells #[.int .i64 X1.id.1, .int .u64 (X1.id.2 : Int), .int .i64 X1.kind, .slice ka1 X1.keys.length kc1, .int .u64 (X1.token : Int), .int .i64 X1.ttl, .slice ga1 X1.groups.length gc1, .int .i64 X1.state, .slice ya1 X1.yes.length yc1, .slice da1 X1.done.length dc1, .int .i64 X1.code] 29)
  have hb2a := keep_step hb2 hn.out p2
  have P1 : XR _ ⟨X1, (ka1, kc1), (ga1, gc1), (ya1, yc1), (da1, dc1)⟩ := O1.xr.below p2
  have k2 := A2.out _ (HB.out _ hb2a)
  obtain ⟨c0, c1, c2, c3, c4, c5, c6, c7, c8, c9, c10⟩ := HX.out _ hb2a
  obtain ⟨s0, s1, s2, s3⟩ := HS.out _ hb2a
  have hA2 : Hid (w.heap.size + 2 ≤ w2.heap.size) := hn2
  replace P1 : Hid (XR _ ⟨X1, (ka1, kc1), (ga1, gc1), (ya1, yc1), (da1, dc1)⟩) := P1
  replace r2 : Hid ((w2.alloc (.cells #[.int .i64 X1.id.1, .int .u64 (X1.id.2 : Int), .int .i64 X1.kind, .slice ka1 X1.keys.length kc1, .int .u64 (X1.token : Int), .int .i64 X1.ttl, .slice ga1 X1.groups.length gc1, .int .i64 X1.state, .slice ya1 X1.yes.length yc1, .slice da1 X1.done.length dc1, .int .i64 X1.code] 29)).heap[w2.heap.size]? = some (.cells #[.int .i64 X1.id.1, .int .u64 (X1.id.2 : Int), .int .i64 X1.kind, .slice ka1 X1.keys.length kc1, .int .u64 (X1.token : Int), .int .i64 X1.ttl, .slice ga1 X1.groups.length gc1, .int .i64 X1.state, .slice ya1 X1.yes.length yc1, .slice da1 X1.done.length dc1, .int .i64 X1.code] 29 (0, 0))) := r2
  clear k1 hbc hb1 hb2 hn2 O1 z2 p2 A2
  go_wp2_with fail
  refine k2.mono ?_
  rintro e w3 ⟨⟨⟨ka2, kc2⟩, ⟨ga2, gc2⟩, ⟨ya2, yc2⟩, ⟨da2, dc2⟩, rfl, O2⟩, hbc⟩
  have a3 := (hbc.block _ (at_lt r2.out)).trans r2.out
  have hb3 := keep_step hb2a hn.out hbc
  obtain ⟨z3, r3, p3⟩ := one_box w3 (.cells #[.int .i64 X1.id.1, .int .u64 (X1.id.2 : Int), .int .i64 X1.kind, .slice ka2 X1.keys.length kc2, .int .u64 (X1.token : Int), .int .i64 X1.ttl, .slice ga2 X1.groups.length gc2, .int .i64 X1.state, .slice ya2 X1.yes.length yc2, .slice da2 X1.done.length dc2, .int .i64 X1.code] 29)
  have hb3a := keep_step hb3 hn.out p3
  have a4 := (p3.block _ (at_lt a3)).trans a3
  have k3 := S1.out _ _ _ _ _ _ _ _ _ ((XR.below P1.out hbc).below p3) (XR.below O2 p3)
  obtain ⟨c0, c1, c2, c3, c4, c5, c6, c7, c8, c9, c10⟩ := cells11 a4
  obtain ⟨d0, d1, d2, d3, d4, d5, d6, d7, d8, d9, d10⟩ := cells11 r3
  have hAB : Hid (w2.heap.size ≠ w3.heap.size) := by have := at_lt a3; show _ ≠ _; omega
  have hB2 : Hid (w.heap.size + 2 ≤ w3.heap.size) := Nat.le_trans hn.out hb3.size
  replace r3 : Hid ((w3.alloc (.cells #[.int .i64 X1.id.1, .int .u64 (X1.id.2 : Int), .int .i64 X1.kind, .slice ka2 X1.keys.length kc2, .int .u64 (X1.token : Int), .int .i64 X1.ttl, .slice ga2 X1.groups.length gc2, .int .i64 X1.state, .slice ya2 X1.yes.length yc2, .slice da2 X1.done.length dc2, .int .i64 X1.code] 29)).heap[w3.heap.size]? = some (.cells #[.int .i64 X1.id.1, .int .u64 (X1.id.2 : Int), .int .i64 X1.kind, .slice ka2 X1.keys.length kc2, .int .u64 (X1.token : Int), .int .i64 X1.ttl, .slice ga2 X1.groups.length gc2, .int .i64 X1.state, .slice ya2 X1.yes.length yc2, .slice da2 X1.done.length dc2, .int .i64 X1.code] 29 (0, 0))) := r3
  replace a4 : Hid ((w3.alloc (.cells #[.int .i64 X1.id.1, .int .u64 (X1.id.2 : Int), .int .i64 X1.kind, .slice ka2 X1.keys.length kc2, .int .u64 (X1.token : Int), .int .i64 X1.ttl, .slice ga2 X1.groups.length gc2, .int .i64 X1.state, .slice ya2 X1.yes.length yc2, .slice da2 X1.done.length dc2, .int .i64 X1.code] 29)).heap[w2.heap.size]? = some (.cells #[.int .i64 X1.id.1, .int .u64 (X1.id.2 : Int), .int .i64 X1.kind, .slice ka1 X1.keys.length kc1, .int .u64 (X1.token : Int), .int .i64 X1.ttl, .slice ga1 X1.groups.length gc1, .int .i64 X1.state, .slice ya1 X1.yes.length yc1, .slice da1 X1.done.length dc1, .int .i64 X1.code] 29 (0, 0))) := a4
  clear k2 hbc hb2a hb3 P1 O2 z3 p3 a3 S1 r2
  go_wp2_with fail
  refine k3.mono ?_
  rintro e w4 ⟨rfl, hbc⟩
  have a5 := (hbc.block _ (at_lt a4.out)).trans a4.out
  have b5 := (hbc.block _ (at_lt r3.out)).trans r3.out
  have hb4 := keep_step hb3a hn.out hbc
  have k4 := A3.out _ (HB.out _ hb4)
  obtain ⟨c0, c1, c2, c3, c4, c5, c6, c7, c8, c9, c10⟩ := HX.out _ hb4
  obtain ⟨s0, s1, s2, s3⟩ := HS.out _ hb4
  replace a5 : Hid (w4.heap[w2.heap.size]? = some (.cells #[.int .i64 X1.id.1, .int .u64 (X1.id.2 : Int), .int .i64 X1.kind, .slice ka1 X1.keys.length kc1, .int .u64 (X1.token : Int), .int .i64 X1.ttl, .slice ga1 X1.groups.length gc1, .int .i64 X1.state, .slice ya1 X1.yes.length yc1, .slice da1 X1.done.length dc1, .int .i64 X1.code] 29 (0, 0))) := a5
  replace b5 : Hid (w4.heap[w3.heap.size]? = some (.cells #[.int .i64 X1.id.1, .int .u64 (X1.id.2 : Int), .int .i64 X1.kind, .slice ka2 X1.keys.length kc2, .int .u64 (X1.token : Int), .int .i64 X1.ttl, .slice ga2 X1.groups.length gc2, .int .i64 X1.state, .slice ya2 X1.yes.length yc2, .slice da2 X1.done.length dc2, .int .i64 X1.code] 29 (0, 0))) := b5
  clear k3 hbc hb3a a4 r3
  go_wp2_with fail
  refine k4.mono ?_
  rintro e w5 ⟨⟨⟨ka3, kc3⟩, ⟨ga3, gc3⟩, ⟨ya3, yc3⟩, ⟨da3, dc3⟩, rfl, O1⟩, hbc⟩
  have a6 := (hbc.block _ (at_lt a5.out)).trans a5.out
  have b6 := (hbc.block _ (at_lt b5.out)).trans b5.out
  have hb5 := keep_step hb4 hn.out hbc
  obtain ⟨e0, e1, e2, e3, e4, e5, e6, e7, e8, e9, e10⟩ := cells11 a6
  obtain ⟨f0, f1, f2, f3, f4, f5, f6, f7, f8, f9, f10⟩ := f_cells11 a6
  have A7 := set11_block a6 (.int .i64 X2.id.1) (.int .u64 (X2.id.2 : Int)) (.int .i64 X2.kind) (.slice ka3 X2.keys.length kc3) (.int .u64 (X2.token : Int)) (.int .i64 X2.ttl) (.slice ga3 X2.groups.length gc3) (.int .i64 X2.state) (.slice ya3 X2.yes.length yc3) (.slice da3 X2.done.length dc3) (.int .i64 X2.code)
  have b7 := (set11_other (.int .i64 X2.id.1) (.int .u64 (X2.id.2 : Int)) (.int .i64 X2.kind) (.slice ka3 X2.keys.length kc3) (.int .u64 (X2.token : Int)) (.int .i64 X2.ttl) (.slice ga3 X2.groups.length gc3) (.int .i64 X2.state) (.slice ya3 X2.yes.length yc3) (.slice da3 X2.done.length dc3) (.int .i64 X2.code) (show w3.heap.size ≠ w2.heap.size from fun h => hAB.out h.symm)).trans b6
  have hc5 := set11_below (.int .i64 X2.id.1) (.int .u64 (X2.id.2 : Int)) (.int .i64 X2.kind) (.slice ka3 X2.keys.length kc3) (.int .u64 (X2.token : Int)) (.int .i64 X2.ttl) (.slice ga3 X2.groups.length gc3) (.int .i64 X2.state) (.slice ya3 X2.yes.length yc3) (.slice da3 X2.done.length dc3) (.int .i64 X2.code) (g := w2.heap.size) hb5 hA2.out
  have O3 := O1.at_other a6 (fun k hk => set11_other (.int .i64 X2.id.1) (.int .u64 (X2.id.2 : Int)) (.int .i64 X2.kind) (.slice ka3 X2.keys.length kc3) (.int .u64 (X2.token : Int)) (.int .i64 X2.ttl) (.slice ga3 X2.groups.length gc3) (.int .i64 X2.state) (.slice ya3 X2.yes.length yc3) (.slice da3 X2.done.length dc3) (.int .i64 X2.code) hk)
  obtain ⟨W5, hW5⟩ : ∃ W, set11 w5 w2.heap.size (.int .i64 X2.id.1) (.int .u64 (X2.id.2 : Int)) (.int .i64 X2.kind) (.slice ka3 X2.keys.length kc3) (.int .u64 (X2.token : Int)) (.int .i64 X2.ttl) (.slice ga3 X2.groups.length gc3) (.int .i64 X2.state) (.slice ya3 X2.yes.length yc3) (.slice da3 X2.done.length dc3) (.int .i64 X2.code) = W := ⟨_, rfl⟩
  rw [hW5] at A7 b7 hc5 O3
  unfold set11 at hW5
  have k5 := A4.out _ (HB.out _ hc5)
  obtain ⟨c0, c1, c2, c3, c4, c5, c6, c7, c8, c9, c10⟩ := HX.out _ hc5
  obtain ⟨s0, s1, s2, s3⟩ := HS.out _ hc5
  replace A7 : Hid (W5.heap[w2.heap.size]? = some (.cells #[.int .i64 X2.id.1, .int .u64 (X2.id.2 : Int), .int .i64 X2.kind, .slice ka3 X2.keys.length kc3, .int .u64 (X2.token : Int), .int .i64 X2.ttl, .slice ga3 X2.groups.length gc3, .int .i64 X2.state, .slice ya3 X2.yes.length yc3, .slice da3 X2.done.length dc3, .int .i64 X2.code] 29 (0, 0))) := A7
  replace b7 : Hid (W5.heap[w3.heap.size]? = some (.cells #[.int .i64 X1.id.1, .int .u64 (X1.id.2 : Int), .int .i64 X1.kind, .slice ka2 X1.keys.length kc2, .int .u64 (X1.token : Int), .int .i64 X1.ttl, .slice ga2 X1.groups.length gc2, .int .i64 X1.state, .slice ya2 X1.yes.length yc2, .slice da2 X1.done.length dc2, .int .i64 X1.code] 29 (0, 0))) := b7
  replace O3 : Hid (XO _ W5 ⟨X2, (ka3, kc3), (ga3, gc3), (ya3, yc3), (da3, dc3)⟩) := O3
  clear k4 hbc a5 b5 a6 b6 hb4 hb5 O1 A3 A4
  go_wp2_with fail
  refine k5.mono ?_
  rintro e w6 ⟨⟨⟨ka4, kc4⟩, ⟨ga4, gc4⟩, ⟨ya4, yc4⟩, ⟨da4, dc4⟩, rfl, KQ⟩, hbc⟩
  have a8 := (hbc.block _ (at_lt A7.out)).trans A7.out
  have b8 := (hbc.block _ (at_lt b7.out)).trans b7.out
  have hlb : w3.heap.size < W5.heap.size := at_lt b7.out
  have hb6 := keep_step hc5 hn.out hbc
  obtain ⟨e0, e1, e2, e3, e4, e5, e6, e7, e8, e9, e10⟩ := cells11 b8
  obtain ⟨f0, f1, f2, f3, f4, f5, f6, f7, f8, f9, f10⟩ := f_cells11 b8
  have B9 := set11_block b8 (.int .i64 X2.id.1) (.int .u64 (X2.id.2 : Int)) (.int .i64 X2.kind) (.slice ka4 X2.keys.length kc4) (.int .u64 (X2.token : Int)) (.int .i64 X2.ttl) (.slice ga4 X2.groups.length gc4) (.int .i64 X2.state) (.slice ya4 X2.yes.length yc4) (.slice da4 X2.done.length dc4) (.int .i64 X2.code)
  have a9 := (set11_other (.int .i64 X2.id.1) (.int .u64 (X2.id.2 : Int)) (.int .i64 X2.kind) (.slice ka4 X2.keys.length kc4) (.int .u64 (X2.token : Int)) (.int .i64 X2.ttl) (.slice ga4 X2.groups.length gc4) (.int .i64 X2.state) (.slice ya4 X2.yes.length yc4) (.slice da4 X2.done.length dc4) (.int .i64 X2.code) hAB.out).trans a8
  have hc6 := set11_below (.int .i64 X2.id.1) (.int .u64 (X2.id.2 : Int)) (.int .i64 X2.kind) (.slice ka4 X2.keys.length kc4) (.int .u64 (X2.token : Int)) (.int .i64 X2.ttl) (.slice ga4 X2.groups.length gc4) (.int .i64 X2.state) (.slice ya4 X2.yes.length yc4) (.slice da4 X2.done.length dc4) (.int .i64 X2.code) (g := w3.heap.size) hb6 hB2.out
  have O4 := XO.at_other (XO.below O3.out hbc) b8 (fun k hk => set11_other (.int .i64 X2.id.1) (.int .u64 (X2.id.2 : Int)) (.int .i64 X2.kind) (.slice ka4 X2.keys.length kc4) (.int .u64 (X2.token : Int)) (.int .i64 X2.ttl) (.slice ga4 X2.groups.length gc4) (.int .i64 X2.state) (.slice ya4 X2.yes.length yc4) (.slice da4 X2.done.length dc4) (.int .i64 X2.code) hk)
  have KR : XR (set11 w6 w3.heap.size (.int .i64 X2.id.1) (.int .u64 (X2.id.2 : Int)) (.int .i64 X2.kind) (.slice ka4 X2.keys.length kc4) (.int .u64 (X2.token : Int)) (.int .i64 X2.ttl) (.slice ga4 X2.groups.length gc4) (.int .i64 X2.state) (.slice ya4 X2.yes.length yc4) (.slice da4 X2.done.length dc4) (.int .i64 X2.code)) ⟨X2, (ka4, kc4), (ga4, gc4), (ya4, yc4), (da4, dc4)⟩ := KQ _ (HZ.out _ (HB.out _ hc6)) (fun k h1 h2 => set11_other (.int .i64 X2.id.1) (.int .u64 (X2.id.2 : Int)) (.int .i64 X2.kind) (.slice ka4 X2.keys.length kc4) (.int .u64 (X2.token : Int)) (.int .i64 X2.ttl) (.slice ga4 X2.groups.length gc4) (.int .i64 X2.state) (.slice ya4 X2.yes.length yc4) (.slice da4 X2.done.length dc4) (.int .i64 X2.code) (by omega))
  obtain ⟨W6, hW6⟩ : ∃ W, set11 w6 w3.heap.size (.int .i64 X2.id.1) (.int .u64 (X2.id.2 : Int)) (.int .i64 X2.kind) (.slice ka4 X2.keys.length kc4) (.int .u64 (X2.token : Int)) (.int .i64 X2.ttl) (.slice ga4 X2.groups.length gc4) (.int .i64 X2.state) (.slice ya4 X2.yes.length yc4) (.slice da4 X2.done.length dc4) (.int .i64 X2.code) = W := ⟨_, rfl⟩
  rw [hW6] at B9 a9 hc6 O4 KR
  unfold set11 at hW6
  have k6 := S2.out _ _ _ _ _ _ _ _ _ O4.xr KR
  obtain ⟨c0, c1, c2, c3, c4, c5, c6, c7, c8, c9, c10⟩ := cells11 a9
  obtain ⟨d0, d1, d2, d3, d4, d5, d6, d7, d8, d9, d10⟩ := cells11 B9
  replace B9 : Hid (W6.heap[w3.heap.size]? = some (.cells #[.int .i64 X2.id.1, .int .u64 (X2.id.2 : Int), .int .i64 X2.kind, .slice ka4 X2.keys.length kc4, .int .u64 (X2.token : Int), .int .i64 X2.ttl, .slice ga4 X2.groups.length gc4, .int .i64 X2.state, .slice ya4 X2.yes.length yc4, .slice da4 X2.done.length dc4, .int .i64 X2.code] 29 (0, 0))) := B9
  replace a9 : Hid (W6.heap[w2.heap.size]? = some (.cells #[.int .i64 X2.id.1, .int .u64 (X2.id.2 : Int), .int .i64 X2.kind, .slice ka3 X2.keys.length kc3, .int .u64 (X2.token : Int), .int .i64 X2.ttl, .slice ga3 X2.groups.length gc3, .int .i64 X2.state, .slice ya3 X2.yes.length yc3, .slice da3 X2.done.length dc3, .int .i64 X2.code] 29 (0, 0))) := a9
  clear k5 hbc A7 b7 a8 b8 hlb hc5 hb6 O3 O4 KQ KR S2
  go_wp2_with fail
  refine k6.mono ?_
  rintro e w7 ⟨rfl, hbc⟩
  have a5 := (hbc.block _ (at_lt a9.out)).trans a9.out
  have b5 := (hbc.block _ (at_lt B9.out)).trans B9.out
  have hb7 := keep_step hc6 hn.out hbc
  have k7 := A5.out _ (HB.out _ hb7)
  obtain ⟨c0, c1, c2, c3, c4, c5, c6, c7, c8, c9, c10⟩ := HX.out _ hb7
  obtain ⟨s0, s1, s2, s3⟩ := HS.out _ hb7
  replace a5 : Hid (w7.heap[w2.heap.size]? = some (.cells #[.int .i64 X2.id.1, .int .u64 (X2.id.2 : Int), .int .i64 X2.kind, .slice ka3 X2.keys.length kc3, .int .u64 (X2.token : Int), .int .i64 X2.ttl, .slice ga3 X2.groups.length gc3, .int .i64 X2.state, .slice ya3 X2.yes.length yc3, .slice da3 X2.done.length dc3, .int .i64 X2.code] 29 (0, 0))) := a5
  replace b5 : Hid (w7.heap[w3.heap.size]? = some (.cells #[.int .i64 X2.id.1, .int .u64 (X2.id.2 : Int), .int .i64 X2.kind, .slice ka4 X2.keys.length kc4, .int .u64 (X2.token : Int), .int .i64 X2.ttl, .slice ga4 X2.groups.length gc4, .int .i64 X2.state, .slice ya4 X2.yes.length yc4, .slice da4 X2.done.length dc4, .int .i64 X2.code] 29 (0, 0))) := b5
  clear k6 hbc a9 B9 hc6
  go_wp2_with fail
  refine k7.mono ?_
  rintro e w8 ⟨⟨⟨ka5, kc5⟩, ⟨ga5, gc5⟩, ⟨ya5, yc5⟩, ⟨da5, dc5⟩, rfl, O1⟩, hbc⟩
  have a6 := (hbc.block _ (at_lt a5.out)).trans a5.out
  have b6 := (hbc.block _ (at_lt b5.out)).trans b5.out
  have hb8 := keep_step hb7 hn.out hbc
  obtain ⟨e0, e1, e2, e3, e4, e5, e6, e7, e8, e9, e10⟩ := cells11 a6
  obtain ⟨f0, f1, f2, f3, f4, f5, f6, f7, f8, f9, f10⟩ := f_cells11 a6
  have A7 := set11_block a6 (.int .i64 X3.id.1) (.int .u64 (X3.id.2 : Int)) (.int .i64 X3.kind) (.slice ka5 X3.keys.length kc5) (.int .u64 (X3.token : Int)) (.int .i64 X3.ttl) (.slice ga5 X3.groups.length gc5) (.int .i64 X3.state) (.slice ya5 X3.yes.length yc5) (.slice da5 X3.done.length dc5) (.int .i64 X3.code)
  have b7 := (set11_other (.int .i64 X3.id.1) (.int .u64 (X3.id.2 : Int)) (.int .i64 X3.kind) (.slice ka5 X3.keys.length kc5) (.int .u64 (X3.token : Int)) (.int .i64 X3.ttl) (.slice ga5 X3.groups.length gc5) (.int .i64 X3.state) (.slice ya5 X3.yes.length yc5) (.slice da5 X3.done.length dc5) (.int .i64 X3.code) (show w3.heap.size ≠ w2.heap.size from fun h => hAB.out h.symm)).trans b6
  have hc8 := set11_below (.int .i64 X3.id.1) (.int .u64 (X3.id.2 : Int)) (.int .i64 X3.kind) (.slice ka5 X3.keys.length kc5) (.int .u64 (X3.token : Int)) (.int .i64 X3.ttl) (.slice ga5 X3.groups.length gc5) (.int .i64 X3.state) (.slice ya5 X3.yes.length yc5) (.slice da5 X3.done.length dc5) (.int .i64 X3.code) (g := w2.heap.size) hb8 hA2.out
  have O3 := O1.at_other a6 (fun k hk => set11_other (.int .i64 X3.id.1) (.int .u64 (X3.id.2 : Int)) (.int .i64 X3.kind) (.slice ka5 X3.keys.length kc5) (.int .u64 (X3.token : Int)) (.int .i64 X3.ttl) (.slice ga5 X3.groups.length gc5) (.int .i64 X3.state) (.slice ya5 X3.yes.length yc5) (.slice da5 X3.done.length dc5) (.int .i64 X3.code) hk)
  obtain ⟨W8, hW8⟩ : ∃ W, set11 w8 w2.heap.size (.int .i64 X3.id.1) (.int .u64 (X3.id.2 : Int)) (.int .i64 X3.kind) (.slice ka5 X3.keys.length kc5) (.int .u64 (X3.token : Int)) (.int .i64 X3.ttl) (.slice ga5 X3.groups.length gc5) (.int .i64 X3.state) (.slice ya5 X3.yes.length yc5) (.slice da5 X3.done.length dc5) (.int .i64 X3.code) = W := ⟨_, rfl⟩
  rw [hW8] at A7 b7 hc8 O3
  unfold set11 at hW8
  have k8 := A6.out _ (HB.out _ hc8)
  obtain ⟨c0, c1, c2, c3, c4, c5, c6, c7, c8, c9, c10⟩ := HX.out _ hc8
  obtain ⟨s0, s1, s2, s3⟩ := HS.out _ hc8
  replace A7 : Hid (W8.heap[w2.heap.size]? = some (.cells #[.int .i64 X3.id.1, .int .u64 (X3.id.2 : Int), .int .i64 X3.kind, .slice ka5 X3.keys.length kc5, .int .u64 (X3.token : Int), .int .i64 X3.ttl, .slice ga5 X3.groups.length gc5, .int .i64 X3.state, .slice ya5 X3.yes.length yc5, .slice da5 X3.done.length dc5, .int .i64 X3.code] 29 (0, 0))) := A7
  replace b7 : Hid (W8.heap[w3.heap.size]? = some (.cells #[.int .i64 X2.id.1, .int .u64 (X2.id.2 : Int), .int .i64 X2.kind, .slice ka4 X2.keys.length kc4, .int .u64 (X2.token : Int), .int .i64 X2.ttl, .slice ga4 X2.groups.length gc4, .int .i64 X2.state, .slice ya4 X2.yes.length yc4, .slice da4 X2.done.length dc4, .int .i64 X2.code] 29 (0, 0))) := b7
  replace O3 : Hid (XO _ W8 ⟨X3, (ka5, kc5), (ga5, gc5), (ya5, yc5), (da5, dc5)⟩) := O3
  clear k7 hbc a5 b5 a6 b6 hb7 hb8 O1 A5 A6
  go_wp2_with fail
  refine k8.mono ?_
  rintro e w9 ⟨⟨⟨ka6, kc6⟩, ⟨ga6, gc6⟩, ⟨ya6, yc6⟩, ⟨da6, dc6⟩, rfl, KQ⟩, hbc⟩
  have a8 := (hbc.block _ (at_lt A7.out)).trans A7.out
  have b8 := (hbc.block _ (at_lt b7.out)).trans b7.out
  have hlb : w3.heap.size < W8.heap.size := at_lt b7.out
  have hb9 := keep_step hc8 hn.out hbc
  obtain ⟨e0, e1, e2, e3, e4, e5, e6, e7, e8, e9, e10⟩ := cells11 b8
  obtain ⟨f0, f1, f2, f3, f4, f5, f6, f7, f8, f9, f10⟩ := f_cells11 b8
  have B9 := set11_block b8 (.int .i64 X3.id.1) (.int .u64 (X3.id.2 : Int)) (.int .i64 X3.kind) (.slice ka6 X3.keys.length kc6) (.int .u64 (X3.token : Int)) (.int .i64 X3.ttl) (.slice ga6 X3.groups.length gc6) (.int .i64 X3.state) (.slice ya6 X3.yes.length yc6) (.slice da6 X3.done.length dc6) (.int .i64 X3.code)
  have a9 := (set11_other (.int .i64 X3.id.1) (.int .u64 (X3.id.2 : Int)) (.int .i64 X3.kind) (.slice ka6 X3.keys.length kc6) (.int .u64 (X3.token : Int)) (.int .i64 X3.ttl) (.slice ga6 X3.groups.length gc6) (.int .i64 X3.state) (.slice ya6 X3.yes.length yc6) (.slice da6 X3.done.length dc6) (.int .i64 X3.code) hAB.out).trans a8
  have hc9 := set11_below (.int .i64 X3.id.1) (.int .u64 (X3.id.2 : Int)) (.int .i64 X3.kind) (.slice ka6 X3.keys.length kc6) (.int .u64 (X3.token : Int)) (.int .i64 X3.ttl) (.slice ga6 X3.groups.length gc6) (.int .i64 X3.state) (.slice ya6 X3.yes.length yc6) (.slice da6 X3.done.length dc6) (.int .i64 X3.code) (g := w3.heap.size) hb9 hB2.out
  have O4 := XO.at_other (XO.below O3.out hbc) b8 (fun k hk => set11_other (.int .i64 X3.id.1) (.int .u64 (X3.id.2 : Int)) (.int .i64 X3.kind) (.slice ka6 X3.keys.length kc6) (.int .u64 (X3.token : Int)) (.int .i64 X3.ttl) (.slice ga6 X3.groups.length gc6) (.int .i64 X3.state) (.slice ya6 X3.yes.length yc6) (.slice da6 X3.done.length dc6) (.int .i64 X3.code) hk)
  have KR : XR (set11 w9 w3.heap.size (.int .i64 X3.id.1) (.int .u64 (X3.id.2 : Int)) (.int .i64 X3.kind) (.slice ka6 X3.keys.length kc6) (.int .u64 (X3.token : Int)) (.int .i64 X3.ttl) (.slice ga6 X3.groups.length gc6) (.int .i64 X3.state) (.slice ya6 X3.yes.length yc6) (.slice da6 X3.done.length dc6) (.int .i64 X3.code)) ⟨X3, (ka6, kc6), (ga6, gc6), (ya6, yc6), (da6, dc6)⟩ := KQ _ (HZ.out _ (HB.out _ hc9)) (fun k h1 h2 => set11_other (.int .i64 X3.id.1) (.int .u64 (X3.id.2 : Int)) (.int .i64 X3.kind) (.slice ka6 X3.keys.length kc6) (.int .u64 (X3.token : Int)) (.int .i64 X3.ttl) (.slice ga6 X3.groups.length gc6) (.int .i64 X3.state) (.slice ya6 X3.yes.length yc6) (.slice da6 X3.done.length dc6) (.int .i64 X3.code) (by omega))
  obtain ⟨W9, hW9⟩ : ∃ W, set11 w9 w3.heap.size (.int .i64 X3.id.1) (.int .u64 (X3.id.2 : Int)) (.int .i64 X3.kind) (.slice ka6 X3.keys.length kc6) (.int .u64 (X3.token : Int)) (.int .i64 X3.ttl) (.slice ga6 X3.groups.length gc6) (.int .i64 X3.state) (.slice ya6 X3.yes.length yc6) (.slice da6 X3.done.length dc6) (.int .i64 X3.code) = W := ⟨_, rfl⟩
  rw [hW9] at B9 a9 hc9 O4 KR
  unfold set11 at hW9
  have k9 := S3.out _ _ _ _ _ _ _ _ _ O4.xr KR
  obtain ⟨c0, c1, c2, c3, c4, c5, c6, c7, c8, c9, c10⟩ := cells11 a9
  obtain ⟨d0, d1, d2, d3, d4, d5, d6, d7, d8, d9, d10⟩ := cells11 B9
  replace B9 : Hid (W9.heap[w3.heap.size]? = some (.cells #[.int .i64 X3.id.1, .int .u64 (X3.id.2 : Int), .int .i64 X3.kind, .slice ka6 X3.keys.length kc6, .int .u64 (X3.token : Int), .int .i64 X3.ttl, .slice ga6 X3.groups.length gc6, .int .i64 X3.state, .slice ya6 X3.yes.length yc6, .slice da6 X3.done.length dc6, .int .i64 X3.code] 29 (0, 0))) := B9
  replace a9 : Hid (W9.heap[w2.heap.size]? = some (.cells #[.int .i64 X3.id.1, .int .u64 (X3.id.2 : Int), .int .i64 X3.kind, .slice ka5 X3.keys.length kc5, .int .u64 (X3.token : Int), .int .i64 X3.ttl, .slice ga5 X3.groups.length gc5, .int .i64 X3.state, .slice ya5 X3.yes.length yc5, .slice da5 X3.done.length dc5, .int .i64 X3.code] 29 (0, 0))) := a9
  clear k8 hbc A7 b7 a8 b8 hlb hc8 hb9 O3 O4 KQ KR S3
  go_wp2_with fail
  refine k9.mono ?_
  rintro e w10 ⟨rfl, hbc⟩
  have a5 := (hbc.block _ (at_lt a9.out)).trans a9.out
  have b5 := (hbc.block _ (at_lt B9.out)).trans B9.out
  have hb10 := keep_step hc9 hn.out hbc
  have kA := awake_of w10
  clear k9 hbc a9 B9 hc9 a5 b5
  go_wp2_with fail
  refine kA.mono ?_
  rintro e w11 ⟨rfl, hbc⟩
  have hE := HB.out _ (keep_step hb10 hn.out hbc)
  clear kA hbc hb10
  go_wp2
  go_ret
  exact ⟨rfl, hE⟩
end Go.Proofs.Ytglbjimpaoikfaa

