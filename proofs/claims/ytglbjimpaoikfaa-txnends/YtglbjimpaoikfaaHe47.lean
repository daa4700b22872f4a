import Derived.Test.YtglbjimpaoikfaaHe45
import Derived.Test.YtglbjimpaoikfaaHe46
/- However many keys there are: Check of txn. -/
namespace Go.Proofs.Ytglbjimpaoikfaa
open Go.RowKit LeaseMath
set_option maxRecDepth 100000
set_option linter.unusedSimpArgs false
set_option linter.unusedVariables false

set_option maxHeartbeats 4000000 in
theorem xcheckG_of (z : Xz) (w : World) (hR : XR w z) (gk : z.t.keys.length * 16 ≤ 140737488355328) (g1 : z.t.groups.length ≤ 1000000000) (g2 : z.t.yes.length ≤ 1000000000) (g3 : z.t.done.length ≤ 1000000000) : Calls Try.prog 11 #[xv z] w fun e w' => e = .returned (.int .i64 (if okX z.t then 0 else 1)) ∧ Below w.heap.size w w' := by
  obtain ⟨B, HB⟩ : ∃ B : Int, Hid (B = if okX z.t then 0 else 1) := ⟨_, rfl⟩
  rw [← HB.out]
  obtain ⟨hs, hb, cl⟩ := x_boxC w z
  have BW : ∀ W, Below (w.heap.size + 1) (w.alloc (xc z)) W → Below w.heap.size w W := fun W hW => hb.trans (hW.mono (Nat.le_succ _))
  have hsz : Hid (w.heap.size + 1 ≤ (w.alloc (xc z)).heap.size) := by show _ ≤ _; omega
  have hx0 : Below (w.heap.size + 1) (w.alloc (xc z)) (w.alloc (xc z)) := Below.refl _ _
  obtain ⟨c0, c1, c2, c3, c4, c5, c6, c7, c8, c9, c10⟩ := cells11 (cl _ hx0)
  have k1 : Hid (∀ W, Below (w.heap.size + 1) (w.alloc (xc z)) W → _) := fun W _ => xid_of z.t.id W
  have k2 : Hid (∀ W, Below (w.heap.size + 1) (w.alloc (xc z)) W → _) := fun W hW => pcallvG_of z W (hR.1.below (BW W hW)) gk
  have k3 : Hid (∀ (a : Sa) (W : World), Rd kyE W (.slice a.1 (callM z.t).keys.length a.2) (callM z.t).keys → _) := fun a W hW => checkCallG_of (callM z.t) a W hW (by show z.t.keys.length ≤ _; omega)
  have k4 : Hid (∀ W, Below (w.heap.size + 1) (w.alloc (xc z)) W → _) := fun W hW => mayGroups_of z W (hR.below (BW W hW)) g1 g2 g3
  have k5 : Hid (∀ W : World, _) := fun W => mayState_of z W g1 g2 g3
  replace cl : Hid (∀ W, Below (w.heap.size + 1) (w.alloc (xc z)) W → W.heap[w.heap.size]? = some (xc z)) := cl
  unfold okX at HB
  obtain ⟨b1, H1⟩ : ∃ b, idB z.t.id = b := ⟨_, rfl⟩
  obtain ⟨b3, H3⟩ : ∃ b, callB (callM z.t) = b := ⟨_, rfl⟩
  obtain ⟨b4, H4⟩ : ∃ b, groupsB z.t = b := ⟨_, rfl⟩
  obtain ⟨b5, H5⟩ : ∃ b, stateB z.t = b := ⟨_, rfl⟩
  rw [H1] at k1 HB
  rw [H3] at k3 HB
  rw [H4] at k4 HB
  rw [H5] at k5 HB
  have ek : (callM z.t).keys = z.t.keys := rfl
  rw [ek] at k3
  obtain ⟨C, HC⟩ : ∃ C, Hid (C = callM z.t) := ⟨_, rfl⟩
  have ekC : Hid (C.keys = z.t.keys) := by show _ = _; rw [HC.out]; rfl
  rw [← HC.out] at k2 k3
  clear H1 H3 H4 H5 HC hR gk g1 g2 g3 hb hs ek
  obtain ⟨⟨⟨i1, i2⟩, kd, ks, tk, tt, gs, st, ys, ds, cd⟩, ⟨ka, kc⟩, ⟨ga, gc⟩, ⟨ya, yc⟩, ⟨da, dc⟩⟩ := z
  dsimp only [xv, xc] at *
  obtain ⟨ckd, cks, ctk, ctt⟩ := C
  replace ekC : cks = ks := ekC.out
  subst ekC
  dsimp only [cv, idv] at *
  cases b1 with
  | false =>
    have E : Hid (B = 1) := by show _ = _; rw [HB.out]; simp
    clear HB k2 k3 k4 k5
    go_enter Try.func11, Try.ntmps11
    go_wp2_with fail
    refine (k1.out _ hx0).mono ?_
    rintro e w1 ⟨rfl, hbc⟩
    have hx1 := keep_step hx0 hsz.out hbc
    obtain ⟨c0, c1, c2, c3, c4, c5, c6, c7, c8, c9, c10⟩ := cells11 (cl.out w1 hx1)
    clear hbc
    go_wp2
    go_ret
    exact ⟨by rw [E.out]; first | rfl | simp, BW _ hx1⟩
  | true =>
    cases b3 with
    | false =>
      have E : Hid (B = 1) := by show _ = _; rw [HB.out]; simp
      clear HB k4 k5
      go_enter Try.func11, Try.ntmps11
      go_wp2_with fail
      refine (k1.out _ hx0).mono ?_
      rintro e w1 ⟨rfl, hbc⟩
      have hx1 := keep_step hx0 hsz.out hbc
      obtain ⟨c0, c1, c2, c3, c4, c5, c6, c7, c8, c9, c10⟩ := cells11 (cl.out w1 hx1)
      clear hbc
      go_wp2_with fail
      refine (k2.out _ hx1).mono ?_
      rintro e w2 ⟨⟨⟨va, vc⟩, rfl, hO⟩, hbc⟩
      have hx2 := keep_step hx1 hsz.out hbc
      obtain ⟨c0, c1, c2, c3, c4, c5, c6, c7, c8, c9, c10⟩ := cells11 (cl.out w2 hx2)
      clear hbc
      replace hO : Hid _ := hO.1.rd
      go_wp2_with fail
      refine (k3.out (va, vc) _ hO.out).mono ?_
      rintro e w3 ⟨rfl, hbc⟩
      have hx3 := keep_step hx2 hsz.out hbc
      obtain ⟨c0, c1, c2, c3, c4, c5, c6, c7, c8, c9, c10⟩ := cells11 (cl.out w3 hx3)
      clear hbc hO
      go_wp2
      go_ret
      exact ⟨by rw [E.out]; first | rfl | simp, BW _ hx3⟩
    | true =>
      cases b4 with
      | false =>
        have E : Hid (B = 1) := by show _ = _; rw [HB.out]; simp
        clear HB k5
        go_enter Try.func11, Try.ntmps11
        go_wp2_with fail
        refine (k1.out _ hx0).mono ?_
        rintro e w1 ⟨rfl, hbc⟩
        have hx1 := keep_step hx0 hsz.out hbc
        obtain ⟨c0, c1, c2, c3, c4, c5, c6, c7, c8, c9, c10⟩ := cells11 (cl.out w1 hx1)
        clear hbc
        go_wp2_with fail
        refine (k2.out _ hx1).mono ?_
        rintro e w2 ⟨⟨⟨va, vc⟩, rfl, hO⟩, hbc⟩
        have hx2 := keep_step hx1 hsz.out hbc
        obtain ⟨c0, c1, c2, c3, c4, c5, c6, c7, c8, c9, c10⟩ := cells11 (cl.out w2 hx2)
        clear hbc
        replace hO : Hid _ := hO.1.rd
        go_wp2_with fail
        refine (k3.out (va, vc) _ hO.out).mono ?_
        rintro e w3 ⟨rfl, hbc⟩
        have hx3 := keep_step hx2 hsz.out hbc
        obtain ⟨c0, c1, c2, c3, c4, c5, c6, c7, c8, c9, c10⟩ := cells11 (cl.out w3 hx3)
        clear hbc hO
        go_wp2_with fail
        refine (k4.out _ hx3).mono ?_
        rintro e w4 ⟨rfl, hbc⟩
        have hx4 := keep_step hx3 hsz.out hbc
        obtain ⟨c0, c1, c2, c3, c4, c5, c6, c7, c8, c9, c10⟩ := cells11 (cl.out w4 hx4)
        clear hbc
        go_wp2
        go_ret
        exact ⟨by rw [E.out]; first | rfl | simp, BW _ hx4⟩
      | true =>
        cases b5 with
        | false =>
          have E : Hid (B = 1) := by show _ = _; rw [HB.out]; simp
          clear HB 
          go_enter Try.func11, Try.ntmps11
          go_wp2_with fail
          refine (k1.out _ hx0).mono ?_
          rintro e w1 ⟨rfl, hbc⟩
          have hx1 := keep_step hx0 hsz.out hbc
          obtain ⟨c0, c1, c2, c3, c4, c5, c6, c7, c8, c9, c10⟩ := cells11 (cl.out w1 hx1)
          clear hbc
          go_wp2_with fail
          refine (k2.out _ hx1).mono ?_
          rintro e w2 ⟨⟨⟨va, vc⟩, rfl, hO⟩, hbc⟩
          have hx2 := keep_step hx1 hsz.out hbc
          obtain ⟨c0, c1, c2, c3, c4, c5, c6, c7, c8, c9, c10⟩ := cells11 (cl.out w2 hx2)
          clear hbc
          replace hO : Hid _ := hO.1.rd
          go_wp2_with fail
          refine (k3.out (va, vc) _ hO.out).mono ?_
          rintro e w3 ⟨rfl, hbc⟩
          have hx3 := keep_step hx2 hsz.out hbc
          obtain ⟨c0, c1, c2, c3, c4, c5, c6, c7, c8, c9, c10⟩ := cells11 (cl.out w3 hx3)
          clear hbc hO
          go_wp2_with fail
          refine (k4.out _ hx3).mono ?_
          rintro e w4 ⟨rfl, hbc⟩
          have hx4 := keep_step hx3 hsz.out hbc
          obtain ⟨c0, c1, c2, c3, c4, c5, c6, c7, c8, c9, c10⟩ := cells11 (cl.out w4 hx4)
          clear hbc
          go_wp2_with fail
          refine (k5.out _).mono ?_
          rintro e w5 ⟨rfl, hbc⟩
          have hx5 := keep_step hx4 hsz.out hbc
          obtain ⟨c0, c1, c2, c3, c4, c5, c6, c7, c8, c9, c10⟩ := cells11 (cl.out w5 hx5)
          clear hbc
          go_wp2
          go_ret
          exact ⟨by rw [E.out]; first | rfl | simp, BW _ hx5⟩
        | true =>
          have E : Hid (B = 0) := by show _ = _; rw [HB.out]; simp
          clear HB 
          go_enter Try.func11, Try.ntmps11
          go_wp2_with fail
          refine (k1.out _ hx0).mono ?_
          rintro e w1 ⟨rfl, hbc⟩
          have hx1 := keep_step hx0 hsz.out hbc
          obtain ⟨c0, c1, c2, c3, c4, c5, c6, c7, c8, c9, c10⟩ := cells11 (cl.out w1 hx1)
          clear hbc
          go_wp2_with fail
          refine (k2.out _ hx1).mono ?_
          rintro e w2 ⟨⟨⟨va, vc⟩, rfl, hO⟩, hbc⟩
          have hx2 := keep_step hx1 hsz.out hbc
          obtain ⟨c0, c1, c2, c3, c4, c5, c6, c7, c8, c9, c10⟩ := cells11 (cl.out w2 hx2)
          clear hbc
          replace hO : Hid _ := hO.1.rd
          go_wp2_with fail
          refine (k3.out (va, vc) _ hO.out).mono ?_
          rintro e w3 ⟨rfl, hbc⟩
          have hx3 := keep_step hx2 hsz.out hbc
          obtain ⟨c0, c1, c2, c3, c4, c5, c6, c7, c8, c9, c10⟩ := cells11 (cl.out w3 hx3)
          clear hbc hO
          go_wp2_with fail
          refine (k4.out _ hx3).mono ?_
          rintro e w4 ⟨rfl, hbc⟩
          have hx4 := keep_step hx3 hsz.out hbc
          obtain ⟨c0, c1, c2, c3, c4, c5, c6, c7, c8, c9, c10⟩ := cells11 (cl.out w4 hx4)
          clear hbc
          go_wp2_with fail
          refine (k5.out _).mono ?_
          rintro e w5 ⟨rfl, hbc⟩
          have hx5 := keep_step hx4 hsz.out hbc
          obtain ⟨c0, c1, c2, c3, c4, c5, c6, c7, c8, c9, c10⟩ := cells11 (cl.out w5 hx5)
          clear hbc
          go_wp2
          go_ret
          exact ⟨by rw [E.out]; first | rfl | simp, BW _ hx5⟩
end Go.Proofs.Ytglbjimpaoikfaa

/- However many keys there are: Begin. -/
namespace Go.Proofs.Ytglbjimpaoikfaa
open Go.RowKit LeaseMath
set_option maxRecDepth 100000
set_option linter.unusedSimpArgs false
set_option linter.unusedVariables false

set_option maxHeartbeats 16000000 in
theorem beginG_of (d : Cq) (c : Cl) (k : Sa) (gs : List Int) (g : Sa) (w : World) (hK : Rd kyE w (.slice k.1 c.keys.length k.2) c.keys) (hG : Rd intE w (.slice g.1 gs.length g.2) gs) (gk : c.keys.length * 16 ≤ 140737488355328) (g1 : gs.length ≤ 1000000) : Calls Try.prog 30 #[.agg #[.int .i64 d.1, .int .u64 (d.2 : Int)], cv c k, .slice g.1 gs.length g.2] w fun e w' => ∃ R, Hid (R = beginM d c gs) ∧ (∃ k g y d : Sa, e = .returned (.tuple #[xv ⟨R.1, k, g, y, d⟩, .int .i64 R.2]) ∧ XO w.heap.size w' ⟨R.1, k, g, y, d⟩) ∧ Below w.heap.size w w' := by
  obtain ⟨R, HRR⟩ : ∃ R, Hid (R = beginM d c gs) := ⟨_, rfl⟩
  have K1 : Hid (∀ tk W, tk = (beginX d c gs).token → Below w.heap.size w W → _) := fun tk W e hW => xcheckG_of ⟨⟨d, c.kind, c.keys, tk, c.ttl, gs, 1, [], [], 0⟩, k, g, (none, 0), (none, 0)⟩ W ⟨hK.below hW, hG.below hW, Rd.nil _ _, Rd.nil _ _⟩ gk (by show gs.length ≤ _; omega) (by simp) (by simp)
  have K2 : Hid (okX (beginX d c gs) = true → ∀ tk W, tk = (beginX d c gs).token → Below w.heap.size w W → _) := fun ho tk W e hW => own_of ⟨⟨d, c.kind, c.keys, tk, c.ttl, gs, 1, [], [], 0⟩, k, g, (none, 0), (none, 0)⟩ W ⟨hK.below hW, hG.below hW, Rd.nil _ _, Rd.nil _ _⟩ (Nat.le_trans (ok_keys (x := beginX d c gs) ho) (by decide)) g1 (by simp) (by simp)
  have KT : Hid (∀ tk, tk = (beginX d c gs).token → (⟨d, c.kind, c.keys, tk, c.ttl, gs, 1, [], [], 0⟩ : Tx) = beginX d c gs) := fun tk e => by rw [e]; rfl
  have HT : Hid ((beginX d c gs).token = if c.kind = 1 then 0 else c.token) := rfl
  suffices hs : Calls Try.prog 30 #[.agg #[.int .i64 d.1, .int .u64 (d.2 : Int)], cv c k, .slice g.1 gs.length g.2] w fun e w' => (∃ k g y d : Sa, e = .returned (.tuple #[xv ⟨R.1, k, g, y, d⟩, .int .i64 R.2]) ∧ XO w.heap.size w' ⟨R.1, k, g, y, d⟩) ∧ Below w.heap.size w w' from hs.mono fun e w' h => ⟨R, HRR, h.1, h.2⟩
  unfold beginM at HRR
  generalize beginX d c gs = X at *
  obtain ⟨i1, i2⟩ := d
  obtain ⟨kd, ks, tk, tt⟩ := c
  obtain ⟨ka, kc⟩ := k
  obtain ⟨ga, gc⟩ := g
  dsimp only [cv, xv] at *
  obtain ⟨p1, p2, p3, p4⟩ := two_boxesX w (.cells #[.int .i64 i1, .int .u64 (i2 : Int)] 24) (.cells #[.int .i64 kd, .slice ka ks.length kc, .int .u64 (tk : Int), .int .i64 tt] 43)
  obtain ⟨v0, hv0⟩ : ∃ W, (w.alloc (.cells #[.int .i64 i1, .int .u64 (i2 : Int)] 24)).alloc (.cells #[.int .i64 kd, .slice ka ks.length kc, .int .u64 (tk : Int), .int .i64 tt] 43) = W := ⟨_, rfl⟩
  rw [hv0] at p1 p2 p3 p4
  obtain ⟨r1, r2, r3⟩ := one_box v0 (.cells #[.int .i64 0, .int .u64 0, .int .i64 0, .slice none 0 0, .int .u64 0, .int .i64 0, .slice none 0 0, .int .i64 0, .slice none 0 0, .slice none 0 0, .int .i64 0] 29)
  obtain ⟨w0, hw0⟩ : ∃ W, v0.alloc (.cells #[.int .i64 0, .int .u64 0, .int .i64 0, .slice none 0 0, .int .u64 0, .int .i64 0, .slice none 0 0, .int .i64 0, .slice none 0 0, .slice none 0 0, .int .i64 0] 29) = W := ⟨_, rfl⟩
  rw [hw0] at r1 r2 r3
  have hvz : v0.heap.size = w.heap.size + 2 := p1
  have hb0 := p4.trans (r3.mono (by omega))
  have q2 := (r3.block w.heap.size (by omega)).trans p2
  have q3 := (r3.block (w.heap.size + 1) (by omega)).trans p3
  have hz0 : w0.heap.size = w.heap.size + 3 := by omega
  clear p1 p2 p3 p4 r1 r3 hK hG gk g1
  obtain ⟨c0, c1⟩ := cells2 q2
  obtain ⟨d0, d1, d2, d3⟩ := cells4 q3
  by_cases h1 : kd = 1
  · have h1d : (kd == 1) = true := by simp [h1]
    obtain ⟨xs, x2, x3⟩ := one_box w0 (.cells #[.int .i64 i1, .int .u64 (i2 : Int), .int .i64 kd, .slice ka ks.length kc, .int .u64 (tk : Int), .int .i64 tt, .slice ga gs.length gc, .int .i64 1, .slice none 0 0, .slice none 0 0, .int .i64 0] 29)
    have y2 := (x3.block w.heap.size (by omega)).trans q2
    have y3 := (x3.block (w.heap.size + 1) (by omega)).trans q3
    obtain ⟨y0, y1⟩ := cells2 y2
    obtain ⟨z0, z1, z2, z3⟩ := cells4 y3
    obtain ⟨l0, l1, l2, l3, l4, l5, l6, l7, l8, l9, l10⟩ := cells11 x2
    obtain ⟨f0, f1, f2, f3, f4, f5, f6, f7, f8, f9, f10⟩ := f_cells11 x2
    have HE : 0 = X.token := by rw [HT.out]; rw [if_pos h1]
    obtain ⟨us, u2, u3⟩ := one_box w0 (.cells #[.int .i64 i1, .int .u64 (i2 : Int), .int .i64 kd, .slice ka ks.length kc, .int .u64 0, .int .i64 tt, .slice ga gs.length gc, .int .i64 1, .slice none 0 0, .slice none 0 0, .int .i64 0] 29)
    obtain ⟨m0, m1, m2, m3, m4, m5, m6, m7, m8, m9, m10⟩ := cells11 u2
    have R2 := (u3.block v0.heap.size (by omega)).trans r2
    have hb1 := hb0.trans (u3.mono hb0.size)
    have k1 := K1.out 0 _ HE hb1
    have KX : Hid _ := KT.out 0 HE
    rw [KX.out] at k1
    have k2 : Hid (okX X = true → ∀ W, Below w.heap.size w W → _) := fun ho W hW => K2.out ho 0 W HE hW
    have HP : Hid (∀ W, Below (w0.alloc (.cells #[.int .i64 i1, .int .u64 (i2 : Int), .int .i64 kd, .slice ka ks.length kc, .int .u64 0, .int .i64 tt, .slice ga gs.length gc, .int .i64 1, .slice none 0 0, .slice none 0 0, .int .i64 0] 29)).heap.size (w0.alloc (.cells #[.int .i64 i1, .int .u64 (i2 : Int), .int .i64 kd, .slice ka ks.length kc, .int .u64 0, .int .i64 tt, .slice ga gs.length gc, .int .i64 1, .slice none 0 0, .slice none 0 0, .int .i64 0] 29)) W → Below w.heap.size w W ∧ W.heap[w0.heap.size]? = some (.cells #[.int .i64 i1, .int .u64 (i2 : Int), .int .i64 kd, .slice ka ks.length kc, .int .u64 0, .int .i64 tt, .slice ga gs.length gc, .int .i64 1, .slice none 0 0, .slice none 0 0, .int .i64 0] 29 (0, 0)) ∧ W.heap[v0.heap.size]? = some (.cells #[.int .i64 0, .int .u64 0, .int .i64 0, .slice none 0 0, .int .u64 0, .int .i64 0, .slice none 0 0, .int .i64 0, .slice none 0 0, .slice none 0 0, .int .i64 0] 29 (0, 0)) ∧ w.heap.size ≤ v0.heap.size ∧ v0.heap.size < W.heap.size) := fun W hW => ⟨hb1.trans (hW.mono hb1.size), (hW.block w0.heap.size (by omega)).trans u2, (hW.block v0.heap.size (by omega)).trans R2, by omega, by have := hW.size; omega⟩
    clear hvz hz0 K1 K2 KT HT HE h1 hb0 hb1 x2 x3 y2 y3 xs q2 q3 r2 R2 us u2 u3
    cases hb : okX X with
    | false =>
      clear k2 KX
      rw [hb] at k1 HRR
      simp only [Bool.false_eq_true, if_false] at k1 HRR
      clear hb
      go_enter Try.func30, Try.ntmps30
      go_wp2_with fail
      refine k1.mono ?_
      rintro e wc ⟨rfl, hbc⟩
      obtain ⟨B1, B2, B3, B4⟩ := HP.out wc hbc
      clear HP hbc k1
      obtain ⟨n0, n1, n2, n3, n4, n5, n6, n7, n8, n9, n10⟩ := cells11 B2
      obtain ⟨e0, e1, e2, e3, e4, e5, e6, e7, e8, e9, e10⟩ := cells11 B3
      obtain ⟨g0, g1, g2, g3, g4, g5, g6, g7, g8, g9, g10⟩ := f_cells11 B3
      have S : Hid _ := set11_block B3 (.int .i64 0) (.int .u64 0) (.int .i64 0) (.slice none 0 0) (.int .u64 0) (.int .i64 0) (.slice none 0 0) (.int .i64 0) (.slice none 0 0) (.slice none 0 0) (.int .i64 0)
      have SB : Hid _ := set11_below (.int .i64 0) (.int .u64 0) (.int .i64 0) (.slice none 0 0) (.int .u64 0) (.int .i64 0) (.slice none 0 0) (.int .i64 0) (.slice none 0 0) (.slice none 0 0) (.int .i64 0) (g := v0.heap.size) B1 B4.1
      clear B1 B2 B3 B4
      go_wp2
      refine bodyPost_ret (results_txe rfl _ _ v0.heap.size _ _ _ _ _ _ _ _ _ _ _ rfl S.out) rfl ?_
      exact ⟨⟨(none, 0), (none, 0), (none, 0), (none, 0), by rw [HRR.out]; rfl, by rw [HRR.out]; exact XO.none _ _⟩, SB.out⟩
    | true =>
      have k2 := k2.out hb
      rw [hb] at k1 HRR
      simp only [if_true] at k1 HRR
      clear hb
      go_enter Try.func30, Try.ntmps30
      go_wp2_with fail
      refine k1.mono ?_
      rintro e wc ⟨rfl, hbc⟩
      obtain ⟨B1, B2, B3, B4⟩ := HP.out wc hbc
      clear HP hbc k1
      obtain ⟨n0, n1, n2, n3, n4, n5, n6, n7, n8, n9, n10⟩ := cells11 B2
      obtain ⟨e0, e1, e2, e3, e4, e5, e6, e7, e8, e9, e10⟩ := cells11 B3
      obtain ⟨g0, g1, g2, g3, g4, g5, g6, g7, g8, g9, g10⟩ := f_cells11 B3
      have k3 := k2 wc B1
      clear k2
      go_wp2_with fail
      refine k3.mono ?_
      rintro e wd ⟨⟨⟨ka', kc'⟩, ⟨ga', gc'⟩, ⟨ya', yc'⟩, ⟨da', dc'⟩, rfl, O1⟩, hbd⟩
      have Y3 := (hbd.block v0.heap.size B4.2).trans B3
      have B5 := B1.trans (hbd.mono B1.size)
      have O2 := O1.mono B1.size
      clear O1 k3 hbd B2 B3
      obtain ⟨e0, e1, e2, e3, e4, e5, e6, e7, e8, e9, e10⟩ := cells11 Y3
      obtain ⟨g0, g1, g2, g3, g4, g5, g6, g7, g8, g9, g10⟩ := f_cells11 Y3
      have S : Hid _ := set11_block Y3 (.int .i64 i1) (.int .u64 (i2 : Int)) (.int .i64 kd) (.slice ka' ks.length kc') (.int .u64 0) (.int .i64 tt) (.slice ga' gs.length gc') (.int .i64 1) (.slice ya' 0 yc') (.slice da' 0 dc') (.int .i64 0)
      have SB : Hid _ := set11_below (.int .i64 i1) (.int .u64 (i2 : Int)) (.int .i64 kd) (.slice ka' ks.length kc') (.int .u64 0) (.int .i64 tt) (.slice ga' gs.length gc') (.int .i64 1) (.slice ya' 0 yc') (.slice da' 0 dc') (.int .i64 0) (g := v0.heap.size) B5 B4.1
      have SO : Hid _ := O2.at_other Y3 (fun k hk => set11_other (.int .i64 i1) (.int .u64 (i2 : Int)) (.int .i64 kd) (.slice ka' ks.length kc') (.int .u64 0) (.int .i64 tt) (.slice ga' gs.length gc') (.int .i64 1) (.slice ya' 0 yc') (.slice da' 0 dc') (.int .i64 0) hk)
      clear Y3 B1 B4 B5 O2
      go_wp2
      refine bodyPost_ret (results_txe rfl _ _ v0.heap.size _ _ _ _ _ _ _ _ _ _ _ rfl S.out) rfl ?_
      exact ⟨⟨(ka', kc'), (ga', gc'), (ya', yc'), (da', dc'), by rw [HRR.out, ← KX.out]; rfl, by rw [HRR.out, ← KX.out]; exact SO.out⟩, SB.out⟩
  · have h1d : (kd == 1) = false := by simpa using h1
    obtain ⟨xs, x2, x3⟩ := one_box w0 (.cells #[.int .i64 i1, .int .u64 (i2 : Int), .int .i64 kd, .slice ka ks.length kc, .int .u64 (tk : Int), .int .i64 tt, .slice ga gs.length gc, .int .i64 1, .slice none 0 0, .slice none 0 0, .int .i64 0] 29)
    have y2 := (x3.block w.heap.size (by omega)).trans q2
    have y3 := (x3.block (w.heap.size + 1) (by omega)).trans q3
    obtain ⟨y0, y1⟩ := cells2 y2
    obtain ⟨z0, z1, z2, z3⟩ := cells4 y3
    obtain ⟨l0, l1, l2, l3, l4, l5, l6, l7, l8, l9, l10⟩ := cells11 x2
    obtain ⟨f0, f1, f2, f3, f4, f5, f6, f7, f8, f9, f10⟩ := f_cells11 x2
    have HE : tk = X.token := by rw [HT.out]; rw [if_neg h1]
    have R2 := (x3.block v0.heap.size (by omega)).trans r2
    have hb1 := hb0.trans (x3.mono hb0.size)
    have k1 := K1.out tk _ HE hb1
    have KX : Hid _ := KT.out tk HE
    rw [KX.out] at k1
    have k2 : Hid (okX X = true → ∀ W, Below w.heap.size w W → _) := fun ho W hW => K2.out ho tk W HE hW
    have HP : Hid (∀ W, Below (w0.alloc (.cells #[.int .i64 i1, .int .u64 (i2 : Int), .int .i64 kd, .slice ka ks.length kc, .int .u64 (tk : Int), .int .i64 tt, .slice ga gs.length gc, .int .i64 1, .slice none 0 0, .slice none 0 0, .int .i64 0] 29)).heap.size (w0.alloc (.cells #[.int .i64 i1, .int .u64 (i2 : Int), .int .i64 kd, .slice ka ks.length kc, .int .u64 (tk : Int), .int .i64 tt, .slice ga gs.length gc, .int .i64 1, .slice none 0 0, .slice none 0 0, .int .i64 0] 29)) W → Below w.heap.size w W ∧ W.heap[w0.heap.size]? = some (.cells #[.int .i64 i1, .int .u64 (i2 : Int), .int .i64 kd, .slice ka ks.length kc, .int .u64 (tk : Int), .int .i64 tt, .slice ga gs.length gc, .int .i64 1, .slice none 0 0, .slice none 0 0, .int .i64 0] 29 (0, 0)) ∧ W.heap[v0.heap.size]? = some (.cells #[.int .i64 0, .int .u64 0, .int .i64 0, .slice none 0 0, .int .u64 0, .int .i64 0, .slice none 0 0, .int .i64 0, .slice none 0 0, .slice none 0 0, .int .i64 0] 29 (0, 0)) ∧ w.heap.size ≤ v0.heap.size ∧ v0.heap.size < W.heap.size) := fun W hW => ⟨hb1.trans (hW.mono hb1.size), (hW.block w0.heap.size (by omega)).trans x2, (hW.block v0.heap.size (by omega)).trans R2, by omega, by have := hW.size; omega⟩
    clear hvz hz0 K1 K2 KT HT HE h1 hb0 hb1 x2 x3 y2 y3 xs q2 q3 r2 R2 
    cases hb : okX X with
    | false =>
      clear k2 KX
      rw [hb] at k1 HRR
      simp only [Bool.false_eq_true, if_false] at k1 HRR
      clear hb
      go_enter Try.func30, Try.ntmps30
      go_wp2_with fail
      refine k1.mono ?_
      rintro e wc ⟨rfl, hbc⟩
      obtain ⟨B1, B2, B3, B4⟩ := HP.out wc hbc
      clear HP hbc k1
      obtain ⟨n0, n1, n2, n3, n4, n5, n6, n7, n8, n9, n10⟩ := cells11 B2
      obtain ⟨e0, e1, e2, e3, e4, e5, e6, e7, e8, e9, e10⟩ := cells11 B3
      obtain ⟨g0, g1, g2, g3, g4, g5, g6, g7, g8, g9, g10⟩ := f_cells11 B3
      have S : Hid _ := set11_block B3 (.int .i64 0) (.int .u64 0) (.int .i64 0) (.slice none 0 0) (.int .u64 0) (.int .i64 0) (.slice none 0 0) (.int .i64 0) (.slice none 0 0) (.slice none 0 0) (.int .i64 0)
      have SB : Hid _ := set11_below (.int .i64 0) (.int .u64 0) (.int .i64 0) (.slice none 0 0) (.int .u64 0) (.int .i64 0) (.slice none 0 0) (.int .i64 0) (.slice none 0 0) (.slice none 0 0) (.int .i64 0) (g := v0.heap.size) B1 B4.1
      clear B1 B2 B3 B4
      go_wp2
      refine bodyPost_ret (results_txe rfl _ _ v0.heap.size _ _ _ _ _ _ _ _ _ _ _ rfl S.out) rfl ?_
      exact ⟨⟨(none, 0), (none, 0), (none, 0), (none, 0), by rw [HRR.out]; rfl, by rw [HRR.out]; exact XO.none _ _⟩, SB.out⟩
    | true =>
      have k2 := k2.out hb
      rw [hb] at k1 HRR
      simp only [if_true] at k1 HRR
      clear hb
      go_enter Try.func30, Try.ntmps30
      go_wp2_with fail
      refine k1.mono ?_
      rintro e wc ⟨rfl, hbc⟩
      obtain ⟨B1, B2, B3, B4⟩ := HP.out wc hbc
      clear HP hbc k1
      obtain ⟨n0, n1, n2, n3, n4, n5, n6, n7, n8, n9, n10⟩ := cells11 B2
      obtain ⟨e0, e1, e2, e3, e4, e5, e6, e7, e8, e9, e10⟩ := cells11 B3
      obtain ⟨g0, g1, g2, g3, g4, g5, g6, g7, g8, g9, g10⟩ := f_cells11 B3
      have k3 := k2 wc B1
      clear k2
      go_wp2_with fail
      refine k3.mono ?_
      rintro e wd ⟨⟨⟨ka', kc'⟩, ⟨ga', gc'⟩, ⟨ya', yc'⟩, ⟨da', dc'⟩, rfl, O1⟩, hbd⟩
      have Y3 := (hbd.block v0.heap.size B4.2).trans B3
      have B5 := B1.trans (hbd.mono B1.size)
      have O2 := O1.mono B1.size
      clear O1 k3 hbd B2 B3
      obtain ⟨e0, e1, e2, e3, e4, e5, e6, e7, e8, e9, e10⟩ := cells11 Y3
      obtain ⟨g0, g1, g2, g3, g4, g5, g6, g7, g8, g9, g10⟩ := f_cells11 Y3
      have S : Hid _ := set11_block Y3 (.int .i64 i1) (.int .u64 (i2 : Int)) (.int .i64 kd) (.slice ka' ks.length kc') (.int .u64 (tk : Int)) (.int .i64 tt) (.slice ga' gs.length gc') (.int .i64 1) (.slice ya' 0 yc') (.slice da' 0 dc') (.int .i64 0)
      have SB : Hid _ := set11_below (.int .i64 i1) (.int .u64 (i2 : Int)) (.int .i64 kd) (.slice ka' ks.length kc') (.int .u64 (tk : Int)) (.int .i64 tt) (.slice ga' gs.length gc') (.int .i64 1) (.slice ya' 0 yc') (.slice da' 0 dc') (.int .i64 0) (g := v0.heap.size) B5 B4.1
      have SO : Hid _ := O2.at_other Y3 (fun k hk => set11_other (.int .i64 i1) (.int .u64 (i2 : Int)) (.int .i64 kd) (.slice ka' ks.length kc') (.int .u64 (tk : Int)) (.int .i64 tt) (.slice ga' gs.length gc') (.int .i64 1) (.slice ya' 0 yc') (.slice da' 0 dc') (.int .i64 0) hk)
      clear Y3 B1 B4 B5 O2
      go_wp2
      refine bodyPost_ret (results_txe rfl _ _ v0.heap.size _ _ _ _ _ _ _ _ _ _ _ rfl S.out) rfl ?_
      exact ⟨⟨(ka', kc'), (ga', gc'), (ya', yc'), (da', dc'), by rw [HRR.out, ← KX.out]; rfl, by rw [HRR.out, ← KX.out]; exact SO.out⟩, SB.out⟩
end Go.Proofs.Ytglbjimpaoikfaa

