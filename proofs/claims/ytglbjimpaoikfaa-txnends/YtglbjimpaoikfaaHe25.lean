import Derived.Test.YtglbjimpaoikfaaHe24
import Derived.Test.YtglbjimpaoikfaaHe13
/- Check of txn. -/
namespace Go.Proofs.Ytglbjimpaoikfaa
open Go.RowKit LeaseMath
set_option maxRecDepth 100000
set_option linter.unusedSimpArgs false
set_option linter.unusedVariables false

set_option maxHeartbeats 4000000 in
theorem xcheck_of (z : Xz) (w : World) (hR : XR w z) (gk : z.t.keys.length ≤ 1000000) (g1 : z.t.groups.length ≤ 1000000000) (g2 : z.t.yes.length ≤ 1000000000) (g3 : z.t.done.length ≤ 1000000000) : Calls Try.prog 11 #[xv z] w fun e w' => e = .returned (.int .i64 (if okX z.t then 0 else 1)) ∧ Below w.heap.size w w' := by
  obtain ⟨B, HB⟩ : ∃ B : Int, Hid (B = if okX z.t then 0 else 1) := ⟨_, rfl⟩
  rw [← HB.out]
  obtain ⟨hs, hb, cl⟩ := x_boxC w z
  have BW : ∀ W, Below (w.heap.size + 1) (w.alloc (xc z)) W → Below w.heap.size w W := fun W hW => hb.trans (hW.mono (Nat.le_succ _))
  have hsz : Hid (w.heap.size + 1 ≤ (w.alloc (xc z)).heap.size) := by show _ ≤ _; omega
  have hx0 : Below (w.heap.size + 1) (w.alloc (xc z)) (w.alloc (xc z)) := Below.refl _ _
  obtain ⟨c0, c1, c2, c3, c4, c5, c6, c7, c8, c9, c10⟩ := cells11 (cl _ hx0)
  have k1 : Hid (∀ W, Below (w.heap.size + 1) (w.alloc (xc z)) W → _) := fun W _ => xid_of z.t.id W
  have k2 : Hid (∀ W, Below (w.heap.size + 1) (w.alloc (xc z)) W → _) := fun W hW => pcallv_of z W (hR.1.below (BW W hW)) gk
  have k3 : Hid (∀ (a : Sa) (W : World), Rd kyE W (.slice a.1 (callM z.t).keys.length a.2) (callM z.t).keys → _) := fun a W hW => checkCall_of (callM z.t) a W hW (by show z.t.keys.length ≤ _; omega)
  have k4 : Hid (∀ W, Below (w.heap.size + 1) (w.alloc (xc z)) W → _) := fun W hW => mayGroups_of z W (hR.below (BW W hW)) g1 g2 g3
  have k5 : Hid (∀ W : World, _) := fun W => mayState_of z W g1 g2 g3
  replace cl : Hid (∀ W, Below (w.heap.size + 1) (w.alloc (xc z)) W → W.heap[w.heap.size]? = some (xc z)) := cl
  unfold okX at HB
  obtain ⟨b1, H1⟩ : ∃ b, idB z.t.id = b := ⟨_, rfl⟩
  obtain ⟨b3, H3⟩ : ∃ b, callB (callM z.t) = b := ⟨_, rfl⟩
  obtain ⟨b4, H4⟩ : ∃ b, groupsB z.t = b := ⟨_, rfl⟩
  obtain ⟨b5, H5⟩ : ∃ b, stateB z.t = b := ⟨_, rfl⟩
  rw [H1] at k1 HB
  rw [H3] at k3 HB
  rw [H4] at k4 HB
  rw [H5] at k5 HB
  have ek : (callM z.t).keys = z.t.keys := rfl
  rw [ek] at k3
  obtain ⟨C, HC⟩ : ∃ C, Hid (C = callM z.t) := ⟨_, rfl⟩
  have ekC : Hid (C.keys = z.t.keys) := by show _ = _; rw [HC.out]; rfl
  rw [← HC.out] at k2 k3
  clear H1 H3 H4 H5 HC hR gk g1 g2 g3 hb hs ek
  obtain ⟨⟨⟨i1, i2⟩, kd, ks, tk, tt, gs, st, ys, ds, cd⟩, ⟨ka, kc⟩, ⟨ga, gc⟩, ⟨ya, yc⟩, ⟨da, dc⟩⟩ := z
  dsimp only [xv, xc] at *
  obtain ⟨ckd, cks, ctk, ctt⟩ := C
  replace ekC : cks = ks := ekC.out
  subst ekC
  dsimp only [cv, idv] at *
  cases b1 with
  | false =>
    have E : Hid (B = 1) := by show _ = _; rw [HB.out]; simp
    clear HB k2 k3 k4 k5
    go_enter Try.func11, Try.ntmps11
    go_wp2_with fail
    refine (k1.out _ hx0).mono ?_
    rintro e w1 ⟨rfl, hbc⟩
    have hx1 := keep_step hx0 hsz.out hbc
    obtain ⟨c0, c1, c2, c3, c4, c5, c6, c7, c8, c9, c10⟩ := cells11 (cl.out w1 hx1)
    clear hbc
    go_wp2
    go_ret
    exact ⟨by rw [E.out]; first | rfl | simp, BW _ hx1⟩
  | true =>
    cases b3 with
    | false =>
      have E : Hid (B = 1) := by show _ = _; rw [HB.out]; simp
      clear HB k4 k5
      go_enter Try.func11, Try.ntmps11
      go_wp2_with fail
      refine (k1.out _ hx0).mono ?_
      rintro e w1 ⟨rfl, hbc⟩
      have hx1 := keep_step hx0 hsz.out hbc
      obtain ⟨c0, c1, c2, c3, c4, c5, c6, c7, c8, c9, c10⟩ := cells11 (cl.out w1 hx1)
      clear hbc
      go_wp2_with fail
      refine (k2.out _ hx1).mono ?_
      rintro e w2 ⟨⟨⟨va, vc⟩, rfl, hO⟩, hbc⟩
      have hx2 := keep_step hx1 hsz.out hbc
      obtain ⟨c0, c1, c2, c3, c4, c5, c6, c7, c8, c9, c10⟩ := cells11 (cl.out w2 hx2)
      clear hbc
      replace hO : Hid _ := hO.1.rd
      go_wp2_with fail
      refine (k3.out (va, vc) _ hO.out).mono ?_
      rintro e w3 ⟨rfl, hbc⟩
      have hx3 := keep_step hx2 hsz.out hbc
      obtain ⟨c0, c1, c2, c3, c4, c5, c6, c7, c8, c9, c10⟩ := cells11 (cl.out w3 hx3)
      clear hbc hO
      go_wp2
      go_ret
      exact ⟨by rw [E.out]; first | rfl | simp, BW _ hx3⟩
    | true =>
      cases b4 with
      | false =>
        have E : Hid (B = 1) := by show _ = _; rw [HB.out]; simp
        clear HB k5
        go_enter Try.func11, Try.ntmps11
        go_wp2_with fail
        refine (k1.out _ hx0).mono ?_
        rintro e w1 ⟨rfl, hbc⟩
        have hx1 := keep_step hx0 hsz.out hbc
        obtain ⟨c0, c1, c2, c3, c4, c5, c6, c7, c8, c9, c10⟩ := cells11 (cl.out w1 hx1)
        clear hbc
        go_wp2_with fail
        refine (k2.out _ hx1).mono ?_
        rintro e w2 ⟨⟨⟨va, vc⟩, rfl, hO⟩, hbc⟩
        have hx2 := keep_step hx1 hsz.out hbc
        obtain ⟨c0, c1, c2, c3, c4, c5, c6, c7, c8, c9, c10⟩ := cells11 (cl.out w2 hx2)
        clear hbc
        replace hO : Hid _ := hO.1.rd
        go_wp2_with fail
        refine (k3.out (va, vc) _ hO.out).mono ?_
        rintro e w3 ⟨rfl, hbc⟩
        have hx3 := keep_step hx2 hsz.out hbc
        obtain ⟨c0, c1, c2, c3, c4, c5, c6, c7, c8, c9, c10⟩ := cells11 (cl.out w3 hx3)
        clear hbc hO
        go_wp2_with fail
        refine (k4.out _ hx3).mono ?_
        rintro e w4 ⟨rfl, hbc⟩
        have hx4 := keep_step hx3 hsz.out hbc
        obtain ⟨c0, c1, c2, c3, c4, c5, c6, c7, c8, c9, c10⟩ := cells11 (cl.out w4 hx4)
        clear hbc
        go_wp2
        go_ret
        exact ⟨by rw [E.out]; first | rfl | simp, BW _ hx4⟩
      | true =>
        cases b5 with
        | false =>
          have E : Hid (B = 1) := by show _ = _; rw [HB.out]; simp
          clear HB 
          go_enter Try.func11, Try.ntmps11
          go_wp2_with fail
          refine (k1.out _ hx0).mono ?_
          rintro e w1 ⟨rfl, hbc⟩
          have hx1 := keep_step hx0 hsz.out hbc
          obtain ⟨c0, c1, c2, c3, c4, c5, c6, c7, c8, c9, c10⟩ := cells11 (cl.out w1 hx1)
          clear hbc
          go_wp2_with fail
          refine (k2.out _ hx1).mono ?_
          rintro e w2 ⟨⟨⟨va, vc⟩, rfl, hO⟩, hbc⟩
          have hx2 := keep_step hx1 hsz.out hbc
          obtain ⟨c0, c1, c2, c3, c4, c5, c6, c7, c8, c9, c10⟩ := cells11 (cl.out w2 hx2)
          clear hbc
          replace hO : Hid _ := hO.1.rd
          go_wp2_with fail
          refine (k3.out (va, vc) _ hO.out).mono ?_
          rintro e w3 ⟨rfl, hbc⟩
          have hx3 := keep_step hx2 hsz.out hbc
          obtain ⟨c0, c1, c2, c3, c4, c5, c6, c7, c8, c9, c10⟩ := cells11 (cl.out w3 hx3)
          clear hbc hO
          go_wp2_with fail
          refine (k4.out _ hx3).mono ?_
          rintro e w4 ⟨rfl, hbc⟩
          have hx4 := keep_step hx3 hsz.out hbc
          obtain ⟨c0, c1, c2, c3, c4, c5, c6, c7, c8, c9, c10⟩ := cells11 (cl.out w4 hx4)
          clear hbc
          go_wp2_with fail
          refine (k5.out _).mono ?_
          rintro e w5 ⟨rfl, hbc⟩
          have hx5 := keep_step hx4 hsz.out hbc
          obtain ⟨c0, c1, c2, c3, c4, c5, c6, c7, c8, c9, c10⟩ := cells11 (cl.out w5 hx5)
          clear hbc
          go_wp2
          go_ret
          exact ⟨by rw [E.out]; first | rfl | simp, BW _ hx5⟩
        | true =>
          have E : Hid (B = 0) := by show _ = _; rw [HB.out]; simp
          clear HB 
          go_enter Try.func11, Try.ntmps11
          go_wp2_with fail
          refine (k1.out _ hx0).mono ?_
          rintro e w1 ⟨rfl, hbc⟩
          have hx1 := keep_step hx0 hsz.out hbc
          obtain ⟨c0, c1, c2, c3, c4, c5, c6, c7, c8, c9, c10⟩ := cells11 (cl.out w1 hx1)
          clear hbc
          go_wp2_with fail
          refine (k2.out _ hx1).mono ?_
          rintro e w2 ⟨⟨⟨va, vc⟩, rfl, hO⟩, hbc⟩
          have hx2 := keep_step hx1 hsz.out hbc
          obtain ⟨c0, c1, c2, c3, c4, c5, c6, c7, c8, c9, c10⟩ := cells11 (cl.out w2 hx2)
          clear hbc
          replace hO : Hid _ := hO.1.rd
          go_wp2_with fail
          refine (k3.out (va, vc) _ hO.out).mono ?_
          rintro e w3 ⟨rfl, hbc⟩
          have hx3 := keep_step hx2 hsz.out hbc
          obtain ⟨c0, c1, c2, c3, c4, c5, c6, c7, c8, c9, c10⟩ := cells11 (cl.out w3 hx3)
          clear hbc hO
          go_wp2_with fail
          refine (k4.out _ hx3).mono ?_
          rintro e w4 ⟨rfl, hbc⟩
          have hx4 := keep_step hx3 hsz.out hbc
          obtain ⟨c0, c1, c2, c3, c4, c5, c6, c7, c8, c9, c10⟩ := cells11 (cl.out w4 hx4)
          clear hbc
          go_wp2_with fail
          refine (k5.out _).mono ?_
          rintro e w5 ⟨rfl, hbc⟩
          have hx5 := keep_step hx4 hsz.out hbc
          obtain ⟨c0, c1, c2, c3, c4, c5, c6, c7, c8, c9, c10⟩ := cells11 (cl.out w5 hx5)
          clear hbc
          go_wp2
          go_ret
          exact ⟨by rw [E.out]; first | rfl | simp, BW _ hx5⟩
end Go.Proofs.Ytglbjimpaoikfaa

