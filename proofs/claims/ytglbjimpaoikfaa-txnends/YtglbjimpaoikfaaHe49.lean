import Derived.Test.YtglbjimpaoikfaaHe48
/- However many keys there are: the document's May. -/
namespace Go.Proofs.Ytglbjimpaoikfaa
open Go.RowKit LeaseMath
set_option maxRecDepth 100000
set_option linter.unusedSimpArgs false
set_option linter.unusedVariables false

set_option maxHeartbeats 16000000 in
theorem rmayG_of (z : Xz) (w : World) (hR : XR w z) (gk : z.t.keys.length * 16 ≤ 140737488355328) (g1 : z.t.groups.length ≤ 1000000000) (g2 : z.t.yes.length ≤ 1000000000) (g3 : z.t.done.length ≤ 1000000000) : Calls Try.prog 12 #[xv z] w fun e w' => e = .returned (.bool (okX z.t)) ∧ Below w.heap.size w w' := by
  obtain ⟨B, HB⟩ : ∃ B, Hid (B = okX z.t) := ⟨_, rfl⟩
  rw [← HB.out]
  rw [← rokX_eq] at HB
  obtain ⟨hs, hb, cl⟩ := x_boxC w z
  have BW : ∀ W, Below (w.heap.size + 1) (w.alloc (xc z)) W → Below w.heap.size w W := fun W hW => hb.trans (hW.mono (Nat.le_succ _))
  have hsz : Hid (w.heap.size + 1 ≤ (w.alloc (xc z)).heap.size) := by show _ ≤ _; omega
  have hx0 : Below (w.heap.size + 1) (w.alloc (xc z)) (w.alloc (xc z)) := Below.refl _ _
  obtain ⟨c0, c1, c2, c3, c4, c5, c6, c7, c8, c9, c10⟩ := cells11 (cl _ hx0)
  have k1 : Hid (∀ W, Below (w.heap.size + 1) (w.alloc (xc z)) W → _) := fun W _ => rid_of z.t.id W
  have k2 : Hid (∀ W, Below (w.heap.size + 1) (w.alloc (xc z)) W → _) := fun W _ => rcallv_of z W
  have k3 : Hid (∀ W, Below (w.heap.size + 1) (w.alloc (xc z)) W → _) := fun W hW => rcallG_of (callM z.t) z.k W (hR.1.below (BW W hW)) (by show z.t.keys.length ≤ _; omega)
  have k4 : Hid (∀ W, Below (w.heap.size + 1) (w.alloc (xc z)) W → _) := fun W hW => rgroups_of z.t.groups _ W (hR.2.1.below (BW W hW)) g1
  have k5 : Hid (∀ W, Below (w.heap.size + 1) (w.alloc (xc z)) W → _) := fun W hW => rgroups_of z.t.yes _ W (hR.2.2.1.below (BW W hW)) g2
  have k6 : Hid (∀ W, Below (w.heap.size + 1) (w.alloc (xc z)) W → _) := fun W hW => rgroups_of z.t.done _ W (hR.2.2.2.below (BW W hW)) g3
  have k7 : Hid (∀ W, Below (w.heap.size + 1) (w.alloc (xc z)) W → _) := fun W hW => rall_of z.t.yes z.t.groups _ _ W (hR.2.2.1.below (BW W hW)) (hR.2.1.below (BW W hW)) g2 g1
  have k8 : Hid (∀ W, Below (w.heap.size + 1) (w.alloc (xc z)) W → _) := fun W hW => rall_of z.t.done z.t.groups _ _ W (hR.2.2.2.below (BW W hW)) (hR.2.1.below (BW W hW)) g3 g1
  have k9 : Hid (∀ W, Below (w.heap.size + 1) (w.alloc (xc z)) W → _) := fun W hW => rall_of z.t.groups z.t.yes _ _ W (hR.2.1.below (BW W hW)) (hR.2.2.1.below (BW W hW)) g1 g2
  have k10 : Hid (∀ W, Below (w.heap.size + 1) (w.alloc (xc z)) W → _) := fun W hW => rall_of z.t.groups z.t.done _ _ W (hR.2.1.below (BW W hW)) (hR.2.2.2.below (BW W hW)) g1 g3
  replace cl : Hid (∀ W, Below (w.heap.size + 1) (w.alloc (xc z)) W → W.heap[w.heap.size]? = some (xc z)) := cl
  unfold rokX at HB
  obtain ⟨b1, H1⟩ : ∃ b, idB z.t.id = b := ⟨_, rfl⟩
  obtain ⟨b3, H3⟩ : ∃ b, callB (callM z.t) = b := ⟨_, rfl⟩
  obtain ⟨b4, H4⟩ : ∃ b, (grpB z.t.groups && riseB z.t.groups) = b := ⟨_, rfl⟩
  obtain ⟨b5, H5⟩ : ∃ b, (grpB z.t.yes && riseB z.t.yes) = b := ⟨_, rfl⟩
  obtain ⟨b6, H6⟩ : ∃ b, (grpB z.t.done && riseB z.t.done) = b := ⟨_, rfl⟩
  obtain ⟨b7, H7⟩ : ∃ b, subB z.t.yes z.t.groups = b := ⟨_, rfl⟩
  obtain ⟨b8, H8⟩ : ∃ b, subB z.t.done z.t.groups = b := ⟨_, rfl⟩
  obtain ⟨a, H9⟩ : ∃ b, subB z.t.groups z.t.yes = b := ⟨_, rfl⟩
  obtain ⟨d, H10⟩ : ∃ b, subB z.t.groups z.t.done = b := ⟨_, rfl⟩
  rw [H1] at k1 HB
  rw [H3] at k3 HB
  rw [H4] at k4 HB
  rw [H5] at k5 HB
  rw [H6] at k6 HB
  rw [H7] at k7 HB
  rw [H8] at k8 HB
  rw [H9] at k9 HB
  rw [H10] at k10 HB
  have ek : (callM z.t).keys = z.t.keys := rfl
  obtain ⟨C, HC⟩ : ∃ C, Hid (C = callM z.t) := ⟨_, rfl⟩
  have ekC : Hid (C.keys = z.t.keys) := by show _ = _; rw [HC.out]; rfl
  rw [← HC.out] at k2 k3
  clear H1 H3 H4 H5 H6 H7 H8 H9 H10 HC hR gk g1 g2 g3 hb hs ek
  obtain ⟨⟨⟨i1, i2⟩, kd, ks, tk, tt, gs, st, ys, ds, cd⟩, ⟨ka, kc⟩, ⟨ga, gc⟩, ⟨ya, yc⟩, ⟨da, dc⟩⟩ := z
  dsimp only [xv, xc] at *
  obtain ⟨ckd, cks, ctk, ctt⟩ := C
  replace ekC : cks = ks := ekC.out
  subst ekC
  dsimp only [cv, idv] at *
  go_enter Try.func12, Try.ntmps12
  cases b1 with
  | false =>
    go_wp2_with fail
    refine (k1.out _ hx0).mono ?_
    rintro e w1 ⟨rfl, hbc⟩
    have hx1 := keep_step hx0 hsz.out hbc
    obtain ⟨c0, c1, c2, c3, c4, c5, c6, c7, c8, c9, c10⟩ := cells11 (cl.out w1 hx1)
    clear hbc k1
    have E : Hid (B = false) := by show _ = _; rw [HB.out]; simp
    clear HB
    go_wp2
    go_ret
    exact ⟨by rw [E.out]; first | rfl | simp, BW _ hx1⟩
  | true =>
    go_wp2_with fail
    refine (k1.out _ hx0).mono ?_
    rintro e w1 ⟨rfl, hbc⟩
    have hx1 := keep_step hx0 hsz.out hbc
    obtain ⟨c0, c1, c2, c3, c4, c5, c6, c7, c8, c9, c10⟩ := cells11 (cl.out w1 hx1)
    clear hbc k1
    cases b3 with
    | false =>
      go_wp2_with fail
      refine (k2.out _ hx1).mono ?_
      rintro e w2 ⟨rfl, hbc⟩
      have hx2 := keep_step hx1 hsz.out hbc
      obtain ⟨c0, c1, c2, c3, c4, c5, c6, c7, c8, c9, c10⟩ := cells11 (cl.out w2 hx2)
      clear hbc k2
      go_wp2_with fail
      refine (k3.out _ hx2).mono ?_
      rintro e w3 ⟨rfl, hbc⟩
      have hx3 := keep_step hx2 hsz.out hbc
      obtain ⟨c0, c1, c2, c3, c4, c5, c6, c7, c8, c9, c10⟩ := cells11 (cl.out w3 hx3)
      clear hbc k3
      have E : Hid (B = false) := by show _ = _; rw [HB.out]; simp
      clear HB
      go_wp2
      go_ret
      exact ⟨by rw [E.out]; first | rfl | simp, BW _ hx3⟩
    | true =>
      go_wp2_with fail
      refine (k2.out _ hx1).mono ?_
      rintro e w2 ⟨rfl, hbc⟩
      have hx2 := keep_step hx1 hsz.out hbc
      obtain ⟨c0, c1, c2, c3, c4, c5, c6, c7, c8, c9, c10⟩ := cells11 (cl.out w2 hx2)
      clear hbc k2
      go_wp2_with fail
      refine (k3.out _ hx2).mono ?_
      rintro e w3 ⟨rfl, hbc⟩
      have hx3 := keep_step hx2 hsz.out hbc
      obtain ⟨c0, c1, c2, c3, c4, c5, c6, c7, c8, c9, c10⟩ := cells11 (cl.out w3 hx3)
      clear hbc k3
      by_cases h1 : gs.length = 0
      · have h1d : ((gs.length : Int) == 0) = true := by simp [h1]
        have E : Hid (B = false) := by show _ = _; rw [HB.out]; simp [h1]
        clear HB h1
        go_wp2
        go_ret
        exact ⟨by rw [E.out]; first | rfl | simp, BW _ hx3⟩
      · have h1d : ((gs.length : Int) == 0) = false := by rw [beq_eq_false_iff_ne]; omega
        have h1p : Hid (decide (0 < gs.length) = true) := decide_eq_true (by omega)
        rw [h1p.out] at HB
        clear h1 h1p
        cases b4 with
        | false =>
          go_wp2_with fail
          refine (k4.out _ hx3).mono ?_
          rintro e w4 ⟨rfl, hbc⟩
          have hx4 := keep_step hx3 hsz.out hbc
          obtain ⟨c0, c1, c2, c3, c4, c5, c6, c7, c8, c9, c10⟩ := cells11 (cl.out w4 hx4)
          clear hbc k4
          have E : Hid (B = false) := by show _ = _; rw [HB.out]; simp
          clear HB
          go_wp2
          go_ret
          exact ⟨by rw [E.out]; first | rfl | simp, BW _ hx4⟩
        | true =>
          go_wp2_with fail
          refine (k4.out _ hx3).mono ?_
          rintro e w4 ⟨rfl, hbc⟩
          have hx4 := keep_step hx3 hsz.out hbc
          obtain ⟨c0, c1, c2, c3, c4, c5, c6, c7, c8, c9, c10⟩ := cells11 (cl.out w4 hx4)
          clear hbc k4
          cases b5 with
          | false =>
            go_wp2_with fail
            refine (k5.out _ hx4).mono ?_
            rintro e w5 ⟨rfl, hbc⟩
            have hx5 := keep_step hx4 hsz.out hbc
            obtain ⟨c0, c1, c2, c3, c4, c5, c6, c7, c8, c9, c10⟩ := cells11 (cl.out w5 hx5)
            clear hbc k5
            have E : Hid (B = false) := by show _ = _; rw [HB.out]; simp
            clear HB
            go_wp2
            go_ret
            exact ⟨by rw [E.out]; first | rfl | simp, BW _ hx5⟩
          | true =>
            go_wp2_with fail
            refine (k5.out _ hx4).mono ?_
            rintro e w5 ⟨rfl, hbc⟩
            have hx5 := keep_step hx4 hsz.out hbc
            obtain ⟨c0, c1, c2, c3, c4, c5, c6, c7, c8, c9, c10⟩ := cells11 (cl.out w5 hx5)
            clear hbc k5
            cases b6 with
            | false =>
              go_wp2_with fail
              refine (k6.out _ hx5).mono ?_
              rintro e w6 ⟨rfl, hbc⟩
              have hx6 := keep_step hx5 hsz.out hbc
              obtain ⟨c0, c1, c2, c3, c4, c5, c6, c7, c8, c9, c10⟩ := cells11 (cl.out w6 hx6)
              clear hbc k6
              have E : Hid (B = false) := by show _ = _; rw [HB.out]; simp
              clear HB
              go_wp2
              go_ret
              exact ⟨by rw [E.out]; first | rfl | simp, BW _ hx6⟩
            | true =>
              go_wp2_with fail
              refine (k6.out _ hx5).mono ?_
              rintro e w6 ⟨rfl, hbc⟩
              have hx6 := keep_step hx5 hsz.out hbc
              obtain ⟨c0, c1, c2, c3, c4, c5, c6, c7, c8, c9, c10⟩ := cells11 (cl.out w6 hx6)
              clear hbc k6
              cases b7 with
              | false =>
                go_wp2_with fail
                refine (k7.out _ hx6).mono ?_
                rintro e wq ⟨rfl, hwq⟩
                subst hwq
                clear k7
                have E : Hid (B = false) := by show _ = _; rw [HB.out]; simp
                clear HB
                go_wp2
                go_ret
                exact ⟨by rw [E.out]; first | rfl | simp, BW _ hx6⟩
              | true =>
                go_wp2_with fail
                refine (k7.out _ hx6).mono ?_
                rintro e wq ⟨rfl, hwq⟩
                subst hwq
                clear k7
                cases b8 with
                | false =>
                  go_wp2_with fail
                  refine (k8.out _ hx6).mono ?_
                  rintro e wq ⟨rfl, hwq⟩
                  subst hwq
                  clear k8
                  have E : Hid (B = false) := by show _ = _; rw [HB.out]; simp
                  clear HB
                  go_wp2
                  go_ret
                  exact ⟨by rw [E.out]; first | rfl | simp, BW _ hx6⟩
                | true =>
                  go_wp2_with fail
                  refine (k8.out _ hx6).mono ?_
                  rintro e wq ⟨rfl, hwq⟩
                  subst hwq
                  clear k8
                  by_cases ht : tk = 0
                  · have htd : ((tk : Int) != 0) = false := by simp [ht]
                    replace ht : Hid (tk = 0) := ht
                    go_wp2_with fail
                    refine (k10.out _ hx6).mono ?_
                    rintro e wq ⟨rfl, hwq⟩
                    subst hwq
                    clear k10
                    replace ht : tk = 0 := ht.out
                    by_cases n1 : st = 1
                    · subst n1
                      by_cases h2 : ds.length = 0
                      · have h2d : ((ds.length : Int) == 0) = true := by simp [h2]
                        by_cases h3 : cd = 0
                        · have h3d : (cd == 0) = true := by simp [h3]
                          have E : Hid (B = true) := by show _ = _; rw [HB.out]; unfold rstateB; simp [*]
                          clear HB ht h2 h3
                          go_wp2
                          go_ret
                          exact ⟨by rw [E.out]; first | rfl | simp, BW _ hx6⟩
                        · have h3d : (cd == 0) = false := by simpa using h3
                          have E : Hid (B = false) := by show _ = _; rw [HB.out]; unfold rstateB; simp [*]
                          clear HB ht h2 h3
                          go_wp2
                          go_ret
                          exact ⟨by rw [E.out]; first | rfl | simp, BW _ hx6⟩
                      · have h2d : ((ds.length : Int) == 0) = false := by rw [beq_eq_false_iff_ne]; omega
                        have E : Hid (B = false) := by show _ = _; rw [HB.out]; unfold rstateB; simp [*]
                        clear HB ht h2
                        go_wp2
                        go_ret
                        exact ⟨by rw [E.out]; first | rfl | simp, BW _ hx6⟩
                    · have m1 : (st == 1) = false := by simpa using n1
                      by_cases n2 : st = 2
                      · subst n2
                        have E : Hid (B = false) := by show _ = _; rw [HB.out]; unfold rstateB; simp [*]
                        clear HB ht 
                        go_wp2
                        go_ret
                        exact ⟨by rw [E.out]; first | rfl | simp, BW _ hx6⟩
                      · have m2 : (st == 2) = false := by simpa using n2
                        by_cases n3 : st = 3
                        · subst n3
                          cases d with
                          | true =>
                            have E : Hid (B = false) := by show _ = _; rw [HB.out]; unfold rstateB; simp [*]
                            clear HB ht 
                            go_wp2
                            go_ret
                            exact ⟨by rw [E.out]; first | rfl | simp, BW _ hx6⟩
                          | false =>
                            by_cases h3 : cd = 0
                            · have h3d : (cd != 0) = false := by simp [h3]
                              have E : Hid (B = false) := by show _ = _; rw [HB.out]; unfold rstateB; simp [*]
                              clear HB ht h3
                              go_wp2
                              go_ret
                              exact ⟨by rw [E.out]; first | rfl | simp, BW _ hx6⟩
                            · have h3d : (cd != 0) = true := by simpa using h3
                              have E : Hid (B = true) := by show _ = _; rw [HB.out]; unfold rstateB; simp [*]
                              clear HB ht h3
                              go_wp2
                              go_ret
                              exact ⟨by rw [E.out]; first | rfl | simp, BW _ hx6⟩
                        · have m3 : (st == 3) = false := by simpa using n3
                          by_cases n4 : st = 4
                          · subst n4
                            cases d with
                            | false =>
                              have E : Hid (B = false) := by show _ = _; rw [HB.out]; unfold rstateB; simp [*]
                              clear HB ht 
                              go_wp2
                              go_ret
                              exact ⟨by rw [E.out]; first | rfl | simp, BW _ hx6⟩
                            | true =>
                              by_cases h3 : cd = 0
                              · have h3d : (cd != 0) = false := by simp [h3]
                                have E : Hid (B = false) := by show _ = _; rw [HB.out]; unfold rstateB; simp [*]
                                clear HB ht h3
                                go_wp2
                                go_ret
                                exact ⟨by rw [E.out]; first | rfl | simp, BW _ hx6⟩
                              · have h3d : (cd != 0) = true := by simpa using h3
                                have E : Hid (B = true) := by show _ = _; rw [HB.out]; unfold rstateB; simp [*]
                                clear HB ht h3
                                go_wp2
                                go_ret
                                exact ⟨by rw [E.out]; first | rfl | simp, BW _ hx6⟩
                          · have m4 : (st == 4) = false := by simpa using n4
                            have E : Hid (B = false) := by show _ = _; rw [HB.out]; unfold rstateB; simp [*]
                            clear HB ht n1 n2 n3 n4
                            go_wp2
                            go_ret
                            exact ⟨by rw [E.out]; first | rfl | simp, BW _ hx6⟩
                  · have htd : ((tk : Int) != 0) = true := by simpa using ht
                    replace ht : Hid (¬ tk = 0) := ht
                    cases a with
                    | false =>
                      go_wp2_with fail
                      refine (k9.out _ hx6).mono ?_
                      rintro e wq ⟨rfl, hwq⟩
                      subst hwq
                      clear k9
                      go_wp2_with fail
                      refine (k10.out _ hx6).mono ?_
                      rintro e wq ⟨rfl, hwq⟩
                      subst hwq
                      clear k10
                      replace ht : ¬ tk = 0 := ht.out
                      by_cases n1 : st = 1
                      · subst n1
                        by_cases h2 : ds.length = 0
                        · have h2d : ((ds.length : Int) == 0) = true := by simp [h2]
                          by_cases h3 : cd = 0
                          · have h3d : (cd == 0) = true := by simp [h3]
                            have E : Hid (B = true) := by show _ = _; rw [HB.out]; unfold rstateB; simp [*]
                            clear HB ht h2 h3
                            go_wp2
                            go_ret
                            exact ⟨by rw [E.out]; first | rfl | simp, BW _ hx6⟩
                          · have h3d : (cd == 0) = false := by simpa using h3
                            have E : Hid (B = false) := by show _ = _; rw [HB.out]; unfold rstateB; simp [*]
                            clear HB ht h2 h3
                            go_wp2
                            go_ret
                            exact ⟨by rw [E.out]; first | rfl | simp, BW _ hx6⟩
                        · have h2d : ((ds.length : Int) == 0) = false := by rw [beq_eq_false_iff_ne]; omega
                          have E : Hid (B = false) := by show _ = _; rw [HB.out]; unfold rstateB; simp [*]
                          clear HB ht h2
                          go_wp2
                          go_ret
                          exact ⟨by rw [E.out]; first | rfl | simp, BW _ hx6⟩
                      · have m1 : (st == 1) = false := by simpa using n1
                        by_cases n2 : st = 2
                        · subst n2
                          have E : Hid (B = false) := by show _ = _; rw [HB.out]; unfold rstateB; simp [*]
                          clear HB ht 
                          go_wp2
                          go_ret
                          exact ⟨by rw [E.out]; first | rfl | simp, BW _ hx6⟩
                        · have m2 : (st == 2) = false := by simpa using n2
                          by_cases n3 : st = 3
                          · subst n3
                            cases d with
                            | true =>
                              have E : Hid (B = false) := by show _ = _; rw [HB.out]; unfold rstateB; simp [*]
                              clear HB ht 
                              go_wp2
                              go_ret
                              exact ⟨by rw [E.out]; first | rfl | simp, BW _ hx6⟩
                            | false =>
                              by_cases h3 : cd = 0
                              · have h3d : (cd != 0) = false := by simp [h3]
                                have E : Hid (B = false) := by show _ = _; rw [HB.out]; unfold rstateB; simp [*]
                                clear HB ht h3
                                go_wp2
                                go_ret
                                exact ⟨by rw [E.out]; first | rfl | simp, BW _ hx6⟩
                              · have h3d : (cd != 0) = true := by simpa using h3
                                have E : Hid (B = true) := by show _ = _; rw [HB.out]; unfold rstateB; simp [*]
                                clear HB ht h3
                                go_wp2
                                go_ret
                                exact ⟨by rw [E.out]; first | rfl | simp, BW _ hx6⟩
                          · have m3 : (st == 3) = false := by simpa using n3
                            by_cases n4 : st = 4
                            · subst n4
                              cases d with
                              | false =>
                                have E : Hid (B = false) := by show _ = _; rw [HB.out]; unfold rstateB; simp [*]
                                clear HB ht 
                                go_wp2
                                go_ret
                                exact ⟨by rw [E.out]; first | rfl | simp, BW _ hx6⟩
                              | true =>
                                by_cases h3 : cd = 0
                                · have h3d : (cd != 0) = false := by simp [h3]
                                  have E : Hid (B = false) := by show _ = _; rw [HB.out]; unfold rstateB; simp [*]
                                  clear HB ht h3
                                  go_wp2
                                  go_ret
                                  exact ⟨by rw [E.out]; first | rfl | simp, BW _ hx6⟩
                                · have h3d : (cd != 0) = true := by simpa using h3
                                  have E : Hid (B = true) := by show _ = _; rw [HB.out]; unfold rstateB; simp [*]
                                  clear HB ht h3
                                  go_wp2
                                  go_ret
                                  exact ⟨by rw [E.out]; first | rfl | simp, BW _ hx6⟩
                            · have m4 : (st == 4) = false := by simpa using n4
                              have E : Hid (B = false) := by show _ = _; rw [HB.out]; unfold rstateB; simp [*]
                              clear HB ht n1 n2 n3 n4
                              go_wp2
                              go_ret
                              exact ⟨by rw [E.out]; first | rfl | simp, BW _ hx6⟩
                    | true =>
                      go_wp2_with fail
                      refine (k9.out _ hx6).mono ?_
                      rintro e wq ⟨rfl, hwq⟩
                      subst hwq
                      clear k9
                      go_wp2_with fail
                      refine (k10.out _ hx6).mono ?_
                      rintro e wq ⟨rfl, hwq⟩
                      subst hwq
                      clear k10
                      replace ht : ¬ tk = 0 := ht.out
                      by_cases n1 : st = 1
                      · subst n1
                        by_cases h2 : ds.length = 0
                        · have h2d : ((ds.length : Int) == 0) = true := by simp [h2]
                          by_cases h3 : cd = 0
                          · have h3d : (cd == 0) = true := by simp [h3]
                            have E : Hid (B = false) := by show _ = _; rw [HB.out]; unfold rstateB; simp [*]
                            clear HB ht h2 h3
                            go_wp2
                            go_ret
                            exact ⟨by rw [E.out]; first | rfl | simp, BW _ hx6⟩
                          · have h3d : (cd == 0) = false := by simpa using h3
                            have E : Hid (B = false) := by show _ = _; rw [HB.out]; unfold rstateB; simp [*]
                            clear HB ht h2 h3
                            go_wp2
                            go_ret
                            exact ⟨by rw [E.out]; first | rfl | simp, BW _ hx6⟩
                        · have h2d : ((ds.length : Int) == 0) = false := by rw [beq_eq_false_iff_ne]; omega
                          have E : Hid (B = false) := by show _ = _; rw [HB.out]; unfold rstateB; simp [*]
                          clear HB ht h2
                          go_wp2
                          go_ret
                          exact ⟨by rw [E.out]; first | rfl | simp, BW _ hx6⟩
                      · have m1 : (st == 1) = false := by simpa using n1
                        by_cases n2 : st = 2
                        · subst n2
                          cases d with
                          | true =>
                            have E : Hid (B = false) := by show _ = _; rw [HB.out]; unfold rstateB; simp [*]
                            clear HB ht 
                            go_wp2
                            go_ret
                            exact ⟨by rw [E.out]; first | rfl | simp, BW _ hx6⟩
                          | false =>
                            by_cases h3 : cd = 0
                            · have h3d : (cd == 0) = true := by simp [h3]
                              have E : Hid (B = true) := by show _ = _; rw [HB.out]; unfold rstateB; simp [*]
                              clear HB ht h3
                              go_wp2
                              go_ret
                              exact ⟨by rw [E.out]; first | rfl | simp, BW _ hx6⟩
                            · have h3d : (cd == 0) = false := by simpa using h3
                              have E : Hid (B = false) := by show _ = _; rw [HB.out]; unfold rstateB; simp [*]
                              clear HB ht h3
                              go_wp2
                              go_ret
                              exact ⟨by rw [E.out]; first | rfl | simp, BW _ hx6⟩
                        · have m2 : (st == 2) = false := by simpa using n2
                          by_cases n3 : st = 3
                          · subst n3
                            cases d with
                            | true =>
                              have E : Hid (B = false) := by show _ = _; rw [HB.out]; unfold rstateB; simp [*]
                              clear HB ht 
                              go_wp2
                              go_ret
                              exact ⟨by rw [E.out]; first | rfl | simp, BW _ hx6⟩
                            | false =>
                              by_cases h3 : cd = 0
                              · have h3d : (cd != 0) = false := by simp [h3]
                                have E : Hid (B = false) := by show _ = _; rw [HB.out]; unfold rstateB; simp [*]
                                clear HB ht h3
                                go_wp2
                                go_ret
                                exact ⟨by rw [E.out]; first | rfl | simp, BW _ hx6⟩
                              · have h3d : (cd != 0) = true := by simpa using h3
                                have E : Hid (B = true) := by show _ = _; rw [HB.out]; unfold rstateB; simp [*]
                                clear HB ht h3
                                go_wp2
                                go_ret
                                exact ⟨by rw [E.out]; first | rfl | simp, BW _ hx6⟩
                          · have m3 : (st == 3) = false := by simpa using n3
                            by_cases n4 : st = 4
                            · subst n4
                              cases d with
                              | false =>
                                have E : Hid (B = false) := by show _ = _; rw [HB.out]; unfold rstateB; simp [*]
                                clear HB ht 
                                go_wp2
                                go_ret
                                exact ⟨by rw [E.out]; first | rfl | simp, BW _ hx6⟩
                              | true =>
                                have E : Hid (B = true) := by show _ = _; rw [HB.out]; unfold rstateB; simp [*]
                                clear HB ht 
                                go_wp2
                                go_ret
                                exact ⟨by rw [E.out]; first | rfl | simp, BW _ hx6⟩
                            · have m4 : (st == 4) = false := by simpa using n4
                              have E : Hid (B = false) := by show _ = _; rw [HB.out]; unfold rstateB; simp [*]
                              clear HB ht n1 n2 n3 n4
                              go_wp2
                              go_ret
                              exact ⟨by rw [E.out]; first | rfl | simp, BW _ hx6⟩
end Go.Proofs.Ytglbjimpaoikfaa

