import Derived.Test.YtglbjimpaoikfaaHe23
/- mayState of txn. -/
namespace Go.Proofs.Ytglbjimpaoikfaa
open Go.RowKit LeaseMath
set_option maxRecDepth 100000
set_option linter.unusedSimpArgs false
set_option linter.unusedVariables false

set_option maxHeartbeats 4000000 in
theorem mayState_of (z : Xz) (w : World) (g1 : z.t.groups.length ≤ 1000000000) (g2 : z.t.yes.length ≤ 1000000000) (g3 : z.t.done.length ≤ 1000000000) : Calls Try.prog 34 #[xv z] w fun e w' => e = .returned (.bool (stateB z.t)) ∧ Below w.heap.size w w' := by
  obtain ⟨B, HB⟩ : ∃ B, Hid (B = stateB z.t) := ⟨_, rfl⟩
  rw [← HB.out]
  obtain ⟨hs, hb, cl⟩ := x_boxC w z
  have BW : ∀ W, Below (w.heap.size + 1) (w.alloc (xc z)) W → Below w.heap.size w W := fun W hW => hb.trans (hW.mono (Nat.le_succ _))
  have hsz : Hid (w.heap.size + 1 ≤ (w.alloc (xc z)).heap.size) := by show _ ≤ _; omega
  have hx0 : Below (w.heap.size + 1) (w.alloc (xc z)) (w.alloc (xc z)) := Below.refl _ _
  obtain ⟨c0, c1, c2, c3, c4, c5, c6, c7, c8, c9, c10⟩ := cells11 (cl _ hx0)
  have k1 : Hid (∀ W : World, _) := fun W => all_of z z.y z.t.yes W g1 g2
  have k2 : Hid (∀ W : World, _) := fun W => all_of z z.d z.t.done W g1 g3
  replace cl : Hid (∀ W, Below (w.heap.size + 1) (w.alloc (xc z)) W → W.heap[w.heap.size]? = some (xc z)) := cl
  unfold stateB at HB
  obtain ⟨a, H1⟩ : ∃ b, allB z.t z.t.yes = b := ⟨_, rfl⟩
  obtain ⟨d, H2⟩ : ∃ b, allB z.t z.t.done = b := ⟨_, rfl⟩
  rw [H1] at k1 HB
  rw [H2] at k2 HB
  clear H1 H2 g1 g2 g3 hb hs
  obtain ⟨⟨⟨i1, i2⟩, kd, ks, tk, tt, gs, st, ys, ds, cd⟩, ⟨ka, kc⟩, ⟨ga, gc⟩, ⟨ya, yc⟩, ⟨da, dc⟩⟩ := z
  dsimp only [xv, xc] at *
  by_cases n1 : st = 1
  · subst n1
    by_cases ht : tk = 0
    · have htd : ((tk : Int) != 0) = false := by simp [ht]
      by_cases h2 : ds.length = 0
      · have h2d : ((ds.length : Int) == 0) = true := by simp [h2]
        have h2e := h2
        by_cases h3 : cd = 0
        · have h3d : (cd == 0) = true := by simp [h3]
          have E : Hid (B = true) := by show _ = _; rw [HB.out]; simp [*]
          clear HB
          clear h2 h2e h3 ht
          go_enter Try.func34, Try.ntmps34
          go_wp2
          go_ret
          exact ⟨by rw [E.out]; first | rfl | simp, BW _ hx0⟩
        · have h3d : (cd == 0) = false := by simpa using h3
          have E : Hid (B = false) := by show _ = _; rw [HB.out]; simp [*]
          clear HB
          clear h2 h2e h3 ht
          go_enter Try.func34, Try.ntmps34
          go_wp2
          go_ret
          exact ⟨by rw [E.out]; first | rfl | simp, BW _ hx0⟩
      · have h2d : ((ds.length : Int) == 0) = false := by rw [beq_eq_false_iff_ne]; omega
        have E : Hid (B = false) := by show _ = _; rw [HB.out]; simp [*]
        clear HB
        clear h2 ht
        go_enter Try.func34, Try.ntmps34
        go_wp2
        go_ret
        exact ⟨by rw [E.out]; first | rfl | simp, BW _ hx0⟩
    · have htd : ((tk : Int) != 0) = true := by simpa using ht
      cases a with
      | false =>
        by_cases h2 : ds.length = 0
        · have h2d : ((ds.length : Int) == 0) = true := by simp [h2]
          have h2e := h2
          by_cases h3 : cd = 0
          · have h3d : (cd == 0) = true := by simp [h3]
            have E : Hid (B = true) := by show _ = _; rw [HB.out]; simp [*]
            clear HB
            clear h2 h2e h3 ht
            go_enter Try.func34, Try.ntmps34
            go_wp2_with fail
            refine (k1.out _).mono ?_
            rintro e w1 ⟨rfl, hbc⟩
            have hx1 := keep_step hx0 hsz.out hbc
            obtain ⟨c0, c1, c2, c3, c4, c5, c6, c7, c8, c9, c10⟩ := cells11 (cl.out w1 hx1)
            clear hbc
            go_wp2
            go_ret
            exact ⟨by rw [E.out]; first | rfl | simp, BW _ hx1⟩
          · have h3d : (cd == 0) = false := by simpa using h3
            have E : Hid (B = false) := by show _ = _; rw [HB.out]; simp [*]
            clear HB
            clear h2 h2e h3 ht
            go_enter Try.func34, Try.ntmps34
            go_wp2_with fail
            refine (k1.out _).mono ?_
            rintro e w1 ⟨rfl, hbc⟩
            have hx1 := keep_step hx0 hsz.out hbc
            obtain ⟨c0, c1, c2, c3, c4, c5, c6, c7, c8, c9, c10⟩ := cells11 (cl.out w1 hx1)
            clear hbc
            go_wp2
            go_ret
            exact ⟨by rw [E.out]; first | rfl | simp, BW _ hx1⟩
        · have h2d : ((ds.length : Int) == 0) = false := by rw [beq_eq_false_iff_ne]; omega
          have E : Hid (B = false) := by show _ = _; rw [HB.out]; simp [*]
          clear HB
          clear h2 ht
          go_enter Try.func34, Try.ntmps34
          go_wp2_with fail
          refine (k1.out _).mono ?_
          rintro e w1 ⟨rfl, hbc⟩
          have hx1 := keep_step hx0 hsz.out hbc
          obtain ⟨c0, c1, c2, c3, c4, c5, c6, c7, c8, c9, c10⟩ := cells11 (cl.out w1 hx1)
          clear hbc
          go_wp2
          go_ret
          exact ⟨by rw [E.out]; first | rfl | simp, BW _ hx1⟩
      | true =>
        by_cases h2 : ds.length = 0
        · have h2d : ((ds.length : Int) == 0) = true := by simp [h2]
          have h2e := h2
          by_cases h3 : cd = 0
          · have h3d : (cd == 0) = true := by simp [h3]
            have E : Hid (B = false) := by show _ = _; rw [HB.out]; simp [*]
            clear HB
            clear h2 h2e h3 ht
            go_enter Try.func34, Try.ntmps34
            go_wp2_with fail
            refine (k1.out _).mono ?_
            rintro e w1 ⟨rfl, hbc⟩
            have hx1 := keep_step hx0 hsz.out hbc
            obtain ⟨c0, c1, c2, c3, c4, c5, c6, c7, c8, c9, c10⟩ := cells11 (cl.out w1 hx1)
            clear hbc
            go_wp2
            go_ret
            exact ⟨by rw [E.out]; first | rfl | simp, BW _ hx1⟩
          · have h3d : (cd == 0) = false := by simpa using h3
            have E : Hid (B = false) := by show _ = _; rw [HB.out]; simp [*]
            clear HB
            clear h2 h2e h3 ht
            go_enter Try.func34, Try.ntmps34
            go_wp2_with fail
            refine (k1.out _).mono ?_
            rintro e w1 ⟨rfl, hbc⟩
            have hx1 := keep_step hx0 hsz.out hbc
            obtain ⟨c0, c1, c2, c3, c4, c5, c6, c7, c8, c9, c10⟩ := cells11 (cl.out w1 hx1)
            clear hbc
            go_wp2
            go_ret
            exact ⟨by rw [E.out]; first | rfl | simp, BW _ hx1⟩
        · have h2d : ((ds.length : Int) == 0) = false := by rw [beq_eq_false_iff_ne]; omega
          have E : Hid (B = false) := by show _ = _; rw [HB.out]; simp [*]
          clear HB
          clear h2 ht
          go_enter Try.func34, Try.ntmps34
          go_wp2_with fail
          refine (k1.out _).mono ?_
          rintro e w1 ⟨rfl, hbc⟩
          have hx1 := keep_step hx0 hsz.out hbc
          obtain ⟨c0, c1, c2, c3, c4, c5, c6, c7, c8, c9, c10⟩ := cells11 (cl.out w1 hx1)
          clear hbc
          go_wp2
          go_ret
          exact ⟨by rw [E.out]; first | rfl | simp, BW _ hx1⟩
  · have m1 : (st == 1) = false := by simpa using n1
    by_cases n2 : st = 2
    · subst n2
      by_cases ht : tk = 0
      · have htd : ((tk : Int) != 0) = false := by simp [ht]
        have E : Hid (B = false) := by show _ = _; rw [HB.out]; simp [*]
        clear HB
        clear ht
        go_enter Try.func34, Try.ntmps34
        go_wp2
        go_ret
        exact ⟨by rw [E.out]; first | rfl | simp, BW _ hx0⟩
      · have htd : ((tk : Int) != 0) = true := by simpa using ht
        cases a with
        | false =>
          have E : Hid (B = false) := by show _ = _; rw [HB.out]; simp [*]
          clear HB
          clear ht
          go_enter Try.func34, Try.ntmps34
          go_wp2_with fail
          refine (k1.out _).mono ?_
          rintro e w1 ⟨rfl, hbc⟩
          have hx1 := keep_step hx0 hsz.out hbc
          obtain ⟨c0, c1, c2, c3, c4, c5, c6, c7, c8, c9, c10⟩ := cells11 (cl.out w1 hx1)
          clear hbc
          go_wp2
          go_ret
          exact ⟨by rw [E.out]; first | rfl | simp, BW _ hx1⟩
        | true =>
          cases d with
          | true =>
            have E : Hid (B = false) := by show _ = _; rw [HB.out]; simp [*]
            clear HB
            clear ht
            go_enter Try.func34, Try.ntmps34
            go_wp2_with fail
            refine (k1.out _).mono ?_
            rintro e w1 ⟨rfl, hbc⟩
            have hx1 := keep_step hx0 hsz.out hbc
            obtain ⟨c0, c1, c2, c3, c4, c5, c6, c7, c8, c9, c10⟩ := cells11 (cl.out w1 hx1)
            clear hbc
            go_wp2_with fail
            refine (k2.out _).mono ?_
            rintro e w2 ⟨rfl, hbc⟩
            have hx2 := keep_step hx1 hsz.out hbc
            obtain ⟨c0, c1, c2, c3, c4, c5, c6, c7, c8, c9, c10⟩ := cells11 (cl.out w2 hx2)
            clear hbc
            go_wp2
            go_ret
            exact ⟨by rw [E.out]; first | rfl | simp, BW _ hx2⟩
          | false =>
            by_cases h3 : cd = 0
            · have h3d : (cd == 0) = true := by simp [h3]
              have E : Hid (B = true) := by show _ = _; rw [HB.out]; simp [*]
              clear HB
              clear h3 ht
              go_enter Try.func34, Try.ntmps34
              go_wp2_with fail
              refine (k1.out _).mono ?_
              rintro e w1 ⟨rfl, hbc⟩
              have hx1 := keep_step hx0 hsz.out hbc
              obtain ⟨c0, c1, c2, c3, c4, c5, c6, c7, c8, c9, c10⟩ := cells11 (cl.out w1 hx1)
              clear hbc
              go_wp2_with fail
              refine (k2.out _).mono ?_
              rintro e w2 ⟨rfl, hbc⟩
              have hx2 := keep_step hx1 hsz.out hbc
              obtain ⟨c0, c1, c2, c3, c4, c5, c6, c7, c8, c9, c10⟩ := cells11 (cl.out w2 hx2)
              clear hbc
              go_wp2
              go_ret
              exact ⟨by rw [E.out]; first | rfl | simp, BW _ hx2⟩
            · have h3d : (cd == 0) = false := by simpa using h3
              have E : Hid (B = false) := by show _ = _; rw [HB.out]; simp [*]
              clear HB
              clear h3 ht
              go_enter Try.func34, Try.ntmps34
              go_wp2_with fail
              refine (k1.out _).mono ?_
              rintro e w1 ⟨rfl, hbc⟩
              have hx1 := keep_step hx0 hsz.out hbc
              obtain ⟨c0, c1, c2, c3, c4, c5, c6, c7, c8, c9, c10⟩ := cells11 (cl.out w1 hx1)
              clear hbc
              go_wp2_with fail
              refine (k2.out _).mono ?_
              rintro e w2 ⟨rfl, hbc⟩
              have hx2 := keep_step hx1 hsz.out hbc
              obtain ⟨c0, c1, c2, c3, c4, c5, c6, c7, c8, c9, c10⟩ := cells11 (cl.out w2 hx2)
              clear hbc
              go_wp2
              go_ret
              exact ⟨by rw [E.out]; first | rfl | simp, BW _ hx2⟩
    · have m2 : (st == 2) = false := by simpa using n2
      by_cases n3 : st = 3
      · subst n3
        by_cases ht : tk = 0
        · have htd : ((tk : Int) != 0) = false := by simp [ht]
          by_cases h3 : cd = 0
          · have h3d : (cd != 0) = false := by simp [h3]
            have E : Hid (B = false) := by show _ = _; rw [HB.out]; simp [*]
            clear HB
            clear h3 ht
            go_enter Try.func34, Try.ntmps34
            go_wp2
            go_ret
            exact ⟨by rw [E.out]; first | rfl | simp, BW _ hx0⟩
          · have h3d : (cd != 0) = true := by simpa using h3
            cases d with
            | true =>
              have E : Hid (B = false) := by show _ = _; rw [HB.out]; simp [*]
              clear HB
              clear h3 ht
              go_enter Try.func34, Try.ntmps34
              go_wp2_with fail
              refine (k2.out _).mono ?_
              rintro e w1 ⟨rfl, hbc⟩
              have hx1 := keep_step hx0 hsz.out hbc
              obtain ⟨c0, c1, c2, c3, c4, c5, c6, c7, c8, c9, c10⟩ := cells11 (cl.out w1 hx1)
              clear hbc
              go_wp2
              go_ret
              exact ⟨by rw [E.out]; first | rfl | simp, BW _ hx1⟩
            | false =>
              have E : Hid (B = true) := by show _ = _; rw [HB.out]; simp [*]
              clear HB
              clear h3 ht
              go_enter Try.func34, Try.ntmps34
              go_wp2_with fail
              refine (k2.out _).mono ?_
              rintro e w1 ⟨rfl, hbc⟩
              have hx1 := keep_step hx0 hsz.out hbc
              obtain ⟨c0, c1, c2, c3, c4, c5, c6, c7, c8, c9, c10⟩ := cells11 (cl.out w1 hx1)
              clear hbc
              go_wp2
              go_ret
              exact ⟨by rw [E.out]; first | rfl | simp, BW _ hx1⟩
        · have htd : ((tk : Int) != 0) = true := by simpa using ht
          cases a with
          | false =>
            by_cases h3 : cd = 0
            · have h3d : (cd != 0) = false := by simp [h3]
              have E : Hid (B = false) := by show _ = _; rw [HB.out]; simp [*]
              clear HB
              clear h3 ht
              go_enter Try.func34, Try.ntmps34
              go_wp2_with fail
              refine (k1.out _).mono ?_
              rintro e w1 ⟨rfl, hbc⟩
              have hx1 := keep_step hx0 hsz.out hbc
              obtain ⟨c0, c1, c2, c3, c4, c5, c6, c7, c8, c9, c10⟩ := cells11 (cl.out w1 hx1)
              clear hbc
              go_wp2
              go_ret
              exact ⟨by rw [E.out]; first | rfl | simp, BW _ hx1⟩
            · have h3d : (cd != 0) = true := by simpa using h3
              cases d with
              | true =>
                have E : Hid (B = false) := by show _ = _; rw [HB.out]; simp [*]
                clear HB
                clear h3 ht
                go_enter Try.func34, Try.ntmps34
                go_wp2_with fail
                refine (k1.out _).mono ?_
                rintro e w1 ⟨rfl, hbc⟩
                have hx1 := keep_step hx0 hsz.out hbc
                obtain ⟨c0, c1, c2, c3, c4, c5, c6, c7, c8, c9, c10⟩ := cells11 (cl.out w1 hx1)
                clear hbc
                go_wp2_with fail
                refine (k2.out _).mono ?_
                rintro e w2 ⟨rfl, hbc⟩
                have hx2 := keep_step hx1 hsz.out hbc
                obtain ⟨c0, c1, c2, c3, c4, c5, c6, c7, c8, c9, c10⟩ := cells11 (cl.out w2 hx2)
                clear hbc
                go_wp2
                go_ret
                exact ⟨by rw [E.out]; first | rfl | simp, BW _ hx2⟩
              | false =>
                have E : Hid (B = true) := by show _ = _; rw [HB.out]; simp [*]
                clear HB
                clear h3 ht
                go_enter Try.func34, Try.ntmps34
                go_wp2_with fail
                refine (k1.out _).mono ?_
                rintro e w1 ⟨rfl, hbc⟩
                have hx1 := keep_step hx0 hsz.out hbc
                obtain ⟨c0, c1, c2, c3, c4, c5, c6, c7, c8, c9, c10⟩ := cells11 (cl.out w1 hx1)
                clear hbc
                go_wp2_with fail
                refine (k2.out _).mono ?_
                rintro e w2 ⟨rfl, hbc⟩
                have hx2 := keep_step hx1 hsz.out hbc
                obtain ⟨c0, c1, c2, c3, c4, c5, c6, c7, c8, c9, c10⟩ := cells11 (cl.out w2 hx2)
                clear hbc
                go_wp2
                go_ret
                exact ⟨by rw [E.out]; first | rfl | simp, BW _ hx2⟩
          | true =>
            by_cases h3 : cd = 0
            · have h3d : (cd != 0) = false := by simp [h3]
              have E : Hid (B = false) := by show _ = _; rw [HB.out]; simp [*]
              clear HB
              clear h3 ht
              go_enter Try.func34, Try.ntmps34
              go_wp2_with fail
              refine (k1.out _).mono ?_
              rintro e w1 ⟨rfl, hbc⟩
              have hx1 := keep_step hx0 hsz.out hbc
              obtain ⟨c0, c1, c2, c3, c4, c5, c6, c7, c8, c9, c10⟩ := cells11 (cl.out w1 hx1)
              clear hbc
              go_wp2
              go_ret
              exact ⟨by rw [E.out]; first | rfl | simp, BW _ hx1⟩
            · have h3d : (cd != 0) = true := by simpa using h3
              cases d with
              | true =>
                have E : Hid (B = false) := by show _ = _; rw [HB.out]; simp [*]
                clear HB
                clear h3 ht
                go_enter Try.func34, Try.ntmps34
                go_wp2_with fail
                refine (k1.out _).mono ?_
                rintro e w1 ⟨rfl, hbc⟩
                have hx1 := keep_step hx0 hsz.out hbc
                obtain ⟨c0, c1, c2, c3, c4, c5, c6, c7, c8, c9, c10⟩ := cells11 (cl.out w1 hx1)
                clear hbc
                go_wp2_with fail
                refine (k2.out _).mono ?_
                rintro e w2 ⟨rfl, hbc⟩
                have hx2 := keep_step hx1 hsz.out hbc
                obtain ⟨c0, c1, c2, c3, c4, c5, c6, c7, c8, c9, c10⟩ := cells11 (cl.out w2 hx2)
                clear hbc
                go_wp2
                go_ret
                exact ⟨by rw [E.out]; first | rfl | simp, BW _ hx2⟩
              | false =>
                have E : Hid (B = true) := by show _ = _; rw [HB.out]; simp [*]
                clear HB
                clear h3 ht
                go_enter Try.func34, Try.ntmps34
                go_wp2_with fail
                refine (k1.out _).mono ?_
                rintro e w1 ⟨rfl, hbc⟩
                have hx1 := keep_step hx0 hsz.out hbc
                obtain ⟨c0, c1, c2, c3, c4, c5, c6, c7, c8, c9, c10⟩ := cells11 (cl.out w1 hx1)
                clear hbc
                go_wp2_with fail
                refine (k2.out _).mono ?_
                rintro e w2 ⟨rfl, hbc⟩
                have hx2 := keep_step hx1 hsz.out hbc
                obtain ⟨c0, c1, c2, c3, c4, c5, c6, c7, c8, c9, c10⟩ := cells11 (cl.out w2 hx2)
                clear hbc
                go_wp2
                go_ret
                exact ⟨by rw [E.out]; first | rfl | simp, BW _ hx2⟩
      · have m3 : (st == 3) = false := by simpa using n3
        by_cases n4 : st = 4
        · subst n4
          by_cases ht : tk = 0
          · have htd : ((tk : Int) != 0) = false := by simp [ht]
            cases d with
            | false =>
              have E : Hid (B = false) := by show _ = _; rw [HB.out]; simp [*]
              clear HB
              clear ht
              go_enter Try.func34, Try.ntmps34
              go_wp2_with fail
              refine (k2.out _).mono ?_
              rintro e w1 ⟨rfl, hbc⟩
              have hx1 := keep_step hx0 hsz.out hbc
              obtain ⟨c0, c1, c2, c3, c4, c5, c6, c7, c8, c9, c10⟩ := cells11 (cl.out w1 hx1)
              clear hbc
              go_wp2
              go_ret
              exact ⟨by rw [E.out]; first | rfl | simp, BW _ hx1⟩
            | true =>
              by_cases h3 : cd = 0
              · have h3d : (cd != 0) = false := by simp [h3]
                have E : Hid (B = false) := by show _ = _; rw [HB.out]; simp [*]
                clear HB
                clear h3 ht
                go_enter Try.func34, Try.ntmps34
                go_wp2_with fail
                refine (k2.out _).mono ?_
                rintro e w1 ⟨rfl, hbc⟩
                have hx1 := keep_step hx0 hsz.out hbc
                obtain ⟨c0, c1, c2, c3, c4, c5, c6, c7, c8, c9, c10⟩ := cells11 (cl.out w1 hx1)
                clear hbc
                go_wp2
                go_ret
                exact ⟨by rw [E.out]; first | rfl | simp, BW _ hx1⟩
              · have h3d : (cd != 0) = true := by simpa using h3
                have E : Hid (B = true) := by show _ = _; rw [HB.out]; simp [*]
                clear HB
                clear h3 ht
                go_enter Try.func34, Try.ntmps34
                go_wp2_with fail
                refine (k2.out _).mono ?_
                rintro e w1 ⟨rfl, hbc⟩
                have hx1 := keep_step hx0 hsz.out hbc
                obtain ⟨c0, c1, c2, c3, c4, c5, c6, c7, c8, c9, c10⟩ := cells11 (cl.out w1 hx1)
                clear hbc
                go_wp2
                go_ret
                exact ⟨by rw [E.out]; first | rfl | simp, BW _ hx1⟩
          · have htd : ((tk : Int) != 0) = true := by simpa using ht
            cases a with
            | false =>
              cases d with
              | false =>
                have E : Hid (B = false) := by show _ = _; rw [HB.out]; simp [*]
                clear HB
                clear ht
                go_enter Try.func34, Try.ntmps34
                go_wp2_with fail
                refine (k1.out _).mono ?_
                rintro e w1 ⟨rfl, hbc⟩
                have hx1 := keep_step hx0 hsz.out hbc
                obtain ⟨c0, c1, c2, c3, c4, c5, c6, c7, c8, c9, c10⟩ := cells11 (cl.out w1 hx1)
                clear hbc
                go_wp2_with fail
                refine (k2.out _).mono ?_
                rintro e w2 ⟨rfl, hbc⟩
                have hx2 := keep_step hx1 hsz.out hbc
                obtain ⟨c0, c1, c2, c3, c4, c5, c6, c7, c8, c9, c10⟩ := cells11 (cl.out w2 hx2)
                clear hbc
                go_wp2
                go_ret
                exact ⟨by rw [E.out]; first | rfl | simp, BW _ hx2⟩
              | true =>
                by_cases h3 : cd = 0
                · have h3d : (cd != 0) = false := by simp [h3]
                  have E : Hid (B = false) := by show _ = _; rw [HB.out]; simp [*]
                  clear HB
                  clear h3 ht
                  go_enter Try.func34, Try.ntmps34
                  go_wp2_with fail
                  refine (k1.out _).mono ?_
                  rintro e w1 ⟨rfl, hbc⟩
                  have hx1 := keep_step hx0 hsz.out hbc
                  obtain ⟨c0, c1, c2, c3, c4, c5, c6, c7, c8, c9, c10⟩ := cells11 (cl.out w1 hx1)
                  clear hbc
                  go_wp2_with fail
                  refine (k2.out _).mono ?_
                  rintro e w2 ⟨rfl, hbc⟩
                  have hx2 := keep_step hx1 hsz.out hbc
                  obtain ⟨c0, c1, c2, c3, c4, c5, c6, c7, c8, c9, c10⟩ := cells11 (cl.out w2 hx2)
                  clear hbc
                  go_wp2
                  go_ret
                  exact ⟨by rw [E.out]; first | rfl | simp, BW _ hx2⟩
                · have h3d : (cd != 0) = true := by simpa using h3
                  have E : Hid (B = true) := by show _ = _; rw [HB.out]; simp [*]
                  clear HB
                  clear h3 ht
                  go_enter Try.func34, Try.ntmps34
                  go_wp2_with fail
                  refine (k1.out _).mono ?_
                  rintro e w1 ⟨rfl, hbc⟩
                  have hx1 := keep_step hx0 hsz.out hbc
                  obtain ⟨c0, c1, c2, c3, c4, c5, c6, c7, c8, c9, c10⟩ := cells11 (cl.out w1 hx1)
                  clear hbc
                  go_wp2_with fail
                  refine (k2.out _).mono ?_
                  rintro e w2 ⟨rfl, hbc⟩
                  have hx2 := keep_step hx1 hsz.out hbc
                  obtain ⟨c0, c1, c2, c3, c4, c5, c6, c7, c8, c9, c10⟩ := cells11 (cl.out w2 hx2)
                  clear hbc
                  go_wp2
                  go_ret
                  exact ⟨by rw [E.out]; first | rfl | simp, BW _ hx2⟩
            | true =>
              cases d with
              | false =>
                have E : Hid (B = false) := by show _ = _; rw [HB.out]; simp [*]
                clear HB
                clear ht
                go_enter Try.func34, Try.ntmps34
                go_wp2_with fail
                refine (k1.out _).mono ?_
                rintro e w1 ⟨rfl, hbc⟩
                have hx1 := keep_step hx0 hsz.out hbc
                obtain ⟨c0, c1, c2, c3, c4, c5, c6, c7, c8, c9, c10⟩ := cells11 (cl.out w1 hx1)
                clear hbc
                go_wp2_with fail
                refine (k2.out _).mono ?_
                rintro e w2 ⟨rfl, hbc⟩
                have hx2 := keep_step hx1 hsz.out hbc
                obtain ⟨c0, c1, c2, c3, c4, c5, c6, c7, c8, c9, c10⟩ := cells11 (cl.out w2 hx2)
                clear hbc
                go_wp2
                go_ret
                exact ⟨by rw [E.out]; first | rfl | simp, BW _ hx2⟩
              | true =>
                by_cases h3 : cd = 0
                · have h3d : (cd != 0) = false := by simp [h3]
                  have E : Hid (B = true) := by show _ = _; rw [HB.out]; simp [*]
                  clear HB
                  clear h3 ht
                  go_enter Try.func34, Try.ntmps34
                  go_wp2_with fail
                  refine (k1.out _).mono ?_
                  rintro e w1 ⟨rfl, hbc⟩
                  have hx1 := keep_step hx0 hsz.out hbc
                  obtain ⟨c0, c1, c2, c3, c4, c5, c6, c7, c8, c9, c10⟩ := cells11 (cl.out w1 hx1)
                  clear hbc
                  go_wp2_with fail
                  refine (k2.out _).mono ?_
                  rintro e w2 ⟨rfl, hbc⟩
                  have hx2 := keep_step hx1 hsz.out hbc
                  obtain ⟨c0, c1, c2, c3, c4, c5, c6, c7, c8, c9, c10⟩ := cells11 (cl.out w2 hx2)
                  clear hbc
                  go_wp2
                  go_ret
                  exact ⟨by rw [E.out]; first | rfl | simp, BW _ hx2⟩
                · have h3d : (cd != 0) = true := by simpa using h3
                  have E : Hid (B = true) := by show _ = _; rw [HB.out]; simp [*]
                  clear HB
                  clear h3 ht
                  go_enter Try.func34, Try.ntmps34
                  go_wp2_with fail
                  refine (k1.out _).mono ?_
                  rintro e w1 ⟨rfl, hbc⟩
                  have hx1 := keep_step hx0 hsz.out hbc
                  obtain ⟨c0, c1, c2, c3, c4, c5, c6, c7, c8, c9, c10⟩ := cells11 (cl.out w1 hx1)
                  clear hbc
                  go_wp2_with fail
                  refine (k2.out _).mono ?_
                  rintro e w2 ⟨rfl, hbc⟩
                  have hx2 := keep_step hx1 hsz.out hbc
                  obtain ⟨c0, c1, c2, c3, c4, c5, c6, c7, c8, c9, c10⟩ := cells11 (cl.out w2 hx2)
                  clear hbc
                  go_wp2
                  go_ret
                  exact ⟨by rw [E.out]; first | rfl | simp, BW _ hx2⟩
        · have m4 : (st == 4) = false := by simpa using n4
          by_cases ht : tk = 0
          · have htd : ((tk : Int) != 0) = false := by simp [ht]
            have E : Hid (B = false) := by show _ = _; rw [HB.out]; simp [*]
            clear HB
            clear ht n1 n2 n3 n4
            go_enter Try.func34, Try.ntmps34
            go_wp2
            go_ret
            exact ⟨by rw [E.out]; first | rfl | simp, BW _ hx0⟩
          · have htd : ((tk : Int) != 0) = true := by simpa using ht
            cases a with
            | false =>
              have E : Hid (B = false) := by show _ = _; rw [HB.out]; simp [*]
              clear HB
              clear ht n1 n2 n3 n4
              go_enter Try.func34, Try.ntmps34
              go_wp2_with fail
              refine (k1.out _).mono ?_
              rintro e w1 ⟨rfl, hbc⟩
              have hx1 := keep_step hx0 hsz.out hbc
              obtain ⟨c0, c1, c2, c3, c4, c5, c6, c7, c8, c9, c10⟩ := cells11 (cl.out w1 hx1)
              clear hbc
              go_wp2
              go_ret
              exact ⟨by rw [E.out]; first | rfl | simp, BW _ hx1⟩
            | true =>
              have E : Hid (B = false) := by show _ = _; rw [HB.out]; simp [*]
              clear HB
              clear ht n1 n2 n3 n4
              go_enter Try.func34, Try.ntmps34
              go_wp2_with fail
              refine (k1.out _).mono ?_
              rintro e w1 ⟨rfl, hbc⟩
              have hx1 := keep_step hx0 hsz.out hbc
              obtain ⟨c0, c1, c2, c3, c4, c5, c6, c7, c8, c9, c10⟩ := cells11 (cl.out w1 hx1)
              clear hbc
              go_wp2
              go_ret
              exact ⟨by rw [E.out]; first | rfl | simp, BW _ hx1⟩
end Go.Proofs.Ytglbjimpaoikfaa

