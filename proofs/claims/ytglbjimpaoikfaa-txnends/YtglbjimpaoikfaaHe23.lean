import Derived.Test.YtglbjimpaoikfaaHe21
import Derived.Test.YtglbjimpaoikfaaHe22
/- mayId, mayGroups of txn. -/
namespace Go.Proofs.Ytglbjimpaoikfaa
open Go.RowKit LeaseMath
set_option maxRecDepth 100000
set_option linter.unusedSimpArgs false
set_option linter.unusedVariables false

theorem xid_of (c : Cq) (w : World) : Calls Try.prog 31 #[idv c] w fun e w' => e = .returned (.bool (idB c)) ∧ Below w.heap.size w w' := by
  obtain ⟨x, y⟩ := c
  obtain ⟨B, HB⟩ : ∃ B, Hid (B = idB (x, y)) := ⟨_, rfl⟩
  rw [← HB.out]
  obtain ⟨hs, hb, cl⟩ := id_box w (x, y)
  obtain ⟨c0, c1⟩ := cl _ (Below.refl _ _)
  dsimp only [idv, idc] at *
  clear cl
  by_cases h1 : 0 ≤ x
  · have h1d : decide (0 ≤ x) = true := decide_eq_true h1
    by_cases h2 : x < 8
    · have h2d : decide (x < 8) = true := decide_eq_true h2
      by_cases h3 : y = 0
      · have h3d : ((y : Int) != 0) = false := by simp [h3]
        have h3e : ((y : Int) == 0) = true := by simp [h3]
        have E : Hid (B = false) := by show _ = _; rw [HB.out]; simp [idB, h3]
        clear HB h3
        go_enter Try.func31, Try.ntmps31
        go_wp2
        go_ret
        exact ⟨by rw [E.out]; first | rfl | simp, hb⟩
      · have h3d : ((y : Int) != 0) = true := by simpa using h3
        have h3e : ((y : Int) == 0) = false := by simpa using h3
        have E : Hid (B = true) := by show _ = _; rw [HB.out]; simp [idB, h1, h2, h3]
        clear HB h3
        go_enter Try.func31, Try.ntmps31
        go_wp2
        go_ret
        exact ⟨by rw [E.out]; first | rfl | simp, hb⟩
    · have h2d : decide (x < 8) = false := decide_eq_false h2
      have E : Hid (B = false) := by show _ = _; rw [HB.out]; simp [idB, h2]
      clear HB h2
      go_enter Try.func31, Try.ntmps31
      go_wp2
      go_ret
      exact ⟨by rw [E.out]; first | rfl | simp, hb⟩
  · have h1d : decide (0 ≤ x) = false := decide_eq_false h1
    have E : Hid (B = false) := by show _ = _; rw [HB.out]; simp [idB, h1]
    clear HB h1
    go_enter Try.func31, Try.ntmps31
    go_wp2
    go_ret
    exact ⟨by rw [E.out]; first | rfl | simp, hb⟩

/-- A record in a box, in every later world. -/
theorem x_boxC (w : World) (z : Xz) : (w.alloc (xc z)).heap.size = w.heap.size + 1 ∧ Below w.heap.size w (w.alloc (xc z)) ∧ ∀ W, Below (w.heap.size + 1) (w.alloc (xc z)) W → W.heap[w.heap.size]? = some (xc z) := by
  obtain ⟨h1, h2, h3⟩ := x_box w z
  exact ⟨h1, h3, fun W hW => (hW.block w.heap.size (Nat.lt_succ_self _)).trans h2⟩
theorem stranger_of (z : Xz) (q : Nat) (x : Int) (w : World) (hq : w.heap[q]? = some (xc z)) (hG : Rd intE w (.slice z.g.1 z.t.groups.length z.g.2) z.t.groups) (hlen : z.t.groups.length ≤ 1000000000) : Calls Try.prog 58 #[.int .i64 x, .pointer (some ⟨q, 0, none⟩)] w fun e w' => e = .returned (.bool (!decide (x ∈ z.t.groups))) ∧ Below w.heap.size w w' := by
  have kc := contains_of z.t.groups _ x w hG (by omega)
  generalize decide (x ∈ z.t.groups) = b at *
  obtain ⟨⟨⟨i1, i2⟩, kd, ks, tk, tt, gs, st, ys, ds, cd⟩, ⟨ka, kc⟩, ⟨ga, gc⟩, ⟨ya, yc⟩, ⟨da, dc⟩⟩ := z
  dsimp only [xv, xc] at *
  obtain ⟨c0, c1, c2, c3, c4, c5, c6, c7, c8, c9, c10⟩ := cells11 hq
  clear hG hlen hq
  go_enter Try.func58, Try.ntmps58
  go_wp2_with fail
  refine kc.mono ?_
  rintro e w1 ⟨rfl, hw1⟩
  subst hw1
  cases b <;>
  · go_wp2
    go_ret
    exact ⟨rfl, Below.refl _ _⟩
theorem any_not_all (l : List Int) (p : Int → Bool) : (l.any fun x => !p x) = !l.all p := by
  induction l with
  | nil => rfl
  | cons a l ih => simp only [List.any_cons, List.all_cons, ih]; cases p a <;> simp
set_option maxHeartbeats 4000000 in
theorem mayGroups_of (z : Xz) (w : World) (hR : XR w z) (g1 : z.t.groups.length ≤ 1000000000) (g2 : z.t.yes.length ≤ 1000000000) (g3 : z.t.done.length ≤ 1000000000) : Calls Try.prog 33 #[xv z] w fun e w' => e = .returned (.bool (groupsB z.t)) ∧ Below w.heap.size w w' := by
  obtain ⟨B, HB⟩ : ∃ B, Hid (B = groupsB z.t) := ⟨_, rfl⟩
  rw [← HB.out]
  obtain ⟨hs, hb, cl⟩ := x_boxC w z
  have BW : ∀ W, Below (w.heap.size + 1) (w.alloc (xc z)) W → Below w.heap.size w W := fun W hW => hb.trans (hW.mono (Nat.le_succ _))
  have hsz : Hid (w.heap.size + 1 ≤ (w.alloc (xc z)).heap.size) := by show _ ≤ _; omega
  have hx0 : Below (w.heap.size + 1) (w.alloc (xc z)) (w.alloc (xc z)) := Below.refl _ _
  obtain ⟨c0, c1, c2, c3, c4, c5, c6, c7, c8, c9, c10⟩ := cells11 (cl _ hx0)
  have k2 : Hid (∀ W, Below (w.heap.size + 1) (w.alloc (xc z)) W → _) := fun W hW => rising_of z.t.groups _ W (hR.2.1.below (BW W hW)) g1
  have k3 : Hid (∀ W, Below (w.heap.size + 1) (w.alloc (xc z)) W → _) := fun W hW => anyOther_of (fun x => !(decide (1 ≤ x) && decide (x ≤ 16))) z.t.groups _ W (hR.2.1.below (BW W hW)) (by omega) fun x V _ _ => other_of x V
  have k4 : Hid (∀ W, Below (w.heap.size + 1) (w.alloc (xc z)) W → _) := fun W hW => rising_of z.t.yes _ W (hR.2.2.1.below (BW W hW)) g2
  have k5 : Hid (∀ W, Below (w.heap.size + 1) (w.alloc (xc z)) W → _) := fun W hW => anyStranger_of (fun x => !decide (x ∈ z.t.groups)) z.t.yes _ (.pointer (some ⟨w.heap.size, 0, none⟩)) W (hR.2.2.1.below (BW W hW)) (by omega) fun x V _ hV =>
    have hWV := keep_step hW hsz.out hV
    stranger_of z w.heap.size x V (cl V hWV) (hR.2.1.below (BW V hWV)) g1
  have k6 : Hid (∀ W, Below (w.heap.size + 1) (w.alloc (xc z)) W → _) := fun W hW => rising_of z.t.done _ W (hR.2.2.2.below (BW W hW)) g3
  have k7 : Hid (∀ W, Below (w.heap.size + 1) (w.alloc (xc z)) W → _) := fun W hW => anyStranger_of (fun x => !decide (x ∈ z.t.groups)) z.t.done _ (.pointer (some ⟨w.heap.size, 0, none⟩)) W (hR.2.2.2.below (BW W hW)) (by omega) fun x V _ hV =>
    have hWV := keep_step hW hsz.out hV
    stranger_of z w.heap.size x V (cl V hWV) (hR.2.1.below (BW V hWV)) g1
  simp only [any_not_all] at k3 k5 k7
  replace cl : Hid (∀ W, Below (w.heap.size + 1) (w.alloc (xc z)) W → W.heap[w.heap.size]? = some (xc z)) := cl
  unfold groupsB grpB subB at HB
  obtain ⟨b2, H2⟩ : ∃ b, riseB z.t.groups = b := ⟨_, rfl⟩
  obtain ⟨b3, H3⟩ : ∃ b, (z.t.groups.all fun g => decide (1 ≤ g) && decide (g ≤ 16)) = b := ⟨_, rfl⟩
  obtain ⟨b4, H4⟩ : ∃ b, riseB z.t.yes = b := ⟨_, rfl⟩
  obtain ⟨b5, H5⟩ : ∃ b, (z.t.yes.all fun g => decide (g ∈ z.t.groups)) = b := ⟨_, rfl⟩
  obtain ⟨b6, H6⟩ : ∃ b, riseB z.t.done = b := ⟨_, rfl⟩
  obtain ⟨b7, H7⟩ : ∃ b, (z.t.done.all fun g => decide (g ∈ z.t.groups)) = b := ⟨_, rfl⟩
  rw [H2] at k2 HB
  rw [H3] at k3 HB
  rw [H4] at k4 HB
  rw [H5] at k5 HB
  rw [H6] at k6 HB
  rw [H7] at k7 HB
  clear H2 H3 H4 H5 H6 H7 hR g1 g2 g3 hb hs
  obtain ⟨⟨⟨i1, i2⟩, kd, ks, tk, tt, gs, st, ys, ds, cd⟩, ⟨ka, kc⟩, ⟨ga, gc⟩, ⟨ya, yc⟩, ⟨da, dc⟩⟩ := z
  dsimp only [xv, xc] at *
  by_cases h1 : 0 < gs.length
  · have h1i : (0 : Int) < (gs.length : Int) := by omega
    rw [decide_eq_true h1] at HB
    clear h1
    cases b2 with
    | false =>
      have E : Hid (B = false) := by show _ = _; rw [HB.out]; simp
      clear HB k3 k4 k5 k6 k7
      go_enter Try.func33, Try.ntmps33
      go_wp2_with fail
      refine (k2.out _ hx0).mono ?_
      rintro e w1 ⟨rfl, hbc⟩
      have hx1 := keep_step hx0 hsz.out hbc
      obtain ⟨c0, c1, c2, c3, c4, c5, c6, c7, c8, c9, c10⟩ := cells11 (cl.out w1 hx1)
      clear hbc
      go_wp2
      go_ret
      exact ⟨by rw [E.out]; first | rfl | simp, BW _ hx1⟩
    | true =>
      cases b3 with
      | false =>
        have E : Hid (B = false) := by show _ = _; rw [HB.out]; simp
        clear HB k4 k5 k6 k7
        go_enter Try.func33, Try.ntmps33
        go_wp2_with fail
        refine (k2.out _ hx0).mono ?_
        rintro e w1 ⟨rfl, hbc⟩
        have hx1 := keep_step hx0 hsz.out hbc
        obtain ⟨c0, c1, c2, c3, c4, c5, c6, c7, c8, c9, c10⟩ := cells11 (cl.out w1 hx1)
        clear hbc
        go_wp2_with fail
        refine (k3.out _ hx1).mono ?_
        rintro e w2 ⟨rfl, hbc⟩
        have hx2 := keep_step hx1 hsz.out hbc
        obtain ⟨c0, c1, c2, c3, c4, c5, c6, c7, c8, c9, c10⟩ := cells11 (cl.out w2 hx2)
        clear hbc
        go_wp2
        go_ret
        exact ⟨by rw [E.out]; first | rfl | simp, BW _ hx2⟩
      | true =>
        cases b4 with
        | false =>
          have E : Hid (B = false) := by show _ = _; rw [HB.out]; simp
          clear HB k5 k6 k7
          go_enter Try.func33, Try.ntmps33
          go_wp2_with fail
          refine (k2.out _ hx0).mono ?_
          rintro e w1 ⟨rfl, hbc⟩
          have hx1 := keep_step hx0 hsz.out hbc
          obtain ⟨c0, c1, c2, c3, c4, c5, c6, c7, c8, c9, c10⟩ := cells11 (cl.out w1 hx1)
          clear hbc
          go_wp2_with fail
          refine (k3.out _ hx1).mono ?_
          rintro e w2 ⟨rfl, hbc⟩
          have hx2 := keep_step hx1 hsz.out hbc
          obtain ⟨c0, c1, c2, c3, c4, c5, c6, c7, c8, c9, c10⟩ := cells11 (cl.out w2 hx2)
          clear hbc
          go_wp2_with fail
          refine (k4.out _ hx2).mono ?_
          rintro e w3 ⟨rfl, hbc⟩
          have hx3 := keep_step hx2 hsz.out hbc
          obtain ⟨c0, c1, c2, c3, c4, c5, c6, c7, c8, c9, c10⟩ := cells11 (cl.out w3 hx3)
          clear hbc
          go_wp2
          go_ret
          exact ⟨by rw [E.out]; first | rfl | simp, BW _ hx3⟩
        | true =>
          cases b5 with
          | false =>
            have E : Hid (B = false) := by show _ = _; rw [HB.out]; simp
            clear HB k6 k7
            go_enter Try.func33, Try.ntmps33
            go_wp2_with fail
            refine (k2.out _ hx0).mono ?_
            rintro e w1 ⟨rfl, hbc⟩
            have hx1 := keep_step hx0 hsz.out hbc
            obtain ⟨c0, c1, c2, c3, c4, c5, c6, c7, c8, c9, c10⟩ := cells11 (cl.out w1 hx1)
            clear hbc
            go_wp2_with fail
            refine (k3.out _ hx1).mono ?_
            rintro e w2 ⟨rfl, hbc⟩
            have hx2 := keep_step hx1 hsz.out hbc
            obtain ⟨c0, c1, c2, c3, c4, c5, c6, c7, c8, c9, c10⟩ := cells11 (cl.out w2 hx2)
            clear hbc
            go_wp2_with fail
            refine (k4.out _ hx2).mono ?_
            rintro e w3 ⟨rfl, hbc⟩
            have hx3 := keep_step hx2 hsz.out hbc
            obtain ⟨c0, c1, c2, c3, c4, c5, c6, c7, c8, c9, c10⟩ := cells11 (cl.out w3 hx3)
            clear hbc
            go_wp2_with fail
            refine (k5.out _ hx3).mono ?_
            rintro e w4 ⟨rfl, hbc⟩
            have hx4 := keep_step hx3 hsz.out hbc
            obtain ⟨c0, c1, c2, c3, c4, c5, c6, c7, c8, c9, c10⟩ := cells11 (cl.out w4 hx4)
            clear hbc
            go_wp2
            go_ret
            exact ⟨by rw [E.out]; first | rfl | simp, BW _ hx4⟩
          | true =>
            cases b6 with
            | false =>
              have E : Hid (B = false) := by show _ = _; rw [HB.out]; simp
              clear HB k7
              go_enter Try.func33, Try.ntmps33
              go_wp2_with fail
              refine (k2.out _ hx0).mono ?_
              rintro e w1 ⟨rfl, hbc⟩
              have hx1 := keep_step hx0 hsz.out hbc
              obtain ⟨c0, c1, c2, c3, c4, c5, c6, c7, c8, c9, c10⟩ := cells11 (cl.out w1 hx1)
              clear hbc
              go_wp2_with fail
              refine (k3.out _ hx1).mono ?_
              rintro e w2 ⟨rfl, hbc⟩
              have hx2 := keep_step hx1 hsz.out hbc
              obtain ⟨c0, c1, c2, c3, c4, c5, c6, c7, c8, c9, c10⟩ := cells11 (cl.out w2 hx2)
              clear hbc
              go_wp2_with fail
              refine (k4.out _ hx2).mono ?_
              rintro e w3 ⟨rfl, hbc⟩
              have hx3 := keep_step hx2 hsz.out hbc
              obtain ⟨c0, c1, c2, c3, c4, c5, c6, c7, c8, c9, c10⟩ := cells11 (cl.out w3 hx3)
              clear hbc
              go_wp2_with fail
              refine (k5.out _ hx3).mono ?_
              rintro e w4 ⟨rfl, hbc⟩
              have hx4 := keep_step hx3 hsz.out hbc
              obtain ⟨c0, c1, c2, c3, c4, c5, c6, c7, c8, c9, c10⟩ := cells11 (cl.out w4 hx4)
              clear hbc
              go_wp2_with fail
              refine (k6.out _ hx4).mono ?_
              rintro e w5 ⟨rfl, hbc⟩
              have hx5 := keep_step hx4 hsz.out hbc
              obtain ⟨c0, c1, c2, c3, c4, c5, c6, c7, c8, c9, c10⟩ := cells11 (cl.out w5 hx5)
              clear hbc
              go_wp2
              go_ret
              exact ⟨by rw [E.out]; first | rfl | simp, BW _ hx5⟩
            | true =>
              cases b7 with
              | false =>
                have E : Hid (B = false) := by show _ = _; rw [HB.out]; simp
                clear HB 
                go_enter Try.func33, Try.ntmps33
                go_wp2_with fail
                refine (k2.out _ hx0).mono ?_
                rintro e w1 ⟨rfl, hbc⟩
                have hx1 := keep_step hx0 hsz.out hbc
                obtain ⟨c0, c1, c2, c3, c4, c5, c6, c7, c8, c9, c10⟩ := cells11 (cl.out w1 hx1)
                clear hbc
                go_wp2_with fail
                refine (k3.out _ hx1).mono ?_
                rintro e w2 ⟨rfl, hbc⟩
                have hx2 := keep_step hx1 hsz.out hbc
                obtain ⟨c0, c1, c2, c3, c4, c5, c6, c7, c8, c9, c10⟩ := cells11 (cl.out w2 hx2)
                clear hbc
                go_wp2_with fail
                refine (k4.out _ hx2).mono ?_
                rintro e w3 ⟨rfl, hbc⟩
                have hx3 := keep_step hx2 hsz.out hbc
                obtain ⟨c0, c1, c2, c3, c4, c5, c6, c7, c8, c9, c10⟩ := cells11 (cl.out w3 hx3)
                clear hbc
                go_wp2_with fail
                refine (k5.out _ hx3).mono ?_
                rintro e w4 ⟨rfl, hbc⟩
                have hx4 := keep_step hx3 hsz.out hbc
                obtain ⟨c0, c1, c2, c3, c4, c5, c6, c7, c8, c9, c10⟩ := cells11 (cl.out w4 hx4)
                clear hbc
                go_wp2_with fail
                refine (k6.out _ hx4).mono ?_
                rintro e w5 ⟨rfl, hbc⟩
                have hx5 := keep_step hx4 hsz.out hbc
                obtain ⟨c0, c1, c2, c3, c4, c5, c6, c7, c8, c9, c10⟩ := cells11 (cl.out w5 hx5)
                clear hbc
                go_wp2_with fail
                refine (k7.out _ hx5).mono ?_
                rintro e w6 ⟨rfl, hbc⟩
                have hx6 := keep_step hx5 hsz.out hbc
                obtain ⟨c0, c1, c2, c3, c4, c5, c6, c7, c8, c9, c10⟩ := cells11 (cl.out w6 hx6)
                clear hbc
                go_wp2
                go_ret
                exact ⟨by rw [E.out]; first | rfl | simp, BW _ hx6⟩
              | true =>
                have E : Hid (B = true) := HB
                clear HB
                go_enter Try.func33, Try.ntmps33
                go_wp2_with fail
                refine (k2.out _ hx0).mono ?_
                rintro e w1 ⟨rfl, hbc⟩
                have hx1 := keep_step hx0 hsz.out hbc
                obtain ⟨c0, c1, c2, c3, c4, c5, c6, c7, c8, c9, c10⟩ := cells11 (cl.out w1 hx1)
                clear hbc
                go_wp2_with fail
                refine (k3.out _ hx1).mono ?_
                rintro e w2 ⟨rfl, hbc⟩
                have hx2 := keep_step hx1 hsz.out hbc
                obtain ⟨c0, c1, c2, c3, c4, c5, c6, c7, c8, c9, c10⟩ := cells11 (cl.out w2 hx2)
                clear hbc
                go_wp2_with fail
                refine (k4.out _ hx2).mono ?_
                rintro e w3 ⟨rfl, hbc⟩
                have hx3 := keep_step hx2 hsz.out hbc
                obtain ⟨c0, c1, c2, c3, c4, c5, c6, c7, c8, c9, c10⟩ := cells11 (cl.out w3 hx3)
                clear hbc
                go_wp2_with fail
                refine (k5.out _ hx3).mono ?_
                rintro e w4 ⟨rfl, hbc⟩
                have hx4 := keep_step hx3 hsz.out hbc
                obtain ⟨c0, c1, c2, c3, c4, c5, c6, c7, c8, c9, c10⟩ := cells11 (cl.out w4 hx4)
                clear hbc
                go_wp2_with fail
                refine (k6.out _ hx4).mono ?_
                rintro e w5 ⟨rfl, hbc⟩
                have hx5 := keep_step hx4 hsz.out hbc
                obtain ⟨c0, c1, c2, c3, c4, c5, c6, c7, c8, c9, c10⟩ := cells11 (cl.out w5 hx5)
                clear hbc
                go_wp2_with fail
                refine (k7.out _ hx5).mono ?_
                rintro e w6 ⟨rfl, hbc⟩
                have hx6 := keep_step hx5 hsz.out hbc
                obtain ⟨c0, c1, c2, c3, c4, c5, c6, c7, c8, c9, c10⟩ := cells11 (cl.out w6 hx6)
                clear hbc
                go_wp2
                go_ret
                exact ⟨by rw [E.out]; first | rfl | simp, BW _ hx6⟩
  · have h1i : ¬ (0 : Int) < (gs.length : Int) := by omega
    have E : Hid (B = false) := by show _ = _; rw [HB.out, decide_eq_false h1]; simp
    clear HB k2 k3 k4 k5 k6 k7 h1
    go_enter Try.func33, Try.ntmps33
    go_wp2
    go_ret
    exact ⟨by rw [E.out]; first | rfl | simp, BW _ hx0⟩
end Go.Proofs.Ytglbjimpaoikfaa

