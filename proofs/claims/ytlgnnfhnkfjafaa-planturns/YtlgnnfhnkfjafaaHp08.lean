import Derived.Test.YtlgnnfhnkfjafaaHp07
/- The contract of Split. -/
namespace Go.Proofs.Ytlgnnfhnkfjafaa
open Go.RowKit SpanMath
set_option maxRecDepth 100000
set_option linter.unusedSimpArgs false
set_option linter.unusedVariables false

/-- What Split tells. -/
def splitP (s : Sp) (k : K) : Sp × Sp × Int := if may s && decide (k.length ≤ 64) then (if has s k = false ∨ k = s.1 then (([], []), ([], []), 10) else ((s.1, k), (k, s.2), 0)) else (([], []), ([], []), 1)
def splitV (m : Sp × Sp × Int) : Value := .tuple #[sv m.1, sv m.2.1, .int .i64 m.2.2]
theorem sp_set2 {w : World} {g h : Nat} {a b c d : Value} {t : TypeId} (hg : w.heap[g]? = some (.cells #[a, b] t (0, 0))) (hh : w.heap[h]? = some (.cells #[c, d] t (0, 0))) (hne : g ≠ h) (x y z u : Value) :
    ((((w.setCell ⟨g, 0, none⟩ x).setCell ⟨g, 1, none⟩ y).setCell ⟨h, 0, none⟩ z).setCell ⟨h, 1, none⟩ u).heap[g]? = some (.cells #[x, y] t (0, 0)) ∧ ((((w.setCell ⟨g, 0, none⟩ x).setCell ⟨g, 1, none⟩ y).setCell ⟨h, 0, none⟩ z).setCell ⟨h, 1, none⟩ u).heap[h]? = some (.cells #[z, u] t (0, 0)) := by
  have hne' : h ≠ g := fun e => hne e.symm
  refine ⟨?_, ?_⟩ <;> simp [World.setCell, Array.getElem?_modify, hg, hh, hne, hne']

theorem drew_cell (w : World) (a : Addr) : w.drew.cell? a = w.cell? a := rfl
set_option maxHeartbeats 2000000 in
theorem split_of (s : Sp) (k : K) (w : World) : Calls Try.prog 45 #[sv s, .string (bk k)] w fun e w' => e = .returned (splitV (splitP s k)) ∧ Below w.heap.size w w' := by
  obtain ⟨M, HM⟩ : ∃ M, Hid (M = splitP s k) := ⟨_, rfl⟩
  rw [← HM.out]
  have kh := fun W => has_of s k W
  obtain ⟨a, b⟩ := s
  have T := three_boxes w (.cells #[.string (bk a), .string (bk b)] 43) (.cells #[.string { data := #[] }, .string { data := #[] }] 43) (.cells #[.string { data := #[] }, .string { data := #[] }] 43)
  go_enter Try.func45, Try.ntmps45
  go_wp2_with fail
  generalize (((w.alloc (.cells #[.string (bk a), .string (bk b)] 43)).alloc (.cells #[.string { data := #[] }, .string { data := #[] }] 43)).alloc (.cells #[.string { data := #[] }, .string { data := #[] }] 43)) = w0 at *
  obtain ⟨hs0, g0, g1, g2, hb0⟩ := T
  have cl : ∀ W, Below (w.heap.size + 3) w0 W → (W.cell? ⟨w.heap.size, 0, none⟩ = some (.string (bk a)) ∧ W.cell? ⟨w.heap.size, 1, none⟩ = some (.string (bk b))) ∧ W.heap[w.heap.size + 1]? = some (.cells #[.string { data := #[] }, .string { data := #[] }] 43 (0, 0)) ∧ W.heap[w.heap.size + 2]? = some (.cells #[.string { data := #[] }, .string { data := #[] }] 43 (0, 0)) := fun W hW => by
    have z0 := (hW.block w.heap.size (by omega)).trans g0
    have z1 := (hW.block (w.heap.size + 1) (by omega)).trans g1
    have z2 := (hW.block (w.heap.size + 2) (by omega)).trans g2
    exact ⟨⟨by rw [cells_of_block z0]; rfl, by rw [cells_of_block z0]; rfl⟩, z1, z2⟩
  clear g0 g1 g2
  cases ha : may (a, b) with
  | false =>
    have kc := check_no ha w0
    have E : Hid (M = (([], []), ([], []), 1)) := by show _ = _; rw [HM.out]; simp [splitP, ha]
    rw [hs0] at kc
    clear HM ha kh
    refine kc.mono ?_
    rintro e w1 ⟨rfl, hbx⟩
    obtain ⟨⟨c0, c1⟩, z1, z2⟩ := cl w1 hbx
    have y3 := frozen_of z1 0
    have y4 := frozen_of z1 1
    have y5 : w1.cell? ⟨w.heap.size + 1, 0, none⟩ = some (.string { data := #[] }) := by rw [cells_of_block z1]; rfl
    have y6 : w1.cell? ⟨w.heap.size + 1, 1, none⟩ = some (.string { data := #[] }) := by rw [cells_of_block z1]; rfl
    have z3 := frozen_of z2 0
    have z4 := frozen_of z2 1
    have z5 : w1.cell? ⟨w.heap.size + 2, 0, none⟩ = some (.string { data := #[] }) := by rw [cells_of_block z2]; rfl
    have z6 : w1.cell? ⟨w.heap.size + 2, 1, none⟩ = some (.string { data := #[] }) := by rw [cells_of_block z2]; rfl
    clear cl
    go_wp2
    (try simp only [Exit.inBlock, Exit.then])
    obtain ⟨q1, q2⟩ := sp_set2 z1 z2 (by omega) (.string { data := #[] }) (.string { data := #[] }) (.string { data := #[] }) (.string { data := #[] })
    refine bodyPost_ret (results_sp2 rfl _ _ (w.heap.size + 1) (w.heap.size + 2) _ _ _ _ rfl rfl q1 q2) rfl ?_
    rw [E.out]
    exact ⟨rfl, ((((hb0.trans (hbx.mono (Nat.le_add_right _ 3))).setCell (p := ⟨w.heap.size + 1, 0, none⟩) (Nat.le_add_right _ 1) _).setCell (p := ⟨w.heap.size + 1, 1, none⟩) (Nat.le_add_right _ 1) _).setCell (p := ⟨w.heap.size + 2, 0, none⟩) (Nat.le_add_right _ 2) _).setCell (p := ⟨w.heap.size + 2, 1, none⟩) (Nat.le_add_right _ 2) _⟩
  | true =>
    have kc := check_yes ha w0
    rw [hs0] at kc
    refine kc.mono ?_
    rintro e w1 ⟨rfl, hb1⟩
    clear kc
    have hs1 : w.heap.size + 3 ≤ w1.heap.size := by have := hb1.size; omega
    have ki := isKey_of k w1
    by_cases hk : k.length ≤ 64
    · rw [decide_eq_true hk] at ki
      go_wp2_with fail
      refine ki.mono ?_
      rintro e w2 ⟨rfl, hw2⟩
      subst hw2
      obtain ⟨⟨c0, c1⟩, -⟩ := cl w2 hb1
      have kh1 := kh w2
      have hhp : hasP (a, b) k = has (a, b) k := by simp [hasP, ha, hk]
      rw [hhp] at kh1
      have HM2 : Hid (M = if has (a, b) k = false ∨ k = a then (([], []), ([], []), 10) else ((a, k), (k, b), 0)) := by show _ = _; rw [HM.out]; simp [splitP, ha, hk]
      clear HM ha ki hhp kh hk
      go_wp2_with fail
      refine kh1.mono ?_
      rintro e w3 ⟨rfl, hb3⟩
      have hbx := hb1.trans (hb3.mono hs1)
      clear kh1 c0 c1
      obtain ⟨⟨c0, c1⟩, z1, z2⟩ := cl w3 hbx
      have y3 := frozen_of z1 0
      have y4 := frozen_of z1 1
      have y5 : w3.cell? ⟨w.heap.size + 1, 0, none⟩ = some (.string { data := #[] }) := by rw [cells_of_block z1]; rfl
      have y6 : w3.cell? ⟨w.heap.size + 1, 1, none⟩ = some (.string { data := #[] }) := by rw [cells_of_block z1]; rfl
      have z3 := frozen_of z2 0
      have z4 := frozen_of z2 1
      have z5 : w3.cell? ⟨w.heap.size + 2, 0, none⟩ = some (.string { data := #[] }) := by rw [cells_of_block z2]; rfl
      have z6 : w3.cell? ⟨w.heap.size + 2, 1, none⟩ = some (.string { data := #[] }) := by rw [cells_of_block z2]; rfl
      clear cl
      cases hh : has (a, b) k with
      | false =>
        have E : Hid (M = (([], []), ([], []), 10)) := by show _ = _; rw [HM2.out, hh]; rfl
        clear HM2 hh
        go_wp2
        (try simp only [Exit.inBlock, Exit.then])
        obtain ⟨q1, q2⟩ := sp_set2 z1 z2 (by omega) (.string { data := #[] }) (.string { data := #[] }) (.string { data := #[] }) (.string { data := #[] })
        refine bodyPost_ret (results_sp2 rfl _ _ (w.heap.size + 1) (w.heap.size + 2) _ _ _ _ rfl rfl q1 q2) rfl ?_
        rw [E.out]
        exact ⟨rfl, ((((hb0.trans (hbx.mono (Nat.le_add_right _ 3))).setCell (p := ⟨w.heap.size + 1, 0, none⟩) (Nat.le_add_right _ 1) _).setCell (p := ⟨w.heap.size + 1, 1, none⟩) (Nat.le_add_right _ 1) _).setCell (p := ⟨w.heap.size + 2, 0, none⟩) (Nat.le_add_right _ 2) _).setCell (p := ⟨w.heap.size + 2, 1, none⟩) (Nat.le_add_right _ 2) _⟩
      | true =>
        by_cases hka : k = a
        · have E : Hid (M = (([], []), ([], []), 10)) := by show _ = _; rw [HM2.out, if_pos (.inr hka)]
          have d1 : decide (k = a) = true := by simpa using hka
          clear HM2 hh hka
          go_wp2
          (try simp only [Exit.inBlock, Exit.then])
          obtain ⟨q1, q2⟩ := sp_set2 z1 z2 (by omega) (.string { data := #[] }) (.string { data := #[] }) (.string { data := #[] }) (.string { data := #[] })
          refine bodyPost_ret (results_sp2 rfl _ _ (w.heap.size + 1) (w.heap.size + 2) _ _ _ _ rfl rfl q1 q2) rfl ?_
          rw [E.out]
          exact ⟨rfl, ((((hb0.trans (hbx.mono (Nat.le_add_right _ 3))).setCell (p := ⟨w.heap.size + 1, 0, none⟩) (Nat.le_add_right _ 1) _).setCell (p := ⟨w.heap.size + 1, 1, none⟩) (Nat.le_add_right _ 1) _).setCell (p := ⟨w.heap.size + 2, 0, none⟩) (Nat.le_add_right _ 2) _).setCell (p := ⟨w.heap.size + 2, 1, none⟩) (Nat.le_add_right _ 2) _⟩
        · have E : Hid (M = ((a, k), (k, b), 0)) := by show _ = _; rw [HM2.out, hh, if_neg (by rintro (h | h); cases h; exact hka h)]
          have d1 : decide (k = a) = false := by simpa using hka
          have hne1 : ¬ w.heap.size = w.heap.size + 1 := by omega
          have hne2 : ¬ w.heap.size = w.heap.size + 2 := by omega
          clear HM2 hh hka
          go_wp2
          go_region_held3 (fun w' => w'.cell? ⟨w.heap.size, 0, none⟩ = some (.string (bk a)) ∧ w'.cell? ⟨w.heap.size, 1, none⟩ = some (.string (bk b)))
            (first | exact ⟨c0, c1⟩ | (constructor <;> (simp (disch := (dsimp only; omega)) only [drew_cell, World.cell?_setCell_far]; first | exact c0 | exact c1))) (fail)
          all_goals (
            go_wp2
            (try simp only [Exit.inBlock, Exit.then])
            obtain ⟨q1, q2⟩ := sp_set2 z1 z2 (by omega) (.string (bk a)) (.string (bk k)) (.string (bk k)) (.string (bk b))
            refine bodyPost_ret (results_sp2 rfl _ _ (w.heap.size + 1) (w.heap.size + 2) _ _ _ _ rfl rfl q1 q2) rfl ?_
            rw [E.out]
            exact ⟨rfl, (((((hb0.trans (hbx.mono (Nat.le_add_right _ 3))).setCell (p := ⟨w.heap.size + 1, 0, none⟩) (Nat.le_add_right _ 1) _).setCell (p := ⟨w.heap.size + 1, 1, none⟩) (Nat.le_add_right _ 1) _).setCell (p := ⟨w.heap.size + 2, 0, none⟩) (Nat.le_add_right _ 2) _).setCell (p := ⟨w.heap.size + 2, 1, none⟩) (Nat.le_add_right _ 2) _).drew⟩)
    · rw [decide_eq_false hk] at ki
      have E : Hid (M = (([], []), ([], []), 1)) := by show _ = _; rw [HM.out]; simp [splitP, hk]
      clear HM ha kh hk
      go_wp2_with fail
      refine ki.mono ?_
      rintro e w2 ⟨rfl, hw2⟩
      subst hw2
      have hbx := hb1
      obtain ⟨⟨c0, c1⟩, z1, z2⟩ := cl w2 hbx
      have y3 := frozen_of z1 0
      have y4 := frozen_of z1 1
      have y5 : w2.cell? ⟨w.heap.size + 1, 0, none⟩ = some (.string { data := #[] }) := by rw [cells_of_block z1]; rfl
      have y6 : w2.cell? ⟨w.heap.size + 1, 1, none⟩ = some (.string { data := #[] }) := by rw [cells_of_block z1]; rfl
      have z3 := frozen_of z2 0
      have z4 := frozen_of z2 1
      have z5 : w2.cell? ⟨w.heap.size + 2, 0, none⟩ = some (.string { data := #[] }) := by rw [cells_of_block z2]; rfl
      have z6 : w2.cell? ⟨w.heap.size + 2, 1, none⟩ = some (.string { data := #[] }) := by rw [cells_of_block z2]; rfl
      clear cl
      go_wp2
      (try simp only [Exit.inBlock, Exit.then])
      obtain ⟨q1, q2⟩ := sp_set2 z1 z2 (by omega) (.string { data := #[] }) (.string { data := #[] }) (.string { data := #[] }) (.string { data := #[] })
      refine bodyPost_ret (results_sp2 rfl _ _ (w.heap.size + 1) (w.heap.size + 2) _ _ _ _ rfl rfl q1 q2) rfl ?_
      rw [E.out]
      exact ⟨rfl, ((((hb0.trans (hbx.mono (Nat.le_add_right _ 3))).setCell (p := ⟨w.heap.size + 1, 0, none⟩) (Nat.le_add_right _ 1) _).setCell (p := ⟨w.heap.size + 1, 1, none⟩) (Nat.le_add_right _ 1) _).setCell (p := ⟨w.heap.size + 2, 0, none⟩) (Nat.le_add_right _ 2) _).setCell (p := ⟨w.heap.size + 2, 1, none⟩) (Nat.le_add_right _ 2) _⟩
end Go.Proofs.Ytlgnnfhnkfjafaa

