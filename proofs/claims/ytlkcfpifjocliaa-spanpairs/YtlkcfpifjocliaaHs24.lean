import Derived.Test.YtlkcfpifjocliaaHs23
/- The law SpanPairs answers true and leaves all memory as it was: the walk. -/
namespace Go.Proofs.Ytlkcfpifjocliaa
open Go.RowKit SpanMath
set_option maxRecDepth 100000
set_option linter.unusedSimpArgs false
set_option linter.unusedVariables false

set_option maxHeartbeats 16000000 in
theorem pairs_law (a b : Sp) (w : World) : Calls Try.prog 3 #[sv a, sv b] w fun e w' => e = .returned (.bool true) ∧ Below w.heap.size w w' := by
  have kaw := awake_of
  have kmt := fun W => meet_of a b W
  have kjn := fun W => join_of a b W
  have kck := fun W => check_of a W
  have kpc := fun W v (h : Rd spE W v [a]) => piece_of [a] v b 2 (.inr (.inr rfl)) W h (by simp)
  rw [piece_meet] at kpc
  obtain ⟨M, HM⟩ : ∃ M, Hid (M = meetP a b) := ⟨_, rfl⟩
  obtain ⟨J, HJ⟩ : ∃ J, Hid (J = joinP a b) := ⟨_, rfl⟩
  rw [← HM.out] at kmt
  rw [← HJ.out] at kjn
  obtain ⟨⟨j1, j2⟩, c⟩ := J
  obtain ⟨a1, a2⟩ := a
  obtain ⟨b1, b2⟩ := b
  obtain ⟨hs0, g0, g1, hb0⟩ := two_boxes w (.cells #[.string (bk a1), .string (bk a2)] 23) (.cells #[.string (bk b1), .string (bk b2)] 23)
  go_enter Try.func3, Try.ntmps3
  go_wp2
  generalize (w.alloc (.cells #[.string (bk a1), .string (bk a2)] 23)).alloc (.cells #[.string (bk b1), .string (bk b2)] 23) = w0 at *
  have clS : ∀ W, Below (w.heap.size + 2) w0 W → (fun W => (W.cell? ⟨w.heap.size, 0, none⟩ = some (.string (bk a1)) ∧ W.cell? ⟨w.heap.size, 1, none⟩ = some (.string (bk a2)) ∧ W.cell? ⟨w.heap.size + 1, 0, none⟩ = some (.string (bk b1)) ∧ W.cell? ⟨w.heap.size + 1, 1, none⟩ = some (.string (bk b2))) ∧ Below (w.heap.size + 2) w0 W) W := fun W hW => by
    have z0 := (hW.block w.heap.size (by omega)).trans g0
    have z1 := (hW.block (w.heap.size + 1) (by omega)).trans g1
    exact ⟨⟨by rw [cells_of_block z0]; rfl, by rw [cells_of_block z0]; rfl, by rw [cells_of_block z1]; rfl, by rw [cells_of_block z1]; rfl⟩, hW⟩
  have hNb : w.heap.size + 2 ≤ w0.heap.size := Nat.le_of_eq hs0.symm
  have hN : ∀ W, Below (w.heap.size + 2) w0 W → w.heap.size + 2 ≤ W.heap.size := fun W hW => Nat.le_trans hNb hW.size
  have hfin : ∀ W, Below (w.heap.size + 2) w0 W → Below w.heap.size w W := fun W hW => hb0.trans (hW.mono (by omega))
  have kma : ∀ W, (fun W => (W.cell? ⟨w.heap.size, 0, none⟩ = some (.string (bk a1)) ∧ W.cell? ⟨w.heap.size, 1, none⟩ = some (.string (bk a2)) ∧ W.cell? ⟨w.heap.size + 1, 0, none⟩ = some (.string (bk b1)) ∧ W.cell? ⟨w.heap.size + 1, 1, none⟩ = some (.string (bk b2))) ∧ Below (w.heap.size + 2) w0 W) W → Calls Try.prog 7 #[.agg #[.string (bk a1), .string (bk a2)]] W fun e w' => e = .returned (.bool (may (a1, a2))) ∧ (fun W => (W.cell? ⟨w.heap.size, 0, none⟩ = some (.string (bk a1)) ∧ W.cell? ⟨w.heap.size, 1, none⟩ = some (.string (bk a2)) ∧ W.cell? ⟨w.heap.size + 1, 0, none⟩ = some (.string (bk b1)) ∧ W.cell? ⟨w.heap.size + 1, 1, none⟩ = some (.string (bk b2))) ∧ Below (w.heap.size + 2) w0 W) w' := fun W hW => by
    refine (may_of (a1, a2) W).mono ?_
    rintro e w' ⟨rfl, hb'⟩
    exact ⟨rfl, clS w' (keep_step hW.2 hNb hb')⟩
  have kmb : ∀ W, (fun W => (W.cell? ⟨w.heap.size, 0, none⟩ = some (.string (bk a1)) ∧ W.cell? ⟨w.heap.size, 1, none⟩ = some (.string (bk a2)) ∧ W.cell? ⟨w.heap.size + 1, 0, none⟩ = some (.string (bk b1)) ∧ W.cell? ⟨w.heap.size + 1, 1, none⟩ = some (.string (bk b2))) ∧ Below (w.heap.size + 2) w0 W) W → Calls Try.prog 7 #[.agg #[.string (bk b1), .string (bk b2)]] W fun e w' => e = .returned (.bool (may (b1, b2))) ∧ (fun W => (W.cell? ⟨w.heap.size, 0, none⟩ = some (.string (bk a1)) ∧ W.cell? ⟨w.heap.size, 1, none⟩ = some (.string (bk a2)) ∧ W.cell? ⟨w.heap.size + 1, 0, none⟩ = some (.string (bk b1)) ∧ W.cell? ⟨w.heap.size + 1, 1, none⟩ = some (.string (bk b2))) ∧ Below (w.heap.size + 2) w0 W) w' := fun W hW => by
    refine (may_of (b1, b2) W).mono ?_
    rintro e w' ⟨rfl, hb'⟩
    exact ⟨rfl, clS w' (keep_step hW.2 hNb hb')⟩
  clear g0 g1 hs0 hb0
  refine wp_region_L (fun W => (W.cell? ⟨w.heap.size, 0, none⟩ = some (.string (bk a1)) ∧ W.cell? ⟨w.heap.size, 1, none⟩ = some (.string (bk a2)) ∧ W.cell? ⟨w.heap.size + 1, 0, none⟩ = some (.string (bk b1)) ∧ W.cell? ⟨w.heap.size + 1, 1, none⟩ = some (.string (bk b2))) ∧ Below (w.heap.size + 2) w0 W) [] (by kernel_rfl) ?_
  have yS : (fun W => (W.cell? ⟨w.heap.size, 0, none⟩ = some (.string (bk a1)) ∧ W.cell? ⟨w.heap.size, 1, none⟩ = some (.string (bk a2)) ∧ W.cell? ⟨w.heap.size + 1, 0, none⟩ = some (.string (bk b1)) ∧ W.cell? ⟨w.heap.size + 1, 1, none⟩ = some (.string (bk b2))) ∧ Below (w.heap.size + 2) w0 W) w0.drew := clS _ (Below.refl _ w0).drew
  refine wpAnyL_take 0 rfl (by kernel_rfl) (by kernel_rfl) (by kernel_rfl) (by kernel_rfl) (fun _ _ _ h => h) (by kernel_rfl) (by intro w' hS'; obtain ⟨⟨x0, x1, x2, x3⟩, x4⟩ := hS'; go_simp <;> rfl) yS ?_
  try simp only [List.getElem_toArray, List.getElem_cons_succ, List.getElem_cons_zero, Act.put, List.setIfInBounds_toArray, List.set_cons_zero, List.set_cons_succ]
  refine wpAnyL_take 2 rfl (by kernel_rfl) (by kernel_rfl) (by kernel_rfl) (by kernel_rfl) (fun _ _ _ h => h) (by kernel_rfl) (by intro w' hS'; obtain ⟨⟨x0, x1, x2, x3⟩, x4⟩ := hS'; go_simp <;> rfl) yS ?_
  try simp only [List.getElem_toArray, List.getElem_cons_succ, List.getElem_cons_zero, Act.put, List.setIfInBounds_toArray, List.set_cons_zero, List.set_cons_succ]
  refine wpAnyL_one 1 (by kernel_rfl) rfl (by kernel_rfl) ?_
  intro K' hK'
  go_simp
  go_at_call 7
  refine (kma _ yS).mono ?_
  rintro e W1 ⟨rfl, hS1⟩
  refine hK'.out _ _ (.inr hS1) ?_
  clear hK' K'
  try simp only [List.getElem_toArray, List.getElem_cons_succ, List.getElem_cons_zero, Act.put, List.setIfInBounds_toArray, List.set_cons_zero, List.set_cons_succ]
  refine wpAnyL_one 3 (by kernel_rfl) rfl (by kernel_rfl) ?_
  intro K' hK'
  go_simp
  go_at_call 7
  refine (kmb _ hS1).mono ?_
  rintro e W2 ⟨rfl, hS2⟩
  refine hK'.out _ _ (.inr hS2) ?_
  clear hK' K'
  try simp only [List.getElem_toArray, List.getElem_cons_succ, List.getElem_cons_zero, Act.put, List.setIfInBounds_toArray, List.set_cons_zero, List.set_cons_succ]
  refine wpAnyL_take 4 rfl (by kernel_rfl) (by kernel_rfl) (by kernel_rfl) (by kernel_rfl) (fun _ _ _ h => h) (by kernel_rfl) (by intro w' hS'; obtain ⟨⟨x0, x1, x2, x3⟩, x4⟩ := hS'; go_simp <;> rfl) hS2 ?_
  try simp only [List.getElem_toArray, List.getElem_cons_succ, List.getElem_cons_zero, Act.put, List.setIfInBounds_toArray, List.set_cons_zero, List.set_cons_succ]
  refine wpAnyL_take 5 rfl (by kernel_rfl) (by kernel_rfl) (by kernel_rfl) (by kernel_rfl) (fun _ _ _ h => h) (by kernel_rfl) (by intro w' hS'; obtain ⟨⟨x0, x1, x2, x3⟩, x4⟩ := hS'; go_simp <;> rfl) hS2 ?_
  try simp only [List.getElem_toArray, List.getElem_cons_succ, List.getElem_cons_zero, Act.put, List.setIfInBounds_toArray, List.set_cons_zero, List.set_cons_succ]
  refine wpAnyL_done (by kernel_rfl) (NoPanic.normal ?_) _
  have hb2 := hS2.2
  have km2 := kmt W2
  obtain ⟨⟨y0, y1, y2, y3⟩, -⟩ := hS2
  clear hS1 kma kmb kmt
  go_wp2_with fail
  refine km2.mono ?_
  rintro e w3 ⟨rfl, hb3'⟩
  have hb3 := hb2.trans (hb3'.mono (hN _ hb2))
  clear km2 y0 y1 y2 y3 hb3'
  obtain ⟨m1, m2, B, HB⟩ : ∃ m1 m2 B, Hid (meetV M = .tuple #[.agg #[.string (bk m1), .string (bk m2)], .bool B] ∧ M.getD ([], []) = (m1, m2) ∧ B = M.isSome) := ⟨(M.getD ([], [])).1, (M.getD ([], [])).2, M.isSome, rfl, rfl, rfl⟩
  rw [HB.out.1]
  obtain ⟨q1, q2, q3⟩ := one_box w3 (.cells #[.string (bk m1), .string (bk m2)] 23)
  have hb4 := hb3.trans (q3.mono (hN _ hb3))
  have kj4 := kjn (w3.alloc (.cells #[.string (bk m1), .string (bk m2)] 23))
  obtain ⟨⟨y0, y1, y2, y3⟩, -⟩ := clS _ hb4
  have clm : ∀ W, Below (w3.heap.size + 1) (w3.alloc (.cells #[.string (bk m1), .string (bk m2)] 23)) W → W.heap[w3.heap.size]? = some (.cells #[.string (bk m1), .string (bk m2)] 23 (0, 0)) := fun W hW => (hW.block w3.heap.size (by omega)).trans q2
  clear kjn q2 q3
  go_wp2_with fail
  rw [q1] at kj4
  generalize w3.alloc (.cells #[.string (bk m1), .string (bk m2)] 23) = w4 at *
  obtain ⟨pm, hpm⟩ : ∃ pm, Hid (pm = w3.heap.size) := ⟨_, rfl⟩
  rw [← hpm.out] at kj4 clm q1 ⊢
  refine kj4.mono ?_
  rintro e w5 ⟨rfl, hb5'⟩
  rw [show joinV ((j1, j2), c) = .tuple #[.agg #[.string (bk j1), .string (bk j2)], .int .i64 c] from rfl]
  have hb5 := hb4.trans (hb5'.mono (by have := hN _ hb3; have := hpm.out; omega))
  have hs5 : pm + 1 ≤ w5.heap.size := by have := hb5'.size; omega
  clear kj4 y0 y1 y2 y3 hb4
  obtain ⟨q1', q2', q3'⟩ := one_box w5 (.cells #[.string (bk j1), .string (bk j2)] 23)
  have hb6 := hb5.trans (q3'.mono (hN _ hb5))
  have hbm6 := hb5'.trans (q3'.mono hs5)
  have kc6 := kck (w5.alloc (.cells #[.string (bk j1), .string (bk j2)] 23))
  obtain ⟨⟨y0, y1, y2, y3⟩, -⟩ := clS _ hb6
  have clj : ∀ W, Below (w5.heap.size + 1) (w5.alloc (.cells #[.string (bk j1), .string (bk j2)] 23)) W → W.heap[w5.heap.size]? = some (.cells #[.string (bk j1), .string (bk j2)] 23 (0, 0)) := fun W hW => (hW.block w5.heap.size (by omega)).trans q2'
  clear kck q2' q3'
  go_wp2_with fail
  rw [q1'] at kc6
  generalize w5.alloc (.cells #[.string (bk j1), .string (bk j2)] 23) = w6 at *
  obtain ⟨pj, hpj⟩ : ∃ pj, Hid (pj = w5.heap.size) := ⟨_, rfl⟩
  rw [← hpj.out] at kc6 clj q1' hs5 ⊢
  refine kc6.mono ?_
  rintro e w7 ⟨rfl, hb7'⟩
  have hb7 := hb6.trans (hb7'.mono (by have := hN _ hb5; have := hpj.out; omega))
  have hbm7 := hbm6.trans (hb7'.mono (by omega))
  clear kc6 y0 y1 y2 y3 hb6 hb5 hb3 hb2 hb5'
  -- what the two boxes hold, from here on
  have box : ∀ W, Below w7.heap.size w7 W → (W.cell? ⟨pm, 0, none⟩ = some (.string (bk m1)) ∧ W.cell? ⟨pm, 1, none⟩ = some (.string (bk m2))) ∧ W.cell? ⟨pj, 0, none⟩ = some (.string (bk j1)) ∧ W.cell? ⟨pj, 1, none⟩ = some (.string (bk j2)) := fun W hW => by
    have hs7 : pj + 1 ≤ w7.heap.size := by have := hb7'.size; omega
    have z0 := clm W (hbm7.trans (hW.mono (by omega)))
    have z1 := clj W (hb7'.trans (hW.mono hs7))
    exact ⟨⟨by rw [cells_of_block z0]; rfl, by rw [cells_of_block z0]; rfl⟩, by rw [cells_of_block z1]; rfl, by rw [cells_of_block z1]; rfl⟩
  clear clm clj hbm6 hbm7 hb7' q1 q1' hpm hpj hs5
  obtain ⟨⟨u0, u1⟩, u2, u3⟩ := box w7 (Below.refl _ _)
  cases hma : may (a1, a2) with
  | false =>
    have hM : M = none := by rw [HM.out]; simp [meetP, hma]
    have hJ : (((j1, j2), c) : Sp × Int) = (([], []), 1) := by rw [HJ.out]; simp [joinP, hma]
    cases hJ
    obtain ⟨-, e1, e2⟩ := HB.out
    rw [hM] at e1 e2
    cases e1
    cases e2
    clear HB HM HJ hma hM box
    go_wp2_with fail
    refine (kaw _).mono ?_
    rintro e w9 ⟨rfl, hb9⟩
    go_wp2
    go_ret
    exact ⟨rfl, hfin _ (hb7.trans (hb9.mono (hN _ hb7)))⟩
  | true =>
    cases hmb : may (b1, b2) with
    | false =>
      have hM : M = none := by rw [HM.out]; simp [meetP, hmb]
      have hJ : (((j1, j2), c) : Sp × Int) = (([], []), 1) := by rw [HJ.out]; simp [joinP, hmb]
      cases hJ
      obtain ⟨-, e1, e2⟩ := HB.out
      rw [hM] at e1 e2
      cases e1
      cases e2
      clear HB HM HJ hma hmb hM box
      go_wp2_with fail
      refine (kaw _).mono ?_
      rintro e w9 ⟨rfl, hb9⟩
      go_wp2
      go_ret
      exact ⟨rfl, hfin _ (hb7.trans (hb9.mono (hN _ hb7)))⟩
    | true =>
      have HJ2 : Hid ((((j1, j2), c) : Sp × Int) = if a2 ≠ b1 ∨ a2 = [] then (([], []), 10) else ((a1, b2), 0)) := by show _ = _; rw [HJ.out]; simp [joinP, hma, hmb]
      have hM : M = meet (a1, a2) (b1, b2) := by rw [HM.out]; simp [meetP, hma, hmb]
      obtain ⟨-, e1, e2⟩ := HB.out
      rw [hM] at e1 e2
      clear HB HM HJ hma hmb hM
      obtain ⟨⟨y0, y1, y2, y3⟩, -⟩ := clS w7 hb7
      obtain ⟨r1, r2, r3⟩ := one_box w7 (.cells #[.string (bk a1), .string (bk a2)] 23)
      have kp7 := kpc (w7.alloc (.cells #[.string (bk a1), .string (bk a2)] 23)) (.slice (some ⟨w7.heap.size, 0, none⟩) 1 1) (Rk.made (E := spE) (xs := [(a1, a2)]) r2 rfl (by unfold maxLen; simp)).rd
      have hb8 := hb7.trans (r3.mono (hN _ hb7))
      obtain ⟨⟨v0, v1, v2, v3⟩, -⟩ := clS _ hb8
      rw [r1] at kp7
      clear r2 kpc
      go_wp2_with fail
      generalize w7.alloc (.cells #[.string (bk a1), .string (bk a2)] 23) = w8 at *
      refine kp7.mono ?_
      rintro e w6' ⟨lv, rfl, hRl, hb6'⟩
      have hb9 := hb8.trans (hb6'.mono (by have := hN _ hb7; omega))
      have hbx9 := r3.trans (hb6'.mono (Nat.le_succ _))
      clear y0 y1 y2 y3 v0 v1 v2 v3 u0 u1 u2 u3 kp7 hb8 r3 r1
      obtain ⟨w6, hw6⟩ : ∃ w6, w6 = w6' := ⟨_, rfl⟩
      subst hw6
      obtain ⟨⟨u0, u1⟩, -⟩ := box w6 hbx9
      obtain ⟨la, lc, hlv, -, -, hlc⟩ := id hRl
      cases hmm : meet (a1, a2) (b1, b2) with
      | none =>
        rw [hmm] at hRl hlv hlc e1 e2
        cases e1
        cases e2
        subst hlv
        clear hRl hlc hmm
        have hb7 := hb9.drew
        have box7 := box _ hbx9.drew
        clear box hbx9 hb6'
        go_wp2
        refine wp_region_L (fun W => W.cell? ⟨pm, 0, none⟩ = some (.string (bk [])) ∧ W.cell? ⟨pm, 1, none⟩ = some (.string (bk []))) [] (by kernel_rfl) ?_
        have yS : (fun W => W.cell? ⟨pm, 0, none⟩ = some (.string (bk [])) ∧ W.cell? ⟨pm, 1, none⟩ = some (.string (bk []))) w6.drew := ⟨u0, u1⟩
        refine wpAnyL_take 0 rfl (by kernel_rfl) (by kernel_rfl) (by kernel_rfl) (by kernel_rfl) (fun _ _ _ h => h) (by kernel_rfl) (by intro w' hS'; obtain ⟨x0, x1⟩ := hS'; go_simp <;> rfl) yS ?_
        try simp only [List.getElem_toArray, List.getElem_cons_succ, List.getElem_cons_zero, Act.put, List.setIfInBounds_toArray, List.set_cons_zero, List.set_cons_succ]
        refine wpAnyL_take 1 rfl (by kernel_rfl) (by kernel_rfl) (by kernel_rfl) (by kernel_rfl) (fun _ _ _ h => h) (by kernel_rfl) (by intro w' hS'; obtain ⟨x0, x1⟩ := hS'; go_simp <;> rfl) yS ?_
        try simp only [List.getElem_toArray, List.getElem_cons_succ, List.getElem_cons_zero, Act.put, List.setIfInBounds_toArray, List.set_cons_zero, List.set_cons_succ]
        refine wpAnyL_take 2 rfl (by kernel_rfl) (by kernel_rfl) (by kernel_rfl) (by kernel_rfl) (fun _ _ _ h => h) (by kernel_rfl) (by intro w' hS'; obtain ⟨x0, x1⟩ := hS'; go_simp <;> rfl) yS ?_
        try simp only [List.getElem_toArray, List.getElem_cons_succ, List.getElem_cons_zero, Act.put, List.setIfInBounds_toArray, List.set_cons_zero, List.set_cons_succ]
        refine wpAnyL_take 3 rfl (by kernel_rfl) (by kernel_rfl) (by kernel_rfl) (by kernel_rfl) (fun _ _ _ h => h) (by kernel_rfl) (by intro w' hS'; obtain ⟨x0, x1⟩ := hS'; go_simp <;> rfl) yS ?_
        try simp only [List.getElem_toArray, List.getElem_cons_succ, List.getElem_cons_zero, Act.put, List.setIfInBounds_toArray, List.set_cons_zero, List.set_cons_succ]
        refine wpAnyL_take 4 rfl (by kernel_rfl) (by kernel_rfl) (by kernel_rfl) (by kernel_rfl) (fun _ _ _ h => h) (by kernel_rfl) (by intro w' hS'; obtain ⟨x0, x1⟩ := hS'; go_simp <;> rfl) yS ?_
        try simp only [List.getElem_toArray, List.getElem_cons_succ, List.getElem_cons_zero, Act.put, List.setIfInBounds_toArray, List.set_cons_zero, List.set_cons_succ]
        refine wpAnyL_take 5 rfl (by kernel_rfl) (by kernel_rfl) (by kernel_rfl) (by kernel_rfl) (fun _ _ _ h => h) (by kernel_rfl) (by intro w' hS'; obtain ⟨x0, x1⟩ := hS'; go_simp <;> rfl) yS ?_
        try simp only [List.getElem_toArray, List.getElem_cons_succ, List.getElem_cons_zero, Act.put, List.setIfInBounds_toArray, List.set_cons_zero, List.set_cons_succ]
        refine wpAnyL_take 6 rfl (by kernel_rfl) (by kernel_rfl) (by kernel_rfl) (by kernel_rfl) (fun _ _ _ h => h) (by kernel_rfl) (by intro w' hS'; obtain ⟨x0, x1⟩ := hS'; go_simp <;> rfl) yS ?_
        try simp only [List.getElem_toArray, List.getElem_cons_succ, List.getElem_cons_zero, Act.put, List.setIfInBounds_toArray, List.set_cons_zero, List.set_cons_succ]
        refine wpAnyL_take 7 rfl (by kernel_rfl) (by kernel_rfl) (by kernel_rfl) (by kernel_rfl) (fun _ _ _ h => h) (by kernel_rfl) (by intro w' hS'; obtain ⟨x0, x1⟩ := hS'; go_simp <;> rfl) yS ?_
        try simp only [List.getElem_toArray, List.getElem_cons_succ, List.getElem_cons_zero, Act.put, List.setIfInBounds_toArray, List.set_cons_zero, List.set_cons_succ]
        refine wpAnyL_skip 8 rfl (by kernel_rfl) (by kernel_rfl) (by kernel_rfl) (by kernel_rfl) (fun _ _ _ h => h) (by kernel_rfl) yS ?_
        try simp only [List.getElem_toArray, List.getElem_cons_succ, List.getElem_cons_zero, Act.put, List.setIfInBounds_toArray, List.set_cons_zero, List.set_cons_succ]
        refine wpAnyL_skip 9 rfl (by kernel_rfl) (by kernel_rfl) (by kernel_rfl) (by kernel_rfl) (fun _ _ _ h => h) (by kernel_rfl) yS ?_
        try simp only [List.getElem_toArray, List.getElem_cons_succ, List.getElem_cons_zero, Act.put, List.setIfInBounds_toArray, List.set_cons_zero, List.set_cons_succ]
        refine wpAnyL_skip 10 rfl (by kernel_rfl) (by kernel_rfl) (by kernel_rfl) (by kernel_rfl) (fun _ _ _ h => h) (by kernel_rfl) yS ?_
        try simp only [List.getElem_toArray, List.getElem_cons_succ, List.getElem_cons_zero, Act.put, List.setIfInBounds_toArray, List.set_cons_zero, List.set_cons_succ]
        refine wpAnyL_skip 11 rfl (by kernel_rfl) (by kernel_rfl) (by kernel_rfl) (by kernel_rfl) (fun _ _ _ h => h) (by kernel_rfl) yS ?_
        try simp only [List.getElem_toArray, List.getElem_cons_succ, List.getElem_cons_zero, Act.put, List.setIfInBounds_toArray, List.set_cons_zero, List.set_cons_succ]
        refine wpAnyL_skip 12 rfl (by kernel_rfl) (by kernel_rfl) (by kernel_rfl) (by kernel_rfl) (fun _ _ _ h => h) (by kernel_rfl) yS ?_
        try simp only [List.getElem_toArray, List.getElem_cons_succ, List.getElem_cons_zero, Act.put, List.setIfInBounds_toArray, List.set_cons_zero, List.set_cons_succ]
        refine wpAnyL_take 13 rfl (by kernel_rfl) (by kernel_rfl) (by kernel_rfl) (by kernel_rfl) (fun _ _ _ h => h) (by kernel_rfl) (by intro w' hS'; obtain ⟨x0, x1⟩ := hS'; go_simp <;> rfl) yS ?_
        try simp only [List.getElem_toArray, List.getElem_cons_succ, List.getElem_cons_zero, Act.put, List.setIfInBounds_toArray, List.set_cons_zero, List.set_cons_succ]
        refine wpAnyL_take 14 rfl (by kernel_rfl) (by kernel_rfl) (by kernel_rfl) (by kernel_rfl) (fun _ _ _ h => h) (by kernel_rfl) (by intro w' hS'; obtain ⟨x0, x1⟩ := hS'; go_simp <;> rfl) yS ?_
        try simp only [List.getElem_toArray, List.getElem_cons_succ, List.getElem_cons_zero, Act.put, List.setIfInBounds_toArray, List.set_cons_zero, List.set_cons_succ]
        refine wpAnyL_take 15 rfl (by kernel_rfl) (by kernel_rfl) (by kernel_rfl) (by kernel_rfl) (fun _ _ _ h => h) (by kernel_rfl) (by intro w' hS'; obtain ⟨x0, x1⟩ := hS'; go_simp <;> rfl) yS ?_
        try simp only [List.getElem_toArray, List.getElem_cons_succ, List.getElem_cons_zero, Act.put, List.setIfInBounds_toArray, List.set_cons_zero, List.set_cons_succ]
        refine wpAnyL_take 16 rfl (by kernel_rfl) (by kernel_rfl) (by kernel_rfl) (by kernel_rfl) (fun _ _ _ h => h) (by kernel_rfl) (by intro w' hS'; obtain ⟨x0, x1⟩ := hS'; go_simp <;> rfl) yS ?_
        try simp only [List.getElem_toArray, List.getElem_cons_succ, List.getElem_cons_zero, Act.put, List.setIfInBounds_toArray, List.set_cons_zero, List.set_cons_succ]
        refine wpAnyL_take 17 rfl (by kernel_rfl) (by kernel_rfl) (by kernel_rfl) (by kernel_rfl) (fun _ _ _ h => h) (by kernel_rfl) (by intro w' hS'; obtain ⟨x0, x1⟩ := hS'; go_simp <;> rfl) yS ?_
        try simp only [List.getElem_toArray, List.getElem_cons_succ, List.getElem_cons_zero, Act.put, List.setIfInBounds_toArray, List.set_cons_zero, List.set_cons_succ]
        refine wpAnyL_take 18 rfl (by kernel_rfl) (by kernel_rfl) (by kernel_rfl) (by kernel_rfl) (fun _ _ _ h => h) (by kernel_rfl) (by intro w' hS'; obtain ⟨x0, x1⟩ := hS'; go_simp <;> rfl) yS ?_
        try simp only [List.getElem_toArray, List.getElem_cons_succ, List.getElem_cons_zero, Act.put, List.setIfInBounds_toArray, List.set_cons_zero, List.set_cons_succ]
        refine wpAnyL_take 19 rfl (by kernel_rfl) (by kernel_rfl) (by kernel_rfl) (by kernel_rfl) (fun _ _ _ h => h) (by kernel_rfl) (by intro w' hS'; obtain ⟨x0, x1⟩ := hS'; go_simp <;> rfl) yS ?_
        try simp only [List.getElem_toArray, List.getElem_cons_succ, List.getElem_cons_zero, Act.put, List.setIfInBounds_toArray, List.set_cons_zero, List.set_cons_succ]
        refine wpAnyL_take 20 rfl (by kernel_rfl) (by kernel_rfl) (by kernel_rfl) (by kernel_rfl) (fun _ _ _ h => h) (by kernel_rfl) (by intro w' hS'; obtain ⟨x0, x1⟩ := hS'; go_simp <;> rfl) yS ?_
        try simp only [List.getElem_toArray, List.getElem_cons_succ, List.getElem_cons_zero, Act.put, List.setIfInBounds_toArray, List.set_cons_zero, List.set_cons_succ]
        refine wpAnyL_take 21 rfl (by kernel_rfl) (by kernel_rfl) (by kernel_rfl) (by kernel_rfl) (fun _ _ _ h => h) (by kernel_rfl) (by intro w' hS'; obtain ⟨x0, x1⟩ := hS'; go_simp <;> rfl) yS ?_
        try simp only [List.getElem_toArray, List.getElem_cons_succ, List.getElem_cons_zero, Act.put, List.setIfInBounds_toArray, List.set_cons_zero, List.set_cons_succ]
        refine wpAnyL_take 22 rfl (by kernel_rfl) (by kernel_rfl) (by kernel_rfl) (by kernel_rfl) (fun _ _ _ h => h) (by kernel_rfl) (by intro w' hS'; obtain ⟨x0, x1⟩ := hS'; go_simp <;> rfl) yS ?_
        try simp only [List.getElem_toArray, List.getElem_cons_succ, List.getElem_cons_zero, Act.put, List.setIfInBounds_toArray, List.set_cons_zero, List.set_cons_succ]
        refine wpAnyL_take 23 rfl (by kernel_rfl) (by kernel_rfl) (by kernel_rfl) (by kernel_rfl) (fun _ _ _ h => h) (by kernel_rfl) (by intro w' hS'; obtain ⟨x0, x1⟩ := hS'; go_simp <;> rfl) yS ?_
        try simp only [List.getElem_toArray, List.getElem_cons_succ, List.getElem_cons_zero, Act.put, List.setIfInBounds_toArray, List.set_cons_zero, List.set_cons_succ]
        refine wpAnyL_done (by kernel_rfl) (NoPanic.normal ?_) _
        obtain ⟨-, u2, u3⟩ := box7
        generalize w6.drew = w7 at *
        clear u0 u1 yS
        obtain ⟨⟨y0, y1, y2, y3⟩, -⟩ := clS w7 hb7
        by_cases h1 : a2 = []
        · have d1 : decide (a2 = []) = true := by simpa using h1
          have hJ : (((j1, j2), c) : Sp × Int) = (([], []), 10) := by rw [HJ2.out, if_pos (.inr h1)]
          cases hJ
          clear HJ2 h1
          go_wp2_with fail
          refine (kaw _).mono ?_
          rintro e w9 ⟨rfl, hb9⟩
          go_wp2
          go_ret
          exact ⟨rfl, hfin _ (hb7.trans (hb9.mono (hN _ hb7)))⟩
        · have d1 : decide (a2 = []) = false := by simpa using h1
          by_cases h2 : a2 = b1
          · have d2 : decide (a2 = b1) = true := by simpa using h2
            have hJ : (((j1, j2), c) : Sp × Int) = ((a1, b2), 0) := by rw [HJ2.out, if_neg (by rintro (h | h); exact h h2; exact h1 h)]
            cases hJ
            clear HJ2 h1 h2
            go_wp2_with fail
            refine (kaw _).mono ?_
            rintro e w9 ⟨rfl, hb9⟩
            go_wp2
            go_ret
            exact ⟨rfl, hfin _ (hb7.trans (hb9.mono (hN _ hb7)))⟩
          · have d2 : decide (a2 = b1) = false := by simpa using h2
            have hJ : (((j1, j2), c) : Sp × Int) = (([], []), 10) := by rw [HJ2.out, if_pos (.inl h2)]
            cases hJ
            clear HJ2 h1 h2
            go_wp2_with fail
            refine (kaw _).mono ?_
            rintro e w9 ⟨rfl, hb9⟩
            go_wp2
            go_ret
            exact ⟨rfl, hfin _ (hb7.trans (hb9.mono (hN _ hb7)))⟩
      | some m =>
        obtain ⟨t1, t2⟩ := m
        rw [hmm] at hRl hlv hlc e1 e2
        cases e1
        cases e2
        subst hlv
        obtain ⟨lb, lo, rfl, k0⟩ := hlc 0 (m1, m2) 0 _ rfl rfl
        obtain ⟨lb', lo', e3, k1⟩ := hlc 0 (m1, m2) 1 _ rfl rfl
        cases e3
        have u2 : w6.cell? ⟨lb, lo, none⟩ = some (.string (bk m1)) := by simpa using k0
        have u3 : w6.cell? ⟨lb, lo + 1, none⟩ = some (.string (bk m2)) := by simpa using k1
        clear hRl hlc hmm k0 k1
        have hb7 := hb9.drew
        have box7 := box _ hbx9.drew
        clear box hbx9 hb6'
        go_wp2
        refine wp_region_L (fun W => W.cell? ⟨pm, 0, none⟩ = some (.string (bk m1)) ∧ W.cell? ⟨pm, 1, none⟩ = some (.string (bk m2)) ∧ W.cell? ⟨lb, lo, none⟩ = some (.string (bk m1)) ∧ W.cell? ⟨lb, lo + 1, none⟩ = some (.string (bk m2))) [] (by kernel_rfl) ?_
        have yS : (fun W => W.cell? ⟨pm, 0, none⟩ = some (.string (bk m1)) ∧ W.cell? ⟨pm, 1, none⟩ = some (.string (bk m2)) ∧ W.cell? ⟨lb, lo, none⟩ = some (.string (bk m1)) ∧ W.cell? ⟨lb, lo + 1, none⟩ = some (.string (bk m2))) w6.drew := ⟨u0, u1, u2, u3⟩
        refine wpAnyL_take 0 rfl (by kernel_rfl) (by kernel_rfl) (by kernel_rfl) (by kernel_rfl) (fun _ _ _ h => h) (by kernel_rfl) (by intro w' hS'; obtain ⟨x0, x1, x2, x3⟩ := hS'; go_simp <;> rfl) yS ?_
        try simp only [List.getElem_toArray, List.getElem_cons_succ, List.getElem_cons_zero, Act.put, List.setIfInBounds_toArray, List.set_cons_zero, List.set_cons_succ]
        refine wpAnyL_take 1 rfl (by kernel_rfl) (by kernel_rfl) (by kernel_rfl) (by kernel_rfl) (fun _ _ _ h => h) (by kernel_rfl) (by intro w' hS'; obtain ⟨x0, x1, x2, x3⟩ := hS'; go_simp <;> rfl) yS ?_
        try simp only [List.getElem_toArray, List.getElem_cons_succ, List.getElem_cons_zero, Act.put, List.setIfInBounds_toArray, List.set_cons_zero, List.set_cons_succ]
        refine wpAnyL_take 2 rfl (by kernel_rfl) (by kernel_rfl) (by kernel_rfl) (by kernel_rfl) (fun _ _ _ h => h) (by kernel_rfl) (by intro w' hS'; obtain ⟨x0, x1, x2, x3⟩ := hS'; go_simp <;> rfl) yS ?_
        try simp only [List.getElem_toArray, List.getElem_cons_succ, List.getElem_cons_zero, Act.put, List.setIfInBounds_toArray, List.set_cons_zero, List.set_cons_succ]
        refine wpAnyL_take 3 rfl (by kernel_rfl) (by kernel_rfl) (by kernel_rfl) (by kernel_rfl) (fun _ _ _ h => h) (by kernel_rfl) (by intro w' hS'; obtain ⟨x0, x1, x2, x3⟩ := hS'; go_simp <;> rfl) yS ?_
        try simp only [List.getElem_toArray, List.getElem_cons_succ, List.getElem_cons_zero, Act.put, List.setIfInBounds_toArray, List.set_cons_zero, List.set_cons_succ]
        refine wpAnyL_take 4 rfl (by kernel_rfl) (by kernel_rfl) (by kernel_rfl) (by kernel_rfl) (fun _ _ _ h => h) (by kernel_rfl) (by intro w' hS'; obtain ⟨x0, x1, x2, x3⟩ := hS'; go_simp <;> rfl) yS ?_
        try simp only [List.getElem_toArray, List.getElem_cons_succ, List.getElem_cons_zero, Act.put, List.setIfInBounds_toArray, List.set_cons_zero, List.set_cons_succ]
        refine wpAnyL_take 5 rfl (by kernel_rfl) (by kernel_rfl) (by kernel_rfl) (by kernel_rfl) (fun _ _ _ h => h) (by kernel_rfl) (by intro w' hS'; obtain ⟨x0, x1, x2, x3⟩ := hS'; go_simp <;> rfl) yS ?_
        try simp only [List.getElem_toArray, List.getElem_cons_succ, List.getElem_cons_zero, Act.put, List.setIfInBounds_toArray, List.set_cons_zero, List.set_cons_succ]
        refine wpAnyL_take 6 rfl (by kernel_rfl) (by kernel_rfl) (by kernel_rfl) (by kernel_rfl) (fun _ _ _ h => h) (by kernel_rfl) (by intro w' hS'; obtain ⟨x0, x1, x2, x3⟩ := hS'; go_simp <;> rfl) yS ?_
        try simp only [List.getElem_toArray, List.getElem_cons_succ, List.getElem_cons_zero, Act.put, List.setIfInBounds_toArray, List.set_cons_zero, List.set_cons_succ]
        refine wpAnyL_take 7 rfl (by kernel_rfl) (by kernel_rfl) (by kernel_rfl) (by kernel_rfl) (fun _ _ _ h => h) (by kernel_rfl) (by intro w' hS'; obtain ⟨x0, x1, x2, x3⟩ := hS'; go_simp <;> rfl) yS ?_
        try simp only [List.getElem_toArray, List.getElem_cons_succ, List.getElem_cons_zero, Act.put, List.setIfInBounds_toArray, List.set_cons_zero, List.set_cons_succ]
        refine wpAnyL_take 8 rfl (by kernel_rfl) (by kernel_rfl) (by kernel_rfl) (by kernel_rfl) (fun _ _ _ h => h) (by kernel_rfl) (by intro w' hS'; obtain ⟨x0, x1, x2, x3⟩ := hS'; go_simp <;> rfl) yS ?_
        try simp only [List.getElem_toArray, List.getElem_cons_succ, List.getElem_cons_zero, Act.put, List.setIfInBounds_toArray, List.set_cons_zero, List.set_cons_succ]
        refine wpAnyL_take 9 rfl (by kernel_rfl) (by kernel_rfl) (by kernel_rfl) (by kernel_rfl) (fun _ _ _ h => h) (by kernel_rfl) (by intro w' hS'; obtain ⟨x0, x1, x2, x3⟩ := hS'; go_simp <;> rfl) yS ?_
        try simp only [List.getElem_toArray, List.getElem_cons_succ, List.getElem_cons_zero, Act.put, List.setIfInBounds_toArray, List.set_cons_zero, List.set_cons_succ]
        refine wpAnyL_take 10 rfl (by kernel_rfl) (by kernel_rfl) (by kernel_rfl) (by kernel_rfl) (fun _ _ _ h => h) (by kernel_rfl) (by intro w' hS'; obtain ⟨x0, x1, x2, x3⟩ := hS'; go_simp <;> rfl) yS ?_
        try simp only [List.getElem_toArray, List.getElem_cons_succ, List.getElem_cons_zero, Act.put, List.setIfInBounds_toArray, List.set_cons_zero, List.set_cons_succ]
        refine wpAnyL_take 11 rfl (by kernel_rfl) (by kernel_rfl) (by kernel_rfl) (by kernel_rfl) (fun _ _ _ h => h) (by kernel_rfl) (by intro w' hS'; obtain ⟨x0, x1, x2, x3⟩ := hS'; go_simp <;> rfl) yS ?_
        try simp only [List.getElem_toArray, List.getElem_cons_succ, List.getElem_cons_zero, Act.put, List.setIfInBounds_toArray, List.set_cons_zero, List.set_cons_succ]
        refine wpAnyL_take 12 rfl (by kernel_rfl) (by kernel_rfl) (by kernel_rfl) (by kernel_rfl) (fun _ _ _ h => h) (by kernel_rfl) (by intro w' hS'; obtain ⟨x0, x1, x2, x3⟩ := hS'; go_simp <;> rfl) yS ?_
        try simp only [List.getElem_toArray, List.getElem_cons_succ, List.getElem_cons_zero, Act.put, List.setIfInBounds_toArray, List.set_cons_zero, List.set_cons_succ]
        refine wpAnyL_take 13 rfl (by kernel_rfl) (by kernel_rfl) (by kernel_rfl) (by kernel_rfl) (fun _ _ _ h => h) (by kernel_rfl) (by intro w' hS'; obtain ⟨x0, x1, x2, x3⟩ := hS'; go_simp <;> rfl) yS ?_
        try simp only [List.getElem_toArray, List.getElem_cons_succ, List.getElem_cons_zero, Act.put, List.setIfInBounds_toArray, List.set_cons_zero, List.set_cons_succ]
        refine wpAnyL_take 14 rfl (by kernel_rfl) (by kernel_rfl) (by kernel_rfl) (by kernel_rfl) (fun _ _ _ h => h) (by kernel_rfl) (by intro w' hS'; obtain ⟨x0, x1, x2, x3⟩ := hS'; go_simp <;> rfl) yS ?_
        try simp only [List.getElem_toArray, List.getElem_cons_succ, List.getElem_cons_zero, Act.put, List.setIfInBounds_toArray, List.set_cons_zero, List.set_cons_succ]
        refine wpAnyL_take 15 rfl (by kernel_rfl) (by kernel_rfl) (by kernel_rfl) (by kernel_rfl) (fun _ _ _ h => h) (by kernel_rfl) (by intro w' hS'; obtain ⟨x0, x1, x2, x3⟩ := hS'; go_simp <;> rfl) yS ?_
        try simp only [List.getElem_toArray, List.getElem_cons_succ, List.getElem_cons_zero, Act.put, List.setIfInBounds_toArray, List.set_cons_zero, List.set_cons_succ]
        refine wpAnyL_take 16 rfl (by kernel_rfl) (by kernel_rfl) (by kernel_rfl) (by kernel_rfl) (fun _ _ _ h => h) (by kernel_rfl) (by intro w' hS'; obtain ⟨x0, x1, x2, x3⟩ := hS'; go_simp <;> rfl) yS ?_
        try simp only [List.getElem_toArray, List.getElem_cons_succ, List.getElem_cons_zero, Act.put, List.setIfInBounds_toArray, List.set_cons_zero, List.set_cons_succ]
        refine wpAnyL_take 17 rfl (by kernel_rfl) (by kernel_rfl) (by kernel_rfl) (by kernel_rfl) (fun _ _ _ h => h) (by kernel_rfl) (by intro w' hS'; obtain ⟨x0, x1, x2, x3⟩ := hS'; go_simp <;> rfl) yS ?_
        try simp only [List.getElem_toArray, List.getElem_cons_succ, List.getElem_cons_zero, Act.put, List.setIfInBounds_toArray, List.set_cons_zero, List.set_cons_succ]
        refine wpAnyL_take 18 rfl (by kernel_rfl) (by kernel_rfl) (by kernel_rfl) (by kernel_rfl) (fun _ _ _ h => h) (by kernel_rfl) (by intro w' hS'; obtain ⟨x0, x1, x2, x3⟩ := hS'; go_simp <;> rfl) yS ?_
        try simp only [List.getElem_toArray, List.getElem_cons_succ, List.getElem_cons_zero, Act.put, List.setIfInBounds_toArray, List.set_cons_zero, List.set_cons_succ]
        refine wpAnyL_skip 19 rfl (by kernel_rfl) (by kernel_rfl) (by kernel_rfl) (by kernel_rfl) (fun _ _ _ h => h) (by kernel_rfl) yS ?_
        try simp only [List.getElem_toArray, List.getElem_cons_succ, List.getElem_cons_zero, Act.put, List.setIfInBounds_toArray, List.set_cons_zero, List.set_cons_succ]
        refine wpAnyL_skip 20 rfl (by kernel_rfl) (by kernel_rfl) (by kernel_rfl) (by kernel_rfl) (fun _ _ _ h => h) (by kernel_rfl) yS ?_
        try simp only [List.getElem_toArray, List.getElem_cons_succ, List.getElem_cons_zero, Act.put, List.setIfInBounds_toArray, List.set_cons_zero, List.set_cons_succ]
        refine wpAnyL_skip 21 rfl (by kernel_rfl) (by kernel_rfl) (by kernel_rfl) (by kernel_rfl) (fun _ _ _ h => h) (by kernel_rfl) yS ?_
        try simp only [List.getElem_toArray, List.getElem_cons_succ, List.getElem_cons_zero, Act.put, List.setIfInBounds_toArray, List.set_cons_zero, List.set_cons_succ]
        refine wpAnyL_take 22 rfl (by kernel_rfl) (by kernel_rfl) (by kernel_rfl) (by kernel_rfl) (fun _ _ _ h => h) (by kernel_rfl) (by intro w' hS'; obtain ⟨x0, x1, x2, x3⟩ := hS'; go_simp <;> rfl) yS ?_
        try simp only [List.getElem_toArray, List.getElem_cons_succ, List.getElem_cons_zero, Act.put, List.setIfInBounds_toArray, List.set_cons_zero, List.set_cons_succ]
        refine wpAnyL_take 23 rfl (by kernel_rfl) (by kernel_rfl) (by kernel_rfl) (by kernel_rfl) (fun _ _ _ h => h) (by kernel_rfl) (by intro w' hS'; obtain ⟨x0, x1, x2, x3⟩ := hS'; go_simp <;> rfl) yS ?_
        try simp only [List.getElem_toArray, List.getElem_cons_succ, List.getElem_cons_zero, Act.put, List.setIfInBounds_toArray, List.set_cons_zero, List.set_cons_succ]
        refine wpAnyL_done (by kernel_rfl) (NoPanic.normal ?_) _
        clear u2 u3
        obtain ⟨-, u2, u3⟩ := box7
        generalize w6.drew = w7 at *
        clear u0 u1 yS
        obtain ⟨⟨y0, y1, y2, y3⟩, -⟩ := clS w7 hb7
        by_cases h1 : a2 = []
        · have d1 : decide (a2 = []) = true := by simpa using h1
          have hJ : (((j1, j2), c) : Sp × Int) = (([], []), 10) := by rw [HJ2.out, if_pos (.inr h1)]
          cases hJ
          clear HJ2 h1
          go_wp2_with fail
          refine (kaw _).mono ?_
          rintro e w9 ⟨rfl, hb9⟩
          go_wp2
          go_ret
          exact ⟨rfl, hfin _ (hb7.trans (hb9.mono (hN _ hb7)))⟩
        · have d1 : decide (a2 = []) = false := by simpa using h1
          by_cases h2 : a2 = b1
          · have d2 : decide (a2 = b1) = true := by simpa using h2
            have hJ : (((j1, j2), c) : Sp × Int) = ((a1, b2), 0) := by rw [HJ2.out, if_neg (by rintro (h | h); exact h h2; exact h1 h)]
            cases hJ
            clear HJ2 h1 h2
            go_wp2_with fail
            refine (kaw _).mono ?_
            rintro e w9 ⟨rfl, hb9⟩
            go_wp2
            go_ret
            exact ⟨rfl, hfin _ (hb7.trans (hb9.mono (hN _ hb7)))⟩
          · have d2 : decide (a2 = b1) = false := by simpa using h2
            have hJ : (((j1, j2), c) : Sp × Int) = (([], []), 10) := by rw [HJ2.out, if_pos (.inl h2)]
            cases hJ
            clear HJ2 h1 h2
            go_wp2_with fail
            refine (kaw _).mono ?_
            rintro e w9 ⟨rfl, hb9⟩
            go_wp2
            go_ret
            exact ⟨rfl, hfin _ (hb7.trans (hb9.mono (hN _ hb7)))⟩
end Go.Proofs.Ytlkcfpifjocliaa

