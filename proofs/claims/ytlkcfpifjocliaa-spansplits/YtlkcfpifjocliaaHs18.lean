import Derived.Test.YtlkcfpifjocliaaHs17
/- The law SpanSplits answers true and leaves all memory as it was: the walk. -/
namespace Go.Proofs.Ytlkcfpifjocliaa
open Go.RowKit SpanMath
set_option maxRecDepth 100000
set_option linter.unusedSimpArgs false
set_option linter.unusedVariables false

theorem split_parts {s1 s2 k o : K} (hm : may (s1, s2) = true) (hk : k.length ≤ 64) (hh : has (s1, s2) k = true) (hne : ¬ k = s1) :
    (hasP (s1, k) o || hasP (k, s2) o) = hasP (s1, s2) o ∧ (hasP (s1, k) o && hasP (k, s2) o) = false := by
  rw [may_iff] at hm
  obtain ⟨⟨m1, m2⟩, m3⟩ := hm
  unfold Ok at m3
  rw [has_iff] at hh
  simp only at m1 m2 m3 hh
  have h0 := nil_le s1
  have h1 := nil_le k
  have hm1 : may (s1, k) = true := may_iff.2 ⟨⟨m1, hk⟩, .inr (by simp only; grind)⟩
  have hm2 : may (k, s2) = true := may_iff.2 ⟨⟨hk, m2⟩, by unfold Ok; simp only; grind⟩
  have hm0 : may (s1, s2) = true := may_iff.2 ⟨⟨m1, m2⟩, m3⟩
  unfold hasP
  rw [hm0, hm1, hm2]
  have e1 : (has (s1, k) o || has (k, s2) o) = has (s1, s2) o := by
    rw [Bool.eq_iff_iff, Bool.or_eq_true, has_iff, has_iff, has_iff]
    simp only
    grind
  have e2 : (has (s1, k) o && has (k, s2) o) = false := by
    rw [Bool.eq_false_iff]
    intro h
    rw [Bool.and_eq_true, has_iff, has_iff] at h
    simp only at h
    grind
  cases decide (o.length ≤ 64) <;> simp [← e1]
  revert e2
  cases has (s1, k) o <;> cases has (k, s2) o <;> simp

set_option maxHeartbeats 16000000 in
theorem splits_law (s : Sp) (k o : K) (w : World) : Calls Try.prog 4 #[sv s, .string (bk k), .string (bk o)] w fun e w' => e = .returned (.bool true) ∧ Below w.heap.size w w' := by
  have ksp := fun W => split_of s k W
  have kmy := fun W => may_of s W
  have khs := fun W => has_of s k W
  have krh := fun W => refHas_of s k W
  have kaw := awake_of
  obtain ⟨s1, s2⟩ := s
  obtain ⟨hs0, g0, hb0⟩ := one_box w (.cells #[.string (bk s1), .string (bk s2)] 23)
  have ks1 := ksp (w.alloc (.cells #[.string (bk s1), .string (bk s2)] 23))
  rw [hs0] at ks1
  obtain ⟨M, HM⟩ : ∃ M, Hid (M = splitP (s1, s2) k) := ⟨_, rfl⟩
  rw [← HM.out] at ks1
  obtain ⟨⟨l1, l2⟩, ⟨h1, h2⟩, c⟩ := M
  go_enter Try.func4, Try.ntmps4
  go_wp2_with fail
  generalize w.alloc (.cells #[.string (bk s1), .string (bk s2)] 23) = w0 at *
  refine ks1.mono ?_
  rintro e w1 ⟨rfl, hb1⟩
  rw [show splitV ((l1, l2), (h1, h2), c) = .tuple #[.agg #[.string (bk l1), .string (bk l2)], .agg #[.string (bk h1), .string (bk h2)], .int .i64 c] from rfl]
  clear ksp ks1
  have hN1 : w.heap.size + 1 ≤ w1.heap.size := by have := hb1.size; omega
  obtain ⟨q1, q2, q3, q4⟩ := two_boxes w1 (.cells #[.string (bk l1), .string (bk l2)] 23) (.cells #[.string (bk h1), .string (bk h2)] 23)
  have hg0 := (q4.block w.heap.size (by omega)).trans ((hb1.block w.heap.size (Nat.lt_succ_self _)).trans g0)
  have hbw := (hb0.trans (hb1.mono (Nat.le_succ _))).trans (q4.mono (by omega))
  have clS2 : ∀ W, Below (w1.heap.size + 2) ((w1.alloc (.cells #[.string (bk l1), .string (bk l2)] 23)).alloc (.cells #[.string (bk h1), .string (bk h2)] 23)) W → (W.cell? ⟨w1.heap.size, 0, none⟩ = some (.string (bk l1)) ∧ W.cell? ⟨w1.heap.size, 1, none⟩ = some (.string (bk l2)) ∧ W.cell? ⟨w1.heap.size + 1, 0, none⟩ = some (.string (bk h1)) ∧ W.cell? ⟨w1.heap.size + 1, 1, none⟩ = some (.string (bk h2)) ∧ W.cell? ⟨w.heap.size, 0, none⟩ = some (.string (bk s1)) ∧ W.cell? ⟨w.heap.size, 1, none⟩ = some (.string (bk s2))) := fun W hW => by
    have z0 := (hW.block w1.heap.size (by omega)).trans q2
    have z1 := (hW.block (w1.heap.size + 1) (by omega)).trans q3
    have z2 := (hW.block w.heap.size (by omega)).trans hg0
    exact ⟨by rw [cells_of_block z0]; rfl, by rw [cells_of_block z0]; rfl, by rw [cells_of_block z1]; rfl, by rw [cells_of_block z1]; rfl, by rw [cells_of_block z2]; rfl, by rw [cells_of_block z2]; rfl⟩
  have km1 := kmy ((w1.alloc (.cells #[.string (bk l1), .string (bk l2)] 23)).alloc (.cells #[.string (bk h1), .string (bk h2)] 23))
  rw [q1] at km1
  obtain ⟨y0, y1, y2, y3, y4, y5⟩ := clS2 _ (Below.refl _ _)
  clear hg0 q2 q3 q4 hb1 hb0 g0
  go_wp2_with fail
  generalize (w1.alloc (.cells #[.string (bk l1), .string (bk l2)] 23)).alloc (.cells #[.string (bk h1), .string (bk h2)] 23) = wb at *
  have hNb : w1.heap.size + 2 ≤ wb.heap.size := Nat.le_of_eq q1.symm
  have hNW : ∀ W, Below (w1.heap.size + 2) wb W → w1.heap.size + 2 ≤ W.heap.size := fun W hW => Nat.le_trans hNb hW.size
  have hfin : ∀ W, Below (w1.heap.size + 2) wb W → Below w.heap.size w W := fun W hW => hbw.trans (hW.mono (by omega))
  refine km1.mono ?_
  rintro e w3 ⟨rfl, hb3⟩
  clear km1 y0 y1 y2 y3 y4 y5 q1
  obtain ⟨y0, y1, y2, y3, y4, y5⟩ := clS2 w3 hb3
  have kh3 := khs w3
  cases hm : may (s1, s2) with
  | false =>
    have hhp : hasP (s1, s2) k = false := by unfold hasP; rw [hm]; rfl
    have hM : (((l1, l2), (h1, h2), c) : Sp × Sp × Int) = (([], []), ([], []), 1) := by rw [HM.out]; simp [splitP, hm]
    rw [hhp] at kh3
    cases hM
    clear HM hm kmy khs krh hhp
    go_wp2_with fail
    refine kh3.mono ?_
    rintro e w8 ⟨rfl, hb8'⟩
    have hb8 := hb3.trans (hb8'.mono (hNW _ hb3))
    clear y0 y1 y2 y3 y4 y5 kh3
    obtain ⟨y0, y1, y2, y3, y4, y5⟩ := clS2 w8 hb8
    go_wp2_with fail
    refine (kaw _).mono ?_
    rintro e w9 ⟨rfl, hb9⟩
    go_wp2
    go_ret
    exact ⟨rfl, hfin _ (hb8.trans (hb9.mono (hNW _ hb8)))⟩
  | true =>
    by_cases hk : k.length ≤ 64
    · have hki : (k.length : Int) ≤ 64 := by omega
      have hhp : hasP (s1, s2) k = has (s1, s2) k := by unfold hasP; rw [hm, decide_eq_true hk]; rfl
      have HM2 : Hid ((((l1, l2), (h1, h2), c) : Sp × Sp × Int) = if has (s1, s2) k = false ∨ k = s1 then (([], []), ([], []), 10) else ((s1, k), (k, s2), 0)) := by show _ = _; rw [HM.out]; simp [splitP, hm, hk]
      rw [hhp] at kh3
      go_wp2_with fail
      refine kh3.mono ?_
      rintro e w5 ⟨rfl, hb5'⟩
      have hb5 := hb3.trans (hb5'.mono (hNW _ hb3))
      have kr5 := krh w5
      clear y0 y1 y2 y3 y4 y5 kh3 khs hhp
      obtain ⟨y0, y1, y2, y3, y4, y5⟩ := clS2 w5 hb5
      go_wp2_with fail
      refine kr5.mono ?_
      rintro e w6 ⟨rfl, hb6'⟩
      have hb6 := hb5.trans (hb6'.mono (hNW _ hb5))
      have kr6 := krh w6
      clear y0 y1 y2 y3 y4 y5 kr5 krh
      obtain ⟨y0, y1, y2, y3, y4, y5⟩ := clS2 w6 hb6
      cases hh : has (s1, s2) k with
      | false =>
        rw [hh] at kr6
        have hM : (((l1, l2), (h1, h2), c) : Sp × Sp × Int) = (([], []), ([], []), 10) := by rw [HM2.out, hh]; rfl
        cases hM
        clear HM HM2 hm hh kmy
        go_wp2_with fail
        refine kr6.mono ?_
        rintro e w8 ⟨rfl, hb8'⟩
        have hb8 := hb6.trans (hb8'.mono (hNW _ hb6))
        clear y0 y1 y2 y3 y4 y5 kr6
        obtain ⟨y0, y1, y2, y3, y4, y5⟩ := clS2 w8 hb8
        go_wp2_with fail
        refine (kaw _).mono ?_
        rintro e w9 ⟨rfl, hb9⟩
        go_wp2
        go_ret
        exact ⟨rfl, hfin _ (hb8.trans (hb9.mono (hNW _ hb8)))⟩
      | true =>
        rw [hh] at kr6
        go_wp2_with fail
        refine kr6.mono ?_
        rintro e w8 ⟨rfl, hb8'⟩
        have hb8 := hb6.trans (hb8'.mono (hNW _ hb6))
        clear y0 y1 y2 y3 y4 y5 kr6
        obtain ⟨y0, y1, y2, y3, y4, y5⟩ := clS2 w8 hb8
        by_cases hks : k = s1
        · have hM : (((l1, l2), (h1, h2), c) : Sp × Sp × Int) = (([], []), ([], []), 10) := by rw [HM2.out, if_pos (.inr hks)]
          have d1 : decide (k = s1) = true := by simpa using hks
          cases hM
          clear HM HM2 hm hh kmy hks
          go_wp2_with fail
          refine (kaw _).mono ?_
          rintro e w9 ⟨rfl, hb9⟩
          go_wp2
          go_ret
          exact ⟨rfl, hfin _ (hb8.trans (hb9.mono (hNW _ hb8)))⟩
        · have hM : (((l1, l2), (h1, h2), c) : Sp × Sp × Int) = ((s1, k), (k, s2), 0) := by rw [HM2.out, hh, if_neg (by rintro (h | h); cases h; exact hks h)]
          have d1 : decide (k = s1) = false := by simpa using hks
          obtain ⟨e1, e2⟩ := split_parts (o := o) hm hk hh hks
          cases hM
          have hb8d : Below (w1.heap.size + 2) wb w8.drew := hb8.drew
          have clS : ∀ W, Below (w1.heap.size + 2) wb W → (fun W => (W.cell? ⟨w1.heap.size, 0, none⟩ = some (.string (bk s1)) ∧ W.cell? ⟨w1.heap.size, 1, none⟩ = some (.string (bk k)) ∧ W.cell? ⟨w1.heap.size + 1, 0, none⟩ = some (.string (bk k)) ∧ W.cell? ⟨w1.heap.size + 1, 1, none⟩ = some (.string (bk s2)) ∧ W.cell? ⟨w.heap.size, 0, none⟩ = some (.string (bk s1)) ∧ W.cell? ⟨w.heap.size, 1, none⟩ = some (.string (bk s2))) ∧ Below (w1.heap.size + 2) wb W) W := fun W hW => ⟨clS2 W hW, hW⟩
          have kA : ∀ W, (fun W => (W.cell? ⟨w1.heap.size, 0, none⟩ = some (.string (bk s1)) ∧ W.cell? ⟨w1.heap.size, 1, none⟩ = some (.string (bk k)) ∧ W.cell? ⟨w1.heap.size + 1, 0, none⟩ = some (.string (bk k)) ∧ W.cell? ⟨w1.heap.size + 1, 1, none⟩ = some (.string (bk s2)) ∧ W.cell? ⟨w.heap.size, 0, none⟩ = some (.string (bk s1)) ∧ W.cell? ⟨w.heap.size, 1, none⟩ = some (.string (bk s2))) ∧ Below (w1.heap.size + 2) wb W) W → Calls Try.prog 11 #[] W fun e w' => e = .returned (.bool true) ∧ (fun W => (W.cell? ⟨w1.heap.size, 0, none⟩ = some (.string (bk s1)) ∧ W.cell? ⟨w1.heap.size, 1, none⟩ = some (.string (bk k)) ∧ W.cell? ⟨w1.heap.size + 1, 0, none⟩ = some (.string (bk k)) ∧ W.cell? ⟨w1.heap.size + 1, 1, none⟩ = some (.string (bk s2)) ∧ W.cell? ⟨w.heap.size, 0, none⟩ = some (.string (bk s1)) ∧ W.cell? ⟨w.heap.size, 1, none⟩ = some (.string (bk s2))) ∧ Below (w1.heap.size + 2) wb W) w' := fun W hW => by
            refine (kaw W).mono ?_
            rintro e w' ⟨rfl, hb'⟩
            exact ⟨rfl, clS w' (keep_step hW.2 hNb hb')⟩
          have hparts := True.intro
          clear HM HM2 hm hh kmy hks kaw
          cases hkL : hasP (s1, k) o with
          | false =>
            cases hkH : hasP (k, s2) o with
            | false =>
              have hkS : hasP (s1, s2) o = false := by rw [← e1, hkL, hkH]; rfl
              clear e1 e2
              have kL : ∀ W, (fun W => (W.cell? ⟨w1.heap.size, 0, none⟩ = some (.string (bk s1)) ∧ W.cell? ⟨w1.heap.size, 1, none⟩ = some (.string (bk k)) ∧ W.cell? ⟨w1.heap.size + 1, 0, none⟩ = some (.string (bk k)) ∧ W.cell? ⟨w1.heap.size + 1, 1, none⟩ = some (.string (bk s2)) ∧ W.cell? ⟨w.heap.size, 0, none⟩ = some (.string (bk s1)) ∧ W.cell? ⟨w.heap.size, 1, none⟩ = some (.string (bk s2))) ∧ Below (w1.heap.size + 2) wb W) W → Calls Try.prog 14 #[.agg #[.string (bk s1), .string (bk k)], .string (bk o)] W fun e w' => e = .returned (.bool false) ∧ (fun W => (W.cell? ⟨w1.heap.size, 0, none⟩ = some (.string (bk s1)) ∧ W.cell? ⟨w1.heap.size, 1, none⟩ = some (.string (bk k)) ∧ W.cell? ⟨w1.heap.size + 1, 0, none⟩ = some (.string (bk k)) ∧ W.cell? ⟨w1.heap.size + 1, 1, none⟩ = some (.string (bk s2)) ∧ W.cell? ⟨w.heap.size, 0, none⟩ = some (.string (bk s1)) ∧ W.cell? ⟨w.heap.size, 1, none⟩ = some (.string (bk s2))) ∧ Below (w1.heap.size + 2) wb W) w' := fun W hW => by
                refine (has_of (s1, k) o W).mono ?_
                rintro e w' ⟨rfl, hb'⟩
                exact ⟨by rw [hkL], clS w' (keep_step hW.2 hNb hb')⟩
              have kH : ∀ W, (fun W => (W.cell? ⟨w1.heap.size, 0, none⟩ = some (.string (bk s1)) ∧ W.cell? ⟨w1.heap.size, 1, none⟩ = some (.string (bk k)) ∧ W.cell? ⟨w1.heap.size + 1, 0, none⟩ = some (.string (bk k)) ∧ W.cell? ⟨w1.heap.size + 1, 1, none⟩ = some (.string (bk s2)) ∧ W.cell? ⟨w.heap.size, 0, none⟩ = some (.string (bk s1)) ∧ W.cell? ⟨w.heap.size, 1, none⟩ = some (.string (bk s2))) ∧ Below (w1.heap.size + 2) wb W) W → Calls Try.prog 14 #[.agg #[.string (bk k), .string (bk s2)], .string (bk o)] W fun e w' => e = .returned (.bool false) ∧ (fun W => (W.cell? ⟨w1.heap.size, 0, none⟩ = some (.string (bk s1)) ∧ W.cell? ⟨w1.heap.size, 1, none⟩ = some (.string (bk k)) ∧ W.cell? ⟨w1.heap.size + 1, 0, none⟩ = some (.string (bk k)) ∧ W.cell? ⟨w1.heap.size + 1, 1, none⟩ = some (.string (bk s2)) ∧ W.cell? ⟨w.heap.size, 0, none⟩ = some (.string (bk s1)) ∧ W.cell? ⟨w.heap.size, 1, none⟩ = some (.string (bk s2))) ∧ Below (w1.heap.size + 2) wb W) w' := fun W hW => by
                refine (has_of (k, s2) o W).mono ?_
                rintro e w' ⟨rfl, hb'⟩
                exact ⟨by rw [hkH], clS w' (keep_step hW.2 hNb hb')⟩
              have kS : ∀ W, (fun W => (W.cell? ⟨w1.heap.size, 0, none⟩ = some (.string (bk s1)) ∧ W.cell? ⟨w1.heap.size, 1, none⟩ = some (.string (bk k)) ∧ W.cell? ⟨w1.heap.size + 1, 0, none⟩ = some (.string (bk k)) ∧ W.cell? ⟨w1.heap.size + 1, 1, none⟩ = some (.string (bk s2)) ∧ W.cell? ⟨w.heap.size, 0, none⟩ = some (.string (bk s1)) ∧ W.cell? ⟨w.heap.size, 1, none⟩ = some (.string (bk s2))) ∧ Below (w1.heap.size + 2) wb W) W → Calls Try.prog 14 #[.agg #[.string (bk s1), .string (bk s2)], .string (bk o)] W fun e w' => e = .returned (.bool false) ∧ (fun W => (W.cell? ⟨w1.heap.size, 0, none⟩ = some (.string (bk s1)) ∧ W.cell? ⟨w1.heap.size, 1, none⟩ = some (.string (bk k)) ∧ W.cell? ⟨w1.heap.size + 1, 0, none⟩ = some (.string (bk k)) ∧ W.cell? ⟨w1.heap.size + 1, 1, none⟩ = some (.string (bk s2)) ∧ W.cell? ⟨w.heap.size, 0, none⟩ = some (.string (bk s1)) ∧ W.cell? ⟨w.heap.size, 1, none⟩ = some (.string (bk s2))) ∧ Below (w1.heap.size + 2) wb W) w' := fun W hW => by
                refine (has_of (s1, s2) o W).mono ?_
                rintro e w' ⟨rfl, hb'⟩
                exact ⟨by rw [hkS], clS w' (keep_step hW.2 hNb hb')⟩
              clear hkL hkH hkS hparts clS2
              go_wp2
              refine wp_region_L (fun W => (W.cell? ⟨w1.heap.size, 0, none⟩ = some (.string (bk s1)) ∧ W.cell? ⟨w1.heap.size, 1, none⟩ = some (.string (bk k)) ∧ W.cell? ⟨w1.heap.size + 1, 0, none⟩ = some (.string (bk k)) ∧ W.cell? ⟨w1.heap.size + 1, 1, none⟩ = some (.string (bk s2)) ∧ W.cell? ⟨w.heap.size, 0, none⟩ = some (.string (bk s1)) ∧ W.cell? ⟨w.heap.size, 1, none⟩ = some (.string (bk s2))) ∧ Below (w1.heap.size + 2) wb W) [] (by kernel_rfl) ?_
              have yS : (fun W => (W.cell? ⟨w1.heap.size, 0, none⟩ = some (.string (bk s1)) ∧ W.cell? ⟨w1.heap.size, 1, none⟩ = some (.string (bk k)) ∧ W.cell? ⟨w1.heap.size + 1, 0, none⟩ = some (.string (bk k)) ∧ W.cell? ⟨w1.heap.size + 1, 1, none⟩ = some (.string (bk s2)) ∧ W.cell? ⟨w.heap.size, 0, none⟩ = some (.string (bk s1)) ∧ W.cell? ⟨w.heap.size, 1, none⟩ = some (.string (bk s2))) ∧ Below (w1.heap.size + 2) wb W) w8.drew := clS _ hb8d
              refine wpAnyL_take 0 rfl (by kernel_rfl) (by kernel_rfl) (by kernel_rfl) (by kernel_rfl) (fun _ _ _ h => h) (by kernel_rfl) (by intro w' hS'; obtain ⟨⟨x0, x1, x2, x3, x4, x5⟩, x6⟩ := hS'; go_simp <;> rfl) yS ?_
              try simp only [List.getElem_toArray, List.getElem_cons_succ, List.getElem_cons_zero, Act.put, List.setIfInBounds_toArray, List.set_cons_zero, List.set_cons_succ]
              refine wpAnyL_take 1 rfl (by kernel_rfl) (by kernel_rfl) (by kernel_rfl) (by kernel_rfl) (fun _ _ _ h => h) (by kernel_rfl) (by intro w' hS'; obtain ⟨⟨x0, x1, x2, x3, x4, x5⟩, x6⟩ := hS'; go_simp <;> rfl) yS ?_
              try simp only [List.getElem_toArray, List.getElem_cons_succ, List.getElem_cons_zero, Act.put, List.setIfInBounds_toArray, List.set_cons_zero, List.set_cons_succ]
              refine wpAnyL_take 8 rfl (by kernel_rfl) (by kernel_rfl) (by kernel_rfl) (by kernel_rfl) (fun _ _ _ h => h) (by kernel_rfl) (by intro w' hS'; obtain ⟨⟨x0, x1, x2, x3, x4, x5⟩, x6⟩ := hS'; go_simp <;> rfl) yS ?_
              try simp only [List.getElem_toArray, List.getElem_cons_succ, List.getElem_cons_zero, Act.put, List.setIfInBounds_toArray, List.set_cons_zero, List.set_cons_succ]
              refine wpAnyL_take 9 rfl (by kernel_rfl) (by kernel_rfl) (by kernel_rfl) (by kernel_rfl) (fun _ _ _ h => h) (by kernel_rfl) (by intro w' hS'; obtain ⟨⟨x0, x1, x2, x3, x4, x5⟩, x6⟩ := hS'; go_simp <;> rfl) yS ?_
              try simp only [List.getElem_toArray, List.getElem_cons_succ, List.getElem_cons_zero, Act.put, List.setIfInBounds_toArray, List.set_cons_zero, List.set_cons_succ]
              refine wpAnyL_one 2 (by kernel_rfl) rfl (by kernel_rfl) ?_
              intro K' hK'
              go_simp
              go_at_call 14
              refine (kL _ yS).mono ?_
              rintro e W1 ⟨rfl, hS1⟩
              refine hK'.out _ _ (.inr hS1) ?_
              clear hK' K'
              try simp only [List.getElem_toArray, List.getElem_cons_succ, List.getElem_cons_zero, Act.put, List.setIfInBounds_toArray, List.set_cons_zero, List.set_cons_succ]
              refine wpAnyL_take 3 rfl (by kernel_rfl) (by kernel_rfl) (by kernel_rfl) (by kernel_rfl) (fun _ _ _ h => h) (by kernel_rfl) (by intro w' hS'; obtain ⟨⟨x0, x1, x2, x3, x4, x5⟩, x6⟩ := hS'; go_simp <;> rfl) hS1 ?_
              try simp only [List.getElem_toArray, List.getElem_cons_succ, List.getElem_cons_zero, Act.put, List.setIfInBounds_toArray, List.set_cons_zero, List.set_cons_succ]
              refine wpAnyL_take 4 rfl (by kernel_rfl) (by kernel_rfl) (by kernel_rfl) (by kernel_rfl) (fun _ _ _ h => h) (by kernel_rfl) (by intro w' hS'; obtain ⟨⟨x0, x1, x2, x3, x4, x5⟩, x6⟩ := hS'; go_simp <;> rfl) hS1 ?_
              try simp only [List.getElem_toArray, List.getElem_cons_succ, List.getElem_cons_zero, Act.put, List.setIfInBounds_toArray, List.set_cons_zero, List.set_cons_succ]
              refine wpAnyL_take 5 rfl (by kernel_rfl) (by kernel_rfl) (by kernel_rfl) (by kernel_rfl) (fun _ _ _ h => h) (by kernel_rfl) (by intro w' hS'; obtain ⟨⟨x0, x1, x2, x3, x4, x5⟩, x6⟩ := hS'; go_simp <;> rfl) hS1 ?_
              try simp only [List.getElem_toArray, List.getElem_cons_succ, List.getElem_cons_zero, Act.put, List.setIfInBounds_toArray, List.set_cons_zero, List.set_cons_succ]
              refine wpAnyL_one 6 (by kernel_rfl) rfl (by kernel_rfl) ?_
              intro K' hK'
              go_simp
              go_at_call 14
              refine (kH _ hS1).mono ?_
              rintro e W2 ⟨rfl, hS2⟩
              refine hK'.out _ _ (.inr hS2) ?_
              clear hK' K'
              try simp only [List.getElem_toArray, List.getElem_cons_succ, List.getElem_cons_zero, Act.put, List.setIfInBounds_toArray, List.set_cons_zero, List.set_cons_succ]
              refine wpAnyL_take 7 rfl (by kernel_rfl) (by kernel_rfl) (by kernel_rfl) (by kernel_rfl) (fun _ _ _ h => h) (by kernel_rfl) (by intro w' hS'; obtain ⟨⟨x0, x1, x2, x3, x4, x5⟩, x6⟩ := hS'; go_simp <;> rfl) hS2 ?_
              try simp only [List.getElem_toArray, List.getElem_cons_succ, List.getElem_cons_zero, Act.put, List.setIfInBounds_toArray, List.set_cons_zero, List.set_cons_succ]
              refine wpAnyL_one 10 (by kernel_rfl) rfl (by kernel_rfl) ?_
              intro K' hK'
              go_simp
              go_at_call 14
              refine (kS _ hS2).mono ?_
              rintro e W3 ⟨rfl, hS3⟩
              refine hK'.out _ _ (.inr hS3) ?_
              clear hK' K'
              try simp only [List.getElem_toArray, List.getElem_cons_succ, List.getElem_cons_zero, Act.put, List.setIfInBounds_toArray, List.set_cons_zero, List.set_cons_succ]
              refine wpAnyL_take 11 rfl (by kernel_rfl) (by kernel_rfl) (by kernel_rfl) (by kernel_rfl) (fun _ _ _ h => h) (by kernel_rfl) (by intro w' hS'; obtain ⟨⟨x0, x1, x2, x3, x4, x5⟩, x6⟩ := hS'; go_simp <;> rfl) hS3 ?_
              try simp only [List.getElem_toArray, List.getElem_cons_succ, List.getElem_cons_zero, Act.put, List.setIfInBounds_toArray, List.set_cons_zero, List.set_cons_succ]
              refine wpAnyL_take 12 rfl (by kernel_rfl) (by kernel_rfl) (by kernel_rfl) (by kernel_rfl) (fun _ _ _ h => h) (by kernel_rfl) (by intro w' hS'; obtain ⟨⟨x0, x1, x2, x3, x4, x5⟩, x6⟩ := hS'; go_simp <;> rfl) hS3 ?_
              try simp only [List.getElem_toArray, List.getElem_cons_succ, List.getElem_cons_zero, Act.put, List.setIfInBounds_toArray, List.set_cons_zero, List.set_cons_succ]
              refine wpAnyL_take 13 rfl (by kernel_rfl) (by kernel_rfl) (by kernel_rfl) (by kernel_rfl) (fun _ _ _ h => h) (by kernel_rfl) (by intro w' hS'; obtain ⟨⟨x0, x1, x2, x3, x4, x5⟩, x6⟩ := hS'; go_simp <;> rfl) hS3 ?_
              try simp only [List.getElem_toArray, List.getElem_cons_succ, List.getElem_cons_zero, Act.put, List.setIfInBounds_toArray, List.set_cons_zero, List.set_cons_succ]
              refine wpAnyL_take 14 rfl (by kernel_rfl) (by kernel_rfl) (by kernel_rfl) (by kernel_rfl) (fun _ _ _ h => h) (by kernel_rfl) (by intro w' hS'; obtain ⟨⟨x0, x1, x2, x3, x4, x5⟩, x6⟩ := hS'; go_simp <;> rfl) hS3 ?_
              try simp only [List.getElem_toArray, List.getElem_cons_succ, List.getElem_cons_zero, Act.put, List.setIfInBounds_toArray, List.set_cons_zero, List.set_cons_succ]
              refine wpAnyL_one 15 (by kernel_rfl) rfl (by kernel_rfl) ?_
              intro K' hK'
              go_simp
              go_at_call 14
              refine (kL _ hS3).mono ?_
              rintro e W4 ⟨rfl, hS4⟩
              refine hK'.out _ _ (.inr hS4) ?_
              clear hK' K'
              try simp only [List.getElem_toArray, List.getElem_cons_succ, List.getElem_cons_zero, Act.put, List.setIfInBounds_toArray, List.set_cons_zero, List.set_cons_succ]
              refine wpAnyL_take 16 rfl (by kernel_rfl) (by kernel_rfl) (by kernel_rfl) (by kernel_rfl) (fun _ _ _ h => h) (by kernel_rfl) (by intro w' hS'; obtain ⟨⟨x0, x1, x2, x3, x4, x5⟩, x6⟩ := hS'; go_simp <;> rfl) hS4 ?_
              try simp only [List.getElem_toArray, List.getElem_cons_succ, List.getElem_cons_zero, Act.put, List.setIfInBounds_toArray, List.set_cons_zero, List.set_cons_succ]
              refine wpAnyL_skip 17 rfl (by kernel_rfl) (by kernel_rfl) (by kernel_rfl) (by kernel_rfl) (fun _ _ _ h => h) (by kernel_rfl) hS4 ?_
              try simp only [List.getElem_toArray, List.getElem_cons_succ, List.getElem_cons_zero, Act.put, List.setIfInBounds_toArray, List.set_cons_zero, List.set_cons_succ]
              refine wpAnyL_skip 18 rfl (by kernel_rfl) (by kernel_rfl) (by kernel_rfl) (by kernel_rfl) (fun _ _ _ h => h) (by kernel_rfl) hS4 ?_
              try simp only [List.getElem_toArray, List.getElem_cons_succ, List.getElem_cons_zero, Act.put, List.setIfInBounds_toArray, List.set_cons_zero, List.set_cons_succ]
              refine wpAnyL_skip 19 rfl (by kernel_rfl) (by kernel_rfl) (by kernel_rfl) (by kernel_rfl) (fun _ _ _ h => h) (by kernel_rfl) hS4 ?_
              try simp only [List.getElem_toArray, List.getElem_cons_succ, List.getElem_cons_zero, Act.put, List.setIfInBounds_toArray, List.set_cons_zero, List.set_cons_succ]
              refine wpAnyL_take 20 rfl (by kernel_rfl) (by kernel_rfl) (by kernel_rfl) (by kernel_rfl) (fun _ _ _ h => h) (by kernel_rfl) (by intro w' hS'; obtain ⟨⟨x0, x1, x2, x3, x4, x5⟩, x6⟩ := hS'; go_simp <;> rfl) hS4 ?_
              try simp only [List.getElem_toArray, List.getElem_cons_succ, List.getElem_cons_zero, Act.put, List.setIfInBounds_toArray, List.set_cons_zero, List.set_cons_succ]
              refine wpAnyL_take 21 rfl (by kernel_rfl) (by kernel_rfl) (by kernel_rfl) (by kernel_rfl) (fun _ _ _ h => h) (by kernel_rfl) (by intro w' hS'; obtain ⟨⟨x0, x1, x2, x3, x4, x5⟩, x6⟩ := hS'; go_simp <;> rfl) hS4 ?_
              try simp only [List.getElem_toArray, List.getElem_cons_succ, List.getElem_cons_zero, Act.put, List.setIfInBounds_toArray, List.set_cons_zero, List.set_cons_succ]
              refine wpAnyL_take 22 rfl (by kernel_rfl) (by kernel_rfl) (by kernel_rfl) (by kernel_rfl) (fun _ _ _ h => h) (by kernel_rfl) (by intro w' hS'; obtain ⟨⟨x0, x1, x2, x3, x4, x5⟩, x6⟩ := hS'; go_simp <;> rfl) hS4 ?_
              try simp only [List.getElem_toArray, List.getElem_cons_succ, List.getElem_cons_zero, Act.put, List.setIfInBounds_toArray, List.set_cons_zero, List.set_cons_succ]
              refine wpAnyL_take 23 rfl (by kernel_rfl) (by kernel_rfl) (by kernel_rfl) (by kernel_rfl) (fun _ _ _ h => h) (by kernel_rfl) (by intro w' hS'; obtain ⟨⟨x0, x1, x2, x3, x4, x5⟩, x6⟩ := hS'; go_simp <;> rfl) hS4 ?_
              try simp only [List.getElem_toArray, List.getElem_cons_succ, List.getElem_cons_zero, Act.put, List.setIfInBounds_toArray, List.set_cons_zero, List.set_cons_succ]
              refine wpAnyL_one 24 (by kernel_rfl) rfl (by kernel_rfl) ?_
              intro K' hK'
              go_simp
              go_at_call 11
              refine (kA _ hS4).mono ?_
              rintro e W5 ⟨rfl, hS5⟩
              refine hK'.out _ _ (.inr hS5) ?_
              clear hK' K'
              try simp only [List.getElem_toArray, List.getElem_cons_succ, List.getElem_cons_zero, Act.put, List.setIfInBounds_toArray, List.set_cons_zero, List.set_cons_succ]
              refine wpAnyL_take 25 rfl (by kernel_rfl) (by kernel_rfl) (by kernel_rfl) (by kernel_rfl) (fun _ _ _ h => h) (by kernel_rfl) (by intro w' hS'; obtain ⟨⟨x0, x1, x2, x3, x4, x5⟩, x6⟩ := hS'; go_simp <;> rfl) hS5 ?_
              try simp only [List.getElem_toArray, List.getElem_cons_succ, List.getElem_cons_zero, Act.put, List.setIfInBounds_toArray, List.set_cons_zero, List.set_cons_succ]
              refine wpAnyL_take 26 rfl (by kernel_rfl) (by kernel_rfl) (by kernel_rfl) (by kernel_rfl) (fun _ _ _ h => h) (by kernel_rfl) (by intro w' hS'; obtain ⟨⟨x0, x1, x2, x3, x4, x5⟩, x6⟩ := hS'; go_simp <;> rfl) hS5 ?_
              try simp only [List.getElem_toArray, List.getElem_cons_succ, List.getElem_cons_zero, Act.put, List.setIfInBounds_toArray, List.set_cons_zero, List.set_cons_succ]
              refine wpAnyL_done (by kernel_rfl) (NoPanic.normal ?_) _
              go_wp2
              go_ret
              exact ⟨rfl, hfin _ hS5.2⟩
            | true =>
              have hkS : hasP (s1, s2) o = true := by rw [← e1, hkL, hkH]; rfl
              clear e1 e2
              have kL : ∀ W, (fun W => (W.cell? ⟨w1.heap.size, 0, none⟩ = some (.string (bk s1)) ∧ W.cell? ⟨w1.heap.size, 1, none⟩ = some (.string (bk k)) ∧ W.cell? ⟨w1.heap.size + 1, 0, none⟩ = some (.string (bk k)) ∧ W.cell? ⟨w1.heap.size + 1, 1, none⟩ = some (.string (bk s2)) ∧ W.cell? ⟨w.heap.size, 0, none⟩ = some (.string (bk s1)) ∧ W.cell? ⟨w.heap.size, 1, none⟩ = some (.string (bk s2))) ∧ Below (w1.heap.size + 2) wb W) W → Calls Try.prog 14 #[.agg #[.string (bk s1), .string (bk k)], .string (bk o)] W fun e w' => e = .returned (.bool false) ∧ (fun W => (W.cell? ⟨w1.heap.size, 0, none⟩ = some (.string (bk s1)) ∧ W.cell? ⟨w1.heap.size, 1, none⟩ = some (.string (bk k)) ∧ W.cell? ⟨w1.heap.size + 1, 0, none⟩ = some (.string (bk k)) ∧ W.cell? ⟨w1.heap.size + 1, 1, none⟩ = some (.string (bk s2)) ∧ W.cell? ⟨w.heap.size, 0, none⟩ = some (.string (bk s1)) ∧ W.cell? ⟨w.heap.size, 1, none⟩ = some (.string (bk s2))) ∧ Below (w1.heap.size + 2) wb W) w' := fun W hW => by
                refine (has_of (s1, k) o W).mono ?_
                rintro e w' ⟨rfl, hb'⟩
                exact ⟨by rw [hkL], clS w' (keep_step hW.2 hNb hb')⟩
              have kH : ∀ W, (fun W => (W.cell? ⟨w1.heap.size, 0, none⟩ = some (.string (bk s1)) ∧ W.cell? ⟨w1.heap.size, 1, none⟩ = some (.string (bk k)) ∧ W.cell? ⟨w1.heap.size + 1, 0, none⟩ = some (.string (bk k)) ∧ W.cell? ⟨w1.heap.size + 1, 1, none⟩ = some (.string (bk s2)) ∧ W.cell? ⟨w.heap.size, 0, none⟩ = some (.string (bk s1)) ∧ W.cell? ⟨w.heap.size, 1, none⟩ = some (.string (bk s2))) ∧ Below (w1.heap.size + 2) wb W) W → Calls Try.prog 14 #[.agg #[.string (bk k), .string (bk s2)], .string (bk o)] W fun e w' => e = .returned (.bool true) ∧ (fun W => (W.cell? ⟨w1.heap.size, 0, none⟩ = some (.string (bk s1)) ∧ W.cell? ⟨w1.heap.size, 1, none⟩ = some (.string (bk k)) ∧ W.cell? ⟨w1.heap.size + 1, 0, none⟩ = some (.string (bk k)) ∧ W.cell? ⟨w1.heap.size + 1, 1, none⟩ = some (.string (bk s2)) ∧ W.cell? ⟨w.heap.size, 0, none⟩ = some (.string (bk s1)) ∧ W.cell? ⟨w.heap.size, 1, none⟩ = some (.string (bk s2))) ∧ Below (w1.heap.size + 2) wb W) w' := fun W hW => by
                refine (has_of (k, s2) o W).mono ?_
                rintro e w' ⟨rfl, hb'⟩
                exact ⟨by rw [hkH], clS w' (keep_step hW.2 hNb hb')⟩
              have kS : ∀ W, (fun W => (W.cell? ⟨w1.heap.size, 0, none⟩ = some (.string (bk s1)) ∧ W.cell? ⟨w1.heap.size, 1, none⟩ = some (.string (bk k)) ∧ W.cell? ⟨w1.heap.size + 1, 0, none⟩ = some (.string (bk k)) ∧ W.cell? ⟨w1.heap.size + 1, 1, none⟩ = some (.string (bk s2)) ∧ W.cell? ⟨w.heap.size, 0, none⟩ = some (.string (bk s1)) ∧ W.cell? ⟨w.heap.size, 1, none⟩ = some (.string (bk s2))) ∧ Below (w1.heap.size + 2) wb W) W → Calls Try.prog 14 #[.agg #[.string (bk s1), .string (bk s2)], .string (bk o)] W fun e w' => e = .returned (.bool true) ∧ (fun W => (W.cell? ⟨w1.heap.size, 0, none⟩ = some (.string (bk s1)) ∧ W.cell? ⟨w1.heap.size, 1, none⟩ = some (.string (bk k)) ∧ W.cell? ⟨w1.heap.size + 1, 0, none⟩ = some (.string (bk k)) ∧ W.cell? ⟨w1.heap.size + 1, 1, none⟩ = some (.string (bk s2)) ∧ W.cell? ⟨w.heap.size, 0, none⟩ = some (.string (bk s1)) ∧ W.cell? ⟨w.heap.size, 1, none⟩ = some (.string (bk s2))) ∧ Below (w1.heap.size + 2) wb W) w' := fun W hW => by
                refine (has_of (s1, s2) o W).mono ?_
                rintro e w' ⟨rfl, hb'⟩
                exact ⟨by rw [hkS], clS w' (keep_step hW.2 hNb hb')⟩
              clear hkL hkH hkS hparts clS2
              go_wp2
              refine wp_region_L (fun W => (W.cell? ⟨w1.heap.size, 0, none⟩ = some (.string (bk s1)) ∧ W.cell? ⟨w1.heap.size, 1, none⟩ = some (.string (bk k)) ∧ W.cell? ⟨w1.heap.size + 1, 0, none⟩ = some (.string (bk k)) ∧ W.cell? ⟨w1.heap.size + 1, 1, none⟩ = some (.string (bk s2)) ∧ W.cell? ⟨w.heap.size, 0, none⟩ = some (.string (bk s1)) ∧ W.cell? ⟨w.heap.size, 1, none⟩ = some (.string (bk s2))) ∧ Below (w1.heap.size + 2) wb W) [] (by kernel_rfl) ?_
              have yS : (fun W => (W.cell? ⟨w1.heap.size, 0, none⟩ = some (.string (bk s1)) ∧ W.cell? ⟨w1.heap.size, 1, none⟩ = some (.string (bk k)) ∧ W.cell? ⟨w1.heap.size + 1, 0, none⟩ = some (.string (bk k)) ∧ W.cell? ⟨w1.heap.size + 1, 1, none⟩ = some (.string (bk s2)) ∧ W.cell? ⟨w.heap.size, 0, none⟩ = some (.string (bk s1)) ∧ W.cell? ⟨w.heap.size, 1, none⟩ = some (.string (bk s2))) ∧ Below (w1.heap.size + 2) wb W) w8.drew := clS _ hb8d
              refine wpAnyL_take 0 rfl (by kernel_rfl) (by kernel_rfl) (by kernel_rfl) (by kernel_rfl) (fun _ _ _ h => h) (by kernel_rfl) (by intro w' hS'; obtain ⟨⟨x0, x1, x2, x3, x4, x5⟩, x6⟩ := hS'; go_simp <;> rfl) yS ?_
              try simp only [List.getElem_toArray, List.getElem_cons_succ, List.getElem_cons_zero, Act.put, List.setIfInBounds_toArray, List.set_cons_zero, List.set_cons_succ]
              refine wpAnyL_take 1 rfl (by kernel_rfl) (by kernel_rfl) (by kernel_rfl) (by kernel_rfl) (fun _ _ _ h => h) (by kernel_rfl) (by intro w' hS'; obtain ⟨⟨x0, x1, x2, x3, x4, x5⟩, x6⟩ := hS'; go_simp <;> rfl) yS ?_
              try simp only [List.getElem_toArray, List.getElem_cons_succ, List.getElem_cons_zero, Act.put, List.setIfInBounds_toArray, List.set_cons_zero, List.set_cons_succ]
              refine wpAnyL_take 8 rfl (by kernel_rfl) (by kernel_rfl) (by kernel_rfl) (by kernel_rfl) (fun _ _ _ h => h) (by kernel_rfl) (by intro w' hS'; obtain ⟨⟨x0, x1, x2, x3, x4, x5⟩, x6⟩ := hS'; go_simp <;> rfl) yS ?_
              try simp only [List.getElem_toArray, List.getElem_cons_succ, List.getElem_cons_zero, Act.put, List.setIfInBounds_toArray, List.set_cons_zero, List.set_cons_succ]
              refine wpAnyL_take 9 rfl (by kernel_rfl) (by kernel_rfl) (by kernel_rfl) (by kernel_rfl) (fun _ _ _ h => h) (by kernel_rfl) (by intro w' hS'; obtain ⟨⟨x0, x1, x2, x3, x4, x5⟩, x6⟩ := hS'; go_simp <;> rfl) yS ?_
              try simp only [List.getElem_toArray, List.getElem_cons_succ, List.getElem_cons_zero, Act.put, List.setIfInBounds_toArray, List.set_cons_zero, List.set_cons_succ]
              refine wpAnyL_one 2 (by kernel_rfl) rfl (by kernel_rfl) ?_
              intro K' hK'
              go_simp
              go_at_call 14
              refine (kL _ yS).mono ?_
              rintro e W1 ⟨rfl, hS1⟩
              refine hK'.out _ _ (.inr hS1) ?_
              clear hK' K'
              try simp only [List.getElem_toArray, List.getElem_cons_succ, List.getElem_cons_zero, Act.put, List.setIfInBounds_toArray, List.set_cons_zero, List.set_cons_succ]
              refine wpAnyL_take 3 rfl (by kernel_rfl) (by kernel_rfl) (by kernel_rfl) (by kernel_rfl) (fun _ _ _ h => h) (by kernel_rfl) (by intro w' hS'; obtain ⟨⟨x0, x1, x2, x3, x4, x5⟩, x6⟩ := hS'; go_simp <;> rfl) hS1 ?_
              try simp only [List.getElem_toArray, List.getElem_cons_succ, List.getElem_cons_zero, Act.put, List.setIfInBounds_toArray, List.set_cons_zero, List.set_cons_succ]
              refine wpAnyL_take 4 rfl (by kernel_rfl) (by kernel_rfl) (by kernel_rfl) (by kernel_rfl) (fun _ _ _ h => h) (by kernel_rfl) (by intro w' hS'; obtain ⟨⟨x0, x1, x2, x3, x4, x5⟩, x6⟩ := hS'; go_simp <;> rfl) hS1 ?_
              try simp only [List.getElem_toArray, List.getElem_cons_succ, List.getElem_cons_zero, Act.put, List.setIfInBounds_toArray, List.set_cons_zero, List.set_cons_succ]
              refine wpAnyL_take 5 rfl (by kernel_rfl) (by kernel_rfl) (by kernel_rfl) (by kernel_rfl) (fun _ _ _ h => h) (by kernel_rfl) (by intro w' hS'; obtain ⟨⟨x0, x1, x2, x3, x4, x5⟩, x6⟩ := hS'; go_simp <;> rfl) hS1 ?_
              try simp only [List.getElem_toArray, List.getElem_cons_succ, List.getElem_cons_zero, Act.put, List.setIfInBounds_toArray, List.set_cons_zero, List.set_cons_succ]
              refine wpAnyL_one 6 (by kernel_rfl) rfl (by kernel_rfl) ?_
              intro K' hK'
              go_simp
              go_at_call 14
              refine (kH _ hS1).mono ?_
              rintro e W2 ⟨rfl, hS2⟩
              refine hK'.out _ _ (.inr hS2) ?_
              clear hK' K'
              try simp only [List.getElem_toArray, List.getElem_cons_succ, List.getElem_cons_zero, Act.put, List.setIfInBounds_toArray, List.set_cons_zero, List.set_cons_succ]
              refine wpAnyL_take 7 rfl (by kernel_rfl) (by kernel_rfl) (by kernel_rfl) (by kernel_rfl) (fun _ _ _ h => h) (by kernel_rfl) (by intro w' hS'; obtain ⟨⟨x0, x1, x2, x3, x4, x5⟩, x6⟩ := hS'; go_simp <;> rfl) hS2 ?_
              try simp only [List.getElem_toArray, List.getElem_cons_succ, List.getElem_cons_zero, Act.put, List.setIfInBounds_toArray, List.set_cons_zero, List.set_cons_succ]
              refine wpAnyL_one 10 (by kernel_rfl) rfl (by kernel_rfl) ?_
              intro K' hK'
              go_simp
              go_at_call 14
              refine (kS _ hS2).mono ?_
              rintro e W3 ⟨rfl, hS3⟩
              refine hK'.out _ _ (.inr hS3) ?_
              clear hK' K'
              try simp only [List.getElem_toArray, List.getElem_cons_succ, List.getElem_cons_zero, Act.put, List.setIfInBounds_toArray, List.set_cons_zero, List.set_cons_succ]
              refine wpAnyL_take 11 rfl (by kernel_rfl) (by kernel_rfl) (by kernel_rfl) (by kernel_rfl) (fun _ _ _ h => h) (by kernel_rfl) (by intro w' hS'; obtain ⟨⟨x0, x1, x2, x3, x4, x5⟩, x6⟩ := hS'; go_simp <;> rfl) hS3 ?_
              try simp only [List.getElem_toArray, List.getElem_cons_succ, List.getElem_cons_zero, Act.put, List.setIfInBounds_toArray, List.set_cons_zero, List.set_cons_succ]
              refine wpAnyL_take 12 rfl (by kernel_rfl) (by kernel_rfl) (by kernel_rfl) (by kernel_rfl) (fun _ _ _ h => h) (by kernel_rfl) (by intro w' hS'; obtain ⟨⟨x0, x1, x2, x3, x4, x5⟩, x6⟩ := hS'; go_simp <;> rfl) hS3 ?_
              try simp only [List.getElem_toArray, List.getElem_cons_succ, List.getElem_cons_zero, Act.put, List.setIfInBounds_toArray, List.set_cons_zero, List.set_cons_succ]
              refine wpAnyL_take 13 rfl (by kernel_rfl) (by kernel_rfl) (by kernel_rfl) (by kernel_rfl) (fun _ _ _ h => h) (by kernel_rfl) (by intro w' hS'; obtain ⟨⟨x0, x1, x2, x3, x4, x5⟩, x6⟩ := hS'; go_simp <;> rfl) hS3 ?_
              try simp only [List.getElem_toArray, List.getElem_cons_succ, List.getElem_cons_zero, Act.put, List.setIfInBounds_toArray, List.set_cons_zero, List.set_cons_succ]
              refine wpAnyL_take 14 rfl (by kernel_rfl) (by kernel_rfl) (by kernel_rfl) (by kernel_rfl) (fun _ _ _ h => h) (by kernel_rfl) (by intro w' hS'; obtain ⟨⟨x0, x1, x2, x3, x4, x5⟩, x6⟩ := hS'; go_simp <;> rfl) hS3 ?_
              try simp only [List.getElem_toArray, List.getElem_cons_succ, List.getElem_cons_zero, Act.put, List.setIfInBounds_toArray, List.set_cons_zero, List.set_cons_succ]
              refine wpAnyL_one 15 (by kernel_rfl) rfl (by kernel_rfl) ?_
              intro K' hK'
              go_simp
              go_at_call 14
              refine (kL _ hS3).mono ?_
              rintro e W4 ⟨rfl, hS4⟩
              refine hK'.out _ _ (.inr hS4) ?_
              clear hK' K'
              try simp only [List.getElem_toArray, List.getElem_cons_succ, List.getElem_cons_zero, Act.put, List.setIfInBounds_toArray, List.set_cons_zero, List.set_cons_succ]
              refine wpAnyL_take 16 rfl (by kernel_rfl) (by kernel_rfl) (by kernel_rfl) (by kernel_rfl) (fun _ _ _ h => h) (by kernel_rfl) (by intro w' hS'; obtain ⟨⟨x0, x1, x2, x3, x4, x5⟩, x6⟩ := hS'; go_simp <;> rfl) hS4 ?_
              try simp only [List.getElem_toArray, List.getElem_cons_succ, List.getElem_cons_zero, Act.put, List.setIfInBounds_toArray, List.set_cons_zero, List.set_cons_succ]
              refine wpAnyL_skip 17 rfl (by kernel_rfl) (by kernel_rfl) (by kernel_rfl) (by kernel_rfl) (fun _ _ _ h => h) (by kernel_rfl) hS4 ?_
              try simp only [List.getElem_toArray, List.getElem_cons_succ, List.getElem_cons_zero, Act.put, List.setIfInBounds_toArray, List.set_cons_zero, List.set_cons_succ]
              refine wpAnyL_skip 18 rfl (by kernel_rfl) (by kernel_rfl) (by kernel_rfl) (by kernel_rfl) (fun _ _ _ h => h) (by kernel_rfl) hS4 ?_
              try simp only [List.getElem_toArray, List.getElem_cons_succ, List.getElem_cons_zero, Act.put, List.setIfInBounds_toArray, List.set_cons_zero, List.set_cons_succ]
              refine wpAnyL_skip 19 rfl (by kernel_rfl) (by kernel_rfl) (by kernel_rfl) (by kernel_rfl) (fun _ _ _ h => h) (by kernel_rfl) hS4 ?_
              try simp only [List.getElem_toArray, List.getElem_cons_succ, List.getElem_cons_zero, Act.put, List.setIfInBounds_toArray, List.set_cons_zero, List.set_cons_succ]
              refine wpAnyL_take 20 rfl (by kernel_rfl) (by kernel_rfl) (by kernel_rfl) (by kernel_rfl) (fun _ _ _ h => h) (by kernel_rfl) (by intro w' hS'; obtain ⟨⟨x0, x1, x2, x3, x4, x5⟩, x6⟩ := hS'; go_simp <;> rfl) hS4 ?_
              try simp only [List.getElem_toArray, List.getElem_cons_succ, List.getElem_cons_zero, Act.put, List.setIfInBounds_toArray, List.set_cons_zero, List.set_cons_succ]
              refine wpAnyL_take 21 rfl (by kernel_rfl) (by kernel_rfl) (by kernel_rfl) (by kernel_rfl) (fun _ _ _ h => h) (by kernel_rfl) (by intro w' hS'; obtain ⟨⟨x0, x1, x2, x3, x4, x5⟩, x6⟩ := hS'; go_simp <;> rfl) hS4 ?_
              try simp only [List.getElem_toArray, List.getElem_cons_succ, List.getElem_cons_zero, Act.put, List.setIfInBounds_toArray, List.set_cons_zero, List.set_cons_succ]
              refine wpAnyL_take 22 rfl (by kernel_rfl) (by kernel_rfl) (by kernel_rfl) (by kernel_rfl) (fun _ _ _ h => h) (by kernel_rfl) (by intro w' hS'; obtain ⟨⟨x0, x1, x2, x3, x4, x5⟩, x6⟩ := hS'; go_simp <;> rfl) hS4 ?_
              try simp only [List.getElem_toArray, List.getElem_cons_succ, List.getElem_cons_zero, Act.put, List.setIfInBounds_toArray, List.set_cons_zero, List.set_cons_succ]
              refine wpAnyL_take 23 rfl (by kernel_rfl) (by kernel_rfl) (by kernel_rfl) (by kernel_rfl) (fun _ _ _ h => h) (by kernel_rfl) (by intro w' hS'; obtain ⟨⟨x0, x1, x2, x3, x4, x5⟩, x6⟩ := hS'; go_simp <;> rfl) hS4 ?_
              try simp only [List.getElem_toArray, List.getElem_cons_succ, List.getElem_cons_zero, Act.put, List.setIfInBounds_toArray, List.set_cons_zero, List.set_cons_succ]
              refine wpAnyL_one 24 (by kernel_rfl) rfl (by kernel_rfl) ?_
              intro K' hK'
              go_simp
              go_at_call 11
              refine (kA _ hS4).mono ?_
              rintro e W5 ⟨rfl, hS5⟩
              refine hK'.out _ _ (.inr hS5) ?_
              clear hK' K'
              try simp only [List.getElem_toArray, List.getElem_cons_succ, List.getElem_cons_zero, Act.put, List.setIfInBounds_toArray, List.set_cons_zero, List.set_cons_succ]
              refine wpAnyL_take 25 rfl (by kernel_rfl) (by kernel_rfl) (by kernel_rfl) (by kernel_rfl) (fun _ _ _ h => h) (by kernel_rfl) (by intro w' hS'; obtain ⟨⟨x0, x1, x2, x3, x4, x5⟩, x6⟩ := hS'; go_simp <;> rfl) hS5 ?_
              try simp only [List.getElem_toArray, List.getElem_cons_succ, List.getElem_cons_zero, Act.put, List.setIfInBounds_toArray, List.set_cons_zero, List.set_cons_succ]
              refine wpAnyL_take 26 rfl (by kernel_rfl) (by kernel_rfl) (by kernel_rfl) (by kernel_rfl) (fun _ _ _ h => h) (by kernel_rfl) (by intro w' hS'; obtain ⟨⟨x0, x1, x2, x3, x4, x5⟩, x6⟩ := hS'; go_simp <;> rfl) hS5 ?_
              try simp only [List.getElem_toArray, List.getElem_cons_succ, List.getElem_cons_zero, Act.put, List.setIfInBounds_toArray, List.set_cons_zero, List.set_cons_succ]
              refine wpAnyL_done (by kernel_rfl) (NoPanic.normal ?_) _
              go_wp2
              go_ret
              exact ⟨rfl, hfin _ hS5.2⟩
          | true =>
            cases hkH : hasP (k, s2) o with
            | false =>
              have hkS : hasP (s1, s2) o = true := by rw [← e1, hkL, hkH]; rfl
              clear e1 e2
              have kL : ∀ W, (fun W => (W.cell? ⟨w1.heap.size, 0, none⟩ = some (.string (bk s1)) ∧ W.cell? ⟨w1.heap.size, 1, none⟩ = some (.string (bk k)) ∧ W.cell? ⟨w1.heap.size + 1, 0, none⟩ = some (.string (bk k)) ∧ W.cell? ⟨w1.heap.size + 1, 1, none⟩ = some (.string (bk s2)) ∧ W.cell? ⟨w.heap.size, 0, none⟩ = some (.string (bk s1)) ∧ W.cell? ⟨w.heap.size, 1, none⟩ = some (.string (bk s2))) ∧ Below (w1.heap.size + 2) wb W) W → Calls Try.prog 14 #[.agg #[.string (bk s1), .string (bk k)], .string (bk o)] W fun e w' => e = .returned (.bool true) ∧ (fun W => (W.cell? ⟨w1.heap.size, 0, none⟩ = some (.string (bk s1)) ∧ W.cell? ⟨w1.heap.size, 1, none⟩ = some (.string (bk k)) ∧ W.cell? ⟨w1.heap.size + 1, 0, none⟩ = some (.string (bk k)) ∧ W.cell? ⟨w1.heap.size + 1, 1, none⟩ = some (.string (bk s2)) ∧ W.cell? ⟨w.heap.size, 0, none⟩ = some (.string (bk s1)) ∧ W.cell? ⟨w.heap.size, 1, none⟩ = some (.string (bk s2))) ∧ Below (w1.heap.size + 2) wb W) w' := fun W hW => by
                refine (has_of (s1, k) o W).mono ?_
                rintro e w' ⟨rfl, hb'⟩
                exact ⟨by rw [hkL], clS w' (keep_step hW.2 hNb hb')⟩
              have kH : ∀ W, (fun W => (W.cell? ⟨w1.heap.size, 0, none⟩ = some (.string (bk s1)) ∧ W.cell? ⟨w1.heap.size, 1, none⟩ = some (.string (bk k)) ∧ W.cell? ⟨w1.heap.size + 1, 0, none⟩ = some (.string (bk k)) ∧ W.cell? ⟨w1.heap.size + 1, 1, none⟩ = some (.string (bk s2)) ∧ W.cell? ⟨w.heap.size, 0, none⟩ = some (.string (bk s1)) ∧ W.cell? ⟨w.heap.size, 1, none⟩ = some (.string (bk s2))) ∧ Below (w1.heap.size + 2) wb W) W → Calls Try.prog 14 #[.agg #[.string (bk k), .string (bk s2)], .string (bk o)] W fun e w' => e = .returned (.bool false) ∧ (fun W => (W.cell? ⟨w1.heap.size, 0, none⟩ = some (.string (bk s1)) ∧ W.cell? ⟨w1.heap.size, 1, none⟩ = some (.string (bk k)) ∧ W.cell? ⟨w1.heap.size + 1, 0, none⟩ = some (.string (bk k)) ∧ W.cell? ⟨w1.heap.size + 1, 1, none⟩ = some (.string (bk s2)) ∧ W.cell? ⟨w.heap.size, 0, none⟩ = some (.string (bk s1)) ∧ W.cell? ⟨w.heap.size, 1, none⟩ = some (.string (bk s2))) ∧ Below (w1.heap.size + 2) wb W) w' := fun W hW => by
                refine (has_of (k, s2) o W).mono ?_
                rintro e w' ⟨rfl, hb'⟩
                exact ⟨by rw [hkH], clS w' (keep_step hW.2 hNb hb')⟩
              have kS : ∀ W, (fun W => (W.cell? ⟨w1.heap.size, 0, none⟩ = some (.string (bk s1)) ∧ W.cell? ⟨w1.heap.size, 1, none⟩ = some (.string (bk k)) ∧ W.cell? ⟨w1.heap.size + 1, 0, none⟩ = some (.string (bk k)) ∧ W.cell? ⟨w1.heap.size + 1, 1, none⟩ = some (.string (bk s2)) ∧ W.cell? ⟨w.heap.size, 0, none⟩ = some (.string (bk s1)) ∧ W.cell? ⟨w.heap.size, 1, none⟩ = some (.string (bk s2))) ∧ Below (w1.heap.size + 2) wb W) W → Calls Try.prog 14 #[.agg #[.string (bk s1), .string (bk s2)], .string (bk o)] W fun e w' => e = .returned (.bool true) ∧ (fun W => (W.cell? ⟨w1.heap.size, 0, none⟩ = some (.string (bk s1)) ∧ W.cell? ⟨w1.heap.size, 1, none⟩ = some (.string (bk k)) ∧ W.cell? ⟨w1.heap.size + 1, 0, none⟩ = some (.string (bk k)) ∧ W.cell? ⟨w1.heap.size + 1, 1, none⟩ = some (.string (bk s2)) ∧ W.cell? ⟨w.heap.size, 0, none⟩ = some (.string (bk s1)) ∧ W.cell? ⟨w.heap.size, 1, none⟩ = some (.string (bk s2))) ∧ Below (w1.heap.size + 2) wb W) w' := fun W hW => by
                refine (has_of (s1, s2) o W).mono ?_
                rintro e w' ⟨rfl, hb'⟩
                exact ⟨by rw [hkS], clS w' (keep_step hW.2 hNb hb')⟩
              clear hkL hkH hkS hparts clS2
              go_wp2
              refine wp_region_L (fun W => (W.cell? ⟨w1.heap.size, 0, none⟩ = some (.string (bk s1)) ∧ W.cell? ⟨w1.heap.size, 1, none⟩ = some (.string (bk k)) ∧ W.cell? ⟨w1.heap.size + 1, 0, none⟩ = some (.string (bk k)) ∧ W.cell? ⟨w1.heap.size + 1, 1, none⟩ = some (.string (bk s2)) ∧ W.cell? ⟨w.heap.size, 0, none⟩ = some (.string (bk s1)) ∧ W.cell? ⟨w.heap.size, 1, none⟩ = some (.string (bk s2))) ∧ Below (w1.heap.size + 2) wb W) [] (by kernel_rfl) ?_
              have yS : (fun W => (W.cell? ⟨w1.heap.size, 0, none⟩ = some (.string (bk s1)) ∧ W.cell? ⟨w1.heap.size, 1, none⟩ = some (.string (bk k)) ∧ W.cell? ⟨w1.heap.size + 1, 0, none⟩ = some (.string (bk k)) ∧ W.cell? ⟨w1.heap.size + 1, 1, none⟩ = some (.string (bk s2)) ∧ W.cell? ⟨w.heap.size, 0, none⟩ = some (.string (bk s1)) ∧ W.cell? ⟨w.heap.size, 1, none⟩ = some (.string (bk s2))) ∧ Below (w1.heap.size + 2) wb W) w8.drew := clS _ hb8d
              refine wpAnyL_take 0 rfl (by kernel_rfl) (by kernel_rfl) (by kernel_rfl) (by kernel_rfl) (fun _ _ _ h => h) (by kernel_rfl) (by intro w' hS'; obtain ⟨⟨x0, x1, x2, x3, x4, x5⟩, x6⟩ := hS'; go_simp <;> rfl) yS ?_
              try simp only [List.getElem_toArray, List.getElem_cons_succ, List.getElem_cons_zero, Act.put, List.setIfInBounds_toArray, List.set_cons_zero, List.set_cons_succ]
              refine wpAnyL_take 1 rfl (by kernel_rfl) (by kernel_rfl) (by kernel_rfl) (by kernel_rfl) (fun _ _ _ h => h) (by kernel_rfl) (by intro w' hS'; obtain ⟨⟨x0, x1, x2, x3, x4, x5⟩, x6⟩ := hS'; go_simp <;> rfl) yS ?_
              try simp only [List.getElem_toArray, List.getElem_cons_succ, List.getElem_cons_zero, Act.put, List.setIfInBounds_toArray, List.set_cons_zero, List.set_cons_succ]
              refine wpAnyL_take 8 rfl (by kernel_rfl) (by kernel_rfl) (by kernel_rfl) (by kernel_rfl) (fun _ _ _ h => h) (by kernel_rfl) (by intro w' hS'; obtain ⟨⟨x0, x1, x2, x3, x4, x5⟩, x6⟩ := hS'; go_simp <;> rfl) yS ?_
              try simp only [List.getElem_toArray, List.getElem_cons_succ, List.getElem_cons_zero, Act.put, List.setIfInBounds_toArray, List.set_cons_zero, List.set_cons_succ]
              refine wpAnyL_take 9 rfl (by kernel_rfl) (by kernel_rfl) (by kernel_rfl) (by kernel_rfl) (fun _ _ _ h => h) (by kernel_rfl) (by intro w' hS'; obtain ⟨⟨x0, x1, x2, x3, x4, x5⟩, x6⟩ := hS'; go_simp <;> rfl) yS ?_
              try simp only [List.getElem_toArray, List.getElem_cons_succ, List.getElem_cons_zero, Act.put, List.setIfInBounds_toArray, List.set_cons_zero, List.set_cons_succ]
              refine wpAnyL_one 2 (by kernel_rfl) rfl (by kernel_rfl) ?_
              intro K' hK'
              go_simp
              go_at_call 14
              refine (kL _ yS).mono ?_
              rintro e W1 ⟨rfl, hS1⟩
              refine hK'.out _ _ (.inr hS1) ?_
              clear hK' K'
              try simp only [List.getElem_toArray, List.getElem_cons_succ, List.getElem_cons_zero, Act.put, List.setIfInBounds_toArray, List.set_cons_zero, List.set_cons_succ]
              refine wpAnyL_take 3 rfl (by kernel_rfl) (by kernel_rfl) (by kernel_rfl) (by kernel_rfl) (fun _ _ _ h => h) (by kernel_rfl) (by intro w' hS'; obtain ⟨⟨x0, x1, x2, x3, x4, x5⟩, x6⟩ := hS'; go_simp <;> rfl) hS1 ?_
              try simp only [List.getElem_toArray, List.getElem_cons_succ, List.getElem_cons_zero, Act.put, List.setIfInBounds_toArray, List.set_cons_zero, List.set_cons_succ]
              refine wpAnyL_skip 4 rfl (by kernel_rfl) (by kernel_rfl) (by kernel_rfl) (by kernel_rfl) (fun _ _ _ h => h) (by kernel_rfl) hS1 ?_
              try simp only [List.getElem_toArray, List.getElem_cons_succ, List.getElem_cons_zero, Act.put, List.setIfInBounds_toArray, List.set_cons_zero, List.set_cons_succ]
              refine wpAnyL_skip 5 rfl (by kernel_rfl) (by kernel_rfl) (by kernel_rfl) (by kernel_rfl) (fun _ _ _ h => h) (by kernel_rfl) hS1 ?_
              try simp only [List.getElem_toArray, List.getElem_cons_succ, List.getElem_cons_zero, Act.put, List.setIfInBounds_toArray, List.set_cons_zero, List.set_cons_succ]
              refine wpAnyL_skip 6 rfl (by kernel_rfl) (by kernel_rfl) (by kernel_rfl) (by kernel_rfl) (fun _ _ _ h => h) (by kernel_rfl) hS1 ?_
              try simp only [List.getElem_toArray, List.getElem_cons_succ, List.getElem_cons_zero, Act.put, List.setIfInBounds_toArray, List.set_cons_zero, List.set_cons_succ]
              refine wpAnyL_take 7 rfl (by kernel_rfl) (by kernel_rfl) (by kernel_rfl) (by kernel_rfl) (fun _ _ _ h => h) (by kernel_rfl) (by intro w' hS'; obtain ⟨⟨x0, x1, x2, x3, x4, x5⟩, x6⟩ := hS'; go_simp <;> rfl) hS1 ?_
              try simp only [List.getElem_toArray, List.getElem_cons_succ, List.getElem_cons_zero, Act.put, List.setIfInBounds_toArray, List.set_cons_zero, List.set_cons_succ]
              refine wpAnyL_one 10 (by kernel_rfl) rfl (by kernel_rfl) ?_
              intro K' hK'
              go_simp
              go_at_call 14
              refine (kS _ hS1).mono ?_
              rintro e W2 ⟨rfl, hS2⟩
              refine hK'.out _ _ (.inr hS2) ?_
              clear hK' K'
              try simp only [List.getElem_toArray, List.getElem_cons_succ, List.getElem_cons_zero, Act.put, List.setIfInBounds_toArray, List.set_cons_zero, List.set_cons_succ]
              refine wpAnyL_take 11 rfl (by kernel_rfl) (by kernel_rfl) (by kernel_rfl) (by kernel_rfl) (fun _ _ _ h => h) (by kernel_rfl) (by intro w' hS'; obtain ⟨⟨x0, x1, x2, x3, x4, x5⟩, x6⟩ := hS'; go_simp <;> rfl) hS2 ?_
              try simp only [List.getElem_toArray, List.getElem_cons_succ, List.getElem_cons_zero, Act.put, List.setIfInBounds_toArray, List.set_cons_zero, List.set_cons_succ]
              refine wpAnyL_take 12 rfl (by kernel_rfl) (by kernel_rfl) (by kernel_rfl) (by kernel_rfl) (fun _ _ _ h => h) (by kernel_rfl) (by intro w' hS'; obtain ⟨⟨x0, x1, x2, x3, x4, x5⟩, x6⟩ := hS'; go_simp <;> rfl) hS2 ?_
              try simp only [List.getElem_toArray, List.getElem_cons_succ, List.getElem_cons_zero, Act.put, List.setIfInBounds_toArray, List.set_cons_zero, List.set_cons_succ]
              refine wpAnyL_take 13 rfl (by kernel_rfl) (by kernel_rfl) (by kernel_rfl) (by kernel_rfl) (fun _ _ _ h => h) (by kernel_rfl) (by intro w' hS'; obtain ⟨⟨x0, x1, x2, x3, x4, x5⟩, x6⟩ := hS'; go_simp <;> rfl) hS2 ?_
              try simp only [List.getElem_toArray, List.getElem_cons_succ, List.getElem_cons_zero, Act.put, List.setIfInBounds_toArray, List.set_cons_zero, List.set_cons_succ]
              refine wpAnyL_take 14 rfl (by kernel_rfl) (by kernel_rfl) (by kernel_rfl) (by kernel_rfl) (fun _ _ _ h => h) (by kernel_rfl) (by intro w' hS'; obtain ⟨⟨x0, x1, x2, x3, x4, x5⟩, x6⟩ := hS'; go_simp <;> rfl) hS2 ?_
              try simp only [List.getElem_toArray, List.getElem_cons_succ, List.getElem_cons_zero, Act.put, List.setIfInBounds_toArray, List.set_cons_zero, List.set_cons_succ]
              refine wpAnyL_one 15 (by kernel_rfl) rfl (by kernel_rfl) ?_
              intro K' hK'
              go_simp
              go_at_call 14
              refine (kL _ hS2).mono ?_
              rintro e W3 ⟨rfl, hS3⟩
              refine hK'.out _ _ (.inr hS3) ?_
              clear hK' K'
              try simp only [List.getElem_toArray, List.getElem_cons_succ, List.getElem_cons_zero, Act.put, List.setIfInBounds_toArray, List.set_cons_zero, List.set_cons_succ]
              refine wpAnyL_take 16 rfl (by kernel_rfl) (by kernel_rfl) (by kernel_rfl) (by kernel_rfl) (fun _ _ _ h => h) (by kernel_rfl) (by intro w' hS'; obtain ⟨⟨x0, x1, x2, x3, x4, x5⟩, x6⟩ := hS'; go_simp <;> rfl) hS3 ?_
              try simp only [List.getElem_toArray, List.getElem_cons_succ, List.getElem_cons_zero, Act.put, List.setIfInBounds_toArray, List.set_cons_zero, List.set_cons_succ]
              refine wpAnyL_take 17 rfl (by kernel_rfl) (by kernel_rfl) (by kernel_rfl) (by kernel_rfl) (fun _ _ _ h => h) (by kernel_rfl) (by intro w' hS'; obtain ⟨⟨x0, x1, x2, x3, x4, x5⟩, x6⟩ := hS'; go_simp <;> rfl) hS3 ?_
              try simp only [List.getElem_toArray, List.getElem_cons_succ, List.getElem_cons_zero, Act.put, List.setIfInBounds_toArray, List.set_cons_zero, List.set_cons_succ]
              refine wpAnyL_take 18 rfl (by kernel_rfl) (by kernel_rfl) (by kernel_rfl) (by kernel_rfl) (fun _ _ _ h => h) (by kernel_rfl) (by intro w' hS'; obtain ⟨⟨x0, x1, x2, x3, x4, x5⟩, x6⟩ := hS'; go_simp <;> rfl) hS3 ?_
              try simp only [List.getElem_toArray, List.getElem_cons_succ, List.getElem_cons_zero, Act.put, List.setIfInBounds_toArray, List.set_cons_zero, List.set_cons_succ]
              refine wpAnyL_one 19 (by kernel_rfl) rfl (by kernel_rfl) ?_
              intro K' hK'
              go_simp
              go_at_call 14
              refine (kH _ hS3).mono ?_
              rintro e W4 ⟨rfl, hS4⟩
              refine hK'.out _ _ (.inr hS4) ?_
              clear hK' K'
              try simp only [List.getElem_toArray, List.getElem_cons_succ, List.getElem_cons_zero, Act.put, List.setIfInBounds_toArray, List.set_cons_zero, List.set_cons_succ]
              refine wpAnyL_take 20 rfl (by kernel_rfl) (by kernel_rfl) (by kernel_rfl) (by kernel_rfl) (fun _ _ _ h => h) (by kernel_rfl) (by intro w' hS'; obtain ⟨⟨x0, x1, x2, x3, x4, x5⟩, x6⟩ := hS'; go_simp <;> rfl) hS4 ?_
              try simp only [List.getElem_toArray, List.getElem_cons_succ, List.getElem_cons_zero, Act.put, List.setIfInBounds_toArray, List.set_cons_zero, List.set_cons_succ]
              refine wpAnyL_take 21 rfl (by kernel_rfl) (by kernel_rfl) (by kernel_rfl) (by kernel_rfl) (fun _ _ _ h => h) (by kernel_rfl) (by intro w' hS'; obtain ⟨⟨x0, x1, x2, x3, x4, x5⟩, x6⟩ := hS'; go_simp <;> rfl) hS4 ?_
              try simp only [List.getElem_toArray, List.getElem_cons_succ, List.getElem_cons_zero, Act.put, List.setIfInBounds_toArray, List.set_cons_zero, List.set_cons_succ]
              refine wpAnyL_take 22 rfl (by kernel_rfl) (by kernel_rfl) (by kernel_rfl) (by kernel_rfl) (fun _ _ _ h => h) (by kernel_rfl) (by intro w' hS'; obtain ⟨⟨x0, x1, x2, x3, x4, x5⟩, x6⟩ := hS'; go_simp <;> rfl) hS4 ?_
              try simp only [List.getElem_toArray, List.getElem_cons_succ, List.getElem_cons_zero, Act.put, List.setIfInBounds_toArray, List.set_cons_zero, List.set_cons_succ]
              refine wpAnyL_take 23 rfl (by kernel_rfl) (by kernel_rfl) (by kernel_rfl) (by kernel_rfl) (fun _ _ _ h => h) (by kernel_rfl) (by intro w' hS'; obtain ⟨⟨x0, x1, x2, x3, x4, x5⟩, x6⟩ := hS'; go_simp <;> rfl) hS4 ?_
              try simp only [List.getElem_toArray, List.getElem_cons_succ, List.getElem_cons_zero, Act.put, List.setIfInBounds_toArray, List.set_cons_zero, List.set_cons_succ]
              refine wpAnyL_one 24 (by kernel_rfl) rfl (by kernel_rfl) ?_
              intro K' hK'
              go_simp
              go_at_call 11
              refine (kA _ hS4).mono ?_
              rintro e W5 ⟨rfl, hS5⟩
              refine hK'.out _ _ (.inr hS5) ?_
              clear hK' K'
              try simp only [List.getElem_toArray, List.getElem_cons_succ, List.getElem_cons_zero, Act.put, List.setIfInBounds_toArray, List.set_cons_zero, List.set_cons_succ]
              refine wpAnyL_take 25 rfl (by kernel_rfl) (by kernel_rfl) (by kernel_rfl) (by kernel_rfl) (fun _ _ _ h => h) (by kernel_rfl) (by intro w' hS'; obtain ⟨⟨x0, x1, x2, x3, x4, x5⟩, x6⟩ := hS'; go_simp <;> rfl) hS5 ?_
              try simp only [List.getElem_toArray, List.getElem_cons_succ, List.getElem_cons_zero, Act.put, List.setIfInBounds_toArray, List.set_cons_zero, List.set_cons_succ]
              refine wpAnyL_take 26 rfl (by kernel_rfl) (by kernel_rfl) (by kernel_rfl) (by kernel_rfl) (fun _ _ _ h => h) (by kernel_rfl) (by intro w' hS'; obtain ⟨⟨x0, x1, x2, x3, x4, x5⟩, x6⟩ := hS'; go_simp <;> rfl) hS5 ?_
              try simp only [List.getElem_toArray, List.getElem_cons_succ, List.getElem_cons_zero, Act.put, List.setIfInBounds_toArray, List.set_cons_zero, List.set_cons_succ]
              refine wpAnyL_done (by kernel_rfl) (NoPanic.normal ?_) _
              go_wp2
              go_ret
              exact ⟨rfl, hfin _ hS5.2⟩
            | true =>
              rw [hkL, hkH] at e2
              cases e2
    · have hki : ¬ (k.length : Int) ≤ 64 := by omega
      have hhp : hasP (s1, s2) k = false := by unfold hasP; rw [decide_eq_false hk, Bool.and_false]; rfl
      have hM : (((l1, l2), (h1, h2), c) : Sp × Sp × Int) = (([], []), ([], []), 1) := by rw [HM.out]; simp [splitP, hk]
      rw [hhp] at kh3
      cases hM
      clear HM hm kmy khs krh hhp hk
      go_wp2_with fail
      refine kh3.mono ?_
      rintro e w8 ⟨rfl, hb8'⟩
      have hb8 := hb3.trans (hb8'.mono (hNW _ hb3))
      clear y0 y1 y2 y3 y4 y5 kh3
      obtain ⟨y0, y1, y2, y3, y4, y5⟩ := clS2 w8 hb8
      go_wp2_with fail
      refine (kaw _).mono ?_
      rintro e w9 ⟨rfl, hb9⟩
      go_wp2
      go_ret
      exact ⟨rfl, hfin _ (hb8.trans (hb9.mono (hNW _ hb8)))⟩
end Go.Proofs.Ytlkcfpifjocliaa

