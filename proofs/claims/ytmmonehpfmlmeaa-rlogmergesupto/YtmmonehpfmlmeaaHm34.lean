import Derived.Test.YtmmonehpfmlmeaaHm33
/- The law RlogTells. -/
namespace Go.Proofs.Ytmmonehpfmlmeaa
open Go.RowKit QuorumMath RlogMath
set_option maxRecDepth 100000
set_option linter.unusedSimpArgs false
set_option linter.unusedVariables false

theorem keep9 {n : Nat} {w w1 w2 : World} (h : Below n w w1) (h2 : Below w1.heap.size w1 w2) (hn : n ≤ w.heap.size := by omega) : Below n w w2 := h.trans (h2.mono (Nat.le_trans hn h.size))
theorem u64_nat (x : Int) : ∃ t : Nat, IntKind.u64.wrap x = (t : Int) ∧ t < 18446744073709551616 := by
  refine ⟨(x % 18446744073709551616).toNat, ?_, ?_⟩
  · have : IntKind.u64.wrap x = x % 18446744073709551616 := rfl
    rw [this]
    omega
  · omega
theorem slice_len (b : Ez) (zs : List Ez) (x : Nat) (most : Int) : (sliceZ b zs x most).length ≤ zs.length := by
  unfold sliceZ
  split
  · exact pick_len x most zs
  · simp
theorem slice_in (b : Ez) (zs : List Ez) (x : Nat) (most : Int) : ∀ z ∈ sliceZ b zs x most, z ∈ zs := by
  unfold sliceZ
  split
  · exact pick_sub x most zs
  · simp
/-- Numbers and bytes of an entry, whatever its slice. -/
theorem ok_of {ys zs : List Ez} (h : mes ys = mes zs) (hz : ∀ z ∈ zs, EzOk z) : ∀ y ∈ ys, EzOk y := fun y hy => by
  have : y.1 ∈ mes ys := List.mem_map.2 ⟨y, hy, rfl⟩
  rw [h] at this
  obtain ⟨z, hz1, e⟩ := List.mem_map.1 this
  have := hz z hz1
  unfold EzOk at *
  rw [← e]
  exact this

set_option maxHeartbeats 16000000 in
theorem tells_law (b : Ez) (zs : List Ez) (lv : Value) (x : Nat) (x0 x1 : Int) (w : World) (hD : DataV w b) (hL : EntsV w lv zs) (hbo : EzOk b) (hok : ∀ z ∈ zs, EzOk z) (hlen : zs.length ≤ 2000000) (hdl : b.1.data.length ≤ 1000000000) (hdz : ∀ z ∈ zs, z.1.data.length ≤ 1000000000) : Calls Try.prog 3 #[lgv b lv, .int .u64 (x : Int), .agg #[.int .i64 x0, .int .i64 x1]] w fun e w' => e = .returned (.bool true) ∧ Below w.heap.size w w' := by
  have ka := fun W => awake_of W
  obtain ⟨hs, hb0, cl⟩ := lg_box w b lv
  obtain ⟨q1, q2, q3⟩ := one_box (w.alloc (lgc b lv)) (.cells #[.int .i64 x0, .int .i64 x1] 29)
  rw [hs] at q1 q2 q3
  have hbB := hb0.trans (q3.mono (Nat.le_succ _))
  obtain ⟨t, ht1, ht2⟩ := u64_nat x1
  have KM : Hid (∀ W, Below w.heap.size w W → _) := fun W hW => may_of b zs lv W (hD.below hW) (hL.below hW) hbo hok (by omega) hdl
  have KC : Hid (∀ W, Below w.heap.size w W → _) := fun W hW => pcheck_of b zs lv W (hD.below hW) (hL.below hW) hbo hok (by omega) hdl
  have KSM : Hid (∀ W, Below w.heap.size w W → _) := fun W hW => psame_of b zs lv W (hD.below hW) (hL.below hW) hbo hok (by omega)
  have KL : Hid (∀ W, Below w.heap.size w W → _) := fun W hW => light_of b zs lv W (hL.below hW) (by omega) (fun z hz => by have := hdz z hz; omega)
  have KLA : Hid (∀ W, Below w.heap.size w W → _) := fun W hW => plast_of b zs lv W (hL.below hW) (by omega)
  have KRL : Hid (∀ W, Below w.heap.size w W → _) := fun W hW => rlast_of b zs lv W (hL.below hW) (by omega)
  have KT : Hid (mayB b.1 (mes zs) = true → ∀ W, Below w.heap.size w W → _) := fun hm W hW => pterm_of b zs lv x W (hL.below hW) (by omega) hm
  have KRT : Hid (∀ W, Below w.heap.size w W → _) := fun W hW => rterm_of b zs lv x W (hL.below hW) (by omega)
  have KS : Hid (∀ W, Below w.heap.size w W → _) := fun W hW => pslice_of b zs lv x x0 W (hL.below hW) (by omega) hdz
  have KRS : Hid (∀ W, Below w.heap.size w W → _) := fun W hW => rslice_of b zs lv x x0 W (hL.below hW) (by omega)
  have KE : Hid (∀ (ys : List Ez) (yv zv : Value) (W : World), EntsV W yv ys → EntsV W zv (sliceZ b zs x x0) → mes ys = mes (sliceZ b zs x x0) → Calls Try.prog 18 #[yv, zv] W fun e w' => e = .returned (.bool true) ∧ Below W.heap.size W w') := fun ys yv zv W h1 h2 h3 => sameEs_of ys (sliceZ b zs x x0) yv zv W h1 h2 h3 (ok_of h3 fun z hz => hok z (slice_in b zs x x0 z hz)) (by
    have h4 := congrArg List.length h3
    simp only [mes, List.length_map] at h4
    have := slice_len b zs x x0
    omega)
  have KV : Hid (∀ W, Below w.heap.size w W → _) := fun W hW => pvot_of b zs lv W (hD.below hW) (hL.below hW) hbo hok (by omega) hdl hdz
  have KRV : Hid (∀ W, Below w.heap.size w W → _) := fun W hW => rvot_of b zs lv W (hD.below hW) (hL.below hW) hbo hok (by omega) hdl hdz
  have KF : Hid (∀ W, Below w.heap.size w W → _) := fun W hW => pfresh_of b zs lv x t W (hL.below hW) (by omega)
  have KRF : Hid (∀ W, Below w.heap.size w W → _) := fun W hW => rfresh_of b zs lv x t W (hL.below hW) (by omega)
  have hvl : (votM b.1 (mes zs)).length ≤ 1000000000000000 := by
    unfold votM
    rw [nodesI_len]
    have := votF_len (N := 1000000000) (mes zs) b.1.data (fun e he => by obtain ⟨z, hz, rfl⟩ := List.mem_map.1 he; exact hdz z hz) hdl
    omega
  generalize mayB b.1 (mes zs) = B at *
  generalize lastM b.1 (mes zs) = LA at *
  generalize termM b.1 (mes zs) x = TM at *
  generalize votM b.1 (mes zs) = VM at *
  generalize freshM b.1 (mes zs) x t = FM at *
  obtain ⟨la, lc, rfl, -, -⟩ := hL.1.shape
  obtain ⟨⟨ix, tm, kd, dt⟩, sa, sn, sc⟩ := b
  obtain ⟨p1, p2⟩ := LA
  dsimp only [lgc, lgv, lastV] at *
  have HCL : Hid (∀ W, Below (w.heap.size + 2) ((w.alloc (.cells #[.int .u64 (ix : Int), .int .u64 (tm : Int), .int .i64 kd, .slice sa sn sc, .slice la zs.length lc] 28)).alloc (.cells #[.int .i64 x0, .int .i64 x1] 29)) W → W.cell? ⟨w.heap.size, 0, none⟩ = some (.int .u64 (ix : Int)) ∧ W.cell? ⟨w.heap.size, 1, none⟩ = some (.int .u64 (tm : Int)) ∧ W.cell? ⟨w.heap.size, 2, none⟩ = some (.int .i64 kd) ∧ W.cell? ⟨w.heap.size, 3, none⟩ = some (.slice sa sn sc) ∧ W.cell? ⟨w.heap.size, 4, none⟩ = some (.slice la zs.length lc) ∧ W.cell? ⟨w.heap.size + 1, 0, none⟩ = some (.int .i64 x0) ∧ W.cell? ⟨w.heap.size + 1, 1, none⟩ = some (.int .i64 x1)) := fun W hW => by
    have h1 := (hW.block (w.heap.size + 1) (by omega)).trans q2
    obtain ⟨e0, e1, e2, e3, e4⟩ := cl W (q3.trans (hW.mono (by omega)))
    exact ⟨e0, e1, e2, e3, e4, by rw [cells_of_block h1]; rfl, by rw [cells_of_block h1]; rfl⟩
  have HIN : Hid (∀ W, Below (w.heap.size + 2) ((w.alloc (.cells #[.int .u64 (ix : Int), .int .u64 (tm : Int), .int .i64 kd, .slice sa sn sc, .slice la zs.length lc] 28)).alloc (.cells #[.int .i64 x0, .int .i64 x1] 29)) W → Below w.heap.size w W) := fun W hW => hbB.trans (hW.mono (by omega))
  obtain ⟨c0, c1, c2, c3, c4, d0, d1⟩ := HCL.out _ (Below.refl _ _)
  have km := KM.out _ hbB
  clear hs hb0 cl q2 q3 hD hL hbo hok hdz hdl KM
  go_enter Try.func3, Try.ntmps3
  generalize hwB : (w.alloc (.cells #[.int .u64 (ix : Int), .int .u64 (tm : Int), .int .i64 kd, .slice sa sn sc, .slice la zs.length lc] 28)).alloc (.cells #[.int .i64 x0, .int .i64 x1] 29) = wB at *
  have hszB : w.heap.size + 2 ≤ wB.heap.size := by omega
  go_wp2_with fail
  clear hwB q1
  refine km.mono ?_
  rintro e w1 ⟨rfl, hb1⟩
  have hS1 : Below (w.heap.size + 2) wB w1 := hb1.mono hszB
  have kc := KC.out w1 (HIN.out _ hS1)
  obtain ⟨c0, c1, c2, c3, c4, d0, d1⟩ := HCL.out _ hS1
  clear km KC hb1
  go_wp2_with fail
  refine kc.mono ?_
  rintro e w2 ⟨rfl, hb2⟩
  have hS2 : Below (w.heap.size + 2) wB w2 := keep9 hS1 hb2
  have ks := KSM.out w2 (HIN.out _ hS2)
  obtain ⟨c0, c1, c2, c3, c4, d0, d1⟩ := HCL.out _ hS2
  clear kc hb2 hS1 KSM
  cases B with
  | false =>
    dsimp only [codeB]
    clear KL KLA KRL KT KRT KS KRS KE KV KRV KF KRF
    go_wp2_with fail
    refine ks.mono ?_
    rintro e w3 ⟨rfl, hb3⟩
    have hS3 : Below (w.heap.size + 2) wB w3 := keep9 hS2 hb3
    have hI3 := HIN.out _ hS3
    clear ks hb3 hS2 HCL HIN c0 c1 c2 c3 c4 d0 d1
    go_wp2_with fail
    refine (ka _).mono ?_
    rintro e w4 ⟨rfl, hb4⟩
    go_wp2
    go_ret
    exact ⟨rfl, hI3.trans (hb4.mono hI3.size)⟩
  | true =>
    dsimp only [codeB]
    go_wp2_with fail
    refine ks.mono ?_
    rintro e w3 ⟨rfl, hb3⟩
    have hS3 : Below (w.heap.size + 2) wB w3 := keep9 hS2 hb3
    have hI3 := HIN.out _ hS3
    have kl := KL.out w3 hI3
    obtain ⟨c0, c1, c2, c3, c4, d0, d1⟩ := HCL.out _ hS3
    clear ks hb3 hS2 KL
    go_wp2_with fail
    refine kl.mono ?_
    rintro e w4 ⟨Bl, rfl, -, hb4⟩
    have hS4 : Below (w.heap.size + 2) wB w4 := keep9 hS3 hb4
    have hI4 := HIN.out _ hS4
    obtain ⟨c0, c1, c2, c3, c4, d0, d1⟩ := HCL.out _ hS4
    clear kl hb4 hS3 hI3
    cases Bl with
    | false =>
      clear KLA KRL KT KRT KS KRS KE KV KRV KF KRF HCL HIN
      go_wp2_with fail
      refine (ka _).mono ?_
      rintro e w5 ⟨rfl, hb5⟩
      go_wp2
      go_ret
      exact ⟨rfl, hI4.trans (hb5.mono hI4.size)⟩
    | true =>
      have k5 := KLA.out w4 hI4
      clear KLA
      go_wp2_with fail
      refine k5.mono ?_
      rintro e w5 ⟨rfl, hb5⟩
      have hS5 : Below (w.heap.size + 2) wB w5 := keep9 hS4 hb5
      have k6 := KRL.out w5 (HIN.out _ hS5)
      obtain ⟨c0, c1, c2, c3, c4, d0, d1⟩ := HCL.out _ hS5
      clear k5 hb5 hS4 hI4 KRL
      go_wp2_with fail
      refine k6.mono ?_
      rintro e w6 ⟨rfl, hb6⟩
      have hS6 : Below (w.heap.size + 2) wB w6 := keep9 hS5 hb6
      have k7 := KT.out (by trivial) w6 (HIN.out _ hS6)
      obtain ⟨c0, c1, c2, c3, c4, d0, d1⟩ := HCL.out _ hS6
      clear k6 hb6 hS5 KT
      go_wp2_with fail
      refine k7.mono ?_
      rintro e w7 ⟨rfl, hb7⟩
      have hS7 : Below (w.heap.size + 2) wB w7 := keep9 hS6 hb7
      have k8 := KRT.out w7 (HIN.out _ hS7)
      obtain ⟨c0, c1, c2, c3, c4, d0, d1⟩ := HCL.out _ hS7
      clear k7 hb7 hS6 KRT
      obtain ⟨tv, tb, hTM⟩ : ∃ (tv : Nat) (tb : Bool), termV TM = .tuple #[.int .u64 (tv : Int), .bool tb] := by
        cases TM with
        | none => exact ⟨0, false, rfl⟩
        | some t => exact ⟨t, true, rfl⟩
      rw [hTM] at k8 ⊢
      clear hTM
      go_wp2_with fail
      refine k8.mono ?_
      rintro e wN ⟨rfl, hb8⟩
      have hSN : Below (w.heap.size + 2) wB wN := keep9 hS7 hb8
      clear k8 hb8 hS7 c0 c1 c2 c3 c4 d0 d1
      go_wp2
      (try simp only [Exit.inBlock, Exit.then])
      refine wp_region_L (fun W => Below (w.heap.size + 2) wB W) [] (by kernel_rfl) ?_
      have hS0 : (fun W => Below (w.heap.size + 2) wB W) wN.drew := hSN.drew
      have hI0 := HIN.out _ hS0
      generalize wN.drew = W0 at *
      refine wpAnyL_take 0 rfl (by kernel_rfl) (by kernel_rfl) (by kernel_rfl) (by kernel_rfl) (fun _ _ _ h => h) (by kernel_rfl) (by intro w' hS'; have hz := hS'; obtain ⟨c0, c1, c2, c3, c4, d0, d1⟩ := HCL.out _ hz; go_simp <;> rfl) hS0 ?_
      try simp only [List.getElem_toArray, List.getElem_cons_succ, List.getElem_cons_zero, Act.put, List.setIfInBounds_toArray, List.set_cons_zero, List.set_cons_succ]
      refine wpAnyL_take 1 rfl (by kernel_rfl) (by kernel_rfl) (by kernel_rfl) (by kernel_rfl) (fun _ _ _ h => h) (by kernel_rfl) (by intro w' hS'; have hz := hS'; obtain ⟨c0, c1, c2, c3, c4, d0, d1⟩ := HCL.out _ hz; go_simp <;> rfl) hS0 ?_
      try simp only [List.getElem_toArray, List.getElem_cons_succ, List.getElem_cons_zero, Act.put, List.setIfInBounds_toArray, List.set_cons_zero, List.set_cons_succ]
      refine wpAnyL_take 2 rfl (by kernel_rfl) (by kernel_rfl) (by kernel_rfl) (by kernel_rfl) (fun _ _ _ h => h) (by kernel_rfl) (by intro w' hS'; have hz := hS'; obtain ⟨c0, c1, c2, c3, c4, d0, d1⟩ := HCL.out _ hz; go_simp <;> rfl) hS0 ?_
      try simp only [List.getElem_toArray, List.getElem_cons_succ, List.getElem_cons_zero, Act.put, List.setIfInBounds_toArray, List.set_cons_zero, List.set_cons_succ]
      refine wpAnyL_take 3 rfl (by kernel_rfl) (by kernel_rfl) (by kernel_rfl) (by kernel_rfl) (fun _ _ _ h => h) (by kernel_rfl) (by intro w' hS'; have hz := hS'; obtain ⟨c0, c1, c2, c3, c4, d0, d1⟩ := HCL.out _ hz; go_simp <;> rfl) hS0 ?_
      try simp only [List.getElem_toArray, List.getElem_cons_succ, List.getElem_cons_zero, Act.put, List.setIfInBounds_toArray, List.set_cons_zero, List.set_cons_succ]
      refine wpAnyL_take 4 rfl (by kernel_rfl) (by kernel_rfl) (by kernel_rfl) (by kernel_rfl) (fun _ _ _ h => h) (by kernel_rfl) (by intro w' hS'; have hz := hS'; obtain ⟨c0, c1, c2, c3, c4, d0, d1⟩ := HCL.out _ hz; go_simp <;> rfl) hS0 ?_
      try simp only [List.getElem_toArray, List.getElem_cons_succ, List.getElem_cons_zero, Act.put, List.setIfInBounds_toArray, List.set_cons_zero, List.set_cons_succ]
      refine wpAnyL_take 5 rfl (by kernel_rfl) (by kernel_rfl) (by kernel_rfl) (by kernel_rfl) (fun _ _ _ h => h) (by kernel_rfl) (by intro w' hS'; have hz := hS'; obtain ⟨c0, c1, c2, c3, c4, d0, d1⟩ := HCL.out _ hz; go_simp <;> rfl) hS0 ?_
      try simp only [List.getElem_toArray, List.getElem_cons_succ, List.getElem_cons_zero, Act.put, List.setIfInBounds_toArray, List.set_cons_zero, List.set_cons_succ]
      refine wpAnyL_take 6 rfl (by kernel_rfl) (by kernel_rfl) (by kernel_rfl) (by kernel_rfl) (fun _ _ _ h => h) (by kernel_rfl) (by intro w' hS'; have hz := hS'; obtain ⟨c0, c1, c2, c3, c4, d0, d1⟩ := HCL.out _ hz; go_simp <;> rfl) hS0 ?_
      try simp only [List.getElem_toArray, List.getElem_cons_succ, List.getElem_cons_zero, Act.put, List.setIfInBounds_toArray, List.set_cons_zero, List.set_cons_succ]
      refine wpAnyL_take 7 rfl (by kernel_rfl) (by kernel_rfl) (by kernel_rfl) (by kernel_rfl) (fun _ _ _ h => h) (by kernel_rfl) (by intro w' hS'; have hz := hS'; obtain ⟨c0, c1, c2, c3, c4, d0, d1⟩ := HCL.out _ hz; go_simp <;> rfl) hS0 ?_
      try simp only [List.getElem_toArray, List.getElem_cons_succ, List.getElem_cons_zero, Act.put, List.setIfInBounds_toArray, List.set_cons_zero, List.set_cons_succ]
      refine wpAnyL_take 8 rfl (by kernel_rfl) (by kernel_rfl) (by kernel_rfl) (by kernel_rfl) (fun _ _ _ h => h) (by kernel_rfl) (by intro w' hS'; have hz := hS'; obtain ⟨c0, c1, c2, c3, c4, d0, d1⟩ := HCL.out _ hz; go_simp <;> rfl) hS0 ?_
      try simp only [List.getElem_toArray, List.getElem_cons_succ, List.getElem_cons_zero, Act.put, List.setIfInBounds_toArray, List.set_cons_zero, List.set_cons_succ]
      refine wpAnyL_take 9 rfl (by kernel_rfl) (by kernel_rfl) (by kernel_rfl) (by kernel_rfl) (fun _ _ _ h => h) (by kernel_rfl) (by intro w' hS'; have hz := hS'; obtain ⟨c0, c1, c2, c3, c4, d0, d1⟩ := HCL.out _ hz; go_simp <;> rfl) hS0 ?_
      try simp only [List.getElem_toArray, List.getElem_cons_succ, List.getElem_cons_zero, Act.put, List.setIfInBounds_toArray, List.set_cons_zero, List.set_cons_succ]
      refine wpAnyL_take 10 rfl (by kernel_rfl) (by kernel_rfl) (by kernel_rfl) (by kernel_rfl) (fun _ _ _ h => h) (by kernel_rfl) (by intro w' hS'; have hz := hS'; obtain ⟨c0, c1, c2, c3, c4, d0, d1⟩ := HCL.out _ hz; go_simp <;> rfl) hS0 ?_
      try simp only [List.getElem_toArray, List.getElem_cons_succ, List.getElem_cons_zero, Act.put, List.setIfInBounds_toArray, List.set_cons_zero, List.set_cons_succ]
      refine wpAnyL_take 11 rfl (by kernel_rfl) (by kernel_rfl) (by kernel_rfl) (by kernel_rfl) (fun _ _ _ h => h) (by kernel_rfl) (by intro w' hS'; have hz := hS'; obtain ⟨c0, c1, c2, c3, c4, d0, d1⟩ := HCL.out _ hz; go_simp <;> rfl) hS0 ?_
      try simp only [List.getElem_toArray, List.getElem_cons_succ, List.getElem_cons_zero, Act.put, List.setIfInBounds_toArray, List.set_cons_zero, List.set_cons_succ]
      refine wpAnyL_take 12 rfl (by kernel_rfl) (by kernel_rfl) (by kernel_rfl) (by kernel_rfl) (fun _ _ _ h => h) (by kernel_rfl) (by intro w' hS'; have hz := hS'; obtain ⟨c0, c1, c2, c3, c4, d0, d1⟩ := HCL.out _ hz; go_simp <;> rfl) hS0 ?_
      try simp only [List.getElem_toArray, List.getElem_cons_succ, List.getElem_cons_zero, Act.put, List.setIfInBounds_toArray, List.set_cons_zero, List.set_cons_succ]
      refine wpAnyL_take 13 rfl (by kernel_rfl) (by kernel_rfl) (by kernel_rfl) (by kernel_rfl) (fun _ _ _ h => h) (by kernel_rfl) (by intro w' hS'; have hz := hS'; obtain ⟨c0, c1, c2, c3, c4, d0, d1⟩ := HCL.out _ hz; go_simp <;> rfl) hS0 ?_
      try simp only [List.getElem_toArray, List.getElem_cons_succ, List.getElem_cons_zero, Act.put, List.setIfInBounds_toArray, List.set_cons_zero, List.set_cons_succ]
      refine wpAnyL_take 14 rfl (by kernel_rfl) (by kernel_rfl) (by kernel_rfl) (by kernel_rfl) (fun _ _ _ h => h) (by kernel_rfl) (by intro w' hS'; have hz := hS'; obtain ⟨c0, c1, c2, c3, c4, d0, d1⟩ := HCL.out _ hz; go_simp <;> rfl) hS0 ?_
      try simp only [List.getElem_toArray, List.getElem_cons_succ, List.getElem_cons_zero, Act.put, List.setIfInBounds_toArray, List.set_cons_zero, List.set_cons_succ]
      refine wpAnyL_take 15 rfl (by kernel_rfl) (by kernel_rfl) (by kernel_rfl) (by kernel_rfl) (fun _ _ _ h => h) (by kernel_rfl) (by intro w' hS'; have hz := hS'; obtain ⟨c0, c1, c2, c3, c4, d0, d1⟩ := HCL.out _ hz; go_simp <;> rfl) hS0 ?_
      try simp only [List.getElem_toArray, List.getElem_cons_succ, List.getElem_cons_zero, Act.put, List.setIfInBounds_toArray, List.set_cons_zero, List.set_cons_succ]
      refine wpAnyL_take 16 rfl (by kernel_rfl) (by kernel_rfl) (by kernel_rfl) (by kernel_rfl) (fun _ _ _ h => h) (by kernel_rfl) (by intro w' hS'; have hz := hS'; obtain ⟨c0, c1, c2, c3, c4, d0, d1⟩ := HCL.out _ hz; go_simp <;> rfl) hS0 ?_
      try simp only [List.getElem_toArray, List.getElem_cons_succ, List.getElem_cons_zero, Act.put, List.setIfInBounds_toArray, List.set_cons_zero, List.set_cons_succ]
      refine wpAnyL_take 17 rfl (by kernel_rfl) (by kernel_rfl) (by kernel_rfl) (by kernel_rfl) (fun _ _ _ h => h) (by kernel_rfl) (by intro w' hS'; have hz := hS'; obtain ⟨c0, c1, c2, c3, c4, d0, d1⟩ := HCL.out _ hz; go_simp <;> rfl) hS0 ?_
      try simp only [List.getElem_toArray, List.getElem_cons_succ, List.getElem_cons_zero, Act.put, List.setIfInBounds_toArray, List.set_cons_zero, List.set_cons_succ]
      refine wpAnyL_take 18 rfl (by kernel_rfl) (by kernel_rfl) (by kernel_rfl) (by kernel_rfl) (fun _ _ _ h => h) (by kernel_rfl) (by intro w' hS'; have hz := hS'; obtain ⟨c0, c1, c2, c3, c4, d0, d1⟩ := HCL.out _ hz; go_simp <;> rfl) hS0 ?_
      try simp only [List.getElem_toArray, List.getElem_cons_succ, List.getElem_cons_zero, Act.put, List.setIfInBounds_toArray, List.set_cons_zero, List.set_cons_succ]
      refine wpAnyL_take 19 rfl (by kernel_rfl) (by kernel_rfl) (by kernel_rfl) (by kernel_rfl) (fun _ _ _ h => h) (by kernel_rfl) (by intro w' hS'; have hz := hS'; obtain ⟨c0, c1, c2, c3, c4, d0, d1⟩ := HCL.out _ hz; go_simp <;> rfl) hS0 ?_
      try simp only [List.getElem_toArray, List.getElem_cons_succ, List.getElem_cons_zero, Act.put, List.setIfInBounds_toArray, List.set_cons_zero, List.set_cons_succ]
      refine wpAnyL_take 20 rfl (by kernel_rfl) (by kernel_rfl) (by kernel_rfl) (by kernel_rfl) (fun _ _ _ h => h) (by kernel_rfl) (by intro w' hS'; have hz := hS'; obtain ⟨c0, c1, c2, c3, c4, d0, d1⟩ := HCL.out _ hz; go_simp <;> rfl) hS0 ?_
      try simp only [List.getElem_toArray, List.getElem_cons_succ, List.getElem_cons_zero, Act.put, List.setIfInBounds_toArray, List.set_cons_zero, List.set_cons_succ]
      refine wpAnyL_take 21 rfl (by kernel_rfl) (by kernel_rfl) (by kernel_rfl) (by kernel_rfl) (fun _ _ _ h => h) (by kernel_rfl) (by intro w' hS'; have hz := hS'; obtain ⟨c0, c1, c2, c3, c4, d0, d1⟩ := HCL.out _ hz; go_simp <;> rfl) hS0 ?_
      try simp only [List.getElem_toArray, List.getElem_cons_succ, List.getElem_cons_zero, Act.put, List.setIfInBounds_toArray, List.set_cons_zero, List.set_cons_succ]
      refine wpAnyL_take 22 rfl (by kernel_rfl) (by kernel_rfl) (by kernel_rfl) (by kernel_rfl) (fun _ _ _ h => h) (by kernel_rfl) (by intro w' hS'; have hz := hS'; obtain ⟨c0, c1, c2, c3, c4, d0, d1⟩ := HCL.out _ hz; go_simp <;> rfl) hS0 ?_
      try simp only [List.getElem_toArray, List.getElem_cons_succ, List.getElem_cons_zero, Act.put, List.setIfInBounds_toArray, List.set_cons_zero, List.set_cons_succ]
      refine wpAnyL_take 24 rfl (by kernel_rfl) (by kernel_rfl) (by kernel_rfl) (by kernel_rfl) (fun _ _ _ h => h) (by kernel_rfl) (by intro w' hS'; have hz := hS'; obtain ⟨c0, c1, c2, c3, c4, d0, d1⟩ := HCL.out _ hz; go_simp <;> rfl) hS0 ?_
      try simp only [List.getElem_toArray, List.getElem_cons_succ, List.getElem_cons_zero, Act.put, List.setIfInBounds_toArray, List.set_cons_zero, List.set_cons_succ]
      refine wpAnyL_take 25 rfl (by kernel_rfl) (by kernel_rfl) (by kernel_rfl) (by kernel_rfl) (fun _ _ _ h => h) (by kernel_rfl) (by intro w' hS'; have hz := hS'; obtain ⟨c0, c1, c2, c3, c4, d0, d1⟩ := HCL.out _ hz; go_simp <;> rfl) hS0 ?_
      try simp only [List.getElem_toArray, List.getElem_cons_succ, List.getElem_cons_zero, Act.put, List.setIfInBounds_toArray, List.set_cons_zero, List.set_cons_succ]
      refine wpAnyL_take 26 rfl (by kernel_rfl) (by kernel_rfl) (by kernel_rfl) (by kernel_rfl) (fun _ _ _ h => h) (by kernel_rfl) (by intro w' hS'; have hz := hS'; obtain ⟨c0, c1, c2, c3, c4, d0, d1⟩ := HCL.out _ hz; go_simp <;> rfl) hS0 ?_
      try simp only [List.getElem_toArray, List.getElem_cons_succ, List.getElem_cons_zero, Act.put, List.setIfInBounds_toArray, List.set_cons_zero, List.set_cons_succ]
      refine wpAnyL_take 27 rfl (by kernel_rfl) (by kernel_rfl) (by kernel_rfl) (by kernel_rfl) (fun _ _ _ h => h) (by kernel_rfl) (by intro w' hS'; have hz := hS'; obtain ⟨c0, c1, c2, c3, c4, d0, d1⟩ := HCL.out _ hz; go_simp <;> rfl) hS0 ?_
      try simp only [List.getElem_toArray, List.getElem_cons_succ, List.getElem_cons_zero, Act.put, List.setIfInBounds_toArray, List.set_cons_zero, List.set_cons_succ]
      refine wpAnyL_one 23 (by kernel_rfl) rfl (by kernel_rfl) ?_
      intro K' hK'
      go_simp
      go_at_call 19
      refine (KS.out _ hI0).mono ?_
      rintro e W1 ⟨ys, v1, rfl, hE1, hM1, hb1⟩
      have hS1 : (fun W => Below (w.heap.size + 2) wB W) W1 := keep9 hS0 hb1
      have hI1 := HIN.out _ hS1
      obtain ⟨y1a, y1c, rfl, -, -⟩ := hE1.1.shape
      generalize hyn : ys.length = yn at *
      refine hK'.out _ _ (.inr hS1) ?_
      clear hK' K'
      try simp only [List.getElem_toArray, List.getElem_cons_succ, List.getElem_cons_zero, Act.put, List.setIfInBounds_toArray, List.set_cons_zero, List.set_cons_succ]
      refine wpAnyL_one 28 (by kernel_rfl) rfl (by kernel_rfl) ?_
      intro K' hK'
      go_simp
      go_at_call 20
      refine (KRS.out _ hI1).mono ?_
      rintro e W2 ⟨v2, rfl, hE2, hb2⟩
      have hS2 : (fun W => Below (w.heap.size + 2) wB W) W2 := keep9 hS1 hb2
      have hI2 := HIN.out _ hS2
      have kse := KE.out ys _ _ W2 (hE1.below hb2) hE2 hM1
      obtain ⟨y2a, y2c, rfl, -, -⟩ := hE2.1.shape
      refine hK'.out _ _ (.inr hS2) ?_
      clear hK' K'
      try simp only [List.getElem_toArray, List.getElem_cons_succ, List.getElem_cons_zero, Act.put, List.setIfInBounds_toArray, List.set_cons_zero, List.set_cons_succ]
      refine wpAnyL_one 29 (by kernel_rfl) rfl (by kernel_rfl) ?_
      intro K' hK'
      go_simp
      go_at_call 18
      refine kse.mono ?_
      rintro e W3 ⟨rfl, hb3⟩
      have hS3 : (fun W => Below (w.heap.size + 2) wB W) W3 := keep9 hS2 hb3
      have hI3 := HIN.out _ hS3
      clear kse hE1 hE2 hM1 KS KRS KE
      refine hK'.out _ _ (.inr hS3) ?_
      clear hK' K'
      try simp only [List.getElem_toArray, List.getElem_cons_succ, List.getElem_cons_zero, Act.put, List.setIfInBounds_toArray, List.set_cons_zero, List.set_cons_succ]
      refine wpAnyL_take 30 rfl (by kernel_rfl) (by kernel_rfl) (by kernel_rfl) (by kernel_rfl) (fun _ _ _ h => h) (by kernel_rfl) (by intro w' hS'; have hz := hS'; obtain ⟨c0, c1, c2, c3, c4, d0, d1⟩ := HCL.out _ hz; go_simp <;> rfl) hS3 ?_
      try simp only [List.getElem_toArray, List.getElem_cons_succ, List.getElem_cons_zero, Act.put, List.setIfInBounds_toArray, List.set_cons_zero, List.set_cons_succ]
      refine wpAnyL_take 31 rfl (by kernel_rfl) (by kernel_rfl) (by kernel_rfl) (by kernel_rfl) (fun _ _ _ h => h) (by kernel_rfl) (by intro w' hS'; have hz := hS'; obtain ⟨c0, c1, c2, c3, c4, d0, d1⟩ := HCL.out _ hz; go_simp <;> rfl) hS3 ?_
      try simp only [List.getElem_toArray, List.getElem_cons_succ, List.getElem_cons_zero, Act.put, List.setIfInBounds_toArray, List.set_cons_zero, List.set_cons_succ]
      refine wpAnyL_take 32 rfl (by kernel_rfl) (by kernel_rfl) (by kernel_rfl) (by kernel_rfl) (fun _ _ _ h => h) (by kernel_rfl) (by intro w' hS'; have hz := hS'; obtain ⟨c0, c1, c2, c3, c4, d0, d1⟩ := HCL.out _ hz; go_simp <;> rfl) hS3 ?_
      try simp only [List.getElem_toArray, List.getElem_cons_succ, List.getElem_cons_zero, Act.put, List.setIfInBounds_toArray, List.set_cons_zero, List.set_cons_succ]
      refine wpAnyL_take 34 rfl (by kernel_rfl) (by kernel_rfl) (by kernel_rfl) (by kernel_rfl) (fun _ _ _ h => h) (by kernel_rfl) (by intro w' hS'; have hz := hS'; obtain ⟨c0, c1, c2, c3, c4, d0, d1⟩ := HCL.out _ hz; go_simp <;> rfl) hS3 ?_
      try simp only [List.getElem_toArray, List.getElem_cons_succ, List.getElem_cons_zero, Act.put, List.setIfInBounds_toArray, List.set_cons_zero, List.set_cons_succ]
      refine wpAnyL_one 33 (by kernel_rfl) rfl (by kernel_rfl) ?_
      intro K' hK'
      go_simp
      go_at_call 22
      refine (KV.out _ hI3).mono ?_
      rintro e W4 ⟨v4, rfl, hR4, hb4⟩
      have hS4 : (fun W => Below (w.heap.size + 2) wB W) W4 := keep9 hS3 hb4
      have hI4 := HIN.out _ hS4
      obtain ⟨y4a, y4c, rfl, -, -⟩ := hR4.shape
      refine hK'.out _ _ (.inr hS4) ?_
      clear hK' K'
      try simp only [List.getElem_toArray, List.getElem_cons_succ, List.getElem_cons_zero, Act.put, List.setIfInBounds_toArray, List.set_cons_zero, List.set_cons_succ]
      refine wpAnyL_one 35 (by kernel_rfl) rfl (by kernel_rfl) ?_
      intro K' hK'
      go_simp
      go_at_call 23
      refine (KRV.out _ hI4).mono ?_
      rintro e W5 ⟨v5, rfl, hR5, hb5⟩
      have hS5 : (fun W => Below (w.heap.size + 2) wB W) W5 := keep9 hS4 hb5
      have hI5 := HIN.out _ hS5
      have ki := ints_of _ _ _ W5 (hR4.below hb5) hR5 hvl
      obtain ⟨y5a, y5c, rfl, -, -⟩ := hR5.shape
      refine hK'.out _ _ (.inr hS5) ?_
      clear hK' K'
      try simp only [List.getElem_toArray, List.getElem_cons_succ, List.getElem_cons_zero, Act.put, List.setIfInBounds_toArray, List.set_cons_zero, List.set_cons_succ]
      refine wpAnyL_one 36 (by kernel_rfl) rfl (by kernel_rfl) ?_
      intro K' hK'
      go_simp
      go_at_call 21
      refine ki.mono ?_
      rintro e W6 ⟨rfl, hb6⟩
      have hS6 : (fun W => Below (w.heap.size + 2) wB W) W6 := keep9 hS5 hb6
      have hI6 := HIN.out _ hS6
      clear ki hR4 hR5 KV KRV
      refine hK'.out _ _ (.inr hS6) ?_
      clear hK' K'
      try simp only [List.getElem_toArray, List.getElem_cons_succ, List.getElem_cons_zero, Act.put, List.setIfInBounds_toArray, List.set_cons_zero, List.set_cons_succ]
      refine wpAnyL_take 37 rfl (by kernel_rfl) (by kernel_rfl) (by kernel_rfl) (by kernel_rfl) (fun _ _ _ h => h) (by kernel_rfl) (by intro w' hS'; have hz := hS'; obtain ⟨c0, c1, c2, c3, c4, d0, d1⟩ := HCL.out _ hz; go_simp <;> rfl) hS6 ?_
      try simp only [List.getElem_toArray, List.getElem_cons_succ, List.getElem_cons_zero, Act.put, List.setIfInBounds_toArray, List.set_cons_zero, List.set_cons_succ]
      refine wpAnyL_take 38 rfl (by kernel_rfl) (by kernel_rfl) (by kernel_rfl) (by kernel_rfl) (fun _ _ _ h => h) (by kernel_rfl) (by intro w' hS'; have hz := hS'; obtain ⟨c0, c1, c2, c3, c4, d0, d1⟩ := HCL.out _ hz; go_simp <;> rfl) hS6 ?_
      try simp only [List.getElem_toArray, List.getElem_cons_succ, List.getElem_cons_zero, Act.put, List.setIfInBounds_toArray, List.set_cons_zero, List.set_cons_succ]
      refine wpAnyL_take 39 rfl (by kernel_rfl) (by kernel_rfl) (by kernel_rfl) (by kernel_rfl) (fun _ _ _ h => h) (by kernel_rfl) (by intro w' hS'; have hz := hS'; obtain ⟨c0, c1, c2, c3, c4, d0, d1⟩ := HCL.out _ hz; go_simp <;> rfl) hS6 ?_
      try simp only [List.getElem_toArray, List.getElem_cons_succ, List.getElem_cons_zero, Act.put, List.setIfInBounds_toArray, List.set_cons_zero, List.set_cons_succ]
      refine wpAnyL_take 40 rfl (by kernel_rfl) (by kernel_rfl) (by kernel_rfl) (by kernel_rfl) (fun _ _ _ h => h) (by kernel_rfl) (by intro w' hS'; have hz := hS'; obtain ⟨c0, c1, c2, c3, c4, d0, d1⟩ := HCL.out _ hz; go_simp <;> rfl) hS6 ?_
      try simp only [List.getElem_toArray, List.getElem_cons_succ, List.getElem_cons_zero, Act.put, List.setIfInBounds_toArray, List.set_cons_zero, List.set_cons_succ]
      refine wpAnyL_take 41 rfl (by kernel_rfl) (by kernel_rfl) (by kernel_rfl) (by kernel_rfl) (fun _ _ _ h => h) (by kernel_rfl) (by intro w' hS'; have hz := hS'; obtain ⟨c0, c1, c2, c3, c4, d0, d1⟩ := HCL.out _ hz; go_simp <;> rfl) hS6 ?_
      try simp only [List.getElem_toArray, List.getElem_cons_succ, List.getElem_cons_zero, Act.put, List.setIfInBounds_toArray, List.set_cons_zero, List.set_cons_succ]
      refine wpAnyL_take 42 rfl (by kernel_rfl) (by kernel_rfl) (by kernel_rfl) (by kernel_rfl) (fun _ _ _ h => h) (by kernel_rfl) (by intro w' hS'; have hz := hS'; obtain ⟨c0, c1, c2, c3, c4, d0, d1⟩ := HCL.out _ hz; go_simp <;> rfl) hS6 ?_
      try simp only [List.getElem_toArray, List.getElem_cons_succ, List.getElem_cons_zero, Act.put, List.setIfInBounds_toArray, List.set_cons_zero, List.set_cons_succ]
      refine wpAnyL_take 43 rfl (by kernel_rfl) (by kernel_rfl) (by kernel_rfl) (by kernel_rfl) (fun _ _ _ h => h) (by kernel_rfl) (by intro w' hS'; have hz := hS'; obtain ⟨c0, c1, c2, c3, c4, d0, d1⟩ := HCL.out _ hz; go_simp <;> rfl) hS6 ?_
      try simp only [List.getElem_toArray, List.getElem_cons_succ, List.getElem_cons_zero, Act.put, List.setIfInBounds_toArray, List.set_cons_zero, List.set_cons_succ]
      refine wpAnyL_take 45 rfl (by kernel_rfl) (by kernel_rfl) (by kernel_rfl) (by kernel_rfl) (fun _ _ _ h => h) (by kernel_rfl) (by intro w' hS'; have hz := hS'; obtain ⟨c0, c1, c2, c3, c4, d0, d1⟩ := HCL.out _ hz; go_simp <;> rfl) hS6 ?_
      try simp only [List.getElem_toArray, List.getElem_cons_succ, List.getElem_cons_zero, Act.put, List.setIfInBounds_toArray, List.set_cons_zero, List.set_cons_succ]
      refine wpAnyL_take 46 rfl (by kernel_rfl) (by kernel_rfl) (by kernel_rfl) (by kernel_rfl) (fun _ _ _ h => h) (by kernel_rfl) (by intro w' hS'; have hz := hS'; obtain ⟨c0, c1, c2, c3, c4, d0, d1⟩ := HCL.out _ hz; go_simp <;> rfl) hS6 ?_
      try simp only [List.getElem_toArray, List.getElem_cons_succ, List.getElem_cons_zero, Act.put, List.setIfInBounds_toArray, List.set_cons_zero, List.set_cons_succ]
      refine wpAnyL_take 47 rfl (by kernel_rfl) (by kernel_rfl) (by kernel_rfl) (by kernel_rfl) (fun _ _ _ h => h) (by kernel_rfl) (by intro w' hS'; have hz := hS'; obtain ⟨c0, c1, c2, c3, c4, d0, d1⟩ := HCL.out _ hz; go_simp <;> rfl) hS6 ?_
      try simp only [List.getElem_toArray, List.getElem_cons_succ, List.getElem_cons_zero, Act.put, List.setIfInBounds_toArray, List.set_cons_zero, List.set_cons_succ]
      refine wpAnyL_take 48 rfl (by kernel_rfl) (by kernel_rfl) (by kernel_rfl) (by kernel_rfl) (fun _ _ _ h => h) (by kernel_rfl) (by intro w' hS'; have hz := hS'; obtain ⟨c0, c1, c2, c3, c4, d0, d1⟩ := HCL.out _ hz; go_simp <;> rfl) hS6 ?_
      try simp only [List.getElem_toArray, List.getElem_cons_succ, List.getElem_cons_zero, Act.put, List.setIfInBounds_toArray, List.set_cons_zero, List.set_cons_succ]
      refine wpAnyL_take 49 rfl (by kernel_rfl) (by kernel_rfl) (by kernel_rfl) (by kernel_rfl) (fun _ _ _ h => h) (by kernel_rfl) (by intro w' hS'; have hz := hS'; obtain ⟨c0, c1, c2, c3, c4, d0, d1⟩ := HCL.out _ hz; go_simp <;> rfl) hS6 ?_
      try simp only [List.getElem_toArray, List.getElem_cons_succ, List.getElem_cons_zero, Act.put, List.setIfInBounds_toArray, List.set_cons_zero, List.set_cons_succ]
      refine wpAnyL_one 44 (by kernel_rfl) rfl (by kernel_rfl) ?_
      intro K' hK'
      go_simp
      go_at_call 24
      refine (KF.out _ hI6).mono ?_
      rintro e W7 ⟨rfl, hb7⟩
      have hS7 : (fun W => Below (w.heap.size + 2) wB W) W7 := keep9 hS6 hb7
      have hI7 := HIN.out _ hS7
      refine hK'.out _ _ (.inr hS7) ?_
      clear hK' K'
      try simp only [List.getElem_toArray, List.getElem_cons_succ, List.getElem_cons_zero, Act.put, List.setIfInBounds_toArray, List.set_cons_zero, List.set_cons_succ]
      refine wpAnyL_one 50 (by kernel_rfl) rfl (by kernel_rfl) ?_
      intro K' hK'
      go_simp
      go_at_call 25
      refine (KRF.out _ hI7).mono ?_
      rintro e W8 ⟨rfl, hb8⟩
      have hS8 : (fun W => Below (w.heap.size + 2) wB W) W8 := keep9 hS7 hb8
      have hI8 := HIN.out _ hS8
      refine hK'.out _ _ (.inr hS8) ?_
      clear hK' K'
      try simp only [List.getElem_toArray, List.getElem_cons_succ, List.getElem_cons_zero, Act.put, List.setIfInBounds_toArray, List.set_cons_zero, List.set_cons_succ]
      refine wpAnyL_take 51 rfl (by kernel_rfl) (by kernel_rfl) (by kernel_rfl) (by kernel_rfl) (fun _ _ _ h => h) (by kernel_rfl) (by intro w' hS'; have hz := hS'; obtain ⟨c0, c1, c2, c3, c4, d0, d1⟩ := HCL.out _ hz; go_simp <;> rfl) hS8 ?_
      try simp only [List.getElem_toArray, List.getElem_cons_succ, List.getElem_cons_zero, Act.put, List.setIfInBounds_toArray, List.set_cons_zero, List.set_cons_succ]
      refine wpAnyL_take 52 rfl (by kernel_rfl) (by kernel_rfl) (by kernel_rfl) (by kernel_rfl) (fun _ _ _ h => h) (by kernel_rfl) (by intro w' hS'; have hz := hS'; obtain ⟨c0, c1, c2, c3, c4, d0, d1⟩ := HCL.out _ hz; go_simp <;> rfl) hS8 ?_
      try simp only [List.getElem_toArray, List.getElem_cons_succ, List.getElem_cons_zero, Act.put, List.setIfInBounds_toArray, List.set_cons_zero, List.set_cons_succ]
      refine wpAnyL_take 53 rfl (by kernel_rfl) (by kernel_rfl) (by kernel_rfl) (by kernel_rfl) (fun _ _ _ h => h) (by kernel_rfl) (by intro w' hS'; have hz := hS'; obtain ⟨c0, c1, c2, c3, c4, d0, d1⟩ := HCL.out _ hz; go_simp <;> rfl) hS8 ?_
      try simp only [List.getElem_toArray, List.getElem_cons_succ, List.getElem_cons_zero, Act.put, List.setIfInBounds_toArray, List.set_cons_zero, List.set_cons_succ]
      refine wpAnyL_one 54 (by kernel_rfl) rfl (by kernel_rfl) ?_
      intro K' hK'
      go_simp
      go_at_call 13
      refine (ka _).mono ?_
      rintro e W9 ⟨rfl, hb9⟩
      have hS9 : (fun W => Below (w.heap.size + 2) wB W) W9 := keep9 hS8 hb9
      have hI9 := HIN.out _ hS9
      refine hK'.out _ _ (.inr hS9) ?_
      clear hK' K'
      try simp only [List.getElem_toArray, List.getElem_cons_succ, List.getElem_cons_zero, Act.put, List.setIfInBounds_toArray, List.set_cons_zero, List.set_cons_succ]
      refine wpAnyL_take 55 rfl (by kernel_rfl) (by kernel_rfl) (by kernel_rfl) (by kernel_rfl) (fun _ _ _ h => h) (by kernel_rfl) (by intro w' hS'; have hz := hS'; obtain ⟨c0, c1, c2, c3, c4, d0, d1⟩ := HCL.out _ hz; go_simp <;> rfl) hS9 ?_
      try simp only [List.getElem_toArray, List.getElem_cons_succ, List.getElem_cons_zero, Act.put, List.setIfInBounds_toArray, List.set_cons_zero, List.set_cons_succ]
      refine wpAnyL_take 56 rfl (by kernel_rfl) (by kernel_rfl) (by kernel_rfl) (by kernel_rfl) (fun _ _ _ h => h) (by kernel_rfl) (by intro w' hS'; have hz := hS'; obtain ⟨c0, c1, c2, c3, c4, d0, d1⟩ := HCL.out _ hz; go_simp <;> rfl) hS9 ?_
      try simp only [List.getElem_toArray, List.getElem_cons_succ, List.getElem_cons_zero, Act.put, List.setIfInBounds_toArray, List.set_cons_zero, List.set_cons_succ]
      refine wpAnyL_done (by kernel_rfl) (NoPanic.normal ?_) _
      go_wp2
      go_ret
      exact ⟨rfl, hI9⟩
end Go.Proofs.Ytmmonehpfmlmeaa

