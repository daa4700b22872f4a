import Derived.Test.YtebkfkijlopmoaaHs41
/- The document's Decode. -/
namespace Go.Proofs.Ytebkfkijlopmoaa
open Go.RowKit SessionMath WireMath
set_option maxRecDepth 100000
set_option linter.unusedSimpArgs false
set_option linter.unusedVariables false

set_option maxHeartbeats 8000000 in
theorem rdec_of (b : List Nat) (bv : Value) (w : World) (hB : Bn w bv b) (hl : ∀ c ∈ b, c < 256) (hlen : b.length ≤ 140737488355328) : Calls Try.prog 19 #[bv] w fun e w' => RDecT b e w' ∧ Below w.heap.size w w' := by
  obtain ⟨T, HT⟩ : ∃ T, Hid (T = RDecT b) := ⟨_, rfl⟩
  rw [← HT.out]
  have hn8 : Wi.nuN b 0 0 8 ≤ 8 := nuN_most (m := 8)
  have HCVB : Hid (∀ W, Below w.heap.size w W → (convert 26 9 bv).run Try.prog W = .ok (.string (Wi.str b)) W) := fun W hW => Wi.str_of (hB.below hW) hl
  obtain ⟨bp, bc, hbv⟩ := hB.shape
  subst hbv
  obtain ⟨q1, q2, q3⟩ := one_box w (.cells #[.slice bp b.length bc, .int .i64 0, .int .i64 0] 68)
  have hRr : Wi.Rr w.heap.size (w.alloc (.cells #[.slice bp b.length bc, .int .i64 0, .int .i64 0] 68)) w.heap.size b 0 0 := ⟨_, q2, Wi.Bs.below hB q3, Nat.zero_le _, Nat.le_refl _⟩
  have kN := Wi.rnum_of w.heap.size w.heap.size b 0 0 8 _ hRr hl (by decide)
  obtain ⟨n0, hn0⟩ : ∃ n0, n0 = Wi.nuN b 0 0 8 := ⟨_, rfl⟩
  obtain ⟨a0, ha0⟩ : ∃ a0, a0 = Wi.nuA b 0 0 8 := ⟨_, rfl⟩
  obtain ⟨e0, he0⟩ : ∃ e0, e0 = Wi.nuE b 0 0 8 := ⟨_, rfl⟩
  have HX : Hid (decX 8 b = rdL 8 b n0 a0 e0) := by show _ = _; rw [hn0, ha0, he0]; rfl
  rw [← hn0, ← ha0, ← he0] at kN
  rw [← hn0] at hn8
  clear hn0 ha0 he0 hB q1 q2 hRr
  go_enter Try.func19, Try.ntmps19
  go_wp2_with fail
  obtain ⟨rq, hrq⟩ : ∃ rq, rq = w.heap.size := ⟨_, rfl⟩
  generalize w.alloc (.cells #[.slice bp b.length bc, .int .i64 0, .int .i64 0] 68) = w0 at *
  refine kN.mono ?_
  rintro e w2 ⟨rfl, hR2, kp2⟩
  have hb2 : Below w.heap.size w w2 := q3.trans (kp2.below (Nat.le_refl _) q3.size)
  rw [← hrq] at hR2 ⊢
  have hR2' : Wi.Rr w.heap.size w2 rq b a0 e0 := by rw [hrq] at hR2 ⊢; exact hR2
  have hrqw : w.heap.size ≤ rq := Nat.le_of_eq hrq.symm
  have hrql := hR2'.lt
  obtain ⟨u1, u2, u3⟩ := one_box w2 (.cells #[] 49)
  have hb3 := hb2.trans (u3.mono hb2.size)
  have hR3 := hR2'.below u3
  obtain ⟨N, hN⟩ : ∃ N, N = w2.heap.size := ⟨_, rfl⟩
  have hO3 : CpS N (w2.alloc (.cells #[] 49)) (.slice (some ⟨w2.heap.size, 0, none⟩) 0 0) [] [] := ⟨⟨Rk.made (E := seatE) (xs := []) u2 rfl (by unfold maxLen; simp), fun k hk => by cases hk; exact Nat.le_of_eq hN⟩, rfl, by simp⟩
  have hNw : w.heap.size ≤ N := by rw [hN]; exact hb2.size
  have hrqN : rq < N := by rw [hN]; exact hrql
  have hNz : N ≤ (w2.alloc (.cells #[] 49)).heap.size := by rw [hN]; exact u3.size
  clear hrq hR2 hR2' kN kp2 q3 u1 u2 u3 hN hrql hb2
  go_wp2
  go_loopg [6, 7] n0 (fun gg s6 s7 wr => ∃ (i : Nat) (st : Value) (cur : List Sz), i + gg = n0 ∧ s7 = .int .i64 (i : Int) ∧ st = s6 ∧ CpS N wr st (rdL 8 b i a0 e0).1 cur ∧ Wi.Rr w.heap.size wr rq b (rdL 8 b i a0 e0).2.1 (rdL 8 b i a0 e0).2.2 ∧ Below w.heap.size w wr ∧ N ≤ wr.heap.size)
  case atStart => exact ⟨0, _, [], by simp, rfl, rfl, hO3, hR3, hb3, hNz⟩
  case round =>
    obtain ⟨i, st, cur, hig, rfl, rfl, hO, hR, hb, hNr⟩ := hrel
    clear hR3 hb3 hNz hO3
    by_cases hlt : i < n0
    · have hlti : (i : Int) < (n0 : Int) := by omega
      obtain ⟨s1, s2, s3⟩ := rdL_succ 8 b i a0 e0
      have hLi : cur.length ≤ 1000 := by
        have h9 := congrArg List.length hO.2.1
        rw [List.length_map, rdL_len] at h9
        omega
      have H1 : Hid _ := s1
      have H2 : Hid _ := s2
      have H3 : Hid _ := s3
      clear s1 s2 s3 HX HCVB HT
      generalize (rdL 8 b i a0 e0).1 = LL at *
      generalize (rdL 8 b i a0 e0).2.1 = aa at *
      generalize (rdL 8 b i a0 e0).2.2 = ee at *
      have HSA : Hid (stAt 8 b aa ee = ⟨(Wi.nuN b aa ee 8 : Int), Wi.uvN b (Wi.nuA b aa ee 8) (Wi.nuE b aa ee 8), Wi.byL b (Wi.uvA b (Wi.nuA b aa ee 8) (Wi.nuE b aa ee 8)) (Wi.uvE b (Wi.nuA b aa ee 8) (Wi.nuE b aa ee 8)) 4096⟩) := rfl
      have HRA : Hid (stA 8 b aa ee = Wi.byA b (Wi.uvA b (Wi.nuA b aa ee 8) (Wi.nuE b aa ee 8)) (Wi.uvE b (Wi.nuA b aa ee 8) (Wi.nuE b aa ee 8)) 4096) := rfl
      have HRX : Hid (stX 8 b aa ee = Wi.byE b (Wi.uvA b (Wi.nuA b aa ee 8) (Wi.nuE b aa ee 8)) (Wi.uvE b (Wi.nuA b aa ee 8) (Wi.nuE b aa ee 8)) 4096) := rfl
      have k1 := Wi.rnum_of w.heap.size rq b aa ee 8 wr hR hl (by decide)
      generalize Wi.nuN b aa ee 8 = n1 at *
      generalize Wi.nuA b aa ee 8 = a1 at *
      generalize Wi.nuE b aa ee 8 = e1 at *
      have k2 : Hid (∀ W, Wi.Rr w.heap.size W rq b a1 e1 → _) := fun W hW => Wi.ruv_of w.heap.size rq b a1 e1 W hW hl
      generalize Wi.uvN b a1 e1 = n2 at *
      generalize Wi.uvA b a1 e1 = a2 at *
      generalize Wi.uvE b a1 e1 = e2 at *
      have k3 : Hid (∀ W, Wi.Rr w.heap.size W rq b a2 e2 → _) := fun W hW => Wi.rbytes_of w.heap.size rq b a2 e2 4096 W hW hl (by decide) hlen
      generalize Wi.byA b a2 e2 4096 = a3 at *
      generalize Wi.byE b a2 e2 4096 = e3 at *
      generalize Wi.byL b a2 e2 4096 = s3 at *
      obtain ⟨csq, hqb⟩ := rr_block hR
      obtain ⟨sa, sc, hst, -⟩ := hO.1.1.shape
      go_wp2_with fail
      refine k1.mono ?_
      rintro e x1 ⟨rfl, hR1, kp1⟩
      have hO1 := hO.kp kp1 hqb (by decide) (by decide)
      have hb1 : Below w.heap.size w x1 := hb.trans (kp1.below hrqw hb.size)
      have hN1 := Nat.le_trans hNr kp1.size
      obtain ⟨z1, bx, z3⟩ := one_box x1 (.cells #[.int .i64 (n1 : Int), .int .u64 0, .slice none 0 0] 49)
      obtain ⟨Nx, hNx⟩ : ∃ Nx, Nx = x1.heap.size := ⟨_, rfl⟩
      have HNx : Hid (Nx = x1.heap.size) := hNx
      have hNxw : w.heap.size ≤ Nx := by rw [hNx]; exact hb1.size
      have hNxr : Nx ≠ rq := fun h => by have := hR1.lt; omega
      have hNxo : ∀ k, st.ownBlock = some k → k ≠ Nx := fun k hk => by have := hO1.1.1.lt hk; omega
      rw [← hNx] at bx
      have hO2 := hO1.below z3
      have hR2 := hR1.below z3
      have hb2 := hb1.trans (z3.mono hb1.size)
      have hN2 := Nat.le_trans hN1 z3.size
      have k22 := k2.out _ hR2
      clear k1 kp1 hO hR hb hNr hqb hNx z1 z3 hO1 hR1 hb1 hN1 k2
      subst hst
      go_wp2_with fail
      rw [← HNx.out]
      generalize x1.alloc (.cells #[.int .i64 (n1 : Int), .int .u64 0, .slice none 0 0] 49) = y2 at *
      obtain ⟨csq, hqb⟩ := rr_block hR2
      refine k22.mono ?_
      rintro e x3 ⟨rfl, hR3, kp3⟩
      have bx3 := (kp3.block Nx (Array.getElem?_eq_some_iff.1 bx).1 (fun h => hNxr (Option.some.inj h))).trans bx
      have hO3 := hO2.kp kp3 hqb (by decide) (by decide)
      have hb3 : Below w.heap.size w x3 := hb2.trans (kp3.below hrqw hb2.size)
      have hN3 := Nat.le_trans hN2 kp3.size
      obtain ⟨⟨f0, f1, f2⟩, c0, c1, c2⟩ := st_cells bx3
      have bx4 := st_one bx3 (.int .u64 (n2 : Int))
      have hR4 := hR3.kp (Wi.Kp.set Nx 1 (.int .u64 (n2 : Int)) x3) hNxw hNxr
      have hO4 := hO3.far (i := 1) bx3 (by decide) hNxo (.int .u64 (n2 : Int))
      have hb4 : Below w.heap.size w (x3.setCell ⟨Nx, 1, none⟩ (.int .u64 (n2 : Int))) := hb3.setCell (p := ⟨Nx, 1, none⟩) hNxw _
      have hN4 : N ≤ (x3.setCell ⟨Nx, 1, none⟩ (.int .u64 (n2 : Int))).heap.size := by simp [World.setCell]; exact hN3
      have k44 := k3.out _ hR4
      clear k22 kp3 hO2 hR2 hb2 hN2 hqb bx bx3 hR3 hO3 hb3 hN3 k3
      go_wp2_with fail
      generalize x3.setCell ⟨Nx, 1, none⟩ (.int .u64 (n2 : Int)) = y4 at *
      clear c0 c1 c2 f0 f1 f2
      obtain ⟨csq, hqb⟩ := rr_block hR4
      refine k44.mono ?_
      rintro e x5 ⟨v5, rfl, hOv5, hR5, kp5⟩
      have bx5 := (kp5.block Nx (Array.getElem?_eq_some_iff.1 bx4).1 (fun h => hNxr (Option.some.inj h))).trans bx4
      have hO5 := hO4.kp kp5 hqb (by decide) (by decide)
      have hb5 : Below w.heap.size w x5 := hb4.trans (kp5.below hrqw hb4.size)
      have hN5 := Nat.le_trans hN4 kp5.size
      obtain ⟨va, vc, hv5⟩ := hOv5.shape
      subst hv5
      obtain ⟨⟨f0, f1, f2⟩, c0, c1, c2⟩ := st_cells bx5
      have bx6 := st_two bx5 (.slice va s3.length vc)
      have hR6 := hR5.kp (Wi.Kp.set Nx 2 (.slice va s3.length vc) x5) hNxw hNxr
      have hO6 := hO5.far (i := 2) bx5 (by decide) hNxo (.slice va s3.length vc)
      have hC6 : CpR (x5.setCell ⟨Nx, 2, none⟩ (.slice va s3.length vc)) ((⟨(n1 : Int), n2, s3⟩ : Ms), va, s3.length, vc) := CpR.far (z := ((⟨(n1 : Int), n2, s3⟩ : Ms), va, s3.length, vc)) (hOv5.mono (Nat.zero_le _)) bx5 (by decide) _
      have hb6 : Below w.heap.size w (x5.setCell ⟨Nx, 2, none⟩ (.slice va s3.length vc)) := hb5.setCell (p := ⟨Nx, 2, none⟩) hNxw _
      have hN6 : N ≤ (x5.setCell ⟨Nx, 2, none⟩ (.slice va s3.length vc)).heap.size := by simp [World.setCell]; exact hN5
      obtain ⟨W6, hW6⟩ : ∃ W6, x5.setCell ⟨Nx, 2, none⟩ (.slice va s3.length vc) = W6 := ⟨_, rfl⟩
      rw [hW6] at bx6 hR6 hO6 hC6 hb6 hN6
      obtain ⟨-, g0, g1, g2⟩ := st_cells bx6
      have hrun : Hid _ := push_seat ((⟨(n1 : Int), n2, s3⟩ : Ms), va, s3.length, vc) hO6.1.1 (by omega)
      dsimp only at hrun
      clear k44 kp5 hO4 hR4 hb4 hN4 hqb bx4 bx5 hR5 hO5 hb5 hN5 hOv5 bx6
      go_wp2_with (at_builtin; refine wp_by rfl _ _ _ rfl _ _ rfl rfl hrun.out ?_)
      intro v7 w7 hp7
      obtain ⟨hO7, hb7⟩ := hO6.push hC6 hN6 hp7
      have hR7 := rr_belowN hR6 hb7 hrqN hNw
      have hb07 := hb6.trans (hb7.mono hNw)
      have hN7 := Nat.le_trans hN6 hb7.size
      clear hrun hp7 hO6 hC6 hR6 hb6 hN6 hb7 g0 g1 g2 c0 c1 c2 f0 f1 f2 hW6
      go_wp2
      go_roundg (gk - 1)
      case measure => omega
      case rel => exact ⟨i + 1, v7, _, by omega, by go_num, rfl, by rw [H1.out, HSA.out]; exact hO7, by rw [H2.out, H3.out, HRA.out, HRX.out]; exact hR7, hb07, hN7⟩
    · have hlti : ¬ (i : Int) < (n0 : Int) := by omega
      obtain rfl : i = n0 := by omega
      rw [← HX.out] at hO hR
      have hcl : cur.length ≤ 8 := by
        have h9 := congrArg List.length hO.2.1
        rw [List.length_map, HX.out, rdL_len] at h9
        omega
      have hds := dec_same hl
      have HOKB : Hid (∀ c ∈ encB (decX 8 b).1, mayB (decX 8 b).1 = true → c < 256) := fun c hc hm => enc_lt (fun s hs => (HX.out ▸ rdL_ok hl i a0 e0) s hs) hc
      clear HX hR
      have kM : ∀ W, Below wr.heap.size wr W → _ := fun W hW => rmay_of cur st W ((hO.below hW).seats) (by omega)
      rw [hO.2.1] at kM
      have hcvB : ∀ W, Below wr.heap.size wr W → _ := fun W hW => HCVB.out W (hb.trans (hW.mono hb.size))
      obtain ⟨sa, sc, hst, -⟩ := hO.1.1.shape
      cases hm : mayB (decX 8 b).1 with
      | false =>
        rw [hm] at hds kM
        have hdo : decOk b = false := by rw [hds.1]; rfl
        have E1 : Hid (∀ W, T (.returned (.tuple #[.slice none 0 0, .bool false])) W) := fun W => by
          rw [HT.out]
          refine ⟨_, [], by rw [hdo], SeatsV.nil _, ?_⟩
          rw [if_neg (by simp [hdo])]
        obtain ⟨SB2, hSB2⟩ : ∃ S, S = Wi.str b := ⟨_, rfl⟩
        rw [← hSB2] at hcvB
        clear HT HCVB hO hds hm hdo hSB2 HOKB
        generalize cur.length = LN at hst
        subst hst
        go_wp2
        refine wp_region_L (fun W => (convert 26 9 (.slice bp b.length bc)).run Try.prog W = .ok (.string SB2) W ∧ Below wr.heap.size wr W) [] (by kernel_rfl) ?_
        have yS : (fun W => (convert 26 9 (.slice bp b.length bc)).run Try.prog W = .ok (.string SB2) W ∧ Below wr.heap.size wr W) wr.drew := ⟨hcvB _ (Below.refl _ wr).drew, (Below.refl _ wr).drew⟩
        refine wpAnyL_take 0 rfl (by kernel_rfl) (by kernel_rfl) (by kernel_rfl) (by kernel_rfl) (fun _ _ _ h => h) (by kernel_rfl) (by intro w' hS'; obtain ⟨x0, xb⟩ := hS'; go_simp <;> rfl) yS ?_
        try simp only [List.getElem_toArray, List.getElem_cons_succ, List.getElem_cons_zero, Act.put, List.setIfInBounds_toArray, List.set_cons_zero, List.set_cons_succ]
        refine wpAnyL_one 1 (by kernel_rfl) rfl (by kernel_rfl) ?_
        intro K' hK'
        go_simp
        go_at_call 12
        refine (kM _ yS.2).mono ?_
        rintro e W1 ⟨rfl, hb1'⟩
        have hS1 : (fun W => (convert 26 9 (.slice bp b.length bc)).run Try.prog W = .ok (.string SB2) W ∧ Below wr.heap.size wr W) W1 := ⟨hcvB _ (keep_step yS.2 (Nat.le_refl _) hb1'), keep_step yS.2 (Nat.le_refl _) hb1'⟩
        refine hK'.out _ _ (.inr hS1) ?_
        clear hK' K'
        try simp only [List.getElem_toArray, List.getElem_cons_succ, List.getElem_cons_zero, Act.put, List.setIfInBounds_toArray, List.set_cons_zero, List.set_cons_succ]
        refine wpAnyL_take 2 rfl (by kernel_rfl) (by kernel_rfl) (by kernel_rfl) (by kernel_rfl) (fun _ _ _ h => h) (by kernel_rfl) (by intro w' hS'; obtain ⟨x0, xb⟩ := hS'; go_simp <;> rfl) hS1 ?_
        try simp only [List.getElem_toArray, List.getElem_cons_succ, List.getElem_cons_zero, Act.put, List.setIfInBounds_toArray, List.set_cons_zero, List.set_cons_succ]
        refine wpAnyL_take 3 rfl (by kernel_rfl) (by kernel_rfl) (by kernel_rfl) (by kernel_rfl) (fun _ _ _ h => h) (by kernel_rfl) (by intro w' hS'; obtain ⟨x0, xb⟩ := hS'; go_simp <;> rfl) hS1 ?_
        try simp only [List.getElem_toArray, List.getElem_cons_succ, List.getElem_cons_zero, Act.put, List.setIfInBounds_toArray, List.set_cons_zero, List.set_cons_succ]
        refine wpAnyL_skip 4 rfl (by kernel_rfl) (by kernel_rfl) (by kernel_rfl) (by kernel_rfl) (fun _ _ _ h => h) (by kernel_rfl) hS1 ?_
        try simp only [List.getElem_toArray, List.getElem_cons_succ, List.getElem_cons_zero, Act.put, List.setIfInBounds_toArray, List.set_cons_zero, List.set_cons_succ]
        refine wpAnyL_skip 5 rfl (by kernel_rfl) (by kernel_rfl) (by kernel_rfl) (by kernel_rfl) (fun _ _ _ h => h) (by kernel_rfl) hS1 ?_
        try simp only [List.getElem_toArray, List.getElem_cons_succ, List.getElem_cons_zero, Act.put, List.setIfInBounds_toArray, List.set_cons_zero, List.set_cons_succ]
        refine wpAnyL_skip 6 rfl (by kernel_rfl) (by kernel_rfl) (by kernel_rfl) (by kernel_rfl) (fun _ _ _ h => h) (by kernel_rfl) hS1 ?_
        try simp only [List.getElem_toArray, List.getElem_cons_succ, List.getElem_cons_zero, Act.put, List.setIfInBounds_toArray, List.set_cons_zero, List.set_cons_succ]
        refine wpAnyL_skip 7 rfl (by kernel_rfl) (by kernel_rfl) (by kernel_rfl) (by kernel_rfl) (fun _ _ _ h => h) (by kernel_rfl) hS1 ?_
        try simp only [List.getElem_toArray, List.getElem_cons_succ, List.getElem_cons_zero, Act.put, List.setIfInBounds_toArray, List.set_cons_zero, List.set_cons_succ]
        refine wpAnyL_skip 8 rfl (by kernel_rfl) (by kernel_rfl) (by kernel_rfl) (by kernel_rfl) (fun _ _ _ h => h) (by kernel_rfl) hS1 ?_
        try simp only [List.getElem_toArray, List.getElem_cons_succ, List.getElem_cons_zero, Act.put, List.setIfInBounds_toArray, List.set_cons_zero, List.set_cons_succ]
        refine wpAnyL_skip 9 rfl (by kernel_rfl) (by kernel_rfl) (by kernel_rfl) (by kernel_rfl) (fun _ _ _ h => h) (by kernel_rfl) hS1 ?_
        try simp only [List.getElem_toArray, List.getElem_cons_succ, List.getElem_cons_zero, Act.put, List.setIfInBounds_toArray, List.set_cons_zero, List.set_cons_succ]
        refine wpAnyL_take 10 rfl (by kernel_rfl) (by kernel_rfl) (by kernel_rfl) (by kernel_rfl) (fun _ _ _ h => h) (by kernel_rfl) (by intro w' hS'; obtain ⟨x0, xb⟩ := hS'; go_simp <;> rfl) hS1 ?_
        try simp only [List.getElem_toArray, List.getElem_cons_succ, List.getElem_cons_zero, Act.put, List.setIfInBounds_toArray, List.set_cons_zero, List.set_cons_succ]
        refine wpAnyL_done (by kernel_rfl) (NoPanic.normal ?_) _
        go_wp2
        go_ret2
        exact ⟨E1.out _, hb.trans (hS1.2.mono hb.size)⟩
      | true =>
        rw [hm] at hds kM
        rw [Bool.true_and] at hds
        have kE : ∀ W, Below wr.heap.size wr W → _ := fun W hW => renc_of cur st W ((hO.below hW).seats) (by rw [hO.2.1]; exact hm)
        rw [hO.2.1] at kE
        have HSE : Hid (∀ v W, Bn W v (encB (decX 8 b).1) → (convert 26 9 v).run Try.prog W = .ok (.string (Wi.str (encB (decX 8 b).1))) W) := fun v W hv => Wi.str_of hv (fun c hc => HOKB.out c hc hm)
        have HSEQ : Hid (((Wi.str (encB (decX 8 b).1)).toList == (Wi.str b).toList) = decOk b) := by
          show _ = _
          rw [hds.1]
          by_cases he : encB (decX 8 b).1 = b
          · rw [he]; simp
          · rw [decide_eq_false he, beq_eq_false_iff_ne]
            exact fun h => he (str_inj (fun c hc => HOKB.out c hc hm) hl h)
        have HSV : Hid (∀ W, Below wr.heap.size wr W → SeatsV W st cur) := fun W hW => (hO.below hW).seats
        have HMC : Hid (mes cur = (decX 8 b).1) := hO.2.1
        obtain ⟨SB2, hSB2⟩ : ∃ S, S = Wi.str b := ⟨_, rfl⟩
        obtain ⟨SE2, hSE2⟩ : ∃ S, S = Wi.str (encB (decX 8 b).1) := ⟨_, rfl⟩
        rw [← hSB2] at hcvB HSEQ
        rw [← hSE2] at HSE HSEQ
        obtain ⟨EB, hEB⟩ : ∃ EB, EB = encB (decX 8 b).1 := ⟨_, rfl⟩
        rw [← hEB] at kE HSE
        cases hdo : decOk b with
        | false =>
          have E1 : Hid (∀ W, T (.returned (.tuple #[.slice none 0 0, .bool false])) W) := fun W => by
            rw [HT.out]
            refine ⟨_, [], by rw [hdo], SeatsV.nil _, ?_⟩
            rw [if_neg (by simp [hdo])]
          have hq1 : (SE2.toList == SB2.toList) = false := HSEQ.out.trans hdo
          clear HT HCVB hO hds hm hdo hSB2 hSE2 hEB HOKB HSEQ HSV HMC
          generalize cur.length = LN at hst
          subst hst
          go_wp2
          refine wp_region_L (fun W => (convert 26 9 (.slice bp b.length bc)).run Try.prog W = .ok (.string SB2) W ∧ Below wr.heap.size wr W) [] (by kernel_rfl) ?_
          have yS : (fun W => (convert 26 9 (.slice bp b.length bc)).run Try.prog W = .ok (.string SB2) W ∧ Below wr.heap.size wr W) wr.drew := ⟨hcvB _ (Below.refl _ wr).drew, (Below.refl _ wr).drew⟩
          refine wpAnyL_take 0 rfl (by kernel_rfl) (by kernel_rfl) (by kernel_rfl) (by kernel_rfl) (fun _ _ _ h => h) (by kernel_rfl) (by intro w' hS'; obtain ⟨x0, xb⟩ := hS'; go_simp <;> rfl) yS ?_
          try simp only [List.getElem_toArray, List.getElem_cons_succ, List.getElem_cons_zero, Act.put, List.setIfInBounds_toArray, List.set_cons_zero, List.set_cons_succ]
          refine wpAnyL_one 1 (by kernel_rfl) rfl (by kernel_rfl) ?_
          intro K' hK'
          go_simp
          go_at_call 12
          refine (kM _ yS.2).mono ?_
          rintro e W1 ⟨rfl, hb1'⟩
          have hS1 : (fun W => (convert 26 9 (.slice bp b.length bc)).run Try.prog W = .ok (.string SB2) W ∧ Below wr.heap.size wr W) W1 := ⟨hcvB _ (keep_step yS.2 (Nat.le_refl _) hb1'), keep_step yS.2 (Nat.le_refl _) hb1'⟩
          refine hK'.out _ _ (.inr hS1) ?_
          clear hK' K'
          try simp only [List.getElem_toArray, List.getElem_cons_succ, List.getElem_cons_zero, Act.put, List.setIfInBounds_toArray, List.set_cons_zero, List.set_cons_succ]
          refine wpAnyL_take 2 rfl (by kernel_rfl) (by kernel_rfl) (by kernel_rfl) (by kernel_rfl) (fun _ _ _ h => h) (by kernel_rfl) (by intro w' hS'; obtain ⟨x0, xb⟩ := hS'; go_simp <;> rfl) hS1 ?_
          try simp only [List.getElem_toArray, List.getElem_cons_succ, List.getElem_cons_zero, Act.put, List.setIfInBounds_toArray, List.set_cons_zero, List.set_cons_succ]
          refine wpAnyL_take 3 rfl (by kernel_rfl) (by kernel_rfl) (by kernel_rfl) (by kernel_rfl) (fun _ _ _ h => h) (by kernel_rfl) (by intro w' hS'; obtain ⟨x0, xb⟩ := hS'; go_simp <;> rfl) hS1 ?_
          try simp only [List.getElem_toArray, List.getElem_cons_succ, List.getElem_cons_zero, Act.put, List.setIfInBounds_toArray, List.set_cons_zero, List.set_cons_succ]
          refine wpAnyL_take 4 rfl (by kernel_rfl) (by kernel_rfl) (by kernel_rfl) (by kernel_rfl) (fun _ _ _ h => h) (by kernel_rfl) (by intro w' hS'; obtain ⟨x0, xb⟩ := hS'; go_simp <;> rfl) hS1 ?_
          try simp only [List.getElem_toArray, List.getElem_cons_succ, List.getElem_cons_zero, Act.put, List.setIfInBounds_toArray, List.set_cons_zero, List.set_cons_succ]
          refine wpAnyL_take 7 rfl (by kernel_rfl) (by kernel_rfl) (by kernel_rfl) (by kernel_rfl) (fun _ _ _ h => h) (by kernel_rfl) (by intro w' hS'; obtain ⟨x0, xb⟩ := hS'; go_simp <;> rfl) hS1 ?_
          try simp only [List.getElem_toArray, List.getElem_cons_succ, List.getElem_cons_zero, Act.put, List.setIfInBounds_toArray, List.set_cons_zero, List.set_cons_succ]
          refine wpAnyL_take 8 rfl (by kernel_rfl) (by kernel_rfl) (by kernel_rfl) (by kernel_rfl) (fun _ _ _ h => h) (by kernel_rfl) (by intro w' hS'; obtain ⟨x0, xb⟩ := hS'; go_simp <;> rfl) hS1 ?_
          try simp only [List.getElem_toArray, List.getElem_cons_succ, List.getElem_cons_zero, Act.put, List.setIfInBounds_toArray, List.set_cons_zero, List.set_cons_succ]
          refine wpAnyL_one 5 (by kernel_rfl) rfl (by kernel_rfl) ?_
          intro K' hK'
          go_simp
          go_at_call 18
          refine (kE _ hS1.2).mono ?_
          rintro e W2 ⟨v2, rfl, hB2, hb2'⟩
          have hS2 : (fun W => (convert 26 9 (.slice bp b.length bc)).run Try.prog W = .ok (.string SB2) W ∧ Below wr.heap.size wr W) W2 := ⟨hcvB _ (keep_step hS1.2 (Nat.le_refl _) hb2'), keep_step hS1.2 (Nat.le_refl _) hb2'⟩
          have hcv2 : (convert 26 9 v2).run Try.prog W2 = .ok (.string SE2) W2 := HSE.out _ _ hB2
          refine hK'.out _ _ (.inr hS2) ?_
          clear hK' K'
          try simp only [List.getElem_toArray, List.getElem_cons_succ, List.getElem_cons_zero, Act.put, List.setIfInBounds_toArray, List.set_cons_zero, List.set_cons_succ]
          refine wpAnyL_one 6 (by kernel_rfl) rfl (by kernel_rfl) ?_
          intro K' hK'
          go_simp
          refine hK'.out _ _ (.inr hS2) ?_
          clear hK' K'
          try simp only [List.getElem_toArray, List.getElem_cons_succ, List.getElem_cons_zero, Act.put, List.setIfInBounds_toArray, List.set_cons_zero, List.set_cons_succ]
          refine wpAnyL_take 9 rfl (by kernel_rfl) (by kernel_rfl) (by kernel_rfl) (by kernel_rfl) (fun _ _ _ h => h) (by kernel_rfl) (by intro w' hS'; obtain ⟨x0, xb⟩ := hS'; go_simp <;> rfl) hS2 ?_
          try simp only [List.getElem_toArray, List.getElem_cons_succ, List.getElem_cons_zero, Act.put, List.setIfInBounds_toArray, List.set_cons_zero, List.set_cons_succ]
          refine wpAnyL_take 10 rfl (by kernel_rfl) (by kernel_rfl) (by kernel_rfl) (by kernel_rfl) (fun _ _ _ h => h) (by kernel_rfl) (by intro w' hS'; obtain ⟨x0, xb⟩ := hS'; go_simp <;> rfl) hS2 ?_
          try simp only [List.getElem_toArray, List.getElem_cons_succ, List.getElem_cons_zero, Act.put, List.setIfInBounds_toArray, List.set_cons_zero, List.set_cons_succ]
          refine wpAnyL_done (by kernel_rfl) (NoPanic.normal ?_) _
          go_wp2
          go_ret2
          exact ⟨E1.out _, hb.trans (hS2.2.mono hb.size)⟩
        | true =>
          have E1 : Hid (∀ W, Below wr.heap.size wr W → T (.returned (.tuple #[st, .bool true])) W) := fun W hW => by
            rw [HT.out]
            refine ⟨_, cur, by rw [hdo], HSV.out W hW, ?_⟩
            rw [if_pos hdo, HMC.out, hds.2 hdo]
          have hq1 : (SE2.toList == SB2.toList) = true := HSEQ.out.trans hdo
          clear HT HCVB hO hds hm hdo hSB2 hSE2 hEB HOKB HSEQ HSV HMC
          generalize cur.length = LN at hst
          subst hst
          go_wp2
          refine wp_region_L (fun W => (convert 26 9 (.slice bp b.length bc)).run Try.prog W = .ok (.string SB2) W ∧ Below wr.heap.size wr W) [] (by kernel_rfl) ?_
          have yS : (fun W => (convert 26 9 (.slice bp b.length bc)).run Try.prog W = .ok (.string SB2) W ∧ Below wr.heap.size wr W) wr.drew := ⟨hcvB _ (Below.refl _ wr).drew, (Below.refl _ wr).drew⟩
          refine wpAnyL_take 0 rfl (by kernel_rfl) (by kernel_rfl) (by kernel_rfl) (by kernel_rfl) (fun _ _ _ h => h) (by kernel_rfl) (by intro w' hS'; obtain ⟨x0, xb⟩ := hS'; go_simp <;> rfl) yS ?_
          try simp only [List.getElem_toArray, List.getElem_cons_succ, List.getElem_cons_zero, Act.put, List.setIfInBounds_toArray, List.set_cons_zero, List.set_cons_succ]
          refine wpAnyL_one 1 (by kernel_rfl) rfl (by kernel_rfl) ?_
          intro K' hK'
          go_simp
          go_at_call 12
          refine (kM _ yS.2).mono ?_
          rintro e W1 ⟨rfl, hb1'⟩
          have hS1 : (fun W => (convert 26 9 (.slice bp b.length bc)).run Try.prog W = .ok (.string SB2) W ∧ Below wr.heap.size wr W) W1 := ⟨hcvB _ (keep_step yS.2 (Nat.le_refl _) hb1'), keep_step yS.2 (Nat.le_refl _) hb1'⟩
          refine hK'.out _ _ (.inr hS1) ?_
          clear hK' K'
          try simp only [List.getElem_toArray, List.getElem_cons_succ, List.getElem_cons_zero, Act.put, List.setIfInBounds_toArray, List.set_cons_zero, List.set_cons_succ]
          refine wpAnyL_take 2 rfl (by kernel_rfl) (by kernel_rfl) (by kernel_rfl) (by kernel_rfl) (fun _ _ _ h => h) (by kernel_rfl) (by intro w' hS'; obtain ⟨x0, xb⟩ := hS'; go_simp <;> rfl) hS1 ?_
          try simp only [List.getElem_toArray, List.getElem_cons_succ, List.getElem_cons_zero, Act.put, List.setIfInBounds_toArray, List.set_cons_zero, List.set_cons_succ]
          refine wpAnyL_take 3 rfl (by kernel_rfl) (by kernel_rfl) (by kernel_rfl) (by kernel_rfl) (fun _ _ _ h => h) (by kernel_rfl) (by intro w' hS'; obtain ⟨x0, xb⟩ := hS'; go_simp <;> rfl) hS1 ?_
          try simp only [List.getElem_toArray, List.getElem_cons_succ, List.getElem_cons_zero, Act.put, List.setIfInBounds_toArray, List.set_cons_zero, List.set_cons_succ]
          refine wpAnyL_take 4 rfl (by kernel_rfl) (by kernel_rfl) (by kernel_rfl) (by kernel_rfl) (fun _ _ _ h => h) (by kernel_rfl) (by intro w' hS'; obtain ⟨x0, xb⟩ := hS'; go_simp <;> rfl) hS1 ?_
          try simp only [List.getElem_toArray, List.getElem_cons_succ, List.getElem_cons_zero, Act.put, List.setIfInBounds_toArray, List.set_cons_zero, List.set_cons_succ]
          refine wpAnyL_take 7 rfl (by kernel_rfl) (by kernel_rfl) (by kernel_rfl) (by kernel_rfl) (fun _ _ _ h => h) (by kernel_rfl) (by intro w' hS'; obtain ⟨x0, xb⟩ := hS'; go_simp <;> rfl) hS1 ?_
          try simp only [List.getElem_toArray, List.getElem_cons_succ, List.getElem_cons_zero, Act.put, List.setIfInBounds_toArray, List.set_cons_zero, List.set_cons_succ]
          refine wpAnyL_take 8 rfl (by kernel_rfl) (by kernel_rfl) (by kernel_rfl) (by kernel_rfl) (fun _ _ _ h => h) (by kernel_rfl) (by intro w' hS'; obtain ⟨x0, xb⟩ := hS'; go_simp <;> rfl) hS1 ?_
          try simp only [List.getElem_toArray, List.getElem_cons_succ, List.getElem_cons_zero, Act.put, List.setIfInBounds_toArray, List.set_cons_zero, List.set_cons_succ]
          refine wpAnyL_one 5 (by kernel_rfl) rfl (by kernel_rfl) ?_
          intro K' hK'
          go_simp
          go_at_call 18
          refine (kE _ hS1.2).mono ?_
          rintro e W2 ⟨v2, rfl, hB2, hb2'⟩
          have hS2 : (fun W => (convert 26 9 (.slice bp b.length bc)).run Try.prog W = .ok (.string SB2) W ∧ Below wr.heap.size wr W) W2 := ⟨hcvB _ (keep_step hS1.2 (Nat.le_refl _) hb2'), keep_step hS1.2 (Nat.le_refl _) hb2'⟩
          have hcv2 : (convert 26 9 v2).run Try.prog W2 = .ok (.string SE2) W2 := HSE.out _ _ hB2
          refine hK'.out _ _ (.inr hS2) ?_
          clear hK' K'
          try simp only [List.getElem_toArray, List.getElem_cons_succ, List.getElem_cons_zero, Act.put, List.setIfInBounds_toArray, List.set_cons_zero, List.set_cons_succ]
          refine wpAnyL_one 6 (by kernel_rfl) rfl (by kernel_rfl) ?_
          intro K' hK'
          go_simp
          refine hK'.out _ _ (.inr hS2) ?_
          clear hK' K'
          try simp only [List.getElem_toArray, List.getElem_cons_succ, List.getElem_cons_zero, Act.put, List.setIfInBounds_toArray, List.set_cons_zero, List.set_cons_succ]
          refine wpAnyL_take 9 rfl (by kernel_rfl) (by kernel_rfl) (by kernel_rfl) (by kernel_rfl) (fun _ _ _ h => h) (by kernel_rfl) (by intro w' hS'; obtain ⟨x0, xb⟩ := hS'; go_simp <;> rfl) hS2 ?_
          try simp only [List.getElem_toArray, List.getElem_cons_succ, List.getElem_cons_zero, Act.put, List.setIfInBounds_toArray, List.set_cons_zero, List.set_cons_succ]
          refine wpAnyL_take 10 rfl (by kernel_rfl) (by kernel_rfl) (by kernel_rfl) (by kernel_rfl) (fun _ _ _ h => h) (by kernel_rfl) (by intro w' hS'; obtain ⟨x0, xb⟩ := hS'; go_simp <;> rfl) hS2 ?_
          try simp only [List.getElem_toArray, List.getElem_cons_succ, List.getElem_cons_zero, Act.put, List.setIfInBounds_toArray, List.set_cons_zero, List.set_cons_succ]
          refine wpAnyL_done (by kernel_rfl) (NoPanic.normal ?_) _
          go_wp2
          go_ret2
          exact ⟨E1.out _ hS2.2, hb.trans (hS2.2.mono hb.size)⟩
end Go.Proofs.Ytebkfkijlopmoaa

