import Derived.Test.YtldlimakcdaoaaaHd51
/- The contract of the document's own Decode. -/
namespace Go.Proofs.Ytldlimakcdaoaaa
open Go.RowKit SpanMath ChartMath WireMath
set_option maxRecDepth 100000
set_option linter.unusedSimpArgs false
set_option linter.unusedVariables false

theorem rr_belowN {N n₀ r : Nat} {w w' : World} {l : List Nat} {a b : Nat} (h : Wi.Rr n₀ w r l a b) (hb : Below N w w') (hq : r < N) : Wi.Rr n₀ w' r l a b := by
  obtain ⟨sv, h1, h2, h3, h4⟩ := h
  exact ⟨sv, (hb.block r hq).trans h1, Wi.Bs.below h2 (hb.mono (by omega)), h3, h4⟩
theorem own_keep {N q : Nat} {w w' : World} {v : Value} {l : List Rg} (h : OwnG N w v l) (hk : Wi.Kp q w w') (hne : ∀ k, v.ownBlock = some k → k ≠ q) : OwnG N w' v l :=
  ⟨h.1.same fun k hk' => hk.block k (h.1.lt hk') (fun e => hne k hk' (Option.some.inj e)), h.2⟩
theorem ku_inj {a b : List Nat} (ha : ∀ c ∈ a, c < 256) (hb : ∀ c ∈ b, c < 256) (h : ku a = ku b) : a = b := by rw [← kb_ku ha, h, kb_ku hb]
/-- What the document's own Decode tells. -/
def RDecT (b : List Nat) (e : Ending) (w' : World) : Prop := ∃ v, e = .returned (.tuple #[v, .bool (decOk b)]) ∧ if decOk b then Rd rgE w' v (decX b).1 else v = .slice none 0 0
theorem decOk_ref {b : List Nat} (hl : ∀ c ∈ b, c < 256) : decOk b = (mayC (decX b).1 && decide (ku (encB (decX b).1) = ku b)) := by
  unfold decOk
  cases hm : mayC (decX b).1 with
  | false => simp
  | true =>
    rw [Bool.and_true, Bool.true_and, Bool.eq_iff_iff, decide_eq_true_eq]
    have h := dec_same hl hm
    unfold doneB
    simp only [Bool.and_eq_true, decide_eq_true_eq, Bool.not_eq_true', decide_eq_false_iff_not]
    rw [h]
    exact ⟨fun h => by rw [h], fun h => ku_inj (encB_lt _) hl h⟩

set_option maxHeartbeats 16000000 in
theorem rdec_of (b : List Nat) (bv : Value) (w : World) (hB : Bn w bv b) (hl : ∀ c ∈ b, c < 256) (hlen : b.length ≤ 140737488355328) : Calls Try.prog 35 #[bv] w fun e w' => RDecT b e w' ∧ Below w.heap.size w w' := by
  obtain ⟨T, HT⟩ : ∃ T, Hid (T = RDecT b) := ⟨_, rfl⟩
  rw [← HT.out]
  have hn64 : Wi.nuN b 0 0 64 ≤ 64 := nuN_most (m := 64)
  have hcvB : ∀ W, Below w.heap.size w W → (convert 58 9 bv).run Try.prog W = .ok (.string (bk (ku b))) W := fun W hW => Wi.str_of (hB.below hW) hl
  obtain ⟨bp, bc, hbv, -⟩ := id hB
  subst hbv
  obtain ⟨q1, q2, q3⟩ := one_box w (.cells #[.slice bp b.length bc, .int .i64 0, .int .i64 0] 91)
  have hRr : Wi.Rr w.heap.size (w.alloc (.cells #[.slice bp b.length bc, .int .i64 0, .int .i64 0] 91)) w.heap.size b 0 0 := ⟨_, q2, Wi.Bs.below hB q3, Nat.zero_le _, Nat.le_refl _⟩
  have kN := Wi.rnum_of w.heap.size w.heap.size b 0 0 64 _ hRr hl (by decide)
  obtain ⟨n0, hn0⟩ : ∃ n0, n0 = Wi.nuN b 0 0 64 := ⟨_, rfl⟩
  obtain ⟨a0, ha0⟩ : ∃ a0, a0 = Wi.nuA b 0 0 64 := ⟨_, rfl⟩
  obtain ⟨e0, he0⟩ : ∃ e0, e0 = Wi.nuE b 0 0 64 := ⟨_, rfl⟩
  have HX : Hid (decX b = rdL b n0 a0 e0) := by show _ = _; rw [hn0, ha0, he0]; rfl
  rw [← hn0, ← ha0, ← he0] at kN
  rw [← hn0] at hn64
  clear hn0 ha0 he0 hB q1 q2 hRr
  go_enter Try.func35, Try.ntmps35
  go_wp2_with fail
  obtain ⟨rq, hrq⟩ : ∃ rq, rq = w.heap.size := ⟨_, rfl⟩
  generalize w.alloc (.cells #[.slice bp b.length bc, .int .i64 0, .int .i64 0] 91) = w0 at *
  refine kN.mono ?_
  rintro e w2 ⟨rfl, hR2, kp2⟩
  have hb2 : Below w.heap.size w w2 := q3.trans (kp2.below (Nat.le_refl _) q3.size)
  rw [← hrq] at hR2 ⊢
  have hR2' : Wi.Rr w.heap.size w2 rq b a0 e0 := by rw [hrq] at hR2 ⊢; exact hR2
  have hrqw : w.heap.size ≤ rq := Nat.le_of_eq hrq.symm
  have hrql := hR2'.lt
  obtain ⟨u1, u2, u3⟩ := one_box w2 (.cells #[] 42)
  have hb3 := hb2.trans (u3.mono hb2.size)
  have hR3 := hR2'.below u3
  obtain ⟨N, hN⟩ : ∃ N, N = w2.heap.size := ⟨_, rfl⟩
  have hO3 : OwnG N (w2.alloc (.cells #[] 42)) (.slice (some ⟨w2.heap.size, 0, none⟩) 0 0) [] := ⟨Rk.made (E := rgE) (xs := []) u2 rfl (by unfold maxLen; simp), fun k hk => by cases hk; exact Nat.le_of_eq hN⟩
  have hNw : w.heap.size ≤ N := by rw [hN]; exact hb2.size
  have hrqN : rq < N := by rw [hN]; exact hrql
  have hNz : N ≤ (w2.alloc (.cells #[] 42)).heap.size := by rw [hN]; exact u3.size
  clear hrq hR2 hR2' kN kp2 q3 u1 u2 u3 hN hrql hb2
  go_wp2
  go_loopg [6, 7] n0 (fun gg s6 s7 wr => ∃ (i : Nat) (st : Value), i + gg = n0 ∧ s7 = .int .i64 (i : Int) ∧ st = s6 ∧ OwnG N wr st (rdL b i a0 e0).1 ∧ Wi.Rr w.heap.size wr rq b (rdL b i a0 e0).2.1 (rdL b i a0 e0).2.2 ∧ Below w.heap.size w wr ∧ N ≤ wr.heap.size)
  case atStart => exact ⟨0, _, by simp, rfl, rfl, hO3, hR3, hb3, hNz⟩
  case round =>
    obtain ⟨i, st, hig, rfl, rfl, hO, hR, hb, hNr⟩ := hrel
    clear hR3 hb3 hNz hO3
    by_cases hlt : i < n0
    · have hlti : (i : Int) < (n0 : Int) := by omega
      obtain ⟨s1, s2, s3⟩ := rdL_succ b i a0 e0
      have hLl := rdL_len (b := b) i a0 e0
      have hLi : (rdL b i a0 e0).1.length ≤ 1000 := by omega
      clear hLl
      have H1 : Hid _ := s1
      have H2 : Hid _ := s2
      have H3 : Hid _ := s3
      clear s1 s2 s3 HX hcvB HT
      generalize (rdL b i a0 e0).1 = LL at *
      generalize (rdL b i a0 e0).2.1 = aa at *
      generalize (rdL b i a0 e0).2.2 = ee at *
      obtain ⟨q1, q2, q3⟩ := one_box wr (.cells #[.string { data := #[] }, .string { data := #[] }, .int .i64 0, .int .u64 0] 42)
      obtain ⟨Nx, hNx⟩ : ∃ Nx, Nx = wr.heap.size := ⟨_, rfl⟩
      have HNx : Hid (Nx = wr.heap.size) := hNx
      have hNxw : w.heap.size ≤ Nx := by rw [hNx]; exact hb.size
      have hNxr : Nx ≠ rq := fun h => by have := hR.lt; omega
      have hNxo : ∀ k, st.ownBlock = some k → k ≠ Nx := fun k hk => by have := hO.1.lt hk; omega
      have hrqo : ∀ k, st.ownBlock = some k → k ≠ rq := fun k hk => by have := hO.2 k hk; omega
      rw [← hNx] at q2
      have hN0 : N ≤ (wr.alloc (.cells #[.string { data := #[] }, .string { data := #[] }, .int .i64 0, .int .u64 0] 42)).heap.size := Nat.le_trans hNr q3.size
      have bx0 := q2
      have hR0 := hR.below q3
      have hO0 := hO.below q3
      have hb0 := hb.trans (q3.mono hb.size)
      clear q1 q2 q3 hNx hR hO hb hNr
      obtain ⟨K1, hK1⟩ : ∃ K1, Hid (K1 = ku (Wi.byL b aa ee 64)) := ⟨_, rfl⟩
      obtain ⟨K2, hK2⟩ : ∃ K2, Hid (K2 = ku (Wi.byL b (Wi.byA b aa ee 64) (Wi.byE b aa ee 64) 64)) := ⟨_, rfl⟩
      have hlv1 : ∀ c ∈ Wi.byL b aa ee 64, c < 256 := by_lt hl
      have hlv2 : ∀ c ∈ Wi.byL b (Wi.byA b aa ee 64) (Wi.byE b aa ee 64) 64, c < 256 := by_lt hl
      have HRG : Hid (rgAt b aa ee = ((K1, K2), (Wi.nuN b (Wi.byA b (Wi.byA b aa ee 64) (Wi.byE b aa ee 64) 64) (Wi.byE b (Wi.byA b aa ee 64) (Wi.byE b aa ee 64) 64) 16 : Int), (Wi.uvN b (Wi.nuA b (Wi.byA b (Wi.byA b aa ee 64) (Wi.byE b aa ee 64) 64) (Wi.byE b (Wi.byA b aa ee 64) (Wi.byE b aa ee 64) 64) 16) (Wi.nuE b (Wi.byA b (Wi.byA b aa ee 64) (Wi.byE b aa ee 64) 64) (Wi.byE b (Wi.byA b aa ee 64) (Wi.byE b aa ee 64) 64) 16) : Int))) := by show _ = _; rw [hK1.out, hK2.out]; rfl
      have HRA : Hid (rgA b aa ee = Wi.uvA b (Wi.nuA b (Wi.byA b (Wi.byA b aa ee 64) (Wi.byE b aa ee 64) 64) (Wi.byE b (Wi.byA b aa ee 64) (Wi.byE b aa ee 64) 64) 16) (Wi.nuE b (Wi.byA b (Wi.byA b aa ee 64) (Wi.byE b aa ee 64) 64) (Wi.byE b (Wi.byA b aa ee 64) (Wi.byE b aa ee 64) 64) 16)) := rfl
      have HRX : Hid (rgX b aa ee = Wi.uvE b (Wi.nuA b (Wi.byA b (Wi.byA b aa ee 64) (Wi.byE b aa ee 64) 64) (Wi.byE b (Wi.byA b aa ee 64) (Wi.byE b aa ee 64) 64) 16) (Wi.nuE b (Wi.byA b (Wi.byA b aa ee 64) (Wi.byE b aa ee 64) 64) (Wi.byE b (Wi.byA b aa ee 64) (Wi.byE b aa ee 64) 64) 16)) := rfl
      go_wp2_with fail
      rw [← HNx.out]
      generalize wr.alloc (.cells #[.string { data := #[] }, .string { data := #[] }, .int .i64 0, .int .u64 0] 42) = x0 at *
      refine (Wi.rbytes_of w.heap.size rq b aa ee 64 x0 hR0 hl (by decide) hlen).mono ?_
      rintro e c1 ⟨sv1, rfl, hBv1, hRc1, kpc1⟩
      have bxc1 := (kpc1.block Nx (Array.getElem?_eq_some_iff.1 bx0).1 (fun h => hNxr (Option.some.inj h))).trans bx0
      have hOc1 := own_keep hO0 kpc1 hrqo
      have hbc1 : Below w.heap.size w c1 := hb0.trans (kpc1.below hrqw hb0.size)
      have hNc1 := Nat.le_trans hN0 kpc1.size
      have zc1 : c1.cell? ⟨Nx, 0, none⟩ = some (.string { data := #[] }) := by rw [cells_of_block bxc1]; rfl
      have fc1 : c1.frozen? ⟨Nx, 0, none⟩ = false := frozen_of bxc1 _
      have hcv1 : (convert 58 9 sv1).run Try.prog c1 = .ok (.string (bk K1)) c1 := by rw [hK1.out]; exact Wi.str_of hBv1 hlv1
      clear hBv1 kpc1 hR0 hO0 bx0 hb0
      have bxs1 : (c1.setCell ⟨Nx, 0, none⟩ (.string (bk K1))).heap[Nx]? = some (.cells #[.string (bk K1), .string { data := #[] }, .int .i64 0, .int .u64 0] 42 (0, 0)) := by simp [World.setCell, Array.getElem?_modify, bxc1]
      have hRs1 := hRc1.kp (Wi.Kp.set Nx 0 (.string (bk K1)) c1) hNxw hNxr
      have hOs1 := own_keep hOc1 (Wi.Kp.set Nx 0 (.string (bk K1)) c1) hNxo
      have hbs1 : Below w.heap.size w (c1.setCell ⟨Nx, 0, none⟩ (.string (bk K1))) := hbc1.setCell (p := ⟨Nx, 0, none⟩) hNxw _
      have hNs1 : N ≤ (c1.setCell ⟨Nx, 0, none⟩ (.string (bk K1))).heap.size := by simp [World.setCell]; exact hNc1
      go_wp2_with fail
      generalize c1.setCell ⟨Nx, 0, none⟩ (.string (bk K1)) = x1 at *
      have bx1 := bxs1
      have hR1 := hRs1
      have hO1 := hOs1
      have hb1 := hbs1
      have hN1 := hNs1
      clear bxs1 hRs1 hOs1 hbs1 hNs1 bxc1 hRc1 hOc1 hbc1 zc1 fc1 hcv1 hNc1
      refine (Wi.rbytes_of w.heap.size rq b (Wi.byA b aa ee 64) (Wi.byE b aa ee 64) 64 x1 hR1 hl (by decide) hlen).mono ?_
      rintro e c2 ⟨sv2, rfl, hBv2, hRc2, kpc2⟩
      have bxc2 := (kpc2.block Nx (Array.getElem?_eq_some_iff.1 bx1).1 (fun h => hNxr (Option.some.inj h))).trans bx1
      have hOc2 := own_keep hO1 kpc2 hrqo
      have hbc2 : Below w.heap.size w c2 := hb1.trans (kpc2.below hrqw hb1.size)
      have hNc2 := Nat.le_trans hN1 kpc2.size
      have zc2 : c2.cell? ⟨Nx, 1, none⟩ = some (.string { data := #[] }) := by rw [cells_of_block bxc2]; rfl
      have fc2 : c2.frozen? ⟨Nx, 1, none⟩ = false := frozen_of bxc2 _
      have hcv2 : (convert 58 9 sv2).run Try.prog c2 = .ok (.string (bk K2)) c2 := by rw [hK2.out]; exact Wi.str_of hBv2 hlv2
      clear hBv2 kpc2 hR1 hO1 bx1 hb1
      have bxs2 : (c2.setCell ⟨Nx, 1, none⟩ (.string (bk K2))).heap[Nx]? = some (.cells #[.string (bk K1), .string (bk K2), .int .i64 0, .int .u64 0] 42 (0, 0)) := by simp [World.setCell, Array.getElem?_modify, bxc2]
      have hRs2 := hRc2.kp (Wi.Kp.set Nx 1 (.string (bk K2)) c2) hNxw hNxr
      have hOs2 := own_keep hOc2 (Wi.Kp.set Nx 1 (.string (bk K2)) c2) hNxo
      have hbs2 : Below w.heap.size w (c2.setCell ⟨Nx, 1, none⟩ (.string (bk K2))) := hbc2.setCell (p := ⟨Nx, 1, none⟩) hNxw _
      have hNs2 : N ≤ (c2.setCell ⟨Nx, 1, none⟩ (.string (bk K2))).heap.size := by simp [World.setCell]; exact hNc2
      go_wp2_with fail
      generalize c2.setCell ⟨Nx, 1, none⟩ (.string (bk K2)) = x2 at *
      have bx2 := bxs2
      have hR2 := hRs2
      have hO2 := hOs2
      have hb2 := hbs2
      have hN2 := hNs2
      clear bxs2 hRs2 hOs2 hbs2 hNs2 bxc2 hRc2 hOc2 hbc2 zc2 fc2 hcv2 hNc2
      refine (Wi.rnum_of w.heap.size rq b (Wi.byA b (Wi.byA b aa ee 64) (Wi.byE b aa ee 64) 64) (Wi.byE b (Wi.byA b aa ee 64) (Wi.byE b aa ee 64) 64) 16 x2 hR2 hl (by decide)).mono ?_
      rintro e c3 ⟨rfl, hRc3, kpc3⟩
      have bxc3 := (kpc3.block Nx (Array.getElem?_eq_some_iff.1 bx2).1 (fun h => hNxr (Option.some.inj h))).trans bx2
      have hOc3 := own_keep hO2 kpc3 hrqo
      have hbc3 : Below w.heap.size w c3 := hb2.trans (kpc3.below hrqw hb2.size)
      have hNc3 := Nat.le_trans hN2 kpc3.size
      have zc3 : c3.cell? ⟨Nx, 2, none⟩ = some (.int .i64 0) := by rw [cells_of_block bxc3]; rfl
      have fc3 : c3.frozen? ⟨Nx, 2, none⟩ = false := frozen_of bxc3 _
      clear kpc3 hR2 hO2 bx2 hb2
      have bxs3 : (c3.setCell ⟨Nx, 2, none⟩ (.int .i64 (Wi.nuN b (Wi.byA b (Wi.byA b aa ee 64) (Wi.byE b aa ee 64) 64) (Wi.byE b (Wi.byA b aa ee 64) (Wi.byE b aa ee 64) 64) 16 : Int))).heap[Nx]? = some (.cells #[.string (bk K1), .string (bk K2), .int .i64 (Wi.nuN b (Wi.byA b (Wi.byA b aa ee 64) (Wi.byE b aa ee 64) 64) (Wi.byE b (Wi.byA b aa ee 64) (Wi.byE b aa ee 64) 64) 16 : Int), .int .u64 0] 42 (0, 0)) := by simp [World.setCell, Array.getElem?_modify, bxc3]
      have hRs3 := hRc3.kp (Wi.Kp.set Nx 2 (.int .i64 (Wi.nuN b (Wi.byA b (Wi.byA b aa ee 64) (Wi.byE b aa ee 64) 64) (Wi.byE b (Wi.byA b aa ee 64) (Wi.byE b aa ee 64) 64) 16 : Int)) c3) hNxw hNxr
      have hOs3 := own_keep hOc3 (Wi.Kp.set Nx 2 (.int .i64 (Wi.nuN b (Wi.byA b (Wi.byA b aa ee 64) (Wi.byE b aa ee 64) 64) (Wi.byE b (Wi.byA b aa ee 64) (Wi.byE b aa ee 64) 64) 16 : Int)) c3) hNxo
      have hbs3 : Below w.heap.size w (c3.setCell ⟨Nx, 2, none⟩ (.int .i64 (Wi.nuN b (Wi.byA b (Wi.byA b aa ee 64) (Wi.byE b aa ee 64) 64) (Wi.byE b (Wi.byA b aa ee 64) (Wi.byE b aa ee 64) 64) 16 : Int))) := hbc3.setCell (p := ⟨Nx, 2, none⟩) hNxw _
      have hNs3 : N ≤ (c3.setCell ⟨Nx, 2, none⟩ (.int .i64 (Wi.nuN b (Wi.byA b (Wi.byA b aa ee 64) (Wi.byE b aa ee 64) 64) (Wi.byE b (Wi.byA b aa ee 64) (Wi.byE b aa ee 64) 64) 16 : Int))).heap.size := by simp [World.setCell]; exact hNc3
      go_wp2_with fail
      generalize c3.setCell ⟨Nx, 2, none⟩ (.int .i64 (Wi.nuN b (Wi.byA b (Wi.byA b aa ee 64) (Wi.byE b aa ee 64) 64) (Wi.byE b (Wi.byA b aa ee 64) (Wi.byE b aa ee 64) 64) 16 : Int)) = x3 at *
      have bx3 := bxs3
      have hR3 := hRs3
      have hO3 := hOs3
      have hb3 := hbs3
      have hN3 := hNs3
      clear bxs3 hRs3 hOs3 hbs3 hNs3 bxc3 hRc3 hOc3 hbc3 zc3 fc3 hNc3
      refine (Wi.ruv_of w.heap.size rq b (Wi.nuA b (Wi.byA b (Wi.byA b aa ee 64) (Wi.byE b aa ee 64) 64) (Wi.byE b (Wi.byA b aa ee 64) (Wi.byE b aa ee 64) 64) 16) (Wi.nuE b (Wi.byA b (Wi.byA b aa ee 64) (Wi.byE b aa ee 64) 64) (Wi.byE b (Wi.byA b aa ee 64) (Wi.byE b aa ee 64) 64) 16) x3 hR3 hl).mono ?_
      rintro e c4 ⟨rfl, hRc4, kpc4⟩
      have bxc4 := (kpc4.block Nx (Array.getElem?_eq_some_iff.1 bx3).1 (fun h => hNxr (Option.some.inj h))).trans bx3
      have hOc4 := own_keep hO3 kpc4 hrqo
      have hbc4 : Below w.heap.size w c4 := hb3.trans (kpc4.below hrqw hb3.size)
      have hNc4 := Nat.le_trans hN3 kpc4.size
      have zc4 : c4.cell? ⟨Nx, 3, none⟩ = some (.int .u64 0) := by rw [cells_of_block bxc4]; rfl
      have fc4 : c4.frozen? ⟨Nx, 3, none⟩ = false := frozen_of bxc4 _
      clear kpc4 hR3 hO3 bx3 hb3
      have bxs4 : (c4.setCell ⟨Nx, 3, none⟩ (.int .u64 (Wi.uvN b (Wi.nuA b (Wi.byA b (Wi.byA b aa ee 64) (Wi.byE b aa ee 64) 64) (Wi.byE b (Wi.byA b aa ee 64) (Wi.byE b aa ee 64) 64) 16) (Wi.nuE b (Wi.byA b (Wi.byA b aa ee 64) (Wi.byE b aa ee 64) 64) (Wi.byE b (Wi.byA b aa ee 64) (Wi.byE b aa ee 64) 64) 16) : Int))).heap[Nx]? = some (.cells #[.string (bk K1), .string (bk K2), .int .i64 (Wi.nuN b (Wi.byA b (Wi.byA b aa ee 64) (Wi.byE b aa ee 64) 64) (Wi.byE b (Wi.byA b aa ee 64) (Wi.byE b aa ee 64) 64) 16 : Int), .int .u64 (Wi.uvN b (Wi.nuA b (Wi.byA b (Wi.byA b aa ee 64) (Wi.byE b aa ee 64) 64) (Wi.byE b (Wi.byA b aa ee 64) (Wi.byE b aa ee 64) 64) 16) (Wi.nuE b (Wi.byA b (Wi.byA b aa ee 64) (Wi.byE b aa ee 64) 64) (Wi.byE b (Wi.byA b aa ee 64) (Wi.byE b aa ee 64) 64) 16) : Int)] 42 (0, 0)) := by simp [World.setCell, Array.getElem?_modify, bxc4]
      have hRs4 := hRc4.kp (Wi.Kp.set Nx 3 (.int .u64 (Wi.uvN b (Wi.nuA b (Wi.byA b (Wi.byA b aa ee 64) (Wi.byE b aa ee 64) 64) (Wi.byE b (Wi.byA b aa ee 64) (Wi.byE b aa ee 64) 64) 16) (Wi.nuE b (Wi.byA b (Wi.byA b aa ee 64) (Wi.byE b aa ee 64) 64) (Wi.byE b (Wi.byA b aa ee 64) (Wi.byE b aa ee 64) 64) 16) : Int)) c4) hNxw hNxr
      have hOs4 := own_keep hOc4 (Wi.Kp.set Nx 3 (.int .u64 (Wi.uvN b (Wi.nuA b (Wi.byA b (Wi.byA b aa ee 64) (Wi.byE b aa ee 64) 64) (Wi.byE b (Wi.byA b aa ee 64) (Wi.byE b aa ee 64) 64) 16) (Wi.nuE b (Wi.byA b (Wi.byA b aa ee 64) (Wi.byE b aa ee 64) 64) (Wi.byE b (Wi.byA b aa ee 64) (Wi.byE b aa ee 64) 64) 16) : Int)) c4) hNxo
      have hbs4 : Below w.heap.size w (c4.setCell ⟨Nx, 3, none⟩ (.int .u64 (Wi.uvN b (Wi.nuA b (Wi.byA b (Wi.byA b aa ee 64) (Wi.byE b aa ee 64) 64) (Wi.byE b (Wi.byA b aa ee 64) (Wi.byE b aa ee 64) 64) 16) (Wi.nuE b (Wi.byA b (Wi.byA b aa ee 64) (Wi.byE b aa ee 64) 64) (Wi.byE b (Wi.byA b aa ee 64) (Wi.byE b aa ee 64) 64) 16) : Int))) := hbc4.setCell (p := ⟨Nx, 3, none⟩) hNxw _
      have hNs4 : N ≤ (c4.setCell ⟨Nx, 3, none⟩ (.int .u64 (Wi.uvN b (Wi.nuA b (Wi.byA b (Wi.byA b aa ee 64) (Wi.byE b aa ee 64) 64) (Wi.byE b (Wi.byA b aa ee 64) (Wi.byE b aa ee 64) 64) 16) (Wi.nuE b (Wi.byA b (Wi.byA b aa ee 64) (Wi.byE b aa ee 64) 64) (Wi.byE b (Wi.byA b aa ee 64) (Wi.byE b aa ee 64) 64) 16) : Int))).heap.size := by simp [World.setCell]; exact hNc4
      have f4 := cells_of_block bxs4
      have y0 : (c4.setCell ⟨Nx, 3, none⟩ (.int .u64 (Wi.uvN b (Wi.nuA b (Wi.byA b (Wi.byA b aa ee 64) (Wi.byE b aa ee 64) 64) (Wi.byE b (Wi.byA b aa ee 64) (Wi.byE b aa ee 64) 64) 16) (Wi.nuE b (Wi.byA b (Wi.byA b aa ee 64) (Wi.byE b aa ee 64) 64) (Wi.byE b (Wi.byA b aa ee 64) (Wi.byE b aa ee 64) 64) 16) : Int))).cell? ⟨Nx, 0, none⟩ = some (.string (bk K1)) := by rw [f4]; rfl
      have y1 : (c4.setCell ⟨Nx, 3, none⟩ (.int .u64 (Wi.uvN b (Wi.nuA b (Wi.byA b (Wi.byA b aa ee 64) (Wi.byE b aa ee 64) 64) (Wi.byE b (Wi.byA b aa ee 64) (Wi.byE b aa ee 64) 64) 16) (Wi.nuE b (Wi.byA b (Wi.byA b aa ee 64) (Wi.byE b aa ee 64) 64) (Wi.byE b (Wi.byA b aa ee 64) (Wi.byE b aa ee 64) 64) 16) : Int))).cell? ⟨Nx, 1, none⟩ = some (.string (bk K2)) := by rw [f4]; rfl
      have y2 : (c4.setCell ⟨Nx, 3, none⟩ (.int .u64 (Wi.uvN b (Wi.nuA b (Wi.byA b (Wi.byA b aa ee 64) (Wi.byE b aa ee 64) 64) (Wi.byE b (Wi.byA b aa ee 64) (Wi.byE b aa ee 64) 64) 16) (Wi.nuE b (Wi.byA b (Wi.byA b aa ee 64) (Wi.byE b aa ee 64) 64) (Wi.byE b (Wi.byA b aa ee 64) (Wi.byE b aa ee 64) 64) 16) : Int))).cell? ⟨Nx, 2, none⟩ = some (.int .i64 (Wi.nuN b (Wi.byA b (Wi.byA b aa ee 64) (Wi.byE b aa ee 64) 64) (Wi.byE b (Wi.byA b aa ee 64) (Wi.byE b aa ee 64) 64) 16 : Int)) := by rw [f4]; rfl
      have y3 : (c4.setCell ⟨Nx, 3, none⟩ (.int .u64 (Wi.uvN b (Wi.nuA b (Wi.byA b (Wi.byA b aa ee 64) (Wi.byE b aa ee 64) 64) (Wi.byE b (Wi.byA b aa ee 64) (Wi.byE b aa ee 64) 64) 16) (Wi.nuE b (Wi.byA b (Wi.byA b aa ee 64) (Wi.byE b aa ee 64) 64) (Wi.byE b (Wi.byA b aa ee 64) (Wi.byE b aa ee 64) 64) 16) : Int))).cell? ⟨Nx, 3, none⟩ = some (.int .u64 (Wi.uvN b (Wi.nuA b (Wi.byA b (Wi.byA b aa ee 64) (Wi.byE b aa ee 64) 64) (Wi.byE b (Wi.byA b aa ee 64) (Wi.byE b aa ee 64) 64) 16) (Wi.nuE b (Wi.byA b (Wi.byA b aa ee 64) (Wi.byE b aa ee 64) 64) (Wi.byE b (Wi.byA b aa ee 64) (Wi.byE b aa ee 64) 64) 16) : Int)) := by rw [f4]; rfl
      have hrun : Hid _ := push_rg ((K1, K2), (Wi.nuN b (Wi.byA b (Wi.byA b aa ee 64) (Wi.byE b aa ee 64) 64) (Wi.byE b (Wi.byA b aa ee 64) (Wi.byE b aa ee 64) 64) 16 : Int), (Wi.uvN b (Wi.nuA b (Wi.byA b (Wi.byA b aa ee 64) (Wi.byE b aa ee 64) 64) (Wi.byE b (Wi.byA b aa ee 64) (Wi.byE b aa ee 64) 64) 16) (Wi.nuE b (Wi.byA b (Wi.byA b aa ee 64) (Wi.byE b aa ee 64) 64) (Wi.byE b (Wi.byA b aa ee 64) (Wi.byE b aa ee 64) 64) 16) : Int)) hOs4.1 (by omega)
      obtain ⟨sa, sc, hst, -⟩ := hOs4.1.shape
      obtain ⟨x4, hx4⟩ : ∃ x4, c4.setCell ⟨Nx, 3, none⟩ (.int .u64 (Wi.uvN b (Wi.nuA b (Wi.byA b (Wi.byA b aa ee 64) (Wi.byE b aa ee 64) 64) (Wi.byE b (Wi.byA b aa ee 64) (Wi.byE b aa ee 64) 64) 16) (Wi.nuE b (Wi.byA b (Wi.byA b aa ee 64) (Wi.byE b aa ee 64) 64) (Wi.byE b (Wi.byA b aa ee 64) (Wi.byE b aa ee 64) 64) 16) : Int)) = x4 := ⟨_, rfl⟩
      rw [hx4] at bxs4 hRs4 hOs4 hbs4 hNs4 y0 y1 y2 y3 hrun
      clear bxs4 bxc4 hRc4 hOc4 hbc4 hNc4 f4
      have HR1 : Hid _ := HRG
      generalize LL.length = LN at *
      subst hst
      go_wp2_with (at_builtin; refine wp_by rfl _ _ _ rfl _ _ rfl rfl hrun.out ?_)
      intro v6 w6 hp6
      obtain ⟨hO6, hb6⟩ := hOs4.push hNs4 hp6
      have hR6 := rr_belowN hRs4 hb6 hrqN
      clear hOs4 hrun hp6 hRs4 y0 y1 y2 y3
      go_wp2
      go_roundg (gk - 1)
      case measure => omega
      case rel => exact ⟨i + 1, v6, by omega, by go_num, rfl, by rw [H1.out, HRG.out]; exact hO6, by rw [H2.out, H3.out, HRA.out, HRX.out]; exact hR6, hbs4.trans (hb6.mono hNw), Nat.le_trans hNs4 hb6.size⟩
    · have hlti : ¬ (i : Int) < (n0 : Int) := by omega
      obtain rfl : i = n0 := by omega
      rw [← HX.out] at hO
      have hok := decOk_ref hl
      clear HX hR
      obtain ⟨KB, hKB⟩ : ∃ KB, KB = ku b := ⟨_, rfl⟩
      rw [← hKB] at hok hcvB
      obtain ⟨L, hL⟩ : ∃ L, L = (decX b).1 := ⟨_, rfl⟩
      have HLD : Hid (L = (decX b).1) := hL
      rw [← hL] at hok hO
      clear hKB hL
      have HOK : Hid _ := hok
      clear hok
      have hcv := hcvB
      clear hcvB
      obtain ⟨sa, sc, hst, -⟩ := hO.1.shape
      cases hm : mayC L with
      | false =>
        rw [hm, Bool.false_and] at HOK
        have E1 : Hid (∀ W, T (.returned (.tuple #[.slice none 0 0, .bool false])) W) := fun W => by
          rw [HT.out]
          refine ⟨_, by rw [HOK.out], ?_⟩
          rw [HOK.out]
          rfl
        clear HT HOK HLD
        subst hst
        go_wp2_with fail
        refine wp_region_L (fun W => (convert 58 9 (.slice bp b.length bc)).run Try.prog W = .ok (.string (bk KB)) W) [] (by kernel_rfl) ?_
        have hbd : Below w.heap.size w wr.drew := hb.drew
        have hOd := hO.below (Below.refl _ wr).drew
        generalize wr.drew = wd at *
        have kM := rmay_of L _ wd hOd.1.rd.cv
        rw [hm] at kM
        have yS : (fun W => (convert 58 9 (.slice bp b.length bc)).run Try.prog W = .ok (.string (bk KB)) W) wd := hcv wd hbd
        refine wpAnyL_take 0 rfl (by kernel_rfl) (by kernel_rfl) (by kernel_rfl) (by kernel_rfl) (fun _ _ _ h => h) (by kernel_rfl) (by intro w' hS'; obtain a0 := hS'; go_simp <;> rfl) yS ?_
        try simp only [List.getElem_toArray, List.getElem_cons_succ, List.getElem_cons_zero, Act.put, List.setIfInBounds_toArray, List.set_cons_zero, List.set_cons_succ]
        refine wpAnyL_one 1 (by kernel_rfl) rfl (by kernel_rfl) ?_
        intro K' hK'
        go_simp
        go_at_call 21
        refine kM.mono ?_
        rintro e w3 ⟨rfl, hb3'⟩
        have hbz3 := hbd.trans (hb3'.mono hbd.size)
        have yS3 : (fun W => (convert 58 9 (.slice bp b.length bc)).run Try.prog W = .ok (.string (bk KB)) W) w3 := hcv w3 hbz3
        refine hK'.out _ _ (.inr yS3) ?_
        clear hK' K'
        try simp only [List.getElem_toArray, List.getElem_cons_succ, List.getElem_cons_zero, Act.put, List.setIfInBounds_toArray, List.set_cons_zero, List.set_cons_succ]
        refine wpAnyL_take 2 rfl (by kernel_rfl) (by kernel_rfl) (by kernel_rfl) (by kernel_rfl) (fun _ _ _ h => h) (by kernel_rfl) (by intro w' hS'; obtain a0 := hS'; go_simp <;> rfl) yS3 ?_
        try simp only [List.getElem_toArray, List.getElem_cons_succ, List.getElem_cons_zero, Act.put, List.setIfInBounds_toArray, List.set_cons_zero, List.set_cons_succ]
        refine wpAnyL_take 3 rfl (by kernel_rfl) (by kernel_rfl) (by kernel_rfl) (by kernel_rfl) (fun _ _ _ h => h) (by kernel_rfl) (by intro w' hS'; obtain a0 := hS'; go_simp <;> rfl) yS3 ?_
        try simp only [List.getElem_toArray, List.getElem_cons_succ, List.getElem_cons_zero, Act.put, List.setIfInBounds_toArray, List.set_cons_zero, List.set_cons_succ]
        refine wpAnyL_skip 4 rfl (by kernel_rfl) (by kernel_rfl) (by kernel_rfl) (by kernel_rfl) (fun _ _ _ h => h) (by kernel_rfl) yS3 ?_
        try simp only [List.getElem_toArray, List.getElem_cons_succ, List.getElem_cons_zero, Act.put, List.setIfInBounds_toArray, List.set_cons_zero, List.set_cons_succ]
        refine wpAnyL_skip 5 rfl (by kernel_rfl) (by kernel_rfl) (by kernel_rfl) (by kernel_rfl) (fun _ _ _ h => h) (by kernel_rfl) yS3 ?_
        try simp only [List.getElem_toArray, List.getElem_cons_succ, List.getElem_cons_zero, Act.put, List.setIfInBounds_toArray, List.set_cons_zero, List.set_cons_succ]
        refine wpAnyL_skip 6 rfl (by kernel_rfl) (by kernel_rfl) (by kernel_rfl) (by kernel_rfl) (fun _ _ _ h => h) (by kernel_rfl) yS3 ?_
        try simp only [List.getElem_toArray, List.getElem_cons_succ, List.getElem_cons_zero, Act.put, List.setIfInBounds_toArray, List.set_cons_zero, List.set_cons_succ]
        refine wpAnyL_skip 7 rfl (by kernel_rfl) (by kernel_rfl) (by kernel_rfl) (by kernel_rfl) (fun _ _ _ h => h) (by kernel_rfl) yS3 ?_
        try simp only [List.getElem_toArray, List.getElem_cons_succ, List.getElem_cons_zero, Act.put, List.setIfInBounds_toArray, List.set_cons_zero, List.set_cons_succ]
        refine wpAnyL_skip 8 rfl (by kernel_rfl) (by kernel_rfl) (by kernel_rfl) (by kernel_rfl) (fun _ _ _ h => h) (by kernel_rfl) yS3 ?_
        try simp only [List.getElem_toArray, List.getElem_cons_succ, List.getElem_cons_zero, Act.put, List.setIfInBounds_toArray, List.set_cons_zero, List.set_cons_succ]
        refine wpAnyL_skip 9 rfl (by kernel_rfl) (by kernel_rfl) (by kernel_rfl) (by kernel_rfl) (fun _ _ _ h => h) (by kernel_rfl) yS3 ?_
        try simp only [List.getElem_toArray, List.getElem_cons_succ, List.getElem_cons_zero, Act.put, List.setIfInBounds_toArray, List.set_cons_zero, List.set_cons_succ]
        refine wpAnyL_take 10 rfl (by kernel_rfl) (by kernel_rfl) (by kernel_rfl) (by kernel_rfl) (fun _ _ _ h => h) (by kernel_rfl) (by intro w' hS'; obtain a0 := hS'; go_simp <;> rfl) yS3 ?_
        try simp only [List.getElem_toArray, List.getElem_cons_succ, List.getElem_cons_zero, Act.put, List.setIfInBounds_toArray, List.set_cons_zero, List.set_cons_succ]
        refine wpAnyL_done (by kernel_rfl) (NoPanic.normal ?_) _
        go_wp2
        go_ret2
        exact ⟨E1.out _, hbz3⟩
      | true =>
        have hC := mayC_iff.1 hm
        rw [hm, Bool.true_and] at HOK
        obtain ⟨KE, hKE⟩ : ∃ KE, bk (ku (encB L)) = bk KE ∧ KE = ku (encB L) := ⟨_, rfl, rfl⟩
        have hKE2 := hKE.2
        replace hKE : Wi.str (encB L) = bk KE := hKE.1
        rw [← hKE2] at HOK
        clear hKE2
        by_cases hs : KE = KB
        · have ds : decide (KE = KB) = true := decide_eq_true hs
          rw [ds] at HOK
          have E1 : Hid (∀ W, Below wr.heap.size wr W → T (.returned (.tuple #[st, .bool true])) W) := fun W hW => by
            rw [HT.out]
            refine ⟨_, by rw [HOK.out], ?_⟩
            rw [HOK.out, if_pos rfl, ← HLD.out]
            exact (hO.below hW).1.rd
          clear HT HOK HLD hs
          subst hst
          go_wp2_with fail
          refine wp_region_L (fun W => (convert 58 9 (.slice bp b.length bc)).run Try.prog W = .ok (.string (bk KB)) W) [] (by kernel_rfl) ?_
          have hbd : Below w.heap.size w wr.drew := hb.drew
          have hOd := hO.below (Below.refl _ wr).drew
          have hbw : Below wr.heap.size wr wr.drew := (Below.refl _ wr).drew
          generalize wr.drew = wd at *
          have kM := rmay_of L _ wd hOd.1.rd.cv
          rw [hm] at kM
          have yS : (fun W => (convert 58 9 (.slice bp b.length bc)).run Try.prog W = .ok (.string (bk KB)) W) wd := hcv wd hbd
          refine wpAnyL_take 0 rfl (by kernel_rfl) (by kernel_rfl) (by kernel_rfl) (by kernel_rfl) (fun _ _ _ h => h) (by kernel_rfl) (by intro w' hS'; obtain a0 := hS'; go_simp <;> rfl) yS ?_
          try simp only [List.getElem_toArray, List.getElem_cons_succ, List.getElem_cons_zero, Act.put, List.setIfInBounds_toArray, List.set_cons_zero, List.set_cons_succ]
          refine wpAnyL_one 1 (by kernel_rfl) rfl (by kernel_rfl) ?_
          intro K' hK'
          go_simp
          go_at_call 21
          refine kM.mono ?_
          rintro e w3 ⟨rfl, hb3'⟩
          have hbz3 := hbd.trans (hb3'.mono hbd.size)
          have yS3 : (fun W => (convert 58 9 (.slice bp b.length bc)).run Try.prog W = .ok (.string (bk KB)) W) w3 := hcv w3 hbz3
          refine hK'.out _ _ (.inr yS3) ?_
          clear hK' K'
          try simp only [List.getElem_toArray, List.getElem_cons_succ, List.getElem_cons_zero, Act.put, List.setIfInBounds_toArray, List.set_cons_zero, List.set_cons_succ]
          refine wpAnyL_take 2 rfl (by kernel_rfl) (by kernel_rfl) (by kernel_rfl) (by kernel_rfl) (fun _ _ _ h => h) (by kernel_rfl) (by intro w' hS'; obtain a0 := hS'; go_simp <;> rfl) yS3 ?_
          try simp only [List.getElem_toArray, List.getElem_cons_succ, List.getElem_cons_zero, Act.put, List.setIfInBounds_toArray, List.set_cons_zero, List.set_cons_succ]
          refine wpAnyL_take 3 rfl (by kernel_rfl) (by kernel_rfl) (by kernel_rfl) (by kernel_rfl) (fun _ _ _ h => h) (by kernel_rfl) (by intro w' hS'; obtain a0 := hS'; go_simp <;> rfl) yS3 ?_
          try simp only [List.getElem_toArray, List.getElem_cons_succ, List.getElem_cons_zero, Act.put, List.setIfInBounds_toArray, List.set_cons_zero, List.set_cons_succ]
          refine wpAnyL_take 4 rfl (by kernel_rfl) (by kernel_rfl) (by kernel_rfl) (by kernel_rfl) (fun _ _ _ h => h) (by kernel_rfl) (by intro w' hS'; obtain a0 := hS'; go_simp <;> rfl) yS3 ?_
          try simp only [List.getElem_toArray, List.getElem_cons_succ, List.getElem_cons_zero, Act.put, List.setIfInBounds_toArray, List.set_cons_zero, List.set_cons_succ]
          refine wpAnyL_take 7 rfl (by kernel_rfl) (by kernel_rfl) (by kernel_rfl) (by kernel_rfl) (fun _ _ _ h => h) (by kernel_rfl) (by intro w' hS'; obtain a0 := hS'; go_simp <;> rfl) yS3 ?_
          try simp only [List.getElem_toArray, List.getElem_cons_succ, List.getElem_cons_zero, Act.put, List.setIfInBounds_toArray, List.set_cons_zero, List.set_cons_succ]
          refine wpAnyL_take 8 rfl (by kernel_rfl) (by kernel_rfl) (by kernel_rfl) (by kernel_rfl) (fun _ _ _ h => h) (by kernel_rfl) (by intro w' hS'; obtain a0 := hS'; go_simp <;> rfl) yS3 ?_
          try simp only [List.getElem_toArray, List.getElem_cons_succ, List.getElem_cons_zero, Act.put, List.setIfInBounds_toArray, List.set_cons_zero, List.set_cons_succ]
          refine wpAnyL_one 5 (by kernel_rfl) rfl (by kernel_rfl) ?_
          intro K' hK'
          go_simp
          have kE := renc_of L _ w3 ((hOd.below hb3').1.rd.cv) hC
          go_at_call 34
          refine kE.mono ?_
          rintro e w4 ⟨r4, rfl, hB4, hb4'⟩
          have hbz4 := hbz3.trans (hb4'.mono hbz3.size)
          have yS4 : (fun W => (convert 58 9 (.slice bp b.length bc)).run Try.prog W = .ok (.string (bk KB)) W) w4 := hcv w4 hbz4
          have hcr : (convert 58 9 r4).run Try.prog w4 = .ok (.string (bk KE)) w4 := by rw [← hKE]; exact Wi.str_of hB4 (encB_lt L)
          refine hK'.out _ _ (.inr yS4) ?_
          clear hK' K'
          try simp only [List.getElem_toArray, List.getElem_cons_succ, List.getElem_cons_zero, Act.put, List.setIfInBounds_toArray, List.set_cons_zero, List.set_cons_succ]
          refine wpAnyL_one 6 (by kernel_rfl) rfl (by kernel_rfl) ?_
          intro K' hK'
          go_simp
          refine hK'.out _ _ (.inr yS4) ?_
          clear hK' K'
          try simp only [List.getElem_toArray, List.getElem_cons_succ, List.getElem_cons_zero, Act.put, List.setIfInBounds_toArray, List.set_cons_zero, List.set_cons_succ]
          refine wpAnyL_take 9 rfl (by kernel_rfl) (by kernel_rfl) (by kernel_rfl) (by kernel_rfl) (fun _ _ _ h => h) (by kernel_rfl) (by intro w' hS'; obtain a0 := hS'; go_simp <;> rfl) yS4 ?_
          try simp only [List.getElem_toArray, List.getElem_cons_succ, List.getElem_cons_zero, Act.put, List.setIfInBounds_toArray, List.set_cons_zero, List.set_cons_succ]
          refine wpAnyL_take 10 rfl (by kernel_rfl) (by kernel_rfl) (by kernel_rfl) (by kernel_rfl) (fun _ _ _ h => h) (by kernel_rfl) (by intro w' hS'; obtain a0 := hS'; go_simp <;> rfl) yS4 ?_
          try simp only [List.getElem_toArray, List.getElem_cons_succ, List.getElem_cons_zero, Act.put, List.setIfInBounds_toArray, List.set_cons_zero, List.set_cons_succ]
          refine wpAnyL_done (by kernel_rfl) (NoPanic.normal ?_) _
          have hbw3 := hbw.trans (hb3'.mono hbw.size)
          have hbw4 := hbw3.trans (hb4'.mono hbw3.size)
          have E2 : Hid _ := E1.out w4 hbw4
          clear E1
          go_wp2
          go_ret2
          exact ⟨E2.out, hbz4⟩
        · have ds : decide (KE = KB) = false := decide_eq_false hs
          rw [ds] at HOK
          have E1 : Hid (∀ W, T (.returned (.tuple #[.slice none 0 0, .bool false])) W) := fun W => by
            rw [HT.out]
            refine ⟨_, by rw [HOK.out], ?_⟩
            rw [HOK.out]
            rfl
          clear HT HOK HLD hs
          subst hst
          go_wp2_with fail
          refine wp_region_L (fun W => (convert 58 9 (.slice bp b.length bc)).run Try.prog W = .ok (.string (bk KB)) W) [] (by kernel_rfl) ?_
          have hbd : Below w.heap.size w wr.drew := hb.drew
          have hOd := hO.below (Below.refl _ wr).drew
          generalize wr.drew = wd at *
          have kM := rmay_of L _ wd hOd.1.rd.cv
          rw [hm] at kM
          have yS : (fun W => (convert 58 9 (.slice bp b.length bc)).run Try.prog W = .ok (.string (bk KB)) W) wd := hcv wd hbd
          refine wpAnyL_take 0 rfl (by kernel_rfl) (by kernel_rfl) (by kernel_rfl) (by kernel_rfl) (fun _ _ _ h => h) (by kernel_rfl) (by intro w' hS'; obtain a0 := hS'; go_simp <;> rfl) yS ?_
          try simp only [List.getElem_toArray, List.getElem_cons_succ, List.getElem_cons_zero, Act.put, List.setIfInBounds_toArray, List.set_cons_zero, List.set_cons_succ]
          refine wpAnyL_one 1 (by kernel_rfl) rfl (by kernel_rfl) ?_
          intro K' hK'
          go_simp
          go_at_call 21
          refine kM.mono ?_
          rintro e w3 ⟨rfl, hb3'⟩
          have hbz3 := hbd.trans (hb3'.mono hbd.size)
          have yS3 : (fun W => (convert 58 9 (.slice bp b.length bc)).run Try.prog W = .ok (.string (bk KB)) W) w3 := hcv w3 hbz3
          refine hK'.out _ _ (.inr yS3) ?_
          clear hK' K'
          try simp only [List.getElem_toArray, List.getElem_cons_succ, List.getElem_cons_zero, Act.put, List.setIfInBounds_toArray, List.set_cons_zero, List.set_cons_succ]
          refine wpAnyL_take 2 rfl (by kernel_rfl) (by kernel_rfl) (by kernel_rfl) (by kernel_rfl) (fun _ _ _ h => h) (by kernel_rfl) (by intro w' hS'; obtain a0 := hS'; go_simp <;> rfl) yS3 ?_
          try simp only [List.getElem_toArray, List.getElem_cons_succ, List.getElem_cons_zero, Act.put, List.setIfInBounds_toArray, List.set_cons_zero, List.set_cons_succ]
          refine wpAnyL_take 3 rfl (by kernel_rfl) (by kernel_rfl) (by kernel_rfl) (by kernel_rfl) (fun _ _ _ h => h) (by kernel_rfl) (by intro w' hS'; obtain a0 := hS'; go_simp <;> rfl) yS3 ?_
          try simp only [List.getElem_toArray, List.getElem_cons_succ, List.getElem_cons_zero, Act.put, List.setIfInBounds_toArray, List.set_cons_zero, List.set_cons_succ]
          refine wpAnyL_take 4 rfl (by kernel_rfl) (by kernel_rfl) (by kernel_rfl) (by kernel_rfl) (fun _ _ _ h => h) (by kernel_rfl) (by intro w' hS'; obtain a0 := hS'; go_simp <;> rfl) yS3 ?_
          try simp only [List.getElem_toArray, List.getElem_cons_succ, List.getElem_cons_zero, Act.put, List.setIfInBounds_toArray, List.set_cons_zero, List.set_cons_succ]
          refine wpAnyL_take 7 rfl (by kernel_rfl) (by kernel_rfl) (by kernel_rfl) (by kernel_rfl) (fun _ _ _ h => h) (by kernel_rfl) (by intro w' hS'; obtain a0 := hS'; go_simp <;> rfl) yS3 ?_
          try simp only [List.getElem_toArray, List.getElem_cons_succ, List.getElem_cons_zero, Act.put, List.setIfInBounds_toArray, List.set_cons_zero, List.set_cons_succ]
          refine wpAnyL_take 8 rfl (by kernel_rfl) (by kernel_rfl) (by kernel_rfl) (by kernel_rfl) (fun _ _ _ h => h) (by kernel_rfl) (by intro w' hS'; obtain a0 := hS'; go_simp <;> rfl) yS3 ?_
          try simp only [List.getElem_toArray, List.getElem_cons_succ, List.getElem_cons_zero, Act.put, List.setIfInBounds_toArray, List.set_cons_zero, List.set_cons_succ]
          refine wpAnyL_one 5 (by kernel_rfl) rfl (by kernel_rfl) ?_
          intro K' hK'
          go_simp
          have kE := renc_of L _ w3 ((hOd.below hb3').1.rd.cv) hC
          go_at_call 34
          refine kE.mono ?_
          rintro e w4 ⟨r4, rfl, hB4, hb4'⟩
          have hbz4 := hbz3.trans (hb4'.mono hbz3.size)
          have yS4 : (fun W => (convert 58 9 (.slice bp b.length bc)).run Try.prog W = .ok (.string (bk KB)) W) w4 := hcv w4 hbz4
          have hcr : (convert 58 9 r4).run Try.prog w4 = .ok (.string (bk KE)) w4 := by rw [← hKE]; exact Wi.str_of hB4 (encB_lt L)
          refine hK'.out _ _ (.inr yS4) ?_
          clear hK' K'
          try simp only [List.getElem_toArray, List.getElem_cons_succ, List.getElem_cons_zero, Act.put, List.setIfInBounds_toArray, List.set_cons_zero, List.set_cons_succ]
          refine wpAnyL_one 6 (by kernel_rfl) rfl (by kernel_rfl) ?_
          intro K' hK'
          go_simp
          refine hK'.out _ _ (.inr yS4) ?_
          clear hK' K'
          try simp only [List.getElem_toArray, List.getElem_cons_succ, List.getElem_cons_zero, Act.put, List.setIfInBounds_toArray, List.set_cons_zero, List.set_cons_succ]
          refine wpAnyL_take 9 rfl (by kernel_rfl) (by kernel_rfl) (by kernel_rfl) (by kernel_rfl) (fun _ _ _ h => h) (by kernel_rfl) (by intro w' hS'; obtain a0 := hS'; go_simp <;> rfl) yS4 ?_
          try simp only [List.getElem_toArray, List.getElem_cons_succ, List.getElem_cons_zero, Act.put, List.setIfInBounds_toArray, List.set_cons_zero, List.set_cons_succ]
          refine wpAnyL_take 10 rfl (by kernel_rfl) (by kernel_rfl) (by kernel_rfl) (by kernel_rfl) (fun _ _ _ h => h) (by kernel_rfl) (by intro w' hS'; obtain a0 := hS'; go_simp <;> rfl) yS4 ?_
          try simp only [List.getElem_toArray, List.getElem_cons_succ, List.getElem_cons_zero, Act.put, List.setIfInBounds_toArray, List.set_cons_zero, List.set_cons_succ]
          refine wpAnyL_done (by kernel_rfl) (NoPanic.normal ?_) _
          go_wp2
          go_ret2
          exact ⟨E1.out _, hbz4⟩
end Go.Proofs.Ytldlimakcdaoaaa

