import Derived.Test.YtmmonehpfmlmeaaHl46
/- The law RlogKeeps. -/
namespace Go.Proofs.Ytmmonehpfmlmeaa
open Go.RowKit QuorumMath RlogMath
set_option maxRecDepth 100000
set_option linter.unusedSimpArgs false
set_option linter.unusedVariables false

set_option maxHeartbeats 16000000 in
theorem keeps_law (b : Ez) (zs : List Ez) (lv : Value) (at_ : Ez) (ys : List Ez) (yv : Value) (w : World) (hD : DataV w b) (hL : EntsV w lv zs) (hbo : EzOk b) (hok : ∀ z ∈ zs, EzOk z) (hlen : zs.length ≤ 2000000) (hdl : b.1.data.length ≤ 1000000000) (hdz : ∀ z ∈ zs, z.1.data.length ≤ 1000000000) (hAD : DataV w at_) (hAo : EzOk at_) (hAl : at_.1.data.length ≤ 1000000000) (hY : EntsV w yv ys) (hoy : ∀ z ∈ ys, EzOk z) (hleny : ys.length ≤ 2000000) (hdy : ∀ z ∈ ys, z.1.data.length ≤ 1000000000) : Calls Try.prog 8 #[lgv b lv, ev at_, yv] w fun e w' => e = .returned (.bool true) ∧ Below w.heap.size w w' := by
  have ka := fun W => awake_of W
  obtain ⟨hs, hb0, cl⟩ := lg_box w b lv
  obtain ⟨q1, q2, q3⟩ := one_box (w.alloc (lgc b lv)) (.cells #[.int .u64 (at_.1.idx : Int), .int .u64 (at_.1.term : Int), .int .i64 at_.1.kind, .slice at_.2.1 at_.2.2.1 at_.2.2.2] 25)
  rw [hs] at q1 q2 q3
  have hbB := hb0.trans (q3.mono (Nat.le_succ _))
  have KL1 : Hid (∀ W, Below w.heap.size w W → _) := fun W hW => light_of b zs lv W (hL.below hW) (by omega) (fun z hz => by have := hdz z hz; omega)
  have KL2 : Hid (∀ W, Below w.heap.size w W → _) := fun W hW => light_of (zeroMe, (none, 0, 0)) ys yv W (hY.below hW) (by omega) (fun z hz => by have := hdy z hz; omega)
  have KM : Hid (∀ W, Below w.heap.size w W → _) := fun W hW => pmerge_of b zs lv at_.1.idx at_.1.term ys yv W (hD.below hW) (hL.below hW) (hY.below hW) hbo hok hoy hAo.1 hlen hleny hdl hdz hdy
  have KRL : Hid (∀ W, Below w.heap.size w W → _) := fun W hW => rlast_of b zs lv W (hL.below hW) (by omega)
  have hRok := merge_okM (b := b.1) (l := mes zs) (x := at_.1.idx) (t := at_.1.term) (es := mes ys) ⟨hbo.1, hbo.2.1, hbo.2.2, hdl⟩ (mes_okM hok hdz) (mes_okM hoy hdy)
  have hRk : Hid (_ ∨ _) := mrg_kept (b := b.1) (l := mes zs) (x := at_.1.idx) (t := at_.1.term) (es := mes ys)
  have HYR : Hid (Rd entE w yv ys) := hY.1
  have HLR : Hid (EntsV w lv zs) := hL
  have HBD : Hid (DataV w b) := hD
  have hmz : (mes zs).length = zs.length := by simp [mes]
  have hmy : (mes ys).length = ys.length := by simp [mes]
  rw [hmz, hmy] at hRok
  generalize mergeM b.1 (mes zs) at_.1.idx at_.1.term (mes ys) = R at *
  obtain ⟨rc, rm, rl, rn⟩ := R
  obtain ⟨hRo, hRl, hRn⟩ := hRok
  obtain ⟨LA, hLA⟩ : ∃ LA, LA = lastM b.1 (mes zs) := ⟨_, rfl⟩
  rw [← hLA] at KRL
  have HLA : Hid (LA = lastM b.1 (mes zs)) := hLA
  obtain ⟨l1i, l1t⟩ := LA
  dsimp only at hRo hRl hRn hRk
  obtain ⟨la, lc, rfl, -, -⟩ := hL.1.shape
  obtain ⟨ya, yc, rfl, -, -⟩ := hY.1.shape
  have HB : Hid (EzOk b ∧ (∀ z ∈ zs, EzOk z)) := ⟨hbo, hok⟩
  obtain ⟨bm, sa, sn, sc⟩ := b
  obtain ⟨⟨x, t, ak, ad⟩, aa, an, ac⟩ := at_
  dsimp only [lgc, lgv, ev, lastV] at *
  obtain ⟨BM, HBM⟩ : ∃ BM, Hid (BM = bm) := ⟨_, rfl⟩
  rw [← HBM.out] at hRk HLA
  obtain ⟨ix, tm, kd, dt⟩ := bm
  dsimp only at *
  have HCL0 : Hid (∀ W, Below (w.heap.size + 2) ((w.alloc (.cells #[.int .u64 (ix : Int), .int .u64 (tm : Int), .int .i64 kd, .slice sa sn sc, .slice la zs.length lc] 28)).alloc (.cells #[.int .u64 (x : Int), .int .u64 (t : Int), .int .i64 ak, .slice aa an ac] 25)) W → W.cell? ⟨w.heap.size, 0, none⟩ = some (.int .u64 (ix : Int)) ∧ W.cell? ⟨w.heap.size, 1, none⟩ = some (.int .u64 (tm : Int)) ∧ W.cell? ⟨w.heap.size, 2, none⟩ = some (.int .i64 kd) ∧ W.cell? ⟨w.heap.size, 3, none⟩ = some (.slice sa sn sc) ∧ W.cell? ⟨w.heap.size, 4, none⟩ = some (.slice la zs.length lc) ∧ W.cell? ⟨w.heap.size + 1, 0, none⟩ = some (.int .u64 (x : Int)) ∧ W.cell? ⟨w.heap.size + 1, 1, none⟩ = some (.int .u64 (t : Int))) := fun W hW => by
    have h1 := (hW.block (w.heap.size + 1) (by omega)).trans q2
    obtain ⟨e0, e1, e2, e3, e4⟩ := cl W (q3.trans (hW.mono (by omega)))
    exact ⟨e0, e1, e2, e3, e4, by rw [cells_of_block h1]; rfl, by rw [cells_of_block h1]; rfl⟩
  obtain ⟨c0, c1, c2, c3, c4, d0, d1⟩ := HCL0.out _ (Below.refl _ _)
  have kl := KL1.out _ hbB
  clear hs hb0 cl q2 q3 hD hL hY hAD hbo hok hoy hAo KL1 hdz hdy hLA hmz hmy hdl hAl
  go_enter Try.func8, Try.ntmps8
  generalize hwA : (w.alloc (.cells #[.int .u64 (ix : Int), .int .u64 (tm : Int), .int .i64 kd, .slice sa sn sc, .slice la zs.length lc] 28)).alloc (.cells #[.int .u64 (x : Int), .int .u64 (t : Int), .int .i64 ak, .slice aa an ac] 25) = wA at *
  have hszA : w.heap.size + 2 ≤ wA.heap.size := by omega
  go_wp2_with fail
  clear hwA q1
  refine kl.mono ?_
  rintro e w1 ⟨Bl, rfl, -, hb1⟩
  have hS1 : Below (w.heap.size + 2) wA w1 := hb1.mono hszA
  have hI1 := hbB.trans (hS1.mono (by omega))
  obtain ⟨c0, c1, c2, c3, c4, d0, d1⟩ := HCL0.out _ hS1
  clear kl hb1
  cases Bl with
  | false =>
    clear KL2 KM KRL HCL0 hRk HLA HBM
    go_wp2_with fail
    refine (ka _).mono ?_
    rintro e w5 ⟨rfl, hb5⟩
    go_wp2
    go_ret
    exact ⟨rfl, hI1.trans (hb5.mono hI1.size)⟩
  | true =>
    have kl2 := KL2.out w1 hI1
    dsimp only [zeroMe] at kl2
    clear KL2
    go_wp2_with fail
    refine kl2.mono ?_
    rintro e w1' ⟨Bl, rfl, -, hb1'⟩
    have hS1' : Below (w.heap.size + 2) wA w1' := keep9 hS1 hb1'
    have hI1' := hbB.trans (hS1'.mono (by omega))
    obtain ⟨c0, c1, c2, c3, c4, d0, d1⟩ := HCL0.out _ hS1'
    clear kl2 hb1' hS1 hI1
    cases Bl with
    | false =>
      clear KM KRL HCL0 hRk HLA HBM
      go_wp2_with fail
      refine (ka _).mono ?_
      rintro e w5 ⟨rfl, hb5⟩
      go_wp2
      go_ret
      exact ⟨rfl, hI1'.trans (hb5.mono hI1'.size)⟩
    | true =>
      have km := KM.out w1' hI1'
      clear KM
      go_wp2_with fail
      refine km.mono ?_
      rintro e w2 ⟨⟨v2, rfl, s2, zs2, lv2, rfl, hD2, hE2, hm2⟩, hb2⟩
      have hS2 : Below (w.heap.size + 2) wA w2 := keep9 hS1' hb2
      dsimp only at hm2 hD2
      obtain ⟨hs2, hbx2, cl2⟩ := lg_box w2 (rm, s2) lv2
      obtain ⟨ta, tc, rfl, -, -⟩ := hE2.1.shape
      have hok2 := okz_of hm2 hRl
      have hln2 : zs2.length ≤ 4000000 := by have := congrArg List.length hm2; simp [mes] at this; omega
      obtain ⟨RM, HRM⟩ : ∃ RM, Hid (RM = rm) := ⟨_, rfl⟩
      rw [← HRM.out] at hRk
      have HD2 : Hid (DataV w2 (rm, s2)) := hD2
      obtain ⟨mi, mt, mk, md⟩ := rm
      obtain ⟨s2a, s2n, s2c⟩ := s2
      dsimp only [lgc, lgv] at *
      have hS3 : Below (w.heap.size + 2) wA (w2.alloc (.cells #[.int .u64 (mi : Int), .int .u64 (mt : Int), .int .i64 mk, .slice s2a s2n s2c, .slice ta zs2.length tc] 28)) := keep9 hS2 hbx2
      have hsz2 : w.heap.size + 2 ≤ w2.heap.size := Nat.le_trans hszA hS2.size
      have HCL : Hid (∀ W, Below (w2.heap.size + 1) (w2.alloc (.cells #[.int .u64 (mi : Int), .int .u64 (mt : Int), .int .i64 mk, .slice s2a s2n s2c, .slice ta zs2.length tc] 28)) W → _) := fun W hW => HCL0.out W (hS3.trans (hW.mono (by omega)))
      have HCA : Hid (∀ W, Below (w2.heap.size + 1) (w2.alloc (.cells #[.int .u64 (mi : Int), .int .u64 (mt : Int), .int .i64 mk, .slice s2a s2n s2c, .slice ta zs2.length tc] 28)) W → _) := cl2
      have HIN : Hid (∀ W, Below (w2.heap.size + 1) (w2.alloc (.cells #[.int .u64 (mi : Int), .int .u64 (mt : Int), .int .i64 mk, .slice s2a s2n s2c, .slice ta zs2.length tc] 28)) W → Below w.heap.size w W) := fun W hW => hbB.trans ((hS3.trans (hW.mono (by omega))).mono (by omega))
      have HI2 : Hid (∀ W, Below (w2.heap.size + 1) (w2.alloc (.cells #[.int .u64 (mi : Int), .int .u64 (mt : Int), .int .i64 mk, .slice s2a s2n s2c, .slice ta zs2.length tc] 28)) W → Below w2.heap.size w2 W) := fun W hW => hbx2.trans (hW.mono (by omega))
      have KSM : Hid (∀ (u : Sl) (yz : List Ez) (yv : Value) W, Below w2.heap.size w2 W → DataV W (⟨mi, mt, mk, md⟩, u) → EntsV W yv yz → mes zs2 = mes yz → Calls Try.prog 28 #[lgv (⟨mi, mt, mk, md⟩, (s2a, s2n, s2c)) (.slice ta zs2.length tc), lgv (⟨mi, mt, mk, md⟩, u) yv] W fun e w' => e = .returned (.bool true) ∧ Below W.heap.size W w') := fun u yz yv W hW h1 h2 h3 => same_of ⟨mi, mt, mk, md⟩ (s2a, s2n, s2c) u zs2 yz _ yv W (hD2.below hW) h1 hRo.2.2.1 (hE2.below hW) h2 h3 (fun z hz => (hok2 z hz).1) (by omega)
      have KMy : Hid (∀ W, Below w2.heap.size w2 W → _) := fun W hW => may_of (⟨mi, mt, mk, md⟩, (s2a, s2n, s2c)) zs2 (.slice ta zs2.length tc) W (hD2.below hW) (hE2.below hW) ⟨hRo.1, hRo.2.1, hRo.2.2.1⟩ (fun z hz => (hok2 z hz).1) (by omega) hRo.2.2.2
      have KRK : Hid (∀ W, Below w2.heap.size w2 W → _) := fun W hW => rlast_of (⟨mi, mt, mk, md⟩, (s2a, s2n, s2c)) zs2 (.slice ta zs2.length tc) W (hE2.below hW) (by omega)
      have KT : Hid (mayB ⟨mi, mt, mk, md⟩ (mes zs2) = true → ∀ (i : Nat) W, Below w2.heap.size w2 W → _) := fun hm i W hW => pterm_of (⟨mi, mt, mk, md⟩, (s2a, s2n, s2c)) zs2 (.slice ta zs2.length tc) i W (hE2.below hW) (by omega) hm
      have HE2 : Hid (EntsV w2 (.slice ta zs2.length tc) zs2) := hE2
      have HM2 : Hid (mes zs2 = rl) := hm2
      have HRO : Hid (OkM ⟨mi, mt, mk, md⟩) := hRo
      obtain ⟨c0, c1, c2, c3, c4, d0, d1⟩ := HCL.out _ (Below.refl _ _)
      obtain ⟨a0, a1, a2, a3, a4⟩ := HCA.out _ (Below.refl _ _)
      clear km HCL0 hS1' hI1' hb2 hS2 hS3 cl2 hD2 hE2 hm2 hok2 hRl hRo hRn
      rcases hRk.out with ⟨hr0, hK⟩ | ⟨cc, hc0, hR⟩
      · subst hr0
        clear hRk KSM
        have hbase := hK.base
        have hmay := hK.may
        have HOLD : Hid _ := hK.old
        have HNEW0 : Hid _ := hK.new
        have hlst0 : Hid (_ ≤ _) := hK.last
        have hfin0 : Hid (_ ∨ _) := hK.fin
        clear hK
        dsimp only at hbase hmay HOLD HNEW0 hlst0 hfin0
        rw [HRM.out, HBM.out] at hbase
        rw [← HM2.out] at hmay HOLD HNEW0 hlst0 hfin0
        rw [← HLA.out] at hfin0
        rw [HBM.out, ← hbase] at hmay HNEW0 hlst0 hfin0
        have KT2 : Hid _ := KT.out hmay
        rw [show mayB (⟨mi, mt, mk, md⟩, ((s2a, s2n, s2c) : Sl)).1 (mes zs2) = true from hmay] at KMy
        have HBE : Hid ((⟨mi, mt, mk, md⟩ : Me) = ⟨ix, tm, kd, dt⟩) := hbase
        have KSB : Hid (∀ W, Below w2.heap.size w2 W → Below w.heap.size w W → Calls Try.prog 34 #[.agg #[.int .u64 (mi : Int), .int .u64 (mt : Int), .int .i64 mk, .slice s2a s2n s2c], .agg #[.int .u64 (ix : Int), .int .u64 (tm : Int), .int .i64 kd, .slice sa sn sc]] W fun e w' => e = .returned (.bool true) ∧ Below W.heap.size W w') := fun W h2 h0 => by
          have hh := HBE.out
          have k := sameE_of ⟨mi, mt, mk, md⟩ (s2a, s2n, s2c) (sa, sn, sc) W (HD2.out.below h2) (by rw [hh]; exact HBD.out.below h0) HRO.out.2.2.1
          cases hh
          exact k
        have KSEA : Hid (∀ (i : Nat) (z : Ez), zs[i]? = some z → z.1.idx ≤ x → ∃ y : Ez, zs2[i]? = some y ∧ ∀ W, Below w2.heap.size w2 W → Below w.heap.size w W → Calls Try.prog 34 #[ev y, ev z] W fun e w' => e = .returned (.bool true) ∧ Below W.heap.size W w') := fun i z hz hi => by
          have h1 := HOLD.out i z.1 (mes_at hz) hi
          rw [List.getElem?_map] at h1
          cases hy : zs2[i]? with
          | none => rw [hy] at h1; cases h1
          | some y =>
            rw [hy] at h1
            have h2 : y.1 = z.1 := Option.some.inj h1
            refine ⟨y, rfl, fun W h3 h4 => ?_⟩
            have k := sameE_of z.1 y.2 z.2 W (by rw [← h2]; exact (HE2.out.2 y (List.mem_of_getElem? hy)).below h3) ((HLR.out.2 z (List.mem_of_getElem? hz)).below h4) (HB.out.2 z (List.mem_of_getElem? hz)).2.2
            rw [← h2] at k
            obtain ⟨ym, ysl⟩ := y
            obtain ⟨zm, zsl⟩ := z
            cases h2
            exact k
        have HNEW : Hid (∀ (j : Nat) (z : Ez), ys[j]? = some z → termM ⟨mi, mt, mk, md⟩ (mes zs2) z.1.idx = some z.1.term) := fun j z hz => HNEW0.out j z.1 (mes_at hz)
        clear HOLD HNEW0 KT HD2 HBD HBE HRO hbase hmay HRM HBM HLA HM2 HB
        have KT : Hid _ := KT2.out
        clear KT2
        have HOLD : Hid True := trivial
        generalize hPK : lastM ⟨mi, mt, mk, md⟩ (mes zs2) = PK at *
        obtain ⟨k1i, k1t⟩ := PK
        have hlst : Hid (rn ≤ k1i) := hlst0.out
        have hfin : Hid (k1i = rn ∨ k1i = l1i) := hfin0.out
        clear hlst0 hfin0 hPK
        dsimp only [lgv, lastV] at *
        have kmy := KMy.out _ (HI2.out _ (Below.refl _ _))
        clear KMy
        go_wp2_with fail
        generalize hwD : w2.alloc (.cells #[.int .u64 (mi : Int), .int .u64 (mt : Int), .int .i64 mk, .slice s2a s2n s2c, .slice ta zs2.length tc] 28) = wB at *
        have hszB : w2.heap.size + 1 ≤ wB.heap.size := by omega
        clear hwD hs2
        refine kmy.mono ?_
        rintro e w3 ⟨rfl, hb3⟩
        have hS3 : Below (w2.heap.size + 1) wB w3 := hb3.mono hszB
        obtain ⟨c0, c1, c2, c3, c4, d0, d1⟩ := HCL.out _ hS3
        obtain ⟨a0, a1, a2, a3, a4⟩ := HCA.out _ hS3
        have ksb := KSB.out w3 (HI2.out _ hS3) (HIN.out _ hS3)
        clear kmy hb3 KSB
        go_wp2_with fail
        refine ksb.mono ?_
        rintro e w4 ⟨rfl, hb4⟩
        have hS4 : Below (w2.heap.size + 1) wB w4 := keep9 hS3 hb4
        clear ksb hb4 hS3 c0 c1 c2 c3 c4 d0 d1 a0 a1 a2 a3 a4
        go_wp2
        go_loopg [10] (zs.length + 1) (fun gh s wr => ∃ i : Nat, i + gh = zs.length + 1 ∧ i ≤ zs.length ∧ s = .int .i64 (i : Int) ∧ Below (w2.heap.size + 1) wB wr)
        case atStart => exact ⟨0, by omega, by omega, rfl, hS4⟩
        case round =>
          obtain ⟨i, hig, hiz, rfl, hSr⟩ := hrel
          clear hS4
          obtain ⟨c0, c1, c2, c3, c4, d0, d1⟩ := HCL.out _ hSr
          obtain ⟨a0, a1, a2, a3, a4⟩ := HCA.out _ hSr
          by_cases hlt : i < zs.length
          · have hlti : (i : Int) < (zs.length : Int) := by omega
            have hz : zs[i]? = some zs[i] := List.getElem?_eq_getElem hlt
            obtain ⟨z, hzz⟩ : ∃ z, z = zs[i] := ⟨_, rfl⟩
            rw [← hzz] at hz
            clear hzz
            obtain ⟨p, off, rfl, c⟩ := rde_at HLR.out.1 hz
            have HZ : Hid (∀ W, Below (w2.heap.size + 1) wB W → _) := fun W hW => c W (HIN.out _ hW)
            obtain ⟨z0, z1, z2, z3⟩ := HZ.out _ hSr
            by_cases hx : z.1.idx ≤ x
            · obtain ⟨y, hy, kse⟩ := KSEA.out i z hz hx
              obtain ⟨py, poff, rfl, cy⟩ := rde_at HE2.out.1 hy
              have hly := (List.getElem?_eq_some_iff.1 hy).1
              have hlyi : (i : Int) < (zs2.length : Int) := by omega
              have hlyd : decide ((zs2.length : Int) ≤ (i : Int)) = false := by simp; omega
              have hlyd2 : decide (zs2.length ≤ i) = false := by simp; omega
              have HY : Hid (∀ W, Below (w2.heap.size + 1) wB W → _) := fun W hW => cy W (HI2.out _ hW)
              have KSE : Hid (∀ W, Below (w2.heap.size + 1) wB W → _) := fun W hW => kse W (HI2.out _ hW) (HIN.out _ hW)
              have hxi : (z.1.idx : Int) ≤ (x : Int) := by omega
              obtain ⟨⟨ix2, tm2, kd2, dt2⟩, sa2, sn2, sc2⟩ := z
              obtain ⟨⟨ix3, tm3, kd3, dt3⟩, sa3, sn3, sc3⟩ := y
              dsimp only [ev] at *
              clear kse c cy hz hy hx
              go_wp2
              go_quiet (fail)
              go_wp2
              (try simp only [Exit.inBlock, Exit.then])
              have hSq : Below (w2.heap.size + 1) wB (wr.drewN nq) := below_dN hSr nq
              clear hSr c0 c1 c2 c3 c4 d0 d1 a0 a1 a2 a3 a4 z0 z1 z2 z3
              generalize wr.drewN nq = wr at *
              have hSr := hSq
              clear hSq
              refine wp_region_L (fun W => Below (w2.heap.size + 1) wB W) [] (by kernel_rfl) ?_
              have hS0 : (fun W => Below (w2.heap.size + 1) wB W) wr.drew := hSr.drew
              generalize wr.drew = W0 at *
              refine wpAnyL_take 0 rfl (by kernel_rfl) (by kernel_rfl) (by kernel_rfl) (by kernel_rfl) (fun _ _ _ h => h) (by kernel_rfl) (by intro w' hS'; have hz := hS'; obtain ⟨c0, c1, c2, c3, c4, d0, d1⟩ := HCL.out _ hz; obtain ⟨a0, a1, a2, a3, a4⟩ := HCA.out _ hz; obtain ⟨z0, z1, z2, z3⟩ := HZ.out _ hz; obtain ⟨y0, y1, y2, y3⟩ := HY.out _ hz; go_simp <;> rfl) hS0 ?_
              try simp only [List.getElem_toArray, List.getElem_cons_succ, List.getElem_cons_zero, Act.put, List.setIfInBounds_toArray, List.set_cons_zero, List.set_cons_succ]
              refine wpAnyL_take 1 rfl (by kernel_rfl) (by kernel_rfl) (by kernel_rfl) (by kernel_rfl) (fun _ _ _ h => h) (by kernel_rfl) (by intro w' hS'; have hz := hS'; obtain ⟨c0, c1, c2, c3, c4, d0, d1⟩ := HCL.out _ hz; obtain ⟨a0, a1, a2, a3, a4⟩ := HCA.out _ hz; obtain ⟨z0, z1, z2, z3⟩ := HZ.out _ hz; obtain ⟨y0, y1, y2, y3⟩ := HY.out _ hz; go_simp <;> rfl) hS0 ?_
              try simp only [List.getElem_toArray, List.getElem_cons_succ, List.getElem_cons_zero, Act.put, List.setIfInBounds_toArray, List.set_cons_zero, List.set_cons_succ]
              refine wpAnyL_take 2 rfl (by kernel_rfl) (by kernel_rfl) (by kernel_rfl) (by kernel_rfl) (fun _ _ _ h => h) (by kernel_rfl) (by intro w' hS'; have hz := hS'; obtain ⟨c0, c1, c2, c3, c4, d0, d1⟩ := HCL.out _ hz; obtain ⟨a0, a1, a2, a3, a4⟩ := HCA.out _ hz; obtain ⟨z0, z1, z2, z3⟩ := HZ.out _ hz; obtain ⟨y0, y1, y2, y3⟩ := HY.out _ hz; go_simp <;> rfl) hS0 ?_
              try simp only [List.getElem_toArray, List.getElem_cons_succ, List.getElem_cons_zero, Act.put, List.setIfInBounds_toArray, List.set_cons_zero, List.set_cons_succ]
              refine wpAnyL_take 3 rfl (by kernel_rfl) (by kernel_rfl) (by kernel_rfl) (by kernel_rfl) (fun _ _ _ h => h) (by kernel_rfl) (by intro w' hS'; have hz := hS'; obtain ⟨c0, c1, c2, c3, c4, d0, d1⟩ := HCL.out _ hz; obtain ⟨a0, a1, a2, a3, a4⟩ := HCA.out _ hz; obtain ⟨z0, z1, z2, z3⟩ := HZ.out _ hz; obtain ⟨y0, y1, y2, y3⟩ := HY.out _ hz; go_simp <;> rfl) hS0 ?_
              try simp only [List.getElem_toArray, List.getElem_cons_succ, List.getElem_cons_zero, Act.put, List.setIfInBounds_toArray, List.set_cons_zero, List.set_cons_succ]
              refine wpAnyL_take 4 rfl (by kernel_rfl) (by kernel_rfl) (by kernel_rfl) (by kernel_rfl) (fun _ _ _ h => h) (by kernel_rfl) (by intro w' hS'; have hz := hS'; obtain ⟨c0, c1, c2, c3, c4, d0, d1⟩ := HCL.out _ hz; obtain ⟨a0, a1, a2, a3, a4⟩ := HCA.out _ hz; obtain ⟨z0, z1, z2, z3⟩ := HZ.out _ hz; obtain ⟨y0, y1, y2, y3⟩ := HY.out _ hz; go_simp <;> rfl) hS0 ?_
              try simp only [List.getElem_toArray, List.getElem_cons_succ, List.getElem_cons_zero, Act.put, List.setIfInBounds_toArray, List.set_cons_zero, List.set_cons_succ]
              refine wpAnyL_take 5 rfl (by kernel_rfl) (by kernel_rfl) (by kernel_rfl) (by kernel_rfl) (fun _ _ _ h => h) (by kernel_rfl) (by intro w' hS'; have hz := hS'; obtain ⟨c0, c1, c2, c3, c4, d0, d1⟩ := HCL.out _ hz; obtain ⟨a0, a1, a2, a3, a4⟩ := HCA.out _ hz; obtain ⟨z0, z1, z2, z3⟩ := HZ.out _ hz; obtain ⟨y0, y1, y2, y3⟩ := HY.out _ hz; go_simp <;> rfl) hS0 ?_
              try simp only [List.getElem_toArray, List.getElem_cons_succ, List.getElem_cons_zero, Act.put, List.setIfInBounds_toArray, List.set_cons_zero, List.set_cons_succ]
              refine wpAnyL_take 6 rfl (by kernel_rfl) (by kernel_rfl) (by kernel_rfl) (by kernel_rfl) (fun _ _ _ h => h) (by kernel_rfl) (by intro w' hS'; have hz := hS'; obtain ⟨c0, c1, c2, c3, c4, d0, d1⟩ := HCL.out _ hz; obtain ⟨a0, a1, a2, a3, a4⟩ := HCA.out _ hz; obtain ⟨z0, z1, z2, z3⟩ := HZ.out _ hz; obtain ⟨y0, y1, y2, y3⟩ := HY.out _ hz; go_simp <;> rfl) hS0 ?_
              try simp only [List.getElem_toArray, List.getElem_cons_succ, List.getElem_cons_zero, Act.put, List.setIfInBounds_toArray, List.set_cons_zero, List.set_cons_succ]
              refine wpAnyL_take 7 rfl (by kernel_rfl) (by kernel_rfl) (by kernel_rfl) (by kernel_rfl) (fun _ _ _ h => h) (by kernel_rfl) (by intro w' hS'; have hz := hS'; obtain ⟨c0, c1, c2, c3, c4, d0, d1⟩ := HCL.out _ hz; obtain ⟨a0, a1, a2, a3, a4⟩ := HCA.out _ hz; obtain ⟨z0, z1, z2, z3⟩ := HZ.out _ hz; obtain ⟨y0, y1, y2, y3⟩ := HY.out _ hz; go_simp <;> rfl) hS0 ?_
              try simp only [List.getElem_toArray, List.getElem_cons_succ, List.getElem_cons_zero, Act.put, List.setIfInBounds_toArray, List.set_cons_zero, List.set_cons_succ]
              refine wpAnyL_take 8 rfl (by kernel_rfl) (by kernel_rfl) (by kernel_rfl) (by kernel_rfl) (fun _ _ _ h => h) (by kernel_rfl) (by intro w' hS'; have hz := hS'; obtain ⟨c0, c1, c2, c3, c4, d0, d1⟩ := HCL.out _ hz; obtain ⟨a0, a1, a2, a3, a4⟩ := HCA.out _ hz; obtain ⟨z0, z1, z2, z3⟩ := HZ.out _ hz; obtain ⟨y0, y1, y2, y3⟩ := HY.out _ hz; go_simp <;> rfl) hS0 ?_
              try simp only [List.getElem_toArray, List.getElem_cons_succ, List.getElem_cons_zero, Act.put, List.setIfInBounds_toArray, List.set_cons_zero, List.set_cons_succ]
              refine wpAnyL_take 9 rfl (by kernel_rfl) (by kernel_rfl) (by kernel_rfl) (by kernel_rfl) (fun _ _ _ h => h) (by kernel_rfl) (by intro w' hS'; have hz := hS'; obtain ⟨c0, c1, c2, c3, c4, d0, d1⟩ := HCL.out _ hz; obtain ⟨a0, a1, a2, a3, a4⟩ := HCA.out _ hz; obtain ⟨z0, z1, z2, z3⟩ := HZ.out _ hz; obtain ⟨y0, y1, y2, y3⟩ := HY.out _ hz; go_simp <;> rfl) hS0 ?_
              try simp only [List.getElem_toArray, List.getElem_cons_succ, List.getElem_cons_zero, Act.put, List.setIfInBounds_toArray, List.set_cons_zero, List.set_cons_succ]
              refine wpAnyL_take 10 rfl (by kernel_rfl) (by kernel_rfl) (by kernel_rfl) (by kernel_rfl) (fun _ _ _ h => h) (by kernel_rfl) (by intro w' hS'; have hz := hS'; obtain ⟨c0, c1, c2, c3, c4, d0, d1⟩ := HCL.out _ hz; obtain ⟨a0, a1, a2, a3, a4⟩ := HCA.out _ hz; obtain ⟨z0, z1, z2, z3⟩ := HZ.out _ hz; obtain ⟨y0, y1, y2, y3⟩ := HY.out _ hz; go_simp <;> rfl) hS0 ?_
              try simp only [List.getElem_toArray, List.getElem_cons_succ, List.getElem_cons_zero, Act.put, List.setIfInBounds_toArray, List.set_cons_zero, List.set_cons_succ]
              refine wpAnyL_take 11 rfl (by kernel_rfl) (by kernel_rfl) (by kernel_rfl) (by kernel_rfl) (fun _ _ _ h => h) (by kernel_rfl) (by intro w' hS'; have hz := hS'; obtain ⟨c0, c1, c2, c3, c4, d0, d1⟩ := HCL.out _ hz; obtain ⟨a0, a1, a2, a3, a4⟩ := HCA.out _ hz; obtain ⟨z0, z1, z2, z3⟩ := HZ.out _ hz; obtain ⟨y0, y1, y2, y3⟩ := HY.out _ hz; go_simp <;> rfl) hS0 ?_
              try simp only [List.getElem_toArray, List.getElem_cons_succ, List.getElem_cons_zero, Act.put, List.setIfInBounds_toArray, List.set_cons_zero, List.set_cons_succ]
              refine wpAnyL_take 12 rfl (by kernel_rfl) (by kernel_rfl) (by kernel_rfl) (by kernel_rfl) (fun _ _ _ h => h) (by kernel_rfl) (by intro w' hS'; have hz := hS'; obtain ⟨c0, c1, c2, c3, c4, d0, d1⟩ := HCL.out _ hz; obtain ⟨a0, a1, a2, a3, a4⟩ := HCA.out _ hz; obtain ⟨z0, z1, z2, z3⟩ := HZ.out _ hz; obtain ⟨y0, y1, y2, y3⟩ := HY.out _ hz; go_simp <;> rfl) hS0 ?_
              try simp only [List.getElem_toArray, List.getElem_cons_succ, List.getElem_cons_zero, Act.put, List.setIfInBounds_toArray, List.set_cons_zero, List.set_cons_succ]
              refine wpAnyL_take 13 rfl (by kernel_rfl) (by kernel_rfl) (by kernel_rfl) (by kernel_rfl) (fun _ _ _ h => h) (by kernel_rfl) (by intro w' hS'; have hz := hS'; obtain ⟨c0, c1, c2, c3, c4, d0, d1⟩ := HCL.out _ hz; obtain ⟨a0, a1, a2, a3, a4⟩ := HCA.out _ hz; obtain ⟨z0, z1, z2, z3⟩ := HZ.out _ hz; obtain ⟨y0, y1, y2, y3⟩ := HY.out _ hz; go_simp <;> rfl) hS0 ?_
              try simp only [List.getElem_toArray, List.getElem_cons_succ, List.getElem_cons_zero, Act.put, List.setIfInBounds_toArray, List.set_cons_zero, List.set_cons_succ]
              refine wpAnyL_take 14 rfl (by kernel_rfl) (by kernel_rfl) (by kernel_rfl) (by kernel_rfl) (fun _ _ _ h => h) (by kernel_rfl) (by intro w' hS'; have hz := hS'; obtain ⟨c0, c1, c2, c3, c4, d0, d1⟩ := HCL.out _ hz; obtain ⟨a0, a1, a2, a3, a4⟩ := HCA.out _ hz; obtain ⟨z0, z1, z2, z3⟩ := HZ.out _ hz; obtain ⟨y0, y1, y2, y3⟩ := HY.out _ hz; go_simp <;> rfl) hS0 ?_
              try simp only [List.getElem_toArray, List.getElem_cons_succ, List.getElem_cons_zero, Act.put, List.setIfInBounds_toArray, List.set_cons_zero, List.set_cons_succ]
              refine wpAnyL_take 15 rfl (by kernel_rfl) (by kernel_rfl) (by kernel_rfl) (by kernel_rfl) (fun _ _ _ h => h) (by kernel_rfl) (by intro w' hS'; have hz := hS'; obtain ⟨c0, c1, c2, c3, c4, d0, d1⟩ := HCL.out _ hz; obtain ⟨a0, a1, a2, a3, a4⟩ := HCA.out _ hz; obtain ⟨z0, z1, z2, z3⟩ := HZ.out _ hz; obtain ⟨y0, y1, y2, y3⟩ := HY.out _ hz; go_simp <;> rfl) hS0 ?_
              try simp only [List.getElem_toArray, List.getElem_cons_succ, List.getElem_cons_zero, Act.put, List.setIfInBounds_toArray, List.set_cons_zero, List.set_cons_succ]
              refine wpAnyL_one 16 (by kernel_rfl) rfl (by kernel_rfl) ?_
              intro K' hK'
              go_simp
              go_at_call 34
              refine (KSE.out _ hS0).mono ?_
              rintro e W1 ⟨rfl, hb1⟩
              have hS1 : (fun W => Below (w2.heap.size + 1) wB W) W1 := keep9 hS0 hb1
              refine hK'.out _ _ (.inr hS1) ?_
              clear hK' K'
              try simp only [List.getElem_toArray, List.getElem_cons_succ, List.getElem_cons_zero, Act.put, List.setIfInBounds_toArray, List.set_cons_zero, List.set_cons_succ]
              refine wpAnyL_take 17 rfl (by kernel_rfl) (by kernel_rfl) (by kernel_rfl) (by kernel_rfl) (fun _ _ _ h => h) (by kernel_rfl) (by intro w' hS'; have hz := hS'; obtain ⟨c0, c1, c2, c3, c4, d0, d1⟩ := HCL.out _ hz; obtain ⟨a0, a1, a2, a3, a4⟩ := HCA.out _ hz; obtain ⟨z0, z1, z2, z3⟩ := HZ.out _ hz; obtain ⟨y0, y1, y2, y3⟩ := HY.out _ hz; go_simp <;> rfl) hS1 ?_
              try simp only [List.getElem_toArray, List.getElem_cons_succ, List.getElem_cons_zero, Act.put, List.setIfInBounds_toArray, List.set_cons_zero, List.set_cons_succ]
              refine wpAnyL_take 18 rfl (by kernel_rfl) (by kernel_rfl) (by kernel_rfl) (by kernel_rfl) (fun _ _ _ h => h) (by kernel_rfl) (by intro w' hS'; have hz := hS'; obtain ⟨c0, c1, c2, c3, c4, d0, d1⟩ := HCL.out _ hz; obtain ⟨a0, a1, a2, a3, a4⟩ := HCA.out _ hz; obtain ⟨z0, z1, z2, z3⟩ := HZ.out _ hz; obtain ⟨y0, y1, y2, y3⟩ := HY.out _ hz; go_simp <;> rfl) hS1 ?_
              try simp only [List.getElem_toArray, List.getElem_cons_succ, List.getElem_cons_zero, Act.put, List.setIfInBounds_toArray, List.set_cons_zero, List.set_cons_succ]
              refine wpAnyL_done (by kernel_rfl) (NoPanic.normal ?_) _
              go_wp2
              go_roundg (gk - 1)
              case measure => omega
              case rel => exact ⟨i + 1, by omega, by omega, by go_num, hS1⟩
            · have hxi : decide ((z.1.idx : Int) ≤ (x : Int)) = false := by simp; omega
              have hxi2 : decide (z.1.idx ≤ x) = false := by simp; omega
              obtain ⟨⟨ix2, tm2, kd2, dt2⟩, sa2, sn2, sc2⟩ := z
              dsimp only at *
              clear c hz hx HZ
              go_wp2
              go_quiet (fail)
              go_wp2
              have hSq : Below (w2.heap.size + 1) wB (wr.drewN nq) := below_dN hSr nq
              clear hSr c0 c1 c2 c3 c4 d0 d1 a0 a1 a2 a3 a4 z0 z1 z2 z3
              generalize wr.drewN nq = wr at *
              have hSr := hSq
              clear hSq
              clear KSEA HOLD
              go_wp2
              have hSx : (fun W => Below (w2.heap.size + 1) wB W) wr := hSr
              clear hSr
              generalize wr = wx at *
              go_loopg [11, 12, 13] ys.length (fun gh s s12 s13 wr => ∃ j : Nat, j + gh = ys.length ∧ s = .int .i64 (j : Int) ∧ Below (w2.heap.size + 1) wB wr)
              case atStart => exact ⟨0, by simp, rfl, hSx⟩
              case round =>
                obtain ⟨j, hjg, rfl, hSr⟩ := hrel
                clear hSx
                by_cases hlj : j < ys.length
                · have hlji : (j : Int) < (ys.length : Int) := by omega
                  have hz : ys[j]? = some ys[j] := List.getElem?_eq_getElem hlj
                  obtain ⟨z, hzz⟩ : ∃ z, z = ys[j] := ⟨_, rfl⟩
                  rw [← hzz] at hz
                  clear hzz
                  obtain ⟨p, off, rfl, c⟩ := rde_at HYR.out hz
                  have HZ : Hid (∀ W, Below (w2.heap.size + 1) wB W → _) := fun W hW => c W (HIN.out _ hW)
                  have hnew := HNEW.out j z hz
                  have KTe : Hid (∀ W, Below w2.heap.size w2 W → _) := fun W hW => KT.out z.1.idx W hW
                  rw [hnew] at KTe
                  obtain ⟨⟨ix2, tm2, kd2, dt2⟩, sa2, sn2, sc2⟩ := z
                  dsimp only [lgv, termV] at *
                  clear hz c hnew
                  go_wp2
                  (try simp only [Exit.inBlock, Exit.then])
                  refine wp_region_L (fun W => Below (w2.heap.size + 1) wB W) [] (by kernel_rfl) ?_
                  have hS0 : (fun W => Below (w2.heap.size + 1) wB W) wr.drew := hSr.drew
                  generalize wr.drew = W0 at *
                  refine wpAnyL_take 0 rfl (by kernel_rfl) (by kernel_rfl) (by kernel_rfl) (by kernel_rfl) (fun _ _ _ h => h) (by kernel_rfl) (by intro w' hS'; have hz := hS'; obtain ⟨c0, c1, c2, c3, c4, d0, d1⟩ := HCL.out _ hz; obtain ⟨a0, a1, a2, a3, a4⟩ := HCA.out _ hz; obtain ⟨z0, z1, z2, z3⟩ := HZ.out _ hz; go_simp <;> rfl) hS0 ?_
                  try simp only [List.getElem_toArray, List.getElem_cons_succ, List.getElem_cons_zero, Act.put, List.setIfInBounds_toArray, List.set_cons_zero, List.set_cons_succ]
                  refine wpAnyL_take 1 rfl (by kernel_rfl) (by kernel_rfl) (by kernel_rfl) (by kernel_rfl) (fun _ _ _ h => h) (by kernel_rfl) (by intro w' hS'; have hz := hS'; obtain ⟨c0, c1, c2, c3, c4, d0, d1⟩ := HCL.out _ hz; obtain ⟨a0, a1, a2, a3, a4⟩ := HCA.out _ hz; obtain ⟨z0, z1, z2, z3⟩ := HZ.out _ hz; go_simp <;> rfl) hS0 ?_
                  try simp only [List.getElem_toArray, List.getElem_cons_succ, List.getElem_cons_zero, Act.put, List.setIfInBounds_toArray, List.set_cons_zero, List.set_cons_succ]
                  refine wpAnyL_take 2 rfl (by kernel_rfl) (by kernel_rfl) (by kernel_rfl) (by kernel_rfl) (fun _ _ _ h => h) (by kernel_rfl) (by intro w' hS'; have hz := hS'; obtain ⟨c0, c1, c2, c3, c4, d0, d1⟩ := HCL.out _ hz; obtain ⟨a0, a1, a2, a3, a4⟩ := HCA.out _ hz; obtain ⟨z0, z1, z2, z3⟩ := HZ.out _ hz; go_simp <;> rfl) hS0 ?_
                  try simp only [List.getElem_toArray, List.getElem_cons_succ, List.getElem_cons_zero, Act.put, List.setIfInBounds_toArray, List.set_cons_zero, List.set_cons_succ]
                  refine wpAnyL_take 3 rfl (by kernel_rfl) (by kernel_rfl) (by kernel_rfl) (by kernel_rfl) (fun _ _ _ h => h) (by kernel_rfl) (by intro w' hS'; have hz := hS'; obtain ⟨c0, c1, c2, c3, c4, d0, d1⟩ := HCL.out _ hz; obtain ⟨a0, a1, a2, a3, a4⟩ := HCA.out _ hz; obtain ⟨z0, z1, z2, z3⟩ := HZ.out _ hz; go_simp <;> rfl) hS0 ?_
                  try simp only [List.getElem_toArray, List.getElem_cons_succ, List.getElem_cons_zero, Act.put, List.setIfInBounds_toArray, List.set_cons_zero, List.set_cons_succ]
                  refine wpAnyL_take 4 rfl (by kernel_rfl) (by kernel_rfl) (by kernel_rfl) (by kernel_rfl) (fun _ _ _ h => h) (by kernel_rfl) (by intro w' hS'; have hz := hS'; obtain ⟨c0, c1, c2, c3, c4, d0, d1⟩ := HCL.out _ hz; obtain ⟨a0, a1, a2, a3, a4⟩ := HCA.out _ hz; obtain ⟨z0, z1, z2, z3⟩ := HZ.out _ hz; go_simp <;> rfl) hS0 ?_
                  try simp only [List.getElem_toArray, List.getElem_cons_succ, List.getElem_cons_zero, Act.put, List.setIfInBounds_toArray, List.set_cons_zero, List.set_cons_succ]
                  refine wpAnyL_take 5 rfl (by kernel_rfl) (by kernel_rfl) (by kernel_rfl) (by kernel_rfl) (fun _ _ _ h => h) (by kernel_rfl) (by intro w' hS'; have hz := hS'; obtain ⟨c0, c1, c2, c3, c4, d0, d1⟩ := HCL.out _ hz; obtain ⟨a0, a1, a2, a3, a4⟩ := HCA.out _ hz; obtain ⟨z0, z1, z2, z3⟩ := HZ.out _ hz; go_simp <;> rfl) hS0 ?_
                  try simp only [List.getElem_toArray, List.getElem_cons_succ, List.getElem_cons_zero, Act.put, List.setIfInBounds_toArray, List.set_cons_zero, List.set_cons_succ]
                  refine wpAnyL_one 6 (by kernel_rfl) rfl (by kernel_rfl) ?_
                  intro K' hK'
                  go_simp
                  go_at_call 16
                  refine (KTe.out _ (HI2.out _ hS0)).mono ?_
                  rintro e W1 ⟨rfl, hb1⟩
                  have hS1 : (fun W => Below (w2.heap.size + 1) wB W) W1 := keep9 hS0 hb1
                  refine hK'.out _ _ (.inr hS1) ?_
                  clear hK' K'
                  try simp only [List.getElem_toArray, List.getElem_cons_succ, List.getElem_cons_zero, Act.put, List.setIfInBounds_toArray, List.set_cons_zero, List.set_cons_succ]
                  refine wpAnyL_take 7 rfl (by kernel_rfl) (by kernel_rfl) (by kernel_rfl) (by kernel_rfl) (fun _ _ _ h => h) (by kernel_rfl) (by intro w' hS'; have hz := hS'; obtain ⟨c0, c1, c2, c3, c4, d0, d1⟩ := HCL.out _ hz; obtain ⟨a0, a1, a2, a3, a4⟩ := HCA.out _ hz; obtain ⟨z0, z1, z2, z3⟩ := HZ.out _ hz; go_simp <;> rfl) hS1 ?_
                  try simp only [List.getElem_toArray, List.getElem_cons_succ, List.getElem_cons_zero, Act.put, List.setIfInBounds_toArray, List.set_cons_zero, List.set_cons_succ]
                  refine wpAnyL_take 8 rfl (by kernel_rfl) (by kernel_rfl) (by kernel_rfl) (by kernel_rfl) (fun _ _ _ h => h) (by kernel_rfl) (by intro w' hS'; have hz := hS'; obtain ⟨c0, c1, c2, c3, c4, d0, d1⟩ := HCL.out _ hz; obtain ⟨a0, a1, a2, a3, a4⟩ := HCA.out _ hz; obtain ⟨z0, z1, z2, z3⟩ := HZ.out _ hz; go_simp <;> rfl) hS1 ?_
                  try simp only [List.getElem_toArray, List.getElem_cons_succ, List.getElem_cons_zero, Act.put, List.setIfInBounds_toArray, List.set_cons_zero, List.set_cons_succ]
                  refine wpAnyL_take 9 rfl (by kernel_rfl) (by kernel_rfl) (by kernel_rfl) (by kernel_rfl) (fun _ _ _ h => h) (by kernel_rfl) (by intro w' hS'; have hz := hS'; obtain ⟨c0, c1, c2, c3, c4, d0, d1⟩ := HCL.out _ hz; obtain ⟨a0, a1, a2, a3, a4⟩ := HCA.out _ hz; obtain ⟨z0, z1, z2, z3⟩ := HZ.out _ hz; go_simp <;> rfl) hS1 ?_
                  try simp only [List.getElem_toArray, List.getElem_cons_succ, List.getElem_cons_zero, Act.put, List.setIfInBounds_toArray, List.set_cons_zero, List.set_cons_succ]
                  refine wpAnyL_take 10 rfl (by kernel_rfl) (by kernel_rfl) (by kernel_rfl) (by kernel_rfl) (fun _ _ _ h => h) (by kernel_rfl) (by intro w' hS'; have hz := hS'; obtain ⟨c0, c1, c2, c3, c4, d0, d1⟩ := HCL.out _ hz; obtain ⟨a0, a1, a2, a3, a4⟩ := HCA.out _ hz; obtain ⟨z0, z1, z2, z3⟩ := HZ.out _ hz; go_simp <;> rfl) hS1 ?_
                  try simp only [List.getElem_toArray, List.getElem_cons_succ, List.getElem_cons_zero, Act.put, List.setIfInBounds_toArray, List.set_cons_zero, List.set_cons_succ]
                  refine wpAnyL_take 11 rfl (by kernel_rfl) (by kernel_rfl) (by kernel_rfl) (by kernel_rfl) (fun _ _ _ h => h) (by kernel_rfl) (by intro w' hS'; have hz := hS'; obtain ⟨c0, c1, c2, c3, c4, d0, d1⟩ := HCL.out _ hz; obtain ⟨a0, a1, a2, a3, a4⟩ := HCA.out _ hz; obtain ⟨z0, z1, z2, z3⟩ := HZ.out _ hz; go_simp <;> rfl) hS1 ?_
                  try simp only [List.getElem_toArray, List.getElem_cons_succ, List.getElem_cons_zero, Act.put, List.setIfInBounds_toArray, List.set_cons_zero, List.set_cons_succ]
                  refine wpAnyL_done (by kernel_rfl) (NoPanic.normal ?_) _
                  obtain ⟨z0, z1, z2, z3⟩ := HZ.out _ hS1
                  clear HZ KTe
                  go_wp2
                  go_roundg (gk - 1)
                  case measure => omega
                  case rel => exact ⟨j + 1, by omega, by go_num, hS1⟩
                · have hlji : ¬ (j : Int) < (ys.length : Int) := by omega
                  obtain ⟨c0, c1, c2, c3, c4, d0, d1⟩ := HCL.out _ hSr
                  obtain ⟨a0, a1, a2, a3, a4⟩ := HCA.out _ hSr
                  have k1 := KRK.out wr (HI2.out _ hSr)
                  clear KT HNEW HYR
                  go_wp2_with fail
                  refine k1.mono ?_
                  rintro e w7 ⟨rfl, hb7⟩
                  have hS7 : (fun W => Below (w2.heap.size + 1) wB W) w7 := keep9 hSr hb7
                  obtain ⟨c0, c1, c2, c3, c4, d0, d1⟩ := HCL.out _ hS7
                  obtain ⟨a0, a1, a2, a3, a4⟩ := HCA.out _ hS7
                  have k2 := KRL.out w7 (HIN.out _ hS7)
                  clear k1 hb7 hSr KRK
                  go_wp2_with fail
                  refine k2.mono ?_
                  rintro e w8 ⟨rfl, hb8⟩
                  have hS8 : (fun W => Below (w2.heap.size + 1) wB W) w8 := keep9 hS7 hb8
                  have hI8 := HIN.out _ hS8
                  clear k2 hb8 hS7 KRL HCL HCA HIN HI2 c0 c1 c2 c3 c4 d0 d1 a0 a1 a2 a3 a4
                  rcases hfin.out with hf | hf
                  · have hfi : ((k1i : Int) == (rn : Int)) = true := by simp; omega
                    have hle : (rn : Int) ≤ (k1i : Int) := by have := hlst.out; omega
                    clear hf hfin hlst
                    go_wp2_with fail
                    refine (ka _).mono ?_
                    rintro e w9 ⟨rfl, hb9⟩
                    go_wp2
                    go_ret
                    exact ⟨rfl, hI8.trans (hb9.mono hI8.size)⟩
                  · have hle : (rn : Int) ≤ (k1i : Int) := by have := hlst.out; omega
                    have hfi : ((k1i : Int) == (l1i : Int)) = true := by simp; omega
                    clear hf hfin hlst
                    by_cases he : k1i = rn
                    · have hei : ((k1i : Int) == (rn : Int)) = true := by simp; omega
                      clear he
                      go_wp2_with fail
                      refine (ka _).mono ?_
                      rintro e w9 ⟨rfl, hb9⟩
                      go_wp2
                      go_ret
                      exact ⟨rfl, hI8.trans (hb9.mono hI8.size)⟩
                    · have hei : ((k1i : Int) == (rn : Int)) = false := by simp; omega
                      clear he
                      go_wp2_with fail
                      refine (ka _).mono ?_
                      rintro e w9 ⟨rfl, hb9⟩
                      go_wp2
                      go_ret
                      exact ⟨rfl, hI8.trans (hb9.mono hI8.size)⟩
          · have hlti : ¬ (i : Int) < (zs.length : Int) := by omega
            have hltd : decide ((i : Int) < (zs.length : Int)) = false := by simp; omega
            go_wp2
            go_big_quiet (fail)
            go_wp2
            have hSq : Below (w2.heap.size + 1) wB (wr.drewN nq) := below_dN hSr nq
            clear hSr c0 c1 c2 c3 c4 d0 d1 a0 a1 a2 a3 a4
            generalize wr.drewN nq = wr at *
            have hSr := hSq
            clear hSq
            clear KSEA HOLD
            go_wp2
            have hSx : (fun W => Below (w2.heap.size + 1) wB W) wr := hSr
            clear hSr
            generalize wr = wx at *
            go_loopg [11, 12, 13] ys.length (fun gh s s12 s13 wr => ∃ j : Nat, j + gh = ys.length ∧ s = .int .i64 (j : Int) ∧ Below (w2.heap.size + 1) wB wr)
            case atStart => exact ⟨0, by simp, rfl, hSx⟩
            case round =>
              obtain ⟨j, hjg, rfl, hSr⟩ := hrel
              clear hSx
              by_cases hlj : j < ys.length
              · have hlji : (j : Int) < (ys.length : Int) := by omega
                have hz : ys[j]? = some ys[j] := List.getElem?_eq_getElem hlj
                obtain ⟨z, hzz⟩ : ∃ z, z = ys[j] := ⟨_, rfl⟩
                rw [← hzz] at hz
                clear hzz
                obtain ⟨p, off, rfl, c⟩ := rde_at HYR.out hz
                have HZ : Hid (∀ W, Below (w2.heap.size + 1) wB W → _) := fun W hW => c W (HIN.out _ hW)
                have hnew := HNEW.out j z hz
                have KTe : Hid (∀ W, Below w2.heap.size w2 W → _) := fun W hW => KT.out z.1.idx W hW
                rw [hnew] at KTe
                obtain ⟨⟨ix2, tm2, kd2, dt2⟩, sa2, sn2, sc2⟩ := z
                dsimp only [lgv, termV] at *
                clear hz c hnew
                go_wp2
                (try simp only [Exit.inBlock, Exit.then])
                refine wp_region_L (fun W => Below (w2.heap.size + 1) wB W) [] (by kernel_rfl) ?_
                have hS0 : (fun W => Below (w2.heap.size + 1) wB W) wr.drew := hSr.drew
                generalize wr.drew = W0 at *
                refine wpAnyL_take 0 rfl (by kernel_rfl) (by kernel_rfl) (by kernel_rfl) (by kernel_rfl) (fun _ _ _ h => h) (by kernel_rfl) (by intro w' hS'; have hz := hS'; obtain ⟨c0, c1, c2, c3, c4, d0, d1⟩ := HCL.out _ hz; obtain ⟨a0, a1, a2, a3, a4⟩ := HCA.out _ hz; obtain ⟨z0, z1, z2, z3⟩ := HZ.out _ hz; go_simp <;> rfl) hS0 ?_
                try simp only [List.getElem_toArray, List.getElem_cons_succ, List.getElem_cons_zero, Act.put, List.setIfInBounds_toArray, List.set_cons_zero, List.set_cons_succ]
                refine wpAnyL_take 1 rfl (by kernel_rfl) (by kernel_rfl) (by kernel_rfl) (by kernel_rfl) (fun _ _ _ h => h) (by kernel_rfl) (by intro w' hS'; have hz := hS'; obtain ⟨c0, c1, c2, c3, c4, d0, d1⟩ := HCL.out _ hz; obtain ⟨a0, a1, a2, a3, a4⟩ := HCA.out _ hz; obtain ⟨z0, z1, z2, z3⟩ := HZ.out _ hz; go_simp <;> rfl) hS0 ?_
                try simp only [List.getElem_toArray, List.getElem_cons_succ, List.getElem_cons_zero, Act.put, List.setIfInBounds_toArray, List.set_cons_zero, List.set_cons_succ]
                refine wpAnyL_take 2 rfl (by kernel_rfl) (by kernel_rfl) (by kernel_rfl) (by kernel_rfl) (fun _ _ _ h => h) (by kernel_rfl) (by intro w' hS'; have hz := hS'; obtain ⟨c0, c1, c2, c3, c4, d0, d1⟩ := HCL.out _ hz; obtain ⟨a0, a1, a2, a3, a4⟩ := HCA.out _ hz; obtain ⟨z0, z1, z2, z3⟩ := HZ.out _ hz; go_simp <;> rfl) hS0 ?_
                try simp only [List.getElem_toArray, List.getElem_cons_succ, List.getElem_cons_zero, Act.put, List.setIfInBounds_toArray, List.set_cons_zero, List.set_cons_succ]
                refine wpAnyL_take 3 rfl (by kernel_rfl) (by kernel_rfl) (by kernel_rfl) (by kernel_rfl) (fun _ _ _ h => h) (by kernel_rfl) (by intro w' hS'; have hz := hS'; obtain ⟨c0, c1, c2, c3, c4, d0, d1⟩ := HCL.out _ hz; obtain ⟨a0, a1, a2, a3, a4⟩ := HCA.out _ hz; obtain ⟨z0, z1, z2, z3⟩ := HZ.out _ hz; go_simp <;> rfl) hS0 ?_
                try simp only [List.getElem_toArray, List.getElem_cons_succ, List.getElem_cons_zero, Act.put, List.setIfInBounds_toArray, List.set_cons_zero, List.set_cons_succ]
                refine wpAnyL_take 4 rfl (by kernel_rfl) (by kernel_rfl) (by kernel_rfl) (by kernel_rfl) (fun _ _ _ h => h) (by kernel_rfl) (by intro w' hS'; have hz := hS'; obtain ⟨c0, c1, c2, c3, c4, d0, d1⟩ := HCL.out _ hz; obtain ⟨a0, a1, a2, a3, a4⟩ := HCA.out _ hz; obtain ⟨z0, z1, z2, z3⟩ := HZ.out _ hz; go_simp <;> rfl) hS0 ?_
                try simp only [List.getElem_toArray, List.getElem_cons_succ, List.getElem_cons_zero, Act.put, List.setIfInBounds_toArray, List.set_cons_zero, List.set_cons_succ]
                refine wpAnyL_take 5 rfl (by kernel_rfl) (by kernel_rfl) (by kernel_rfl) (by kernel_rfl) (fun _ _ _ h => h) (by kernel_rfl) (by intro w' hS'; have hz := hS'; obtain ⟨c0, c1, c2, c3, c4, d0, d1⟩ := HCL.out _ hz; obtain ⟨a0, a1, a2, a3, a4⟩ := HCA.out _ hz; obtain ⟨z0, z1, z2, z3⟩ := HZ.out _ hz; go_simp <;> rfl) hS0 ?_
                try simp only [List.getElem_toArray, List.getElem_cons_succ, List.getElem_cons_zero, Act.put, List.setIfInBounds_toArray, List.set_cons_zero, List.set_cons_succ]
                refine wpAnyL_one 6 (by kernel_rfl) rfl (by kernel_rfl) ?_
                intro K' hK'
                go_simp
                go_at_call 16
                refine (KTe.out _ (HI2.out _ hS0)).mono ?_
                rintro e W1 ⟨rfl, hb1⟩
                have hS1 : (fun W => Below (w2.heap.size + 1) wB W) W1 := keep9 hS0 hb1
                refine hK'.out _ _ (.inr hS1) ?_
                clear hK' K'
                try simp only [List.getElem_toArray, List.getElem_cons_succ, List.getElem_cons_zero, Act.put, List.setIfInBounds_toArray, List.set_cons_zero, List.set_cons_succ]
                refine wpAnyL_take 7 rfl (by kernel_rfl) (by kernel_rfl) (by kernel_rfl) (by kernel_rfl) (fun _ _ _ h => h) (by kernel_rfl) (by intro w' hS'; have hz := hS'; obtain ⟨c0, c1, c2, c3, c4, d0, d1⟩ := HCL.out _ hz; obtain ⟨a0, a1, a2, a3, a4⟩ := HCA.out _ hz; obtain ⟨z0, z1, z2, z3⟩ := HZ.out _ hz; go_simp <;> rfl) hS1 ?_
                try simp only [List.getElem_toArray, List.getElem_cons_succ, List.getElem_cons_zero, Act.put, List.setIfInBounds_toArray, List.set_cons_zero, List.set_cons_succ]
                refine wpAnyL_take 8 rfl (by kernel_rfl) (by kernel_rfl) (by kernel_rfl) (by kernel_rfl) (fun _ _ _ h => h) (by kernel_rfl) (by intro w' hS'; have hz := hS'; obtain ⟨c0, c1, c2, c3, c4, d0, d1⟩ := HCL.out _ hz; obtain ⟨a0, a1, a2, a3, a4⟩ := HCA.out _ hz; obtain ⟨z0, z1, z2, z3⟩ := HZ.out _ hz; go_simp <;> rfl) hS1 ?_
                try simp only [List.getElem_toArray, List.getElem_cons_succ, List.getElem_cons_zero, Act.put, List.setIfInBounds_toArray, List.set_cons_zero, List.set_cons_succ]
                refine wpAnyL_take 9 rfl (by kernel_rfl) (by kernel_rfl) (by kernel_rfl) (by kernel_rfl) (fun _ _ _ h => h) (by kernel_rfl) (by intro w' hS'; have hz := hS'; obtain ⟨c0, c1, c2, c3, c4, d0, d1⟩ := HCL.out _ hz; obtain ⟨a0, a1, a2, a3, a4⟩ := HCA.out _ hz; obtain ⟨z0, z1, z2, z3⟩ := HZ.out _ hz; go_simp <;> rfl) hS1 ?_
                try simp only [List.getElem_toArray, List.getElem_cons_succ, List.getElem_cons_zero, Act.put, List.setIfInBounds_toArray, List.set_cons_zero, List.set_cons_succ]
                refine wpAnyL_take 10 rfl (by kernel_rfl) (by kernel_rfl) (by kernel_rfl) (by kernel_rfl) (fun _ _ _ h => h) (by kernel_rfl) (by intro w' hS'; have hz := hS'; obtain ⟨c0, c1, c2, c3, c4, d0, d1⟩ := HCL.out _ hz; obtain ⟨a0, a1, a2, a3, a4⟩ := HCA.out _ hz; obtain ⟨z0, z1, z2, z3⟩ := HZ.out _ hz; go_simp <;> rfl) hS1 ?_
                try simp only [List.getElem_toArray, List.getElem_cons_succ, List.getElem_cons_zero, Act.put, List.setIfInBounds_toArray, List.set_cons_zero, List.set_cons_succ]
                refine wpAnyL_take 11 rfl (by kernel_rfl) (by kernel_rfl) (by kernel_rfl) (by kernel_rfl) (fun _ _ _ h => h) (by kernel_rfl) (by intro w' hS'; have hz := hS'; obtain ⟨c0, c1, c2, c3, c4, d0, d1⟩ := HCL.out _ hz; obtain ⟨a0, a1, a2, a3, a4⟩ := HCA.out _ hz; obtain ⟨z0, z1, z2, z3⟩ := HZ.out _ hz; go_simp <;> rfl) hS1 ?_
                try simp only [List.getElem_toArray, List.getElem_cons_succ, List.getElem_cons_zero, Act.put, List.setIfInBounds_toArray, List.set_cons_zero, List.set_cons_succ]
                refine wpAnyL_done (by kernel_rfl) (NoPanic.normal ?_) _
                obtain ⟨z0, z1, z2, z3⟩ := HZ.out _ hS1
                clear HZ KTe
                go_wp2
                go_roundg (gk - 1)
                case measure => omega
                case rel => exact ⟨j + 1, by omega, by go_num, hS1⟩
              · have hlji : ¬ (j : Int) < (ys.length : Int) := by omega
                obtain ⟨c0, c1, c2, c3, c4, d0, d1⟩ := HCL.out _ hSr
                obtain ⟨a0, a1, a2, a3, a4⟩ := HCA.out _ hSr
                have k1 := KRK.out wr (HI2.out _ hSr)
                clear KT HNEW HYR
                go_wp2_with fail
                refine k1.mono ?_
                rintro e w7 ⟨rfl, hb7⟩
                have hS7 : (fun W => Below (w2.heap.size + 1) wB W) w7 := keep9 hSr hb7
                obtain ⟨c0, c1, c2, c3, c4, d0, d1⟩ := HCL.out _ hS7
                obtain ⟨a0, a1, a2, a3, a4⟩ := HCA.out _ hS7
                have k2 := KRL.out w7 (HIN.out _ hS7)
                clear k1 hb7 hSr KRK
                go_wp2_with fail
                refine k2.mono ?_
                rintro e w8 ⟨rfl, hb8⟩
                have hS8 : (fun W => Below (w2.heap.size + 1) wB W) w8 := keep9 hS7 hb8
                have hI8 := HIN.out _ hS8
                clear k2 hb8 hS7 KRL HCL HCA HIN HI2 c0 c1 c2 c3 c4 d0 d1 a0 a1 a2 a3 a4
                rcases hfin.out with hf | hf
                · have hfi : ((k1i : Int) == (rn : Int)) = true := by simp; omega
                  have hle : (rn : Int) ≤ (k1i : Int) := by have := hlst.out; omega
                  clear hf hfin hlst
                  go_wp2_with fail
                  refine (ka _).mono ?_
                  rintro e w9 ⟨rfl, hb9⟩
                  go_wp2
                  go_ret
                  exact ⟨rfl, hI8.trans (hb9.mono hI8.size)⟩
                · have hle : (rn : Int) ≤ (k1i : Int) := by have := hlst.out; omega
                  have hfi : ((k1i : Int) == (l1i : Int)) = true := by simp; omega
                  clear hf hfin hlst
                  by_cases he : k1i = rn
                  · have hei : ((k1i : Int) == (rn : Int)) = true := by simp; omega
                    clear he
                    go_wp2_with fail
                    refine (ka _).mono ?_
                    rintro e w9 ⟨rfl, hb9⟩
                    go_wp2
                    go_ret
                    exact ⟨rfl, hI8.trans (hb9.mono hI8.size)⟩
                  · have hei : ((k1i : Int) == (rn : Int)) = false := by simp; omega
                    clear he
                    go_wp2_with fail
                    refine (ka _).mono ?_
                    rintro e w9 ⟨rfl, hb9⟩
                    go_wp2
                    go_ret
                    exact ⟨rfl, hI8.trans (hb9.mono hI8.size)⟩
      · obtain ⟨rfl, hRM, rfl, rfl⟩ : rc = cc ∧ RM = zeroMe ∧ rl = [] ∧ rn = 0 := by cases hR; exact ⟨rfl, rfl, rfl, rfl⟩
        have hzm : (⟨mi, mt, mk, md⟩ : Me) = ⟨0, 0, 0, []⟩ := HRM.out.symm.trans hRM
        have hz2 : zs2 = [] := by have := HM2.out; simpa [mes] using this
        have ks := KSM.out (none, 0, 0) [] (.slice none 0 0) _ (HI2.out _ (Below.refl _ _)) (by rw [hzm]; exact rdb_nil _) (ents_nil _) HM2.out
        have hrb : (rc != 0) = true := by simpa using hc0
        subst hz2
        cases hzm
        dsimp only [lgv] at ks
        clear hR hRk hRM HRM HM2 KSM KMy KRK KT HE2 HRO HD2 KRL HLA HBM HYR HLR HBD HB hc0
        go_wp2_with fail
        generalize hwD : w2.alloc (.cells #[.int .u64 _, .int .u64 _, .int .i64 0, .slice s2a s2n s2c, .slice ta _ tc] 28) = wB at *
        refine ks.mono ?_
        rintro e w3 ⟨rfl, hb3⟩
        have hI3 := HIN.out _ (hb3.mono (by rw [← hwD]; simp))
        clear ks hwD
        go_wp2_with fail
        refine (ka _).mono ?_
        rintro e w4 ⟨rfl, hb4⟩
        go_wp2
        go_ret
        exact ⟨rfl, hI3.trans (hb4.mono hI3.size)⟩
end Go.Proofs.Ytmmonehpfmlmeaa

