import Derived.Test.YtmmonehpfmlmeaaHl37
/- The law RlogCompacts. -/
namespace Go.Proofs.Ytmmonehpfmlmeaa
open Go.RowKit QuorumMath RlogMath
set_option maxRecDepth 100000
set_option linter.unusedSimpArgs false
set_option linter.unusedVariables false

set_option maxHeartbeats 16000000 in
theorem compacts_law (b : Ez) (zs : List Ez) (lv : Value) (x : Nat) (w : World) (hD : DataV w b) (hL : EntsV w lv zs) (hbo : EzOk b) (hok : ∀ z ∈ zs, EzOk z) (hlen : zs.length ≤ 2000000) (hdl : b.1.data.length ≤ 1000000000) (hdz : ∀ z ∈ zs, z.1.data.length ≤ 1000000000) (hx : x < 18446744073709551616) : Calls Try.prog 6 #[lgv b lv, .int .u64 (x : Int)] w fun e w' => e = .returned (.bool true) ∧ Below w.heap.size w w' := by
  have ka := fun W => awake_of W
  obtain ⟨hs, hb0, cl⟩ := lg_box w b lv
  obtain ⟨hRo, hRl, hRn⟩ := comp_okM (x := x) (b := b.1) (l := mes zs) ⟨hbo.1, hbo.2.1, hbo.2.2, hdl⟩ (mes_okM hok hdz) hx
  have hst : Hid (_ → _) := comp_stays (b := b.1) (l := mes zs) (x := x)
  have KL : Hid (∀ W, Below w.heap.size w W → _) := fun W hW => light_of b zs lv W (hL.below hW) (by omega) (fun z hz => by have := hdz z hz; omega)
  have KC : Hid (∀ W, Below w.heap.size w W → _) := fun W hW => pcomp_of b zs lv x W (hD.below hW) (hL.below hW) hbo hok (by omega) hdl hdz
  have KRC : Hid (∀ W, Below w.heap.size w W → _) := fun W hW => rcomp_of b zs lv x W (hD.below hW) (hL.below hW) hbo hok (by omega) hdl
  have KRL : Hid (∀ W, Below w.heap.size w W → _) := fun W hW => rlast_of b zs lv W (hL.below hW) (by omega)
  have KRV : Hid (∀ W, Below w.heap.size w W → _) := fun W hW => rvot_of b zs lv W (hD.below hW) (hL.below hW) hbo hok (by omega) hdl hdz
  have hvl : (votM b.1 (mes zs)).length ≤ 1000000000000000 := by
    unfold votM
    rw [nodesI_len]
    have := votF_len (N := 1000000000) (mes zs) b.1.data (fun e he => by obtain ⟨z, hz, rfl⟩ := List.mem_map.1 he; exact hdz z hz) hdl
    omega
  have hml : (mes zs).length = zs.length := by simp [mes]
  rw [hml] at hRn
  generalize compM b.1 (mes zs) x = R at *
  generalize lastM b.1 (mes zs) = LA at *
  generalize votM b.1 (mes zs) = VM at *
  obtain ⟨rc, rm, rl⟩ := R
  obtain ⟨p1, p2⟩ := LA
  dsimp only at hRo hRl hRn hst
  obtain ⟨la, lc, rfl, -, -⟩ := hL.1.shape
  obtain ⟨⟨ix, tm, kd, dt⟩, sa, sn, sc⟩ := b
  dsimp only [lgc, lgv, lastV] at *
  have hbB := hb0
  obtain ⟨c0, c1, c2, c3, c4⟩ := cl _ (Below.refl _ _)
  have kl := KL.out _ hbB
  have HCL0 : Hid (∀ W, Below (w.heap.size + 1) (w.alloc (.cells #[.int .u64 (ix : Int), .int .u64 (tm : Int), .int .i64 kd, .slice sa sn sc, .slice la zs.length lc] 28)) W → _) := cl
  clear hb0 cl hD hL hbo hok hdz hdl KL hml
  go_enter Try.func6, Try.ntmps6
  generalize hwA : w.alloc (.cells #[.int .u64 (ix : Int), .int .u64 (tm : Int), .int .i64 kd, .slice sa sn sc, .slice la zs.length lc] 28) = wA at *
  have hszA : w.heap.size + 1 ≤ wA.heap.size := by omega
  go_wp2_with fail
  clear hwA hs
  refine kl.mono ?_
  rintro e w1 ⟨Bl, rfl, -, hb1⟩
  have hS1 : Below (w.heap.size + 1) wA w1 := hb1.mono hszA
  have hI1 := hbB.trans (hS1.mono (by omega))
  obtain ⟨c0, c1, c2, c3, c4⟩ := HCL0.out _ hS1
  clear kl hb1
  cases Bl with
  | false =>
    clear KC KRC KRL KRV HCL0 hst
    go_wp2_with fail
    refine (ka _).mono ?_
    rintro e w5 ⟨rfl, hb5⟩
    go_wp2
    go_ret
    exact ⟨rfl, hI1.trans (hb5.mono hI1.size)⟩
  | true =>
    have kc := KC.out w1 hI1
    clear KC
    go_wp2_with fail
    refine kc.mono ?_
    rintro e w2 ⟨⟨v2, rfl, s2, zs2, lv2, rfl, hD2, hE2, hm2⟩, hb2⟩
    have hS2 : Below (w.heap.size + 1) wA w2 := keep9 hS1 hb2
    dsimp only at hm2 hD2
    obtain ⟨hs2, hbx2, cl2⟩ := lg_box w2 (rm, s2) lv2
    have HCA0 : Hid (∀ W, Below (w2.heap.size + 1) (w2.alloc (lgc (rm, s2) lv2)) W → _) := cl2
    have hS3 : Below (w.heap.size + 1) wA (w2.alloc (lgc (rm, s2) lv2)) := keep9 hS2 hbx2
    have hI3 := hbB.trans (hS3.mono (by omega))
    have krc := KRC.out _ hI3
    obtain ⟨c0, c1, c2, c3, c4⟩ := HCL0.out _ hS3
    obtain ⟨ta, tc, rfl, -, -⟩ := hE2.1.shape
    obtain ⟨mi, mt, mk, md⟩ := rm
    obtain ⟨s2a, s2n, s2c⟩ := s2
    dsimp only [lgc, lgv] at *
    clear kc KRC hS1 hI1 cl2 hb2
    go_wp2_with fail
    generalize hwC : w2.alloc (.cells #[.int .u64 (mi : Int), .int .u64 (mt : Int), .int .i64 mk, .slice s2a s2n s2c, .slice ta zs2.length tc] 28) = wC at *
    clear hwC
    refine krc.mono ?_
    rintro e w4 ⟨⟨v4, rfl, s4, zs4, lv4, rfl, hD4, hE4, hm4⟩, hb4⟩
    dsimp only at hm4 hD4
    have hszC : w2.heap.size + 1 ≤ wC.heap.size := by omega
    have hb2C : Below w2.heap.size w2 wC := hbx2
    have hS4 : Below (w.heap.size + 1) wA w4 := keep9 hS3 hb4
    have hA4 : Below (w2.heap.size + 1) wC w4 := hb4.mono hszC
    have hb24 : Below w2.heap.size w2 w4 := hb2C.trans (hb4.mono hb2C.size)
    obtain ⟨hs4, hbx4, cl4⟩ := lg_box w4 (⟨mi, mt, mk, md⟩, s4) lv4
    have hSB : Below (w.heap.size + 1) wA (w4.alloc (lgc (⟨mi, mt, mk, md⟩, s4) lv4)) := keep9 hS4 hbx4
    have hAB : Below (w2.heap.size + 1) wC (w4.alloc (lgc (⟨mi, mt, mk, md⟩, s4) lv4)) := keep9 hA4 hbx4
    have h24 : mes zs2 = mes zs4 := hm2.trans hm4.symm
    have hok2 := okz_of hm2 hRl
    have hln2 : zs2.length ≤ 2000000 := by have := congrArg List.length hm2; simp [mes] at this; omega
    have ks := fun W (hW : Below (w4.alloc (lgc (⟨mi, mt, mk, md⟩, s4) lv4)).heap.size (w4.alloc (lgc (⟨mi, mt, mk, md⟩, s4) lv4)) W) => same_of ⟨mi, mt, mk, md⟩ (s2a, s2n, s2c) s4 zs2 zs4 (.slice ta zs2.length tc) lv4 W (hD2.below (hb24.trans ((hbx4.trans (hW.mono (by omega))).mono hb24.size))) (hD4.below (hbx4.trans (hW.mono (by omega)))) hRo.2.2.1 (hE2.below (hb24.trans ((hbx4.trans (hW.mono (by omega))).mono hb24.size))) (hE4.below (hbx4.trans (hW.mono (by omega)))) h24 (fun z hz => (hok2 z hz).1) (by omega)
    have ks0 := ks _ (Below.refl _ _)
    have KLA : Hid (∀ W, Below w2.heap.size w2 W → _) := fun W hW => plast_of (⟨mi, mt, mk, md⟩, (s2a, s2n, s2c)) zs2 (.slice ta zs2.length tc) W (hE2.below hW) (by omega)
    have KV : Hid (∀ W, Below w2.heap.size w2 W → _) := fun W hW => pvot_of (⟨mi, mt, mk, md⟩, (s2a, s2n, s2c)) zs2 (.slice ta zs2.length tc) W (hD2.below hW) (hE2.below hW) ⟨hRo.1, hRo.2.1, hRo.2.2.1⟩ (fun z hz => (hok2 z hz).1) (by omega) hRo.2.2.2 (fun z hz => (hok2 z hz).2)
    rw [hm2] at KLA KV
    have hsz4 : w2.heap.size + 1 ≤ w4.heap.size := by have := hA4.size; omega
    have HIN : Hid (∀ W, Below (w4.heap.size + 1) (w4.alloc (lgc (⟨mi, mt, mk, md⟩, s4) lv4)) W → Below w.heap.size w W) := fun W hW => hbB.trans ((hSB.trans (hW.mono (by have := hS4.size; omega))).mono (by omega))
    have HI5 : Hid (∀ W, Below (w4.heap.size + 1) (w4.alloc (lgc (⟨mi, mt, mk, md⟩, s4) lv4)) W → Below w2.heap.size w2 W) := fun W hW => hb24.trans ((hbx4.trans (hW.mono (by omega))).mono hb24.size)
    have HCL : Hid (∀ W, Below (w4.heap.size + 1) (w4.alloc (lgc (⟨mi, mt, mk, md⟩, s4) lv4)) W → _) := fun W hW => HCL0.out W (hSB.trans (hW.mono (by have := hS4.size; omega)))
    have HCA : Hid (∀ W, Below (w4.heap.size + 1) (w4.alloc (lgc (⟨mi, mt, mk, md⟩, s4) lv4)) W → _) := fun W hW => HCA0.out W (hAB.trans (hW.mono (by omega)))
    obtain ⟨ua, uc, rfl, -, -⟩ := hE4.1.shape
    obtain ⟨s4a, s4n, s4c⟩ := s4
    dsimp only [lgc, lgv] at *
    obtain ⟨c0, c1, c2, c3, c4⟩ := HCL.out _ (Below.refl _ _)
    obtain ⟨a0, a1, a2, a3, a4⟩ := HCA.out _ (Below.refl _ _)
    obtain ⟨b0, b1, b2, b3, b4⟩ := cl4 _ (Below.refl _ _)
    clear krc HCL0 HCA0 ks hS3 hI3 hS4 hA4 hSB hAB hb4 hD2 hE2 hm2 hD4 hE4 hm4 h24 hok2 cl4 hbx2 hs2 hb2C hRl hRo
    go_wp2_with fail
    generalize hwD : w4.alloc (.cells #[.int .u64 (mi : Int), .int .u64 (mt : Int), .int .i64 mk, .slice s4a s4n s4c, .slice ua zs4.length uc] 28) = wB at *
    have hszB : w4.heap.size + 1 ≤ wB.heap.size := by omega
    clear hwD hs4
    refine ks0.mono ?_
    rintro e w6 ⟨rfl, hb6⟩
    have hS6 : Below (w4.heap.size + 1) wB w6 := hb6.mono hszB
    obtain ⟨c0, c1, c2, c3, c4⟩ := HCL.out _ hS6
    obtain ⟨a0, a1, a2, a3, a4⟩ := HCA.out _ hS6
    clear ks0 hb6 b0 b1 b2 b3 b4
    by_cases hrc : rc = 0
    · obtain ⟨st1, st2⟩ := hst.out hrc
      rw [st1] at KLA
      rw [st2] at KV
      subst hrc
      have k7 := KLA.out w6 (HI5.out _ hS6)
      clear hst st1 st2 KLA
      dsimp only [lastV] at k7
      go_wp2_with fail
      refine k7.mono ?_
      rintro e w7 ⟨rfl, hb7⟩
      have hS7 : Below (w4.heap.size + 1) wB w7 := keep9 hS6 hb7
      have k8 := KRL.out w7 (HIN.out _ hS7)
      obtain ⟨c0, c1, c2, c3, c4⟩ := HCL.out _ hS7
      clear k7 hb7 hS6 KRL
      go_wp2_with fail
      refine k8.mono ?_
      rintro e wN ⟨rfl, hb8⟩
      have hSN : Below (w4.heap.size + 1) wB wN := keep9 hS7 hb8
      clear k8 hb8 hS7 c0 c1 c2 c3 c4 a0 a1 a2 a3 a4
      go_wp2
      (try simp only [Exit.inBlock, Exit.then])
      refine wp_region_L (fun W => Below (w4.heap.size + 1) wB W) [] (by kernel_rfl) ?_
      have hS0 : (fun W => Below (w4.heap.size + 1) wB W) wN.drew := hSN.drew
      have hI0 := HIN.out _ hS0
      generalize wN.drew = W0 at *
      refine wpAnyL_take 0 rfl (by kernel_rfl) (by kernel_rfl) (by kernel_rfl) (by kernel_rfl) (fun _ _ _ h => h) (by kernel_rfl) (by intro w' hS'; have hz := hS'; obtain ⟨c0, c1, c2, c3, c4⟩ := HCL.out _ hz; obtain ⟨a0, a1, a2, a3, a4⟩ := HCA.out _ hz; go_simp <;> rfl) hS0 ?_
      try simp only [List.getElem_toArray, List.getElem_cons_succ, List.getElem_cons_zero, Act.put, List.setIfInBounds_toArray, List.set_cons_zero, List.set_cons_succ]
      refine wpAnyL_take 1 rfl (by kernel_rfl) (by kernel_rfl) (by kernel_rfl) (by kernel_rfl) (fun _ _ _ h => h) (by kernel_rfl) (by intro w' hS'; have hz := hS'; obtain ⟨c0, c1, c2, c3, c4⟩ := HCL.out _ hz; obtain ⟨a0, a1, a2, a3, a4⟩ := HCA.out _ hz; go_simp <;> rfl) hS0 ?_
      try simp only [List.getElem_toArray, List.getElem_cons_succ, List.getElem_cons_zero, Act.put, List.setIfInBounds_toArray, List.set_cons_zero, List.set_cons_succ]
      refine wpAnyL_take 2 rfl (by kernel_rfl) (by kernel_rfl) (by kernel_rfl) (by kernel_rfl) (fun _ _ _ h => h) (by kernel_rfl) (by intro w' hS'; have hz := hS'; obtain ⟨c0, c1, c2, c3, c4⟩ := HCL.out _ hz; obtain ⟨a0, a1, a2, a3, a4⟩ := HCA.out _ hz; go_simp <;> rfl) hS0 ?_
      try simp only [List.getElem_toArray, List.getElem_cons_succ, List.getElem_cons_zero, Act.put, List.setIfInBounds_toArray, List.set_cons_zero, List.set_cons_succ]
      refine wpAnyL_take 3 rfl (by kernel_rfl) (by kernel_rfl) (by kernel_rfl) (by kernel_rfl) (fun _ _ _ h => h) (by kernel_rfl) (by intro w' hS'; have hz := hS'; obtain ⟨c0, c1, c2, c3, c4⟩ := HCL.out _ hz; obtain ⟨a0, a1, a2, a3, a4⟩ := HCA.out _ hz; go_simp <;> rfl) hS0 ?_
      try simp only [List.getElem_toArray, List.getElem_cons_succ, List.getElem_cons_zero, Act.put, List.setIfInBounds_toArray, List.set_cons_zero, List.set_cons_succ]
      refine wpAnyL_take 4 rfl (by kernel_rfl) (by kernel_rfl) (by kernel_rfl) (by kernel_rfl) (fun _ _ _ h => h) (by kernel_rfl) (by intro w' hS'; have hz := hS'; obtain ⟨c0, c1, c2, c3, c4⟩ := HCL.out _ hz; obtain ⟨a0, a1, a2, a3, a4⟩ := HCA.out _ hz; go_simp <;> rfl) hS0 ?_
      try simp only [List.getElem_toArray, List.getElem_cons_succ, List.getElem_cons_zero, Act.put, List.setIfInBounds_toArray, List.set_cons_zero, List.set_cons_succ]
      refine wpAnyL_take 5 rfl (by kernel_rfl) (by kernel_rfl) (by kernel_rfl) (by kernel_rfl) (fun _ _ _ h => h) (by kernel_rfl) (by intro w' hS'; have hz := hS'; obtain ⟨c0, c1, c2, c3, c4⟩ := HCL.out _ hz; obtain ⟨a0, a1, a2, a3, a4⟩ := HCA.out _ hz; go_simp <;> rfl) hS0 ?_
      try simp only [List.getElem_toArray, List.getElem_cons_succ, List.getElem_cons_zero, Act.put, List.setIfInBounds_toArray, List.set_cons_zero, List.set_cons_succ]
      refine wpAnyL_take 6 rfl (by kernel_rfl) (by kernel_rfl) (by kernel_rfl) (by kernel_rfl) (fun _ _ _ h => h) (by kernel_rfl) (by intro w' hS'; have hz := hS'; obtain ⟨c0, c1, c2, c3, c4⟩ := HCL.out _ hz; obtain ⟨a0, a1, a2, a3, a4⟩ := HCA.out _ hz; go_simp <;> rfl) hS0 ?_
      try simp only [List.getElem_toArray, List.getElem_cons_succ, List.getElem_cons_zero, Act.put, List.setIfInBounds_toArray, List.set_cons_zero, List.set_cons_succ]
      refine wpAnyL_take 7 rfl (by kernel_rfl) (by kernel_rfl) (by kernel_rfl) (by kernel_rfl) (fun _ _ _ h => h) (by kernel_rfl) (by intro w' hS'; have hz := hS'; obtain ⟨c0, c1, c2, c3, c4⟩ := HCL.out _ hz; obtain ⟨a0, a1, a2, a3, a4⟩ := HCA.out _ hz; go_simp <;> rfl) hS0 ?_
      try simp only [List.getElem_toArray, List.getElem_cons_succ, List.getElem_cons_zero, Act.put, List.setIfInBounds_toArray, List.set_cons_zero, List.set_cons_succ]
      refine wpAnyL_take 8 rfl (by kernel_rfl) (by kernel_rfl) (by kernel_rfl) (by kernel_rfl) (fun _ _ _ h => h) (by kernel_rfl) (by intro w' hS'; have hz := hS'; obtain ⟨c0, c1, c2, c3, c4⟩ := HCL.out _ hz; obtain ⟨a0, a1, a2, a3, a4⟩ := HCA.out _ hz; go_simp <;> rfl) hS0 ?_
      try simp only [List.getElem_toArray, List.getElem_cons_succ, List.getElem_cons_zero, Act.put, List.setIfInBounds_toArray, List.set_cons_zero, List.set_cons_succ]
      refine wpAnyL_take 9 rfl (by kernel_rfl) (by kernel_rfl) (by kernel_rfl) (by kernel_rfl) (fun _ _ _ h => h) (by kernel_rfl) (by intro w' hS'; have hz := hS'; obtain ⟨c0, c1, c2, c3, c4⟩ := HCL.out _ hz; obtain ⟨a0, a1, a2, a3, a4⟩ := HCA.out _ hz; go_simp <;> rfl) hS0 ?_
      try simp only [List.getElem_toArray, List.getElem_cons_succ, List.getElem_cons_zero, Act.put, List.setIfInBounds_toArray, List.set_cons_zero, List.set_cons_succ]
      refine wpAnyL_take 11 rfl (by kernel_rfl) (by kernel_rfl) (by kernel_rfl) (by kernel_rfl) (fun _ _ _ h => h) (by kernel_rfl) (by intro w' hS'; have hz := hS'; obtain ⟨c0, c1, c2, c3, c4⟩ := HCL.out _ hz; obtain ⟨a0, a1, a2, a3, a4⟩ := HCA.out _ hz; go_simp <;> rfl) hS0 ?_
      try simp only [List.getElem_toArray, List.getElem_cons_succ, List.getElem_cons_zero, Act.put, List.setIfInBounds_toArray, List.set_cons_zero, List.set_cons_succ]
      refine wpAnyL_one 10 (by kernel_rfl) rfl (by kernel_rfl) ?_
      intro K' hK'
      go_simp
      go_at_call 22
      refine (KV.out _ (HI5.out _ hS0)).mono ?_
      rintro e W1 ⟨v1, rfl, hR1, hb1⟩
      have hS1 : (fun W => Below (w4.heap.size + 1) wB W) W1 := keep9 hS0 hb1
      have hI1 := HIN.out _ hS1
      obtain ⟨y1a, y1c, rfl, -, -⟩ := hR1.shape
      refine hK'.out _ _ (.inr hS1) ?_
      clear hK' K'
      try simp only [List.getElem_toArray, List.getElem_cons_succ, List.getElem_cons_zero, Act.put, List.setIfInBounds_toArray, List.set_cons_zero, List.set_cons_succ]
      refine wpAnyL_one 12 (by kernel_rfl) rfl (by kernel_rfl) ?_
      intro K' hK'
      go_simp
      go_at_call 23
      refine (KRV.out _ hI1).mono ?_
      rintro e W2 ⟨v2, rfl, hR2, hb2⟩
      have hS2 : (fun W => Below (w4.heap.size + 1) wB W) W2 := keep9 hS1 hb2
      have hI2 := HIN.out _ hS2
      have ki := ints_of _ _ _ W2 (hR1.below hb2) hR2 hvl
      obtain ⟨y2a, y2c, rfl, -, -⟩ := hR2.shape
      refine hK'.out _ _ (.inr hS2) ?_
      clear hK' K'
      try simp only [List.getElem_toArray, List.getElem_cons_succ, List.getElem_cons_zero, Act.put, List.setIfInBounds_toArray, List.set_cons_zero, List.set_cons_succ]
      refine wpAnyL_one 13 (by kernel_rfl) rfl (by kernel_rfl) ?_
      intro K' hK'
      go_simp
      go_at_call 21
      refine ki.mono ?_
      rintro e W3 ⟨rfl, hb3⟩
      have hS3 : (fun W => Below (w4.heap.size + 1) wB W) W3 := keep9 hS2 hb3
      have hI3 := HIN.out _ hS3
      clear ki hR1 hR2 KV KRV
      refine hK'.out _ _ (.inr hS3) ?_
      clear hK' K'
      try simp only [List.getElem_toArray, List.getElem_cons_succ, List.getElem_cons_zero, Act.put, List.setIfInBounds_toArray, List.set_cons_zero, List.set_cons_succ]
      refine wpAnyL_take 14 rfl (by kernel_rfl) (by kernel_rfl) (by kernel_rfl) (by kernel_rfl) (fun _ _ _ h => h) (by kernel_rfl) (by intro w' hS'; have hz := hS'; obtain ⟨c0, c1, c2, c3, c4⟩ := HCL.out _ hz; obtain ⟨a0, a1, a2, a3, a4⟩ := HCA.out _ hz; go_simp <;> rfl) hS3 ?_
      try simp only [List.getElem_toArray, List.getElem_cons_succ, List.getElem_cons_zero, Act.put, List.setIfInBounds_toArray, List.set_cons_zero, List.set_cons_succ]
      refine wpAnyL_take 15 rfl (by kernel_rfl) (by kernel_rfl) (by kernel_rfl) (by kernel_rfl) (fun _ _ _ h => h) (by kernel_rfl) (by intro w' hS'; have hz := hS'; obtain ⟨c0, c1, c2, c3, c4⟩ := HCL.out _ hz; obtain ⟨a0, a1, a2, a3, a4⟩ := HCA.out _ hz; go_simp <;> rfl) hS3 ?_
      try simp only [List.getElem_toArray, List.getElem_cons_succ, List.getElem_cons_zero, Act.put, List.setIfInBounds_toArray, List.set_cons_zero, List.set_cons_succ]
      refine wpAnyL_one 16 (by kernel_rfl) rfl (by kernel_rfl) ?_
      intro K' hK'
      go_simp
      go_at_call 13
      refine (ka _).mono ?_
      rintro e W4 ⟨rfl, hb4⟩
      have hS4 : (fun W => Below (w4.heap.size + 1) wB W) W4 := keep9 hS3 hb4
      have hI4 := HIN.out _ hS4
      refine hK'.out _ _ (.inr hS4) ?_
      clear hK' K'
      try simp only [List.getElem_toArray, List.getElem_cons_succ, List.getElem_cons_zero, Act.put, List.setIfInBounds_toArray, List.set_cons_zero, List.set_cons_succ]
      refine wpAnyL_take 17 rfl (by kernel_rfl) (by kernel_rfl) (by kernel_rfl) (by kernel_rfl) (fun _ _ _ h => h) (by kernel_rfl) (by intro w' hS'; have hz := hS'; obtain ⟨c0, c1, c2, c3, c4⟩ := HCL.out _ hz; obtain ⟨a0, a1, a2, a3, a4⟩ := HCA.out _ hz; go_simp <;> rfl) hS4 ?_
      try simp only [List.getElem_toArray, List.getElem_cons_succ, List.getElem_cons_zero, Act.put, List.setIfInBounds_toArray, List.set_cons_zero, List.set_cons_succ]
      refine wpAnyL_take 18 rfl (by kernel_rfl) (by kernel_rfl) (by kernel_rfl) (by kernel_rfl) (fun _ _ _ h => h) (by kernel_rfl) (by intro w' hS'; have hz := hS'; obtain ⟨c0, c1, c2, c3, c4⟩ := HCL.out _ hz; obtain ⟨a0, a1, a2, a3, a4⟩ := HCA.out _ hz; go_simp <;> rfl) hS4 ?_
      try simp only [List.getElem_toArray, List.getElem_cons_succ, List.getElem_cons_zero, Act.put, List.setIfInBounds_toArray, List.set_cons_zero, List.set_cons_succ]
      refine wpAnyL_done (by kernel_rfl) (NoPanic.normal ?_) _
      go_wp2
      go_ret
      exact ⟨rfl, hI4⟩
    · have hrb : (rc != 0) = true := by simpa using hrc
      have hI6 := HIN.out _ hS6
      clear hst KLA KV KRL KRV HCL HCA HIN HI5
      go_wp2_with fail
      refine (ka _).mono ?_
      rintro e w7 ⟨rfl, hb7⟩
      go_wp2
      go_ret
      exact ⟨rfl, hI6.trans (hb7.mono hI6.size)⟩
end Go.Proofs.Ytmmonehpfmlmeaa

