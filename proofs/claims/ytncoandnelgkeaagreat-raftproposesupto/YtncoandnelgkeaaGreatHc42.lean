import Derived.Test.YtncoandnelgkeaaGreatHc41
/- The document's Ints, of any two lists. -/
namespace Go.Proofs.YtncoandnelgkeaaGreat
open Go.RowKit QuorumMath RlogMath RaftMath
set_option maxRecDepth 100000
set_option linter.unusedSimpArgs false
set_option linter.unusedVariables false

set_option maxHeartbeats 2000000 in
theorem intsG_of (a b : List Int) (lv mv : Value) (w : World) (hF : Rd intE w lv a) (hG : Rd intE w mv b) (hla : a.length ≤ 1000000000000000) (hlb : b.length ≤ 1000000000000000) : Calls Tryz.prog 20 #[lv, mv] w fun e w' => e = .returned (.bool (decide (a = b))) ∧ Below w.heap.size w w' := by
  obtain ⟨B, HB⟩ : ∃ B, Hid (B = decide (a = b)) := ⟨_, rfl⟩
  rw [← HB.out]
  have HF : Hid (Rd intE w lv a) := hF
  have HG : Hid (Rd intE w mv b) := hG
  obtain ⟨ao, cap, rfl, -, -⟩ := hF.shape
  obtain ⟨am, cm, rfl, -, -⟩ := hG.shape
  clear hF hG
  by_cases hl : a.length = b.length
  · obtain ⟨n, hn⟩ : ∃ n, n = a.length := ⟨_, rfl⟩
    have HN : Hid (n = a.length) := hn
    have HM : Hid (n = b.length) := by show _ = _; omega
    rw [← HN.out] at HF ⊢
    rw [← HM.out] at HG ⊢
    have hln : n ≤ 1000000000000000 := by omega
    clear hl hla hlb hn
    go_enter Tryz.func20, Tryz.ntmps20
    go_wp2
    go_loopg [5] n (fun g s5 wr => ∃ i : Nat, i + g = n ∧ s5 = .int .i64 (i : Int) ∧ Below w.heap.size w wr ∧ Hid (a.take i = b.take i))
    case atStart => exact ⟨0, by simp, rfl, Below.refl _ _, rfl⟩
    case round =>
      obtain ⟨i, hig, rfl, hb, HE⟩ := hrel
      by_cases hlt : i < n
      · have hlti : (i : Int) < (n : Int) := by omega
        have hxa : a[i]? = some (a[i]'(by have := HN.out; omega)) := List.getElem?_eq_getElem _
        have hxb : b[i]? = some (b[i]'(by have := HM.out; omega)) := List.getElem?_eq_getElem _
        obtain ⟨x, hx⟩ : ∃ x, x = a[i]'(by have := HN.out; omega) := ⟨_, rfl⟩
        obtain ⟨y, hy⟩ : ∃ y, y = b[i]'(by have := HM.out; omega) := ⟨_, rfl⟩
        rw [← hx] at hxa
        rw [← hy] at hxb
        clear hx hy
        obtain ⟨p, off, rfl, c⟩ := rdi_at HF.out hxa
        obtain ⟨p', off', rfl, c'⟩ := rdi_at HG.out hxb
        have c0 := c wr hb
        have c1 := c' wr hb
        by_cases hxy : x = y
        · subst hxy
          have HE2 : Hid (a.take (i + 1) = b.take (i + 1)) := by show _ = _; rw [take_succ_get hxa, take_succ_get hxb, HE.out]
          clear c c' HF HG hxa hxb HE
          go_wp2
          go_quiet (fail)
          go_wp2
          go_roundg (gk - 1)
          case measure => omega
          case rel => exact ⟨i + 1, by omega, by go_num, below_dN hb nq, HE2⟩
        · have hne : (x != y) = true := by simpa using hxy
          have E0 : Hid (B = false) := by
            show _ = _
            rw [HB.out, decide_eq_false_iff_not]
            intro he
            rw [he, hxb] at hxa
            exact hxy (Option.some.inj hxa).symm
          clear c c' HF HG hxa hxb HE HB hxy
          go_wp2
          go_quiet (fail)
          go_wp2
          go_ret
          exact ⟨by rw [E0.out]; rfl, below_dN hb nq⟩
      · have hlti : ¬ (i : Int) < (n : Int) := by omega
        have E0 : Hid (B = true) := by
          show _ = _
          have := HE.out
          rw [List.take_of_length_le (by have := HN.out; omega), List.take_of_length_le (by have := HM.out; omega)] at this
          rw [HB.out, decide_eq_true this]
        clear HF HG HE HB
        go_wp2
        go_ret
        exact ⟨by rw [E0.out]; rfl, hb⟩
  · have hne : ((a.length : Int) != (b.length : Int)) = true := by simp; omega
    have E0 : Hid (B = false) := by
      show _ = _
      rw [HB.out, decide_eq_false_iff_not]
      intro he
      exact hl (congrArg List.length he)
    clear HF HG HB hl
    go_enter Tryz.func20, Tryz.ntmps20
    go_wp2
    go_ret
    exact ⟨by rw [E0.out]; rfl, Below.refl _ _⟩
end Go.Proofs.YtncoandnelgkeaaGreat

/- The document's May. -/
namespace Go.Proofs.YtncoandnelgkeaaGreat
open Go.RowKit QuorumMath RlogMath RaftMath
set_option maxRecDepth 100000
set_option linter.unusedSimpArgs false
set_option linter.unusedVariables false

set_option maxHeartbeats 16000000 in
theorem rmay_of (n : Nat) (r : Mr) (v : Value) (w : World) (hS : RsV n w v r) (hbo : OkM r.base) (hlo : ∀ e ∈ r.log, OkM e) (hlg : r.log.length ≤ 1000000) (hpl : r.peers.length ≤ 1000000) (hvt : r.votes.length ≤ 1000000) (hvl : (votR r).length ≤ 1000000000) (hnx : ∀ p ∈ r.peers, p.next < 18446744073709551616 ∧ p.mat < 18446744073709551616) : Calls Tryz.prog 10 #[v] w fun e w' => e = .returned (.bool (mayR r)) ∧ Below w.heap.size w w' := by
  obtain ⟨z, rfl, hz, hR⟩ := hS
  obtain ⟨r', zs, ⟨ba, bn, bc⟩, ⟨la, ln, lc⟩, ⟨va, vn, vc⟩, ⟨pa, pn, pc⟩⟩ := z
  obtain rfl : r' = r := hz
  obtain ⟨nd, tm, vo, ⟨bi, bt, bk, bd⟩, lg, cm, ro, le, el, vt, pe⟩ := r'
  dsimp only [rv] at *
  obtain ⟨RR, HRR⟩ : ∃ RR, Hid (RR = roleB ⟨nd, tm, vo, ⟨bi, bt, bk, bd⟩, lg, cm, ro, le, el, vt, pe⟩) := ⟨_, rfl⟩
  obtain ⟨B, HB⟩ : ∃ B, Hid (B = mayR ⟨nd, tm, vo, ⟨bi, bt, bk, bd⟩, lg, cm, ro, le, el, vt, pe⟩) := ⟨_, rfl⟩
  rw [← HB.out]
  have HB : Hid (B = (nodeB nd && decide (tm ≤ 4611686018427387904) && decide (0 ≤ vo) && decide (vo ≤ 7) && decide (0 ≤ le) && decide (le ≤ 7) && decide (0 ≤ el) && decide (el ≤ 1000) && mayB ⟨bi, bt, bk, bd⟩ lg && decide ((lastM ⟨bi, bt, bk, bd⟩ lg).2 ≤ tm) && decide (bi ≤ cm) && decide (cm ≤ (lastM ⟨bi, bt, bk, bd⟩ lg).1) && RR)) := by show _ = _; rw [HB.out, HRR.out]; rfl
  have hml : mes zs = lg := hR.2.2.1
  have hzl : zs.length ≤ 1000000 := by have := congrArg List.length hml; rw [List.length_map] at this; omega
  have hzo := okz_of hml hlo
  have HVL : Hid ((votM ⟨bi, bt, bk, bd⟩ lg).length ≤ 1000000000) := hvl
  obtain ⟨z1, B1, hb1⟩ := one_box w (.cells #[.int .i64 nd, .int .u64 (tm : Int), .int .i64 vo, .int .u64 (bi : Int), .int .u64 (bt : Int), .int .i64 bk, .slice ba bn bc, .slice la ln lc, .int .u64 (cm : Int), .int .i64 ro, .int .i64 le, .int .i64 el, .slice va vn vc, .slice pa pn pc] 32)
  have kn := rnode_of nd (w.alloc (.cells #[.int .i64 nd, .int .u64 (tm : Int), .int .i64 vo, .int .u64 (bi : Int), .int .u64 (bt : Int), .int .i64 bk, .slice ba bn bc, .slice la ln lc, .int .u64 (cm : Int), .int .i64 ro, .int .i64 le, .int .i64 el, .slice va vn vc, .slice pa pn pc] 32))
  have HKM : Hid (∀ W, Below w.heap.size w W → _) := fun W hW => may_of (⟨bi, bt, bk, bd⟩, ba, bn, bc) zs (.slice la ln lc) W (hR.1.below hW).v (hR.2.1.below hW).v ⟨hbo.1, hbo.2.1, hbo.2.2.1⟩ (fun z hz => (hzo z hz).1) (by omega) hbo.2.2.2
  have HKL : Hid (∀ W, Below w.heap.size w W → _) := fun W hW => rlast_of (⟨bi, bt, bk, bd⟩, ba, bn, bc) zs (.slice la ln lc) W (hR.2.1.below hW).v (by omega)
  have HKV : Hid (∀ W, Below w.heap.size w W → _) := fun W hW => rvot_of (⟨bi, bt, bk, bd⟩, ba, bn, bc) zs (.slice la ln lc) W (hR.1.below hW).v (hR.2.1.below hW).v ⟨hbo.1, hbo.2.1, hbo.2.2.1⟩ (fun z hz => (hzo z hz).1) (by omega) hbo.2.2.2 (fun z hz => (hzo z hz).2)
  rw [hml] at HKM HKL HKV
  obtain ⟨pa', pc', hps, -, -⟩ := hR.2.2.2.2.rd.shape
  simp only [slv, Value.slice.injEq] at hps
  obtain ⟨rfl, rfl, rfl⟩ := hps
  obtain ⟨va', vc', hvs, -, -⟩ := hR.2.2.2.1.rd.shape
  simp only [slv, Value.slice.injEq] at hvs
  obtain ⟨rfl, rfl, rfl⟩ := hvs
  obtain ⟨LT, HLM⟩ : ∃ LT, Hid (lastM ⟨bi, bt, bk, bd⟩ lg = LT) := ⟨_, rfl⟩
  rw [HLM.out] at HB HKL
  have HRR : Hid (RR = roleB ⟨nd, tm, vo, ⟨bi, bt, bk, bd⟩, lg, cm, ro, le, el, vt, pe⟩ ∧ endI ⟨nd, tm, vo, ⟨bi, bt, bk, bd⟩, lg, cm, ro, le, el, vt, pe⟩ = LT.1) := ⟨HRR.out, by unfold endI; rw [HLM.out]⟩
  obtain ⟨E, ET⟩ := LT
  dsimp only [lgv, lastV] at *
  clear hml hzl hzo hbo hlo hvl
  go_enter Tryz.func10, Tryz.ntmps10
  go_wp2_with fail
  refine kn.mono ?_
  rintro e w2 ⟨rfl, hw2⟩
  rw [← hw2] at B1 hb1
  have B2 := B1
  have hb2 := hb1
  clear kn B1 hb1 z1 hw2
  obtain ⟨-, o0, o1, o2, o3, o4, o5, o6, o7, o8, o9, o10, o11, o12, o13⟩ := r14_cells B2
  cases hq : nodeB nd with
  | false =>
    rw [hq] at HB
    have E0 : Hid (B = false) := by show _ = _; rw [HB.out]; simp
    clear HB HKM HKL HKV HRR
    go_wp2
    go_ret
    exact ⟨by rw [E0.out]; rfl, hb2⟩
  | true =>
    rw [hq] at HB
    by_cases h0 : tm ≤ 4611686018427387904
    · rw [decide_eq_true h0] at HB
      have hd0a : decide ((4611686018427387904 : Int) < (tm : Int)) = false := by simp; omega
      have H0 : Hid _ := h0
      clear h0
      by_cases h1 : 0 ≤ vo
      · rw [decide_eq_true h1] at HB
        have hd1a : decide (vo < 0) = false := by simp; omega
        have H1 : Hid _ := h1
        clear h1
        by_cases h2 : vo ≤ 7
        · rw [decide_eq_true h2] at HB
          have hd2a : decide ((7 : Int) < vo) = false := by simp; omega
          have H2 : Hid _ := h2
          clear h2
          by_cases h3 : 0 ≤ le
          · rw [decide_eq_true h3] at HB
            have hd3a : decide (le < 0) = false := by simp; omega
            have H3 : Hid _ := h3
            clear h3
            by_cases h4 : le ≤ 7
            · rw [decide_eq_true h4] at HB
              have hd4a : decide ((7 : Int) < le) = false := by simp; omega
              have H4 : Hid _ := h4
              clear h4
              by_cases h5 : 0 ≤ el
              · rw [decide_eq_true h5] at HB
                have hd5a : decide (el < 0) = false := by simp; omega
                have H5 : Hid _ := h5
                clear h5
                by_cases h6 : el ≤ 1000
                · rw [decide_eq_true h6] at HB
                  have hd6a : decide ((1000 : Int) < el) = false := by simp; omega
                  have H6 : Hid _ := h6
                  clear h6
                  clear o0 o1 o2 o3 o4 o5 o6 o7 o8 o9 o10 o11 o12 o13
                  have k2 := HKM.out w2 hb2
                  obtain ⟨-, o0, o1, o2, o3, o4, o5, o6, o7, o8, o9, o10, o11, o12, o13⟩ := r14_cells B2
                  clear HKM
                  go_wp2_with fail
                  refine k2.mono ?_
                  rintro e w3 ⟨rfl, hb3⟩
                  have B3 := (hb3.block w.heap.size (Array.getElem?_eq_some_iff.1 B2).1).trans B2
                  have hb03 := hb2.trans (hb3.mono hb2.size)
                  clear k2 hb3 B2 hb2 o0 o1 o2 o3 o4 o5 o6 o7 o8 o9 o10 o11 o12 o13
                  obtain ⟨-, o0, o1, o2, o3, o4, o5, o6, o7, o8, o9, o10, o11, o12, o13⟩ := r14_cells B3
                  cases hm : mayB ⟨bi, bt, bk, bd⟩ lg with
                  | false =>
                    rw [hm] at HB
                    have E0 : Hid (B = false) := by show _ = _; rw [HB.out]; simp
                    clear HB hm HKL HKV HRR
                    go_wp2
                    go_ret
                    exact ⟨by rw [E0.out]; rfl, hb03⟩
                  | true =>
                    rw [hm] at HB
                    have hEb : E ≤ 4611686018427392000 := by
                      have := may_last hm
                      rw [HLM.out] at this
                      dsimp only at this
                      omega
                    have k3 := HKL.out w3 hb03
                    clear HKL hm
                    go_wp2_with fail
                    refine k3.mono ?_
                    rintro e w4 ⟨rfl, hb4'⟩
                    have B4 := (hb4'.block w.heap.size (Array.getElem?_eq_some_iff.1 B3).1).trans B3
                    have hb4 := hb03.trans (hb4'.mono hb03.size)
                    clear k3 hb4' B3 hb03 o0 o1 o2 o3 o4 o5 o6 o7 o8 o9 o10 o11 o12 o13
                    obtain ⟨-, o0, o1, o2, o3, o4, o5, o6, o7, o8, o9, o10, o11, o12, o13⟩ := r14_cells B4
                    by_cases h20 : ET ≤ tm
                    · rw [decide_eq_true h20] at HB
                      have hd20a : decide ((tm : Int) < (ET : Int)) = false := by simp; omega
                      have hd20b : decide (tm < ET) = false := by simp; omega
                      have H20 : Hid _ := h20
                      clear h20
                      by_cases h21 : bi ≤ cm
                      · rw [decide_eq_true h21] at HB
                        have hd21a : decide ((cm : Int) < (bi : Int)) = false := by simp; omega
                        have hd21b : decide (cm < bi) = false := by simp; omega
                        have H21 : Hid _ := h21
                        clear h21
                        by_cases h22 : cm ≤ E
                        · rw [decide_eq_true h22] at HB
                          have hd22a : decide ((E : Int) < (cm : Int)) = false := by simp; omega
                          have hd22b : decide (E < cm) = false := by simp; omega
                          have H22 : Hid _ := h22
                          clear h22
                          have HBR : Hid (B = RR) := by show _ = _; rw [HB.out]; simp
                          clear HB
                          by_cases r0 : ro = 0
                          · have hbR : B = (decide (vt.length = 0) && decide (pe.length = 0)) := by rw [HBR.out, HRR.out.1, roleB_fol r0, nil_len]
                            subst r0
                            clear HBR HRR HKV
                            by_cases v0 : vt.length = 0
                            · rw [decide_eq_true v0] at hbR
                              have v0i : ((vt.length : Int) == 0) = true := by rw [beq_iff_eq]; omega
                              by_cases p0 : pe.length = 0
                              · have p0i : ((pe.length : Int) == 0) = true := by rw [beq_iff_eq]; omega
                                have E0 : Hid (B = true) := by show _ = _; rw [hbR, decide_eq_true p0]; rfl
                                generalize vt.length = VL at *
                                generalize pe.length = PL at *
                                clear hbR p0 v0
                                go_wp2
                                go_ret
                                exact ⟨by rw [E0.out]; rfl, hb4⟩
                              · have p0i : ((pe.length : Int) == 0) = false := by rw [beq_eq_false_iff_ne]; omega
                                have E0 : Hid (B = false) := by show _ = _; rw [hbR, decide_eq_false p0]; rfl
                                generalize vt.length = VL at *
                                generalize pe.length = PL at *
                                clear hbR p0 v0
                                go_wp2
                                go_ret
                                exact ⟨by rw [E0.out]; rfl, hb4⟩
                            · have v0i : ((vt.length : Int) == 0) = false := by rw [beq_eq_false_iff_ne]; omega
                              have E0 : Hid (B = false) := by show _ = _; rw [hbR, decide_eq_false v0]; rfl
                              generalize vt.length = VL at *
                              generalize pe.length = PL at *
                              clear hbR v0
                              go_wp2
                              go_ret
                              exact ⟨by rw [E0.out]; rfl, hb4⟩
                          · by_cases r1 : ro = 1
                            · have hbR : B = (decide (pe.length = 0) && (decide (vt.length = 0) || votB vt)) := by rw [HBR.out, HRR.out.1, roleB_can r1, nil_len]
                              subst r1
                              clear HBR HRR r0
                              by_cases p0 : pe.length = 0
                              · rw [decide_eq_true p0] at hbR
                                have p0i : ((pe.length : Int) == 0) = true := by rw [beq_iff_eq]; omega
                                by_cases v0 : vt.length = 0
                                · have v0i : ((vt.length : Int) == 0) = true := by rw [beq_iff_eq]; omega
                                  have E0 : Hid (B = true) := by show _ = _; rw [hbR, decide_eq_true v0]; rfl
                                  generalize vt.length = VL at *
                                  generalize pe.length = PL at *
                                  clear hbR p0 v0 HKV
                                  go_wp2
                                  go_ret
                                  exact ⟨by rw [E0.out]; rfl, hb4⟩
                                · have v0i : ((vt.length : Int) == 0) = false := by rw [beq_eq_false_iff_ne]; omega
                                  have E0 : Hid (B = votB vt) := by show _ = _; rw [hbR, decide_eq_false v0]; rfl
                                  have kv := rvoters_of vt (.slice va vt.length vc) w4 (hR.2.2.2.1.rd.below hb4) (by omega)
                                  generalize votB vt = VB at *
                                  generalize pe.length = PL at *
                                  have HV : Hid _ := hvt
                                  clear hbR p0 v0 HKV hvt
                                  go_wp2_with fail
                                  refine kv.mono ?_
                                  rintro e w5 ⟨rfl, hb5⟩
                                  have hb05 := hb4.trans (hb5.mono hb4.size)
                                  clear kv
                                  go_wp2
                                  go_ret
                                  exact ⟨by rw [E0.out]; rfl, hb05⟩
                              · have p0i : ((pe.length : Int) == 0) = false := by rw [beq_eq_false_iff_ne]; omega
                                have E0 : Hid (B = false) := by show _ = _; rw [hbR, decide_eq_false p0]; rfl
                                generalize vt.length = VL at *
                                generalize pe.length = PL at *
                                clear hbR p0 HKV
                                go_wp2
                                go_ret
                                exact ⟨by rw [E0.out]; rfl, hb4⟩
                            · have r0b : (ro == 0) = false := by simpa using r0
                              have r1b : (ro == 1) = false := by simpa using r1
                              by_cases r2 : ro = 2
                              · have hbR : B = ((pe.all fun p => peerB E p) && decide (vt.length = 0) && decide ((pe.map fun p => p.node) = votM ⟨bi, bt, bk, bd⟩ lg)) := by
                                  rw [HBR.out, HRR.out.1]
                                  unfold roleB
                                  rw [if_neg r0, if_neg r1, if_pos r2, nil_len, HRR.out.2]
                                  rfl
                                subst r2
                                have HBL : Hid _ := hbR
                                clear HBR HRR r0 r1 r0b r1b hbR
                                have HP : Hid (Rd peerN w4 (.slice pa pe.length pc) pe) := hR.2.2.2.2.rd.below hb4
                                have HNX : Hid (∀ p ∈ pe, p.next < 18446744073709551616 ∧ p.mat < 18446744073709551616) := hnx
                                obtain ⟨q1, q2, q3⟩ := one_box w4 (.cells #[] 3)
                                have hO0 : Ow intE 3 w4.heap.size (w4.alloc (.cells #[] 3)) (.slice (some ⟨w4.heap.size, 0, none⟩) 0 0) ((pe.take 0).map fun p => p.node) := ⟨Rk.made (xs := []) q2 rfl (by unfold maxLen; simp), fun k hk => by cases hk; exact Nat.le_refl _⟩
                                have HO0 : Hid _ := hO0
                                have hsz4 : w.heap.size < w4.heap.size := (Array.getElem?_eq_some_iff.1 B4).1
                                have HB4 : Hid _ := B4
                                clear hO0 q1 q2 hnx B4
                                have HRW : Hid (RaV n w _) := hR
                                clear hR
                                go_wp2
                                generalize w4.alloc (.cells #[] 3) = w5 at *
                                clear o0 o1 o2 o3 o4 o5 o6 o7 o8 o9 o10 o11 o12 o13
                                go_loopg [5, 6] pe.length (fun g s5 s6 wr => ∃ (i : Nat) (st : Value), i + g = pe.length ∧ s6 = .int .i64 (i : Int) ∧ st = s5 ∧ Hid (Ow intE 3 w4.heap.size wr st ((pe.take i).map fun p => p.node)) ∧ Below w4.heap.size w4 wr ∧ Hid (∀ p ∈ pe.take i, peerB E p = true))
                                case atStart => exact ⟨0, _, by simp, rfl, rfl, HO0, q3, fun p hp => by simp at hp⟩
                                case round =>
                                  obtain ⟨i, st, hig, rfl, rfl, HO, hb, HOK⟩ := hrel
                                  clear HO0 q3
                                  have hBr := (hb.block w.heap.size hsz4).trans HB4.out
                                  obtain ⟨-, o0, o1, o2, o3, o4, o5, o6, o7, o8, o9, o10, o11, o12, o13⟩ := r14_cells hBr
                                  by_cases hlt : i < pe.length
                                  · have hlti : (i : Int) < (pe.length : Int) := by omega
                                    have hx : pe[i]? = some pe[i] := List.getElem?_eq_getElem hlt
                                    obtain ⟨x, hxx⟩ : ∃ x, x = pe[i] := ⟨_, rfl⟩
                                    rw [← hxx] at hx
                                    clear hxx
                                    obtain ⟨b, off, rfl, c⟩ := rdpn_at HP.out hx
                                    obtain ⟨c0, c1, c2⟩ := c wr hb
                                    obtain ⟨hx1, hx2⟩ := HNX.out x (List.mem_of_getElem? hx)
                                    obtain ⟨z6, B6, q6⟩ := one_box wr (.cells #[.int .i64 x.node, .int .u64 (x.next : Int), .int .u64 (x.mat : Int)] 71)
                                    have hb6 := hb.trans (q6.mono hb.size)
                                    have hll : ((pe.take i).map fun p => p.node).length ≤ 1000000 := by rw [List.length_map, List.length_take]; omega
                                    have HO6 := HO.out.below q6
                                    have HPB : Hid (peerB E x = (decide (x.mat < x.next) && decide (x.next ≤ E + 1))) := rfl
                                    by_cases hmn : x.mat < x.next
                                    · have hm1 : decide ((x.next : Int) ≤ (x.mat : Int)) = false := by simp; omega
                                      have hm2 : decide (x.next ≤ x.mat) = false := by simp; omega
                                      by_cases hne : x.next ≤ E + 1
                                      · have hn1 : decide ((E : Int) + 1 < (x.next : Int)) = false := by simp; omega
                                        have hn2 : decide (E + 1 < x.next) = false := by simp; omega
                                        have hrun0 := push_int x.node HO6.1 (by omega)
                                        rw [z6] at hrun0
                                        have hrun : Hid _ := hrun0
                                        clear hrun0
                                        have HPU : Hid (∀ v' w', PushT intE 3 (wr.alloc (.cells #[.int .i64 x.node, .int .u64 (x.next : Int), .int .u64 (x.mat : Int)] 71)) st ((pe.take i).map (fun p => p.node) ++ [x.node]) v' w' → Ow intE 3 w4.heap.size w' v' ((pe.take (i + 1)).map fun p => p.node) ∧ Below w4.heap.size (wr.alloc (.cells #[.int .i64 x.node, .int .u64 (x.next : Int), .int .u64 (x.mat : Int)] 71)) w') := fun v' w' h => by
                                          rw [take_succ_get hx, List.map_append]
                                          exact HO6.push hb6.size h
                                        have HOK2 : Hid (∀ p ∈ pe.take (i + 1), peerB E p = true) := fun p hp => by
                                          rw [take_succ_get hx, List.mem_append, List.mem_singleton] at hp
                                          rcases hp with hp | rfl
                                          · exact HOK.out p hp
                                          · rw [HPB.out, decide_eq_true hmn, decide_eq_true hne]
                                            rfl
                                        obtain ⟨sa, sc, hst, -⟩ := HO.out.1.shape
                                        generalize (pe.take i).map (fun p => p.node) = L at *
                                        generalize L.length = LL at *
                                        subst hst
                                        obtain ⟨xn, xx, xm⟩ := x
                                        dsimp only at *
                                        clear HO HO6 HOK HPB hx c hll hx1 hx2 hmn hne
                                        have hEH : Hid _ := hEb
                                        clear hEb
                                        have hwE : IntKind.u64.wrap ((E : Int) + 1) = (E : Int) + 1 := by have := hEH.out; rw [IntKind.wrap_u64]; omega
                                        go_wp2_with (at_builtin; refine wp_by rfl _ _ _ rfl _ _ rfl rfl hrun.out ?_)
                                        intro u w7 hp
                                        obtain ⟨h1, h2⟩ := HPU.out u w7 hp
                                        obtain ⟨ua, uc, rfl, -⟩ := h1.1.shape
                                        have hb7 := hb6.trans h2
                                        have H1 : Hid _ := h1
                                        generalize ((pe.take (i + 1)).map fun p => p.node).length = NL at *
                                        clear hrun HPU hp h2 h1 o0 o1 o2 o3 o4 o5 o6 o7 o8 o9 o10 o11 o12 o13
                                        go_wp2
                                        go_roundg (gk - 1)
                                        case measure => omega
                                        case rel => exact ⟨i + 1, _, by omega, by go_num, rfl, H1, hb7, HOK2⟩
                                      · have hn1 : decide ((E : Int) + 1 < (x.next : Int)) = true := by simp; omega
                                        have hn2 : decide (E + 1 < x.next) = true := by simp; omega
                                        have E0 : Hid (B = false) := by
                                          have hpx : peerB E x = false := by rw [HPB.out, decide_eq_false hne, Bool.and_false]
                                          have : (pe.all fun p => peerB E p) = false := by rw [List.all_eq_false]; exact ⟨x, List.mem_of_getElem? hx, by rw [hpx]; decide⟩
                                          show _ = _
                                          rw [HBL.out, this]
                                          simp
                                        have hwE : IntKind.u64.wrap ((E : Int) + 1) = (E : Int) + 1 := by rw [IntKind.wrap_u64]; omega
                                        obtain ⟨sa, sc, hst, -⟩ := HO.out.1.shape
                                        generalize (pe.take i).map (fun p => p.node) = L at *
                                        generalize L.length = LL at *
                                        subst hst
                                        obtain ⟨xn, xx, xm⟩ := x
                                        dsimp only at *
                                        have hbz := hb4.trans (hb6.mono hb4.size)
                                        clear HO HO6 HOK HPB hx c hll hmn hne HBL
                                        go_wp2
                                        go_ret
                                        exact ⟨by rw [E0.out]; rfl, hbz⟩
                                    · have hm1 : decide ((x.next : Int) ≤ (x.mat : Int)) = true := by simp; omega
                                      have hm2 : decide (x.next ≤ x.mat) = true := by simp; omega
                                      have E0 : Hid (B = false) := by
                                        have hpx : peerB E x = false := by rw [HPB.out, decide_eq_false hmn, Bool.false_and]
                                        have : (pe.all fun p => peerB E p) = false := by rw [List.all_eq_false]; exact ⟨x, List.mem_of_getElem? hx, by rw [hpx]; decide⟩
                                        show _ = _
                                        rw [HBL.out, this]
                                        simp
                                      obtain ⟨sa, sc, hst, -⟩ := HO.out.1.shape
                                      generalize (pe.take i).map (fun p => p.node) = L at *
                                      generalize L.length = LL at *
                                      subst hst
                                      obtain ⟨xn, xx, xm⟩ := x
                                      dsimp only at *
                                      have hbz := hb4.trans (hb6.mono hb4.size)
                                      clear HO HO6 HOK HPB hx c hll hmn HBL
                                      go_wp2
                                      go_ret
                                      exact ⟨by rw [E0.out]; rfl, hbz⟩
                                  · have hlti : ¬ (i : Int) < (pe.length : Int) := by omega
                                    obtain rfl : i = pe.length := by omega
                                    have hall : (pe.all fun p => peerB E p) = true := by rw [List.all_eq_true]; intro p hp; exact HOK.out p (by rw [List.take_length]; exact hp)
                                    have HBM : Hid (B = (decide (vt.length = 0) && decide ((pe.map fun p => p.node) = votM ⟨bi, bt, bk, bd⟩ lg))) := by show _ = _; rw [HBL.out, hall, Bool.true_and]
                                    have hOp := HO.out
                                    rw [List.take_length] at hOp
                                    obtain ⟨sa, sc, hst, -⟩ := hOp.1.shape
                                    have HOp : Hid _ := hOp
                                    rw [hst] at HOp
                                    have hnl : (pe.map fun p => p.node).length ≤ 1000000 := by rw [List.length_map]; omega
                                    generalize (pe.map fun p => p.node) = L at *
                                    have hHl : ((pe.take pe.length).map fun p => p.node).length = ((pe.take pe.length).map fun p => p.node).length := rfl
                                    clear HO HOK HBL hHl hall hOp
                                    subst hst
                                    by_cases v0 : vt.length = 0
                                    · have v0i : ((vt.length : Int) == 0) = true := by rw [beq_iff_eq]; omega
                                      have HBN : Hid (B = decide (L = votM ⟨bi, bt, bk, bd⟩ lg)) := by show _ = _; rw [HBM.out, decide_eq_true v0, Bool.true_and]
                                      have kv := HKV.out wr (hb4.trans (hb.mono hb4.size))
                                      clear HBM v0 HKV
                                      go_wp2_with fail
                                      refine kv.mono ?_
                                      rintro e w7 ⟨vv, rfl, hVV, hb7⟩
                                      have hb27 := hb.trans (hb7.mono hb.size)
                                      have ki := intsG_of L _ _ _ w7 (HOp.out.1.rd.below hb7) hVV (by omega) (by have := HVL.out; omega)
                                      obtain ⟨xa, xc, rfl, -, -⟩ := hVV.shape
                                      generalize votM ⟨bi, bt, bk, bd⟩ lg = VM at *
                                      generalize decide (L = VM) = Q at *
                                      clear kv hVV HOp o0 o1 o2 o3 o4 o5 o6 o7 o8 o9 o10 o11 o12 o13
                                      go_wp2_with fail
                                      refine ki.mono ?_
                                      rintro e w8 ⟨rfl, hb8⟩
                                      have hb28 := hb27.trans (hb8.mono hb27.size)
                                      have hbz := hb4.trans (hb28.mono hb4.size)
                                      clear ki
                                      go_wp2
                                      go_ret
                                      exact ⟨by rw [HBN.out]; rfl, hbz⟩
                                    · have v0i : ((vt.length : Int) == 0) = false := by rw [beq_eq_false_iff_ne]; omega
                                      have E0 : Hid (B = false) := by show _ = _; rw [HBM.out, decide_eq_false v0]; rfl
                                      have hbz := hb4.trans (hb.mono hb4.size)
                                      clear HBM v0 HKV HOp
                                      generalize vt.length = VL at *
                                      go_wp2
                                      go_ret
                                      exact ⟨by rw [E0.out]; rfl, hbz⟩
                              · have r2b : (ro == 2) = false := by simpa using r2
                                have E0 : Hid (B = false) := by show _ = _; rw [HBR.out, HRR.out.1]; exact roleB_no r0 r1 r2
                                clear HBR HRR HKV r0 r1 r2
                                go_wp2
                                go_ret
                                exact ⟨by rw [E0.out]; rfl, hb4⟩
                        · rw [decide_eq_false h22] at HB
                          have E0 : Hid (B = false) := by show _ = _; rw [HB.out]; simp
                          have hd22a : decide ((E : Int) < (cm : Int)) = true := by simp; omega
                          have hd22b : decide (E < cm) = true := by simp; omega
                          clear h22 HB HKV HRR
                          go_wp2
                          go_ret
                          exact ⟨by rw [E0.out]; rfl, hb4⟩
                      · rw [decide_eq_false h21] at HB
                        have E0 : Hid (B = false) := by show _ = _; rw [HB.out]; simp
                        have hd21a : decide ((cm : Int) < (bi : Int)) = true := by simp; omega
                        have hd21b : decide (cm < bi) = true := by simp; omega
                        clear h21 HB HKV HRR
                        go_wp2
                        go_ret
                        exact ⟨by rw [E0.out]; rfl, hb4⟩
                    · rw [decide_eq_false h20] at HB
                      have E0 : Hid (B = false) := by show _ = _; rw [HB.out]; simp
                      have hd20a : decide ((tm : Int) < (ET : Int)) = true := by simp; omega
                      have hd20b : decide (tm < ET) = true := by simp; omega
                      clear h20 HB HKV HRR
                      go_wp2
                      go_ret
                      exact ⟨by rw [E0.out]; rfl, hb4⟩
                · rw [decide_eq_false h6] at HB
                  have E0 : Hid (B = false) := by show _ = _; rw [HB.out]; simp
                  have hd6a : decide ((1000 : Int) < el) = true := by simp; omega
                  clear h6 HB HKM HKL HKV HRR
                  go_wp2
                  go_ret
                  exact ⟨by rw [E0.out]; rfl, hb2⟩
              · rw [decide_eq_false h5] at HB
                have E0 : Hid (B = false) := by show _ = _; rw [HB.out]; simp
                have hd5a : decide (el < 0) = true := by simp; omega
                clear h5 HB HKM HKL HKV HRR
                go_wp2
                go_ret
                exact ⟨by rw [E0.out]; rfl, hb2⟩
            · rw [decide_eq_false h4] at HB
              have E0 : Hid (B = false) := by show _ = _; rw [HB.out]; simp
              have hd4a : decide ((7 : Int) < le) = true := by simp; omega
              clear h4 HB HKM HKL HKV HRR
              go_wp2
              go_ret
              exact ⟨by rw [E0.out]; rfl, hb2⟩
          · rw [decide_eq_false h3] at HB
            have E0 : Hid (B = false) := by show _ = _; rw [HB.out]; simp
            have hd3a : decide (le < 0) = true := by simp; omega
            clear h3 HB HKM HKL HKV HRR
            go_wp2
            go_ret
            exact ⟨by rw [E0.out]; rfl, hb2⟩
        · rw [decide_eq_false h2] at HB
          have E0 : Hid (B = false) := by show _ = _; rw [HB.out]; simp
          have hd2a : decide ((7 : Int) < vo) = true := by simp; omega
          clear h2 HB HKM HKL HKV HRR
          go_wp2
          go_ret
          exact ⟨by rw [E0.out]; rfl, hb2⟩
      · rw [decide_eq_false h1] at HB
        have E0 : Hid (B = false) := by show _ = _; rw [HB.out]; simp
        have hd1a : decide (vo < 0) = true := by simp; omega
        clear h1 HB HKM HKL HKV HRR
        go_wp2
        go_ret
        exact ⟨by rw [E0.out]; rfl, hb2⟩
    · rw [decide_eq_false h0] at HB
      have E0 : Hid (B = false) := by show _ = _; rw [HB.out]; simp
      have hd0a : decide ((4611686018427387904 : Int) < (tm : Int)) = true := by simp; omega
      clear h0 HB HKM HKL HKV HRR
      go_wp2
      go_ret
      exact ⟨by rw [E0.out]; rfl, hb2⟩
end Go.Proofs.YtncoandnelgkeaaGreat

/- The document's SamePeers, Same, where both are one. -/
namespace Go.Proofs.YtncoandnelgkeaaGreat
open Go.RowKit QuorumMath RlogMath RaftMath
set_option maxRecDepth 100000
set_option linter.unusedSimpArgs false
set_option linter.unusedVariables false

theorem neq_peer (w : World) (a : Int) (b c : Nat) : (binOp .neq 71 (.agg #[.int .i64 a, .int .u64 (b : Int), .int .u64 (c : Int)]) (.agg #[.int .i64 a, .int .u64 (b : Int), .int .u64 (c : Int)])).run Tryz.prog w = .ok (.bool false) w := by
  go_simp
set_option maxHeartbeats 2000000 in
theorem samePeers_of (ps : List Mp) (lv mv : Value) (w : World) (hF : Rd peerN w lv ps) (hG : Rd peerN w mv ps) (hlen : ps.length ≤ 1000000000000) : Calls Tryz.prog 49 #[lv, mv] w fun e w' => e = .returned (.bool true) ∧ Below w.heap.size w w' := by
  obtain ⟨ao, cap, rfl, -, -⟩ := hF.shape
  obtain ⟨am, cm, rfl, -, -⟩ := hG.shape
  go_enter Tryz.func49, Tryz.ntmps49
  go_wp2
  go_loopg [5] ps.length (fun g s5 wr => ∃ i : Nat, i + g = ps.length ∧ s5 = .int .i64 (i : Int) ∧ Below w.heap.size w wr)
  case atStart => exact ⟨0, by simp, rfl, Below.refl _ _⟩
  case round =>
    obtain ⟨i, hig, rfl, hb⟩ := hrel
    by_cases hlt : i < ps.length
    · have hlti : (i : Int) < (ps.length : Int) := by omega
      have hx : ps[i]? = some ps[i] := List.getElem?_eq_getElem hlt
      obtain ⟨x, hxx⟩ : ∃ x, x = ps[i] := ⟨_, rfl⟩
      rw [← hxx] at hx
      clear hxx
      obtain ⟨b, off, rfl, c⟩ := rdpn_at hF hx
      obtain ⟨b', off', rfl, c'⟩ := rdpn_at hG hx
      obtain ⟨x1, x2, x3⟩ := x
      dsimp only at c c'
      have HC : Hid _ := c
      have HD : Hid _ := c'
      have HNE : Hid _ := fun W : World => neq_peer W x1 x2 x3
      clear hx c c' hF hG
      go_wp2
      refine wp_region_L (fun W => Below w.heap.size w W) [] (by kernel_rfl) ?_
      have y0 : Below w.heap.size w wr.drew := hb.drew
      generalize wr.drew = wd at *
      refine wpAnyL_take 0 rfl (by kernel_rfl) (by kernel_rfl) (by kernel_rfl) (by kernel_rfl) (fun _ _ _ h => h) (wanted_none rfl) (by intro w' hS'; obtain ⟨c0, c1, c2⟩ := HC.out _ hS'; obtain ⟨d0, d1, d2⟩ := HD.out _ hS'; have hq := HNE.out w'; go_simp <;> rfl) y0 ?_
      try simp only [List.getElem_toArray, List.getElem_cons_succ, List.getElem_cons_zero, Act.put, List.setIfInBounds_toArray, List.set_cons_zero, List.set_cons_succ]
      refine wpAnyL_take 1 rfl (by kernel_rfl) (by kernel_rfl) (by kernel_rfl) (by kernel_rfl) (fun _ _ _ h => h) (wanted_none rfl) (by intro w' hS'; obtain ⟨c0, c1, c2⟩ := HC.out _ hS'; obtain ⟨d0, d1, d2⟩ := HD.out _ hS'; have hq := HNE.out w'; go_simp <;> rfl) y0 ?_
      try simp only [List.getElem_toArray, List.getElem_cons_succ, List.getElem_cons_zero, Act.put, List.setIfInBounds_toArray, List.set_cons_zero, List.set_cons_succ]
      refine wpAnyL_take 2 rfl (by kernel_rfl) (by kernel_rfl) (by kernel_rfl) (by kernel_rfl) (fun _ _ _ h => h) (wanted_none rfl) (by intro w' hS'; obtain ⟨c0, c1, c2⟩ := HC.out _ hS'; obtain ⟨d0, d1, d2⟩ := HD.out _ hS'; have hq := HNE.out w'; go_simp <;> rfl) y0 ?_
      try simp only [List.getElem_toArray, List.getElem_cons_succ, List.getElem_cons_zero, Act.put, List.setIfInBounds_toArray, List.set_cons_zero, List.set_cons_succ]
      refine wpAnyL_take 3 rfl (by kernel_rfl) (by kernel_rfl) (by kernel_rfl) (by kernel_rfl) (fun _ _ _ h => h) (wanted_none rfl) (by intro w' hS'; obtain ⟨c0, c1, c2⟩ := HC.out _ hS'; obtain ⟨d0, d1, d2⟩ := HD.out _ hS'; have hq := HNE.out w'; go_simp <;> rfl) y0 ?_
      try simp only [List.getElem_toArray, List.getElem_cons_succ, List.getElem_cons_zero, Act.put, List.setIfInBounds_toArray, List.set_cons_zero, List.set_cons_succ]
      refine wpAnyL_take 4 rfl (by kernel_rfl) (by kernel_rfl) (by kernel_rfl) (by kernel_rfl) (fun _ _ _ h => h) (wanted_none rfl) (by intro w' hS'; obtain ⟨c0, c1, c2⟩ := HC.out _ hS'; obtain ⟨d0, d1, d2⟩ := HD.out _ hS'; have hq := HNE.out w'; go_simp <;> rfl) y0 ?_
      try simp only [List.getElem_toArray, List.getElem_cons_succ, List.getElem_cons_zero, Act.put, List.setIfInBounds_toArray, List.set_cons_zero, List.set_cons_succ]
      refine wpAnyL_take 5 rfl (by kernel_rfl) (by kernel_rfl) (by kernel_rfl) (by kernel_rfl) (fun _ _ _ h => h) (wanted_none rfl) (by intro w' hS'; obtain ⟨c0, c1, c2⟩ := HC.out _ hS'; obtain ⟨d0, d1, d2⟩ := HD.out _ hS'; have hq := HNE.out w'; go_simp <;> rfl) y0 ?_
      try simp only [List.getElem_toArray, List.getElem_cons_succ, List.getElem_cons_zero, Act.put, List.setIfInBounds_toArray, List.set_cons_zero, List.set_cons_succ]
      refine wpAnyL_take 6 rfl (by kernel_rfl) (by kernel_rfl) (by kernel_rfl) (by kernel_rfl) (fun _ _ _ h => h) (wanted_none rfl) (by intro w' hS'; obtain ⟨c0, c1, c2⟩ := HC.out _ hS'; obtain ⟨d0, d1, d2⟩ := HD.out _ hS'; have hq := HNE.out w'; go_simp <;> rfl) y0 ?_
      try simp only [List.getElem_toArray, List.getElem_cons_succ, List.getElem_cons_zero, Act.put, List.setIfInBounds_toArray, List.set_cons_zero, List.set_cons_succ]
      refine wpAnyL_take 7 rfl (by kernel_rfl) (by kernel_rfl) (by kernel_rfl) (by kernel_rfl) (fun _ _ _ h => h) (wanted_none rfl) (by intro w' hS'; obtain ⟨c0, c1, c2⟩ := HC.out _ hS'; obtain ⟨d0, d1, d2⟩ := HD.out _ hS'; have hq := HNE.out w'; go_simp <;> rfl) y0 ?_
      try simp only [List.getElem_toArray, List.getElem_cons_succ, List.getElem_cons_zero, Act.put, List.setIfInBounds_toArray, List.set_cons_zero, List.set_cons_succ]
      refine wpAnyL_take 8 rfl (by kernel_rfl) (by kernel_rfl) (by kernel_rfl) (by kernel_rfl) (fun _ _ _ h => h) (wanted_none rfl) (by intro w' hS'; obtain ⟨c0, c1, c2⟩ := HC.out _ hS'; obtain ⟨d0, d1, d2⟩ := HD.out _ hS'; have hq := HNE.out w'; go_simp <;> rfl) y0 ?_
      try simp only [List.getElem_toArray, List.getElem_cons_succ, List.getElem_cons_zero, Act.put, List.setIfInBounds_toArray, List.set_cons_zero, List.set_cons_succ]
      refine wpAnyL_done (by kernel_rfl) (NoPanic.normal ?_) _
      clear HC HD HNE
      go_wp2
      go_roundg (gk - 1)
      case measure => omega
      case rel => exact ⟨i + 1, by omega, by go_num, y0⟩
    · have hlti : ¬ (i : Int) < (ps.length : Int) := by omega
      clear hF hG
      go_wp2
      go_ret
      exact ⟨rfl, hb⟩
set_option maxHeartbeats 8000000 in
theorem rsame_of (n m : Nat) (r : Mr) (v u : Value) (w : World) (hS : RsV n w v r) (hU : RsV m w u r) (hbo : OkM r.base) (hlo : ∀ e ∈ r.log, OkM e) (hlg : r.log.length ≤ 1000000000) (hpl : r.peers.length ≤ 1000000000) (hvt : r.votes.length ≤ 1000000000) : Calls Tryz.prog 17 #[v, u] w fun e w' => e = .returned (.bool true) ∧ Below w.heap.size w w' := by
  obtain ⟨z, rfl, hz, hR⟩ := hS
  obtain ⟨y, rfl, hy, hQ⟩ := hU
  obtain ⟨r', zs, ⟨ba, bn, bc⟩, ⟨la, ln, lc⟩, ⟨va, vn, vc⟩, ⟨pa, pn, pc⟩⟩ := z
  obtain ⟨r2, ys, ⟨ca, cn, cc⟩, ⟨ma, mn, mc⟩, ⟨ua, un, uc⟩, ⟨qa, qn, qc⟩⟩ := y
  obtain rfl : r' = r := hz
  obtain rfl : r2 = r' := hy
  obtain ⟨nd, tm, vo, ⟨bi, bt, bk, bd⟩, lg, cm, ro, le, el, vt, pe⟩ := r2
  dsimp only [rv] at *
  have hml : mes zs = lg := hR.2.2.1
  have hmy : mes ys = lg := hQ.2.2.1
  have hzl : zs.length ≤ 1000000000 := by have := congrArg List.length hml; rw [List.length_map] at this; omega
  have hzo := okz_of hml hlo
  obtain ⟨z1, B1, B2, hb1⟩ := two_box w (.cells #[.int .i64 nd, .int .u64 (tm : Int), .int .i64 vo, .int .u64 (bi : Int), .int .u64 (bt : Int), .int .i64 bk, .slice ba bn bc, .slice la ln lc, .int .u64 (cm : Int), .int .i64 ro, .int .i64 le, .int .i64 el, .slice va vn vc, .slice pa pn pc] 32) (.cells #[.int .i64 nd, .int .u64 (tm : Int), .int .i64 vo, .int .u64 (bi : Int), .int .u64 (bt : Int), .int .i64 bk, .slice ca cn cc, .slice ma mn mc, .int .u64 (cm : Int), .int .i64 ro, .int .i64 le, .int .i64 el, .slice ua un uc, .slice qa qn qc] 32)
  have HK1 : Hid (∀ W, Below w.heap.size w W → _) := fun W hW => ints_of vt (.slice va vn vc) (.slice ua un uc) W (hR.2.2.2.1.rd.below hW) (hQ.2.2.2.1.rd.below hW) (by omega)
  have HK2 : Hid (∀ W, Below w.heap.size w W → _) := fun W hW => samePeers_of pe (.slice pa pn pc) (.slice qa qn qc) W (hR.2.2.2.2.rd.below hW) (hQ.2.2.2.2.rd.below hW) (by omega)
  have HK3 : Hid (∀ W, Below w.heap.size w W → _) := fun W hW => same_of ⟨bi, bt, bk, bd⟩ (ba, bn, bc) (ca, cn, cc) zs ys (.slice la ln lc) (.slice ma mn mc) W (hR.1.below hW).v (hQ.1.below hW).v hbo.2.2.1 (hR.2.1.below hW).v (hQ.2.1.below hW).v (hml.trans hmy.symm) (fun z hz => (hzo z hz).1) (by omega)
  have k1 := HK1.out _ hb1
  obtain ⟨-, o0, o1, o2, o3, o4, o5, o6, o7, o8, o9, o10, o11, o12, o13⟩ := r14_cells B1
  obtain ⟨-, p0, p1, p2, p3, p4, p5, p6, p7, p8, p9, p10, p11, p12, p13⟩ := r14_cells B2
  dsimp only [lgv] at HK3
  clear hR hQ hml hmy hzl hzo hbo hlo HK1
  go_enter Tryz.func17, Tryz.ntmps17
  go_wp2_with fail
  refine k1.mono ?_
  rintro e w2 ⟨rfl, hb2⟩
  have C1 := (hb2.block w.heap.size (by omega)).trans B1
  have C2 := (hb2.block (w.heap.size + 1) (by omega)).trans B2
  have hb02 := hb1.trans (hb2.mono (by omega))
  have k2 := HK2.out w2 hb02
  have hs2 : w.heap.size + 1 < w2.heap.size := (Array.getElem?_eq_some_iff.1 C2).1
  clear k1 hb2 B1 B2 hb1 z1 HK2 o0 o1 o2 o3 o4 o5 o6 o7 o8 o9 o10 o11 o12 o13 p0 p1 p2 p3 p4 p5 p6 p7 p8 p9 p10 p11 p12 p13
  obtain ⟨-, o0, o1, o2, o3, o4, o5, o6, o7, o8, o9, o10, o11, o12, o13⟩ := r14_cells C1
  obtain ⟨-, p0, p1, p2, p3, p4, p5, p6, p7, p8, p9, p10, p11, p12, p13⟩ := r14_cells C2
  go_wp2_with fail
  refine k2.mono ?_
  rintro e w3 ⟨rfl, hb3⟩
  have D1 := (hb3.block w.heap.size (by omega)).trans C1
  have D2 := (hb3.block (w.heap.size + 1) (by omega)).trans C2
  have hb03 := hb02.trans (hb3.mono hb02.size)
  have k3 := HK3.out w3 hb03
  clear k2 hb3 C1 C2 hb02 HK3 o0 o1 o2 o3 o4 o5 o6 o7 o8 o9 o10 o11 o12 o13 p0 p1 p2 p3 p4 p5 p6 p7 p8 p9 p10 p11 p12 p13
  obtain ⟨-, o0, o1, o2, o3, o4, o5, o6, o7, o8, o9, o10, o11, o12, o13⟩ := r14_cells D1
  obtain ⟨-, p0, p1, p2, p3, p4, p5, p6, p7, p8, p9, p10, p11, p12, p13⟩ := r14_cells D2
  go_wp2_with fail
  refine k3.mono ?_
  rintro e w4 ⟨rfl, hb4⟩
  have hb04 := hb03.trans (hb4.mono hb03.size)
  clear k3 hb4 D1 D2 hb03 o0 o1 o2 o3 o4 o5 o6 o7 o8 o9 o10 o11 o12 o13 p0 p1 p2 p3 p4 p5 p6 p7 p8 p9 p10 p11 p12 p13
  go_wp2
  go_ret
  exact ⟨rfl, hb04⟩
end Go.Proofs.YtncoandnelgkeaaGreat

/- The document's SameMsg, SameMsgs, where both are one. -/
namespace Go.Proofs.YtncoandnelgkeaaGreat
open Go.RowKit QuorumMath RlogMath RaftMath
set_option maxRecDepth 100000
set_option linter.unusedSimpArgs false
set_option linter.unusedVariables false

/-- A message's numbers. -/
def OkG (m : Mm) : Prop := OkM m.snap ∧ (∀ e ∈ m.ents, OkM e) ∧ m.ents.length ≤ 1000000
theorem rdm_at {w : World} {ao : Option Addr} {n cap : Nat} {xs : List Gz} (h : Rd msgE w (.slice ao n cap) xs) {i : Nat} {x : Gz} (hx : xs[i]? = some x) : ∃ b off, ao = some ⟨b, off, none⟩ ∧ ∀ W, Below w.heap.size w W → W.cell? ⟨b, off + i * 14, none⟩ = some (.int .i64 x.m.kind) ∧ W.cell? ⟨b, off + i * 14 + 1, none⟩ = some (.int .i64 x.m.src) ∧ W.cell? ⟨b, off + i * 14 + 2, none⟩ = some (.int .i64 x.m.dst) ∧ W.cell? ⟨b, off + i * 14 + 3, none⟩ = some (.int .u64 (x.m.term : Int)) ∧ W.cell? ⟨b, off + i * 14 + 4, none⟩ = some (.int .u64 (x.m.index : Int)) ∧ W.cell? ⟨b, off + i * 14 + 5, none⟩ = some (.int .u64 (x.m.prev : Int)) ∧ W.cell? ⟨b, off + i * 14 + 6, none⟩ = some (.slice x.sl.1 x.sl.2.1 x.sl.2.2) ∧ W.cell? ⟨b, off + i * 14 + 7, none⟩ = some (.int .u64 (x.m.commit : Int)) ∧ W.cell? ⟨b, off + i * 14 + 8, none⟩ = some (.bool x.m.ok) ∧ W.cell? ⟨b, off + i * 14 + 9, none⟩ = some (.int .u64 (x.m.mat : Int)) ∧ W.cell? ⟨b, off + i * 14 + 10, none⟩ = some (.int .u64 (x.m.snap.idx : Int)) ∧ W.cell? ⟨b, off + i * 14 + 11, none⟩ = some (.int .u64 (x.m.snap.term : Int)) ∧ W.cell? ⟨b, off + i * 14 + 12, none⟩ = some (.int .i64 x.m.snap.kind) ∧ W.cell? ⟨b, off + i * 14 + 13, none⟩ = some (.slice x.ss.1 x.ss.2.1 x.ss.2.2) := by
  obtain ⟨ao', cap', e, _, _, h2⟩ := h
  cases e
  obtain ⟨b, off, r1, r2⟩ := h2 i x 0 _ hx rfl
  have key : ∀ (j : Nat) (u : Value), (msgE.enc x)[j]? = some u → ∀ W, Below w.heap.size w W → W.cell? ⟨b, off + i * 14 + j, none⟩ = some u := fun j u hu W hW => by
    obtain ⟨b', off', r3, r4⟩ := h2 i x j u hx hu
    cases r1.symm.trans r3
    have r4' : w.cell? ⟨b, off + i * 14 + j, none⟩ = some u := by rw [Nat.add_assoc]; exact r4
    exact (hW.cell (p := ⟨b, off + i * 14 + j, none⟩) (World.block_lt_of_cell? w _ r4')).trans r4'
  exact ⟨b, off, r1, fun W hW => ⟨key 0 _ rfl W hW, key 1 _ rfl W hW, key 2 _ rfl W hW, key 3 _ rfl W hW, key 4 _ rfl W hW, key 5 _ rfl W hW, key 6 _ rfl W hW, key 7 _ rfl W hW, key 8 _ rfl W hW, key 9 _ rfl W hW, key 10 _ rfl W hW, key 11 _ rfl W hW, key 12 _ rfl W hW, key 13 _ rfl W hW⟩⟩
set_option maxHeartbeats 8000000 in
theorem sameG_of (n k : Nat) (g h : Gz) (w : World) (hG : MgV n w g) (hH : MgV k w h) (he : g.m = h.m) (ho : OkG g.m) : Calls Tryz.prog 57 #[gv g, gv h] w fun e w' => e = .returned (.bool true) ∧ Below w.heap.size w w' := by
  obtain ⟨⟨mk, ms, md, mt, mi, mp, ents, mc, mo, mm, ⟨si, st, sk, sd⟩⟩, es, ⟨ea, en, ec⟩, ⟨sa, sn, sc⟩⟩ := g
  obtain ⟨hm, fs, ⟨fa, fn, fc⟩, ⟨ta, tn, tc⟩⟩ := h
  dsimp only at he
  subst he
  dsimp only [gv] at *
  have hme : mes es = ents := hG.2.1
  have hmf : mes fs = ents := hH.2.1
  obtain ⟨hso, heo, hel⟩ := ho
  dsimp only at hso heo hel
  have hzl : es.length ≤ 1000000 := by have := congrArg List.length hme; rw [List.length_map] at this; omega
  have hzo := okz_of hme heo
  obtain ⟨z1, B1, B2, hb1⟩ := two_box w (.cells #[.int .i64 mk, .int .i64 ms, .int .i64 md, .int .u64 (mt : Int), .int .u64 (mi : Int), .int .u64 (mp : Int), .slice ea en ec, .int .u64 (mc : Int), .bool mo, .int .u64 (mm : Int), .int .u64 (si : Int), .int .u64 (st : Int), .int .i64 sk, .slice sa sn sc] 34) (.cells #[.int .i64 mk, .int .i64 ms, .int .i64 md, .int .u64 (mt : Int), .int .u64 (mi : Int), .int .u64 (mp : Int), .slice fa fn fc, .int .u64 (mc : Int), .bool mo, .int .u64 (mm : Int), .int .u64 (si : Int), .int .u64 (st : Int), .int .i64 sk, .slice ta tn tc] 34)
  have HK1 : Hid (∀ W, Below w.heap.size w W → _) := fun W hW => sameE_of ⟨si, st, sk, sd⟩ (sa, sn, sc) (ta, tn, tc) W (hG.2.2.below hW).v (hH.2.2.below hW).v hso.2.2.1
  have HK2 : Hid (∀ W, Below w.heap.size w W → _) := fun W hW => sameEs_of es fs (.slice ea en ec) (.slice fa fn fc) W (hG.1.below hW).v (hH.1.below hW).v (hme.trans hmf.symm) (fun z hz => (hzo z hz).1) (by omega)
  have k1 := HK1.out _ hb1
  dsimp only [ev] at k1
  obtain ⟨-, o0, o1, o2, o3, o4, o5, o6, o7, o8, o9, o10, o11, o12, o13⟩ := r14_cells B1
  obtain ⟨-, p0, p1, p2, p3, p4, p5, p6, p7, p8, p9, p10, p11, p12, p13⟩ := r14_cells B2
  clear hG hH hme hmf hzl hzo hso heo HK1
  go_enter Tryz.func57, Tryz.ntmps57
  go_wp2_with fail
  refine k1.mono ?_
  rintro e w2 ⟨rfl, hb2⟩
  have C1 := (hb2.block w.heap.size (by omega)).trans B1
  have C2 := (hb2.block (w.heap.size + 1) (by omega)).trans B2
  have hb02 := hb1.trans (hb2.mono (by omega))
  have k2 := HK2.out w2 hb02
  have hs2 : w.heap.size + 1 < w2.heap.size := (Array.getElem?_eq_some_iff.1 C2).1
  clear k1 hb2 B1 B2 hb1 z1 HK2 o0 o1 o2 o3 o4 o5 o6 o7 o8 o9 o10 o11 o12 o13 p0 p1 p2 p3 p4 p5 p6 p7 p8 p9 p10 p11 p12 p13
  obtain ⟨-, o0, o1, o2, o3, o4, o5, o6, o7, o8, o9, o10, o11, o12, o13⟩ := r14_cells C1
  obtain ⟨-, p0, p1, p2, p3, p4, p5, p6, p7, p8, p9, p10, p11, p12, p13⟩ := r14_cells C2
  go_wp2_with fail
  refine k2.mono ?_
  rintro e w3 ⟨rfl, hb3⟩
  have hb03 := hb02.trans (hb3.mono hb02.size)
  clear k2 hb3 C1 C2 hb02 o0 o1 o2 o3 o4 o5 o6 o7 o8 o9 o10 o11 o12 o13 p0 p1 p2 p3 p4 p5 p6 p7 p8 p9 p10 p11 p12 p13
  go_wp2
  go_ret
  exact ⟨rfl, hb03⟩
set_option maxHeartbeats 8000000 in
theorem sameGs_of (n k : Nat) (gs hs : List Gz) (gl hl : Value) (w : World) (hG : MgsV n w gl gs) (hH : MgsV k w hl hs) (he : (gs.map fun g => g.m) = (hs.map fun g => g.m)) (ho : ∀ g ∈ gs, OkG g.m) (hlen : gs.length ≤ 1000000000000) : Calls Tryz.prog 24 #[gl, hl] w fun e w' => e = .returned (.bool true) ∧ Below w.heap.size w w' := by
  have hll : hs.length = gs.length := by have := congrArg List.length he; simpa using this.symm
  obtain ⟨za, zc, rfl, -, -⟩ := hG.1.rd.shape
  obtain ⟨ya, yc, rfl, -, -⟩ := hH.1.rd.shape
  have HE : Hid ((gs.map fun g => g.m) = (hs.map fun g => g.m)) := he
  have HL : Hid (hs.length = gs.length) := hll
  have HZ : Hid (MgsV n w (.slice za gs.length zc) gs) := hG
  have HY : Hid (MgsV k w (.slice ya gs.length yc) hs) := by show MgsV _ _ _ _; rw [← hll]; exact hH
  have HOK : Hid _ := ho
  rw [hll]
  clear he hll hG hH ho
  generalize hn : gs.length = q at *
  have HN : Hid (gs.length = q) := hn
  clear hn
  go_enter Tryz.func24, Tryz.ntmps24
  go_wp2
  go_loopg [5] q (fun gh s5 wr => ∃ k : Nat, k + gh = q ∧ s5 = .int .i64 (k : Int) ∧ Below w.heap.size w wr)
  case atStart => exact ⟨0, by simp, rfl, Below.refl _ _⟩
  case round =>
    obtain ⟨i, hkg, rfl, hb⟩ := hrel
    by_cases hlt : i < q
    · have hlti : (i : Int) < (q : Int) := by omega
      have hz : gs[i]? = some (gs[i]'(by have := HN.out; omega)) := List.getElem?_eq_getElem _
      have hy : hs[i]? = some (hs[i]'(by have := HN.out; have := HL.out; omega)) := List.getElem?_eq_getElem _
      obtain ⟨z, hzz⟩ : ∃ z, z = gs[i]'(by have := HN.out; omega) := ⟨_, rfl⟩
      obtain ⟨y, hyy⟩ : ∃ y, y = hs[i]'(by have := HN.out; have := HL.out; omega) := ⟨_, rfl⟩
      rw [← hzz] at hz
      rw [← hyy] at hy
      have hm : z.m = y.m := by
        have h1 : (gs.map fun g => g.m)[i]? = some z.m := by rw [List.getElem?_map, hz]; rfl
        have h2 : (hs.map fun g => g.m)[i]? = some y.m := by rw [List.getElem?_map, hy]; rfl
        rw [HE.out, h2] at h1
        exact (Option.some.inj h1).symm
      clear hzz hyy
      obtain ⟨pb, po, rfl, cz⟩ := rdm_at HZ.out.1.rd hz
      obtain ⟨qb, qo, rfl, cy⟩ := rdm_at HY.out.1.rd hy
      have ksw : Hid (∀ W, Below wr.heap.size wr W → _) := fun W (hW : Below wr.heap.size wr W) => sameG_of n k z y W ((HZ.out.2 z (List.mem_of_getElem? hz)).below (hb.trans (hW.mono hb.size))) ((HY.out.2 y (List.mem_of_getElem? hy)).below (hb.trans (hW.mono hb.size))) hm (HOK.out z (List.mem_of_getElem? hz))
      have czw : Hid (∀ W, Below wr.heap.size wr W → _) := fun W (hW : Below wr.heap.size wr W) => cz W (hb.trans (hW.mono hb.size))
      have cyw : Hid (∀ W, Below wr.heap.size wr W → _) := fun W (hW : Below wr.heap.size wr W) => cy W (hb.trans (hW.mono hb.size))
      obtain ⟨⟨z1, z2, z3, z4, z5, z6, z7, z8, z9, z10, ⟨z11, z12, z13, z14⟩⟩, zes, ⟨a1, a2, a3⟩, ⟨b1, b2, b3⟩⟩ := z
      obtain ⟨⟨y1, y2, y3, y4, y5, y6, y7, y8, y9, y10, ⟨y11, y12, y13, y14⟩⟩, yes, ⟨c1, c2, c3⟩, ⟨d1, d2, d3⟩⟩ := y
      dsimp only [gv] at czw cyw ksw
      clear cz cy hz hy HZ HY HE HL HN HOK hm
      go_wp2
      refine wp_region_L (fun W => Below wr.heap.size wr W) [] (by kernel_rfl) ?_
      have yS : Below wr.heap.size wr wr.drew := (Below.refl _ wr).drew
      refine wpAnyL_take 0 rfl (by kernel_rfl) (by kernel_rfl) (by kernel_rfl) (by kernel_rfl) (fun _ _ _ h => h) (wanted_none rfl) (by intro w' hS'; obtain ⟨x0, x1, x2, x3, x4, x5, x6, x7, x8, x9, x10, x11, x12, x13⟩ := czw.out _ hS'; obtain ⟨y0, y1, y2, y3, y4, y5, y6, y7, y8, y9, y10, y11, y12, y13⟩ := cyw.out _ hS'; go_simp <;> rfl) yS ?_
      try simp only [List.getElem_toArray, List.getElem_cons_succ, List.getElem_cons_zero, Act.put, List.setIfInBounds_toArray, List.set_cons_zero, List.set_cons_succ]
      refine wpAnyL_take 1 rfl (by kernel_rfl) (by kernel_rfl) (by kernel_rfl) (by kernel_rfl) (fun _ _ _ h => h) (wanted_none rfl) (by intro w' hS'; obtain ⟨x0, x1, x2, x3, x4, x5, x6, x7, x8, x9, x10, x11, x12, x13⟩ := czw.out _ hS'; obtain ⟨y0, y1, y2, y3, y4, y5, y6, y7, y8, y9, y10, y11, y12, y13⟩ := cyw.out _ hS'; go_simp <;> rfl) yS ?_
      try simp only [List.getElem_toArray, List.getElem_cons_succ, List.getElem_cons_zero, Act.put, List.setIfInBounds_toArray, List.set_cons_zero, List.set_cons_succ]
      refine wpAnyL_take 2 rfl (by kernel_rfl) (by kernel_rfl) (by kernel_rfl) (by kernel_rfl) (fun _ _ _ h => h) (wanted_none rfl) (by intro w' hS'; obtain ⟨x0, x1, x2, x3, x4, x5, x6, x7, x8, x9, x10, x11, x12, x13⟩ := czw.out _ hS'; obtain ⟨y0, y1, y2, y3, y4, y5, y6, y7, y8, y9, y10, y11, y12, y13⟩ := cyw.out _ hS'; go_simp <;> rfl) yS ?_
      try simp only [List.getElem_toArray, List.getElem_cons_succ, List.getElem_cons_zero, Act.put, List.setIfInBounds_toArray, List.set_cons_zero, List.set_cons_succ]
      refine wpAnyL_take 3 rfl (by kernel_rfl) (by kernel_rfl) (by kernel_rfl) (by kernel_rfl) (fun _ _ _ h => h) (wanted_none rfl) (by intro w' hS'; obtain ⟨x0, x1, x2, x3, x4, x5, x6, x7, x8, x9, x10, x11, x12, x13⟩ := czw.out _ hS'; obtain ⟨y0, y1, y2, y3, y4, y5, y6, y7, y8, y9, y10, y11, y12, y13⟩ := cyw.out _ hS'; go_simp <;> rfl) yS ?_
      try simp only [List.getElem_toArray, List.getElem_cons_succ, List.getElem_cons_zero, Act.put, List.setIfInBounds_toArray, List.set_cons_zero, List.set_cons_succ]
      refine wpAnyL_take 4 rfl (by kernel_rfl) (by kernel_rfl) (by kernel_rfl) (by kernel_rfl) (fun _ _ _ h => h) (wanted_none rfl) (by intro w' hS'; obtain ⟨x0, x1, x2, x3, x4, x5, x6, x7, x8, x9, x10, x11, x12, x13⟩ := czw.out _ hS'; obtain ⟨y0, y1, y2, y3, y4, y5, y6, y7, y8, y9, y10, y11, y12, y13⟩ := cyw.out _ hS'; go_simp <;> rfl) yS ?_
      try simp only [List.getElem_toArray, List.getElem_cons_succ, List.getElem_cons_zero, Act.put, List.setIfInBounds_toArray, List.set_cons_zero, List.set_cons_succ]
      refine wpAnyL_take 5 rfl (by kernel_rfl) (by kernel_rfl) (by kernel_rfl) (by kernel_rfl) (fun _ _ _ h => h) (wanted_none rfl) (by intro w' hS'; obtain ⟨x0, x1, x2, x3, x4, x5, x6, x7, x8, x9, x10, x11, x12, x13⟩ := czw.out _ hS'; obtain ⟨y0, y1, y2, y3, y4, y5, y6, y7, y8, y9, y10, y11, y12, y13⟩ := cyw.out _ hS'; go_simp <;> rfl) yS ?_
      try simp only [List.getElem_toArray, List.getElem_cons_succ, List.getElem_cons_zero, Act.put, List.setIfInBounds_toArray, List.set_cons_zero, List.set_cons_succ]
      refine wpAnyL_take 6 rfl (by kernel_rfl) (by kernel_rfl) (by kernel_rfl) (by kernel_rfl) (fun _ _ _ h => h) (wanted_none rfl) (by intro w' hS'; obtain ⟨x0, x1, x2, x3, x4, x5, x6, x7, x8, x9, x10, x11, x12, x13⟩ := czw.out _ hS'; obtain ⟨y0, y1, y2, y3, y4, y5, y6, y7, y8, y9, y10, y11, y12, y13⟩ := cyw.out _ hS'; go_simp <;> rfl) yS ?_
      try simp only [List.getElem_toArray, List.getElem_cons_succ, List.getElem_cons_zero, Act.put, List.setIfInBounds_toArray, List.set_cons_zero, List.set_cons_succ]
      refine wpAnyL_take 7 rfl (by kernel_rfl) (by kernel_rfl) (by kernel_rfl) (by kernel_rfl) (fun _ _ _ h => h) (wanted_none rfl) (by intro w' hS'; obtain ⟨x0, x1, x2, x3, x4, x5, x6, x7, x8, x9, x10, x11, x12, x13⟩ := czw.out _ hS'; obtain ⟨y0, y1, y2, y3, y4, y5, y6, y7, y8, y9, y10, y11, y12, y13⟩ := cyw.out _ hS'; go_simp <;> rfl) yS ?_
      try simp only [List.getElem_toArray, List.getElem_cons_succ, List.getElem_cons_zero, Act.put, List.setIfInBounds_toArray, List.set_cons_zero, List.set_cons_succ]
      refine wpAnyL_one 8 (by kernel_rfl) rfl (wanted_none rfl) ?_
      intro K' hK'
      go_simp
      go_at_call 57
      refine (ksw.out _ yS).mono ?_
      rintro e W1 ⟨rfl, hS0⟩
      have hS1 : Below wr.heap.size wr W1 := keep_on yS hS0
      refine hK'.out _ _ (.inr hS1) ?_
      clear hK' K'
      try simp only [List.getElem_toArray, List.getElem_cons_succ, List.getElem_cons_zero, Act.put, List.setIfInBounds_toArray, List.set_cons_zero, List.set_cons_succ]
      refine wpAnyL_take 9 rfl (by kernel_rfl) (by kernel_rfl) (by kernel_rfl) (by kernel_rfl) (fun _ _ _ h => h) (wanted_none rfl) (by intro w' hS'; obtain ⟨x0, x1, x2, x3, x4, x5, x6, x7, x8, x9, x10, x11, x12, x13⟩ := czw.out _ hS'; obtain ⟨y0, y1, y2, y3, y4, y5, y6, y7, y8, y9, y10, y11, y12, y13⟩ := cyw.out _ hS'; go_simp <;> rfl) hS1 ?_
      try simp only [List.getElem_toArray, List.getElem_cons_succ, List.getElem_cons_zero, Act.put, List.setIfInBounds_toArray, List.set_cons_zero, List.set_cons_succ]
      refine wpAnyL_done (by kernel_rfl) (NoPanic.normal ?_) _
      clear ksw czw cyw
      go_wp2
      go_roundg (gk - 1)
      case measure => omega
      case rel => exact ⟨i + 1, by omega, by go_num, hb.trans (hS1.mono hb.size)⟩
    · have hlti : ¬ (i : Int) < (q : Int) := by omega
      clear HZ HY HE HL HN HOK
      go_wp2
      go_ret
      exact ⟨rfl, hb⟩
end Go.Proofs.YtncoandnelgkeaaGreat

/- What turns stays in bounds: plain mathematics. -/
namespace Go.Proofs.YtncoandnelgkeaaGreat
open QuorumMath RlogMath RaftMath
set_option linter.unusedSimpArgs false
set_option linter.unusedVariables false

/-- A state that turns and what it says, in bounds: L messages, M entries. -/
structure OkB (L M : Nat) (s : Ms) : Prop where
  base : OkM s.r.base
  log : ∀ e ∈ s.r.log, OkM e
  ln : s.r.log.length ≤ M
  out : ∀ m ∈ s.out, OkG m
  on : s.out.length ≤ L
  pn : s.r.peers.length ≤ 1000000000
  vn : s.r.votes.length ≤ 1000000000
theorem votF_lenM : ∀ (l : List Me) (d : List Nat), d.length ≤ 1000000000 → (∀ e ∈ l, OkM e) → (votF d l).length ≤ 1000000000
  | [], d, h, _ => h
  | e :: l, d, h, hl => by
    unfold votF
    refine votF_lenM l _ ?_ (fun x hx => hl x (by simp [hx]))
    split
    · exact (hl e (by simp)).2.2.2
    · exact h
theorem votR_len {r : Mr} (hb : OkM r.base) (hl : ∀ e ∈ r.log, OkM e) : (votR r).length ≤ 1000000000 := by
  unfold votR votM
  rw [nodesI_len]
  exact votF_lenM _ _ hb.2.2.2 hl
theorem OkB.mono {L M L' M' : Nat} {s : Ms} (h : OkB L M s) (hL : L ≤ L') (hM : M ≤ M') : OkB L' M' s := ⟨h.base, h.log, Nat.le_trans h.ln hM, h.out, Nat.le_trans h.on hL, h.pn, h.vn⟩
theorem ok_say {L M : Nat} {s : Ms} {m : Mm} (h : OkB L M s) (hm : OkG m) : OkB (L + 1) M (sayR s m) := by
  refine ⟨h.base, h.log, h.ln, fun x hx => ?_, ?_, h.pn, h.vn⟩
  · unfold sayR at hx
    rcases List.mem_append.1 hx with hx | hx
    · exact h.out x hx
    · rw [List.mem_singleton] at hx
      subst hx
      exact hm
  · rw [say_len]
    have := h.on
    omega
theorem ok_tell {L M : Nat} {s : Ms} (p : Mp) (h : OkB L M s) : OkB (L + 1) M (tellR s p) := by
  unfold tellR
  split
  · exact ok_say h ⟨h.base, by simp [msg0], by simp [msg0]⟩
  · refine ok_say h ⟨zero_okM, fun e he => ?_, ?_⟩
    · dsimp only at he
      unfold sliceM at he
      split at he
      · unfold pickM at he
        have := List.mem_of_mem_take he
        exact h.log e (List.mem_filter.1 this).1
      · simp at he
    · dsimp only
      unfold sliceM
      split
      · unfold pickM
        rw [List.length_take]
        omega
      · simp
theorem ok_tell1 {L M : Nat} {s : Ms} (p : Mp) (h : OkB L M s) : OkB (L + 1) M (tell1 s p) := by
  unfold tell1
  split
  · exact h.mono (Nat.le_succ _) (Nat.le_refl _)
  · exact ok_tell p h
theorem ok_tells {M : Nat} : ∀ (ps : List Mp) {L : Nat} {s : Ms}, OkB L M s → OkB (L + ps.length) M (ps.foldl tell1 s)
  | [], L, s, h => h
  | p :: ps, L, s, h => by
    have := ok_tells ps (ok_tell1 p h)
    rw [List.length_cons]
    exact this.mono (by omega) (Nat.le_refl _)
theorem ok_tellAll {L M : Nat} {s : Ms} (h : OkB L M s) : OkB (L + 1000000000) M (tellAllR s) := by
  rw [tellAll_eq]
  exact (ok_tells s.r.peers h).mono (by have := h.pn; omega) (Nat.le_refl _)
theorem com_votes (s : Ms) : (comR s).r.votes = s.r.votes := by unfold comR; dsimp only; split <;> rfl
theorem ok_com {L M : Nat} {s : Ms} (h : OkB L M s) : OkB L M (comR s) := by
  obtain ⟨h1, h2, h3, h4⟩ := com_log s
  exact ⟨by rw [h2]; exact h.base, by rw [h1]; exact h.log, by rw [h1]; exact h.ln, by rw [com_out]; exact h.out, by rw [com_out]; exact h.on, by rw [h3]; exact h.pn, by rw [com_votes]; exact h.vn⟩
theorem ok_settle {L M : Nat} {s : Ms} (h : OkB L M s) : OkB (L + 1000000000) M (settleR s) := by
  unfold settleR
  refine ok_tellAll (ok_com ⟨h.base, h.log, h.ln, h.out, h.on, ?_, h.vn⟩)
  dsimp only
  rw [List.length_map]
  exact votR_len h.base h.log
end Go.Proofs.YtncoandnelgkeaaGreat

