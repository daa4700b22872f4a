import Derived.Test.YtncoandnelgkeaaGreatHc46
/- The program's proposed. -/
namespace Go.Proofs.YtncoandnelgkeaaGreat
open Go.RowKit QuorumMath RlogMath RaftMath
set_option maxRecDepth 100000
set_option linter.unusedSimpArgs false
set_option linter.unusedVariables false

/-- The log behind what is proposed. -/
def propdM (r : Mr) (k : Int) (d : List Nat) : Int × Me × List Me :=
  if mayR r = false then (1, zeroMe, [])
  else if r.role ≠ 2 then (4, zeroMe, [])
  else if k = 0 ∨ (appM r.base r.log r.term k d).1 = 1 then (1, zeroMe, [])
  else if k = 2 ∧ mustB r = true then (9, zeroMe, [])
  else if k = 2 ∧ safeB (votR r) (nodesI d) = false then (1, zeroMe, [])
  else appM r.base r.log r.term k d
set_option maxHeartbeats 16000000 in
theorem propd_of (n : Nat) (r : Mr) (v : Value) (k : Int) (d : List Nat) (ds : Sl) (w : World) (hS : RsV n w v r) (hD : Rd byteE w (.slice ds.1 ds.2.1 ds.2.2) d) (hdc : ∀ c ∈ d, c < 256) (hdn : d.length ≤ 1000000) (hbo : OkM r.base) (hlo : ∀ e ∈ r.log, OkM e) (hlg : r.log.length ≤ 1000000) (hpl : r.peers.length ≤ 1000000) (hvt : r.votes.length ≤ 1000000) : Calls Tryz.prog 66 #[v, .int .i64 k, .slice ds.1 ds.2.1 ds.2.2] w fun e w' => LgC (propdM r k d) e w' ∧ Below w.heap.size w w' := by
  have HK1 : Hid (∀ W, Below w.heap.size w W → _) := fun W hW => pcheckR_of n r v W (hS.below hW) hbo hlo hlg hpl hvt
  have HK2 : Hid (mayR r = true → ∀ W, Below w.heap.size w W → _) := fun hm W hW => mustWait_of n r v W (hS.below hW) (mayR_facts hm).1 hlg
  obtain ⟨z, rfl, hz, hR⟩ := hS
  obtain ⟨r', zs, ⟨ba, bn, bc⟩, ⟨la, ln, lc⟩, ⟨va, vn, vc⟩, ⟨pa, pn, pc⟩⟩ := z
  obtain rfl : r' = r := hz
  have hml : mes zs = r'.log := hR.2.2.1
  have hzl : zs.length ≤ 1000000 := by have := congrArg List.length hml; rw [List.length_map] at this; omega
  have hzo := okz_of hml hlo
  have HKA : Hid (∀ W, Below w.heap.size w W → _) := fun W hW => papp_c (r'.base, ba, bn, bc) zs (.slice la ln lc) r'.term k d ds W (hR.1.below hW).v (hR.2.1.below hW).v ⟨hbo.1, hbo.2.1, hbo.2.2.1⟩ (fun z hz => (hzo z hz).1) (hD.below hW) hdc (by omega) hbo.2.2.2 (fun z hz => (hzo z hz).2) (by omega)
  have HKV : Hid (∀ W, Below w.heap.size w W → _) := fun W hW => pvot_c (r'.base, ba, bn, bc) zs (.slice la ln lc) W (hR.1.below hW).v (hR.2.1.below hW).v ⟨hbo.1, hbo.2.1, hbo.2.2.1⟩ (fun z hz => (hzo z hz).1) (by omega) hbo.2.2.2 (fun z hz => (hzo z hz).2)
  have HKN : Hid (∀ W, Below w.heap.size w W → _) := fun W hW => rnodes_of d (.slice ds.1 ds.2.1 ds.2.2) W (hD.below hW) (by omega) hdc
  rw [hml] at HKA HKV
  have HVL : Hid (mayR r' = true → (votM r'.base r'.log).length ≤ 1000000) := fun hm => by have := (mayR_more hm).2; unfold votR at this; omega
  obtain ⟨T, HT⟩ : ∃ T, Hid (T = LgC (propdM r' k d)) := ⟨_, rfl⟩
  rw [← HT.out]
  obtain ⟨MB, HMB⟩ : ∃ MB, Hid (mayR r' = MB) := ⟨_, rfl⟩
  rw [HMB.out] at HK1
  have HPM : Hid (propdM r' k d = if mayR r' = false then (1, zeroMe, []) else if r'.role ≠ 2 then (4, zeroMe, []) else if k = 0 ∨ (appM r'.base r'.log r'.term k d).1 = 1 then (1, zeroMe, []) else if k = 2 ∧ mustB r' = true then (9, zeroMe, []) else if k = 2 ∧ safeB (votM r'.base r'.log) (nodesI d) = false then (1, zeroMe, []) else appM r'.base r'.log r'.term k d) := rfl
  rw [HMB.out] at HPM
  obtain ⟨da, dn, dc⟩ := ds
  have HNL : Hid ((nodesI d).length ≤ 1000000) := by show _ ≤ _; rw [nodesI_len]; exact hdn
  generalize hMU : mustB r' = MU at *
  obtain ⟨nd, tm, vo, ⟨bi, bt, bk, bd⟩, lg, cm, ro, le, el, vt, pe⟩ := r'
  dsimp only [rv, lgv] at *
  generalize hAP : appM ⟨bi, bt, bk, bd⟩ lg tm k d = AP at *
  generalize hVO : votM ⟨bi, bt, bk, bd⟩ lg = VO at *
  generalize hNO : nodesI d = NO at *
  obtain ⟨hsz, B1, B2, hb1⟩ := two_box w (.cells #[.int .i64 nd, .int .u64 (tm : Int), .int .i64 vo, .int .u64 (bi : Int), .int .u64 (bt : Int), .int .i64 bk, .slice ba bn bc, .slice la ln lc, .int .u64 (cm : Int), .int .i64 ro, .int .i64 le, .int .i64 el, .slice va vn vc, .slice pa pn pc] 32) (.cells #[.int .u64 0, .int .u64 0, .int .i64 0, .slice none 0 0, .slice none 0 0] 28)
  have k1 := HK1.out _ hb1
  clear hR hml hzl hzo hbo hlo hlg hpl hvt HK1 hD hdc hdn hMU hAP hVO hNO
  go_enter Tryz.func66, Tryz.ntmps66
  go_wp2_with (refine wpList_load_row rfl 32 _ rfl w.heap.size rfl _ _ _ _ B1 Tryz.underlying32 rfl (by kernel_rfl) ?_)
  refine k1.mono ?_
  rintro e w2 ⟨rfl, hb2⟩
  have C1 := (hb2.block w.heap.size (by omega)).trans B1
  have C2 := (hb2.block (w.heap.size + 1) (by omega)).trans B2
  have hb02 := hb1.trans (hb2.mono (by omega))
  clear k1 hb2 B1 B2 hb1 hsz
  cases MB with
  | false =>
    dsimp only [codeB]
    have E : Hid (∀ W, T (.returned (.tuple #[.agg #[.int .u64 0, .int .u64 0, .int .i64 0, .slice none 0 0, .slice none 0 0], .int .i64 1])) W) := fun W => by rw [HT.out]; exact lgc_none W (HPM.out.trans (by rw [if_pos rfl]))
    clear HK2 HKA HKV HKN HVL HPM HT
    obtain ⟨⟨f0, f1, f2, f3, f4⟩, p0, p1, p2, p3, p4⟩ := lg_cells C2
    have HF := lg_set C2 (.int .u64 0) (.int .u64 0) (.int .i64 0) (.slice none 0 0) (.slice none 0 0)
    have hbf := lg_set_below hb02 (g := w.heap.size + 1) (by omega) (.int .u64 0) (.int .u64 0) (.int .i64 0) (.slice none 0 0) (.slice none 0 0)
    go_wp2
    (try simp only [Exit.inBlock, Exit.then])
    refine bodyPost_ret (results_lg rfl _ _ (w.heap.size + 1) _ _ _ _ _ rfl HF) rfl ?_
    exact ⟨E.out _, hbf⟩
  | true =>
    dsimp only [codeB]
    obtain ⟨-, o0, o1, o2, o3, o4, o5, o6, o7, o8, o9, o10, o11, o12, o13⟩ := r14_cells C1
    by_cases hro : ro = 2
    · have hrob : (ro != 2) = false := by simpa using hro
      have kA := HKA.out w2 hb02
      have HKW : Hid (∀ W, Below w.heap.size w W → _) := HK2.out HMB.out
      have hvl := HVL.out HMB.out
      rw [if_neg (by simp), if_neg (fun h => h hro)] at HPM
      have HRO : Hid (ro = 2) := hro
      clear HK2 HKA HVL hro
      go_wp2_with fail
      refine kA.mono ?_
      rintro e w3 ⟨⟨v3, rfl, hLC⟩, hb3⟩
      obtain ⟨ac, ⟨ai, at_, ak, ad⟩, al⟩ := AP
      obtain ⟨⟨sa, sn, sc⟩, cur, stv, rfl, hCD, hCp⟩ := hLC
      obtain ⟨xa, xc, rfl, -, -⟩ := hCp.1.1.rd.shape
      generalize cur.length = xn at *
      dsimp only [lgv] at *
      have HLC3 : LogC 0 w3 (.agg #[.int .u64 (ai : Int), .int .u64 (at_ : Int), .int .i64 ak, .slice sa sn sc, .slice xa xn xc]) ⟨ai, at_, ak, ad⟩ al := ⟨(sa, sn, sc), cur, _, rfl, hCD, hCp⟩
      clear hCD hCp kA o0 o1 o2 o3 o4 o5 o6 o7 o8 o9 o10 o11 o12 o13
      have D1 := (hb3.block w.heap.size (Array.getElem?_eq_some_iff.1 C1).1).trans C1
      have D2 := (hb3.block (w.heap.size + 1) (Array.getElem?_eq_some_iff.1 C2).1).trans C2
      have hb03 := hb02.trans (hb3.mono hb02.size)
      obtain ⟨z4, G4, q4⟩ := one_box w3 (.cells #[.int .u64 (ai : Int), .int .u64 (at_ : Int), .int .i64 ak, .slice sa sn sc, .slice xa xn xc] 28)
      have E1 := (q4.block w.heap.size (Array.getElem?_eq_some_iff.1 D1).1).trans D1
      have E2 := (q4.block (w.heap.size + 1) (Array.getElem?_eq_some_iff.1 D2).1).trans D2
      have hb04 := hb03.trans (q4.mono hb03.size)
      have HLC := HLC3.below q4
      have hs3 : w.heap.size + 1 < w3.heap.size := (Array.getElem?_eq_some_iff.1 D2).1
      clear C1 C2 hb3 hb02 D1 D2 HLC3
      obtain ⟨w4, hw4⟩ : ∃ w4, w3.alloc (.cells #[.int .u64 (ai : Int), .int .u64 (at_ : Int), .int .i64 ak, .slice sa sn sc, .slice xa xn xc] 28) = w4 := ⟨_, rfl⟩
      rw [hw4] at z4 G4 q4 E1 E2 hb04 HLC
      by_cases hk0 : k = 0
      · subst hk0
        have E : Hid (∀ W, T (.returned (.tuple #[.agg #[.int .u64 0, .int .u64 0, .int .i64 0, .slice none 0 0, .slice none 0 0], .int .i64 1])) W) := fun W => by rw [HT.out]; exact lgc_none W (HPM.out.trans (by rw [if_pos (.inl rfl)]))
        clear HT HPM HLC HKW HKV HKN E1 G4
        obtain ⟨⟨f0, f1, f2, f3, f4⟩, p0, p1, p2, p3, p4⟩ := lg_cells E2
        have HF := lg_set E2 (.int .u64 0) (.int .u64 0) (.int .i64 0) (.slice none 0 0) (.slice none 0 0)
        have hbf := lg_set_below hb04 (g := w.heap.size + 1) (by omega) (.int .u64 0) (.int .u64 0) (.int .i64 0) (.slice none 0 0) (.slice none 0 0)
        go_wp2
        (try simp only [Exit.inBlock, Exit.then])
        refine bodyPost_ret (results_lg rfl _ _ (w.heap.size + 1) _ _ _ _ _ rfl HF) rfl ?_
        exact ⟨E.out _, hbf⟩
      · have hk0b : (k == 0) = false := by simpa using hk0
        by_cases hac : ac = 1
        · subst hac
          have E : Hid (∀ W, T (.returned (.tuple #[.agg #[.int .u64 0, .int .u64 0, .int .i64 0, .slice none 0 0, .slice none 0 0], .int .i64 1])) W) := fun W => by rw [HT.out]; exact lgc_none W (HPM.out.trans (by rw [if_pos (.inr rfl)]))
          clear HT HPM HLC HKW HKV HKN E1 G4
          obtain ⟨⟨f0, f1, f2, f3, f4⟩, p0, p1, p2, p3, p4⟩ := lg_cells E2
          have HF := lg_set E2 (.int .u64 0) (.int .u64 0) (.int .i64 0) (.slice none 0 0) (.slice none 0 0)
          have hbf := lg_set_below hb04 (g := w.heap.size + 1) (by omega) (.int .u64 0) (.int .u64 0) (.int .i64 0) (.slice none 0 0) (.slice none 0 0)
          go_wp2
          (try simp only [Exit.inBlock, Exit.then])
          refine bodyPost_ret (results_lg rfl _ _ (w.heap.size + 1) _ _ _ _ _ rfl HF) rfl ?_
          exact ⟨E.out _, hbf⟩
        · have hacb : (ac == 1) = false := by simpa using hac
          rw [if_neg (fun h => h.elim hk0 hac)] at HPM
          have HK0 : Hid (k ≠ 0) := hk0
          clear hk0 hac
          by_cases hk2 : k = 2
          · subst hk2
            have kW := HKW.out _ hb04
            clear HKW
            go_wp2_with (refine wpList_load_row rfl 32 _ rfl w.heap.size rfl _ _ _ _ E1 Tryz.underlying32 rfl (by kernel_rfl) ?_)
            refine kW.mono ?_
            rintro e w5 ⟨rfl, hb5⟩
            have F1 := (hb5.block w.heap.size (Array.getElem?_eq_some_iff.1 E1).1).trans E1
            have F2 := (hb5.block (w.heap.size + 1) (Array.getElem?_eq_some_iff.1 E2).1).trans E2
            have F3 := (hb5.block w3.heap.size (Array.getElem?_eq_some_iff.1 G4).1).trans G4
            have hb05 := hb04.trans (hb5.mono hb04.size)
            have HLC5 := HLC.below hb5
            clear kW hb5 E1 E2 G4 hb04 HLC q4 z4
            cases MU with
            | true =>
              have E : Hid (∀ W, T (.returned (.tuple #[.agg #[.int .u64 0, .int .u64 0, .int .i64 0, .slice none 0 0, .slice none 0 0], .int .i64 9])) W) := fun W => by rw [HT.out]; exact lgc_none W (HPM.out.trans (by rw [if_pos (by simp)]))
              clear HT HPM HLC5 HKV HKN F1 F3
              obtain ⟨⟨f0, f1, f2, f3, f4⟩, p0, p1, p2, p3, p4⟩ := lg_cells F2
              have HF := lg_set F2 (.int .u64 0) (.int .u64 0) (.int .i64 0) (.slice none 0 0) (.slice none 0 0)
              have hbf := lg_set_below hb05 (g := w.heap.size + 1) (by omega) (.int .u64 0) (.int .u64 0) (.int .i64 0) (.slice none 0 0) (.slice none 0 0)
              go_wp2
              (try simp only [Exit.inBlock, Exit.then])
              refine bodyPost_ret (results_lg rfl _ _ (w.heap.size + 1) _ _ _ _ _ rfl HF) rfl ?_
              exact ⟨E.out _, hbf⟩
            | false =>
              rw [if_neg (by simp)] at HPM
              have kV := HKV.out _ hb05
              obtain ⟨-, o0, o1, o2, o3, o4, o5, o6, o7, o8, o9, o10, o11, o12, o13⟩ := r14_cells F1
              clear HKV
              go_wp2_with fail
              refine kV.mono ?_
              rintro e w6 ⟨v6, rfl, hO6, hb6⟩
              have hb06 := hb05.trans (hb6.mono hb05.size)
              have kN := HKN.out _ hb06
              obtain ⟨va6, vc6, hv6, -⟩ := hO6.1.shape
              clear kV HKN o0 o1 o2 o3 o4 o5 o6 o7 o8 o9 o10 o11 o12 o13
              go_wp2_with fail
              refine kN.mono ?_
              rintro e w7 ⟨v7, rfl, hO7, hb7⟩
              have hb07 := hb06.trans (hb7.mono hb06.size)
              have kS := safe_of VO v6 NO v7 w7 (hO6.1.rd.below hb7) hO7.1.rd hvl HNL.out
              obtain ⟨va7, vc7, hv7, -⟩ := hO7.1.shape
              have hb57 : Below w5.heap.size w5 w7 := hb6.trans (hb7.mono hb6.size)
              have G2 := (hb57.block (w.heap.size + 1) (Array.getElem?_eq_some_iff.1 F2).1).trans F2
              have G3 := (hb57.block w3.heap.size (Array.getElem?_eq_some_iff.1 F3).1).trans F3
              have HLC := HLC5.below hb57
              clear kN hO6 hO7 hb6 hb7 hb06 F1 F2 F3 hb05 hb57 HLC5
              subst hv6
              subst hv7
              go_wp2_with fail
              refine kS.mono ?_
              rintro e w8 ⟨rfl, hw8⟩
              subst hw8
              clear kS
              cases hsf : safeB VO NO with
              | false =>
                rw [hsf] at HPM
                have E : Hid (∀ W, T (.returned (.tuple #[.agg #[.int .u64 0, .int .u64 0, .int .i64 0, .slice none 0 0, .slice none 0 0], .int .i64 1])) W) := fun W => by rw [HT.out]; exact lgc_none W (HPM.out.trans (by rw [if_pos (by simp)]))
                clear HT HPM HLC G3 hsf
                obtain ⟨⟨f0, f1, f2, f3, f4⟩, p0, p1, p2, p3, p4⟩ := lg_cells G2
                have HF := lg_set G2 (.int .u64 0) (.int .u64 0) (.int .i64 0) (.slice none 0 0) (.slice none 0 0)
                have hbf := lg_set_below hb07 (g := w.heap.size + 1) (by omega) (.int .u64 0) (.int .u64 0) (.int .i64 0) (.slice none 0 0) (.slice none 0 0)
                go_wp2
                (try simp only [Exit.inBlock, Exit.then])
                refine bodyPost_ret (results_lg rfl _ _ (w.heap.size + 1) _ _ _ _ _ rfl HF) rfl ?_
                exact ⟨E.out _, hbf⟩
              | true =>
                rw [hsf, if_neg (by simp)] at HPM
                have E : Hid (∀ W, LogC 0 W (.agg #[.int .u64 (ai : Int), .int .u64 (at_ : Int), .int .i64 ak, .slice sa sn sc, .slice xa xn xc]) ⟨ai, at_, ak, ad⟩ al → T (.returned (.tuple #[.agg #[.int .u64 (ai : Int), .int .u64 (at_ : Int), .int .i64 ak, .slice sa sn sc, .slice xa xn xc], .int .i64 ac])) W) := fun W h => by rw [HT.out, HPM.out]; exact ⟨_, rfl, h⟩
                clear HT HPM hsf
                obtain ⟨⟨f0, f1, f2, f3, f4⟩, p0, p1, p2, p3, p4⟩ := lg_cells G2
                obtain ⟨-, q0, q1, q2, q3, q4⟩ := lg_cells G3
                have HF := lg_set G2 (.int .u64 (ai : Int)) (.int .u64 (at_ : Int)) (.int .i64 ak) (.slice sa sn sc) (.slice xa xn xc)
                have hbf := lg_set_below hb07 (g := w.heap.size + 1) (by omega) (.int .u64 (ai : Int)) (.int .u64 (at_ : Int)) (.int .i64 ak) (.slice sa sn sc) (.slice xa xn xc)
                have HE := E.out _ (LogC.farT5 HLC G2 (.int .u64 (ai : Int)) (.int .u64 (at_ : Int)) (.int .i64 ak) (.slice sa sn sc) (.slice xa xn xc))
                clear HLC E
                go_wp2
                (try simp only [Exit.inBlock, Exit.then])
                refine bodyPost_ret (results_lg rfl _ _ (w.heap.size + 1) _ _ _ _ _ rfl HF) rfl ?_
                exact ⟨HE, hbf⟩
          · have hk2b : (k == 2) = false := by simpa using hk2
            rw [if_neg (fun h => hk2 h.1), if_neg (fun h => hk2 h.1)] at HPM
            have E : Hid (∀ W, LogC 0 W (.agg #[.int .u64 (ai : Int), .int .u64 (at_ : Int), .int .i64 ak, .slice sa sn sc, .slice xa xn xc]) ⟨ai, at_, ak, ad⟩ al → T (.returned (.tuple #[.agg #[.int .u64 (ai : Int), .int .u64 (at_ : Int), .int .i64 ak, .slice sa sn sc, .slice xa xn xc], .int .i64 ac])) W) := fun W h => by rw [HT.out, HPM.out]; exact ⟨_, rfl, h⟩
            clear HT HPM HKW HKV HKN E1 hk2
            obtain ⟨⟨f0, f1, f2, f3, f4⟩, p0, p1, p2, p3, p4⟩ := lg_cells E2
            obtain ⟨-, q0, q1, q2, q3, q4⟩ := lg_cells G4
            have HF := lg_set E2 (.int .u64 (ai : Int)) (.int .u64 (at_ : Int)) (.int .i64 ak) (.slice sa sn sc) (.slice xa xn xc)
            have hbf := lg_set_below hb04 (g := w.heap.size + 1) (by omega) (.int .u64 (ai : Int)) (.int .u64 (at_ : Int)) (.int .i64 ak) (.slice sa sn sc) (.slice xa xn xc)
            have HE := E.out _ (LogC.farT5 HLC E2 (.int .u64 (ai : Int)) (.int .u64 (at_ : Int)) (.int .i64 ak) (.slice sa sn sc) (.slice xa xn xc))
            clear HLC E
            go_wp2
            (try simp only [Exit.inBlock, Exit.then])
            refine bodyPost_ret (results_lg rfl _ _ (w.heap.size + 1) _ _ _ _ _ rfl HF) rfl ?_
            exact ⟨HE, hbf⟩
    · have hrob : (ro != 2) = true := by simpa using hro
      have E : Hid (∀ W, T (.returned (.tuple #[.agg #[.int .u64 0, .int .u64 0, .int .i64 0, .slice none 0 0, .slice none 0 0], .int .i64 4])) W) := fun W => by rw [HT.out]; exact lgc_none W (HPM.out.trans (by rw [if_neg (by simp), if_pos hro]))
      clear HK2 HKA HKV HKN HVL HPM HT hro
      obtain ⟨⟨f0, f1, f2, f3, f4⟩, p0, p1, p2, p3, p4⟩ := lg_cells C2
      have HF := lg_set C2 (.int .u64 0) (.int .u64 0) (.int .i64 0) (.slice none 0 0) (.slice none 0 0)
      have hbf := lg_set_below hb02 (g := w.heap.size + 1) (by omega) (.int .u64 0) (.int .u64 0) (.int .i64 0) (.slice none 0 0) (.slice none 0 0)
      go_wp2
      (try simp only [Exit.inBlock, Exit.then])
      refine bodyPost_ret (results_lg rfl _ _ (w.heap.size + 1) _ _ _ _ _ rfl HF) rfl ?_
      exact ⟨E.out _, hbf⟩
end Go.Proofs.YtncoandnelgkeaaGreat

/- The program's Propose. -/
namespace Go.Proofs.YtncoandnelgkeaaGreat
open Go.RowKit QuorumMath RlogMath RaftMath
set_option maxRecDepth 100000
set_option linter.unusedSimpArgs false
set_option linter.unusedVariables false

/-- What the program's Propose tells. -/
def propP (r : Mr) (k : Int) (d : List Nat) : Ms × Nat × Int :=
  if (propdM r k d).1 = 0 then (settleR ⟨{ r with base := (propdM r k d).2.1, log := (propdM r k d).2.2 }, []⟩, (lastM (propdM r k d).2.1 (propdM r k d).2.2).1, 0) else (⟨zeroR, []⟩, 0, (propdM r k d).1)
def PropT (n : Nat) (m : Ms × Nat × Int) (e : Ending) (w' : World) : Prop := ∃ (z : Rz) (gs : List Gz) (os : Sl), e = .returned (.tuple #[rv z, .slice os.1 os.2.1 os.2.2, .int .u64 (m.2.1 : Int), .int .i64 m.2.2]) ∧ RaV n w' z ∧ MgsV n w' (.slice os.1 os.2.1 os.2.2) gs ∧ z.r = m.1.r ∧ (gs.map fun g => g.m) = m.1.out
theorem propd_ok {r : Mr} {k : Int} {d : List Nat} (h : (propdM r k d).1 = 0) : mayR r = true ∧ r.role = 2 ∧ propdM r k d = appM r.base r.log r.term k d ∧ (appM r.base r.log r.term k d).1 = 0 := by
  unfold propdM at h ⊢
  split at h
  · cases h
  · rename_i h1
    split at h
    · cases h
    · rename_i h2
      split at h
      · cases h
      · rename_i h3
        split at h
        · cases h
        · rename_i h4
          split at h
          · cases h
          · rename_i h5
            rw [if_neg h1, if_neg h2, if_neg h3, if_neg h4, if_neg h5]
            exact ⟨by simpa using h1, by simpa using h2, rfl, h⟩
theorem lead_pw {r : Mr} (h : mayR r = true) (hr : r.role = 2) : (r.peers.map fun p => p.node).Pairwise (· < ·) := by
  have hv := may_vot (mayR_facts h).1
  rw [mayR_eq] at h
  unfold roleB at h
  rw [if_neg (by omega), if_neg (by omega), if_pos hr] at h
  simp only [Bool.and_eq_true, decide_eq_true_eq] at h
  rw [h.2.2]
  have := votB_iff.1 hv
  unfold Voters at this
  exact this.2.2.2
set_option maxHeartbeats 16000000 in
theorem prop_of (n : Nat) (r : Mr) (v : Value) (k : Int) (d : List Nat) (ds : Sl) (w : World) (hS : RsV n w v r) (hD : Rd byteE w (.slice ds.1 ds.2.1 ds.2.2) d) (hdc : ∀ c ∈ d, c < 256) (hdn : d.length ≤ 1000000) (hbo : OkM r.base) (hlo : ∀ e ∈ r.log, OkM e) (hlg : r.log.length ≤ 1000000) (hpl : r.peers.length ≤ 1000000) (hvt : r.votes.length ≤ 1000000) (hnx : ∀ p ∈ r.peers, p.next < 18446744073709551616) : Calls Tryz.prog 27 #[v, .int .i64 k, .slice ds.1 ds.2.1 ds.2.2] w fun e w' => PropT n (propP r k d) e w' ∧ Below w.heap.size w w' := by
  have HK1 : Hid (∀ W, Below w.heap.size w W → _) := fun W hW => propd_of n r v k d ds W (hS.below hW) (hD.below hW) hdc hdn hbo hlo hlg hpl hvt
  have HK2 : Hid ((propdM r k d).1 = 0 → ∀ W, Below w.heap.size w W → _) := fun h W hW => turnOf_of n r v W (hS.below hW) (mayR_facts (propd_ok h).1).1 hbo hlo hvt hpl
  have HTM : Hid ((propdM r k d).1 = 0 → r.term < 18446744073709551616) := fun h => by have := (mayR_more (propd_ok h).1).1; omega
  have HMY : Hid ((propdM r k d).1 = 0 → mayB (propdM r k d).2.1 (propdM r k d).2.2 = true) := fun h => by rw [(propd_ok h).2.2.1]; exact app_may (propd_ok h).2.2.2
  have HOM : Hid ((propdM r k d).1 = 0 → OkM (propdM r k d).2.1 ∧ ∀ e ∈ (propdM r k d).2.2, OkM e) := fun h => by
    rw [(propd_ok h).2.2.1]
    have := app_okM (k := k) hbo hlo (HTM.out h) hdc (by omega)
    exact ⟨this.1, this.2.1⟩
  have HK3 : Hid ((propdM r k d).1 = 0 → ∀ w0 W t lv, TuAt w0 [] W t ⟨r, []⟩ → LogC 0 W lv (propdM r k d).2.1 (propdM r k d).2.2 → _) := fun h w0 W t lv hA hL => grow_of w0 [] W t ⟨r, []⟩ (propdM r k d).2.1 (propdM r k d).2.2 lv hA hL (HMY.out h) (HOM.out h).1 (HOM.out h).2 (lead_pw (propd_ok h).1 (propd_ok h).2.1) hpl hnx (by simp)
  have HLL : Hid ((propdM r k d).1 = 0 → (propdM r k d).2.2.length ≤ 1000000000) := fun h => by
    rw [(propd_ok h).2.2.1]
    have := app_okM (k := k) hbo hlo (HTM.out h) hdc (by omega)
    have h9 := this.2.2
    omega
  have HPP : Hid (propP r k d = if (propdM r k d).1 = 0 then (settleR ⟨{ r with base := (propdM r k d).2.1, log := (propdM r k d).2.2 }, []⟩, (lastM (propdM r k d).2.1 (propdM r k d).2.2).1, 0) else (⟨zeroR, []⟩, 0, (propdM r k d).1)) := rfl
  obtain ⟨PT, HPT⟩ : ∃ P, Hid (P = PropT n (propP r k d)) := ⟨_, rfl⟩
  rw [← HPT.out]
  rw [HPP.out] at HPT
  clear HPP HTM HMY HOM
  generalize propdM r k d = PD at *
  obtain ⟨pc0, pb, pl⟩ := PD
  dsimp only at HK2 HK3 HPT HLL
  generalize hST : settleR ⟨{ r with base := pb, log := pl }, []⟩ = ST at *
  generalize hLX : (lastM pb pl).1 = LX at *
  have HLX : Hid ((lastM pb pl).1 = LX) := hLX
  clear hST hLX
  obtain ⟨z, rfl, hz, hR⟩ := hS
  obtain ⟨r', zs, ⟨ba, bn, bc⟩, ⟨la, ln, lc⟩, ⟨va, vn, vc⟩, ⟨pa, pn, pc⟩⟩ := z
  obtain rfl : r' = r := hz
  obtain ⟨da, dn, dc⟩ := ds
  obtain ⟨nd, tm, vo, ⟨bi, bt, bk, bd⟩, lg, cm, ro, le, el, vt, pe⟩ := r'
  dsimp only [rv] at *
  obtain ⟨hsz, B1, B2, hb1⟩ := two_box w (.cells #[.int .i64 nd, .int .u64 (tm : Int), .int .i64 vo, .int .u64 (bi : Int), .int .u64 (bt : Int), .int .i64 bk, .slice ba bn bc, .slice la ln lc, .int .u64 (cm : Int), .int .i64 ro, .int .i64 le, .int .i64 el, .slice va vn vc, .slice pa pn pc] 32) (.cells #[.int .i64 0, .int .u64 0, .int .i64 0, .int .u64 0, .int .u64 0, .int .i64 0, .slice none 0 0, .slice none 0 0, .int .u64 0, .int .i64 0, .int .i64 0, .int .i64 0, .slice none 0 0, .slice none 0 0] 32)
  have k1 := HK1.out _ hb1
  clear hR hbo hlo hlg hpl hvt hnx HK1 hD hdc hdn
  go_enter Tryz.func27, Tryz.ntmps27
  go_wp2_with (refine wpList_load_row rfl 32 _ rfl w.heap.size rfl _ _ _ _ B1 Tryz.underlying32 rfl (by kernel_rfl) ?_)
  refine k1.mono ?_
  rintro e w3 ⟨⟨v3, rfl, hLC⟩, hb3⟩
  obtain ⟨ai, at_, ak, ad⟩ := pb
  obtain ⟨⟨sa, sn, sc⟩, cur, stv, rfl, hCD, hCp⟩ := hLC
  obtain ⟨xa, xc, rfl, -, -⟩ := hCp.1.1.rd.shape
  have hml3 : mes cur = pl := hCp.2.1
  have hxl : cur.length = pl.length := by have := congrArg List.length hml3; rwa [List.length_map] at this
  have HXL : Hid (cur.length = pl.length) := hxl
  have HEV : Hid (∀ W, Below w3.heap.size w3 W → EntsV W (.slice xa cur.length xc) cur) := fun W hW => (hCp.below hW).ents
  have HML : Hid (mes cur = pl) := hml3
  clear hxl hml3
  generalize hxn : cur.length = xn at *
  clear hxn
  dsimp only [lgv] at *
  have HLC3H : Hid (LogC 0 w3 (.agg #[.int .u64 (ai : Int), .int .u64 (at_ : Int), .int .i64 ak, .slice sa sn sc, .slice xa xn xc]) ⟨ai, at_, ak, ad⟩ pl) := ⟨(sa, sn, sc), cur, _, rfl, hCD, hCp⟩
  clear hCD hCp k1
  have C1 := (hb3.block w.heap.size (by omega)).trans B1
  have C2 := (hb3.block (w.heap.size + 1) (by omega)).trans B2
  have hb03 := hb1.trans (hb3.mono (by omega))
  obtain ⟨z4, G4, q4⟩ := one_box w3 (.cells #[.int .u64 (ai : Int), .int .u64 (at_ : Int), .int .i64 ak, .slice sa sn sc, .slice xa xn xc] 28)
  have E1 := (q4.block w.heap.size (Array.getElem?_eq_some_iff.1 C1).1).trans C1
  have E2 := (q4.block (w.heap.size + 1) (Array.getElem?_eq_some_iff.1 C2).1).trans C2
  have hb04 := hb03.trans (q4.mono hb03.size)
  have hs3 : w.heap.size + 1 < w3.heap.size := (Array.getElem?_eq_some_iff.1 C2).1
  have HLC : Hid (LogC 0 (w3.alloc (.cells #[.int .u64 (ai : Int), .int .u64 (at_ : Int), .int .i64 ak, .slice sa sn sc, .slice xa xn xc] 28)) (.agg #[.int .u64 (ai : Int), .int .u64 (at_ : Int), .int .i64 ak, .slice sa sn sc, .slice xa xn xc]) ⟨ai, at_, ak, ad⟩ pl) := LogC.below HLC3H.out q4
  have HEV4 : Hid (∀ W, Below (w3.alloc (.cells #[.int .u64 (ai : Int), .int .u64 (at_ : Int), .int .i64 ak, .slice sa sn sc, .slice xa xn xc] 28)).heap.size (w3.alloc (.cells #[.int .u64 (ai : Int), .int .u64 (at_ : Int), .int .i64 ak, .slice sa sn sc, .slice xa xn xc] 28)) W → EntsV W (.slice xa xn xc) cur) := fun W hW => HEV.out W (q4.trans (hW.mono q4.size))
  clear C1 C2 hb3 B1 B2 hb1 hsz HLC3H HEV hb03
  obtain ⟨w4, hw4⟩ : ∃ w4, w3.alloc (.cells #[.int .u64 (ai : Int), .int .u64 (at_ : Int), .int .i64 ak, .slice sa sn sc, .slice xa xn xc] 28) = w4 := ⟨_, rfl⟩
  rw [hw4] at z4 G4 q4 E1 E2 hb04 HLC HEV4
  by_cases hc0 : pc0 = 0
  · have hcb : (pc0 != 0) = false := by simpa using hc0
    have k2 := HK2.out hc0 w4 hb04
    have HK3' : Hid (∀ w0 W t lv, TuAt w0 [] W t _ → LogC 0 W lv _ _ → _) := HK3.out hc0
    have hll := HLL.out hc0
    rw [if_pos hc0] at HPT
    have HC0 : Hid (pc0 = 0) := hc0
    clear HK2 HK3 HLL hc0
    go_wp2_with (refine wpList_load_row rfl 32 _ rfl w.heap.size rfl _ _ _ _ E1 Tryz.underlying32 rfl (by kernel_rfl) ?_)
    refine k2.mono ?_
    rintro e w5 ⟨t, rfl, hA5, hb5⟩
    have F2 := (hb5.block (w.heap.size + 1) (Array.getElem?_eq_some_iff.1 E2).1).trans E2
    have F3 := (hb5.block w3.heap.size (Array.getElem?_eq_some_iff.1 G4).1).trans G4
    have k3 := HK3'.out w4 w5 t _ hA5 (LogC.below HLC.out hb5)
    have hs4 : w3.heap.size < w4.heap.size := (Array.getElem?_eq_some_iff.1 G4).1
    obtain ⟨-, l0, l1, l2, l3, l4⟩ := lg_cells F3
    clear k2 E1 HK3' hA5
    go_wp2_with fail
    refine k3.mono ?_
    rintro e w6 ⟨rfl, hR6⟩
    obtain ⟨hb6, ht0, z, gs, os, hT6, hz, hP6, ho, -⟩ := hR6.1
    have G6 := (hb6.block (w.heap.size + 1) (by omega)).trans E2
    have L6 := (hb6.block w3.heap.size hs4).trans G4
    have hb06 := hb04.trans (hb6.mono hb04.size)
    have kl := plast_of (⟨ai, at_, ak, ad⟩, sa, sn, sc) cur (.slice xa xn xc) w6 (HEV4.out w6 hb6) (by have := congrArg List.length HML.out; rw [List.length_map] at this; omega)
    rw [HML.out] at kl
    dsimp only [lgv, lastV] at kl
    rw [HLX.out] at kl
    have HZ : Hid (z.r = ST.r) := hz
    have HO : Hid ((gs.map fun g => g.m) = ST.out) := ho
    clear k3 hR6 F2 F3 l0 l1 l2 l3 l4 hz ho hb5 G4 E2 HEV4 HLC
    obtain ⟨-, l0, l1, l2, l3, l4⟩ := lg_cells L6
    generalize (lastM ⟨ai, at_, ak, ad⟩ pl).2 = LT at *
    go_wp2_with fail
    refine kl.mono ?_
    rintro e w7 ⟨rfl, hb7⟩
    have hT7 := (hb7.block t (Array.getElem?_eq_some_iff.1 hT6).1).trans hT6
    have G7 := (hb7.block (w.heap.size + 1) (Array.getElem?_eq_some_iff.1 G6).1).trans G6
    have hP7 := hP6.below hb7
    have hb07 := hb06.trans (hb7.mono hb06.size)
    clear kl l0 l1 l2 l3 l4 L6 hT6 G6 hP6 hb06 hb7 hb6
    go_wp2
    (try simp only [Exit.inBlock, Exit.then])
    refine wp_region_L (fun W => W.heap[t]? = some (tc z os)) [] (by kernel_rfl) ?_
    have y0 : (fun W => W.heap[t]? = some (tc z os)) w7.drew := hT7
    have g0 : w7.drew.heap[w.heap.size + 1]? = _ := G7
    have P0 : TuP w4.heap.size w7.drew z gs os := hP7.below (Below.refl _ _).drew
    have B0 : Below w.heap.size w w7.drew := hb07.drew
    generalize w7.drew = wd at *
    have HF := setRow_heap _ _ _ #[.int .i64 z.r.node, .int .u64 (z.r.term : Int), .int .i64 z.r.vote, .int .u64 (z.r.base.idx : Int), .int .u64 (z.r.base.term : Int), .int .i64 z.r.base.kind, .slice z.bs.1 z.bs.2.1 z.bs.2.2, .slice z.ls.1 z.ls.2.1 z.ls.2.2, .int .u64 (z.r.commit : Int), .int .i64 z.r.role, .int .i64 z.r.leads, .int .i64 z.r.elapsed, .slice z.vs.1 z.vs.2.1 z.vs.2.2, .slice z.ps.1 z.ps.2.1 z.ps.2.2] _ _ g0
    have y1 : (fun W => W.heap[t]? = some (tc z os)) (wd.setRow (w.heap.size + 1) #[.int .i64 z.r.node, .int .u64 (z.r.term : Int), .int .i64 z.r.vote, .int .u64 (z.r.base.idx : Int), .int .u64 (z.r.base.term : Int), .int .i64 z.r.base.kind, .slice z.bs.1 z.bs.2.1 z.bs.2.2, .slice z.ls.1 z.ls.2.1 z.ls.2.2, .int .u64 (z.r.commit : Int), .int .i64 z.r.role, .int .i64 z.r.leads, .int .i64 z.r.elapsed, .slice z.vs.1 z.vs.2.1 z.vs.2.2, .slice z.ps.1 z.ps.2.1 z.ps.2.2]) := (setRow_other wd (w.heap.size + 1) t _ (by omega)).trans y0
    have Pf := P0.frm (Frm.row (n := 0) (Nat.zero_le _) g0 #[.int .i64 z.r.node, .int .u64 (z.r.term : Int), .int .i64 z.r.vote, .int .u64 (z.r.base.idx : Int), .int .u64 (z.r.base.term : Int), .int .i64 z.r.base.kind, .slice z.bs.1 z.bs.2.1 z.bs.2.2, .slice z.ls.1 z.ls.2.1 z.ls.2.2, .int .u64 (z.r.commit : Int), .int .i64 z.r.role, .int .i64 z.r.leads, .int .i64 z.r.elapsed, .slice z.vs.1 z.vs.2.1 z.vs.2.2, .slice z.ps.1 z.ps.2.1 z.ps.2.2]) (by decide)
    have Bf := below_row B0 (g := w.heap.size + 1) (by omega) #[.int .i64 z.r.node, .int .u64 (z.r.term : Int), .int .i64 z.r.vote, .int .u64 (z.r.base.idx : Int), .int .u64 (z.r.base.term : Int), .int .i64 z.r.base.kind, .slice z.bs.1 z.bs.2.1 z.bs.2.2, .slice z.ls.1 z.ls.2.1 z.ls.2.2, .int .u64 (z.r.commit : Int), .int .i64 z.r.role, .int .i64 z.r.leads, .int .i64 z.r.elapsed, .slice z.vs.1 z.vs.2.1 z.vs.2.2, .slice z.ps.1 z.ps.2.1 z.ps.2.2]
    refine wpAnyL_take 0 rfl (by kernel_rfl) (by kernel_rfl) (by kernel_rfl) (by kernel_rfl) (fun _ _ _ h => h) (wanted_none rfl) (by intro w' hS'; obtain ⟨-, c0, c1, c2, c3, c4, c5, c6, c7, c8, c9, c10, c11, c12, c13, c14⟩ := r15_cells hS'; go_simp <;> rfl) y0 ?_
    try simp only [List.getElem_toArray, List.getElem_cons_succ, List.getElem_cons_zero, Act.put, List.setIfInBounds_toArray, List.set_cons_zero, List.set_cons_succ]
    refine wpAnyL_take 1 rfl (by kernel_rfl) (by kernel_rfl) (by kernel_rfl) (by kernel_rfl) (fun _ _ _ h => h) (wanted_none rfl) (by intro w' hS'; obtain ⟨-, c0, c1, c2, c3, c4, c5, c6, c7, c8, c9, c10, c11, c12, c13, c14⟩ := r15_cells hS'; go_simp <;> rfl) y0 ?_
    try simp only [List.getElem_toArray, List.getElem_cons_succ, List.getElem_cons_zero, Act.put, List.setIfInBounds_toArray, List.set_cons_zero, List.set_cons_succ]
    refine wpAnyL_take 2 rfl (by kernel_rfl) (by kernel_rfl) (by kernel_rfl) (by kernel_rfl) (fun _ _ _ h => h) (wanted_none rfl) (by intro w' hS'; obtain ⟨-, c0, c1, c2, c3, c4, c5, c6, c7, c8, c9, c10, c11, c12, c13, c14⟩ := r15_cells hS'; go_simp <;> rfl) y0 ?_
    try simp only [List.getElem_toArray, List.getElem_cons_succ, List.getElem_cons_zero, Act.put, List.setIfInBounds_toArray, List.set_cons_zero, List.set_cons_succ]
    refine wpAnyL_take 3 rfl (by kernel_rfl) (by kernel_rfl) (by kernel_rfl) (by kernel_rfl) (fun _ _ _ h => h) (wanted_none rfl) (by intro w' hS'; obtain ⟨-, c0, c1, c2, c3, c4, c5, c6, c7, c8, c9, c10, c11, c12, c13, c14⟩ := r15_cells hS'; go_simp <;> rfl) y0 ?_
    try simp only [List.getElem_toArray, List.getElem_cons_succ, List.getElem_cons_zero, Act.put, List.setIfInBounds_toArray, List.set_cons_zero, List.set_cons_succ]
    refine wpAnyL_take 4 rfl (by kernel_rfl) (by kernel_rfl) (by kernel_rfl) (by kernel_rfl) (fun _ _ _ h => h) (wanted_none rfl) (by intro w' hS'; obtain ⟨-, c0, c1, c2, c3, c4, c5, c6, c7, c8, c9, c10, c11, c12, c13, c14⟩ := r15_cells hS'; go_simp <;> rfl) y0 ?_
    try simp only [List.getElem_toArray, List.getElem_cons_succ, List.getElem_cons_zero, Act.put, List.setIfInBounds_toArray, List.set_cons_zero, List.set_cons_succ]
    refine wpAnyL_take 5 rfl (by kernel_rfl) (by kernel_rfl) (by kernel_rfl) (by kernel_rfl) (fun _ _ _ h => h) (wanted_none rfl) (by intro w' hS'; obtain ⟨-, c0, c1, c2, c3, c4, c5, c6, c7, c8, c9, c10, c11, c12, c13, c14⟩ := r15_cells hS'; go_simp <;> rfl) y0 ?_
    try simp only [List.getElem_toArray, List.getElem_cons_succ, List.getElem_cons_zero, Act.put, List.setIfInBounds_toArray, List.set_cons_zero, List.set_cons_succ]
    refine wpAnyL_take 6 rfl (by kernel_rfl) (by kernel_rfl) (by kernel_rfl) (by kernel_rfl) (fun _ _ _ h => h) (wanted_none rfl) (by intro w' hS'; obtain ⟨-, c0, c1, c2, c3, c4, c5, c6, c7, c8, c9, c10, c11, c12, c13, c14⟩ := r15_cells hS'; go_simp <;> rfl) y0 ?_
    try simp only [List.getElem_toArray, List.getElem_cons_succ, List.getElem_cons_zero, Act.put, List.setIfInBounds_toArray, List.set_cons_zero, List.set_cons_succ]
    refine wpAnyL_take 7 rfl (by kernel_rfl) (by kernel_rfl) (by kernel_rfl) (by kernel_rfl) (fun _ _ _ h => h) (wanted_none rfl) (by intro w' hS'; obtain ⟨-, c0, c1, c2, c3, c4, c5, c6, c7, c8, c9, c10, c11, c12, c13, c14⟩ := r15_cells hS'; go_simp <;> rfl) y0 ?_
    try simp only [List.getElem_toArray, List.getElem_cons_succ, List.getElem_cons_zero, Act.put, List.setIfInBounds_toArray, List.set_cons_zero, List.set_cons_succ]
    refine wpAnyL_take 8 rfl (by kernel_rfl) (by kernel_rfl) (by kernel_rfl) (by kernel_rfl) (fun _ _ _ h => h) (wanted_none rfl) (by intro w' hS'; obtain ⟨-, c0, c1, c2, c3, c4, c5, c6, c7, c8, c9, c10, c11, c12, c13, c14⟩ := r15_cells hS'; go_simp <;> rfl) y0 ?_
    try simp only [List.getElem_toArray, List.getElem_cons_succ, List.getElem_cons_zero, Act.put, List.setIfInBounds_toArray, List.set_cons_zero, List.set_cons_succ]
    refine wpAnyL_one 9 (by kernel_rfl) rfl (wanted_none rfl) ?_
    intro K' hK'
    refine wp_store_row 32 _ _ rfl (w.heap.size + 1) #[.int .i64 z.r.node, .int .u64 (z.r.term : Int), .int .i64 z.r.vote, .int .u64 (z.r.base.idx : Int), .int .u64 (z.r.base.term : Int), .int .i64 z.r.base.kind, .slice z.bs.1 z.bs.2.1 z.bs.2.2, .slice z.ls.1 z.ls.2.1 z.ls.2.2, .int .u64 (z.r.commit : Int), .int .i64 z.r.role, .int .i64 z.r.leads, .int .i64 z.r.elapsed, .slice z.vs.1 z.vs.2.1 z.vs.2.2, .slice z.ps.1 z.ps.2.1 z.ps.2.2] rfl rfl _ _ g0 (by kernel_rfl) rfl (by simp [Value.oneCell']) ?_
    refine hK'.out _ _ (.inr y1) ?_
    clear hK' K'
    try simp only [List.getElem_toArray, List.getElem_cons_succ, List.getElem_cons_zero, Act.put, List.setIfInBounds_toArray, List.set_cons_zero, List.set_cons_succ]
    refine wpAnyL_take 10 rfl (by kernel_rfl) (by kernel_rfl) (by kernel_rfl) (by kernel_rfl) (fun _ _ _ h => h) (wanted_none rfl) (by intro w' hS'; obtain ⟨-, c0, c1, c2, c3, c4, c5, c6, c7, c8, c9, c10, c11, c12, c13, c14⟩ := r15_cells hS'; go_simp <;> rfl) y1 ?_
    try simp only [List.getElem_toArray, List.getElem_cons_succ, List.getElem_cons_zero, Act.put, List.setIfInBounds_toArray, List.set_cons_zero, List.set_cons_succ]
    refine wpAnyL_take 11 rfl (by kernel_rfl) (by kernel_rfl) (by kernel_rfl) (by kernel_rfl) (fun _ _ _ h => h) (wanted_none rfl) (by intro w' hS'; obtain ⟨-, c0, c1, c2, c3, c4, c5, c6, c7, c8, c9, c10, c11, c12, c13, c14⟩ := r15_cells hS'; go_simp <;> rfl) y1 ?_
    try simp only [List.getElem_toArray, List.getElem_cons_succ, List.getElem_cons_zero, Act.put, List.setIfInBounds_toArray, List.set_cons_zero, List.set_cons_succ]
    refine wpAnyL_take 12 rfl (by kernel_rfl) (by kernel_rfl) (by kernel_rfl) (by kernel_rfl) (fun _ _ _ h => h) (wanted_none rfl) (by intro w' hS'; obtain ⟨-, c0, c1, c2, c3, c4, c5, c6, c7, c8, c9, c10, c11, c12, c13, c14⟩ := r15_cells hS'; go_simp <;> rfl) y1 ?_
    try simp only [List.getElem_toArray, List.getElem_cons_succ, List.getElem_cons_zero, Act.put, List.setIfInBounds_toArray, List.set_cons_zero, List.set_cons_succ]
    refine wpAnyL_done (by kernel_rfl) (NoPanic.normal ?_) _
    have HFH : Hid _ := HF
    have HPF : Hid _ := Pf.ra (n := n)
    generalize wd.setRow (w.heap.size + 1) #[.int .i64 z.r.node, .int .u64 (z.r.term : Int), .int .i64 z.r.vote, .int .u64 (z.r.base.idx : Int), .int .u64 (z.r.base.term : Int), .int .i64 z.r.base.kind, .slice z.bs.1 z.bs.2.1 z.bs.2.2, .slice z.ls.1 z.ls.2.1 z.ls.2.2, .int .u64 (z.r.commit : Int), .int .i64 z.r.role, .int .i64 z.r.leads, .int .i64 z.r.elapsed, .slice z.vs.1 z.vs.2.1 z.vs.2.2, .slice z.ps.1 z.ps.2.1 z.ps.2.2] = W8 at *
    clear HF Pf P0 g0 y0 y1
    go_wp2
    (try simp only [Exit.inBlock, Exit.then])
    refine bodyPost_ret (results_ra4 rfl _ _ (w.heap.size + 1) _ _ _ _ _ _ _ _ _ _ _ _ _ _ rfl HFH.out) rfl ?_
    exact ⟨by rw [HPT.out]; exact ⟨z, gs, os, rfl, HPF.out.1, HPF.out.2, HZ.out, HO.out⟩, Bf⟩
  · have hcb : (pc0 != 0) = true := by simpa using hc0
    rw [if_neg hc0] at HPT
    have HF := setRow_heap _ _ _ #[.int .i64 0, .int .u64 0, .int .i64 0, .int .u64 0, .int .u64 0, .int .i64 0, .slice none 0 0, .slice none 0 0, .int .u64 0, .int .i64 0, .int .i64 0, .int .i64 0, .slice none 0 0, .slice none 0 0] _ _ E2
    have hbf := below_row hb04 (g := w.heap.size + 1) (by omega) #[.int .i64 0, .int .u64 0, .int .i64 0, .int .u64 0, .int .u64 0, .int .i64 0, .slice none 0 0, .slice none 0 0, .int .u64 0, .int .i64 0, .int .i64 0, .int .i64 0, .slice none 0 0, .slice none 0 0]
    clear HK2 HK3 HLL hc0 HEV4 HLC E1 G4
    go_wp2_with (refine wpList_store_row rfl 32 _ _ rfl (w.heap.size + 1) _ rfl rfl _ _ E2 (by kernel_rfl) rfl (by simp [Value.oneCell']) ?_)
    (try simp only [Exit.inBlock, Exit.then])
    refine bodyPost_ret (results_ra4 rfl _ _ (w.heap.size + 1) _ _ _ _ _ _ _ _ _ _ _ _ _ _ rfl HF) rfl ?_
    exact ⟨by rw [HPT.out]; exact ⟨⟨zeroR, [], (none, 0, 0), (none, 0, 0), (none, 0, 0), (none, 0, 0)⟩, [], (none, 0, 0), rfl, raV_zero n _, ⟨RdN.nil _ _ _ _, by simp⟩, rfl, rfl⟩, hbf⟩
end Go.Proofs.YtncoandnelgkeaaGreat

