import Derived.Test.YtncoandnelgkeaaGreatHc46
import Derived.Test.YtncoandnelgkeaaGreatHc48
import Derived.Test.YtncoandnelgkeaaGreatHc49
import Derived.Test.YtncoandnelgkeaaGreatHc35
/- Compact of the program, of the document. -/
namespace Go.Proofs.YtncoandnelgkeaaGreat
open Go.RowKit QuorumMath RlogMath RaftMath
set_option maxRecDepth 100000
set_option linter.unusedSimpArgs false
set_option linter.unusedVariables false

theorem term_in {b : Me} {l : List Me} {x : Nat} (h : mayB b l = true) (h1 : b.idx < x) (h2 : x ≤ (lastM b l).1) : ∃ t, termM b l x = some t := by
  have hl := (may_last h).1
  obtain ⟨e, he⟩ : ∃ e, l[x - b.idx - 1]? = some e := ⟨_, List.getElem?_eq_getElem (by omega)⟩
  have hn := may_num h he
  have := term_at h he
  rw [show e.idx = x by omega] at this
  exact ⟨_, this⟩
theorem comp_in {r : Mr} {x : Nat} (h : mayR r = true) (h1 : ¬ r.commit < x) (h2 : ¬ x ≤ r.base.idx) : (compM r.base r.log x).1 = 0 := by
  have hm := (mayR_facts h).1
  have hc : r.commit ≤ endI r := by
    rw [mayR_eq] at h
    unfold logB at h
    simp only [Bool.and_eq_true, decide_eq_true_eq] at h
    exact h.1.2.2
  obtain ⟨t, ht⟩ := term_in hm (show r.base.idx < x by omega) (show x ≤ (lastM r.base r.log).1 by unfold endI at hc; omega)
  rw [comp_ok hm h2 ht]
/-- What Compact tells. -/
def CmpT (n : Nat) (m : Mr × Int) (e : Ending) (w' : World) : Prop := ∃ z : Rz, e = .returned (.tuple #[rv z, .int .i64 m.2]) ∧ RaV n w' z ∧ z.r = m.1
def compP (r : Mr) (x : Nat) : Mr × Int := if mayR r = true then compR r x else (zeroR, 1)
set_option maxHeartbeats 16000000 in
theorem pcompR_of (n : Nat) (r : Mr) (v : Value) (x : Nat) (w : World) (hS : RsV n w v r) (hbo : OkM r.base) (hlo : ∀ e ∈ r.log, OkM e) (hlg : r.log.length ≤ 1000000) (hpl : r.peers.length ≤ 1000000) (hvt : r.votes.length ≤ 1000000) : Calls Tryz.prog 28 #[v, .int .u64 (x : Int)] w fun e w' => CmpT n (compP r x) e w' ∧ Below w.heap.size w w' := by
  have HK1 : Hid (∀ W, Below w.heap.size w W → _) := fun W hW => pcheckR_of n r v W (hS.below hW) hbo hlo hlg hpl hvt
  have HIN : Hid (mayR r = true → ¬ r.commit < x → ¬ x ≤ r.base.idx → (compM r.base r.log x).1 = 0) := fun h => comp_in h
  have HOL : Hid (mayR r = true → x ≤ r.base.idx → compM r.base r.log x = (7, zeroMe, [])) := fun h => comp_old (mayR_facts h).1
  have HPM : Hid (compP r x = if mayR r = true then (if r.commit < x ∨ x ≤ r.base.idx then (zeroR, 7) else ({ r with base := (compM r.base r.log x).2.1, log := (compM r.base r.log x).2.2 }, 0)) else (zeroR, 1)) := rfl
  obtain ⟨CP, HC⟩ : ∃ CP, Hid (CP = compP r x) := ⟨_, rfl⟩
  rw [← HC.out]
  obtain ⟨PT, HPT⟩ : ∃ P, Hid (P = CmpT n CP) := ⟨_, rfl⟩
  rw [← HPT.out]
  rw [HPM.out] at HC
  obtain ⟨z, rfl, hz, hR⟩ := hS
  obtain ⟨r', zs, ⟨ba, bn, bc⟩, ⟨la, ln, lc⟩, ⟨va, vn, vc⟩, ⟨pa, pn, pc⟩⟩ := z
  obtain rfl : r' = r := hz
  have hml : mes zs = r'.log := hR.2.2.1
  have hzl : zs.length ≤ 1000000 := by have := congrArg List.length hml; rw [List.length_map] at this; omega
  have hzo := okz_of hml hlo
  have HKC : Hid (∀ W, Below w.heap.size w W → _) := fun W hW => pcomp_c (r'.base, ba, bn, bc) zs (.slice la ln lc) x W (hR.1.below hW).v (hR.2.1.below hW).v ⟨hbo.1, hbo.2.1, hbo.2.2.1⟩ (fun z hz => (hzo z hz).1) (by omega) hbo.2.2.2 (fun z hz => (hzo z hz).2)
  rw [hml] at HKC
  have HKI : Hid (∀ W, Below w.heap.size w W → _) := fun W hW => clone_ints r'.votes (.slice va vn vc) W (hR.2.2.2.1.rd.below hW) (by omega)
  have HKP : Hid (∀ W, Below w.heap.size w W → _) := fun W hW => clone_peers r'.peers (.slice pa pn pc) W (hR.2.2.2.2.rd.below hW) (by omega)
  obtain ⟨MB, HMB⟩ : ∃ MB, Hid (mayR r' = MB) := ⟨_, rfl⟩
  rw [HMB.out] at HK1 HC
  obtain ⟨nd, tm, vo, ⟨bi, bt, bk, bd⟩, lg, cm, ro, le, el, vt, pe⟩ := r'
  dsimp only [rv, lgv] at *
  generalize compM ⟨bi, bt, bk, bd⟩ lg x = CM at *
  obtain ⟨hsz, B1, B2, hb1⟩ := two_box w (.cells #[.int .i64 nd, .int .u64 (tm : Int), .int .i64 vo, .int .u64 (bi : Int), .int .u64 (bt : Int), .int .i64 bk, .slice ba bn bc, .slice la ln lc, .int .u64 (cm : Int), .int .i64 ro, .int .i64 le, .int .i64 el, .slice va vn vc, .slice pa pn pc] 32) (.cells #[.int .i64 0, .int .u64 0, .int .i64 0, .int .u64 0, .int .u64 0, .int .i64 0, .slice none 0 0, .slice none 0 0, .int .u64 0, .int .i64 0, .int .i64 0, .int .i64 0, .slice none 0 0, .slice none 0 0] 32)
  have k1 := HK1.out _ hb1
  clear hR hml hzl hzo hbo hlo hlg hpl hvt HK1 HPM
  go_enter Tryz.func28, Tryz.ntmps28
  go_wp2_with (refine wpList_load_row rfl 32 _ rfl w.heap.size rfl _ _ _ _ B1 Tryz.underlying32 rfl (by kernel_rfl) ?_)
  refine k1.mono ?_
  rintro e w2 ⟨rfl, hb2⟩
  have C1 := (hb2.block w.heap.size (by omega)).trans B1
  have C2 := (hb2.block (w.heap.size + 1) (by omega)).trans B2
  have hb02 := hb1.trans (hb2.mono (by omega))
  clear k1 hb2 B1 B2 hb1 hsz
  cases MB with
  | false =>
    dsimp only [codeB]
    rw [if_neg (by simp)] at HC
    clear HKC HKI HKP HIN HOL
    have HF := setRow_heap _ _ _ #[.int .i64 0, .int .u64 0, .int .i64 0, .int .u64 0, .int .u64 0, .int .i64 0, .slice none 0 0, .slice none 0 0, .int .u64 0, .int .i64 0, .int .i64 0, .int .i64 0, .slice none 0 0, .slice none 0 0] _ _ C2
    have hbf := below_row hb02 (g := w.heap.size + 1) (by omega) #[.int .i64 0, .int .u64 0, .int .i64 0, .int .u64 0, .int .u64 0, .int .i64 0, .slice none 0 0, .slice none 0 0, .int .u64 0, .int .i64 0, .int .i64 0, .int .i64 0, .slice none 0 0, .slice none 0 0]
    go_wp2_with (refine wpList_store_row rfl 32 _ _ rfl (w.heap.size + 1) _ rfl rfl _ _ C2 (by kernel_rfl) rfl (by simp [Value.oneCell']) ?_)
    (try simp only [Exit.inBlock, Exit.then])
    refine bodyPost_ret (results_ra2 rfl _ _ (w.heap.size + 1) _ _ _ _ _ _ _ _ _ _ _ _ _ _ rfl HF) rfl ?_
    exact ⟨by rw [HPT.out, HC.out]; exact ⟨⟨zeroR, [], (none, 0, 0), (none, 0, 0), (none, 0, 0), (none, 0, 0)⟩, rfl, raV_zero n _, rfl⟩, hbf⟩
  | true =>
    dsimp only [codeB]
    rw [if_pos rfl] at HC
    obtain ⟨-, o0, o1, o2, o3, o4, o5, o6, o7, o8, o9, o10, o11, o12, o13⟩ := r14_cells C1
    by_cases hx : cm < x
    · have hxi : (cm : Int) < (x : Int) := by omega
      rw [if_pos (.inl hx)] at HC
      clear HKC HKI HKP HIN HOL
      have HF := setRow_heap _ _ _ #[.int .i64 0, .int .u64 0, .int .i64 0, .int .u64 0, .int .u64 0, .int .i64 0, .slice none 0 0, .slice none 0 0, .int .u64 0, .int .i64 0, .int .i64 0, .int .i64 0, .slice none 0 0, .slice none 0 0] _ _ C2
      have hbf := below_row hb02 (g := w.heap.size + 1) (by omega) #[.int .i64 0, .int .u64 0, .int .i64 0, .int .u64 0, .int .u64 0, .int .i64 0, .slice none 0 0, .slice none 0 0, .int .u64 0, .int .i64 0, .int .i64 0, .int .i64 0, .slice none 0 0, .slice none 0 0]
      go_wp2_with (refine wpList_store_row rfl 32 _ _ rfl (w.heap.size + 1) _ rfl rfl _ _ C2 (by kernel_rfl) rfl (by simp [Value.oneCell']) ?_)
      (try simp only [Exit.inBlock, Exit.then])
      refine bodyPost_ret (results_ra2 rfl _ _ (w.heap.size + 1) _ _ _ _ _ _ _ _ _ _ _ _ _ _ rfl HF) rfl ?_
      exact ⟨by rw [HPT.out, HC.out]; exact ⟨⟨zeroR, [], (none, 0, 0), (none, 0, 0), (none, 0, 0), (none, 0, 0)⟩, rfl, raV_zero n _, rfl⟩, hbf⟩
    · have hxi : ¬ (cm : Int) < (x : Int) := by omega
      have kC := HKC.out w2 hb02
      have HOL' : Hid (x ≤ bi → CM = (7, zeroMe, [])) := HOL.out HMB.out
      have HIN' : Hid (¬ x ≤ bi → CM.1 = 0) := HIN.out HMB.out hx
      clear HKC HIN HOL
      have HXX : Hid (¬ cm < x) := hx
      clear hx
      go_wp2_with fail
      refine kC.mono ?_
      rintro e w3 ⟨⟨v3, rfl, hLC⟩, hb3⟩
      obtain ⟨ac, ⟨ai, at_, ak, ad⟩, al⟩ := CM
      obtain ⟨⟨sa, sn, sc⟩, cur7, stv, rfl, hCD, hCp⟩ := hLC
      obtain ⟨xa, xc, rfl, -, -⟩ := hCp.1.1.rd.shape
      have HCC3 : Hid (∀ W, Below w3.heap.size w3 W → CpD W (⟨ai, at_, ak, ad⟩, sa, sn, sc) ∧ Cps 0 W (.slice xa cur7.length xc) al cur7) := fun W hW => ⟨hCD.below hW, hCp.below hW⟩
      have HLC3 : Hid (LogC 0 w3 (lgv (⟨ai, at_, ak, ad⟩, sa, sn, sc) (.slice xa cur7.length xc)) ⟨ai, at_, ak, ad⟩ al) := ⟨(sa, sn, sc), cur7, _, rfl, hCD, hCp⟩
      clear hCD hCp
      generalize cur7.length = xn at *
      dsimp only [lgv] at *
      clear kC o0 o1 o2 o3 o4 o5 o6 o7 o8 o9 o10 o11 o12 o13
      have D1 := (hb3.block w.heap.size (Array.getElem?_eq_some_iff.1 C1).1).trans C1
      have D2 := (hb3.block (w.heap.size + 1) (Array.getElem?_eq_some_iff.1 C2).1).trans C2
      have hb03 := hb02.trans (hb3.mono hb02.size)
      obtain ⟨z4, G4, q4⟩ := one_box w3 (.cells #[.int .u64 (ai : Int), .int .u64 (at_ : Int), .int .i64 ak, .slice sa sn sc, .slice xa xn xc] 28)
      have E1 := (q4.block w.heap.size (Array.getElem?_eq_some_iff.1 D1).1).trans D1
      have E2 := (q4.block (w.heap.size + 1) (Array.getElem?_eq_some_iff.1 D2).1).trans D2
      have hb05 := hb03.trans (q4.mono hb03.size)
      have HLC : Hid (LogC 0 (w3.alloc (.cells #[.int .u64 (ai : Int), .int .u64 (at_ : Int), .int .i64 ak, .slice sa sn sc, .slice xa xn xc] 28)) (.agg #[.int .u64 (ai : Int), .int .u64 (at_ : Int), .int .i64 ak, .slice sa sn sc, .slice xa xn xc]) ⟨ai, at_, ak, ad⟩ al) := LogC.below HLC3.out q4
      have HCC : Hid (∀ W, Below (w3.alloc (.cells #[.int .u64 (ai : Int), .int .u64 (at_ : Int), .int .i64 ak, .slice sa sn sc, .slice xa xn xc] 28)).heap.size (w3.alloc (.cells #[.int .u64 (ai : Int), .int .u64 (at_ : Int), .int .i64 ak, .slice sa sn sc, .slice xa xn xc] 28)) W → CpD W (⟨ai, at_, ak, ad⟩, sa, sn, sc) ∧ Cps 0 W (.slice xa xn xc) al cur7) := fun W hW => HCC3.out W (q4.trans (hW.mono q4.size))
      clear C1 C2 hb3 hb02 D1 D2 HLC3 HCC3 hb03
      obtain ⟨w5, hw5⟩ : ∃ w5, w3.alloc (.cells #[.int .u64 (ai : Int), .int .u64 (at_ : Int), .int .i64 ak, .slice sa sn sc, .slice xa xn xc] 28) = w5 := ⟨_, rfl⟩
      rw [hw5] at z4 G4 q4 E1 E2 hb05 HLC HCC
      by_cases hbx : x ≤ bi
      · have h7 := HOL'.out hbx
        simp only [Prod.mk.injEq] at h7
        obtain ⟨rfl, -, -⟩ := h7
        rw [if_pos (.inr hbx)] at HC
        clear HKI HKP HIN' HOL' HLC HCC hbx E1 G4
        have HF := setRow_heap _ _ _ #[.int .i64 0, .int .u64 0, .int .i64 0, .int .u64 0, .int .u64 0, .int .i64 0, .slice none 0 0, .slice none 0 0, .int .u64 0, .int .i64 0, .int .i64 0, .int .i64 0, .slice none 0 0, .slice none 0 0] _ _ E2
        have hbf := below_row hb05 (g := w.heap.size + 1) (by omega) #[.int .i64 0, .int .u64 0, .int .i64 0, .int .u64 0, .int .u64 0, .int .i64 0, .slice none 0 0, .slice none 0 0, .int .u64 0, .int .i64 0, .int .i64 0, .int .i64 0, .slice none 0 0, .slice none 0 0]
        go_wp2_with (refine wpList_store_row rfl 32 _ _ rfl (w.heap.size + 1) _ rfl rfl _ _ E2 (by kernel_rfl) rfl (by simp [Value.oneCell']) ?_)
        (try simp only [Exit.inBlock, Exit.then])
        refine bodyPost_ret (results_ra2 rfl _ _ (w.heap.size + 1) _ _ _ _ _ _ _ _ _ _ _ _ _ _ rfl HF) rfl ?_
        exact ⟨by rw [HPT.out, HC.out]; exact ⟨⟨zeroR, [], (none, 0, 0), (none, 0, 0), (none, 0, 0), (none, 0, 0)⟩, rfl, raV_zero n _, rfl⟩, hbf⟩
      · have h0 := HIN'.out hbx
        (try dsimp only at h0)
        rw [if_neg (fun h => h.elim HXX.out hbx)] at HC
        subst h0
        clear HIN' HOL' hbx
        go_wp2
        (try simp only [Exit.inBlock, Exit.then])
        clear hw5
        refine wp_region_L (fun W => Below w5.heap.size w5 W) [8, 9, 10, 11, 12] (by kernel_rfl) ?_
        have hbd : Below w5.heap.size w5 w5.drew := (Below.refl _ w5).drew
        have HCL : Hid (∀ W, Below w5.heap.size w5 W → _) := fun W hW => r14_cells ((hW.block w.heap.size (Array.getElem?_eq_some_iff.1 E1).1).trans E1)
        have HLL : Hid (∀ W, Below w5.heap.size w5 W → _) := fun W hW => lg_cells ((hW.block w3.heap.size (Array.getElem?_eq_some_iff.1 G4).1).trans G4)
        generalize w5.drew = wd at *
        have ki := HKI.out wd (hb05.trans (hbd.mono hb05.size))
        refine wpAnyL_take 0 rfl (by kernel_rfl) (by kernel_rfl) (by kernel_rfl) (by kernel_rfl) (fun _ _ _ h => h) (wanted_none rfl) (by intro w' hS'; have hz := hS'; obtain ⟨-, c0, c1, c2, c3, c4, c5, c6, c7, c8, c9, c10, c11, c12, c13⟩ := HCL.out _ hz; obtain ⟨-, l0, l1, l2, l3, l4⟩ := HLL.out _ hz; go_simp <;> rfl) hbd ?_
        try simp only [List.getElem_toArray, List.getElem_cons_succ, List.getElem_cons_zero, Act.put, List.setIfInBounds_toArray, List.set_cons_zero, List.set_cons_succ]
        refine wpAnyL_take 1 rfl (by kernel_rfl) (by kernel_rfl) (by kernel_rfl) (by kernel_rfl) (fun _ _ _ h => h) (wanted_none rfl) (by intro w' hS'; have hz := hS'; obtain ⟨-, c0, c1, c2, c3, c4, c5, c6, c7, c8, c9, c10, c11, c12, c13⟩ := HCL.out _ hz; obtain ⟨-, l0, l1, l2, l3, l4⟩ := HLL.out _ hz; go_simp <;> rfl) hbd ?_
        try simp only [List.getElem_toArray, List.getElem_cons_succ, List.getElem_cons_zero, Act.put, List.setIfInBounds_toArray, List.set_cons_zero, List.set_cons_succ]
        refine wpAnyL_take 2 rfl (by kernel_rfl) (by kernel_rfl) (by kernel_rfl) (by kernel_rfl) (fun _ _ _ h => h) (wanted_none rfl) (by intro w' hS'; have hz := hS'; obtain ⟨-, c0, c1, c2, c3, c4, c5, c6, c7, c8, c9, c10, c11, c12, c13⟩ := HCL.out _ hz; obtain ⟨-, l0, l1, l2, l3, l4⟩ := HLL.out _ hz; go_simp <;> rfl) hbd ?_
        try simp only [List.getElem_toArray, List.getElem_cons_succ, List.getElem_cons_zero, Act.put, List.setIfInBounds_toArray, List.set_cons_zero, List.set_cons_succ]
        refine wpAnyL_take 4 rfl (by kernel_rfl) (by kernel_rfl) (by kernel_rfl) (by kernel_rfl) (fun _ _ _ h => h) (wanted_none rfl) (by intro w' hS'; have hz := hS'; obtain ⟨-, c0, c1, c2, c3, c4, c5, c6, c7, c8, c9, c10, c11, c12, c13⟩ := HCL.out _ hz; obtain ⟨-, l0, l1, l2, l3, l4⟩ := HLL.out _ hz; go_simp <;> rfl) hbd ?_
        try simp only [List.getElem_toArray, List.getElem_cons_succ, List.getElem_cons_zero, Act.put, List.setIfInBounds_toArray, List.set_cons_zero, List.set_cons_succ]
        refine wpAnyL_take 5 rfl (by kernel_rfl) (by kernel_rfl) (by kernel_rfl) (by kernel_rfl) (fun _ _ _ h => h) (wanted_none rfl) (by intro w' hS'; have hz := hS'; obtain ⟨-, c0, c1, c2, c3, c4, c5, c6, c7, c8, c9, c10, c11, c12, c13⟩ := HCL.out _ hz; obtain ⟨-, l0, l1, l2, l3, l4⟩ := HLL.out _ hz; go_simp <;> rfl) hbd ?_
        try simp only [List.getElem_toArray, List.getElem_cons_succ, List.getElem_cons_zero, Act.put, List.setIfInBounds_toArray, List.set_cons_zero, List.set_cons_succ]
        refine wpAnyL_take 7 rfl (by kernel_rfl) (by kernel_rfl) (by kernel_rfl) (by kernel_rfl) (fun _ _ _ h => h) (wanted_none rfl) (by intro w' hS'; have hz := hS'; obtain ⟨-, c0, c1, c2, c3, c4, c5, c6, c7, c8, c9, c10, c11, c12, c13⟩ := HCL.out _ hz; obtain ⟨-, l0, l1, l2, l3, l4⟩ := HLL.out _ hz; go_simp <;> rfl) hbd ?_
        try simp only [List.getElem_toArray, List.getElem_cons_succ, List.getElem_cons_zero, Act.put, List.setIfInBounds_toArray, List.set_cons_zero, List.set_cons_succ]
        refine wpAnyL_one 3 (by kernel_rfl) rfl (wanted_none rfl) ?_
        intro K' hK'
        go_simp
        go_at_call 70
        refine ki.mono ?_
        rintro e w6 ⟨v2a, v2n, v2c, rfl, hV, hb6⟩
        have hS6 : (fun W => Below w5.heap.size w5 W) w6 := hbd.trans (hb6.mono hbd.size)
        have kp := HKP.out w6 (hb05.trans (hS6.mono hb05.size))
        clear ki
        refine hK'.out _ _ (.inr hS6) ?_
        clear hK' K'
        try simp only [List.getElem_toArray, List.getElem_cons_succ, List.getElem_cons_zero, Act.put, List.setIfInBounds_toArray, List.set_cons_zero, List.set_cons_succ]
        refine wpAnyL_one 6 (by kernel_rfl) rfl (wanted_none rfl) ?_
        intro K' hK'
        go_simp
        go_at_call 71
        refine kp.mono ?_
        rintro e w7 ⟨p2a, p2n, p2c, rfl, hPe, hb7⟩
        have hS7 : (fun W => Below w5.heap.size w5 W) w7 := hS6.trans (hb7.mono hS6.size)
        have hV := hV.below hb7
        have g0 := (hS7.block w.heap.size (Array.getElem?_eq_some_iff.1 E1).1).trans E1
        have g9 := (hS7.block (w.heap.size + 1) (Array.getElem?_eq_some_iff.1 E2).1).trans E2
        have HLC7 : Hid (LogC 0 w7 (.agg #[.int .u64 (ai : Int), .int .u64 (at_ : Int), .int .i64 ak, .slice sa sn sc, .slice xa xn xc]) ⟨ai, at_, ak, ad⟩ al) := LogC.below HLC.out hS7
        have H0 := hb05.trans (hS7.mono hb05.size)
        clear kp
        refine hK'.out _ _ (.inr hS7) ?_
        clear hK' K'
        try simp only [List.getElem_toArray, List.getElem_cons_succ, List.getElem_cons_zero, Act.put, List.setIfInBounds_toArray, List.set_cons_zero, List.set_cons_succ]
        refine wpAnyL_one 8 (by kernel_rfl) rfl (wanted_none rfl) ?_
        intro K' hK'
        obtain ⟨⟨f0, f1, f2, f3, f4, f5, f6, f7, f8, f9, f10, f11, f12, f13⟩, e0, e1, e2, e3, e4, e5, e6, e7, e8, e9, e10, e11, e12, e13⟩ := r14_cells g0
        go_simp
        have g1 : (((((w7.setCell ⟨w.heap.size, 3, none⟩ (.int .u64 (ai : Int))).setCell ⟨w.heap.size, 4, none⟩ (.int .u64 (at_ : Int))).setCell ⟨w.heap.size, 5, none⟩ (.int .i64 ak)).setCell ⟨w.heap.size, 6, none⟩ (.slice sa sn sc)).setCell ⟨w.heap.size, 7, none⟩ (.slice xa xn xc)).heap[w.heap.size]? = some (.cells #[.int .i64 nd, .int .u64 (tm : Int), .int .i64 vo, .int .u64 (ai : Int), .int .u64 (at_ : Int), .int .i64 ak, .slice sa sn sc, .slice xa xn xc, .int .u64 (cm : Int), .int .i64 ro, .int .i64 le, .int .i64 el, .slice va vn vc, .slice pa pn pc] 32) := by simp [World.setCell, Array.getElem?_modify, g0]
        have U1 : ∀ b, b ≠ w.heap.size → (((((w7.setCell ⟨w.heap.size, 3, none⟩ (.int .u64 (ai : Int))).setCell ⟨w.heap.size, 4, none⟩ (.int .u64 (at_ : Int))).setCell ⟨w.heap.size, 5, none⟩ (.int .i64 ak)).setCell ⟨w.heap.size, 6, none⟩ (.slice sa sn sc)).setCell ⟨w.heap.size, 7, none⟩ (.slice xa xn xc)).heap[b]? = w7.heap[b]? := fun b hb => (set_far (Ne.symm hb) _).trans ((set_far (Ne.symm hb) _).trans ((set_far (Ne.symm hb) _).trans ((set_far (Ne.symm hb) _).trans ((set_far (Ne.symm hb) _).trans (rfl)))))
        have H1 : Below w.heap.size w (((((w7.setCell ⟨w.heap.size, 3, none⟩ (.int .u64 (ai : Int))).setCell ⟨w.heap.size, 4, none⟩ (.int .u64 (at_ : Int))).setCell ⟨w.heap.size, 5, none⟩ (.int .i64 ak)).setCell ⟨w.heap.size, 6, none⟩ (.slice sa sn sc)).setCell ⟨w.heap.size, 7, none⟩ (.slice xa xn xc)) := ((((H0.setCell (p := ⟨w.heap.size, 3, none⟩) (Nat.le_refl _) _).setCell (p := ⟨w.heap.size, 4, none⟩) (Nat.le_refl _) _).setCell (p := ⟨w.heap.size, 5, none⟩) (Nat.le_refl _) _).setCell (p := ⟨w.heap.size, 6, none⟩) (Nat.le_refl _) _).setCell (p := ⟨w.heap.size, 7, none⟩) (Nat.le_refl _) _
        clear f0 e0 f1 e1 f2 e2 f3 e3 f4 e4 f5 e5 f6 e6 f7 e7 f8 e8 f9 e9 f10 e10 f11 e11 f12 e12 f13 e13
        refine hK'.out _ _ (.inl (by decide)) ?_
        clear hK' K'
        try simp only [List.getElem_toArray, List.getElem_cons_succ, List.getElem_cons_zero, Act.put, List.setIfInBounds_toArray, List.set_cons_zero, List.set_cons_succ]
        generalize (((((w7.setCell ⟨w.heap.size, 3, none⟩ (.int .u64 (ai : Int))).setCell ⟨w.heap.size, 4, none⟩ (.int .u64 (at_ : Int))).setCell ⟨w.heap.size, 5, none⟩ (.int .i64 ak)).setCell ⟨w.heap.size, 6, none⟩ (.slice sa sn sc)).setCell ⟨w.heap.size, 7, none⟩ (.slice xa xn xc)) = W1 at *
        refine wpAnyL_one 9 (by kernel_rfl) rfl (wanted_none rfl) ?_
        intro K' hK'
        go_simp
        refine hK'.out _ _ (.inl (by decide)) ?_
        clear hK' K'
        try simp only [List.getElem_toArray, List.getElem_cons_succ, List.getElem_cons_zero, Act.put, List.setIfInBounds_toArray, List.set_cons_zero, List.set_cons_succ]
        refine wpAnyL_one 10 (by kernel_rfl) rfl (wanted_none rfl) ?_
        intro K' hK'
        obtain ⟨⟨f0, f1, f2, f3, f4, f5, f6, f7, f8, f9, f10, f11, f12, f13⟩, e0, e1, e2, e3, e4, e5, e6, e7, e8, e9, e10, e11, e12, e13⟩ := r14_cells g1
        go_simp
        have g2 : (W1.setCell ⟨w.heap.size, 12, none⟩ (.slice v2a v2n v2c)).heap[w.heap.size]? = some (.cells #[.int .i64 nd, .int .u64 (tm : Int), .int .i64 vo, .int .u64 (ai : Int), .int .u64 (at_ : Int), .int .i64 ak, .slice sa sn sc, .slice xa xn xc, .int .u64 (cm : Int), .int .i64 ro, .int .i64 le, .int .i64 el, .slice v2a v2n v2c, .slice pa pn pc] 32) := by simp [World.setCell, Array.getElem?_modify, g1]
        have U2 : ∀ b, b ≠ w.heap.size → (W1.setCell ⟨w.heap.size, 12, none⟩ (.slice v2a v2n v2c)).heap[b]? = w7.heap[b]? := fun b hb => (set_far (Ne.symm hb) _).trans (U1 b hb)
        have H2 : Below w.heap.size w (W1.setCell ⟨w.heap.size, 12, none⟩ (.slice v2a v2n v2c)) := H1.setCell (p := ⟨w.heap.size, 12, none⟩) (Nat.le_refl _) _
        clear f0 e0 f1 e1 f2 e2 f3 e3 f4 e4 f5 e5 f6 e6 f7 e7 f8 e8 f9 e9 f10 e10 f11 e11 f12 e12 f13 e13
        refine hK'.out _ _ (.inl (by decide)) ?_
        clear hK' K'
        try simp only [List.getElem_toArray, List.getElem_cons_succ, List.getElem_cons_zero, Act.put, List.setIfInBounds_toArray, List.set_cons_zero, List.set_cons_succ]
        generalize W1.setCell ⟨w.heap.size, 12, none⟩ (.slice v2a v2n v2c) = W2 at *
        refine wpAnyL_one 11 (by kernel_rfl) rfl (wanted_none rfl) ?_
        intro K' hK'
        go_simp
        refine hK'.out _ _ (.inl (by decide)) ?_
        clear hK' K'
        try simp only [List.getElem_toArray, List.getElem_cons_succ, List.getElem_cons_zero, Act.put, List.setIfInBounds_toArray, List.set_cons_zero, List.set_cons_succ]
        refine wpAnyL_one 12 (by kernel_rfl) rfl (wanted_none rfl) ?_
        intro K' hK'
        obtain ⟨⟨f0, f1, f2, f3, f4, f5, f6, f7, f8, f9, f10, f11, f12, f13⟩, e0, e1, e2, e3, e4, e5, e6, e7, e8, e9, e10, e11, e12, e13⟩ := r14_cells g2
        go_simp
        have g3 : (W2.setCell ⟨w.heap.size, 13, none⟩ (.slice p2a p2n p2c)).heap[w.heap.size]? = some (.cells #[.int .i64 nd, .int .u64 (tm : Int), .int .i64 vo, .int .u64 (ai : Int), .int .u64 (at_ : Int), .int .i64 ak, .slice sa sn sc, .slice xa xn xc, .int .u64 (cm : Int), .int .i64 ro, .int .i64 le, .int .i64 el, .slice v2a v2n v2c, .slice p2a p2n p2c] 32) := by simp [World.setCell, Array.getElem?_modify, g2]
        have U3 : ∀ b, b ≠ w.heap.size → (W2.setCell ⟨w.heap.size, 13, none⟩ (.slice p2a p2n p2c)).heap[b]? = w7.heap[b]? := fun b hb => (set_far (Ne.symm hb) _).trans (U2 b hb)
        have H3 : Below w.heap.size w (W2.setCell ⟨w.heap.size, 13, none⟩ (.slice p2a p2n p2c)) := H2.setCell (p := ⟨w.heap.size, 13, none⟩) (Nat.le_refl _) _
        clear f0 e0 f1 e1 f2 e2 f3 e3 f4 e4 f5 e5 f6 e6 f7 e7 f8 e8 f9 e9 f10 e10 f11 e11 f12 e12 f13 e13
        refine hK'.out _ _ (.inl (by decide)) ?_
        clear hK' K'
        try simp only [List.getElem_toArray, List.getElem_cons_succ, List.getElem_cons_zero, Act.put, List.setIfInBounds_toArray, List.set_cons_zero, List.set_cons_succ]
        generalize W2.setCell ⟨w.heap.size, 13, none⟩ (.slice p2a p2n p2c) = W3 at *
        refine wpAnyL_done (by kernel_rfl) (NoPanic.normal ?_) _
        have hf : Frm 0 [32] w7 W3 := ⟨fun b hb => absurd hb (by omega), fun b cs' τ fr hc hτ => U3 b fun e => by
          subst e
          rw [g0] at hc
          simp only [Option.some.injEq, Obj.cells.injEq] at hc
          exact hτ (by rw [← hc.2.1]; exact List.mem_singleton.2 rfl)⟩
        have g9' : W3.heap[w.heap.size + 1]? = some (.cells #[.int .i64 0, .int .u64 0, .int .i64 0, .int .u64 0, .int .u64 0, .int .i64 0, .slice none 0 0, .slice none 0 0, .int .u64 0, .int .i64 0, .int .i64 0, .int .i64 0, .slice none 0 0, .slice none 0 0] 32) := (U3 (w.heap.size + 1) (by omega)).trans g9
        have hf2 := Frm.row (n := 0) (Nat.zero_le _) g9' #[.int .i64 nd, .int .u64 (tm : Int), .int .i64 vo, .int .u64 (ai : Int), .int .u64 (at_ : Int), .int .i64 ak, .slice sa sn sc, .slice xa xn xc, .int .u64 (cm : Int), .int .i64 ro, .int .i64 le, .int .i64 el, .slice v2a v2n v2c, .slice p2a p2n p2c]
        have hff := hf.trans (hf2.mono (fun t h => h))
        have HRV : Hid (RaV n (W3.setRow (w.heap.size + 1) #[.int .i64 nd, .int .u64 (tm : Int), .int .i64 vo, .int .u64 (ai : Int), .int .u64 (at_ : Int), .int .i64 ak, .slice sa sn sc, .slice xa xn xc, .int .u64 (cm : Int), .int .i64 ro, .int .i64 le, .int .i64 el, .slice v2a v2n v2c, .slice p2a p2n p2c]) ⟨⟨nd, tm, vo, ⟨ai, at_, ak, ad⟩, al, cm, ro, le, el, vt, pe⟩, cur7, (sa, sn, sc), (xa, xn, xc), (v2a, v2n, v2c), (p2a, p2n, p2c)⟩) := by
          obtain ⟨h1, h2⟩ := HCC.out w7 hS7
          exact ⟨(h1.frm hff (by decide)).toN n, (Cps.frm h2 hff (by decide) (by decide)).toN n, h2.2.1, ((hV.1.frm hff (by decide)).toN n), ((hPe.1.frm hff (by decide)).toN n)⟩
        have HF := setRow_heap _ _ _ #[.int .i64 nd, .int .u64 (tm : Int), .int .i64 vo, .int .u64 (ai : Int), .int .u64 (at_ : Int), .int .i64 ak, .slice sa sn sc, .slice xa xn xc, .int .u64 (cm : Int), .int .i64 ro, .int .i64 le, .int .i64 el, .slice v2a v2n v2c, .slice p2a p2n p2c] _ _ g9'
        have hbf := below_row H3 (g := w.heap.size + 1) (by omega) #[.int .i64 nd, .int .u64 (tm : Int), .int .i64 vo, .int .u64 (ai : Int), .int .u64 (at_ : Int), .int .i64 ak, .slice sa sn sc, .slice xa xn xc, .int .u64 (cm : Int), .int .i64 ro, .int .i64 le, .int .i64 el, .slice v2a v2n v2c, .slice p2a p2n p2c]
        clear hf hf2 hff hV hPe HLC7 U1 U2 U3 H1 H2 H3 g0 g1 g2 HCC
        go_wp2_with (first | refine wpList_load_row rfl 32 _ rfl w.heap.size rfl _ _ _ _ g3 Tryz.underlying32 rfl (by kernel_rfl) ?_ | refine wpList_store_row rfl 32 _ _ rfl (w.heap.size + 1) _ rfl rfl _ _ g9' (by kernel_rfl) rfl (by simp [Value.oneCell']) ?_)
        (try simp only [Exit.inBlock, Exit.then])
        refine bodyPost_ret (results_ra2 rfl _ _ (w.heap.size + 1) _ _ _ _ _ _ _ _ _ _ _ _ _ _ rfl HF) rfl ?_
        exact ⟨by rw [HPT.out, HC.out]; exact ⟨_, rfl, HRV.out, rfl⟩, hbf⟩
end Go.Proofs.YtncoandnelgkeaaGreat

/- The document's Compact of a state. -/
namespace Go.Proofs.YtncoandnelgkeaaGreat
open Go.RowKit QuorumMath RlogMath RaftMath
set_option maxRecDepth 100000
set_option linter.unusedSimpArgs false
set_option linter.unusedVariables false

set_option maxHeartbeats 16000000 in
theorem rcompR_of (n : Nat) (r : Mr) (v : Value) (x : Nat) (w : World) (hS : RsV n w v r) (hn : n ≤ w.heap.size) (hbo : OkM r.base) (hlo : ∀ e ∈ r.log, OkM e) (hlg : r.log.length ≤ 1000000) : Calls Tryz.prog 30 #[v, .int .u64 (x : Int)] w fun e w' => CmpT n (compR r x) e w' ∧ Below w.heap.size w w' := by
  have HPM : Hid (compR r x = if r.commit < x ∨ x ≤ r.base.idx then (zeroR, 7) else ({ r with base := (compM r.base r.log x).2.1, log := (compM r.base r.log x).2.2 }, 0)) := rfl
  obtain ⟨CP, HC⟩ : ∃ CP, Hid (CP = compR r x) := ⟨_, rfl⟩
  rw [← HC.out]
  obtain ⟨PT, HPT⟩ : ∃ P, Hid (P = CmpT n CP) := ⟨_, rfl⟩
  rw [← HPT.out]
  rw [HPM.out] at HC
  obtain ⟨z, rfl, hz, hR⟩ := hS
  obtain ⟨r', zs, ⟨ba, bn, bc⟩, ⟨la, ln, lc⟩, ⟨va, vn, vc⟩, ⟨pa, pn, pc⟩⟩ := z
  obtain rfl : r' = r := hz
  have hml : mes zs = r'.log := hR.2.2.1
  have hzl : zs.length ≤ 1000000 := by have := congrArg List.length hml; rw [List.length_map] at this; omega
  have hzo := okz_of hml hlo
  obtain ⟨nd, tm, vo, ⟨bi, bt, bk, bd⟩, lg, cm, ro, le, el, vt, pe⟩ := r'
  dsimp only [rv] at *
  obtain ⟨hsz, B1, B2, hb1⟩ := two_box w (.cells #[.int .i64 nd, .int .u64 (tm : Int), .int .i64 vo, .int .u64 (bi : Int), .int .u64 (bt : Int), .int .i64 bk, .slice ba bn bc, .slice la ln lc, .int .u64 (cm : Int), .int .i64 ro, .int .i64 le, .int .i64 el, .slice va vn vc, .slice pa pn pc] 32) (.cells #[.int .i64 0, .int .u64 0, .int .i64 0, .int .u64 0, .int .u64 0, .int .i64 0, .slice none 0 0, .slice none 0 0, .int .u64 0, .int .i64 0, .int .i64 0, .int .i64 0, .slice none 0 0, .slice none 0 0] 32)
  have kC := rcomp_n n (⟨bi, bt, bk, bd⟩, ba, bn, bc) zs (.slice la ln lc) x _ (hR.1.below hb1) (hR.2.1.below hb1) ⟨hbo.1, hbo.2.1, hbo.2.2.1⟩ (fun z hz => (hzo z hz).1) (by omega) hbo.2.2.2
  rw [hml] at kC
  dsimp only [lgv] at kC
  have HRR : Hid (∀ W, Below w.heap.size w W → RdN intE 3 n W (.slice va vn vc) vt ∧ RdN peerN 71 n W (.slice pa pn pc) pe) := fun W hW => ⟨hR.2.2.2.1.below hW, hR.2.2.2.2.below hW⟩
  generalize compM ⟨bi, bt, bk, bd⟩ lg x = CM at *
  clear hR hml hzl hzo hbo hlo hlg HPM
  by_cases hx : cm < x
  · have hxi : (cm : Int) < (x : Int) := by omega
    rw [if_pos (.inl hx)] at HC
    clear hx
    have HF := setRow_heap _ _ _ #[.int .i64 0, .int .u64 0, .int .i64 0, .int .u64 0, .int .u64 0, .int .i64 0, .slice none 0 0, .slice none 0 0, .int .u64 0, .int .i64 0, .int .i64 0, .int .i64 0, .slice none 0 0, .slice none 0 0] _ _ B2
    have hbf := below_row hb1 (g := w.heap.size + 1) (by omega) #[.int .i64 0, .int .u64 0, .int .i64 0, .int .u64 0, .int .u64 0, .int .i64 0, .slice none 0 0, .slice none 0 0, .int .u64 0, .int .i64 0, .int .i64 0, .int .i64 0, .slice none 0 0, .slice none 0 0]
    obtain ⟨-, o0, o1, o2, o3, o4, o5, o6, o7, o8, o9, o10, o11, o12, o13⟩ := r14_cells B1
    clear kC HRR
    go_enter Tryz.func30, Tryz.ntmps30
    go_wp2_with (refine wpList_store_row rfl 32 _ _ rfl (w.heap.size + 1) _ rfl rfl _ _ B2 (by kernel_rfl) rfl (by simp [Value.oneCell']) ?_)
    (try simp only [Exit.inBlock, Exit.then])
    refine bodyPost_ret (results_ra2 rfl _ _ (w.heap.size + 1) _ _ _ _ _ _ _ _ _ _ _ _ _ _ rfl HF) rfl ?_
    exact ⟨by rw [HPT.out, HC.out]; exact ⟨⟨zeroR, [], (none, 0, 0), (none, 0, 0), (none, 0, 0), (none, 0, 0)⟩, rfl, raV_zero n _, rfl⟩, hbf⟩
  · have hxi : ¬ (cm : Int) < (x : Int) := by omega
    by_cases hbx : x ≤ bi
    · have hbi : (x : Int) ≤ (bi : Int) := by omega
      rw [if_pos (.inr hbx)] at HC
      clear hx hbx
      have HF := setRow_heap _ _ _ #[.int .i64 0, .int .u64 0, .int .i64 0, .int .u64 0, .int .u64 0, .int .i64 0, .slice none 0 0, .slice none 0 0, .int .u64 0, .int .i64 0, .int .i64 0, .int .i64 0, .slice none 0 0, .slice none 0 0] _ _ B2
      have hbf := below_row hb1 (g := w.heap.size + 1) (by omega) #[.int .i64 0, .int .u64 0, .int .i64 0, .int .u64 0, .int .u64 0, .int .i64 0, .slice none 0 0, .slice none 0 0, .int .u64 0, .int .i64 0, .int .i64 0, .int .i64 0, .slice none 0 0, .slice none 0 0]
      obtain ⟨-, o0, o1, o2, o3, o4, o5, o6, o7, o8, o9, o10, o11, o12, o13⟩ := r14_cells B1
      clear kC HRR
      go_enter Tryz.func30, Tryz.ntmps30
      go_wp2_with (refine wpList_store_row rfl 32 _ _ rfl (w.heap.size + 1) _ rfl rfl _ _ B2 (by kernel_rfl) rfl (by simp [Value.oneCell']) ?_)
      (try simp only [Exit.inBlock, Exit.then])
      refine bodyPost_ret (results_ra2 rfl _ _ (w.heap.size + 1) _ _ _ _ _ _ _ _ _ _ _ _ _ _ rfl HF) rfl ?_
      exact ⟨by rw [HPT.out, HC.out]; exact ⟨⟨zeroR, [], (none, 0, 0), (none, 0, 0), (none, 0, 0), (none, 0, 0)⟩, rfl, raV_zero n _, rfl⟩, hbf⟩
    · have hbi : ¬ (x : Int) ≤ (bi : Int) := by omega
      rw [if_neg (fun h => h.elim hx hbx)] at HC
      clear hx hbx
      obtain ⟨-, o0, o1, o2, o3, o4, o5, o6, o7, o8, o9, o10, o11, o12, o13⟩ := r14_cells B1
      go_enter Tryz.func30, Tryz.ntmps30
      go_wp2_with fail
      refine kC.mono ?_
      rintro e w3 ⟨⟨v3, rfl, hL3⟩, hb3⟩
      rw [hsz] at hb3
      obtain ⟨ac, ⟨ai, at_, ak, ad⟩, al⟩ := CM
      obtain ⟨⟨sa, sn, sc⟩, zs2, ⟨xa, xn, xc⟩, rfl, hD3, hE3, hm3⟩ := hL3
      dsimp only [lgv] at *
      have D1 := (hb3.block w.heap.size (by omega)).trans B1
      have D2 := (hb3.block (w.heap.size + 1) (by omega)).trans B2
      have hb03 := hb1.trans (hb3.mono (by omega))
      clear kC o0 o1 o2 o3 o4 o5 o6 o7 o8 o9 o10 o11 o12 o13 hb3 B1 B2 hsz hb1
      obtain ⟨⟨f0, f1, f2, f3, f4, f5, f6, f7, f8, f9, f10, f11, f12, f13⟩, o0, o1, o2, o3, o4, o5, o6, o7, o8, o9, o10, o11, o12, o13⟩ := r14_cells D1
      obtain ⟨W4, hW4⟩ : ∃ W, ((((w3.setCell ⟨w.heap.size, 3, none⟩ (.int .u64 (ai : Int))).setCell ⟨w.heap.size, 4, none⟩ (.int .u64 (at_ : Int))).setCell ⟨w.heap.size, 5, none⟩ (.int .i64 ak)).setCell ⟨w.heap.size, 6, none⟩ (.slice sa sn sc)).setCell ⟨w.heap.size, 7, none⟩ (.slice xa xn xc) = W := ⟨_, rfl⟩
      have g1 : W4.heap[w.heap.size]? = some (.cells #[.int .i64 nd, .int .u64 (tm : Int), .int .i64 vo, .int .u64 (ai : Int), .int .u64 (at_ : Int), .int .i64 ak, .slice sa sn sc, .slice xa xn xc, .int .u64 (cm : Int), .int .i64 ro, .int .i64 le, .int .i64 el, .slice va vn vc, .slice pa pn pc] 32) := by rw [← hW4]; simp [World.setCell, Array.getElem?_modify, D1]
      have fr1 : Frm n [32] w3 W4 := by
        rw [← hW4]
        obtain ⟨_, q⟩ : ∃ cs, w3.heap[w.heap.size]? = some (.cells cs 32 (0, 0)) := ⟨_, D1⟩
        have step : ∀ (W : World) (i : Nat) (u : Value), (∃ cs, W.heap[w.heap.size]? = some (.cells cs 32 (0, 0))) → Frm n [32] w3 W → Frm n [32] w3 (W.setCell ⟨w.heap.size, i, none⟩ u) ∧ ∃ cs, (W.setCell ⟨w.heap.size, i, none⟩ u).heap[w.heap.size]? = some (.cells cs 32 (0, 0)) := fun W i u ⟨cs, h⟩ hf => ⟨hf.trans (Frm.cell hn h u), _, by simp [World.setCell, Array.getElem?_modify, h]; rfl⟩
        have s0 := step _ 3 (.int .u64 (ai : Int)) ⟨_, q⟩ (Frm.refl _ _ _)
        have s1 := step _ 4 (.int .u64 (at_ : Int)) s0.2 s0.1
        have s2 := step _ 5 (.int .i64 ak) s1.2 s1.1
        have s3 := step _ 6 (.slice sa sn sc) s2.2 s2.1
        have s4 := step _ 7 (.slice xa xn xc) s3.2 s3.1
        exact s4.1
      have g2 : W4.heap[w.heap.size + 1]? = _ := hW4 ▸ ((set_far (by omega) _).trans ((set_far (by omega) _).trans ((set_far (by omega) _).trans ((set_far (by omega) _).trans (set_far (by omega) _))))).trans D2
      have hb1 : Below w.heap.size w W4 := hW4 ▸ ((((hb03.setCell (p := ⟨w.heap.size, 3, none⟩) (Nat.le_refl _) (.int .u64 (ai : Int))).setCell (p := ⟨w.heap.size, 4, none⟩) (Nat.le_refl _) (.int .u64 (at_ : Int))).setCell (p := ⟨w.heap.size, 5, none⟩) (Nat.le_refl _) (.int .i64 ak)).setCell (p := ⟨w.heap.size, 6, none⟩) (Nat.le_refl _) (.slice sa sn sc)).setCell (p := ⟨w.heap.size, 7, none⟩) (Nat.le_refl _) (.slice xa xn xc)
      obtain ⟨hV3, hP3⟩ := HRR.out w3 hb03
      have HRV : Hid (RaV n (W4.setRow (w.heap.size + 1) #[.int .i64 nd, .int .u64 (tm : Int), .int .i64 vo, .int .u64 (ai : Int), .int .u64 (at_ : Int), .int .i64 ak, .slice sa sn sc, .slice xa xn xc, .int .u64 (cm : Int), .int .i64 ro, .int .i64 le, .int .i64 el, .slice va vn vc, .slice pa pn pc]) ⟨⟨nd, tm, vo, ⟨ai, at_, ak, ad⟩, al, cm, ro, le, el, vt, pe⟩, zs2, (sa, sn, sc), (xa, xn, xc), (va, vn, vc), (pa, pn, pc)⟩) := by
        have hff := fr1.trans (Frm.row (n := n) (by omega) g2 #[.int .i64 nd, .int .u64 (tm : Int), .int .i64 vo, .int .u64 (ai : Int), .int .u64 (at_ : Int), .int .i64 ak, .slice sa sn sc, .slice xa xn xc, .int .u64 (cm : Int), .int .i64 ro, .int .i64 le, .int .i64 el, .slice va vn vc, .slice pa pn pc])
        exact ⟨hD3.frm hff (by decide), hE3.frm hff (by decide) (by decide), hm3, hV3.frm hff (by decide), hP3.frm hff (by decide)⟩
      have HF := setRow_heap _ _ _ #[.int .i64 nd, .int .u64 (tm : Int), .int .i64 vo, .int .u64 (ai : Int), .int .u64 (at_ : Int), .int .i64 ak, .slice sa sn sc, .slice xa xn xc, .int .u64 (cm : Int), .int .i64 ro, .int .i64 le, .int .i64 el, .slice va vn vc, .slice pa pn pc] _ _ g2
      have hbf := below_row hb1 (g := w.heap.size + 1) (by omega) #[.int .i64 nd, .int .u64 (tm : Int), .int .i64 vo, .int .u64 (ai : Int), .int .u64 (at_ : Int), .int .i64 ak, .slice sa sn sc, .slice xa xn xc, .int .u64 (cm : Int), .int .i64 ro, .int .i64 le, .int .i64 el, .slice va vn vc, .slice pa pn pc]
      clear hD3 hE3 hm3 fr1 hV3 hP3 HRR D2 hb03
      go_wp2_with (first | refine wpList_load_row rfl 32 _ rfl w.heap.size rfl _ _ _ _ g1 Tryz.underlying32 rfl (by kernel_rfl) ?_ | refine wpList_store_row rfl 32 _ _ rfl (w.heap.size + 1) _ rfl rfl _ _ g2 (by kernel_rfl) rfl (by simp [Value.oneCell']) ?_)
      (try simp only [Exit.inBlock, Exit.then])
      refine bodyPost_ret (results_ra2 rfl _ _ (w.heap.size + 1) _ _ _ _ _ _ _ _ _ _ _ _ _ _ rfl HF) rfl ?_
      exact ⟨by rw [HPT.out, HC.out]; exact ⟨_, rfl, HRV.out, rfl⟩, hbf⟩
end Go.Proofs.YtncoandnelgkeaaGreat

/- What the document's Propose tells. -/
namespace Go.Proofs.YtncoandnelgkeaaGreat
open Go.RowKit QuorumMath RlogMath RaftMath
set_option maxRecDepth 100000
set_option linter.unusedSimpArgs false
set_option linter.unusedVariables false

theorem results_st3v {fn : Func} {p u0 u1 : Tmp} (h : fn.results = #[.cell p 54, .tmp u0, .tmp u1]) (tmps : Array Value) (w : World) (g : Nat) (cs : Array Value) (h15 : cs.size = 15)
    (hp : tmps.getD p undef = .pointer (some ⟨g, 0, none⟩)) (hg : w.heap[g]? = some (.cells cs 54 (0, 0))) :
    (results fn tmps).run Tryz.prog w = .ok (.tuple #[.agg cs, tmps.getD u0 undef, tmps.getD u1 undef]) w := by
  have hp' : tmps[p]?.getD undef = .pointer (some ⟨g, 0, none⟩) := by simpa using hp
  simp [results, h, hp', asAddr, run_loadVar_row w g 54 54 cs (0, 0) _ hg Tryz.underlying54 rfl (by rw [h15]; exact sizeSt)]
theorem stV_zero (n : Nat) (w : World) : StV n w (.agg #[.int .i64 0, .int .u64 0, .int .i64 0, .int .u64 0, .int .u64 0, .int .i64 0, .slice none 0 0, .slice none 0 0, .int .u64 0, .int .i64 0, .int .i64 0, .int .i64 0, .slice none 0 0, .slice none 0 0, .slice none 0 0]) ⟨zeroR, []⟩ := ⟨⟨zeroR, [], (none, 0, 0), (none, 0, 0), (none, 0, 0), (none, 0, 0)⟩, [], (none, 0, 0), rfl, rfl, raV_zero n _, ⟨RdN.nil _ _ _ _, by simp⟩, rfl⟩
/-- What Propose tells. -/
def PrpT (n : Nat) (m : Ms × Nat × Int) (e : Ending) (w' : World) : Prop := ∃ v, e = .returned (.tuple #[v, .int .u64 (m.2.1 : Int), .int .i64 m.2.2]) ∧ StV n w' v m.1
end Go.Proofs.YtncoandnelgkeaaGreat

/- The document's Propose. -/
namespace Go.Proofs.YtncoandnelgkeaaGreat
open Go.RowKit QuorumMath RlogMath RaftMath
set_option maxRecDepth 100000
set_option linter.unusedSimpArgs false
set_option linter.unusedVariables false

set_option maxHeartbeats 32000000 in
theorem rprop_k2 (n : Nat) (r : Mr) (v : Value) (k : Int) (d : List Nat) (ds : Sl) (w : World) (hS : RsV n w v r) (hn : n ≤ w.heap.size) (hD : RdN byteE 5 n w (.slice ds.1 ds.2.1 ds.2.2) d) (hdc : ∀ c ∈ d, c < 256) (hdn : d.length ≤ 1000000) (hm : mayB r.base r.log = true) (hk : k = 2) (htm : r.term < 18446744073709551616) (hbo : OkM r.base) (hlo : ∀ e ∈ r.log, OkM e) (hlg : r.log.length ≤ 1000000) (hpl : r.peers.length ≤ 1000000) (hnx : ∀ p ∈ r.peers, p.next < 18446744073709551616) : Calls Tryz.prog 29 #[v, .int .i64 k, .slice ds.1 ds.2.1 ds.2.2] w fun e w' => PrpT n (propR r k d) e w' ∧ Below w.heap.size w w' := by
  have HK : Hid _ := hk
  clear hk
  have HPM : Hid (propR r k d = if r.role = 2 then (if (appM r.base r.log r.term k d).1 = 1 ∨ k = 0 then (⟨zeroR, []⟩, 0, 1) else if k = 2 ∧ ((termM r.base r.log r.commit).getD 0 ≠ r.term ∨ ∃ e ∈ r.log, e.kind = 2 ∧ r.commit < e.idx) then (⟨zeroR, []⟩, 0, 9)
    else if k = 2 ∧ (1 : Int) < ((nodesI d).length : Int) + ((votR r).length : Int) - 2 * (cnt (nodesI d) (votR r) : Nat) then (⟨zeroR, []⟩, 0, 1)
    else if (appM r.base r.log r.term k d).1 = 0 then (settleR ⟨{ r with base := (appM r.base r.log r.term k d).2.1, log := (appM r.base r.log r.term k d).2.2 }, []⟩, (lastM (appM r.base r.log r.term k d).2.1 (appM r.base r.log r.term k d).2.2).1, 0)
    else (⟨zeroR, []⟩, 0, (appM r.base r.log r.term k d).1)) else (⟨zeroR, []⟩, 0, 4)) := rfl
  obtain ⟨CP, HC⟩ : ∃ CP, Hid (CP = propR r k d) := ⟨_, rfl⟩
  rw [← HC.out]
  obtain ⟨PT, HPT⟩ : ∃ P, Hid (P = PrpT n CP) := ⟨_, rfl⟩
  rw [← HPT.out]
  rw [HPM.out] at HC
  obtain ⟨z, rfl, hz, hR⟩ := hS
  obtain ⟨r', zs, ⟨ba, bn, bc⟩, ⟨la, ln, lc⟩, ⟨va, vn, vc⟩, ⟨pa, pn, pc⟩⟩ := z
  obtain rfl : r' = r := hz
  obtain ⟨da, dn, dc⟩ := ds
  have hml : mes zs = r'.log := hR.2.2.1
  have hzl : zs.length ≤ 1000000 := by have := congrArg List.length hml; rw [List.length_map] at this; omega
  have hzo := okz_of hml hlo
  obtain ⟨a', c', hls, -, -⟩ := hR.2.1.1.rd.shape
  simp only [slv, Value.slice.injEq] at hls
  have hln : ln = zs.length := hls.2.1
  clear hls a' c'
  subst hln
  have HVL : Hid ((votR r').length ≤ 1000000) := by show (votM _ _).length ≤ _; have := may_vlen hm; omega
  have HNL : Hid ((nodesI d).length ≤ 1000000) := by show _ ≤ _; rw [nodesI_len]; exact hdn
  have HOK : Hid (_ ∧ _ ∧ _) := app_okM (t := r'.term) (k := k) (d := d) hbo hlo htm hdc (by omega)
  have HMY : Hid (_ → _) := app_may (b := r'.base) (l := r'.log) (t := r'.term) (k := k) (d := d)
  have HLGB : Hid (r'.log.length ≤ 1000000) := hlg
  have HPL : Hid (r'.peers.length ≤ 1000000) := hpl
  have HNX : Hid (∀ p ∈ r'.peers, p.next < 18446744073709551616) := hnx
  have HKA : Hid (∀ W, Below w.heap.size w W → _) := fun W hW => rapp_n n (r'.base, ba, bn, bc) zs (.slice la zs.length lc) r'.term k d (da, dn, dc) W (hR.1.below hW) (hR.2.1.below hW) ⟨hbo.1, hbo.2.1, hbo.2.2.1⟩ (fun z hz => (hzo z hz).1) (hD.below hW) hdc (by omega) hbo.2.2.2
  have HKT : Hid (∀ W, Below w.heap.size w W → _) := fun W hW => rterm_of (r'.base, ba, bn, bc) zs (.slice la zs.length lc) r'.commit W (hR.2.1.below hW).v (by omega)
  have HKN : Hid (∀ W, Below w.heap.size w W → _) := fun W hW => nodes_of d (.slice da dn dc) W (hD.below hW).rd (by omega) hdc
  have HKV : Hid (∀ W, Below w.heap.size w W → _) := fun W hW => rvot_k (r'.base, ba, bn, bc) zs (.slice la zs.length lc) W (hR.1.below hW).v (hR.2.1.below hW).v ⟨hbo.1, hbo.2.1, hbo.2.2.1⟩ (fun z hz => (hzo z hz).1) (by omega) hbo.2.2.2 (fun z hz => (hzo z hz).2)
  have HLR : Hid (∀ W, Below w.heap.size w W → Rd entE W (.slice la zs.length lc) zs) := fun W hW => hR.2.1.1.rd.below hW
  have HRR : Hid (∀ W, Below w.heap.size w W → RdN intE 3 n W (.slice va vn vc) r'.votes ∧ RdN peerN 71 n W (.slice pa pn pc) r'.peers) := fun W hW => ⟨hR.2.2.2.1.below hW, hR.2.2.2.2.below hW⟩
  have HML : Hid (mes zs = r'.log) := hml
  rw [hml] at HKA HKT HKV
  have HKV : Hid (∀ W, Below w.heap.size w W → Calls Tryz.prog 21 #[lgv (r'.base, ba, bn, bc) (.slice la zs.length lc)] W fun e w' => ∃ v, e = .returned v ∧ Rk intE w' 3 v (votR r') ∧ Below W.heap.size W w') := HKV
  obtain ⟨DF, HDF⟩ : ∃ DF : Int, Hid (((nodesI d).length : Int) + ((votR r').length : Int) - 2 * (cnt (nodesI d) (votR r') : Nat) = DF) := ⟨_, rfl⟩
  rw [HDF.out] at HC
  have HZL0 : Hid (zs.length ≤ 1000000) := hzl
  generalize votR r' = VR at *
  clear hR hml hzl hzo hbo hlo hlg hpl hnx hm hdc hdn hD htm HPM
  obtain ⟨nd, tm, vo, ⟨bi, bt, bk, bd⟩, lg, cm, ro, le, el, vt, pe⟩ := r'
  dsimp only [rv] at *
  generalize appM ⟨bi, bt, bk, bd⟩ lg tm k d = AM at *
  obtain ⟨ac, ⟨ai, at_, ak, ad⟩, al⟩ := AM
  dsimp only [lgv] at *
  obtain ⟨hsz, B1, B2, B3, hb3⟩ := three_box w (.cells #[.int .i64 nd, .int .u64 (tm : Int), .int .i64 vo, .int .u64 (bi : Int), .int .u64 (bt : Int), .int .i64 bk, .slice ba bn bc, .slice la zs.length lc, .int .u64 (cm : Int), .int .i64 ro, .int .i64 le, .int .i64 el, .slice va vn vc, .slice pa pn pc] 32) (.cells #[.int .i64 0, .int .u64 0, .int .i64 0, .int .u64 0, .int .u64 0, .int .i64 0, .slice none 0 0, .slice none 0 0, .int .u64 0, .int .i64 0, .int .i64 0, .int .i64 0, .slice none 0 0, .slice none 0 0, .slice none 0 0] 54) (.cells #[.int .i64 0, .int .u64 0, .int .i64 0, .int .u64 0, .int .u64 0, .int .i64 0, .slice none 0 0, .slice none 0 0, .int .u64 0, .int .i64 0, .int .i64 0, .int .i64 0, .slice none 0 0, .slice none 0 0, .slice none 0 0] 54)
  by_cases h2 : ro = 2
  · rw [if_pos h2] at HC
    have k1 := HKA.out _ hb3
    obtain ⟨-, o0, o1, o2, o3, o4, o5, o6, o7, o8, o9, o10, o11, o12, o13⟩ := r14_cells B1
    subst h2
    clear HKA
    go_enter Tryz.func29, Tryz.ntmps29
    go_wp2_with fail
    refine k1.mono ?_
    rintro e w3 ⟨⟨v3, rfl, hL3⟩, hbx⟩
    rw [hsz] at hbx
    obtain ⟨⟨sa, sn, sc⟩, zs2, ⟨xa, xn, xc⟩, rfl, hD3, hE3, hm3⟩ := hL3
    dsimp only [lgv] at *
    have C1 := (hbx.block (w.heap.size) (by omega)).trans B1
    have C2 := (hbx.block (w.heap.size + 1) (by omega)).trans B2
    have C3 := (hbx.block (w.heap.size + 1 + 1) (by omega)).trans B3
    have hb03 := hb3.trans (hbx.mono (by omega))
    have HLG3 : Hid (∀ W, Below w3.heap.size w3 W → DataN n W (⟨ai, at_, ak, ad⟩, sa, sn, sc) ∧ EntsN n W (.slice xa xn xc) zs2 ∧ mes zs2 = al) := fun W hW => ⟨hD3.below hW, hE3.below hW, hm3⟩
    clear o0 o1 o2 o3 o4 o5 o6 o7 o8 o9 o10 o11 o12 o13
    clear k1 hbx B1 B2 B3 hsz hb3 hD3 hE3 hm3
    obtain ⟨z4, DL, q4⟩ := one_box w3 (.cells #[.int .u64 (ai : Int), .int .u64 (at_ : Int), .int .i64 ak, .slice sa sn sc, .slice xa xn xc] 28)
    have D1 := (q4.block (w.heap.size) (Array.getElem?_eq_some_iff.1 C1).1).trans C1
    have D2 := (q4.block (w.heap.size + 1) (Array.getElem?_eq_some_iff.1 C2).1).trans C2
    have D3 := (q4.block (w.heap.size + 1 + 1) (Array.getElem?_eq_some_iff.1 C3).1).trans C3
    have hb4 := hb03.trans (q4.mono hb03.size)
    obtain ⟨w4, hw4⟩ : ∃ w4, w3.alloc (.cells #[.int .u64 (ai : Int), .int .u64 (at_ : Int), .int .i64 ak, .slice sa sn sc, .slice xa xn xc] 28) = w4 := ⟨_, rfl⟩
    rw [hw4] at z4 DL q4 D1 D2 D3 hb4
    have HLG : Hid (∀ W, Below w4.heap.size w4 W → DataN n W (⟨ai, at_, ak, ad⟩, sa, sn, sc) ∧ EntsN n W (.slice xa xn xc) zs2 ∧ mes zs2 = al) := fun W hW => HLG3.out W (q4.trans (hW.mono q4.size))
    clear C1 C2 C3 hb03 HLG3 q4 z4
    obtain ⟨-, o0, o1, o2, o3, o4, o5, o6, o7, o8, o9, o10, o11, o12, o13⟩ := r14_cells D1
    by_cases ha1 : ac = 1
    · have E : Hid (CP = _) := HC.out.trans (if_pos (.inl ha1))
      subst ha1
      have HF := setRow_heap _ _ _ #[.int .i64 0, .int .u64 0, .int .i64 0, .int .u64 0, .int .u64 0, .int .i64 0, .slice none 0 0, .slice none 0 0, .int .u64 0, .int .i64 0, .int .i64 0, .int .i64 0, .slice none 0 0, .slice none 0 0, .slice none 0 0] _ _ D2
      have hbf := below_row hb4 (g := w.heap.size + 1) (by omega) #[.int .i64 0, .int .u64 0, .int .i64 0, .int .u64 0, .int .u64 0, .int .i64 0, .slice none 0 0, .slice none 0 0, .int .u64 0, .int .i64 0, .int .i64 0, .int .i64 0, .slice none 0 0, .slice none 0 0, .slice none 0 0]
      clear HC HMY HRR HOK HPL HNX HLG HKT HKN HKV HLR HML
      go_wp2_with (first | refine wpList_load_row rfl 54 _ rfl (w.heap.size + 1 + 1) rfl _ _ _ _ D3 Tryz.underlying54 rfl (by kernel_rfl) ?_ | refine wpList_store_row rfl 54 _ _ rfl (w.heap.size + 1) _ rfl rfl _ _ D2 (by kernel_rfl) rfl (by simp [Value.oneCell']) ?_)
      (try simp only [Exit.inBlock, Exit.then])
      refine bodyPost_ret (results_st3 rfl _ _ (w.heap.size + 1) _ _ _ _ _ _ _ _ _ _ _ _ _ _ _ rfl HF) rfl ?_
      exact ⟨by rw [HPT.out, E.out]; exact ⟨_, rfl, stV_zero n _⟩, hbf⟩
    · have ha1b : (ac == 1) = false := by simpa using ha1
      by_cases hk0 : k = 0
      · have E : Hid (CP = _) := HC.out.trans (if_pos (.inr hk0))
        subst hk0
        clear ha1
        have HF := setRow_heap _ _ _ #[.int .i64 0, .int .u64 0, .int .i64 0, .int .u64 0, .int .u64 0, .int .i64 0, .slice none 0 0, .slice none 0 0, .int .u64 0, .int .i64 0, .int .i64 0, .int .i64 0, .slice none 0 0, .slice none 0 0, .slice none 0 0] _ _ D2
        have hbf := below_row hb4 (g := w.heap.size + 1) (by omega) #[.int .i64 0, .int .u64 0, .int .i64 0, .int .u64 0, .int .u64 0, .int .i64 0, .slice none 0 0, .slice none 0 0, .int .u64 0, .int .i64 0, .int .i64 0, .int .i64 0, .slice none 0 0, .slice none 0 0, .slice none 0 0]
        clear HC HMY HRR HOK HPL HNX HLG HKT HKN HKV HLR HML
        go_wp2_with (first | refine wpList_load_row rfl 54 _ rfl (w.heap.size + 1 + 1) rfl _ _ _ _ D3 Tryz.underlying54 rfl (by kernel_rfl) ?_ | refine wpList_store_row rfl 54 _ _ rfl (w.heap.size + 1) _ rfl rfl _ _ D2 (by kernel_rfl) rfl (by simp [Value.oneCell']) ?_)
        (try simp only [Exit.inBlock, Exit.then])
        refine bodyPost_ret (results_st3 rfl _ _ (w.heap.size + 1) _ _ _ _ _ _ _ _ _ _ _ _ _ _ _ rfl HF) rfl ?_
        exact ⟨by rw [HPT.out, E.out]; exact ⟨_, rfl, stV_zero n _⟩, hbf⟩
      · have hk0b : (k == 0) = false := by simpa using hk0
        rw [if_neg (fun h => h.elim ha1 hk0)] at HC
        clear ha1 hk0
        have hk2 : k = 2 := HK.out
        have HC2 : Hid (CP = if ((termM ⟨bi, bt, bk, bd⟩ lg cm).getD 0 ≠ tm ∨ ∃ e ∈ lg, e.kind = 2 ∧ cm < e.idx) then (⟨zeroR, []⟩, 0, 9) else if (1 : Int) < DF then (⟨zeroR, []⟩, 0, 1) else if ac = 0 then (settleR ⟨⟨nd, tm, vo, ⟨ai, at_, ak, ad⟩, al, cm, 2, le, el, vt, pe⟩, []⟩, (lastM ⟨ai, at_, ak, ad⟩ al).1, 0) else (⟨zeroR, []⟩, 0, ac)) := by show _ = _; rw [HC.out]; simp only [hk2, true_and]
        clear HC
        have k2 := HKT.out _ hb4
        generalize termM ⟨bi, bt, bk, bd⟩ lg cm = TM at *
        obtain ⟨tt, tb, hTT, hTV⟩ : ∃ (tt : Nat) (tb : Bool), Hid (TM.getD 0 = tt) ∧ termV TM = .tuple #[.int .u64 (tt : Int), .bool tb] := by
          cases TM with
          | none => exact ⟨0, false, rfl, rfl⟩
          | some x => exact ⟨x, true, rfl, rfl⟩
        rw [hTV] at k2
        rw [hTT.out] at HC2
        clear HK
        subst hk2
        subst hw4
        clear hTV hTT HKT
        go_wp2_with fail
        refine k2.mono ?_
        rintro e w5 ⟨rfl, hb5⟩
        have F1 := (hb5.block (w.heap.size) (Array.getElem?_eq_some_iff.1 D1).1).trans D1
        have F2 := (hb5.block (w.heap.size + 1) (Array.getElem?_eq_some_iff.1 D2).1).trans D2
        have F3 := (hb5.block (w.heap.size + 1 + 1) (Array.getElem?_eq_some_iff.1 D3).1).trans D3
        have FL := (hb5.block w3.heap.size (Array.getElem?_eq_some_iff.1 DL).1).trans DL
        have hb05 := hb4.trans (hb5.mono hb4.size)
        have HLG5 : Hid (∀ W, Below w5.heap.size w5 W → DataN n W (⟨ai, at_, ak, ad⟩, sa, sn, sc) ∧ EntsN n W (.slice xa xn xc) zs2 ∧ mes zs2 = al) := fun W hW => HLG.out W (hb5.trans (hW.mono hb5.size))
        clear o0 o1 o2 o3 o4 o5 o6 o7 o8 o9 o10 o11 o12 o13
        clear k2 HLG hb5 D1 D2 D3 DL hb4
        obtain ⟨-, o0, o1, o2, o3, o4, o5, o6, o7, o8, o9, o10, o11, o12, o13⟩ := r14_cells F1
        by_cases htt : tt = tm
        · have htb : ((tt : Int) != (tm : Int)) = false := by simp; omega
          obtain rfl : tm = tt := htt.symm
          have HC3 : Hid (CP = if (∃ e ∈ lg, e.kind = 2 ∧ cm < e.idx) then (⟨zeroR, []⟩, 0, 9) else if (1 : Int) < DF then (⟨zeroR, []⟩, 0, 1) else if ac = 0 then (settleR ⟨⟨nd, tm, vo, ⟨ai, at_, ak, ad⟩, al, cm, 2, le, el, vt, pe⟩, []⟩, (lastM ⟨ai, at_, ak, ad⟩ al).1, 0) else (⟨zeroR, []⟩, 0, ac)) := by show _ = _; rw [HC2.out]; simp only [ne_eq, not_true_eq_false, false_or]
          clear HC2
          go_wp2
          clear o0 o1 o2 o3 o4 o5 o6 o7 o8 o9 o10 o11 o12 o13
          go_loopg [14] zs.length (fun g s14 wr => ∃ i : Nat, i + g = zs.length ∧ s14 = .int .i64 (i : Int) ∧ Below w5.heap.size w5 wr ∧ Hid (∀ e ∈ lg.take i, ¬ (e.kind = 2 ∧ cm < e.idx)))
          case atStart => exact ⟨0, by simp, rfl, Below.refl _ _, fun e he => by simp at he⟩
          case round =>
            obtain ⟨i, hig, rfl, hb8x, HE⟩ := hrel
            have H1 := (hb8x.block (w.heap.size) (Array.getElem?_eq_some_iff.1 F1).1).trans F1
            have H2 := (hb8x.block (w.heap.size + 1) (Array.getElem?_eq_some_iff.1 F2).1).trans F2
            have H3 := (hb8x.block (w.heap.size + 1 + 1) (Array.getElem?_eq_some_iff.1 F3).1).trans F3
            have HL := (hb8x.block w3.heap.size (Array.getElem?_eq_some_iff.1 FL).1).trans FL
            have hb8 := hb05.trans (hb8x.mono hb05.size)
            obtain ⟨-, o0, o1, o2, o3, o4, o5, o6, o7, o8, o9, o10, o11, o12, o13⟩ := r14_cells H1
            by_cases hlt : i < zs.length
            · have hlti : (i : Int) < (zs.length : Int) := by omega
              have hzl0 : zs.length ≤ 1000000 := HZL0.out
              have hz : zs[i]? = some zs[i] := List.getElem?_eq_getElem hlt
              obtain ⟨z, hzz⟩ : ∃ z, z = zs[i] := ⟨_, rfl⟩
              rw [← hzz] at hz
              clear hzz
              obtain ⟨p, off, rfl, c⟩ := rde_at (HLR.out wr hb8) hz
              obtain ⟨d0, d1, d2, d3⟩ := c _ (Below.refl _ _)
              have hg : lg[i]? = some z.1 := by rw [← HML.out]; exact mes_at hz
              obtain ⟨⟨ix2, tm2, kd2, dt2⟩, sa2, sn2, sc2⟩ := z
              dsimp only at d0 d1 d2 d3 hg
              by_cases hx : kd2 = 2 ∧ cm < ix2
              · have hEX : ∃ e ∈ lg, e.kind = 2 ∧ cm < e.idx := ⟨_, List.mem_of_getElem? hg, hx⟩
                have E : Hid (CP = _) := HC3.out.trans (if_pos hEX)
                obtain ⟨rfl, hx2⟩ := hx
                have hxi : (cm : Int) < (ix2 : Int) := by omega
                have HF := setRow_heap _ _ _ #[.int .i64 0, .int .u64 0, .int .i64 0, .int .u64 0, .int .u64 0, .int .i64 0, .slice none 0 0, .slice none 0 0, .int .u64 0, .int .i64 0, .int .i64 0, .int .i64 0, .slice none 0 0, .slice none 0 0, .slice none 0 0] _ _ H2
                clear HC3 HMY HRR HOK HPL HNX HLG5 HKN HKV HLR HML c hz hg hEX hx2 HE F1 F2 F3 FL
                go_wp2
                go_quiet (fail)
                have X2 : (wr.drewN nq).heap[w.heap.size + 1]? = _ := H2
                have X3 : (wr.drewN nq).heap[w.heap.size + 1 + 1]? = _ := H3
                have XB := below_dN hb8 nq
                clear HF
                have HF := setRow_heap _ _ _ #[.int .i64 0, .int .u64 0, .int .i64 0, .int .u64 0, .int .u64 0, .int .i64 0, .slice none 0 0, .slice none 0 0, .int .u64 0, .int .i64 0, .int .i64 0, .int .i64 0, .slice none 0 0, .slice none 0 0, .slice none 0 0] _ _ X2
                have hbf := below_row XB (g := w.heap.size + 1) (by omega) #[.int .i64 0, .int .u64 0, .int .i64 0, .int .u64 0, .int .u64 0, .int .i64 0, .slice none 0 0, .slice none 0 0, .int .u64 0, .int .i64 0, .int .i64 0, .int .i64 0, .slice none 0 0, .slice none 0 0, .slice none 0 0]
                skip
                go_wp2_with (first | refine wpList_load_row rfl 54 _ rfl (w.heap.size + 1 + 1) rfl _ _ _ _ X3 Tryz.underlying54 rfl (by kernel_rfl) ?_ | refine wpList_store_row rfl 54 _ _ rfl (w.heap.size + 1) _ rfl rfl _ _ X2 (by kernel_rfl) rfl (by simp [Value.oneCell']) ?_)
                (try simp only [Exit.inBlock, Exit.then])
                refine bodyPost_ret (results_st3 rfl _ _ (w.heap.size + 1) _ _ _ _ _ _ _ _ _ _ _ _ _ _ _ rfl HF) rfl ?_
                exact ⟨by rw [HPT.out, E.out]; exact ⟨_, rfl, stV_zero n _⟩, hbf⟩
              · have HE2 : Hid (∀ e ∈ lg.take (i + 1), ¬ (e.kind = 2 ∧ cm < e.idx)) := by
                  intro e he
                  rw [take_succ_get hg] at he
                  rcases List.mem_append.1 he with h | h
                  · exact HE.out e h
                  · rw [List.mem_singleton.1 h]; exact hx
                by_cases hkd : kd2 = 2
                · have hxi : ¬ (cm : Int) < (ix2 : Int) := fun h => hx ⟨hkd, by omega⟩
                  subst hkd
                  clear hx HC3 HMY HRR HOK HPL HNX HLG5 HKN HKV HLR HML c hz hg HE F1 F2 F3 FL H2 H3 HL
                  go_wp2
                  go_quiet (fail)
                  go_wp2
                  go_roundg (gk - 1)
                  case measure => omega
                  case rel => exact ⟨i + 1, by omega, by go_num, below_dN hb8x nq, HE2⟩
                · have hkb : (kd2 == 2) = false := by simpa using hkd
                  clear hx hkd HC3 HMY HRR HOK HPL HNX HLG5 HKN HKV HLR HML c hz hg HE F1 F2 F3 FL H2 H3 HL
                  go_wp2
                  go_quiet (fail)
                  go_wp2
                  go_roundg (gk - 1)
                  case measure => omega
                  case rel => exact ⟨i + 1, by omega, by go_num, below_dN hb8x nq, HE2⟩
            · have hlti : ¬ (i : Int) < (zs.length : Int) := by omega
              have hnE : ¬ ∃ e ∈ lg, e.kind = 2 ∧ cm < e.idx := by
                rintro ⟨e, he, h⟩
                have h3 : lg.length = zs.length := by rw [← HML.out, List.length_map]
                exact HE.out e (by rw [List.take_of_length_le (by omega)]; exact he) h
              have HC4 : Hid (_ = _) := HC3.out.trans (if_neg hnE)
              have HLG8 : Hid (∀ W, Below wr.heap.size wr W → DataN n W (⟨ai, at_, ak, ad⟩, sa, sn, sc) ∧ EntsN n W (.slice xa xn xc) zs2 ∧ mes zs2 = al) := fun W hW => HLG5.out W (hb8x.trans (hW.mono hb8x.size))
              clear HE hnE HC3 HLG5 HLR HML F1 F2 F3 FL
              go_wp2
              refine wp_region_L (fun W => Below wr.heap.size wr W) [] (by kernel_rfl) ?_
              have hbd : Below wr.heap.size wr wr.drew := (Below.refl _ wr).drew
              have HCL : Hid (∀ W, Below wr.heap.size wr W → _) := fun W hW => r14_cells ((hW.block w.heap.size (Array.getElem?_eq_some_iff.1 H1).1).trans H1)
              generalize hwd : wr.drew = wd at *
              clear hwd
              have kn := HKN.out wd (hb8.trans (hbd.mono hb8.size))
              refine wpAnyL_take 0 rfl (by kernel_rfl) (by kernel_rfl) (by kernel_rfl) (by kernel_rfl) (fun _ _ _ h => h) (wanted_none rfl) (by intro w' hS'; have hz := hS'; obtain ⟨-, c0, c1, c2, c3, c4, c5, c6, c7, c8, c9, c10, c11, c12, c13⟩ := HCL.out _ hz; go_simp <;> rfl) hbd ?_
              try simp only [List.getElem_toArray, List.getElem_cons_succ, List.getElem_cons_zero, Act.put, List.setIfInBounds_toArray, List.set_cons_zero, List.set_cons_succ]
              refine wpAnyL_take 2 rfl (by kernel_rfl) (by kernel_rfl) (by kernel_rfl) (by kernel_rfl) (fun _ _ _ h => h) (wanted_none rfl) (by intro w' hS'; have hz := hS'; obtain ⟨-, c0, c1, c2, c3, c4, c5, c6, c7, c8, c9, c10, c11, c12, c13⟩ := HCL.out _ hz; go_simp <;> rfl) hbd ?_
              try simp only [List.getElem_toArray, List.getElem_cons_succ, List.getElem_cons_zero, Act.put, List.setIfInBounds_toArray, List.set_cons_zero, List.set_cons_succ]
              refine wpAnyL_take 3 rfl (by kernel_rfl) (by kernel_rfl) (by kernel_rfl) (by kernel_rfl) (fun _ _ _ h => h) (wanted_none rfl) (by intro w' hS'; have hz := hS'; obtain ⟨-, c0, c1, c2, c3, c4, c5, c6, c7, c8, c9, c10, c11, c12, c13⟩ := HCL.out _ hz; go_simp <;> rfl) hbd ?_
              try simp only [List.getElem_toArray, List.getElem_cons_succ, List.getElem_cons_zero, Act.put, List.setIfInBounds_toArray, List.set_cons_zero, List.set_cons_succ]
              refine wpAnyL_one 1 (by kernel_rfl) rfl (wanted_none rfl) ?_
              intro K' hK'
              go_simp
              go_at_call 51
              refine kn.mono ?_
              rintro e wa ⟨va1, rfl, hO1, hba⟩
              have hSa : (fun W => Below wr.heap.size wr W) wa := hbd.trans (hba.mono hbd.size)
              have kv := HKV.out wa (hb8.trans (hSa.mono hb8.size))
              clear kn
              refine hK'.out _ _ (.inr hSa) ?_
              clear hK' K'
              try simp only [List.getElem_toArray, List.getElem_cons_succ, List.getElem_cons_zero, Act.put, List.setIfInBounds_toArray, List.set_cons_zero, List.set_cons_succ]
              refine wpAnyL_one 4 (by kernel_rfl) rfl (wanted_none rfl) ?_
              intro K' hK'
              go_simp
              go_at_call 21
              refine kv.mono ?_
              rintro e wb ⟨vb1, rfl, hO2, hbb⟩
              have hSb : (fun W => Below wr.heap.size wr W) wb := hSa.trans (hbb.mono hSa.size)
              have kd := differ_of _ _ _ _ wb (hO1.1.rd.below hbb) hO2.rd HNL.out HVL.out
              rw [HDF.out] at kd
              clear kv hO1 hO2
              refine hK'.out _ _ (.inr hSb) ?_
              clear hK' K'
              try simp only [List.getElem_toArray, List.getElem_cons_succ, List.getElem_cons_zero, Act.put, List.setIfInBounds_toArray, List.set_cons_zero, List.set_cons_succ]
              refine wpAnyL_one 5 (by kernel_rfl) rfl (wanted_none rfl) ?_
              intro K' hK'
              go_simp
              go_at_call 74
              refine kd.mono ?_
              rintro e wc ⟨rfl, rfl⟩
              clear kd
              refine hK'.out _ _ (.inr hSb) ?_
              clear hK' K'
              try simp only [List.getElem_toArray, List.getElem_cons_succ, List.getElem_cons_zero, Act.put, List.setIfInBounds_toArray, List.set_cons_zero, List.set_cons_succ]
              refine wpAnyL_take 6 rfl (by kernel_rfl) (by kernel_rfl) (by kernel_rfl) (by kernel_rfl) (fun _ _ _ h => h) (wanted_none rfl) (by intro w' hS'; go_simp <;> rfl) hSb ?_
              try simp only [List.getElem_toArray, List.getElem_cons_succ, List.getElem_cons_zero, Act.put, List.setIfInBounds_toArray, List.set_cons_zero, List.set_cons_succ]
              refine wpAnyL_done (by kernel_rfl) (NoPanic.normal ?_) _
              have X1 := (hSb.block (w.heap.size) (Array.getElem?_eq_some_iff.1 H1).1).trans H1
              have X2 := (hSb.block (w.heap.size + 1) (Array.getElem?_eq_some_iff.1 H2).1).trans H2
              have X3 := (hSb.block (w.heap.size + 1 + 1) (Array.getElem?_eq_some_iff.1 H3).1).trans H3
              have XL := (hSb.block w3.heap.size (Array.getElem?_eq_some_iff.1 HL).1).trans HL
              have hbX := hb8.trans (hSb.mono hb8.size)
              clear o0 o1 o2 o3 o4 o5 o6 o7 o8 o9 o10 o11 o12 o13
              clear H1 H2 H3 HL hb8 HKN HKV HCL HNL HVL HDF
              obtain ⟨-, o0, o1, o2, o3, o4, o5, o6, o7, o8, o9, o10, o11, o12, o13⟩ := r14_cells X1
              by_cases hdf : (1 : Int) < DF
              · have E : Hid (CP = _) := HC4.out.trans (if_pos hdf)
                have HF := setRow_heap _ _ _ #[.int .i64 0, .int .u64 0, .int .i64 0, .int .u64 0, .int .u64 0, .int .i64 0, .slice none 0 0, .slice none 0 0, .int .u64 0, .int .i64 0, .int .i64 0, .int .i64 0, .slice none 0 0, .slice none 0 0, .slice none 0 0] _ _ X2
                have hbf := below_row hbX (g := w.heap.size + 1) (by omega) #[.int .i64 0, .int .u64 0, .int .i64 0, .int .u64 0, .int .u64 0, .int .i64 0, .slice none 0 0, .slice none 0 0, .int .u64 0, .int .i64 0, .int .i64 0, .int .i64 0, .slice none 0 0, .slice none 0 0, .slice none 0 0]
                clear HC4 HMY HRR HOK HPL HNX HLG8
                go_wp2_with (first | refine wpList_load_row rfl 54 _ rfl (w.heap.size + 1 + 1) rfl _ _ _ _ X3 Tryz.underlying54 rfl (by kernel_rfl) ?_ | refine wpList_store_row rfl 54 _ _ rfl (w.heap.size + 1) _ rfl rfl _ _ X2 (by kernel_rfl) rfl (by simp [Value.oneCell']) ?_)
                (try simp only [Exit.inBlock, Exit.then])
                refine bodyPost_ret (results_st3 rfl _ _ (w.heap.size + 1) _ _ _ _ _ _ _ _ _ _ _ _ _ _ _ rfl HF) rfl ?_
                exact ⟨by rw [HPT.out, E.out]; exact ⟨_, rfl, stV_zero n _⟩, hbf⟩
              · have HC : Hid (CP = _) := HC4.out.trans (if_neg hdf)
                clear HC4
                have hwL : w.heap.size ≤ wc.heap.size := hbX.size
                have hnL : n ≤ wc.heap.size := Nat.le_trans hn hwL
                by_cases hc : ac = 0
                · have E : Hid (CP = _) := HC.out.trans (if_pos hc)
                  have hmy2 := HMY.out hc
                  have hnew := HRR.out wc hbX
                  have hlog := HLG8.out wc hSb
                  have hs1 : w.heap.size + 1 < wc.heap.size := (Array.getElem?_eq_some_iff.1 X2).1
                  have hs3 : w3.heap.size < wc.heap.size := (Array.getElem?_eq_some_iff.1 XL).1
                  subst hc
                  have q5 : Below wc.heap.size wc (wc.alloc (.cells #[.int .i64 nd, .int .u64 (tm : Int), .int .i64 vo, .int .u64 (bi : Int), .int .u64 (bt : Int), .int .i64 bk, .slice ba bn bc, .slice la zs.length lc, .int .u64 (cm : Int), .int .i64 2, .int .i64 le, .int .i64 el, .slice va vn vc, .slice pa pn pc, .slice none 0 0] 54)) := (Below.refl _ _).alloc (Nat.le_refl _) _
                  have G5 : (wc.alloc (.cells #[.int .i64 nd, .int .u64 (tm : Int), .int .i64 vo, .int .u64 (bi : Int), .int .u64 (bt : Int), .int .i64 bk, .slice ba bn bc, .slice la zs.length lc, .int .u64 (cm : Int), .int .i64 2, .int .i64 le, .int .i64 el, .slice va vn vc, .slice pa pn pc, .slice none 0 0] 54)).heap[wc.heap.size]? = some (.cells #[.int .i64 nd, .int .u64 (tm : Int), .int .i64 vo, .int .u64 (bi : Int), .int .u64 (bt : Int), .int .i64 bk, .slice ba bn bc, .slice la zs.length lc, .int .u64 (cm : Int), .int .i64 2, .int .i64 le, .int .i64 el, .slice va vn vc, .slice pa pn pc, .slice none 0 0] 54) := heap_alloc_new _ _
                  have GL := (q5.block w3.heap.size hs3).trans XL
                  obtain ⟨⟨f0, f1, f2, f3, f4, f5, f6, f7, f8, f9, f10, f11, f12, f13, f14⟩, p0, p1, p2, p3, p4, p5, p6, p7, p8, p9, p10, p11, p12, p13, p14⟩ := r15_cells G5
                  obtain ⟨-, e0, e1, e2, e3, e4⟩ := lg_cells GL
                  obtain ⟨z6, g6, q6⟩ := one_box wc (.cells #[.int .i64 nd, .int .u64 (tm : Int), .int .i64 vo, .int .u64 (ai : Int), .int .u64 (at_ : Int), .int .i64 ak, .slice sa sn sc, .slice xa xn xc, .int .u64 (cm : Int), .int .i64 2, .int .i64 le, .int .i64 el, .slice va vn vc, .slice pa pn pc, .slice none 0 0] 54)
                  obtain ⟨W6, hW6⟩ : ∃ W, wc.alloc (.cells #[.int .i64 nd, .int .u64 (tm : Int), .int .i64 vo, .int .u64 (ai : Int), .int .u64 (at_ : Int), .int .i64 ak, .slice sa sn sc, .slice xa xn xc, .int .u64 (cm : Int), .int .i64 2, .int .i64 le, .int .i64 el, .slice va vn vc, .slice pa pn pc, .slice none 0 0] 54) = W := ⟨_, rfl⟩
                  rw [hW6] at z6 g6 q6
                  have g26 := (q6.block (w.heap.size + 1) hs1).trans X2
                  have gL6 := (q6.block w3.heap.size hs3).trans XL
                  have hb6 := hbX.trans (q6.mono hwL)
                  have hD6 := hlog.1.below q6
                  have hE6 := hlog.2.1.below q6
                  have hS6 : StV n W6 (.agg #[.int .i64 nd, .int .u64 (tm : Int), .int .i64 vo, .int .u64 (ai : Int), .int .u64 (at_ : Int), .int .i64 ak, .slice sa sn sc, .slice xa xn xc, .int .u64 (cm : Int), .int .i64 2, .int .i64 le, .int .i64 el, .slice va vn vc, .slice pa pn pc, .slice none 0 0]) ⟨⟨nd, tm, vo, ⟨ai, at_, ak, ad⟩, al, cm, 2, le, el, vt, pe⟩, []⟩ := ⟨⟨⟨nd, tm, vo, ⟨ai, at_, ak, ad⟩, al, cm, 2, le, el, vt, pe⟩, zs2, (sa, sn, sc), (xa, xn, xc), (va, vn, vc), (pa, pn, pc)⟩, [], (none, 0, 0), rfl, rfl, ⟨hD6, hE6, hlog.2.2, hnew.1.below q6, hnew.2.below q6⟩, ⟨RdN.nil _ _ _ _, by simp⟩, rfl⟩
                  have ks := settle_of n _ _ _ hS6 (Nat.le_trans hn hb6.size) HOK.out.1 HOK.out.2.1 (by have := HOK.out.2.2; have := HLGB.out; dsimp only at *; omega) (by dsimp only; exact HPL.out) (by have := may_vlen hmy2; show (votM _ _).length ≤ _; dsimp only; omega) (by simp) (by have h1 := (may_last hmy2).1; have h2 := (may_last hmy2).2; show (lastM _ _).1 + 1 < _; dsimp only at *; omega) HNX.out
                  have HE6 : Hid (∀ W, Frm n [54] W6 W → EntsV W (.slice xa xn xc) zs2) := fun W hW => (hE6.frm hW (by decide) (by decide)).v
                  have HZ2 : Hid (mes zs2 = al) := hlog.2.2
                  have HZL : Hid (zs2.length ≤ 1000000000000) := by have h1 := congrArg List.length hlog.2.2; rw [List.length_map] at h1; have := (may_last hmy2).2.2; show _ ≤ _; omega
                  generalize settleR ⟨⟨nd, tm, vo, ⟨ai, at_, ak, ad⟩, al, cm, 2, le, el, vt, pe⟩, []⟩ = SR at *
                  clear hD6 hE6 hS6 hlog hnew q5 GL z6 q6 HC hmy2 HMY HRR HOK HPL HNX G5 
                  have HW6 : Hid (_ = W6) := hW6
                  clear hW6
                  go_wp2_with (refine wpList_load_row rfl 32 _ rfl (w.heap.size) rfl _ _ _ _ X1 Tryz.underlying32 rfl (by kernel_rfl) ?_)
                  rw [HW6.out]
                  refine ks.mono ?_
                  rintro e w9 ⟨v9, rfl, hS9, hb9⟩
                  obtain ⟨cs, rfl, h15, hone⟩ := hS9.shape
                  have g9 := (hb9.block (wc.heap.size) (Array.getElem?_eq_some_iff.1 g6).1).trans g6
                  have g29 := (hb9.block (w.heap.size + 1) (Array.getElem?_eq_some_iff.1 g26).1).trans g26
                  have gL9 := (hb9.block w3.heap.size (Array.getElem?_eq_some_iff.1 gL6).1).trans gL6
                  have hb09 := hb6.trans (hb9.mono hb6.size)
                  have fr9 := (Frm.of_below [54] hb9 (Nat.le_trans hn hb6.size)).trans (Frm.row (n := n) hnL g9 cs)
                  obtain ⟨W10, hW10⟩ : ∃ W, w9.setRow (wc.heap.size) cs = W := ⟨_, rfl⟩
                  have k10 : W10.heap[wc.heap.size]? = _ := hW10 ▸ setRow_heap _ _ _ cs _ _ g9
                  have g2x : W10.heap[w.heap.size + 1]? = _ := hW10 ▸ (setRow_other w9 (wc.heap.size) (w.heap.size + 1) cs (by omega)).trans g29
                  have gLx : W10.heap[w3.heap.size]? = _ := hW10 ▸ (setRow_other w9 (wc.heap.size) w3.heap.size cs (by omega)).trans gL9
                  have hb10 : Below w.heap.size w W10 := hW10 ▸ below_row hb09 (g := wc.heap.size) hwL cs
                  have hS10 : StV n W10 (.agg cs) SR := hW10 ▸ hS9.frm (Frm.row (n := n) hnL g9 cs) (by decide)
                  rw [hW10] at fr9
                  have kl := rlast_of (⟨ai, at_, ak, ad⟩, sa, sn, sc) zs2 (.slice xa xn xc) W10 (HE6.out W10 fr9) HZL.out
                  rw [HZ2.out] at kl
                  dsimp only [lgv, lastV] at kl
                  clear HW6
                  clear ks fr9 g29 gL9 hb09 hS9 hb9 hb6 g26 gL6 HE6 f0 f1 f2 f3 f4 f5 f6 f7 f8 f9 f10 f11 f12 f13 f14 p0 p1 p2 p3 p4 p5 p6 p7 p8 p9 p10 p11 p12 p13 p14 e0 e1 e2 e3 e4
                  obtain ⟨-, e0, e1, e2, e3, e4⟩ := lg_cells gLx
                  generalize lastM ⟨ai, at_, ak, ad⟩ al = LM at *
                  go_wp2_with (refine wpList_store_row rfl 54 _ _ rfl (wc.heap.size) cs rfl rfl _ _ g9 (by rw [h15]; exact sizeSt) (by rw [h15]; rfl) hone ?_)
                  refine kl.mono ?_
                  rintro e w11 ⟨rfl, hb11⟩
                  have k11 := (hb11.block (wc.heap.size) (Array.getElem?_eq_some_iff.1 k10).1).trans k10
                  have g211 := (hb11.block (w.heap.size + 1) (Array.getElem?_eq_some_iff.1 g2x).1).trans g2x
                  have hb011 := hb10.trans (hb11.mono hb10.size)
                  have HF := setRow_heap _ _ _ cs _ _ g211
                  have hbf := below_row hb011 (g := w.heap.size + 1) (by omega) cs
                  have hSf := (hS10.below hb11).frm (Frm.row (n := n) (by omega) g211 cs) (by decide)
                  clear kl e0 e1 e2 e3 e4 gLx g2x hS10 hb10 hb11 hb011 k10 g9
                  go_wp2_with (first | refine wpList_load_row rfl 54 _ rfl (wc.heap.size) rfl _ _ _ _ k11 Tryz.underlying54 rfl (by rw [h15]; exact sizeSt) ?_ | refine wpList_store_row rfl 54 _ _ rfl (w.heap.size + 1) cs rfl rfl _ _ g211 (by rw [h15]; exact sizeSt) (by rw [h15]; rfl) hone ?_)
                  (try simp only [Exit.inBlock, Exit.then])
                  refine bodyPost_ret (results_st3v rfl _ _ (w.heap.size + 1) cs h15 rfl HF) rfl ?_
                  exact ⟨by rw [HPT.out, E.out]; exact ⟨_, rfl, hSf⟩, hbf⟩
                · have hcb : (ac != 0) = true := by simpa using hc
                  have E : Hid (CP = _) := HC.out.trans (if_neg hc)
                  have HF := setRow_heap _ _ _ #[.int .i64 0, .int .u64 0, .int .i64 0, .int .u64 0, .int .u64 0, .int .i64 0, .slice none 0 0, .slice none 0 0, .int .u64 0, .int .i64 0, .int .i64 0, .int .i64 0, .slice none 0 0, .slice none 0 0, .slice none 0 0] _ _ X2
                  have hbf := below_row hbX (g := w.heap.size + 1) (by omega) #[.int .i64 0, .int .u64 0, .int .i64 0, .int .u64 0, .int .u64 0, .int .i64 0, .slice none 0 0, .slice none 0 0, .int .u64 0, .int .i64 0, .int .i64 0, .int .i64 0, .slice none 0 0, .slice none 0 0, .slice none 0 0]
                  clear HC HMY HRR HOK HPL HNX 
                  go_wp2_with (first | refine wpList_load_row rfl 54 _ rfl (w.heap.size + 1 + 1) rfl _ _ _ _ X3 Tryz.underlying54 rfl (by kernel_rfl) ?_ | refine wpList_store_row rfl 54 _ _ rfl (w.heap.size + 1) _ rfl rfl _ _ X2 (by kernel_rfl) rfl (by simp [Value.oneCell']) ?_)
                  (try simp only [Exit.inBlock, Exit.then])
                  refine bodyPost_ret (results_st3 rfl _ _ (w.heap.size + 1) _ _ _ _ _ _ _ _ _ _ _ _ _ _ _ rfl HF) rfl ?_
                  exact ⟨by rw [HPT.out, E.out]; exact ⟨_, rfl, stV_zero n _⟩, hbf⟩
        · have htb : ((tt : Int) != (tm : Int)) = true := by simp; omega
          have E : Hid (CP = _) := HC2.out.trans (if_pos (.inl htt))
          clear htt
          have HF := setRow_heap _ _ _ #[.int .i64 0, .int .u64 0, .int .i64 0, .int .u64 0, .int .u64 0, .int .i64 0, .slice none 0 0, .slice none 0 0, .int .u64 0, .int .i64 0, .int .i64 0, .int .i64 0, .slice none 0 0, .slice none 0 0, .slice none 0 0] _ _ F2
          have hbf := below_row hb05 (g := w.heap.size + 1) (by omega) #[.int .i64 0, .int .u64 0, .int .i64 0, .int .u64 0, .int .u64 0, .int .i64 0, .slice none 0 0, .slice none 0 0, .int .u64 0, .int .i64 0, .int .i64 0, .int .i64 0, .slice none 0 0, .slice none 0 0, .slice none 0 0]
          clear HC2 HMY HRR HOK HPL HNX HLG5 HKN HKV HLR HML
          go_wp2_with (first | refine wpList_load_row rfl 54 _ rfl (w.heap.size + 1 + 1) rfl _ _ _ _ F3 Tryz.underlying54 rfl (by kernel_rfl) ?_ | refine wpList_store_row rfl 54 _ _ rfl (w.heap.size + 1) _ rfl rfl _ _ F2 (by kernel_rfl) rfl (by simp [Value.oneCell']) ?_)
          (try simp only [Exit.inBlock, Exit.then])
          refine bodyPost_ret (results_st3 rfl _ _ (w.heap.size + 1) _ _ _ _ _ _ _ _ _ _ _ _ _ _ _ rfl HF) rfl ?_
          exact ⟨by rw [HPT.out, E.out]; exact ⟨_, rfl, stV_zero n _⟩, hbf⟩
  · have E : Hid (CP = _) := HC.out.trans (if_neg h2)
    have h2b : (ro != 2) = true := by simpa using h2
    obtain ⟨-, o0, o1, o2, o3, o4, o5, o6, o7, o8, o9, o10, o11, o12, o13⟩ := r14_cells B1
    clear h2
    go_enter Tryz.func29, Tryz.ntmps29
    have HF := setRow_heap _ _ _ #[.int .i64 0, .int .u64 0, .int .i64 0, .int .u64 0, .int .u64 0, .int .i64 0, .slice none 0 0, .slice none 0 0, .int .u64 0, .int .i64 0, .int .i64 0, .int .i64 0, .slice none 0 0, .slice none 0 0, .slice none 0 0] _ _ B2
    have hbf := below_row hb3 (g := w.heap.size + 1) (by omega) #[.int .i64 0, .int .u64 0, .int .i64 0, .int .u64 0, .int .u64 0, .int .i64 0, .slice none 0 0, .slice none 0 0, .int .u64 0, .int .i64 0, .int .i64 0, .int .i64 0, .slice none 0 0, .slice none 0 0, .slice none 0 0]
    clear HC HMY HRR HOK HPL HNX HKT HKN HKV HLR HML HKA
    go_wp2_with (first | refine wpList_load_row rfl 54 _ rfl (w.heap.size + 1 + 1) rfl _ _ _ _ B3 Tryz.underlying54 rfl (by kernel_rfl) ?_ | refine wpList_store_row rfl 54 _ _ rfl (w.heap.size + 1) _ rfl rfl _ _ B2 (by kernel_rfl) rfl (by simp [Value.oneCell']) ?_)
    (try simp only [Exit.inBlock, Exit.then])
    refine bodyPost_ret (results_st3 rfl _ _ (w.heap.size + 1) _ _ _ _ _ _ _ _ _ _ _ _ _ _ _ rfl HF) rfl ?_
    exact ⟨by rw [HPT.out, E.out]; exact ⟨_, rfl, stV_zero n _⟩, hbf⟩
end Go.Proofs.YtncoandnelgkeaaGreat

/- The document's Propose. -/
namespace Go.Proofs.YtncoandnelgkeaaGreat
open Go.RowKit QuorumMath RlogMath RaftMath
set_option maxRecDepth 100000
set_option linter.unusedSimpArgs false
set_option linter.unusedVariables false

set_option maxHeartbeats 32000000 in
theorem rprop_kn (n : Nat) (r : Mr) (v : Value) (k : Int) (d : List Nat) (ds : Sl) (w : World) (hS : RsV n w v r) (hn : n ≤ w.heap.size) (hD : RdN byteE 5 n w (.slice ds.1 ds.2.1 ds.2.2) d) (hdc : ∀ c ∈ d, c < 256) (hdn : d.length ≤ 1000000) (hm : mayB r.base r.log = true) (hk : ¬ k = 2) (htm : r.term < 18446744073709551616) (hbo : OkM r.base) (hlo : ∀ e ∈ r.log, OkM e) (hlg : r.log.length ≤ 1000000) (hpl : r.peers.length ≤ 1000000) (hnx : ∀ p ∈ r.peers, p.next < 18446744073709551616) : Calls Tryz.prog 29 #[v, .int .i64 k, .slice ds.1 ds.2.1 ds.2.2] w fun e w' => PrpT n (propR r k d) e w' ∧ Below w.heap.size w w' := by
  have HK : Hid _ := hk
  clear hk
  have HPM : Hid (propR r k d = if r.role = 2 then (if (appM r.base r.log r.term k d).1 = 1 ∨ k = 0 then (⟨zeroR, []⟩, 0, 1) else if k = 2 ∧ ((termM r.base r.log r.commit).getD 0 ≠ r.term ∨ ∃ e ∈ r.log, e.kind = 2 ∧ r.commit < e.idx) then (⟨zeroR, []⟩, 0, 9)
    else if k = 2 ∧ (1 : Int) < ((nodesI d).length : Int) + ((votR r).length : Int) - 2 * (cnt (nodesI d) (votR r) : Nat) then (⟨zeroR, []⟩, 0, 1)
    else if (appM r.base r.log r.term k d).1 = 0 then (settleR ⟨{ r with base := (appM r.base r.log r.term k d).2.1, log := (appM r.base r.log r.term k d).2.2 }, []⟩, (lastM (appM r.base r.log r.term k d).2.1 (appM r.base r.log r.term k d).2.2).1, 0)
    else (⟨zeroR, []⟩, 0, (appM r.base r.log r.term k d).1)) else (⟨zeroR, []⟩, 0, 4)) := rfl
  obtain ⟨CP, HC⟩ : ∃ CP, Hid (CP = propR r k d) := ⟨_, rfl⟩
  rw [← HC.out]
  obtain ⟨PT, HPT⟩ : ∃ P, Hid (P = PrpT n CP) := ⟨_, rfl⟩
  rw [← HPT.out]
  rw [HPM.out] at HC
  obtain ⟨z, rfl, hz, hR⟩ := hS
  obtain ⟨r', zs, ⟨ba, bn, bc⟩, ⟨la, ln, lc⟩, ⟨va, vn, vc⟩, ⟨pa, pn, pc⟩⟩ := z
  obtain rfl : r' = r := hz
  obtain ⟨da, dn, dc⟩ := ds
  have hml : mes zs = r'.log := hR.2.2.1
  have hzl : zs.length ≤ 1000000 := by have := congrArg List.length hml; rw [List.length_map] at this; omega
  have hzo := okz_of hml hlo
  obtain ⟨a', c', hls, -, -⟩ := hR.2.1.1.rd.shape
  simp only [slv, Value.slice.injEq] at hls
  have hln : ln = zs.length := hls.2.1
  clear hls a' c'
  subst hln
  have HVL : Hid ((votR r').length ≤ 1000000) := by show (votM _ _).length ≤ _; have := may_vlen hm; omega
  have HNL : Hid ((nodesI d).length ≤ 1000000) := by show _ ≤ _; rw [nodesI_len]; exact hdn
  have HOK : Hid (_ ∧ _ ∧ _) := app_okM (t := r'.term) (k := k) (d := d) hbo hlo htm hdc (by omega)
  have HMY : Hid (_ → _) := app_may (b := r'.base) (l := r'.log) (t := r'.term) (k := k) (d := d)
  have HLGB : Hid (r'.log.length ≤ 1000000) := hlg
  have HPL : Hid (r'.peers.length ≤ 1000000) := hpl
  have HNX : Hid (∀ p ∈ r'.peers, p.next < 18446744073709551616) := hnx
  have HKA : Hid (∀ W, Below w.heap.size w W → _) := fun W hW => rapp_n n (r'.base, ba, bn, bc) zs (.slice la zs.length lc) r'.term k d (da, dn, dc) W (hR.1.below hW) (hR.2.1.below hW) ⟨hbo.1, hbo.2.1, hbo.2.2.1⟩ (fun z hz => (hzo z hz).1) (hD.below hW) hdc (by omega) hbo.2.2.2
  have HKT : Hid (∀ W, Below w.heap.size w W → _) := fun W hW => rterm_of (r'.base, ba, bn, bc) zs (.slice la zs.length lc) r'.commit W (hR.2.1.below hW).v (by omega)
  have HKN : Hid (∀ W, Below w.heap.size w W → _) := fun W hW => nodes_of d (.slice da dn dc) W (hD.below hW).rd (by omega) hdc
  have HKV : Hid (∀ W, Below w.heap.size w W → _) := fun W hW => rvot_k (r'.base, ba, bn, bc) zs (.slice la zs.length lc) W (hR.1.below hW).v (hR.2.1.below hW).v ⟨hbo.1, hbo.2.1, hbo.2.2.1⟩ (fun z hz => (hzo z hz).1) (by omega) hbo.2.2.2 (fun z hz => (hzo z hz).2)
  have HLR : Hid (∀ W, Below w.heap.size w W → Rd entE W (.slice la zs.length lc) zs) := fun W hW => hR.2.1.1.rd.below hW
  have HRR : Hid (∀ W, Below w.heap.size w W → RdN intE 3 n W (.slice va vn vc) r'.votes ∧ RdN peerN 71 n W (.slice pa pn pc) r'.peers) := fun W hW => ⟨hR.2.2.2.1.below hW, hR.2.2.2.2.below hW⟩
  have HML : Hid (mes zs = r'.log) := hml
  rw [hml] at HKA HKT HKV
  have HKV : Hid (∀ W, Below w.heap.size w W → Calls Tryz.prog 21 #[lgv (r'.base, ba, bn, bc) (.slice la zs.length lc)] W fun e w' => ∃ v, e = .returned v ∧ Rk intE w' 3 v (votR r') ∧ Below W.heap.size W w') := HKV
  obtain ⟨DF, HDF⟩ : ∃ DF : Int, Hid (((nodesI d).length : Int) + ((votR r').length : Int) - 2 * (cnt (nodesI d) (votR r') : Nat) = DF) := ⟨_, rfl⟩
  rw [HDF.out] at HC
  have HZL0 : Hid (zs.length ≤ 1000000) := hzl
  generalize votR r' = VR at *
  clear hR hml hzl hzo hbo hlo hlg hpl hnx hm hdc hdn hD htm HPM
  obtain ⟨nd, tm, vo, ⟨bi, bt, bk, bd⟩, lg, cm, ro, le, el, vt, pe⟩ := r'
  dsimp only [rv] at *
  generalize appM ⟨bi, bt, bk, bd⟩ lg tm k d = AM at *
  obtain ⟨ac, ⟨ai, at_, ak, ad⟩, al⟩ := AM
  dsimp only [lgv] at *
  obtain ⟨hsz, B1, B2, B3, hb3⟩ := three_box w (.cells #[.int .i64 nd, .int .u64 (tm : Int), .int .i64 vo, .int .u64 (bi : Int), .int .u64 (bt : Int), .int .i64 bk, .slice ba bn bc, .slice la zs.length lc, .int .u64 (cm : Int), .int .i64 ro, .int .i64 le, .int .i64 el, .slice va vn vc, .slice pa pn pc] 32) (.cells #[.int .i64 0, .int .u64 0, .int .i64 0, .int .u64 0, .int .u64 0, .int .i64 0, .slice none 0 0, .slice none 0 0, .int .u64 0, .int .i64 0, .int .i64 0, .int .i64 0, .slice none 0 0, .slice none 0 0, .slice none 0 0] 54) (.cells #[.int .i64 0, .int .u64 0, .int .i64 0, .int .u64 0, .int .u64 0, .int .i64 0, .slice none 0 0, .slice none 0 0, .int .u64 0, .int .i64 0, .int .i64 0, .int .i64 0, .slice none 0 0, .slice none 0 0, .slice none 0 0] 54)
  by_cases h2 : ro = 2
  · rw [if_pos h2] at HC
    have k1 := HKA.out _ hb3
    obtain ⟨-, o0, o1, o2, o3, o4, o5, o6, o7, o8, o9, o10, o11, o12, o13⟩ := r14_cells B1
    subst h2
    clear HKA
    go_enter Tryz.func29, Tryz.ntmps29
    go_wp2_with fail
    refine k1.mono ?_
    rintro e w3 ⟨⟨v3, rfl, hL3⟩, hbx⟩
    rw [hsz] at hbx
    obtain ⟨⟨sa, sn, sc⟩, zs2, ⟨xa, xn, xc⟩, rfl, hD3, hE3, hm3⟩ := hL3
    dsimp only [lgv] at *
    have C1 := (hbx.block (w.heap.size) (by omega)).trans B1
    have C2 := (hbx.block (w.heap.size + 1) (by omega)).trans B2
    have C3 := (hbx.block (w.heap.size + 1 + 1) (by omega)).trans B3
    have hb03 := hb3.trans (hbx.mono (by omega))
    have HLG3 : Hid (∀ W, Below w3.heap.size w3 W → DataN n W (⟨ai, at_, ak, ad⟩, sa, sn, sc) ∧ EntsN n W (.slice xa xn xc) zs2 ∧ mes zs2 = al) := fun W hW => ⟨hD3.below hW, hE3.below hW, hm3⟩
    clear o0 o1 o2 o3 o4 o5 o6 o7 o8 o9 o10 o11 o12 o13
    clear k1 hbx B1 B2 B3 hsz hb3 hD3 hE3 hm3
    obtain ⟨z4, DL, q4⟩ := one_box w3 (.cells #[.int .u64 (ai : Int), .int .u64 (at_ : Int), .int .i64 ak, .slice sa sn sc, .slice xa xn xc] 28)
    have D1 := (q4.block (w.heap.size) (Array.getElem?_eq_some_iff.1 C1).1).trans C1
    have D2 := (q4.block (w.heap.size + 1) (Array.getElem?_eq_some_iff.1 C2).1).trans C2
    have D3 := (q4.block (w.heap.size + 1 + 1) (Array.getElem?_eq_some_iff.1 C3).1).trans C3
    have hb4 := hb03.trans (q4.mono hb03.size)
    obtain ⟨w4, hw4⟩ : ∃ w4, w3.alloc (.cells #[.int .u64 (ai : Int), .int .u64 (at_ : Int), .int .i64 ak, .slice sa sn sc, .slice xa xn xc] 28) = w4 := ⟨_, rfl⟩
    rw [hw4] at z4 DL q4 D1 D2 D3 hb4
    have HLG : Hid (∀ W, Below w4.heap.size w4 W → DataN n W (⟨ai, at_, ak, ad⟩, sa, sn, sc) ∧ EntsN n W (.slice xa xn xc) zs2 ∧ mes zs2 = al) := fun W hW => HLG3.out W (q4.trans (hW.mono q4.size))
    clear C1 C2 C3 hb03 HLG3 q4 z4
    obtain ⟨-, o0, o1, o2, o3, o4, o5, o6, o7, o8, o9, o10, o11, o12, o13⟩ := r14_cells D1
    by_cases ha1 : ac = 1
    · have E : Hid (CP = _) := HC.out.trans (if_pos (.inl ha1))
      subst ha1
      have HF := setRow_heap _ _ _ #[.int .i64 0, .int .u64 0, .int .i64 0, .int .u64 0, .int .u64 0, .int .i64 0, .slice none 0 0, .slice none 0 0, .int .u64 0, .int .i64 0, .int .i64 0, .int .i64 0, .slice none 0 0, .slice none 0 0, .slice none 0 0] _ _ D2
      have hbf := below_row hb4 (g := w.heap.size + 1) (by omega) #[.int .i64 0, .int .u64 0, .int .i64 0, .int .u64 0, .int .u64 0, .int .i64 0, .slice none 0 0, .slice none 0 0, .int .u64 0, .int .i64 0, .int .i64 0, .int .i64 0, .slice none 0 0, .slice none 0 0, .slice none 0 0]
      clear HC HMY HRR HOK HPL HNX HLG HKT HKN HKV HLR HML
      go_wp2_with (first | refine wpList_load_row rfl 54 _ rfl (w.heap.size + 1 + 1) rfl _ _ _ _ D3 Tryz.underlying54 rfl (by kernel_rfl) ?_ | refine wpList_store_row rfl 54 _ _ rfl (w.heap.size + 1) _ rfl rfl _ _ D2 (by kernel_rfl) rfl (by simp [Value.oneCell']) ?_)
      (try simp only [Exit.inBlock, Exit.then])
      refine bodyPost_ret (results_st3 rfl _ _ (w.heap.size + 1) _ _ _ _ _ _ _ _ _ _ _ _ _ _ _ rfl HF) rfl ?_
      exact ⟨by rw [HPT.out, E.out]; exact ⟨_, rfl, stV_zero n _⟩, hbf⟩
    · have ha1b : (ac == 1) = false := by simpa using ha1
      by_cases hk0 : k = 0
      · have E : Hid (CP = _) := HC.out.trans (if_pos (.inr hk0))
        subst hk0
        clear ha1
        have HF := setRow_heap _ _ _ #[.int .i64 0, .int .u64 0, .int .i64 0, .int .u64 0, .int .u64 0, .int .i64 0, .slice none 0 0, .slice none 0 0, .int .u64 0, .int .i64 0, .int .i64 0, .int .i64 0, .slice none 0 0, .slice none 0 0, .slice none 0 0] _ _ D2
        have hbf := below_row hb4 (g := w.heap.size + 1) (by omega) #[.int .i64 0, .int .u64 0, .int .i64 0, .int .u64 0, .int .u64 0, .int .i64 0, .slice none 0 0, .slice none 0 0, .int .u64 0, .int .i64 0, .int .i64 0, .int .i64 0, .slice none 0 0, .slice none 0 0, .slice none 0 0]
        clear HC HMY HRR HOK HPL HNX HLG HKT HKN HKV HLR HML
        go_wp2_with (first | refine wpList_load_row rfl 54 _ rfl (w.heap.size + 1 + 1) rfl _ _ _ _ D3 Tryz.underlying54 rfl (by kernel_rfl) ?_ | refine wpList_store_row rfl 54 _ _ rfl (w.heap.size + 1) _ rfl rfl _ _ D2 (by kernel_rfl) rfl (by simp [Value.oneCell']) ?_)
        (try simp only [Exit.inBlock, Exit.then])
        refine bodyPost_ret (results_st3 rfl _ _ (w.heap.size + 1) _ _ _ _ _ _ _ _ _ _ _ _ _ _ _ rfl HF) rfl ?_
        exact ⟨by rw [HPT.out, E.out]; exact ⟨_, rfl, stV_zero n _⟩, hbf⟩
      · have hk0b : (k == 0) = false := by simpa using hk0
        rw [if_neg (fun h => h.elim ha1 hk0)] at HC
        clear ha1 hk0
        have hk2 : ¬ k = 2 := HK.out
        have hk2b : (k == 2) = false := by simpa using hk2
        rw [if_neg (fun h => hk2 h.1), if_neg (fun h => hk2 h.1)] at HC
        clear hk2 HKT HKN HKV HLR HML
        have hwL : w.heap.size ≤ w4.heap.size := hb4.size
        have hnL : n ≤ w4.heap.size := Nat.le_trans hn hwL
        by_cases hc : ac = 0
        · have E : Hid (CP = _) := HC.out.trans (if_pos hc)
          have hmy2 := HMY.out hc
          have hnew := HRR.out w4 hb4
          have hlog := HLG.out w4 (Below.refl _ _)
          have hs1 : w.heap.size + 1 < w4.heap.size := (Array.getElem?_eq_some_iff.1 D2).1
          have hs3 : w3.heap.size < w4.heap.size := (Array.getElem?_eq_some_iff.1 DL).1
          subst hc
          have q5 : Below w4.heap.size w4 (w4.alloc (.cells #[.int .i64 nd, .int .u64 (tm : Int), .int .i64 vo, .int .u64 (bi : Int), .int .u64 (bt : Int), .int .i64 bk, .slice ba bn bc, .slice la zs.length lc, .int .u64 (cm : Int), .int .i64 2, .int .i64 le, .int .i64 el, .slice va vn vc, .slice pa pn pc, .slice none 0 0] 54)) := (Below.refl _ _).alloc (Nat.le_refl _) _
          have G5 : (w4.alloc (.cells #[.int .i64 nd, .int .u64 (tm : Int), .int .i64 vo, .int .u64 (bi : Int), .int .u64 (bt : Int), .int .i64 bk, .slice ba bn bc, .slice la zs.length lc, .int .u64 (cm : Int), .int .i64 2, .int .i64 le, .int .i64 el, .slice va vn vc, .slice pa pn pc, .slice none 0 0] 54)).heap[w4.heap.size]? = some (.cells #[.int .i64 nd, .int .u64 (tm : Int), .int .i64 vo, .int .u64 (bi : Int), .int .u64 (bt : Int), .int .i64 bk, .slice ba bn bc, .slice la zs.length lc, .int .u64 (cm : Int), .int .i64 2, .int .i64 le, .int .i64 el, .slice va vn vc, .slice pa pn pc, .slice none 0 0] 54) := heap_alloc_new _ _
          have GL := (q5.block w3.heap.size hs3).trans DL
          obtain ⟨⟨f0, f1, f2, f3, f4, f5, f6, f7, f8, f9, f10, f11, f12, f13, f14⟩, p0, p1, p2, p3, p4, p5, p6, p7, p8, p9, p10, p11, p12, p13, p14⟩ := r15_cells G5
          obtain ⟨-, e0, e1, e2, e3, e4⟩ := lg_cells GL
          obtain ⟨z6, g6, q6⟩ := one_box w4 (.cells #[.int .i64 nd, .int .u64 (tm : Int), .int .i64 vo, .int .u64 (ai : Int), .int .u64 (at_ : Int), .int .i64 ak, .slice sa sn sc, .slice xa xn xc, .int .u64 (cm : Int), .int .i64 2, .int .i64 le, .int .i64 el, .slice va vn vc, .slice pa pn pc, .slice none 0 0] 54)
          obtain ⟨W6, hW6⟩ : ∃ W, w4.alloc (.cells #[.int .i64 nd, .int .u64 (tm : Int), .int .i64 vo, .int .u64 (ai : Int), .int .u64 (at_ : Int), .int .i64 ak, .slice sa sn sc, .slice xa xn xc, .int .u64 (cm : Int), .int .i64 2, .int .i64 le, .int .i64 el, .slice va vn vc, .slice pa pn pc, .slice none 0 0] 54) = W := ⟨_, rfl⟩
          rw [hW6] at z6 g6 q6
          have g26 := (q6.block (w.heap.size + 1) hs1).trans D2
          have gL6 := (q6.block w3.heap.size hs3).trans DL
          have hb6 := hb4.trans (q6.mono hwL)
          have hD6 := hlog.1.below q6
          have hE6 := hlog.2.1.below q6
          have hS6 : StV n W6 (.agg #[.int .i64 nd, .int .u64 (tm : Int), .int .i64 vo, .int .u64 (ai : Int), .int .u64 (at_ : Int), .int .i64 ak, .slice sa sn sc, .slice xa xn xc, .int .u64 (cm : Int), .int .i64 2, .int .i64 le, .int .i64 el, .slice va vn vc, .slice pa pn pc, .slice none 0 0]) ⟨⟨nd, tm, vo, ⟨ai, at_, ak, ad⟩, al, cm, 2, le, el, vt, pe⟩, []⟩ := ⟨⟨⟨nd, tm, vo, ⟨ai, at_, ak, ad⟩, al, cm, 2, le, el, vt, pe⟩, zs2, (sa, sn, sc), (xa, xn, xc), (va, vn, vc), (pa, pn, pc)⟩, [], (none, 0, 0), rfl, rfl, ⟨hD6, hE6, hlog.2.2, hnew.1.below q6, hnew.2.below q6⟩, ⟨RdN.nil _ _ _ _, by simp⟩, rfl⟩
          have ks := settle_of n _ _ _ hS6 (Nat.le_trans hn hb6.size) HOK.out.1 HOK.out.2.1 (by have := HOK.out.2.2; have := HLGB.out; dsimp only at *; omega) (by dsimp only; exact HPL.out) (by have := may_vlen hmy2; show (votM _ _).length ≤ _; dsimp only; omega) (by simp) (by have h1 := (may_last hmy2).1; have h2 := (may_last hmy2).2; show (lastM _ _).1 + 1 < _; dsimp only at *; omega) HNX.out
          have HE6 : Hid (∀ W, Frm n [54] W6 W → EntsV W (.slice xa xn xc) zs2) := fun W hW => (hE6.frm hW (by decide) (by decide)).v
          have HZ2 : Hid (mes zs2 = al) := hlog.2.2
          have HZL : Hid (zs2.length ≤ 1000000000000) := by have h1 := congrArg List.length hlog.2.2; rw [List.length_map] at h1; have := (may_last hmy2).2.2; show _ ≤ _; omega
          generalize settleR ⟨⟨nd, tm, vo, ⟨ai, at_, ak, ad⟩, al, cm, 2, le, el, vt, pe⟩, []⟩ = SR at *
          clear hD6 hE6 hS6 hlog hnew q5 GL z6 q6 HC hmy2 HMY HRR HOK HPL HNX G5 
          have HW6 : Hid (_ = W6) := hW6
          clear hW6
          go_wp2_with (refine wpList_load_row rfl 32 _ rfl (w.heap.size) rfl _ _ _ _ D1 Tryz.underlying32 rfl (by kernel_rfl) ?_)
          rw [HW6.out]
          refine ks.mono ?_
          rintro e w9 ⟨v9, rfl, hS9, hb9⟩
          obtain ⟨cs, rfl, h15, hone⟩ := hS9.shape
          have g9 := (hb9.block (w4.heap.size) (Array.getElem?_eq_some_iff.1 g6).1).trans g6
          have g29 := (hb9.block (w.heap.size + 1) (Array.getElem?_eq_some_iff.1 g26).1).trans g26
          have gL9 := (hb9.block w3.heap.size (Array.getElem?_eq_some_iff.1 gL6).1).trans gL6
          have hb09 := hb6.trans (hb9.mono hb6.size)
          have fr9 := (Frm.of_below [54] hb9 (Nat.le_trans hn hb6.size)).trans (Frm.row (n := n) hnL g9 cs)
          obtain ⟨W10, hW10⟩ : ∃ W, w9.setRow (w4.heap.size) cs = W := ⟨_, rfl⟩
          have k10 : W10.heap[w4.heap.size]? = _ := hW10 ▸ setRow_heap _ _ _ cs _ _ g9
          have g2x : W10.heap[w.heap.size + 1]? = _ := hW10 ▸ (setRow_other w9 (w4.heap.size) (w.heap.size + 1) cs (by omega)).trans g29
          have gLx : W10.heap[w3.heap.size]? = _ := hW10 ▸ (setRow_other w9 (w4.heap.size) w3.heap.size cs (by omega)).trans gL9
          have hb10 : Below w.heap.size w W10 := hW10 ▸ below_row hb09 (g := w4.heap.size) hwL cs
          have hS10 : StV n W10 (.agg cs) SR := hW10 ▸ hS9.frm (Frm.row (n := n) hnL g9 cs) (by decide)
          rw [hW10] at fr9
          have kl := rlast_of (⟨ai, at_, ak, ad⟩, sa, sn, sc) zs2 (.slice xa xn xc) W10 (HE6.out W10 fr9) HZL.out
          rw [HZ2.out] at kl
          dsimp only [lgv, lastV] at kl
          clear HW6
          clear ks fr9 g29 gL9 hb09 hS9 hb9 hb6 g26 gL6 HE6 f0 f1 f2 f3 f4 f5 f6 f7 f8 f9 f10 f11 f12 f13 f14 p0 p1 p2 p3 p4 p5 p6 p7 p8 p9 p10 p11 p12 p13 p14 e0 e1 e2 e3 e4
          obtain ⟨-, e0, e1, e2, e3, e4⟩ := lg_cells gLx
          generalize lastM ⟨ai, at_, ak, ad⟩ al = LM at *
          go_wp2_with (refine wpList_store_row rfl 54 _ _ rfl (w4.heap.size) cs rfl rfl _ _ g9 (by rw [h15]; exact sizeSt) (by rw [h15]; rfl) hone ?_)
          refine kl.mono ?_
          rintro e w11 ⟨rfl, hb11⟩
          have k11 := (hb11.block (w4.heap.size) (Array.getElem?_eq_some_iff.1 k10).1).trans k10
          have g211 := (hb11.block (w.heap.size + 1) (Array.getElem?_eq_some_iff.1 g2x).1).trans g2x
          have hb011 := hb10.trans (hb11.mono hb10.size)
          have HF := setRow_heap _ _ _ cs _ _ g211
          have hbf := below_row hb011 (g := w.heap.size + 1) (by omega) cs
          have hSf := (hS10.below hb11).frm (Frm.row (n := n) (by omega) g211 cs) (by decide)
          clear kl e0 e1 e2 e3 e4 gLx g2x hS10 hb10 hb11 hb011 k10 g9
          go_wp2_with (first | refine wpList_load_row rfl 54 _ rfl (w4.heap.size) rfl _ _ _ _ k11 Tryz.underlying54 rfl (by rw [h15]; exact sizeSt) ?_ | refine wpList_store_row rfl 54 _ _ rfl (w.heap.size + 1) cs rfl rfl _ _ g211 (by rw [h15]; exact sizeSt) (by rw [h15]; rfl) hone ?_)
          (try simp only [Exit.inBlock, Exit.then])
          refine bodyPost_ret (results_st3v rfl _ _ (w.heap.size + 1) cs h15 rfl HF) rfl ?_
          exact ⟨by rw [HPT.out, E.out]; exact ⟨_, rfl, hSf⟩, hbf⟩
        · have hcb : (ac != 0) = true := by simpa using hc
          have E : Hid (CP = _) := HC.out.trans (if_neg hc)
          have HF := setRow_heap _ _ _ #[.int .i64 0, .int .u64 0, .int .i64 0, .int .u64 0, .int .u64 0, .int .i64 0, .slice none 0 0, .slice none 0 0, .int .u64 0, .int .i64 0, .int .i64 0, .int .i64 0, .slice none 0 0, .slice none 0 0, .slice none 0 0] _ _ D2
          have hbf := below_row hb4 (g := w.heap.size + 1) (by omega) #[.int .i64 0, .int .u64 0, .int .i64 0, .int .u64 0, .int .u64 0, .int .i64 0, .slice none 0 0, .slice none 0 0, .int .u64 0, .int .i64 0, .int .i64 0, .int .i64 0, .slice none 0 0, .slice none 0 0, .slice none 0 0]
          clear HC HMY HRR HOK HPL HNX 
          go_wp2_with (first | refine wpList_load_row rfl 54 _ rfl (w.heap.size + 1 + 1) rfl _ _ _ _ D3 Tryz.underlying54 rfl (by kernel_rfl) ?_ | refine wpList_store_row rfl 54 _ _ rfl (w.heap.size + 1) _ rfl rfl _ _ D2 (by kernel_rfl) rfl (by simp [Value.oneCell']) ?_)
          (try simp only [Exit.inBlock, Exit.then])
          refine bodyPost_ret (results_st3 rfl _ _ (w.heap.size + 1) _ _ _ _ _ _ _ _ _ _ _ _ _ _ _ rfl HF) rfl ?_
          exact ⟨by rw [HPT.out, E.out]; exact ⟨_, rfl, stV_zero n _⟩, hbf⟩
  · have E : Hid (CP = _) := HC.out.trans (if_neg h2)
    have h2b : (ro != 2) = true := by simpa using h2
    obtain ⟨-, o0, o1, o2, o3, o4, o5, o6, o7, o8, o9, o10, o11, o12, o13⟩ := r14_cells B1
    clear h2
    go_enter Tryz.func29, Tryz.ntmps29
    have HF := setRow_heap _ _ _ #[.int .i64 0, .int .u64 0, .int .i64 0, .int .u64 0, .int .u64 0, .int .i64 0, .slice none 0 0, .slice none 0 0, .int .u64 0, .int .i64 0, .int .i64 0, .int .i64 0, .slice none 0 0, .slice none 0 0, .slice none 0 0] _ _ B2
    have hbf := below_row hb3 (g := w.heap.size + 1) (by omega) #[.int .i64 0, .int .u64 0, .int .i64 0, .int .u64 0, .int .u64 0, .int .i64 0, .slice none 0 0, .slice none 0 0, .int .u64 0, .int .i64 0, .int .i64 0, .int .i64 0, .slice none 0 0, .slice none 0 0, .slice none 0 0]
    clear HC HMY HRR HOK HPL HNX HKT HKN HKV HLR HML HKA
    go_wp2_with (first | refine wpList_load_row rfl 54 _ rfl (w.heap.size + 1 + 1) rfl _ _ _ _ B3 Tryz.underlying54 rfl (by kernel_rfl) ?_ | refine wpList_store_row rfl 54 _ _ rfl (w.heap.size + 1) _ rfl rfl _ _ B2 (by kernel_rfl) rfl (by simp [Value.oneCell']) ?_)
    (try simp only [Exit.inBlock, Exit.then])
    refine bodyPost_ret (results_st3 rfl _ _ (w.heap.size + 1) _ _ _ _ _ _ _ _ _ _ _ _ _ _ _ rfl HF) rfl ?_
    exact ⟨by rw [HPT.out, E.out]; exact ⟨_, rfl, stV_zero n _⟩, hbf⟩
end Go.Proofs.YtncoandnelgkeaaGreat

