import Derived.Test.YtncoandnelgkeaaGreatHa19
import Derived.Test.YtncoandnelgkeaaGreatHa06
import Derived.Test.YtncoandnelgkeaaGreatHa29
/- The document's commit: what a majority has. -/
namespace Go.Proofs.YtncoandnelgkeaaGreat
open Go.RowKit QuorumMath RlogMath RaftMath
set_option maxRecDepth 100000
set_option linter.unusedSimpArgs false
set_option linter.unusedVariables false

set_option maxHeartbeats 8000000 in
theorem com_of (n : Nat) (s : Ms) (v : Value) (w : World) (hS : StV n w v s) (hn : n ≤ w.heap.size) (hbo : OkM s.r.base) (hlo : ∀ e ∈ s.r.log, OkM e) (hlg : s.r.log.length ≤ 1000000000) (hpl : s.r.peers.length ≤ 1000000) : Calls Tryz.prog 98 #[v] w fun e w' => ∃ v', e = .returned v' ∧ StV n w' v' (comR s) ∧ Below w.heap.size w w' := by
  have HS : Hid (∀ W, Below w.heap.size w W → StV n W v s) := fun W hW => hS.below hW
  obtain ⟨z, gs, os, rfl, hz, hR, hM, ho⟩ := hS
  obtain ⟨r, zs, ⟨ba, bn, bc⟩, ⟨la, ln, lc⟩, ⟨va, vn, vc⟩, ⟨pa, pn, pc⟩⟩ := z
  obtain ⟨sr, so⟩ := s
  obtain rfl : r = sr := hz
  obtain ⟨nd, tm, vo, ⟨bi, bt, bk, bd⟩, lg, cm, ro, le, el, vt, pe⟩ := r
  obtain ⟨oa, on, oc⟩ := os
  dsimp only at ho hlg hbo hlo hpl
  dsimp only [sv] at *
  have hml : mes zs = lg := hR.2.2.1
  have hzl : zs.length ≤ 1000000000 := by have := congrArg List.length hml; rw [List.length_map] at this; omega
  have hzo := okz_of hml hlo
  have HV : Hid (∀ W, Below w.heap.size w W → _) := fun W hW => rvot_of (⟨bi, bt, bk, bd⟩, ba, bn, bc) zs (.slice la ln lc) W (hR.1.below hW).v (hR.2.1.below hW).v ⟨hbo.1, hbo.2.1, hbo.2.2.1⟩ (fun z hz => (hzo z hz).1) (by omega) hbo.2.2.2 (fun z hz => (hzo z hz).2)
  have HT : Hid (∀ x W, Below w.heap.size w W → _) := fun x W hW => rterm_of (⟨bi, bt, bk, bd⟩, ba, bn, bc) zs (.slice la ln lc) x W (hR.2.1.below hW).v (by omega)
  have HP : Hid (∀ W, Below w.heap.size w W → Rd peerE W (.slice pa pn pc) (pe.map pr)) := fun W hW => rdpn_pr (hR.2.2.2.2.rd.below hW)
  rw [hml] at HV HT
  have hvl : (votM ⟨bi, bt, bk, bd⟩ lg).length ≤ 1000000000 := by
    unfold votM
    rw [nodesI_len]
    exact votF_len _ _ (fun e he => (hlo e he).2.2.2) hbo.2.2.2
  obtain ⟨C, hC⟩ : ∃ C, Hid (comM (votM ⟨bi, bt, bk, bd⟩ lg) (pe.map pr) = C) := ⟨_, rfl⟩
  have HC : Hid (∀ W, Below w.heap.size w W → StV n W (.agg #[.int .i64 nd, .int .u64 (tm : Int), .int .i64 vo, .int .u64 (bi : Int), .int .u64 (bt : Int), .int .i64 bk, .slice ba bn bc, .slice la ln lc, .int .u64 (C : Int), .int .i64 ro, .int .i64 le, .int .i64 el, .slice va vn vc, .slice pa pn pc, .slice oa on oc]) ⟨⟨nd, tm, vo, ⟨bi, bt, bk, bd⟩, lg, C, ro, le, el, vt, pe⟩, so⟩) := fun W hW => ⟨⟨⟨nd, tm, vo, ⟨bi, bt, bk, bd⟩, lg, C, ro, le, el, vt, pe⟩, zs, (ba, bn, bc), (la, ln, lc), (va, vn, vc), (pa, pn, pc)⟩, gs, (oa, on, oc), rfl, rfl, hR.below hW, hM.below hW, ho⟩
  have HE : Hid (comR ⟨⟨nd, tm, vo, ⟨bi, bt, bk, bd⟩, lg, cm, ro, le, el, vt, pe⟩, so⟩ = if cm < C ∧ termM ⟨bi, bt, bk, bd⟩ lg C = some tm then ⟨⟨nd, tm, vo, ⟨bi, bt, bk, bd⟩, lg, C, ro, le, el, vt, pe⟩, so⟩ else ⟨⟨nd, tm, vo, ⟨bi, bt, bk, bd⟩, lg, cm, ro, le, el, vt, pe⟩, so⟩) := by
    show _ = _
    rw [← hC.out]
    rfl
  obtain ⟨hsz, B1, B2, hb2⟩ := two_box w (.cells #[.int .i64 nd, .int .u64 (tm : Int), .int .i64 vo, .int .u64 (bi : Int), .int .u64 (bt : Int), .int .i64 bk, .slice ba bn bc, .slice la ln lc, .int .u64 (cm : Int), .int .i64 ro, .int .i64 le, .int .i64 el, .slice va vn vc, .slice pa pn pc, .slice oa on oc] 54) (.cells #[.int .i64 0, .int .u64 0, .int .i64 0, .int .u64 0, .int .u64 0, .int .i64 0, .slice none 0 0, .slice none 0 0, .int .u64 0, .int .i64 0, .int .i64 0, .int .i64 0, .slice none 0 0, .slice none 0 0, .slice none 0 0] 54)
  have hplm : (pe.map pr).length ≤ 1000000 := by rw [List.length_map]; exact hpl
  clear hR hM ho hbo hlo hzo hml hzl hlg hpl
  go_enter Tryz.func98, Tryz.ntmps98
  go_wp2
  generalize (w.alloc (.cells #[.int .i64 nd, .int .u64 (tm : Int), .int .i64 vo, .int .u64 (bi : Int), .int .u64 (bt : Int), .int .i64 bk, .slice ba bn bc, .slice la ln lc, .int .u64 (cm : Int), .int .i64 ro, .int .i64 le, .int .i64 el, .slice va vn vc, .slice pa pn pc, .slice oa on oc] 54)).alloc (.cells #[.int .i64 0, .int .u64 0, .int .i64 0, .int .u64 0, .int .u64 0, .int .i64 0, .slice none 0 0, .slice none 0 0, .int .u64 0, .int .i64 0, .int .i64 0, .int .i64 0, .slice none 0 0, .slice none 0 0, .slice none 0 0] 54) = w5 at *
  refine wp_region_L (fun W => Below w5.heap.size w5 W) [] (by kernel_rfl) ?_
  have hbd : Below w5.heap.size w5 w5.drew := (Below.refl _ w5).drew
  generalize w5.drew = wd at *
  have HCL : Hid (∀ W, Below w5.heap.size w5 W → _) := fun W hW => r15_cells ((hW.block w.heap.size (by omega)).trans B1)
  have kv := HV.out wd (hb2.trans (hbd.mono hb2.size))
  dsimp only [lgv] at kv
  refine wpAnyL_take 0 rfl (by kernel_rfl) (by kernel_rfl) (by kernel_rfl) (by kernel_rfl) (fun _ _ _ h => h) (wanted_none rfl) (by intro w' hS'; have hz := hS'; obtain ⟨-, c0, c1, c2, c3, c4, c5, c6, c7, c8, c9, c10, c11, c12, c13, c14⟩ := HCL.out _ hz; go_simp <;> rfl) hbd ?_
  try simp only [List.getElem_toArray, List.getElem_cons_succ, List.getElem_cons_zero, Act.put, List.setIfInBounds_toArray, List.set_cons_zero, List.set_cons_succ]
  refine wpAnyL_take 1 rfl (by kernel_rfl) (by kernel_rfl) (by kernel_rfl) (by kernel_rfl) (fun _ _ _ h => h) (wanted_none rfl) (by intro w' hS'; have hz := hS'; obtain ⟨-, c0, c1, c2, c3, c4, c5, c6, c7, c8, c9, c10, c11, c12, c13, c14⟩ := HCL.out _ hz; go_simp <;> rfl) hbd ?_
  try simp only [List.getElem_toArray, List.getElem_cons_succ, List.getElem_cons_zero, Act.put, List.setIfInBounds_toArray, List.set_cons_zero, List.set_cons_succ]
  refine wpAnyL_take 2 rfl (by kernel_rfl) (by kernel_rfl) (by kernel_rfl) (by kernel_rfl) (fun _ _ _ h => h) (wanted_none rfl) (by intro w' hS'; have hz := hS'; obtain ⟨-, c0, c1, c2, c3, c4, c5, c6, c7, c8, c9, c10, c11, c12, c13, c14⟩ := HCL.out _ hz; go_simp <;> rfl) hbd ?_
  try simp only [List.getElem_toArray, List.getElem_cons_succ, List.getElem_cons_zero, Act.put, List.setIfInBounds_toArray, List.set_cons_zero, List.set_cons_succ]
  refine wpAnyL_take 4 rfl (by kernel_rfl) (by kernel_rfl) (by kernel_rfl) (by kernel_rfl) (fun _ _ _ h => h) (wanted_none rfl) (by intro w' hS'; have hz := hS'; obtain ⟨-, c0, c1, c2, c3, c4, c5, c6, c7, c8, c9, c10, c11, c12, c13, c14⟩ := HCL.out _ hz; go_simp <;> rfl) hbd ?_
  try simp only [List.getElem_toArray, List.getElem_cons_succ, List.getElem_cons_zero, Act.put, List.setIfInBounds_toArray, List.set_cons_zero, List.set_cons_succ]
  refine wpAnyL_take 5 rfl (by kernel_rfl) (by kernel_rfl) (by kernel_rfl) (by kernel_rfl) (fun _ _ _ h => h) (wanted_none rfl) (by intro w' hS'; have hz := hS'; obtain ⟨-, c0, c1, c2, c3, c4, c5, c6, c7, c8, c9, c10, c11, c12, c13, c14⟩ := HCL.out _ hz; go_simp <;> rfl) hbd ?_
  try simp only [List.getElem_toArray, List.getElem_cons_succ, List.getElem_cons_zero, Act.put, List.setIfInBounds_toArray, List.set_cons_zero, List.set_cons_succ]
  refine wpAnyL_take 6 rfl (by kernel_rfl) (by kernel_rfl) (by kernel_rfl) (by kernel_rfl) (fun _ _ _ h => h) (wanted_none rfl) (by intro w' hS'; have hz := hS'; obtain ⟨-, c0, c1, c2, c3, c4, c5, c6, c7, c8, c9, c10, c11, c12, c13, c14⟩ := HCL.out _ hz; go_simp <;> rfl) hbd ?_
  try simp only [List.getElem_toArray, List.getElem_cons_succ, List.getElem_cons_zero, Act.put, List.setIfInBounds_toArray, List.set_cons_zero, List.set_cons_succ]
  refine wpAnyL_one 3 (by kernel_rfl) rfl (wanted_none rfl) ?_
  intro K' hK'
  go_simp
  go_at_call 21
  refine kv.mono ?_
  rintro e w3 ⟨v3, rfl, hR3, hb3⟩
  have hS3 : (fun W => Below w5.heap.size w5 W) w3 := hbd.trans (hb3.mono hbd.size)
  have kc := rcommit_of _ v3 _ (.slice pa pn pc) w3 hR3 (HP.out w3 (hb2.trans (hS3.mono hb2.size))) (by omega) hplm
  obtain ⟨v3a, v3c, rfl, -, -⟩ := hR3.shape
  clear kv
  refine hK'.out _ _ (.inr hS3) ?_
  clear hK' K'
  try simp only [List.getElem_toArray, List.getElem_cons_succ, List.getElem_cons_zero, Act.put, List.setIfInBounds_toArray, List.set_cons_zero, List.set_cons_succ]
  refine wpAnyL_one 7 (by kernel_rfl) rfl (wanted_none rfl) ?_
  intro K' hK'
  go_simp
  go_at_call 133
  refine kc.mono ?_
  rintro e w6 ⟨rfl, hb6⟩
  have hS7 : (fun W => Below w5.heap.size w5 W) w6 := hS3.trans (hb6.mono hS3.size)
  clear kc hb6 hb3 hR3
  refine hK'.out _ _ (.inr hS7) ?_
  clear hK' K'
  try simp only [List.getElem_toArray, List.getElem_cons_succ, List.getElem_cons_zero, Act.put, List.setIfInBounds_toArray, List.set_cons_zero, List.set_cons_succ]
  refine wpAnyL_take 8 rfl (by kernel_rfl) (by kernel_rfl) (by kernel_rfl) (by kernel_rfl) (fun _ _ _ h => h) (wanted_none rfl) (by intro w' hS'; have hz := hS'; obtain ⟨-, c0, c1, c2, c3, c4, c5, c6, c7, c8, c9, c10, c11, c12, c13, c14⟩ := HCL.out _ hz; go_simp <;> rfl) hS7 ?_
  try simp only [List.getElem_toArray, List.getElem_cons_succ, List.getElem_cons_zero, Act.put, List.setIfInBounds_toArray, List.set_cons_zero, List.set_cons_succ]
  refine wpAnyL_done (by kernel_rfl) (NoPanic.normal ?_) _
  rw [hC.out]
  clear hC
  have hb5 := hb2.trans (hS7.mono hb2.size)
  have D1 := (hS7.block w.heap.size (by omega)).trans B1
  have D2 := (hS7.block (w.heap.size + 1) (by omega)).trans B2
  have kt := HT.out C w6 hb5
  dsimp only [lgv] at kt
  obtain ⟨-, o0, o1, o2, o3, o4, o5, o6, o7, o8, o9, o10, o11, o12, o13, o14⟩ := r15_cells D1
  go_wp2_with fail
  refine kt.mono ?_
  rintro e w7 ⟨rfl, hb6⟩
  have hb7 := hb5.trans (hb6.mono hb5.size)
  have D1 := (hb6.block w.heap.size (by have := hS7.size; omega)).trans D1
  have D2 := (hb6.block (w.heap.size + 1) (by have := hS7.size; omega)).trans D2
  clear kt o0 o1 o2 o3 o4 o5 o6 o7 o8 o9 o10 o11 o12 o13 o14
  by_cases h1 : cm < C
  · have h1i : decide ((cm : Int) < (C : Int)) = true := by simp; omega
    have h1j : (cm : Int) < (C : Int) := by omega
    cases hT : termM ⟨bi, bt, bk, bd⟩ lg C with
    | none =>
      have E : Hid (_ = _) := HE.out.trans (if_neg (by rw [hT]; simp))
      have g1 := D1
      have g2 := D2
      have hb1 := hb7
      obtain ⟨-, o0, o1, o2, o3, o4, o5, o6, o7, o8, o9, o10, o11, o12, o13, o14⟩ := r15_cells D1
      have HF := setRow_heap _ _ _ #[.int .i64 nd, .int .u64 (tm : Int), .int .i64 vo, .int .u64 (bi : Int), .int .u64 (bt : Int), .int .i64 bk, .slice ba bn bc, .slice la ln lc, .int .u64 (cm : Int), .int .i64 ro, .int .i64 le, .int .i64 el, .slice va vn vc, .slice pa pn pc, .slice oa on oc] _ _ g2
      have hbf := below_row hb1 (g := w.heap.size + 1) (by omega) #[.int .i64 nd, .int .u64 (tm : Int), .int .i64 vo, .int .u64 (bi : Int), .int .u64 (bt : Int), .int .i64 bk, .slice ba bn bc, .slice la ln lc, .int .u64 (cm : Int), .int .i64 ro, .int .i64 le, .int .i64 el, .slice va vn vc, .slice pa pn pc, .slice oa on oc]
      have fr := Frm.row (n := n) (by omega) g2 #[.int .i64 nd, .int .u64 (tm : Int), .int .i64 vo, .int .u64 (bi : Int), .int .u64 (bt : Int), .int .i64 bk, .slice ba bn bc, .slice la ln lc, .int .u64 (cm : Int), .int .i64 ro, .int .i64 le, .int .i64 el, .slice va vn vc, .slice pa pn pc, .slice oa on oc]
      go_wp2_with (first | refine wpList_load_row rfl 54 _ rfl w.heap.size rfl _ _ _ _ g1 Tryz.underlying54 rfl (by kernel_rfl) ?_ | refine wpList_store_row rfl 54 _ _ rfl (w.heap.size + 1) _ rfl rfl _ _ g2 (by kernel_rfl) rfl (by simp [Value.oneCell']) ?_)
      (try simp only [Exit.inBlock, Exit.then])
      refine bodyPost_ret (results_stv rfl _ _ (w.heap.size + 1) #[.int .i64 nd, .int .u64 (tm : Int), .int .i64 vo, .int .u64 (bi : Int), .int .u64 (bt : Int), .int .i64 bk, .slice ba bn bc, .slice la ln lc, .int .u64 (cm : Int), .int .i64 ro, .int .i64 le, .int .i64 el, .slice va vn vc, .slice pa pn pc, .slice oa on oc] rfl rfl HF) rfl ?_
      exact ⟨_, rfl, by rw [E.out]; exact (HS.out _ hb1).frm fr (by decide), hbf⟩
    | some t =>
      by_cases h2 : t = tm
      · have E : Hid (_ = _) := HE.out.trans (if_pos ⟨h1, by rw [hT, h2]⟩)
        subst t
        have C1 : ∀ i u, (w7.setCell ⟨w.heap.size, i, none⟩ u).heap[w.heap.size + 1]? = _ := fun i u => (set_far (by omega) u).trans D2
        have g1 : (w7.setCell ⟨w.heap.size, 8, none⟩ (.int .u64 (C : Int))).heap[w.heap.size]? = some (.cells #[.int .i64 nd, .int .u64 (tm : Int), .int .i64 vo, .int .u64 (bi : Int), .int .u64 (bt : Int), .int .i64 bk, .slice ba bn bc, .slice la ln lc, .int .u64 (C : Int), .int .i64 ro, .int .i64 le, .int .i64 el, .slice va vn vc, .slice pa pn pc, .slice oa on oc] 54) := by simp [World.setCell, Array.getElem?_modify, D1]
        have g2 := C1 8 (.int .u64 (C : Int))
        have hb1 := hb7.setCell (p := ⟨w.heap.size, 8, none⟩) (Nat.le_refl _) (.int .u64 (C : Int))
        obtain ⟨⟨f0, f1, f2, f3, f4, f5, f6, f7, f8, f9, f10, f11, f12, f13, f14⟩, o0, o1, o2, o3, o4, o5, o6, o7, o8, o9, o10, o11, o12, o13, o14⟩ := r15_cells D1
        have HF := setRow_heap _ _ _ #[.int .i64 nd, .int .u64 (tm : Int), .int .i64 vo, .int .u64 (bi : Int), .int .u64 (bt : Int), .int .i64 bk, .slice ba bn bc, .slice la ln lc, .int .u64 (C : Int), .int .i64 ro, .int .i64 le, .int .i64 el, .slice va vn vc, .slice pa pn pc, .slice oa on oc] _ _ g2
        have hbf := below_row hb1 (g := w.heap.size + 1) (by omega) #[.int .i64 nd, .int .u64 (tm : Int), .int .i64 vo, .int .u64 (bi : Int), .int .u64 (bt : Int), .int .i64 bk, .slice ba bn bc, .slice la ln lc, .int .u64 (C : Int), .int .i64 ro, .int .i64 le, .int .i64 el, .slice va vn vc, .slice pa pn pc, .slice oa on oc]
        have fr := Frm.row (n := n) (by omega) g2 #[.int .i64 nd, .int .u64 (tm : Int), .int .i64 vo, .int .u64 (bi : Int), .int .u64 (bt : Int), .int .i64 bk, .slice ba bn bc, .slice la ln lc, .int .u64 (C : Int), .int .i64 ro, .int .i64 le, .int .i64 el, .slice va vn vc, .slice pa pn pc, .slice oa on oc]
        go_wp2_with (first | refine wpList_load_row rfl 54 _ rfl w.heap.size rfl _ _ _ _ g1 Tryz.underlying54 rfl (by kernel_rfl) ?_ | refine wpList_store_row rfl 54 _ _ rfl (w.heap.size + 1) _ rfl rfl _ _ g2 (by kernel_rfl) rfl (by simp [Value.oneCell']) ?_)
        (try simp only [Exit.inBlock, Exit.then])
        refine bodyPost_ret (results_stv rfl _ _ (w.heap.size + 1) #[.int .i64 nd, .int .u64 (tm : Int), .int .i64 vo, .int .u64 (bi : Int), .int .u64 (bt : Int), .int .i64 bk, .slice ba bn bc, .slice la ln lc, .int .u64 (C : Int), .int .i64 ro, .int .i64 le, .int .i64 el, .slice va vn vc, .slice pa pn pc, .slice oa on oc] rfl rfl HF) rfl ?_
        exact ⟨_, rfl, by rw [E.out]; exact (HC.out _ hb1).frm fr (by decide), hbf⟩
      · have h2b : ((t : Int) == (tm : Int)) = false := by simp; omega
        have h2i : ¬ (t : Int) = (tm : Int) := by omega
        have E : Hid (_ = _) := HE.out.trans (if_neg (by rw [hT]; simp; omega))
        have g1 := D1
        have g2 := D2
        have hb1 := hb7
        obtain ⟨-, o0, o1, o2, o3, o4, o5, o6, o7, o8, o9, o10, o11, o12, o13, o14⟩ := r15_cells D1
        have HF := setRow_heap _ _ _ #[.int .i64 nd, .int .u64 (tm : Int), .int .i64 vo, .int .u64 (bi : Int), .int .u64 (bt : Int), .int .i64 bk, .slice ba bn bc, .slice la ln lc, .int .u64 (cm : Int), .int .i64 ro, .int .i64 le, .int .i64 el, .slice va vn vc, .slice pa pn pc, .slice oa on oc] _ _ g2
        have hbf := below_row hb1 (g := w.heap.size + 1) (by omega) #[.int .i64 nd, .int .u64 (tm : Int), .int .i64 vo, .int .u64 (bi : Int), .int .u64 (bt : Int), .int .i64 bk, .slice ba bn bc, .slice la ln lc, .int .u64 (cm : Int), .int .i64 ro, .int .i64 le, .int .i64 el, .slice va vn vc, .slice pa pn pc, .slice oa on oc]
        have fr := Frm.row (n := n) (by omega) g2 #[.int .i64 nd, .int .u64 (tm : Int), .int .i64 vo, .int .u64 (bi : Int), .int .u64 (bt : Int), .int .i64 bk, .slice ba bn bc, .slice la ln lc, .int .u64 (cm : Int), .int .i64 ro, .int .i64 le, .int .i64 el, .slice va vn vc, .slice pa pn pc, .slice oa on oc]
        go_wp2_with (first | refine wpList_load_row rfl 54 _ rfl w.heap.size rfl _ _ _ _ g1 Tryz.underlying54 rfl (by kernel_rfl) ?_ | refine wpList_store_row rfl 54 _ _ rfl (w.heap.size + 1) _ rfl rfl _ _ g2 (by kernel_rfl) rfl (by simp [Value.oneCell']) ?_)
        (try simp only [Exit.inBlock, Exit.then])
        refine bodyPost_ret (results_stv rfl _ _ (w.heap.size + 1) #[.int .i64 nd, .int .u64 (tm : Int), .int .i64 vo, .int .u64 (bi : Int), .int .u64 (bt : Int), .int .i64 bk, .slice ba bn bc, .slice la ln lc, .int .u64 (cm : Int), .int .i64 ro, .int .i64 le, .int .i64 el, .slice va vn vc, .slice pa pn pc, .slice oa on oc] rfl rfl HF) rfl ?_
        exact ⟨_, rfl, by rw [E.out]; exact (HS.out _ hb1).frm fr (by decide), hbf⟩
  · have h1i : decide ((cm : Int) < (C : Int)) = false := by simp; omega
    have h1j : ¬ (cm : Int) < (C : Int) := by omega
    have E : Hid (_ = _) := HE.out.trans (if_neg (by omega))
    have g1 := D1
    have g2 := D2
    have hb1 := hb7
    obtain ⟨-, o0, o1, o2, o3, o4, o5, o6, o7, o8, o9, o10, o11, o12, o13, o14⟩ := r15_cells D1
    obtain ⟨tv, tb, hTV⟩ : ∃ (tv : Nat) (tb : Bool), termV (termM ⟨bi, bt, bk, bd⟩ lg C) = .tuple #[.int .u64 (tv : Int), .bool tb] := by cases termM ⟨bi, bt, bk, bd⟩ lg C <;> exact ⟨_, _, rfl⟩
    rw [hTV]
    clear hTV
    have HF := setRow_heap _ _ _ #[.int .i64 nd, .int .u64 (tm : Int), .int .i64 vo, .int .u64 (bi : Int), .int .u64 (bt : Int), .int .i64 bk, .slice ba bn bc, .slice la ln lc, .int .u64 (cm : Int), .int .i64 ro, .int .i64 le, .int .i64 el, .slice va vn vc, .slice pa pn pc, .slice oa on oc] _ _ g2
    have hbf := below_row hb1 (g := w.heap.size + 1) (by omega) #[.int .i64 nd, .int .u64 (tm : Int), .int .i64 vo, .int .u64 (bi : Int), .int .u64 (bt : Int), .int .i64 bk, .slice ba bn bc, .slice la ln lc, .int .u64 (cm : Int), .int .i64 ro, .int .i64 le, .int .i64 el, .slice va vn vc, .slice pa pn pc, .slice oa on oc]
    have fr := Frm.row (n := n) (by omega) g2 #[.int .i64 nd, .int .u64 (tm : Int), .int .i64 vo, .int .u64 (bi : Int), .int .u64 (bt : Int), .int .i64 bk, .slice ba bn bc, .slice la ln lc, .int .u64 (cm : Int), .int .i64 ro, .int .i64 le, .int .i64 el, .slice va vn vc, .slice pa pn pc, .slice oa on oc]
    go_wp2_with (first | refine wpList_load_row rfl 54 _ rfl w.heap.size rfl _ _ _ _ g1 Tryz.underlying54 rfl (by kernel_rfl) ?_ | refine wpList_store_row rfl 54 _ _ rfl (w.heap.size + 1) _ rfl rfl _ _ g2 (by kernel_rfl) rfl (by simp [Value.oneCell']) ?_)
    (try simp only [Exit.inBlock, Exit.then])
    refine bodyPost_ret (results_stv rfl _ _ (w.heap.size + 1) #[.int .i64 nd, .int .u64 (tm : Int), .int .i64 vo, .int .u64 (bi : Int), .int .u64 (bt : Int), .int .i64 bk, .slice ba bn bc, .slice la ln lc, .int .u64 (cm : Int), .int .i64 ro, .int .i64 le, .int .i64 el, .slice va vn vc, .slice pa pn pc, .slice oa on oc] rfl rfl HF) rfl ?_
    exact ⟨_, rfl, by rw [E.out]; exact (HS.out _ hb1).frm fr (by decide), hbf⟩
end Go.Proofs.YtncoandnelgkeaaGreat

