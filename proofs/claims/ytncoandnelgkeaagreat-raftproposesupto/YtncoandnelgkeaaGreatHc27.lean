import Derived.Test.YtncoandnelgkeaaGreatHc17
import Derived.Test.YtncoandnelgkeaaGreatHc06
import Derived.Test.YtncoandnelgkeaaGreatHc26
import Derived.Test.YtncoandnelgkeaaGreatHc23
/- The document's commit: what a majority has. -/
namespace Go.Proofs.YtncoandnelgkeaaGreat
open Go.RowKit QuorumMath RlogMath RaftMath
set_option maxRecDepth 100000
set_option linter.unusedSimpArgs false
set_option linter.unusedVariables false

set_option maxHeartbeats 8000000 in
theorem com_of (n : Nat) (s : Ms) (v : Value) (w : World) (hS : StV n w v s) (hn : n ≤ w.heap.size) (hbo : OkM s.r.base) (hlo : ∀ e ∈ s.r.log, OkM e) (hlg : s.r.log.length ≤ 1000000000) (hpl : s.r.peers.length ≤ 1000000) : Calls Tryz.prog 98 #[v] w fun e w' => ∃ v', e = .returned v' ∧ StV n w' v' (comR s) ∧ Below w.heap.size w w' := by
  have HS : Hid (∀ W, Below w.heap.size w W → StV n W v s) := fun W hW => hS.below hW
  obtain ⟨z, gs, os, rfl, hz, hR, hM, ho⟩ := hS
  obtain ⟨r, zs, ⟨ba, bn, bc⟩, ⟨la, ln, lc⟩, ⟨va, vn, vc⟩, ⟨pa, pn, pc⟩⟩ := z
  obtain ⟨sr, so⟩ := s
  obtain rfl : r = sr := hz
  obtain ⟨nd, tm, vo, ⟨bi, bt, bk, bd⟩, lg, cm, ro, le, el, vt, pe⟩ := r
  obtain ⟨oa, on, oc⟩ := os
  dsimp only at ho hlg hbo hlo hpl
  dsimp only [sv] at *
  have hml : mes zs = lg := hR.2.2.1
  have hzl : zs.length ≤ 1000000000 := by have := congrArg List.length hml; rw [List.length_map] at this; omega
  have hzo := okz_of hml hlo
  have HV : Hid (∀ W, Below w.heap.size w W → _) := fun W hW => rvot_of (⟨bi, bt, bk, bd⟩, ba, bn, bc) zs (.slice la ln lc) W (hR.1.below hW).v (hR.2.1.below hW).v ⟨hbo.1, hbo.2.1, hbo.2.2.1⟩ (fun z hz => (hzo z hz).1) (by omega) hbo.2.2.2 (fun z hz => (hzo z hz).2)
  have HT : Hid (∀ x W, Below w.heap.size w W → _) := fun x W hW => rterm_of (⟨bi, bt, bk, bd⟩, ba, bn, bc) zs (.slice la ln lc) x W (hR.2.1.below hW).v (by omega)
  have HP : Hid (∀ W, Below w.heap.size w W → Rd peerE W (.slice pa pn pc) (pe.map pr)) := fun W hW => rdpn_pr (hR.2.2.2.2.rd.below hW)
  rw [hml] at HV HT
  have hvl : (votM ⟨bi, bt, bk, bd⟩ lg).length ≤ 1000000000 := by
    unfold votM
    rw [nodesI_len]
    exact votF_len _ _ (fun e he => (hlo e he).2.2.2) hbo.2.2.2
  obtain ⟨C, hC⟩ : ∃ C, Hid (comM (votM ⟨bi, bt, bk, bd⟩ lg) (pe.map pr) = C) := ⟨_, rfl⟩
  have HC : Hid (∀ W, Below w.heap.size w W → StV n W (.agg #[.int .i64 nd, .int .u64 (tm : Int), .int .i64 vo, .int .u64 (bi : Int), .int .u64 (bt : Int), .int .i64 bk, .slice ba bn bc, .slice la ln lc, .int .u64 (C : Int), .int .i64 ro, .int .i64 le, .int .i64 el, .slice va vn vc, .slice pa pn pc, .slice oa on oc]) ⟨⟨nd, tm, vo, ⟨bi, bt, bk, bd⟩, lg, C, ro, le, el, vt, pe⟩, so⟩) := fun W hW => ⟨⟨⟨nd, tm, vo, ⟨bi, bt, bk, bd⟩, lg, C, ro, le, el, vt, pe⟩, zs, (ba, bn, bc), (la, ln, lc), (va, vn, vc), (pa, pn, pc)⟩, gs, (oa, on, oc), rfl, rfl, hR.below hW, hM.below hW, ho⟩
  have HE : Hid (comR ⟨⟨nd, tm, vo, ⟨bi, bt, bk, bd⟩, lg, cm, ro, le, el, vt, pe⟩, so⟩ = if cm < C ∧ termM ⟨bi, bt, bk, bd⟩ lg C = some tm then ⟨⟨nd, tm, vo, ⟨bi, bt, bk, bd⟩, lg, C, ro, le, el, vt, pe⟩, so⟩ else ⟨⟨nd, tm, vo, ⟨bi, bt, bk, bd⟩, lg, cm, ro, le, el, vt, pe⟩, so⟩) := by
    show _ = _
    rw [← hC.out]
    rfl
  obtain ⟨hsz, B1, B2, hb2⟩ := two_box w (.cells #[.int .i64 nd, .int .u64 (tm : Int), .int .i64 vo, .int .u64 (bi : Int), .int .u64 (bt : Int), .int .i64 bk, .slice ba bn bc, .slice la ln lc, .int .u64 (cm : Int), .int .i64 ro, .int .i64 le, .int .i64 el, .slice va vn vc, .slice pa pn pc, .slice oa on oc] 54) (.cells #[.int .i64 0, .int .u64 0, .int .i64 0, .int .u64 0, .int .u64 0, .int .i64 0, .slice none 0 0, .slice none 0 0, .int .u64 0, .int .i64 0, .int .i64 0, .int .i64 0, .slice none 0 0, .slice none 0 0, .slice none 0 0] 54)
  have hplm : (pe.map pr).length ≤ 1000000 := by rw [List.length_map]; exact hpl
  clear hR hM ho hbo hlo hzo hml hzl hlg hpl
  go_enter Tryz.func98, Tryz.ntmps98
  go_wp2
  generalize (w.alloc (.cells #[.int .i64 nd, .int .u64 (tm : Int), .int .i64 vo, .int .u64 (bi : Int), .int .u64 (bt : Int), .int .i64 bk, .slice ba bn bc, .slice la ln lc, .int .u64 (cm : Int), .int .i64 ro, .int .i64 le, .int .i64 el, .slice va vn vc, .slice pa pn pc, .slice oa on oc] 54)).alloc (.cells #[.int .i64 0, .int .u64 0, .int .i64 0, .int .u64 0, .int .u64 0, .int .i64 0, .slice none 0 0, .slice none 0 0, .int .u64 0, .int .i64 0, .int .i64 0, .int .i64 0, .slice none 0 0, .slice none 0 0, .slice none 0 0] 54) = w5 at *
  refine wp_region_L (fun W => Below w5.heap.size w5 W) [] (by kernel_rfl) ?_
  have hbd : Below w5.heap.size w5 w5.drew := (Below.refl _ w5).drew
  generalize w5.drew = wd at *
  have HCL : Hid (∀ W, Below w5.heap.size w5 W → _) := fun W hW => r15_cells ((hW.block w.heap.size (by omega)).trans B1)
  have kv := HV.out wd (hb2.trans (hbd.mono hb2.size))
  dsimp only [lgv] at kv
  refine wpAnyL_take 0 rfl (by kernel_rfl) (by kernel_rfl) (by kernel_rfl) (by kernel_rfl) (fun _ _ _ h => h) (wanted_none rfl) (by intro w' hS'; have hz := hS'; obtain ⟨-, c0, c1, c2, c3, c4, c5, c6, c7, c8, c9, c10, c11, c12, c13, c14⟩ := HCL.out _ hz; go_simp <;> rfl) hbd ?_
  try simp only [List.getElem_toArray, List.getElem_cons_succ, List.getElem_cons_zero, Act.put, List.setIfInBounds_toArray, List.set_cons_zero, List.set_cons_succ]
  refine wpAnyL_take 1 rfl (by kernel_rfl) (by kernel_rfl) (by kernel_rfl) (by kernel_rfl) (fun _ _ _ h => h) (wanted_none rfl) (by intro w' hS'; have hz := hS'; obtain ⟨-, c0, c1, c2, c3, c4, c5, c6, c7, c8, c9, c10, c11, c12, c13, c14⟩ := HCL.out _ hz; go_simp <;> rfl) hbd ?_
  try simp only [List.getElem_toArray, List.getElem_cons_succ, List.getElem_cons_zero, Act.put, List.setIfInBounds_toArray, List.set_cons_zero, List.set_cons_succ]
  refine wpAnyL_take 2 rfl (by kernel_rfl) (by kernel_rfl) (by kernel_rfl) (by kernel_rfl) (fun _ _ _ h => h) (wanted_none rfl) (by intro w' hS'; have hz := hS'; obtain ⟨-, c0, c1, c2, c3, c4, c5, c6, c7, c8, c9, c10, c11, c12, c13, c14⟩ := HCL.out _ hz; go_simp <;> rfl) hbd ?_
  try simp only [List.getElem_toArray, List.getElem_cons_succ, List.getElem_cons_zero, Act.put, List.setIfInBounds_toArray, List.set_cons_zero, List.set_cons_succ]
  refine wpAnyL_take 4 rfl (by kernel_rfl) (by kernel_rfl) (by kernel_rfl) (by kernel_rfl) (fun _ _ _ h => h) (wanted_none rfl) (by intro w' hS'; have hz := hS'; obtain ⟨-, c0, c1, c2, c3, c4, c5, c6, c7, c8, c9, c10, c11, c12, c13, c14⟩ := HCL.out _ hz; go_simp <;> rfl) hbd ?_
  try simp only [List.getElem_toArray, List.getElem_cons_succ, List.getElem_cons_zero, Act.put, List.setIfInBounds_toArray, List.set_cons_zero, List.set_cons_succ]
  refine wpAnyL_take 5 rfl (by kernel_rfl) (by kernel_rfl) (by kernel_rfl) (by kernel_rfl) (fun _ _ _ h => h) (wanted_none rfl) (by intro w' hS'; have hz := hS'; obtain ⟨-, c0, c1, c2, c3, c4, c5, c6, c7, c8, c9, c10, c11, c12, c13, c14⟩ := HCL.out _ hz; go_simp <;> rfl) hbd ?_
  try simp only [List.getElem_toArray, List.getElem_cons_succ, List.getElem_cons_zero, Act.put, List.setIfInBounds_toArray, List.set_cons_zero, List.set_cons_succ]
  refine wpAnyL_take 6 rfl (by kernel_rfl) (by kernel_rfl) (by kernel_rfl) (by kernel_rfl) (fun _ _ _ h => h) (wanted_none rfl) (by intro w' hS'; have hz := hS'; obtain ⟨-, c0, c1, c2, c3, c4, c5, c6, c7, c8, c9, c10, c11, c12, c13, c14⟩ := HCL.out _ hz; go_simp <;> rfl) hbd ?_
  try simp only [List.getElem_toArray, List.getElem_cons_succ, List.getElem_cons_zero, Act.put, List.setIfInBounds_toArray, List.set_cons_zero, List.set_cons_succ]
  refine wpAnyL_one 3 (by kernel_rfl) rfl (wanted_none rfl) ?_
  intro K' hK'
  go_simp
  go_at_call 21
  refine kv.mono ?_
  rintro e w3 ⟨v3, rfl, hR3, hb3⟩
  have hS3 : (fun W => Below w5.heap.size w5 W) w3 := hbd.trans (hb3.mono hbd.size)
  have kc := rcommit_of _ v3 _ (.slice pa pn pc) w3 hR3 (HP.out w3 (hb2.trans (hS3.mono hb2.size))) (by omega) hplm
  obtain ⟨v3a, v3c, rfl, -, -⟩ := hR3.shape
  clear kv
  refine hK'.out _ _ (.inr hS3) ?_
  clear hK' K'
  try simp only [List.getElem_toArray, List.getElem_cons_succ, List.getElem_cons_zero, Act.put, List.setIfInBounds_toArray, List.set_cons_zero, List.set_cons_succ]
  refine wpAnyL_one 7 (by kernel_rfl) rfl (wanted_none rfl) ?_
  intro K' hK'
  go_simp
  go_at_call 133
  refine kc.mono ?_
  rintro e w6 ⟨rfl, hb6⟩
  have hS7 : (fun W => Below w5.heap.size w5 W) w6 := hS3.trans (hb6.mono hS3.size)
  clear kc hb6 hb3 hR3
  refine hK'.out _ _ (.inr hS7) ?_
  clear hK' K'
  try simp only [List.getElem_toArray, List.getElem_cons_succ, List.getElem_cons_zero, Act.put, List.setIfInBounds_toArray, List.set_cons_zero, List.set_cons_succ]
  refine wpAnyL_take 8 rfl (by kernel_rfl) (by kernel_rfl) (by kernel_rfl) (by kernel_rfl) (fun _ _ _ h => h) (wanted_none rfl) (by intro w' hS'; have hz := hS'; obtain ⟨-, c0, c1, c2, c3, c4, c5, c6, c7, c8, c9, c10, c11, c12, c13, c14⟩ := HCL.out _ hz; go_simp <;> rfl) hS7 ?_
  try simp only [List.getElem_toArray, List.getElem_cons_succ, List.getElem_cons_zero, Act.put, List.setIfInBounds_toArray, List.set_cons_zero, List.set_cons_succ]
  refine wpAnyL_done (by kernel_rfl) (NoPanic.normal ?_) _
  rw [hC.out]
  clear hC
  have hb5 := hb2.trans (hS7.mono hb2.size)
  have D1 := (hS7.block w.heap.size (by omega)).trans B1
  have D2 := (hS7.block (w.heap.size + 1) (by omega)).trans B2
  have kt := HT.out C w6 hb5
  dsimp only [lgv] at kt
  obtain ⟨-, o0, o1, o2, o3, o4, o5, o6, o7, o8, o9, o10, o11, o12, o13, o14⟩ := r15_cells D1
  go_wp2_with fail
  refine kt.mono ?_
  rintro e w7 ⟨rfl, hb6⟩
  have hb7 := hb5.trans (hb6.mono hb5.size)
  have D1 := (hb6.block w.heap.size (by have := hS7.size; omega)).trans D1
  have D2 := (hb6.block (w.heap.size + 1) (by have := hS7.size; omega)).trans D2
  clear kt o0 o1 o2 o3 o4 o5 o6 o7 o8 o9 o10 o11 o12 o13 o14
  by_cases h1 : cm < C
  · have h1i : decide ((cm : Int) < (C : Int)) = true := by simp; omega
    have h1j : (cm : Int) < (C : Int) := by omega
    cases hT : termM ⟨bi, bt, bk, bd⟩ lg C with
    | none =>
      have E : Hid (_ = _) := HE.out.trans (if_neg (by rw [hT]; simp))
      have g1 := D1
      have g2 := D2
      have hb1 := hb7
      obtain ⟨-, o0, o1, o2, o3, o4, o5, o6, o7, o8, o9, o10, o11, o12, o13, o14⟩ := r15_cells D1
      have HF := setRow_heap _ _ _ #[.int .i64 nd, .int .u64 (tm : Int), .int .i64 vo, .int .u64 (bi : Int), .int .u64 (bt : Int), .int .i64 bk, .slice ba bn bc, .slice la ln lc, .int .u64 (cm : Int), .int .i64 ro, .int .i64 le, .int .i64 el, .slice va vn vc, .slice pa pn pc, .slice oa on oc] _ _ g2
      have hbf := below_row hb1 (g := w.heap.size + 1) (by omega) #[.int .i64 nd, .int .u64 (tm : Int), .int .i64 vo, .int .u64 (bi : Int), .int .u64 (bt : Int), .int .i64 bk, .slice ba bn bc, .slice la ln lc, .int .u64 (cm : Int), .int .i64 ro, .int .i64 le, .int .i64 el, .slice va vn vc, .slice pa pn pc, .slice oa on oc]
      have fr := Frm.row (n := n) (by omega) g2 #[.int .i64 nd, .int .u64 (tm : Int), .int .i64 vo, .int .u64 (bi : Int), .int .u64 (bt : Int), .int .i64 bk, .slice ba bn bc, .slice la ln lc, .int .u64 (cm : Int), .int .i64 ro, .int .i64 le, .int .i64 el, .slice va vn vc, .slice pa pn pc, .slice oa on oc]
      go_wp2_with (first | refine wpList_load_row rfl 54 _ rfl w.heap.size rfl _ _ _ _ g1 Tryz.underlying54 rfl (by kernel_rfl) ?_ | refine wpList_store_row rfl 54 _ _ rfl (w.heap.size + 1) _ rfl rfl _ _ g2 (by kernel_rfl) rfl (by simp [Value.oneCell']) ?_)
      (try simp only [Exit.inBlock, Exit.then])
      refine bodyPost_ret (results_stv rfl _ _ (w.heap.size + 1) #[.int .i64 nd, .int .u64 (tm : Int), .int .i64 vo, .int .u64 (bi : Int), .int .u64 (bt : Int), .int .i64 bk, .slice ba bn bc, .slice la ln lc, .int .u64 (cm : Int), .int .i64 ro, .int .i64 le, .int .i64 el, .slice va vn vc, .slice pa pn pc, .slice oa on oc] rfl rfl HF) rfl ?_
      exact ⟨_, rfl, by rw [E.out]; exact (HS.out _ hb1).frm fr (by decide), hbf⟩
    | some t =>
      by_cases h2 : t = tm
      · have E : Hid (_ = _) := HE.out.trans (if_pos ⟨h1, by rw [hT, h2]⟩)
        subst t
        have C1 : ∀ i u, (w7.setCell ⟨w.heap.size, i, none⟩ u).heap[w.heap.size + 1]? = _ := fun i u => (set_far (by omega) u).trans D2
        have g1 : (w7.setCell ⟨w.heap.size, 8, none⟩ (.int .u64 (C : Int))).heap[w.heap.size]? = some (.cells #[.int .i64 nd, .int .u64 (tm : Int), .int .i64 vo, .int .u64 (bi : Int), .int .u64 (bt : Int), .int .i64 bk, .slice ba bn bc, .slice la ln lc, .int .u64 (C : Int), .int .i64 ro, .int .i64 le, .int .i64 el, .slice va vn vc, .slice pa pn pc, .slice oa on oc] 54) := by simp [World.setCell, Array.getElem?_modify, D1]
        have g2 := C1 8 (.int .u64 (C : Int))
        have hb1 := hb7.setCell (p := ⟨w.heap.size, 8, none⟩) (Nat.le_refl _) (.int .u64 (C : Int))
        obtain ⟨⟨f0, f1, f2, f3, f4, f5, f6, f7, f8, f9, f10, f11, f12, f13, f14⟩, o0, o1, o2, o3, o4, o5, o6, o7, o8, o9, o10, o11, o12, o13, o14⟩ := r15_cells D1
        have HF := setRow_heap _ _ _ #[.int .i64 nd, .int .u64 (tm : Int), .int .i64 vo, .int .u64 (bi : Int), .int .u64 (bt : Int), .int .i64 bk, .slice ba bn bc, .slice la ln lc, .int .u64 (C : Int), .int .i64 ro, .int .i64 le, .int .i64 el, .slice va vn vc, .slice pa pn pc, .slice oa on oc] _ _ g2
        have hbf := below_row hb1 (g := w.heap.size + 1) (by omega) #[.int .i64 nd, .int .u64 (tm : Int), .int .i64 vo, .int .u64 (bi : Int), .int .u64 (bt : Int), .int .i64 bk, .slice ba bn bc, .slice la ln lc, .int .u64 (C : Int), .int .i64 ro, .int .i64 le, .int .i64 el, .slice va vn vc, .slice pa pn pc, .slice oa on oc]
        have fr := Frm.row (n := n) (by omega) g2 #[.int .i64 nd, .int .u64 (tm : Int), .int .i64 vo, .int .u64 (bi : Int), .int .u64 (bt : Int), .int .i64 bk, .slice ba bn bc, .slice la ln lc, .int .u64 (C : Int), .int .i64 ro, .int .i64 le, .int .i64 el, .slice va vn vc, .slice pa pn pc, .slice oa on oc]
        go_wp2_with (first | refine wpList_load_row rfl 54 _ rfl w.heap.size rfl _ _ _ _ g1 Tryz.underlying54 rfl (by kernel_rfl) ?_ | refine wpList_store_row rfl 54 _ _ rfl (w.heap.size + 1) _ rfl rfl _ _ g2 (by kernel_rfl) rfl (by simp [Value.oneCell']) ?_)
        (try simp only [Exit.inBlock, Exit.then])
        refine bodyPost_ret (results_stv rfl _ _ (w.heap.size + 1) #[.int .i64 nd, .int .u64 (tm : Int), .int .i64 vo, .int .u64 (bi : Int), .int .u64 (bt : Int), .int .i64 bk, .slice ba bn bc, .slice la ln lc, .int .u64 (C : Int), .int .i64 ro, .int .i64 le, .int .i64 el, .slice va vn vc, .slice pa pn pc, .slice oa on oc] rfl rfl HF) rfl ?_
        exact ⟨_, rfl, by rw [E.out]; exact (HC.out _ hb1).frm fr (by decide), hbf⟩
      · have h2b : ((t : Int) == (tm : Int)) = false := by simp; omega
        have h2i : ¬ (t : Int) = (tm : Int) := by omega
        have E : Hid (_ = _) := HE.out.trans (if_neg (by rw [hT]; simp; omega))
        have g1 := D1
        have g2 := D2
        have hb1 := hb7
        obtain ⟨-, o0, o1, o2, o3, o4, o5, o6, o7, o8, o9, o10, o11, o12, o13, o14⟩ := r15_cells D1
        have HF := setRow_heap _ _ _ #[.int .i64 nd, .int .u64 (tm : Int), .int .i64 vo, .int .u64 (bi : Int), .int .u64 (bt : Int), .int .i64 bk, .slice ba bn bc, .slice la ln lc, .int .u64 (cm : Int), .int .i64 ro, .int .i64 le, .int .i64 el, .slice va vn vc, .slice pa pn pc, .slice oa on oc] _ _ g2
        have hbf := below_row hb1 (g := w.heap.size + 1) (by omega) #[.int .i64 nd, .int .u64 (tm : Int), .int .i64 vo, .int .u64 (bi : Int), .int .u64 (bt : Int), .int .i64 bk, .slice ba bn bc, .slice la ln lc, .int .u64 (cm : Int), .int .i64 ro, .int .i64 le, .int .i64 el, .slice va vn vc, .slice pa pn pc, .slice oa on oc]
        have fr := Frm.row (n := n) (by omega) g2 #[.int .i64 nd, .int .u64 (tm : Int), .int .i64 vo, .int .u64 (bi : Int), .int .u64 (bt : Int), .int .i64 bk, .slice ba bn bc, .slice la ln lc, .int .u64 (cm : Int), .int .i64 ro, .int .i64 le, .int .i64 el, .slice va vn vc, .slice pa pn pc, .slice oa on oc]
        go_wp2_with (first | refine wpList_load_row rfl 54 _ rfl w.heap.size rfl _ _ _ _ g1 Tryz.underlying54 rfl (by kernel_rfl) ?_ | refine wpList_store_row rfl 54 _ _ rfl (w.heap.size + 1) _ rfl rfl _ _ g2 (by kernel_rfl) rfl (by simp [Value.oneCell']) ?_)
        (try simp only [Exit.inBlock, Exit.then])
        refine bodyPost_ret (results_stv rfl _ _ (w.heap.size + 1) #[.int .i64 nd, .int .u64 (tm : Int), .int .i64 vo, .int .u64 (bi : Int), .int .u64 (bt : Int), .int .i64 bk, .slice ba bn bc, .slice la ln lc, .int .u64 (cm : Int), .int .i64 ro, .int .i64 le, .int .i64 el, .slice va vn vc, .slice pa pn pc, .slice oa on oc] rfl rfl HF) rfl ?_
        exact ⟨_, rfl, by rw [E.out]; exact (HS.out _ hb1).frm fr (by decide), hbf⟩
  · have h1i : decide ((cm : Int) < (C : Int)) = false := by simp; omega
    have h1j : ¬ (cm : Int) < (C : Int) := by omega
    have E : Hid (_ = _) := HE.out.trans (if_neg (by omega))
    have g1 := D1
    have g2 := D2
    have hb1 := hb7
    obtain ⟨-, o0, o1, o2, o3, o4, o5, o6, o7, o8, o9, o10, o11, o12, o13, o14⟩ := r15_cells D1
    obtain ⟨tv, tb, hTV⟩ : ∃ (tv : Nat) (tb : Bool), termV (termM ⟨bi, bt, bk, bd⟩ lg C) = .tuple #[.int .u64 (tv : Int), .bool tb] := by cases termM ⟨bi, bt, bk, bd⟩ lg C <;> exact ⟨_, _, rfl⟩
    rw [hTV]
    clear hTV
    have HF := setRow_heap _ _ _ #[.int .i64 nd, .int .u64 (tm : Int), .int .i64 vo, .int .u64 (bi : Int), .int .u64 (bt : Int), .int .i64 bk, .slice ba bn bc, .slice la ln lc, .int .u64 (cm : Int), .int .i64 ro, .int .i64 le, .int .i64 el, .slice va vn vc, .slice pa pn pc, .slice oa on oc] _ _ g2
    have hbf := below_row hb1 (g := w.heap.size + 1) (by omega) #[.int .i64 nd, .int .u64 (tm : Int), .int .i64 vo, .int .u64 (bi : Int), .int .u64 (bt : Int), .int .i64 bk, .slice ba bn bc, .slice la ln lc, .int .u64 (cm : Int), .int .i64 ro, .int .i64 le, .int .i64 el, .slice va vn vc, .slice pa pn pc, .slice oa on oc]
    have fr := Frm.row (n := n) (by omega) g2 #[.int .i64 nd, .int .u64 (tm : Int), .int .i64 vo, .int .u64 (bi : Int), .int .u64 (bt : Int), .int .i64 bk, .slice ba bn bc, .slice la ln lc, .int .u64 (cm : Int), .int .i64 ro, .int .i64 le, .int .i64 el, .slice va vn vc, .slice pa pn pc, .slice oa on oc]
    go_wp2_with (first | refine wpList_load_row rfl 54 _ rfl w.heap.size rfl _ _ _ _ g1 Tryz.underlying54 rfl (by kernel_rfl) ?_ | refine wpList_store_row rfl 54 _ _ rfl (w.heap.size + 1) _ rfl rfl _ _ g2 (by kernel_rfl) rfl (by simp [Value.oneCell']) ?_)
    (try simp only [Exit.inBlock, Exit.then])
    refine bodyPost_ret (results_stv rfl _ _ (w.heap.size + 1) #[.int .i64 nd, .int .u64 (tm : Int), .int .i64 vo, .int .u64 (bi : Int), .int .u64 (bt : Int), .int .i64 bk, .slice ba bn bc, .slice la ln lc, .int .u64 (cm : Int), .int .i64 ro, .int .i64 le, .int .i64 el, .slice va vn vc, .slice pa pn pc, .slice oa on oc] rfl rfl HF) rfl ?_
    exact ⟨_, rfl, by rw [E.out]; exact (HS.out _ hb1).frm fr (by decide), hbf⟩
end Go.Proofs.YtncoandnelgkeaaGreat

/- The document's settle: peers are of the voters. -/
namespace Go.Proofs.YtncoandnelgkeaaGreat
open Go.RowKit QuorumMath RlogMath RaftMath
set_option maxRecDepth 100000
set_option linter.unusedSimpArgs false
set_option linter.unusedVariables false

theorem infoPeerN : (Tryz.prog.info? 71).map (fun i => (i.zero, i.size, i.bytes)) = some (some (.agg #[.int .i64 0, .int .u64 0, .int .u64 0]), peerN.k, 24) := infoPeer
theorem push_peer {w : World} {v : Value} {xs : List Mp} (p : Mp) (h : Rk peerN w 71 v xs) (hlen : xs.length ≤ 10000000000) :
    ∀ ty, ∃ v' w', (Builtin.append_ #[30, 30] ty #[v, .slice (some ⟨w.heap.size, 0, none⟩) 1 1]).run Tryz.prog (w.alloc (.cells #[.int .i64 p.node, .int .u64 (p.next : Int), .int .u64 (p.mat : Int)] 71)) = .ok v' w' ∧ PushT peerN 71 w v (xs ++ [p]) v' w' :=
  push_el peerN Tryz.underlying30 infoPeerN rfl (by decide) p h hlen
theorem p3_cells {w : World} {g : Nat} {a b c : Value} {t : TypeId} (h : w.heap[g]? = some (.cells #[a, b, c] t (0, 0))) : (w.frozen? ⟨g, 0, none⟩ = false ∧ w.frozen? ⟨g, 1, none⟩ = false ∧ w.frozen? ⟨g, 2, none⟩ = false) ∧ w.cell? ⟨g, 0, none⟩ = some a ∧ w.cell? ⟨g, 1, none⟩ = some b ∧ w.cell? ⟨g, 2, none⟩ = some c :=
  ⟨⟨frozen_of h 0, frozen_of h 1, frozen_of h 2⟩, by rw [cells_of_block h]; rfl, by rw [cells_of_block h]; rfl, by rw [cells_of_block h]; rfl⟩
theorem p3_set {w : World} {g : Nat} {a b c : Value} {t : TypeId} (h : w.heap[g]? = some (.cells #[a, b, c] t (0, 0))) (x y z : Value) : (((w.setCell ⟨g, 0, none⟩ x).setCell ⟨g, 1, none⟩ y).setCell ⟨g, 2, none⟩ z).heap[g]? = some (.cells #[x, y, z] t (0, 0)) := by
  simp [World.setCell, Array.getElem?_modify, h]
theorem p3_size (w : World) (g : Nat) (x y z : Value) : (((w.setCell ⟨g, 0, none⟩ x).setCell ⟨g, 1, none⟩ y).setCell ⟨g, 2, none⟩ z).heap.size = w.heap.size := by simp [World.setCell]
theorem p3_set_below {n : Nat} {w w' : World} (h : Below n w w') {g : Nat} (hg : n ≤ g) (x y z : Value) : Below n w (((w'.setCell ⟨g, 0, none⟩ x).setCell ⟨g, 1, none⟩ y).setCell ⟨g, 2, none⟩ z) :=
  ((h.setCell (p := ⟨g, 0, none⟩) hg _).setCell (p := ⟨g, 1, none⟩) hg _).setCell (p := ⟨g, 2, none⟩) hg _

set_option maxHeartbeats 8000000 in
theorem settle_of (n : Nat) (s : Ms) (v : Value) (w : World) (hS : StV n w v s) (hn : n ≤ w.heap.size) (hbo : OkM s.r.base) (hlo : ∀ e ∈ s.r.log, OkM e) (hlg : s.r.log.length ≤ 1000000000) (hpl : s.r.peers.length ≤ 1000000) (hvl : (votR s.r).length ≤ 1000000) (hol : s.out.length ≤ 1000000) (he : endI s.r + 1 < 18446744073709551616) (hnx : ∀ p ∈ s.r.peers, p.next < 18446744073709551616) : Calls Tryz.prog 75 #[v] w fun e w' => ∃ v', e = .returned v' ∧ StV n w' v' (settleR s) ∧ Below w.heap.size w w' := by
  obtain ⟨z, gs, os, rfl, hz, hR, hM, ho⟩ := hS
  obtain ⟨r, zs, ⟨ba, bn, bc⟩, ⟨la, ln, lc⟩, ⟨va, vn, vc⟩, ⟨pa, pn, pc⟩⟩ := z
  obtain ⟨sr, so⟩ := s
  obtain rfl : r = sr := hz
  obtain ⟨nd, tm, vo, ⟨bi, bt, bk, bd⟩, lg, cm, ro, le, el, vt, pe⟩ := r
  obtain ⟨oa, on, oc⟩ := os
  dsimp only [endI, votR] at *
  dsimp only [sv] at *
  have hml : mes zs = lg := hR.2.2.1
  have hzl : zs.length ≤ 1000000000 := by have := congrArg List.length hml; rw [List.length_map] at this; omega
  have hzo := okz_of hml hlo
  have HV : Hid (∀ W, Below w.heap.size w W → _) := fun W hW => rvot_of (⟨bi, bt, bk, bd⟩, ba, bn, bc) zs (.slice la ln lc) W (hR.1.below hW).v (hR.2.1.below hW).v ⟨hbo.1, hbo.2.1, hbo.2.2.1⟩ (fun z hz => (hzo z hz).1) (by omega) hbo.2.2.2 (fun z hz => (hzo z hz).2)
  have HT : Hid (∀ W, Below w.heap.size w W → _) := fun W hW => rlast_of (⟨bi, bt, bk, bd⟩, ba, bn, bc) zs (.slice la ln lc) W (hR.2.1.below hW).v (by omega)
  rw [hml] at HV HT
  have HNX : Hid (∀ x, (peerOf ⟨nd, tm, vo, ⟨bi, bt, bk, bd⟩, lg, cm, ro, le, el, vt, pe⟩ (lastM ⟨bi, bt, bk, bd⟩ lg).1 x).next < 18446744073709551616) := fun x => peerOf_next he hnx
  have HSET : Hid (settleR ⟨⟨nd, tm, vo, ⟨bi, bt, bk, bd⟩, lg, cm, ro, le, el, vt, pe⟩, so⟩ = tellAllR (comR ⟨⟨nd, tm, vo, ⟨bi, bt, bk, bd⟩, lg, cm, ro, le, el, vt, (votM ⟨bi, bt, bk, bd⟩ lg).map (peerOf ⟨nd, tm, vo, ⟨bi, bt, bk, bd⟩, lg, cm, ro, le, el, vt, pe⟩ (lastM ⟨bi, bt, bk, bd⟩ lg).1)⟩, so⟩)) := rfl
  obtain ⟨LT, hLT⟩ : ∃ q, q = lastM (⟨bi, bt, bk, bd⟩ : Me) lg := ⟨_, rfl⟩
  rw [← hLT] at HT HNX HSET he
  clear hLT
  obtain ⟨E, ET⟩ := LT
  obtain ⟨V, hV⟩ : ∃ V, V = votM (⟨bi, bt, bk, bd⟩ : Me) lg := ⟨_, rfl⟩
  rw [← hV] at HV HSET hvl
  clear hV
  have HFIN : Hid (∀ (na : Option Addr) (nn nc : Nat) W, Below w.heap.size w W → Rk peerN W 71 (.slice na nn nc) (V.map (peerOf ⟨nd, tm, vo, ⟨bi, bt, bk, bd⟩, lg, cm, ro, le, el, vt, pe⟩ E)) → StV n W (.agg #[.int .i64 nd, .int .u64 (tm : Int), .int .i64 vo, .int .u64 (bi : Int), .int .u64 (bt : Int), .int .i64 bk, .slice ba bn bc, .slice la ln lc, .int .u64 (cm : Int), .int .i64 ro, .int .i64 le, .int .i64 el, .slice va vn vc, .slice na nn nc, .slice oa on oc]) ⟨⟨nd, tm, vo, ⟨bi, bt, bk, bd⟩, lg, cm, ro, le, el, vt, V.map (peerOf ⟨nd, tm, vo, ⟨bi, bt, bk, bd⟩, lg, cm, ro, le, el, vt, pe⟩ E)⟩, so⟩) := fun na nn nc W hW hK => ⟨⟨⟨nd, tm, vo, ⟨bi, bt, bk, bd⟩, lg, cm, ro, le, el, vt, V.map (peerOf ⟨nd, tm, vo, ⟨bi, bt, bk, bd⟩, lg, cm, ro, le, el, vt, pe⟩ E)⟩, zs, (ba, bn, bc), (la, ln, lc), (va, vn, vc), (na, nn, nc)⟩, gs, (oa, on, oc), rfl, rfl, ⟨hR.1.below hW, hR.2.1.below hW, hR.2.2.1, hR.2.2.2.1.below hW, hK.toN n⟩, hM.below hW, ho⟩
  have HPR : Hid (∀ W, Below w.heap.size w W → Rd peerN W (.slice pa pn pc) pe) := fun W hW => hR.2.2.2.2.rd.below hW
  obtain ⟨pa', pc', hps, -, -⟩ := hR.2.2.2.2.rd.shape
  simp only [slv, Value.slice.injEq] at hps
  obtain ⟨rfl, rfl, rfl⟩ := hps
  obtain ⟨hsz, B1, B2, hb2⟩ := two_box w (.cells #[.int .i64 nd, .int .u64 (tm : Int), .int .i64 vo, .int .u64 (bi : Int), .int .u64 (bt : Int), .int .i64 bk, .slice ba bn bc, .slice la ln lc, .int .u64 (cm : Int), .int .i64 ro, .int .i64 le, .int .i64 el, .slice va vn vc, .slice pa pe.length pc, .slice oa on oc] 54) (.cells #[.int .i64 0, .int .u64 0, .int .i64 0, .int .u64 0, .int .u64 0, .int .i64 0, .slice none 0 0, .slice none 0 0, .int .u64 0, .int .i64 0, .int .i64 0, .int .i64 0, .slice none 0 0, .slice none 0 0, .slice none 0 0] 54)
  have kl := HT.out _ hb2
  dsimp only [lgv, lastV] at kl he
  have HBO : Hid (OkM ⟨bi, bt, bk, bd⟩ ∧ ∀ e ∈ lg, OkM e) := ⟨hbo, hlo⟩
  clear hR hM ho hbo hlo hzo hml hzl hnx HT
  go_enter Tryz.func75, Tryz.ntmps75
  go_wp2_with fail
  refine kl.mono ?_
  rintro e w3 ⟨rfl, hb3⟩
  rw [hsz] at hb3
  have D1 := (hb3.block w.heap.size (by omega)).trans B1
  have D2 := (hb3.block (w.heap.size + 1) (by omega)).trans B2
  have hb03 := hb2.trans (hb3.mono (by omega))
  have hs3 : w.heap.size + 1 + 1 ≤ w3.heap.size := hb3.size |> fun h => by omega
  obtain ⟨-, o0, o1, o2, o3, o4, o5, o6, o7, o8, o9, o10, o11, o12, o13, o14⟩ := r15_cells D1
  have kv := HV.out w3 hb03
  dsimp only [lgv] at kv
  clear kl hb3 B1 B2 HV
  go_wp2_with fail
  refine kv.mono ?_
  rintro e w4 ⟨u, rfl, hRV, hb4⟩
  obtain ⟨ua, uc, rfl, -, -⟩ := hRV.shape
  have D1 := (hb4.block w.heap.size (by omega)).trans D1
  have D2 := (hb4.block (w.heap.size + 1) (by omega)).trans D2
  have hb04 := hb03.trans (hb4.mono hb03.size)
  have hs4 : w.heap.size + 1 + 1 ≤ w4.heap.size := Nat.le_trans hs3 hb4.size
  have HRV : Hid (Rd intE w4 (.slice ua V.length uc) V) := hRV
  obtain ⟨x1, x2, x3⟩ := one_box w4 (.cells #[] 71)
  have hO0 : Ow peerN 71 w4.heap.size (w4.alloc (.cells #[] 71)) (.slice (some ⟨w4.heap.size, 0, none⟩) 0 0) ((V.take 0).map (peerOf ⟨nd, tm, vo, ⟨bi, bt, bk, bd⟩, lg, cm, ro, le, el, vt, pe⟩ E)) := ⟨Rk.made (E := peerN) (xs := []) x2 rfl (by unfold maxLen; simp), fun k hk => by cases hk; exact Nat.le_refl _⟩
  clear kv hRV hb4 hb03 o0 o1 o2 o3 o4 o5 o6 o7 o8 o9 o10 o11 o12 o13 o14 hs3
  go_wp2
  go_loopg [6, 7, 8, 9] V.length (fun gh s6 s7 s8 s9 wr => ∃ (k : Nat) (st : Value), k + gh = V.length ∧ s7 = .int .i64 (k : Int) ∧ st = s6 ∧ Ow peerN 71 w4.heap.size wr st ((V.take k).map (peerOf ⟨nd, tm, vo, ⟨bi, bt, bk, bd⟩, lg, cm, ro, le, el, vt, pe⟩ E)) ∧ Below w4.heap.size w4 wr)
  case atStart => exact ⟨0, _, by simp, rfl, rfl, hO0, x3⟩
  case round =>
    obtain ⟨k, st, hkg, rfl, rfl, hO, hbr⟩ := hrel
    clear hO0 x1 x2 x3
    have D1r := (hbr.block w.heap.size (by omega)).trans D1
    have D2r := (hbr.block (w.heap.size + 1) (by omega)).trans D2
    have hb0r := hb04.trans (hbr.mono hb04.size)
    have hsr : w.heap.size + 1 + 1 ≤ wr.heap.size := Nat.le_trans hs4 hbr.size
    obtain ⟨sta, stc, hst, -⟩ := hO.1.shape
    by_cases hlt : k < V.length
    · have hlti : (k : Int) < (V.length : Int) := by omega
      have hx : V[k]? = some V[k] := List.getElem?_eq_getElem hlt
      obtain ⟨x, hxx⟩ : ∃ x, x = V[k] := ⟨_, rfl⟩
      rw [← hxx] at hx
      clear hxx
      obtain ⟨vb, vof, rfl, cv⟩ := rdi_at HRV.out hx
      have cv0 := cv wr hbr
      have HCV : Hid (∀ W, Below w4.heap.size w4 W → W.cell? ⟨vb, vof + k, none⟩ = some (.int .i64 x)) := cv
      have HSN : Hid ((V.take (k + 1)).map (peerOf ⟨nd, tm, vo, ⟨bi, bt, bk, bd⟩, lg, cm, ro, le, el, vt, pe⟩ E) = (V.take k).map (peerOf ⟨nd, tm, vo, ⟨bi, bt, bk, bd⟩, lg, cm, ro, le, el, vt, pe⟩ E) ++ [peerOf ⟨nd, tm, vo, ⟨bi, bt, bk, bd⟩, lg, cm, ro, le, el, vt, pe⟩ E x]) := by show _ = _; rw [take_succ_get hx, List.map_append]; rfl
      have hml : ((V.take k).map (peerOf ⟨nd, tm, vo, ⟨bi, bt, bk, bd⟩, lg, cm, ro, le, el, vt, pe⟩ E)).length ≤ 1000000 := by rw [List.length_map, List.length_take]; omega
      generalize (V.take k).map (peerOf ⟨nd, tm, vo, ⟨bi, bt, bk, bd⟩, lg, cm, ro, le, el, vt, pe⟩ E) = L at *
      subst hst
      have HO : Hid (Ow peerN 71 w4.heap.size wr (.slice sta L.length stc) L) := hO
      obtain ⟨GK, hGK⟩ : ∃ GK, Hid (GK = gk) := ⟨_, rfl⟩
      have hkg : k + GK = V.length := by rw [hGK.out]; exact hkg
      obtain ⟨y1, y2, y3⟩ := one_box wr (.cells #[.int .i64 x, .int .u64 (E : Int), .int .u64 0] 71)
      clear cv hx hO
      go_wp2
      obtain ⟨wE, hwE⟩ : ∃ wE, wE = wr := ⟨_, rfl⟩
      subst hwE
      go_loopg [9] pe.length (fun gh s9 wr => ∃ (j : Nat) (q : Mp), j + gh = pe.length ∧ s9 = .int .i64 (j : Int) ∧ Hid (q = (pe.take j).foldl (pickP x) ⟨x, E, 0⟩) ∧ wr.heap[wE.heap.size]? = some (.cells #[.int .i64 q.node, .int .u64 (q.next : Int), .int .u64 (q.mat : Int)] 71) ∧ Below wE.heap.size wE wr)
      case atStart => exact ⟨0, ⟨x, E, 0⟩, by simp, rfl, rfl, y2, y3⟩
      case round =>
        obtain ⟨j, q, hjg, rfl, HQ, hq, hbq⟩ := hrel
        clear y1 y2 y3
        have D1q := (hbq.block w.heap.size (by omega)).trans D1r
        have D2q := (hbq.block (w.heap.size + 1) (by omega)).trans D2r
        have hb0q := hb0r.trans (hbq.mono hb0r.size)
        have hb4q := hbr.trans (hbq.mono hbr.size)
        have cvq := HCV.out wr hb4q
        have hsq : wE.heap.size + 1 ≤ wr.heap.size := (Array.getElem?_eq_some_iff.1 hq).1
        obtain ⟨-, o0, o1, o2, o3, o4, o5, o6, o7, o8, o9, o10, o11, o12, o13, o14⟩ := r15_cells D1q
        obtain ⟨⟨f0, f1, f2⟩, p0, p1, p2⟩ := p3_cells hq
        by_cases hjt : j < pe.length
        · have hjti : (j : Int) < (pe.length : Int) := by omega
          have hp : pe[j]? = some pe[j] := List.getElem?_eq_getElem hjt
          obtain ⟨p, hpp⟩ : ∃ p, p = pe[j] := ⟨_, rfl⟩
          rw [← hpp] at hp
          clear hpp
          obtain ⟨pb, pof, rfl, cp⟩ := rdpn_at (HPR.out wr hb0q) hp
          obtain ⟨d0, d1, d2⟩ := cp wr (Below.refl _ _)
          have HN : Hid ((pe.take (j + 1)).foldl (pickP x) ⟨x, E, 0⟩ = pickP x q p) := by show _ = _; rw [fold_take _ hp, ← HQ.out]
          by_cases hnd : p.node = x
          · have E2 : Hid (p = (pe.take (j + 1)).foldl (pickP x) ⟨x, E, 0⟩) := by show _ = _; rw [HN.out]; unfold pickP; rw [if_pos hnd]
            have hndb : (p.node == x) = true := by simpa using hnd
            obtain ⟨pnd, nx, pm⟩ := p
            dsimp only at *
            subst hnd
            have hqf : Hid (_ = _) := p3_set hq (.int .i64 pnd) (.int .u64 (nx : Int)) (.int .u64 (pm : Int))
            have hbf := p3_set_below hbq (g := wE.heap.size) (Nat.le_refl _) (.int .i64 pnd) (.int .u64 (nx : Int)) (.int .u64 (pm : Int))
            clear HN HQ cp hp
            go_wp2
            go_quiet (fail)
            go_wp2
            go_roundg (gk - 1)
            case measure => omega
            case rel => exact ⟨j + 1, ⟨pnd, nx, pm⟩, by omega, by go_num, E2, by first | exact hqf.out | simpa using hqf.out, by first | exact below_dN hbf _ | exact hbf⟩
          · have E2 : Hid (q = (pe.take (j + 1)).foldl (pickP x) ⟨x, E, 0⟩) := by show _ = _; rw [HN.out]; unfold pickP; rw [if_neg hnd]
            have hndb : (p.node == x) = false := by simpa using hnd
            obtain ⟨pnd, nx, pm⟩ := p
            dsimp only at *
            clear HN HQ cp hp
            go_wp2
            go_quiet (fail)
            go_wp2
            go_roundg (gk - 1)
            case measure => omega
            case rel => exact ⟨j + 1, q, by omega, by go_num, E2, by first | exact hq | simpa using hq, below_dN hbq _⟩
        · have hjti : ¬ (j : Int) < (pe.length : Int) := by omega
          have HQ2 : Hid (q = pe.foldl (pickP x) ⟨x, E, 0⟩) := by show _ = _; rw [HQ.out, List.take_of_length_le (by omega)]
          clear HQ
          have HPO : Hid (peerOf ⟨nd, tm, vo, ⟨bi, bt, bk, bd⟩, lg, cm, ro, le, el, vt, pe⟩ E x = if x = nd then ⟨x, E + 1, E⟩ else q) := by
            show _ = _
            rw [peerOf_eq, ← HQ2.out]
            dsimp only
            split
            · rename_i h; rw [h]
            · rfl
          clear HQ2
          by_cases hnd : x = nd
          · have HE3 : Hid ((V.take (k + 1)).map (peerOf ⟨nd, tm, vo, ⟨bi, bt, bk, bd⟩, lg, cm, ro, le, el, vt, pe⟩ E) = L ++ [⟨x, E + 1, E⟩]) := by show _ = _; rw [HSN.out, HPO.out, if_pos hnd]
            have hndb : (x == nd) = true := by simpa using hnd
            have hwr : IntKind.u64.wrap ((E : Int) + 1) = (E : Int) + 1 := IntWalk.u64_in _ (by omega)
            subst hnd
            clear HSN HPO
            go_wp2
            go_quiet (fail)
            have hb6 : Below wE.heap.size wE (wr.drewN nq) := below_dN hbq nq
            have hq6 : (wr.drewN nq).heap[wE.heap.size]? = _ := hq
            have D16 : (wr.drewN nq).heap[w.heap.size]? = _ := D1q
            clear o0 o1 o2 o3 o4 o5 o6 o7 o8 o9 o10 o11 o12 o13 o14 f0 f1 f2 p0 p1 p2 hq D1q D2q hb0q hb4q cvq hsq hbq
            generalize wr.drewN nq = w6 at *
            obtain ⟨-, o0, o1, o2, o3, o4, o5, o6, o7, o8, o9, o10, o11, o12, o13, o14⟩ := r15_cells D16
            obtain ⟨⟨f0, f1, f2⟩, p0, p1, p2⟩ := p3_cells hq6
            have hb7 : Below wE.heap.size wE (((w6.setCell ⟨wE.heap.size, 0, none⟩ (.int .i64 x)).setCell ⟨wE.heap.size, 1, none⟩ (.int .u64 ((E : Int) + 1))).setCell ⟨wE.heap.size, 2, none⟩ (.int .u64 (E : Int))) := p3_set_below hb6 (g := wE.heap.size) (Nat.le_refl _) _ _ _
            have hO7 := HO.out.below hb7
            have hrunH : Hid _ := push_peer ⟨x, E + 1, E⟩ hO7.1 (by omega)
            dsimp only at hrunH
            rw [show ((E + 1 : Nat) : Int) = (E : Int) + 1 from rfl] at hrunH
            rw [p3_size w6] at hrunH
            go_wp2_with (at_builtin; refine wp_by rfl _ _ _ rfl _ _ rfl rfl hrunH.out ?_)
            intro v8 w8 hp8
            obtain ⟨hO8, hb8⟩ := hO7.push (Nat.le_trans hbr.size hb7.size) hp8
            rw [← HE3.out] at hO8
            have hb48 := (hbr.trans (hb7.mono hbr.size)).trans hb8
            clear hrunH hp8 hO7 hb8 hb7 HE3
            go_wp2
            go_roundg (GK - 1)
            case measure => have := hGK.out; omega
            case rel => exact ⟨k + 1, v8, by omega, by go_num, rfl, hO8, hb48⟩
          · have HE3 : Hid ((V.take (k + 1)).map (peerOf ⟨nd, tm, vo, ⟨bi, bt, bk, bd⟩, lg, cm, ro, le, el, vt, pe⟩ E) = L ++ [q]) := by show _ = _; rw [HSN.out, HPO.out, if_neg hnd]
            have hndb : (x == nd) = false := by simpa using hnd
            clear HSN HPO
            go_wp2
            go_quiet (fail)
            have hb6 : Below wE.heap.size wE (wr.drewN nq) := below_dN hbq nq
            have hq6 : (wr.drewN nq).heap[wE.heap.size]? = _ := hq
            clear o0 o1 o2 o3 o4 o5 o6 o7 o8 o9 o10 o11 o12 o13 o14 f0 f1 f2 p0 p1 p2 hq D1q D2q hb0q hb4q cvq hsq hbq
            generalize wr.drewN nq = w6 at *
            obtain ⟨⟨f0, f1, f2⟩, p0, p1, p2⟩ := p3_cells hq6
            have hO7 := HO.out.below hb6
            have hrunH : Hid _ := push_peer q hO7.1 (by omega)
            go_wp2_with (at_builtin; refine wp_by rfl _ _ _ rfl _ _ rfl rfl hrunH.out ?_)
            intro v8 w8 hp8
            obtain ⟨hO8, hb8⟩ := hO7.push (Nat.le_trans hbr.size hb6.size) hp8
            rw [← HE3.out] at hO8
            have hb48 := (hbr.trans (hb6.mono hbr.size)).trans hb8
            clear hrunH hp8 hO7 hb8 hb6 HE3
            go_wp2
            go_roundg (GK - 1)
            case measure => have := hGK.out; omega
            case rel => exact ⟨k + 1, v8, by omega, by go_num, rfl, hO8, hb48⟩
    · have hlti : ¬ (k : Int) < (V.length : Int) := by omega
      obtain rfl : V.length = k := by omega
      rw [List.take_length] at hO hst
      generalize hPE : V.map (peerOf ⟨nd, tm, vo, ⟨bi, bt, bk, bd⟩, lg, cm, ro, le, el, vt, pe⟩ E) = PE at *
      have hPL : PE.length ≤ 1000000 := by rw [← hPE, List.length_map]; exact hvl
      have HPN : Hid (∀ p ∈ PE, p.next < 18446744073709551616) := fun p hp => by rw [← hPE] at hp; obtain ⟨y, -, rfl⟩ := List.mem_map.1 hp; exact HNX.out y
      clear HNX
      generalize PE.length = pl at hst
      subst hst
      have g1 : (wr.setCell ⟨w.heap.size, 13, none⟩ (.slice sta pl stc)).heap[w.heap.size]? = some (.cells #[.int .i64 nd, .int .u64 (tm : Int), .int .i64 vo, .int .u64 (bi : Int), .int .u64 (bt : Int), .int .i64 bk, .slice ba bn bc, .slice la ln lc, .int .u64 (cm : Int), .int .i64 ro, .int .i64 le, .int .i64 el, .slice va vn vc, .slice sta pl stc, .slice oa on oc] 54) := by simp [World.setCell, Array.getElem?_modify, D1r]
      have g2 : (wr.setCell ⟨w.heap.size, 13, none⟩ (.slice sta pl stc)).heap[w.heap.size + 1]? = _ := (set_far (by omega) _).trans D2r
      have hb1 := hb0r.setCell (p := ⟨w.heap.size, 13, none⟩) (Nat.le_refl _) (.slice sta pl stc)
      have hS1 := HFIN.out sta pl stc _ hb1 (hO.1.frm (Frm.cell (n := n) (i := 13) hn D1r (.slice sta pl stc)) (by decide))
      have kc := com_of n _ _ _ hS1 (Nat.le_trans hn hb1.size) HBO.out.1 HBO.out.2 hlg hPL
      obtain ⟨⟨f0, f1, f2, f3, f4, f5, f6, f7, f8, f9, f10, f11, f12, f13, f14⟩, o0, o1, o2, o3, o4, o5, o6, o7, o8, o9, o10, o11, o12, o13, o14⟩ := r15_cells D1r
      clear hO HRV HPR HFIN D1 D2
      go_wp2_with (refine wpList_load_row rfl 54 _ rfl w.heap.size rfl _ _ _ _ g1 Tryz.underlying54 rfl (by kernel_rfl) ?_)
      refine kc.mono ?_
      rintro e w8 ⟨v8, rfl, hS8, hb8⟩
      have g28 := (hb8.block (w.heap.size + 1) (by have := hb1.size; simp at this ⊢; omega)).trans g2
      have hb08 := hb1.trans (hb8.mono hb1.size)
      have kt := tella_of n _ _ _ hS8 (Nat.le_trans hn hb08.size) (by rw [com_out, (com_log _).2.2.1]; dsimp only; omega) (by rw [(com_log _).1]; exact hlg) (by rw [(com_log _).2.2.1]; exact HPN.out)
      rw [← HSET.out] at kt
      clear kc hS8 hS1 o0 o1 o2 o3 o4 o5 o6 o7 o8 o9 o10 o11 o12 o13 o14 f0 f1 f2 f3 f4 f5 f6 f7 f8 f9 f10 f11 f12 f13 f14
      go_wp2_with fail
      refine kt.mono ?_
      rintro e w9 ⟨v9, rfl, hS9, hb9⟩
      have g29 := (hb9.block (w.heap.size + 1) (Nat.lt_of_lt_of_le (by have := (Array.getElem?_eq_some_iff.1 g28).1; omega) (Nat.le_refl _))).trans g28
      have hb09 := hb08.trans (hb9.mono hb08.size)
      obtain ⟨cs, rfl, h15, hone⟩ := hS9.shape
      have HF := setRow_heap _ _ _ cs _ _ g29
      have hbf := below_row hb09 (g := w.heap.size + 1) (by omega) cs
      have hSf := hS9.frm (Frm.row (n := n) (by omega) g29 cs) (by decide)
      clear kt
      go_wp2_with (refine wpList_store_row rfl 54 _ _ rfl (w.heap.size + 1) cs rfl rfl _ _ g29 (by rw [h15]; exact sizeSt) (by rw [h15]; rfl) hone ?_)
      (try simp only [Exit.inBlock, Exit.then])
      refine bodyPost_ret (results_stv rfl _ _ (w.heap.size + 1) cs h15 rfl HF) rfl ?_
      exact ⟨_, rfl, hSf, hbf⟩
end Go.Proofs.YtncoandnelgkeaaGreat

