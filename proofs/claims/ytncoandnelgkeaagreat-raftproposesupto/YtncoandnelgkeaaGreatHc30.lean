import Derived.Test.YtncoandnelgkeaaGreatHc21
import Derived.Test.YtncoandnelgkeaaGreatHc23
import Derived.Test.YtncoandnelgkeaaGreatHc27
import Derived.Test.YtncoandnelgkeaaGreatHc29
/- The program's news: what a peer lacks. -/
namespace Go.Proofs.YtncoandnelgkeaaGreat
open Go.RowKit QuorumMath RlogMath RaftMath
set_option maxRecDepth 100000
set_option linter.unusedSimpArgs false
set_option linter.unusedVariables false

/-- What a peer is told. -/
def newsM (s : Ms) (p : Mp) : Mm :=
  if p.next ≤ s.r.base.idx then { msg0 with kind := 5, index := s.r.base.idx, prev := s.r.base.term, commit := s.r.commit, snap := s.r.base }
  else { msg0 with kind := 3, index := p.next - 1, prev := (termM s.r.base s.r.log (p.next - 1)).getD 0, ents := sliceM s.r.base s.r.log p.next 16, commit := s.r.commit }
theorem tell_news (s : Ms) (p : Mp) : tellR s p = sayR s { newsM s p with dst := p.node } := by unfold tellR newsM; split <;> rfl
set_option maxHeartbeats 8000000 in
theorem news_of (w0 : World) (K : List (Nat × Obj)) (w : World) (t : Nat) (s : Ms) (p : Mp) (hS : TuAt w0 K w t s) (hm : mayB s.r.base s.r.log = true) (hbo : OkM s.r.base) (hlo : ∀ e ∈ s.r.log, OkM e) (hnx : p.next < 18446744073709551616) : Calls Tryz.prog 142 #[.pointer (some ⟨t, 0, none⟩), .agg #[.int .i64 p.node, .int .u64 (p.next : Int), .int .u64 (p.mat : Int)]] w fun e w' => ∃ g : Gz, e = .returned (gv g) ∧ MgC w' g ∧ g.m = newsM s p ∧ Below w.heap.size w w' := by
  obtain ⟨hb0, ht0, z, gs, os, hT, hz, hP, ho, -⟩ := hS
  obtain ⟨r, zs, ⟨ba, bn, bc⟩, ⟨la, ln, lc⟩, ⟨va, vn, vc⟩, ⟨pa, pn, pc⟩⟩ := z
  obtain ⟨sr, so⟩ := s
  obtain rfl : r = sr := hz
  obtain ⟨nd, tm, vo, ⟨bi, bt, bk, bd⟩, lg, cm, ro, le, el, vt, pe⟩ := r
  obtain ⟨oa, on, oc⟩ := os
  obtain ⟨pnd, nx, pm⟩ := p
  dsimp only at *
  dsimp only [tc] at hT
  have hml : mes zs = lg := hP.2.1.2.1
  have hzl : zs.length ≤ 1000000 := by have := congrArg List.length hml; rw [List.length_map] at this; have := (may_last hm).2.2; omega
  have hzo := okz_of hml hlo
  have hD : DataV w ((⟨bi, bt, bk, bd⟩, ba, bn, bc) : Ez) := hP.1.data
  have hL : EntsV w (.slice la ln lc) zs := hP.2.1.ents
  have HCE : Hid (∀ W, Below w.heap.size w W → _) := fun W hW => copyE_of (⟨bi, bt, bk, bd⟩, ba, bn, bc) W (hD.below hW) hbo.2.2.2
  have htl : t < w.heap.size := (Array.getElem?_eq_some_iff.1 hT).1
  obtain ⟨hsz, P5, M5, E5, hb5⟩ := three_box w (.cells #[.int .i64 pnd, .int .u64 (nx : Int), .int .u64 (pm : Int)] 71) (.cells #[.int .i64 0, .int .i64 0, .int .i64 0, .int .u64 0, .int .u64 0, .int .u64 0, .slice none 0 0, .int .u64 0, .bool false, .int .u64 0, .int .u64 0, .int .u64 0, .int .i64 0, .slice none 0 0] 34) (.cells #[.int .u64 (bi : Int), .int .u64 (bt : Int), .int .i64 bk, .slice ba bn bc] 25)
  have T5 := (hb5.block t htl).trans hT
  by_cases h1 : nx ≤ bi
  · have h1i : (nx : Int) ≤ (bi : Int) := by omega
    have HN : Hid (newsM ⟨⟨nd, tm, vo, ⟨bi, bt, bk, bd⟩, lg, cm, ro, le, el, vt, pe⟩, so⟩ ⟨pnd, nx, pm⟩ = ⟨5, 0, 0, 0, bi, bt, [], cm, false, 0, ⟨bi, bt, bk, bd⟩⟩) := by show _ = _; unfold newsM; rw [if_pos h1]; rfl
    obtain ⟨-, o0, o1, o2, o3, o4, o5, o6, o7, o8, o9, o10, o11, o12, o13, o14⟩ := r15_cells hT
    clear hP ho hD hL hzo hml
    go_enter Tryz.func142, Tryz.ntmps142
    go_wp2
    (try simp only [Exit.inBlock, Exit.then])
    generalize ((w.alloc (.cells #[.int .i64 pnd, .int .u64 (nx : Int), .int .u64 (pm : Int)] 71)).alloc (.cells #[.int .i64 0, .int .i64 0, .int .i64 0, .int .u64 0, .int .u64 0, .int .u64 0, .slice none 0 0, .int .u64 0, .bool false, .int .u64 0, .int .u64 0, .int .u64 0, .int .i64 0, .slice none 0 0] 34)).alloc (.cells #[.int .u64 (bi : Int), .int .u64 (bt : Int), .int .i64 bk, .slice ba bn bc] 25) = w5 at *
    refine wp_region_L (fun W => Below w5.heap.size w5 W) [12] (by kernel_rfl) ?_
    have hbd : Below w5.heap.size w5 w5.drew := (Below.refl _ w5).drew
    have HTL : Hid (∀ W, Below w5.heap.size w5 W → _) := fun W hW => r15_cells ((hW.block t (by omega)).trans T5)
    have HPL : Hid (∀ W, Below w5.heap.size w5 W → _) := fun W hW => p3_cells ((hW.block w.heap.size (by omega)).trans P5)
    have HEL : Hid (∀ W, Below w5.heap.size w5 W → _) := fun W hW => en_cells ((hW.block (w.heap.size + 1 + 1) (by omega)).trans E5)
    generalize w5.drew = wd at *
    refine wpAnyL_take 0 rfl (by kernel_rfl) (by kernel_rfl) (by kernel_rfl) (by kernel_rfl) (fun _ _ _ h => h) (wanted_none rfl) (by intro w' hS'; have hz := hS'; obtain ⟨-, c0, c1, c2, c3, c4, c5, c6, c7, c8, c9, c10, c11, c12, c13, c14⟩ := HTL.out _ hz; obtain ⟨-, d0, d1, d2⟩ := HPL.out _ hz; obtain ⟨-, e0, e1, e2, e3⟩ := HEL.out _ hz; go_simp <;> rfl) hbd ?_
    try simp only [List.getElem_toArray, List.getElem_cons_succ, List.getElem_cons_zero, Act.put, List.setIfInBounds_toArray, List.set_cons_zero, List.set_cons_succ]
    refine wpAnyL_take 1 rfl (by kernel_rfl) (by kernel_rfl) (by kernel_rfl) (by kernel_rfl) (fun _ _ _ h => h) (wanted_none rfl) (by intro w' hS'; have hz := hS'; obtain ⟨-, c0, c1, c2, c3, c4, c5, c6, c7, c8, c9, c10, c11, c12, c13, c14⟩ := HTL.out _ hz; obtain ⟨-, d0, d1, d2⟩ := HPL.out _ hz; obtain ⟨-, e0, e1, e2, e3⟩ := HEL.out _ hz; go_simp <;> rfl) hbd ?_
    try simp only [List.getElem_toArray, List.getElem_cons_succ, List.getElem_cons_zero, Act.put, List.setIfInBounds_toArray, List.set_cons_zero, List.set_cons_succ]
    refine wpAnyL_take 2 rfl (by kernel_rfl) (by kernel_rfl) (by kernel_rfl) (by kernel_rfl) (fun _ _ _ h => h) (wanted_none rfl) (by intro w' hS'; have hz := hS'; obtain ⟨-, c0, c1, c2, c3, c4, c5, c6, c7, c8, c9, c10, c11, c12, c13, c14⟩ := HTL.out _ hz; obtain ⟨-, d0, d1, d2⟩ := HPL.out _ hz; obtain ⟨-, e0, e1, e2, e3⟩ := HEL.out _ hz; go_simp <;> rfl) hbd ?_
    try simp only [List.getElem_toArray, List.getElem_cons_succ, List.getElem_cons_zero, Act.put, List.setIfInBounds_toArray, List.set_cons_zero, List.set_cons_succ]
    refine wpAnyL_take 3 rfl (by kernel_rfl) (by kernel_rfl) (by kernel_rfl) (by kernel_rfl) (fun _ _ _ h => h) (wanted_none rfl) (by intro w' hS'; have hz := hS'; obtain ⟨-, c0, c1, c2, c3, c4, c5, c6, c7, c8, c9, c10, c11, c12, c13, c14⟩ := HTL.out _ hz; obtain ⟨-, d0, d1, d2⟩ := HPL.out _ hz; obtain ⟨-, e0, e1, e2, e3⟩ := HEL.out _ hz; go_simp <;> rfl) hbd ?_
    try simp only [List.getElem_toArray, List.getElem_cons_succ, List.getElem_cons_zero, Act.put, List.setIfInBounds_toArray, List.set_cons_zero, List.set_cons_succ]
    refine wpAnyL_take 4 rfl (by kernel_rfl) (by kernel_rfl) (by kernel_rfl) (by kernel_rfl) (fun _ _ _ h => h) (wanted_none rfl) (by intro w' hS'; have hz := hS'; obtain ⟨-, c0, c1, c2, c3, c4, c5, c6, c7, c8, c9, c10, c11, c12, c13, c14⟩ := HTL.out _ hz; obtain ⟨-, d0, d1, d2⟩ := HPL.out _ hz; obtain ⟨-, e0, e1, e2, e3⟩ := HEL.out _ hz; go_simp <;> rfl) hbd ?_
    try simp only [List.getElem_toArray, List.getElem_cons_succ, List.getElem_cons_zero, Act.put, List.setIfInBounds_toArray, List.set_cons_zero, List.set_cons_succ]
    refine wpAnyL_take 5 rfl (by kernel_rfl) (by kernel_rfl) (by kernel_rfl) (by kernel_rfl) (fun _ _ _ h => h) (wanted_none rfl) (by intro w' hS'; have hz := hS'; obtain ⟨-, c0, c1, c2, c3, c4, c5, c6, c7, c8, c9, c10, c11, c12, c13, c14⟩ := HTL.out _ hz; obtain ⟨-, d0, d1, d2⟩ := HPL.out _ hz; obtain ⟨-, e0, e1, e2, e3⟩ := HEL.out _ hz; go_simp <;> rfl) hbd ?_
    try simp only [List.getElem_toArray, List.getElem_cons_succ, List.getElem_cons_zero, Act.put, List.setIfInBounds_toArray, List.set_cons_zero, List.set_cons_succ]
    refine wpAnyL_take 6 rfl (by kernel_rfl) (by kernel_rfl) (by kernel_rfl) (by kernel_rfl) (fun _ _ _ h => h) (wanted_none rfl) (by intro w' hS'; have hz := hS'; obtain ⟨-, c0, c1, c2, c3, c4, c5, c6, c7, c8, c9, c10, c11, c12, c13, c14⟩ := HTL.out _ hz; obtain ⟨-, d0, d1, d2⟩ := HPL.out _ hz; obtain ⟨-, e0, e1, e2, e3⟩ := HEL.out _ hz; go_simp <;> rfl) hbd ?_
    try simp only [List.getElem_toArray, List.getElem_cons_succ, List.getElem_cons_zero, Act.put, List.setIfInBounds_toArray, List.set_cons_zero, List.set_cons_succ]
    refine wpAnyL_take 7 rfl (by kernel_rfl) (by kernel_rfl) (by kernel_rfl) (by kernel_rfl) (fun _ _ _ h => h) (wanted_none rfl) (by intro w' hS'; have hz := hS'; obtain ⟨-, c0, c1, c2, c3, c4, c5, c6, c7, c8, c9, c10, c11, c12, c13, c14⟩ := HTL.out _ hz; obtain ⟨-, d0, d1, d2⟩ := HPL.out _ hz; obtain ⟨-, e0, e1, e2, e3⟩ := HEL.out _ hz; go_simp <;> rfl) hbd ?_
    try simp only [List.getElem_toArray, List.getElem_cons_succ, List.getElem_cons_zero, Act.put, List.setIfInBounds_toArray, List.set_cons_zero, List.set_cons_succ]
    refine wpAnyL_take 8 rfl (by kernel_rfl) (by kernel_rfl) (by kernel_rfl) (by kernel_rfl) (fun _ _ _ h => h) (wanted_none rfl) (by intro w' hS'; have hz := hS'; obtain ⟨-, c0, c1, c2, c3, c4, c5, c6, c7, c8, c9, c10, c11, c12, c13, c14⟩ := HTL.out _ hz; obtain ⟨-, d0, d1, d2⟩ := HPL.out _ hz; obtain ⟨-, e0, e1, e2, e3⟩ := HEL.out _ hz; go_simp <;> rfl) hbd ?_
    try simp only [List.getElem_toArray, List.getElem_cons_succ, List.getElem_cons_zero, Act.put, List.setIfInBounds_toArray, List.set_cons_zero, List.set_cons_succ]
    refine wpAnyL_take 9 rfl (by kernel_rfl) (by kernel_rfl) (by kernel_rfl) (by kernel_rfl) (fun _ _ _ h => h) (wanted_none rfl) (by intro w' hS'; have hz := hS'; obtain ⟨-, c0, c1, c2, c3, c4, c5, c6, c7, c8, c9, c10, c11, c12, c13, c14⟩ := HTL.out _ hz; obtain ⟨-, d0, d1, d2⟩ := HPL.out _ hz; obtain ⟨-, e0, e1, e2, e3⟩ := HEL.out _ hz; go_simp <;> rfl) hbd ?_
    try simp only [List.getElem_toArray, List.getElem_cons_succ, List.getElem_cons_zero, Act.put, List.setIfInBounds_toArray, List.set_cons_zero, List.set_cons_succ]
    have kc := HCE.out wd (hb5.trans (hbd.mono hb5.size))
    dsimp only [ev] at kc
    refine wpAnyL_one 10 (by kernel_rfl) rfl (wanted_none rfl) ?_
    intro K' hK'
    go_simp
    go_at_call 77
    refine kc.mono ?_
    rintro e w6 ⟨⟨ca, cn, cc⟩, rfl, hC6, hb6⟩
    dsimp only [ev]
    have hS6 : (fun W => Below w5.heap.size w5 W) w6 := hbd.trans (hb6.mono hbd.size)
    have g2 := (hS6.block (w.heap.size + 1) (by omega)).trans M5
    have HF := setRow_heap _ _ _ #[.int .i64 5, .int .i64 0, .int .i64 0, .int .u64 0, .int .u64 (bi : Int), .int .u64 (bt : Int), .slice none 0 0, .int .u64 (cm : Int), .bool false, .int .u64 0, .int .u64 (bi : Int), .int .u64 (bt : Int), .int .i64 bk, .slice ca cn cc] _ _ g2
    have hbf := below_row (hb5.trans (hS6.mono hb5.size)) (g := w.heap.size + 1) (by omega) #[.int .i64 5, .int .i64 0, .int .i64 0, .int .u64 0, .int .u64 (bi : Int), .int .u64 (bt : Int), .slice none 0 0, .int .u64 (cm : Int), .bool false, .int .u64 0, .int .u64 (bi : Int), .int .u64 (bt : Int), .int .i64 bk, .slice ca cn cc]
    have hCf := hC6.frm (Frm.row (n := w.heap.size) (by omega) g2 #[.int .i64 5, .int .i64 0, .int .i64 0, .int .u64 0, .int .u64 (bi : Int), .int .u64 (bt : Int), .slice none 0 0, .int .u64 (cm : Int), .bool false, .int .u64 0, .int .u64 (bi : Int), .int .u64 (bt : Int), .int .i64 bk, .slice ca cn cc]) (by decide)
    clear kc
    refine hK'.out _ _ (.inr hS6) ?_
    clear hK' K'
    try simp only [List.getElem_toArray, List.getElem_cons_succ, List.getElem_cons_zero, Act.put, List.setIfInBounds_toArray, List.set_cons_zero, List.set_cons_succ]
    refine wpAnyL_take 11 rfl (by kernel_rfl) (by kernel_rfl) (by kernel_rfl) (by kernel_rfl) (fun _ _ _ h => h) (wanted_none rfl) (by intro w' hS'; have hz := hS'; obtain ⟨-, c0, c1, c2, c3, c4, c5, c6, c7, c8, c9, c10, c11, c12, c13, c14⟩ := HTL.out _ hz; obtain ⟨-, d0, d1, d2⟩ := HPL.out _ hz; obtain ⟨-, e0, e1, e2, e3⟩ := HEL.out _ hz; go_simp <;> rfl) hS6 ?_
    try simp only [List.getElem_toArray, List.getElem_cons_succ, List.getElem_cons_zero, Act.put, List.setIfInBounds_toArray, List.set_cons_zero, List.set_cons_succ]
    refine wpAnyL_one 12 (by kernel_rfl) rfl (wanted_none rfl) ?_
    intro K' hK'
    refine wp_store_row 34 _ _ rfl (w.heap.size + 1) #[.int .i64 5, .int .i64 0, .int .i64 0, .int .u64 0, .int .u64 (bi : Int), .int .u64 (bt : Int), .slice none 0 0, .int .u64 (cm : Int), .bool false, .int .u64 0, .int .u64 (bi : Int), .int .u64 (bt : Int), .int .i64 bk, .slice ca cn cc] rfl rfl _ _ g2 (by kernel_rfl) rfl (by simp [Value.oneCell']) ?_
    refine hK'.out _ _ (.inl (by decide)) ?_
    clear hK' K'
    try simp only [List.getElem_toArray, List.getElem_cons_succ, List.getElem_cons_zero, Act.put, List.setIfInBounds_toArray, List.set_cons_zero, List.set_cons_succ]
    refine wpAnyL_done (by kernel_rfl) (NoPanic.normal ?_) _
    generalize w6.setRow (w.heap.size + 1) #[.int .i64 5, .int .i64 0, .int .i64 0, .int .u64 0, .int .u64 (bi : Int), .int .u64 (bt : Int), .slice none 0 0, .int .u64 (cm : Int), .bool false, .int .u64 0, .int .u64 (bi : Int), .int .u64 (bt : Int), .int .i64 bk, .slice ca cn cc] = W8 at *
    go_wp2
    (try simp only [Exit.inBlock, Exit.then])
    refine bodyPost_ret (results_mg rfl _ _ (w.heap.size + 1) _ _ _ _ _ _ _ _ _ _ _ _ _ _ rfl HF) rfl ?_
    exact ⟨⟨⟨5, 0, 0, 0, bi, bt, [], cm, false, 0, ⟨bi, bt, bk, bd⟩⟩, [], (none, 0, 0), (ca, cn, cc)⟩, rfl, ⟨Cps.nil _ _, hCf⟩, HN.out.symm, hbf⟩
  · have h1i : ¬ (nx : Int) ≤ (bi : Int) := by omega
    obtain ⟨x, hx⟩ : ∃ x, Hid (nx = x + 1) := ⟨nx - 1, by show _ = _; omega⟩
    have x1 : IntKind.u64.wrap ((nx : Int) - 1) = (x : Int) := by have := hx.out; rw [show (nx : Int) - 1 = (x : Int) by omega]; exact IntWalk.u64_in _ (by omega)
    have x2 : (nx : Int) - 1 = (x : Int) := by have := hx.out; omega
    have x3 : IntKind.u64.wrap (x : Int) = (x : Int) := by have := hx.out; exact IntWalk.u64_in _ (by omega)
    have HN : Hid (newsM ⟨⟨nd, tm, vo, ⟨bi, bt, bk, bd⟩, lg, cm, ro, le, el, vt, pe⟩, so⟩ ⟨pnd, nx, pm⟩ = ⟨3, 0, 0, 0, x, (termM ⟨bi, bt, bk, bd⟩ lg x).getD 0, sliceM ⟨bi, bt, bk, bd⟩ lg nx 16, cm, false, 0, zeroMe⟩) := by show _ = _; unfold newsM; rw [if_neg h1]; dsimp only; rw [hx.out]; rfl
    have HKT : Hid (∀ W, Below w.heap.size w W → _) := fun W hW => pterm_of (⟨bi, bt, bk, bd⟩, ba, bn, bc) zs (.slice la ln lc) x W (hL.below hW) (by omega) (by rw [hml]; exact hm)
    have HKS : Hid (∀ W, Below w.heap.size w W → _) := fun W hW => pslice_c (⟨bi, bt, bk, bd⟩, ba, bn, bc) zs (.slice la ln lc) nx 16 W (hL.below hW) (by omega) (fun z hz => (hzo z hz).2)
    rw [hml] at HKT
    simp only [← termM_d] at HKT
    dsimp only [lgv] at HKT HKS
    have HML : Hid (mes zs = lg) := hml
    obtain ⟨-, o0, o1, o2, o3, o4, o5, o6, o7, o8, o9, o10, o11, o12, o13, o14⟩ := r15_cells hT
    generalize (termM ⟨bi, bt, bk, bd⟩ lg x).isSome = TB at *
    generalize (termM ⟨bi, bt, bk, bd⟩ lg x).getD 0 = T at *
    clear hP ho hD hL hzo hml HCE
    go_enter Tryz.func142, Tryz.ntmps142
    go_wp2
    (try simp only [Exit.inBlock, Exit.then])
    generalize ((w.alloc (.cells #[.int .i64 pnd, .int .u64 (nx : Int), .int .u64 (pm : Int)] 71)).alloc (.cells #[.int .i64 0, .int .i64 0, .int .i64 0, .int .u64 0, .int .u64 0, .int .u64 0, .slice none 0 0, .int .u64 0, .bool false, .int .u64 0, .int .u64 0, .int .u64 0, .int .i64 0, .slice none 0 0] 34)).alloc (.cells #[.int .u64 (bi : Int), .int .u64 (bt : Int), .int .i64 bk, .slice ba bn bc] 25) = w5 at *
    refine wp_region_L (fun W => Below w5.heap.size w5 W) [] (by kernel_rfl) ?_
    have hbd : Below w5.heap.size w5 w5.drew := (Below.refl _ w5).drew
    have HTL : Hid (∀ W, Below w5.heap.size w5 W → _) := fun W hW => r15_cells ((hW.block t (by omega)).trans T5)
    have HPL : Hid (∀ W, Below w5.heap.size w5 W → _) := fun W hW => p3_cells ((hW.block w.heap.size (by omega)).trans P5)
    have HEL : Hid (∀ W, Below w5.heap.size w5 W → _) := fun W hW => en_cells ((hW.block (w.heap.size + 1 + 1) (by omega)).trans E5)
    generalize w5.drew = wd at *
    refine wpAnyL_take 0 rfl (by kernel_rfl) (by kernel_rfl) (by kernel_rfl) (by kernel_rfl) (fun _ _ _ h => h) (wanted_none rfl) (by intro w' hS'; have hz := hS'; obtain ⟨-, c0, c1, c2, c3, c4, c5, c6, c7, c8, c9, c10, c11, c12, c13, c14⟩ := HTL.out _ hz; obtain ⟨-, d0, d1, d2⟩ := HPL.out _ hz; obtain ⟨-, e0, e1, e2, e3⟩ := HEL.out _ hz; go_simp <;> rfl) hbd ?_
    try simp only [List.getElem_toArray, List.getElem_cons_succ, List.getElem_cons_zero, Act.put, List.setIfInBounds_toArray, List.set_cons_zero, List.set_cons_succ]
    refine wpAnyL_take 1 rfl (by kernel_rfl) (by kernel_rfl) (by kernel_rfl) (by kernel_rfl) (fun _ _ _ h => h) (wanted_none rfl) (by intro w' hS'; have hz := hS'; obtain ⟨-, c0, c1, c2, c3, c4, c5, c6, c7, c8, c9, c10, c11, c12, c13, c14⟩ := HTL.out _ hz; obtain ⟨-, d0, d1, d2⟩ := HPL.out _ hz; obtain ⟨-, e0, e1, e2, e3⟩ := HEL.out _ hz; go_simp <;> rfl) hbd ?_
    try simp only [List.getElem_toArray, List.getElem_cons_succ, List.getElem_cons_zero, Act.put, List.setIfInBounds_toArray, List.set_cons_zero, List.set_cons_succ]
    refine wpAnyL_take 2 rfl (by kernel_rfl) (by kernel_rfl) (by kernel_rfl) (by kernel_rfl) (fun _ _ _ h => h) (wanted_none rfl) (by intro w' hS'; have hz := hS'; obtain ⟨-, c0, c1, c2, c3, c4, c5, c6, c7, c8, c9, c10, c11, c12, c13, c14⟩ := HTL.out _ hz; obtain ⟨-, d0, d1, d2⟩ := HPL.out _ hz; obtain ⟨-, e0, e1, e2, e3⟩ := HEL.out _ hz; go_simp <;> rfl) hbd ?_
    try simp only [List.getElem_toArray, List.getElem_cons_succ, List.getElem_cons_zero, Act.put, List.setIfInBounds_toArray, List.set_cons_zero, List.set_cons_succ]
    refine wpAnyL_take 3 rfl (by kernel_rfl) (by kernel_rfl) (by kernel_rfl) (by kernel_rfl) (fun _ _ _ h => h) (wanted_none rfl) (by intro w' hS'; have hz := hS'; obtain ⟨-, c0, c1, c2, c3, c4, c5, c6, c7, c8, c9, c10, c11, c12, c13, c14⟩ := HTL.out _ hz; obtain ⟨-, d0, d1, d2⟩ := HPL.out _ hz; obtain ⟨-, e0, e1, e2, e3⟩ := HEL.out _ hz; go_simp <;> rfl) hbd ?_
    try simp only [List.getElem_toArray, List.getElem_cons_succ, List.getElem_cons_zero, Act.put, List.setIfInBounds_toArray, List.set_cons_zero, List.set_cons_succ]
    refine wpAnyL_take 4 rfl (by kernel_rfl) (by kernel_rfl) (by kernel_rfl) (by kernel_rfl) (fun _ _ _ h => h) (wanted_none rfl) (by intro w' hS'; have hz := hS'; obtain ⟨-, c0, c1, c2, c3, c4, c5, c6, c7, c8, c9, c10, c11, c12, c13, c14⟩ := HTL.out _ hz; obtain ⟨-, d0, d1, d2⟩ := HPL.out _ hz; obtain ⟨-, e0, e1, e2, e3⟩ := HEL.out _ hz; go_simp <;> rfl) hbd ?_
    try simp only [List.getElem_toArray, List.getElem_cons_succ, List.getElem_cons_zero, Act.put, List.setIfInBounds_toArray, List.set_cons_zero, List.set_cons_succ]
    refine wpAnyL_take 5 rfl (by kernel_rfl) (by kernel_rfl) (by kernel_rfl) (by kernel_rfl) (fun _ _ _ h => h) (wanted_none rfl) (by intro w' hS'; have hz := hS'; obtain ⟨-, c0, c1, c2, c3, c4, c5, c6, c7, c8, c9, c10, c11, c12, c13, c14⟩ := HTL.out _ hz; obtain ⟨-, d0, d1, d2⟩ := HPL.out _ hz; obtain ⟨-, e0, e1, e2, e3⟩ := HEL.out _ hz; go_simp <;> rfl) hbd ?_
    try simp only [List.getElem_toArray, List.getElem_cons_succ, List.getElem_cons_zero, Act.put, List.setIfInBounds_toArray, List.set_cons_zero, List.set_cons_succ]
    refine wpAnyL_take 6 rfl (by kernel_rfl) (by kernel_rfl) (by kernel_rfl) (by kernel_rfl) (fun _ _ _ h => h) (wanted_none rfl) (by intro w' hS'; have hz := hS'; obtain ⟨-, c0, c1, c2, c3, c4, c5, c6, c7, c8, c9, c10, c11, c12, c13, c14⟩ := HTL.out _ hz; obtain ⟨-, d0, d1, d2⟩ := HPL.out _ hz; obtain ⟨-, e0, e1, e2, e3⟩ := HEL.out _ hz; go_simp <;> rfl) hbd ?_
    try simp only [List.getElem_toArray, List.getElem_cons_succ, List.getElem_cons_zero, Act.put, List.setIfInBounds_toArray, List.set_cons_zero, List.set_cons_succ]
    refine wpAnyL_take 7 rfl (by kernel_rfl) (by kernel_rfl) (by kernel_rfl) (by kernel_rfl) (fun _ _ _ h => h) (wanted_none rfl) (by intro w' hS'; have hz := hS'; obtain ⟨-, c0, c1, c2, c3, c4, c5, c6, c7, c8, c9, c10, c11, c12, c13, c14⟩ := HTL.out _ hz; obtain ⟨-, d0, d1, d2⟩ := HPL.out _ hz; obtain ⟨-, e0, e1, e2, e3⟩ := HEL.out _ hz; go_simp <;> rfl) hbd ?_
    try simp only [List.getElem_toArray, List.getElem_cons_succ, List.getElem_cons_zero, Act.put, List.setIfInBounds_toArray, List.set_cons_zero, List.set_cons_succ]
    have kt := HKT.out wd (hb5.trans (hbd.mono hb5.size))
    refine wpAnyL_one 8 (by kernel_rfl) rfl (wanted_none rfl) ?_
    intro K' hK'
    go_simp
    go_at_call 107
    refine kt.mono ?_
    rintro e w6 ⟨rfl, hb6⟩
    have hS6 : (fun W => Below w5.heap.size w5 W) w6 := hbd.trans (hb6.mono hbd.size)
    clear kt
    refine hK'.out _ _ (.inr hS6) ?_
    clear hK' K'
    try simp only [List.getElem_toArray, List.getElem_cons_succ, List.getElem_cons_zero, Act.put, List.setIfInBounds_toArray, List.set_cons_zero, List.set_cons_succ]
    refine wpAnyL_take 9 rfl (by kernel_rfl) (by kernel_rfl) (by kernel_rfl) (by kernel_rfl) (fun _ _ _ h => h) (wanted_none rfl) (by intro w' hS'; have hz := hS'; obtain ⟨-, c0, c1, c2, c3, c4, c5, c6, c7, c8, c9, c10, c11, c12, c13, c14⟩ := HTL.out _ hz; obtain ⟨-, d0, d1, d2⟩ := HPL.out _ hz; obtain ⟨-, e0, e1, e2, e3⟩ := HEL.out _ hz; go_simp <;> rfl) hS6 ?_
    try simp only [List.getElem_toArray, List.getElem_cons_succ, List.getElem_cons_zero, Act.put, List.setIfInBounds_toArray, List.set_cons_zero, List.set_cons_succ]
    refine wpAnyL_take 10 rfl (by kernel_rfl) (by kernel_rfl) (by kernel_rfl) (by kernel_rfl) (fun _ _ _ h => h) (wanted_none rfl) (by intro w' hS'; have hz := hS'; obtain ⟨-, c0, c1, c2, c3, c4, c5, c6, c7, c8, c9, c10, c11, c12, c13, c14⟩ := HTL.out _ hz; obtain ⟨-, d0, d1, d2⟩ := HPL.out _ hz; obtain ⟨-, e0, e1, e2, e3⟩ := HEL.out _ hz; go_simp <;> rfl) hS6 ?_
    try simp only [List.getElem_toArray, List.getElem_cons_succ, List.getElem_cons_zero, Act.put, List.setIfInBounds_toArray, List.set_cons_zero, List.set_cons_succ]
    refine wpAnyL_take 11 rfl (by kernel_rfl) (by kernel_rfl) (by kernel_rfl) (by kernel_rfl) (fun _ _ _ h => h) (wanted_none rfl) (by intro w' hS'; have hz := hS'; obtain ⟨-, c0, c1, c2, c3, c4, c5, c6, c7, c8, c9, c10, c11, c12, c13, c14⟩ := HTL.out _ hz; obtain ⟨-, d0, d1, d2⟩ := HPL.out _ hz; obtain ⟨-, e0, e1, e2, e3⟩ := HEL.out _ hz; go_simp <;> rfl) hS6 ?_
    try simp only [List.getElem_toArray, List.getElem_cons_succ, List.getElem_cons_zero, Act.put, List.setIfInBounds_toArray, List.set_cons_zero, List.set_cons_succ]
    refine wpAnyL_take 12 rfl (by kernel_rfl) (by kernel_rfl) (by kernel_rfl) (by kernel_rfl) (fun _ _ _ h => h) (wanted_none rfl) (by intro w' hS'; have hz := hS'; obtain ⟨-, c0, c1, c2, c3, c4, c5, c6, c7, c8, c9, c10, c11, c12, c13, c14⟩ := HTL.out _ hz; obtain ⟨-, d0, d1, d2⟩ := HPL.out _ hz; obtain ⟨-, e0, e1, e2, e3⟩ := HEL.out _ hz; go_simp <;> rfl) hS6 ?_
    try simp only [List.getElem_toArray, List.getElem_cons_succ, List.getElem_cons_zero, Act.put, List.setIfInBounds_toArray, List.set_cons_zero, List.set_cons_succ]
    refine wpAnyL_take 13 rfl (by kernel_rfl) (by kernel_rfl) (by kernel_rfl) (by kernel_rfl) (fun _ _ _ h => h) (wanted_none rfl) (by intro w' hS'; have hz := hS'; obtain ⟨-, c0, c1, c2, c3, c4, c5, c6, c7, c8, c9, c10, c11, c12, c13, c14⟩ := HTL.out _ hz; obtain ⟨-, d0, d1, d2⟩ := HPL.out _ hz; obtain ⟨-, e0, e1, e2, e3⟩ := HEL.out _ hz; go_simp <;> rfl) hS6 ?_
    try simp only [List.getElem_toArray, List.getElem_cons_succ, List.getElem_cons_zero, Act.put, List.setIfInBounds_toArray, List.set_cons_zero, List.set_cons_succ]
    refine wpAnyL_done (by kernel_rfl) (NoPanic.normal ?_) _
    have hb7 := hb5.trans (hS6.mono hb5.size)
    have T5 := (hS6.block t (by omega)).trans T5
    have P5 := (hS6.block w.heap.size (by omega)).trans P5
    have M5 := (hS6.block (w.heap.size + 1) (by omega)).trans M5
    have E5 := (hS6.block (w.heap.size + 1 + 1) (by omega)).trans E5
    have hsz : w.heap.size + 1 + 1 + 1 ≤ w6.heap.size := by have := hS6.size; omega
    have hb5 := hb7
    clear hb7 hS6 hbd HTL HPL HEL hb6
    go_wp2
    (try simp only [Exit.inBlock, Exit.then])
    generalize w6 = w5 at *
    refine wp_region_L (fun W => Below w5.heap.size w5 W) [18] (by kernel_rfl) ?_
    have hbd : Below w5.heap.size w5 w5.drew := (Below.refl _ w5).drew
    have HTL : Hid (∀ W, Below w5.heap.size w5 W → _) := fun W hW => r15_cells ((hW.block t (by omega)).trans T5)
    have HPL : Hid (∀ W, Below w5.heap.size w5 W → _) := fun W hW => p3_cells ((hW.block w.heap.size (by omega)).trans P5)
    have HEL : Hid (∀ W, Below w5.heap.size w5 W → _) := fun W hW => en_cells ((hW.block (w.heap.size + 1 + 1) (by omega)).trans E5)
    generalize w5.drew = wd at *
    refine wpAnyL_take 0 rfl (by kernel_rfl) (by kernel_rfl) (by kernel_rfl) (by kernel_rfl) (fun _ _ _ h => h) (wanted_none rfl) (by intro w' hS'; have hz := hS'; obtain ⟨-, c0, c1, c2, c3, c4, c5, c6, c7, c8, c9, c10, c11, c12, c13, c14⟩ := HTL.out _ hz; obtain ⟨-, d0, d1, d2⟩ := HPL.out _ hz; obtain ⟨-, e0, e1, e2, e3⟩ := HEL.out _ hz; go_simp <;> rfl) hbd ?_
    try simp only [List.getElem_toArray, List.getElem_cons_succ, List.getElem_cons_zero, Act.put, List.setIfInBounds_toArray, List.set_cons_zero, List.set_cons_succ]
    refine wpAnyL_take 1 rfl (by kernel_rfl) (by kernel_rfl) (by kernel_rfl) (by kernel_rfl) (fun _ _ _ h => h) (wanted_none rfl) (by intro w' hS'; have hz := hS'; obtain ⟨-, c0, c1, c2, c3, c4, c5, c6, c7, c8, c9, c10, c11, c12, c13, c14⟩ := HTL.out _ hz; obtain ⟨-, d0, d1, d2⟩ := HPL.out _ hz; obtain ⟨-, e0, e1, e2, e3⟩ := HEL.out _ hz; go_simp <;> rfl) hbd ?_
    try simp only [List.getElem_toArray, List.getElem_cons_succ, List.getElem_cons_zero, Act.put, List.setIfInBounds_toArray, List.set_cons_zero, List.set_cons_succ]
    refine wpAnyL_take 2 rfl (by kernel_rfl) (by kernel_rfl) (by kernel_rfl) (by kernel_rfl) (fun _ _ _ h => h) (wanted_none rfl) (by intro w' hS'; have hz := hS'; obtain ⟨-, c0, c1, c2, c3, c4, c5, c6, c7, c8, c9, c10, c11, c12, c13, c14⟩ := HTL.out _ hz; obtain ⟨-, d0, d1, d2⟩ := HPL.out _ hz; obtain ⟨-, e0, e1, e2, e3⟩ := HEL.out _ hz; go_simp <;> rfl) hbd ?_
    try simp only [List.getElem_toArray, List.getElem_cons_succ, List.getElem_cons_zero, Act.put, List.setIfInBounds_toArray, List.set_cons_zero, List.set_cons_succ]
    refine wpAnyL_take 3 rfl (by kernel_rfl) (by kernel_rfl) (by kernel_rfl) (by kernel_rfl) (fun _ _ _ h => h) (wanted_none rfl) (by intro w' hS'; have hz := hS'; obtain ⟨-, c0, c1, c2, c3, c4, c5, c6, c7, c8, c9, c10, c11, c12, c13, c14⟩ := HTL.out _ hz; obtain ⟨-, d0, d1, d2⟩ := HPL.out _ hz; obtain ⟨-, e0, e1, e2, e3⟩ := HEL.out _ hz; go_simp <;> rfl) hbd ?_
    try simp only [List.getElem_toArray, List.getElem_cons_succ, List.getElem_cons_zero, Act.put, List.setIfInBounds_toArray, List.set_cons_zero, List.set_cons_succ]
    refine wpAnyL_take 4 rfl (by kernel_rfl) (by kernel_rfl) (by kernel_rfl) (by kernel_rfl) (fun _ _ _ h => h) (wanted_none rfl) (by intro w' hS'; have hz := hS'; obtain ⟨-, c0, c1, c2, c3, c4, c5, c6, c7, c8, c9, c10, c11, c12, c13, c14⟩ := HTL.out _ hz; obtain ⟨-, d0, d1, d2⟩ := HPL.out _ hz; obtain ⟨-, e0, e1, e2, e3⟩ := HEL.out _ hz; go_simp <;> rfl) hbd ?_
    try simp only [List.getElem_toArray, List.getElem_cons_succ, List.getElem_cons_zero, Act.put, List.setIfInBounds_toArray, List.set_cons_zero, List.set_cons_succ]
    refine wpAnyL_take 5 rfl (by kernel_rfl) (by kernel_rfl) (by kernel_rfl) (by kernel_rfl) (fun _ _ _ h => h) (wanted_none rfl) (by intro w' hS'; have hz := hS'; obtain ⟨-, c0, c1, c2, c3, c4, c5, c6, c7, c8, c9, c10, c11, c12, c13, c14⟩ := HTL.out _ hz; obtain ⟨-, d0, d1, d2⟩ := HPL.out _ hz; obtain ⟨-, e0, e1, e2, e3⟩ := HEL.out _ hz; go_simp <;> rfl) hbd ?_
    try simp only [List.getElem_toArray, List.getElem_cons_succ, List.getElem_cons_zero, Act.put, List.setIfInBounds_toArray, List.set_cons_zero, List.set_cons_succ]
    refine wpAnyL_take 6 rfl (by kernel_rfl) (by kernel_rfl) (by kernel_rfl) (by kernel_rfl) (fun _ _ _ h => h) (wanted_none rfl) (by intro w' hS'; have hz := hS'; obtain ⟨-, c0, c1, c2, c3, c4, c5, c6, c7, c8, c9, c10, c11, c12, c13, c14⟩ := HTL.out _ hz; obtain ⟨-, d0, d1, d2⟩ := HPL.out _ hz; obtain ⟨-, e0, e1, e2, e3⟩ := HEL.out _ hz; go_simp <;> rfl) hbd ?_
    try simp only [List.getElem_toArray, List.getElem_cons_succ, List.getElem_cons_zero, Act.put, List.setIfInBounds_toArray, List.set_cons_zero, List.set_cons_succ]
    refine wpAnyL_take 7 rfl (by kernel_rfl) (by kernel_rfl) (by kernel_rfl) (by kernel_rfl) (fun _ _ _ h => h) (wanted_none rfl) (by intro w' hS'; have hz := hS'; obtain ⟨-, c0, c1, c2, c3, c4, c5, c6, c7, c8, c9, c10, c11, c12, c13, c14⟩ := HTL.out _ hz; obtain ⟨-, d0, d1, d2⟩ := HPL.out _ hz; obtain ⟨-, e0, e1, e2, e3⟩ := HEL.out _ hz; go_simp <;> rfl) hbd ?_
    try simp only [List.getElem_toArray, List.getElem_cons_succ, List.getElem_cons_zero, Act.put, List.setIfInBounds_toArray, List.set_cons_zero, List.set_cons_succ]
    refine wpAnyL_take 8 rfl (by kernel_rfl) (by kernel_rfl) (by kernel_rfl) (by kernel_rfl) (fun _ _ _ h => h) (wanted_none rfl) (by intro w' hS'; have hz := hS'; obtain ⟨-, c0, c1, c2, c3, c4, c5, c6, c7, c8, c9, c10, c11, c12, c13, c14⟩ := HTL.out _ hz; obtain ⟨-, d0, d1, d2⟩ := HPL.out _ hz; obtain ⟨-, e0, e1, e2, e3⟩ := HEL.out _ hz; go_simp <;> rfl) hbd ?_
    try simp only [List.getElem_toArray, List.getElem_cons_succ, List.getElem_cons_zero, Act.put, List.setIfInBounds_toArray, List.set_cons_zero, List.set_cons_succ]
    refine wpAnyL_take 9 rfl (by kernel_rfl) (by kernel_rfl) (by kernel_rfl) (by kernel_rfl) (fun _ _ _ h => h) (wanted_none rfl) (by intro w' hS'; have hz := hS'; obtain ⟨-, c0, c1, c2, c3, c4, c5, c6, c7, c8, c9, c10, c11, c12, c13, c14⟩ := HTL.out _ hz; obtain ⟨-, d0, d1, d2⟩ := HPL.out _ hz; obtain ⟨-, e0, e1, e2, e3⟩ := HEL.out _ hz; go_simp <;> rfl) hbd ?_
    try simp only [List.getElem_toArray, List.getElem_cons_succ, List.getElem_cons_zero, Act.put, List.setIfInBounds_toArray, List.set_cons_zero, List.set_cons_succ]
    refine wpAnyL_take 10 rfl (by kernel_rfl) (by kernel_rfl) (by kernel_rfl) (by kernel_rfl) (fun _ _ _ h => h) (wanted_none rfl) (by intro w' hS'; have hz := hS'; obtain ⟨-, c0, c1, c2, c3, c4, c5, c6, c7, c8, c9, c10, c11, c12, c13, c14⟩ := HTL.out _ hz; obtain ⟨-, d0, d1, d2⟩ := HPL.out _ hz; obtain ⟨-, e0, e1, e2, e3⟩ := HEL.out _ hz; go_simp <;> rfl) hbd ?_
    try simp only [List.getElem_toArray, List.getElem_cons_succ, List.getElem_cons_zero, Act.put, List.setIfInBounds_toArray, List.set_cons_zero, List.set_cons_succ]
    refine wpAnyL_take 11 rfl (by kernel_rfl) (by kernel_rfl) (by kernel_rfl) (by kernel_rfl) (fun _ _ _ h => h) (wanted_none rfl) (by intro w' hS'; have hz := hS'; obtain ⟨-, c0, c1, c2, c3, c4, c5, c6, c7, c8, c9, c10, c11, c12, c13, c14⟩ := HTL.out _ hz; obtain ⟨-, d0, d1, d2⟩ := HPL.out _ hz; obtain ⟨-, e0, e1, e2, e3⟩ := HEL.out _ hz; go_simp <;> rfl) hbd ?_
    try simp only [List.getElem_toArray, List.getElem_cons_succ, List.getElem_cons_zero, Act.put, List.setIfInBounds_toArray, List.set_cons_zero, List.set_cons_succ]
    refine wpAnyL_take 12 rfl (by kernel_rfl) (by kernel_rfl) (by kernel_rfl) (by kernel_rfl) (fun _ _ _ h => h) (wanted_none rfl) (by intro w' hS'; have hz := hS'; obtain ⟨-, c0, c1, c2, c3, c4, c5, c6, c7, c8, c9, c10, c11, c12, c13, c14⟩ := HTL.out _ hz; obtain ⟨-, d0, d1, d2⟩ := HPL.out _ hz; obtain ⟨-, e0, e1, e2, e3⟩ := HEL.out _ hz; go_simp <;> rfl) hbd ?_
    try simp only [List.getElem_toArray, List.getElem_cons_succ, List.getElem_cons_zero, Act.put, List.setIfInBounds_toArray, List.set_cons_zero, List.set_cons_succ]
    refine wpAnyL_take 13 rfl (by kernel_rfl) (by kernel_rfl) (by kernel_rfl) (by kernel_rfl) (fun _ _ _ h => h) (wanted_none rfl) (by intro w' hS'; have hz := hS'; obtain ⟨-, c0, c1, c2, c3, c4, c5, c6, c7, c8, c9, c10, c11, c12, c13, c14⟩ := HTL.out _ hz; obtain ⟨-, d0, d1, d2⟩ := HPL.out _ hz; obtain ⟨-, e0, e1, e2, e3⟩ := HEL.out _ hz; go_simp <;> rfl) hbd ?_
    try simp only [List.getElem_toArray, List.getElem_cons_succ, List.getElem_cons_zero, Act.put, List.setIfInBounds_toArray, List.set_cons_zero, List.set_cons_succ]
    refine wpAnyL_take 14 rfl (by kernel_rfl) (by kernel_rfl) (by kernel_rfl) (by kernel_rfl) (fun _ _ _ h => h) (wanted_none rfl) (by intro w' hS'; have hz := hS'; obtain ⟨-, c0, c1, c2, c3, c4, c5, c6, c7, c8, c9, c10, c11, c12, c13, c14⟩ := HTL.out _ hz; obtain ⟨-, d0, d1, d2⟩ := HPL.out _ hz; obtain ⟨-, e0, e1, e2, e3⟩ := HEL.out _ hz; go_simp <;> rfl) hbd ?_
    try simp only [List.getElem_toArray, List.getElem_cons_succ, List.getElem_cons_zero, Act.put, List.setIfInBounds_toArray, List.set_cons_zero, List.set_cons_succ]
    refine wpAnyL_take 15 rfl (by kernel_rfl) (by kernel_rfl) (by kernel_rfl) (by kernel_rfl) (fun _ _ _ h => h) (wanted_none rfl) (by intro w' hS'; have hz := hS'; obtain ⟨-, c0, c1, c2, c3, c4, c5, c6, c7, c8, c9, c10, c11, c12, c13, c14⟩ := HTL.out _ hz; obtain ⟨-, d0, d1, d2⟩ := HPL.out _ hz; obtain ⟨-, e0, e1, e2, e3⟩ := HEL.out _ hz; go_simp <;> rfl) hbd ?_
    try simp only [List.getElem_toArray, List.getElem_cons_succ, List.getElem_cons_zero, Act.put, List.setIfInBounds_toArray, List.set_cons_zero, List.set_cons_succ]
    have ks := HKS.out wd (hb5.trans (hbd.mono hb5.size))
    refine wpAnyL_one 16 (by kernel_rfl) rfl (wanted_none rfl) ?_
    intro K' hK'
    go_simp
    go_at_call 78
    refine ks.mono ?_
    rintro e w6 ⟨es, v6, rfl, hC6, hb6⟩
    have hS6 : (fun W => Below w5.heap.size w5 W) w6 := hbd.trans (hb6.mono hbd.size)
    obtain ⟨ea, ec, rfl, -, -⟩ := hC6.1.1.rd.shape
    have g2 := (hS6.block (w.heap.size + 1) (by omega)).trans M5
    have HF := setRow_heap _ _ _ #[.int .i64 3, .int .i64 0, .int .i64 0, .int .u64 0, .int .u64 (x : Int), .int .u64 (T : Int), .slice ea es.length ec, .int .u64 (cm : Int), .bool false, .int .u64 0, .int .u64 0, .int .u64 0, .int .i64 0, .slice none 0 0] _ _ g2
    have hbf := below_row (hb5.trans (hS6.mono hb5.size)) (g := w.heap.size + 1) (by omega) #[.int .i64 3, .int .i64 0, .int .i64 0, .int .u64 0, .int .u64 (x : Int), .int .u64 (T : Int), .slice ea es.length ec, .int .u64 (cm : Int), .bool false, .int .u64 0, .int .u64 0, .int .u64 0, .int .i64 0, .slice none 0 0]
    have hCf := hC6.frm (Frm.row (n := w.heap.size) (by omega) g2 #[.int .i64 3, .int .i64 0, .int .i64 0, .int .u64 0, .int .u64 (x : Int), .int .u64 (T : Int), .slice ea es.length ec, .int .u64 (cm : Int), .bool false, .int .u64 0, .int .u64 0, .int .u64 0, .int .i64 0, .slice none 0 0]) (by decide) (by decide)
    clear ks
    refine hK'.out _ _ (.inr hS6) ?_
    clear hK' K'
    try simp only [List.getElem_toArray, List.getElem_cons_succ, List.getElem_cons_zero, Act.put, List.setIfInBounds_toArray, List.set_cons_zero, List.set_cons_succ]
    refine wpAnyL_take 17 rfl (by kernel_rfl) (by kernel_rfl) (by kernel_rfl) (by kernel_rfl) (fun _ _ _ h => h) (wanted_none rfl) (by intro w' hS'; have hz := hS'; obtain ⟨-, c0, c1, c2, c3, c4, c5, c6, c7, c8, c9, c10, c11, c12, c13, c14⟩ := HTL.out _ hz; obtain ⟨-, d0, d1, d2⟩ := HPL.out _ hz; obtain ⟨-, e0, e1, e2, e3⟩ := HEL.out _ hz; go_simp <;> rfl) hS6 ?_
    try simp only [List.getElem_toArray, List.getElem_cons_succ, List.getElem_cons_zero, Act.put, List.setIfInBounds_toArray, List.set_cons_zero, List.set_cons_succ]
    refine wpAnyL_one 18 (by kernel_rfl) rfl (wanted_none rfl) ?_
    intro K' hK'
    refine wp_store_row 34 _ _ rfl (w.heap.size + 1) #[.int .i64 3, .int .i64 0, .int .i64 0, .int .u64 0, .int .u64 (x : Int), .int .u64 (T : Int), .slice ea es.length ec, .int .u64 (cm : Int), .bool false, .int .u64 0, .int .u64 0, .int .u64 0, .int .i64 0, .slice none 0 0] rfl rfl _ _ g2 (by kernel_rfl) rfl (by simp [Value.oneCell']) ?_
    refine hK'.out _ _ (.inl (by decide)) ?_
    clear hK' K'
    try simp only [List.getElem_toArray, List.getElem_cons_succ, List.getElem_cons_zero, Act.put, List.setIfInBounds_toArray, List.set_cons_zero, List.set_cons_succ]
    refine wpAnyL_done (by kernel_rfl) (NoPanic.normal ?_) _
    generalize w6.setRow (w.heap.size + 1) #[.int .i64 3, .int .i64 0, .int .i64 0, .int .u64 0, .int .u64 (x : Int), .int .u64 (T : Int), .slice ea es.length ec, .int .u64 (cm : Int), .bool false, .int .u64 0, .int .u64 0, .int .u64 0, .int .i64 0, .slice none 0 0] = W8 at *
    go_wp2
    (try simp only [Exit.inBlock, Exit.then])
    refine bodyPost_ret (results_mg rfl _ _ (w.heap.size + 1) _ _ _ _ _ _ _ _ _ _ _ _ _ _ rfl HF) rfl ?_
    exact ⟨⟨⟨3, 0, 0, 0, x, T, sliceM ⟨bi, bt, bk, bd⟩ lg nx 16, cm, false, 0, zeroMe⟩, es, (ea, es.length, ec), (none, 0, 0)⟩, rfl, ⟨⟨hCf.1.mono (Nat.zero_le _), by rw [hCf.2.1, mes_slice, HML.out], hCf.2.2⟩, Rk.nil _ _ _⟩, HN.out.symm, hbf⟩
end Go.Proofs.YtncoandnelgkeaaGreat

/- The program's tell, tellOthers. -/
namespace Go.Proofs.YtncoandnelgkeaaGreat
open Go.RowKit QuorumMath RlogMath RaftMath
set_option maxRecDepth 100000
set_option linter.unusedSimpArgs false
set_option linter.unusedVariables false

set_option maxHeartbeats 8000000 in
theorem tellO_of (w0 : World) (K : List (Nat × Obj)) (w : World) (t : Nat) (s : Ms) (P : Int → Bool) (cap : Value) (hS : TuAt w0 K w t s) (HW : ∀ (W : World) (a : Ms), TuAt w0 K W t a → a.r = s.r → ∀ x : Int, Calls Tryz.prog 120 #[.int .i64 x, cap] W fun e w' => e = .returned (.bool (P x)) ∧ w' = W) (hm : mayB s.r.base s.r.log = true) (hbo : OkM s.r.base) (hlo : ∀ e ∈ s.r.log, OkM e) (hl : s.out.length + s.r.peers.length ≤ 1000000000) (hnx : ∀ p ∈ s.r.peers, p.next < 18446744073709551616) : Calls Tryz.prog 119 #[.pointer (some ⟨t, 0, none⟩), .func (.func 120) #[] #[cap]] w fun e w' => e = .returned (.tuple #[]) ∧ TuR w0 K w w' t [82, 34] (s.r.peers.foldl (tellW P) s) := by
  have HW : Hid (∀ (W : World) (a : Ms), TuAt w0 K W t a → a.r = s.r → ∀ x : Int, Calls Tryz.prog 120 #[.int .i64 x, cap] W fun e w' => e = .returned (.bool (P x)) ∧ w' = W) := HW
  have hS0 := hS
  obtain ⟨hb0, ht0, z, gs, os, hT, hz, hP, ho, -⟩ := hS
  obtain ⟨r, zs, ⟨ba, bn, bc⟩, ⟨la, ln, lc⟩, ⟨va, vn, vc⟩, ⟨pa, pn, pc⟩⟩ := z
  obtain ⟨sr, so⟩ := s
  obtain rfl : r = sr := hz
  obtain ⟨nd, tm, vo, ⟨bi, bt, bk, bd⟩, lg, cm, ro, le, el, vt, pe⟩ := r
  obtain ⟨oa, on, oc⟩ := os
  dsimp only at *
  dsimp only [tc] at hT
  have HPW : Hid (Ow peerN 71 w0.heap.size w (.slice pa pn pc) pe) := hP.2.2.2.1
  obtain ⟨pa', pc', hps, -, -⟩ := HPW.out.1.rd.shape
  simp only [Value.slice.injEq] at hps
  obtain ⟨rfl, rfl, rfl⟩ := hps
  obtain ⟨-, o0, o1, o2, o3, o4, o5, o6, o7, o8, o9, o10, o11, o12, o13, o14⟩ := r15_cells hT
  have HI : Hid (∀ k, ((pe.take k).foldl (tellW P) ⟨⟨nd, tm, vo, ⟨bi, bt, bk, bd⟩, lg, cm, ro, le, el, vt, pe⟩, so⟩).r = ⟨nd, tm, vo, ⟨bi, bt, bk, bd⟩, lg, cm, ro, le, el, vt, pe⟩) := fun k => tellsW_r _ _ _
  have HQ : Hid (∀ k, ((pe.take k).foldl (tellW P) ⟨⟨nd, tm, vo, ⟨bi, bt, bk, bd⟩, lg, cm, ro, le, el, vt, pe⟩, so⟩).out.length ≤ 1000000000) := fun k => by
    have h1 := tellsW_len P (pe.take k) ⟨⟨nd, tm, vo, ⟨bi, bt, bk, bd⟩, lg, cm, ro, le, el, vt, pe⟩, so⟩
    rw [List.length_take] at h1
    dsimp only at h1
    omega
  have HE : Hid ((pe.take pe.length).foldl (tellW P) ⟨⟨nd, tm, vo, ⟨bi, bt, bk, bd⟩, lg, cm, ro, le, el, vt, pe⟩, so⟩ = pe.foldl (tellW P) ⟨⟨nd, tm, vo, ⟨bi, bt, bk, bd⟩, lg, cm, ro, le, el, vt, pe⟩, so⟩) := by show _ = _; rw [List.take_length]
  have HN : Hid (∀ k x, pe[k]? = some x → (pe.take (k + 1)).foldl (tellW P) ⟨⟨nd, tm, vo, ⟨bi, bt, bk, bd⟩, lg, cm, ro, le, el, vt, pe⟩, so⟩ = tellW P ((pe.take k).foldl (tellW P) ⟨⟨nd, tm, vo, ⟨bi, bt, bk, bd⟩, lg, cm, ro, le, el, vt, pe⟩, so⟩) x) := fun k x hx => fold_take _ hx _
  have hR0 : Hid (TuR w0 K w w t [82, 34] ((pe.take 0).foldl (tellW P) ⟨⟨nd, tm, vo, ⟨bi, bt, bk, bd⟩, lg, cm, ro, le, el, vt, pe⟩, so⟩)) := ⟨hS0, Frm.refl _ _ _, Nat.le_refl _⟩
  clear hP ho hS0
  go_enter Tryz.func119, Tryz.ntmps119
  go_wp2
  go_loopg [5, 12] pe.length (fun gh s5 s12 wr => ∃ k : Nat, k + gh = pe.length ∧ s12 = .int .i64 (k : Int) ∧ TuR w0 K w wr t [82, 34] ((pe.take k).foldl (tellW P) ⟨⟨nd, tm, vo, ⟨bi, bt, bk, bd⟩, lg, cm, ro, le, el, vt, pe⟩, so⟩))
  case atStart => exact ⟨0, by simp, rfl, hR0.out⟩
  case round =>
    obtain ⟨k, hkg, rfl, hRr⟩ := hrel
    clear hR0 o0 o1 o2 o3 o4 o5 o6 o7 o8 o9 o10 o11 o12 o13 o14
    have hr := HI.out k
    have hq := HQ.out k
    have HNk : Hid _ := HN.out k
    have HEk : Hid (k = pe.length → (pe.take k).foldl (tellW P) ⟨⟨nd, tm, vo, ⟨bi, bt, bk, bd⟩, lg, cm, ro, le, el, vt, pe⟩, so⟩ = pe.foldl (tellW P) ⟨⟨nd, tm, vo, ⟨bi, bt, bk, bd⟩, lg, cm, ro, le, el, vt, pe⟩, so⟩) := fun h => by rw [h]; exact HE.out
    have hPR : Rk peerN wr 71 (.slice pa pe.length pc) pe := HPW.out.1.frm hRr.2.1 (by decide)
    generalize (pe.take k).foldl (tellW P) ⟨⟨nd, tm, vo, ⟨bi, bt, bk, bd⟩, lg, cm, ro, le, el, vt, pe⟩, so⟩ = a at *
    by_cases hlt : k < pe.length
    · have hlti : (k : Int) < (pe.length : Int) := by omega
      have hp : pe[k]? = some pe[k] := List.getElem?_eq_getElem hlt
      obtain ⟨p, hpp⟩ : ∃ p, p = pe[k] := ⟨_, rfl⟩
      rw [← hpp] at hp
      clear hpp
      obtain ⟨b, off, rfl, c⟩ := rdpn_at hPR.rd hp
      obtain ⟨d0, d1, d2⟩ := c wr (Below.refl _ _)
      have hN := HNk.out p hp
      have hpx := hnx p (List.mem_of_getElem? hp)
      obtain ⟨pnd, nx, pm⟩ := p
      dsimp only at d0 d1 d2 hpx hN
      obtain ⟨z1, PB5, hb5⟩ := one_box wr (.cells #[.int .i64 pnd, .int .u64 (nx : Int), .int .u64 (pm : Int)] 71)
      have hA5 : TuAt w0 K (wr.alloc (.cells #[.int .i64 pnd, .int .u64 (nx : Int), .int .u64 (pm : Int)] 71)) t a := hRr.1.below hb5
      have kw := HW.out _ a hA5 hr pnd
      have hfr5 : Frm w0.heap.size [82, 34] w (wr.alloc (.cells #[.int .i64 pnd, .int .u64 (nx : Int), .int .u64 (pm : Int)] 71)) := hRr.2.1.trans (Frm.of_below _ hb5 hRr.1.1.size)
      have hsz5 : w.heap.size ≤ (wr.alloc (.cells #[.int .i64 pnd, .int .u64 (nx : Int), .int .u64 (pm : Int)] 71)).heap.size := Nat.le_trans hRr.2.2 hb5.size
      have HRx : Hid (TuR w0 K w wr t [82, 34] a) := hRr
      have HA5 : Hid (TuAt w0 K (wr.alloc (.cells #[.int .i64 pnd, .int .u64 (nx : Int), .int .u64 (pm : Int)] 71)) t a) := hA5
      have HF5 : Hid (Frm w0.heap.size [82, 34] w (wr.alloc (.cells #[.int .i64 pnd, .int .u64 (nx : Int), .int .u64 (pm : Int)] 71)) ∧ w.heap.size ≤ (wr.alloc (.cells #[.int .i64 pnd, .int .u64 (nx : Int), .int .u64 (pm : Int)] 71)).heap.size) := ⟨hfr5, hsz5⟩
      clear hPR c hp hRr hA5 hfr5 hsz5 HNk HEk
      go_wp2_with fail
      refine kw.mono ?_
      rintro e w5 ⟨rfl, hw5⟩
      rw [← hw5] at PB5 hb5 HA5 HF5
      have hA5 := HA5.out
      have hfr5 := HF5.out.1
      have hsz5 := HF5.out.2
      have hszr : w5.heap.size = wr.heap.size + 1 := by rw [hw5]; exact z1
      clear kw HA5 HF5 hw5 z1 d0 d1 d2
      obtain ⟨-, d0, d1, d2⟩ := p3_cells PB5
      cases hPp : P pnd with
      | true =>
        have E : Hid (_ = tellR a ⟨pnd, nx, pm⟩) := hN.trans (by unfold tellW; exact if_pos hPp)
        clear hN
        go_wp2
        (try simp only [Exit.inBlock, Exit.then])
        refine wp_region_L (fun W => W.heap[wr.heap.size]? = some (.cells #[.int .i64 pnd, .int .u64 (nx : Int), .int .u64 (pm : Int)] 71)) [] (by kernel_rfl) ?_
        have yd : (fun W => W.heap[wr.heap.size]? = some (.cells #[.int .i64 pnd, .int .u64 (nx : Int), .int .u64 (pm : Int)] 71)) w5.drew := PB5
        have hAd : TuAt w0 K w5.drew t a := hA5.below (Below.refl _ _).drew
        have frd : Frm w0.heap.size [82, 34] w w5.drew := hfr5.trans (Frm.of_below _ (Below.refl _ _).drew hA5.1.size)
        have szd : w.heap.size ≤ w5.drew.heap.size := hsz5
        generalize w5.drew = wd at *
        have kn := news_of w0 K wd t a ⟨pnd, nx, pm⟩ hAd (by rw [hr]; exact hm) (by rw [hr]; exact hbo) (by rw [hr]; exact hlo) hpx
        dsimp only at kn
        refine wpAnyL_take 0 rfl (by kernel_rfl) (by kernel_rfl) (by kernel_rfl) (by kernel_rfl) (fun _ _ _ h => h) (wanted_none rfl) (by intro w' hS'; obtain ⟨-, d0, d1, d2⟩ := p3_cells hS'; go_simp <;> rfl) yd ?_
        try simp only [List.getElem_toArray, List.getElem_cons_succ, List.getElem_cons_zero, Act.put, List.setIfInBounds_toArray, List.set_cons_zero, List.set_cons_succ]
        refine wpAnyL_take 1 rfl (by kernel_rfl) (by kernel_rfl) (by kernel_rfl) (by kernel_rfl) (fun _ _ _ h => h) (wanted_none rfl) (by intro w' hS'; obtain ⟨-, d0, d1, d2⟩ := p3_cells hS'; go_simp <;> rfl) yd ?_
        try simp only [List.getElem_toArray, List.getElem_cons_succ, List.getElem_cons_zero, Act.put, List.setIfInBounds_toArray, List.set_cons_zero, List.set_cons_succ]
        refine wpAnyL_take 2 rfl (by kernel_rfl) (by kernel_rfl) (by kernel_rfl) (by kernel_rfl) (fun _ _ _ h => h) (wanted_none rfl) (by intro w' hS'; obtain ⟨-, d0, d1, d2⟩ := p3_cells hS'; go_simp <;> rfl) yd ?_
        try simp only [List.getElem_toArray, List.getElem_cons_succ, List.getElem_cons_zero, Act.put, List.setIfInBounds_toArray, List.set_cons_zero, List.set_cons_succ]
        refine wpAnyL_take 3 rfl (by kernel_rfl) (by kernel_rfl) (by kernel_rfl) (by kernel_rfl) (fun _ _ _ h => h) (wanted_none rfl) (by intro w' hS'; obtain ⟨-, d0, d1, d2⟩ := p3_cells hS'; go_simp <;> rfl) yd ?_
        try simp only [List.getElem_toArray, List.getElem_cons_succ, List.getElem_cons_zero, Act.put, List.setIfInBounds_toArray, List.set_cons_zero, List.set_cons_succ]
        refine wpAnyL_take 4 rfl (by kernel_rfl) (by kernel_rfl) (by kernel_rfl) (by kernel_rfl) (fun _ _ _ h => h) (wanted_none rfl) (by intro w' hS'; obtain ⟨-, d0, d1, d2⟩ := p3_cells hS'; go_simp <;> rfl) yd ?_
        try simp only [List.getElem_toArray, List.getElem_cons_succ, List.getElem_cons_zero, Act.put, List.setIfInBounds_toArray, List.set_cons_zero, List.set_cons_succ]
        refine wpAnyL_one 5 (by kernel_rfl) rfl (wanted_none rfl) ?_
        intro K' hK'
        go_simp
        go_at_call 142
        refine kn.mono ?_
        rintro e w6 ⟨g, rfl, hg6, hgm, hb6⟩
        have hS6 : (fun W => W.heap[wr.heap.size]? = some (.cells #[.int .i64 pnd, .int .u64 (nx : Int), .int .u64 (pm : Int)] 71)) w6 := (hb6.block wr.heap.size (Array.getElem?_eq_some_iff.1 yd).1).trans yd
        have hA6 := hAd.below hb6
        have ks := send_of w0 K w6 t a pnd g hA6 hg6 hq
        rw [hgm] at ks
        have frd6 : Frm w0.heap.size [82, 34] wd w6 := Frm.of_below _ hb6 hAd.1.size
        have szd6 := hb6.size
        clear kn
        refine hK'.out _ _ (.inr hS6) ?_
        clear hK' K'
        try simp only [List.getElem_toArray, List.getElem_cons_succ, List.getElem_cons_zero, Act.put, List.setIfInBounds_toArray, List.set_cons_zero, List.set_cons_succ]
        refine wpAnyL_one 6 (by kernel_rfl) rfl (wanted_none rfl) ?_
        intro K' hK'
        go_simp
        go_at_call 124
        refine ks.mono ?_
        rintro e w7 ⟨rfl, hR7⟩
        have hS7 : (fun W => W.heap[wr.heap.size]? = some (.cells #[.int .i64 pnd, .int .u64 (nx : Int), .int .u64 (pm : Int)] 71)) w7 := (hR7.2.1.2 _ _ _ _ hS6 (by decide)).trans hS6
        clear ks
        refine hK'.out _ _ (.inr hS7) ?_
        clear hK' K'
        try simp only [List.getElem_toArray, List.getElem_cons_succ, List.getElem_cons_zero, Act.put, List.setIfInBounds_toArray, List.set_cons_zero, List.set_cons_succ]
        refine wpAnyL_done (by kernel_rfl) (NoPanic.normal ?_) _
        have hRf : TuR w0 K w w7 t [82, 34] _ := ⟨hR7.1, (frd.trans frd6).trans hR7.2.1, Nat.le_trans szd (Nat.le_trans szd6 hR7.2.2)⟩
        rw [← tell_news, ← E.out] at hRf
        clear hR7 frd frd6 hAd hA6 hg6
        go_wp2
        go_roundg (gk - 1)
        case measure => omega
        case rel => exact ⟨k + 1, by omega, by go_num, hRf⟩
      | false =>
        have E : Hid (_ = a) := hN.trans (by unfold tellW; exact if_neg (by rw [hPp]; simp))
        have hRf : TuR w0 K w w5 t [82, 34] _ := ⟨hA5, hfr5, hsz5⟩
        rw [← E.out] at hRf
        clear hN
        go_wp2
        go_roundg (gk - 1)
        case measure => omega
        case rel => exact ⟨k + 1, by omega, by go_num, hRf⟩
    · have hlti : ¬ (k : Int) < (pe.length : Int) := by omega
      rw [HEk.out (by omega)] at hRr
      clear hPR HNk HEk
      go_wp2
      go_end0
      exact ⟨rfl, hRr⟩
theorem c1_cell {w : World} {g : Nat} {a : Value} {t : TypeId} (h : w.heap[g]? = some (.cells #[a] t (0, 0))) : w.cell? ⟨g, 0, none⟩ = some a := by rw [cells_of_block h]; rfl
set_option maxHeartbeats 2000000 in
theorem others_of (w0 : World) (K : List (Nat × Obj)) (w : World) (t c : Nat) (s : Ms) (x : Int) (hS : TuAt w0 K w t s) (hK : (c, (.cells #[.pointer (some ⟨t, 0, none⟩)] 79)) ∈ K) : Calls Tryz.prog 120 #[.int .i64 x, .pointer (some ⟨c, 0, none⟩)] w fun e w' => e = .returned (.bool (x != s.r.node)) ∧ w' = w := by
  have hc := c1_cell (hS.kept hK)
  obtain ⟨hb0, ht0, z, gs, os, hT, hz, hP, ho, -⟩ := hS
  obtain ⟨r, zs, bs, ls, vs, ps⟩ := z
  obtain ⟨sr, so⟩ := s
  obtain rfl : r = sr := hz
  obtain ⟨nd, tm, vo, bb, lg, cm, ro, le, el, vt, pe⟩ := r
  dsimp only [tc] at *
  obtain ⟨-, o0, -⟩ := r15_cells hT
  clear hP ho hT
  go_enter Tryz.func120, Tryz.ntmps120
  go_wp2
  go_ret
  exact ⟨rfl, rfl⟩
set_option maxHeartbeats 4000000 in
theorem ptella_of (w0 : World) (K : List (Nat × Obj)) (w : World) (t : Nat) (s : Ms) (hS : TuAt w0 K w t s) (hm : mayB s.r.base s.r.log = true) (hbo : OkM s.r.base) (hlo : ∀ e ∈ s.r.log, OkM e) (hl : s.out.length + s.r.peers.length ≤ 1000000000) (hnx : ∀ p ∈ s.r.peers, p.next < 18446744073709551616) : Calls Tryz.prog 89 #[.pointer (some ⟨t, 0, none⟩)] w fun e w' => e = .returned (.tuple #[]) ∧ TuR w0 K w w' t [82, 34] (tellAllR s) := by
  obtain ⟨z1, C1, hb1⟩ := one_box w (.cells #[.pointer (some ⟨t, 0, none⟩)] 79)
  have hA := hS.keep hb1 C1 (Nat.le_refl _)
  have kt := tellO_of w0 _ _ t s (fun x => x != s.r.node) (.pointer (some ⟨w.heap.size, 0, none⟩)) hA (fun W a hW hr x => by
    have := others_of w0 _ W t w.heap.size a x hW List.mem_cons_self
    rw [hr] at this
    exact this) hm hbo hlo hl hnx
  rw [tellsW_all _ _ _ rfl, ← tellAll_eq] at kt
  have HB : Hid (Below w.heap.size w _) := hb1
  have hn0 := hS.1.size
  have hc0 := c1_cell C1
  clear hS hA C1 hm hbo hlo hl hnx
  generalize tellAllR s = A at *
  go_enter Tryz.func89, Tryz.ntmps89
  go_wp2_with fail
  refine kt.mono ?_
  rintro e w5 ⟨rfl, hR⟩
  have hRf : Hid (TuR w0 K w w5 t [82, 34] A) := ⟨hR.1.drop (fun x hx => List.mem_cons_of_mem _ hx), (Frm.of_below _ HB.out hn0).trans hR.2.1, Nat.le_trans HB.out.size hR.2.2⟩
  clear kt hR
  go_wp2
  go_end0
  exact ⟨rfl, hRf.out⟩
end Go.Proofs.YtncoandnelgkeaaGreat

