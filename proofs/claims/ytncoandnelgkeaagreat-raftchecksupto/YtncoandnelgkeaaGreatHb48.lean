import Derived.Test.YtncoandnelgkeaaGreatHb46
import Derived.Test.YtncoandnelgkeaaGreatHb47
import Derived.Test.YtncoandnelgkeaaGreatHb45
/- Restart: the program's and the document's. -/
namespace Go.Proofs.YtncoandnelgkeaaGreat
open Go.RowKit QuorumMath RlogMath RaftMath
set_option maxRecDepth 100000
set_option linter.unusedSimpArgs false
set_option linter.unusedVariables false

/-- What Restart tells. -/
def RestT (n : Nat) (r : Mr) (e : Ending) (w' : World) : Prop := ∃ (z : Rz) (c : Int), e = .returned (.tuple #[rv z, .int .i64 c]) ∧ RaV n w' z ∧ (mayR r = true → c = 0 ∧ z.r = restR r) ∧ (mayR r = false → c = 1)
set_option maxHeartbeats 8000000 in
theorem prest_of (n : Nat) (r : Mr) (v : Value) (w : World) (hS : RsV n w v r) (hn : n ≤ w.heap.size) (hbo : OkM r.base) (hlo : ∀ e ∈ r.log, OkM e) (hlg : r.log.length ≤ 1000000) (hpl : r.peers.length ≤ 1000000) (hvt : r.votes.length ≤ 1000000) : Calls Tryz.prog 11 #[v] w fun e w' => RestT n r e w' ∧ Below w.heap.size w w' := by
  have HK1 : Hid (∀ W, Below w.heap.size w W → _) := fun W hW => pcheckR_of n r v W (hS.below hW) hbo hlo hlg hpl hvt
  obtain ⟨MB, HMB⟩ : ∃ MB, Hid (mayR r = MB) := ⟨_, rfl⟩
  rw [HMB.out] at HK1
  obtain ⟨PT, HPT⟩ : ∃ P, Hid (P = RestT n r) := ⟨_, rfl⟩
  rw [← HPT.out]
  obtain ⟨z, rfl, hz, hR⟩ := hS
  obtain ⟨r', zs, ⟨ba, bn, bc⟩, ⟨la, ln, lc⟩, ⟨va, vn, vc⟩, ⟨pa, pn, pc⟩⟩ := z
  obtain rfl : r' = r := hz
  have hml : mes zs = r'.log := hR.2.2.1
  have hzl : zs.length ≤ 1000000 := by have := congrArg List.length hml; rw [List.length_map] at this; omega
  have hzo := okz_of hml hlo
  have HKL : Hid (mayR r' = true → ∀ W, Below w.heap.size w W → _) := fun hm W hW => copyLog_of (r'.base, ba, bn, bc) zs (.slice la ln lc) W (hR.1.below hW).v (hR.2.1.below hW).v (by rw [hml]; exact (mayR_facts hm).1) hzl hbo.2.2.2 (fun z hz => (hzo z hz).2)
  rw [hml] at HKL
  have HRR : Hid (∀ c : Mr, restR r' = c → restR r' = c) := fun c h => h
  obtain ⟨nd, tm, vo, ⟨bi, bt, bk, bd⟩, lg, cm, ro, le, el, vt, pe⟩ := r'
  dsimp only [rv] at *
  obtain ⟨hsz, B1, B2, hb1⟩ := two_box w (.cells #[.int .i64 nd, .int .u64 (tm : Int), .int .i64 vo, .int .u64 (bi : Int), .int .u64 (bt : Int), .int .i64 bk, .slice ba bn bc, .slice la ln lc, .int .u64 (cm : Int), .int .i64 ro, .int .i64 le, .int .i64 el, .slice va vn vc, .slice pa pn pc] 32) (.cells #[.int .i64 0, .int .u64 0, .int .i64 0, .int .u64 0, .int .u64 0, .int .i64 0, .slice none 0 0, .slice none 0 0, .int .u64 0, .int .i64 0, .int .i64 0, .int .i64 0, .slice none 0 0, .slice none 0 0] 32)
  have k1 := HK1.out _ hb1
  clear hR hml hzl hzo hbo hlo hlg hpl hvt HK1
  go_enter Tryz.func11, Tryz.ntmps11
  obtain ⟨-, o0, o1, o2, o3, o4, o5, o6, o7, o8, o9, o10, o11, o12, o13⟩ := r14_cells B1
  go_wp2_with fail
  refine k1.mono ?_
  rintro e w2 ⟨rfl, hb2⟩
  have C1 := (hb2.block w.heap.size (by omega)).trans B1
  have C2 := (hb2.block (w.heap.size + 1) (by omega)).trans B2
  have hb02 := hb1.trans (hb2.mono (by omega))
  have hs2 : w.heap.size + 1 < w2.heap.size := (Array.getElem?_eq_some_iff.1 C2).1
  clear k1 hb2 B1 B2 hb1 hsz o0 o1 o2 o3 o4 o5 o6 o7 o8 o9 o10 o11 o12 o13
  cases MB with
  | false =>
    dsimp only [codeB]
    have HF := setRow_heap _ _ _ #[.int .i64 0, .int .u64 0, .int .i64 0, .int .u64 0, .int .u64 0, .int .i64 0, .slice none 0 0, .slice none 0 0, .int .u64 0, .int .i64 0, .int .i64 0, .int .i64 0, .slice none 0 0, .slice none 0 0] _ _ C2
    have hbf := below_row hb02 (g := w.heap.size + 1) (by omega) #[.int .i64 0, .int .u64 0, .int .i64 0, .int .u64 0, .int .u64 0, .int .i64 0, .slice none 0 0, .slice none 0 0, .int .u64 0, .int .i64 0, .int .i64 0, .int .i64 0, .slice none 0 0, .slice none 0 0]
    clear HKL
    go_wp2_with (refine wpList_store_row rfl 32 _ _ rfl (w.heap.size + 1) _ rfl rfl _ _ C2 (by kernel_rfl) rfl (by simp [Value.oneCell']) ?_)
    (try simp only [Exit.inBlock, Exit.then])
    refine bodyPost_ret (results_ra2 rfl _ _ (w.heap.size + 1) _ _ _ _ _ _ _ _ _ _ _ _ _ _ rfl HF) rfl ?_
    exact ⟨by rw [HPT.out]; exact ⟨⟨zeroR, [], (none, 0, 0), (none, 0, 0), (none, 0, 0), (none, 0, 0)⟩, 1, rfl, raV_zero n _, (fun h => absurd (HMB.out.symm.trans h) (by decide)), fun _ => rfl⟩, hbf⟩
  | true =>
    dsimp only [codeB]
    go_wp2
    (try simp only [Exit.inBlock, Exit.then])
    refine wp_region_L (fun W => W.heap[w.heap.size]? = some (.cells #[.int .i64 nd, .int .u64 (tm : Int), .int .i64 vo, .int .u64 (bi : Int), .int .u64 (bt : Int), .int .i64 bk, .slice ba bn bc, .slice la ln lc, .int .u64 (cm : Int), .int .i64 ro, .int .i64 le, .int .i64 el, .slice va vn vc, .slice pa pn pc] 32)) [] (by kernel_rfl) ?_
    have y0 : (fun W => W.heap[w.heap.size]? = some (.cells #[.int .i64 nd, .int .u64 (tm : Int), .int .i64 vo, .int .u64 (bi : Int), .int .u64 (bt : Int), .int .i64 bk, .slice ba bn bc, .slice la ln lc, .int .u64 (cm : Int), .int .i64 ro, .int .i64 le, .int .i64 el, .slice va vn vc, .slice pa pn pc] 32)) w2.drew := C1
    have g0 : w2.drew.heap[w.heap.size + 1]? = some (.cells #[.int .i64 0, .int .u64 0, .int .i64 0, .int .u64 0, .int .u64 0, .int .i64 0, .slice none 0 0, .slice none 0 0, .int .u64 0, .int .i64 0, .int .i64 0, .int .i64 0, .slice none 0 0, .slice none 0 0] 32) := C2
    have hbd : Below w.heap.size w w2.drew := hb02.drew
    have k4 := HKL.out HMB.out w2.drew hbd
    generalize w2.drew = wd at *
    dsimp only [lgv] at k4
    refine wpAnyL_take 0 rfl (by kernel_rfl) (by kernel_rfl) (by kernel_rfl) (by kernel_rfl) (fun _ _ _ h => h) (wanted_none rfl) (by intro w' hS'; obtain ⟨-, c0, c1, c2, c3, c4, c5, c6, c7, c8, c9, c10, c11, c12, c13⟩ := r14_cells hS'; go_simp <;> rfl) y0 ?_
    try simp only [List.getElem_toArray, List.getElem_cons_succ, List.getElem_cons_zero, Act.put, List.setIfInBounds_toArray, List.set_cons_zero, List.set_cons_succ]
    refine wpAnyL_take 1 rfl (by kernel_rfl) (by kernel_rfl) (by kernel_rfl) (by kernel_rfl) (fun _ _ _ h => h) (wanted_none rfl) (by intro w' hS'; obtain ⟨-, c0, c1, c2, c3, c4, c5, c6, c7, c8, c9, c10, c11, c12, c13⟩ := r14_cells hS'; go_simp <;> rfl) y0 ?_
    try simp only [List.getElem_toArray, List.getElem_cons_succ, List.getElem_cons_zero, Act.put, List.setIfInBounds_toArray, List.set_cons_zero, List.set_cons_succ]
    refine wpAnyL_take 2 rfl (by kernel_rfl) (by kernel_rfl) (by kernel_rfl) (by kernel_rfl) (fun _ _ _ h => h) (wanted_none rfl) (by intro w' hS'; obtain ⟨-, c0, c1, c2, c3, c4, c5, c6, c7, c8, c9, c10, c11, c12, c13⟩ := r14_cells hS'; go_simp <;> rfl) y0 ?_
    try simp only [List.getElem_toArray, List.getElem_cons_succ, List.getElem_cons_zero, Act.put, List.setIfInBounds_toArray, List.set_cons_zero, List.set_cons_succ]
    refine wpAnyL_take 3 rfl (by kernel_rfl) (by kernel_rfl) (by kernel_rfl) (by kernel_rfl) (fun _ _ _ h => h) (wanted_none rfl) (by intro w' hS'; obtain ⟨-, c0, c1, c2, c3, c4, c5, c6, c7, c8, c9, c10, c11, c12, c13⟩ := r14_cells hS'; go_simp <;> rfl) y0 ?_
    try simp only [List.getElem_toArray, List.getElem_cons_succ, List.getElem_cons_zero, Act.put, List.setIfInBounds_toArray, List.set_cons_zero, List.set_cons_succ]
    refine wpAnyL_take 4 rfl (by kernel_rfl) (by kernel_rfl) (by kernel_rfl) (by kernel_rfl) (fun _ _ _ h => h) (wanted_none rfl) (by intro w' hS'; obtain ⟨-, c0, c1, c2, c3, c4, c5, c6, c7, c8, c9, c10, c11, c12, c13⟩ := r14_cells hS'; go_simp <;> rfl) y0 ?_
    try simp only [List.getElem_toArray, List.getElem_cons_succ, List.getElem_cons_zero, Act.put, List.setIfInBounds_toArray, List.set_cons_zero, List.set_cons_succ]
    refine wpAnyL_take 5 rfl (by kernel_rfl) (by kernel_rfl) (by kernel_rfl) (by kernel_rfl) (fun _ _ _ h => h) (wanted_none rfl) (by intro w' hS'; obtain ⟨-, c0, c1, c2, c3, c4, c5, c6, c7, c8, c9, c10, c11, c12, c13⟩ := r14_cells hS'; go_simp <;> rfl) y0 ?_
    try simp only [List.getElem_toArray, List.getElem_cons_succ, List.getElem_cons_zero, Act.put, List.setIfInBounds_toArray, List.set_cons_zero, List.set_cons_succ]
    refine wpAnyL_take 6 rfl (by kernel_rfl) (by kernel_rfl) (by kernel_rfl) (by kernel_rfl) (fun _ _ _ h => h) (wanted_none rfl) (by intro w' hS'; obtain ⟨-, c0, c1, c2, c3, c4, c5, c6, c7, c8, c9, c10, c11, c12, c13⟩ := r14_cells hS'; go_simp <;> rfl) y0 ?_
    try simp only [List.getElem_toArray, List.getElem_cons_succ, List.getElem_cons_zero, Act.put, List.setIfInBounds_toArray, List.set_cons_zero, List.set_cons_succ]
    refine wpAnyL_take 7 rfl (by kernel_rfl) (by kernel_rfl) (by kernel_rfl) (by kernel_rfl) (fun _ _ _ h => h) (wanted_none rfl) (by intro w' hS'; obtain ⟨-, c0, c1, c2, c3, c4, c5, c6, c7, c8, c9, c10, c11, c12, c13⟩ := r14_cells hS'; go_simp <;> rfl) y0 ?_
    try simp only [List.getElem_toArray, List.getElem_cons_succ, List.getElem_cons_zero, Act.put, List.setIfInBounds_toArray, List.set_cons_zero, List.set_cons_succ]
    refine wpAnyL_take 9 rfl (by kernel_rfl) (by kernel_rfl) (by kernel_rfl) (by kernel_rfl) (fun _ _ _ h => h) (wanted_none rfl) (by intro w' hS'; obtain ⟨-, c0, c1, c2, c3, c4, c5, c6, c7, c8, c9, c10, c11, c12, c13⟩ := r14_cells hS'; go_simp <;> rfl) y0 ?_
    try simp only [List.getElem_toArray, List.getElem_cons_succ, List.getElem_cons_zero, Act.put, List.setIfInBounds_toArray, List.set_cons_zero, List.set_cons_succ]
    refine wpAnyL_take 10 rfl (by kernel_rfl) (by kernel_rfl) (by kernel_rfl) (by kernel_rfl) (fun _ _ _ h => h) (wanted_none rfl) (by intro w' hS'; obtain ⟨-, c0, c1, c2, c3, c4, c5, c6, c7, c8, c9, c10, c11, c12, c13⟩ := r14_cells hS'; go_simp <;> rfl) y0 ?_
    try simp only [List.getElem_toArray, List.getElem_cons_succ, List.getElem_cons_zero, Act.put, List.setIfInBounds_toArray, List.set_cons_zero, List.set_cons_succ]
    refine wpAnyL_one 8 (by kernel_rfl) rfl (wanted_none rfl) ?_
    intro K' hK'
    go_simp
    go_at_call 34
    refine k4.mono ?_
    rintro e w4 ⟨lv, rfl, hLC, hb4⟩
    obtain ⟨⟨xa, xn, xc⟩, xs, ⟨ya, yn, yc⟩, rfl, hxd, hxe, hxm⟩ := hLC.toN n
    have y4 : (fun W => W.heap[w.heap.size]? = some (.cells #[.int .i64 nd, .int .u64 (tm : Int), .int .i64 vo, .int .u64 (bi : Int), .int .u64 (bt : Int), .int .i64 bk, .slice ba bn bc, .slice la ln lc, .int .u64 (cm : Int), .int .i64 ro, .int .i64 le, .int .i64 el, .slice va vn vc, .slice pa pn pc] 32)) w4 := (hb4.block w.heap.size (Array.getElem?_eq_some_iff.1 y0).1).trans y0
    have g4 := (hb4.block (w.heap.size + 1) (Array.getElem?_eq_some_iff.1 g0).1).trans g0
    have hb04 := hbd.trans (hb4.mono hbd.size)
    have HXD : Hid _ := hxd
    have HXE : Hid _ := hxe
    have HXM : Hid _ := hxm
    clear k4 hLC hb4 g0 hxd hxe hxm
    dsimp only [lgv]
    have HF := setRow_heap _ _ _ #[.int .i64 nd, .int .u64 (tm : Int), .int .i64 vo, .int .u64 (bi : Int), .int .u64 (bt : Int), .int .i64 bk, .slice xa xn xc, .slice ya yn yc, .int .u64 (cm : Int), .int .i64 0, .int .i64 0, .int .i64 0, .slice none 0 0, .slice none 0 0] _ _ g4
    have hbf := below_row hb04 (g := w.heap.size + 1) (by omega) #[.int .i64 nd, .int .u64 (tm : Int), .int .i64 vo, .int .u64 (bi : Int), .int .u64 (bt : Int), .int .i64 bk, .slice xa xn xc, .slice ya yn yc, .int .u64 (cm : Int), .int .i64 0, .int .i64 0, .int .i64 0, .slice none 0 0, .slice none 0 0]
    have hfr := Frm.row (n := 0) (Nat.zero_le _) g4 #[.int .i64 nd, .int .u64 (tm : Int), .int .i64 vo, .int .u64 (bi : Int), .int .u64 (bt : Int), .int .i64 bk, .slice xa xn xc, .slice ya yn yc, .int .u64 (cm : Int), .int .i64 0, .int .i64 0, .int .i64 0, .slice none 0 0, .slice none 0 0]
    have y5 : (fun W => W.heap[w.heap.size]? = some (.cells #[.int .i64 nd, .int .u64 (tm : Int), .int .i64 vo, .int .u64 (bi : Int), .int .u64 (bt : Int), .int .i64 bk, .slice ba bn bc, .slice la ln lc, .int .u64 (cm : Int), .int .i64 ro, .int .i64 le, .int .i64 el, .slice va vn vc, .slice pa pn pc] 32)) (w4.setRow (w.heap.size + 1) #[.int .i64 nd, .int .u64 (tm : Int), .int .i64 vo, .int .u64 (bi : Int), .int .u64 (bt : Int), .int .i64 bk, .slice xa xn xc, .slice ya yn yc, .int .u64 (cm : Int), .int .i64 0, .int .i64 0, .int .i64 0, .slice none 0 0, .slice none 0 0]) := (setRow_other w4 (w.heap.size + 1) w.heap.size _ (by omega)).trans y4
    refine hK'.out _ _ (.inr y4) ?_
    clear hK' K'
    try simp only [List.getElem_toArray, List.getElem_cons_succ, List.getElem_cons_zero, Act.put, List.setIfInBounds_toArray, List.set_cons_zero, List.set_cons_succ]
    refine wpAnyL_take 11 rfl (by kernel_rfl) (by kernel_rfl) (by kernel_rfl) (by kernel_rfl) (fun _ _ _ h => h) (wanted_none rfl) (by intro w' hS'; obtain ⟨-, c0, c1, c2, c3, c4, c5, c6, c7, c8, c9, c10, c11, c12, c13⟩ := r14_cells hS'; go_simp <;> rfl) y4 ?_
    try simp only [List.getElem_toArray, List.getElem_cons_succ, List.getElem_cons_zero, Act.put, List.setIfInBounds_toArray, List.set_cons_zero, List.set_cons_succ]
    refine wpAnyL_one 12 (by kernel_rfl) rfl (wanted_none rfl) ?_
    intro K' hK'
    refine wp_store_row 32 _ _ rfl (w.heap.size + 1) #[.int .i64 nd, .int .u64 (tm : Int), .int .i64 vo, .int .u64 (bi : Int), .int .u64 (bt : Int), .int .i64 bk, .slice xa xn xc, .slice ya yn yc, .int .u64 (cm : Int), .int .i64 0, .int .i64 0, .int .i64 0, .slice none 0 0, .slice none 0 0] rfl rfl _ _ g4 (by kernel_rfl) rfl (by simp [Value.oneCell']) ?_
    refine hK'.out _ _ (.inr y5) ?_
    clear hK' K'
    try simp only [List.getElem_toArray, List.getElem_cons_succ, List.getElem_cons_zero, Act.put, List.setIfInBounds_toArray, List.set_cons_zero, List.set_cons_succ]
    refine wpAnyL_take 13 rfl (by kernel_rfl) (by kernel_rfl) (by kernel_rfl) (by kernel_rfl) (fun _ _ _ h => h) (wanted_none rfl) (by intro w' hS'; obtain ⟨-, c0, c1, c2, c3, c4, c5, c6, c7, c8, c9, c10, c11, c12, c13⟩ := r14_cells hS'; go_simp <;> rfl) y5 ?_
    try simp only [List.getElem_toArray, List.getElem_cons_succ, List.getElem_cons_zero, Act.put, List.setIfInBounds_toArray, List.set_cons_zero, List.set_cons_succ]
    refine wpAnyL_done (by kernel_rfl) (NoPanic.normal ?_) _
    have HFH : Hid _ := HF
    have HRV : Hid (RaV n (w4.setRow (w.heap.size + 1) #[.int .i64 nd, .int .u64 (tm : Int), .int .i64 vo, .int .u64 (bi : Int), .int .u64 (bt : Int), .int .i64 bk, .slice xa xn xc, .slice ya yn yc, .int .u64 (cm : Int), .int .i64 0, .int .i64 0, .int .i64 0, .slice none 0 0, .slice none 0 0]) ⟨⟨nd, tm, vo, ⟨bi, bt, bk, bd⟩, lg, cm, 0, 0, 0, [], []⟩, xs, (xa, xn, xc), (ya, yn, yc), (none, 0, 0), (none, 0, 0)⟩) := ⟨DataN.frm HXD.out (Frm.row (by omega) g4 #[.int .i64 nd, .int .u64 (tm : Int), .int .i64 vo, .int .u64 (bi : Int), .int .u64 (bt : Int), .int .i64 bk, .slice xa xn xc, .slice ya yn yc, .int .u64 (cm : Int), .int .i64 0, .int .i64 0, .int .i64 0, .slice none 0 0, .slice none 0 0]) (by decide), EntsN.frm HXE.out (Frm.row (by omega) g4 #[.int .i64 nd, .int .u64 (tm : Int), .int .i64 vo, .int .u64 (bi : Int), .int .u64 (bt : Int), .int .i64 bk, .slice xa xn xc, .slice ya yn yc, .int .u64 (cm : Int), .int .i64 0, .int .i64 0, .int .i64 0, .slice none 0 0, .slice none 0 0]) (by decide) (by decide), HXM.out, RdN.nil _ _ _ _, RdN.nil _ _ _ _⟩
    generalize w4.setRow (w.heap.size + 1) #[.int .i64 nd, .int .u64 (tm : Int), .int .i64 vo, .int .u64 (bi : Int), .int .u64 (bt : Int), .int .i64 bk, .slice xa xn xc, .slice ya yn yc, .int .u64 (cm : Int), .int .i64 0, .int .i64 0, .int .i64 0, .slice none 0 0, .slice none 0 0] = W8 at *
    clear HF hfr y0 y4 y5 g4 hb04 hbd HKL HXD HXE HXM C1 C2 hb02
    go_wp2
    (try simp only [Exit.inBlock, Exit.then])
    refine bodyPost_ret (results_ra2 rfl _ _ (w.heap.size + 1) _ _ _ _ _ _ _ _ _ _ _ _ _ _ rfl HFH.out) rfl ?_
    exact ⟨by rw [HPT.out]; exact ⟨_, 0, rfl, HRV.out, (fun _ => ⟨rfl, rfl⟩), (fun h => absurd (HMB.out.symm.trans h) (by decide))⟩, hbf⟩
set_option maxHeartbeats 8000000 in
theorem rrest_of (n : Nat) (r : Mr) (v : Value) (w : World) (hS : RsV n w v r) (hn : n ≤ w.heap.size) : Calls Tryz.prog 18 #[v] w fun e w' => ∃ v', e = .returned v' ∧ RsV n w' v' (restR r) ∧ Below w.heap.size w w' := by
  obtain ⟨PT, HPT⟩ : ∃ P : Ending → World → Prop, Hid (P = fun e w' => ∃ v', e = .returned v' ∧ RsV n w' v' (restR r) ∧ Below w.heap.size w w') := ⟨_, rfl⟩
  show Calls Tryz.prog 18 #[v] w (fun e w' => (fun e w' => ∃ v', e = .returned v' ∧ RsV n w' v' (restR r) ∧ Below w.heap.size w w') e w')
  rw [← HPT.out]
  obtain ⟨z, rfl, hz, hR⟩ := hS
  obtain ⟨r', zs, ⟨ba, bn, bc⟩, ⟨la, ln, lc⟩, ⟨va, vn, vc⟩, ⟨pa, pn, pc⟩⟩ := z
  obtain rfl : r' = r := hz
  obtain ⟨nd, tm, vo, ⟨bi, bt, bk, bd⟩, lg, cm, ro, le, el, vt, pe⟩ := r'
  dsimp only [rv] at *
  obtain ⟨hsz, B1, B2, hb1⟩ := two_box w (.cells #[.int .i64 nd, .int .u64 (tm : Int), .int .i64 vo, .int .u64 (bi : Int), .int .u64 (bt : Int), .int .i64 bk, .slice ba bn bc, .slice la ln lc, .int .u64 (cm : Int), .int .i64 ro, .int .i64 le, .int .i64 el, .slice va vn vc, .slice pa pn pc] 32) (.cells #[.int .i64 0, .int .u64 0, .int .i64 0, .int .u64 0, .int .u64 0, .int .i64 0, .slice none 0 0, .slice none 0 0, .int .u64 0, .int .i64 0, .int .i64 0, .int .i64 0, .slice none 0 0, .slice none 0 0] 32)
  have HRV : Hid (RaV n ((w.alloc (.cells #[.int .i64 nd, .int .u64 (tm : Int), .int .i64 vo, .int .u64 (bi : Int), .int .u64 (bt : Int), .int .i64 bk, .slice ba bn bc, .slice la ln lc, .int .u64 (cm : Int), .int .i64 ro, .int .i64 le, .int .i64 el, .slice va vn vc, .slice pa pn pc] 32)).alloc (.cells #[.int .i64 0, .int .u64 0, .int .i64 0, .int .u64 0, .int .u64 0, .int .i64 0, .slice none 0 0, .slice none 0 0, .int .u64 0, .int .i64 0, .int .i64 0, .int .i64 0, .slice none 0 0, .slice none 0 0] 32)) _) := hR.below hb1
  have HF := setRow_heap _ _ _ #[.int .i64 nd, .int .u64 (tm : Int), .int .i64 vo, .int .u64 (bi : Int), .int .u64 (bt : Int), .int .i64 bk, .slice ba bn bc, .slice la ln lc, .int .u64 (cm : Int), .int .i64 0, .int .i64 0, .int .i64 0, .slice none 0 0, .slice none 0 0] _ _ B2
  have hbf := below_row hb1 (g := w.heap.size + 1) (by omega) #[.int .i64 nd, .int .u64 (tm : Int), .int .i64 vo, .int .u64 (bi : Int), .int .u64 (bt : Int), .int .i64 bk, .slice ba bn bc, .slice la ln lc, .int .u64 (cm : Int), .int .i64 0, .int .i64 0, .int .i64 0, .slice none 0 0, .slice none 0 0]
  have HRF : Hid (RaV n (((w.alloc (.cells #[.int .i64 nd, .int .u64 (tm : Int), .int .i64 vo, .int .u64 (bi : Int), .int .u64 (bt : Int), .int .i64 bk, .slice ba bn bc, .slice la ln lc, .int .u64 (cm : Int), .int .i64 ro, .int .i64 le, .int .i64 el, .slice va vn vc, .slice pa pn pc] 32)).alloc (.cells #[.int .i64 0, .int .u64 0, .int .i64 0, .int .u64 0, .int .u64 0, .int .i64 0, .slice none 0 0, .slice none 0 0, .int .u64 0, .int .i64 0, .int .i64 0, .int .i64 0, .slice none 0 0, .slice none 0 0] 32)).setRow (w.heap.size + 1) #[.int .i64 nd, .int .u64 (tm : Int), .int .i64 vo, .int .u64 (bi : Int), .int .u64 (bt : Int), .int .i64 bk, .slice ba bn bc, .slice la ln lc, .int .u64 (cm : Int), .int .i64 0, .int .i64 0, .int .i64 0, .slice none 0 0, .slice none 0 0]) ⟨⟨nd, tm, vo, ⟨bi, bt, bk, bd⟩, lg, cm, 0, 0, 0, [], []⟩, zs, (ba, bn, bc), (la, ln, lc), (none, 0, 0), (none, 0, 0)⟩) := ⟨HRV.out.1.frm (Frm.row (by omega) B2 #[.int .i64 nd, .int .u64 (tm : Int), .int .i64 vo, .int .u64 (bi : Int), .int .u64 (bt : Int), .int .i64 bk, .slice ba bn bc, .slice la ln lc, .int .u64 (cm : Int), .int .i64 0, .int .i64 0, .int .i64 0, .slice none 0 0, .slice none 0 0]) (by decide), HRV.out.2.1.frm (Frm.row (by omega) B2 #[.int .i64 nd, .int .u64 (tm : Int), .int .i64 vo, .int .u64 (bi : Int), .int .u64 (bt : Int), .int .i64 bk, .slice ba bn bc, .slice la ln lc, .int .u64 (cm : Int), .int .i64 0, .int .i64 0, .int .i64 0, .slice none 0 0, .slice none 0 0]) (by decide) (by decide), HRV.out.2.2.1, RdN.nil _ _ _ _, RdN.nil _ _ _ _⟩
  obtain ⟨-, o0, o1, o2, o3, o4, o5, o6, o7, o8, o9, o10, o11, o12, o13⟩ := r14_cells B1
  clear hR HRV
  have HFH : Hid _ := HF
  clear HF
  go_enter Tryz.func18, Tryz.ntmps18
  go_wp2_with (refine wpList_store_row rfl 32 _ _ rfl (w.heap.size + 1) _ rfl rfl _ _ B2 (by kernel_rfl) rfl (by simp [Value.oneCell']) ?_)
  (try simp only [Exit.inBlock, Exit.then])
  refine bodyPost_ret (results_ra rfl _ _ (w.heap.size + 1) _ _ _ _ _ _ _ _ _ _ _ _ _ _ rfl HFH.out) rfl ?_
  rw [HPT.out]
  exact ⟨_, rfl, ⟨_, rfl, rfl, HRF.out⟩, hbf⟩
end Go.Proofs.YtncoandnelgkeaaGreat

/- The program's mayBeHead; when a message may be. -/
namespace Go.Proofs.YtncoandnelgkeaaGreat
open Go.RowKit QuorumMath RlogMath RaftMath
set_option maxRecDepth 100000
set_option linter.unusedSimpArgs false
set_option linter.unusedVariables false

/-- A message's head, entries, base. -/
def headG (m : Mm) : Bool := decide (1 ≤ m.kind) && decide (m.kind < 6) && nodeB m.src && nodeB m.dst && !decide (m.src = m.dst) && decide (1 ≤ m.term) && decide (m.term ≤ 4611686018427387904) && decide (m.index ≤ 4611686018427387904) && decide (m.mat ≤ 4611686018427387904) && decide (m.commit ≤ 4611686018427387904) && (decide (m.prev ≤ m.term) || decide (m.kind = 1))
def entsG (m : Mm) : Bool := decide (m.ents.length ≤ 16) && mayB ⟨m.index, m.prev, 0, [1]⟩ m.ents && !(m.ents.any fun e => decide (m.term < e.term))
def snapG (m : Mm) : Bool := if m.kind = 5 then mayB m.snap [] && decide (m.snap.term ≤ m.term) else decide (m.snap.idx = 0) && decide (m.snap.term = 0) && decide (m.snap.kind = 0) && decide (m.snap.data.length = 0)
theorem mayG_eq (m : Mm) : mayG m = (headG m && entsG m && snapG m) := by
  obtain ⟨mk, ms, md, mt, mi, mp, ents, mc, mo, mm, ⟨si, st, sk, sd⟩⟩ := m
  have h1 : (ents.all fun e => decide (e.term ≤ mt)) = !(ents.any fun e => decide (mt < e.term)) := by
    rw [List.not_any_eq_all_not]
    congr 1
    funext e
    by_cases h : e.term ≤ mt
    · simp [h]
    · simp [h]; omega
  have h2 : mayB ⟨mi, mp, 0, [1]⟩ ents = (decide (mi ≤ 4611686018427387904) && decide (ents.length ≤ 4096) && behB mi mp ents) := by
    unfold mayB
    have : votB (nodesI [1]) = true := by decide
    simp [this]
  have h3 : (!(!decide (mk = 1) && decide (mt < mp))) = (decide (mp ≤ mt) || decide (mk = 1)) := by
    by_cases a : mk = 1 <;> by_cases b : mp ≤ mt <;> simp [a, b] <;> omega
  unfold mayG headG entsG snapG
  dsimp only
  rw [h1, h2, h3]
  by_cases hl : ents.length ≤ 16
  · have hl2 : ents.length ≤ 4096 := by omega
    rw [decide_eq_true hl, decide_eq_true hl2]
    have h5 : (decide (st ≤ mt) && (if mk = 5 then mayB ⟨si, st, sk, sd⟩ [] else decide (si = 0 ∧ st = 0 ∧ sk = 0 ∧ sd = []))) = (if mk = 5 then mayB ⟨si, st, sk, sd⟩ [] && decide (st ≤ mt) else decide (si = 0) && decide (st = 0) && decide (sk = 0) && decide (sd.length = 0)) := by
      by_cases a : mk = 5
      · rw [if_pos a, if_pos a, Bool.and_comm]
      · rw [if_neg a, if_neg a]
        have e : decide (sd.length = 0) = decide (sd = []) := by rw [decide_eq_decide]; exact List.length_eq_zero_iff
        rw [e]
        by_cases b : st = 0
        · subst b
          simp [Bool.and_assoc]
        · simp [b]
    rw [Bool.and_assoc _ (decide (st ≤ mt)), h5]
    generalize (if mk = 5 then mayB ⟨si, st, sk, sd⟩ [] && decide (st ≤ mt) else decide (si = 0) && decide (st = 0) && decide (sk = 0) && decide (sd.length = 0)) = X
    generalize nodeB ms = b1
    generalize nodeB md = b2
    generalize behB mi mp ents = b3
    generalize (!(ents.any fun e => decide (mt < e.term))) = b4
    generalize decide (1 ≤ mk) = b5
    generalize decide (mk < 6) = b6
    generalize (!decide (ms = md)) = b7
    generalize decide (1 ≤ mt) = b8
    generalize decide (mt ≤ 4611686018427387904) = b9
    generalize decide (mi ≤ 4611686018427387904) = c1
    generalize decide (mm ≤ 4611686018427387904) = c2
    generalize decide (mc ≤ 4611686018427387904) = c3
    generalize (decide (mp ≤ mt) || decide (mk = 1)) = c4
    revert b1 b2 b3 b4 b5 b6 b7 b8 b9 c1 c2 c3 c4 X
    decide
  · rw [decide_eq_false hl]
    simp
set_option maxHeartbeats 8000000 in
theorem phead_of (g : Gz) (w : World) : Calls Tryz.prog 41 #[gv g] w fun e w' => e = .returned (.bool (headG g.m)) ∧ Below w.heap.size w w' := by
  obtain ⟨⟨mk, ms, md, mt, mi, mp, ents, mc, mo, mm, ⟨si, st, sk, sd⟩⟩, es, ⟨ea, en, ec⟩, ⟨sa, sn, sc⟩⟩ := g
  obtain ⟨B, HB⟩ : ∃ B, Hid (B = headG ⟨mk, ms, md, mt, mi, mp, ents, mc, mo, mm, ⟨si, st, sk, sd⟩⟩) := ⟨_, rfl⟩
  rw [← HB.out]
  have HB : Hid (B = (decide (1 ≤ mk) && decide (mk < 6) && nodeB ms && nodeB md && !decide (ms = md) && decide (1 ≤ mt) && decide (mt ≤ 4611686018427387904) && decide (mi ≤ 4611686018427387904) && decide (mm ≤ 4611686018427387904) && decide (mc ≤ 4611686018427387904) && (decide (mp ≤ mt) || decide (mk = 1)))) := HB
  dsimp only [gv] at *
  obtain ⟨z1, B1, hb1⟩ := one_box w (.cells #[.int .i64 mk, .int .i64 ms, .int .i64 md, .int .u64 (mt : Int), .int .u64 (mi : Int), .int .u64 (mp : Int), .slice ea en ec, .int .u64 (mc : Int), .bool mo, .int .u64 (mm : Int), .int .u64 (si : Int), .int .u64 (st : Int), .int .i64 sk, .slice sa sn sc] 34)
  have ks := pnode_of ms (w.alloc (.cells #[.int .i64 mk, .int .i64 ms, .int .i64 md, .int .u64 (mt : Int), .int .u64 (mi : Int), .int .u64 (mp : Int), .slice ea en ec, .int .u64 (mc : Int), .bool mo, .int .u64 (mm : Int), .int .u64 (si : Int), .int .u64 (st : Int), .int .i64 sk, .slice sa sn sc] 34))
  have kd := pnode_of md (w.alloc (.cells #[.int .i64 mk, .int .i64 ms, .int .i64 md, .int .u64 (mt : Int), .int .u64 (mi : Int), .int .u64 (mp : Int), .slice ea en ec, .int .u64 (mc : Int), .bool mo, .int .u64 (mm : Int), .int .u64 (si : Int), .int .u64 (st : Int), .int .i64 sk, .slice sa sn sc] 34))
  by_cases k1 : 1 ≤ mk
  · rw [decide_eq_true k1] at HB
    have k1d : decide ((1 : Int) ≤ mk) = true := decide_eq_true k1
    by_cases k2 : mk < 6
    · rw [decide_eq_true k2] at HB
      have k2d : decide (mk < 6) = true := decide_eq_true k2
      have HK1 : Hid _ := k1
      have HK2 : Hid _ := k2
      clear k1 k2
      go_enter Tryz.func41, Tryz.ntmps41
      go_wp2_with fail
      refine ks.mono ?_
      rintro e w2 ⟨rfl, hw2⟩
      rw [← hw2] at B1 hb1 kd
      clear ks hw2 z1
      obtain ⟨-, o0, o1, o2, o3, o4, o5, o6, o7, o8, o9, o10, o11, o12, o13⟩ := r14_cells B1
      cases hq1 : nodeB ms with
      | false =>
        rw [hq1] at HB
        have E0 : Hid (B = false) := by show _ = _; rw [HB.out]; simp
        clear HB kd
        go_wp2
        go_ret
        exact ⟨by rw [E0.out]; rfl, hb1⟩
      | true =>
        rw [hq1] at HB
        go_wp2_with fail
        refine kd.mono ?_
        rintro e w3 ⟨rfl, hw3⟩
        subst hw3
        clear kd
        cases hq2 : nodeB md with
        | false =>
          rw [hq2] at HB
          have E0 : Hid (B = false) := by show _ = _; rw [HB.out]; simp
          clear HB
          go_wp2
          go_ret
          exact ⟨by rw [E0.out]; rfl, hb1⟩
        | true =>
          rw [hq2] at HB
          by_cases hsd : ms = md
          · have hsb : (ms != md) = false := by simpa using hsd
            rw [decide_eq_true hsd] at HB
            have E0 : Hid (B = false) := by show _ = _; rw [HB.out]; simp
            clear HB hsd
            go_wp2
            go_ret
            exact ⟨by rw [E0.out]; rfl, hb1⟩
          · have hsb : (ms != md) = true := by simpa using hsd
            rw [decide_eq_false hsd] at HB
            clear hsd
            by_cases h0 : 1 ≤ mt
            · rw [decide_eq_true h0] at HB
              have hd0a : decide ((1 : Int) ≤ (mt : Int)) = true := by simp; omega
              have H0 : Hid _ := h0
              clear h0
              by_cases h1 : mt ≤ 4611686018427387904
              · rw [decide_eq_true h1] at HB
                have hd1a : decide ((mt : Int) ≤ 4611686018427387904) = true := by simp; omega
                have H1 : Hid _ := h1
                clear h1
                by_cases h2 : mi ≤ 4611686018427387904
                · rw [decide_eq_true h2] at HB
                  have hd2a : decide ((mi : Int) ≤ 4611686018427387904) = true := by simp; omega
                  have H2 : Hid _ := h2
                  clear h2
                  by_cases h3 : mm ≤ 4611686018427387904
                  · rw [decide_eq_true h3] at HB
                    have hd3a : decide ((mm : Int) ≤ 4611686018427387904) = true := by simp; omega
                    have H3 : Hid _ := h3
                    clear h3
                    by_cases h4 : mc ≤ 4611686018427387904
                    · rw [decide_eq_true h4] at HB
                      have hd4a : decide ((mc : Int) ≤ 4611686018427387904) = true := by simp; omega
                      have H4 : Hid _ := h4
                      clear h4
                      by_cases hp : mp ≤ mt
                      · rw [decide_eq_true hp] at HB
                        have hpa : decide ((mp : Int) ≤ (mt : Int)) = true := by simp; omega
                        have hpb : decide (mp ≤ mt) = true := decide_eq_true hp
                        have E0 : Hid (B = true) := by show _ = _; rw [HB.out]; simp
                        clear HB hp
                        go_wp2
                        go_ret
                        exact ⟨by rw [E0.out]; rfl, hb1⟩
                      · rw [decide_eq_false hp] at HB
                        have hpa : decide ((mp : Int) ≤ (mt : Int)) = false := by simp; omega
                        have hpb : decide (mp ≤ mt) = false := decide_eq_false hp
                        by_cases hk : mk = 1
                        · have hkb : (mk == 1) = true := by simpa using hk
                          rw [decide_eq_true hk] at HB
                          have E0 : Hid (B = true) := by show _ = _; rw [HB.out]; simp
                          clear HB hp hk
                          go_wp2
                          go_ret
                          exact ⟨by rw [E0.out]; rfl, hb1⟩
                        · have hkb : (mk == 1) = false := by simpa using hk
                          rw [decide_eq_false hk] at HB
                          have E0 : Hid (B = false) := by show _ = _; rw [HB.out]; simp
                          clear HB hp hk
                          go_wp2
                          go_ret
                          exact ⟨by rw [E0.out]; rfl, hb1⟩
                    · rw [decide_eq_false h4] at HB
                      have E0 : Hid (B = false) := by show _ = _; rw [HB.out]; simp
                      have hd4a : decide ((mc : Int) ≤ 4611686018427387904) = false := by simp; omega
                      clear h4 HB
                      go_wp2
                      go_ret
                      exact ⟨by rw [E0.out]; rfl, hb1⟩
                  · rw [decide_eq_false h3] at HB
                    have E0 : Hid (B = false) := by show _ = _; rw [HB.out]; simp
                    have hd3a : decide ((mm : Int) ≤ 4611686018427387904) = false := by simp; omega
                    clear h3 HB
                    go_wp2
                    go_ret
                    exact ⟨by rw [E0.out]; rfl, hb1⟩
                · rw [decide_eq_false h2] at HB
                  have E0 : Hid (B = false) := by show _ = _; rw [HB.out]; simp
                  have hd2a : decide ((mi : Int) ≤ 4611686018427387904) = false := by simp; omega
                  clear h2 HB
                  go_wp2
                  go_ret
                  exact ⟨by rw [E0.out]; rfl, hb1⟩
              · rw [decide_eq_false h1] at HB
                have E0 : Hid (B = false) := by show _ = _; rw [HB.out]; simp
                have hd1a : decide ((mt : Int) ≤ 4611686018427387904) = false := by simp; omega
                clear h1 HB
                go_wp2
                go_ret
                exact ⟨by rw [E0.out]; rfl, hb1⟩
            · rw [decide_eq_false h0] at HB
              have E0 : Hid (B = false) := by show _ = _; rw [HB.out]; simp
              have hd0a : decide ((1 : Int) ≤ (mt : Int)) = false := by simp; omega
              clear h0 HB
              go_wp2
              go_ret
              exact ⟨by rw [E0.out]; rfl, hb1⟩
    · rw [decide_eq_false k2] at HB
      have k2d : decide (mk < 6) = false := decide_eq_false k2
      have E0 : Hid (B = false) := by show _ = _; rw [HB.out]; simp
      clear HB ks kd k1
      go_enter Tryz.func41, Tryz.ntmps41
      go_wp2
      go_ret
      exact ⟨by rw [E0.out]; rfl, hb1⟩
  · rw [decide_eq_false k1] at HB
    have k1d : decide ((1 : Int) ≤ mk) = false := decide_eq_false k1
    have E0 : Hid (B = false) := by show _ = _; rw [HB.out]; simp
    clear HB ks kd
    go_enter Tryz.func41, Tryz.ntmps41
    go_wp2
    go_ret
    exact ⟨by rw [E0.out]; rfl, hb1⟩
end Go.Proofs.YtncoandnelgkeaaGreat

/- The program's mayBeEntries, mayBeSnap, CheckMsg. -/
namespace Go.Proofs.YtncoandnelgkeaaGreat
open Go.RowKit QuorumMath RlogMath RaftMath
set_option maxRecDepth 100000
set_option linter.unusedSimpArgs false
set_option linter.unusedVariables false

/-- One of its own closures at an entry. -/
theorem late_of {w : World} {q t : Nat} (hq : w.cell? ⟨q, 3, none⟩ = some (.int .u64 (t : Int))) (z : Ez) : Calls Tryz.prog 84 #[ev z, .pointer (some ⟨q, 0, none⟩)] w fun e w' => e = .returned (.bool (decide (t < z.1.term))) ∧ Below w.heap.size w w' := by
  obtain ⟨⟨ix, tm, kd, dt⟩, sa, sn, sc⟩ := z
  have hql := World.block_lt_of_cell? w _ hq
  dsimp only at hql
  have hne : q ≠ w.heap.size := Nat.ne_of_lt hql
  obtain ⟨z1, B1, hb1⟩ := one_box w (.cells #[.int .u64 (ix : Int), .int .u64 (tm : Int), .int .i64 kd, .slice sa sn sc] 25)
  dsimp only [ev]
  obtain ⟨B, HB⟩ : ∃ B, Hid (B = decide (t < tm)) := ⟨_, rfl⟩
  rw [← HB.out]
  by_cases h : t < tm
  · have h1 : decide ((t : Int) < (tm : Int)) = true := by simp; omega
    have h2 : decide (t < tm) = true := decide_eq_true h
    have E0 : Hid (B = true) := by show _ = _; rw [HB.out, h2]
    clear HB h B1 z1
    go_enter Tryz.func84, Tryz.ntmps84
    go_wp2
    go_ret
    exact ⟨by rw [E0.out]; rfl, hb1⟩
  · have h1 : decide ((t : Int) < (tm : Int)) = false := by simp; omega
    have h2 : decide (t < tm) = false := decide_eq_false h
    have E0 : Hid (B = false) := by show _ = _; rw [HB.out, h2]
    clear HB h B1 z1
    go_enter Tryz.func84, Tryz.ntmps84
    go_wp2
    go_ret
    exact ⟨by rw [E0.out]; rfl, hb1⟩
/-- Whether there is one. -/
def AnyT (zs : List Ez) (p : Ez → Bool) (e : Ending) : Prop := ∃ x : Int, e = .returned (.int .i64 x) ∧ (0 ≤ x ↔ zs.any p = true)
set_option maxHeartbeats 2000000 in
theorem late_idx (zs : List Ez) (lv : Value) (q : Value) (p : Ez → Bool) (w : World) (hL : Rd entE w lv zs) (hlen : zs.length ≤ 1000000000) (hK : ∀ z ∈ zs, ∀ W, Below w.heap.size w W → Calls Tryz.prog 84 #[ev z, q] W fun e w' => e = .returned (.bool (p z)) ∧ Below W.heap.size W w') : Calls Tryz.prog 117 #[lv, .func (.func 84) #[] #[q]] w fun e w' => AnyT zs p e ∧ Below w.heap.size w w' := by
  have HL : Hid (Rd entE w lv zs) := hL
  have HK : Hid _ := hK
  obtain ⟨T, HT⟩ : ∃ T, Hid (T = AnyT zs p) := ⟨_, rfl⟩
  rw [← HT.out]
  obtain ⟨ao, cap, rfl, -, -⟩ := hL.shape
  clear hL hK
  go_enter Tryz.func117, Tryz.ntmps117
  go_wp2
  go_loopg [8] zs.length (fun g s8 wr => ∃ i : Nat, i + g = zs.length ∧ s8 = .int .i64 (i : Int) ∧ Below w.heap.size w wr ∧ Hid (∀ z ∈ zs.take i, p z = false))
  case atStart => exact ⟨0, by simp, rfl, Below.refl _ _, fun z hz => by simp at hz⟩
  case round =>
    obtain ⟨i, hig, rfl, hb, HN⟩ := hrel
    by_cases hlt : i < zs.length
    · have hlti : (i : Int) < (zs.length : Int) := by omega
      have hz : zs[i]? = some zs[i] := List.getElem?_eq_getElem hlt
      obtain ⟨z, hzz⟩ : ∃ z, z = zs[i] := ⟨_, rfl⟩
      rw [← hzz] at hz
      clear hzz
      obtain ⟨b, off, rfl, c⟩ := rde_at HL.out hz
      obtain ⟨c0, c1, c2, c3⟩ := c wr hb
      have kc := HK.out z (List.mem_of_getElem? hz) wr hb
      have HY : Hid (p z = true → T (.returned (.int .i64 (i : Int)))) := fun h => by
        rw [HT.out]
        exact ⟨_, rfl, ⟨fun _ => List.any_eq_true.2 ⟨z, List.mem_of_getElem? hz, h⟩, fun _ => by omega⟩⟩
      have HN2 : Hid (p z = false → ∀ y ∈ zs.take (i + 1), p y = false) := fun h y hy => by
        rw [take_succ_get hz, List.mem_append, List.mem_singleton] at hy
        rcases hy with hy | rfl
        · exact HN.out y hy
        · exact h
      generalize p z = P at *
      obtain ⟨⟨ix, tm, kd, dt⟩, sa, sn, sc⟩ := z
      dsimp only [ev] at *
      clear hz c HN
      cases P with
      | true =>
        have E0 : Hid _ := HY.out rfl
        clear HY HN2
        go_wp2_with fail
        refine kc.mono ?_
        rintro e w2 ⟨rfl, hb2⟩
        have hb02 := hb.trans (hb2.mono hb.size)
        clear kc
        go_wp2
        go_ret
        exact ⟨E0.out, hb02⟩
      | false =>
        have HN3 : Hid _ := HN2.out rfl
        clear HY HN2
        go_wp2_with fail
        refine kc.mono ?_
        rintro e w2 ⟨rfl, hb2⟩
        have hb02 := hb.trans (hb2.mono hb.size)
        clear kc
        go_wp2
        go_roundg (gk - 1)
        case measure => omega
        case rel => exact ⟨i + 1, by omega, by go_num, hb02, HN3⟩
    · have hlti : ¬ (i : Int) < (zs.length : Int) := by omega
      have E0 : Hid (T (.returned (.int .i64 (-1)))) := by
        show T _
        rw [HT.out]
        refine ⟨_, rfl, ⟨fun h => by omega, fun h => ?_⟩⟩
        obtain ⟨z, hz, h1⟩ := List.any_eq_true.1 h
        have := HN.out z (by rw [List.take_of_length_le (by omega)]; exact hz)
        rw [this] at h1
        cases h1
      clear HN HL HK
      go_wp2
      go_ret
      exact ⟨E0.out, hb⟩
theorem late_any (zs : List Ez) (lv : Value) (q : Value) (p : Ez → Bool) (w : World) (hL : Rd entE w lv zs) (hlen : zs.length ≤ 1000000000) (hK : ∀ z ∈ zs, ∀ W, Below w.heap.size w W → Calls Tryz.prog 84 #[ev z, q] W fun e w' => e = .returned (.bool (p z)) ∧ Below W.heap.size W w') : Calls Tryz.prog 83 #[lv, .func (.func 84) #[] #[q]] w fun e w' => e = .returned (.bool (zs.any p)) ∧ Below w.heap.size w w' := by
  have k1 := late_idx zs lv q p w hL hlen hK
  obtain ⟨ao, cap, rfl, -, -⟩ := hL.shape
  obtain ⟨B, HB⟩ : ∃ B, Hid (B = zs.any p) := ⟨_, rfl⟩
  rw [← HB.out]
  clear hL hK
  go_enter Tryz.func83, Tryz.ntmps83
  go_wp2_with fail
  refine k1.mono ?_
  rintro e w1 ⟨⟨x, rfl, hx⟩, hb1⟩
  have E : Hid (B = decide (0 ≤ x)) := by
    show _ = _
    rw [HB.out]
    cases h : zs.any p with
    | true => rw [decide_eq_true (hx.2 h)]
    | false => rw [decide_eq_false (fun h0 => by rw [hx.1 h0] at h; cases h)]
  clear HB hx k1
  go_wp2
  go_ret
  exact ⟨by rw [E.out]; rfl, hb1⟩
end Go.Proofs.YtncoandnelgkeaaGreat

