import Derived.Test.YtncoandnelgkeaaGreatHc41
/- The program's Tick. -/
namespace Go.Proofs.YtncoandnelgkeaaGreat
open Go.RowKit QuorumMath RlogMath RaftMath
set_option maxRecDepth 100000
set_option linter.unusedSimpArgs false
set_option linter.unusedVariables false

/-- What Tick tells. -/
def TickT (n : Nat) (r : Mr) (s : Ms) (e : Ending) (w' : World) : Prop := ∃ (z : Rz) (gs : List Gz) (os : Sl) (c : Int), e = .returned (.tuple #[rv z, .slice os.1 os.2.1 os.2.2, .int .i64 c]) ∧ RaV n w' z ∧ MgsV n w' (.slice os.1 os.2.1 os.2.2) gs ∧ (mayR r = true → c = 0 ∧ z.r = s.r ∧ (gs.map fun g => g.m) = s.out) ∧ (mayR r = false → c = 1 ∧ gs = [])
theorem mayR_facts {r : Mr} (h : mayR r = true) : mayB r.base r.log = true ∧ (1 ≤ r.node ∧ r.node ≤ 7) ∧ (0 ≤ r.elapsed ∧ r.elapsed ≤ 1000) := by
  rw [mayR_eq] at h
  unfold numB logB nodeB at h
  simp only [Bool.and_eq_true, decide_eq_true_eq] at h
  exact ⟨h.1.2.1.1.1, ⟨h.1.1.1.1.1.1.1.1, h.1.1.1.1.1.1.1.2⟩, h.1.1.1.2, h.1.1.2⟩
theorem raV_zero (n : Nat) (w : World) : RaV n w ⟨zeroR, [], (none, 0, 0), (none, 0, 0), (none, 0, 0), (none, 0, 0)⟩ := ⟨RdN.nil _ _ _ _, EntsN.nil _ _, rfl, RdN.nil _ _ _ _, RdN.nil _ _ _ _⟩
theorem TuP.ra {m n : Nat} {w : World} {z : Rz} {gs : List Gz} {os : Sl} (h : TuP m w z gs os) : RaV n w z ∧ MgsV n w (slv os) gs := ⟨⟨h.1.toN n, h.2.1.toN n, h.2.1.2.1, h.2.2.1.1.toN n, h.2.2.2.1.1.toN n⟩, h.2.2.2.2.1.1.toN n, fun g hg => (h.2.2.2.2.2 g hg).toN n⟩
set_option maxHeartbeats 8000000 in
theorem tickP_of (n : Nat) (r : Mr) (v : Value) (w : World) (hS : RsV n w v r) (hbo : OkM r.base) (hlo : ∀ e ∈ r.log, OkM e) (hlg : r.log.length ≤ 1000000) (hpl : r.peers.length ≤ 1000000) (hvt : r.votes.length ≤ 1000000) (hnx : ∀ p ∈ r.peers, p.next < 18446744073709551616) : Calls Tryz.prog 22 #[v] w fun e w' => TickT n r (tickR r) e w' ∧ Below w.heap.size w w' := by
  have HK1 : Hid (∀ W, Below w.heap.size w W → _) := fun W hW => pcheckR_of n r v W (hS.below hW) hbo hlo hlg hpl hvt
  have HK2 : Hid (mayR r = true → ∀ W, Below w.heap.size w W → _) := fun hm W hW => turnOf_of n r v W (hS.below hW) (mayR_facts hm).1 hbo hlo hvt hpl
  have HK3 : Hid (mayR r = true → ∀ w0 W t, TuAt w0 [] W t ⟨r, []⟩ → _) := fun hm w0 W t hA => ptick_of w0 [] W t ⟨r, []⟩ hA (mayR_facts hm).1 hbo hlo rfl (mayR_facts hm).2.1 (mayR_facts hm).2.2 hpl hnx
  generalize hMM : mayR r = M at HK1 HK2 HK3
  generalize hTT : tickR r = A at *
  obtain ⟨z, rfl, hz, hR⟩ := hS
  obtain ⟨r', zs, ⟨ba, bn, bc⟩, ⟨la, ln, lc⟩, ⟨va, vn, vc⟩, ⟨pa, pn, pc⟩⟩ := z
  obtain rfl : r' = r := hz
  have HMM : Hid (mayR r' = M) := hMM
  clear hMM hTT
  obtain ⟨PT, HPT⟩ : ∃ P, Hid (P = TickT n r' A) := ⟨_, rfl⟩
  rw [← HPT.out]
  obtain ⟨nd, tm, vo, ⟨bi, bt, bk, bd⟩, lg, cm, ro, le, el, vt, pe⟩ := r'
  dsimp only [rv] at *
  obtain ⟨hsz, B1, B2, hb1⟩ := two_box w (.cells #[.int .i64 nd, .int .u64 (tm : Int), .int .i64 vo, .int .u64 (bi : Int), .int .u64 (bt : Int), .int .i64 bk, .slice ba bn bc, .slice la ln lc, .int .u64 (cm : Int), .int .i64 ro, .int .i64 le, .int .i64 el, .slice va vn vc, .slice pa pn pc] 32) (.cells #[.int .i64 0, .int .u64 0, .int .i64 0, .int .u64 0, .int .u64 0, .int .i64 0, .slice none 0 0, .slice none 0 0, .int .u64 0, .int .i64 0, .int .i64 0, .int .i64 0, .slice none 0 0, .slice none 0 0] 32)
  have k1 := HK1.out _ hb1
  rw [hsz] at k1
  clear hR hbo hlo hlg hpl hvt hnx HK1
  go_enter Tryz.func22, Tryz.ntmps22
  go_wp2_with fail
  refine k1.mono ?_
  rintro e W2 ⟨rfl, hb2⟩
  have C1 := (hb2.block w.heap.size (by omega)).trans B1
  have C2 := (hb2.block (w.heap.size + 1) (by omega)).trans B2
  have hb02 := hb1.trans (hb2.mono (by omega))
  have hs2 : w.heap.size + 1 + 1 ≤ W2.heap.size := (Array.getElem?_eq_some_iff.1 C2).1
  clear k1 hb2 B1 B2 hsz hb1
  cases M with
  | false =>
    dsimp only [codeB]
    have HF := setRow_heap _ _ _ #[.int .i64 0, .int .u64 0, .int .i64 0, .int .u64 0, .int .u64 0, .int .i64 0, .slice none 0 0, .slice none 0 0, .int .u64 0, .int .i64 0, .int .i64 0, .int .i64 0, .slice none 0 0, .slice none 0 0] _ _ C2
    have hbf := below_row hb02 (g := w.heap.size + 1) (by omega) #[.int .i64 0, .int .u64 0, .int .i64 0, .int .u64 0, .int .u64 0, .int .i64 0, .slice none 0 0, .slice none 0 0, .int .u64 0, .int .i64 0, .int .i64 0, .int .i64 0, .slice none 0 0, .slice none 0 0]
    clear HK2 HK3
    go_wp2_with (refine wpList_store_row rfl 32 _ _ rfl (w.heap.size + 1) _ rfl rfl _ _ C2 (by kernel_rfl) rfl (by simp [Value.oneCell']) ?_)
    (try simp only [Exit.inBlock, Exit.then])
    refine bodyPost_ret (results_ra3 rfl _ _ (w.heap.size + 1) _ _ _ _ _ _ _ _ _ _ _ _ _ _ rfl HF) rfl ?_
    exact ⟨by rw [HPT.out]; exact ⟨⟨zeroR, [], (none, 0, 0), (none, 0, 0), (none, 0, 0), (none, 0, 0)⟩, [], (none, 0, 0), 1, rfl, raV_zero n _, ⟨RdN.nil _ _ _ _, by simp⟩, (fun h => absurd (HMM.out.symm.trans h) (by decide)), fun _ => ⟨rfl, rfl⟩⟩, hbf⟩
  | true =>
    dsimp only [codeB]
    have k2 := HK2.out (by first | rfl | trivial) W2 hb02
    obtain ⟨-, o0, o1, o2, o3, o4, o5, o6, o7, o8, o9, o10, o11, o12, o13⟩ := r14_cells C1
    go_wp2_with fail
    refine k2.mono ?_
    rintro e w5 ⟨t, rfl, hA5, hb5⟩
    have k3 := HK3.out (by first | rfl | trivial) W2 w5 t hA5
    clear k2 o0 o1 o2 o3 o4 o5 o6 o7 o8 o9 o10 o11 o12 o13 HK2 HK3 hA5 hb5
    go_wp2_with fail
    refine k3.mono ?_
    rintro e w6 ⟨rfl, hR6⟩
    obtain ⟨hb6, ht0, z, gs, os, hT6, hz, hP6, ho, -⟩ := hR6.1
    have hb06 := hb02.trans (hb6.mono hb02.size)
    have G6 := (hb6.block (w.heap.size + 1) (by omega)).trans C2
    have HZ : Hid (z.r = A.r) := hz
    have HO : Hid ((gs.map fun g => g.m) = A.out) := ho
    clear k3 hR6 hb6 C1 C2 hz ho
    go_wp2
    (try simp only [Exit.inBlock, Exit.then])
    refine wp_region_L (fun W => W.heap[t]? = some (tc z os)) [] (by kernel_rfl) ?_
    have y0 : (fun W => W.heap[t]? = some (tc z os)) w6.drew := hT6
    have g0 : w6.drew.heap[w.heap.size + 1]? = _ := G6
    have P0 : TuP W2.heap.size w6.drew z gs os := hP6.below (Below.refl _ _).drew
    have B0 : Below w.heap.size w w6.drew := hb06.drew
    generalize w6.drew = wd at *
    have HF := setRow_heap _ _ _ #[.int .i64 z.r.node, .int .u64 (z.r.term : Int), .int .i64 z.r.vote, .int .u64 (z.r.base.idx : Int), .int .u64 (z.r.base.term : Int), .int .i64 z.r.base.kind, .slice z.bs.1 z.bs.2.1 z.bs.2.2, .slice z.ls.1 z.ls.2.1 z.ls.2.2, .int .u64 (z.r.commit : Int), .int .i64 z.r.role, .int .i64 z.r.leads, .int .i64 z.r.elapsed, .slice z.vs.1 z.vs.2.1 z.vs.2.2, .slice z.ps.1 z.ps.2.1 z.ps.2.2] _ _ g0
    have y1 : (fun W => W.heap[t]? = some (tc z os)) (wd.setRow (w.heap.size + 1) #[.int .i64 z.r.node, .int .u64 (z.r.term : Int), .int .i64 z.r.vote, .int .u64 (z.r.base.idx : Int), .int .u64 (z.r.base.term : Int), .int .i64 z.r.base.kind, .slice z.bs.1 z.bs.2.1 z.bs.2.2, .slice z.ls.1 z.ls.2.1 z.ls.2.2, .int .u64 (z.r.commit : Int), .int .i64 z.r.role, .int .i64 z.r.leads, .int .i64 z.r.elapsed, .slice z.vs.1 z.vs.2.1 z.vs.2.2, .slice z.ps.1 z.ps.2.1 z.ps.2.2]) := (setRow_other wd (w.heap.size + 1) t _ (by omega)).trans y0
    have Pf := P0.frm (Frm.row (n := 0) (Nat.zero_le _) g0 #[.int .i64 z.r.node, .int .u64 (z.r.term : Int), .int .i64 z.r.vote, .int .u64 (z.r.base.idx : Int), .int .u64 (z.r.base.term : Int), .int .i64 z.r.base.kind, .slice z.bs.1 z.bs.2.1 z.bs.2.2, .slice z.ls.1 z.ls.2.1 z.ls.2.2, .int .u64 (z.r.commit : Int), .int .i64 z.r.role, .int .i64 z.r.leads, .int .i64 z.r.elapsed, .slice z.vs.1 z.vs.2.1 z.vs.2.2, .slice z.ps.1 z.ps.2.1 z.ps.2.2]) (by decide)
    have Bf := below_row B0 (g := w.heap.size + 1) (by omega) #[.int .i64 z.r.node, .int .u64 (z.r.term : Int), .int .i64 z.r.vote, .int .u64 (z.r.base.idx : Int), .int .u64 (z.r.base.term : Int), .int .i64 z.r.base.kind, .slice z.bs.1 z.bs.2.1 z.bs.2.2, .slice z.ls.1 z.ls.2.1 z.ls.2.2, .int .u64 (z.r.commit : Int), .int .i64 z.r.role, .int .i64 z.r.leads, .int .i64 z.r.elapsed, .slice z.vs.1 z.vs.2.1 z.vs.2.2, .slice z.ps.1 z.ps.2.1 z.ps.2.2]
    refine wpAnyL_take 0 rfl (by kernel_rfl) (by kernel_rfl) (by kernel_rfl) (by kernel_rfl) (fun _ _ _ h => h) (wanted_none rfl) (by intro w' hS'; obtain ⟨-, c0, c1, c2, c3, c4, c5, c6, c7, c8, c9, c10, c11, c12, c13, c14⟩ := r15_cells hS'; go_simp <;> rfl) y0 ?_
    try simp only [List.getElem_toArray, List.getElem_cons_succ, List.getElem_cons_zero, Act.put, List.setIfInBounds_toArray, List.set_cons_zero, List.set_cons_succ]
    refine wpAnyL_take 1 rfl (by kernel_rfl) (by kernel_rfl) (by kernel_rfl) (by kernel_rfl) (fun _ _ _ h => h) (wanted_none rfl) (by intro w' hS'; obtain ⟨-, c0, c1, c2, c3, c4, c5, c6, c7, c8, c9, c10, c11, c12, c13, c14⟩ := r15_cells hS'; go_simp <;> rfl) y0 ?_
    try simp only [List.getElem_toArray, List.getElem_cons_succ, List.getElem_cons_zero, Act.put, List.setIfInBounds_toArray, List.set_cons_zero, List.set_cons_succ]
    refine wpAnyL_take 2 rfl (by kernel_rfl) (by kernel_rfl) (by kernel_rfl) (by kernel_rfl) (fun _ _ _ h => h) (wanted_none rfl) (by intro w' hS'; obtain ⟨-, c0, c1, c2, c3, c4, c5, c6, c7, c8, c9, c10, c11, c12, c13, c14⟩ := r15_cells hS'; go_simp <;> rfl) y0 ?_
    try simp only [List.getElem_toArray, List.getElem_cons_succ, List.getElem_cons_zero, Act.put, List.setIfInBounds_toArray, List.set_cons_zero, List.set_cons_succ]
    refine wpAnyL_take 3 rfl (by kernel_rfl) (by kernel_rfl) (by kernel_rfl) (by kernel_rfl) (fun _ _ _ h => h) (wanted_none rfl) (by intro w' hS'; obtain ⟨-, c0, c1, c2, c3, c4, c5, c6, c7, c8, c9, c10, c11, c12, c13, c14⟩ := r15_cells hS'; go_simp <;> rfl) y0 ?_
    try simp only [List.getElem_toArray, List.getElem_cons_succ, List.getElem_cons_zero, Act.put, List.setIfInBounds_toArray, List.set_cons_zero, List.set_cons_succ]
    refine wpAnyL_take 4 rfl (by kernel_rfl) (by kernel_rfl) (by kernel_rfl) (by kernel_rfl) (fun _ _ _ h => h) (wanted_none rfl) (by intro w' hS'; obtain ⟨-, c0, c1, c2, c3, c4, c5, c6, c7, c8, c9, c10, c11, c12, c13, c14⟩ := r15_cells hS'; go_simp <;> rfl) y0 ?_
    try simp only [List.getElem_toArray, List.getElem_cons_succ, List.getElem_cons_zero, Act.put, List.setIfInBounds_toArray, List.set_cons_zero, List.set_cons_succ]
    refine wpAnyL_take 5 rfl (by kernel_rfl) (by kernel_rfl) (by kernel_rfl) (by kernel_rfl) (fun _ _ _ h => h) (wanted_none rfl) (by intro w' hS'; obtain ⟨-, c0, c1, c2, c3, c4, c5, c6, c7, c8, c9, c10, c11, c12, c13, c14⟩ := r15_cells hS'; go_simp <;> rfl) y0 ?_
    try simp only [List.getElem_toArray, List.getElem_cons_succ, List.getElem_cons_zero, Act.put, List.setIfInBounds_toArray, List.set_cons_zero, List.set_cons_succ]
    refine wpAnyL_take 6 rfl (by kernel_rfl) (by kernel_rfl) (by kernel_rfl) (by kernel_rfl) (fun _ _ _ h => h) (wanted_none rfl) (by intro w' hS'; obtain ⟨-, c0, c1, c2, c3, c4, c5, c6, c7, c8, c9, c10, c11, c12, c13, c14⟩ := r15_cells hS'; go_simp <;> rfl) y0 ?_
    try simp only [List.getElem_toArray, List.getElem_cons_succ, List.getElem_cons_zero, Act.put, List.setIfInBounds_toArray, List.set_cons_zero, List.set_cons_succ]
    refine wpAnyL_take 7 rfl (by kernel_rfl) (by kernel_rfl) (by kernel_rfl) (by kernel_rfl) (fun _ _ _ h => h) (wanted_none rfl) (by intro w' hS'; obtain ⟨-, c0, c1, c2, c3, c4, c5, c6, c7, c8, c9, c10, c11, c12, c13, c14⟩ := r15_cells hS'; go_simp <;> rfl) y0 ?_
    try simp only [List.getElem_toArray, List.getElem_cons_succ, List.getElem_cons_zero, Act.put, List.setIfInBounds_toArray, List.set_cons_zero, List.set_cons_succ]
    refine wpAnyL_one 8 (by kernel_rfl) rfl (wanted_none rfl) ?_
    intro K' hK'
    refine wp_store_row 32 _ _ rfl (w.heap.size + 1) #[.int .i64 z.r.node, .int .u64 (z.r.term : Int), .int .i64 z.r.vote, .int .u64 (z.r.base.idx : Int), .int .u64 (z.r.base.term : Int), .int .i64 z.r.base.kind, .slice z.bs.1 z.bs.2.1 z.bs.2.2, .slice z.ls.1 z.ls.2.1 z.ls.2.2, .int .u64 (z.r.commit : Int), .int .i64 z.r.role, .int .i64 z.r.leads, .int .i64 z.r.elapsed, .slice z.vs.1 z.vs.2.1 z.vs.2.2, .slice z.ps.1 z.ps.2.1 z.ps.2.2] rfl rfl _ _ g0 (by kernel_rfl) rfl (by simp [Value.oneCell']) ?_
    refine hK'.out _ _ (.inr y1) ?_
    clear hK' K'
    try simp only [List.getElem_toArray, List.getElem_cons_succ, List.getElem_cons_zero, Act.put, List.setIfInBounds_toArray, List.set_cons_zero, List.set_cons_succ]
    refine wpAnyL_take 9 rfl (by kernel_rfl) (by kernel_rfl) (by kernel_rfl) (by kernel_rfl) (fun _ _ _ h => h) (wanted_none rfl) (by intro w' hS'; obtain ⟨-, c0, c1, c2, c3, c4, c5, c6, c7, c8, c9, c10, c11, c12, c13, c14⟩ := r15_cells hS'; go_simp <;> rfl) y1 ?_
    try simp only [List.getElem_toArray, List.getElem_cons_succ, List.getElem_cons_zero, Act.put, List.setIfInBounds_toArray, List.set_cons_zero, List.set_cons_succ]
    refine wpAnyL_take 10 rfl (by kernel_rfl) (by kernel_rfl) (by kernel_rfl) (by kernel_rfl) (fun _ _ _ h => h) (wanted_none rfl) (by intro w' hS'; obtain ⟨-, c0, c1, c2, c3, c4, c5, c6, c7, c8, c9, c10, c11, c12, c13, c14⟩ := r15_cells hS'; go_simp <;> rfl) y1 ?_
    try simp only [List.getElem_toArray, List.getElem_cons_succ, List.getElem_cons_zero, Act.put, List.setIfInBounds_toArray, List.set_cons_zero, List.set_cons_succ]
    refine wpAnyL_done (by kernel_rfl) (NoPanic.normal ?_) _
    generalize wd.setRow (w.heap.size + 1) #[.int .i64 z.r.node, .int .u64 (z.r.term : Int), .int .i64 z.r.vote, .int .u64 (z.r.base.idx : Int), .int .u64 (z.r.base.term : Int), .int .i64 z.r.base.kind, .slice z.bs.1 z.bs.2.1 z.bs.2.2, .slice z.ls.1 z.ls.2.1 z.ls.2.2, .int .u64 (z.r.commit : Int), .int .i64 z.r.role, .int .i64 z.r.leads, .int .i64 z.r.elapsed, .slice z.vs.1 z.vs.2.1 z.vs.2.2, .slice z.ps.1 z.ps.2.1 z.ps.2.2] = W8 at *
    clear P0 B0 g0 y0 hP6 hT6 G6 hb06
    go_wp2
    (try simp only [Exit.inBlock, Exit.then])
    refine bodyPost_ret (results_ra3 rfl _ _ (w.heap.size + 1) _ _ _ _ _ _ _ _ _ _ _ _ _ _ rfl HF) rfl ?_
    exact ⟨by rw [HPT.out]; exact ⟨z, gs, os, 0, rfl, (TuP.ra Pf).1, (TuP.ra Pf).2, fun _ => ⟨rfl, HZ.out, HO.out⟩, (fun h => absurd (HMM.out.symm.trans h) (by decide))⟩, Bf⟩
end Go.Proofs.YtncoandnelgkeaaGreat

