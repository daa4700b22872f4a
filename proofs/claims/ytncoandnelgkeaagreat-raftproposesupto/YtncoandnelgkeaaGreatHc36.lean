import Derived.Test.YtncoandnelgkeaaGreatHc33
import Derived.Test.YtncoandnelgkeaaGreatHc35
import Derived.Test.YtncoandnelgkeaaGreatHc10
/- The program's lead. -/
namespace Go.Proofs.YtncoandnelgkeaaGreat
open Go.RowKit QuorumMath RlogMath RaftMath
set_option maxRecDepth 100000
set_option linter.unusedSimpArgs false
set_option linter.unusedVariables false

theorem tu_frm {w w' : World} {t : Nat} {cs : Array Value} (hT : w.heap[t]? = some (.cells cs 82 (0, 0))) (hw : ∀ b, b ≠ t → w'.heap[b]? = w.heap[b]?) : Frm 0 [82] w w' :=
  ⟨fun b hb => absurd hb (Nat.not_lt_zero b), fun b cs' τ fr hc hτ => hw b fun e => by
    subst e
    rw [hT] at hc
    simp only [Option.some.injEq, Obj.cells.injEq] at hc
    exact hτ (by rw [← hc.2.1]; exact List.mem_singleton.2 rfl)⟩
set_option maxHeartbeats 8000000 in
theorem plead_of (w0 : World) (K : List (Nat × Obj)) (w : World) (t : Nat) (s : Ms) (hS : TuAt w0 K w t s) (hm : mayB s.r.base s.r.log = true) (hbo : OkM s.r.base) (hlo : ∀ e ∈ s.r.log, OkM e) (hol : s.out.length ≤ 1000000) (htm : s.r.term < 18446744073709551616) (hpe : s.r.peers = []) : Calls Tryz.prog 123 #[.pointer (some ⟨t, 0, none⟩)] w fun e w' => e = .returned (.tuple #[]) ∧ TuR w0 K w w' t [82, 34] (leadR s) := by
  have HS0 : Hid (TuAt w0 K w t s) := hS
  obtain ⟨hb0, ht0, z, gs, os, hT, hz, hP, ho, hKp⟩ := hS
  obtain ⟨r, zs, ⟨ba, bn, bc⟩, ⟨la, ln, lc⟩, ⟨va, vn, vc⟩, ⟨pa, pn, pc⟩⟩ := z
  obtain ⟨sr, so⟩ := s
  obtain rfl : r = sr := hz
  obtain ⟨nd, tm, vo, ⟨bi, bt, bk, bd⟩, lg, cm, ro, le, el, vt, pe⟩ := r
  obtain ⟨oa, on, oc⟩ := os
  dsimp only at *
  dsimp only [tc] at hT
  have htl : t < w.heap.size := (Array.getElem?_eq_some_iff.1 hT).1
  have hml : mes zs = lg := hP.2.1.2.1
  have hzl : zs.length ≤ 1000000 := by have := congrArg List.length hml; rw [List.length_map] at this; have := (may_last hm).2.2; omega
  have hzo := okz_of hml hlo
  have hD : DataV w ((⟨bi, bt, bk, bd⟩, ba, bn, bc) : Ez) := hP.1.data
  have hL : EntsV w (.slice la ln lc) zs := hP.2.1.ents
  subst hpe
  have HKA : Hid (∀ W, Below w.heap.size w W → _) := fun W hW => papp_c (⟨bi, bt, bk, bd⟩, ba, bn, bc) zs (.slice la ln lc) tm 0 [] (none, 0, 0) W (hD.below hW) (hL.below hW) ⟨hbo.1, hbo.2.1, hbo.2.2.1⟩ (fun z hz => (hzo z hz).1) (rdb_nil W) (by simp) (by omega) hbo.2.2.2 (fun z hz => (hzo z hz).2) (by simp)
  rw [hml] at HKA
  dsimp only [lgv] at HKA
  have HLE : Hid (leadR ⟨⟨nd, tm, vo, ⟨bi, bt, bk, bd⟩, lg, cm, ro, le, el, vt, []⟩, so⟩ = if (appM ⟨bi, bt, bk, bd⟩ lg tm 0 []).1 = 0 then settleR ⟨⟨nd, tm, vo, (appM ⟨bi, bt, bk, bd⟩ lg tm 0 []).2.1, (appM ⟨bi, bt, bk, bd⟩ lg tm 0 []).2.2, cm, 2, nd, 0, [], []⟩, so⟩ else ⟨⟨nd, tm, vo, ⟨bi, bt, bk, bd⟩, lg, cm, ro, le, el, vt, []⟩, so⟩) := rfl
  have hok2 := app_okM (t := tm) (k := 0) (d := []) hbo hlo htm (by simp) (by simp)
  have HMY : Hid ((appM ⟨bi, bt, bk, bd⟩ lg tm 0 []).1 = 0 → mayB (appM ⟨bi, bt, bk, bd⟩ lg tm 0 []).2.1 (appM ⟨bi, bt, bk, bd⟩ lg tm 0 []).2.2 = true) := app_may
  generalize appM ⟨bi, bt, bk, bd⟩ lg tm 0 [] = A at *
  obtain ⟨c, M2, l2⟩ := A
  dsimp only at *
  have HOK : Hid (OkM M2 ∧ ∀ e ∈ l2, OkM e) := ⟨hok2.1, hok2.2.1⟩
  have HP : Hid (TuP w0.heap.size w ⟨⟨nd, tm, vo, ⟨bi, bt, bk, bd⟩, lg, cm, ro, le, el, vt, []⟩, zs, (ba, bn, bc), (la, ln, lc), (va, vn, vc), (pa, pn, pc)⟩ gs (oa, on, oc)) := hP
  have HKK : Hid (∀ x ∈ K, w.heap[x.1]? = some x.2 ∧ x.1 ≠ t ∧ (slv (oa, on, oc)).ownBlock ≠ some x.1) := hKp
  have HOO : Hid ((gs.map fun g => g.m) = so) := ho
  clear hP hKp ho hD hL hzo hml hzl hm hbo hlo htm hok2
  go_enter Tryz.func123, Tryz.ntmps123
  go_wp2
  (try simp only [Exit.inBlock, Exit.then])
  refine wp_region_L (fun W => Below w.heap.size w W) [] (by kernel_rfl) ?_
  have hbd : Below w.heap.size w w.drew := (Below.refl _ w).drew
  have HTL : Hid (∀ W, Below w.heap.size w W → _) := fun W hW => r15_cells ((hW.block t htl).trans hT)
  generalize w.drew = wd at *
  refine wpAnyL_take 0 rfl (by kernel_rfl) (by kernel_rfl) (by kernel_rfl) (by kernel_rfl) (fun _ _ _ h => h) (wanted_none rfl) (by intro w' hS'; have hz := hS'; obtain ⟨-, c0, c1, c2, c3, c4, c5, c6, c7, c8, c9, c10, c11, c12, c13, c14⟩ := HTL.out _ hz; go_simp <;> rfl) hbd ?_
  try simp only [List.getElem_toArray, List.getElem_cons_succ, List.getElem_cons_zero, Act.put, List.setIfInBounds_toArray, List.set_cons_zero, List.set_cons_succ]
  refine wpAnyL_take 1 rfl (by kernel_rfl) (by kernel_rfl) (by kernel_rfl) (by kernel_rfl) (fun _ _ _ h => h) (wanted_none rfl) (by intro w' hS'; have hz := hS'; obtain ⟨-, c0, c1, c2, c3, c4, c5, c6, c7, c8, c9, c10, c11, c12, c13, c14⟩ := HTL.out _ hz; go_simp <;> rfl) hbd ?_
  try simp only [List.getElem_toArray, List.getElem_cons_succ, List.getElem_cons_zero, Act.put, List.setIfInBounds_toArray, List.set_cons_zero, List.set_cons_succ]
  refine wpAnyL_take 2 rfl (by kernel_rfl) (by kernel_rfl) (by kernel_rfl) (by kernel_rfl) (fun _ _ _ h => h) (wanted_none rfl) (by intro w' hS'; have hz := hS'; obtain ⟨-, c0, c1, c2, c3, c4, c5, c6, c7, c8, c9, c10, c11, c12, c13, c14⟩ := HTL.out _ hz; go_simp <;> rfl) hbd ?_
  try simp only [List.getElem_toArray, List.getElem_cons_succ, List.getElem_cons_zero, Act.put, List.setIfInBounds_toArray, List.set_cons_zero, List.set_cons_succ]
  refine wpAnyL_take 3 rfl (by kernel_rfl) (by kernel_rfl) (by kernel_rfl) (by kernel_rfl) (fun _ _ _ h => h) (wanted_none rfl) (by intro w' hS'; have hz := hS'; obtain ⟨-, c0, c1, c2, c3, c4, c5, c6, c7, c8, c9, c10, c11, c12, c13, c14⟩ := HTL.out _ hz; go_simp <;> rfl) hbd ?_
  try simp only [List.getElem_toArray, List.getElem_cons_succ, List.getElem_cons_zero, Act.put, List.setIfInBounds_toArray, List.set_cons_zero, List.set_cons_succ]
  refine wpAnyL_take 4 rfl (by kernel_rfl) (by kernel_rfl) (by kernel_rfl) (by kernel_rfl) (fun _ _ _ h => h) (wanted_none rfl) (by intro w' hS'; have hz := hS'; obtain ⟨-, c0, c1, c2, c3, c4, c5, c6, c7, c8, c9, c10, c11, c12, c13, c14⟩ := HTL.out _ hz; go_simp <;> rfl) hbd ?_
  try simp only [List.getElem_toArray, List.getElem_cons_succ, List.getElem_cons_zero, Act.put, List.setIfInBounds_toArray, List.set_cons_zero, List.set_cons_succ]
  refine wpAnyL_take 5 rfl (by kernel_rfl) (by kernel_rfl) (by kernel_rfl) (by kernel_rfl) (fun _ _ _ h => h) (wanted_none rfl) (by intro w' hS'; have hz := hS'; obtain ⟨-, c0, c1, c2, c3, c4, c5, c6, c7, c8, c9, c10, c11, c12, c13, c14⟩ := HTL.out _ hz; go_simp <;> rfl) hbd ?_
  try simp only [List.getElem_toArray, List.getElem_cons_succ, List.getElem_cons_zero, Act.put, List.setIfInBounds_toArray, List.set_cons_zero, List.set_cons_succ]
  refine wpAnyL_take 6 rfl (by kernel_rfl) (by kernel_rfl) (by kernel_rfl) (by kernel_rfl) (fun _ _ _ h => h) (wanted_none rfl) (by intro w' hS'; have hz := hS'; obtain ⟨-, c0, c1, c2, c3, c4, c5, c6, c7, c8, c9, c10, c11, c12, c13, c14⟩ := HTL.out _ hz; go_simp <;> rfl) hbd ?_
  try simp only [List.getElem_toArray, List.getElem_cons_succ, List.getElem_cons_zero, Act.put, List.setIfInBounds_toArray, List.set_cons_zero, List.set_cons_succ]
  refine wpAnyL_take 7 rfl (by kernel_rfl) (by kernel_rfl) (by kernel_rfl) (by kernel_rfl) (fun _ _ _ h => h) (wanted_none rfl) (by intro w' hS'; have hz := hS'; obtain ⟨-, c0, c1, c2, c3, c4, c5, c6, c7, c8, c9, c10, c11, c12, c13, c14⟩ := HTL.out _ hz; go_simp <;> rfl) hbd ?_
  try simp only [List.getElem_toArray, List.getElem_cons_succ, List.getElem_cons_zero, Act.put, List.setIfInBounds_toArray, List.set_cons_zero, List.set_cons_succ]
  refine wpAnyL_take 8 rfl (by kernel_rfl) (by kernel_rfl) (by kernel_rfl) (by kernel_rfl) (fun _ _ _ h => h) (wanted_none rfl) (by intro w' hS'; have hz := hS'; obtain ⟨-, c0, c1, c2, c3, c4, c5, c6, c7, c8, c9, c10, c11, c12, c13, c14⟩ := HTL.out _ hz; go_simp <;> rfl) hbd ?_
  try simp only [List.getElem_toArray, List.getElem_cons_succ, List.getElem_cons_zero, Act.put, List.setIfInBounds_toArray, List.set_cons_zero, List.set_cons_succ]
  refine wpAnyL_take 9 rfl (by kernel_rfl) (by kernel_rfl) (by kernel_rfl) (by kernel_rfl) (fun _ _ _ h => h) (wanted_none rfl) (by intro w' hS'; have hz := hS'; obtain ⟨-, c0, c1, c2, c3, c4, c5, c6, c7, c8, c9, c10, c11, c12, c13, c14⟩ := HTL.out _ hz; go_simp <;> rfl) hbd ?_
  try simp only [List.getElem_toArray, List.getElem_cons_succ, List.getElem_cons_zero, Act.put, List.setIfInBounds_toArray, List.set_cons_zero, List.set_cons_succ]
  refine wpAnyL_two 10 14 (by kernel_rfl) rfl rfl (by kernel_rfl) (by kernel_rfl) ?_ ?_
  · intro K' hK'
    go_simp
    go_at_call 100
    have ka := HKA.out wd hbd
    refine ka.mono ?_
    rintro e w3 ⟨⟨v3, rfl, hLC⟩, hb3⟩
    have hS3 : (fun W => Below w.heap.size w W) w3 := Below.trans hbd (Below.mono hb3 (Below.size hbd))
    obtain ⟨⟨b2a, b2n, b2c⟩, cur, stv, rfl, hCD, hCp⟩ := hLC
    obtain ⟨l2a, l2c, rfl, -, -⟩ := hCp.1.1.rd.shape
    dsimp only [lgv]
    clear ka
    refine hK'.out _ _ (.inr hS3) ?_
    clear hK' K'
    try simp only [List.getElem_toArray, List.getElem_cons_succ, List.getElem_cons_zero, Act.put, List.setIfInBounds_toArray, List.set_cons_zero, List.set_cons_succ]
    refine wpAnyL_take 11 rfl (by kernel_rfl) (by kernel_rfl) (by kernel_rfl) (by kernel_rfl) (fun _ _ _ h => h) (wanted_none rfl) (by intro w' hS'; have hz := hS'; obtain ⟨-, c0, c1, c2, c3, c4, c5, c6, c7, c8, c9, c10, c11, c12, c13, c14⟩ := HTL.out _ hz; go_simp <;> rfl) hS3 ?_
    try simp only [List.getElem_toArray, List.getElem_cons_succ, List.getElem_cons_zero, Act.put, List.setIfInBounds_toArray, List.set_cons_zero, List.set_cons_succ]
    refine wpAnyL_take 12 rfl (by kernel_rfl) (by kernel_rfl) (by kernel_rfl) (by kernel_rfl) (fun _ _ _ h => h) (wanted_none rfl) (by intro w' hS'; have hz := hS'; obtain ⟨-, c0, c1, c2, c3, c4, c5, c6, c7, c8, c9, c10, c11, c12, c13, c14⟩ := HTL.out _ hz; go_simp <;> rfl) hS3 ?_
    try simp only [List.getElem_toArray, List.getElem_cons_succ, List.getElem_cons_zero, Act.put, List.setIfInBounds_toArray, List.set_cons_zero, List.set_cons_succ]
    refine wpAnyL_take 13 rfl (by kernel_rfl) (by kernel_rfl) (by kernel_rfl) (by kernel_rfl) (fun _ _ _ h => h) (wanted_none rfl) (by intro w' hS'; have hz := hS'; obtain ⟨-, c0, c1, c2, c3, c4, c5, c6, c7, c8, c9, c10, c11, c12, c13, c14⟩ := HTL.out _ hz; go_simp <;> rfl) hS3 ?_
    try simp only [List.getElem_toArray, List.getElem_cons_succ, List.getElem_cons_zero, Act.put, List.setIfInBounds_toArray, List.set_cons_zero, List.set_cons_succ]
    refine wpAnyL_one 14 (by kernel_rfl) rfl (wanted_none rfl) ?_
    intro K' hK'
    go_simp
    have hSz : (fun W => Below w.heap.size w W) (w3.alloc (.cells #[.int .u64 0, .int .u64 0, .int .i64 0, .slice none 0 0, .slice none 0 0] 28)) := Below.alloc hS3 hS3.size _
    have hq : (w3.alloc (.cells #[.int .u64 0, .int .u64 0, .int .i64 0, .slice none 0 0, .slice none 0 0] 28)).heap[w3.heap.size]? = _ := heap_alloc_new _ _
    have hbz : Below w3.heap.size w3 (w3.alloc (.cells #[.int .u64 0, .int .u64 0, .int .i64 0, .slice none 0 0, .slice none 0 0] 28)) := (Below.refl _ _).alloc (Nat.le_refl _) _
    have hCD := hCD.below hbz
    have hCp := hCp.below hbz
    refine hK'.out _ _ (.inr hSz) ?_
    clear hK' K'
    try simp only [List.getElem_toArray, List.getElem_cons_succ, List.getElem_cons_zero, Act.put, List.setIfInBounds_toArray, List.set_cons_zero, List.set_cons_succ]
    generalize w3.alloc (.cells #[.int .u64 0, .int .u64 0, .int .i64 0, .slice none 0 0, .slice none 0 0] 28) = w6 at *
    have hSf : (fun W => Below w.heap.size w W) (w6.setRow (w3.heap.size) #[.int .u64 (M2.idx : Int), .int .u64 (M2.term : Int), .int .i64 M2.kind, .slice b2a b2n b2c, .slice l2a cur.length l2c]) := below_row hSz (by first | exact hS3.size | exact hbd.size) _
    have HF := setRow_heap _ _ _ #[.int .u64 (M2.idx : Int), .int .u64 (M2.term : Int), .int .i64 M2.kind, .slice b2a b2n b2c, .slice l2a cur.length l2c] _ _ hq
    have frf := Frm.row (n := 0) (Nat.zero_le _) hq #[.int .u64 (M2.idx : Int), .int .u64 (M2.term : Int), .int .i64 M2.kind, .slice b2a b2n b2c, .slice l2a cur.length l2c]
    have hLf : LogC 0 (w6.setRow (w3.heap.size) #[.int .u64 (M2.idx : Int), .int .u64 (M2.term : Int), .int .i64 M2.kind, .slice b2a b2n b2c, .slice l2a cur.length l2c]) (lgv (M2, b2a, b2n, b2c) (.slice l2a cur.length l2c)) M2 l2 := ⟨(b2a, b2n, b2c), cur, _, rfl, hCD.frm frf (by decide), hCp.frm frf (by decide) (by decide)⟩
    have hgw : w.heap.size ≤ w3.heap.size := by first | exact hS3.size | exact hbd.size
    refine wpAnyL_one 15 (by kernel_rfl) rfl (wanted_none rfl) ?_
    intro K' hK'
    refine wp_store_row 28 _ _ rfl (w3.heap.size) #[.int .u64 (M2.idx : Int), .int .u64 (M2.term : Int), .int .i64 M2.kind, .slice b2a b2n b2c, .slice l2a cur.length l2c] rfl rfl _ _ hq (by kernel_rfl) rfl (by simp [Value.oneCell']) ?_
    refine hK'.out _ _ (.inr hSf) ?_
    clear hK' K'
    try simp only [List.getElem_toArray, List.getElem_cons_succ, List.getElem_cons_zero, Act.put, List.setIfInBounds_toArray, List.set_cons_zero, List.set_cons_succ]
    refine wpAnyL_take 16 rfl (by kernel_rfl) (by kernel_rfl) (by kernel_rfl) (by kernel_rfl) (fun _ _ _ h => h) (wanted_none rfl) (by intro w' hS'; have hz := hS'; obtain ⟨-, c0, c1, c2, c3, c4, c5, c6, c7, c8, c9, c10, c11, c12, c13, c14⟩ := HTL.out _ hz; go_simp <;> rfl) hSf ?_
    try simp only [List.getElem_toArray, List.getElem_cons_succ, List.getElem_cons_zero, Act.put, List.setIfInBounds_toArray, List.set_cons_zero, List.set_cons_succ]
    refine wpAnyL_done (by kernel_rfl) (NoPanic.normal ?_) _
    generalize w6.setRow (w3.heap.size) #[.int .u64 (M2.idx : Int), .int .u64 (M2.term : Int), .int .i64 M2.kind, .slice b2a b2n b2c, .slice l2a cur.length l2c] = w7 at *
    generalize w3.heap.size = gq at *
    have hb7 : Below w.heap.size w w7 := hSf
    clear hCD hCp hSz hSf hq frf HTL
    have T7 := (hb7.block t htl).trans hT
    obtain ⟨⟨f0, f1, f2, f3, f4, f5, f6, f7, f8, f9, f10, f11, f12, f13, f14⟩, o0, o1, o2, o3, o4, o5, o6, o7, o8, o9, o10, o11, o12, o13, o14⟩ := r15_cells T7
    obtain ⟨-, e0, e1, e2, e3, e4⟩ := lg_cells HF
    by_cases hc : c = 0
    · have HSE : Hid (_ = _) := HLE.out.trans (if_pos hc)
      subst hc
      have hmy2 := HMY.out rfl
      have hR1 : Hid (TuR w0 K w ((((w7.setCell ⟨t, 9, none⟩ (.int .i64 2)).setCell ⟨t, 10, none⟩ (.int .i64 nd)).setCell ⟨t, 12, none⟩ (.slice none 0 0)).setCell ⟨t, 11, none⟩ (.int .i64 0)) t [82] ⟨⟨nd, tm, vo, ⟨bi, bt, bk, bd⟩, lg, cm, 2, nd, 0, [], []⟩, so⟩) := by
        have h7 := tu_store (s := ⟨⟨nd, tm, vo, ⟨bi, bt, bk, bd⟩, lg, cm, 2, nd, 0, [], []⟩, so⟩) (K := K) (w' := (((w7.setCell ⟨t, 9, none⟩ (.int .i64 2)).setCell ⟨t, 10, none⟩ (.int .i64 nd)).setCell ⟨t, 12, none⟩ (.slice none 0 0)).setCell ⟨t, 11, none⟩ (.int .i64 0)) (z := ⟨⟨nd, tm, vo, ⟨bi, bt, bk, bd⟩, lg, cm, 2, nd, 0, [], []⟩, zs, (ba, bn, bc), (la, ln, lc), (none, 0, 0), (pa, pn, pc)⟩) (gs := gs) (os := (oa, on, oc)) ht0 T7 (fun b hb => (set_far (Ne.symm hb) _).trans ((set_far (Ne.symm hb) _).trans ((set_far (Ne.symm hb) _).trans (set_far (Ne.symm hb) _)))) (by simp [World.setCell]) (((((hb0.trans (hb7.mono hb0.size)).setCell (p := ⟨t, 9, none⟩) ht0 (.int .i64 2)).setCell (p := ⟨t, 10, none⟩) ht0 (.int .i64 nd)).setCell (p := ⟨t, 12, none⟩) ht0 (.slice none 0 0)).setCell (p := ⟨t, 11, none⟩) ht0 (.int .i64 0)) (by simp [World.setCell, Array.getElem?_modify, T7, tc]) ⟨HP.out.1.below hb7, HP.out.2.1.below hb7, Ow.nil _ _ _ _, HP.out.2.2.2.1.below hb7, HP.out.2.2.2.2.1.below hb7, fun g hg => (HP.out.2.2.2.2.2 g hg).below hb7⟩ rfl HOO.out (fun x hx => ⟨(hb7.block x.1 (Array.getElem?_eq_some_iff.1 (HKK.out x hx).1).1).trans (HKK.out x hx).1, (HKK.out x hx).2⟩)
        exact ⟨h7.1, (Frm.of_below _ hb7 hb0.size).trans h7.2.1, Nat.le_trans hb7.size h7.2.2⟩
      have hL1 : LogC 0 ((((w7.setCell ⟨t, 9, none⟩ (.int .i64 2)).setCell ⟨t, 10, none⟩ (.int .i64 nd)).setCell ⟨t, 12, none⟩ (.slice none 0 0)).setCell ⟨t, 11, none⟩ (.int .i64 0)) (lgv (M2, b2a, b2n, b2c) (.slice l2a cur.length l2c)) M2 l2 := by
        obtain ⟨s', cur', st', q1, q2, q3⟩ := hLf
        have h8 := tu_frm (w' := (((w7.setCell ⟨t, 9, none⟩ (.int .i64 2)).setCell ⟨t, 10, none⟩ (.int .i64 nd)).setCell ⟨t, 12, none⟩ (.slice none 0 0)).setCell ⟨t, 11, none⟩ (.int .i64 0)) T7 (fun b hb => (set_far (Ne.symm hb) _).trans ((set_far (Ne.symm hb) _).trans ((set_far (Ne.symm hb) _).trans (set_far (Ne.symm hb) _))))
        exact ⟨s', cur', st', q1, q2.frm h8 (by decide), q3.frm h8 (by decide) (by decide)⟩
      have kg := grow_of w0 K _ t _ M2 l2 _ hR1.out.1 hL1 hmy2 HOK.out.1 HOK.out.2 (by simp) (by simp) (by simp) hol
      rw [← HSE.out] at kg
      dsimp only [lgv] at kg
      clear HP HKK hLf hL1 HLE HSE
      go_wp2_with fail
      refine kg.mono ?_
      rintro e w9 ⟨rfl, hR9⟩
      have HR9 : Hid _ := (hR1.out.mono (T' := [82, 34]) (by simp)).trans hR9
      clear kg hR9 hR1
      go_wp2
      go_end0
      exact ⟨rfl, HR9.out⟩
    · have HSE : Hid (_ = _) := HLE.out.trans (if_neg hc)
      have hcb : (c != 0) = true := by simpa using hc
      have HR9 : Hid (TuR w0 K w w7 t [82, 34] _) := TuR.of_below _ HS0.out hb7
      clear HP HKK hLf HLE
      go_wp2
      (try simp only [Exit.inBlock, Exit.then])
      refine bodyPost_ret (results_none rfl _ _ _) rfl ?_
      exact ⟨rfl, by rw [HSE.out]; exact HR9.out⟩
  · intro K' hK'
    go_simp
    have hSa : (fun W => Below w.heap.size w W) (wd.alloc (.cells #[.int .u64 0, .int .u64 0, .int .i64 0, .slice none 0 0, .slice none 0 0] 28)) := Below.alloc hbd hbd.size _
    have hqa : (wd.alloc (.cells #[.int .u64 0, .int .u64 0, .int .i64 0, .slice none 0 0, .slice none 0 0] 28)).heap[wd.heap.size]? = _ := heap_alloc_new _ _
    have hgl0 : wd.heap.size < (wd.alloc (.cells #[.int .u64 0, .int .u64 0, .int .i64 0, .slice none 0 0, .slice none 0 0] 28)).heap.size := by simp
    refine hK'.out _ _ (.inr hSa) ?_
    clear hK' K'
    try simp only [List.getElem_toArray, List.getElem_cons_succ, List.getElem_cons_zero, Act.put, List.setIfInBounds_toArray, List.set_cons_zero, List.set_cons_succ]
    generalize wd.alloc (.cells #[.int .u64 0, .int .u64 0, .int .i64 0, .slice none 0 0, .slice none 0 0] 28) = wa at *
    refine wpAnyL_one 10 (by kernel_rfl) rfl (wanted_none rfl) ?_
    intro K' hK'
    go_simp
    go_at_call 100
    have ka := HKA.out wa hSa
    refine ka.mono ?_
    rintro e w3 ⟨⟨v3, rfl, hLC⟩, hb3⟩
    have hS3 : (fun W => Below w.heap.size w W) w3 := Below.trans hSa (Below.mono hb3 (Below.size hSa))
    obtain ⟨⟨b2a, b2n, b2c⟩, cur, stv, rfl, hCD, hCp⟩ := hLC
    obtain ⟨l2a, l2c, rfl, -, -⟩ := hCp.1.1.rd.shape
    dsimp only [lgv]
    clear ka
    refine hK'.out _ _ (.inr hS3) ?_
    clear hK' K'
    try simp only [List.getElem_toArray, List.getElem_cons_succ, List.getElem_cons_zero, Act.put, List.setIfInBounds_toArray, List.set_cons_zero, List.set_cons_succ]
    refine wpAnyL_take 11 rfl (by kernel_rfl) (by kernel_rfl) (by kernel_rfl) (by kernel_rfl) (fun _ _ _ h => h) (wanted_none rfl) (by intro w' hS'; have hz := hS'; obtain ⟨-, c0, c1, c2, c3, c4, c5, c6, c7, c8, c9, c10, c11, c12, c13, c14⟩ := HTL.out _ hz; go_simp <;> rfl) hS3 ?_
    try simp only [List.getElem_toArray, List.getElem_cons_succ, List.getElem_cons_zero, Act.put, List.setIfInBounds_toArray, List.set_cons_zero, List.set_cons_succ]
    refine wpAnyL_take 12 rfl (by kernel_rfl) (by kernel_rfl) (by kernel_rfl) (by kernel_rfl) (fun _ _ _ h => h) (wanted_none rfl) (by intro w' hS'; have hz := hS'; obtain ⟨-, c0, c1, c2, c3, c4, c5, c6, c7, c8, c9, c10, c11, c12, c13, c14⟩ := HTL.out _ hz; go_simp <;> rfl) hS3 ?_
    try simp only [List.getElem_toArray, List.getElem_cons_succ, List.getElem_cons_zero, Act.put, List.setIfInBounds_toArray, List.set_cons_zero, List.set_cons_succ]
    refine wpAnyL_take 13 rfl (by kernel_rfl) (by kernel_rfl) (by kernel_rfl) (by kernel_rfl) (fun _ _ _ h => h) (wanted_none rfl) (by intro w' hS'; have hz := hS'; obtain ⟨-, c0, c1, c2, c3, c4, c5, c6, c7, c8, c9, c10, c11, c12, c13, c14⟩ := HTL.out _ hz; go_simp <;> rfl) hS3 ?_
    try simp only [List.getElem_toArray, List.getElem_cons_succ, List.getElem_cons_zero, Act.put, List.setIfInBounds_toArray, List.set_cons_zero, List.set_cons_succ]
    have hq := (hb3.block wd.heap.size hgl0).trans hqa
    have hSz := hS3
    have hSf : (fun W => Below w.heap.size w W) (w3.setRow (wd.heap.size) #[.int .u64 (M2.idx : Int), .int .u64 (M2.term : Int), .int .i64 M2.kind, .slice b2a b2n b2c, .slice l2a cur.length l2c]) := below_row hSz (by first | exact hS3.size | exact hbd.size) _
    have HF := setRow_heap _ _ _ #[.int .u64 (M2.idx : Int), .int .u64 (M2.term : Int), .int .i64 M2.kind, .slice b2a b2n b2c, .slice l2a cur.length l2c] _ _ hq
    have frf := Frm.row (n := 0) (Nat.zero_le _) hq #[.int .u64 (M2.idx : Int), .int .u64 (M2.term : Int), .int .i64 M2.kind, .slice b2a b2n b2c, .slice l2a cur.length l2c]
    have hLf : LogC 0 (w3.setRow (wd.heap.size) #[.int .u64 (M2.idx : Int), .int .u64 (M2.term : Int), .int .i64 M2.kind, .slice b2a b2n b2c, .slice l2a cur.length l2c]) (lgv (M2, b2a, b2n, b2c) (.slice l2a cur.length l2c)) M2 l2 := ⟨(b2a, b2n, b2c), cur, _, rfl, hCD.frm frf (by decide), hCp.frm frf (by decide) (by decide)⟩
    have hgw : w.heap.size ≤ wd.heap.size := by first | exact hS3.size | exact hbd.size
    refine wpAnyL_one 15 (by kernel_rfl) rfl (wanted_none rfl) ?_
    intro K' hK'
    refine wp_store_row 28 _ _ rfl (wd.heap.size) #[.int .u64 (M2.idx : Int), .int .u64 (M2.term : Int), .int .i64 M2.kind, .slice b2a b2n b2c, .slice l2a cur.length l2c] rfl rfl _ _ hq (by kernel_rfl) rfl (by simp [Value.oneCell']) ?_
    refine hK'.out _ _ (.inr hSf) ?_
    clear hK' K'
    try simp only [List.getElem_toArray, List.getElem_cons_succ, List.getElem_cons_zero, Act.put, List.setIfInBounds_toArray, List.set_cons_zero, List.set_cons_succ]
    refine wpAnyL_take 16 rfl (by kernel_rfl) (by kernel_rfl) (by kernel_rfl) (by kernel_rfl) (fun _ _ _ h => h) (wanted_none rfl) (by intro w' hS'; have hz := hS'; obtain ⟨-, c0, c1, c2, c3, c4, c5, c6, c7, c8, c9, c10, c11, c12, c13, c14⟩ := HTL.out _ hz; go_simp <;> rfl) hSf ?_
    try simp only [List.getElem_toArray, List.getElem_cons_succ, List.getElem_cons_zero, Act.put, List.setIfInBounds_toArray, List.set_cons_zero, List.set_cons_succ]
    refine wpAnyL_done (by kernel_rfl) (NoPanic.normal ?_) _
    generalize w3.setRow (wd.heap.size) #[.int .u64 (M2.idx : Int), .int .u64 (M2.term : Int), .int .i64 M2.kind, .slice b2a b2n b2c, .slice l2a cur.length l2c] = w7 at *
    generalize wd.heap.size = gq at *
    have hb7 : Below w.heap.size w w7 := hSf
    clear hCD hCp hSz hSf hq frf HTL
    have T7 := (hb7.block t htl).trans hT
    obtain ⟨⟨f0, f1, f2, f3, f4, f5, f6, f7, f8, f9, f10, f11, f12, f13, f14⟩, o0, o1, o2, o3, o4, o5, o6, o7, o8, o9, o10, o11, o12, o13, o14⟩ := r15_cells T7
    obtain ⟨-, e0, e1, e2, e3, e4⟩ := lg_cells HF
    by_cases hc : c = 0
    · have HSE : Hid (_ = _) := HLE.out.trans (if_pos hc)
      subst hc
      have hmy2 := HMY.out rfl
      have hR1 : Hid (TuR w0 K w ((((w7.setCell ⟨t, 9, none⟩ (.int .i64 2)).setCell ⟨t, 10, none⟩ (.int .i64 nd)).setCell ⟨t, 12, none⟩ (.slice none 0 0)).setCell ⟨t, 11, none⟩ (.int .i64 0)) t [82] ⟨⟨nd, tm, vo, ⟨bi, bt, bk, bd⟩, lg, cm, 2, nd, 0, [], []⟩, so⟩) := by
        have h7 := tu_store (s := ⟨⟨nd, tm, vo, ⟨bi, bt, bk, bd⟩, lg, cm, 2, nd, 0, [], []⟩, so⟩) (K := K) (w' := (((w7.setCell ⟨t, 9, none⟩ (.int .i64 2)).setCell ⟨t, 10, none⟩ (.int .i64 nd)).setCell ⟨t, 12, none⟩ (.slice none 0 0)).setCell ⟨t, 11, none⟩ (.int .i64 0)) (z := ⟨⟨nd, tm, vo, ⟨bi, bt, bk, bd⟩, lg, cm, 2, nd, 0, [], []⟩, zs, (ba, bn, bc), (la, ln, lc), (none, 0, 0), (pa, pn, pc)⟩) (gs := gs) (os := (oa, on, oc)) ht0 T7 (fun b hb => (set_far (Ne.symm hb) _).trans ((set_far (Ne.symm hb) _).trans ((set_far (Ne.symm hb) _).trans (set_far (Ne.symm hb) _)))) (by simp [World.setCell]) (((((hb0.trans (hb7.mono hb0.size)).setCell (p := ⟨t, 9, none⟩) ht0 (.int .i64 2)).setCell (p := ⟨t, 10, none⟩) ht0 (.int .i64 nd)).setCell (p := ⟨t, 12, none⟩) ht0 (.slice none 0 0)).setCell (p := ⟨t, 11, none⟩) ht0 (.int .i64 0)) (by simp [World.setCell, Array.getElem?_modify, T7, tc]) ⟨HP.out.1.below hb7, HP.out.2.1.below hb7, Ow.nil _ _ _ _, HP.out.2.2.2.1.below hb7, HP.out.2.2.2.2.1.below hb7, fun g hg => (HP.out.2.2.2.2.2 g hg).below hb7⟩ rfl HOO.out (fun x hx => ⟨(hb7.block x.1 (Array.getElem?_eq_some_iff.1 (HKK.out x hx).1).1).trans (HKK.out x hx).1, (HKK.out x hx).2⟩)
        exact ⟨h7.1, (Frm.of_below _ hb7 hb0.size).trans h7.2.1, Nat.le_trans hb7.size h7.2.2⟩
      have hL1 : LogC 0 ((((w7.setCell ⟨t, 9, none⟩ (.int .i64 2)).setCell ⟨t, 10, none⟩ (.int .i64 nd)).setCell ⟨t, 12, none⟩ (.slice none 0 0)).setCell ⟨t, 11, none⟩ (.int .i64 0)) (lgv (M2, b2a, b2n, b2c) (.slice l2a cur.length l2c)) M2 l2 := by
        obtain ⟨s', cur', st', q1, q2, q3⟩ := hLf
        have h8 := tu_frm (w' := (((w7.setCell ⟨t, 9, none⟩ (.int .i64 2)).setCell ⟨t, 10, none⟩ (.int .i64 nd)).setCell ⟨t, 12, none⟩ (.slice none 0 0)).setCell ⟨t, 11, none⟩ (.int .i64 0)) T7 (fun b hb => (set_far (Ne.symm hb) _).trans ((set_far (Ne.symm hb) _).trans ((set_far (Ne.symm hb) _).trans (set_far (Ne.symm hb) _))))
        exact ⟨s', cur', st', q1, q2.frm h8 (by decide), q3.frm h8 (by decide) (by decide)⟩
      have kg := grow_of w0 K _ t _ M2 l2 _ hR1.out.1 hL1 hmy2 HOK.out.1 HOK.out.2 (by simp) (by simp) (by simp) hol
      rw [← HSE.out] at kg
      dsimp only [lgv] at kg
      clear HP HKK hLf hL1 HLE HSE
      go_wp2_with fail
      refine kg.mono ?_
      rintro e w9 ⟨rfl, hR9⟩
      have HR9 : Hid _ := (hR1.out.mono (T' := [82, 34]) (by simp)).trans hR9
      clear kg hR9 hR1
      go_wp2
      go_end0
      exact ⟨rfl, HR9.out⟩
    · have HSE : Hid (_ = _) := HLE.out.trans (if_neg hc)
      have hcb : (c != 0) = true := by simpa using hc
      have HR9 : Hid (TuR w0 K w w7 t [82, 34] _) := TuR.of_below _ HS0.out hb7
      clear HP HKK hLf HLE
      go_wp2
      (try simp only [Exit.inBlock, Exit.then])
      refine bodyPost_ret (results_none rfl _ _ _) rfl ?_
      exact ⟨rfl, by rw [HSE.out]; exact HR9.out⟩
end Go.Proofs.YtncoandnelgkeaaGreat

