import Derived.Test.YtncoandnelgkeaaGreatHc30
import Derived.Test.YtncoandnelgkeaaGreatHc31
import Derived.Test.YtncoandnelgkeaaGreatHc32
import Derived.Test.YtncoandnelgkeaaGreatHc27
import Derived.Test.YtncoandnelgkeaaGreatHc29
/- The program's small methods of a turn: won, isVoter, commit, follow, last, peer. -/
namespace Go.Proofs.YtncoandnelgkeaaGreat
open Go.RowKit QuorumMath RlogMath RaftMath
set_option maxRecDepth 100000
set_option linter.unusedSimpArgs false
set_option linter.unusedVariables false

/-- Fields of the turn are stored. -/
theorem tu_store {w0 w w' : World} {K : List (Nat × Obj)} {t : Nat} {cs : Array Value} {z : Rz} {gs : List Gz} {os : Sl} {s : Ms} (ht0 : w0.heap.size ≤ t) (hT : w.heap[t]? = some (.cells cs 82 (0, 0))) (hw : ∀ b, b ≠ t → w'.heap[b]? = w.heap[b]?) (hsz : w.heap.size ≤ w'.heap.size) (hb : Below w0.heap.size w0 w') (hT' : w'.heap[t]? = some (tc z os)) (hP : TuP w0.heap.size w z gs os) (hr : z.r = s.r) (ho : (gs.map fun g => g.m) = s.out) (hK : ∀ x ∈ K, w.heap[x.1]? = some x.2 ∧ x.1 ≠ t ∧ (slv os).ownBlock ≠ some x.1) : TuR w0 K w w' t [82] s := by
  have hf : Frm w0.heap.size [82] w w' := ⟨fun b hb => hw b (by omega), fun b cs' τ fr hc hτ => hw b fun e => by
    subst e
    rw [hT] at hc
    simp only [Option.some.injEq, Obj.cells.injEq] at hc
    exact hτ (by rw [← hc.2.1]; exact List.mem_singleton.2 rfl)⟩
  exact ⟨⟨hb, ht0, z, gs, os, hT', hr, hP.frm hf (by decide), ho, TuAt.kset hK hw rfl⟩, hf, hsz⟩
theorem set1 {w : World} {t : Nat} (i : Nat) (u : Value) : ∀ b, b ≠ t → (w.setCell ⟨t, i, none⟩ u).heap[b]? = w.heap[b]? := fun b hb => set_far (Ne.symm hb) u
set_option maxHeartbeats 4000000 in
theorem pwon_of (w0 : World) (K : List (Nat × Obj)) (w : World) (t : Nat) (s : Ms) (hS : TuAt w0 K w t s) (hm : mayB s.r.base s.r.log = true) (hbo : OkM s.r.base) (hlo : ∀ e ∈ s.r.log, OkM e) (hvt : s.r.votes.length ≤ 1000000) : Calls Tryz.prog 122 #[.pointer (some ⟨t, 0, none⟩)] w fun e w' => e = .returned (.bool (wonR (votR s.r) s.r.votes)) ∧ Below w.heap.size w w' := by
  obtain ⟨hb0, ht0, z, gs, os, hT, hz, hP, ho, hKp⟩ := hS
  obtain ⟨r, zs, ⟨ba, bn, bc⟩, ⟨la, ln, lc⟩, ⟨va, vn, vc⟩, ⟨pa, pn, pc⟩⟩ := z
  obtain ⟨sr, so⟩ := s
  obtain rfl : r = sr := hz
  obtain ⟨nd, tm, vo, ⟨bi, bt, bk, bd⟩, lg, cm, ro, le, el, vt, pe⟩ := r
  obtain ⟨oa, on, oc⟩ := os
  dsimp only at *
  dsimp only [tc] at hT
  have htl : t < w.heap.size := (Array.getElem?_eq_some_iff.1 hT).1
  have hml : mes zs = lg := hP.2.1.2.1
  have hzl : zs.length ≤ 1000000 := by have := congrArg List.length hml; rw [List.length_map] at this; have := (may_last hm).2.2; omega
  have hzo := okz_of hml hlo
  have hD : DataV w ((⟨bi, bt, bk, bd⟩, ba, bn, bc) : Ez) := hP.1.data
  have hL : EntsV w (.slice la ln lc) zs := hP.2.1.ents
  have HV : Hid (∀ W, Below w.heap.size w W → _) := fun W hW => pvot_c (⟨bi, bt, bk, bd⟩, ba, bn, bc) zs (.slice la ln lc) W (hD.below hW) (hL.below hW) ⟨hbo.1, hbo.2.1, hbo.2.2.1⟩ (fun z hz => (hzo z hz).1) (by omega) hbo.2.2.2 (fun z hz => (hzo z hz).2)
  rw [hml] at HV
  dsimp only [lgv] at HV
  have hvl : (votM ⟨bi, bt, bk, bd⟩ lg).length ≤ 7 := may_vlen hm
  dsimp only [votR]
  have HVO : Hid (∀ W, Below w.heap.size w W → Rd intE W (.slice va vn vc) vt) := fun W hW => hP.2.2.1.1.rd.below hW
  have hvtl : vt.length ≤ 1000000000000000 := by omega
  have E : Hid (wonR (votM ⟨bi, bt, bk, bd⟩ lg) vt = wonB (votM ⟨bi, bt, bk, bd⟩ lg) vt) := by show _ = _; unfold wonB wonR; rw [may_vot hm]; rfl
  rw [E.out]
  generalize votM ⟨bi, bt, bk, bd⟩ lg = V at *
  clear hP ho hKp hD hL hzo hml E
  go_enter Tryz.func122, Tryz.ntmps122
  go_wp2
  (try simp only [Exit.inBlock, Exit.then])
  refine wp_region_L (fun W => Below w.heap.size w W) [] (by kernel_rfl) ?_
  have hbd : Below w.heap.size w w.drew := (Below.refl _ w).drew
  have HTL : Hid (∀ W, Below w.heap.size w W → _) := fun W hW => r15_cells ((hW.block t htl).trans hT)
  have kv := HV.out w.drew hbd
  generalize w.drew = wd at *
  refine wpAnyL_take 0 rfl (by kernel_rfl) (by kernel_rfl) (by kernel_rfl) (by kernel_rfl) (fun _ _ _ h => h) (wanted_none rfl) (by intro w' hS'; have hz := hS'; obtain ⟨-, c0, c1, c2, c3, c4, c5, c6, c7, c8, c9, c10, c11, c12, c13, c14⟩ := HTL.out _ hz; go_simp <;> rfl) hbd ?_
  try simp only [List.getElem_toArray, List.getElem_cons_succ, List.getElem_cons_zero, Act.put, List.setIfInBounds_toArray, List.set_cons_zero, List.set_cons_succ]
  refine wpAnyL_take 1 rfl (by kernel_rfl) (by kernel_rfl) (by kernel_rfl) (by kernel_rfl) (fun _ _ _ h => h) (wanted_none rfl) (by intro w' hS'; have hz := hS'; obtain ⟨-, c0, c1, c2, c3, c4, c5, c6, c7, c8, c9, c10, c11, c12, c13, c14⟩ := HTL.out _ hz; go_simp <;> rfl) hbd ?_
  try simp only [List.getElem_toArray, List.getElem_cons_succ, List.getElem_cons_zero, Act.put, List.setIfInBounds_toArray, List.set_cons_zero, List.set_cons_succ]
  refine wpAnyL_take 2 rfl (by kernel_rfl) (by kernel_rfl) (by kernel_rfl) (by kernel_rfl) (fun _ _ _ h => h) (wanted_none rfl) (by intro w' hS'; have hz := hS'; obtain ⟨-, c0, c1, c2, c3, c4, c5, c6, c7, c8, c9, c10, c11, c12, c13, c14⟩ := HTL.out _ hz; go_simp <;> rfl) hbd ?_
  try simp only [List.getElem_toArray, List.getElem_cons_succ, List.getElem_cons_zero, Act.put, List.setIfInBounds_toArray, List.set_cons_zero, List.set_cons_succ]
  refine wpAnyL_take 3 rfl (by kernel_rfl) (by kernel_rfl) (by kernel_rfl) (by kernel_rfl) (fun _ _ _ h => h) (wanted_none rfl) (by intro w' hS'; have hz := hS'; obtain ⟨-, c0, c1, c2, c3, c4, c5, c6, c7, c8, c9, c10, c11, c12, c13, c14⟩ := HTL.out _ hz; go_simp <;> rfl) hbd ?_
  try simp only [List.getElem_toArray, List.getElem_cons_succ, List.getElem_cons_zero, Act.put, List.setIfInBounds_toArray, List.set_cons_zero, List.set_cons_succ]
  refine wpAnyL_take 4 rfl (by kernel_rfl) (by kernel_rfl) (by kernel_rfl) (by kernel_rfl) (fun _ _ _ h => h) (wanted_none rfl) (by intro w' hS'; have hz := hS'; obtain ⟨-, c0, c1, c2, c3, c4, c5, c6, c7, c8, c9, c10, c11, c12, c13, c14⟩ := HTL.out _ hz; go_simp <;> rfl) hbd ?_
  try simp only [List.getElem_toArray, List.getElem_cons_succ, List.getElem_cons_zero, Act.put, List.setIfInBounds_toArray, List.set_cons_zero, List.set_cons_succ]
  refine wpAnyL_take 6 rfl (by kernel_rfl) (by kernel_rfl) (by kernel_rfl) (by kernel_rfl) (fun _ _ _ h => h) (wanted_none rfl) (by intro w' hS'; have hz := hS'; obtain ⟨-, c0, c1, c2, c3, c4, c5, c6, c7, c8, c9, c10, c11, c12, c13, c14⟩ := HTL.out _ hz; go_simp <;> rfl) hbd ?_
  try simp only [List.getElem_toArray, List.getElem_cons_succ, List.getElem_cons_zero, Act.put, List.setIfInBounds_toArray, List.set_cons_zero, List.set_cons_succ]
  refine wpAnyL_take 7 rfl (by kernel_rfl) (by kernel_rfl) (by kernel_rfl) (by kernel_rfl) (fun _ _ _ h => h) (wanted_none rfl) (by intro w' hS'; have hz := hS'; obtain ⟨-, c0, c1, c2, c3, c4, c5, c6, c7, c8, c9, c10, c11, c12, c13, c14⟩ := HTL.out _ hz; go_simp <;> rfl) hbd ?_
  try simp only [List.getElem_toArray, List.getElem_cons_succ, List.getElem_cons_zero, Act.put, List.setIfInBounds_toArray, List.set_cons_zero, List.set_cons_succ]
  refine wpAnyL_take 8 rfl (by kernel_rfl) (by kernel_rfl) (by kernel_rfl) (by kernel_rfl) (fun _ _ _ h => h) (wanted_none rfl) (by intro w' hS'; have hz := hS'; obtain ⟨-, c0, c1, c2, c3, c4, c5, c6, c7, c8, c9, c10, c11, c12, c13, c14⟩ := HTL.out _ hz; go_simp <;> rfl) hbd ?_
  try simp only [List.getElem_toArray, List.getElem_cons_succ, List.getElem_cons_zero, Act.put, List.setIfInBounds_toArray, List.set_cons_zero, List.set_cons_succ]
  refine wpAnyL_take 9 rfl (by kernel_rfl) (by kernel_rfl) (by kernel_rfl) (by kernel_rfl) (fun _ _ _ h => h) (wanted_none rfl) (by intro w' hS'; have hz := hS'; obtain ⟨-, c0, c1, c2, c3, c4, c5, c6, c7, c8, c9, c10, c11, c12, c13, c14⟩ := HTL.out _ hz; go_simp <;> rfl) hbd ?_
  try simp only [List.getElem_toArray, List.getElem_cons_succ, List.getElem_cons_zero, Act.put, List.setIfInBounds_toArray, List.set_cons_zero, List.set_cons_succ]
  refine wpAnyL_take 10 rfl (by kernel_rfl) (by kernel_rfl) (by kernel_rfl) (by kernel_rfl) (fun _ _ _ h => h) (wanted_none rfl) (by intro w' hS'; have hz := hS'; obtain ⟨-, c0, c1, c2, c3, c4, c5, c6, c7, c8, c9, c10, c11, c12, c13, c14⟩ := HTL.out _ hz; go_simp <;> rfl) hbd ?_
  try simp only [List.getElem_toArray, List.getElem_cons_succ, List.getElem_cons_zero, Act.put, List.setIfInBounds_toArray, List.set_cons_zero, List.set_cons_succ]
  refine wpAnyL_one 5 (by kernel_rfl) rfl (wanted_none rfl) ?_
  intro K' hK'
  go_simp
  go_at_call 103
  refine kv.mono ?_
  rintro e w3 ⟨v3, rfl, hO3, hb3⟩
  have hS3 : (fun W => Below w.heap.size w W) w3 := hbd.trans (hb3.mono hbd.size)
  have hR3 := hO3.1.rd
  obtain ⟨v3a, v3c, rfl, -, -⟩ := hR3.shape
  clear kv
  have kw := won_of V _ vt _ w3 hR3 (HVO.out w3 hS3) (by omega) hvtl
  refine hK'.out _ _ (.inr hS3) ?_
  clear hK' K'
  try simp only [List.getElem_toArray, List.getElem_cons_succ, List.getElem_cons_zero, Act.put, List.setIfInBounds_toArray, List.set_cons_zero, List.set_cons_succ]
  refine wpAnyL_one 11 (by kernel_rfl) rfl (wanted_none rfl) ?_
  intro K' hK'
  go_simp
  go_at_call 144
  refine kw.mono ?_
  rintro e w4 ⟨rfl, hw4⟩
  subst hw4
  clear kw
  refine hK'.out _ _ (.inr hS3) ?_
  clear hK' K'
  try simp only [List.getElem_toArray, List.getElem_cons_succ, List.getElem_cons_zero, Act.put, List.setIfInBounds_toArray, List.set_cons_zero, List.set_cons_succ]
  refine wpAnyL_take 12 rfl (by kernel_rfl) (by kernel_rfl) (by kernel_rfl) (by kernel_rfl) (fun _ _ _ h => h) (wanted_none rfl) (by intro w' hS'; have hz := hS'; obtain ⟨-, c0, c1, c2, c3, c4, c5, c6, c7, c8, c9, c10, c11, c12, c13, c14⟩ := HTL.out _ hz; go_simp <;> rfl) hS3 ?_
  try simp only [List.getElem_toArray, List.getElem_cons_succ, List.getElem_cons_zero, Act.put, List.setIfInBounds_toArray, List.set_cons_zero, List.set_cons_succ]
  refine wpAnyL_done (by kernel_rfl) (NoPanic.normal ?_) _
  go_wp2
  go_ret
  exact ⟨rfl, hS3⟩
set_option maxHeartbeats 4000000 in
theorem isVoter_of (w0 : World) (K : List (Nat × Obj)) (w : World) (t : Nat) (s : Ms) (x : Int) (hS : TuAt w0 K w t s) (hm : mayB s.r.base s.r.log = true) (hbo : OkM s.r.base) (hlo : ∀ e ∈ s.r.log, OkM e) : Calls Tryz.prog 90 #[.pointer (some ⟨t, 0, none⟩), .int .i64 x] w fun e w' => e = .returned (.bool (decide (x ∈ votR s.r))) ∧ Below w.heap.size w w' := by
  obtain ⟨hb0, ht0, z, gs, os, hT, hz, hP, ho, hKp⟩ := hS
  obtain ⟨r, zs, ⟨ba, bn, bc⟩, ⟨la, ln, lc⟩, ⟨va, vn, vc⟩, ⟨pa, pn, pc⟩⟩ := z
  obtain ⟨sr, so⟩ := s
  obtain rfl : r = sr := hz
  obtain ⟨nd, tm, vo, ⟨bi, bt, bk, bd⟩, lg, cm, ro, le, el, vt, pe⟩ := r
  obtain ⟨oa, on, oc⟩ := os
  dsimp only at *
  dsimp only [tc] at hT
  have htl : t < w.heap.size := (Array.getElem?_eq_some_iff.1 hT).1
  have hml : mes zs = lg := hP.2.1.2.1
  have hzl : zs.length ≤ 1000000 := by have := congrArg List.length hml; rw [List.length_map] at this; have := (may_last hm).2.2; omega
  have hzo := okz_of hml hlo
  have hD : DataV w ((⟨bi, bt, bk, bd⟩, ba, bn, bc) : Ez) := hP.1.data
  have hL : EntsV w (.slice la ln lc) zs := hP.2.1.ents
  have HV : Hid (∀ W, Below w.heap.size w W → _) := fun W hW => pvot_c (⟨bi, bt, bk, bd⟩, ba, bn, bc) zs (.slice la ln lc) W (hD.below hW) (hL.below hW) ⟨hbo.1, hbo.2.1, hbo.2.2.1⟩ (fun z hz => (hzo z hz).1) (by omega) hbo.2.2.2 (fun z hz => (hzo z hz).2)
  rw [hml] at HV
  dsimp only [lgv] at HV
  have hvl : (votM ⟨bi, bt, bk, bd⟩ lg).length ≤ 7 := may_vlen hm
  dsimp only [votR]
  have kv := HV.out w (Below.refl _ _)
  obtain ⟨-, o0, o1, o2, o3, o4, o5, o6, o7, o8, o9, o10, o11, o12, o13, o14⟩ := r15_cells hT
  clear hP ho hKp hD hL hzo hml HV
  go_enter Tryz.func90, Tryz.ntmps90
  go_wp2_with fail
  refine kv.mono ?_
  rintro e w3 ⟨v3, rfl, hO3, hb3⟩
  have kc := contains_of _ v3 x w3 hO3.1.rd (by omega)
  obtain ⟨v3a, v3c, rfl, -, -⟩ := hO3.1.rd.shape
  clear kv hO3 o0 o1 o2 o3 o4 o5 o6 o7 o8 o9 o10 o11 o12 o13 o14
  go_wp2_with fail
  refine kc.mono ?_
  rintro e w4 ⟨rfl, hw4⟩
  subst hw4
  clear kc
  go_wp2
  go_ret
  exact ⟨rfl, hb3⟩
set_option maxHeartbeats 4000000 in
theorem pfol_of (w0 : World) (K : List (Nat × Obj)) (w : World) (t : Nat) (s : Ms) (T : Nat) (hS : TuAt w0 K w t s) : Calls Tryz.prog 95 #[.pointer (some ⟨t, 0, none⟩), .int .u64 (T : Int)] w fun e w' => e = .returned (.tuple #[]) ∧ TuR w0 K w w' t [82] (folR s T) := by
  obtain ⟨hb0, ht0, z, gs, os, hT, hz, hP, ho, hKp⟩ := hS
  obtain ⟨r, zs, ⟨ba, bn, bc⟩, ⟨la, ln, lc⟩, ⟨va, vn, vc⟩, ⟨pa, pn, pc⟩⟩ := z
  obtain ⟨sr, so⟩ := s
  obtain rfl : r = sr := hz
  obtain ⟨nd, tm, vo, ⟨bi, bt, bk, bd⟩, lg, cm, ro, le, el, vt, pe⟩ := r
  obtain ⟨oa, on, oc⟩ := os
  dsimp only at *
  dsimp only [tc] at hT
  have htl : t < w.heap.size := (Array.getElem?_eq_some_iff.1 hT).1
  obtain ⟨⟨f0, f1, f2, f3, f4, f5, f6, f7, f8, f9, f10, f11, f12, f13, f14⟩, o0, o1, o2, o3, o4, o5, o6, o7, o8, o9, o10, o11, o12, o13, o14⟩ := r15_cells hT
  have hfin : Hid (TuR w0 K w ((((((w.setCell ⟨t, 1, none⟩ (.int .u64 (T : Int))).setCell ⟨t, 2, none⟩ (.int .i64 0)).setCell ⟨t, 9, none⟩ (.int .i64 0)).setCell ⟨t, 10, none⟩ (.int .i64 0)).setCell ⟨t, 12, none⟩ (.slice none 0 0)).setCell ⟨t, 13, none⟩ (.slice none 0 0)) t [82] (folR ⟨⟨nd, tm, vo, ⟨bi, bt, bk, bd⟩, lg, cm, ro, le, el, vt, pe⟩, so⟩ T)) := by
    refine tu_store (z := ⟨⟨nd, T, 0, ⟨bi, bt, bk, bd⟩, lg, cm, 0, 0, el, [], []⟩, zs, (ba, bn, bc), (la, ln, lc), (none, 0, 0), (none, 0, 0)⟩) (gs := gs) (os := (oa, on, oc)) ht0 hT (fun b hb => (set_far (Ne.symm hb) _).trans ((set_far (Ne.symm hb) _).trans ((set_far (Ne.symm hb) _).trans ((set_far (Ne.symm hb) _).trans ((set_far (Ne.symm hb) _).trans (set_far (Ne.symm hb) _)))))) (by simp [World.setCell]) ((((((hb0.setCell (p := ⟨t, 1, none⟩) ht0 (.int .u64 (T : Int))).setCell (p := ⟨t, 2, none⟩) ht0 (.int .i64 0)).setCell (p := ⟨t, 9, none⟩) ht0 (.int .i64 0)).setCell (p := ⟨t, 10, none⟩) ht0 (.int .i64 0)).setCell (p := ⟨t, 12, none⟩) ht0 (.slice none 0 0)).setCell (p := ⟨t, 13, none⟩) ht0 (.slice none 0 0)) (by simp [World.setCell, Array.getElem?_modify, hT, tc]) ⟨hP.1, hP.2.1, Ow.nil _ _ _ _, Ow.nil _ _ _ _, hP.2.2.2.2⟩ rfl ho hKp
  clear hP ho hKp
  go_enter Tryz.func95, Tryz.ntmps95
  go_wp2
  go_end0
  exact ⟨rfl, hfin.out⟩
set_option maxHeartbeats 8000000 in
theorem pcom_of (w0 : World) (K : List (Nat × Obj)) (w : World) (t : Nat) (s : Ms) (hS : TuAt w0 K w t s) (hm : mayB s.r.base s.r.log = true) (hbo : OkM s.r.base) (hlo : ∀ e ∈ s.r.log, OkM e) (hpl : s.r.peers.length ≤ 1000000) : Calls Tryz.prog 106 #[.pointer (some ⟨t, 0, none⟩)] w fun e w' => e = .returned (.tuple #[]) ∧ TuR w0 K w w' t [82] (comR s) := by
  have HS0 : Hid (TuAt w0 K w t s) := hS
  obtain ⟨hb0, ht0, z, gs, os, hT, hz, hP, ho, hKp⟩ := hS
  obtain ⟨r, zs, ⟨ba, bn, bc⟩, ⟨la, ln, lc⟩, ⟨va, vn, vc⟩, ⟨pa, pn, pc⟩⟩ := z
  obtain ⟨sr, so⟩ := s
  obtain rfl : r = sr := hz
  obtain ⟨nd, tm, vo, ⟨bi, bt, bk, bd⟩, lg, cm, ro, le, el, vt, pe⟩ := r
  obtain ⟨oa, on, oc⟩ := os
  dsimp only at *
  dsimp only [tc] at hT
  have htl : t < w.heap.size := (Array.getElem?_eq_some_iff.1 hT).1
  have hml : mes zs = lg := hP.2.1.2.1
  have hzl : zs.length ≤ 1000000 := by have := congrArg List.length hml; rw [List.length_map] at this; have := (may_last hm).2.2; omega
  have hzo := okz_of hml hlo
  have hD : DataV w ((⟨bi, bt, bk, bd⟩, ba, bn, bc) : Ez) := hP.1.data
  have hL : EntsV w (.slice la ln lc) zs := hP.2.1.ents
  have HV : Hid (∀ W, Below w.heap.size w W → _) := fun W hW => pvot_c (⟨bi, bt, bk, bd⟩, ba, bn, bc) zs (.slice la ln lc) W (hD.below hW) (hL.below hW) ⟨hbo.1, hbo.2.1, hbo.2.2.1⟩ (fun z hz => (hzo z hz).1) (by omega) hbo.2.2.2 (fun z hz => (hzo z hz).2)
  rw [hml] at HV
  dsimp only [lgv] at HV
  have hvl : (votM ⟨bi, bt, bk, bd⟩ lg).length ≤ 7 := may_vlen hm
  have HT : Hid (∀ x W, Below w.heap.size w W → _) := fun x W hW => pterm_of (⟨bi, bt, bk, bd⟩, ba, bn, bc) zs (.slice la ln lc) x W (hL.below hW) (by omega) (by rw [hml]; exact hm)
  rw [hml] at HT
  dsimp only [lgv] at HT
  have HPR : Hid (∀ W, Below w.heap.size w W → Rd peerE W (.slice pa pn pc) (pe.map pr)) := fun W hW => rdpn_pr (hP.2.2.2.1.1.rd.below hW)
  have hplm : (pe.map pr).length ≤ 1000000 := by rw [List.length_map]; exact hpl
  obtain ⟨C, hC⟩ : ∃ C, Hid (comM (votM ⟨bi, bt, bk, bd⟩ lg) (pe.map pr) = C) := ⟨_, rfl⟩
  have HE : Hid (comR ⟨⟨nd, tm, vo, ⟨bi, bt, bk, bd⟩, lg, cm, ro, le, el, vt, pe⟩, so⟩ = if cm < C ∧ termM ⟨bi, bt, bk, bd⟩ lg C = some tm then ⟨⟨nd, tm, vo, ⟨bi, bt, bk, bd⟩, lg, C, ro, le, el, vt, pe⟩, so⟩ else ⟨⟨nd, tm, vo, ⟨bi, bt, bk, bd⟩, lg, cm, ro, le, el, vt, pe⟩, so⟩) := by
    show _ = _
    rw [← hC.out]
    rfl
  have HPP : Hid (TuP w0.heap.size w ⟨⟨nd, tm, vo, ⟨bi, bt, bk, bd⟩, lg, cm, ro, le, el, vt, pe⟩, zs, (ba, bn, bc), (la, ln, lc), (va, vn, vc), (pa, pn, pc)⟩ gs (oa, on, oc)) := hP
  have HKK : Hid (∀ x ∈ K, w.heap[x.1]? = some x.2 ∧ x.1 ≠ t ∧ (slv (oa, on, oc)).ownBlock ≠ some x.1) := hKp
  clear hP hKp hD hL hzo hml
  go_enter Tryz.func106, Tryz.ntmps106
  go_wp2
  (try simp only [Exit.inBlock, Exit.then])
  refine wp_region_L (fun W => Below w.heap.size w W) [] (by kernel_rfl) ?_
  have hbd : Below w.heap.size w w.drew := (Below.refl _ w).drew
  have HTL : Hid (∀ W, Below w.heap.size w W → _) := fun W hW => r15_cells ((hW.block t htl).trans hT)
  have kv := HV.out w.drew hbd
  generalize w.drew = wd at *
  refine wpAnyL_take 0 rfl (by kernel_rfl) (by kernel_rfl) (by kernel_rfl) (by kernel_rfl) (fun _ _ _ h => h) (wanted_none rfl) (by intro w' hS'; have hz := hS'; obtain ⟨-, c0, c1, c2, c3, c4, c5, c6, c7, c8, c9, c10, c11, c12, c13, c14⟩ := HTL.out _ hz; go_simp <;> rfl) hbd ?_
  try simp only [List.getElem_toArray, List.getElem_cons_succ, List.getElem_cons_zero, Act.put, List.setIfInBounds_toArray, List.set_cons_zero, List.set_cons_succ]
  refine wpAnyL_take 1 rfl (by kernel_rfl) (by kernel_rfl) (by kernel_rfl) (by kernel_rfl) (fun _ _ _ h => h) (wanted_none rfl) (by intro w' hS'; have hz := hS'; obtain ⟨-, c0, c1, c2, c3, c4, c5, c6, c7, c8, c9, c10, c11, c12, c13, c14⟩ := HTL.out _ hz; go_simp <;> rfl) hbd ?_
  try simp only [List.getElem_toArray, List.getElem_cons_succ, List.getElem_cons_zero, Act.put, List.setIfInBounds_toArray, List.set_cons_zero, List.set_cons_succ]
  refine wpAnyL_take 2 rfl (by kernel_rfl) (by kernel_rfl) (by kernel_rfl) (by kernel_rfl) (fun _ _ _ h => h) (wanted_none rfl) (by intro w' hS'; have hz := hS'; obtain ⟨-, c0, c1, c2, c3, c4, c5, c6, c7, c8, c9, c10, c11, c12, c13, c14⟩ := HTL.out _ hz; go_simp <;> rfl) hbd ?_
  try simp only [List.getElem_toArray, List.getElem_cons_succ, List.getElem_cons_zero, Act.put, List.setIfInBounds_toArray, List.set_cons_zero, List.set_cons_succ]
  refine wpAnyL_take 3 rfl (by kernel_rfl) (by kernel_rfl) (by kernel_rfl) (by kernel_rfl) (fun _ _ _ h => h) (wanted_none rfl) (by intro w' hS'; have hz := hS'; obtain ⟨-, c0, c1, c2, c3, c4, c5, c6, c7, c8, c9, c10, c11, c12, c13, c14⟩ := HTL.out _ hz; go_simp <;> rfl) hbd ?_
  try simp only [List.getElem_toArray, List.getElem_cons_succ, List.getElem_cons_zero, Act.put, List.setIfInBounds_toArray, List.set_cons_zero, List.set_cons_succ]
  refine wpAnyL_take 4 rfl (by kernel_rfl) (by kernel_rfl) (by kernel_rfl) (by kernel_rfl) (fun _ _ _ h => h) (wanted_none rfl) (by intro w' hS'; have hz := hS'; obtain ⟨-, c0, c1, c2, c3, c4, c5, c6, c7, c8, c9, c10, c11, c12, c13, c14⟩ := HTL.out _ hz; go_simp <;> rfl) hbd ?_
  try simp only [List.getElem_toArray, List.getElem_cons_succ, List.getElem_cons_zero, Act.put, List.setIfInBounds_toArray, List.set_cons_zero, List.set_cons_succ]
  refine wpAnyL_take 6 rfl (by kernel_rfl) (by kernel_rfl) (by kernel_rfl) (by kernel_rfl) (fun _ _ _ h => h) (wanted_none rfl) (by intro w' hS'; have hz := hS'; obtain ⟨-, c0, c1, c2, c3, c4, c5, c6, c7, c8, c9, c10, c11, c12, c13, c14⟩ := HTL.out _ hz; go_simp <;> rfl) hbd ?_
  try simp only [List.getElem_toArray, List.getElem_cons_succ, List.getElem_cons_zero, Act.put, List.setIfInBounds_toArray, List.set_cons_zero, List.set_cons_succ]
  refine wpAnyL_take 7 rfl (by kernel_rfl) (by kernel_rfl) (by kernel_rfl) (by kernel_rfl) (fun _ _ _ h => h) (wanted_none rfl) (by intro w' hS'; have hz := hS'; obtain ⟨-, c0, c1, c2, c3, c4, c5, c6, c7, c8, c9, c10, c11, c12, c13, c14⟩ := HTL.out _ hz; go_simp <;> rfl) hbd ?_
  try simp only [List.getElem_toArray, List.getElem_cons_succ, List.getElem_cons_zero, Act.put, List.setIfInBounds_toArray, List.set_cons_zero, List.set_cons_succ]
  refine wpAnyL_take 8 rfl (by kernel_rfl) (by kernel_rfl) (by kernel_rfl) (by kernel_rfl) (fun _ _ _ h => h) (wanted_none rfl) (by intro w' hS'; have hz := hS'; obtain ⟨-, c0, c1, c2, c3, c4, c5, c6, c7, c8, c9, c10, c11, c12, c13, c14⟩ := HTL.out _ hz; go_simp <;> rfl) hbd ?_
  try simp only [List.getElem_toArray, List.getElem_cons_succ, List.getElem_cons_zero, Act.put, List.setIfInBounds_toArray, List.set_cons_zero, List.set_cons_succ]
  refine wpAnyL_take 9 rfl (by kernel_rfl) (by kernel_rfl) (by kernel_rfl) (by kernel_rfl) (fun _ _ _ h => h) (wanted_none rfl) (by intro w' hS'; have hz := hS'; obtain ⟨-, c0, c1, c2, c3, c4, c5, c6, c7, c8, c9, c10, c11, c12, c13, c14⟩ := HTL.out _ hz; go_simp <;> rfl) hbd ?_
  try simp only [List.getElem_toArray, List.getElem_cons_succ, List.getElem_cons_zero, Act.put, List.setIfInBounds_toArray, List.set_cons_zero, List.set_cons_succ]
  refine wpAnyL_take 10 rfl (by kernel_rfl) (by kernel_rfl) (by kernel_rfl) (by kernel_rfl) (fun _ _ _ h => h) (wanted_none rfl) (by intro w' hS'; have hz := hS'; obtain ⟨-, c0, c1, c2, c3, c4, c5, c6, c7, c8, c9, c10, c11, c12, c13, c14⟩ := HTL.out _ hz; go_simp <;> rfl) hbd ?_
  try simp only [List.getElem_toArray, List.getElem_cons_succ, List.getElem_cons_zero, Act.put, List.setIfInBounds_toArray, List.set_cons_zero, List.set_cons_succ]
  refine wpAnyL_one 5 (by kernel_rfl) rfl (wanted_none rfl) ?_
  intro K' hK'
  go_simp
  go_at_call 103
  refine kv.mono ?_
  rintro e w3 ⟨v3, rfl, hO3, hb3⟩
  have hS3 : (fun W => Below w.heap.size w W) w3 := hbd.trans (hb3.mono hbd.size)
  have hR3 := hO3.1.rd
  obtain ⟨v3a, v3c, rfl, -, -⟩ := hR3.shape
  clear kv
  have kc := commit_of _ _ _ _ w3 hR3 (HPR.out w3 hS3) (by omega) hplm
  refine hK'.out _ _ (.inr hS3) ?_
  clear hK' K'
  try simp only [List.getElem_toArray, List.getElem_cons_succ, List.getElem_cons_zero, Act.put, List.setIfInBounds_toArray, List.set_cons_zero, List.set_cons_succ]
  refine wpAnyL_one 11 (by kernel_rfl) rfl (wanted_none rfl) ?_
  intro K' hK'
  go_simp
  go_at_call 140
  refine kc.mono ?_
  rintro e w6 ⟨rfl, hb6⟩
  have hS6 : (fun W => Below w.heap.size w W) w6 := hS3.trans (hb6.mono hS3.size)
  clear kc hO3 hR3 hb3 hb6
  refine hK'.out _ _ (.inr hS6) ?_
  clear hK' K'
  try simp only [List.getElem_toArray, List.getElem_cons_succ, List.getElem_cons_zero, Act.put, List.setIfInBounds_toArray, List.set_cons_zero, List.set_cons_succ]
  refine wpAnyL_take 12 rfl (by kernel_rfl) (by kernel_rfl) (by kernel_rfl) (by kernel_rfl) (fun _ _ _ h => h) (wanted_none rfl) (by intro w' hS'; have hz := hS'; obtain ⟨-, c0, c1, c2, c3, c4, c5, c6, c7, c8, c9, c10, c11, c12, c13, c14⟩ := HTL.out _ hz; go_simp <;> rfl) hS6 ?_
  try simp only [List.getElem_toArray, List.getElem_cons_succ, List.getElem_cons_zero, Act.put, List.setIfInBounds_toArray, List.set_cons_zero, List.set_cons_succ]
  refine wpAnyL_done (by kernel_rfl) (NoPanic.normal ?_) _
  rw [hC.out]
  have D1 := (hS6.block t htl).trans hT
  have kt := HT.out C w6 hS6
  obtain ⟨-, o0, o1, o2, o3, o4, o5, o6, o7, o8, o9, o10, o11, o12, o13, o14⟩ := r15_cells D1
  clear hC HTL HV HPR hplm
  go_wp2_with fail
  refine kt.mono ?_
  rintro e w7 ⟨rfl, hb67⟩
  have hb7 : Below w.heap.size w w7 := hS6.trans (hb67.mono hS6.size)
  have D1 := (hb7.block t htl).trans hT
  clear kt o0 o1 o2 o3 o4 o5 o6 o7 o8 o9 o10 o11 o12 o13 o14 hb67
  obtain ⟨⟨f0, f1, f2, f3, f4, f5, f6, f7, f8, f9, f10, f11, f12, f13, f14⟩, o0, o1, o2, o3, o4, o5, o6, o7, o8, o9, o10, o11, o12, o13, o14⟩ := r15_cells D1
  cases hTT : termM ⟨bi, bt, bk, bd⟩ lg C with
  | none =>
    have E : Hid (_ = _) := HE.out.trans (if_neg (by rw [hTT]; simp))
    go_wp2
    go_end0
    exact ⟨rfl, by rw [E.out]; exact TuR.of_below _ HS0.out hb7⟩
  | some tt =>
    by_cases h2 : tt = tm
    · subst tt
      by_cases h1 : cm < C
      · have h1i : (cm : Int) < (C : Int) := by omega
        have E : Hid (_ = _) := HE.out.trans (if_pos ⟨h1, hTT⟩)
        have hfin : Hid (TuR w0 K w (w7.setCell ⟨t, 8, none⟩ (.int .u64 (C : Int))) t [82] ⟨⟨nd, tm, vo, ⟨bi, bt, bk, bd⟩, lg, C, ro, le, el, vt, pe⟩, so⟩) := by
          have h7 := tu_store (s := ⟨⟨nd, tm, vo, ⟨bi, bt, bk, bd⟩, lg, C, ro, le, el, vt, pe⟩, so⟩) (K := K) (w' := w7.setCell ⟨t, 8, none⟩ (.int .u64 (C : Int))) (z := ⟨⟨nd, tm, vo, ⟨bi, bt, bk, bd⟩, lg, C, ro, le, el, vt, pe⟩, zs, (ba, bn, bc), (la, ln, lc), (va, vn, vc), (pa, pn, pc)⟩) (gs := gs) (os := (oa, on, oc)) ht0 D1 (set1 8 _) (by simp [World.setCell]) ((hb0.trans (hb7.mono hb0.size)).setCell (p := ⟨t, 8, none⟩) ht0 _) (by simp [World.setCell, Array.getElem?_modify, D1, tc]) (HPP.out.below hb7) rfl ho (fun x hx => ⟨(hb7.block x.1 (Array.getElem?_eq_some_iff.1 (HKK.out x hx).1).1).trans (HKK.out x hx).1, (HKK.out x hx).2⟩)
          exact ⟨h7.1, (Frm.of_below _ hb7 hb0.size).trans h7.2.1, Nat.le_trans hb7.size h7.2.2⟩
        clear HPP HKK HS0
        go_wp2
        go_end0
        exact ⟨rfl, by rw [E.out]; exact hfin.out⟩
      · have h1i : decide ((cm : Int) < (C : Int)) = false := by simp; omega
        have E : Hid (_ = _) := HE.out.trans (if_neg (by omega))
        go_wp2
        go_end0
        exact ⟨rfl, by rw [E.out]; exact TuR.of_below _ HS0.out hb7⟩
    · have h2b : ((tt : Int) == (tm : Int)) = false := by simp; omega
      have h2i : ¬ (tt : Int) = (tm : Int) := by omega
      have E : Hid (_ = _) := HE.out.trans (if_neg (by rw [hTT]; simp; omega))
      go_wp2
      go_end0
      exact ⟨rfl, by rw [E.out]; exact TuR.of_below _ HS0.out hb7⟩
end Go.Proofs.YtncoandnelgkeaaGreat

/- The program's peer: where a node is among its peers. -/
namespace Go.Proofs.YtncoandnelgkeaaGreat
open Go.RowKit QuorumMath RlogMath RaftMath
set_option maxRecDepth 100000
set_option linter.unusedSimpArgs false
set_option linter.unusedVariables false

set_option maxHeartbeats 2000000 in
theorem peer1_of (p : Mp) (x : Int) (c : Nat) (w : World) (hc : w.cell? ⟨c, 0, none⟩ = some (.int .i64 x)) : Calls Tryz.prog 139 #[.agg #[.int .i64 p.node, .int .u64 (p.next : Int), .int .u64 (p.mat : Int)], .pointer (some ⟨c, 0, none⟩)] w fun e w' => e = .returned (.bool (p.node == x)) ∧ Below w.heap.size w w' := by
  obtain ⟨pnd, nx, pm⟩ := p
  dsimp only
  obtain ⟨z1, PB5, hb5⟩ := one_box w (.cells #[.int .i64 pnd, .int .u64 (nx : Int), .int .u64 (pm : Int)] 71)
  have hcl : c < w.heap.size := World.block_lt_of_cell? w _ hc
  have hc5 : (w.alloc (.cells #[.int .i64 pnd, .int .u64 (nx : Int), .int .u64 (pm : Int)] 71)).cell? ⟨c, 0, none⟩ = some (.int .i64 x) := (hb5.cell (p := ⟨c, 0, none⟩) hcl).trans hc
  clear PB5 z1
  go_enter Tryz.func139, Tryz.ntmps139
  go_wp2
  go_ret
  exact ⟨rfl, hb5⟩
set_option maxHeartbeats 4000000 in
theorem idxP_of (ps : List Mp) (pv : Value) (x : Int) (c : Nat) (w : World) (hP : Rd peerN w pv ps) (hc : w.cell? ⟨c, 0, none⟩ = some (.int .i64 x)) (hl : ps.length ≤ 1000000) : Calls Tryz.prog 138 #[pv, .func (.func 139) #[] #[.pointer (some ⟨c, 0, none⟩)]] w fun e w' => e = .returned (.int .i64 (ixV (ixP ps x))) ∧ Below w.heap.size w w' := by
  obtain ⟨R, HR⟩ : ∃ R, Hid (R = ixP ps x) := ⟨_, rfl⟩
  rw [← HR.out]
  have HK : Hid (∀ p W, Below w.heap.size w W → _) := fun p W hW => peer1_of p x c W ((hW.cell (p := ⟨c, 0, none⟩) (World.block_lt_of_cell? w _ hc)).trans hc)
  have HP : Hid (Rd peerN w pv ps) := hP
  obtain ⟨pa, pc, rfl, -, -⟩ := hP.shape
  clear hP
  go_enter Tryz.func138, Tryz.ntmps138
  go_wp2
  go_loopg [5, 8] ps.length (fun gh s5 s8 wr => ∃ k : Nat, k + gh = ps.length ∧ s8 = .int .i64 (k : Int) ∧ Below w.heap.size w wr ∧ Hid (∀ j q, j < k → ps[j]? = some q → q.node ≠ x))
  case atStart => exact ⟨0, by simp, rfl, Below.refl _ _, fun j q hj => by omega⟩
  case round =>
    obtain ⟨k, hkg, rfl, hbr, HN⟩ := hrel
    by_cases hlt : k < ps.length
    · have hlti : (k : Int) < (ps.length : Int) := by omega
      have hp : ps[k]? = some ps[k] := List.getElem?_eq_getElem hlt
      obtain ⟨p, hpp⟩ : ∃ p, p = ps[k] := ⟨_, rfl⟩
      rw [← hpp] at hp
      clear hpp
      obtain ⟨b, off, rfl, cc⟩ := rdpn_at HP.out hp
      obtain ⟨d0, d1, d2⟩ := cc wr hbr
      have kp := HK.out p wr hbr
      have HAT : Hid (p.node = x → R = some k) := fun h => by rw [HR.out]; exact ix_at hp HN.out h
      have HN2 : Hid (p.node ≠ x → ∀ j q, j < k + 1 → ps[j]? = some q → q.node ≠ x) := fun h j q hj hq => by
        by_cases e : j = k
        · subst e
          rw [hp] at hq
          cases hq
          exact h
        · exact HN.out j q (by omega) hq
      obtain ⟨pnd, nx, pm⟩ := p
      dsimp only at *
      clear cc hp HN
      go_wp2_with fail
      refine kp.mono ?_
      rintro e w5 ⟨rfl, hb5⟩
      have hb05 := hbr.trans (hb5.mono hbr.size)
      clear kp
      by_cases hx : pnd = x
      · have E : Hid (R = some k) := HAT.out hx
        have hxb : (pnd == x) = true := by simpa using hx
        rw [hxb]
        clear HAT HN2 hx
        go_wp2
        go_ret
        exact ⟨by rw [E.out]; rfl, hb05⟩
      · have E : Hid _ := HN2.out hx
        have hxb : (pnd == x) = false := by simpa using hx
        rw [hxb]
        clear HAT HN2 hx
        go_wp2
        go_roundg (gk - 1)
        case measure => omega
        case rel => exact ⟨k + 1, by omega, by go_num, hb05, E⟩
    · have hlti : ¬ (k : Int) < (ps.length : Int) := by omega
      have E : Hid (R = none) := by show _ = _; rw [HR.out]; exact ix_end fun j q hj hq => HN.out j q (by omega) hq
      clear HN
      go_wp2
      go_ret
      exact ⟨by rw [E.out]; rfl, hbr⟩
set_option maxHeartbeats 4000000 in
theorem ppeer_of (w0 : World) (K : List (Nat × Obj)) (w : World) (t : Nat) (s : Ms) (x : Int) (hS : TuAt w0 K w t s) (hpl : s.r.peers.length ≤ 1000000) : Calls Tryz.prog 105 #[.pointer (some ⟨t, 0, none⟩), .int .i64 x] w fun e w' => e = .returned (.int .i64 (ixV (ixP s.r.peers x))) ∧ Below w.heap.size w w' := by
  obtain ⟨hb0, ht0, z, gs, os, hT, hz, hP, ho, hKp⟩ := hS
  obtain ⟨r, zs, ⟨ba, bn, bc⟩, ⟨la, ln, lc⟩, ⟨va, vn, vc⟩, ⟨pa, pn, pc⟩⟩ := z
  obtain ⟨sr, so⟩ := s
  obtain rfl : r = sr := hz
  obtain ⟨nd, tm, vo, ⟨bi, bt, bk, bd⟩, lg, cm, ro, le, el, vt, pe⟩ := r
  obtain ⟨oa, on, oc⟩ := os
  dsimp only at *
  dsimp only [tc] at hT
  have htl : t < w.heap.size := (Array.getElem?_eq_some_iff.1 hT).1
  obtain ⟨z1, C5, hb5⟩ := one_box w (.cells #[.int .i64 x] 3)
  have T5 := (hb5.block t htl).trans hT
  have ki := idxP_of pe (.slice pa pn pc) x w.heap.size _ (hP.2.2.2.1.1.rd.below hb5) (c1_cell C5) hpl
  obtain ⟨-, o0, o1, o2, o3, o4, o5, o6, o7, o8, o9, o10, o11, o12, o13, o14⟩ := r15_cells hT
  obtain ⟨-, p0, p1, p2, p3, p4, p5, p6, p7, p8, p9, p10, p11, p12, p13, p14⟩ := r15_cells T5
  clear hP ho hKp hT T5
  generalize ixV (ixP pe x) = I at *
  go_enter Tryz.func105, Tryz.ntmps105
  go_wp2_with fail
  refine ki.mono ?_
  rintro e w6 ⟨rfl, hb6⟩
  have hb06 := hb5.trans (hb6.mono hb5.size)
  clear ki
  go_wp2
  go_ret
  exact ⟨rfl, hb06⟩
end Go.Proofs.YtncoandnelgkeaaGreat

/- The program's grow: a leader's log with an entry more. -/
namespace Go.Proofs.YtncoandnelgkeaaGreat
open Go.RowKit QuorumMath RlogMath RaftMath
set_option maxRecDepth 100000
set_option linter.unusedSimpArgs false
set_option linter.unusedVariables false

set_option maxHeartbeats 8000000 in
theorem grow_of (w0 : World) (K : List (Nat × Obj)) (w : World) (t : Nat) (s : Ms) (lb : Me) (ll : List Me) (lv : Value) (hS : TuAt w0 K w t s) (hLC : LogC 0 w lv lb ll) (hm : mayB lb ll = true) (hbo : OkM lb) (hlo : ∀ e ∈ ll, OkM e) (hpd : (s.r.peers.map fun p => p.node).Pairwise (· < ·)) (hpl : s.r.peers.length ≤ 1000000) (hnx : ∀ p ∈ s.r.peers, p.next < 18446744073709551616) (hol : s.out.length ≤ 1000000) : Calls Tryz.prog 67 #[.pointer (some ⟨t, 0, none⟩), lv] w fun e w' => e = .returned (.tuple #[]) ∧ TuR w0 K w w' t [82, 34] (settleR ⟨{ s.r with base := lb, log := ll }, s.out⟩) := by
  have HS0 : Hid (TuAt w0 K w t s) := hS
  obtain ⟨hb0, ht0, z, gs, os, hT, hz, hP, ho, hKp⟩ := hS
  obtain ⟨r, zs, ⟨ba, bn, bc⟩, ⟨la, ln, lc⟩, ⟨va, vn, vc⟩, ⟨pa, pn, pc⟩⟩ := z
  obtain ⟨sr, so⟩ := s
  obtain rfl : r = sr := hz
  obtain ⟨nd, tm, vo, ⟨bi, bt, bk, bd⟩, lg, cm, ro, le, el, vt, pe⟩ := r
  obtain ⟨oa, on, oc⟩ := os
  dsimp only at *
  dsimp only [tc] at hT
  have htl : t < w.heap.size := (Array.getElem?_eq_some_iff.1 hT).1
  obtain ⟨⟨b2a, b2n, b2c⟩, cur, st, rfl, hCD, hCp⟩ := hLC
  obtain ⟨l2a, l2c, rfl, -, -⟩ := hCp.1.1.rd.shape
  obtain ⟨i2, t2, k2, d2⟩ := lb
  dsimp only [lgv] at *
  have hml : mes cur = ll := hCp.2.1
  have hzl : cur.length ≤ 1000000 := by have := congrArg List.length hml; rw [List.length_map] at this; have := (may_last hm).2.2; omega
  have hzo := okz_of hml hlo
  have hD : DataV w ((⟨i2, t2, k2, d2⟩, b2a, b2n, b2c) : Ez) := hCD.data
  have hL : EntsV w (.slice l2a cur.length l2c) cur := hCp.ents
  have HV : Hid (∀ W, Below w.heap.size w W → _) := fun W hW => pvot_c (⟨i2, t2, k2, d2⟩, b2a, b2n, b2c) cur (.slice l2a cur.length l2c) W (hD.below hW) (hL.below hW) ⟨hbo.1, hbo.2.1, hbo.2.2.1⟩ (fun z hz => (hzo z hz).1) (by omega) hbo.2.2.2 (fun z hz => (hzo z hz).2)
  have HLA : Hid (∀ W, Below w.heap.size w W → _) := fun W hW => plast_of (⟨i2, t2, k2, d2⟩, b2a, b2n, b2c) cur (.slice l2a cur.length l2c) W (hL.below hW) (by omega)
  rw [hml] at HV HLA
  dsimp only [lgv, lastV] at HV HLA
  have hvl : (votM ⟨i2, t2, k2, d2⟩ ll).length ≤ 7 := may_vlen hm
  have hend : (lastM ⟨i2, t2, k2, d2⟩ ll).1 ≤ 4611686018427392000 := by have := may_last hm; dsimp only at this; omega
  have HSET : Hid (settleR ⟨⟨nd, tm, vo, ⟨i2, t2, k2, d2⟩, ll, cm, ro, le, el, vt, pe⟩, so⟩ = tellAllR (comR ⟨⟨nd, tm, vo, ⟨i2, t2, k2, d2⟩, ll, cm, ro, le, el, vt, (votM ⟨i2, t2, k2, d2⟩ ll).map (peerOf ⟨nd, tm, vo, ⟨i2, t2, k2, d2⟩, ll, cm, ro, le, el, vt, pe⟩ (lastM ⟨i2, t2, k2, d2⟩ ll).1)⟩, so⟩)) := rfl
  have HNX : Hid (∀ x, (peerOf ⟨nd, tm, vo, ⟨i2, t2, k2, d2⟩, ll, cm, ro, le, el, vt, pe⟩ (lastM ⟨i2, t2, k2, d2⟩ ll).1 x).next < 18446744073709551616) := fun x => peerOf_next (by omega) hnx
  obtain ⟨LT, hLT⟩ : ∃ q, q = lastM (⟨i2, t2, k2, d2⟩ : Me) ll := ⟨_, rfl⟩
  rw [← hLT] at HLA HNX HSET hend
  clear hLT
  obtain ⟨E, ET⟩ := LT
  obtain ⟨V, hV⟩ : ∃ V, V = votM (⟨i2, t2, k2, d2⟩ : Me) ll := ⟨_, rfl⟩
  rw [← hV] at HV HSET hvl
  clear hV
  have HM : Hid (mayB ⟨i2, t2, k2, d2⟩ ll = true ∧ OkM ⟨i2, t2, k2, d2⟩ ∧ ∀ e ∈ ll, OkM e) := ⟨hm, hbo, hlo⟩
  have HPF : Hid (∀ x : Int, (∀ i p, pe[i]? = some p → p.node = x → x ≠ nd → peerOf ⟨nd, tm, vo, ⟨i2, t2, k2, d2⟩, ll, cm, ro, le, el, vt, pe⟩ E x = p) ∧ ((∀ p ∈ pe, p.node ≠ x) → x ≠ nd → peerOf ⟨nd, tm, vo, ⟨i2, t2, k2, d2⟩, ll, cm, ro, le, el, vt, pe⟩ E x = ⟨x, E, 0⟩) ∧ (x = nd → peerOf ⟨nd, tm, vo, ⟨i2, t2, k2, d2⟩, ll, cm, ro, le, el, vt, pe⟩ E x = ⟨x, E + 1, E⟩)) := fun x => ⟨fun i p h1 h2 h3 => peerOf_some hpd h1 h2 h3, fun h1 h2 => peerOf_none h1 h2, fun h => peerOf_self h⟩
  have HP : Hid (TuP w0.heap.size w ⟨⟨nd, tm, vo, ⟨bi, bt, bk, bd⟩, lg, cm, ro, le, el, vt, pe⟩, zs, (ba, bn, bc), (la, ln, lc), (va, vn, vc), (pa, pn, pc)⟩ gs (oa, on, oc)) := hP
  have HKK : Hid (∀ x ∈ K, w.heap[x.1]? = some x.2 ∧ x.1 ≠ t ∧ (slv (oa, on, oc)).ownBlock ≠ some x.1) := hKp
  have HCC : Hid (CpD w ((⟨i2, t2, k2, d2⟩, b2a, b2n, b2c) : Ez) ∧ Cps 0 w (.slice l2a cur.length l2c) ll cur) := ⟨hCD, hCp⟩
  have HPR : Hid (∀ W, Below w.heap.size w W → Rd peerN W (.slice pa pn pc) pe) := fun W hW => hP.2.2.2.1.1.rd.below hW
  obtain ⟨pa', pc', hps, -, -⟩ := hP.2.2.2.1.1.rd.shape
  simp only [slv, Value.slice.injEq] at hps
  obtain ⟨rfl, rfl, rfl⟩ := hps
  generalize cur.length = l2n at *
  obtain ⟨z1, C1, hb1⟩ := one_box w (.cells #[.int .u64 (i2 : Int), .int .u64 (t2 : Int), .int .i64 k2, .slice b2a b2n b2c, .slice l2a l2n l2c] 28)
  have kl := HLA.out _ hb1
  have hwE : IntKind.u64.wrap ((E : Int) + 1) = (E : Int) + 1 := IntWalk.u64_in _ (by omega)
  have HOO : Hid ((gs.map fun g => g.m) = so) := ho
  clear hP ho hKp hCD hCp hml hzl hzo hD hL hm hbo hlo hpd HLA
  go_enter Tryz.func67, Tryz.ntmps67
  go_wp2_with fail
  refine kl.mono ?_
  rintro e w3 ⟨rfl, hb3⟩
  rw [z1] at hb3
  have C3 := (hb3.block w.heap.size (by omega)).trans C1
  have hb03 := hb1.trans (hb3.mono (by omega))
  have hs3 : w.heap.size + 1 ≤ w3.heap.size := by have := hb3.size; rw [z1] at this; exact this
  obtain ⟨-, e0, e1, e2, e3, e4⟩ := lg_cells C3
  have kv := HV.out w3 hb03
  clear kl HV hb3 hb1 C1 z1
  go_wp2_with fail
  refine kv.mono ?_
  rintro e w4 ⟨u, rfl, hRV, hb4⟩
  obtain ⟨ua, uc, rfl, -, -⟩ := hRV.1.rd.shape
  have C4 := (hb4.block w.heap.size (by omega)).trans C3
  have hb04 := hb03.trans (hb4.mono hb03.size)
  have hs4 : w.heap.size + 1 ≤ w4.heap.size := Nat.le_trans hs3 hb4.size
  have HRV : Hid (Rd intE w4 (.slice ua V.length uc) V) := hRV.1.rd
  have hO0 : Ow peerN 71 w4.heap.size w4 (.slice none 0 0) ((V.take 0).map (peerOf ⟨nd, tm, vo, ⟨i2, t2, k2, d2⟩, ll, cm, ro, le, el, vt, pe⟩ E)) := Ow.nil _ _ _ _
  clear kv hRV hb4 hb03 hs3 C3 e0 e1 e2 e3 e4
  go_wp2
  go_loopg [6, 8, 9, 10, 19] V.length (fun gh s6 s8 s9 s10 s19 wr => ∃ (k : Nat) (st : Value), k + gh = V.length ∧ s19 = .int .i64 (k : Int) ∧ st = s6 ∧ Ow peerN 71 w4.heap.size wr st ((V.take k).map (peerOf ⟨nd, tm, vo, ⟨i2, t2, k2, d2⟩, ll, cm, ro, le, el, vt, pe⟩ E)) ∧ Below w4.heap.size w4 wr)
  case atStart => exact ⟨0, _, by simp, rfl, rfl, hO0, Below.refl _ _⟩
  case round =>
    obtain ⟨k, st, hkg, rfl, rfl, hO, hbr⟩ := hrel
    clear hO0
    have hb0r := hb04.trans (hbr.mono hb04.size)
    have T1 := (hb0r.block t htl).trans hT
    have hsr : w.heap.size + 1 ≤ wr.heap.size := Nat.le_trans hs4 hbr.size
    obtain ⟨sta, stc, hst, -⟩ := hO.1.shape
    by_cases hlt : k < V.length
    · have hlti : (k : Int) < (V.length : Int) := by omega
      have hx : V[k]? = some V[k] := List.getElem?_eq_getElem hlt
      obtain ⟨x, hxx⟩ : ∃ x, x = V[k] := ⟨_, rfl⟩
      rw [← hxx] at hx
      clear hxx
      obtain ⟨vb, vof, rfl, cv⟩ := rdi_at HRV.out hx
      have cv0 := cv wr hbr
      have HSN : Hid ((V.take (k + 1)).map (peerOf ⟨nd, tm, vo, ⟨i2, t2, k2, d2⟩, ll, cm, ro, le, el, vt, pe⟩ E) = (V.take k).map (peerOf ⟨nd, tm, vo, ⟨i2, t2, k2, d2⟩, ll, cm, ro, le, el, vt, pe⟩ E) ++ [peerOf ⟨nd, tm, vo, ⟨i2, t2, k2, d2⟩, ll, cm, ro, le, el, vt, pe⟩ E x]) := by show _ = _; rw [take_succ_get hx, List.map_append]; rfl
      have hml : ((V.take k).map (peerOf ⟨nd, tm, vo, ⟨i2, t2, k2, d2⟩, ll, cm, ro, le, el, vt, pe⟩ E)).length ≤ 1000000 := by rw [List.length_map, List.length_take]; omega
      generalize (V.take k).map (peerOf ⟨nd, tm, vo, ⟨i2, t2, k2, d2⟩, ll, cm, ro, le, el, vt, pe⟩ E) = L at *
      subst hst
      have HO : Hid (Ow peerN 71 w4.heap.size wr (.slice sta L.length stc) L) := hO
      obtain ⟨y1, y2, y3⟩ := one_box wr (.cells #[.int .i64 x, .int .u64 (E : Int), .int .u64 0] 71)
      have hA1 := (HS0.out.below hb0r).below y3
      have kp := ppeer_of w0 K _ t _ x hA1 hpl
      have HPFx := HPF.out x
      dsimp only at kp
      clear cv hx hO hA1
      go_wp2_with fail
      refine kp.mono ?_
      rintro e w6 ⟨rfl, hb6'⟩
      rw [y1] at hb6'
      have hq6 := (hb6'.block wr.heap.size (by omega)).trans y2
      have hb6 : Below wr.heap.size wr w6 := y3.trans (hb6'.mono (by omega))
      have hb06 := hb0r.trans (hb6.mono hb0r.size)
      have T6 := (hb6.block t (by omega)).trans T1
      obtain ⟨-, o0, o1, o2, o3, o4, o5, o6, o7, o8, o9, o10, o11, o12, o13, o14⟩ := r15_cells T6
      obtain ⟨⟨f0, f1, f2⟩, p0, p1, p2⟩ := p3_cells hq6
      clear kp y1 y2 y3 hb6' cv0
      cases hix : ixP pe x with
      | none =>
        have hno := ix_none hix
        dsimp only [ixV]
        by_cases hnd : x = nd
        · have HE3 : Hid ((V.take (k + 1)).map (peerOf ⟨nd, tm, vo, ⟨i2, t2, k2, d2⟩, ll, cm, ro, le, el, vt, pe⟩ E) = L ++ [⟨x, E + 1, E⟩]) := by show _ = _; rw [HSN.out, HPFx.2.2 hnd]
          have hndb : (x == nd) = true := by simpa using hnd
          subst hnd
          clear HSN HPFx hno hix
          have hb7 : Below wr.heap.size wr ((w6.setCell ⟨wr.heap.size, 1, none⟩ (.int .u64 ((E : Int) + 1))).setCell ⟨wr.heap.size, 2, none⟩ (.int .u64 (E : Int))) := ((hb6.setCell (p := ⟨wr.heap.size, 1, none⟩) (Nat.le_refl _) (.int .u64 ((E : Int) + 1))).setCell (p := ⟨wr.heap.size, 2, none⟩) (Nat.le_refl _) (.int .u64 (E : Int)))
          have hO7 := HO.out.below hb7
          have hrunH : Hid _ := push_peer ⟨x, E + 1, E⟩ hO7.1 (by omega)
          dsimp only at hrunH
          rw [show ((E + 1 : Nat) : Int) = (E : Int) + 1 from rfl] at hrunH
          rw [show ((w6.setCell ⟨wr.heap.size, 1, none⟩ (.int .u64 ((E : Int) + 1))).setCell ⟨wr.heap.size, 2, none⟩ (.int .u64 (E : Int))).heap.size = w6.heap.size by simp [World.setCell]] at hrunH
          go_wp2_with (at_builtin; refine wp_by rfl _ _ _ rfl _ _ rfl rfl hrunH.out ?_)
          intro v8 w8 hp8
          obtain ⟨hO8, hb8⟩ := hO7.push (Nat.le_trans hbr.size hb7.size) hp8
          rw [← HE3.out] at hO8
          have hb48 := (hbr.trans (hb7.mono hbr.size)).trans hb8
          clear hrunH hp8 hO7 hb8 hb7 HE3
          go_wp2
          go_roundg (gk - 1)
          case measure => omega
          case rel => exact ⟨k + 1, v8, by omega, by go_num, rfl, hO8, hb48⟩
        · have HE3 : Hid ((V.take (k + 1)).map (peerOf ⟨nd, tm, vo, ⟨i2, t2, k2, d2⟩, ll, cm, ro, le, el, vt, pe⟩ E) = L ++ [⟨x, E, 0⟩]) := by show _ = _; rw [HSN.out, HPFx.2.1 hno hnd]
          have hndb : (x == nd) = false := by simpa using hnd
          clear HSN HPFx hno hix
          have hb7 : Below wr.heap.size wr (w6) := hb6
          have hO7 := HO.out.below hb7
          have hrunH : Hid _ := push_peer ⟨x, E, 0⟩ hO7.1 (by omega)
          dsimp only at hrunH
          rw [show ((0 : Nat) : Int) = 0 from rfl] at hrunH
          go_wp2_with (at_builtin; refine wp_by rfl _ _ _ rfl _ _ rfl rfl hrunH.out ?_)
          intro v8 w8 hp8
          obtain ⟨hO8, hb8⟩ := hO7.push (Nat.le_trans hbr.size hb7.size) hp8
          rw [← HE3.out] at hO8
          have hb48 := (hbr.trans (hb7.mono hbr.size)).trans hb8
          clear hrunH hp8 hO7 hb8 hb7 HE3
          go_wp2
          go_roundg (gk - 1)
          case measure => omega
          case rel => exact ⟨k + 1, v8, by omega, by go_num, rfl, hO8, hb48⟩
      | some i =>
        obtain ⟨p, hpi, hpx, -⟩ := ix_some hix
        have hil : i < pe.length := (List.getElem?_eq_some_iff.1 hpi).1
        have hili : (i : Int) < (pe.length : Int) := by omega
        have hi0 : (0 : Int) ≤ (i : Int) := by omega
        dsimp only [ixV]
        obtain ⟨pb, pof, rfl, cp⟩ := rdpn_at (HPR.out w6 hb06) hpi
        obtain ⟨u0, u1, u2⟩ := cp w6 (Below.refl _ _)
        have HPS : Hid (x ≠ nd → peerOf ⟨nd, tm, vo, ⟨i2, t2, k2, d2⟩, ll, cm, ro, le, el, vt, pe⟩ E x = p) := fun h => HPFx.1 i p hpi hpx h
        obtain ⟨pnd, nx, pm⟩ := p
        dsimp only at hpx u0 u1 u2
        subst hpx
        by_cases hnd : pnd = nd
        · have HE3 : Hid ((V.take (k + 1)).map (peerOf ⟨nd, tm, vo, ⟨i2, t2, k2, d2⟩, ll, cm, ro, le, el, vt, pe⟩ E) = L ++ [⟨pnd, E + 1, E⟩]) := by show _ = _; rw [HSN.out, HPFx.2.2 hnd]
          have hndb : (pnd == nd) = true := by simpa using hnd
          subst hnd
          clear HSN HPFx HPS hix hpi cp
          obtain ⟨W7, hW7⟩ : ∃ W, w6.setRow wr.heap.size #[.int .i64 pnd, .int .u64 (nx : Int), .int .u64 (pm : Int)] = W := ⟨_, rfl⟩
          have hq7 := setRow_heap _ _ _ #[.int .i64 pnd, .int .u64 (nx : Int), .int .u64 (pm : Int)] _ _ hq6
          have hb67 := below_row hb6 (g := wr.heap.size) (Nat.le_refl _) #[.int .i64 pnd, .int .u64 (nx : Int), .int .u64 (pm : Int)]
          have T7 := (setRow_other w6 wr.heap.size t #[.int .i64 pnd, .int .u64 (nx : Int), .int .u64 (pm : Int)] (by omega)).trans T6
          have hsW : Hid ((w6.setRow wr.heap.size #[.int .i64 pnd, .int .u64 (nx : Int), .int .u64 (pm : Int)]).heap.size = w6.heap.size) := by show _ = _; simp
          rw [hW7] at hq7 hb67 T7 hsW
          have hb7 : Below wr.heap.size wr ((W7.setCell ⟨wr.heap.size, 1, none⟩ (.int .u64 ((E : Int) + 1))).setCell ⟨wr.heap.size, 2, none⟩ (.int .u64 (E : Int))) := (hb67.setCell (p := ⟨wr.heap.size, 1, none⟩) (Nat.le_refl _) _).setCell (p := ⟨wr.heap.size, 2, none⟩) (Nat.le_refl _) _
          have hO7 := HO.out.below hb7
          have hrunH : Hid _ := push_peer ⟨pnd, E + 1, E⟩ hO7.1 (by omega)
          dsimp only at hrunH
          rw [show ((E + 1 : Nat) : Int) = (E : Int) + 1 from rfl] at hrunH
          rw [show ((W7.setCell ⟨wr.heap.size, 1, none⟩ (.int .u64 ((E : Int) + 1))).setCell ⟨wr.heap.size, 2, none⟩ (.int .u64 (E : Int))).heap.size = W7.heap.size by simp [World.setCell]] at hrunH
          clear f0 f1 f2 p0 p1 p2 o0 o1 o2 o3 o4 o5 o6 o7 o8 o9 o10 o11 o12 o14 hsW T6
          obtain ⟨-, o0, o1, o2, o3, o4, o5, o6, o7, o8, o9, o10, o11, o12, -, o14⟩ := r15_cells T7
          obtain ⟨⟨f0, f1, f2⟩, p0, p1, p2⟩ := p3_cells hq7
          go_wp2_with (first | (at_builtin; refine wp_by rfl _ _ _ rfl _ _ rfl rfl hrunH.out ?_) | refine wpList_store_row rfl 71 _ _ rfl wr.heap.size #[.int .i64 pnd, .int .u64 (nx : Int), .int .u64 (pm : Int)] rfl rfl _ _ hq6 (by kernel_rfl) rfl (by simp [Value.oneCell']) ?_)
          intro v8 w8 hp8
          obtain ⟨hO8, hb8⟩ := hO7.push (Nat.le_trans hbr.size hb7.size) hp8
          rw [← HE3.out] at hO8
          have hb48 := (hbr.trans (hb7.mono hbr.size)).trans hb8
          clear hrunH hp8 hO7 hb8 hb7 HE3
          go_wp2
          go_roundg (gk - 1)
          case measure => omega
          case rel => exact ⟨k + 1, v8, by omega, by go_num, rfl, hO8, hb48⟩
        · have HE3 : Hid ((V.take (k + 1)).map (peerOf ⟨nd, tm, vo, ⟨i2, t2, k2, d2⟩, ll, cm, ro, le, el, vt, pe⟩ E) = L ++ [⟨pnd, nx, pm⟩]) := by show _ = _; rw [HSN.out, HPS.out hnd]
          have hndb : (pnd == nd) = false := by simpa using hnd
          clear HSN HPFx HPS hix hpi cp
          have hb7 : Below wr.heap.size wr (((w6.setCell ⟨wr.heap.size, 0, none⟩ (.int .i64 pnd)).setCell ⟨wr.heap.size, 1, none⟩ (.int .u64 (nx : Int))).setCell ⟨wr.heap.size, 2, none⟩ (.int .u64 (pm : Int))) := (((hb6.setCell (p := ⟨wr.heap.size, 0, none⟩) (Nat.le_refl _) (.int .i64 pnd)).setCell (p := ⟨wr.heap.size, 1, none⟩) (Nat.le_refl _) (.int .u64 (nx : Int))).setCell (p := ⟨wr.heap.size, 2, none⟩) (Nat.le_refl _) (.int .u64 (pm : Int)))
          have hO7 := HO.out.below hb7
          have hrunH : Hid _ := push_peer ⟨pnd, nx, pm⟩ hO7.1 (by omega)
          dsimp only at hrunH
          rw [show (((w6.setCell ⟨wr.heap.size, 0, none⟩ (.int .i64 pnd)).setCell ⟨wr.heap.size, 1, none⟩ (.int .u64 (nx : Int))).setCell ⟨wr.heap.size, 2, none⟩ (.int .u64 (pm : Int))).heap.size = w6.heap.size by simp [World.setCell]] at hrunH
          go_wp2_with (at_builtin; refine wp_by rfl _ _ _ rfl _ _ rfl rfl hrunH.out ?_)
          intro v8 w8 hp8
          obtain ⟨hO8, hb8⟩ := hO7.push (Nat.le_trans hbr.size hb7.size) hp8
          rw [← HE3.out] at hO8
          have hb48 := (hbr.trans (hb7.mono hbr.size)).trans hb8
          clear hrunH hp8 hO7 hb8 hb7 HE3
          go_wp2
          go_roundg (gk - 1)
          case measure => omega
          case rel => exact ⟨k + 1, v8, by omega, by go_num, rfl, hO8, hb48⟩
    · have hlti : ¬ (k : Int) < (V.length : Int) := by omega
      obtain rfl : V.length = k := by omega
      rw [List.take_length] at hO hst
      generalize hPE : V.map (peerOf ⟨nd, tm, vo, ⟨i2, t2, k2, d2⟩, ll, cm, ro, le, el, vt, pe⟩ E) = PE at *
      have hPL : PE.length ≤ 1000000 := by rw [← hPE, List.length_map]; omega
      have HPN : Hid (∀ p ∈ PE, p.next < 18446744073709551616) := fun p hp => by rw [← hPE] at hp; obtain ⟨y, -, rfl⟩ := List.mem_map.1 hp; exact HNX.out y
      have C4r := (hbr.block w.heap.size (by omega)).trans C4
      obtain ⟨-, e0, e1, e2, e3, e4⟩ := lg_cells C4r
      obtain ⟨⟨f0, f1, f2, f3, f4, f5, f6, f7, f8, f9, f10, f11, f12, f13, f14⟩, o0, o1, o2, o3, o4, o5, o6, o7, o8, o9, o10, o11, o12, o13, o14⟩ := r15_cells T1
      clear HNX HPF HPR HRV
      generalize PE.length = nn at hst
      subst hst
      obtain ⟨na, nc, hna⟩ : ∃ na nc, na = sta ∧ nc = stc := ⟨_, _, rfl, rfl⟩
      obtain ⟨rfl, rfl⟩ := hna
      have hR1 : Hid (TuR w0 K w ((((((wr.setCell ⟨t, 3, none⟩ (.int .u64 (i2 : Int))).setCell ⟨t, 4, none⟩ (.int .u64 (t2 : Int))).setCell ⟨t, 5, none⟩ (.int .i64 k2)).setCell ⟨t, 6, none⟩ (.slice b2a b2n b2c)).setCell ⟨t, 7, none⟩ (.slice l2a l2n l2c)).setCell ⟨t, 13, none⟩ (.slice na nn nc)) t [82] ⟨⟨nd, tm, vo, ⟨i2, t2, k2, d2⟩, ll, cm, ro, le, el, vt, PE⟩, so⟩) := by
        have h7 := tu_store (s := ⟨⟨nd, tm, vo, ⟨i2, t2, k2, d2⟩, ll, cm, ro, le, el, vt, PE⟩, so⟩) (K := K) (w' := (((((wr.setCell ⟨t, 3, none⟩ (.int .u64 (i2 : Int))).setCell ⟨t, 4, none⟩ (.int .u64 (t2 : Int))).setCell ⟨t, 5, none⟩ (.int .i64 k2)).setCell ⟨t, 6, none⟩ (.slice b2a b2n b2c)).setCell ⟨t, 7, none⟩ (.slice l2a l2n l2c)).setCell ⟨t, 13, none⟩ (.slice na nn nc)) (z := ⟨⟨nd, tm, vo, ⟨i2, t2, k2, d2⟩, ll, cm, ro, le, el, vt, PE⟩, cur, (b2a, b2n, b2c), (l2a, l2n, l2c), (va, vn, vc), (na, nn, nc)⟩) (gs := gs) (os := (oa, on, oc)) ht0 T1 (fun b hb => (set_far (Ne.symm hb) _).trans ((set_far (Ne.symm hb) _).trans ((set_far (Ne.symm hb) _).trans ((set_far (Ne.symm hb) _).trans ((set_far (Ne.symm hb) _).trans (set_far (Ne.symm hb) _)))))) (by simp [World.setCell]) (((((((hb0.trans (hb0r.mono hb0.size)).setCell (p := ⟨t, 3, none⟩) ht0 (.int .u64 (i2 : Int))).setCell (p := ⟨t, 4, none⟩) ht0 (.int .u64 (t2 : Int))).setCell (p := ⟨t, 5, none⟩) ht0 (.int .i64 k2)).setCell (p := ⟨t, 6, none⟩) ht0 (.slice b2a b2n b2c)).setCell (p := ⟨t, 7, none⟩) ht0 (.slice l2a l2n l2c)).setCell (p := ⟨t, 13, none⟩) ht0 (.slice na nn nc)) (by simp [World.setCell, Array.getElem?_modify, T1, tc]) ⟨HCC.out.1.below hb0r, HCC.out.2.below hb0r, HP.out.2.2.1.below hb0r, hO.mono (Nat.le_trans hb0.size (Nat.le_of_lt hs4)), (HP.out.2.2.2.2.1.below hb0r), fun g hg => (HP.out.2.2.2.2.2 g hg).below hb0r⟩ rfl HOO.out (fun x hx => ⟨(hb0r.block x.1 (Array.getElem?_eq_some_iff.1 (HKK.out x hx).1).1).trans (HKK.out x hx).1, (HKK.out x hx).2⟩)
        exact ⟨h7.1, (Frm.of_below _ hb0r hb0.size).trans h7.2.1, Nat.le_trans hb0r.size h7.2.2⟩
      have kc := pcom_of w0 K _ t _ hR1.out.1 HM.out.1 HM.out.2.1 HM.out.2.2 hPL
      clear HP HKK HCC hO HS0
      go_wp2_with fail
      refine kc.mono ?_
      rintro e w8 ⟨rfl, hR8⟩
      have HR8 : Hid (TuR w0 K w w8 t [82] _) := hR1.out.trans hR8
      have kt := ptella_of w0 K w8 t _ hR8.1 (by rw [(com_log _).1, (com_log _).2.1]; exact HM.out.1) (by rw [(com_log _).2.1]; exact HM.out.2.1) (by rw [(com_log _).1]; exact HM.out.2.2) (by rw [com_out, (com_log _).2.2.1]; dsimp only; omega) (by rw [(com_log _).2.2.1]; exact HPN.out)
      rw [← HSET.out] at kt
      clear kc hR8 hR1 f0 o0 f1 o1 f2 o2 f3 o3 f4 o4 f5 o5 f6 o6 f7 o7 f8 o8 f9 o9 f10 o10 f11 o11 f12 o12 f13 o13 f14 o14 e0 e1 e2 e3 e4 HSET
      go_wp2_with fail
      refine kt.mono ?_
      rintro e w9 ⟨rfl, hR9⟩
      have HR9 : Hid _ := (HR8.out.mono (T' := [82, 34]) (by simp)).trans hR9
      clear kt hR9
      go_wp2
      go_end0
      exact ⟨rfl, HR9.out⟩
end Go.Proofs.YtncoandnelgkeaaGreat

