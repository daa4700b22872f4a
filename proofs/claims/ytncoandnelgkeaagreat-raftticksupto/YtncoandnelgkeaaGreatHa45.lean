import Derived.Test.YtncoandnelgkeaaGreatHa39
import Derived.Test.YtncoandnelgkeaaGreatHa44
/- The document's Tick, case by case. -/
namespace Go.Proofs.YtncoandnelgkeaaGreat
open Go.RowKit QuorumMath RlogMath RaftMath
set_option maxRecDepth 100000
set_option linter.unusedSimpArgs false
set_option linter.unusedVariables false

set_option maxHeartbeats 8000000 in
theorem rtick_ly2 (n : Nat) (r : Mr) (v : Value) (w : World) (hS : RsV n w v r) (hn : n ≤ w.heap.size) (hbo : OkM r.base) (hlo : ∀ e ∈ r.log, OkM e) (hlg : r.log.length ≤ 1000000) (hpl : r.peers.length ≤ 1000000) (hvl : (votR r).length ≤ 1000) (hnd : 1 ≤ r.node ∧ r.node ≤ 7) (hel : 0 ≤ r.elapsed ∧ r.elapsed ≤ 1000) (hnx : ∀ p ∈ r.peers, p.next < 18446744073709551616) (h1 : ¬ r.elapsed < 1000) (h2 : r.role = 2) (h3 : 2 ≤ (if r.elapsed < 1000 then r.elapsed + 1 else r.elapsed)) : Calls Tryz.prog 23 #[v] w fun e w' => ∃ v', e = .returned v' ∧ StV n w' v' (tickR r) ∧ Below w.heap.size w w' := by
  obtain ⟨z, rfl, hz, hR⟩ := hS
  obtain ⟨r', zs, ⟨ba, bn, bc⟩, ⟨la, ln, lc⟩, ⟨va, vn, vc⟩, ⟨pa, pn, pc⟩⟩ := z
  obtain rfl : r' = r := hz
  obtain ⟨nd, tm, vo, ⟨bi, bt, bk, bd⟩, lg, cm, ro, le, el, vt, pe⟩ := r'
  dsimp only [votR] at *
  dsimp only [rv]
  have hml : mes zs = lg := hR.2.2.1
  have hzl : zs.length ≤ 1000000 := by have := congrArg List.length hml; rw [List.length_map] at this; omega
  have hzo := okz_of hml hlo
  have HV : Hid (∀ W, Below w.heap.size w W → _) := fun W hW => rvot_of (⟨bi, bt, bk, bd⟩, ba, bn, bc) zs (.slice la ln lc) W (hR.1.below hW).v (hR.2.1.below hW).v ⟨hbo.1, hbo.2.1, hbo.2.2.1⟩ (fun z hz => (hzo z hz).1) (by omega) hbo.2.2.2 (fun z hz => (hzo z hz).2)
  rw [hml] at HV
  obtain ⟨e2, he2⟩ : ∃ e2, e2 = if el < 1000 then el + 1 else el := ⟨_, rfl⟩
  rw [← he2] at h3
  have hR : RaV n w ⟨⟨nd, tm, vo, ⟨bi, bt, bk, bd⟩, lg, cm, ro, le, e2, vt, pe⟩, zs, (ba, bn, bc), (la, ln, lc), (va, vn, vc), (pa, pn, pc)⟩ := hR
  have HTK : Hid (tickR ⟨nd, tm, vo, ⟨bi, bt, bk, bd⟩, lg, cm, ro, le, el, vt, pe⟩ = if ro = 2 then (if 2 ≤ e2 then tellAllR ⟨⟨nd, tm, vo, ⟨bi, bt, bk, bd⟩, lg, cm, ro, le, 0, vt, pe⟩, []⟩ else ⟨⟨nd, tm, vo, ⟨bi, bt, bk, bd⟩, lg, cm, ro, le, e2, vt, pe⟩, []⟩) else if 10 + 2 * nd ≤ e2 ∧ tm < 4611686018427387904 ∧ nd ∈ votM ⟨bi, bt, bk, bd⟩ lg then askR ⟨⟨nd, tm, vo, ⟨bi, bt, bk, bd⟩, lg, cm, ro, le, e2, vt, pe⟩, []⟩ else ⟨⟨nd, tm, vo, ⟨bi, bt, bk, bd⟩, lg, cm, ro, le, e2, vt, pe⟩, []⟩) := by show _ = _; rw [he2]; rfl
  obtain ⟨V, hV⟩ : ∃ V, Hid (V = votM (⟨bi, bt, bk, bd⟩ : Me) lg) := ⟨_, rfl⟩
  rw [← hV.out] at HV HTK hvl
  have hel2 : e2 ≤ 1000 ∧ 0 ≤ e2 := by rw [he2]; split <;> omega
  clear hml hzl hzo
  obtain rfl : e2 = el := by rw [he2, if_neg h1]
  clear he2
  have E : Hid (_ = _) := HTK.out.trans ((if_pos h2).trans (if_pos h3))
  obtain ⟨hsz, B1, B2, B3, hb3⟩ := three_box w (.cells #[.int .i64 nd, .int .u64 (tm : Int), .int .i64 vo, .int .u64 (bi : Int), .int .u64 (bt : Int), .int .i64 bk, .slice ba bn bc, .slice la ln lc, .int .u64 (cm : Int), .int .i64 ro, .int .i64 le, .int .i64 e2, .slice va vn vc, .slice pa pn pc] 32) (.cells #[.int .i64 0, .int .u64 0, .int .i64 0, .int .u64 0, .int .u64 0, .int .i64 0, .slice none 0 0, .slice none 0 0, .int .u64 0, .int .i64 0, .int .i64 0, .int .i64 0, .slice none 0 0, .slice none 0 0, .slice none 0 0] 54) (.cells #[.int .i64 nd, .int .u64 (tm : Int), .int .i64 vo, .int .u64 (bi : Int), .int .u64 (bt : Int), .int .i64 bk, .slice ba bn bc, .slice la ln lc, .int .u64 (cm : Int), .int .i64 ro, .int .i64 le, .int .i64 0, .slice va vn vc, .slice pa pn pc, .slice none 0 0] 54)
  have hS3 : StV n _ (.agg #[.int .i64 nd, .int .u64 (tm : Int), .int .i64 vo, .int .u64 (bi : Int), .int .u64 (bt : Int), .int .i64 bk, .slice ba bn bc, .slice la ln lc, .int .u64 (cm : Int), .int .i64 ro, .int .i64 le, .int .i64 0, .slice va vn vc, .slice pa pn pc, .slice none 0 0]) ⟨⟨nd, tm, vo, ⟨bi, bt, bk, bd⟩, lg, cm, ro, le, 0, vt, pe⟩, []⟩ := ⟨⟨⟨nd, tm, vo, ⟨bi, bt, bk, bd⟩, lg, cm, ro, le, 0, vt, pe⟩, zs, (ba, bn, bc), (la, ln, lc), (va, vn, vc), (pa, pn, pc)⟩, [], (none, 0, 0), rfl, rfl, hR.below hb3, ⟨RdN.nil _ _ _ _, by simp⟩, rfl⟩
  have kt := tella_of n _ _ _ hS3 (by rw [hsz]; omega) (by dsimp only; simp; omega) (by dsimp only; omega) hnx
  rw [← E.out] at kt
  subst h2
  clear hS3 hR E HTK
  go_enter Tryz.func23, Tryz.ntmps23
  go_wp2_with fail
  refine kt.mono ?_
  rintro e w6 ⟨v6, rfl, hS6, hb6⟩
  rw [hsz] at hb6
  have g2 := (hb6.block (w.heap.size + 1) (by omega)).trans B2
  have g3 := (hb6.block (w.heap.size + 1 + 1) (by omega)).trans B3
  have hb06 := hb3.trans (hb6.mono (by omega))
  clear kt B1 B2 B3 hsz hb3
  obtain ⟨cs, rfl, h15, hone⟩ := hS6.shape
  have HF3 := setRow_heap _ _ _ cs _ _ g3
  have g2' := (setRow_other w6 (w.heap.size + 1 + 1) (w.heap.size + 1) cs (by omega)).trans g2
  have HF := setRow_heap _ _ _ cs _ _ g2'
  have hbf := below_row (below_row hb06 (g := w.heap.size + 1 + 1) (by omega) cs) (g := w.heap.size + 1) (by omega) cs
  have hSf := (hS6.frm (Frm.row (n := n) (by omega) g3 cs) (by decide)).frm (Frm.row (n := n) (by omega) g2' cs) (by decide)
  go_wp2_with (first | refine wpList_store_row rfl 54 _ _ rfl (w.heap.size + 1 + 1) cs rfl rfl _ _ g3 (by rw [h15]; exact sizeSt) (by rw [h15]; rfl) hone ?_ | refine wpList_load_row rfl 54 _ rfl (w.heap.size + 1 + 1) rfl _ _ _ _ HF3 Tryz.underlying54 rfl (by rw [h15]; exact sizeSt) ?_ | refine wpList_store_row rfl 54 _ _ rfl (w.heap.size + 1) cs rfl rfl _ _ g2' (by rw [h15]; exact sizeSt) (by rw [h15]; rfl) hone ?_)
  (try simp only [Exit.inBlock, Exit.then])
  refine bodyPost_ret (results_stv rfl _ _ (w.heap.size + 1) cs h15 rfl HF) rfl ?_
  exact ⟨_, rfl, hSf, hbf⟩
set_option maxHeartbeats 8000000 in
theorem rtick_b2 (n : Nat) (r : Mr) (v : Value) (w : World) (hS : RsV n w v r) (hn : n ≤ w.heap.size) (hbo : OkM r.base) (hlo : ∀ e ∈ r.log, OkM e) (hlg : r.log.length ≤ 1000000) (hpl : r.peers.length ≤ 1000000) (hvl : (votR r).length ≤ 1000) (hnd : 1 ≤ r.node ∧ r.node ≤ 7) (hel : 0 ≤ r.elapsed ∧ r.elapsed ≤ 1000) (hnx : ∀ p ∈ r.peers, p.next < 18446744073709551616) (h1 : ¬ r.elapsed < 1000) (h2 : ¬ r.role = 2) (h3 : 10 + 2 * r.node ≤ (if r.elapsed < 1000 then r.elapsed + 1 else r.elapsed)) (h4 : ¬ r.term < 4611686018427387904) : Calls Tryz.prog 23 #[v] w fun e w' => ∃ v', e = .returned v' ∧ StV n w' v' (tickR r) ∧ Below w.heap.size w w' := by
  obtain ⟨z, rfl, hz, hR⟩ := hS
  obtain ⟨r', zs, ⟨ba, bn, bc⟩, ⟨la, ln, lc⟩, ⟨va, vn, vc⟩, ⟨pa, pn, pc⟩⟩ := z
  obtain rfl : r' = r := hz
  obtain ⟨nd, tm, vo, ⟨bi, bt, bk, bd⟩, lg, cm, ro, le, el, vt, pe⟩ := r'
  dsimp only [votR] at *
  dsimp only [rv]
  have hml : mes zs = lg := hR.2.2.1
  have hzl : zs.length ≤ 1000000 := by have := congrArg List.length hml; rw [List.length_map] at this; omega
  have hzo := okz_of hml hlo
  have HV : Hid (∀ W, Below w.heap.size w W → _) := fun W hW => rvot_of (⟨bi, bt, bk, bd⟩, ba, bn, bc) zs (.slice la ln lc) W (hR.1.below hW).v (hR.2.1.below hW).v ⟨hbo.1, hbo.2.1, hbo.2.2.1⟩ (fun z hz => (hzo z hz).1) (by omega) hbo.2.2.2 (fun z hz => (hzo z hz).2)
  rw [hml] at HV
  obtain ⟨e2, he2⟩ : ∃ e2, e2 = if el < 1000 then el + 1 else el := ⟨_, rfl⟩
  rw [← he2] at h3
  have hR : RaV n w ⟨⟨nd, tm, vo, ⟨bi, bt, bk, bd⟩, lg, cm, ro, le, e2, vt, pe⟩, zs, (ba, bn, bc), (la, ln, lc), (va, vn, vc), (pa, pn, pc)⟩ := hR
  have HTK : Hid (tickR ⟨nd, tm, vo, ⟨bi, bt, bk, bd⟩, lg, cm, ro, le, el, vt, pe⟩ = if ro = 2 then (if 2 ≤ e2 then tellAllR ⟨⟨nd, tm, vo, ⟨bi, bt, bk, bd⟩, lg, cm, ro, le, 0, vt, pe⟩, []⟩ else ⟨⟨nd, tm, vo, ⟨bi, bt, bk, bd⟩, lg, cm, ro, le, e2, vt, pe⟩, []⟩) else if 10 + 2 * nd ≤ e2 ∧ tm < 4611686018427387904 ∧ nd ∈ votM ⟨bi, bt, bk, bd⟩ lg then askR ⟨⟨nd, tm, vo, ⟨bi, bt, bk, bd⟩, lg, cm, ro, le, e2, vt, pe⟩, []⟩ else ⟨⟨nd, tm, vo, ⟨bi, bt, bk, bd⟩, lg, cm, ro, le, e2, vt, pe⟩, []⟩) := by show _ = _; rw [he2]; rfl
  obtain ⟨V, hV⟩ : ∃ V, Hid (V = votM (⟨bi, bt, bk, bd⟩ : Me) lg) := ⟨_, rfl⟩
  rw [← hV.out] at HV HTK hvl
  have hel2 : e2 ≤ 1000 ∧ 0 ≤ e2 := by rw [he2]; split <;> omega
  clear hml hzl hzo
  obtain rfl : e2 = el := by rw [he2, if_neg h1]
  clear he2
  have E : Hid (_ = _) := HTK.out.trans ((if_neg h2).trans (if_neg (by omega)))
  have hcm : decide (10 + 2 * nd ≤ e2) = true := by simpa using h3
  have hct : decide ((tm : Int) < 4611686018427387904) = false := by simp; omega
  have hw1 : IntKind.i64.wrap (2 * nd) = 2 * nd := IntWalk.i64_in _ (by omega)
  have hw2 : IntKind.i64.wrap (10 + 2 * nd) = 10 + 2 * nd := IntWalk.i64_in _ (by omega)
  obtain ⟨hsz, B1, B2, B3, hb3⟩ := three_box w (.cells #[.int .i64 nd, .int .u64 (tm : Int), .int .i64 vo, .int .u64 (bi : Int), .int .u64 (bt : Int), .int .i64 bk, .slice ba bn bc, .slice la ln lc, .int .u64 (cm : Int), .int .i64 ro, .int .i64 le, .int .i64 e2, .slice va vn vc, .slice pa pn pc] 32) (.cells #[.int .i64 0, .int .u64 0, .int .i64 0, .int .u64 0, .int .u64 0, .int .i64 0, .slice none 0 0, .slice none 0 0, .int .u64 0, .int .i64 0, .int .i64 0, .int .i64 0, .slice none 0 0, .slice none 0 0, .slice none 0 0] 54) (.cells #[.int .i64 nd, .int .u64 (tm : Int), .int .i64 vo, .int .u64 (bi : Int), .int .u64 (bt : Int), .int .i64 bk, .slice ba bn bc, .slice la ln lc, .int .u64 (cm : Int), .int .i64 ro, .int .i64 le, .int .i64 e2, .slice va vn vc, .slice pa pn pc, .slice none 0 0] 54)
  have hS5 : Hid (StV n _ (.agg #[.int .i64 nd, .int .u64 (tm : Int), .int .i64 vo, .int .u64 (bi : Int), .int .u64 (bt : Int), .int .i64 bk, .slice ba bn bc, .slice la ln lc, .int .u64 (cm : Int), .int .i64 ro, .int .i64 le, .int .i64 e2, .slice va vn vc, .slice pa pn pc, .slice none 0 0]) ⟨⟨nd, tm, vo, ⟨bi, bt, bk, bd⟩, lg, cm, ro, le, e2, vt, pe⟩, []⟩) := ⟨⟨⟨nd, tm, vo, ⟨bi, bt, bk, bd⟩, lg, cm, ro, le, e2, vt, pe⟩, zs, (ba, bn, bc), (la, ln, lc), (va, vn, vc), (pa, pn, pc)⟩, [], (none, 0, 0), rfl, rfl, hR.below hb3, ⟨RdN.nil _ _ _ _, by simp⟩, rfl⟩
  have h2b : (ro == 2) = false := by simpa using h2
  clear HV HTK
  clear hR
  go_enter Tryz.func23, Tryz.ntmps23
  go_wp2
  (try simp only [Exit.inBlock, Exit.then])
  generalize ((w.alloc (.cells #[.int .i64 nd, .int .u64 (tm : Int), .int .i64 vo, .int .u64 (bi : Int), .int .u64 (bt : Int), .int .i64 bk, .slice ba bn bc, .slice la ln lc, .int .u64 (cm : Int), .int .i64 ro, .int .i64 le, .int .i64 e2, .slice va vn vc, .slice pa pn pc] 32)).alloc (.cells #[.int .i64 0, .int .u64 0, .int .i64 0, .int .u64 0, .int .u64 0, .int .i64 0, .slice none 0 0, .slice none 0 0, .int .u64 0, .int .i64 0, .int .i64 0, .int .i64 0, .slice none 0 0, .slice none 0 0, .slice none 0 0] 54)).alloc (.cells #[.int .i64 nd, .int .u64 (tm : Int), .int .i64 vo, .int .u64 (bi : Int), .int .u64 (bt : Int), .int .i64 bk, .slice ba bn bc, .slice la ln lc, .int .u64 (cm : Int), .int .i64 ro, .int .i64 le, .int .i64 e2, .slice va vn vc, .slice pa pn pc, .slice none 0 0] 54) = w5 at *
  refine wp_region_L (fun W => Below w5.heap.size w5 W) [] (by kernel_rfl) ?_
  have hbd : Below w5.heap.size w5 w5.drew := (Below.refl _ w5).drew
  have HCL : Hid (∀ W, Below w5.heap.size w5 W → _) := fun W hW => r14_cells ((hW.block w.heap.size (by omega)).trans B1)
  have HSL : Hid (∀ W, Below w5.heap.size w5 W → _) := fun W hW => r15_cells ((hW.block (w.heap.size + 1 + 1) (by omega)).trans B3)
  generalize w5.drew = wd at *
  refine wpAnyL_take 0 rfl (by kernel_rfl) (by kernel_rfl) (by kernel_rfl) (by kernel_rfl) (fun _ _ _ h => h) (wanted_none rfl) (by intro w' hS'; have hz := hS'; obtain ⟨-, c0, c1, c2, c3, c4, c5, c6, c7, c8, c9, c10, c11, c12, c13⟩ := HCL.out _ hz; obtain ⟨-, d0, d1, d2, d3, d4, d5, d6, d7, d8, d9, d10, d11, d12, d13, d14⟩ := HSL.out _ hz; go_simp <;> rfl) hbd ?_
  try simp only [List.getElem_toArray, List.getElem_cons_succ, List.getElem_cons_zero, Act.put, List.setIfInBounds_toArray, List.set_cons_zero, List.set_cons_succ]
  refine wpAnyL_take 1 rfl (by kernel_rfl) (by kernel_rfl) (by kernel_rfl) (by kernel_rfl) (fun _ _ _ h => h) (wanted_none rfl) (by intro w' hS'; have hz := hS'; obtain ⟨-, c0, c1, c2, c3, c4, c5, c6, c7, c8, c9, c10, c11, c12, c13⟩ := HCL.out _ hz; obtain ⟨-, d0, d1, d2, d3, d4, d5, d6, d7, d8, d9, d10, d11, d12, d13, d14⟩ := HSL.out _ hz; go_simp <;> rfl) hbd ?_
  try simp only [List.getElem_toArray, List.getElem_cons_succ, List.getElem_cons_zero, Act.put, List.setIfInBounds_toArray, List.set_cons_zero, List.set_cons_succ]
  refine wpAnyL_take 2 rfl (by kernel_rfl) (by kernel_rfl) (by kernel_rfl) (by kernel_rfl) (fun _ _ _ h => h) (wanted_none rfl) (by intro w' hS'; have hz := hS'; obtain ⟨-, c0, c1, c2, c3, c4, c5, c6, c7, c8, c9, c10, c11, c12, c13⟩ := HCL.out _ hz; obtain ⟨-, d0, d1, d2, d3, d4, d5, d6, d7, d8, d9, d10, d11, d12, d13, d14⟩ := HSL.out _ hz; go_simp <;> rfl) hbd ?_
  try simp only [List.getElem_toArray, List.getElem_cons_succ, List.getElem_cons_zero, Act.put, List.setIfInBounds_toArray, List.set_cons_zero, List.set_cons_succ]
  refine wpAnyL_take 3 rfl (by kernel_rfl) (by kernel_rfl) (by kernel_rfl) (by kernel_rfl) (fun _ _ _ h => h) (wanted_none rfl) (by intro w' hS'; have hz := hS'; obtain ⟨-, c0, c1, c2, c3, c4, c5, c6, c7, c8, c9, c10, c11, c12, c13⟩ := HCL.out _ hz; obtain ⟨-, d0, d1, d2, d3, d4, d5, d6, d7, d8, d9, d10, d11, d12, d13, d14⟩ := HSL.out _ hz; go_simp <;> rfl) hbd ?_
  try simp only [List.getElem_toArray, List.getElem_cons_succ, List.getElem_cons_zero, Act.put, List.setIfInBounds_toArray, List.set_cons_zero, List.set_cons_succ]
  refine wpAnyL_take 4 rfl (by kernel_rfl) (by kernel_rfl) (by kernel_rfl) (by kernel_rfl) (fun _ _ _ h => h) (wanted_none rfl) (by intro w' hS'; have hz := hS'; obtain ⟨-, c0, c1, c2, c3, c4, c5, c6, c7, c8, c9, c10, c11, c12, c13⟩ := HCL.out _ hz; obtain ⟨-, d0, d1, d2, d3, d4, d5, d6, d7, d8, d9, d10, d11, d12, d13, d14⟩ := HSL.out _ hz; go_simp <;> rfl) hbd ?_
  try simp only [List.getElem_toArray, List.getElem_cons_succ, List.getElem_cons_zero, Act.put, List.setIfInBounds_toArray, List.set_cons_zero, List.set_cons_succ]
  refine wpAnyL_take 5 rfl (by kernel_rfl) (by kernel_rfl) (by kernel_rfl) (by kernel_rfl) (fun _ _ _ h => h) (wanted_none rfl) (by intro w' hS'; have hz := hS'; obtain ⟨-, c0, c1, c2, c3, c4, c5, c6, c7, c8, c9, c10, c11, c12, c13⟩ := HCL.out _ hz; obtain ⟨-, d0, d1, d2, d3, d4, d5, d6, d7, d8, d9, d10, d11, d12, d13, d14⟩ := HSL.out _ hz; go_simp <;> rfl) hbd ?_
  try simp only [List.getElem_toArray, List.getElem_cons_succ, List.getElem_cons_zero, Act.put, List.setIfInBounds_toArray, List.set_cons_zero, List.set_cons_succ]
  refine wpAnyL_take 6 rfl (by kernel_rfl) (by kernel_rfl) (by kernel_rfl) (by kernel_rfl) (fun _ _ _ h => h) (wanted_none rfl) (by intro w' hS'; have hz := hS'; obtain ⟨-, c0, c1, c2, c3, c4, c5, c6, c7, c8, c9, c10, c11, c12, c13⟩ := HCL.out _ hz; obtain ⟨-, d0, d1, d2, d3, d4, d5, d6, d7, d8, d9, d10, d11, d12, d13, d14⟩ := HSL.out _ hz; go_simp <;> rfl) hbd ?_
  try simp only [List.getElem_toArray, List.getElem_cons_succ, List.getElem_cons_zero, Act.put, List.setIfInBounds_toArray, List.set_cons_zero, List.set_cons_succ]
  refine wpAnyL_take 7 rfl (by kernel_rfl) (by kernel_rfl) (by kernel_rfl) (by kernel_rfl) (fun _ _ _ h => h) (wanted_none rfl) (by intro w' hS'; have hz := hS'; obtain ⟨-, c0, c1, c2, c3, c4, c5, c6, c7, c8, c9, c10, c11, c12, c13⟩ := HCL.out _ hz; obtain ⟨-, d0, d1, d2, d3, d4, d5, d6, d7, d8, d9, d10, d11, d12, d13, d14⟩ := HSL.out _ hz; go_simp <;> rfl) hbd ?_
  try simp only [List.getElem_toArray, List.getElem_cons_succ, List.getElem_cons_zero, Act.put, List.setIfInBounds_toArray, List.set_cons_zero, List.set_cons_succ]
  refine wpAnyL_take 8 rfl (by kernel_rfl) (by kernel_rfl) (by kernel_rfl) (by kernel_rfl) (fun _ _ _ h => h) (wanted_none rfl) (by intro w' hS'; have hz := hS'; obtain ⟨-, c0, c1, c2, c3, c4, c5, c6, c7, c8, c9, c10, c11, c12, c13⟩ := HCL.out _ hz; obtain ⟨-, d0, d1, d2, d3, d4, d5, d6, d7, d8, d9, d10, d11, d12, d13, d14⟩ := HSL.out _ hz; go_simp <;> rfl) hbd ?_
  try simp only [List.getElem_toArray, List.getElem_cons_succ, List.getElem_cons_zero, Act.put, List.setIfInBounds_toArray, List.set_cons_zero, List.set_cons_succ]
  refine wpAnyL_take 9 rfl (by kernel_rfl) (by kernel_rfl) (by kernel_rfl) (by kernel_rfl) (fun _ _ _ h => h) (by kernel_rfl) (by intro w' hS'; have hz := hS'; obtain ⟨-, c0, c1, c2, c3, c4, c5, c6, c7, c8, c9, c10, c11, c12, c13⟩ := HCL.out _ hz; obtain ⟨-, d0, d1, d2, d3, d4, d5, d6, d7, d8, d9, d10, d11, d12, d13, d14⟩ := HSL.out _ hz; go_simp <;> rfl) hbd ?_
  try simp only [List.getElem_toArray, List.getElem_cons_succ, List.getElem_cons_zero, Act.put, List.setIfInBounds_toArray, List.set_cons_zero, List.set_cons_succ]
  refine wpAnyL_take 10 rfl (by kernel_rfl) (by kernel_rfl) (by kernel_rfl) (by kernel_rfl) (fun _ _ _ h => h) (by kernel_rfl) (by intro w' hS'; have hz := hS'; obtain ⟨-, c0, c1, c2, c3, c4, c5, c6, c7, c8, c9, c10, c11, c12, c13⟩ := HCL.out _ hz; obtain ⟨-, d0, d1, d2, d3, d4, d5, d6, d7, d8, d9, d10, d11, d12, d13, d14⟩ := HSL.out _ hz; go_simp <;> rfl) hbd ?_
  try simp only [List.getElem_toArray, List.getElem_cons_succ, List.getElem_cons_zero, Act.put, List.setIfInBounds_toArray, List.set_cons_zero, List.set_cons_succ]
  refine wpAnyL_take 11 rfl (by kernel_rfl) (by kernel_rfl) (by kernel_rfl) (by kernel_rfl) (fun _ _ _ h => h) (by kernel_rfl) (by intro w' hS'; have hz := hS'; obtain ⟨-, c0, c1, c2, c3, c4, c5, c6, c7, c8, c9, c10, c11, c12, c13⟩ := HCL.out _ hz; obtain ⟨-, d0, d1, d2, d3, d4, d5, d6, d7, d8, d9, d10, d11, d12, d13, d14⟩ := HSL.out _ hz; go_simp <;> rfl) hbd ?_
  try simp only [List.getElem_toArray, List.getElem_cons_succ, List.getElem_cons_zero, Act.put, List.setIfInBounds_toArray, List.set_cons_zero, List.set_cons_succ]
  refine wpAnyL_take 12 rfl (by kernel_rfl) (by kernel_rfl) (by kernel_rfl) (by kernel_rfl) (fun _ _ _ h => h) (wanted_none rfl) (by intro w' hS'; have hz := hS'; obtain ⟨-, c0, c1, c2, c3, c4, c5, c6, c7, c8, c9, c10, c11, c12, c13⟩ := HCL.out _ hz; obtain ⟨-, d0, d1, d2, d3, d4, d5, d6, d7, d8, d9, d10, d11, d12, d13, d14⟩ := HSL.out _ hz; go_simp <;> rfl) hbd ?_
  try simp only [List.getElem_toArray, List.getElem_cons_succ, List.getElem_cons_zero, Act.put, List.setIfInBounds_toArray, List.set_cons_zero, List.set_cons_succ]
  refine wpAnyL_take 13 rfl (by kernel_rfl) (by kernel_rfl) (by kernel_rfl) (by kernel_rfl) (fun _ _ _ h => h) (wanted_none rfl) (by intro w' hS'; have hz := hS'; obtain ⟨-, c0, c1, c2, c3, c4, c5, c6, c7, c8, c9, c10, c11, c12, c13⟩ := HCL.out _ hz; obtain ⟨-, d0, d1, d2, d3, d4, d5, d6, d7, d8, d9, d10, d11, d12, d13, d14⟩ := HSL.out _ hz; go_simp <;> rfl) hbd ?_
  try simp only [List.getElem_toArray, List.getElem_cons_succ, List.getElem_cons_zero, Act.put, List.setIfInBounds_toArray, List.set_cons_zero, List.set_cons_succ]
  refine wpAnyL_skip 14 rfl (by kernel_rfl) (by kernel_rfl) (by kernel_rfl) (by kernel_rfl) (fun _ _ _ h => h) (by kernel_rfl) hbd ?_
  try simp only [List.getElem_toArray, List.getElem_cons_succ, List.getElem_cons_zero, Act.put, List.setIfInBounds_toArray, List.set_cons_zero, List.set_cons_succ]
  refine wpAnyL_skip 15 rfl (by kernel_rfl) (by kernel_rfl) (by kernel_rfl) (by kernel_rfl) (fun _ _ _ h => h) (by kernel_rfl) hbd ?_
  try simp only [List.getElem_toArray, List.getElem_cons_succ, List.getElem_cons_zero, Act.put, List.setIfInBounds_toArray, List.set_cons_zero, List.set_cons_succ]
  refine wpAnyL_skip 16 rfl (by kernel_rfl) (by kernel_rfl) (by kernel_rfl) (by kernel_rfl) (fun _ _ _ h => h) (by kernel_rfl) hbd ?_
  try simp only [List.getElem_toArray, List.getElem_cons_succ, List.getElem_cons_zero, Act.put, List.setIfInBounds_toArray, List.set_cons_zero, List.set_cons_succ]
  refine wpAnyL_skip 17 rfl (by kernel_rfl) (by kernel_rfl) (by kernel_rfl) (by kernel_rfl) (fun _ _ _ h => h) (by kernel_rfl) hbd ?_
  try simp only [List.getElem_toArray, List.getElem_cons_succ, List.getElem_cons_zero, Act.put, List.setIfInBounds_toArray, List.set_cons_zero, List.set_cons_succ]
  refine wpAnyL_skip 18 rfl (by kernel_rfl) (by kernel_rfl) (by kernel_rfl) (by kernel_rfl) (fun _ _ _ h => h) (by kernel_rfl) hbd ?_
  try simp only [List.getElem_toArray, List.getElem_cons_succ, List.getElem_cons_zero, Act.put, List.setIfInBounds_toArray, List.set_cons_zero, List.set_cons_succ]
  refine wpAnyL_skip 19 rfl (by kernel_rfl) (by kernel_rfl) (by kernel_rfl) (by kernel_rfl) (fun _ _ _ h => h) (by kernel_rfl) hbd ?_
  try simp only [List.getElem_toArray, List.getElem_cons_succ, List.getElem_cons_zero, Act.put, List.setIfInBounds_toArray, List.set_cons_zero, List.set_cons_succ]
  refine wpAnyL_take 20 rfl (by kernel_rfl) (by kernel_rfl) (by kernel_rfl) (by kernel_rfl) (fun _ _ _ h => h) (wanted_none rfl) (by intro w' hS'; have hz := hS'; obtain ⟨-, c0, c1, c2, c3, c4, c5, c6, c7, c8, c9, c10, c11, c12, c13⟩ := HCL.out _ hz; obtain ⟨-, d0, d1, d2, d3, d4, d5, d6, d7, d8, d9, d10, d11, d12, d13, d14⟩ := HSL.out _ hz; go_simp <;> rfl) hbd ?_
  try simp only [List.getElem_toArray, List.getElem_cons_succ, List.getElem_cons_zero, Act.put, List.setIfInBounds_toArray, List.set_cons_zero, List.set_cons_succ]
  refine wpAnyL_done (by kernel_rfl) (NoPanic.normal ?_) _
  have hbx := hb3.trans (hbd.mono hb3.size)
  have g1 := (hbd.block (w.heap.size + 1 + 1) (by omega)).trans B3
  have g2 := (hbd.block (w.heap.size + 1) (by omega)).trans B2
  have hSx := hS5.out.below hbd
  generalize hwx : wd = wX at *
  clear hwx
  have HF := setRow_heap _ _ _ #[.int .i64 nd, .int .u64 (tm : Int), .int .i64 vo, .int .u64 (bi : Int), .int .u64 (bt : Int), .int .i64 bk, .slice ba bn bc, .slice la ln lc, .int .u64 (cm : Int), .int .i64 ro, .int .i64 le, .int .i64 e2, .slice va vn vc, .slice pa pn pc, .slice none 0 0] _ _ g2
  have hbf := below_row hbx (g := w.heap.size + 1) (by omega) #[.int .i64 nd, .int .u64 (tm : Int), .int .i64 vo, .int .u64 (bi : Int), .int .u64 (bt : Int), .int .i64 bk, .slice ba bn bc, .slice la ln lc, .int .u64 (cm : Int), .int .i64 ro, .int .i64 le, .int .i64 e2, .slice va vn vc, .slice pa pn pc, .slice none 0 0]
  have hSf := hSx.frm (Frm.row (n := n) (by omega) g2 #[.int .i64 nd, .int .u64 (tm : Int), .int .i64 vo, .int .u64 (bi : Int), .int .u64 (bt : Int), .int .i64 bk, .slice ba bn bc, .slice la ln lc, .int .u64 (cm : Int), .int .i64 ro, .int .i64 le, .int .i64 e2, .slice va vn vc, .slice pa pn pc, .slice none 0 0]) (by decide)
  go_wp2_with (first | refine wpList_load_row rfl 54 _ rfl (w.heap.size + 1 + 1) rfl _ _ _ _ g1 Tryz.underlying54 rfl (by kernel_rfl) ?_ | refine wpList_store_row rfl 54 _ _ rfl (w.heap.size + 1) _ rfl rfl _ _ g2 (by kernel_rfl) rfl (by simp [Value.oneCell']) ?_)
  (try simp only [Exit.inBlock, Exit.then])
  refine bodyPost_ret (results_stv rfl _ _ (w.heap.size + 1) _ rfl rfl HF) rfl ?_
  exact ⟨_, rfl, by rw [E.out]; exact hSf, hbf⟩
set_option maxHeartbeats 8000000 in
theorem rtick_ct2 (n : Nat) (r : Mr) (v : Value) (w : World) (hS : RsV n w v r) (hn : n ≤ w.heap.size) (hbo : OkM r.base) (hlo : ∀ e ∈ r.log, OkM e) (hlg : r.log.length ≤ 1000000) (hpl : r.peers.length ≤ 1000000) (hvl : (votR r).length ≤ 1000) (hnd : 1 ≤ r.node ∧ r.node ≤ 7) (hel : 0 ≤ r.elapsed ∧ r.elapsed ≤ 1000) (hnx : ∀ p ∈ r.peers, p.next < 18446744073709551616) (h1 : ¬ r.elapsed < 1000) (h2 : ¬ r.role = 2) (h3 : 10 + 2 * r.node ≤ (if r.elapsed < 1000 then r.elapsed + 1 else r.elapsed)) (h4 : r.term < 4611686018427387904) (h5 : r.node ∈ votR r) : Calls Tryz.prog 23 #[v] w fun e w' => ∃ v', e = .returned v' ∧ StV n w' v' (tickR r) ∧ Below w.heap.size w w' := by
  obtain ⟨z, rfl, hz, hR⟩ := hS
  obtain ⟨r', zs, ⟨ba, bn, bc⟩, ⟨la, ln, lc⟩, ⟨va, vn, vc⟩, ⟨pa, pn, pc⟩⟩ := z
  obtain rfl : r' = r := hz
  obtain ⟨nd, tm, vo, ⟨bi, bt, bk, bd⟩, lg, cm, ro, le, el, vt, pe⟩ := r'
  dsimp only [votR] at *
  dsimp only [rv]
  have hml : mes zs = lg := hR.2.2.1
  have hzl : zs.length ≤ 1000000 := by have := congrArg List.length hml; rw [List.length_map] at this; omega
  have hzo := okz_of hml hlo
  have HV : Hid (∀ W, Below w.heap.size w W → _) := fun W hW => rvot_of (⟨bi, bt, bk, bd⟩, ba, bn, bc) zs (.slice la ln lc) W (hR.1.below hW).v (hR.2.1.below hW).v ⟨hbo.1, hbo.2.1, hbo.2.2.1⟩ (fun z hz => (hzo z hz).1) (by omega) hbo.2.2.2 (fun z hz => (hzo z hz).2)
  rw [hml] at HV
  obtain ⟨e2, he2⟩ : ∃ e2, e2 = if el < 1000 then el + 1 else el := ⟨_, rfl⟩
  rw [← he2] at h3
  have hR : RaV n w ⟨⟨nd, tm, vo, ⟨bi, bt, bk, bd⟩, lg, cm, ro, le, e2, vt, pe⟩, zs, (ba, bn, bc), (la, ln, lc), (va, vn, vc), (pa, pn, pc)⟩ := hR
  have HTK : Hid (tickR ⟨nd, tm, vo, ⟨bi, bt, bk, bd⟩, lg, cm, ro, le, el, vt, pe⟩ = if ro = 2 then (if 2 ≤ e2 then tellAllR ⟨⟨nd, tm, vo, ⟨bi, bt, bk, bd⟩, lg, cm, ro, le, 0, vt, pe⟩, []⟩ else ⟨⟨nd, tm, vo, ⟨bi, bt, bk, bd⟩, lg, cm, ro, le, e2, vt, pe⟩, []⟩) else if 10 + 2 * nd ≤ e2 ∧ tm < 4611686018427387904 ∧ nd ∈ votM ⟨bi, bt, bk, bd⟩ lg then askR ⟨⟨nd, tm, vo, ⟨bi, bt, bk, bd⟩, lg, cm, ro, le, e2, vt, pe⟩, []⟩ else ⟨⟨nd, tm, vo, ⟨bi, bt, bk, bd⟩, lg, cm, ro, le, e2, vt, pe⟩, []⟩) := by show _ = _; rw [he2]; rfl
  obtain ⟨V, hV⟩ : ∃ V, Hid (V = votM (⟨bi, bt, bk, bd⟩ : Me) lg) := ⟨_, rfl⟩
  rw [← hV.out] at HV HTK hvl
  rw [← hV.out] at h5
  have hel2 : e2 ≤ 1000 ∧ 0 ≤ e2 := by rw [he2]; split <;> omega
  clear hml hzl hzo
  obtain rfl : e2 = el := by rw [he2, if_neg h1]
  clear he2
  have E : Hid (_ = _) := HTK.out.trans ((if_neg h2).trans (if_pos ⟨h3, h4, h5⟩))
  have hcm : decide (10 + 2 * nd ≤ e2) = true := by simpa using h3
  have hct : decide ((tm : Int) < 4611686018427387904) = true := by simp; omega
  have hw1 : IntKind.i64.wrap (2 * nd) = 2 * nd := IntWalk.i64_in _ (by omega)
  have hw2 : IntKind.i64.wrap (10 + 2 * nd) = 10 + 2 * nd := IntWalk.i64_in _ (by omega)
  obtain ⟨hsz, B1, B2, B3, hb3⟩ := three_box w (.cells #[.int .i64 nd, .int .u64 (tm : Int), .int .i64 vo, .int .u64 (bi : Int), .int .u64 (bt : Int), .int .i64 bk, .slice ba bn bc, .slice la ln lc, .int .u64 (cm : Int), .int .i64 ro, .int .i64 le, .int .i64 e2, .slice va vn vc, .slice pa pn pc] 32) (.cells #[.int .i64 0, .int .u64 0, .int .i64 0, .int .u64 0, .int .u64 0, .int .i64 0, .slice none 0 0, .slice none 0 0, .int .u64 0, .int .i64 0, .int .i64 0, .int .i64 0, .slice none 0 0, .slice none 0 0, .slice none 0 0] 54) (.cells #[.int .i64 nd, .int .u64 (tm : Int), .int .i64 vo, .int .u64 (bi : Int), .int .u64 (bt : Int), .int .i64 bk, .slice ba bn bc, .slice la ln lc, .int .u64 (cm : Int), .int .i64 ro, .int .i64 le, .int .i64 e2, .slice va vn vc, .slice pa pn pc, .slice none 0 0] 54)
  have hS5 : Hid (StV n _ (.agg #[.int .i64 nd, .int .u64 (tm : Int), .int .i64 vo, .int .u64 (bi : Int), .int .u64 (bt : Int), .int .i64 bk, .slice ba bn bc, .slice la ln lc, .int .u64 (cm : Int), .int .i64 ro, .int .i64 le, .int .i64 e2, .slice va vn vc, .slice pa pn pc, .slice none 0 0]) ⟨⟨nd, tm, vo, ⟨bi, bt, bk, bd⟩, lg, cm, ro, le, e2, vt, pe⟩, []⟩) := ⟨⟨⟨nd, tm, vo, ⟨bi, bt, bk, bd⟩, lg, cm, ro, le, e2, vt, pe⟩, zs, (ba, bn, bc), (la, ln, lc), (va, vn, vc), (pa, pn, pc)⟩, [], (none, 0, 0), rfl, rfl, hR.below hb3, ⟨RdN.nil _ _ _ _, by simp⟩, rfl⟩
  have h2b : (ro == 2) = false := by simpa using h2
  clear HTK
  clear hR
  go_enter Tryz.func23, Tryz.ntmps23
  go_wp2
  (try simp only [Exit.inBlock, Exit.then])
  generalize ((w.alloc (.cells #[.int .i64 nd, .int .u64 (tm : Int), .int .i64 vo, .int .u64 (bi : Int), .int .u64 (bt : Int), .int .i64 bk, .slice ba bn bc, .slice la ln lc, .int .u64 (cm : Int), .int .i64 ro, .int .i64 le, .int .i64 e2, .slice va vn vc, .slice pa pn pc] 32)).alloc (.cells #[.int .i64 0, .int .u64 0, .int .i64 0, .int .u64 0, .int .u64 0, .int .i64 0, .slice none 0 0, .slice none 0 0, .int .u64 0, .int .i64 0, .int .i64 0, .int .i64 0, .slice none 0 0, .slice none 0 0, .slice none 0 0] 54)).alloc (.cells #[.int .i64 nd, .int .u64 (tm : Int), .int .i64 vo, .int .u64 (bi : Int), .int .u64 (bt : Int), .int .i64 bk, .slice ba bn bc, .slice la ln lc, .int .u64 (cm : Int), .int .i64 ro, .int .i64 le, .int .i64 e2, .slice va vn vc, .slice pa pn pc, .slice none 0 0] 54) = w5 at *
  refine wp_region_L (fun W => Below w5.heap.size w5 W) [] (by kernel_rfl) ?_
  have hbd : Below w5.heap.size w5 w5.drew := (Below.refl _ w5).drew
  have HCL : Hid (∀ W, Below w5.heap.size w5 W → _) := fun W hW => r14_cells ((hW.block w.heap.size (by omega)).trans B1)
  have HSL : Hid (∀ W, Below w5.heap.size w5 W → _) := fun W hW => r15_cells ((hW.block (w.heap.size + 1 + 1) (by omega)).trans B3)
  generalize w5.drew = wd at *
  have kv := HV.out wd (hb3.trans (hbd.mono hb3.size))
  dsimp only [lgv] at kv
  refine wpAnyL_take 0 rfl (by kernel_rfl) (by kernel_rfl) (by kernel_rfl) (by kernel_rfl) (fun _ _ _ h => h) (wanted_none rfl) (by intro w' hS'; have hz := hS'; obtain ⟨-, c0, c1, c2, c3, c4, c5, c6, c7, c8, c9, c10, c11, c12, c13⟩ := HCL.out _ hz; obtain ⟨-, d0, d1, d2, d3, d4, d5, d6, d7, d8, d9, d10, d11, d12, d13, d14⟩ := HSL.out _ hz; go_simp <;> rfl) hbd ?_
  try simp only [List.getElem_toArray, List.getElem_cons_succ, List.getElem_cons_zero, Act.put, List.setIfInBounds_toArray, List.set_cons_zero, List.set_cons_succ]
  refine wpAnyL_take 1 rfl (by kernel_rfl) (by kernel_rfl) (by kernel_rfl) (by kernel_rfl) (fun _ _ _ h => h) (wanted_none rfl) (by intro w' hS'; have hz := hS'; obtain ⟨-, c0, c1, c2, c3, c4, c5, c6, c7, c8, c9, c10, c11, c12, c13⟩ := HCL.out _ hz; obtain ⟨-, d0, d1, d2, d3, d4, d5, d6, d7, d8, d9, d10, d11, d12, d13, d14⟩ := HSL.out _ hz; go_simp <;> rfl) hbd ?_
  try simp only [List.getElem_toArray, List.getElem_cons_succ, List.getElem_cons_zero, Act.put, List.setIfInBounds_toArray, List.set_cons_zero, List.set_cons_succ]
  refine wpAnyL_take 2 rfl (by kernel_rfl) (by kernel_rfl) (by kernel_rfl) (by kernel_rfl) (fun _ _ _ h => h) (wanted_none rfl) (by intro w' hS'; have hz := hS'; obtain ⟨-, c0, c1, c2, c3, c4, c5, c6, c7, c8, c9, c10, c11, c12, c13⟩ := HCL.out _ hz; obtain ⟨-, d0, d1, d2, d3, d4, d5, d6, d7, d8, d9, d10, d11, d12, d13, d14⟩ := HSL.out _ hz; go_simp <;> rfl) hbd ?_
  try simp only [List.getElem_toArray, List.getElem_cons_succ, List.getElem_cons_zero, Act.put, List.setIfInBounds_toArray, List.set_cons_zero, List.set_cons_succ]
  refine wpAnyL_take 3 rfl (by kernel_rfl) (by kernel_rfl) (by kernel_rfl) (by kernel_rfl) (fun _ _ _ h => h) (wanted_none rfl) (by intro w' hS'; have hz := hS'; obtain ⟨-, c0, c1, c2, c3, c4, c5, c6, c7, c8, c9, c10, c11, c12, c13⟩ := HCL.out _ hz; obtain ⟨-, d0, d1, d2, d3, d4, d5, d6, d7, d8, d9, d10, d11, d12, d13, d14⟩ := HSL.out _ hz; go_simp <;> rfl) hbd ?_
  try simp only [List.getElem_toArray, List.getElem_cons_succ, List.getElem_cons_zero, Act.put, List.setIfInBounds_toArray, List.set_cons_zero, List.set_cons_succ]
  refine wpAnyL_take 4 rfl (by kernel_rfl) (by kernel_rfl) (by kernel_rfl) (by kernel_rfl) (fun _ _ _ h => h) (wanted_none rfl) (by intro w' hS'; have hz := hS'; obtain ⟨-, c0, c1, c2, c3, c4, c5, c6, c7, c8, c9, c10, c11, c12, c13⟩ := HCL.out _ hz; obtain ⟨-, d0, d1, d2, d3, d4, d5, d6, d7, d8, d9, d10, d11, d12, d13, d14⟩ := HSL.out _ hz; go_simp <;> rfl) hbd ?_
  try simp only [List.getElem_toArray, List.getElem_cons_succ, List.getElem_cons_zero, Act.put, List.setIfInBounds_toArray, List.set_cons_zero, List.set_cons_succ]
  refine wpAnyL_take 5 rfl (by kernel_rfl) (by kernel_rfl) (by kernel_rfl) (by kernel_rfl) (fun _ _ _ h => h) (wanted_none rfl) (by intro w' hS'; have hz := hS'; obtain ⟨-, c0, c1, c2, c3, c4, c5, c6, c7, c8, c9, c10, c11, c12, c13⟩ := HCL.out _ hz; obtain ⟨-, d0, d1, d2, d3, d4, d5, d6, d7, d8, d9, d10, d11, d12, d13, d14⟩ := HSL.out _ hz; go_simp <;> rfl) hbd ?_
  try simp only [List.getElem_toArray, List.getElem_cons_succ, List.getElem_cons_zero, Act.put, List.setIfInBounds_toArray, List.set_cons_zero, List.set_cons_succ]
  refine wpAnyL_take 6 rfl (by kernel_rfl) (by kernel_rfl) (by kernel_rfl) (by kernel_rfl) (fun _ _ _ h => h) (wanted_none rfl) (by intro w' hS'; have hz := hS'; obtain ⟨-, c0, c1, c2, c3, c4, c5, c6, c7, c8, c9, c10, c11, c12, c13⟩ := HCL.out _ hz; obtain ⟨-, d0, d1, d2, d3, d4, d5, d6, d7, d8, d9, d10, d11, d12, d13, d14⟩ := HSL.out _ hz; go_simp <;> rfl) hbd ?_
  try simp only [List.getElem_toArray, List.getElem_cons_succ, List.getElem_cons_zero, Act.put, List.setIfInBounds_toArray, List.set_cons_zero, List.set_cons_succ]
  refine wpAnyL_take 7 rfl (by kernel_rfl) (by kernel_rfl) (by kernel_rfl) (by kernel_rfl) (fun _ _ _ h => h) (wanted_none rfl) (by intro w' hS'; have hz := hS'; obtain ⟨-, c0, c1, c2, c3, c4, c5, c6, c7, c8, c9, c10, c11, c12, c13⟩ := HCL.out _ hz; obtain ⟨-, d0, d1, d2, d3, d4, d5, d6, d7, d8, d9, d10, d11, d12, d13, d14⟩ := HSL.out _ hz; go_simp <;> rfl) hbd ?_
  try simp only [List.getElem_toArray, List.getElem_cons_succ, List.getElem_cons_zero, Act.put, List.setIfInBounds_toArray, List.set_cons_zero, List.set_cons_succ]
  refine wpAnyL_take 8 rfl (by kernel_rfl) (by kernel_rfl) (by kernel_rfl) (by kernel_rfl) (fun _ _ _ h => h) (wanted_none rfl) (by intro w' hS'; have hz := hS'; obtain ⟨-, c0, c1, c2, c3, c4, c5, c6, c7, c8, c9, c10, c11, c12, c13⟩ := HCL.out _ hz; obtain ⟨-, d0, d1, d2, d3, d4, d5, d6, d7, d8, d9, d10, d11, d12, d13, d14⟩ := HSL.out _ hz; go_simp <;> rfl) hbd ?_
  try simp only [List.getElem_toArray, List.getElem_cons_succ, List.getElem_cons_zero, Act.put, List.setIfInBounds_toArray, List.set_cons_zero, List.set_cons_succ]
  refine wpAnyL_take 9 rfl (by kernel_rfl) (by kernel_rfl) (by kernel_rfl) (by kernel_rfl) (fun _ _ _ h => h) (by kernel_rfl) (by intro w' hS'; have hz := hS'; obtain ⟨-, c0, c1, c2, c3, c4, c5, c6, c7, c8, c9, c10, c11, c12, c13⟩ := HCL.out _ hz; obtain ⟨-, d0, d1, d2, d3, d4, d5, d6, d7, d8, d9, d10, d11, d12, d13, d14⟩ := HSL.out _ hz; go_simp <;> rfl) hbd ?_
  try simp only [List.getElem_toArray, List.getElem_cons_succ, List.getElem_cons_zero, Act.put, List.setIfInBounds_toArray, List.set_cons_zero, List.set_cons_succ]
  refine wpAnyL_take 10 rfl (by kernel_rfl) (by kernel_rfl) (by kernel_rfl) (by kernel_rfl) (fun _ _ _ h => h) (by kernel_rfl) (by intro w' hS'; have hz := hS'; obtain ⟨-, c0, c1, c2, c3, c4, c5, c6, c7, c8, c9, c10, c11, c12, c13⟩ := HCL.out _ hz; obtain ⟨-, d0, d1, d2, d3, d4, d5, d6, d7, d8, d9, d10, d11, d12, d13, d14⟩ := HSL.out _ hz; go_simp <;> rfl) hbd ?_
  try simp only [List.getElem_toArray, List.getElem_cons_succ, List.getElem_cons_zero, Act.put, List.setIfInBounds_toArray, List.set_cons_zero, List.set_cons_succ]
  refine wpAnyL_take 11 rfl (by kernel_rfl) (by kernel_rfl) (by kernel_rfl) (by kernel_rfl) (fun _ _ _ h => h) (by kernel_rfl) (by intro w' hS'; have hz := hS'; obtain ⟨-, c0, c1, c2, c3, c4, c5, c6, c7, c8, c9, c10, c11, c12, c13⟩ := HCL.out _ hz; obtain ⟨-, d0, d1, d2, d3, d4, d5, d6, d7, d8, d9, d10, d11, d12, d13, d14⟩ := HSL.out _ hz; go_simp <;> rfl) hbd ?_
  try simp only [List.getElem_toArray, List.getElem_cons_succ, List.getElem_cons_zero, Act.put, List.setIfInBounds_toArray, List.set_cons_zero, List.set_cons_succ]
  refine wpAnyL_take 12 rfl (by kernel_rfl) (by kernel_rfl) (by kernel_rfl) (by kernel_rfl) (fun _ _ _ h => h) (wanted_none rfl) (by intro w' hS'; have hz := hS'; obtain ⟨-, c0, c1, c2, c3, c4, c5, c6, c7, c8, c9, c10, c11, c12, c13⟩ := HCL.out _ hz; obtain ⟨-, d0, d1, d2, d3, d4, d5, d6, d7, d8, d9, d10, d11, d12, d13, d14⟩ := HSL.out _ hz; go_simp <;> rfl) hbd ?_
  try simp only [List.getElem_toArray, List.getElem_cons_succ, List.getElem_cons_zero, Act.put, List.setIfInBounds_toArray, List.set_cons_zero, List.set_cons_succ]
  refine wpAnyL_take 13 rfl (by kernel_rfl) (by kernel_rfl) (by kernel_rfl) (by kernel_rfl) (fun _ _ _ h => h) (wanted_none rfl) (by intro w' hS'; have hz := hS'; obtain ⟨-, c0, c1, c2, c3, c4, c5, c6, c7, c8, c9, c10, c11, c12, c13⟩ := HCL.out _ hz; obtain ⟨-, d0, d1, d2, d3, d4, d5, d6, d7, d8, d9, d10, d11, d12, d13, d14⟩ := HSL.out _ hz; go_simp <;> rfl) hbd ?_
  try simp only [List.getElem_toArray, List.getElem_cons_succ, List.getElem_cons_zero, Act.put, List.setIfInBounds_toArray, List.set_cons_zero, List.set_cons_succ]
  refine wpAnyL_take 14 rfl (by kernel_rfl) (by kernel_rfl) (by kernel_rfl) (by kernel_rfl) (fun _ _ _ h => h) (by kernel_rfl) (by intro w' hS'; have hz := hS'; obtain ⟨-, c0, c1, c2, c3, c4, c5, c6, c7, c8, c9, c10, c11, c12, c13⟩ := HCL.out _ hz; obtain ⟨-, d0, d1, d2, d3, d4, d5, d6, d7, d8, d9, d10, d11, d12, d13, d14⟩ := HSL.out _ hz; go_simp <;> rfl) hbd ?_
  try simp only [List.getElem_toArray, List.getElem_cons_succ, List.getElem_cons_zero, Act.put, List.setIfInBounds_toArray, List.set_cons_zero, List.set_cons_succ]
  refine wpAnyL_take 15 rfl (by kernel_rfl) (by kernel_rfl) (by kernel_rfl) (by kernel_rfl) (fun _ _ _ h => h) (by kernel_rfl) (by intro w' hS'; have hz := hS'; obtain ⟨-, c0, c1, c2, c3, c4, c5, c6, c7, c8, c9, c10, c11, c12, c13⟩ := HCL.out _ hz; obtain ⟨-, d0, d1, d2, d3, d4, d5, d6, d7, d8, d9, d10, d11, d12, d13, d14⟩ := HSL.out _ hz; go_simp <;> rfl) hbd ?_
  try simp only [List.getElem_toArray, List.getElem_cons_succ, List.getElem_cons_zero, Act.put, List.setIfInBounds_toArray, List.set_cons_zero, List.set_cons_succ]
  refine wpAnyL_take 17 rfl (by kernel_rfl) (by kernel_rfl) (by kernel_rfl) (by kernel_rfl) (fun _ _ _ h => h) (by kernel_rfl) (by intro w' hS'; have hz := hS'; obtain ⟨-, c0, c1, c2, c3, c4, c5, c6, c7, c8, c9, c10, c11, c12, c13⟩ := HCL.out _ hz; obtain ⟨-, d0, d1, d2, d3, d4, d5, d6, d7, d8, d9, d10, d11, d12, d13, d14⟩ := HSL.out _ hz; go_simp <;> rfl) hbd ?_
  try simp only [List.getElem_toArray, List.getElem_cons_succ, List.getElem_cons_zero, Act.put, List.setIfInBounds_toArray, List.set_cons_zero, List.set_cons_succ]
  refine wpAnyL_take 18 rfl (by kernel_rfl) (by kernel_rfl) (by kernel_rfl) (by kernel_rfl) (fun _ _ _ h => h) (by kernel_rfl) (by intro w' hS'; have hz := hS'; obtain ⟨-, c0, c1, c2, c3, c4, c5, c6, c7, c8, c9, c10, c11, c12, c13⟩ := HCL.out _ hz; obtain ⟨-, d0, d1, d2, d3, d4, d5, d6, d7, d8, d9, d10, d11, d12, d13, d14⟩ := HSL.out _ hz; go_simp <;> rfl) hbd ?_
  try simp only [List.getElem_toArray, List.getElem_cons_succ, List.getElem_cons_zero, Act.put, List.setIfInBounds_toArray, List.set_cons_zero, List.set_cons_succ]
  refine wpAnyL_one 16 (by kernel_rfl) rfl (by kernel_rfl) ?_
  intro K' hK'
  go_simp
  go_at_call 21
  refine kv.mono ?_
  rintro e w3 ⟨v3, rfl, hR3, hb3'⟩
  have hS3 : (fun W => Below w5.heap.size w5 W) w3 := hbd.trans (hb3'.mono hbd.size)
  have ki := rin_of V v3 nd w3 hR3 (by omega)
  obtain ⟨v3a, v3c, rfl, -, -⟩ := hR3.shape
  clear kv hR3
  refine hK'.out _ _ (.inr hS3) ?_
  clear hK' K'
  try simp only [List.getElem_toArray, List.getElem_cons_succ, List.getElem_cons_zero, Act.put, List.setIfInBounds_toArray, List.set_cons_zero, List.set_cons_succ]
  refine wpAnyL_one 19 (by kernel_rfl) rfl (by kernel_rfl) ?_
  intro K' hK'
  go_simp
  go_at_call 55
  refine ki.mono ?_
  rintro e w4 ⟨rfl, hw4⟩
  subst hw4
  have hS4 : (fun W => Below w5.heap.size w5 W) w4 := hS3
  clear ki
  have hin : decide (nd ∈ V) = true := by simpa using h5
  rw [hin]
  refine hK'.out _ _ (.inr hS4) ?_
  clear hK' K'
  try simp only [List.getElem_toArray, List.getElem_cons_succ, List.getElem_cons_zero, Act.put, List.setIfInBounds_toArray, List.set_cons_zero, List.set_cons_succ]
  refine wpAnyL_take 20 rfl (by kernel_rfl) (by kernel_rfl) (by kernel_rfl) (by kernel_rfl) (fun _ _ _ h => h) (wanted_none rfl) (by intro w' hS'; have hz := hS'; obtain ⟨-, c0, c1, c2, c3, c4, c5, c6, c7, c8, c9, c10, c11, c12, c13⟩ := HCL.out _ hz; obtain ⟨-, d0, d1, d2, d3, d4, d5, d6, d7, d8, d9, d10, d11, d12, d13, d14⟩ := HSL.out _ hz; go_simp <;> rfl) hS4 ?_
  try simp only [List.getElem_toArray, List.getElem_cons_succ, List.getElem_cons_zero, Act.put, List.setIfInBounds_toArray, List.set_cons_zero, List.set_cons_succ]
  refine wpAnyL_done (by kernel_rfl) (NoPanic.normal ?_) _
  have hbx := hb3.trans (hS4.mono hb3.size)
  have g3 := (hS4.block (w.heap.size + 1 + 1) (by omega)).trans B3
  have g2 := (hS4.block (w.heap.size + 1) (by omega)).trans B2
  have hSx := hS5.out.below hS4
  have hsx : w.heap.size + 1 + 1 + 1 ≤ w4.heap.size := by have := hS4.size; omega
  generalize hwx : w4 = wX at *
  clear hwx
  have ka := ask_of n _ _ wX hSx (Nat.le_trans hn hbx.size) hbo hlo hlg (by simp) h4 (by show (votM _ _).length ≤ _; dsimp only; rw [← hV]; omega)
  rw [← E.out] at ka
  obtain ⟨-, o0, o1, o2, o3, o4, o5, o6, o7, o8, o9, o10, o11, o12, o13, o14⟩ := r15_cells g3
  clear hSx h4 hct h3 hcm
  go_wp2_with fail
  refine ka.mono ?_
  rintro e w6 ⟨v6, rfl, hS6, hb6⟩
  have g2 := (hb6.block (w.heap.size + 1) (by omega)).trans g2
  have g3 := (hb6.block (w.heap.size + 1 + 1) (by omega)).trans g3
  have hb06 := hbx.trans (hb6.mono hbx.size)
  clear ka o0 o1 o2 o3 o4 o5 o6 o7 o8 o9 o10 o11 o12 o13 o14
  obtain ⟨cs, rfl, h15, hone⟩ := hS6.shape
  have HF3 := setRow_heap _ _ _ cs _ _ g3
  have g2' := (setRow_other w6 (w.heap.size + 1 + 1) (w.heap.size + 1) cs (by omega)).trans g2
  have HF := setRow_heap _ _ _ cs _ _ g2'
  have hbf := below_row (below_row hb06 (g := w.heap.size + 1 + 1) (by omega) cs) (g := w.heap.size + 1) (by omega) cs
  have hSf := (hS6.frm (Frm.row (n := n) (by omega) g3 cs) (by decide)).frm (Frm.row (n := n) (by omega) g2' cs) (by decide)
  go_wp2_with (first | refine wpList_store_row rfl 54 _ _ rfl (w.heap.size + 1 + 1) cs rfl rfl _ _ g3 (by rw [h15]; exact sizeSt) (by rw [h15]; rfl) hone ?_ | refine wpList_load_row rfl 54 _ rfl (w.heap.size + 1 + 1) rfl _ _ _ _ HF3 Tryz.underlying54 rfl (by rw [h15]; exact sizeSt) ?_ | refine wpList_store_row rfl 54 _ _ rfl (w.heap.size + 1) cs rfl rfl _ _ g2' (by rw [h15]; exact sizeSt) (by rw [h15]; rfl) hone ?_)
  (try simp only [Exit.inBlock, Exit.then])
  refine bodyPost_ret (results_stv rfl _ _ (w.heap.size + 1) cs h15 rfl HF) rfl ?_
  exact ⟨_, rfl, hSf, hbf⟩
set_option maxHeartbeats 8000000 in
theorem rtick_cf2 (n : Nat) (r : Mr) (v : Value) (w : World) (hS : RsV n w v r) (hn : n ≤ w.heap.size) (hbo : OkM r.base) (hlo : ∀ e ∈ r.log, OkM e) (hlg : r.log.length ≤ 1000000) (hpl : r.peers.length ≤ 1000000) (hvl : (votR r).length ≤ 1000) (hnd : 1 ≤ r.node ∧ r.node ≤ 7) (hel : 0 ≤ r.elapsed ∧ r.elapsed ≤ 1000) (hnx : ∀ p ∈ r.peers, p.next < 18446744073709551616) (h1 : ¬ r.elapsed < 1000) (h2 : ¬ r.role = 2) (h3 : 10 + 2 * r.node ≤ (if r.elapsed < 1000 then r.elapsed + 1 else r.elapsed)) (h4 : r.term < 4611686018427387904) (h5 : ¬ r.node ∈ votR r) : Calls Tryz.prog 23 #[v] w fun e w' => ∃ v', e = .returned v' ∧ StV n w' v' (tickR r) ∧ Below w.heap.size w w' := by
  obtain ⟨z, rfl, hz, hR⟩ := hS
  obtain ⟨r', zs, ⟨ba, bn, bc⟩, ⟨la, ln, lc⟩, ⟨va, vn, vc⟩, ⟨pa, pn, pc⟩⟩ := z
  obtain rfl : r' = r := hz
  obtain ⟨nd, tm, vo, ⟨bi, bt, bk, bd⟩, lg, cm, ro, le, el, vt, pe⟩ := r'
  dsimp only [votR] at *
  dsimp only [rv]
  have hml : mes zs = lg := hR.2.2.1
  have hzl : zs.length ≤ 1000000 := by have := congrArg List.length hml; rw [List.length_map] at this; omega
  have hzo := okz_of hml hlo
  have HV : Hid (∀ W, Below w.heap.size w W → _) := fun W hW => rvot_of (⟨bi, bt, bk, bd⟩, ba, bn, bc) zs (.slice la ln lc) W (hR.1.below hW).v (hR.2.1.below hW).v ⟨hbo.1, hbo.2.1, hbo.2.2.1⟩ (fun z hz => (hzo z hz).1) (by omega) hbo.2.2.2 (fun z hz => (hzo z hz).2)
  rw [hml] at HV
  obtain ⟨e2, he2⟩ : ∃ e2, e2 = if el < 1000 then el + 1 else el := ⟨_, rfl⟩
  rw [← he2] at h3
  have hR : RaV n w ⟨⟨nd, tm, vo, ⟨bi, bt, bk, bd⟩, lg, cm, ro, le, e2, vt, pe⟩, zs, (ba, bn, bc), (la, ln, lc), (va, vn, vc), (pa, pn, pc)⟩ := hR
  have HTK : Hid (tickR ⟨nd, tm, vo, ⟨bi, bt, bk, bd⟩, lg, cm, ro, le, el, vt, pe⟩ = if ro = 2 then (if 2 ≤ e2 then tellAllR ⟨⟨nd, tm, vo, ⟨bi, bt, bk, bd⟩, lg, cm, ro, le, 0, vt, pe⟩, []⟩ else ⟨⟨nd, tm, vo, ⟨bi, bt, bk, bd⟩, lg, cm, ro, le, e2, vt, pe⟩, []⟩) else if 10 + 2 * nd ≤ e2 ∧ tm < 4611686018427387904 ∧ nd ∈ votM ⟨bi, bt, bk, bd⟩ lg then askR ⟨⟨nd, tm, vo, ⟨bi, bt, bk, bd⟩, lg, cm, ro, le, e2, vt, pe⟩, []⟩ else ⟨⟨nd, tm, vo, ⟨bi, bt, bk, bd⟩, lg, cm, ro, le, e2, vt, pe⟩, []⟩) := by show _ = _; rw [he2]; rfl
  obtain ⟨V, hV⟩ : ∃ V, Hid (V = votM (⟨bi, bt, bk, bd⟩ : Me) lg) := ⟨_, rfl⟩
  rw [← hV.out] at HV HTK hvl
  rw [← hV.out] at h5
  have hel2 : e2 ≤ 1000 ∧ 0 ≤ e2 := by rw [he2]; split <;> omega
  clear hml hzl hzo
  obtain rfl : e2 = el := by rw [he2, if_neg h1]
  clear he2
  have E : Hid (_ = _) := HTK.out.trans ((if_neg h2).trans (if_neg (fun h => h5 h.2.2)))
  have hcm : decide (10 + 2 * nd ≤ e2) = true := by simpa using h3
  have hct : decide ((tm : Int) < 4611686018427387904) = true := by simp; omega
  have hw1 : IntKind.i64.wrap (2 * nd) = 2 * nd := IntWalk.i64_in _ (by omega)
  have hw2 : IntKind.i64.wrap (10 + 2 * nd) = 10 + 2 * nd := IntWalk.i64_in _ (by omega)
  obtain ⟨hsz, B1, B2, B3, hb3⟩ := three_box w (.cells #[.int .i64 nd, .int .u64 (tm : Int), .int .i64 vo, .int .u64 (bi : Int), .int .u64 (bt : Int), .int .i64 bk, .slice ba bn bc, .slice la ln lc, .int .u64 (cm : Int), .int .i64 ro, .int .i64 le, .int .i64 e2, .slice va vn vc, .slice pa pn pc] 32) (.cells #[.int .i64 0, .int .u64 0, .int .i64 0, .int .u64 0, .int .u64 0, .int .i64 0, .slice none 0 0, .slice none 0 0, .int .u64 0, .int .i64 0, .int .i64 0, .int .i64 0, .slice none 0 0, .slice none 0 0, .slice none 0 0] 54) (.cells #[.int .i64 nd, .int .u64 (tm : Int), .int .i64 vo, .int .u64 (bi : Int), .int .u64 (bt : Int), .int .i64 bk, .slice ba bn bc, .slice la ln lc, .int .u64 (cm : Int), .int .i64 ro, .int .i64 le, .int .i64 e2, .slice va vn vc, .slice pa pn pc, .slice none 0 0] 54)
  have hS5 : Hid (StV n _ (.agg #[.int .i64 nd, .int .u64 (tm : Int), .int .i64 vo, .int .u64 (bi : Int), .int .u64 (bt : Int), .int .i64 bk, .slice ba bn bc, .slice la ln lc, .int .u64 (cm : Int), .int .i64 ro, .int .i64 le, .int .i64 e2, .slice va vn vc, .slice pa pn pc, .slice none 0 0]) ⟨⟨nd, tm, vo, ⟨bi, bt, bk, bd⟩, lg, cm, ro, le, e2, vt, pe⟩, []⟩) := ⟨⟨⟨nd, tm, vo, ⟨bi, bt, bk, bd⟩, lg, cm, ro, le, e2, vt, pe⟩, zs, (ba, bn, bc), (la, ln, lc), (va, vn, vc), (pa, pn, pc)⟩, [], (none, 0, 0), rfl, rfl, hR.below hb3, ⟨RdN.nil _ _ _ _, by simp⟩, rfl⟩
  have h2b : (ro == 2) = false := by simpa using h2
  clear HTK
  clear hR
  go_enter Tryz.func23, Tryz.ntmps23
  go_wp2
  (try simp only [Exit.inBlock, Exit.then])
  generalize ((w.alloc (.cells #[.int .i64 nd, .int .u64 (tm : Int), .int .i64 vo, .int .u64 (bi : Int), .int .u64 (bt : Int), .int .i64 bk, .slice ba bn bc, .slice la ln lc, .int .u64 (cm : Int), .int .i64 ro, .int .i64 le, .int .i64 e2, .slice va vn vc, .slice pa pn pc] 32)).alloc (.cells #[.int .i64 0, .int .u64 0, .int .i64 0, .int .u64 0, .int .u64 0, .int .i64 0, .slice none 0 0, .slice none 0 0, .int .u64 0, .int .i64 0, .int .i64 0, .int .i64 0, .slice none 0 0, .slice none 0 0, .slice none 0 0] 54)).alloc (.cells #[.int .i64 nd, .int .u64 (tm : Int), .int .i64 vo, .int .u64 (bi : Int), .int .u64 (bt : Int), .int .i64 bk, .slice ba bn bc, .slice la ln lc, .int .u64 (cm : Int), .int .i64 ro, .int .i64 le, .int .i64 e2, .slice va vn vc, .slice pa pn pc, .slice none 0 0] 54) = w5 at *
  refine wp_region_L (fun W => Below w5.heap.size w5 W) [] (by kernel_rfl) ?_
  have hbd : Below w5.heap.size w5 w5.drew := (Below.refl _ w5).drew
  have HCL : Hid (∀ W, Below w5.heap.size w5 W → _) := fun W hW => r14_cells ((hW.block w.heap.size (by omega)).trans B1)
  have HSL : Hid (∀ W, Below w5.heap.size w5 W → _) := fun W hW => r15_cells ((hW.block (w.heap.size + 1 + 1) (by omega)).trans B3)
  generalize w5.drew = wd at *
  have kv := HV.out wd (hb3.trans (hbd.mono hb3.size))
  dsimp only [lgv] at kv
  refine wpAnyL_take 0 rfl (by kernel_rfl) (by kernel_rfl) (by kernel_rfl) (by kernel_rfl) (fun _ _ _ h => h) (wanted_none rfl) (by intro w' hS'; have hz := hS'; obtain ⟨-, c0, c1, c2, c3, c4, c5, c6, c7, c8, c9, c10, c11, c12, c13⟩ := HCL.out _ hz; obtain ⟨-, d0, d1, d2, d3, d4, d5, d6, d7, d8, d9, d10, d11, d12, d13, d14⟩ := HSL.out _ hz; go_simp <;> rfl) hbd ?_
  try simp only [List.getElem_toArray, List.getElem_cons_succ, List.getElem_cons_zero, Act.put, List.setIfInBounds_toArray, List.set_cons_zero, List.set_cons_succ]
  refine wpAnyL_take 1 rfl (by kernel_rfl) (by kernel_rfl) (by kernel_rfl) (by kernel_rfl) (fun _ _ _ h => h) (wanted_none rfl) (by intro w' hS'; have hz := hS'; obtain ⟨-, c0, c1, c2, c3, c4, c5, c6, c7, c8, c9, c10, c11, c12, c13⟩ := HCL.out _ hz; obtain ⟨-, d0, d1, d2, d3, d4, d5, d6, d7, d8, d9, d10, d11, d12, d13, d14⟩ := HSL.out _ hz; go_simp <;> rfl) hbd ?_
  try simp only [List.getElem_toArray, List.getElem_cons_succ, List.getElem_cons_zero, Act.put, List.setIfInBounds_toArray, List.set_cons_zero, List.set_cons_succ]
  refine wpAnyL_take 2 rfl (by kernel_rfl) (by kernel_rfl) (by kernel_rfl) (by kernel_rfl) (fun _ _ _ h => h) (wanted_none rfl) (by intro w' hS'; have hz := hS'; obtain ⟨-, c0, c1, c2, c3, c4, c5, c6, c7, c8, c9, c10, c11, c12, c13⟩ := HCL.out _ hz; obtain ⟨-, d0, d1, d2, d3, d4, d5, d6, d7, d8, d9, d10, d11, d12, d13, d14⟩ := HSL.out _ hz; go_simp <;> rfl) hbd ?_
  try simp only [List.getElem_toArray, List.getElem_cons_succ, List.getElem_cons_zero, Act.put, List.setIfInBounds_toArray, List.set_cons_zero, List.set_cons_succ]
  refine wpAnyL_take 3 rfl (by kernel_rfl) (by kernel_rfl) (by kernel_rfl) (by kernel_rfl) (fun _ _ _ h => h) (wanted_none rfl) (by intro w' hS'; have hz := hS'; obtain ⟨-, c0, c1, c2, c3, c4, c5, c6, c7, c8, c9, c10, c11, c12, c13⟩ := HCL.out _ hz; obtain ⟨-, d0, d1, d2, d3, d4, d5, d6, d7, d8, d9, d10, d11, d12, d13, d14⟩ := HSL.out _ hz; go_simp <;> rfl) hbd ?_
  try simp only [List.getElem_toArray, List.getElem_cons_succ, List.getElem_cons_zero, Act.put, List.setIfInBounds_toArray, List.set_cons_zero, List.set_cons_succ]
  refine wpAnyL_take 4 rfl (by kernel_rfl) (by kernel_rfl) (by kernel_rfl) (by kernel_rfl) (fun _ _ _ h => h) (wanted_none rfl) (by intro w' hS'; have hz := hS'; obtain ⟨-, c0, c1, c2, c3, c4, c5, c6, c7, c8, c9, c10, c11, c12, c13⟩ := HCL.out _ hz; obtain ⟨-, d0, d1, d2, d3, d4, d5, d6, d7, d8, d9, d10, d11, d12, d13, d14⟩ := HSL.out _ hz; go_simp <;> rfl) hbd ?_
  try simp only [List.getElem_toArray, List.getElem_cons_succ, List.getElem_cons_zero, Act.put, List.setIfInBounds_toArray, List.set_cons_zero, List.set_cons_succ]
  refine wpAnyL_take 5 rfl (by kernel_rfl) (by kernel_rfl) (by kernel_rfl) (by kernel_rfl) (fun _ _ _ h => h) (wanted_none rfl) (by intro w' hS'; have hz := hS'; obtain ⟨-, c0, c1, c2, c3, c4, c5, c6, c7, c8, c9, c10, c11, c12, c13⟩ := HCL.out _ hz; obtain ⟨-, d0, d1, d2, d3, d4, d5, d6, d7, d8, d9, d10, d11, d12, d13, d14⟩ := HSL.out _ hz; go_simp <;> rfl) hbd ?_
  try simp only [List.getElem_toArray, List.getElem_cons_succ, List.getElem_cons_zero, Act.put, List.setIfInBounds_toArray, List.set_cons_zero, List.set_cons_succ]
  refine wpAnyL_take 6 rfl (by kernel_rfl) (by kernel_rfl) (by kernel_rfl) (by kernel_rfl) (fun _ _ _ h => h) (wanted_none rfl) (by intro w' hS'; have hz := hS'; obtain ⟨-, c0, c1, c2, c3, c4, c5, c6, c7, c8, c9, c10, c11, c12, c13⟩ := HCL.out _ hz; obtain ⟨-, d0, d1, d2, d3, d4, d5, d6, d7, d8, d9, d10, d11, d12, d13, d14⟩ := HSL.out _ hz; go_simp <;> rfl) hbd ?_
  try simp only [List.getElem_toArray, List.getElem_cons_succ, List.getElem_cons_zero, Act.put, List.setIfInBounds_toArray, List.set_cons_zero, List.set_cons_succ]
  refine wpAnyL_take 7 rfl (by kernel_rfl) (by kernel_rfl) (by kernel_rfl) (by kernel_rfl) (fun _ _ _ h => h) (wanted_none rfl) (by intro w' hS'; have hz := hS'; obtain ⟨-, c0, c1, c2, c3, c4, c5, c6, c7, c8, c9, c10, c11, c12, c13⟩ := HCL.out _ hz; obtain ⟨-, d0, d1, d2, d3, d4, d5, d6, d7, d8, d9, d10, d11, d12, d13, d14⟩ := HSL.out _ hz; go_simp <;> rfl) hbd ?_
  try simp only [List.getElem_toArray, List.getElem_cons_succ, List.getElem_cons_zero, Act.put, List.setIfInBounds_toArray, List.set_cons_zero, List.set_cons_succ]
  refine wpAnyL_take 8 rfl (by kernel_rfl) (by kernel_rfl) (by kernel_rfl) (by kernel_rfl) (fun _ _ _ h => h) (wanted_none rfl) (by intro w' hS'; have hz := hS'; obtain ⟨-, c0, c1, c2, c3, c4, c5, c6, c7, c8, c9, c10, c11, c12, c13⟩ := HCL.out _ hz; obtain ⟨-, d0, d1, d2, d3, d4, d5, d6, d7, d8, d9, d10, d11, d12, d13, d14⟩ := HSL.out _ hz; go_simp <;> rfl) hbd ?_
  try simp only [List.getElem_toArray, List.getElem_cons_succ, List.getElem_cons_zero, Act.put, List.setIfInBounds_toArray, List.set_cons_zero, List.set_cons_succ]
  refine wpAnyL_take 9 rfl (by kernel_rfl) (by kernel_rfl) (by kernel_rfl) (by kernel_rfl) (fun _ _ _ h => h) (by kernel_rfl) (by intro w' hS'; have hz := hS'; obtain ⟨-, c0, c1, c2, c3, c4, c5, c6, c7, c8, c9, c10, c11, c12, c13⟩ := HCL.out _ hz; obtain ⟨-, d0, d1, d2, d3, d4, d5, d6, d7, d8, d9, d10, d11, d12, d13, d14⟩ := HSL.out _ hz; go_simp <;> rfl) hbd ?_
  try simp only [List.getElem_toArray, List.getElem_cons_succ, List.getElem_cons_zero, Act.put, List.setIfInBounds_toArray, List.set_cons_zero, List.set_cons_succ]
  refine wpAnyL_take 10 rfl (by kernel_rfl) (by kernel_rfl) (by kernel_rfl) (by kernel_rfl) (fun _ _ _ h => h) (by kernel_rfl) (by intro w' hS'; have hz := hS'; obtain ⟨-, c0, c1, c2, c3, c4, c5, c6, c7, c8, c9, c10, c11, c12, c13⟩ := HCL.out _ hz; obtain ⟨-, d0, d1, d2, d3, d4, d5, d6, d7, d8, d9, d10, d11, d12, d13, d14⟩ := HSL.out _ hz; go_simp <;> rfl) hbd ?_
  try simp only [List.getElem_toArray, List.getElem_cons_succ, List.getElem_cons_zero, Act.put, List.setIfInBounds_toArray, List.set_cons_zero, List.set_cons_succ]
  refine wpAnyL_take 11 rfl (by kernel_rfl) (by kernel_rfl) (by kernel_rfl) (by kernel_rfl) (fun _ _ _ h => h) (by kernel_rfl) (by intro w' hS'; have hz := hS'; obtain ⟨-, c0, c1, c2, c3, c4, c5, c6, c7, c8, c9, c10, c11, c12, c13⟩ := HCL.out _ hz; obtain ⟨-, d0, d1, d2, d3, d4, d5, d6, d7, d8, d9, d10, d11, d12, d13, d14⟩ := HSL.out _ hz; go_simp <;> rfl) hbd ?_
  try simp only [List.getElem_toArray, List.getElem_cons_succ, List.getElem_cons_zero, Act.put, List.setIfInBounds_toArray, List.set_cons_zero, List.set_cons_succ]
  refine wpAnyL_take 12 rfl (by kernel_rfl) (by kernel_rfl) (by kernel_rfl) (by kernel_rfl) (fun _ _ _ h => h) (wanted_none rfl) (by intro w' hS'; have hz := hS'; obtain ⟨-, c0, c1, c2, c3, c4, c5, c6, c7, c8, c9, c10, c11, c12, c13⟩ := HCL.out _ hz; obtain ⟨-, d0, d1, d2, d3, d4, d5, d6, d7, d8, d9, d10, d11, d12, d13, d14⟩ := HSL.out _ hz; go_simp <;> rfl) hbd ?_
  try simp only [List.getElem_toArray, List.getElem_cons_succ, List.getElem_cons_zero, Act.put, List.setIfInBounds_toArray, List.set_cons_zero, List.set_cons_succ]
  refine wpAnyL_take 13 rfl (by kernel_rfl) (by kernel_rfl) (by kernel_rfl) (by kernel_rfl) (fun _ _ _ h => h) (wanted_none rfl) (by intro w' hS'; have hz := hS'; obtain ⟨-, c0, c1, c2, c3, c4, c5, c6, c7, c8, c9, c10, c11, c12, c13⟩ := HCL.out _ hz; obtain ⟨-, d0, d1, d2, d3, d4, d5, d6, d7, d8, d9, d10, d11, d12, d13, d14⟩ := HSL.out _ hz; go_simp <;> rfl) hbd ?_
  try simp only [List.getElem_toArray, List.getElem_cons_succ, List.getElem_cons_zero, Act.put, List.setIfInBounds_toArray, List.set_cons_zero, List.set_cons_succ]
  refine wpAnyL_take 14 rfl (by kernel_rfl) (by kernel_rfl) (by kernel_rfl) (by kernel_rfl) (fun _ _ _ h => h) (by kernel_rfl) (by intro w' hS'; have hz := hS'; obtain ⟨-, c0, c1, c2, c3, c4, c5, c6, c7, c8, c9, c10, c11, c12, c13⟩ := HCL.out _ hz; obtain ⟨-, d0, d1, d2, d3, d4, d5, d6, d7, d8, d9, d10, d11, d12, d13, d14⟩ := HSL.out _ hz; go_simp <;> rfl) hbd ?_
  try simp only [List.getElem_toArray, List.getElem_cons_succ, List.getElem_cons_zero, Act.put, List.setIfInBounds_toArray, List.set_cons_zero, List.set_cons_succ]
  refine wpAnyL_take 15 rfl (by kernel_rfl) (by kernel_rfl) (by kernel_rfl) (by kernel_rfl) (fun _ _ _ h => h) (by kernel_rfl) (by intro w' hS'; have hz := hS'; obtain ⟨-, c0, c1, c2, c3, c4, c5, c6, c7, c8, c9, c10, c11, c12, c13⟩ := HCL.out _ hz; obtain ⟨-, d0, d1, d2, d3, d4, d5, d6, d7, d8, d9, d10, d11, d12, d13, d14⟩ := HSL.out _ hz; go_simp <;> rfl) hbd ?_
  try simp only [List.getElem_toArray, List.getElem_cons_succ, List.getElem_cons_zero, Act.put, List.setIfInBounds_toArray, List.set_cons_zero, List.set_cons_succ]
  refine wpAnyL_take 17 rfl (by kernel_rfl) (by kernel_rfl) (by kernel_rfl) (by kernel_rfl) (fun _ _ _ h => h) (by kernel_rfl) (by intro w' hS'; have hz := hS'; obtain ⟨-, c0, c1, c2, c3, c4, c5, c6, c7, c8, c9, c10, c11, c12, c13⟩ := HCL.out _ hz; obtain ⟨-, d0, d1, d2, d3, d4, d5, d6, d7, d8, d9, d10, d11, d12, d13, d14⟩ := HSL.out _ hz; go_simp <;> rfl) hbd ?_
  try simp only [List.getElem_toArray, List.getElem_cons_succ, List.getElem_cons_zero, Act.put, List.setIfInBounds_toArray, List.set_cons_zero, List.set_cons_succ]
  refine wpAnyL_take 18 rfl (by kernel_rfl) (by kernel_rfl) (by kernel_rfl) (by kernel_rfl) (fun _ _ _ h => h) (by kernel_rfl) (by intro w' hS'; have hz := hS'; obtain ⟨-, c0, c1, c2, c3, c4, c5, c6, c7, c8, c9, c10, c11, c12, c13⟩ := HCL.out _ hz; obtain ⟨-, d0, d1, d2, d3, d4, d5, d6, d7, d8, d9, d10, d11, d12, d13, d14⟩ := HSL.out _ hz; go_simp <;> rfl) hbd ?_
  try simp only [List.getElem_toArray, List.getElem_cons_succ, List.getElem_cons_zero, Act.put, List.setIfInBounds_toArray, List.set_cons_zero, List.set_cons_succ]
  refine wpAnyL_one 16 (by kernel_rfl) rfl (by kernel_rfl) ?_
  intro K' hK'
  go_simp
  go_at_call 21
  refine kv.mono ?_
  rintro e w3 ⟨v3, rfl, hR3, hb3'⟩
  have hS3 : (fun W => Below w5.heap.size w5 W) w3 := hbd.trans (hb3'.mono hbd.size)
  have ki := rin_of V v3 nd w3 hR3 (by omega)
  obtain ⟨v3a, v3c, rfl, -, -⟩ := hR3.shape
  clear kv hR3
  refine hK'.out _ _ (.inr hS3) ?_
  clear hK' K'
  try simp only [List.getElem_toArray, List.getElem_cons_succ, List.getElem_cons_zero, Act.put, List.setIfInBounds_toArray, List.set_cons_zero, List.set_cons_succ]
  refine wpAnyL_one 19 (by kernel_rfl) rfl (by kernel_rfl) ?_
  intro K' hK'
  go_simp
  go_at_call 55
  refine ki.mono ?_
  rintro e w4 ⟨rfl, hw4⟩
  subst hw4
  have hS4 : (fun W => Below w5.heap.size w5 W) w4 := hS3
  clear ki
  have hin : decide (nd ∈ V) = false := by simpa using h5
  rw [hin]
  refine hK'.out _ _ (.inr hS4) ?_
  clear hK' K'
  try simp only [List.getElem_toArray, List.getElem_cons_succ, List.getElem_cons_zero, Act.put, List.setIfInBounds_toArray, List.set_cons_zero, List.set_cons_succ]
  refine wpAnyL_take 20 rfl (by kernel_rfl) (by kernel_rfl) (by kernel_rfl) (by kernel_rfl) (fun _ _ _ h => h) (wanted_none rfl) (by intro w' hS'; have hz := hS'; obtain ⟨-, c0, c1, c2, c3, c4, c5, c6, c7, c8, c9, c10, c11, c12, c13⟩ := HCL.out _ hz; obtain ⟨-, d0, d1, d2, d3, d4, d5, d6, d7, d8, d9, d10, d11, d12, d13, d14⟩ := HSL.out _ hz; go_simp <;> rfl) hS4 ?_
  try simp only [List.getElem_toArray, List.getElem_cons_succ, List.getElem_cons_zero, Act.put, List.setIfInBounds_toArray, List.set_cons_zero, List.set_cons_succ]
  refine wpAnyL_done (by kernel_rfl) (NoPanic.normal ?_) _
  have hbx := hb3.trans (hS4.mono hb3.size)
  have g1 := (hS4.block (w.heap.size + 1 + 1) (by omega)).trans B3
  have g2 := (hS4.block (w.heap.size + 1) (by omega)).trans B2
  have hSx := hS5.out.below hS4
  generalize hwx : w4 = wX at *
  clear hwx
  have HF := setRow_heap _ _ _ #[.int .i64 nd, .int .u64 (tm : Int), .int .i64 vo, .int .u64 (bi : Int), .int .u64 (bt : Int), .int .i64 bk, .slice ba bn bc, .slice la ln lc, .int .u64 (cm : Int), .int .i64 ro, .int .i64 le, .int .i64 e2, .slice va vn vc, .slice pa pn pc, .slice none 0 0] _ _ g2
  have hbf := below_row hbx (g := w.heap.size + 1) (by omega) #[.int .i64 nd, .int .u64 (tm : Int), .int .i64 vo, .int .u64 (bi : Int), .int .u64 (bt : Int), .int .i64 bk, .slice ba bn bc, .slice la ln lc, .int .u64 (cm : Int), .int .i64 ro, .int .i64 le, .int .i64 e2, .slice va vn vc, .slice pa pn pc, .slice none 0 0]
  have hSf := hSx.frm (Frm.row (n := n) (by omega) g2 #[.int .i64 nd, .int .u64 (tm : Int), .int .i64 vo, .int .u64 (bi : Int), .int .u64 (bt : Int), .int .i64 bk, .slice ba bn bc, .slice la ln lc, .int .u64 (cm : Int), .int .i64 ro, .int .i64 le, .int .i64 e2, .slice va vn vc, .slice pa pn pc, .slice none 0 0]) (by decide)
  go_wp2_with (first | refine wpList_load_row rfl 54 _ rfl (w.heap.size + 1 + 1) rfl _ _ _ _ g1 Tryz.underlying54 rfl (by kernel_rfl) ?_ | refine wpList_store_row rfl 54 _ _ rfl (w.heap.size + 1) _ rfl rfl _ _ g2 (by kernel_rfl) rfl (by simp [Value.oneCell']) ?_)
  (try simp only [Exit.inBlock, Exit.then])
  refine bodyPost_ret (results_stv rfl _ _ (w.heap.size + 1) _ rfl rfl HF) rfl ?_
  exact ⟨_, rfl, by rw [E.out]; exact hSf, hbf⟩
end Go.Proofs.YtncoandnelgkeaaGreat

/- The document's Tick. -/
namespace Go.Proofs.YtncoandnelgkeaaGreat
open Go.RowKit QuorumMath RlogMath RaftMath
set_option maxRecDepth 100000
set_option linter.unusedSimpArgs false
set_option linter.unusedVariables false

theorem rtick_of (n : Nat) (r : Mr) (v : Value) (w : World) (hS : RsV n w v r) (hn : n ≤ w.heap.size) (hbo : OkM r.base) (hlo : ∀ e ∈ r.log, OkM e) (hlg : r.log.length ≤ 1000000) (hpl : r.peers.length ≤ 1000000) (hvl : (votR r).length ≤ 1000) (hnd : 1 ≤ r.node ∧ r.node ≤ 7) (hel : 0 ≤ r.elapsed ∧ r.elapsed ≤ 1000) (hnx : ∀ p ∈ r.peers, p.next < 18446744073709551616) : Calls Tryz.prog 23 #[v] w fun e w' => ∃ v', e = .returned v' ∧ StV n w' v' (tickR r) ∧ Below w.heap.size w w' := by
  by_cases h1 : r.elapsed < 1000
  · by_cases h2 : r.role = 2
    · by_cases h3 : 2 ≤ (if r.elapsed < 1000 then r.elapsed + 1 else r.elapsed)
      · exact rtick_ly1 n r v w hS hn hbo hlo hlg hpl hvl hnd hel hnx h1 h2 h3
      · exact rtick_ln1 n r v w hS hn hbo hlo hlg hpl hvl hnd hel hnx h1 h2 h3
    · by_cases h3 : 10 + 2 * r.node ≤ (if r.elapsed < 1000 then r.elapsed + 1 else r.elapsed)
      · by_cases h4 : r.term < 4611686018427387904
        · by_cases h5 : r.node ∈ votR r
          · exact rtick_ct1 n r v w hS hn hbo hlo hlg hpl hvl hnd hel hnx h1 h2 h3 h4 h5
          · exact rtick_cf1 n r v w hS hn hbo hlo hlg hpl hvl hnd hel hnx h1 h2 h3 h4 h5
        · exact rtick_b1 n r v w hS hn hbo hlo hlg hpl hvl hnd hel hnx h1 h2 h3 h4
      · exact rtick_a1 n r v w hS hn hbo hlo hlg hpl hvl hnd hel hnx h1 h2 h3
  · by_cases h2 : r.role = 2
    · have h3 : 2 ≤ (if r.elapsed < 1000 then r.elapsed + 1 else r.elapsed) := by rw [if_neg h1]; omega
      exact rtick_ly2 n r v w hS hn hbo hlo hlg hpl hvl hnd hel hnx h1 h2 h3
    · have h3 : 10 + 2 * r.node ≤ (if r.elapsed < 1000 then r.elapsed + 1 else r.elapsed) := by rw [if_neg h1]; omega
      by_cases h4 : r.term < 4611686018427387904
      · by_cases h5 : r.node ∈ votR r
        · exact rtick_ct2 n r v w hS hn hbo hlo hlg hpl hvl hnd hel hnx h1 h2 h3 h4 h5
        · exact rtick_cf2 n r v w hS hn hbo hlo hlg hpl hvl hnd hel hnx h1 h2 h3 h4 h5
      · exact rtick_b2 n r v w hS hn hbo hlo hlg hpl hvl hnd hel hnx h1 h2 h3 h4
end Go.Proofs.YtncoandnelgkeaaGreat

