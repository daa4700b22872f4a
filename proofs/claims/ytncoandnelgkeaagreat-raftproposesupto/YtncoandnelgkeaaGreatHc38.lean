import Derived.Test.YtncoandnelgkeaaGreatHc37
/- The program's tick, case by case. -/
namespace Go.Proofs.YtncoandnelgkeaaGreat
open Go.RowKit QuorumMath RlogMath RaftMath
set_option maxRecDepth 100000
set_option linter.unusedSimpArgs false
set_option linter.unusedVariables false

set_option maxHeartbeats 8000000 in
theorem ptick_ly1 (w0 : World) (K : List (Nat × Obj)) (w : World) (t : Nat) (s : Ms) (hS : TuAt w0 K w t s) (hm : mayB s.r.base s.r.log = true) (hbo : OkM s.r.base) (hlo : ∀ e ∈ s.r.log, OkM e) (hout : s.out = []) (hnd : 1 ≤ s.r.node ∧ s.r.node ≤ 7) (hel : 0 ≤ s.r.elapsed ∧ s.r.elapsed ≤ 1000) (hpl : s.r.peers.length ≤ 1000000) (hnx : ∀ p ∈ s.r.peers, p.next < 18446744073709551616) (h1 : s.r.elapsed < 1000) (h2 : s.r.role = 2) (h3 : 2 ≤ (if s.r.elapsed < 1000 then s.r.elapsed + 1 else s.r.elapsed)) : Calls Tryz.prog 53 #[.pointer (some ⟨t, 0, none⟩)] w fun e w' => e = .returned (.tuple #[]) ∧ TuR w0 K w w' t [82, 34] (tickR s.r) := by
  obtain ⟨hb0, ht0, z, gs, os, hT, hz, hP, ho, hKp⟩ := hS
  obtain ⟨r, zs, ⟨ba, bn, bc⟩, ⟨la, ln, lc⟩, ⟨va, vn, vc⟩, ⟨pa, pn, pc⟩⟩ := z
  obtain ⟨sr, so⟩ := s
  obtain rfl : r = sr := hz
  obtain ⟨nd, tm, vo, ⟨bi, bt, bk, bd⟩, lg, cm, ro, le, el, vt, pe⟩ := r
  obtain ⟨oa, on, oc⟩ := os
  dsimp only at *
  dsimp only [tc] at hT
  have htl : t < w.heap.size := (Array.getElem?_eq_some_iff.1 hT).1
  subst hout
  obtain ⟨e2, he2⟩ : ∃ e2, e2 = if el < 1000 then el + 1 else el := ⟨_, rfl⟩
  rw [← he2] at h3
  have HTK : Hid (tickR ⟨nd, tm, vo, ⟨bi, bt, bk, bd⟩, lg, cm, ro, le, el, vt, pe⟩ = if ro = 2 then (if 2 ≤ e2 then tellAllR ⟨⟨nd, tm, vo, ⟨bi, bt, bk, bd⟩, lg, cm, ro, le, 0, vt, pe⟩, []⟩ else ⟨⟨nd, tm, vo, ⟨bi, bt, bk, bd⟩, lg, cm, ro, le, e2, vt, pe⟩, []⟩) else if 10 + 2 * nd ≤ e2 ∧ tm < 4611686018427387904 ∧ nd ∈ votM ⟨bi, bt, bk, bd⟩ lg then askR ⟨⟨nd, tm, vo, ⟨bi, bt, bk, bd⟩, lg, cm, ro, le, e2, vt, pe⟩, []⟩ else ⟨⟨nd, tm, vo, ⟨bi, bt, bk, bd⟩, lg, cm, ro, le, e2, vt, pe⟩, []⟩) := by show _ = _; rw [he2]; rfl
  have HMB : Hid (mayB ⟨bi, bt, bk, bd⟩ lg = true ∧ OkM ⟨bi, bt, bk, bd⟩ ∧ ∀ e ∈ lg, OkM e) := ⟨hm, hbo, hlo⟩
  obtain ⟨W1, hW1⟩ : ∃ W, w.setCell ⟨t, 11, none⟩ (.int .i64 e2) = W := ⟨_, rfl⟩
  have hR1 : TuR w0 K w W1 t [82] ⟨⟨nd, tm, vo, ⟨bi, bt, bk, bd⟩, lg, cm, ro, le, e2, vt, pe⟩, []⟩ := by
    rw [← hW1]
    exact tu_store (s := ⟨⟨nd, tm, vo, ⟨bi, bt, bk, bd⟩, lg, cm, ro, le, e2, vt, pe⟩, []⟩) (K := K) (z := ⟨⟨nd, tm, vo, ⟨bi, bt, bk, bd⟩, lg, cm, ro, le, e2, vt, pe⟩, zs, (ba, bn, bc), (la, ln, lc), (va, vn, vc), (pa, pn, pc)⟩) (gs := gs) (os := (oa, on, oc)) ht0 hT (set1 11 _) (by simp [World.setCell]) (hb0.setCell (p := ⟨t, 11, none⟩) ht0 _) (by simp [World.setCell, Array.getElem?_modify, hT, tc]) hP rfl ho hKp
  have T1 : W1.heap[t]? = some (.cells #[.int .i64 nd, .int .u64 (tm : Int), .int .i64 vo, .int .u64 (bi : Int), .int .u64 (bt : Int), .int .i64 bk, .slice ba bn bc, .slice la ln lc, .int .u64 (cm : Int), .int .i64 ro, .int .i64 le, .int .i64 e2, .slice va vn vc, .slice pa pn pc, .slice oa on oc] 82) := by rw [← hW1]; simp [World.setCell, Array.getElem?_modify, hT]
  have HR1 : Hid (TuR w0 K w W1 t [82] ⟨⟨nd, tm, vo, ⟨bi, bt, bk, bd⟩, lg, cm, ro, le, e2, vt, pe⟩, []⟩) := hR1
  have HPP : Hid (TuP w0.heap.size w ⟨⟨nd, tm, vo, ⟨bi, bt, bk, bd⟩, lg, cm, ro, le, e2, vt, pe⟩, zs, (ba, bn, bc), (la, ln, lc), (va, vn, vc), (pa, pn, pc)⟩ gs (oa, on, oc)) := hP
  have HKK : Hid (∀ x ∈ K, w.heap[x.1]? = some x.2 ∧ x.1 ≠ t ∧ (slv (oa, on, oc)).ownBlock ≠ some x.1) := hKp
  have HOO : Hid ((gs.map fun g => g.m) = []) := ho
  have htl1 : t < W1.heap.size := (Array.getElem?_eq_some_iff.1 T1).1
  obtain ⟨⟨-, -, -, -, -, -, -, -, -, -, -, f11, -, -, -⟩, -, -, -, -, -, -, -, -, -, -, -, o11, -, -, -⟩ := r15_cells hT
  obtain ⟨⟨-, -, -, -, -, -, -, -, -, -, -, g11, -, -, -⟩, p0, p1, p2, p3, p4, p5, p6, p7, p8, p9, p10, p11, p12, p13, p14⟩ := r15_cells T1
  clear hR1 hP ho hKp hm hbo hlo
  have hE : el + 1 = e2 := by rw [he2, if_pos h1]
  have hEw : IntKind.i64.wrap (el + 1) = e2 := by rw [hE]; exact IntWalk.i64_in _ (by omega)
  have hE2w : IntKind.i64.wrap e2 = e2 := IntWalk.i64_in _ (by omega)
  have hmn : min e2 1000 = e2 := by omega
  have HE : Hid (_ = _) := he2
  clear he2
  have E : Hid (_ = _) := HTK.out.trans ((if_pos h2).trans (if_pos h3))
  have hR2 : Hid (TuR w0 K w (W1.setCell ⟨t, 11, none⟩ (.int .i64 0)) t [82] ⟨⟨nd, tm, vo, ⟨bi, bt, bk, bd⟩, lg, cm, ro, le, 0, vt, pe⟩, []⟩) := by
    have h7 := tu_store (w := W1) (s := ⟨⟨nd, tm, vo, ⟨bi, bt, bk, bd⟩, lg, cm, ro, le, 0, vt, pe⟩, []⟩) (K := K) (w' := W1.setCell ⟨t, 11, none⟩ (.int .i64 0)) (z := ⟨⟨nd, tm, vo, ⟨bi, bt, bk, bd⟩, lg, cm, ro, le, 0, vt, pe⟩, zs, (ba, bn, bc), (la, ln, lc), (va, vn, vc), (pa, pn, pc)⟩) (gs := gs) (os := (oa, on, oc)) ht0 T1 (set1 11 _) (by simp [World.setCell]) (HR1.out.1.1.setCell (p := ⟨t, 11, none⟩) ht0 _) (by simp [World.setCell, Array.getElem?_modify, T1, tc]) (HPP.out.frm HR1.out.2.1 (by decide)) rfl HOO.out (TuAt.kset HKK.out (by rw [← hW1]; exact set1 11 _) rfl)
    exact HR1.out.trans h7
  have kt := ptella_of w0 K _ t _ hR2.out.1 HMB.out.1 HMB.out.2.1 HMB.out.2.2 (by dsimp only; simp; omega) hnx
  rw [← E.out] at kt
  have h2b : (ro == 2) = true := by simpa using h2
  subst h2
  clear HPP HKK E HTK
  go_enter Tryz.func53, Tryz.ntmps53
  go_wp2_with fail
  refine kt.mono ?_
  rintro e w9 ⟨rfl, hR9⟩
  have HR9 : Hid _ := (hR2.out.mono (T' := [82, 34]) (by simp)).trans hR9
  clear kt hR9 hR2
  go_wp2
  go_end0
  exact ⟨rfl, HR9.out⟩
set_option maxHeartbeats 8000000 in
theorem ptick_ln1 (w0 : World) (K : List (Nat × Obj)) (w : World) (t : Nat) (s : Ms) (hS : TuAt w0 K w t s) (hm : mayB s.r.base s.r.log = true) (hbo : OkM s.r.base) (hlo : ∀ e ∈ s.r.log, OkM e) (hout : s.out = []) (hnd : 1 ≤ s.r.node ∧ s.r.node ≤ 7) (hel : 0 ≤ s.r.elapsed ∧ s.r.elapsed ≤ 1000) (hpl : s.r.peers.length ≤ 1000000) (hnx : ∀ p ∈ s.r.peers, p.next < 18446744073709551616) (h1 : s.r.elapsed < 1000) (h2 : s.r.role = 2) (h3 : ¬ 2 ≤ (if s.r.elapsed < 1000 then s.r.elapsed + 1 else s.r.elapsed)) : Calls Tryz.prog 53 #[.pointer (some ⟨t, 0, none⟩)] w fun e w' => e = .returned (.tuple #[]) ∧ TuR w0 K w w' t [82, 34] (tickR s.r) := by
  obtain ⟨hb0, ht0, z, gs, os, hT, hz, hP, ho, hKp⟩ := hS
  obtain ⟨r, zs, ⟨ba, bn, bc⟩, ⟨la, ln, lc⟩, ⟨va, vn, vc⟩, ⟨pa, pn, pc⟩⟩ := z
  obtain ⟨sr, so⟩ := s
  obtain rfl : r = sr := hz
  obtain ⟨nd, tm, vo, ⟨bi, bt, bk, bd⟩, lg, cm, ro, le, el, vt, pe⟩ := r
  obtain ⟨oa, on, oc⟩ := os
  dsimp only at *
  dsimp only [tc] at hT
  have htl : t < w.heap.size := (Array.getElem?_eq_some_iff.1 hT).1
  subst hout
  obtain ⟨e2, he2⟩ : ∃ e2, e2 = if el < 1000 then el + 1 else el := ⟨_, rfl⟩
  rw [← he2] at h3
  have HTK : Hid (tickR ⟨nd, tm, vo, ⟨bi, bt, bk, bd⟩, lg, cm, ro, le, el, vt, pe⟩ = if ro = 2 then (if 2 ≤ e2 then tellAllR ⟨⟨nd, tm, vo, ⟨bi, bt, bk, bd⟩, lg, cm, ro, le, 0, vt, pe⟩, []⟩ else ⟨⟨nd, tm, vo, ⟨bi, bt, bk, bd⟩, lg, cm, ro, le, e2, vt, pe⟩, []⟩) else if 10 + 2 * nd ≤ e2 ∧ tm < 4611686018427387904 ∧ nd ∈ votM ⟨bi, bt, bk, bd⟩ lg then askR ⟨⟨nd, tm, vo, ⟨bi, bt, bk, bd⟩, lg, cm, ro, le, e2, vt, pe⟩, []⟩ else ⟨⟨nd, tm, vo, ⟨bi, bt, bk, bd⟩, lg, cm, ro, le, e2, vt, pe⟩, []⟩) := by show _ = _; rw [he2]; rfl
  have HMB : Hid (mayB ⟨bi, bt, bk, bd⟩ lg = true ∧ OkM ⟨bi, bt, bk, bd⟩ ∧ ∀ e ∈ lg, OkM e) := ⟨hm, hbo, hlo⟩
  obtain ⟨W1, hW1⟩ : ∃ W, w.setCell ⟨t, 11, none⟩ (.int .i64 e2) = W := ⟨_, rfl⟩
  have hR1 : TuR w0 K w W1 t [82] ⟨⟨nd, tm, vo, ⟨bi, bt, bk, bd⟩, lg, cm, ro, le, e2, vt, pe⟩, []⟩ := by
    rw [← hW1]
    exact tu_store (s := ⟨⟨nd, tm, vo, ⟨bi, bt, bk, bd⟩, lg, cm, ro, le, e2, vt, pe⟩, []⟩) (K := K) (z := ⟨⟨nd, tm, vo, ⟨bi, bt, bk, bd⟩, lg, cm, ro, le, e2, vt, pe⟩, zs, (ba, bn, bc), (la, ln, lc), (va, vn, vc), (pa, pn, pc)⟩) (gs := gs) (os := (oa, on, oc)) ht0 hT (set1 11 _) (by simp [World.setCell]) (hb0.setCell (p := ⟨t, 11, none⟩) ht0 _) (by simp [World.setCell, Array.getElem?_modify, hT, tc]) hP rfl ho hKp
  have T1 : W1.heap[t]? = some (.cells #[.int .i64 nd, .int .u64 (tm : Int), .int .i64 vo, .int .u64 (bi : Int), .int .u64 (bt : Int), .int .i64 bk, .slice ba bn bc, .slice la ln lc, .int .u64 (cm : Int), .int .i64 ro, .int .i64 le, .int .i64 e2, .slice va vn vc, .slice pa pn pc, .slice oa on oc] 82) := by rw [← hW1]; simp [World.setCell, Array.getElem?_modify, hT]
  have HR1 : Hid (TuR w0 K w W1 t [82] ⟨⟨nd, tm, vo, ⟨bi, bt, bk, bd⟩, lg, cm, ro, le, e2, vt, pe⟩, []⟩) := hR1
  have HPP : Hid (TuP w0.heap.size w ⟨⟨nd, tm, vo, ⟨bi, bt, bk, bd⟩, lg, cm, ro, le, e2, vt, pe⟩, zs, (ba, bn, bc), (la, ln, lc), (va, vn, vc), (pa, pn, pc)⟩ gs (oa, on, oc)) := hP
  have HKK : Hid (∀ x ∈ K, w.heap[x.1]? = some x.2 ∧ x.1 ≠ t ∧ (slv (oa, on, oc)).ownBlock ≠ some x.1) := hKp
  have HOO : Hid ((gs.map fun g => g.m) = []) := ho
  have htl1 : t < W1.heap.size := (Array.getElem?_eq_some_iff.1 T1).1
  obtain ⟨⟨-, -, -, -, -, -, -, -, -, -, -, f11, -, -, -⟩, -, -, -, -, -, -, -, -, -, -, -, o11, -, -, -⟩ := r15_cells hT
  obtain ⟨⟨-, -, -, -, -, -, -, -, -, -, -, g11, -, -, -⟩, p0, p1, p2, p3, p4, p5, p6, p7, p8, p9, p10, p11, p12, p13, p14⟩ := r15_cells T1
  clear hR1 hP ho hKp hm hbo hlo
  have hE : el + 1 = e2 := by rw [he2, if_pos h1]
  have hEw : IntKind.i64.wrap (el + 1) = e2 := by rw [hE]; exact IntWalk.i64_in _ (by omega)
  have hE2w : IntKind.i64.wrap e2 = e2 := IntWalk.i64_in _ (by omega)
  have hmn : min e2 1000 = e2 := by omega
  have HE : Hid (_ = _) := he2
  clear he2
  have E : Hid (_ = _) := HTK.out.trans ((if_pos h2).trans (if_neg h3))
  have HR9 : Hid (TuR w0 K w W1 t [82, 34] _) := HR1.out.mono (by simp)
  subst h2
  clear HPP HKK HTK
  go_enter Tryz.func53, Tryz.ntmps53
  go_wp2
  go_end0
  exact ⟨rfl, by rw [E.out]; exact HR9.out⟩
set_option maxHeartbeats 8000000 in
theorem ptick_a1 (w0 : World) (K : List (Nat × Obj)) (w : World) (t : Nat) (s : Ms) (hS : TuAt w0 K w t s) (hm : mayB s.r.base s.r.log = true) (hbo : OkM s.r.base) (hlo : ∀ e ∈ s.r.log, OkM e) (hout : s.out = []) (hnd : 1 ≤ s.r.node ∧ s.r.node ≤ 7) (hel : 0 ≤ s.r.elapsed ∧ s.r.elapsed ≤ 1000) (hpl : s.r.peers.length ≤ 1000000) (hnx : ∀ p ∈ s.r.peers, p.next < 18446744073709551616) (h1 : s.r.elapsed < 1000) (h2 : ¬ s.r.role = 2) (h3 : (if s.r.elapsed < 1000 then s.r.elapsed + 1 else s.r.elapsed) = (if s.r.elapsed < 1000 then s.r.elapsed + 1 else s.r.elapsed)) (h5 : ¬ s.r.node ∈ votR s.r) : Calls Tryz.prog 53 #[.pointer (some ⟨t, 0, none⟩)] w fun e w' => e = .returned (.tuple #[]) ∧ TuR w0 K w w' t [82, 34] (tickR s.r) := by
  obtain ⟨hb0, ht0, z, gs, os, hT, hz, hP, ho, hKp⟩ := hS
  obtain ⟨r, zs, ⟨ba, bn, bc⟩, ⟨la, ln, lc⟩, ⟨va, vn, vc⟩, ⟨pa, pn, pc⟩⟩ := z
  obtain ⟨sr, so⟩ := s
  obtain rfl : r = sr := hz
  obtain ⟨nd, tm, vo, ⟨bi, bt, bk, bd⟩, lg, cm, ro, le, el, vt, pe⟩ := r
  obtain ⟨oa, on, oc⟩ := os
  dsimp only [votR] at *
  dsimp only [tc] at hT
  have htl : t < w.heap.size := (Array.getElem?_eq_some_iff.1 hT).1
  subst hout
  obtain ⟨e2, he2⟩ : ∃ e2, e2 = if el < 1000 then el + 1 else el := ⟨_, rfl⟩
  rw [← he2] at h3
  have HTK : Hid (tickR ⟨nd, tm, vo, ⟨bi, bt, bk, bd⟩, lg, cm, ro, le, el, vt, pe⟩ = if ro = 2 then (if 2 ≤ e2 then tellAllR ⟨⟨nd, tm, vo, ⟨bi, bt, bk, bd⟩, lg, cm, ro, le, 0, vt, pe⟩, []⟩ else ⟨⟨nd, tm, vo, ⟨bi, bt, bk, bd⟩, lg, cm, ro, le, e2, vt, pe⟩, []⟩) else if 10 + 2 * nd ≤ e2 ∧ tm < 4611686018427387904 ∧ nd ∈ votM ⟨bi, bt, bk, bd⟩ lg then askR ⟨⟨nd, tm, vo, ⟨bi, bt, bk, bd⟩, lg, cm, ro, le, e2, vt, pe⟩, []⟩ else ⟨⟨nd, tm, vo, ⟨bi, bt, bk, bd⟩, lg, cm, ro, le, e2, vt, pe⟩, []⟩) := by show _ = _; rw [he2]; rfl
  have HMB : Hid (mayB ⟨bi, bt, bk, bd⟩ lg = true ∧ OkM ⟨bi, bt, bk, bd⟩ ∧ ∀ e ∈ lg, OkM e) := ⟨hm, hbo, hlo⟩
  obtain ⟨W1, hW1⟩ : ∃ W, w.setCell ⟨t, 11, none⟩ (.int .i64 e2) = W := ⟨_, rfl⟩
  have hR1 : TuR w0 K w W1 t [82] ⟨⟨nd, tm, vo, ⟨bi, bt, bk, bd⟩, lg, cm, ro, le, e2, vt, pe⟩, []⟩ := by
    rw [← hW1]
    exact tu_store (s := ⟨⟨nd, tm, vo, ⟨bi, bt, bk, bd⟩, lg, cm, ro, le, e2, vt, pe⟩, []⟩) (K := K) (z := ⟨⟨nd, tm, vo, ⟨bi, bt, bk, bd⟩, lg, cm, ro, le, e2, vt, pe⟩, zs, (ba, bn, bc), (la, ln, lc), (va, vn, vc), (pa, pn, pc)⟩) (gs := gs) (os := (oa, on, oc)) ht0 hT (set1 11 _) (by simp [World.setCell]) (hb0.setCell (p := ⟨t, 11, none⟩) ht0 _) (by simp [World.setCell, Array.getElem?_modify, hT, tc]) hP rfl ho hKp
  have T1 : W1.heap[t]? = some (.cells #[.int .i64 nd, .int .u64 (tm : Int), .int .i64 vo, .int .u64 (bi : Int), .int .u64 (bt : Int), .int .i64 bk, .slice ba bn bc, .slice la ln lc, .int .u64 (cm : Int), .int .i64 ro, .int .i64 le, .int .i64 e2, .slice va vn vc, .slice pa pn pc, .slice oa on oc] 82) := by rw [← hW1]; simp [World.setCell, Array.getElem?_modify, hT]
  have HR1 : Hid (TuR w0 K w W1 t [82] ⟨⟨nd, tm, vo, ⟨bi, bt, bk, bd⟩, lg, cm, ro, le, e2, vt, pe⟩, []⟩) := hR1
  have HPP : Hid (TuP w0.heap.size w ⟨⟨nd, tm, vo, ⟨bi, bt, bk, bd⟩, lg, cm, ro, le, e2, vt, pe⟩, zs, (ba, bn, bc), (la, ln, lc), (va, vn, vc), (pa, pn, pc)⟩ gs (oa, on, oc)) := hP
  have HKK : Hid (∀ x ∈ K, w.heap[x.1]? = some x.2 ∧ x.1 ≠ t ∧ (slv (oa, on, oc)).ownBlock ≠ some x.1) := hKp
  have HOO : Hid ((gs.map fun g => g.m) = []) := ho
  have htl1 : t < W1.heap.size := (Array.getElem?_eq_some_iff.1 T1).1
  obtain ⟨⟨-, -, -, -, -, -, -, -, -, -, -, f11, -, -, -⟩, -, -, -, -, -, -, -, -, -, -, -, o11, -, -, -⟩ := r15_cells hT
  obtain ⟨⟨-, -, -, -, -, -, -, -, -, -, -, g11, -, -, -⟩, p0, p1, p2, p3, p4, p5, p6, p7, p8, p9, p10, p11, p12, p13, p14⟩ := r15_cells T1
  clear hR1 hP ho hKp hm hbo hlo
  have hE : el + 1 = e2 := by rw [he2, if_pos h1]
  have hEw : IntKind.i64.wrap (el + 1) = e2 := by rw [hE]; exact IntWalk.i64_in _ (by omega)
  have hE2w : IntKind.i64.wrap e2 = e2 := IntWalk.i64_in _ (by omega)
  have hmn : min e2 1000 = e2 := by omega
  have HE : Hid (_ = _) := he2
  clear he2
  have E : Hid (_ = _) := HTK.out.trans ((if_neg h2).trans (if_neg (fun h => h5 h.2.2)))
  have hw1 : IntKind.i64.wrap (2 * nd) = 2 * nd := IntWalk.i64_in _ (by omega)
  have hw2 : IntKind.i64.wrap (10 + 2 * nd) = 10 + 2 * nd := IntWalk.i64_in _ (by omega)
  have h2b : (ro == 2) = false := by simpa using h2
  clear HPP HKK HTK
  go_enter Tryz.func53, Tryz.ntmps53
  go_wp2
  (try simp only [Exit.inBlock, Exit.then])
  clear hW1
  refine wp_region_L (fun W => Below W1.heap.size W1 W) [] (by kernel_rfl) ?_
  have hbd : Below W1.heap.size W1 W1.drew := (Below.refl _ W1).drew
  have HTL : Hid (∀ W, Below W1.heap.size W1 W → _) := fun W hW => r15_cells ((hW.block t htl1).trans T1)
  have kv := isVoter_b w0 K W1.drew t _ nd (HR1.out.1.below hbd) HMB.out.1 HMB.out.2.1 HMB.out.2.2 false (decide_eq_false h5)
  generalize W1.drew = wd at *
  refine wpAnyL_take 0 rfl (by kernel_rfl) (by kernel_rfl) (by kernel_rfl) (by kernel_rfl) (fun _ _ _ h => h) (wanted_none rfl) (by intro w' hS'; have hz := hS'; obtain ⟨-, c0, c1, c2, c3, c4, c5, c6, c7, c8, c9, c10, c11, c12, c13, c14⟩ := HTL.out _ hz; go_simp <;> rfl) hbd ?_
  try simp only [List.getElem_toArray, List.getElem_cons_succ, List.getElem_cons_zero, Act.put, List.setIfInBounds_toArray, List.set_cons_zero, List.set_cons_succ]
  refine wpAnyL_take 1 rfl (by kernel_rfl) (by kernel_rfl) (by kernel_rfl) (by kernel_rfl) (fun _ _ _ h => h) (wanted_none rfl) (by intro w' hS'; have hz := hS'; obtain ⟨-, c0, c1, c2, c3, c4, c5, c6, c7, c8, c9, c10, c11, c12, c13, c14⟩ := HTL.out _ hz; go_simp <;> rfl) hbd ?_
  try simp only [List.getElem_toArray, List.getElem_cons_succ, List.getElem_cons_zero, Act.put, List.setIfInBounds_toArray, List.set_cons_zero, List.set_cons_succ]
  refine wpAnyL_take 2 rfl (by kernel_rfl) (by kernel_rfl) (by kernel_rfl) (by kernel_rfl) (fun _ _ _ h => h) (wanted_none rfl) (by intro w' hS'; have hz := hS'; obtain ⟨-, c0, c1, c2, c3, c4, c5, c6, c7, c8, c9, c10, c11, c12, c13, c14⟩ := HTL.out _ hz; go_simp <;> rfl) hbd ?_
  try simp only [List.getElem_toArray, List.getElem_cons_succ, List.getElem_cons_zero, Act.put, List.setIfInBounds_toArray, List.set_cons_zero, List.set_cons_succ]
  refine wpAnyL_take 3 rfl (by kernel_rfl) (by kernel_rfl) (by kernel_rfl) (by kernel_rfl) (fun _ _ _ h => h) (wanted_none rfl) (by intro w' hS'; have hz := hS'; obtain ⟨-, c0, c1, c2, c3, c4, c5, c6, c7, c8, c9, c10, c11, c12, c13, c14⟩ := HTL.out _ hz; go_simp <;> rfl) hbd ?_
  try simp only [List.getElem_toArray, List.getElem_cons_succ, List.getElem_cons_zero, Act.put, List.setIfInBounds_toArray, List.set_cons_zero, List.set_cons_succ]
  refine wpAnyL_take 4 rfl (by kernel_rfl) (by kernel_rfl) (by kernel_rfl) (by kernel_rfl) (fun _ _ _ h => h) (wanted_none rfl) (by intro w' hS'; have hz := hS'; obtain ⟨-, c0, c1, c2, c3, c4, c5, c6, c7, c8, c9, c10, c11, c12, c13, c14⟩ := HTL.out _ hz; go_simp <;> rfl) hbd ?_
  try simp only [List.getElem_toArray, List.getElem_cons_succ, List.getElem_cons_zero, Act.put, List.setIfInBounds_toArray, List.set_cons_zero, List.set_cons_succ]
  refine wpAnyL_take 5 rfl (by kernel_rfl) (by kernel_rfl) (by kernel_rfl) (by kernel_rfl) (fun _ _ _ h => h) (wanted_none rfl) (by intro w' hS'; have hz := hS'; obtain ⟨-, c0, c1, c2, c3, c4, c5, c6, c7, c8, c9, c10, c11, c12, c13, c14⟩ := HTL.out _ hz; go_simp <;> rfl) hbd ?_
  try simp only [List.getElem_toArray, List.getElem_cons_succ, List.getElem_cons_zero, Act.put, List.setIfInBounds_toArray, List.set_cons_zero, List.set_cons_succ]
  refine wpAnyL_one 6 (by kernel_rfl) rfl (wanted_none rfl) ?_
  intro K' hK'
  go_simp
  go_at_call 90
  refine kv.mono ?_
  rintro e w3 ⟨rfl, hb3⟩
  have hS3 : (fun W => Below W1.heap.size W1 W) w3 := hbd.trans (hb3.mono hbd.size)
  clear kv
  refine hK'.out _ _ (.inr hS3) ?_
  clear hK' K'
  try simp only [List.getElem_toArray, List.getElem_cons_succ, List.getElem_cons_zero, Act.put, List.setIfInBounds_toArray, List.set_cons_zero, List.set_cons_succ]
  refine wpAnyL_take 7 rfl (by kernel_rfl) (by kernel_rfl) (by kernel_rfl) (by kernel_rfl) (fun _ _ _ h => h) (wanted_none rfl) (by intro w' hS'; have hz := hS'; obtain ⟨-, c0, c1, c2, c3, c4, c5, c6, c7, c8, c9, c10, c11, c12, c13, c14⟩ := HTL.out _ hz; go_simp <;> rfl) hS3 ?_
  try simp only [List.getElem_toArray, List.getElem_cons_succ, List.getElem_cons_zero, Act.put, List.setIfInBounds_toArray, List.set_cons_zero, List.set_cons_succ]
  refine wpAnyL_skip 8 rfl (by kernel_rfl) (by kernel_rfl) (by kernel_rfl) (by kernel_rfl) (fun _ _ _ h => h) (by kernel_rfl) hS3 ?_
  try simp only [List.getElem_toArray, List.getElem_cons_succ, List.getElem_cons_zero, Act.put, List.setIfInBounds_toArray, List.set_cons_zero, List.set_cons_succ]
  refine wpAnyL_skip 9 rfl (by kernel_rfl) (by kernel_rfl) (by kernel_rfl) (by kernel_rfl) (fun _ _ _ h => h) (by kernel_rfl) hS3 ?_
  try simp only [List.getElem_toArray, List.getElem_cons_succ, List.getElem_cons_zero, Act.put, List.setIfInBounds_toArray, List.set_cons_zero, List.set_cons_succ]
  refine wpAnyL_skip 10 rfl (by kernel_rfl) (by kernel_rfl) (by kernel_rfl) (by kernel_rfl) (fun _ _ _ h => h) (by kernel_rfl) hS3 ?_
  try simp only [List.getElem_toArray, List.getElem_cons_succ, List.getElem_cons_zero, Act.put, List.setIfInBounds_toArray, List.set_cons_zero, List.set_cons_succ]
  refine wpAnyL_skip 11 rfl (by kernel_rfl) (by kernel_rfl) (by kernel_rfl) (by kernel_rfl) (fun _ _ _ h => h) (by kernel_rfl) hS3 ?_
  try simp only [List.getElem_toArray, List.getElem_cons_succ, List.getElem_cons_zero, Act.put, List.setIfInBounds_toArray, List.set_cons_zero, List.set_cons_succ]
  refine wpAnyL_skip 12 rfl (by kernel_rfl) (by kernel_rfl) (by kernel_rfl) (by kernel_rfl) (fun _ _ _ h => h) (by kernel_rfl) hS3 ?_
  try simp only [List.getElem_toArray, List.getElem_cons_succ, List.getElem_cons_zero, Act.put, List.setIfInBounds_toArray, List.set_cons_zero, List.set_cons_succ]
  refine wpAnyL_skip 13 rfl (by kernel_rfl) (by kernel_rfl) (by kernel_rfl) (by kernel_rfl) (fun _ _ _ h => h) (by kernel_rfl) hS3 ?_
  try simp only [List.getElem_toArray, List.getElem_cons_succ, List.getElem_cons_zero, Act.put, List.setIfInBounds_toArray, List.set_cons_zero, List.set_cons_succ]
  refine wpAnyL_skip 14 rfl (by kernel_rfl) (by kernel_rfl) (by kernel_rfl) (by kernel_rfl) (fun _ _ _ h => h) (by kernel_rfl) hS3 ?_
  try simp only [List.getElem_toArray, List.getElem_cons_succ, List.getElem_cons_zero, Act.put, List.setIfInBounds_toArray, List.set_cons_zero, List.set_cons_succ]
  refine wpAnyL_skip 15 rfl (by kernel_rfl) (by kernel_rfl) (by kernel_rfl) (by kernel_rfl) (fun _ _ _ h => h) (by kernel_rfl) hS3 ?_
  try simp only [List.getElem_toArray, List.getElem_cons_succ, List.getElem_cons_zero, Act.put, List.setIfInBounds_toArray, List.set_cons_zero, List.set_cons_succ]
  refine wpAnyL_skip 16 rfl (by kernel_rfl) (by kernel_rfl) (by kernel_rfl) (by kernel_rfl) (fun _ _ _ h => h) (by kernel_rfl) hS3 ?_
  try simp only [List.getElem_toArray, List.getElem_cons_succ, List.getElem_cons_zero, Act.put, List.setIfInBounds_toArray, List.set_cons_zero, List.set_cons_succ]
  refine wpAnyL_skip 17 rfl (by kernel_rfl) (by kernel_rfl) (by kernel_rfl) (by kernel_rfl) (fun _ _ _ h => h) (by kernel_rfl) hS3 ?_
  try simp only [List.getElem_toArray, List.getElem_cons_succ, List.getElem_cons_zero, Act.put, List.setIfInBounds_toArray, List.set_cons_zero, List.set_cons_succ]
  refine wpAnyL_skip 18 rfl (by kernel_rfl) (by kernel_rfl) (by kernel_rfl) (by kernel_rfl) (fun _ _ _ h => h) (by kernel_rfl) hS3 ?_
  try simp only [List.getElem_toArray, List.getElem_cons_succ, List.getElem_cons_zero, Act.put, List.setIfInBounds_toArray, List.set_cons_zero, List.set_cons_succ]
  refine wpAnyL_skip 19 rfl (by kernel_rfl) (by kernel_rfl) (by kernel_rfl) (by kernel_rfl) (fun _ _ _ h => h) (by kernel_rfl) hS3 ?_
  try simp only [List.getElem_toArray, List.getElem_cons_succ, List.getElem_cons_zero, Act.put, List.setIfInBounds_toArray, List.set_cons_zero, List.set_cons_succ]
  refine wpAnyL_skip 20 rfl (by kernel_rfl) (by kernel_rfl) (by kernel_rfl) (by kernel_rfl) (fun _ _ _ h => h) (by kernel_rfl) hS3 ?_
  try simp only [List.getElem_toArray, List.getElem_cons_succ, List.getElem_cons_zero, Act.put, List.setIfInBounds_toArray, List.set_cons_zero, List.set_cons_succ]
  refine wpAnyL_take 21 rfl (by kernel_rfl) (by kernel_rfl) (by kernel_rfl) (by kernel_rfl) (fun _ _ _ h => h) (wanted_none rfl) (by intro w' hS'; have hz := hS'; obtain ⟨-, c0, c1, c2, c3, c4, c5, c6, c7, c8, c9, c10, c11, c12, c13, c14⟩ := HTL.out _ hz; go_simp <;> rfl) hS3 ?_
  try simp only [List.getElem_toArray, List.getElem_cons_succ, List.getElem_cons_zero, Act.put, List.setIfInBounds_toArray, List.set_cons_zero, List.set_cons_succ]
  refine wpAnyL_take 22 rfl (by kernel_rfl) (by kernel_rfl) (by kernel_rfl) (by kernel_rfl) (fun _ _ _ h => h) (wanted_none rfl) (by intro w' hS'; have hz := hS'; obtain ⟨-, c0, c1, c2, c3, c4, c5, c6, c7, c8, c9, c10, c11, c12, c13, c14⟩ := HTL.out _ hz; go_simp <;> rfl) hS3 ?_
  try simp only [List.getElem_toArray, List.getElem_cons_succ, List.getElem_cons_zero, Act.put, List.setIfInBounds_toArray, List.set_cons_zero, List.set_cons_succ]
  refine wpAnyL_skip 23 rfl (by kernel_rfl) (by kernel_rfl) (by kernel_rfl) (by kernel_rfl) (fun _ _ _ h => h) (by kernel_rfl) hS3 ?_
  try simp only [List.getElem_toArray, List.getElem_cons_succ, List.getElem_cons_zero, Act.put, List.setIfInBounds_toArray, List.set_cons_zero, List.set_cons_succ]
  refine wpAnyL_skip 24 rfl (by kernel_rfl) (by kernel_rfl) (by kernel_rfl) (by kernel_rfl) (fun _ _ _ h => h) (by kernel_rfl) hS3 ?_
  try simp only [List.getElem_toArray, List.getElem_cons_succ, List.getElem_cons_zero, Act.put, List.setIfInBounds_toArray, List.set_cons_zero, List.set_cons_succ]
  refine wpAnyL_skip 25 rfl (by kernel_rfl) (by kernel_rfl) (by kernel_rfl) (by kernel_rfl) (fun _ _ _ h => h) (by kernel_rfl) hS3 ?_
  try simp only [List.getElem_toArray, List.getElem_cons_succ, List.getElem_cons_zero, Act.put, List.setIfInBounds_toArray, List.set_cons_zero, List.set_cons_succ]
  refine wpAnyL_skip 26 rfl (by kernel_rfl) (by kernel_rfl) (by kernel_rfl) (by kernel_rfl) (fun _ _ _ h => h) (by kernel_rfl) hS3 ?_
  try simp only [List.getElem_toArray, List.getElem_cons_succ, List.getElem_cons_zero, Act.put, List.setIfInBounds_toArray, List.set_cons_zero, List.set_cons_succ]
  refine wpAnyL_skip 27 rfl (by kernel_rfl) (by kernel_rfl) (by kernel_rfl) (by kernel_rfl) (fun _ _ _ h => h) (by kernel_rfl) hS3 ?_
  try simp only [List.getElem_toArray, List.getElem_cons_succ, List.getElem_cons_zero, Act.put, List.setIfInBounds_toArray, List.set_cons_zero, List.set_cons_succ]
  refine wpAnyL_skip 28 rfl (by kernel_rfl) (by kernel_rfl) (by kernel_rfl) (by kernel_rfl) (fun _ _ _ h => h) (by kernel_rfl) hS3 ?_
  try simp only [List.getElem_toArray, List.getElem_cons_succ, List.getElem_cons_zero, Act.put, List.setIfInBounds_toArray, List.set_cons_zero, List.set_cons_succ]
  refine wpAnyL_take 29 rfl (by kernel_rfl) (by kernel_rfl) (by kernel_rfl) (by kernel_rfl) (fun _ _ _ h => h) (wanted_none rfl) (by intro w' hS'; have hz := hS'; obtain ⟨-, c0, c1, c2, c3, c4, c5, c6, c7, c8, c9, c10, c11, c12, c13, c14⟩ := HTL.out _ hz; go_simp <;> rfl) hS3 ?_
  try simp only [List.getElem_toArray, List.getElem_cons_succ, List.getElem_cons_zero, Act.put, List.setIfInBounds_toArray, List.set_cons_zero, List.set_cons_succ]
  refine wpAnyL_take 30 rfl (by kernel_rfl) (by kernel_rfl) (by kernel_rfl) (by kernel_rfl) (fun _ _ _ h => h) (wanted_none rfl) (by intro w' hS'; have hz := hS'; obtain ⟨-, c0, c1, c2, c3, c4, c5, c6, c7, c8, c9, c10, c11, c12, c13, c14⟩ := HTL.out _ hz; go_simp <;> rfl) hS3 ?_
  try simp only [List.getElem_toArray, List.getElem_cons_succ, List.getElem_cons_zero, Act.put, List.setIfInBounds_toArray, List.set_cons_zero, List.set_cons_succ]
  refine wpAnyL_done (by kernel_rfl) (NoPanic.normal ?_) _
  have HR9 : Hid (TuR w0 K w w3 t [82, 34] _) := (HR1.out.trans (TuR.of_below _ HR1.out.1 hS3)).mono (by simp)
  go_wp2
  go_end0
  exact ⟨rfl, by rw [E.out]; exact HR9.out⟩
set_option maxHeartbeats 8000000 in
theorem ptick_b1 (w0 : World) (K : List (Nat × Obj)) (w : World) (t : Nat) (s : Ms) (hS : TuAt w0 K w t s) (hm : mayB s.r.base s.r.log = true) (hbo : OkM s.r.base) (hlo : ∀ e ∈ s.r.log, OkM e) (hout : s.out = []) (hnd : 1 ≤ s.r.node ∧ s.r.node ≤ 7) (hel : 0 ≤ s.r.elapsed ∧ s.r.elapsed ≤ 1000) (hpl : s.r.peers.length ≤ 1000000) (hnx : ∀ p ∈ s.r.peers, p.next < 18446744073709551616) (h1 : s.r.elapsed < 1000) (h2 : ¬ s.r.role = 2) (h3 : ¬ 10 + 2 * s.r.node ≤ (if s.r.elapsed < 1000 then s.r.elapsed + 1 else s.r.elapsed)) (h5 : s.r.node ∈ votR s.r) : Calls Tryz.prog 53 #[.pointer (some ⟨t, 0, none⟩)] w fun e w' => e = .returned (.tuple #[]) ∧ TuR w0 K w w' t [82, 34] (tickR s.r) := by
  obtain ⟨hb0, ht0, z, gs, os, hT, hz, hP, ho, hKp⟩ := hS
  obtain ⟨r, zs, ⟨ba, bn, bc⟩, ⟨la, ln, lc⟩, ⟨va, vn, vc⟩, ⟨pa, pn, pc⟩⟩ := z
  obtain ⟨sr, so⟩ := s
  obtain rfl : r = sr := hz
  obtain ⟨nd, tm, vo, ⟨bi, bt, bk, bd⟩, lg, cm, ro, le, el, vt, pe⟩ := r
  obtain ⟨oa, on, oc⟩ := os
  dsimp only [votR] at *
  dsimp only [tc] at hT
  have htl : t < w.heap.size := (Array.getElem?_eq_some_iff.1 hT).1
  subst hout
  obtain ⟨e2, he2⟩ : ∃ e2, e2 = if el < 1000 then el + 1 else el := ⟨_, rfl⟩
  rw [← he2] at h3
  have HTK : Hid (tickR ⟨nd, tm, vo, ⟨bi, bt, bk, bd⟩, lg, cm, ro, le, el, vt, pe⟩ = if ro = 2 then (if 2 ≤ e2 then tellAllR ⟨⟨nd, tm, vo, ⟨bi, bt, bk, bd⟩, lg, cm, ro, le, 0, vt, pe⟩, []⟩ else ⟨⟨nd, tm, vo, ⟨bi, bt, bk, bd⟩, lg, cm, ro, le, e2, vt, pe⟩, []⟩) else if 10 + 2 * nd ≤ e2 ∧ tm < 4611686018427387904 ∧ nd ∈ votM ⟨bi, bt, bk, bd⟩ lg then askR ⟨⟨nd, tm, vo, ⟨bi, bt, bk, bd⟩, lg, cm, ro, le, e2, vt, pe⟩, []⟩ else ⟨⟨nd, tm, vo, ⟨bi, bt, bk, bd⟩, lg, cm, ro, le, e2, vt, pe⟩, []⟩) := by show _ = _; rw [he2]; rfl
  have HMB : Hid (mayB ⟨bi, bt, bk, bd⟩ lg = true ∧ OkM ⟨bi, bt, bk, bd⟩ ∧ ∀ e ∈ lg, OkM e) := ⟨hm, hbo, hlo⟩
  obtain ⟨W1, hW1⟩ : ∃ W, w.setCell ⟨t, 11, none⟩ (.int .i64 e2) = W := ⟨_, rfl⟩
  have hR1 : TuR w0 K w W1 t [82] ⟨⟨nd, tm, vo, ⟨bi, bt, bk, bd⟩, lg, cm, ro, le, e2, vt, pe⟩, []⟩ := by
    rw [← hW1]
    exact tu_store (s := ⟨⟨nd, tm, vo, ⟨bi, bt, bk, bd⟩, lg, cm, ro, le, e2, vt, pe⟩, []⟩) (K := K) (z := ⟨⟨nd, tm, vo, ⟨bi, bt, bk, bd⟩, lg, cm, ro, le, e2, vt, pe⟩, zs, (ba, bn, bc), (la, ln, lc), (va, vn, vc), (pa, pn, pc)⟩) (gs := gs) (os := (oa, on, oc)) ht0 hT (set1 11 _) (by simp [World.setCell]) (hb0.setCell (p := ⟨t, 11, none⟩) ht0 _) (by simp [World.setCell, Array.getElem?_modify, hT, tc]) hP rfl ho hKp
  have T1 : W1.heap[t]? = some (.cells #[.int .i64 nd, .int .u64 (tm : Int), .int .i64 vo, .int .u64 (bi : Int), .int .u64 (bt : Int), .int .i64 bk, .slice ba bn bc, .slice la ln lc, .int .u64 (cm : Int), .int .i64 ro, .int .i64 le, .int .i64 e2, .slice va vn vc, .slice pa pn pc, .slice oa on oc] 82) := by rw [← hW1]; simp [World.setCell, Array.getElem?_modify, hT]
  have HR1 : Hid (TuR w0 K w W1 t [82] ⟨⟨nd, tm, vo, ⟨bi, bt, bk, bd⟩, lg, cm, ro, le, e2, vt, pe⟩, []⟩) := hR1
  have HPP : Hid (TuP w0.heap.size w ⟨⟨nd, tm, vo, ⟨bi, bt, bk, bd⟩, lg, cm, ro, le, e2, vt, pe⟩, zs, (ba, bn, bc), (la, ln, lc), (va, vn, vc), (pa, pn, pc)⟩ gs (oa, on, oc)) := hP
  have HKK : Hid (∀ x ∈ K, w.heap[x.1]? = some x.2 ∧ x.1 ≠ t ∧ (slv (oa, on, oc)).ownBlock ≠ some x.1) := hKp
  have HOO : Hid ((gs.map fun g => g.m) = []) := ho
  have htl1 : t < W1.heap.size := (Array.getElem?_eq_some_iff.1 T1).1
  obtain ⟨⟨-, -, -, -, -, -, -, -, -, -, -, f11, -, -, -⟩, -, -, -, -, -, -, -, -, -, -, -, o11, -, -, -⟩ := r15_cells hT
  obtain ⟨⟨-, -, -, -, -, -, -, -, -, -, -, g11, -, -, -⟩, p0, p1, p2, p3, p4, p5, p6, p7, p8, p9, p10, p11, p12, p13, p14⟩ := r15_cells T1
  clear hR1 hP ho hKp hm hbo hlo
  have hE : el + 1 = e2 := by rw [he2, if_pos h1]
  have hEw : IntKind.i64.wrap (el + 1) = e2 := by rw [hE]; exact IntWalk.i64_in _ (by omega)
  have hE2w : IntKind.i64.wrap e2 = e2 := IntWalk.i64_in _ (by omega)
  have hmn : min e2 1000 = e2 := by omega
  have HE : Hid (_ = _) := he2
  clear he2
  have E : Hid (_ = _) := HTK.out.trans ((if_neg h2).trans (if_neg (fun h => h3 h.1)))
  have hcm : decide (10 + 2 * nd ≤ e2) = false := by simpa using h3
  have hw1 : IntKind.i64.wrap (2 * nd) = 2 * nd := IntWalk.i64_in _ (by omega)
  have hw2 : IntKind.i64.wrap (10 + 2 * nd) = 10 + 2 * nd := IntWalk.i64_in _ (by omega)
  have h2b : (ro == 2) = false := by simpa using h2
  clear HPP HKK HTK
  go_enter Tryz.func53, Tryz.ntmps53
  go_wp2
  (try simp only [Exit.inBlock, Exit.then])
  clear hW1
  refine wp_region_L (fun W => Below W1.heap.size W1 W) [] (by kernel_rfl) ?_
  have hbd : Below W1.heap.size W1 W1.drew := (Below.refl _ W1).drew
  have HTL : Hid (∀ W, Below W1.heap.size W1 W → _) := fun W hW => r15_cells ((hW.block t htl1).trans T1)
  have kv := isVoter_b w0 K W1.drew t _ nd (HR1.out.1.below hbd) HMB.out.1 HMB.out.2.1 HMB.out.2.2 true (decide_eq_true h5)
  generalize W1.drew = wd at *
  refine wpAnyL_take 0 rfl (by kernel_rfl) (by kernel_rfl) (by kernel_rfl) (by kernel_rfl) (fun _ _ _ h => h) (wanted_none rfl) (by intro w' hS'; have hz := hS'; obtain ⟨-, c0, c1, c2, c3, c4, c5, c6, c7, c8, c9, c10, c11, c12, c13, c14⟩ := HTL.out _ hz; go_simp <;> rfl) hbd ?_
  try simp only [List.getElem_toArray, List.getElem_cons_succ, List.getElem_cons_zero, Act.put, List.setIfInBounds_toArray, List.set_cons_zero, List.set_cons_succ]
  refine wpAnyL_take 1 rfl (by kernel_rfl) (by kernel_rfl) (by kernel_rfl) (by kernel_rfl) (fun _ _ _ h => h) (wanted_none rfl) (by intro w' hS'; have hz := hS'; obtain ⟨-, c0, c1, c2, c3, c4, c5, c6, c7, c8, c9, c10, c11, c12, c13, c14⟩ := HTL.out _ hz; go_simp <;> rfl) hbd ?_
  try simp only [List.getElem_toArray, List.getElem_cons_succ, List.getElem_cons_zero, Act.put, List.setIfInBounds_toArray, List.set_cons_zero, List.set_cons_succ]
  refine wpAnyL_take 2 rfl (by kernel_rfl) (by kernel_rfl) (by kernel_rfl) (by kernel_rfl) (fun _ _ _ h => h) (wanted_none rfl) (by intro w' hS'; have hz := hS'; obtain ⟨-, c0, c1, c2, c3, c4, c5, c6, c7, c8, c9, c10, c11, c12, c13, c14⟩ := HTL.out _ hz; go_simp <;> rfl) hbd ?_
  try simp only [List.getElem_toArray, List.getElem_cons_succ, List.getElem_cons_zero, Act.put, List.setIfInBounds_toArray, List.set_cons_zero, List.set_cons_succ]
  refine wpAnyL_take 3 rfl (by kernel_rfl) (by kernel_rfl) (by kernel_rfl) (by kernel_rfl) (fun _ _ _ h => h) (wanted_none rfl) (by intro w' hS'; have hz := hS'; obtain ⟨-, c0, c1, c2, c3, c4, c5, c6, c7, c8, c9, c10, c11, c12, c13, c14⟩ := HTL.out _ hz; go_simp <;> rfl) hbd ?_
  try simp only [List.getElem_toArray, List.getElem_cons_succ, List.getElem_cons_zero, Act.put, List.setIfInBounds_toArray, List.set_cons_zero, List.set_cons_succ]
  refine wpAnyL_take 4 rfl (by kernel_rfl) (by kernel_rfl) (by kernel_rfl) (by kernel_rfl) (fun _ _ _ h => h) (wanted_none rfl) (by intro w' hS'; have hz := hS'; obtain ⟨-, c0, c1, c2, c3, c4, c5, c6, c7, c8, c9, c10, c11, c12, c13, c14⟩ := HTL.out _ hz; go_simp <;> rfl) hbd ?_
  try simp only [List.getElem_toArray, List.getElem_cons_succ, List.getElem_cons_zero, Act.put, List.setIfInBounds_toArray, List.set_cons_zero, List.set_cons_succ]
  refine wpAnyL_take 5 rfl (by kernel_rfl) (by kernel_rfl) (by kernel_rfl) (by kernel_rfl) (fun _ _ _ h => h) (wanted_none rfl) (by intro w' hS'; have hz := hS'; obtain ⟨-, c0, c1, c2, c3, c4, c5, c6, c7, c8, c9, c10, c11, c12, c13, c14⟩ := HTL.out _ hz; go_simp <;> rfl) hbd ?_
  try simp only [List.getElem_toArray, List.getElem_cons_succ, List.getElem_cons_zero, Act.put, List.setIfInBounds_toArray, List.set_cons_zero, List.set_cons_succ]
  refine wpAnyL_one 6 (by kernel_rfl) rfl (wanted_none rfl) ?_
  intro K' hK'
  go_simp
  go_at_call 90
  refine kv.mono ?_
  rintro e w3 ⟨rfl, hb3⟩
  have hS3 : (fun W => Below W1.heap.size W1 W) w3 := hbd.trans (hb3.mono hbd.size)
  clear kv
  refine hK'.out _ _ (.inr hS3) ?_
  clear hK' K'
  try simp only [List.getElem_toArray, List.getElem_cons_succ, List.getElem_cons_zero, Act.put, List.setIfInBounds_toArray, List.set_cons_zero, List.set_cons_succ]
  refine wpAnyL_take 7 rfl (by kernel_rfl) (by kernel_rfl) (by kernel_rfl) (by kernel_rfl) (fun _ _ _ h => h) (wanted_none rfl) (by intro w' hS'; have hz := hS'; obtain ⟨-, c0, c1, c2, c3, c4, c5, c6, c7, c8, c9, c10, c11, c12, c13, c14⟩ := HTL.out _ hz; go_simp <;> rfl) hS3 ?_
  try simp only [List.getElem_toArray, List.getElem_cons_succ, List.getElem_cons_zero, Act.put, List.setIfInBounds_toArray, List.set_cons_zero, List.set_cons_succ]
  refine wpAnyL_take 8 rfl (by kernel_rfl) (by kernel_rfl) (by kernel_rfl) (by kernel_rfl) (fun _ _ _ h => h) (by kernel_rfl) (by intro w' hS'; have hz := hS'; obtain ⟨-, c0, c1, c2, c3, c4, c5, c6, c7, c8, c9, c10, c11, c12, c13, c14⟩ := HTL.out _ hz; go_simp <;> rfl) hS3 ?_
  try simp only [List.getElem_toArray, List.getElem_cons_succ, List.getElem_cons_zero, Act.put, List.setIfInBounds_toArray, List.set_cons_zero, List.set_cons_succ]
  refine wpAnyL_take 9 rfl (by kernel_rfl) (by kernel_rfl) (by kernel_rfl) (by kernel_rfl) (fun _ _ _ h => h) (by kernel_rfl) (by intro w' hS'; have hz := hS'; obtain ⟨-, c0, c1, c2, c3, c4, c5, c6, c7, c8, c9, c10, c11, c12, c13, c14⟩ := HTL.out _ hz; go_simp <;> rfl) hS3 ?_
  try simp only [List.getElem_toArray, List.getElem_cons_succ, List.getElem_cons_zero, Act.put, List.setIfInBounds_toArray, List.set_cons_zero, List.set_cons_succ]
  refine wpAnyL_take 10 rfl (by kernel_rfl) (by kernel_rfl) (by kernel_rfl) (by kernel_rfl) (fun _ _ _ h => h) (by kernel_rfl) (by intro w' hS'; have hz := hS'; obtain ⟨-, c0, c1, c2, c3, c4, c5, c6, c7, c8, c9, c10, c11, c12, c13, c14⟩ := HTL.out _ hz; go_simp <;> rfl) hS3 ?_
  try simp only [List.getElem_toArray, List.getElem_cons_succ, List.getElem_cons_zero, Act.put, List.setIfInBounds_toArray, List.set_cons_zero, List.set_cons_succ]
  refine wpAnyL_take 11 rfl (by kernel_rfl) (by kernel_rfl) (by kernel_rfl) (by kernel_rfl) (fun _ _ _ h => h) (by kernel_rfl) (by intro w' hS'; have hz := hS'; obtain ⟨-, c0, c1, c2, c3, c4, c5, c6, c7, c8, c9, c10, c11, c12, c13, c14⟩ := HTL.out _ hz; go_simp <;> rfl) hS3 ?_
  try simp only [List.getElem_toArray, List.getElem_cons_succ, List.getElem_cons_zero, Act.put, List.setIfInBounds_toArray, List.set_cons_zero, List.set_cons_succ]
  refine wpAnyL_take 12 rfl (by kernel_rfl) (by kernel_rfl) (by kernel_rfl) (by kernel_rfl) (fun _ _ _ h => h) (by kernel_rfl) (by intro w' hS'; have hz := hS'; obtain ⟨-, c0, c1, c2, c3, c4, c5, c6, c7, c8, c9, c10, c11, c12, c13, c14⟩ := HTL.out _ hz; go_simp <;> rfl) hS3 ?_
  try simp only [List.getElem_toArray, List.getElem_cons_succ, List.getElem_cons_zero, Act.put, List.setIfInBounds_toArray, List.set_cons_zero, List.set_cons_succ]
  refine wpAnyL_take 13 rfl (by kernel_rfl) (by kernel_rfl) (by kernel_rfl) (by kernel_rfl) (fun _ _ _ h => h) (by kernel_rfl) (by intro w' hS'; have hz := hS'; obtain ⟨-, c0, c1, c2, c3, c4, c5, c6, c7, c8, c9, c10, c11, c12, c13, c14⟩ := HTL.out _ hz; go_simp <;> rfl) hS3 ?_
  try simp only [List.getElem_toArray, List.getElem_cons_succ, List.getElem_cons_zero, Act.put, List.setIfInBounds_toArray, List.set_cons_zero, List.set_cons_succ]
  refine wpAnyL_take 14 rfl (by kernel_rfl) (by kernel_rfl) (by kernel_rfl) (by kernel_rfl) (fun _ _ _ h => h) (by kernel_rfl) (by intro w' hS'; have hz := hS'; obtain ⟨-, c0, c1, c2, c3, c4, c5, c6, c7, c8, c9, c10, c11, c12, c13, c14⟩ := HTL.out _ hz; go_simp <;> rfl) hS3 ?_
  try simp only [List.getElem_toArray, List.getElem_cons_succ, List.getElem_cons_zero, Act.put, List.setIfInBounds_toArray, List.set_cons_zero, List.set_cons_succ]
  refine wpAnyL_take 15 rfl (by kernel_rfl) (by kernel_rfl) (by kernel_rfl) (by kernel_rfl) (fun _ _ _ h => h) (by kernel_rfl) (by intro w' hS'; have hz := hS'; obtain ⟨-, c0, c1, c2, c3, c4, c5, c6, c7, c8, c9, c10, c11, c12, c13, c14⟩ := HTL.out _ hz; go_simp <;> rfl) hS3 ?_
  try simp only [List.getElem_toArray, List.getElem_cons_succ, List.getElem_cons_zero, Act.put, List.setIfInBounds_toArray, List.set_cons_zero, List.set_cons_succ]
  refine wpAnyL_take 16 rfl (by kernel_rfl) (by kernel_rfl) (by kernel_rfl) (by kernel_rfl) (fun _ _ _ h => h) (by kernel_rfl) (by intro w' hS'; have hz := hS'; obtain ⟨-, c0, c1, c2, c3, c4, c5, c6, c7, c8, c9, c10, c11, c12, c13, c14⟩ := HTL.out _ hz; go_simp <;> rfl) hS3 ?_
  try simp only [List.getElem_toArray, List.getElem_cons_succ, List.getElem_cons_zero, Act.put, List.setIfInBounds_toArray, List.set_cons_zero, List.set_cons_succ]
  refine wpAnyL_take 17 rfl (by kernel_rfl) (by kernel_rfl) (by kernel_rfl) (by kernel_rfl) (fun _ _ _ h => h) (by kernel_rfl) (by intro w' hS'; have hz := hS'; obtain ⟨-, c0, c1, c2, c3, c4, c5, c6, c7, c8, c9, c10, c11, c12, c13, c14⟩ := HTL.out _ hz; go_simp <;> rfl) hS3 ?_
  try simp only [List.getElem_toArray, List.getElem_cons_succ, List.getElem_cons_zero, Act.put, List.setIfInBounds_toArray, List.set_cons_zero, List.set_cons_succ]
  refine wpAnyL_take 18 rfl (by kernel_rfl) (by kernel_rfl) (by kernel_rfl) (by kernel_rfl) (fun _ _ _ h => h) (by kernel_rfl) (by intro w' hS'; have hz := hS'; obtain ⟨-, c0, c1, c2, c3, c4, c5, c6, c7, c8, c9, c10, c11, c12, c13, c14⟩ := HTL.out _ hz; go_simp <;> rfl) hS3 ?_
  try simp only [List.getElem_toArray, List.getElem_cons_succ, List.getElem_cons_zero, Act.put, List.setIfInBounds_toArray, List.set_cons_zero, List.set_cons_succ]
  refine wpAnyL_take 19 rfl (by kernel_rfl) (by kernel_rfl) (by kernel_rfl) (by kernel_rfl) (fun _ _ _ h => h) (by kernel_rfl) (by intro w' hS'; have hz := hS'; obtain ⟨-, c0, c1, c2, c3, c4, c5, c6, c7, c8, c9, c10, c11, c12, c13, c14⟩ := HTL.out _ hz; go_simp <;> rfl) hS3 ?_
  try simp only [List.getElem_toArray, List.getElem_cons_succ, List.getElem_cons_zero, Act.put, List.setIfInBounds_toArray, List.set_cons_zero, List.set_cons_succ]
  refine wpAnyL_take 20 rfl (by kernel_rfl) (by kernel_rfl) (by kernel_rfl) (by kernel_rfl) (fun _ _ _ h => h) (by kernel_rfl) (by intro w' hS'; have hz := hS'; obtain ⟨-, c0, c1, c2, c3, c4, c5, c6, c7, c8, c9, c10, c11, c12, c13, c14⟩ := HTL.out _ hz; go_simp <;> rfl) hS3 ?_
  try simp only [List.getElem_toArray, List.getElem_cons_succ, List.getElem_cons_zero, Act.put, List.setIfInBounds_toArray, List.set_cons_zero, List.set_cons_succ]
  refine wpAnyL_take 21 rfl (by kernel_rfl) (by kernel_rfl) (by kernel_rfl) (by kernel_rfl) (fun _ _ _ h => h) (wanted_none rfl) (by intro w' hS'; have hz := hS'; obtain ⟨-, c0, c1, c2, c3, c4, c5, c6, c7, c8, c9, c10, c11, c12, c13, c14⟩ := HTL.out _ hz; go_simp <;> rfl) hS3 ?_
  try simp only [List.getElem_toArray, List.getElem_cons_succ, List.getElem_cons_zero, Act.put, List.setIfInBounds_toArray, List.set_cons_zero, List.set_cons_succ]
  refine wpAnyL_take 22 rfl (by kernel_rfl) (by kernel_rfl) (by kernel_rfl) (by kernel_rfl) (fun _ _ _ h => h) (wanted_none rfl) (by intro w' hS'; have hz := hS'; obtain ⟨-, c0, c1, c2, c3, c4, c5, c6, c7, c8, c9, c10, c11, c12, c13, c14⟩ := HTL.out _ hz; go_simp <;> rfl) hS3 ?_
  try simp only [List.getElem_toArray, List.getElem_cons_succ, List.getElem_cons_zero, Act.put, List.setIfInBounds_toArray, List.set_cons_zero, List.set_cons_succ]
  refine wpAnyL_skip 23 rfl (by kernel_rfl) (by kernel_rfl) (by kernel_rfl) (by kernel_rfl) (fun _ _ _ h => h) (by kernel_rfl) hS3 ?_
  try simp only [List.getElem_toArray, List.getElem_cons_succ, List.getElem_cons_zero, Act.put, List.setIfInBounds_toArray, List.set_cons_zero, List.set_cons_succ]
  refine wpAnyL_skip 24 rfl (by kernel_rfl) (by kernel_rfl) (by kernel_rfl) (by kernel_rfl) (fun _ _ _ h => h) (by kernel_rfl) hS3 ?_
  try simp only [List.getElem_toArray, List.getElem_cons_succ, List.getElem_cons_zero, Act.put, List.setIfInBounds_toArray, List.set_cons_zero, List.set_cons_succ]
  refine wpAnyL_skip 25 rfl (by kernel_rfl) (by kernel_rfl) (by kernel_rfl) (by kernel_rfl) (fun _ _ _ h => h) (by kernel_rfl) hS3 ?_
  try simp only [List.getElem_toArray, List.getElem_cons_succ, List.getElem_cons_zero, Act.put, List.setIfInBounds_toArray, List.set_cons_zero, List.set_cons_succ]
  refine wpAnyL_skip 26 rfl (by kernel_rfl) (by kernel_rfl) (by kernel_rfl) (by kernel_rfl) (fun _ _ _ h => h) (by kernel_rfl) hS3 ?_
  try simp only [List.getElem_toArray, List.getElem_cons_succ, List.getElem_cons_zero, Act.put, List.setIfInBounds_toArray, List.set_cons_zero, List.set_cons_succ]
  refine wpAnyL_skip 27 rfl (by kernel_rfl) (by kernel_rfl) (by kernel_rfl) (by kernel_rfl) (fun _ _ _ h => h) (by kernel_rfl) hS3 ?_
  try simp only [List.getElem_toArray, List.getElem_cons_succ, List.getElem_cons_zero, Act.put, List.setIfInBounds_toArray, List.set_cons_zero, List.set_cons_succ]
  refine wpAnyL_skip 28 rfl (by kernel_rfl) (by kernel_rfl) (by kernel_rfl) (by kernel_rfl) (fun _ _ _ h => h) (by kernel_rfl) hS3 ?_
  try simp only [List.getElem_toArray, List.getElem_cons_succ, List.getElem_cons_zero, Act.put, List.setIfInBounds_toArray, List.set_cons_zero, List.set_cons_succ]
  refine wpAnyL_take 29 rfl (by kernel_rfl) (by kernel_rfl) (by kernel_rfl) (by kernel_rfl) (fun _ _ _ h => h) (wanted_none rfl) (by intro w' hS'; have hz := hS'; obtain ⟨-, c0, c1, c2, c3, c4, c5, c6, c7, c8, c9, c10, c11, c12, c13, c14⟩ := HTL.out _ hz; go_simp <;> rfl) hS3 ?_
  try simp only [List.getElem_toArray, List.getElem_cons_succ, List.getElem_cons_zero, Act.put, List.setIfInBounds_toArray, List.set_cons_zero, List.set_cons_succ]
  refine wpAnyL_take 30 rfl (by kernel_rfl) (by kernel_rfl) (by kernel_rfl) (by kernel_rfl) (fun _ _ _ h => h) (wanted_none rfl) (by intro w' hS'; have hz := hS'; obtain ⟨-, c0, c1, c2, c3, c4, c5, c6, c7, c8, c9, c10, c11, c12, c13, c14⟩ := HTL.out _ hz; go_simp <;> rfl) hS3 ?_
  try simp only [List.getElem_toArray, List.getElem_cons_succ, List.getElem_cons_zero, Act.put, List.setIfInBounds_toArray, List.set_cons_zero, List.set_cons_succ]
  refine wpAnyL_done (by kernel_rfl) (NoPanic.normal ?_) _
  have HR9 : Hid (TuR w0 K w w3 t [82, 34] _) := (HR1.out.trans (TuR.of_below _ HR1.out.1 hS3)).mono (by simp)
  go_wp2
  go_end0
  exact ⟨rfl, by rw [E.out]; exact HR9.out⟩
end Go.Proofs.YtncoandnelgkeaaGreat

/- The program's tick, case by case. -/
namespace Go.Proofs.YtncoandnelgkeaaGreat
open Go.RowKit QuorumMath RlogMath RaftMath
set_option maxRecDepth 100000
set_option linter.unusedSimpArgs false
set_option linter.unusedVariables false

set_option maxHeartbeats 8000000 in
theorem ptick_c1 (w0 : World) (K : List (Nat × Obj)) (w : World) (t : Nat) (s : Ms) (hS : TuAt w0 K w t s) (hm : mayB s.r.base s.r.log = true) (hbo : OkM s.r.base) (hlo : ∀ e ∈ s.r.log, OkM e) (hout : s.out = []) (hnd : 1 ≤ s.r.node ∧ s.r.node ≤ 7) (hel : 0 ≤ s.r.elapsed ∧ s.r.elapsed ≤ 1000) (hpl : s.r.peers.length ≤ 1000000) (hnx : ∀ p ∈ s.r.peers, p.next < 18446744073709551616) (h1 : s.r.elapsed < 1000) (h2 : ¬ s.r.role = 2) (h3 : 10 + 2 * s.r.node ≤ (if s.r.elapsed < 1000 then s.r.elapsed + 1 else s.r.elapsed)) (h4 : ¬ s.r.term < 4611686018427387904) (h5 : s.r.node ∈ votR s.r) : Calls Tryz.prog 53 #[.pointer (some ⟨t, 0, none⟩)] w fun e w' => e = .returned (.tuple #[]) ∧ TuR w0 K w w' t [82, 34] (tickR s.r) := by
  obtain ⟨hb0, ht0, z, gs, os, hT, hz, hP, ho, hKp⟩ := hS
  obtain ⟨r, zs, ⟨ba, bn, bc⟩, ⟨la, ln, lc⟩, ⟨va, vn, vc⟩, ⟨pa, pn, pc⟩⟩ := z
  obtain ⟨sr, so⟩ := s
  obtain rfl : r = sr := hz
  obtain ⟨nd, tm, vo, ⟨bi, bt, bk, bd⟩, lg, cm, ro, le, el, vt, pe⟩ := r
  obtain ⟨oa, on, oc⟩ := os
  dsimp only [votR] at *
  dsimp only [tc] at hT
  have htl : t < w.heap.size := (Array.getElem?_eq_some_iff.1 hT).1
  subst hout
  obtain ⟨e2, he2⟩ : ∃ e2, e2 = if el < 1000 then el + 1 else el := ⟨_, rfl⟩
  rw [← he2] at h3
  have HTK : Hid (tickR ⟨nd, tm, vo, ⟨bi, bt, bk, bd⟩, lg, cm, ro, le, el, vt, pe⟩ = if ro = 2 then (if 2 ≤ e2 then tellAllR ⟨⟨nd, tm, vo, ⟨bi, bt, bk, bd⟩, lg, cm, ro, le, 0, vt, pe⟩, []⟩ else ⟨⟨nd, tm, vo, ⟨bi, bt, bk, bd⟩, lg, cm, ro, le, e2, vt, pe⟩, []⟩) else if 10 + 2 * nd ≤ e2 ∧ tm < 4611686018427387904 ∧ nd ∈ votM ⟨bi, bt, bk, bd⟩ lg then askR ⟨⟨nd, tm, vo, ⟨bi, bt, bk, bd⟩, lg, cm, ro, le, e2, vt, pe⟩, []⟩ else ⟨⟨nd, tm, vo, ⟨bi, bt, bk, bd⟩, lg, cm, ro, le, e2, vt, pe⟩, []⟩) := by show _ = _; rw [he2]; rfl
  have HMB : Hid (mayB ⟨bi, bt, bk, bd⟩ lg = true ∧ OkM ⟨bi, bt, bk, bd⟩ ∧ ∀ e ∈ lg, OkM e) := ⟨hm, hbo, hlo⟩
  obtain ⟨W1, hW1⟩ : ∃ W, w.setCell ⟨t, 11, none⟩ (.int .i64 e2) = W := ⟨_, rfl⟩
  have hR1 : TuR w0 K w W1 t [82] ⟨⟨nd, tm, vo, ⟨bi, bt, bk, bd⟩, lg, cm, ro, le, e2, vt, pe⟩, []⟩ := by
    rw [← hW1]
    exact tu_store (s := ⟨⟨nd, tm, vo, ⟨bi, bt, bk, bd⟩, lg, cm, ro, le, e2, vt, pe⟩, []⟩) (K := K) (z := ⟨⟨nd, tm, vo, ⟨bi, bt, bk, bd⟩, lg, cm, ro, le, e2, vt, pe⟩, zs, (ba, bn, bc), (la, ln, lc), (va, vn, vc), (pa, pn, pc)⟩) (gs := gs) (os := (oa, on, oc)) ht0 hT (set1 11 _) (by simp [World.setCell]) (hb0.setCell (p := ⟨t, 11, none⟩) ht0 _) (by simp [World.setCell, Array.getElem?_modify, hT, tc]) hP rfl ho hKp
  have T1 : W1.heap[t]? = some (.cells #[.int .i64 nd, .int .u64 (tm : Int), .int .i64 vo, .int .u64 (bi : Int), .int .u64 (bt : Int), .int .i64 bk, .slice ba bn bc, .slice la ln lc, .int .u64 (cm : Int), .int .i64 ro, .int .i64 le, .int .i64 e2, .slice va vn vc, .slice pa pn pc, .slice oa on oc] 82) := by rw [← hW1]; simp [World.setCell, Array.getElem?_modify, hT]
  have HR1 : Hid (TuR w0 K w W1 t [82] ⟨⟨nd, tm, vo, ⟨bi, bt, bk, bd⟩, lg, cm, ro, le, e2, vt, pe⟩, []⟩) := hR1
  have HPP : Hid (TuP w0.heap.size w ⟨⟨nd, tm, vo, ⟨bi, bt, bk, bd⟩, lg, cm, ro, le, e2, vt, pe⟩, zs, (ba, bn, bc), (la, ln, lc), (va, vn, vc), (pa, pn, pc)⟩ gs (oa, on, oc)) := hP
  have HKK : Hid (∀ x ∈ K, w.heap[x.1]? = some x.2 ∧ x.1 ≠ t ∧ (slv (oa, on, oc)).ownBlock ≠ some x.1) := hKp
  have HOO : Hid ((gs.map fun g => g.m) = []) := ho
  have htl1 : t < W1.heap.size := (Array.getElem?_eq_some_iff.1 T1).1
  obtain ⟨⟨-, -, -, -, -, -, -, -, -, -, -, f11, -, -, -⟩, -, -, -, -, -, -, -, -, -, -, -, o11, -, -, -⟩ := r15_cells hT
  obtain ⟨⟨-, -, -, -, -, -, -, -, -, -, -, g11, -, -, -⟩, p0, p1, p2, p3, p4, p5, p6, p7, p8, p9, p10, p11, p12, p13, p14⟩ := r15_cells T1
  clear hR1 hP ho hKp hm hbo hlo
  have hE : el + 1 = e2 := by rw [he2, if_pos h1]
  have hEw : IntKind.i64.wrap (el + 1) = e2 := by rw [hE]; exact IntWalk.i64_in _ (by omega)
  have hE2w : IntKind.i64.wrap e2 = e2 := IntWalk.i64_in _ (by omega)
  have hmn : min e2 1000 = e2 := by omega
  have HE : Hid (_ = _) := he2
  clear he2
  have E : Hid (_ = _) := HTK.out.trans ((if_neg h2).trans (if_neg (fun h => h4 h.2.1)))
  have hcm : decide (10 + 2 * nd ≤ e2) = true := by simpa using h3
  have H4 : Hid (¬ tm < 4611686018427387904) := h4
  clear h4
  have hw1 : IntKind.i64.wrap (2 * nd) = 2 * nd := IntWalk.i64_in _ (by omega)
  have hw2 : IntKind.i64.wrap (10 + 2 * nd) = 10 + 2 * nd := IntWalk.i64_in _ (by omega)
  have h2b : (ro == 2) = false := by simpa using h2
  clear HPP HKK HTK
  go_enter Tryz.func53, Tryz.ntmps53
  go_wp2
  (try simp only [Exit.inBlock, Exit.then])
  clear hW1
  have hct : decide ((tm : Int) < 4611686018427387904) = false := by have := H4.out; simp; omega
  refine wp_region_L (fun W => Below W1.heap.size W1 W) [] (by kernel_rfl) ?_
  have hbd : Below W1.heap.size W1 W1.drew := (Below.refl _ W1).drew
  have HTL : Hid (∀ W, Below W1.heap.size W1 W → _) := fun W hW => r15_cells ((hW.block t htl1).trans T1)
  have kv := isVoter_b w0 K W1.drew t _ nd (HR1.out.1.below hbd) HMB.out.1 HMB.out.2.1 HMB.out.2.2 true (decide_eq_true h5)
  generalize W1.drew = wd at *
  refine wpAnyL_take 0 rfl (by kernel_rfl) (by kernel_rfl) (by kernel_rfl) (by kernel_rfl) (fun _ _ _ h => h) (wanted_none rfl) (by intro w' hS'; have hz := hS'; obtain ⟨-, c0, c1, c2, c3, c4, c5, c6, c7, c8, c9, c10, c11, c12, c13, c14⟩ := HTL.out _ hz; go_simp <;> rfl) hbd ?_
  try simp only [List.getElem_toArray, List.getElem_cons_succ, List.getElem_cons_zero, Act.put, List.setIfInBounds_toArray, List.set_cons_zero, List.set_cons_succ]
  refine wpAnyL_take 1 rfl (by kernel_rfl) (by kernel_rfl) (by kernel_rfl) (by kernel_rfl) (fun _ _ _ h => h) (wanted_none rfl) (by intro w' hS'; have hz := hS'; obtain ⟨-, c0, c1, c2, c3, c4, c5, c6, c7, c8, c9, c10, c11, c12, c13, c14⟩ := HTL.out _ hz; go_simp <;> rfl) hbd ?_
  try simp only [List.getElem_toArray, List.getElem_cons_succ, List.getElem_cons_zero, Act.put, List.setIfInBounds_toArray, List.set_cons_zero, List.set_cons_succ]
  refine wpAnyL_take 2 rfl (by kernel_rfl) (by kernel_rfl) (by kernel_rfl) (by kernel_rfl) (fun _ _ _ h => h) (wanted_none rfl) (by intro w' hS'; have hz := hS'; obtain ⟨-, c0, c1, c2, c3, c4, c5, c6, c7, c8, c9, c10, c11, c12, c13, c14⟩ := HTL.out _ hz; go_simp <;> rfl) hbd ?_
  try simp only [List.getElem_toArray, List.getElem_cons_succ, List.getElem_cons_zero, Act.put, List.setIfInBounds_toArray, List.set_cons_zero, List.set_cons_succ]
  refine wpAnyL_take 3 rfl (by kernel_rfl) (by kernel_rfl) (by kernel_rfl) (by kernel_rfl) (fun _ _ _ h => h) (wanted_none rfl) (by intro w' hS'; have hz := hS'; obtain ⟨-, c0, c1, c2, c3, c4, c5, c6, c7, c8, c9, c10, c11, c12, c13, c14⟩ := HTL.out _ hz; go_simp <;> rfl) hbd ?_
  try simp only [List.getElem_toArray, List.getElem_cons_succ, List.getElem_cons_zero, Act.put, List.setIfInBounds_toArray, List.set_cons_zero, List.set_cons_succ]
  refine wpAnyL_take 4 rfl (by kernel_rfl) (by kernel_rfl) (by kernel_rfl) (by kernel_rfl) (fun _ _ _ h => h) (wanted_none rfl) (by intro w' hS'; have hz := hS'; obtain ⟨-, c0, c1, c2, c3, c4, c5, c6, c7, c8, c9, c10, c11, c12, c13, c14⟩ := HTL.out _ hz; go_simp <;> rfl) hbd ?_
  try simp only [List.getElem_toArray, List.getElem_cons_succ, List.getElem_cons_zero, Act.put, List.setIfInBounds_toArray, List.set_cons_zero, List.set_cons_succ]
  refine wpAnyL_take 5 rfl (by kernel_rfl) (by kernel_rfl) (by kernel_rfl) (by kernel_rfl) (fun _ _ _ h => h) (wanted_none rfl) (by intro w' hS'; have hz := hS'; obtain ⟨-, c0, c1, c2, c3, c4, c5, c6, c7, c8, c9, c10, c11, c12, c13, c14⟩ := HTL.out _ hz; go_simp <;> rfl) hbd ?_
  try simp only [List.getElem_toArray, List.getElem_cons_succ, List.getElem_cons_zero, Act.put, List.setIfInBounds_toArray, List.set_cons_zero, List.set_cons_succ]
  refine wpAnyL_one 6 (by kernel_rfl) rfl (wanted_none rfl) ?_
  intro K' hK'
  go_simp
  go_at_call 90
  refine kv.mono ?_
  rintro e w3 ⟨rfl, hb3⟩
  have hS3 : (fun W => Below W1.heap.size W1 W) w3 := hbd.trans (hb3.mono hbd.size)
  clear kv
  refine hK'.out _ _ (.inr hS3) ?_
  clear hK' K'
  try simp only [List.getElem_toArray, List.getElem_cons_succ, List.getElem_cons_zero, Act.put, List.setIfInBounds_toArray, List.set_cons_zero, List.set_cons_succ]
  refine wpAnyL_take 7 rfl (by kernel_rfl) (by kernel_rfl) (by kernel_rfl) (by kernel_rfl) (fun _ _ _ h => h) (wanted_none rfl) (by intro w' hS'; have hz := hS'; obtain ⟨-, c0, c1, c2, c3, c4, c5, c6, c7, c8, c9, c10, c11, c12, c13, c14⟩ := HTL.out _ hz; go_simp <;> rfl) hS3 ?_
  try simp only [List.getElem_toArray, List.getElem_cons_succ, List.getElem_cons_zero, Act.put, List.setIfInBounds_toArray, List.set_cons_zero, List.set_cons_succ]
  refine wpAnyL_take 8 rfl (by kernel_rfl) (by kernel_rfl) (by kernel_rfl) (by kernel_rfl) (fun _ _ _ h => h) (by kernel_rfl) (by intro w' hS'; have hz := hS'; obtain ⟨-, c0, c1, c2, c3, c4, c5, c6, c7, c8, c9, c10, c11, c12, c13, c14⟩ := HTL.out _ hz; go_simp <;> rfl) hS3 ?_
  try simp only [List.getElem_toArray, List.getElem_cons_succ, List.getElem_cons_zero, Act.put, List.setIfInBounds_toArray, List.set_cons_zero, List.set_cons_succ]
  refine wpAnyL_take 9 rfl (by kernel_rfl) (by kernel_rfl) (by kernel_rfl) (by kernel_rfl) (fun _ _ _ h => h) (by kernel_rfl) (by intro w' hS'; have hz := hS'; obtain ⟨-, c0, c1, c2, c3, c4, c5, c6, c7, c8, c9, c10, c11, c12, c13, c14⟩ := HTL.out _ hz; go_simp <;> rfl) hS3 ?_
  try simp only [List.getElem_toArray, List.getElem_cons_succ, List.getElem_cons_zero, Act.put, List.setIfInBounds_toArray, List.set_cons_zero, List.set_cons_succ]
  refine wpAnyL_take 10 rfl (by kernel_rfl) (by kernel_rfl) (by kernel_rfl) (by kernel_rfl) (fun _ _ _ h => h) (by kernel_rfl) (by intro w' hS'; have hz := hS'; obtain ⟨-, c0, c1, c2, c3, c4, c5, c6, c7, c8, c9, c10, c11, c12, c13, c14⟩ := HTL.out _ hz; go_simp <;> rfl) hS3 ?_
  try simp only [List.getElem_toArray, List.getElem_cons_succ, List.getElem_cons_zero, Act.put, List.setIfInBounds_toArray, List.set_cons_zero, List.set_cons_succ]
  refine wpAnyL_take 11 rfl (by kernel_rfl) (by kernel_rfl) (by kernel_rfl) (by kernel_rfl) (fun _ _ _ h => h) (by kernel_rfl) (by intro w' hS'; have hz := hS'; obtain ⟨-, c0, c1, c2, c3, c4, c5, c6, c7, c8, c9, c10, c11, c12, c13, c14⟩ := HTL.out _ hz; go_simp <;> rfl) hS3 ?_
  try simp only [List.getElem_toArray, List.getElem_cons_succ, List.getElem_cons_zero, Act.put, List.setIfInBounds_toArray, List.set_cons_zero, List.set_cons_succ]
  refine wpAnyL_take 12 rfl (by kernel_rfl) (by kernel_rfl) (by kernel_rfl) (by kernel_rfl) (fun _ _ _ h => h) (by kernel_rfl) (by intro w' hS'; have hz := hS'; obtain ⟨-, c0, c1, c2, c3, c4, c5, c6, c7, c8, c9, c10, c11, c12, c13, c14⟩ := HTL.out _ hz; go_simp <;> rfl) hS3 ?_
  try simp only [List.getElem_toArray, List.getElem_cons_succ, List.getElem_cons_zero, Act.put, List.setIfInBounds_toArray, List.set_cons_zero, List.set_cons_succ]
  refine wpAnyL_take 13 rfl (by kernel_rfl) (by kernel_rfl) (by kernel_rfl) (by kernel_rfl) (fun _ _ _ h => h) (by kernel_rfl) (by intro w' hS'; have hz := hS'; obtain ⟨-, c0, c1, c2, c3, c4, c5, c6, c7, c8, c9, c10, c11, c12, c13, c14⟩ := HTL.out _ hz; go_simp <;> rfl) hS3 ?_
  try simp only [List.getElem_toArray, List.getElem_cons_succ, List.getElem_cons_zero, Act.put, List.setIfInBounds_toArray, List.set_cons_zero, List.set_cons_succ]
  refine wpAnyL_take 14 rfl (by kernel_rfl) (by kernel_rfl) (by kernel_rfl) (by kernel_rfl) (fun _ _ _ h => h) (by kernel_rfl) (by intro w' hS'; have hz := hS'; obtain ⟨-, c0, c1, c2, c3, c4, c5, c6, c7, c8, c9, c10, c11, c12, c13, c14⟩ := HTL.out _ hz; go_simp <;> rfl) hS3 ?_
  try simp only [List.getElem_toArray, List.getElem_cons_succ, List.getElem_cons_zero, Act.put, List.setIfInBounds_toArray, List.set_cons_zero, List.set_cons_succ]
  refine wpAnyL_take 15 rfl (by kernel_rfl) (by kernel_rfl) (by kernel_rfl) (by kernel_rfl) (fun _ _ _ h => h) (by kernel_rfl) (by intro w' hS'; have hz := hS'; obtain ⟨-, c0, c1, c2, c3, c4, c5, c6, c7, c8, c9, c10, c11, c12, c13, c14⟩ := HTL.out _ hz; go_simp <;> rfl) hS3 ?_
  try simp only [List.getElem_toArray, List.getElem_cons_succ, List.getElem_cons_zero, Act.put, List.setIfInBounds_toArray, List.set_cons_zero, List.set_cons_succ]
  refine wpAnyL_take 16 rfl (by kernel_rfl) (by kernel_rfl) (by kernel_rfl) (by kernel_rfl) (fun _ _ _ h => h) (by kernel_rfl) (by intro w' hS'; have hz := hS'; obtain ⟨-, c0, c1, c2, c3, c4, c5, c6, c7, c8, c9, c10, c11, c12, c13, c14⟩ := HTL.out _ hz; go_simp <;> rfl) hS3 ?_
  try simp only [List.getElem_toArray, List.getElem_cons_succ, List.getElem_cons_zero, Act.put, List.setIfInBounds_toArray, List.set_cons_zero, List.set_cons_succ]
  refine wpAnyL_take 17 rfl (by kernel_rfl) (by kernel_rfl) (by kernel_rfl) (by kernel_rfl) (fun _ _ _ h => h) (by kernel_rfl) (by intro w' hS'; have hz := hS'; obtain ⟨-, c0, c1, c2, c3, c4, c5, c6, c7, c8, c9, c10, c11, c12, c13, c14⟩ := HTL.out _ hz; go_simp <;> rfl) hS3 ?_
  try simp only [List.getElem_toArray, List.getElem_cons_succ, List.getElem_cons_zero, Act.put, List.setIfInBounds_toArray, List.set_cons_zero, List.set_cons_succ]
  refine wpAnyL_take 18 rfl (by kernel_rfl) (by kernel_rfl) (by kernel_rfl) (by kernel_rfl) (fun _ _ _ h => h) (by kernel_rfl) (by intro w' hS'; have hz := hS'; obtain ⟨-, c0, c1, c2, c3, c4, c5, c6, c7, c8, c9, c10, c11, c12, c13, c14⟩ := HTL.out _ hz; go_simp <;> rfl) hS3 ?_
  try simp only [List.getElem_toArray, List.getElem_cons_succ, List.getElem_cons_zero, Act.put, List.setIfInBounds_toArray, List.set_cons_zero, List.set_cons_succ]
  refine wpAnyL_take 19 rfl (by kernel_rfl) (by kernel_rfl) (by kernel_rfl) (by kernel_rfl) (fun _ _ _ h => h) (by kernel_rfl) (by intro w' hS'; have hz := hS'; obtain ⟨-, c0, c1, c2, c3, c4, c5, c6, c7, c8, c9, c10, c11, c12, c13, c14⟩ := HTL.out _ hz; go_simp <;> rfl) hS3 ?_
  try simp only [List.getElem_toArray, List.getElem_cons_succ, List.getElem_cons_zero, Act.put, List.setIfInBounds_toArray, List.set_cons_zero, List.set_cons_succ]
  refine wpAnyL_take 20 rfl (by kernel_rfl) (by kernel_rfl) (by kernel_rfl) (by kernel_rfl) (fun _ _ _ h => h) (by kernel_rfl) (by intro w' hS'; have hz := hS'; obtain ⟨-, c0, c1, c2, c3, c4, c5, c6, c7, c8, c9, c10, c11, c12, c13, c14⟩ := HTL.out _ hz; go_simp <;> rfl) hS3 ?_
  try simp only [List.getElem_toArray, List.getElem_cons_succ, List.getElem_cons_zero, Act.put, List.setIfInBounds_toArray, List.set_cons_zero, List.set_cons_succ]
  refine wpAnyL_take 21 rfl (by kernel_rfl) (by kernel_rfl) (by kernel_rfl) (by kernel_rfl) (fun _ _ _ h => h) (wanted_none rfl) (by intro w' hS'; have hz := hS'; obtain ⟨-, c0, c1, c2, c3, c4, c5, c6, c7, c8, c9, c10, c11, c12, c13, c14⟩ := HTL.out _ hz; go_simp <;> rfl) hS3 ?_
  try simp only [List.getElem_toArray, List.getElem_cons_succ, List.getElem_cons_zero, Act.put, List.setIfInBounds_toArray, List.set_cons_zero, List.set_cons_succ]
  refine wpAnyL_take 22 rfl (by kernel_rfl) (by kernel_rfl) (by kernel_rfl) (by kernel_rfl) (fun _ _ _ h => h) (wanted_none rfl) (by intro w' hS'; have hz := hS'; obtain ⟨-, c0, c1, c2, c3, c4, c5, c6, c7, c8, c9, c10, c11, c12, c13, c14⟩ := HTL.out _ hz; go_simp <;> rfl) hS3 ?_
  try simp only [List.getElem_toArray, List.getElem_cons_succ, List.getElem_cons_zero, Act.put, List.setIfInBounds_toArray, List.set_cons_zero, List.set_cons_succ]
  refine wpAnyL_take 23 rfl (by kernel_rfl) (by kernel_rfl) (by kernel_rfl) (by kernel_rfl) (fun _ _ _ h => h) (by kernel_rfl) (by intro w' hS'; have hz := hS'; obtain ⟨-, c0, c1, c2, c3, c4, c5, c6, c7, c8, c9, c10, c11, c12, c13, c14⟩ := HTL.out _ hz; go_simp <;> rfl) hS3 ?_
  try simp only [List.getElem_toArray, List.getElem_cons_succ, List.getElem_cons_zero, Act.put, List.setIfInBounds_toArray, List.set_cons_zero, List.set_cons_succ]
  refine wpAnyL_take 24 rfl (by kernel_rfl) (by kernel_rfl) (by kernel_rfl) (by kernel_rfl) (fun _ _ _ h => h) (by kernel_rfl) (by intro w' hS'; have hz := hS'; obtain ⟨-, c0, c1, c2, c3, c4, c5, c6, c7, c8, c9, c10, c11, c12, c13, c14⟩ := HTL.out _ hz; go_simp <;> rfl) hS3 ?_
  try simp only [List.getElem_toArray, List.getElem_cons_succ, List.getElem_cons_zero, Act.put, List.setIfInBounds_toArray, List.set_cons_zero, List.set_cons_succ]
  refine wpAnyL_take 25 rfl (by kernel_rfl) (by kernel_rfl) (by kernel_rfl) (by kernel_rfl) (fun _ _ _ h => h) (by kernel_rfl) (by intro w' hS'; have hz := hS'; obtain ⟨-, c0, c1, c2, c3, c4, c5, c6, c7, c8, c9, c10, c11, c12, c13, c14⟩ := HTL.out _ hz; go_simp <;> rfl) hS3 ?_
  try simp only [List.getElem_toArray, List.getElem_cons_succ, List.getElem_cons_zero, Act.put, List.setIfInBounds_toArray, List.set_cons_zero, List.set_cons_succ]
  refine wpAnyL_take 26 rfl (by kernel_rfl) (by kernel_rfl) (by kernel_rfl) (by kernel_rfl) (fun _ _ _ h => h) (by kernel_rfl) (by intro w' hS'; have hz := hS'; obtain ⟨-, c0, c1, c2, c3, c4, c5, c6, c7, c8, c9, c10, c11, c12, c13, c14⟩ := HTL.out _ hz; go_simp <;> rfl) hS3 ?_
  try simp only [List.getElem_toArray, List.getElem_cons_succ, List.getElem_cons_zero, Act.put, List.setIfInBounds_toArray, List.set_cons_zero, List.set_cons_succ]
  refine wpAnyL_take 27 rfl (by kernel_rfl) (by kernel_rfl) (by kernel_rfl) (by kernel_rfl) (fun _ _ _ h => h) (by kernel_rfl) (by intro w' hS'; have hz := hS'; obtain ⟨-, c0, c1, c2, c3, c4, c5, c6, c7, c8, c9, c10, c11, c12, c13, c14⟩ := HTL.out _ hz; go_simp <;> rfl) hS3 ?_
  try simp only [List.getElem_toArray, List.getElem_cons_succ, List.getElem_cons_zero, Act.put, List.setIfInBounds_toArray, List.set_cons_zero, List.set_cons_succ]
  refine wpAnyL_take 28 rfl (by kernel_rfl) (by kernel_rfl) (by kernel_rfl) (by kernel_rfl) (fun _ _ _ h => h) (by kernel_rfl) (by intro w' hS'; have hz := hS'; obtain ⟨-, c0, c1, c2, c3, c4, c5, c6, c7, c8, c9, c10, c11, c12, c13, c14⟩ := HTL.out _ hz; go_simp <;> rfl) hS3 ?_
  try simp only [List.getElem_toArray, List.getElem_cons_succ, List.getElem_cons_zero, Act.put, List.setIfInBounds_toArray, List.set_cons_zero, List.set_cons_succ]
  refine wpAnyL_take 29 rfl (by kernel_rfl) (by kernel_rfl) (by kernel_rfl) (by kernel_rfl) (fun _ _ _ h => h) (wanted_none rfl) (by intro w' hS'; have hz := hS'; obtain ⟨-, c0, c1, c2, c3, c4, c5, c6, c7, c8, c9, c10, c11, c12, c13, c14⟩ := HTL.out _ hz; go_simp <;> rfl) hS3 ?_
  try simp only [List.getElem_toArray, List.getElem_cons_succ, List.getElem_cons_zero, Act.put, List.setIfInBounds_toArray, List.set_cons_zero, List.set_cons_succ]
  refine wpAnyL_take 30 rfl (by kernel_rfl) (by kernel_rfl) (by kernel_rfl) (by kernel_rfl) (fun _ _ _ h => h) (wanted_none rfl) (by intro w' hS'; have hz := hS'; obtain ⟨-, c0, c1, c2, c3, c4, c5, c6, c7, c8, c9, c10, c11, c12, c13, c14⟩ := HTL.out _ hz; go_simp <;> rfl) hS3 ?_
  try simp only [List.getElem_toArray, List.getElem_cons_succ, List.getElem_cons_zero, Act.put, List.setIfInBounds_toArray, List.set_cons_zero, List.set_cons_succ]
  refine wpAnyL_done (by kernel_rfl) (NoPanic.normal ?_) _
  have HR9 : Hid (TuR w0 K w w3 t [82, 34] _) := (HR1.out.trans (TuR.of_below _ HR1.out.1 hS3)).mono (by simp)
  go_wp2
  go_end0
  exact ⟨rfl, by rw [E.out]; exact HR9.out⟩
set_option maxHeartbeats 8000000 in
theorem ptick_d1 (w0 : World) (K : List (Nat × Obj)) (w : World) (t : Nat) (s : Ms) (hS : TuAt w0 K w t s) (hm : mayB s.r.base s.r.log = true) (hbo : OkM s.r.base) (hlo : ∀ e ∈ s.r.log, OkM e) (hout : s.out = []) (hnd : 1 ≤ s.r.node ∧ s.r.node ≤ 7) (hel : 0 ≤ s.r.elapsed ∧ s.r.elapsed ≤ 1000) (hpl : s.r.peers.length ≤ 1000000) (hnx : ∀ p ∈ s.r.peers, p.next < 18446744073709551616) (h1 : s.r.elapsed < 1000) (h2 : ¬ s.r.role = 2) (h3 : 10 + 2 * s.r.node ≤ (if s.r.elapsed < 1000 then s.r.elapsed + 1 else s.r.elapsed)) (h4 : s.r.term < 4611686018427387904) (h5 : s.r.node ∈ votR s.r) : Calls Tryz.prog 53 #[.pointer (some ⟨t, 0, none⟩)] w fun e w' => e = .returned (.tuple #[]) ∧ TuR w0 K w w' t [82, 34] (tickR s.r) := by
  obtain ⟨hb0, ht0, z, gs, os, hT, hz, hP, ho, hKp⟩ := hS
  obtain ⟨r, zs, ⟨ba, bn, bc⟩, ⟨la, ln, lc⟩, ⟨va, vn, vc⟩, ⟨pa, pn, pc⟩⟩ := z
  obtain ⟨sr, so⟩ := s
  obtain rfl : r = sr := hz
  obtain ⟨nd, tm, vo, ⟨bi, bt, bk, bd⟩, lg, cm, ro, le, el, vt, pe⟩ := r
  obtain ⟨oa, on, oc⟩ := os
  dsimp only [votR] at *
  dsimp only [tc] at hT
  have htl : t < w.heap.size := (Array.getElem?_eq_some_iff.1 hT).1
  subst hout
  obtain ⟨e2, he2⟩ : ∃ e2, e2 = if el < 1000 then el + 1 else el := ⟨_, rfl⟩
  rw [← he2] at h3
  have HTK : Hid (tickR ⟨nd, tm, vo, ⟨bi, bt, bk, bd⟩, lg, cm, ro, le, el, vt, pe⟩ = if ro = 2 then (if 2 ≤ e2 then tellAllR ⟨⟨nd, tm, vo, ⟨bi, bt, bk, bd⟩, lg, cm, ro, le, 0, vt, pe⟩, []⟩ else ⟨⟨nd, tm, vo, ⟨bi, bt, bk, bd⟩, lg, cm, ro, le, e2, vt, pe⟩, []⟩) else if 10 + 2 * nd ≤ e2 ∧ tm < 4611686018427387904 ∧ nd ∈ votM ⟨bi, bt, bk, bd⟩ lg then askR ⟨⟨nd, tm, vo, ⟨bi, bt, bk, bd⟩, lg, cm, ro, le, e2, vt, pe⟩, []⟩ else ⟨⟨nd, tm, vo, ⟨bi, bt, bk, bd⟩, lg, cm, ro, le, e2, vt, pe⟩, []⟩) := by show _ = _; rw [he2]; rfl
  have HMB : Hid (mayB ⟨bi, bt, bk, bd⟩ lg = true ∧ OkM ⟨bi, bt, bk, bd⟩ ∧ ∀ e ∈ lg, OkM e) := ⟨hm, hbo, hlo⟩
  obtain ⟨W1, hW1⟩ : ∃ W, w.setCell ⟨t, 11, none⟩ (.int .i64 e2) = W := ⟨_, rfl⟩
  have hR1 : TuR w0 K w W1 t [82] ⟨⟨nd, tm, vo, ⟨bi, bt, bk, bd⟩, lg, cm, ro, le, e2, vt, pe⟩, []⟩ := by
    rw [← hW1]
    exact tu_store (s := ⟨⟨nd, tm, vo, ⟨bi, bt, bk, bd⟩, lg, cm, ro, le, e2, vt, pe⟩, []⟩) (K := K) (z := ⟨⟨nd, tm, vo, ⟨bi, bt, bk, bd⟩, lg, cm, ro, le, e2, vt, pe⟩, zs, (ba, bn, bc), (la, ln, lc), (va, vn, vc), (pa, pn, pc)⟩) (gs := gs) (os := (oa, on, oc)) ht0 hT (set1 11 _) (by simp [World.setCell]) (hb0.setCell (p := ⟨t, 11, none⟩) ht0 _) (by simp [World.setCell, Array.getElem?_modify, hT, tc]) hP rfl ho hKp
  have T1 : W1.heap[t]? = some (.cells #[.int .i64 nd, .int .u64 (tm : Int), .int .i64 vo, .int .u64 (bi : Int), .int .u64 (bt : Int), .int .i64 bk, .slice ba bn bc, .slice la ln lc, .int .u64 (cm : Int), .int .i64 ro, .int .i64 le, .int .i64 e2, .slice va vn vc, .slice pa pn pc, .slice oa on oc] 82) := by rw [← hW1]; simp [World.setCell, Array.getElem?_modify, hT]
  have HR1 : Hid (TuR w0 K w W1 t [82] ⟨⟨nd, tm, vo, ⟨bi, bt, bk, bd⟩, lg, cm, ro, le, e2, vt, pe⟩, []⟩) := hR1
  have HPP : Hid (TuP w0.heap.size w ⟨⟨nd, tm, vo, ⟨bi, bt, bk, bd⟩, lg, cm, ro, le, e2, vt, pe⟩, zs, (ba, bn, bc), (la, ln, lc), (va, vn, vc), (pa, pn, pc)⟩ gs (oa, on, oc)) := hP
  have HKK : Hid (∀ x ∈ K, w.heap[x.1]? = some x.2 ∧ x.1 ≠ t ∧ (slv (oa, on, oc)).ownBlock ≠ some x.1) := hKp
  have HOO : Hid ((gs.map fun g => g.m) = []) := ho
  have htl1 : t < W1.heap.size := (Array.getElem?_eq_some_iff.1 T1).1
  obtain ⟨⟨-, -, -, -, -, -, -, -, -, -, -, f11, -, -, -⟩, -, -, -, -, -, -, -, -, -, -, -, o11, -, -, -⟩ := r15_cells hT
  obtain ⟨⟨-, -, -, -, -, -, -, -, -, -, -, g11, -, -, -⟩, p0, p1, p2, p3, p4, p5, p6, p7, p8, p9, p10, p11, p12, p13, p14⟩ := r15_cells T1
  clear hR1 hP ho hKp hm hbo hlo
  have hE : el + 1 = e2 := by rw [he2, if_pos h1]
  have hEw : IntKind.i64.wrap (el + 1) = e2 := by rw [hE]; exact IntWalk.i64_in _ (by omega)
  have hE2w : IntKind.i64.wrap e2 = e2 := IntWalk.i64_in _ (by omega)
  have hmn : min e2 1000 = e2 := by omega
  have HE : Hid (_ = _) := he2
  clear he2
  have E : Hid (_ = _) := HTK.out.trans ((if_neg h2).trans (if_pos ⟨h3, h4, h5⟩))
  have hcm : decide (10 + 2 * nd ≤ e2) = true := by simpa using h3
  have H4 : Hid (tm < 4611686018427387904) := h4
  clear h4
  have hw1 : IntKind.i64.wrap (2 * nd) = 2 * nd := IntWalk.i64_in _ (by omega)
  have hw2 : IntKind.i64.wrap (10 + 2 * nd) = 10 + 2 * nd := IntWalk.i64_in _ (by omega)
  have h2b : (ro == 2) = false := by simpa using h2
  clear HPP HKK HTK
  go_enter Tryz.func53, Tryz.ntmps53
  go_wp2
  (try simp only [Exit.inBlock, Exit.then])
  clear hW1
  have hct : decide ((tm : Int) < 4611686018427387904) = true := by have := H4.out; simp; omega
  refine wp_region_L (fun W => Below W1.heap.size W1 W) [] (by kernel_rfl) ?_
  have hbd : Below W1.heap.size W1 W1.drew := (Below.refl _ W1).drew
  have HTL : Hid (∀ W, Below W1.heap.size W1 W → _) := fun W hW => r15_cells ((hW.block t htl1).trans T1)
  have kv := isVoter_b w0 K W1.drew t _ nd (HR1.out.1.below hbd) HMB.out.1 HMB.out.2.1 HMB.out.2.2 true (decide_eq_true h5)
  generalize W1.drew = wd at *
  refine wpAnyL_take 0 rfl (by kernel_rfl) (by kernel_rfl) (by kernel_rfl) (by kernel_rfl) (fun _ _ _ h => h) (wanted_none rfl) (by intro w' hS'; have hz := hS'; obtain ⟨-, c0, c1, c2, c3, c4, c5, c6, c7, c8, c9, c10, c11, c12, c13, c14⟩ := HTL.out _ hz; go_simp <;> rfl) hbd ?_
  try simp only [List.getElem_toArray, List.getElem_cons_succ, List.getElem_cons_zero, Act.put, List.setIfInBounds_toArray, List.set_cons_zero, List.set_cons_succ]
  refine wpAnyL_take 1 rfl (by kernel_rfl) (by kernel_rfl) (by kernel_rfl) (by kernel_rfl) (fun _ _ _ h => h) (wanted_none rfl) (by intro w' hS'; have hz := hS'; obtain ⟨-, c0, c1, c2, c3, c4, c5, c6, c7, c8, c9, c10, c11, c12, c13, c14⟩ := HTL.out _ hz; go_simp <;> rfl) hbd ?_
  try simp only [List.getElem_toArray, List.getElem_cons_succ, List.getElem_cons_zero, Act.put, List.setIfInBounds_toArray, List.set_cons_zero, List.set_cons_succ]
  refine wpAnyL_take 2 rfl (by kernel_rfl) (by kernel_rfl) (by kernel_rfl) (by kernel_rfl) (fun _ _ _ h => h) (wanted_none rfl) (by intro w' hS'; have hz := hS'; obtain ⟨-, c0, c1, c2, c3, c4, c5, c6, c7, c8, c9, c10, c11, c12, c13, c14⟩ := HTL.out _ hz; go_simp <;> rfl) hbd ?_
  try simp only [List.getElem_toArray, List.getElem_cons_succ, List.getElem_cons_zero, Act.put, List.setIfInBounds_toArray, List.set_cons_zero, List.set_cons_succ]
  refine wpAnyL_take 3 rfl (by kernel_rfl) (by kernel_rfl) (by kernel_rfl) (by kernel_rfl) (fun _ _ _ h => h) (wanted_none rfl) (by intro w' hS'; have hz := hS'; obtain ⟨-, c0, c1, c2, c3, c4, c5, c6, c7, c8, c9, c10, c11, c12, c13, c14⟩ := HTL.out _ hz; go_simp <;> rfl) hbd ?_
  try simp only [List.getElem_toArray, List.getElem_cons_succ, List.getElem_cons_zero, Act.put, List.setIfInBounds_toArray, List.set_cons_zero, List.set_cons_succ]
  refine wpAnyL_take 4 rfl (by kernel_rfl) (by kernel_rfl) (by kernel_rfl) (by kernel_rfl) (fun _ _ _ h => h) (wanted_none rfl) (by intro w' hS'; have hz := hS'; obtain ⟨-, c0, c1, c2, c3, c4, c5, c6, c7, c8, c9, c10, c11, c12, c13, c14⟩ := HTL.out _ hz; go_simp <;> rfl) hbd ?_
  try simp only [List.getElem_toArray, List.getElem_cons_succ, List.getElem_cons_zero, Act.put, List.setIfInBounds_toArray, List.set_cons_zero, List.set_cons_succ]
  refine wpAnyL_take 5 rfl (by kernel_rfl) (by kernel_rfl) (by kernel_rfl) (by kernel_rfl) (fun _ _ _ h => h) (wanted_none rfl) (by intro w' hS'; have hz := hS'; obtain ⟨-, c0, c1, c2, c3, c4, c5, c6, c7, c8, c9, c10, c11, c12, c13, c14⟩ := HTL.out _ hz; go_simp <;> rfl) hbd ?_
  try simp only [List.getElem_toArray, List.getElem_cons_succ, List.getElem_cons_zero, Act.put, List.setIfInBounds_toArray, List.set_cons_zero, List.set_cons_succ]
  refine wpAnyL_one 6 (by kernel_rfl) rfl (wanted_none rfl) ?_
  intro K' hK'
  go_simp
  go_at_call 90
  refine kv.mono ?_
  rintro e w3 ⟨rfl, hb3⟩
  have hS3 : (fun W => Below W1.heap.size W1 W) w3 := hbd.trans (hb3.mono hbd.size)
  clear kv
  refine hK'.out _ _ (.inr hS3) ?_
  clear hK' K'
  try simp only [List.getElem_toArray, List.getElem_cons_succ, List.getElem_cons_zero, Act.put, List.setIfInBounds_toArray, List.set_cons_zero, List.set_cons_succ]
  refine wpAnyL_take 7 rfl (by kernel_rfl) (by kernel_rfl) (by kernel_rfl) (by kernel_rfl) (fun _ _ _ h => h) (wanted_none rfl) (by intro w' hS'; have hz := hS'; obtain ⟨-, c0, c1, c2, c3, c4, c5, c6, c7, c8, c9, c10, c11, c12, c13, c14⟩ := HTL.out _ hz; go_simp <;> rfl) hS3 ?_
  try simp only [List.getElem_toArray, List.getElem_cons_succ, List.getElem_cons_zero, Act.put, List.setIfInBounds_toArray, List.set_cons_zero, List.set_cons_succ]
  refine wpAnyL_take 8 rfl (by kernel_rfl) (by kernel_rfl) (by kernel_rfl) (by kernel_rfl) (fun _ _ _ h => h) (by kernel_rfl) (by intro w' hS'; have hz := hS'; obtain ⟨-, c0, c1, c2, c3, c4, c5, c6, c7, c8, c9, c10, c11, c12, c13, c14⟩ := HTL.out _ hz; go_simp <;> rfl) hS3 ?_
  try simp only [List.getElem_toArray, List.getElem_cons_succ, List.getElem_cons_zero, Act.put, List.setIfInBounds_toArray, List.set_cons_zero, List.set_cons_succ]
  refine wpAnyL_take 9 rfl (by kernel_rfl) (by kernel_rfl) (by kernel_rfl) (by kernel_rfl) (fun _ _ _ h => h) (by kernel_rfl) (by intro w' hS'; have hz := hS'; obtain ⟨-, c0, c1, c2, c3, c4, c5, c6, c7, c8, c9, c10, c11, c12, c13, c14⟩ := HTL.out _ hz; go_simp <;> rfl) hS3 ?_
  try simp only [List.getElem_toArray, List.getElem_cons_succ, List.getElem_cons_zero, Act.put, List.setIfInBounds_toArray, List.set_cons_zero, List.set_cons_succ]
  refine wpAnyL_take 10 rfl (by kernel_rfl) (by kernel_rfl) (by kernel_rfl) (by kernel_rfl) (fun _ _ _ h => h) (by kernel_rfl) (by intro w' hS'; have hz := hS'; obtain ⟨-, c0, c1, c2, c3, c4, c5, c6, c7, c8, c9, c10, c11, c12, c13, c14⟩ := HTL.out _ hz; go_simp <;> rfl) hS3 ?_
  try simp only [List.getElem_toArray, List.getElem_cons_succ, List.getElem_cons_zero, Act.put, List.setIfInBounds_toArray, List.set_cons_zero, List.set_cons_succ]
  refine wpAnyL_take 11 rfl (by kernel_rfl) (by kernel_rfl) (by kernel_rfl) (by kernel_rfl) (fun _ _ _ h => h) (by kernel_rfl) (by intro w' hS'; have hz := hS'; obtain ⟨-, c0, c1, c2, c3, c4, c5, c6, c7, c8, c9, c10, c11, c12, c13, c14⟩ := HTL.out _ hz; go_simp <;> rfl) hS3 ?_
  try simp only [List.getElem_toArray, List.getElem_cons_succ, List.getElem_cons_zero, Act.put, List.setIfInBounds_toArray, List.set_cons_zero, List.set_cons_succ]
  refine wpAnyL_take 12 rfl (by kernel_rfl) (by kernel_rfl) (by kernel_rfl) (by kernel_rfl) (fun _ _ _ h => h) (by kernel_rfl) (by intro w' hS'; have hz := hS'; obtain ⟨-, c0, c1, c2, c3, c4, c5, c6, c7, c8, c9, c10, c11, c12, c13, c14⟩ := HTL.out _ hz; go_simp <;> rfl) hS3 ?_
  try simp only [List.getElem_toArray, List.getElem_cons_succ, List.getElem_cons_zero, Act.put, List.setIfInBounds_toArray, List.set_cons_zero, List.set_cons_succ]
  refine wpAnyL_take 13 rfl (by kernel_rfl) (by kernel_rfl) (by kernel_rfl) (by kernel_rfl) (fun _ _ _ h => h) (by kernel_rfl) (by intro w' hS'; have hz := hS'; obtain ⟨-, c0, c1, c2, c3, c4, c5, c6, c7, c8, c9, c10, c11, c12, c13, c14⟩ := HTL.out _ hz; go_simp <;> rfl) hS3 ?_
  try simp only [List.getElem_toArray, List.getElem_cons_succ, List.getElem_cons_zero, Act.put, List.setIfInBounds_toArray, List.set_cons_zero, List.set_cons_succ]
  refine wpAnyL_take 14 rfl (by kernel_rfl) (by kernel_rfl) (by kernel_rfl) (by kernel_rfl) (fun _ _ _ h => h) (by kernel_rfl) (by intro w' hS'; have hz := hS'; obtain ⟨-, c0, c1, c2, c3, c4, c5, c6, c7, c8, c9, c10, c11, c12, c13, c14⟩ := HTL.out _ hz; go_simp <;> rfl) hS3 ?_
  try simp only [List.getElem_toArray, List.getElem_cons_succ, List.getElem_cons_zero, Act.put, List.setIfInBounds_toArray, List.set_cons_zero, List.set_cons_succ]
  refine wpAnyL_take 15 rfl (by kernel_rfl) (by kernel_rfl) (by kernel_rfl) (by kernel_rfl) (fun _ _ _ h => h) (by kernel_rfl) (by intro w' hS'; have hz := hS'; obtain ⟨-, c0, c1, c2, c3, c4, c5, c6, c7, c8, c9, c10, c11, c12, c13, c14⟩ := HTL.out _ hz; go_simp <;> rfl) hS3 ?_
  try simp only [List.getElem_toArray, List.getElem_cons_succ, List.getElem_cons_zero, Act.put, List.setIfInBounds_toArray, List.set_cons_zero, List.set_cons_succ]
  refine wpAnyL_take 16 rfl (by kernel_rfl) (by kernel_rfl) (by kernel_rfl) (by kernel_rfl) (fun _ _ _ h => h) (by kernel_rfl) (by intro w' hS'; have hz := hS'; obtain ⟨-, c0, c1, c2, c3, c4, c5, c6, c7, c8, c9, c10, c11, c12, c13, c14⟩ := HTL.out _ hz; go_simp <;> rfl) hS3 ?_
  try simp only [List.getElem_toArray, List.getElem_cons_succ, List.getElem_cons_zero, Act.put, List.setIfInBounds_toArray, List.set_cons_zero, List.set_cons_succ]
  refine wpAnyL_take 17 rfl (by kernel_rfl) (by kernel_rfl) (by kernel_rfl) (by kernel_rfl) (fun _ _ _ h => h) (by kernel_rfl) (by intro w' hS'; have hz := hS'; obtain ⟨-, c0, c1, c2, c3, c4, c5, c6, c7, c8, c9, c10, c11, c12, c13, c14⟩ := HTL.out _ hz; go_simp <;> rfl) hS3 ?_
  try simp only [List.getElem_toArray, List.getElem_cons_succ, List.getElem_cons_zero, Act.put, List.setIfInBounds_toArray, List.set_cons_zero, List.set_cons_succ]
  refine wpAnyL_take 18 rfl (by kernel_rfl) (by kernel_rfl) (by kernel_rfl) (by kernel_rfl) (fun _ _ _ h => h) (by kernel_rfl) (by intro w' hS'; have hz := hS'; obtain ⟨-, c0, c1, c2, c3, c4, c5, c6, c7, c8, c9, c10, c11, c12, c13, c14⟩ := HTL.out _ hz; go_simp <;> rfl) hS3 ?_
  try simp only [List.getElem_toArray, List.getElem_cons_succ, List.getElem_cons_zero, Act.put, List.setIfInBounds_toArray, List.set_cons_zero, List.set_cons_succ]
  refine wpAnyL_take 19 rfl (by kernel_rfl) (by kernel_rfl) (by kernel_rfl) (by kernel_rfl) (fun _ _ _ h => h) (by kernel_rfl) (by intro w' hS'; have hz := hS'; obtain ⟨-, c0, c1, c2, c3, c4, c5, c6, c7, c8, c9, c10, c11, c12, c13, c14⟩ := HTL.out _ hz; go_simp <;> rfl) hS3 ?_
  try simp only [List.getElem_toArray, List.getElem_cons_succ, List.getElem_cons_zero, Act.put, List.setIfInBounds_toArray, List.set_cons_zero, List.set_cons_succ]
  refine wpAnyL_take 20 rfl (by kernel_rfl) (by kernel_rfl) (by kernel_rfl) (by kernel_rfl) (fun _ _ _ h => h) (by kernel_rfl) (by intro w' hS'; have hz := hS'; obtain ⟨-, c0, c1, c2, c3, c4, c5, c6, c7, c8, c9, c10, c11, c12, c13, c14⟩ := HTL.out _ hz; go_simp <;> rfl) hS3 ?_
  try simp only [List.getElem_toArray, List.getElem_cons_succ, List.getElem_cons_zero, Act.put, List.setIfInBounds_toArray, List.set_cons_zero, List.set_cons_succ]
  refine wpAnyL_take 21 rfl (by kernel_rfl) (by kernel_rfl) (by kernel_rfl) (by kernel_rfl) (fun _ _ _ h => h) (wanted_none rfl) (by intro w' hS'; have hz := hS'; obtain ⟨-, c0, c1, c2, c3, c4, c5, c6, c7, c8, c9, c10, c11, c12, c13, c14⟩ := HTL.out _ hz; go_simp <;> rfl) hS3 ?_
  try simp only [List.getElem_toArray, List.getElem_cons_succ, List.getElem_cons_zero, Act.put, List.setIfInBounds_toArray, List.set_cons_zero, List.set_cons_succ]
  refine wpAnyL_take 22 rfl (by kernel_rfl) (by kernel_rfl) (by kernel_rfl) (by kernel_rfl) (fun _ _ _ h => h) (wanted_none rfl) (by intro w' hS'; have hz := hS'; obtain ⟨-, c0, c1, c2, c3, c4, c5, c6, c7, c8, c9, c10, c11, c12, c13, c14⟩ := HTL.out _ hz; go_simp <;> rfl) hS3 ?_
  try simp only [List.getElem_toArray, List.getElem_cons_succ, List.getElem_cons_zero, Act.put, List.setIfInBounds_toArray, List.set_cons_zero, List.set_cons_succ]
  refine wpAnyL_take 23 rfl (by kernel_rfl) (by kernel_rfl) (by kernel_rfl) (by kernel_rfl) (fun _ _ _ h => h) (by kernel_rfl) (by intro w' hS'; have hz := hS'; obtain ⟨-, c0, c1, c2, c3, c4, c5, c6, c7, c8, c9, c10, c11, c12, c13, c14⟩ := HTL.out _ hz; go_simp <;> rfl) hS3 ?_
  try simp only [List.getElem_toArray, List.getElem_cons_succ, List.getElem_cons_zero, Act.put, List.setIfInBounds_toArray, List.set_cons_zero, List.set_cons_succ]
  refine wpAnyL_take 24 rfl (by kernel_rfl) (by kernel_rfl) (by kernel_rfl) (by kernel_rfl) (fun _ _ _ h => h) (by kernel_rfl) (by intro w' hS'; have hz := hS'; obtain ⟨-, c0, c1, c2, c3, c4, c5, c6, c7, c8, c9, c10, c11, c12, c13, c14⟩ := HTL.out _ hz; go_simp <;> rfl) hS3 ?_
  try simp only [List.getElem_toArray, List.getElem_cons_succ, List.getElem_cons_zero, Act.put, List.setIfInBounds_toArray, List.set_cons_zero, List.set_cons_succ]
  refine wpAnyL_take 25 rfl (by kernel_rfl) (by kernel_rfl) (by kernel_rfl) (by kernel_rfl) (fun _ _ _ h => h) (by kernel_rfl) (by intro w' hS'; have hz := hS'; obtain ⟨-, c0, c1, c2, c3, c4, c5, c6, c7, c8, c9, c10, c11, c12, c13, c14⟩ := HTL.out _ hz; go_simp <;> rfl) hS3 ?_
  try simp only [List.getElem_toArray, List.getElem_cons_succ, List.getElem_cons_zero, Act.put, List.setIfInBounds_toArray, List.set_cons_zero, List.set_cons_succ]
  refine wpAnyL_take 26 rfl (by kernel_rfl) (by kernel_rfl) (by kernel_rfl) (by kernel_rfl) (fun _ _ _ h => h) (by kernel_rfl) (by intro w' hS'; have hz := hS'; obtain ⟨-, c0, c1, c2, c3, c4, c5, c6, c7, c8, c9, c10, c11, c12, c13, c14⟩ := HTL.out _ hz; go_simp <;> rfl) hS3 ?_
  try simp only [List.getElem_toArray, List.getElem_cons_succ, List.getElem_cons_zero, Act.put, List.setIfInBounds_toArray, List.set_cons_zero, List.set_cons_succ]
  refine wpAnyL_take 27 rfl (by kernel_rfl) (by kernel_rfl) (by kernel_rfl) (by kernel_rfl) (fun _ _ _ h => h) (by kernel_rfl) (by intro w' hS'; have hz := hS'; obtain ⟨-, c0, c1, c2, c3, c4, c5, c6, c7, c8, c9, c10, c11, c12, c13, c14⟩ := HTL.out _ hz; go_simp <;> rfl) hS3 ?_
  try simp only [List.getElem_toArray, List.getElem_cons_succ, List.getElem_cons_zero, Act.put, List.setIfInBounds_toArray, List.set_cons_zero, List.set_cons_succ]
  refine wpAnyL_take 28 rfl (by kernel_rfl) (by kernel_rfl) (by kernel_rfl) (by kernel_rfl) (fun _ _ _ h => h) (by kernel_rfl) (by intro w' hS'; have hz := hS'; obtain ⟨-, c0, c1, c2, c3, c4, c5, c6, c7, c8, c9, c10, c11, c12, c13, c14⟩ := HTL.out _ hz; go_simp <;> rfl) hS3 ?_
  try simp only [List.getElem_toArray, List.getElem_cons_succ, List.getElem_cons_zero, Act.put, List.setIfInBounds_toArray, List.set_cons_zero, List.set_cons_succ]
  refine wpAnyL_take 29 rfl (by kernel_rfl) (by kernel_rfl) (by kernel_rfl) (by kernel_rfl) (fun _ _ _ h => h) (wanted_none rfl) (by intro w' hS'; have hz := hS'; obtain ⟨-, c0, c1, c2, c3, c4, c5, c6, c7, c8, c9, c10, c11, c12, c13, c14⟩ := HTL.out _ hz; go_simp <;> rfl) hS3 ?_
  try simp only [List.getElem_toArray, List.getElem_cons_succ, List.getElem_cons_zero, Act.put, List.setIfInBounds_toArray, List.set_cons_zero, List.set_cons_succ]
  refine wpAnyL_take 30 rfl (by kernel_rfl) (by kernel_rfl) (by kernel_rfl) (by kernel_rfl) (fun _ _ _ h => h) (wanted_none rfl) (by intro w' hS'; have hz := hS'; obtain ⟨-, c0, c1, c2, c3, c4, c5, c6, c7, c8, c9, c10, c11, c12, c13, c14⟩ := HTL.out _ hz; go_simp <;> rfl) hS3 ?_
  try simp only [List.getElem_toArray, List.getElem_cons_succ, List.getElem_cons_zero, Act.put, List.setIfInBounds_toArray, List.set_cons_zero, List.set_cons_succ]
  refine wpAnyL_done (by kernel_rfl) (NoPanic.normal ?_) _
  have HR3 : Hid (TuR w0 K w w3 t [82] _) := HR1.out.trans (TuR.of_below _ HR1.out.1 hS3)
  have ka := pask_of w0 K w3 t _ HR3.out.1 HMB.out.1 HMB.out.2.1 HMB.out.2.2 (by simp) H4.out
  rw [← E.out] at ka
  clear hct h3 hcm HR1 E
  go_wp2_with fail
  refine ka.mono ?_
  rintro e w9 ⟨rfl, hR9⟩
  have HR9 : Hid _ := (HR3.out.mono (T' := [82, 34]) (by simp)).trans hR9
  clear ka hR9 HR3
  go_wp2
  go_end0
  exact ⟨rfl, HR9.out⟩
end Go.Proofs.YtncoandnelgkeaaGreat

