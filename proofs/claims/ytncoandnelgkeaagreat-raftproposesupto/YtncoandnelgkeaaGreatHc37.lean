import Derived.Test.YtncoandnelgkeaaGreatHc36
import Derived.Test.YtncoandnelgkeaaGreatHc35
/- The program's ask: it campaigns. -/
namespace Go.Proofs.YtncoandnelgkeaaGreat
open Go.RowKit QuorumMath RlogMath RaftMath
set_option maxRecDepth 100000
set_option linter.unusedSimpArgs false
set_option linter.unusedVariables false

set_option maxHeartbeats 16000000 in
theorem pask_of (w0 : World) (K : List (Nat × Obj)) (w : World) (t : Nat) (s : Ms) (hS : TuAt w0 K w t s) (hm : mayB s.r.base s.r.log = true) (hbo : OkM s.r.base) (hlo : ∀ e ∈ s.r.log, OkM e) (hol : s.out.length ≤ 100000) (htm : s.r.term < 4611686018427387904) : Calls Tryz.prog 91 #[.pointer (some ⟨t, 0, none⟩)] w fun e w' => e = .returned (.tuple #[]) ∧ TuR w0 K w w' t [82, 34] (askR s) := by
  have kf := pfol_of w0 K w t s (s.r.term + 1) hS
  obtain ⟨hb0, ht0, z, gs, os, hT, hz, hP, ho, hKp⟩ := hS
  obtain ⟨r, zs, ⟨ba, bn, bc⟩, ⟨la, ln, lc⟩, ⟨va, vn, vc⟩, ⟨pa, pn, pc⟩⟩ := z
  obtain ⟨sr, so⟩ := s
  obtain rfl : r = sr := hz
  obtain ⟨nd, tm, vo, ⟨bi, bt, bk, bd⟩, lg, cm, ro, le, el, vt, pe⟩ := r
  obtain ⟨oa, on, oc⟩ := os
  dsimp only at *
  dsimp only [tc] at hT
  have htl : t < w.heap.size := (Array.getElem?_eq_some_iff.1 hT).1
  have HMB : Hid (mayB ⟨bi, bt, bk, bd⟩ lg = true ∧ OkM ⟨bi, bt, bk, bd⟩ ∧ ∀ e ∈ lg, OkM e) := ⟨hm, hbo, hlo⟩
  rw [show ((tm + 1 : Nat) : Int) = (tm : Int) + 1 from rfl] at kf
  have hwt : IntKind.u64.wrap ((tm : Int) + 1) = (tm : Int) + 1 := IntWalk.u64_in _ (by omega)
  have HASK : Hid (askR ⟨⟨nd, tm, vo, ⟨bi, bt, bk, bd⟩, lg, cm, ro, le, el, vt, pe⟩, so⟩ = if wonR (votM ⟨bi, bt, bk, bd⟩ lg) [nd] then leadR ⟨⟨nd, tm + 1, nd, ⟨bi, bt, bk, bd⟩, lg, cm, 1, 0, 0, [nd], []⟩, so⟩ else (votM ⟨bi, bt, bk, bd⟩ lg).foldl (ask1 (lastM ⟨bi, bt, bk, bd⟩ lg).1 (lastM ⟨bi, bt, bk, bd⟩ lg).2) ⟨⟨nd, tm + 1, nd, ⟨bi, bt, bk, bd⟩, lg, cm, 1, 0, 0, [nd], []⟩, so⟩) := rfl
  obtain ⟨-, o0, o1, o2, o3, o4, o5, o6, o7, o8, o9, o10, o11, o12, o13, o14⟩ := r15_cells hT
  clear hP ho hKp hT hm hbo hlo
  go_enter Tryz.func91, Tryz.ntmps91
  go_wp2_with fail
  refine kf.mono ?_
  rintro e w5 ⟨rfl, hR5⟩
  obtain ⟨hA5, hF5, hs5⟩ := hR5
  obtain ⟨hb5, -, z, gs', os', hT, hz, hP, ho, hKp⟩ := hA5
  obtain ⟨r, zs', ⟨ba', bn', bc'⟩, ⟨la', ln', lc'⟩, ⟨va', vn', vc'⟩, ⟨pa', pn', pc'⟩⟩ := z
  obtain rfl : r = ⟨nd, tm + 1, 0, ⟨bi, bt, bk, bd⟩, lg, cm, 0, 0, el, [], []⟩ := hz
  obtain ⟨oa', on', oc'⟩ := os'
  dsimp only [tc] at hT
  rw [show ((tm + 1 : Nat) : Int) = (tm : Int) + 1 from rfl] at hT
  have HTA : Hid (∀ W, Below w0.heap.size w0 W → (∀ b, b ≠ t → b < w5.heap.size → W.heap[b]? = w5.heap[b]?) → W.heap[t]? = some (.cells #[.int .i64 nd, .int .u64 ((tm : Int) + 1), .int .i64 nd, .int .u64 (bi : Int), .int .u64 (bt : Int), .int .i64 bk, .slice ba' bn' bc', .slice la' ln' lc', .int .u64 (cm : Int), .int .i64 1, .int .i64 0, .int .i64 0, .slice (some ⟨w5.heap.size, 0, none⟩) 1 1, .slice pa' pn' pc', .slice oa' on' oc'] 82) → W.heap[w5.heap.size]? = some (.cells #[.int .i64 nd] 3) → w5.heap.size ≤ W.heap.size → TuR w0 K w W t [82] ⟨⟨nd, tm + 1, nd, ⟨bi, bt, bk, bd⟩, lg, cm, 1, 0, 0, [nd], []⟩, so⟩) := fun W h1 h2 h3 h4 h5 => by
    have hf : Frm w0.heap.size [82] w5 W := ⟨fun b hb => h2 b (by omega) (Nat.lt_of_lt_of_le hb hb5.size), fun b cs' τ fr hc hτ => h2 b (fun e => by
      subst e
      rw [hT] at hc
      simp only [Option.some.injEq, Obj.cells.injEq] at hc
      exact hτ (by rw [← hc.2.1]; exact List.mem_singleton.2 rfl)) (Array.getElem?_eq_some_iff.1 hc).1⟩
    have hRK : Rk intE W 3 (.slice (some ⟨w5.heap.size, 0, none⟩) 1 1) [nd] := Rk.made (E := intE) (xs := [nd]) h4 rfl (by unfold maxLen; simp)
    refine ⟨⟨h1, ht0, ⟨⟨nd, tm + 1, nd, ⟨bi, bt, bk, bd⟩, lg, cm, 1, 0, 0, [nd], []⟩, zs', (ba', bn', bc'), (la', ln', lc'), (some ⟨w5.heap.size, 0, none⟩, 1, 1), (pa', pn', pc')⟩, gs', (oa', on', oc'), h3, rfl, ⟨hP.1.frm hf (by decide), hP.2.1.frm hf (by decide) (by decide), ⟨hRK, fun k hk => by cases hk; exact hb5.size⟩, hP.2.2.2.1.frm hf (by decide), hP.2.2.2.2.1.frm hf (by decide), fun g hg => (hP.2.2.2.2.2 g hg).frm hf (by decide) (by decide)⟩, ho, fun x hx => ⟨(h2 x.1 (hKp x hx).2.1 (Array.getElem?_eq_some_iff.1 (hKp x hx).1).1).trans (hKp x hx).1, (hKp x hx).2⟩⟩, hF5.trans hf, Nat.le_trans hs5 h5⟩
  have htl5 : t < w5.heap.size := (Array.getElem?_eq_some_iff.1 hT).1
  clear kf o0 o1 o2 o3 o4 o5 o6 o7 o8 o9 o10 o11 o12 o13 o14 hP ho hKp hF5
  obtain ⟨-, o0, o1, o2, o3, o4, o5, o6, o7, o8, o9, o10, o11, o12, o13, o14⟩ := r15_cells hT
  go_wp2
  (try simp only [Exit.inBlock, Exit.then])
  clear o0 o1 o2 o3 o4 o5 o6 o7 o8 o9 o10 o11 o12 o13 o14
  refine wp_region_L (fun W => W.cell? ⟨t, 0, none⟩ = some (.int .i64 nd)) [] (by kernel_rfl) ?_
  have D00 : w5.drew.heap[t]? = _ := hT
  have U00 : ∀ b, b ≠ t → b < w5.heap.size → w5.drew.heap[b]? = w5.heap[b]? := fun b _ _ => rfl
  have B00 : Below w0.heap.size w0 w5.drew := hb5.drew
  have Z00 : Hid (w5.drew.heap.size = w5.heap.size) := rfl
  have y00 : (fun W => W.cell? ⟨t, 0, none⟩ = some (.int .i64 nd)) w5.drew := by obtain ⟨-, e0, -⟩ := r15_cells D00; exact e0
  generalize w5.drew = wq at *
  obtain ⟨wd, hwd⟩ : ∃ wd, wd = w5 := ⟨_, rfl⟩
  subst hwd
  refine wpAnyL_take 0 rfl (by kernel_rfl) (by kernel_rfl) (by kernel_rfl) (by kernel_rfl) (fun _ _ _ h => h) (wanted_none rfl) (by intro w' hS'; have c0 := hS'; go_simp <;> rfl) y00 ?_
  try simp only [List.getElem_toArray, List.getElem_cons_succ, List.getElem_cons_zero, Act.put, List.setIfInBounds_toArray, List.set_cons_zero, List.set_cons_succ]
  refine wpAnyL_take 1 rfl (by kernel_rfl) (by kernel_rfl) (by kernel_rfl) (by kernel_rfl) (fun _ _ _ h => h) (wanted_none rfl) (by intro w' hS'; have c0 := hS'; go_simp <;> rfl) y00 ?_
  try simp only [List.getElem_toArray, List.getElem_cons_succ, List.getElem_cons_zero, Act.put, List.setIfInBounds_toArray, List.set_cons_zero, List.set_cons_succ]
  refine wpAnyL_take 2 rfl (by kernel_rfl) (by kernel_rfl) (by kernel_rfl) (by kernel_rfl) (fun _ _ _ h => h) (wanted_none rfl) (by intro w' hS'; have c0 := hS'; go_simp <;> rfl) y00 ?_
  try simp only [List.getElem_toArray, List.getElem_cons_succ, List.getElem_cons_zero, Act.put, List.setIfInBounds_toArray, List.set_cons_zero, List.set_cons_succ]
  refine wpAnyL_take 3 rfl (by kernel_rfl) (by kernel_rfl) (by kernel_rfl) (by kernel_rfl) (fun _ _ _ h => h) (wanted_none rfl) (by intro w' hS'; have c0 := hS'; go_simp <;> rfl) y00 ?_
  try simp only [List.getElem_toArray, List.getElem_cons_succ, List.getElem_cons_zero, Act.put, List.setIfInBounds_toArray, List.set_cons_zero, List.set_cons_succ]
  refine wpAnyL_take 4 rfl (by kernel_rfl) (by kernel_rfl) (by kernel_rfl) (by kernel_rfl) (fun _ _ _ h => h) (wanted_none rfl) (by intro w' hS'; have c0 := hS'; go_simp <;> rfl) y00 ?_
  try simp only [List.getElem_toArray, List.getElem_cons_succ, List.getElem_cons_zero, Act.put, List.setIfInBounds_toArray, List.set_cons_zero, List.set_cons_succ]
  refine wpAnyL_take 5 rfl (by kernel_rfl) (by kernel_rfl) (by kernel_rfl) (by kernel_rfl) (fun _ _ _ h => h) (wanted_none rfl) (by intro w' hS'; have c0 := hS'; go_simp <;> rfl) y00 ?_
  try simp only [List.getElem_toArray, List.getElem_cons_succ, List.getElem_cons_zero, Act.put, List.setIfInBounds_toArray, List.set_cons_zero, List.set_cons_succ]
  refine wpAnyL_take 6 rfl (by kernel_rfl) (by kernel_rfl) (by kernel_rfl) (by kernel_rfl) (fun _ _ _ h => h) (wanted_none rfl) (by intro w' hS'; have c0 := hS'; go_simp <;> rfl) y00 ?_
  try simp only [List.getElem_toArray, List.getElem_cons_succ, List.getElem_cons_zero, Act.put, List.setIfInBounds_toArray, List.set_cons_zero, List.set_cons_succ]
  refine wpAnyL_take 7 rfl (by kernel_rfl) (by kernel_rfl) (by kernel_rfl) (by kernel_rfl) (fun _ _ _ h => h) (wanted_none rfl) (by intro w' hS'; have c0 := hS'; go_simp <;> rfl) y00 ?_
  try simp only [List.getElem_toArray, List.getElem_cons_succ, List.getElem_cons_zero, Act.put, List.setIfInBounds_toArray, List.set_cons_zero, List.set_cons_succ]
  refine wpAnyL_take 8 rfl (by kernel_rfl) (by kernel_rfl) (by kernel_rfl) (by kernel_rfl) (fun _ _ _ h => h) (wanted_none rfl) (by intro w' hS'; have c0 := hS'; go_simp <;> rfl) y00 ?_
  try simp only [List.getElem_toArray, List.getElem_cons_succ, List.getElem_cons_zero, Act.put, List.setIfInBounds_toArray, List.set_cons_zero, List.set_cons_succ]
  refine wpAnyL_take 9 rfl (by kernel_rfl) (by kernel_rfl) (by kernel_rfl) (by kernel_rfl) (fun _ _ _ h => h) (wanted_none rfl) (by intro w' hS'; have c0 := hS'; go_simp <;> rfl) y00 ?_
  try simp only [List.getElem_toArray, List.getElem_cons_succ, List.getElem_cons_zero, Act.put, List.setIfInBounds_toArray, List.set_cons_zero, List.set_cons_succ]
  refine wpAnyL_take 10 rfl (by kernel_rfl) (by kernel_rfl) (by kernel_rfl) (by kernel_rfl) (fun _ _ _ h => h) (wanted_none rfl) (by intro w' hS'; have c0 := hS'; go_simp <;> rfl) y00 ?_
  try simp only [List.getElem_toArray, List.getElem_cons_succ, List.getElem_cons_zero, Act.put, List.setIfInBounds_toArray, List.set_cons_zero, List.set_cons_succ]
  refine wpAnyL_take 11 rfl (by kernel_rfl) (by kernel_rfl) (by kernel_rfl) (by kernel_rfl) (fun _ _ _ h => h) (wanted_none rfl) (by intro w' hS'; have c0 := hS'; go_simp <;> rfl) y00 ?_
  try simp only [List.getElem_toArray, List.getElem_cons_succ, List.getElem_cons_zero, Act.put, List.setIfInBounds_toArray, List.set_cons_zero, List.set_cons_succ]
  refine wpAnyL_take 12 rfl (by kernel_rfl) (by kernel_rfl) (by kernel_rfl) (by kernel_rfl) (fun _ _ _ h => h) (wanted_none rfl) (by intro w' hS'; have c0 := hS'; go_simp <;> rfl) y00 ?_
  try simp only [List.getElem_toArray, List.getElem_cons_succ, List.getElem_cons_zero, Act.put, List.setIfInBounds_toArray, List.set_cons_zero, List.set_cons_succ]
  refine wpAnyL_take 13 rfl (by kernel_rfl) (by kernel_rfl) (by kernel_rfl) (by kernel_rfl) (fun _ _ _ h => h) (wanted_none rfl) (by intro w' hS'; have c0 := hS'; go_simp <;> rfl) y00 ?_
  try simp only [List.getElem_toArray, List.getElem_cons_succ, List.getElem_cons_zero, Act.put, List.setIfInBounds_toArray, List.set_cons_zero, List.set_cons_succ]
  refine wpAnyL_take 15 rfl (by kernel_rfl) (by kernel_rfl) (by kernel_rfl) (by kernel_rfl) (fun _ _ _ h => h) (wanted_none rfl) (by intro w' hS'; have c0 := hS'; go_simp <;> rfl) y00 ?_
  try simp only [List.getElem_toArray, List.getElem_cons_succ, List.getElem_cons_zero, Act.put, List.setIfInBounds_toArray, List.set_cons_zero, List.set_cons_succ]
  refine wpAnyL_take 16 rfl (by kernel_rfl) (by kernel_rfl) (by kernel_rfl) (by kernel_rfl) (fun _ _ _ h => h) (wanted_none rfl) (by intro w' hS'; have c0 := hS'; go_simp <;> rfl) y00 ?_
  try simp only [List.getElem_toArray, List.getElem_cons_succ, List.getElem_cons_zero, Act.put, List.setIfInBounds_toArray, List.set_cons_zero, List.set_cons_succ]
  refine wpAnyL_take 17 rfl (by kernel_rfl) (by kernel_rfl) (by kernel_rfl) (by kernel_rfl) (fun _ _ _ h => h) (wanted_none rfl) (by intro w' hS'; have c0 := hS'; go_simp <;> rfl) y00 ?_
  try simp only [List.getElem_toArray, List.getElem_cons_succ, List.getElem_cons_zero, Act.put, List.setIfInBounds_toArray, List.set_cons_zero, List.set_cons_succ]
  refine wpAnyL_two 14 18 (by kernel_rfl) rfl rfl (by kernel_rfl) (by kernel_rfl) ?_ ?_
  · intro K' hK'
    go_simp
    have q1 := heap_alloc_new wq (.cells #[.int .i64 nd] 3)
    have q2 : (wq.alloc (.cells #[.int .i64 nd] 3)).heap[t]? = _ := (heap_alloc_old _ _ (Array.getElem?_eq_some_iff.1 D00).1).trans D00
    have q3 : ∀ b, b ≠ t → b < wd.heap.size → (wq.alloc (.cells #[.int .i64 nd] 3)).heap[b]? = wd.heap[b]? := fun b h1 h2 => (heap_alloc_old _ _ (by rw [Z00.out]; exact h2)).trans (U00 b h1 h2)
    have q4 : Below w0.heap.size w0 (wq.alloc (.cells #[.int .i64 nd] 3)) := Below.alloc B00 B00.size _
    have Z01 : Hid ((wq.alloc (.cells #[.int .i64 nd] 3)).heap.size = wd.heap.size + 1) := by show _ = _; simp [Z00.out]
    rw [Z00.out] at q1
    have y01 : (fun W => W.cell? ⟨t, 0, none⟩ = some (.int .i64 nd)) (wq.alloc (.cells #[.int .i64 nd] 3)) := by obtain ⟨-, e0, -⟩ := r15_cells q2; exact e0
    have hszE := Z00.out
    rw [hszE]
    refine hK'.out _ _ (.inr y01) ?_
    clear hK' K'
    try simp only [List.getElem_toArray, List.getElem_cons_succ, List.getElem_cons_zero, Act.put, List.setIfInBounds_toArray, List.set_cons_zero, List.set_cons_succ]
    generalize wq.alloc (.cells #[.int .i64 nd] 3) = wa0 at *
    have D01 := q2
    have U01 := q3
    have B01 := q4
    have G0 := q1
    clear q1 q2 q3 q4
    refine wpAnyL_one 18 (by kernel_rfl) rfl (wanted_none rfl) ?_
    intro K' hK'
    obtain ⟨⟨f0, f1, f2, f3, f4, f5, f6, f7, f8, f9, f10, f11, f12, f13, f14⟩, e0, e1, e2, e3, e4, e5, e6, e7, e8, e9, e10, e11, e12, e13, e14⟩ := r15_cells D01
    go_simp
    have D11 : (wa0.setCell ⟨t, 2, none⟩ (.int .i64 nd)).heap[t]? = some (.cells #[.int .i64 nd, .int .u64 ((tm : Int) + 1), .int .i64 nd, .int .u64 (bi : Int), .int .u64 (bt : Int), .int .i64 bk, .slice ba' bn' bc', .slice la' ln' lc', .int .u64 (cm : Int), .int .i64 0, .int .i64 0, .int .i64 el, .slice va' vn' vc', .slice pa' pn' pc', .slice oa' on' oc'] 82) := by simp [World.setCell, Array.getElem?_modify, D01]
    have U11 : ∀ b, b ≠ t → b < wd.heap.size → (wa0.setCell ⟨t, 2, none⟩ (.int .i64 nd)).heap[b]? = wd.heap[b]? := fun b h1 h2 => (set_far (Ne.symm h1) _).trans (U01 b h1 h2)
    have B11 : Below w0.heap.size w0 (wa0.setCell ⟨t, 2, none⟩ (.int .i64 nd)) := B01.setCell (p := ⟨t, 2, none⟩) ht0 _
    have Z11 : Hid ((wa0.setCell ⟨t, 2, none⟩ (.int .i64 nd)).heap.size = wd.heap.size + 1) := by show _ = _; simp [World.setCell]; exact Z01.out
    have G1 : (wa0.setCell ⟨t, 2, none⟩ (.int .i64 nd)).heap[wd.heap.size]? = _ := (set_far (by omega) _).trans G0
    have y11 : (fun W => W.cell? ⟨t, 0, none⟩ = some (.int .i64 nd)) (wa0.setCell ⟨t, 2, none⟩ (.int .i64 nd)) := by obtain ⟨-, e0, -⟩ := r15_cells D11; exact e0
    clear f0 e0 f1 e1 f2 e2 f3 e3 f4 e4 f5 e5 f6 e6 f7 e7 f8 e8 f9 e9 f10 e10 f11 e11 f12 e12 f13 e13 f14 e14
    refine hK'.out _ _ (.inr y11) ?_
    clear hK' K'
    try simp only [List.getElem_toArray, List.getElem_cons_succ, List.getElem_cons_zero, Act.put, List.setIfInBounds_toArray, List.set_cons_zero, List.set_cons_succ]
    generalize wa0.setCell ⟨t, 2, none⟩ (.int .i64 nd) = ws11 at *
    refine wpAnyL_take 19 rfl (by kernel_rfl) (by kernel_rfl) (by kernel_rfl) (by kernel_rfl) (fun _ _ _ h => h) (wanted_none rfl) (by intro w' hS'; have c0 := hS'; go_simp <;> rfl) y11 ?_
    try simp only [List.getElem_toArray, List.getElem_cons_succ, List.getElem_cons_zero, Act.put, List.setIfInBounds_toArray, List.set_cons_zero, List.set_cons_succ]
    refine wpAnyL_take 20 rfl (by kernel_rfl) (by kernel_rfl) (by kernel_rfl) (by kernel_rfl) (fun _ _ _ h => h) (wanted_none rfl) (by intro w' hS'; have c0 := hS'; go_simp <;> rfl) y11 ?_
    try simp only [List.getElem_toArray, List.getElem_cons_succ, List.getElem_cons_zero, Act.put, List.setIfInBounds_toArray, List.set_cons_zero, List.set_cons_succ]
    refine wpAnyL_take 21 rfl (by kernel_rfl) (by kernel_rfl) (by kernel_rfl) (by kernel_rfl) (fun _ _ _ h => h) (wanted_none rfl) (by intro w' hS'; have c0 := hS'; go_simp <;> rfl) y11 ?_
    try simp only [List.getElem_toArray, List.getElem_cons_succ, List.getElem_cons_zero, Act.put, List.setIfInBounds_toArray, List.set_cons_zero, List.set_cons_succ]
    refine wpAnyL_one 22 (by kernel_rfl) rfl (wanted_none rfl) ?_
    intro K' hK'
    obtain ⟨⟨f0, f1, f2, f3, f4, f5, f6, f7, f8, f9, f10, f11, f12, f13, f14⟩, e0, e1, e2, e3, e4, e5, e6, e7, e8, e9, e10, e11, e12, e13, e14⟩ := r15_cells D11
    go_simp
    have D21 : (ws11.setCell ⟨t, 9, none⟩ (.int .i64 1)).heap[t]? = some (.cells #[.int .i64 nd, .int .u64 ((tm : Int) + 1), .int .i64 nd, .int .u64 (bi : Int), .int .u64 (bt : Int), .int .i64 bk, .slice ba' bn' bc', .slice la' ln' lc', .int .u64 (cm : Int), .int .i64 1, .int .i64 0, .int .i64 el, .slice va' vn' vc', .slice pa' pn' pc', .slice oa' on' oc'] 82) := by simp [World.setCell, Array.getElem?_modify, D11]
    have U21 : ∀ b, b ≠ t → b < wd.heap.size → (ws11.setCell ⟨t, 9, none⟩ (.int .i64 1)).heap[b]? = wd.heap[b]? := fun b h1 h2 => (set_far (Ne.symm h1) _).trans (U11 b h1 h2)
    have B21 : Below w0.heap.size w0 (ws11.setCell ⟨t, 9, none⟩ (.int .i64 1)) := B11.setCell (p := ⟨t, 9, none⟩) ht0 _
    have Z21 : Hid ((ws11.setCell ⟨t, 9, none⟩ (.int .i64 1)).heap.size = wd.heap.size + 1) := by show _ = _; simp [World.setCell]; exact Z11.out
    have G2 : (ws11.setCell ⟨t, 9, none⟩ (.int .i64 1)).heap[wd.heap.size]? = _ := (set_far (by omega) _).trans G1
    have y21 : (fun W => W.cell? ⟨t, 0, none⟩ = some (.int .i64 nd)) (ws11.setCell ⟨t, 9, none⟩ (.int .i64 1)) := by obtain ⟨-, e0, -⟩ := r15_cells D21; exact e0
    clear f0 e0 f1 e1 f2 e2 f3 e3 f4 e4 f5 e5 f6 e6 f7 e7 f8 e8 f9 e9 f10 e10 f11 e11 f12 e12 f13 e13 f14 e14
    refine hK'.out _ _ (.inr y21) ?_
    clear hK' K'
    try simp only [List.getElem_toArray, List.getElem_cons_succ, List.getElem_cons_zero, Act.put, List.setIfInBounds_toArray, List.set_cons_zero, List.set_cons_succ]
    generalize ws11.setCell ⟨t, 9, none⟩ (.int .i64 1) = ws21 at *
    refine wpAnyL_take 23 rfl (by kernel_rfl) (by kernel_rfl) (by kernel_rfl) (by kernel_rfl) (fun _ _ _ h => h) (wanted_none rfl) (by intro w' hS'; have c0 := hS'; go_simp <;> rfl) y21 ?_
    try simp only [List.getElem_toArray, List.getElem_cons_succ, List.getElem_cons_zero, Act.put, List.setIfInBounds_toArray, List.set_cons_zero, List.set_cons_succ]
    refine wpAnyL_take 24 rfl (by kernel_rfl) (by kernel_rfl) (by kernel_rfl) (by kernel_rfl) (fun _ _ _ h => h) (wanted_none rfl) (by intro w' hS'; have c0 := hS'; go_simp <;> rfl) y21 ?_
    try simp only [List.getElem_toArray, List.getElem_cons_succ, List.getElem_cons_zero, Act.put, List.setIfInBounds_toArray, List.set_cons_zero, List.set_cons_succ]
    refine wpAnyL_take 25 rfl (by kernel_rfl) (by kernel_rfl) (by kernel_rfl) (by kernel_rfl) (fun _ _ _ h => h) (wanted_none rfl) (by intro w' hS'; have c0 := hS'; go_simp <;> rfl) y21 ?_
    try simp only [List.getElem_toArray, List.getElem_cons_succ, List.getElem_cons_zero, Act.put, List.setIfInBounds_toArray, List.set_cons_zero, List.set_cons_succ]
    refine wpAnyL_one 26 (by kernel_rfl) rfl (wanted_none rfl) ?_
    intro K' hK'
    obtain ⟨⟨f0, f1, f2, f3, f4, f5, f6, f7, f8, f9, f10, f11, f12, f13, f14⟩, e0, e1, e2, e3, e4, e5, e6, e7, e8, e9, e10, e11, e12, e13, e14⟩ := r15_cells D21
    go_simp
    have D31 : (ws21.setCell ⟨t, 11, none⟩ (.int .i64 0)).heap[t]? = some (.cells #[.int .i64 nd, .int .u64 ((tm : Int) + 1), .int .i64 nd, .int .u64 (bi : Int), .int .u64 (bt : Int), .int .i64 bk, .slice ba' bn' bc', .slice la' ln' lc', .int .u64 (cm : Int), .int .i64 1, .int .i64 0, .int .i64 0, .slice va' vn' vc', .slice pa' pn' pc', .slice oa' on' oc'] 82) := by simp [World.setCell, Array.getElem?_modify, D21]
    have U31 : ∀ b, b ≠ t → b < wd.heap.size → (ws21.setCell ⟨t, 11, none⟩ (.int .i64 0)).heap[b]? = wd.heap[b]? := fun b h1 h2 => (set_far (Ne.symm h1) _).trans (U21 b h1 h2)
    have B31 : Below w0.heap.size w0 (ws21.setCell ⟨t, 11, none⟩ (.int .i64 0)) := B21.setCell (p := ⟨t, 11, none⟩) ht0 _
    have Z31 : Hid ((ws21.setCell ⟨t, 11, none⟩ (.int .i64 0)).heap.size = wd.heap.size + 1) := by show _ = _; simp [World.setCell]; exact Z21.out
    have G3 : (ws21.setCell ⟨t, 11, none⟩ (.int .i64 0)).heap[wd.heap.size]? = _ := (set_far (by omega) _).trans G2
    have y31 : (fun W => W.cell? ⟨t, 0, none⟩ = some (.int .i64 nd)) (ws21.setCell ⟨t, 11, none⟩ (.int .i64 0)) := by obtain ⟨-, e0, -⟩ := r15_cells D31; exact e0
    clear f0 e0 f1 e1 f2 e2 f3 e3 f4 e4 f5 e5 f6 e6 f7 e7 f8 e8 f9 e9 f10 e10 f11 e11 f12 e12 f13 e13 f14 e14
    refine hK'.out _ _ (.inr y31) ?_
    clear hK' K'
    try simp only [List.getElem_toArray, List.getElem_cons_succ, List.getElem_cons_zero, Act.put, List.setIfInBounds_toArray, List.set_cons_zero, List.set_cons_succ]
    generalize ws21.setCell ⟨t, 11, none⟩ (.int .i64 0) = ws31 at *
    refine wpAnyL_take 27 rfl (by kernel_rfl) (by kernel_rfl) (by kernel_rfl) (by kernel_rfl) (fun _ _ _ h => h) (wanted_none rfl) (by intro w' hS'; have c0 := hS'; go_simp <;> rfl) y31 ?_
    try simp only [List.getElem_toArray, List.getElem_cons_succ, List.getElem_cons_zero, Act.put, List.setIfInBounds_toArray, List.set_cons_zero, List.set_cons_succ]
    refine wpAnyL_take 28 rfl (by kernel_rfl) (by kernel_rfl) (by kernel_rfl) (by kernel_rfl) (fun _ _ _ h => h) (wanted_none rfl) (by intro w' hS'; have c0 := hS'; go_simp <;> rfl) y31 ?_
    try simp only [List.getElem_toArray, List.getElem_cons_succ, List.getElem_cons_zero, Act.put, List.setIfInBounds_toArray, List.set_cons_zero, List.set_cons_succ]
    refine wpAnyL_take 29 rfl (by kernel_rfl) (by kernel_rfl) (by kernel_rfl) (by kernel_rfl) (fun _ _ _ h => h) (wanted_none rfl) (by intro w' hS'; have c0 := hS'; go_simp <;> rfl) y31 ?_
    try simp only [List.getElem_toArray, List.getElem_cons_succ, List.getElem_cons_zero, Act.put, List.setIfInBounds_toArray, List.set_cons_zero, List.set_cons_succ]
    refine wpAnyL_one 30 (by kernel_rfl) rfl (wanted_none rfl) ?_
    intro K' hK'
    obtain ⟨⟨f0, f1, f2, f3, f4, f5, f6, f7, f8, f9, f10, f11, f12, f13, f14⟩, e0, e1, e2, e3, e4, e5, e6, e7, e8, e9, e10, e11, e12, e13, e14⟩ := r15_cells D31
    go_simp
    have D41 : (ws31.setCell ⟨t, 12, none⟩ (.slice (some ⟨wd.heap.size, 0, none⟩) 1 1)).heap[t]? = some (.cells #[.int .i64 nd, .int .u64 ((tm : Int) + 1), .int .i64 nd, .int .u64 (bi : Int), .int .u64 (bt : Int), .int .i64 bk, .slice ba' bn' bc', .slice la' ln' lc', .int .u64 (cm : Int), .int .i64 1, .int .i64 0, .int .i64 0, .slice (some ⟨wd.heap.size, 0, none⟩) 1 1, .slice pa' pn' pc', .slice oa' on' oc'] 82) := by simp [World.setCell, Array.getElem?_modify, D31]
    have U41 : ∀ b, b ≠ t → b < wd.heap.size → (ws31.setCell ⟨t, 12, none⟩ (.slice (some ⟨wd.heap.size, 0, none⟩) 1 1)).heap[b]? = wd.heap[b]? := fun b h1 h2 => (set_far (Ne.symm h1) _).trans (U31 b h1 h2)
    have B41 : Below w0.heap.size w0 (ws31.setCell ⟨t, 12, none⟩ (.slice (some ⟨wd.heap.size, 0, none⟩) 1 1)) := B31.setCell (p := ⟨t, 12, none⟩) ht0 _
    have Z41 : Hid ((ws31.setCell ⟨t, 12, none⟩ (.slice (some ⟨wd.heap.size, 0, none⟩) 1 1)).heap.size = wd.heap.size + 1) := by show _ = _; simp [World.setCell]; exact Z31.out
    have G4 : (ws31.setCell ⟨t, 12, none⟩ (.slice (some ⟨wd.heap.size, 0, none⟩) 1 1)).heap[wd.heap.size]? = _ := (set_far (by omega) _).trans G3
    have y41 : (fun W => W.cell? ⟨t, 0, none⟩ = some (.int .i64 nd)) (ws31.setCell ⟨t, 12, none⟩ (.slice (some ⟨wd.heap.size, 0, none⟩) 1 1)) := by obtain ⟨-, e0, -⟩ := r15_cells D41; exact e0
    clear f0 e0 f1 e1 f2 e2 f3 e3 f4 e4 f5 e5 f6 e6 f7 e7 f8 e8 f9 e9 f10 e10 f11 e11 f12 e12 f13 e13 f14 e14
    refine hK'.out _ _ (.inr y41) ?_
    clear hK' K'
    try simp only [List.getElem_toArray, List.getElem_cons_succ, List.getElem_cons_zero, Act.put, List.setIfInBounds_toArray, List.set_cons_zero, List.set_cons_succ]
    generalize ws31.setCell ⟨t, 12, none⟩ (.slice (some ⟨wd.heap.size, 0, none⟩) 1 1) = ws41 at *
    refine wpAnyL_done (by kernel_rfl) (NoPanic.normal ?_) _
    have hR6 : TuR w0 K w ws41 t [82] ⟨⟨nd, tm + 1, nd, ⟨bi, bt, bk, bd⟩, lg, cm, 1, 0, 0, [nd], []⟩, so⟩ := HTA.out ws41 B41 U41 D41 G4 (by have := Z41.out; omega)
    clear D41 U41 B41 G4 Z41 y41 HTA
    generalize ws41 = w6 at *
    have HR6 : Hid (TuR w0 K w w6 t [82] ⟨⟨nd, tm + 1, nd, ⟨bi, bt, bk, bd⟩, lg, cm, 1, 0, 0, [nd], []⟩, so⟩) := hR6
    have kw := pwon_of w0 K w6 t _ hR6.1 HMB.out.1 HMB.out.2.1 HMB.out.2.2 (by simp)
    dsimp only [votR] at kw
    clear hR6
    go_wp2_with fail
    refine kw.mono ?_
    rintro e w7 ⟨rfl, hb7⟩
    have HR7 : Hid (TuR w0 K w w7 t [82] ⟨⟨nd, tm + 1, nd, ⟨bi, bt, bk, bd⟩, lg, cm, 1, 0, 0, [nd], []⟩, so⟩) := HR6.out.trans (TuR.of_below _ HR6.out.1 hb7)
    clear kw HR6 hb7
    cases hwon : wonR (votM ⟨bi, bt, bk, bd⟩ lg) [nd] with
    | true =>
      have HSE : Hid (_ = _) := HASK.out.trans (if_pos hwon)
      have kl := plead_of w0 K w7 t _ HR7.out.1 HMB.out.1 HMB.out.2.1 HMB.out.2.2 (by dsimp only; omega) (by dsimp only; omega) rfl
      rw [← HSE.out] at kl
      clear HASK HSE hwon
      go_wp2_with fail
      refine kl.mono ?_
      rintro e w9 ⟨rfl, hR9⟩
      have HR9 : Hid _ := (HR7.out.mono (T' := [82, 34]) (by simp)).trans hR9
      clear kl hR9 HR7
      go_wp2
      (try simp only [Exit.inBlock, Exit.then])
      refine bodyPost_ret (results_none rfl _ _ _) rfl ?_
      exact ⟨rfl, HR9.out⟩
    | false =>
      have HSE : Hid (_ = _) := HASK.out.trans (if_neg (by rw [hwon]; simp))
      clear HASK hwon
      obtain ⟨hb7, -, z7, gs7, os7, hT7, hz7, hP7, ho7, hK7⟩ := HR7.out.1
      obtain ⟨r7, zs7, ⟨ba7, bn7, bc7⟩, ⟨la7, ln7, lc7⟩, ⟨va7, vn7, vc7⟩, ⟨pa7, pn7, pc7⟩⟩ := z7
      obtain rfl : r7 = ⟨nd, tm + 1, nd, ⟨bi, bt, bk, bd⟩, lg, cm, 1, 0, 0, [nd], []⟩ := hz7
      obtain ⟨oa7, on7, oc7⟩ := os7
      dsimp only [tc] at hT7
      rw [show ((tm + 1 : Nat) : Int) = (tm : Int) + 1 from rfl] at hT7
      have hml7 : mes zs7 = lg := hP7.2.1.2.1
      have hzl7 : zs7.length ≤ 1000000 := by have := congrArg List.length hml7; rw [List.length_map] at this; have := (may_last HMB.out.1).2.2; omega
      have hzo7 := okz_of hml7 HMB.out.2.2
      have hD7 : DataV w7 ((⟨bi, bt, bk, bd⟩, ba7, bn7, bc7) : Ez) := hP7.1.data
      have hL7 : EntsV w7 (.slice la7 ln7 lc7) zs7 := hP7.2.1.ents
      have htl7 : t < w7.heap.size := HR7.out.1.lt
      have kla := plast_of (⟨bi, bt, bk, bd⟩, ba7, bn7, bc7) zs7 (.slice la7 ln7 lc7) w7 hL7 (by omega)
      have HVV : Hid (∀ W, Below w7.heap.size w7 W → _) := fun W hW => pvot_c (⟨bi, bt, bk, bd⟩, ba7, bn7, bc7) zs7 (.slice la7 ln7 lc7) W (hD7.below hW) (hL7.below hW) ⟨HMB.out.2.1.1, HMB.out.2.1.2.1, HMB.out.2.1.2.2.1⟩ (fun z hz => (hzo7 z hz).1) (by omega) HMB.out.2.1.2.2.2 (fun z hz => (hzo7 z hz).2)
      rw [hml7] at kla HVV
      dsimp only [lgv, lastV] at kla HVV
      have hvl : (votM ⟨bi, bt, bk, bd⟩ lg).length ≤ 7 := may_vlen HMB.out.1
      generalize votM ⟨bi, bt, bk, bd⟩ lg = V at *
      generalize lastM ⟨bi, bt, bk, bd⟩ lg = LT at *
      obtain ⟨X, XT⟩ := LT
      dsimp only at *
      obtain ⟨-, o0, o1, o2, o3, o4, o5, o6, o7, o8, o9, o10, o11, o12, o13, o14⟩ := r15_cells hT7
      clear hP7 ho7 hK7 hD7 hL7 hzo7 hml7
      go_wp2_with fail
      refine kla.mono ?_
      rintro e w8 ⟨rfl, hb8⟩
      have T8 := (hb8.block t htl7).trans hT7
      have kv := HVV.out w8 hb8
      obtain ⟨-, p0, p1, p2, p3, p4, p5, p6, p7, p8, p9, p10, p11, p12, p13, p14⟩ := r15_cells T8
      clear kla HVV o0 o1 o2 o3 o4 o5 o6 o7 o8 o9 o10 o11 o12 o13 o14
      go_wp2_with fail
      refine kv.mono ?_
      rintro e w9 ⟨u9, rfl, hO9, hb9⟩
      obtain ⟨ua, uc, rfl, -, -⟩ := hO9.1.rd.shape
      have hb79 := hb8.trans (hb9.mono hb8.size)
      have HR9 : Hid (TuR w0 K w w9 t [82, 34] ⟨⟨nd, tm + 1, nd, ⟨bi, bt, bk, bd⟩, lg, cm, 1, 0, 0, [nd], []⟩, so⟩) := (HR7.out.mono (T' := [82, 34]) (by simp)).trans (TuR.of_below _ HR7.out.1 hb79)
      have HRV : Hid (Ow intE 3 w8.heap.size w9 (.slice ua V.length uc) V) := hO9
      have HP : Hid (∀ k, ((V.take k).foldl (ask1 X XT) ⟨⟨nd, tm + 1, nd, ⟨bi, bt, bk, bd⟩, lg, cm, 1, 0, 0, [nd], []⟩, so⟩).r = ⟨nd, tm + 1, nd, ⟨bi, bt, bk, bd⟩, lg, cm, 1, 0, 0, [nd], []⟩) := fun k => asks_r _ _ _ _
      have HQ : Hid (∀ k, ((V.take k).foldl (ask1 X XT) ⟨⟨nd, tm + 1, nd, ⟨bi, bt, bk, bd⟩, lg, cm, 1, 0, 0, [nd], []⟩, so⟩).out.length ≤ 1000000000) := fun k => by
        have h1 := asks_len X XT (V.take k) ⟨⟨nd, tm + 1, nd, ⟨bi, bt, bk, bd⟩, lg, cm, 1, 0, 0, [nd], []⟩, so⟩
        rw [List.length_take] at h1
        dsimp only at h1
        omega
      have HE : Hid ((V.take V.length).foldl (ask1 X XT) ⟨⟨nd, tm + 1, nd, ⟨bi, bt, bk, bd⟩, lg, cm, 1, 0, 0, [nd], []⟩, so⟩ = V.foldl (ask1 X XT) ⟨⟨nd, tm + 1, nd, ⟨bi, bt, bk, bd⟩, lg, cm, 1, 0, 0, [nd], []⟩, so⟩) := by show _ = _; rw [List.take_length]
      have HN : Hid (∀ k x, V[k]? = some x → (V.take (k + 1)).foldl (ask1 X XT) ⟨⟨nd, tm + 1, nd, ⟨bi, bt, bk, bd⟩, lg, cm, 1, 0, 0, [nd], []⟩, so⟩ = ask1 X XT ((V.take k).foldl (ask1 X XT) ⟨⟨nd, tm + 1, nd, ⟨bi, bt, bk, bd⟩, lg, cm, 1, 0, 0, [nd], []⟩, so⟩) x) := fun k x hx => fold_take _ hx _
      clear kv hb8 hb9 hb79 hO9 T8 hT7 HR7 p0 p1 p2 p3 p4 p5 p6 p7 p8 p9 p10 p11 p12 p13 p14 hb7
      go_wp2
      go_loopg [5, 61] V.length (fun gh s5 s61 wr => ∃ k : Nat, k + gh = V.length ∧ s61 = .int .i64 (k : Int) ∧ TuR w0 K w wr t [82, 34] ((V.take k).foldl (ask1 X XT) ⟨⟨nd, tm + 1, nd, ⟨bi, bt, bk, bd⟩, lg, cm, 1, 0, 0, [nd], []⟩, so⟩) ∧ Rk intE wr 3 (.slice ua V.length uc) V)
      case atStart => exact ⟨0, by simp, rfl, HR9.out, HRV.out.1⟩
      case round =>
        obtain ⟨k, hkg, rfl, hRr, hRV⟩ := hrel
        have hr := HP.out k
        have hq := HQ.out k
        have HNk : Hid _ := HN.out k
        have HEk : Hid (k = V.length → (V.take k).foldl (ask1 X XT) ⟨⟨nd, tm + 1, nd, ⟨bi, bt, bk, bd⟩, lg, cm, 1, 0, 0, [nd], []⟩, so⟩ = V.foldl (ask1 X XT) ⟨⟨nd, tm + 1, nd, ⟨bi, bt, bk, bd⟩, lg, cm, 1, 0, 0, [nd], []⟩, so⟩) := fun h => by rw [h]; exact HE.out
        generalize (V.take k).foldl (ask1 X XT) ⟨⟨nd, tm + 1, nd, ⟨bi, bt, bk, bd⟩, lg, cm, 1, 0, 0, [nd], []⟩, so⟩ = a at *
        have HRr : Hid (TuR w0 K w wr t [82, 34] a) := hRr
        have HRVr : Hid (Rk intE wr 3 (.slice ua V.length uc) V) := hRV
        by_cases hlt : k < V.length
        · have hlti : (k : Int) < (V.length : Int) := by omega
          have hx : V[k]? = some V[k] := List.getElem?_eq_getElem hlt
          obtain ⟨x, hxx⟩ : ∃ x, x = V[k] := ⟨_, rfl⟩
          rw [← hxx] at hx
          clear hxx
          obtain ⟨vb, vof, rfl, cv⟩ := rdi_at hRV.rd hx
          have c0 := cv wr (Below.refl _ _)
          have hN := HNk.out x hx
          obtain ⟨-, -, zr, gsr, osr, hTr, hzr, -, -, -⟩ := hRr.1
          rw [hr] at hzr
          obtain ⟨rr, zsr, bsr, lsr, vsr, psr⟩ := zr
          dsimp only at hzr
          subst hzr
          dsimp only [tc] at hTr
          obtain ⟨-, o0, -⟩ := r15_cells hTr
          have ks := send_of w0 K wr t a x ⟨⟨1, 0, 0, 0, X, XT, [], 0, false, 0, zeroMe⟩, [], (none, 0, 0), (none, 0, 0)⟩ hRr.1 ⟨Cps.nil _ _, Rk.nil _ _ _⟩ hq
          dsimp only [gv, zeroMe] at ks
          clear cv hx hRr hRV HNk HEk hTr
          by_cases hnd : x = nd
          · have E : Hid (_ = a) := hN.trans (by unfold ask1; rw [hr]; exact if_pos hnd)
            subst hnd
            clear hN ks
            go_wp2
            go_roundg (gk - 1)
            case measure => omega
            case rel => exact ⟨k + 1, by omega, by go_num, by rw [E.out]; exact HRr.out, HRVr.out⟩
          · have E : Hid (_ = sayR a ⟨1, 0, x, 0, X, XT, [], 0, false, 0, zeroMe⟩) := hN.trans (by unfold ask1; rw [hr]; exact if_neg hnd)
            have hndb : (x != nd) = true := by simpa using hnd
            clear hN
            go_wp2_with fail
            refine ks.mono ?_
            rintro e w5 ⟨rfl, hR5⟩
            have hRf : TuR w0 K w w5 t [82, 34] _ := HRr.out.trans hR5
            have hRVf := HRVr.out.frm hR5.2.1 (by decide)
            clear ks hR5
            go_wp2
            go_roundg (gk - 1)
            case measure => omega
            case rel => exact ⟨k + 1, by omega, by go_num, by rw [E.out]; exact hRf, hRVf⟩
        · have hlti : ¬ (k : Int) < (V.length : Int) := by omega
          rw [HEk.out (by omega)] at hRr
          clear HNk HEk hRV HRVr HRr
          go_wp2
          go_end0
          exact ⟨rfl, by rw [HSE.out]; exact hRr⟩
  · intro K' hK'
    obtain ⟨⟨f0, f1, f2, f3, f4, f5, f6, f7, f8, f9, f10, f11, f12, f13, f14⟩, e0, e1, e2, e3, e4, e5, e6, e7, e8, e9, e10, e11, e12, e13, e14⟩ := r15_cells D00
    go_simp
    have D10 : (wq.setCell ⟨t, 2, none⟩ (.int .i64 nd)).heap[t]? = some (.cells #[.int .i64 nd, .int .u64 ((tm : Int) + 1), .int .i64 nd, .int .u64 (bi : Int), .int .u64 (bt : Int), .int .i64 bk, .slice ba' bn' bc', .slice la' ln' lc', .int .u64 (cm : Int), .int .i64 0, .int .i64 0, .int .i64 el, .slice va' vn' vc', .slice pa' pn' pc', .slice oa' on' oc'] 82) := by simp [World.setCell, Array.getElem?_modify, D00]
    have U10 : ∀ b, b ≠ t → b < wd.heap.size → (wq.setCell ⟨t, 2, none⟩ (.int .i64 nd)).heap[b]? = wd.heap[b]? := fun b h1 h2 => (set_far (Ne.symm h1) _).trans (U00 b h1 h2)
    have B10 : Below w0.heap.size w0 (wq.setCell ⟨t, 2, none⟩ (.int .i64 nd)) := B00.setCell (p := ⟨t, 2, none⟩) ht0 _
    have Z10 : Hid ((wq.setCell ⟨t, 2, none⟩ (.int .i64 nd)).heap.size = wd.heap.size) := by show _ = _; simp [World.setCell]; exact Z00.out
    have y10 : (fun W => W.cell? ⟨t, 0, none⟩ = some (.int .i64 nd)) (wq.setCell ⟨t, 2, none⟩ (.int .i64 nd)) := by obtain ⟨-, e0, -⟩ := r15_cells D10; exact e0
    clear f0 e0 f1 e1 f2 e2 f3 e3 f4 e4 f5 e5 f6 e6 f7 e7 f8 e8 f9 e9 f10 e10 f11 e11 f12 e12 f13 e13 f14 e14
    refine hK'.out _ _ (.inr y10) ?_
    clear hK' K'
    try simp only [List.getElem_toArray, List.getElem_cons_succ, List.getElem_cons_zero, Act.put, List.setIfInBounds_toArray, List.set_cons_zero, List.set_cons_succ]
    generalize wq.setCell ⟨t, 2, none⟩ (.int .i64 nd) = ws10 at *
    refine wpAnyL_take 19 rfl (by kernel_rfl) (by kernel_rfl) (by kernel_rfl) (by kernel_rfl) (fun _ _ _ h => h) (wanted_none rfl) (by intro w' hS'; have c0 := hS'; go_simp <;> rfl) y10 ?_
    try simp only [List.getElem_toArray, List.getElem_cons_succ, List.getElem_cons_zero, Act.put, List.setIfInBounds_toArray, List.set_cons_zero, List.set_cons_succ]
    refine wpAnyL_take 20 rfl (by kernel_rfl) (by kernel_rfl) (by kernel_rfl) (by kernel_rfl) (fun _ _ _ h => h) (wanted_none rfl) (by intro w' hS'; have c0 := hS'; go_simp <;> rfl) y10 ?_
    try simp only [List.getElem_toArray, List.getElem_cons_succ, List.getElem_cons_zero, Act.put, List.setIfInBounds_toArray, List.set_cons_zero, List.set_cons_succ]
    refine wpAnyL_take 21 rfl (by kernel_rfl) (by kernel_rfl) (by kernel_rfl) (by kernel_rfl) (fun _ _ _ h => h) (wanted_none rfl) (by intro w' hS'; have c0 := hS'; go_simp <;> rfl) y10 ?_
    try simp only [List.getElem_toArray, List.getElem_cons_succ, List.getElem_cons_zero, Act.put, List.setIfInBounds_toArray, List.set_cons_zero, List.set_cons_succ]
    refine wpAnyL_two 14 22 (by kernel_rfl) rfl rfl (by kernel_rfl) (by kernel_rfl) ?_ ?_
    · intro K' hK'
      go_simp
      have q1 := heap_alloc_new ws10 (.cells #[.int .i64 nd] 3)
      have q2 : (ws10.alloc (.cells #[.int .i64 nd] 3)).heap[t]? = _ := (heap_alloc_old _ _ (Array.getElem?_eq_some_iff.1 D10).1).trans D10
      have q3 : ∀ b, b ≠ t → b < wd.heap.size → (ws10.alloc (.cells #[.int .i64 nd] 3)).heap[b]? = wd.heap[b]? := fun b h1 h2 => (heap_alloc_old _ _ (by rw [Z10.out]; exact h2)).trans (U10 b h1 h2)
      have q4 : Below w0.heap.size w0 (ws10.alloc (.cells #[.int .i64 nd] 3)) := Below.alloc B10 B10.size _
      have Z11 : Hid ((ws10.alloc (.cells #[.int .i64 nd] 3)).heap.size = wd.heap.size + 1) := by show _ = _; simp [Z10.out]
      rw [Z10.out] at q1
      have y11 : (fun W => W.cell? ⟨t, 0, none⟩ = some (.int .i64 nd)) (ws10.alloc (.cells #[.int .i64 nd] 3)) := by obtain ⟨-, e0, -⟩ := r15_cells q2; exact e0
      have hszE := Z10.out
      rw [hszE]
      refine hK'.out _ _ (.inr y11) ?_
      clear hK' K'
      try simp only [List.getElem_toArray, List.getElem_cons_succ, List.getElem_cons_zero, Act.put, List.setIfInBounds_toArray, List.set_cons_zero, List.set_cons_succ]
      generalize ws10.alloc (.cells #[.int .i64 nd] 3) = wa1 at *
      have D11 := q2
      have U11 := q3
      have B11 := q4
      have G1 := q1
      clear q1 q2 q3 q4
      refine wpAnyL_one 22 (by kernel_rfl) rfl (wanted_none rfl) ?_
      intro K' hK'
      obtain ⟨⟨f0, f1, f2, f3, f4, f5, f6, f7, f8, f9, f10, f11, f12, f13, f14⟩, e0, e1, e2, e3, e4, e5, e6, e7, e8, e9, e10, e11, e12, e13, e14⟩ := r15_cells D11
      go_simp
      have D21 : (wa1.setCell ⟨t, 9, none⟩ (.int .i64 1)).heap[t]? = some (.cells #[.int .i64 nd, .int .u64 ((tm : Int) + 1), .int .i64 nd, .int .u64 (bi : Int), .int .u64 (bt : Int), .int .i64 bk, .slice ba' bn' bc', .slice la' ln' lc', .int .u64 (cm : Int), .int .i64 1, .int .i64 0, .int .i64 el, .slice va' vn' vc', .slice pa' pn' pc', .slice oa' on' oc'] 82) := by simp [World.setCell, Array.getElem?_modify, D11]
      have U21 : ∀ b, b ≠ t → b < wd.heap.size → (wa1.setCell ⟨t, 9, none⟩ (.int .i64 1)).heap[b]? = wd.heap[b]? := fun b h1 h2 => (set_far (Ne.symm h1) _).trans (U11 b h1 h2)
      have B21 : Below w0.heap.size w0 (wa1.setCell ⟨t, 9, none⟩ (.int .i64 1)) := B11.setCell (p := ⟨t, 9, none⟩) ht0 _
      have Z21 : Hid ((wa1.setCell ⟨t, 9, none⟩ (.int .i64 1)).heap.size = wd.heap.size + 1) := by show _ = _; simp [World.setCell]; exact Z11.out
      have G2 : (wa1.setCell ⟨t, 9, none⟩ (.int .i64 1)).heap[wd.heap.size]? = _ := (set_far (by omega) _).trans G1
      have y21 : (fun W => W.cell? ⟨t, 0, none⟩ = some (.int .i64 nd)) (wa1.setCell ⟨t, 9, none⟩ (.int .i64 1)) := by obtain ⟨-, e0, -⟩ := r15_cells D21; exact e0
      clear f0 e0 f1 e1 f2 e2 f3 e3 f4 e4 f5 e5 f6 e6 f7 e7 f8 e8 f9 e9 f10 e10 f11 e11 f12 e12 f13 e13 f14 e14
      refine hK'.out _ _ (.inr y21) ?_
      clear hK' K'
      try simp only [List.getElem_toArray, List.getElem_cons_succ, List.getElem_cons_zero, Act.put, List.setIfInBounds_toArray, List.set_cons_zero, List.set_cons_succ]
      generalize wa1.setCell ⟨t, 9, none⟩ (.int .i64 1) = ws21 at *
      refine wpAnyL_take 23 rfl (by kernel_rfl) (by kernel_rfl) (by kernel_rfl) (by kernel_rfl) (fun _ _ _ h => h) (wanted_none rfl) (by intro w' hS'; have c0 := hS'; go_simp <;> rfl) y21 ?_
      try simp only [List.getElem_toArray, List.getElem_cons_succ, List.getElem_cons_zero, Act.put, List.setIfInBounds_toArray, List.set_cons_zero, List.set_cons_succ]
      refine wpAnyL_take 24 rfl (by kernel_rfl) (by kernel_rfl) (by kernel_rfl) (by kernel_rfl) (fun _ _ _ h => h) (wanted_none rfl) (by intro w' hS'; have c0 := hS'; go_simp <;> rfl) y21 ?_
      try simp only [List.getElem_toArray, List.getElem_cons_succ, List.getElem_cons_zero, Act.put, List.setIfInBounds_toArray, List.set_cons_zero, List.set_cons_succ]
      refine wpAnyL_take 25 rfl (by kernel_rfl) (by kernel_rfl) (by kernel_rfl) (by kernel_rfl) (fun _ _ _ h => h) (wanted_none rfl) (by intro w' hS'; have c0 := hS'; go_simp <;> rfl) y21 ?_
      try simp only [List.getElem_toArray, List.getElem_cons_succ, List.getElem_cons_zero, Act.put, List.setIfInBounds_toArray, List.set_cons_zero, List.set_cons_succ]
      refine wpAnyL_one 26 (by kernel_rfl) rfl (wanted_none rfl) ?_
      intro K' hK'
      obtain ⟨⟨f0, f1, f2, f3, f4, f5, f6, f7, f8, f9, f10, f11, f12, f13, f14⟩, e0, e1, e2, e3, e4, e5, e6, e7, e8, e9, e10, e11, e12, e13, e14⟩ := r15_cells D21
      go_simp
      have D31 : (ws21.setCell ⟨t, 11, none⟩ (.int .i64 0)).heap[t]? = some (.cells #[.int .i64 nd, .int .u64 ((tm : Int) + 1), .int .i64 nd, .int .u64 (bi : Int), .int .u64 (bt : Int), .int .i64 bk, .slice ba' bn' bc', .slice la' ln' lc', .int .u64 (cm : Int), .int .i64 1, .int .i64 0, .int .i64 0, .slice va' vn' vc', .slice pa' pn' pc', .slice oa' on' oc'] 82) := by simp [World.setCell, Array.getElem?_modify, D21]
      have U31 : ∀ b, b ≠ t → b < wd.heap.size → (ws21.setCell ⟨t, 11, none⟩ (.int .i64 0)).heap[b]? = wd.heap[b]? := fun b h1 h2 => (set_far (Ne.symm h1) _).trans (U21 b h1 h2)
      have B31 : Below w0.heap.size w0 (ws21.setCell ⟨t, 11, none⟩ (.int .i64 0)) := B21.setCell (p := ⟨t, 11, none⟩) ht0 _
      have Z31 : Hid ((ws21.setCell ⟨t, 11, none⟩ (.int .i64 0)).heap.size = wd.heap.size + 1) := by show _ = _; simp [World.setCell]; exact Z21.out
      have G3 : (ws21.setCell ⟨t, 11, none⟩ (.int .i64 0)).heap[wd.heap.size]? = _ := (set_far (by omega) _).trans G2
      have y31 : (fun W => W.cell? ⟨t, 0, none⟩ = some (.int .i64 nd)) (ws21.setCell ⟨t, 11, none⟩ (.int .i64 0)) := by obtain ⟨-, e0, -⟩ := r15_cells D31; exact e0
      clear f0 e0 f1 e1 f2 e2 f3 e3 f4 e4 f5 e5 f6 e6 f7 e7 f8 e8 f9 e9 f10 e10 f11 e11 f12 e12 f13 e13 f14 e14
      refine hK'.out _ _ (.inr y31) ?_
      clear hK' K'
      try simp only [List.getElem_toArray, List.getElem_cons_succ, List.getElem_cons_zero, Act.put, List.setIfInBounds_toArray, List.set_cons_zero, List.set_cons_succ]
      generalize ws21.setCell ⟨t, 11, none⟩ (.int .i64 0) = ws31 at *
      refine wpAnyL_take 27 rfl (by kernel_rfl) (by kernel_rfl) (by kernel_rfl) (by kernel_rfl) (fun _ _ _ h => h) (wanted_none rfl) (by intro w' hS'; have c0 := hS'; go_simp <;> rfl) y31 ?_
      try simp only [List.getElem_toArray, List.getElem_cons_succ, List.getElem_cons_zero, Act.put, List.setIfInBounds_toArray, List.set_cons_zero, List.set_cons_succ]
      refine wpAnyL_take 28 rfl (by kernel_rfl) (by kernel_rfl) (by kernel_rfl) (by kernel_rfl) (fun _ _ _ h => h) (wanted_none rfl) (by intro w' hS'; have c0 := hS'; go_simp <;> rfl) y31 ?_
      try simp only [List.getElem_toArray, List.getElem_cons_succ, List.getElem_cons_zero, Act.put, List.setIfInBounds_toArray, List.set_cons_zero, List.set_cons_succ]
      refine wpAnyL_take 29 rfl (by kernel_rfl) (by kernel_rfl) (by kernel_rfl) (by kernel_rfl) (fun _ _ _ h => h) (wanted_none rfl) (by intro w' hS'; have c0 := hS'; go_simp <;> rfl) y31 ?_
      try simp only [List.getElem_toArray, List.getElem_cons_succ, List.getElem_cons_zero, Act.put, List.setIfInBounds_toArray, List.set_cons_zero, List.set_cons_succ]
      refine wpAnyL_one 30 (by kernel_rfl) rfl (wanted_none rfl) ?_
      intro K' hK'
      obtain ⟨⟨f0, f1, f2, f3, f4, f5, f6, f7, f8, f9, f10, f11, f12, f13, f14⟩, e0, e1, e2, e3, e4, e5, e6, e7, e8, e9, e10, e11, e12, e13, e14⟩ := r15_cells D31
      go_simp
      have D41 : (ws31.setCell ⟨t, 12, none⟩ (.slice (some ⟨wd.heap.size, 0, none⟩) 1 1)).heap[t]? = some (.cells #[.int .i64 nd, .int .u64 ((tm : Int) + 1), .int .i64 nd, .int .u64 (bi : Int), .int .u64 (bt : Int), .int .i64 bk, .slice ba' bn' bc', .slice la' ln' lc', .int .u64 (cm : Int), .int .i64 1, .int .i64 0, .int .i64 0, .slice (some ⟨wd.heap.size, 0, none⟩) 1 1, .slice pa' pn' pc', .slice oa' on' oc'] 82) := by simp [World.setCell, Array.getElem?_modify, D31]
      have U41 : ∀ b, b ≠ t → b < wd.heap.size → (ws31.setCell ⟨t, 12, none⟩ (.slice (some ⟨wd.heap.size, 0, none⟩) 1 1)).heap[b]? = wd.heap[b]? := fun b h1 h2 => (set_far (Ne.symm h1) _).trans (U31 b h1 h2)
      have B41 : Below w0.heap.size w0 (ws31.setCell ⟨t, 12, none⟩ (.slice (some ⟨wd.heap.size, 0, none⟩) 1 1)) := B31.setCell (p := ⟨t, 12, none⟩) ht0 _
      have Z41 : Hid ((ws31.setCell ⟨t, 12, none⟩ (.slice (some ⟨wd.heap.size, 0, none⟩) 1 1)).heap.size = wd.heap.size + 1) := by show _ = _; simp [World.setCell]; exact Z31.out
      have G4 : (ws31.setCell ⟨t, 12, none⟩ (.slice (some ⟨wd.heap.size, 0, none⟩) 1 1)).heap[wd.heap.size]? = _ := (set_far (by omega) _).trans G3
      have y41 : (fun W => W.cell? ⟨t, 0, none⟩ = some (.int .i64 nd)) (ws31.setCell ⟨t, 12, none⟩ (.slice (some ⟨wd.heap.size, 0, none⟩) 1 1)) := by obtain ⟨-, e0, -⟩ := r15_cells D41; exact e0
      clear f0 e0 f1 e1 f2 e2 f3 e3 f4 e4 f5 e5 f6 e6 f7 e7 f8 e8 f9 e9 f10 e10 f11 e11 f12 e12 f13 e13 f14 e14
      refine hK'.out _ _ (.inr y41) ?_
      clear hK' K'
      try simp only [List.getElem_toArray, List.getElem_cons_succ, List.getElem_cons_zero, Act.put, List.setIfInBounds_toArray, List.set_cons_zero, List.set_cons_succ]
      generalize ws31.setCell ⟨t, 12, none⟩ (.slice (some ⟨wd.heap.size, 0, none⟩) 1 1) = ws41 at *
      refine wpAnyL_done (by kernel_rfl) (NoPanic.normal ?_) _
      have hR6 : TuR w0 K w ws41 t [82] ⟨⟨nd, tm + 1, nd, ⟨bi, bt, bk, bd⟩, lg, cm, 1, 0, 0, [nd], []⟩, so⟩ := HTA.out ws41 B41 U41 D41 G4 (by have := Z41.out; omega)
      clear D41 U41 B41 G4 Z41 y41 HTA
      generalize ws41 = w6 at *
      have HR6 : Hid (TuR w0 K w w6 t [82] ⟨⟨nd, tm + 1, nd, ⟨bi, bt, bk, bd⟩, lg, cm, 1, 0, 0, [nd], []⟩, so⟩) := hR6
      have kw := pwon_of w0 K w6 t _ hR6.1 HMB.out.1 HMB.out.2.1 HMB.out.2.2 (by simp)
      dsimp only [votR] at kw
      clear hR6
      go_wp2_with fail
      refine kw.mono ?_
      rintro e w7 ⟨rfl, hb7⟩
      have HR7 : Hid (TuR w0 K w w7 t [82] ⟨⟨nd, tm + 1, nd, ⟨bi, bt, bk, bd⟩, lg, cm, 1, 0, 0, [nd], []⟩, so⟩) := HR6.out.trans (TuR.of_below _ HR6.out.1 hb7)
      clear kw HR6 hb7
      cases hwon : wonR (votM ⟨bi, bt, bk, bd⟩ lg) [nd] with
      | true =>
        have HSE : Hid (_ = _) := HASK.out.trans (if_pos hwon)
        have kl := plead_of w0 K w7 t _ HR7.out.1 HMB.out.1 HMB.out.2.1 HMB.out.2.2 (by dsimp only; omega) (by dsimp only; omega) rfl
        rw [← HSE.out] at kl
        clear HASK HSE hwon
        go_wp2_with fail
        refine kl.mono ?_
        rintro e w9 ⟨rfl, hR9⟩
        have HR9 : Hid _ := (HR7.out.mono (T' := [82, 34]) (by simp)).trans hR9
        clear kl hR9 HR7
        go_wp2
        (try simp only [Exit.inBlock, Exit.then])
        refine bodyPost_ret (results_none rfl _ _ _) rfl ?_
        exact ⟨rfl, HR9.out⟩
      | false =>
        have HSE : Hid (_ = _) := HASK.out.trans (if_neg (by rw [hwon]; simp))
        clear HASK hwon
        obtain ⟨hb7, -, z7, gs7, os7, hT7, hz7, hP7, ho7, hK7⟩ := HR7.out.1
        obtain ⟨r7, zs7, ⟨ba7, bn7, bc7⟩, ⟨la7, ln7, lc7⟩, ⟨va7, vn7, vc7⟩, ⟨pa7, pn7, pc7⟩⟩ := z7
        obtain rfl : r7 = ⟨nd, tm + 1, nd, ⟨bi, bt, bk, bd⟩, lg, cm, 1, 0, 0, [nd], []⟩ := hz7
        obtain ⟨oa7, on7, oc7⟩ := os7
        dsimp only [tc] at hT7
        rw [show ((tm + 1 : Nat) : Int) = (tm : Int) + 1 from rfl] at hT7
        have hml7 : mes zs7 = lg := hP7.2.1.2.1
        have hzl7 : zs7.length ≤ 1000000 := by have := congrArg List.length hml7; rw [List.length_map] at this; have := (may_last HMB.out.1).2.2; omega
        have hzo7 := okz_of hml7 HMB.out.2.2
        have hD7 : DataV w7 ((⟨bi, bt, bk, bd⟩, ba7, bn7, bc7) : Ez) := hP7.1.data
        have hL7 : EntsV w7 (.slice la7 ln7 lc7) zs7 := hP7.2.1.ents
        have htl7 : t < w7.heap.size := HR7.out.1.lt
        have kla := plast_of (⟨bi, bt, bk, bd⟩, ba7, bn7, bc7) zs7 (.slice la7 ln7 lc7) w7 hL7 (by omega)
        have HVV : Hid (∀ W, Below w7.heap.size w7 W → _) := fun W hW => pvot_c (⟨bi, bt, bk, bd⟩, ba7, bn7, bc7) zs7 (.slice la7 ln7 lc7) W (hD7.below hW) (hL7.below hW) ⟨HMB.out.2.1.1, HMB.out.2.1.2.1, HMB.out.2.1.2.2.1⟩ (fun z hz => (hzo7 z hz).1) (by omega) HMB.out.2.1.2.2.2 (fun z hz => (hzo7 z hz).2)
        rw [hml7] at kla HVV
        dsimp only [lgv, lastV] at kla HVV
        have hvl : (votM ⟨bi, bt, bk, bd⟩ lg).length ≤ 7 := may_vlen HMB.out.1
        generalize votM ⟨bi, bt, bk, bd⟩ lg = V at *
        generalize lastM ⟨bi, bt, bk, bd⟩ lg = LT at *
        obtain ⟨X, XT⟩ := LT
        dsimp only at *
        obtain ⟨-, o0, o1, o2, o3, o4, o5, o6, o7, o8, o9, o10, o11, o12, o13, o14⟩ := r15_cells hT7
        clear hP7 ho7 hK7 hD7 hL7 hzo7 hml7
        go_wp2_with fail
        refine kla.mono ?_
        rintro e w8 ⟨rfl, hb8⟩
        have T8 := (hb8.block t htl7).trans hT7
        have kv := HVV.out w8 hb8
        obtain ⟨-, p0, p1, p2, p3, p4, p5, p6, p7, p8, p9, p10, p11, p12, p13, p14⟩ := r15_cells T8
        clear kla HVV o0 o1 o2 o3 o4 o5 o6 o7 o8 o9 o10 o11 o12 o13 o14
        go_wp2_with fail
        refine kv.mono ?_
        rintro e w9 ⟨u9, rfl, hO9, hb9⟩
        obtain ⟨ua, uc, rfl, -, -⟩ := hO9.1.rd.shape
        have hb79 := hb8.trans (hb9.mono hb8.size)
        have HR9 : Hid (TuR w0 K w w9 t [82, 34] ⟨⟨nd, tm + 1, nd, ⟨bi, bt, bk, bd⟩, lg, cm, 1, 0, 0, [nd], []⟩, so⟩) := (HR7.out.mono (T' := [82, 34]) (by simp)).trans (TuR.of_below _ HR7.out.1 hb79)
        have HRV : Hid (Ow intE 3 w8.heap.size w9 (.slice ua V.length uc) V) := hO9
        have HP : Hid (∀ k, ((V.take k).foldl (ask1 X XT) ⟨⟨nd, tm + 1, nd, ⟨bi, bt, bk, bd⟩, lg, cm, 1, 0, 0, [nd], []⟩, so⟩).r = ⟨nd, tm + 1, nd, ⟨bi, bt, bk, bd⟩, lg, cm, 1, 0, 0, [nd], []⟩) := fun k => asks_r _ _ _ _
        have HQ : Hid (∀ k, ((V.take k).foldl (ask1 X XT) ⟨⟨nd, tm + 1, nd, ⟨bi, bt, bk, bd⟩, lg, cm, 1, 0, 0, [nd], []⟩, so⟩).out.length ≤ 1000000000) := fun k => by
          have h1 := asks_len X XT (V.take k) ⟨⟨nd, tm + 1, nd, ⟨bi, bt, bk, bd⟩, lg, cm, 1, 0, 0, [nd], []⟩, so⟩
          rw [List.length_take] at h1
          dsimp only at h1
          omega
        have HE : Hid ((V.take V.length).foldl (ask1 X XT) ⟨⟨nd, tm + 1, nd, ⟨bi, bt, bk, bd⟩, lg, cm, 1, 0, 0, [nd], []⟩, so⟩ = V.foldl (ask1 X XT) ⟨⟨nd, tm + 1, nd, ⟨bi, bt, bk, bd⟩, lg, cm, 1, 0, 0, [nd], []⟩, so⟩) := by show _ = _; rw [List.take_length]
        have HN : Hid (∀ k x, V[k]? = some x → (V.take (k + 1)).foldl (ask1 X XT) ⟨⟨nd, tm + 1, nd, ⟨bi, bt, bk, bd⟩, lg, cm, 1, 0, 0, [nd], []⟩, so⟩ = ask1 X XT ((V.take k).foldl (ask1 X XT) ⟨⟨nd, tm + 1, nd, ⟨bi, bt, bk, bd⟩, lg, cm, 1, 0, 0, [nd], []⟩, so⟩) x) := fun k x hx => fold_take _ hx _
        clear kv hb8 hb9 hb79 hO9 T8 hT7 HR7 p0 p1 p2 p3 p4 p5 p6 p7 p8 p9 p10 p11 p12 p13 p14 hb7
        go_wp2
        go_loopg [5, 61] V.length (fun gh s5 s61 wr => ∃ k : Nat, k + gh = V.length ∧ s61 = .int .i64 (k : Int) ∧ TuR w0 K w wr t [82, 34] ((V.take k).foldl (ask1 X XT) ⟨⟨nd, tm + 1, nd, ⟨bi, bt, bk, bd⟩, lg, cm, 1, 0, 0, [nd], []⟩, so⟩) ∧ Rk intE wr 3 (.slice ua V.length uc) V)
        case atStart => exact ⟨0, by simp, rfl, HR9.out, HRV.out.1⟩
        case round =>
          obtain ⟨k, hkg, rfl, hRr, hRV⟩ := hrel
          have hr := HP.out k
          have hq := HQ.out k
          have HNk : Hid _ := HN.out k
          have HEk : Hid (k = V.length → (V.take k).foldl (ask1 X XT) ⟨⟨nd, tm + 1, nd, ⟨bi, bt, bk, bd⟩, lg, cm, 1, 0, 0, [nd], []⟩, so⟩ = V.foldl (ask1 X XT) ⟨⟨nd, tm + 1, nd, ⟨bi, bt, bk, bd⟩, lg, cm, 1, 0, 0, [nd], []⟩, so⟩) := fun h => by rw [h]; exact HE.out
          generalize (V.take k).foldl (ask1 X XT) ⟨⟨nd, tm + 1, nd, ⟨bi, bt, bk, bd⟩, lg, cm, 1, 0, 0, [nd], []⟩, so⟩ = a at *
          have HRr : Hid (TuR w0 K w wr t [82, 34] a) := hRr
          have HRVr : Hid (Rk intE wr 3 (.slice ua V.length uc) V) := hRV
          by_cases hlt : k < V.length
          · have hlti : (k : Int) < (V.length : Int) := by omega
            have hx : V[k]? = some V[k] := List.getElem?_eq_getElem hlt
            obtain ⟨x, hxx⟩ : ∃ x, x = V[k] := ⟨_, rfl⟩
            rw [← hxx] at hx
            clear hxx
            obtain ⟨vb, vof, rfl, cv⟩ := rdi_at hRV.rd hx
            have c0 := cv wr (Below.refl _ _)
            have hN := HNk.out x hx
            obtain ⟨-, -, zr, gsr, osr, hTr, hzr, -, -, -⟩ := hRr.1
            rw [hr] at hzr
            obtain ⟨rr, zsr, bsr, lsr, vsr, psr⟩ := zr
            dsimp only at hzr
            subst hzr
            dsimp only [tc] at hTr
            obtain ⟨-, o0, -⟩ := r15_cells hTr
            have ks := send_of w0 K wr t a x ⟨⟨1, 0, 0, 0, X, XT, [], 0, false, 0, zeroMe⟩, [], (none, 0, 0), (none, 0, 0)⟩ hRr.1 ⟨Cps.nil _ _, Rk.nil _ _ _⟩ hq
            dsimp only [gv, zeroMe] at ks
            clear cv hx hRr hRV HNk HEk hTr
            by_cases hnd : x = nd
            · have E : Hid (_ = a) := hN.trans (by unfold ask1; rw [hr]; exact if_pos hnd)
              subst hnd
              clear hN ks
              go_wp2
              go_roundg (gk - 1)
              case measure => omega
              case rel => exact ⟨k + 1, by omega, by go_num, by rw [E.out]; exact HRr.out, HRVr.out⟩
            · have E : Hid (_ = sayR a ⟨1, 0, x, 0, X, XT, [], 0, false, 0, zeroMe⟩) := hN.trans (by unfold ask1; rw [hr]; exact if_neg hnd)
              have hndb : (x != nd) = true := by simpa using hnd
              clear hN
              go_wp2_with fail
              refine ks.mono ?_
              rintro e w5 ⟨rfl, hR5⟩
              have hRf : TuR w0 K w w5 t [82, 34] _ := HRr.out.trans hR5
              have hRVf := HRVr.out.frm hR5.2.1 (by decide)
              clear ks hR5
              go_wp2
              go_roundg (gk - 1)
              case measure => omega
              case rel => exact ⟨k + 1, by omega, by go_num, by rw [E.out]; exact hRf, hRVf⟩
          · have hlti : ¬ (k : Int) < (V.length : Int) := by omega
            rw [HEk.out (by omega)] at hRr
            clear HNk HEk hRV HRVr HRr
            go_wp2
            go_end0
            exact ⟨rfl, by rw [HSE.out]; exact hRr⟩
    · intro K' hK'
      obtain ⟨⟨f0, f1, f2, f3, f4, f5, f6, f7, f8, f9, f10, f11, f12, f13, f14⟩, e0, e1, e2, e3, e4, e5, e6, e7, e8, e9, e10, e11, e12, e13, e14⟩ := r15_cells D10
      go_simp
      have D20 : (ws10.setCell ⟨t, 9, none⟩ (.int .i64 1)).heap[t]? = some (.cells #[.int .i64 nd, .int .u64 ((tm : Int) + 1), .int .i64 nd, .int .u64 (bi : Int), .int .u64 (bt : Int), .int .i64 bk, .slice ba' bn' bc', .slice la' ln' lc', .int .u64 (cm : Int), .int .i64 1, .int .i64 0, .int .i64 el, .slice va' vn' vc', .slice pa' pn' pc', .slice oa' on' oc'] 82) := by simp [World.setCell, Array.getElem?_modify, D10]
      have U20 : ∀ b, b ≠ t → b < wd.heap.size → (ws10.setCell ⟨t, 9, none⟩ (.int .i64 1)).heap[b]? = wd.heap[b]? := fun b h1 h2 => (set_far (Ne.symm h1) _).trans (U10 b h1 h2)
      have B20 : Below w0.heap.size w0 (ws10.setCell ⟨t, 9, none⟩ (.int .i64 1)) := B10.setCell (p := ⟨t, 9, none⟩) ht0 _
      have Z20 : Hid ((ws10.setCell ⟨t, 9, none⟩ (.int .i64 1)).heap.size = wd.heap.size) := by show _ = _; simp [World.setCell]; exact Z10.out
      have y20 : (fun W => W.cell? ⟨t, 0, none⟩ = some (.int .i64 nd)) (ws10.setCell ⟨t, 9, none⟩ (.int .i64 1)) := by obtain ⟨-, e0, -⟩ := r15_cells D20; exact e0
      clear f0 e0 f1 e1 f2 e2 f3 e3 f4 e4 f5 e5 f6 e6 f7 e7 f8 e8 f9 e9 f10 e10 f11 e11 f12 e12 f13 e13 f14 e14
      refine hK'.out _ _ (.inr y20) ?_
      clear hK' K'
      try simp only [List.getElem_toArray, List.getElem_cons_succ, List.getElem_cons_zero, Act.put, List.setIfInBounds_toArray, List.set_cons_zero, List.set_cons_succ]
      generalize ws10.setCell ⟨t, 9, none⟩ (.int .i64 1) = ws20 at *
      refine wpAnyL_take 23 rfl (by kernel_rfl) (by kernel_rfl) (by kernel_rfl) (by kernel_rfl) (fun _ _ _ h => h) (wanted_none rfl) (by intro w' hS'; have c0 := hS'; go_simp <;> rfl) y20 ?_
      try simp only [List.getElem_toArray, List.getElem_cons_succ, List.getElem_cons_zero, Act.put, List.setIfInBounds_toArray, List.set_cons_zero, List.set_cons_succ]
      refine wpAnyL_take 24 rfl (by kernel_rfl) (by kernel_rfl) (by kernel_rfl) (by kernel_rfl) (fun _ _ _ h => h) (wanted_none rfl) (by intro w' hS'; have c0 := hS'; go_simp <;> rfl) y20 ?_
      try simp only [List.getElem_toArray, List.getElem_cons_succ, List.getElem_cons_zero, Act.put, List.setIfInBounds_toArray, List.set_cons_zero, List.set_cons_succ]
      refine wpAnyL_take 25 rfl (by kernel_rfl) (by kernel_rfl) (by kernel_rfl) (by kernel_rfl) (fun _ _ _ h => h) (wanted_none rfl) (by intro w' hS'; have c0 := hS'; go_simp <;> rfl) y20 ?_
      try simp only [List.getElem_toArray, List.getElem_cons_succ, List.getElem_cons_zero, Act.put, List.setIfInBounds_toArray, List.set_cons_zero, List.set_cons_succ]
      refine wpAnyL_two 14 26 (by kernel_rfl) rfl rfl (by kernel_rfl) (by kernel_rfl) ?_ ?_
      · intro K' hK'
        go_simp
        have q1 := heap_alloc_new ws20 (.cells #[.int .i64 nd] 3)
        have q2 : (ws20.alloc (.cells #[.int .i64 nd] 3)).heap[t]? = _ := (heap_alloc_old _ _ (Array.getElem?_eq_some_iff.1 D20).1).trans D20
        have q3 : ∀ b, b ≠ t → b < wd.heap.size → (ws20.alloc (.cells #[.int .i64 nd] 3)).heap[b]? = wd.heap[b]? := fun b h1 h2 => (heap_alloc_old _ _ (by rw [Z20.out]; exact h2)).trans (U20 b h1 h2)
        have q4 : Below w0.heap.size w0 (ws20.alloc (.cells #[.int .i64 nd] 3)) := Below.alloc B20 B20.size _
        have Z21 : Hid ((ws20.alloc (.cells #[.int .i64 nd] 3)).heap.size = wd.heap.size + 1) := by show _ = _; simp [Z20.out]
        rw [Z20.out] at q1
        have y21 : (fun W => W.cell? ⟨t, 0, none⟩ = some (.int .i64 nd)) (ws20.alloc (.cells #[.int .i64 nd] 3)) := by obtain ⟨-, e0, -⟩ := r15_cells q2; exact e0
        have hszE := Z20.out
        rw [hszE]
        refine hK'.out _ _ (.inr y21) ?_
        clear hK' K'
        try simp only [List.getElem_toArray, List.getElem_cons_succ, List.getElem_cons_zero, Act.put, List.setIfInBounds_toArray, List.set_cons_zero, List.set_cons_succ]
        generalize ws20.alloc (.cells #[.int .i64 nd] 3) = wa2 at *
        have D21 := q2
        have U21 := q3
        have B21 := q4
        have G2 := q1
        clear q1 q2 q3 q4
        refine wpAnyL_one 26 (by kernel_rfl) rfl (wanted_none rfl) ?_
        intro K' hK'
        obtain ⟨⟨f0, f1, f2, f3, f4, f5, f6, f7, f8, f9, f10, f11, f12, f13, f14⟩, e0, e1, e2, e3, e4, e5, e6, e7, e8, e9, e10, e11, e12, e13, e14⟩ := r15_cells D21
        go_simp
        have D31 : (wa2.setCell ⟨t, 11, none⟩ (.int .i64 0)).heap[t]? = some (.cells #[.int .i64 nd, .int .u64 ((tm : Int) + 1), .int .i64 nd, .int .u64 (bi : Int), .int .u64 (bt : Int), .int .i64 bk, .slice ba' bn' bc', .slice la' ln' lc', .int .u64 (cm : Int), .int .i64 1, .int .i64 0, .int .i64 0, .slice va' vn' vc', .slice pa' pn' pc', .slice oa' on' oc'] 82) := by simp [World.setCell, Array.getElem?_modify, D21]
        have U31 : ∀ b, b ≠ t → b < wd.heap.size → (wa2.setCell ⟨t, 11, none⟩ (.int .i64 0)).heap[b]? = wd.heap[b]? := fun b h1 h2 => (set_far (Ne.symm h1) _).trans (U21 b h1 h2)
        have B31 : Below w0.heap.size w0 (wa2.setCell ⟨t, 11, none⟩ (.int .i64 0)) := B21.setCell (p := ⟨t, 11, none⟩) ht0 _
        have Z31 : Hid ((wa2.setCell ⟨t, 11, none⟩ (.int .i64 0)).heap.size = wd.heap.size + 1) := by show _ = _; simp [World.setCell]; exact Z21.out
        have G3 : (wa2.setCell ⟨t, 11, none⟩ (.int .i64 0)).heap[wd.heap.size]? = _ := (set_far (by omega) _).trans G2
        have y31 : (fun W => W.cell? ⟨t, 0, none⟩ = some (.int .i64 nd)) (wa2.setCell ⟨t, 11, none⟩ (.int .i64 0)) := by obtain ⟨-, e0, -⟩ := r15_cells D31; exact e0
        clear f0 e0 f1 e1 f2 e2 f3 e3 f4 e4 f5 e5 f6 e6 f7 e7 f8 e8 f9 e9 f10 e10 f11 e11 f12 e12 f13 e13 f14 e14
        refine hK'.out _ _ (.inr y31) ?_
        clear hK' K'
        try simp only [List.getElem_toArray, List.getElem_cons_succ, List.getElem_cons_zero, Act.put, List.setIfInBounds_toArray, List.set_cons_zero, List.set_cons_succ]
        generalize wa2.setCell ⟨t, 11, none⟩ (.int .i64 0) = ws31 at *
        refine wpAnyL_take 27 rfl (by kernel_rfl) (by kernel_rfl) (by kernel_rfl) (by kernel_rfl) (fun _ _ _ h => h) (wanted_none rfl) (by intro w' hS'; have c0 := hS'; go_simp <;> rfl) y31 ?_
        try simp only [List.getElem_toArray, List.getElem_cons_succ, List.getElem_cons_zero, Act.put, List.setIfInBounds_toArray, List.set_cons_zero, List.set_cons_succ]
        refine wpAnyL_take 28 rfl (by kernel_rfl) (by kernel_rfl) (by kernel_rfl) (by kernel_rfl) (fun _ _ _ h => h) (wanted_none rfl) (by intro w' hS'; have c0 := hS'; go_simp <;> rfl) y31 ?_
        try simp only [List.getElem_toArray, List.getElem_cons_succ, List.getElem_cons_zero, Act.put, List.setIfInBounds_toArray, List.set_cons_zero, List.set_cons_succ]
        refine wpAnyL_take 29 rfl (by kernel_rfl) (by kernel_rfl) (by kernel_rfl) (by kernel_rfl) (fun _ _ _ h => h) (wanted_none rfl) (by intro w' hS'; have c0 := hS'; go_simp <;> rfl) y31 ?_
        try simp only [List.getElem_toArray, List.getElem_cons_succ, List.getElem_cons_zero, Act.put, List.setIfInBounds_toArray, List.set_cons_zero, List.set_cons_succ]
        refine wpAnyL_one 30 (by kernel_rfl) rfl (wanted_none rfl) ?_
        intro K' hK'
        obtain ⟨⟨f0, f1, f2, f3, f4, f5, f6, f7, f8, f9, f10, f11, f12, f13, f14⟩, e0, e1, e2, e3, e4, e5, e6, e7, e8, e9, e10, e11, e12, e13, e14⟩ := r15_cells D31
        go_simp
        have D41 : (ws31.setCell ⟨t, 12, none⟩ (.slice (some ⟨wd.heap.size, 0, none⟩) 1 1)).heap[t]? = some (.cells #[.int .i64 nd, .int .u64 ((tm : Int) + 1), .int .i64 nd, .int .u64 (bi : Int), .int .u64 (bt : Int), .int .i64 bk, .slice ba' bn' bc', .slice la' ln' lc', .int .u64 (cm : Int), .int .i64 1, .int .i64 0, .int .i64 0, .slice (some ⟨wd.heap.size, 0, none⟩) 1 1, .slice pa' pn' pc', .slice oa' on' oc'] 82) := by simp [World.setCell, Array.getElem?_modify, D31]
        have U41 : ∀ b, b ≠ t → b < wd.heap.size → (ws31.setCell ⟨t, 12, none⟩ (.slice (some ⟨wd.heap.size, 0, none⟩) 1 1)).heap[b]? = wd.heap[b]? := fun b h1 h2 => (set_far (Ne.symm h1) _).trans (U31 b h1 h2)
        have B41 : Below w0.heap.size w0 (ws31.setCell ⟨t, 12, none⟩ (.slice (some ⟨wd.heap.size, 0, none⟩) 1 1)) := B31.setCell (p := ⟨t, 12, none⟩) ht0 _
        have Z41 : Hid ((ws31.setCell ⟨t, 12, none⟩ (.slice (some ⟨wd.heap.size, 0, none⟩) 1 1)).heap.size = wd.heap.size + 1) := by show _ = _; simp [World.setCell]; exact Z31.out
        have G4 : (ws31.setCell ⟨t, 12, none⟩ (.slice (some ⟨wd.heap.size, 0, none⟩) 1 1)).heap[wd.heap.size]? = _ := (set_far (by omega) _).trans G3
        have y41 : (fun W => W.cell? ⟨t, 0, none⟩ = some (.int .i64 nd)) (ws31.setCell ⟨t, 12, none⟩ (.slice (some ⟨wd.heap.size, 0, none⟩) 1 1)) := by obtain ⟨-, e0, -⟩ := r15_cells D41; exact e0
        clear f0 e0 f1 e1 f2 e2 f3 e3 f4 e4 f5 e5 f6 e6 f7 e7 f8 e8 f9 e9 f10 e10 f11 e11 f12 e12 f13 e13 f14 e14
        refine hK'.out _ _ (.inr y41) ?_
        clear hK' K'
        try simp only [List.getElem_toArray, List.getElem_cons_succ, List.getElem_cons_zero, Act.put, List.setIfInBounds_toArray, List.set_cons_zero, List.set_cons_succ]
        generalize ws31.setCell ⟨t, 12, none⟩ (.slice (some ⟨wd.heap.size, 0, none⟩) 1 1) = ws41 at *
        refine wpAnyL_done (by kernel_rfl) (NoPanic.normal ?_) _
        have hR6 : TuR w0 K w ws41 t [82] ⟨⟨nd, tm + 1, nd, ⟨bi, bt, bk, bd⟩, lg, cm, 1, 0, 0, [nd], []⟩, so⟩ := HTA.out ws41 B41 U41 D41 G4 (by have := Z41.out; omega)
        clear D41 U41 B41 G4 Z41 y41 HTA
        generalize ws41 = w6 at *
        have HR6 : Hid (TuR w0 K w w6 t [82] ⟨⟨nd, tm + 1, nd, ⟨bi, bt, bk, bd⟩, lg, cm, 1, 0, 0, [nd], []⟩, so⟩) := hR6
        have kw := pwon_of w0 K w6 t _ hR6.1 HMB.out.1 HMB.out.2.1 HMB.out.2.2 (by simp)
        dsimp only [votR] at kw
        clear hR6
        go_wp2_with fail
        refine kw.mono ?_
        rintro e w7 ⟨rfl, hb7⟩
        have HR7 : Hid (TuR w0 K w w7 t [82] ⟨⟨nd, tm + 1, nd, ⟨bi, bt, bk, bd⟩, lg, cm, 1, 0, 0, [nd], []⟩, so⟩) := HR6.out.trans (TuR.of_below _ HR6.out.1 hb7)
        clear kw HR6 hb7
        cases hwon : wonR (votM ⟨bi, bt, bk, bd⟩ lg) [nd] with
        | true =>
          have HSE : Hid (_ = _) := HASK.out.trans (if_pos hwon)
          have kl := plead_of w0 K w7 t _ HR7.out.1 HMB.out.1 HMB.out.2.1 HMB.out.2.2 (by dsimp only; omega) (by dsimp only; omega) rfl
          rw [← HSE.out] at kl
          clear HASK HSE hwon
          go_wp2_with fail
          refine kl.mono ?_
          rintro e w9 ⟨rfl, hR9⟩
          have HR9 : Hid _ := (HR7.out.mono (T' := [82, 34]) (by simp)).trans hR9
          clear kl hR9 HR7
          go_wp2
          (try simp only [Exit.inBlock, Exit.then])
          refine bodyPost_ret (results_none rfl _ _ _) rfl ?_
          exact ⟨rfl, HR9.out⟩
        | false =>
          have HSE : Hid (_ = _) := HASK.out.trans (if_neg (by rw [hwon]; simp))
          clear HASK hwon
          obtain ⟨hb7, -, z7, gs7, os7, hT7, hz7, hP7, ho7, hK7⟩ := HR7.out.1
          obtain ⟨r7, zs7, ⟨ba7, bn7, bc7⟩, ⟨la7, ln7, lc7⟩, ⟨va7, vn7, vc7⟩, ⟨pa7, pn7, pc7⟩⟩ := z7
          obtain rfl : r7 = ⟨nd, tm + 1, nd, ⟨bi, bt, bk, bd⟩, lg, cm, 1, 0, 0, [nd], []⟩ := hz7
          obtain ⟨oa7, on7, oc7⟩ := os7
          dsimp only [tc] at hT7
          rw [show ((tm + 1 : Nat) : Int) = (tm : Int) + 1 from rfl] at hT7
          have hml7 : mes zs7 = lg := hP7.2.1.2.1
          have hzl7 : zs7.length ≤ 1000000 := by have := congrArg List.length hml7; rw [List.length_map] at this; have := (may_last HMB.out.1).2.2; omega
          have hzo7 := okz_of hml7 HMB.out.2.2
          have hD7 : DataV w7 ((⟨bi, bt, bk, bd⟩, ba7, bn7, bc7) : Ez) := hP7.1.data
          have hL7 : EntsV w7 (.slice la7 ln7 lc7) zs7 := hP7.2.1.ents
          have htl7 : t < w7.heap.size := HR7.out.1.lt
          have kla := plast_of (⟨bi, bt, bk, bd⟩, ba7, bn7, bc7) zs7 (.slice la7 ln7 lc7) w7 hL7 (by omega)
          have HVV : Hid (∀ W, Below w7.heap.size w7 W → _) := fun W hW => pvot_c (⟨bi, bt, bk, bd⟩, ba7, bn7, bc7) zs7 (.slice la7 ln7 lc7) W (hD7.below hW) (hL7.below hW) ⟨HMB.out.2.1.1, HMB.out.2.1.2.1, HMB.out.2.1.2.2.1⟩ (fun z hz => (hzo7 z hz).1) (by omega) HMB.out.2.1.2.2.2 (fun z hz => (hzo7 z hz).2)
          rw [hml7] at kla HVV
          dsimp only [lgv, lastV] at kla HVV
          have hvl : (votM ⟨bi, bt, bk, bd⟩ lg).length ≤ 7 := may_vlen HMB.out.1
          generalize votM ⟨bi, bt, bk, bd⟩ lg = V at *
          generalize lastM ⟨bi, bt, bk, bd⟩ lg = LT at *
          obtain ⟨X, XT⟩ := LT
          dsimp only at *
          obtain ⟨-, o0, o1, o2, o3, o4, o5, o6, o7, o8, o9, o10, o11, o12, o13, o14⟩ := r15_cells hT7
          clear hP7 ho7 hK7 hD7 hL7 hzo7 hml7
          go_wp2_with fail
          refine kla.mono ?_
          rintro e w8 ⟨rfl, hb8⟩
          have T8 := (hb8.block t htl7).trans hT7
          have kv := HVV.out w8 hb8
          obtain ⟨-, p0, p1, p2, p3, p4, p5, p6, p7, p8, p9, p10, p11, p12, p13, p14⟩ := r15_cells T8
          clear kla HVV o0 o1 o2 o3 o4 o5 o6 o7 o8 o9 o10 o11 o12 o13 o14
          go_wp2_with fail
          refine kv.mono ?_
          rintro e w9 ⟨u9, rfl, hO9, hb9⟩
          obtain ⟨ua, uc, rfl, -, -⟩ := hO9.1.rd.shape
          have hb79 := hb8.trans (hb9.mono hb8.size)
          have HR9 : Hid (TuR w0 K w w9 t [82, 34] ⟨⟨nd, tm + 1, nd, ⟨bi, bt, bk, bd⟩, lg, cm, 1, 0, 0, [nd], []⟩, so⟩) := (HR7.out.mono (T' := [82, 34]) (by simp)).trans (TuR.of_below _ HR7.out.1 hb79)
          have HRV : Hid (Ow intE 3 w8.heap.size w9 (.slice ua V.length uc) V) := hO9
          have HP : Hid (∀ k, ((V.take k).foldl (ask1 X XT) ⟨⟨nd, tm + 1, nd, ⟨bi, bt, bk, bd⟩, lg, cm, 1, 0, 0, [nd], []⟩, so⟩).r = ⟨nd, tm + 1, nd, ⟨bi, bt, bk, bd⟩, lg, cm, 1, 0, 0, [nd], []⟩) := fun k => asks_r _ _ _ _
          have HQ : Hid (∀ k, ((V.take k).foldl (ask1 X XT) ⟨⟨nd, tm + 1, nd, ⟨bi, bt, bk, bd⟩, lg, cm, 1, 0, 0, [nd], []⟩, so⟩).out.length ≤ 1000000000) := fun k => by
            have h1 := asks_len X XT (V.take k) ⟨⟨nd, tm + 1, nd, ⟨bi, bt, bk, bd⟩, lg, cm, 1, 0, 0, [nd], []⟩, so⟩
            rw [List.length_take] at h1
            dsimp only at h1
            omega
          have HE : Hid ((V.take V.length).foldl (ask1 X XT) ⟨⟨nd, tm + 1, nd, ⟨bi, bt, bk, bd⟩, lg, cm, 1, 0, 0, [nd], []⟩, so⟩ = V.foldl (ask1 X XT) ⟨⟨nd, tm + 1, nd, ⟨bi, bt, bk, bd⟩, lg, cm, 1, 0, 0, [nd], []⟩, so⟩) := by show _ = _; rw [List.take_length]
          have HN : Hid (∀ k x, V[k]? = some x → (V.take (k + 1)).foldl (ask1 X XT) ⟨⟨nd, tm + 1, nd, ⟨bi, bt, bk, bd⟩, lg, cm, 1, 0, 0, [nd], []⟩, so⟩ = ask1 X XT ((V.take k).foldl (ask1 X XT) ⟨⟨nd, tm + 1, nd, ⟨bi, bt, bk, bd⟩, lg, cm, 1, 0, 0, [nd], []⟩, so⟩) x) := fun k x hx => fold_take _ hx _
          clear kv hb8 hb9 hb79 hO9 T8 hT7 HR7 p0 p1 p2 p3 p4 p5 p6 p7 p8 p9 p10 p11 p12 p13 p14 hb7
          go_wp2
          go_loopg [5, 61] V.length (fun gh s5 s61 wr => ∃ k : Nat, k + gh = V.length ∧ s61 = .int .i64 (k : Int) ∧ TuR w0 K w wr t [82, 34] ((V.take k).foldl (ask1 X XT) ⟨⟨nd, tm + 1, nd, ⟨bi, bt, bk, bd⟩, lg, cm, 1, 0, 0, [nd], []⟩, so⟩) ∧ Rk intE wr 3 (.slice ua V.length uc) V)
          case atStart => exact ⟨0, by simp, rfl, HR9.out, HRV.out.1⟩
          case round =>
            obtain ⟨k, hkg, rfl, hRr, hRV⟩ := hrel
            have hr := HP.out k
            have hq := HQ.out k
            have HNk : Hid _ := HN.out k
            have HEk : Hid (k = V.length → (V.take k).foldl (ask1 X XT) ⟨⟨nd, tm + 1, nd, ⟨bi, bt, bk, bd⟩, lg, cm, 1, 0, 0, [nd], []⟩, so⟩ = V.foldl (ask1 X XT) ⟨⟨nd, tm + 1, nd, ⟨bi, bt, bk, bd⟩, lg, cm, 1, 0, 0, [nd], []⟩, so⟩) := fun h => by rw [h]; exact HE.out
            generalize (V.take k).foldl (ask1 X XT) ⟨⟨nd, tm + 1, nd, ⟨bi, bt, bk, bd⟩, lg, cm, 1, 0, 0, [nd], []⟩, so⟩ = a at *
            have HRr : Hid (TuR w0 K w wr t [82, 34] a) := hRr
            have HRVr : Hid (Rk intE wr 3 (.slice ua V.length uc) V) := hRV
            by_cases hlt : k < V.length
            · have hlti : (k : Int) < (V.length : Int) := by omega
              have hx : V[k]? = some V[k] := List.getElem?_eq_getElem hlt
              obtain ⟨x, hxx⟩ : ∃ x, x = V[k] := ⟨_, rfl⟩
              rw [← hxx] at hx
              clear hxx
              obtain ⟨vb, vof, rfl, cv⟩ := rdi_at hRV.rd hx
              have c0 := cv wr (Below.refl _ _)
              have hN := HNk.out x hx
              obtain ⟨-, -, zr, gsr, osr, hTr, hzr, -, -, -⟩ := hRr.1
              rw [hr] at hzr
              obtain ⟨rr, zsr, bsr, lsr, vsr, psr⟩ := zr
              dsimp only at hzr
              subst hzr
              dsimp only [tc] at hTr
              obtain ⟨-, o0, -⟩ := r15_cells hTr
              have ks := send_of w0 K wr t a x ⟨⟨1, 0, 0, 0, X, XT, [], 0, false, 0, zeroMe⟩, [], (none, 0, 0), (none, 0, 0)⟩ hRr.1 ⟨Cps.nil _ _, Rk.nil _ _ _⟩ hq
              dsimp only [gv, zeroMe] at ks
              clear cv hx hRr hRV HNk HEk hTr
              by_cases hnd : x = nd
              · have E : Hid (_ = a) := hN.trans (by unfold ask1; rw [hr]; exact if_pos hnd)
                subst hnd
                clear hN ks
                go_wp2
                go_roundg (gk - 1)
                case measure => omega
                case rel => exact ⟨k + 1, by omega, by go_num, by rw [E.out]; exact HRr.out, HRVr.out⟩
              · have E : Hid (_ = sayR a ⟨1, 0, x, 0, X, XT, [], 0, false, 0, zeroMe⟩) := hN.trans (by unfold ask1; rw [hr]; exact if_neg hnd)
                have hndb : (x != nd) = true := by simpa using hnd
                clear hN
                go_wp2_with fail
                refine ks.mono ?_
                rintro e w5 ⟨rfl, hR5⟩
                have hRf : TuR w0 K w w5 t [82, 34] _ := HRr.out.trans hR5
                have hRVf := HRVr.out.frm hR5.2.1 (by decide)
                clear ks hR5
                go_wp2
                go_roundg (gk - 1)
                case measure => omega
                case rel => exact ⟨k + 1, by omega, by go_num, by rw [E.out]; exact hRf, hRVf⟩
            · have hlti : ¬ (k : Int) < (V.length : Int) := by omega
              rw [HEk.out (by omega)] at hRr
              clear HNk HEk hRV HRVr HRr
              go_wp2
              go_end0
              exact ⟨rfl, by rw [HSE.out]; exact hRr⟩
      · intro K' hK'
        obtain ⟨⟨f0, f1, f2, f3, f4, f5, f6, f7, f8, f9, f10, f11, f12, f13, f14⟩, e0, e1, e2, e3, e4, e5, e6, e7, e8, e9, e10, e11, e12, e13, e14⟩ := r15_cells D20
        go_simp
        have D30 : (ws20.setCell ⟨t, 11, none⟩ (.int .i64 0)).heap[t]? = some (.cells #[.int .i64 nd, .int .u64 ((tm : Int) + 1), .int .i64 nd, .int .u64 (bi : Int), .int .u64 (bt : Int), .int .i64 bk, .slice ba' bn' bc', .slice la' ln' lc', .int .u64 (cm : Int), .int .i64 1, .int .i64 0, .int .i64 0, .slice va' vn' vc', .slice pa' pn' pc', .slice oa' on' oc'] 82) := by simp [World.setCell, Array.getElem?_modify, D20]
        have U30 : ∀ b, b ≠ t → b < wd.heap.size → (ws20.setCell ⟨t, 11, none⟩ (.int .i64 0)).heap[b]? = wd.heap[b]? := fun b h1 h2 => (set_far (Ne.symm h1) _).trans (U20 b h1 h2)
        have B30 : Below w0.heap.size w0 (ws20.setCell ⟨t, 11, none⟩ (.int .i64 0)) := B20.setCell (p := ⟨t, 11, none⟩) ht0 _
        have Z30 : Hid ((ws20.setCell ⟨t, 11, none⟩ (.int .i64 0)).heap.size = wd.heap.size) := by show _ = _; simp [World.setCell]; exact Z20.out
        have y30 : (fun W => W.cell? ⟨t, 0, none⟩ = some (.int .i64 nd)) (ws20.setCell ⟨t, 11, none⟩ (.int .i64 0)) := by obtain ⟨-, e0, -⟩ := r15_cells D30; exact e0
        clear f0 e0 f1 e1 f2 e2 f3 e3 f4 e4 f5 e5 f6 e6 f7 e7 f8 e8 f9 e9 f10 e10 f11 e11 f12 e12 f13 e13 f14 e14
        refine hK'.out _ _ (.inr y30) ?_
        clear hK' K'
        try simp only [List.getElem_toArray, List.getElem_cons_succ, List.getElem_cons_zero, Act.put, List.setIfInBounds_toArray, List.set_cons_zero, List.set_cons_succ]
        generalize ws20.setCell ⟨t, 11, none⟩ (.int .i64 0) = ws30 at *
        refine wpAnyL_one 14 (by kernel_rfl) rfl (wanted_none rfl) ?_
        intro K' hK'
        go_simp
        have q1 := heap_alloc_new ws30 (.cells #[.int .i64 nd] 3)
        have q2 : (ws30.alloc (.cells #[.int .i64 nd] 3)).heap[t]? = _ := (heap_alloc_old _ _ (Array.getElem?_eq_some_iff.1 D30).1).trans D30
        have q3 : ∀ b, b ≠ t → b < wd.heap.size → (ws30.alloc (.cells #[.int .i64 nd] 3)).heap[b]? = wd.heap[b]? := fun b h1 h2 => (heap_alloc_old _ _ (by rw [Z30.out]; exact h2)).trans (U30 b h1 h2)
        have q4 : Below w0.heap.size w0 (ws30.alloc (.cells #[.int .i64 nd] 3)) := Below.alloc B30 B30.size _
        have Z31 : Hid ((ws30.alloc (.cells #[.int .i64 nd] 3)).heap.size = wd.heap.size + 1) := by show _ = _; simp [Z30.out]
        rw [Z30.out] at q1
        have y31 : (fun W => W.cell? ⟨t, 0, none⟩ = some (.int .i64 nd)) (ws30.alloc (.cells #[.int .i64 nd] 3)) := by obtain ⟨-, e0, -⟩ := r15_cells q2; exact e0
        have hszE := Z30.out
        rw [hszE]
        refine hK'.out _ _ (.inr y31) ?_
        clear hK' K'
        try simp only [List.getElem_toArray, List.getElem_cons_succ, List.getElem_cons_zero, Act.put, List.setIfInBounds_toArray, List.set_cons_zero, List.set_cons_succ]
        generalize ws30.alloc (.cells #[.int .i64 nd] 3) = wa3 at *
        have D31 := q2
        have U31 := q3
        have B31 := q4
        have G3 := q1
        clear q1 q2 q3 q4
        refine wpAnyL_take 27 rfl (by kernel_rfl) (by kernel_rfl) (by kernel_rfl) (by kernel_rfl) (fun _ _ _ h => h) (wanted_none rfl) (by intro w' hS'; have c0 := hS'; go_simp <;> rfl) y31 ?_
        try simp only [List.getElem_toArray, List.getElem_cons_succ, List.getElem_cons_zero, Act.put, List.setIfInBounds_toArray, List.set_cons_zero, List.set_cons_succ]
        refine wpAnyL_take 28 rfl (by kernel_rfl) (by kernel_rfl) (by kernel_rfl) (by kernel_rfl) (fun _ _ _ h => h) (wanted_none rfl) (by intro w' hS'; have c0 := hS'; go_simp <;> rfl) y31 ?_
        try simp only [List.getElem_toArray, List.getElem_cons_succ, List.getElem_cons_zero, Act.put, List.setIfInBounds_toArray, List.set_cons_zero, List.set_cons_succ]
        refine wpAnyL_take 29 rfl (by kernel_rfl) (by kernel_rfl) (by kernel_rfl) (by kernel_rfl) (fun _ _ _ h => h) (wanted_none rfl) (by intro w' hS'; have c0 := hS'; go_simp <;> rfl) y31 ?_
        try simp only [List.getElem_toArray, List.getElem_cons_succ, List.getElem_cons_zero, Act.put, List.setIfInBounds_toArray, List.set_cons_zero, List.set_cons_succ]
        refine wpAnyL_one 30 (by kernel_rfl) rfl (wanted_none rfl) ?_
        intro K' hK'
        obtain ⟨⟨f0, f1, f2, f3, f4, f5, f6, f7, f8, f9, f10, f11, f12, f13, f14⟩, e0, e1, e2, e3, e4, e5, e6, e7, e8, e9, e10, e11, e12, e13, e14⟩ := r15_cells D31
        go_simp
        have D41 : (wa3.setCell ⟨t, 12, none⟩ (.slice (some ⟨wd.heap.size, 0, none⟩) 1 1)).heap[t]? = some (.cells #[.int .i64 nd, .int .u64 ((tm : Int) + 1), .int .i64 nd, .int .u64 (bi : Int), .int .u64 (bt : Int), .int .i64 bk, .slice ba' bn' bc', .slice la' ln' lc', .int .u64 (cm : Int), .int .i64 1, .int .i64 0, .int .i64 0, .slice (some ⟨wd.heap.size, 0, none⟩) 1 1, .slice pa' pn' pc', .slice oa' on' oc'] 82) := by simp [World.setCell, Array.getElem?_modify, D31]
        have U41 : ∀ b, b ≠ t → b < wd.heap.size → (wa3.setCell ⟨t, 12, none⟩ (.slice (some ⟨wd.heap.size, 0, none⟩) 1 1)).heap[b]? = wd.heap[b]? := fun b h1 h2 => (set_far (Ne.symm h1) _).trans (U31 b h1 h2)
        have B41 : Below w0.heap.size w0 (wa3.setCell ⟨t, 12, none⟩ (.slice (some ⟨wd.heap.size, 0, none⟩) 1 1)) := B31.setCell (p := ⟨t, 12, none⟩) ht0 _
        have Z41 : Hid ((wa3.setCell ⟨t, 12, none⟩ (.slice (some ⟨wd.heap.size, 0, none⟩) 1 1)).heap.size = wd.heap.size + 1) := by show _ = _; simp [World.setCell]; exact Z31.out
        have G4 : (wa3.setCell ⟨t, 12, none⟩ (.slice (some ⟨wd.heap.size, 0, none⟩) 1 1)).heap[wd.heap.size]? = _ := (set_far (by omega) _).trans G3
        have y41 : (fun W => W.cell? ⟨t, 0, none⟩ = some (.int .i64 nd)) (wa3.setCell ⟨t, 12, none⟩ (.slice (some ⟨wd.heap.size, 0, none⟩) 1 1)) := by obtain ⟨-, e0, -⟩ := r15_cells D41; exact e0
        clear f0 e0 f1 e1 f2 e2 f3 e3 f4 e4 f5 e5 f6 e6 f7 e7 f8 e8 f9 e9 f10 e10 f11 e11 f12 e12 f13 e13 f14 e14
        refine hK'.out _ _ (.inr y41) ?_
        clear hK' K'
        try simp only [List.getElem_toArray, List.getElem_cons_succ, List.getElem_cons_zero, Act.put, List.setIfInBounds_toArray, List.set_cons_zero, List.set_cons_succ]
        generalize wa3.setCell ⟨t, 12, none⟩ (.slice (some ⟨wd.heap.size, 0, none⟩) 1 1) = ws41 at *
        refine wpAnyL_done (by kernel_rfl) (NoPanic.normal ?_) _
        have hR6 : TuR w0 K w ws41 t [82] ⟨⟨nd, tm + 1, nd, ⟨bi, bt, bk, bd⟩, lg, cm, 1, 0, 0, [nd], []⟩, so⟩ := HTA.out ws41 B41 U41 D41 G4 (by have := Z41.out; omega)
        clear D41 U41 B41 G4 Z41 y41 HTA
        generalize ws41 = w6 at *
        have HR6 : Hid (TuR w0 K w w6 t [82] ⟨⟨nd, tm + 1, nd, ⟨bi, bt, bk, bd⟩, lg, cm, 1, 0, 0, [nd], []⟩, so⟩) := hR6
        have kw := pwon_of w0 K w6 t _ hR6.1 HMB.out.1 HMB.out.2.1 HMB.out.2.2 (by simp)
        dsimp only [votR] at kw
        clear hR6
        go_wp2_with fail
        refine kw.mono ?_
        rintro e w7 ⟨rfl, hb7⟩
        have HR7 : Hid (TuR w0 K w w7 t [82] ⟨⟨nd, tm + 1, nd, ⟨bi, bt, bk, bd⟩, lg, cm, 1, 0, 0, [nd], []⟩, so⟩) := HR6.out.trans (TuR.of_below _ HR6.out.1 hb7)
        clear kw HR6 hb7
        cases hwon : wonR (votM ⟨bi, bt, bk, bd⟩ lg) [nd] with
        | true =>
          have HSE : Hid (_ = _) := HASK.out.trans (if_pos hwon)
          have kl := plead_of w0 K w7 t _ HR7.out.1 HMB.out.1 HMB.out.2.1 HMB.out.2.2 (by dsimp only; omega) (by dsimp only; omega) rfl
          rw [← HSE.out] at kl
          clear HASK HSE hwon
          go_wp2_with fail
          refine kl.mono ?_
          rintro e w9 ⟨rfl, hR9⟩
          have HR9 : Hid _ := (HR7.out.mono (T' := [82, 34]) (by simp)).trans hR9
          clear kl hR9 HR7
          go_wp2
          (try simp only [Exit.inBlock, Exit.then])
          refine bodyPost_ret (results_none rfl _ _ _) rfl ?_
          exact ⟨rfl, HR9.out⟩
        | false =>
          have HSE : Hid (_ = _) := HASK.out.trans (if_neg (by rw [hwon]; simp))
          clear HASK hwon
          obtain ⟨hb7, -, z7, gs7, os7, hT7, hz7, hP7, ho7, hK7⟩ := HR7.out.1
          obtain ⟨r7, zs7, ⟨ba7, bn7, bc7⟩, ⟨la7, ln7, lc7⟩, ⟨va7, vn7, vc7⟩, ⟨pa7, pn7, pc7⟩⟩ := z7
          obtain rfl : r7 = ⟨nd, tm + 1, nd, ⟨bi, bt, bk, bd⟩, lg, cm, 1, 0, 0, [nd], []⟩ := hz7
          obtain ⟨oa7, on7, oc7⟩ := os7
          dsimp only [tc] at hT7
          rw [show ((tm + 1 : Nat) : Int) = (tm : Int) + 1 from rfl] at hT7
          have hml7 : mes zs7 = lg := hP7.2.1.2.1
          have hzl7 : zs7.length ≤ 1000000 := by have := congrArg List.length hml7; rw [List.length_map] at this; have := (may_last HMB.out.1).2.2; omega
          have hzo7 := okz_of hml7 HMB.out.2.2
          have hD7 : DataV w7 ((⟨bi, bt, bk, bd⟩, ba7, bn7, bc7) : Ez) := hP7.1.data
          have hL7 : EntsV w7 (.slice la7 ln7 lc7) zs7 := hP7.2.1.ents
          have htl7 : t < w7.heap.size := HR7.out.1.lt
          have kla := plast_of (⟨bi, bt, bk, bd⟩, ba7, bn7, bc7) zs7 (.slice la7 ln7 lc7) w7 hL7 (by omega)
          have HVV : Hid (∀ W, Below w7.heap.size w7 W → _) := fun W hW => pvot_c (⟨bi, bt, bk, bd⟩, ba7, bn7, bc7) zs7 (.slice la7 ln7 lc7) W (hD7.below hW) (hL7.below hW) ⟨HMB.out.2.1.1, HMB.out.2.1.2.1, HMB.out.2.1.2.2.1⟩ (fun z hz => (hzo7 z hz).1) (by omega) HMB.out.2.1.2.2.2 (fun z hz => (hzo7 z hz).2)
          rw [hml7] at kla HVV
          dsimp only [lgv, lastV] at kla HVV
          have hvl : (votM ⟨bi, bt, bk, bd⟩ lg).length ≤ 7 := may_vlen HMB.out.1
          generalize votM ⟨bi, bt, bk, bd⟩ lg = V at *
          generalize lastM ⟨bi, bt, bk, bd⟩ lg = LT at *
          obtain ⟨X, XT⟩ := LT
          dsimp only at *
          obtain ⟨-, o0, o1, o2, o3, o4, o5, o6, o7, o8, o9, o10, o11, o12, o13, o14⟩ := r15_cells hT7
          clear hP7 ho7 hK7 hD7 hL7 hzo7 hml7
          go_wp2_with fail
          refine kla.mono ?_
          rintro e w8 ⟨rfl, hb8⟩
          have T8 := (hb8.block t htl7).trans hT7
          have kv := HVV.out w8 hb8
          obtain ⟨-, p0, p1, p2, p3, p4, p5, p6, p7, p8, p9, p10, p11, p12, p13, p14⟩ := r15_cells T8
          clear kla HVV o0 o1 o2 o3 o4 o5 o6 o7 o8 o9 o10 o11 o12 o13 o14
          go_wp2_with fail
          refine kv.mono ?_
          rintro e w9 ⟨u9, rfl, hO9, hb9⟩
          obtain ⟨ua, uc, rfl, -, -⟩ := hO9.1.rd.shape
          have hb79 := hb8.trans (hb9.mono hb8.size)
          have HR9 : Hid (TuR w0 K w w9 t [82, 34] ⟨⟨nd, tm + 1, nd, ⟨bi, bt, bk, bd⟩, lg, cm, 1, 0, 0, [nd], []⟩, so⟩) := (HR7.out.mono (T' := [82, 34]) (by simp)).trans (TuR.of_below _ HR7.out.1 hb79)
          have HRV : Hid (Ow intE 3 w8.heap.size w9 (.slice ua V.length uc) V) := hO9
          have HP : Hid (∀ k, ((V.take k).foldl (ask1 X XT) ⟨⟨nd, tm + 1, nd, ⟨bi, bt, bk, bd⟩, lg, cm, 1, 0, 0, [nd], []⟩, so⟩).r = ⟨nd, tm + 1, nd, ⟨bi, bt, bk, bd⟩, lg, cm, 1, 0, 0, [nd], []⟩) := fun k => asks_r _ _ _ _
          have HQ : Hid (∀ k, ((V.take k).foldl (ask1 X XT) ⟨⟨nd, tm + 1, nd, ⟨bi, bt, bk, bd⟩, lg, cm, 1, 0, 0, [nd], []⟩, so⟩).out.length ≤ 1000000000) := fun k => by
            have h1 := asks_len X XT (V.take k) ⟨⟨nd, tm + 1, nd, ⟨bi, bt, bk, bd⟩, lg, cm, 1, 0, 0, [nd], []⟩, so⟩
            rw [List.length_take] at h1
            dsimp only at h1
            omega
          have HE : Hid ((V.take V.length).foldl (ask1 X XT) ⟨⟨nd, tm + 1, nd, ⟨bi, bt, bk, bd⟩, lg, cm, 1, 0, 0, [nd], []⟩, so⟩ = V.foldl (ask1 X XT) ⟨⟨nd, tm + 1, nd, ⟨bi, bt, bk, bd⟩, lg, cm, 1, 0, 0, [nd], []⟩, so⟩) := by show _ = _; rw [List.take_length]
          have HN : Hid (∀ k x, V[k]? = some x → (V.take (k + 1)).foldl (ask1 X XT) ⟨⟨nd, tm + 1, nd, ⟨bi, bt, bk, bd⟩, lg, cm, 1, 0, 0, [nd], []⟩, so⟩ = ask1 X XT ((V.take k).foldl (ask1 X XT) ⟨⟨nd, tm + 1, nd, ⟨bi, bt, bk, bd⟩, lg, cm, 1, 0, 0, [nd], []⟩, so⟩) x) := fun k x hx => fold_take _ hx _
          clear kv hb8 hb9 hb79 hO9 T8 hT7 HR7 p0 p1 p2 p3 p4 p5 p6 p7 p8 p9 p10 p11 p12 p13 p14 hb7
          go_wp2
          go_loopg [5, 61] V.length (fun gh s5 s61 wr => ∃ k : Nat, k + gh = V.length ∧ s61 = .int .i64 (k : Int) ∧ TuR w0 K w wr t [82, 34] ((V.take k).foldl (ask1 X XT) ⟨⟨nd, tm + 1, nd, ⟨bi, bt, bk, bd⟩, lg, cm, 1, 0, 0, [nd], []⟩, so⟩) ∧ Rk intE wr 3 (.slice ua V.length uc) V)
          case atStart => exact ⟨0, by simp, rfl, HR9.out, HRV.out.1⟩
          case round =>
            obtain ⟨k, hkg, rfl, hRr, hRV⟩ := hrel
            have hr := HP.out k
            have hq := HQ.out k
            have HNk : Hid _ := HN.out k
            have HEk : Hid (k = V.length → (V.take k).foldl (ask1 X XT) ⟨⟨nd, tm + 1, nd, ⟨bi, bt, bk, bd⟩, lg, cm, 1, 0, 0, [nd], []⟩, so⟩ = V.foldl (ask1 X XT) ⟨⟨nd, tm + 1, nd, ⟨bi, bt, bk, bd⟩, lg, cm, 1, 0, 0, [nd], []⟩, so⟩) := fun h => by rw [h]; exact HE.out
            generalize (V.take k).foldl (ask1 X XT) ⟨⟨nd, tm + 1, nd, ⟨bi, bt, bk, bd⟩, lg, cm, 1, 0, 0, [nd], []⟩, so⟩ = a at *
            have HRr : Hid (TuR w0 K w wr t [82, 34] a) := hRr
            have HRVr : Hid (Rk intE wr 3 (.slice ua V.length uc) V) := hRV
            by_cases hlt : k < V.length
            · have hlti : (k : Int) < (V.length : Int) := by omega
              have hx : V[k]? = some V[k] := List.getElem?_eq_getElem hlt
              obtain ⟨x, hxx⟩ : ∃ x, x = V[k] := ⟨_, rfl⟩
              rw [← hxx] at hx
              clear hxx
              obtain ⟨vb, vof, rfl, cv⟩ := rdi_at hRV.rd hx
              have c0 := cv wr (Below.refl _ _)
              have hN := HNk.out x hx
              obtain ⟨-, -, zr, gsr, osr, hTr, hzr, -, -, -⟩ := hRr.1
              rw [hr] at hzr
              obtain ⟨rr, zsr, bsr, lsr, vsr, psr⟩ := zr
              dsimp only at hzr
              subst hzr
              dsimp only [tc] at hTr
              obtain ⟨-, o0, -⟩ := r15_cells hTr
              have ks := send_of w0 K wr t a x ⟨⟨1, 0, 0, 0, X, XT, [], 0, false, 0, zeroMe⟩, [], (none, 0, 0), (none, 0, 0)⟩ hRr.1 ⟨Cps.nil _ _, Rk.nil _ _ _⟩ hq
              dsimp only [gv, zeroMe] at ks
              clear cv hx hRr hRV HNk HEk hTr
              by_cases hnd : x = nd
              · have E : Hid (_ = a) := hN.trans (by unfold ask1; rw [hr]; exact if_pos hnd)
                subst hnd
                clear hN ks
                go_wp2
                go_roundg (gk - 1)
                case measure => omega
                case rel => exact ⟨k + 1, by omega, by go_num, by rw [E.out]; exact HRr.out, HRVr.out⟩
              · have E : Hid (_ = sayR a ⟨1, 0, x, 0, X, XT, [], 0, false, 0, zeroMe⟩) := hN.trans (by unfold ask1; rw [hr]; exact if_neg hnd)
                have hndb : (x != nd) = true := by simpa using hnd
                clear hN
                go_wp2_with fail
                refine ks.mono ?_
                rintro e w5 ⟨rfl, hR5⟩
                have hRf : TuR w0 K w w5 t [82, 34] _ := HRr.out.trans hR5
                have hRVf := HRVr.out.frm hR5.2.1 (by decide)
                clear ks hR5
                go_wp2
                go_roundg (gk - 1)
                case measure => omega
                case rel => exact ⟨k + 1, by omega, by go_num, by rw [E.out]; exact hRf, hRVf⟩
            · have hlti : ¬ (k : Int) < (V.length : Int) := by omega
              rw [HEk.out (by omega)] at hRr
              clear HNk HEk hRV HRVr HRr
              go_wp2
              go_end0
              exact ⟨rfl, by rw [HSE.out]; exact hRr⟩
end Go.Proofs.YtncoandnelgkeaaGreat

/- The program's turnOf. -/
namespace Go.Proofs.YtncoandnelgkeaaGreat
open Go.RowKit QuorumMath RlogMath RaftMath
set_option maxRecDepth 100000
set_option linter.unusedSimpArgs false
set_option linter.unusedVariables false

set_option maxHeartbeats 8000000 in
theorem turnOf_of (n : Nat) (r : Mr) (v : Value) (w : World) (hS : RsV n w v r) (hm : mayB r.base r.log = true) (hbo : OkM r.base) (hlo : ∀ e ∈ r.log, OkM e) (hvt : r.votes.length ≤ 1000000) (hpl : r.peers.length ≤ 1000000) : Calls Tryz.prog 52 #[v] w fun e w' => ∃ t, e = .returned (.pointer (some ⟨t, 0, none⟩)) ∧ TuAt w [] w' t ⟨r, []⟩ ∧ Below w.heap.size w w' := by
  obtain ⟨z, rfl, hz, hR⟩ := hS
  obtain ⟨r', zs, ⟨ba, bn, bc⟩, ⟨la, ln, lc⟩, ⟨va, vn, vc⟩, ⟨pa, pn, pc⟩⟩ := z
  obtain rfl : r' = r := hz
  obtain ⟨nd, tm, vo, ⟨bi, bt, bk, bd⟩, lg, cm, ro, le, el, vt, pe⟩ := r'
  dsimp only at *
  dsimp only [rv]
  have hml : mes zs = lg := hR.2.2.1
  have hzl : zs.length ≤ 1000000 := by have := congrArg List.length hml; rw [List.length_map] at this; have := (may_last hm).2.2; omega
  have hzo := okz_of hml hlo
  have HKL : Hid (∀ W, Below w.heap.size w W → _) := fun W hW => copyLog_of (⟨bi, bt, bk, bd⟩, ba, bn, bc) zs (.slice la ln lc) W (hR.1.below hW).v (hR.2.1.below hW).v (by rw [hml]; exact hm) hzl hbo.2.2.2 (fun z hz => (hzo z hz).2)
  have HKI : Hid (∀ W, Below w.heap.size w W → _) := fun W hW => clone_ints vt (.slice va vn vc) W (hR.2.2.2.1.rd.below hW) (by omega)
  have HKP : Hid (∀ W, Below w.heap.size w W → _) := fun W hW => clone_peers pe (.slice pa pn pc) W (hR.2.2.2.2.rd.below hW) (by omega)
  have HML : Hid (mes zs = lg) := hml
  dsimp only [lgv] at HKL
  obtain ⟨hsz, B5, hb5⟩ := one_box w (.cells #[.int .i64 nd, .int .u64 (tm : Int), .int .i64 vo, .int .u64 (bi : Int), .int .u64 (bt : Int), .int .i64 bk, .slice ba bn bc, .slice la ln lc, .int .u64 (cm : Int), .int .i64 ro, .int .i64 le, .int .i64 el, .slice va vn vc, .slice pa pn pc] 32)
  clear hR hml hzl hzo hm hbo hlo
  go_enter Tryz.func52, Tryz.ntmps52
  go_wp2
  (try simp only [Exit.inBlock, Exit.then])
  generalize w.alloc (.cells #[.int .i64 nd, .int .u64 (tm : Int), .int .i64 vo, .int .u64 (bi : Int), .int .u64 (bt : Int), .int .i64 bk, .slice ba bn bc, .slice la ln lc, .int .u64 (cm : Int), .int .i64 ro, .int .i64 le, .int .i64 el, .slice va vn vc, .slice pa pn pc] 32) = w5 at *
  refine wp_region_L (fun W => Below w5.heap.size w5 W) [10, 11, 12, 13, 14] (by kernel_rfl) ?_
  have hbd : Below w5.heap.size w5 w5.drew := (Below.refl _ w5).drew
  have HCL : Hid (∀ W, Below w5.heap.size w5 W → _) := fun W hW => r14_cells ((hW.block w.heap.size (by omega)).trans B5)
  generalize w5.drew = wd at *
  have kl := HKL.out wd (hb5.trans (hbd.mono hb5.size))
  refine wpAnyL_take 0 rfl (by kernel_rfl) (by kernel_rfl) (by kernel_rfl) (by kernel_rfl) (fun _ _ _ h => h) (wanted_none rfl) (by intro w' hS'; have hz := hS'; obtain ⟨-, c0, c1, c2, c3, c4, c5, c6, c7, c8, c9, c10, c11, c12, c13⟩ := HCL.out _ hz; go_simp <;> rfl) hbd ?_
  try simp only [List.getElem_toArray, List.getElem_cons_succ, List.getElem_cons_zero, Act.put, List.setIfInBounds_toArray, List.set_cons_zero, List.set_cons_succ]
  refine wpAnyL_take 1 rfl (by kernel_rfl) (by kernel_rfl) (by kernel_rfl) (by kernel_rfl) (fun _ _ _ h => h) (wanted_none rfl) (by intro w' hS'; have hz := hS'; obtain ⟨-, c0, c1, c2, c3, c4, c5, c6, c7, c8, c9, c10, c11, c12, c13⟩ := HCL.out _ hz; go_simp <;> rfl) hbd ?_
  try simp only [List.getElem_toArray, List.getElem_cons_succ, List.getElem_cons_zero, Act.put, List.setIfInBounds_toArray, List.set_cons_zero, List.set_cons_succ]
  refine wpAnyL_take 3 rfl (by kernel_rfl) (by kernel_rfl) (by kernel_rfl) (by kernel_rfl) (fun _ _ _ h => h) (wanted_none rfl) (by intro w' hS'; have hz := hS'; obtain ⟨-, c0, c1, c2, c3, c4, c5, c6, c7, c8, c9, c10, c11, c12, c13⟩ := HCL.out _ hz; go_simp <;> rfl) hbd ?_
  try simp only [List.getElem_toArray, List.getElem_cons_succ, List.getElem_cons_zero, Act.put, List.setIfInBounds_toArray, List.set_cons_zero, List.set_cons_succ]
  refine wpAnyL_take 4 rfl (by kernel_rfl) (by kernel_rfl) (by kernel_rfl) (by kernel_rfl) (fun _ _ _ h => h) (wanted_none rfl) (by intro w' hS'; have hz := hS'; obtain ⟨-, c0, c1, c2, c3, c4, c5, c6, c7, c8, c9, c10, c11, c12, c13⟩ := HCL.out _ hz; go_simp <;> rfl) hbd ?_
  try simp only [List.getElem_toArray, List.getElem_cons_succ, List.getElem_cons_zero, Act.put, List.setIfInBounds_toArray, List.set_cons_zero, List.set_cons_succ]
  refine wpAnyL_take 6 rfl (by kernel_rfl) (by kernel_rfl) (by kernel_rfl) (by kernel_rfl) (fun _ _ _ h => h) (wanted_none rfl) (by intro w' hS'; have hz := hS'; obtain ⟨-, c0, c1, c2, c3, c4, c5, c6, c7, c8, c9, c10, c11, c12, c13⟩ := HCL.out _ hz; go_simp <;> rfl) hbd ?_
  try simp only [List.getElem_toArray, List.getElem_cons_succ, List.getElem_cons_zero, Act.put, List.setIfInBounds_toArray, List.set_cons_zero, List.set_cons_succ]
  refine wpAnyL_take 7 rfl (by kernel_rfl) (by kernel_rfl) (by kernel_rfl) (by kernel_rfl) (fun _ _ _ h => h) (wanted_none rfl) (by intro w' hS'; have hz := hS'; obtain ⟨-, c0, c1, c2, c3, c4, c5, c6, c7, c8, c9, c10, c11, c12, c13⟩ := HCL.out _ hz; go_simp <;> rfl) hbd ?_
  try simp only [List.getElem_toArray, List.getElem_cons_succ, List.getElem_cons_zero, Act.put, List.setIfInBounds_toArray, List.set_cons_zero, List.set_cons_succ]
  refine wpAnyL_one 2 (by kernel_rfl) rfl (wanted_none rfl) ?_
  intro K' hK'
  go_simp
  go_at_call 34
  refine kl.mono ?_
  rintro e w2 ⟨v2, rfl, hLC, hb2⟩
  have hS2 : (fun W => Below w5.heap.size w5 W) w2 := hbd.trans (hb2.mono hbd.size)
  obtain ⟨⟨b2a, b2n, b2c⟩, cur, stv, rfl, hCD, hCp⟩ := hLC
  obtain ⟨l2a, l2c, rfl, -, -⟩ := hCp.1.1.rd.shape
  dsimp only [lgv]
  have ki := HKI.out w2 (hb5.trans (hS2.mono hb5.size))
  clear kl
  generalize hcl : cur.length = l2n at *
  refine hK'.out _ _ (.inr hS2) ?_
  clear hK' K'
  try simp only [List.getElem_toArray, List.getElem_cons_succ, List.getElem_cons_zero, Act.put, List.setIfInBounds_toArray, List.set_cons_zero, List.set_cons_succ]
  refine wpAnyL_take 9 rfl (by kernel_rfl) (by kernel_rfl) (by kernel_rfl) (by kernel_rfl) (fun _ _ _ h => h) (wanted_none rfl) (by intro w' hS'; have hz := hS'; obtain ⟨-, c0, c1, c2, c3, c4, c5, c6, c7, c8, c9, c10, c11, c12, c13⟩ := HCL.out _ hz; go_simp <;> rfl) hS2 ?_
  try simp only [List.getElem_toArray, List.getElem_cons_succ, List.getElem_cons_zero, Act.put, List.setIfInBounds_toArray, List.set_cons_zero, List.set_cons_succ]
  refine wpAnyL_one 5 (by kernel_rfl) rfl (wanted_none rfl) ?_
  intro K' hK'
  go_simp
  go_at_call 70
  refine ki.mono ?_
  rintro e w3 ⟨v2a, v2n, v2c, rfl, hV, hb3⟩
  have hS3 : (fun W => Below w5.heap.size w5 W) w3 := hS2.trans (hb3.mono hS2.size)
  have kp := HKP.out w3 (hb5.trans (hS3.mono hb5.size))
  clear ki
  refine hK'.out _ _ (.inr hS3) ?_
  clear hK' K'
  try simp only [List.getElem_toArray, List.getElem_cons_succ, List.getElem_cons_zero, Act.put, List.setIfInBounds_toArray, List.set_cons_zero, List.set_cons_succ]
  refine wpAnyL_one 8 (by kernel_rfl) rfl (wanted_none rfl) ?_
  intro K' hK'
  go_simp
  go_at_call 71
  refine kp.mono ?_
  rintro e w4 ⟨p2a, p2n, p2c, rfl, hPe, hb4⟩
  have hS4 : (fun W => Below w5.heap.size w5 W) w4 := hS3.trans (hb4.mono hS3.size)
  have hCD := (hCD.below hb3).below hb4
  have hCp := (hCp.below hb3).below hb4
  have hV := hV.below hb4
  have g0 := (hS4.block w.heap.size (by omega)).trans B5
  clear kp
  refine hK'.out _ _ (.inr hS4) ?_
  clear hK' K'
  try simp only [List.getElem_toArray, List.getElem_cons_succ, List.getElem_cons_zero, Act.put, List.setIfInBounds_toArray, List.set_cons_zero, List.set_cons_succ]
  have H0 := hb5.trans (hS4.mono hb5.size)
  refine wpAnyL_one 10 (by kernel_rfl) rfl (wanted_none rfl) ?_
  intro K' hK'
  obtain ⟨⟨f0, f1, f2, f3, f4, f5, f6, f7, f8, f9, f10, f11, f12, f13⟩, e0, e1, e2, e3, e4, e5, e6, e7, e8, e9, e10, e11, e12, e13⟩ := r14_cells g0
  go_simp
  have g1 : (((((w4.setCell ⟨w.heap.size, 3, none⟩ (.int .u64 (bi : Int))).setCell ⟨w.heap.size, 4, none⟩ (.int .u64 (bt : Int))).setCell ⟨w.heap.size, 5, none⟩ (.int .i64 bk)).setCell ⟨w.heap.size, 6, none⟩ (.slice b2a b2n b2c)).setCell ⟨w.heap.size, 7, none⟩ (.slice l2a l2n l2c)).heap[w.heap.size]? = some (.cells #[.int .i64 nd, .int .u64 (tm : Int), .int .i64 vo, .int .u64 (bi : Int), .int .u64 (bt : Int), .int .i64 bk, .slice b2a b2n b2c, .slice l2a l2n l2c, .int .u64 (cm : Int), .int .i64 ro, .int .i64 le, .int .i64 el, .slice va vn vc, .slice pa pn pc] 32) := by simp [World.setCell, Array.getElem?_modify, g0]
  have U1 : ∀ b, b ≠ w.heap.size → (((((w4.setCell ⟨w.heap.size, 3, none⟩ (.int .u64 (bi : Int))).setCell ⟨w.heap.size, 4, none⟩ (.int .u64 (bt : Int))).setCell ⟨w.heap.size, 5, none⟩ (.int .i64 bk)).setCell ⟨w.heap.size, 6, none⟩ (.slice b2a b2n b2c)).setCell ⟨w.heap.size, 7, none⟩ (.slice l2a l2n l2c)).heap[b]? = w4.heap[b]? := fun b hb => (set_far (Ne.symm hb) _).trans ((set_far (Ne.symm hb) _).trans ((set_far (Ne.symm hb) _).trans ((set_far (Ne.symm hb) _).trans ((set_far (Ne.symm hb) _).trans (rfl)))))
  have H1 : Below w.heap.size w (((((w4.setCell ⟨w.heap.size, 3, none⟩ (.int .u64 (bi : Int))).setCell ⟨w.heap.size, 4, none⟩ (.int .u64 (bt : Int))).setCell ⟨w.heap.size, 5, none⟩ (.int .i64 bk)).setCell ⟨w.heap.size, 6, none⟩ (.slice b2a b2n b2c)).setCell ⟨w.heap.size, 7, none⟩ (.slice l2a l2n l2c)) := ((((H0.setCell (p := ⟨w.heap.size, 3, none⟩) (Nat.le_refl _) _).setCell (p := ⟨w.heap.size, 4, none⟩) (Nat.le_refl _) _).setCell (p := ⟨w.heap.size, 5, none⟩) (Nat.le_refl _) _).setCell (p := ⟨w.heap.size, 6, none⟩) (Nat.le_refl _) _).setCell (p := ⟨w.heap.size, 7, none⟩) (Nat.le_refl _) _
  clear f0 e0 f1 e1 f2 e2 f3 e3 f4 e4 f5 e5 f6 e6 f7 e7 f8 e8 f9 e9 f10 e10 f11 e11 f12 e12 f13 e13
  refine hK'.out _ _ (.inl (by decide)) ?_
  clear hK' K'
  try simp only [List.getElem_toArray, List.getElem_cons_succ, List.getElem_cons_zero, Act.put, List.setIfInBounds_toArray, List.set_cons_zero, List.set_cons_succ]
  generalize ((((w4.setCell ⟨w.heap.size, 3, none⟩ (.int .u64 (bi : Int))).setCell ⟨w.heap.size, 4, none⟩ (.int .u64 (bt : Int))).setCell ⟨w.heap.size, 5, none⟩ (.int .i64 bk)).setCell ⟨w.heap.size, 6, none⟩ (.slice b2a b2n b2c)).setCell ⟨w.heap.size, 7, none⟩ (.slice l2a l2n l2c) = W1 at *
  refine wpAnyL_one 11 (by kernel_rfl) rfl (wanted_none rfl) ?_
  intro K' hK'
  go_simp
  refine hK'.out _ _ (.inl (by decide)) ?_
  clear hK' K'
  try simp only [List.getElem_toArray, List.getElem_cons_succ, List.getElem_cons_zero, Act.put, List.setIfInBounds_toArray, List.set_cons_zero, List.set_cons_succ]
  refine wpAnyL_one 12 (by kernel_rfl) rfl (wanted_none rfl) ?_
  intro K' hK'
  obtain ⟨⟨f0, f1, f2, f3, f4, f5, f6, f7, f8, f9, f10, f11, f12, f13⟩, e0, e1, e2, e3, e4, e5, e6, e7, e8, e9, e10, e11, e12, e13⟩ := r14_cells g1
  go_simp
  have g2 : (W1.setCell ⟨w.heap.size, 12, none⟩ (.slice v2a v2n v2c)).heap[w.heap.size]? = some (.cells #[.int .i64 nd, .int .u64 (tm : Int), .int .i64 vo, .int .u64 (bi : Int), .int .u64 (bt : Int), .int .i64 bk, .slice b2a b2n b2c, .slice l2a l2n l2c, .int .u64 (cm : Int), .int .i64 ro, .int .i64 le, .int .i64 el, .slice v2a v2n v2c, .slice pa pn pc] 32) := by simp [World.setCell, Array.getElem?_modify, g1]
  have U2 : ∀ b, b ≠ w.heap.size → (W1.setCell ⟨w.heap.size, 12, none⟩ (.slice v2a v2n v2c)).heap[b]? = w4.heap[b]? := fun b hb => (set_far (Ne.symm hb) _).trans (U1 b hb)
  have H2 : Below w.heap.size w (W1.setCell ⟨w.heap.size, 12, none⟩ (.slice v2a v2n v2c)) := H1.setCell (p := ⟨w.heap.size, 12, none⟩) (Nat.le_refl _) _
  clear f0 e0 f1 e1 f2 e2 f3 e3 f4 e4 f5 e5 f6 e6 f7 e7 f8 e8 f9 e9 f10 e10 f11 e11 f12 e12 f13 e13
  refine hK'.out _ _ (.inl (by decide)) ?_
  clear hK' K'
  try simp only [List.getElem_toArray, List.getElem_cons_succ, List.getElem_cons_zero, Act.put, List.setIfInBounds_toArray, List.set_cons_zero, List.set_cons_succ]
  generalize W1.setCell ⟨w.heap.size, 12, none⟩ (.slice v2a v2n v2c) = W2 at *
  refine wpAnyL_one 13 (by kernel_rfl) rfl (wanted_none rfl) ?_
  intro K' hK'
  go_simp
  refine hK'.out _ _ (.inl (by decide)) ?_
  clear hK' K'
  try simp only [List.getElem_toArray, List.getElem_cons_succ, List.getElem_cons_zero, Act.put, List.setIfInBounds_toArray, List.set_cons_zero, List.set_cons_succ]
  refine wpAnyL_one 14 (by kernel_rfl) rfl (wanted_none rfl) ?_
  intro K' hK'
  obtain ⟨⟨f0, f1, f2, f3, f4, f5, f6, f7, f8, f9, f10, f11, f12, f13⟩, e0, e1, e2, e3, e4, e5, e6, e7, e8, e9, e10, e11, e12, e13⟩ := r14_cells g2
  go_simp
  have g3 : (W2.setCell ⟨w.heap.size, 13, none⟩ (.slice p2a p2n p2c)).heap[w.heap.size]? = some (.cells #[.int .i64 nd, .int .u64 (tm : Int), .int .i64 vo, .int .u64 (bi : Int), .int .u64 (bt : Int), .int .i64 bk, .slice b2a b2n b2c, .slice l2a l2n l2c, .int .u64 (cm : Int), .int .i64 ro, .int .i64 le, .int .i64 el, .slice v2a v2n v2c, .slice p2a p2n p2c] 32) := by simp [World.setCell, Array.getElem?_modify, g2]
  have U3 : ∀ b, b ≠ w.heap.size → (W2.setCell ⟨w.heap.size, 13, none⟩ (.slice p2a p2n p2c)).heap[b]? = w4.heap[b]? := fun b hb => (set_far (Ne.symm hb) _).trans (U2 b hb)
  have H3 : Below w.heap.size w (W2.setCell ⟨w.heap.size, 13, none⟩ (.slice p2a p2n p2c)) := H2.setCell (p := ⟨w.heap.size, 13, none⟩) (Nat.le_refl _) _
  clear f0 e0 f1 e1 f2 e2 f3 e3 f4 e4 f5 e5 f6 e6 f7 e7 f8 e8 f9 e9 f10 e10 f11 e11 f12 e12 f13 e13
  refine hK'.out _ _ (.inl (by decide)) ?_
  clear hK' K'
  try simp only [List.getElem_toArray, List.getElem_cons_succ, List.getElem_cons_zero, Act.put, List.setIfInBounds_toArray, List.set_cons_zero, List.set_cons_succ]
  generalize W2.setCell ⟨w.heap.size, 13, none⟩ (.slice p2a p2n p2c) = W3 at *
  refine wpAnyL_done (by kernel_rfl) (NoPanic.normal ?_) _
  have hfin : Hid (TuAt w [] (W3.alloc (.cells #[.int .i64 nd, .int .u64 (tm : Int), .int .i64 vo, .int .u64 (bi : Int), .int .u64 (bt : Int), .int .i64 bk, .slice b2a b2n b2c, .slice l2a l2n l2c, .int .u64 (cm : Int), .int .i64 ro, .int .i64 le, .int .i64 el, .slice v2a v2n v2c, .slice p2a p2n p2c, .slice none 0 0] 82)) W3.heap.size ⟨⟨nd, tm, vo, ⟨bi, bt, bk, bd⟩, lg, cm, ro, le, el, vt, pe⟩, []⟩) := by
    have hf : Frm w.heap.size [32] w4 W3 := ⟨fun b hb => U3 b (by omega), fun b cs' τ fr hc hτ => U3 b fun e => by
      subst e
      rw [g0] at hc
      simp only [Option.some.injEq, Obj.cells.injEq] at hc
      exact hτ (by rw [← hc.2.1]; exact List.mem_singleton.2 rfl)⟩
    have hba : Below W3.heap.size W3 (W3.alloc (.cells #[.int .i64 nd, .int .u64 (tm : Int), .int .i64 vo, .int .u64 (bi : Int), .int .u64 (bt : Int), .int .i64 bk, .slice b2a b2n b2c, .slice l2a l2n l2c, .int .u64 (cm : Int), .int .i64 ro, .int .i64 le, .int .i64 el, .slice v2a v2n v2c, .slice p2a p2n p2c, .slice none 0 0] 82)) := (Below.refl _ _).alloc (Nat.le_refl _) _
    refine ⟨H3.trans (hba.mono H3.size), H3.size, ⟨⟨nd, tm, vo, ⟨bi, bt, bk, bd⟩, lg, cm, ro, le, el, vt, pe⟩, cur, (b2a, b2n, b2c), (l2a, l2n, l2c), (v2a, v2n, v2c), (p2a, p2n, p2c)⟩, [], (none, 0, 0), heap_alloc_new _ _, rfl, ⟨?_, ?_, ?_, ?_, Ow.nil _ _ _ _, by simp⟩, rfl, by simp⟩
    · exact (hCD.frm hf (by decide)).below hba
    · have hc0 : Cps 0 w4 (.slice l2a l2n l2c) lg cur := ⟨hCp.1.mono (Nat.zero_le _), hCp.2.1.trans HML.out, hCp.2.2⟩
      exact (Cps.frm hc0 hf (by decide) (by decide)).below hba
    · exact ((hV.mono (Nat.le_trans hb5.size hS2.size)).frm hf (by decide)).below hba
    · exact ((hPe.mono (Nat.le_trans hb5.size hS3.size)).frm hf (by decide)).below hba
  have HB : Hid (Below w.heap.size w (W3.alloc (.cells #[.int .i64 nd, .int .u64 (tm : Int), .int .i64 vo, .int .u64 (bi : Int), .int .u64 (bt : Int), .int .i64 bk, .slice b2a b2n b2c, .slice l2a l2n l2c, .int .u64 (cm : Int), .int .i64 ro, .int .i64 le, .int .i64 el, .slice v2a v2n v2c, .slice p2a p2n p2c, .slice none 0 0] 82))) := Below.alloc H3 H3.size _
  clear hCD hCp hV hPe U1 U2 U3 H1 H2 H3 g0 g1 g2 HKL HKI HKP
  go_wp2_with (refine wpList_load_row rfl 32 _ rfl w.heap.size rfl _ _ _ _ g3 Tryz.underlying32 rfl (by kernel_rfl) ?_)
  go_ret
  exact ⟨_, rfl, hfin.out, HB.out⟩
end Go.Proofs.YtncoandnelgkeaaGreat

/- Whether a node is a voter. -/
namespace Go.Proofs.YtncoandnelgkeaaGreat
open Go.RowKit QuorumMath RlogMath RaftMath
set_option maxRecDepth 100000
set_option linter.unusedSimpArgs false
set_option linter.unusedVariables false

theorem isVoter_b (w0 : World) (K : List (Nat × Obj)) (w : World) (t : Nat) (s : Ms) (x : Int) (hS : TuAt w0 K w t s) (hm : mayB s.r.base s.r.log = true) (hbo : OkM s.r.base) (hlo : ∀ e ∈ s.r.log, OkM e) (B : Bool) (hB : decide (x ∈ votR s.r) = B) : Calls Tryz.prog 90 #[.pointer (some ⟨t, 0, none⟩), .int .i64 x] w fun e w' => e = .returned (.bool B) ∧ Below w.heap.size w w' := by
  subst hB
  exact isVoter_of w0 K w t s x hS hm hbo hlo
end Go.Proofs.YtncoandnelgkeaaGreat

