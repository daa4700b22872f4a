import Derived.Test.YtglbjimpaoikfaaHe44
/- However many texts there are: Clone, Call. -/
namespace Go.Proofs.Ytglbjimpaoikfaa
open Go.RowKit LeaseMath
set_option maxRecDepth 100000
set_option linter.unusedSimpArgs false
set_option linter.unusedVariables false

theorem append_greatK {w : World} {v x : Value} {ys : List K} (h : Rk kyE w 9 v []) (hx : Rd kyE w x ys) (hly : ys.length * 16 ≤ 140737488355328) :
    ∀ ty, ∃ v' w', (Builtin.append_ #[25, 25] ty #[v, x]).run Try.prog w = .ok v' w' ∧ PushT kyE 9 w v ys v' w' := by
  intro ty
  obtain ⟨i0, i1, i2, i3, i4⟩ := info_get infoKey
  obtain ⟨ao, cap, e, hc, h1, h2⟩ := id hx
  cases ao with
  | none =>
    have h0 := h1 rfl
    have hy : ys = [] := List.eq_nil_of_length_eq_zero (by omega)
    subst hy h0
    rw [e]
    refine ⟨v, w, run_append_owned_none (P := Try.prog) (w := w) 0 25 ty 9 i0 1 Try.underlying25 i1 v 0 [] h, h, ⟨rfl, rfl, rfl, Nat.le_refl _, fun _ _ _ => rfl⟩, fun k hk => .inl hk⟩
  | some a =>
    subst e
    obtain ⟨b, off, sp⟩ := a
    by_cases hy : ys = []
    · subst hy
      obtain ⟨v', w', hrun, hO, hg, hfr⟩ := run_append_own2 w 0 25 ty 9 i0 _ 1 16 Try.underlying25 i1 i2 i3 i4 rfl (by decide) v 0 [] h ⟨b, off, sp⟩ 0 cap [] (by simp) (by simp) (by simp) (by unfold maxLen; omega) (by omega) (Nat.zero_le _)
      exact ⟨v', w', hrun, hO, hg, hfr⟩
    · have hpos : 0 < ys.length := List.length_pos_iff.2 hy
      obtain ⟨b', off', r1, _⟩ := h2 0 ys[0] 0 ((kyE.enc ys[0])[0]'(by rw [kyE.len]; exact kyE.pos)) (List.getElem?_eq_getElem hpos) (List.getElem?_eq_getElem _)
      cases r1
      obtain ⟨v', w', hrun, hO, hg, hfr⟩ := run_append_own2 w 0 25 ty 9 i0 _ 1 16 Try.underlying25 i1 i2 i3 i4 rfl (by decide) v 0 [] h ⟨b, off, none⟩ ys.length cap (kyE.flat ys) (El.flat_length kyE ys) (fun j u hu => by rw [Addr.add_lit]; exact Rd.cells hx j u hu) (El.flat_mem kyE) (by unfold maxLen; omega) (by omega) (Nat.zero_le _)
      refine ⟨v', w', hrun, ?_, hg, hfr⟩
      have hO' : w'.ownsRow 0 9 1 v' (0 + ys.length) ([] ++ kyE.flat ys) := hO
      rw [Nat.zero_add, List.nil_append] at hO'
      exact hO'
theorem copyG_k {w : World} {x : Value} {ys : List K} (hx : Rd kyE w x ys) (hly : ys.length * 16 ≤ 140737488355328) :
    ∀ ty, ∃ v' w', (Builtin.append_ #[25, 25] ty #[.slice (some ⟨w.heap.size, 0, none⟩) 0 0, x]).run Try.prog (w.alloc (.cells #[] 9)) = .ok v' w' ∧ CopyT kyE 9 w ys v' w' := by
  intro ty
  obtain ⟨q1, q2, q3⟩ := one_box w (.cells #[] 9)
  have hO : Ow kyE 9 w.heap.size (w.alloc (.cells #[] 9)) (.slice (some ⟨w.heap.size, 0, none⟩) 0 0) [] := ⟨Rk.made (xs := []) q2 rfl (by unfold maxLen; simp), fun k hk => by cases hk; exact Nat.le_refl _⟩
  obtain ⟨v', w', h1, h2⟩ := append_greatK hO.1 (hx.below q3) hly ty
  obtain ⟨h3, h4⟩ := hO.push (by rw [q1]; omega) h2
  exact ⟨v', w', h1, h3, q3.trans h4⟩
theorem clonekG_of (l : List K) (lv : Value) (w : World) (hL : Rd kyE w lv l) (hlen : l.length * 16 ≤ 140737488355328) : Calls Try.prog 43 #[lv] w fun e w' => ∃ v, e = .returned v ∧ Ow kyE 9 w.heap.size w' v l ∧ Below w.heap.size w w' := by
  have hrun : Hid _ := copyG_k hL hlen
  obtain ⟨ao, cap, rfl, -, h0⟩ := hL.shape
  have hnil : ∀ w', (binOp .eql 25 (.slice ao l.length cap) (.slice none 0 0)).run Try.prog w' = .ok (.bool ao.isNone) w' := fun w' => Lib.run_eql_slice_nil w' 25 9 ao l.length cap 0 0 Try.underlying25
  cases ao with
  | none =>
    have hc := h0 rfl
    have hl0 : l = [] := by
      obtain ⟨a', c', e, h1, _, _⟩ := hL
      cases e
      exact List.eq_nil_of_length_eq_zero (by omega)
    subst hl0 hc
    simp only [Option.isNone_none, List.length_nil] at hnil ⊢
    clear hrun hL
    go_enter Try.func43, Try.ntmps43
    go_wp2
    go_ret
    exact ⟨_, rfl, Ow.nil _ _ _ _, Below.refl _ _⟩
  | some a =>
    simp only [Option.isNone_some] at hnil
    clear hL h0
    go_enter Try.func43, Try.ntmps43
    go_wp2_with (at_builtin; refine wp_by rfl _ _ _ rfl _ _ rfl rfl hrun.out ?_)
    intro u w1 hp1
    obtain ⟨h1, h2⟩ := hp1
    obtain ⟨ua, uc, rfl, -, -⟩ := h1.1.rd.shape
    clear hrun
    go_wp2
    go_ret
    exact ⟨_, rfl, h1, h2⟩

set_option maxHeartbeats 8000000 in
theorem pcallvG_of (z : Xz) (w : World) (hK : Rd kyE w (.slice z.k.1 z.t.keys.length z.k.2) z.t.keys) (hlen : z.t.keys.length * 16 ≤ 140737488355328) : Calls Try.prog 20 #[xv z] w fun e w' => (∃ a : Sa, e = .returned (cv (callM z.t) a) ∧ Ow kyE 9 w.heap.size w' (.slice a.1 z.t.keys.length a.2) z.t.keys) ∧ Below w.heap.size w w' := by
  obtain ⟨q1, q2, q3, q4⟩ := two_boxesX w (xc z) (.cells #[.int .i64 0, .slice none 0 0, .int .u64 0, .int .i64 0] 43)
  obtain ⟨w0, hw0⟩ : ∃ W, (w.alloc (xc z)).alloc (.cells #[.int .i64 0, .slice none 0 0, .int .u64 0, .int .i64 0] 43) = W := ⟨_, rfl⟩
  rw [hw0] at q1 q2 q3 q4
  have KC0 : Hid (∀ W, Below w.heap.size w W → _) := fun W hW => clonekG_of z.t.keys _ W (hK.below hW) hlen
  obtain ⟨⟨⟨i1, i2⟩, kd, ks, tk, tt, gs, st, ys, ds, cd⟩, ⟨ka, kc⟩, ⟨ga, gc⟩, ⟨ya, yc⟩, ⟨da, dc⟩⟩ := z
  dsimp only [xv, xc, cv, callM] at *
  obtain ⟨tw, htw⟩ : ∃ n : Nat, Hid ((if kd = 1 then (0 : Nat) else tk) = n) := ⟨_, rfl⟩
  rw [htw.out]
  have HC : Hid (∀ W, Below (w.heap.size + 2) w0 W → Below w.heap.size w W ∧ W.heap[w.heap.size]? = _ ∧ W.heap[w.heap.size + 1]? = _) := fun W hW => ⟨q4.trans (hW.mono (by omega)), (hW.block w.heap.size (by omega)).trans q2, (hW.block (w.heap.size + 1) (by omega)).trans q3⟩
  have hz : w.heap.size + 2 ≤ w0.heap.size := by omega
  have cl : ∀ W, Below (w.heap.size + 2) w0 W → (fun W => (W.cell? ⟨w.heap.size, 2, none⟩ = some (.int .i64 kd) ∧ W.cell? ⟨w.heap.size, 3, none⟩ = some (.slice ka ks.length kc) ∧ W.cell? ⟨w.heap.size, 4, none⟩ = some (.int .u64 (tk : Int)) ∧ W.cell? ⟨w.heap.size, 5, none⟩ = some (.int .i64 tt)) ∧ Below (w.heap.size + 2) w0 W) W := fun W hW => ⟨⟨(cells11 (HC.out _ hW).2.1).2.2.1, (cells11 (HC.out _ hW).2.1).2.2.2.1, (cells11 (HC.out _ hW).2.1).2.2.2.2.1, (cells11 (HC.out _ hW).2.1).2.2.2.2.2.1⟩, hW⟩
  have KC := fun W (hW : Below (w.heap.size + 2) w0 W) => KC0.out W (HC.out _ hW).1
  have hb0 : Below (w.heap.size + 2) w0 w0.drew := (Below.refl _ w0).drew
  have hz0 : w.heap.size + 2 ≤ w0.drew.heap.size := hz
  clear q1 q2 q3 q4 hK KC0
  go_enter Try.func20, Try.ntmps20
  go_wp2
  refine wp_region_L (fun W => (W.cell? ⟨w.heap.size, 2, none⟩ = some (.int .i64 kd) ∧ W.cell? ⟨w.heap.size, 3, none⟩ = some (.slice ka ks.length kc) ∧ W.cell? ⟨w.heap.size, 4, none⟩ = some (.int .u64 (tk : Int)) ∧ W.cell? ⟨w.heap.size, 5, none⟩ = some (.int .i64 tt)) ∧ Below (w.heap.size + 2) w0 W) [11] (by kernel_rfl) ?_
  generalize w0.drew = wd at *
  have yS := cl wd hb0
  refine wpAnyL_take 0 rfl (by kernel_rfl) (by kernel_rfl) (by kernel_rfl) (by kernel_rfl) (fun _ _ _ h => h) (by kernel_rfl) (by intro w' hS'; obtain ⟨⟨x0, x1, x2, x3⟩, xb⟩ := hS'; go_simp <;> rfl) yS ?_
  try simp only [List.getElem_toArray, List.getElem_cons_succ, List.getElem_cons_zero, Act.put, List.setIfInBounds_toArray, List.set_cons_zero, List.set_cons_succ]
  refine wpAnyL_take 1 rfl (by kernel_rfl) (by kernel_rfl) (by kernel_rfl) (by kernel_rfl) (fun _ _ _ h => h) (by kernel_rfl) (by intro w' hS'; obtain ⟨⟨x0, x1, x2, x3⟩, xb⟩ := hS'; go_simp <;> rfl) yS ?_
  try simp only [List.getElem_toArray, List.getElem_cons_succ, List.getElem_cons_zero, Act.put, List.setIfInBounds_toArray, List.set_cons_zero, List.set_cons_succ]
  refine wpAnyL_take 2 rfl (by kernel_rfl) (by kernel_rfl) (by kernel_rfl) (by kernel_rfl) (fun _ _ _ h => h) (by kernel_rfl) (by intro w' hS'; obtain ⟨⟨x0, x1, x2, x3⟩, xb⟩ := hS'; go_simp <;> rfl) yS ?_
  try simp only [List.getElem_toArray, List.getElem_cons_succ, List.getElem_cons_zero, Act.put, List.setIfInBounds_toArray, List.set_cons_zero, List.set_cons_succ]
  refine wpAnyL_take 3 rfl (by kernel_rfl) (by kernel_rfl) (by kernel_rfl) (by kernel_rfl) (fun _ _ _ h => h) (by kernel_rfl) (by intro w' hS'; obtain ⟨⟨x0, x1, x2, x3⟩, xb⟩ := hS'; go_simp <;> rfl) yS ?_
  try simp only [List.getElem_toArray, List.getElem_cons_succ, List.getElem_cons_zero, Act.put, List.setIfInBounds_toArray, List.set_cons_zero, List.set_cons_succ]
  refine wpAnyL_take 5 rfl (by kernel_rfl) (by kernel_rfl) (by kernel_rfl) (by kernel_rfl) (fun _ _ _ h => h) (by kernel_rfl) (by intro w' hS'; obtain ⟨⟨x0, x1, x2, x3⟩, xb⟩ := hS'; go_simp <;> rfl) yS ?_
  try simp only [List.getElem_toArray, List.getElem_cons_succ, List.getElem_cons_zero, Act.put, List.setIfInBounds_toArray, List.set_cons_zero, List.set_cons_succ]
  refine wpAnyL_take 6 rfl (by kernel_rfl) (by kernel_rfl) (by kernel_rfl) (by kernel_rfl) (fun _ _ _ h => h) (by kernel_rfl) (by intro w' hS'; obtain ⟨⟨x0, x1, x2, x3⟩, xb⟩ := hS'; go_simp <;> rfl) yS ?_
  try simp only [List.getElem_toArray, List.getElem_cons_succ, List.getElem_cons_zero, Act.put, List.setIfInBounds_toArray, List.set_cons_zero, List.set_cons_succ]
  refine wpAnyL_take 7 rfl (by kernel_rfl) (by kernel_rfl) (by kernel_rfl) (by kernel_rfl) (fun _ _ _ h => h) (by kernel_rfl) (by intro w' hS'; obtain ⟨⟨x0, x1, x2, x3⟩, xb⟩ := hS'; go_simp <;> rfl) yS ?_
  try simp only [List.getElem_toArray, List.getElem_cons_succ, List.getElem_cons_zero, Act.put, List.setIfInBounds_toArray, List.set_cons_zero, List.set_cons_succ]
  refine wpAnyL_take 8 rfl (by kernel_rfl) (by kernel_rfl) (by kernel_rfl) (by kernel_rfl) (fun _ _ _ h => h) (by kernel_rfl) (by intro w' hS'; obtain ⟨⟨x0, x1, x2, x3⟩, xb⟩ := hS'; go_simp <;> rfl) yS ?_
  try simp only [List.getElem_toArray, List.getElem_cons_succ, List.getElem_cons_zero, Act.put, List.setIfInBounds_toArray, List.set_cons_zero, List.set_cons_succ]
  refine wpAnyL_two 4 10 (by kernel_rfl) rfl rfl (by kernel_rfl) (by kernel_rfl) ?_ ?_
  · intro K' hK'
    go_simp
    go_at_call 43
    refine (KC _ hb0).mono ?_
    rintro e w2 ⟨v_, rfl, hO, hbc⟩
    obtain ⟨va, vc, hv_, -⟩ := hO.1.shape
    subst hv_
    have hb2 := hb0.trans (hbc.mono hz0)
    refine hK'.out _ _ (.inr (cl _ hb2)) ?_
    clear hK' K'
    try simp only [List.getElem_toArray, List.getElem_cons_succ, List.getElem_cons_zero, Act.put, List.setIfInBounds_toArray, List.set_cons_zero, List.set_cons_succ]
    refine wpAnyL_take 9 rfl (by kernel_rfl) (by kernel_rfl) (by kernel_rfl) (by kernel_rfl) (fun _ _ _ h => h) (by kernel_rfl) (by intro w' hS'; obtain ⟨⟨x0, x1, x2, x3⟩, xb⟩ := hS'; go_simp <;> rfl) (cl _ hb2) ?_
    try simp only [List.getElem_toArray, List.getElem_cons_succ, List.getElem_cons_zero, Act.put, List.setIfInBounds_toArray, List.set_cons_zero, List.set_cons_succ]
    obtain ⟨r1, r2, r3⟩ := one_box w2 (.cells #[.int .i64 0, .slice none 0 0, .int .u64 0, .int .i64 0] 43)
    have hz2 : w.heap.size + 2 ≤ w2.heap.size := Nat.le_trans hz0 hbc.size
    have hbz := hb2.trans (r3.mono hz2)
    have hOz := (hO.mono hz0).below r3
    obtain ⟨wz, hwz⟩ : ∃ W, w2.alloc (.cells #[.int .i64 0, .slice none 0 0, .int .u64 0, .int .i64 0] 43) = W := ⟨_, rfl⟩
    rw [hwz] at r1 r2 r3 hbz hOz
    have pz := r2
    refine wpAnyL_one 10 (by kernel_rfl) rfl (by kernel_rfl) ?_
    intro K' hK'
    go_simp
    refine hK'.out _ _ (.inr (cl _ hbz)) ?_
    clear hK' K'
    try simp only [List.getElem_toArray, List.getElem_cons_succ, List.getElem_cons_zero, Act.put, List.setIfInBounds_toArray, List.set_cons_zero, List.set_cons_succ]
    clear r1 r2 r3 hbc hO yS hb2
    have hcb : w.heap.size + 2 ≤ w2.heap.size := by omega
    obtain ⟨f0, f1, f2, f3⟩ := f_cells4 pz
    have P5 := set4_block pz (.int .i64 kd) (.slice va ks.length vc) (.int .u64 (tk : Int)) (.int .i64 tt)
    have B5 := set4_below (.int .i64 kd) (.slice va ks.length vc) (.int .u64 (tk : Int)) (.int .i64 tt) (g := w2.heap.size) hbz hcb
    have O5 := ow_set4 (g := w2.heap.size) hOz pz (by decide) (.int .i64 kd) (.slice va ks.length vc) (.int .u64 (tk : Int)) (.int .i64 tt)
    unfold set4 at P5 B5 O5
    obtain ⟨w5, hw5⟩ : ∃ W, (((wz.setCell ⟨w2.heap.size, 0, none⟩ (.int .i64 kd)).setCell ⟨w2.heap.size, 1, none⟩ (.slice va ks.length vc)).setCell ⟨w2.heap.size, 2, none⟩ (.int .u64 (tk : Int))).setCell ⟨w2.heap.size, 3, none⟩ (.int .i64 tt) = W := ⟨_, rfl⟩
    rw [hw5] at P5 B5 O5
    obtain ⟨z0, z1, z2, z3⟩ := cells4 pz
    refine wpAnyL_one 11 (by kernel_rfl) rfl (by kernel_rfl) ?_
    intro K' hK'
    go_simp
    refine hK'.out _ _ (.inl (by decide)) ?_
    clear hK' K'
    try simp only [List.getElem_toArray, List.getElem_cons_succ, List.getElem_cons_zero, Act.put, List.setIfInBounds_toArray, List.set_cons_zero, List.set_cons_succ]
    refine wpAnyL_done (by kernel_rfl) (NoPanic.normal ?_) _
    clear f0 f1 f2 f3 z0 z1 z2 z3 hw5 pz hbz hOz
    obtain ⟨-, X5, Y5⟩ := HC.out _ B5
    obtain ⟨d0, d1, d2, d3, d4, d5, d6, d7, d8, d9, d10⟩ := cells11 X5
    obtain ⟨m0, m1, m2, m3⟩ := cells4 P5
    obtain ⟨y0, y1, y2', y3⟩ := cells4 Y5
    by_cases h1 : kd = 1
    · have h1b : (kd == 1) = true := by simpa using h1
      have E : Hid (tw = 0) := by show _ = _; rw [← htw.out, if_pos h1]
      have t2 := set_block P5 (j := 2) (.int .u64 0)
      have tb := B5.setCell (p := ⟨w2.heap.size, 2, none⟩) hcb (.int .u64 0)
      have ty : (w5.setCell ⟨w2.heap.size, 2, none⟩ (.int .u64 0)).heap[w.heap.size + 1]? = _ := (set_other (by omega)).trans Y5
      have to := ow_set1 (g := w2.heap.size) (j := 2) O5 P5 (by decide) (.int .u64 0)
      obtain ⟨f0, f1, f2, f3⟩ := f_cells4 P5
      obtain ⟨w6, hw6⟩ : ∃ W, w5.setCell ⟨w2.heap.size, 2, none⟩ (.int .u64 0) = W := ⟨_, rfl⟩
      rw [hw6] at t2 tb ty to
      have t2' : w6.heap[w2.heap.size]? = some (.cells #[.int .i64 kd, .slice va ks.length vc, .int .u64 0, .int .i64 tt] 43 (0, 0)) := t2
      obtain ⟨n0, n1, n2, n3⟩ := cells4 t2'
      obtain ⟨o0, o1, o2, o3⟩ := cells4 ty
      obtain ⟨g0, g1, g2, g3⟩ := f_cells4 ty
      have S4 := set4_block ty (.int .i64 kd) (.slice va ks.length vc) (.int .u64 0) (.int .i64 tt)
      have B4 := set4_below (.int .i64 kd) (.slice va ks.length vc) (.int .u64 0) (.int .i64 tt) (g := w.heap.size + 1) (HC.out _ tb).1 (Nat.le_succ _)
      have O4 := ow_set4 (g := w.heap.size + 1) to ty (by decide) (.int .i64 kd) (.slice va ks.length vc) (.int .u64 0) (.int .i64 tt)
      unfold set4 at S4 B4 O4
      clear h1 t2 t2' tb ty to P5 B5 O5 X5 Y5
      go_wp2
      refine bodyPost_ret (results_cl rfl _ _ (w.heap.size + 1) _ _ _ _ rfl S4) rfl ?_
      exact ⟨⟨(va, vc), by first | (rw [E.out]; done) | (rw [E.out]; rfl), O4.mono (by omega)⟩, B4⟩
    · have h1b : (kd == 1) = false := by simpa using h1
      have E : Hid (tw = tk) := by show _ = _; rw [← htw.out, if_neg h1]
      obtain ⟨g0, g1, g2, g3⟩ := f_cells4 Y5
      have S4 := set4_block Y5 (.int .i64 kd) (.slice va ks.length vc) (.int .u64 (tk : Int)) (.int .i64 tt)
      have B4 := set4_below (.int .i64 kd) (.slice va ks.length vc) (.int .u64 (tk : Int)) (.int .i64 tt) (g := w.heap.size + 1) (HC.out _ B5).1 (Nat.le_succ _)
      have O4 := ow_set4 (g := w.heap.size + 1) O5 Y5 (by decide) (.int .i64 kd) (.slice va ks.length vc) (.int .u64 (tk : Int)) (.int .i64 tt)
      unfold set4 at S4 B4 O4
      clear h1 P5 B5 O5 X5 Y5
      go_wp2
      refine bodyPost_ret (results_cl rfl _ _ (w.heap.size + 1) _ _ _ _ rfl S4) rfl ?_
      exact ⟨⟨(va, vc), by first | (rw [E.out]; done) | (rw [E.out]; rfl), O4.mono (by omega)⟩, B4⟩
  · intro K' hK'
    obtain ⟨r1, r2, r3⟩ := one_box wd (.cells #[.int .i64 0, .slice none 0 0, .int .u64 0, .int .i64 0] 43)
    have hbq := hb0.trans (r3.mono hz0)
    obtain ⟨wq, hwq⟩ : ∃ W, wd.alloc (.cells #[.int .i64 0, .slice none 0 0, .int .u64 0, .int .i64 0] 43) = W := ⟨_, rfl⟩
    rw [hwq] at r1 r2 r3 hbq
    have hzq : w.heap.size + 2 ≤ wq.heap.size := by omega
    have hzr : wd.heap.size < wq.heap.size := by omega
    clear r1
    go_simp
    refine hK'.out _ _ (.inr (cl _ hbq)) ?_
    clear hK' K'
    try simp only [List.getElem_toArray, List.getElem_cons_succ, List.getElem_cons_zero, Act.put, List.setIfInBounds_toArray, List.set_cons_zero, List.set_cons_succ]
    refine wpAnyL_one 4 (by kernel_rfl) rfl (by kernel_rfl) ?_
    intro K' hK'
    go_simp
    go_at_call 43
    refine (KC _ hbq).mono ?_
    rintro e w2 ⟨v_, rfl, hO, hbc⟩
    obtain ⟨va, vc, hv_, -⟩ := hO.1.shape
    subst hv_
    have hbz := hbq.trans (hbc.mono hzq)
    have hOz := hO.mono hzq
    have pz := (hbc.block wd.heap.size hzr).trans r2
    refine hK'.out _ _ (.inr (cl _ hbz)) ?_
    clear hK' K'
    try simp only [List.getElem_toArray, List.getElem_cons_succ, List.getElem_cons_zero, Act.put, List.setIfInBounds_toArray, List.set_cons_zero, List.set_cons_succ]
    refine wpAnyL_take 9 rfl (by kernel_rfl) (by kernel_rfl) (by kernel_rfl) (by kernel_rfl) (fun _ _ _ h => h) (by kernel_rfl) (by intro w' hS'; obtain ⟨⟨x0, x1, x2, x3⟩, xb⟩ := hS'; go_simp <;> rfl) (cl _ hbz) ?_
    try simp only [List.getElem_toArray, List.getElem_cons_succ, List.getElem_cons_zero, Act.put, List.setIfInBounds_toArray, List.set_cons_zero, List.set_cons_succ]
    clear r2 r3 hbc hO yS
    have hcb : w.heap.size + 2 ≤ wd.heap.size := by omega
    obtain ⟨f0, f1, f2, f3⟩ := f_cells4 pz
    have P5 := set4_block pz (.int .i64 kd) (.slice va ks.length vc) (.int .u64 (tk : Int)) (.int .i64 tt)
    have B5 := set4_below (.int .i64 kd) (.slice va ks.length vc) (.int .u64 (tk : Int)) (.int .i64 tt) (g := wd.heap.size) hbz hcb
    have O5 := ow_set4 (g := wd.heap.size) hOz pz (by decide) (.int .i64 kd) (.slice va ks.length vc) (.int .u64 (tk : Int)) (.int .i64 tt)
    unfold set4 at P5 B5 O5
    obtain ⟨w5, hw5⟩ : ∃ W, (((w2.setCell ⟨wd.heap.size, 0, none⟩ (.int .i64 kd)).setCell ⟨wd.heap.size, 1, none⟩ (.slice va ks.length vc)).setCell ⟨wd.heap.size, 2, none⟩ (.int .u64 (tk : Int))).setCell ⟨wd.heap.size, 3, none⟩ (.int .i64 tt) = W := ⟨_, rfl⟩
    rw [hw5] at P5 B5 O5
    obtain ⟨z0, z1, z2, z3⟩ := cells4 pz
    refine wpAnyL_one 11 (by kernel_rfl) rfl (by kernel_rfl) ?_
    intro K' hK'
    go_simp
    refine hK'.out _ _ (.inl (by decide)) ?_
    clear hK' K'
    try simp only [List.getElem_toArray, List.getElem_cons_succ, List.getElem_cons_zero, Act.put, List.setIfInBounds_toArray, List.set_cons_zero, List.set_cons_succ]
    refine wpAnyL_done (by kernel_rfl) (NoPanic.normal ?_) _
    clear f0 f1 f2 f3 z0 z1 z2 z3 hw5 pz hbz hOz
    obtain ⟨-, X5, Y5⟩ := HC.out _ B5
    obtain ⟨d0, d1, d2, d3, d4, d5, d6, d7, d8, d9, d10⟩ := cells11 X5
    obtain ⟨m0, m1, m2, m3⟩ := cells4 P5
    obtain ⟨y0, y1, y2', y3⟩ := cells4 Y5
    by_cases h1 : kd = 1
    · have h1b : (kd == 1) = true := by simpa using h1
      have E : Hid (tw = 0) := by show _ = _; rw [← htw.out, if_pos h1]
      have t2 := set_block P5 (j := 2) (.int .u64 0)
      have tb := B5.setCell (p := ⟨wd.heap.size, 2, none⟩) hcb (.int .u64 0)
      have ty : (w5.setCell ⟨wd.heap.size, 2, none⟩ (.int .u64 0)).heap[w.heap.size + 1]? = _ := (set_other (by omega)).trans Y5
      have to := ow_set1 (g := wd.heap.size) (j := 2) O5 P5 (by decide) (.int .u64 0)
      obtain ⟨f0, f1, f2, f3⟩ := f_cells4 P5
      obtain ⟨w6, hw6⟩ : ∃ W, w5.setCell ⟨wd.heap.size, 2, none⟩ (.int .u64 0) = W := ⟨_, rfl⟩
      rw [hw6] at t2 tb ty to
      have t2' : w6.heap[wd.heap.size]? = some (.cells #[.int .i64 kd, .slice va ks.length vc, .int .u64 0, .int .i64 tt] 43 (0, 0)) := t2
      obtain ⟨n0, n1, n2, n3⟩ := cells4 t2'
      obtain ⟨o0, o1, o2, o3⟩ := cells4 ty
      obtain ⟨g0, g1, g2, g3⟩ := f_cells4 ty
      have S4 := set4_block ty (.int .i64 kd) (.slice va ks.length vc) (.int .u64 0) (.int .i64 tt)
      have B4 := set4_below (.int .i64 kd) (.slice va ks.length vc) (.int .u64 0) (.int .i64 tt) (g := w.heap.size + 1) (HC.out _ tb).1 (Nat.le_succ _)
      have O4 := ow_set4 (g := w.heap.size + 1) to ty (by decide) (.int .i64 kd) (.slice va ks.length vc) (.int .u64 0) (.int .i64 tt)
      unfold set4 at S4 B4 O4
      clear h1 t2 t2' tb ty to P5 B5 O5 X5 Y5
      go_wp2
      refine bodyPost_ret (results_cl rfl _ _ (w.heap.size + 1) _ _ _ _ rfl S4) rfl ?_
      exact ⟨⟨(va, vc), by first | (rw [E.out]; done) | (rw [E.out]; rfl), O4.mono (by omega)⟩, B4⟩
    · have h1b : (kd == 1) = false := by simpa using h1
      have E : Hid (tw = tk) := by show _ = _; rw [← htw.out, if_neg h1]
      obtain ⟨g0, g1, g2, g3⟩ := f_cells4 Y5
      have S4 := set4_block Y5 (.int .i64 kd) (.slice va ks.length vc) (.int .u64 (tk : Int)) (.int .i64 tt)
      have B4 := set4_below (.int .i64 kd) (.slice va ks.length vc) (.int .u64 (tk : Int)) (.int .i64 tt) (g := w.heap.size + 1) (HC.out _ B5).1 (Nat.le_succ _)
      have O4 := ow_set4 (g := w.heap.size + 1) O5 Y5 (by decide) (.int .i64 kd) (.slice va ks.length vc) (.int .u64 (tk : Int)) (.int .i64 tt)
      unfold set4 at S4 B4 O4
      clear h1 P5 B5 O5 X5 Y5
      go_wp2
      refine bodyPost_ret (results_cl rfl _ _ (w.heap.size + 1) _ _ _ _ rfl S4) rfl ?_
      exact ⟨⟨(va, vc), by first | (rw [E.out]; done) | (rw [E.out]; rfl), O4.mono (by omega)⟩, B4⟩
end Go.Proofs.Ytglbjimpaoikfaa

