import Derived.Test.YtglbjimpaoikfaaHe21
import Derived.Test.YtglbjimpaoikfaaHe01
/- What is to be prepared: Call of the document, of the program; told. -/
namespace Go.Proofs.Ytglbjimpaoikfaa
open Go.RowKit LeaseMath
set_option maxRecDepth 100000
set_option linter.unusedSimpArgs false
set_option linter.unusedVariables false

/-- Four cells are turned. -/
def set4 (w : World) (g : Nat) (a b c d : Value) : World := (((w.setCell ⟨g, 0, none⟩ a).setCell ⟨g, 1, none⟩ b).setCell ⟨g, 2, none⟩ c).setCell ⟨g, 3, none⟩ d
theorem set4_block {w : World} {g : Nat} {a b c d : Value} {t : TypeId} (h : w.heap[g]? = some (.cells #[a, b, c, d] t (0, 0))) (a' b' c' d' : Value) : (set4 w g a' b' c' d').heap[g]? = some (.cells #[a', b', c', d'] t (0, 0)) := by
  unfold set4
  rw [set_block (set_block (set_block (set_block h _) _) _) _]
  simp
theorem set4_below {n g : Nat} {w0 w : World} (a b c d : Value) (hB : Below n w0 w) (hn : n ≤ g) : Below n w0 (set4 w g a b c d) := (((hB.setCell (p := ⟨g, 0, none⟩) hn _).setCell (p := ⟨g, 1, none⟩) hn _).setCell (p := ⟨g, 2, none⟩) hn _).setCell (p := ⟨g, 3, none⟩) hn _
theorem f_cells4 {w : World} {g : Nat} {a b c d : Value} {t : TypeId} (h : w.heap[g]? = some (.cells #[a, b, c, d] t (0, 0))) : (w.frozen? ⟨g, 0, none⟩ = false ∧ w.frozen? ⟨g, 1, none⟩ = false ∧ w.frozen? ⟨g, 2, none⟩ = false ∧ w.frozen? ⟨g, 3, none⟩ = false) := ⟨frozen_of h 0, frozen_of h 1, frozen_of h 2, frozen_of h 3⟩
theorem results_cl {fn : Func} {p : Tmp} (h : fn.results = #[.cell p 43]) (tmps : Array Value) (w : World) (g : Nat) (a b c d : Value)
    (hp : tmps.getD p undef = .pointer (some ⟨g, 0, none⟩)) (hg : w.heap[g]? = some (.cells #[a, b, c, d] 43 (0, 0))) :
    (results fn tmps).run Try.prog w = .ok (.agg #[a, b, c, d]) w := by
  have hp' : tmps[p]?.getD undef = .pointer (some ⟨g, 0, none⟩) := by simpa using hp
  simp [results, h, hp', asAddr, run_loadVar_row w g 43 43 #[a, b, c, d] (0, 0) _ hg Try.underlying43 rfl (by kernel_rfl)]
theorem two_boxesX (w : World) (x y : Obj) : ((w.alloc x).alloc y).heap.size = w.heap.size + 2 ∧ ((w.alloc x).alloc y).heap[w.heap.size]? = some x ∧ ((w.alloc x).alloc y).heap[w.heap.size + 1]? = some y ∧ Below w.heap.size w ((w.alloc x).alloc y) := by
  obtain ⟨a1, a2, a3⟩ := one_box w x
  obtain ⟨b1, b2, b3⟩ := one_box (w.alloc x) y
  rw [a1] at b1 b2 b3
  exact ⟨b1, (b3.block w.heap.size (Nat.lt_succ_self _)).trans a2, b2, a3.trans (b3.mono (Nat.le_succ _))⟩
set_option maxHeartbeats 4000000 in
theorem rcallv_of (z : Xz) (w : World) : Calls Try.prog 21 #[xv z] w fun e w' => e = .returned (cv (callM z.t) z.k) ∧ Below w.heap.size w w' := by
  obtain ⟨q1, q2, q3, q4⟩ := two_boxesX w (xc z) (.cells #[.int .i64 0, .slice none 0 0, .int .u64 0, .int .i64 0] 43)
  obtain ⟨w0, hw0⟩ : ∃ W, (w.alloc (xc z)).alloc (.cells #[.int .i64 0, .slice none 0 0, .int .u64 0, .int .i64 0] 43) = W := ⟨_, rfl⟩
  rw [hw0] at q1 q2 q3 q4
  obtain ⟨⟨⟨i1, i2⟩, kd, ks, tk, tt, gs, st, ys, ds, cd⟩, ⟨ka, kc⟩, ⟨ga, gc⟩, ⟨ya, yc⟩, ⟨da, dc⟩⟩ := z
  dsimp only [xv, xc, cv, callM] at *
  obtain ⟨c0, c1, c2, c3, c4, c5, c6, c7, c8, c9, c10⟩ := cells11 q2
  obtain ⟨r1, r2, r3⟩ := one_box w0 (.cells #[.int .i64 kd, .slice ka ks.length kc, .int .u64 0, .int .i64 tt] 43)
  obtain ⟨w2, hw2⟩ : ∃ W, w0.alloc (.cells #[.int .i64 kd, .slice ka ks.length kc, .int .u64 0, .int .i64 tt] 43) = W := ⟨_, rfl⟩
  rw [hw2] at r1 r2 r3
  have hz : w.heap.size + 2 ≤ w0.heap.size := by omega
  have hb2 := q4.trans (r3.mono (by omega))
  have x2 := (r3.block w.heap.size (by omega)).trans q2
  have y2 := (r3.block (w.heap.size + 1) (by omega)).trans q3
  obtain ⟨d0, d1, d2, d3, d4, d5, d6, d7, d8, d9, d10⟩ := cells11 x2
  obtain ⟨m0, m1, m2, m3⟩ := cells4 r2
  obtain ⟨y0, y1, y2', y3⟩ := cells4 y2
  clear q1 q2 q3 q4 r1
  by_cases h1 : kd = 1
  · have h1b : (kd != 1) = false := by simp [h1]
    obtain ⟨f0, f1, f2, f3⟩ := f_cells4 y2
    have S := set4_block y2 (.int .i64 kd) (.slice ka ks.length kc) (.int .u64 0) (.int .i64 tt)
    have B := set4_below (.int .i64 kd) (.slice ka ks.length kc) (.int .u64 0) (.int .i64 tt) (g := w.heap.size + 1) hb2 (Nat.le_succ _)
    have E : Hid ((if kd = 1 then (0 : Nat) else tk) = 0) := by show _ = _; rw [if_pos h1]
    rw [E.out]
    unfold set4 at S B
    clear h1 E
    go_enter Try.func21, Try.ntmps21
    go_wp2
    refine bodyPost_ret (results_cl rfl _ _ (w.heap.size + 1) _ _ _ _ rfl S) rfl ?_
    exact ⟨rfl, B⟩
  · have h1b : (kd != 1) = true := by simpa using h1
    have E : Hid ((if kd = 1 then (0 : Nat) else tk) = tk) := by show _ = _; rw [if_neg h1]
    rw [E.out]
    have t2 := set_block r2 (j := 2) (.int .u64 (tk : Int))
    have tb := hb2.setCell (p := ⟨w0.heap.size, 2, none⟩) (by show _ ≤ w0.heap.size; omega) (.int .u64 (tk : Int))
    have ty : (w2.setCell ⟨w0.heap.size, 2, none⟩ (.int .u64 (tk : Int))).heap[w.heap.size + 1]? = _ := (set_other (by omega)).trans y2
    obtain ⟨f0, f1, f2, f3⟩ := f_cells4 r2
    obtain ⟨w3, hw3⟩ : ∃ W, w2.setCell ⟨w0.heap.size, 2, none⟩ (.int .u64 (tk : Int)) = W := ⟨_, rfl⟩
    rw [hw3] at t2 tb ty
    have t2' : w3.heap[w0.heap.size]? = some (.cells #[.int .i64 kd, .slice ka ks.length kc, .int .u64 (tk : Int), .int .i64 tt] 43 (0, 0)) := t2
    obtain ⟨n0, n1, n2, n3⟩ := cells4 t2'
    obtain ⟨o0, o1, o2, o3⟩ := cells4 ty
    obtain ⟨g0, g1, g2, g3⟩ := f_cells4 ty
    have S := set4_block ty (.int .i64 kd) (.slice ka ks.length kc) (.int .u64 (tk : Int)) (.int .i64 tt)
    have B := set4_below (.int .i64 kd) (.slice ka ks.length kc) (.int .u64 (tk : Int)) (.int .i64 tt) (g := w.heap.size + 1) tb (Nat.le_succ _)
    unfold set4 at S B
    clear h1 E t2 t2' tb ty hb2 x2 y2 r2 r3
    go_enter Try.func21, Try.ntmps21
    go_wp2
    refine bodyPost_ret (results_cl rfl _ _ (w.heap.size + 1) _ _ _ _ rfl S) rfl ?_
    exact ⟨rfl, B⟩
theorem told_of (z : Xz) (w : World) : Calls Try.prog 41 #[xv z] w fun e w' => e = .returned (.bool (decide (z.t.state = 2) || decide (z.t.state = 3))) ∧ Below w.heap.size w w' := by
  obtain ⟨q1, q2, q3⟩ := x_box w z
  obtain ⟨w0, hw0⟩ : ∃ W, w.alloc (xc z) = W := ⟨_, rfl⟩
  rw [hw0] at q1 q2 q3
  obtain ⟨⟨⟨i1, i2⟩, kd, ks, tk, tt, gs, st, ys, ds, cd⟩, ⟨ka, kc⟩, ⟨ga, gc⟩, ⟨ya, yc⟩, ⟨da, dc⟩⟩ := z
  dsimp only [xv, xc] at *
  obtain ⟨c0, c1, c2, c3, c4, c5, c6, c7, c8, c9, c10⟩ := cells11 q2
  clear q1 q2
  by_cases h : st = 2
  · have hd : (st == 2) = true := by simpa using h
    rw [decide_eq_true h]
    clear h
    go_enter Try.func41, Try.ntmps41
    go_wp2
    go_ret
    exact ⟨rfl, q3⟩
  · have hd : (st == 2) = false := by simpa using h
    rw [decide_eq_false h]
    by_cases h' : st = 3
    · have hd' : (st == 3) = true := by simpa using h'
      rw [decide_eq_true h']
      clear h h'
      go_enter Try.func41, Try.ntmps41
      go_wp2
      go_ret
      exact ⟨rfl, q3⟩
    · have hd' : (st == 3) = false := by simpa using h'
      rw [decide_eq_false h']
      clear h h'
      go_enter Try.func41, Try.ntmps41
      go_wp2
      go_ret
      exact ⟨rfl, q3⟩
end Go.Proofs.Ytglbjimpaoikfaa

/- Call of the program. -/
namespace Go.Proofs.Ytglbjimpaoikfaa
open Go.RowKit LeaseMath
set_option maxRecDepth 100000
set_option linter.unusedSimpArgs false
set_option linter.unusedVariables false

theorem Ow.at_other {α : Type} {E : El α} {t t' : TypeId} {n g : Nat} {w w' : World} {v : Value} {l : List α} {cs : Array Value} (h : Ow E t n w v l) (hg : w.heap[g]? = some (.cells cs t' (0, 0))) (hne : t ≠ t') (hw : ∀ k, k ≠ g → w'.heap[k]? = w.heap[k]?) : Ow E t n w' v l := ⟨h.1.same fun k hk => hw k fun e => by
  obtain ⟨cs', hc⟩ := h.1.block hk
  rw [e, hg] at hc
  simp only [Option.some.injEq, Obj.cells.injEq] at hc
  exact hne hc.2.1.symm, h.2⟩
theorem set4_other {w : World} {g k : Nat} (a b c d : Value) (h : k ≠ g) : (set4 w g a b c d).heap[k]? = w.heap[k]? := by
  unfold set4
  rw [set_other h, set_other h, set_other h, set_other h]
theorem ow_set4 {α : Type} {E : El α} {t t' : TypeId} {n g : Nat} {w : World} {v : Value} {l : List α} {cs : Array Value} (h : Ow E t n w v l) (hg : w.heap[g]? = some (.cells cs t' (0, 0))) (hne : t ≠ t') (a b c d : Value) : Ow E t n (set4 w g a b c d) v l := h.at_other hg hne fun k hk => set4_other a b c d hk
theorem ow_set1 {α : Type} {E : El α} {t t' : TypeId} {n g j : Nat} {w : World} {v : Value} {l : List α} {cs : Array Value} (h : Ow E t n w v l) (hg : w.heap[g]? = some (.cells cs t' (0, 0))) (hne : t ≠ t') (u : Value) : Ow E t n (w.setCell ⟨g, j, none⟩ u) v l := h.at_other hg hne fun k hk => set_other hk
set_option maxHeartbeats 8000000 in
theorem pcallv_of (z : Xz) (w : World) (hK : Rd kyE w (.slice z.k.1 z.t.keys.length z.k.2) z.t.keys) (hlen : z.t.keys.length ≤ 1000000) : Calls Try.prog 20 #[xv z] w fun e w' => (∃ a : Sa, e = .returned (cv (callM z.t) a) ∧ Ow kyE 9 w.heap.size w' (.slice a.1 z.t.keys.length a.2) z.t.keys) ∧ Below w.heap.size w w' := by
  obtain ⟨q1, q2, q3, q4⟩ := two_boxesX w (xc z) (.cells #[.int .i64 0, .slice none 0 0, .int .u64 0, .int .i64 0] 43)
  obtain ⟨w0, hw0⟩ : ∃ W, (w.alloc (xc z)).alloc (.cells #[.int .i64 0, .slice none 0 0, .int .u64 0, .int .i64 0] 43) = W := ⟨_, rfl⟩
  rw [hw0] at q1 q2 q3 q4
  have KC0 : Hid (∀ W, Below w.heap.size w W → _) := fun W hW => clonek_of z.t.keys _ W (hK.below hW) hlen
  obtain ⟨⟨⟨i1, i2⟩, kd, ks, tk, tt, gs, st, ys, ds, cd⟩, ⟨ka, kc⟩, ⟨ga, gc⟩, ⟨ya, yc⟩, ⟨da, dc⟩⟩ := z
  dsimp only [xv, xc, cv, callM] at *
  obtain ⟨tw, htw⟩ : ∃ n : Nat, Hid ((if kd = 1 then (0 : Nat) else tk) = n) := ⟨_, rfl⟩
  rw [htw.out]
  have HC : Hid (∀ W, Below (w.heap.size + 2) w0 W → Below w.heap.size w W ∧ W.heap[w.heap.size]? = _ ∧ W.heap[w.heap.size + 1]? = _) := fun W hW => ⟨q4.trans (hW.mono (by omega)), (hW.block w.heap.size (by omega)).trans q2, (hW.block (w.heap.size + 1) (by omega)).trans q3⟩
  have hz : w.heap.size + 2 ≤ w0.heap.size := by omega
  have cl : ∀ W, Below (w.heap.size + 2) w0 W → (fun W => (W.cell? ⟨w.heap.size, 2, none⟩ = some (.int .i64 kd) ∧ W.cell? ⟨w.heap.size, 3, none⟩ = some (.slice ka ks.length kc) ∧ W.cell? ⟨w.heap.size, 4, none⟩ = some (.int .u64 (tk : Int)) ∧ W.cell? ⟨w.heap.size, 5, none⟩ = some (.int .i64 tt)) ∧ Below (w.heap.size + 2) w0 W) W := fun W hW => ⟨⟨(cells11 (HC.out _ hW).2.1).2.2.1, (cells11 (HC.out _ hW).2.1).2.2.2.1, (cells11 (HC.out _ hW).2.1).2.2.2.2.1, (cells11 (HC.out _ hW).2.1).2.2.2.2.2.1⟩, hW⟩
  have KC := fun W (hW : Below (w.heap.size + 2) w0 W) => KC0.out W (HC.out _ hW).1
  have hb0 : Below (w.heap.size + 2) w0 w0.drew := (Below.refl _ w0).drew
  have hz0 : w.heap.size + 2 ≤ w0.drew.heap.size := hz
  clear q1 q2 q3 q4 hK KC0
  go_enter Try.func20, Try.ntmps20
  go_wp2
  refine wp_region_L (fun W => (W.cell? ⟨w.heap.size, 2, none⟩ = some (.int .i64 kd) ∧ W.cell? ⟨w.heap.size, 3, none⟩ = some (.slice ka ks.length kc) ∧ W.cell? ⟨w.heap.size, 4, none⟩ = some (.int .u64 (tk : Int)) ∧ W.cell? ⟨w.heap.size, 5, none⟩ = some (.int .i64 tt)) ∧ Below (w.heap.size + 2) w0 W) [11] (by kernel_rfl) ?_
  generalize w0.drew = wd at *
  have yS := cl wd hb0
  refine wpAnyL_take 0 rfl (by kernel_rfl) (by kernel_rfl) (by kernel_rfl) (by kernel_rfl) (fun _ _ _ h => h) (by kernel_rfl) (by intro w' hS'; obtain ⟨⟨x0, x1, x2, x3⟩, xb⟩ := hS'; go_simp <;> rfl) yS ?_
  try simp only [List.getElem_toArray, List.getElem_cons_succ, List.getElem_cons_zero, Act.put, List.setIfInBounds_toArray, List.set_cons_zero, List.set_cons_succ]
  refine wpAnyL_take 1 rfl (by kernel_rfl) (by kernel_rfl) (by kernel_rfl) (by kernel_rfl) (fun _ _ _ h => h) (by kernel_rfl) (by intro w' hS'; obtain ⟨⟨x0, x1, x2, x3⟩, xb⟩ := hS'; go_simp <;> rfl) yS ?_
  try simp only [List.getElem_toArray, List.getElem_cons_succ, List.getElem_cons_zero, Act.put, List.setIfInBounds_toArray, List.set_cons_zero, List.set_cons_succ]
  refine wpAnyL_take 2 rfl (by kernel_rfl) (by kernel_rfl) (by kernel_rfl) (by kernel_rfl) (fun _ _ _ h => h) (by kernel_rfl) (by intro w' hS'; obtain ⟨⟨x0, x1, x2, x3⟩, xb⟩ := hS'; go_simp <;> rfl) yS ?_
  try simp only [List.getElem_toArray, List.getElem_cons_succ, List.getElem_cons_zero, Act.put, List.setIfInBounds_toArray, List.set_cons_zero, List.set_cons_succ]
  refine wpAnyL_take 3 rfl (by kernel_rfl) (by kernel_rfl) (by kernel_rfl) (by kernel_rfl) (fun _ _ _ h => h) (by kernel_rfl) (by intro w' hS'; obtain ⟨⟨x0, x1, x2, x3⟩, xb⟩ := hS'; go_simp <;> rfl) yS ?_
  try simp only [List.getElem_toArray, List.getElem_cons_succ, List.getElem_cons_zero, Act.put, List.setIfInBounds_toArray, List.set_cons_zero, List.set_cons_succ]
  refine wpAnyL_take 5 rfl (by kernel_rfl) (by kernel_rfl) (by kernel_rfl) (by kernel_rfl) (fun _ _ _ h => h) (by kernel_rfl) (by intro w' hS'; obtain ⟨⟨x0, x1, x2, x3⟩, xb⟩ := hS'; go_simp <;> rfl) yS ?_
  try simp only [List.getElem_toArray, List.getElem_cons_succ, List.getElem_cons_zero, Act.put, List.setIfInBounds_toArray, List.set_cons_zero, List.set_cons_succ]
  refine wpAnyL_take 6 rfl (by kernel_rfl) (by kernel_rfl) (by kernel_rfl) (by kernel_rfl) (fun _ _ _ h => h) (by kernel_rfl) (by intro w' hS'; obtain ⟨⟨x0, x1, x2, x3⟩, xb⟩ := hS'; go_simp <;> rfl) yS ?_
  try simp only [List.getElem_toArray, List.getElem_cons_succ, List.getElem_cons_zero, Act.put, List.setIfInBounds_toArray, List.set_cons_zero, List.set_cons_succ]
  refine wpAnyL_take 7 rfl (by kernel_rfl) (by kernel_rfl) (by kernel_rfl) (by kernel_rfl) (fun _ _ _ h => h) (by kernel_rfl) (by intro w' hS'; obtain ⟨⟨x0, x1, x2, x3⟩, xb⟩ := hS'; go_simp <;> rfl) yS ?_
  try simp only [List.getElem_toArray, List.getElem_cons_succ, List.getElem_cons_zero, Act.put, List.setIfInBounds_toArray, List.set_cons_zero, List.set_cons_succ]
  refine wpAnyL_take 8 rfl (by kernel_rfl) (by kernel_rfl) (by kernel_rfl) (by kernel_rfl) (fun _ _ _ h => h) (by kernel_rfl) (by intro w' hS'; obtain ⟨⟨x0, x1, x2, x3⟩, xb⟩ := hS'; go_simp <;> rfl) yS ?_
  try simp only [List.getElem_toArray, List.getElem_cons_succ, List.getElem_cons_zero, Act.put, List.setIfInBounds_toArray, List.set_cons_zero, List.set_cons_succ]
  refine wpAnyL_two 4 10 (by kernel_rfl) rfl rfl (by kernel_rfl) (by kernel_rfl) ?_ ?_
  · intro K' hK'
    go_simp
    go_at_call 43
    refine (KC _ hb0).mono ?_
    rintro e w2 ⟨v_, rfl, hO, hbc⟩
    obtain ⟨va, vc, hv_, -⟩ := hO.1.shape
    subst hv_
    have hb2 := hb0.trans (hbc.mono hz0)
    refine hK'.out _ _ (.inr (cl _ hb2)) ?_
    clear hK' K'
    try simp only [List.getElem_toArray, List.getElem_cons_succ, List.getElem_cons_zero, Act.put, List.setIfInBounds_toArray, List.set_cons_zero, List.set_cons_succ]
    refine wpAnyL_take 9 rfl (by kernel_rfl) (by kernel_rfl) (by kernel_rfl) (by kernel_rfl) (fun _ _ _ h => h) (by kernel_rfl) (by intro w' hS'; obtain ⟨⟨x0, x1, x2, x3⟩, xb⟩ := hS'; go_simp <;> rfl) (cl _ hb2) ?_
    try simp only [List.getElem_toArray, List.getElem_cons_succ, List.getElem_cons_zero, Act.put, List.setIfInBounds_toArray, List.set_cons_zero, List.set_cons_succ]
    obtain ⟨r1, r2, r3⟩ := one_box w2 (.cells #[.int .i64 0, .slice none 0 0, .int .u64 0, .int .i64 0] 43)
    have hz2 : w.heap.size + 2 ≤ w2.heap.size := Nat.le_trans hz0 hbc.size
    have hbz := hb2.trans (r3.mono hz2)
    have hOz := (hO.mono hz0).below r3
    obtain ⟨wz, hwz⟩ : ∃ W, w2.alloc (.cells #[.int .i64 0, .slice none 0 0, .int .u64 0, .int .i64 0] 43) = W := ⟨_, rfl⟩
    rw [hwz] at r1 r2 r3 hbz hOz
    have pz := r2
    refine wpAnyL_one 10 (by kernel_rfl) rfl (by kernel_rfl) ?_
    intro K' hK'
    go_simp
    refine hK'.out _ _ (.inr (cl _ hbz)) ?_
    clear hK' K'
    try simp only [List.getElem_toArray, List.getElem_cons_succ, List.getElem_cons_zero, Act.put, List.setIfInBounds_toArray, List.set_cons_zero, List.set_cons_succ]
    clear r1 r2 r3 hbc hO yS hb2
    have hcb : w.heap.size + 2 ≤ w2.heap.size := by omega
    obtain ⟨f0, f1, f2, f3⟩ := f_cells4 pz
    have P5 := set4_block pz (.int .i64 kd) (.slice va ks.length vc) (.int .u64 (tk : Int)) (.int .i64 tt)
    have B5 := set4_below (.int .i64 kd) (.slice va ks.length vc) (.int .u64 (tk : Int)) (.int .i64 tt) (g := w2.heap.size) hbz hcb
    have O5 := ow_set4 (g := w2.heap.size) hOz pz (by decide) (.int .i64 kd) (.slice va ks.length vc) (.int .u64 (tk : Int)) (.int .i64 tt)
    unfold set4 at P5 B5 O5
    obtain ⟨w5, hw5⟩ : ∃ W, (((wz.setCell ⟨w2.heap.size, 0, none⟩ (.int .i64 kd)).setCell ⟨w2.heap.size, 1, none⟩ (.slice va ks.length vc)).setCell ⟨w2.heap.size, 2, none⟩ (.int .u64 (tk : Int))).setCell ⟨w2.heap.size, 3, none⟩ (.int .i64 tt) = W := ⟨_, rfl⟩
    rw [hw5] at P5 B5 O5
    obtain ⟨z0, z1, z2, z3⟩ := cells4 pz
    refine wpAnyL_one 11 (by kernel_rfl) rfl (by kernel_rfl) ?_
    intro K' hK'
    go_simp
    refine hK'.out _ _ (.inl (by decide)) ?_
    clear hK' K'
    try simp only [List.getElem_toArray, List.getElem_cons_succ, List.getElem_cons_zero, Act.put, List.setIfInBounds_toArray, List.set_cons_zero, List.set_cons_succ]
    refine wpAnyL_done (by kernel_rfl) (NoPanic.normal ?_) _
    clear f0 f1 f2 f3 z0 z1 z2 z3 hw5 pz hbz hOz
    obtain ⟨-, X5, Y5⟩ := HC.out _ B5
    obtain ⟨d0, d1, d2, d3, d4, d5, d6, d7, d8, d9, d10⟩ := cells11 X5
    obtain ⟨m0, m1, m2, m3⟩ := cells4 P5
    obtain ⟨y0, y1, y2', y3⟩ := cells4 Y5
    by_cases h1 : kd = 1
    · have h1b : (kd == 1) = true := by simpa using h1
      have E : Hid (tw = 0) := by show _ = _; rw [← htw.out, if_pos h1]
      have t2 := set_block P5 (j := 2) (.int .u64 0)
      have tb := B5.setCell (p := ⟨w2.heap.size, 2, none⟩) hcb (.int .u64 0)
      have ty : (w5.setCell ⟨w2.heap.size, 2, none⟩ (.int .u64 0)).heap[w.heap.size + 1]? = _ := (set_other (by omega)).trans Y5
      have to := ow_set1 (g := w2.heap.size) (j := 2) O5 P5 (by decide) (.int .u64 0)
      obtain ⟨f0, f1, f2, f3⟩ := f_cells4 P5
      obtain ⟨w6, hw6⟩ : ∃ W, w5.setCell ⟨w2.heap.size, 2, none⟩ (.int .u64 0) = W := ⟨_, rfl⟩
      rw [hw6] at t2 tb ty to
      have t2' : w6.heap[w2.heap.size]? = some (.cells #[.int .i64 kd, .slice va ks.length vc, .int .u64 0, .int .i64 tt] 43 (0, 0)) := t2
      obtain ⟨n0, n1, n2, n3⟩ := cells4 t2'
      obtain ⟨o0, o1, o2, o3⟩ := cells4 ty
      obtain ⟨g0, g1, g2, g3⟩ := f_cells4 ty
      have S4 := set4_block ty (.int .i64 kd) (.slice va ks.length vc) (.int .u64 0) (.int .i64 tt)
      have B4 := set4_below (.int .i64 kd) (.slice va ks.length vc) (.int .u64 0) (.int .i64 tt) (g := w.heap.size + 1) (HC.out _ tb).1 (Nat.le_succ _)
      have O4 := ow_set4 (g := w.heap.size + 1) to ty (by decide) (.int .i64 kd) (.slice va ks.length vc) (.int .u64 0) (.int .i64 tt)
      unfold set4 at S4 B4 O4
      clear h1 t2 t2' tb ty to P5 B5 O5 X5 Y5
      go_wp2
      refine bodyPost_ret (results_cl rfl _ _ (w.heap.size + 1) _ _ _ _ rfl S4) rfl ?_
      exact ⟨⟨(va, vc), by first | (rw [E.out]; done) | (rw [E.out]; rfl), O4.mono (by omega)⟩, B4⟩
    · have h1b : (kd == 1) = false := by simpa using h1
      have E : Hid (tw = tk) := by show _ = _; rw [← htw.out, if_neg h1]
      obtain ⟨g0, g1, g2, g3⟩ := f_cells4 Y5
      have S4 := set4_block Y5 (.int .i64 kd) (.slice va ks.length vc) (.int .u64 (tk : Int)) (.int .i64 tt)
      have B4 := set4_below (.int .i64 kd) (.slice va ks.length vc) (.int .u64 (tk : Int)) (.int .i64 tt) (g := w.heap.size + 1) (HC.out _ B5).1 (Nat.le_succ _)
      have O4 := ow_set4 (g := w.heap.size + 1) O5 Y5 (by decide) (.int .i64 kd) (.slice va ks.length vc) (.int .u64 (tk : Int)) (.int .i64 tt)
      unfold set4 at S4 B4 O4
      clear h1 P5 B5 O5 X5 Y5
      go_wp2
      refine bodyPost_ret (results_cl rfl _ _ (w.heap.size + 1) _ _ _ _ rfl S4) rfl ?_
      exact ⟨⟨(va, vc), by first | (rw [E.out]; done) | (rw [E.out]; rfl), O4.mono (by omega)⟩, B4⟩
  · intro K' hK'
    obtain ⟨r1, r2, r3⟩ := one_box wd (.cells #[.int .i64 0, .slice none 0 0, .int .u64 0, .int .i64 0] 43)
    have hbq := hb0.trans (r3.mono hz0)
    obtain ⟨wq, hwq⟩ : ∃ W, wd.alloc (.cells #[.int .i64 0, .slice none 0 0, .int .u64 0, .int .i64 0] 43) = W := ⟨_, rfl⟩
    rw [hwq] at r1 r2 r3 hbq
    have hzq : w.heap.size + 2 ≤ wq.heap.size := by omega
    have hzr : wd.heap.size < wq.heap.size := by omega
    clear r1
    go_simp
    refine hK'.out _ _ (.inr (cl _ hbq)) ?_
    clear hK' K'
    try simp only [List.getElem_toArray, List.getElem_cons_succ, List.getElem_cons_zero, Act.put, List.setIfInBounds_toArray, List.set_cons_zero, List.set_cons_succ]
    refine wpAnyL_one 4 (by kernel_rfl) rfl (by kernel_rfl) ?_
    intro K' hK'
    go_simp
    go_at_call 43
    refine (KC _ hbq).mono ?_
    rintro e w2 ⟨v_, rfl, hO, hbc⟩
    obtain ⟨va, vc, hv_, -⟩ := hO.1.shape
    subst hv_
    have hbz := hbq.trans (hbc.mono hzq)
    have hOz := hO.mono hzq
    have pz := (hbc.block wd.heap.size hzr).trans r2
    refine hK'.out _ _ (.inr (cl _ hbz)) ?_
    clear hK' K'
    try simp only [List.getElem_toArray, List.getElem_cons_succ, List.getElem_cons_zero, Act.put, List.setIfInBounds_toArray, List.set_cons_zero, List.set_cons_succ]
    refine wpAnyL_take 9 rfl (by kernel_rfl) (by kernel_rfl) (by kernel_rfl) (by kernel_rfl) (fun _ _ _ h => h) (by kernel_rfl) (by intro w' hS'; obtain ⟨⟨x0, x1, x2, x3⟩, xb⟩ := hS'; go_simp <;> rfl) (cl _ hbz) ?_
    try simp only [List.getElem_toArray, List.getElem_cons_succ, List.getElem_cons_zero, Act.put, List.setIfInBounds_toArray, List.set_cons_zero, List.set_cons_succ]
    clear r2 r3 hbc hO yS
    have hcb : w.heap.size + 2 ≤ wd.heap.size := by omega
    obtain ⟨f0, f1, f2, f3⟩ := f_cells4 pz
    have P5 := set4_block pz (.int .i64 kd) (.slice va ks.length vc) (.int .u64 (tk : Int)) (.int .i64 tt)
    have B5 := set4_below (.int .i64 kd) (.slice va ks.length vc) (.int .u64 (tk : Int)) (.int .i64 tt) (g := wd.heap.size) hbz hcb
    have O5 := ow_set4 (g := wd.heap.size) hOz pz (by decide) (.int .i64 kd) (.slice va ks.length vc) (.int .u64 (tk : Int)) (.int .i64 tt)
    unfold set4 at P5 B5 O5
    obtain ⟨w5, hw5⟩ : ∃ W, (((w2.setCell ⟨wd.heap.size, 0, none⟩ (.int .i64 kd)).setCell ⟨wd.heap.size, 1, none⟩ (.slice va ks.length vc)).setCell ⟨wd.heap.size, 2, none⟩ (.int .u64 (tk : Int))).setCell ⟨wd.heap.size, 3, none⟩ (.int .i64 tt) = W := ⟨_, rfl⟩
    rw [hw5] at P5 B5 O5
    obtain ⟨z0, z1, z2, z3⟩ := cells4 pz
    refine wpAnyL_one 11 (by kernel_rfl) rfl (by kernel_rfl) ?_
    intro K' hK'
    go_simp
    refine hK'.out _ _ (.inl (by decide)) ?_
    clear hK' K'
    try simp only [List.getElem_toArray, List.getElem_cons_succ, List.getElem_cons_zero, Act.put, List.setIfInBounds_toArray, List.set_cons_zero, List.set_cons_succ]
    refine wpAnyL_done (by kernel_rfl) (NoPanic.normal ?_) _
    clear f0 f1 f2 f3 z0 z1 z2 z3 hw5 pz hbz hOz
    obtain ⟨-, X5, Y5⟩ := HC.out _ B5
    obtain ⟨d0, d1, d2, d3, d4, d5, d6, d7, d8, d9, d10⟩ := cells11 X5
    obtain ⟨m0, m1, m2, m3⟩ := cells4 P5
    obtain ⟨y0, y1, y2', y3⟩ := cells4 Y5
    by_cases h1 : kd = 1
    · have h1b : (kd == 1) = true := by simpa using h1
      have E : Hid (tw = 0) := by show _ = _; rw [← htw.out, if_pos h1]
      have t2 := set_block P5 (j := 2) (.int .u64 0)
      have tb := B5.setCell (p := ⟨wd.heap.size, 2, none⟩) hcb (.int .u64 0)
      have ty : (w5.setCell ⟨wd.heap.size, 2, none⟩ (.int .u64 0)).heap[w.heap.size + 1]? = _ := (set_other (by omega)).trans Y5
      have to := ow_set1 (g := wd.heap.size) (j := 2) O5 P5 (by decide) (.int .u64 0)
      obtain ⟨f0, f1, f2, f3⟩ := f_cells4 P5
      obtain ⟨w6, hw6⟩ : ∃ W, w5.setCell ⟨wd.heap.size, 2, none⟩ (.int .u64 0) = W := ⟨_, rfl⟩
      rw [hw6] at t2 tb ty to
      have t2' : w6.heap[wd.heap.size]? = some (.cells #[.int .i64 kd, .slice va ks.length vc, .int .u64 0, .int .i64 tt] 43 (0, 0)) := t2
      obtain ⟨n0, n1, n2, n3⟩ := cells4 t2'
      obtain ⟨o0, o1, o2, o3⟩ := cells4 ty
      obtain ⟨g0, g1, g2, g3⟩ := f_cells4 ty
      have S4 := set4_block ty (.int .i64 kd) (.slice va ks.length vc) (.int .u64 0) (.int .i64 tt)
      have B4 := set4_below (.int .i64 kd) (.slice va ks.length vc) (.int .u64 0) (.int .i64 tt) (g := w.heap.size + 1) (HC.out _ tb).1 (Nat.le_succ _)
      have O4 := ow_set4 (g := w.heap.size + 1) to ty (by decide) (.int .i64 kd) (.slice va ks.length vc) (.int .u64 0) (.int .i64 tt)
      unfold set4 at S4 B4 O4
      clear h1 t2 t2' tb ty to P5 B5 O5 X5 Y5
      go_wp2
      refine bodyPost_ret (results_cl rfl _ _ (w.heap.size + 1) _ _ _ _ rfl S4) rfl ?_
      exact ⟨⟨(va, vc), by first | (rw [E.out]; done) | (rw [E.out]; rfl), O4.mono (by omega)⟩, B4⟩
    · have h1b : (kd == 1) = false := by simpa using h1
      have E : Hid (tw = tk) := by show _ = _; rw [← htw.out, if_neg h1]
      obtain ⟨g0, g1, g2, g3⟩ := f_cells4 Y5
      have S4 := set4_block Y5 (.int .i64 kd) (.slice va ks.length vc) (.int .u64 (tk : Int)) (.int .i64 tt)
      have B4 := set4_below (.int .i64 kd) (.slice va ks.length vc) (.int .u64 (tk : Int)) (.int .i64 tt) (g := w.heap.size + 1) (HC.out _ B5).1 (Nat.le_succ _)
      have O4 := ow_set4 (g := w.heap.size + 1) O5 Y5 (by decide) (.int .i64 kd) (.slice va ks.length vc) (.int .u64 (tk : Int)) (.int .i64 tt)
      unfold set4 at S4 B4 O4
      clear h1 P5 B5 O5 X5 Y5
      go_wp2
      refine bodyPost_ret (results_cl rfl _ _ (w.heap.size + 1) _ _ _ _ rfl S4) rfl ?_
      exact ⟨⟨(va, vc), by first | (rw [E.out]; done) | (rw [E.out]; rfl), O4.mono (by omega)⟩, B4⟩
end Go.Proofs.Ytglbjimpaoikfaa

