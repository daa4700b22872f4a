import Derived.Test.YtglbjimpaoikfaaHd21
import Derived.Test.YtglbjimpaoikfaaHd01
/- What is to be prepared: Call of the document, of the program; told. -/
namespace Go.Proofs.Ytglbjimpaoikfaa
open Go.RowKit LeaseMath
set_option maxRecDepth 100000
set_option linter.unusedSimpArgs false
set_option linter.unusedVariables false

/-- Four cells are turned. -/
def set4 (w : World) (g : Nat) (a b c d : Value) : World := (((w.setCell ⟨g, 0, none⟩ a).setCell ⟨g, 1, none⟩ b).setCell ⟨g, 2, none⟩ c).setCell ⟨g, 3, none⟩ d
theorem set4_block {w : World} {g : Nat} {a b c d : Value} {t : TypeId} (h : w.heap[g]? = some (.cells #[a, b, c, d] t (0, 0))) (a' b' c' d' : Value) : (set4 w g a' b' c' d').heap[g]? = some (.cells #[a', b', c', d'] t (0, 0)) := by
  unfold set4
  rw [set_block (set_block (set_block (set_block h _) _) _) _]
  simp
theorem set4_below {n g : Nat} {w0 w : World} (a b c d : Value) (hB : Below n w0 w) (hn : n ≤ g) : Below n w0 (set4 w g a b c d) := (((hB.setCell (p := ⟨g, 0, none⟩) hn _).setCell (p := ⟨g, 1, none⟩) hn _).setCell (p := ⟨g, 2, none⟩) hn _).setCell (p := ⟨g, 3, none⟩) hn _
theorem f_cells4 {w : World} {g : Nat} {a b c d : Value} {t : TypeId} (h : w.heap[g]? = some (.cells #[a, b, c, d] t (0, 0))) : (w.frozen? ⟨g, 0, none⟩ = false ∧ w.frozen? ⟨g, 1, none⟩ = false ∧ w.frozen? ⟨g, 2, none⟩ = false ∧ w.frozen? ⟨g, 3, none⟩ = false) := ⟨frozen_of h 0, frozen_of h 1, frozen_of h 2, frozen_of h 3⟩
theorem results_cl {fn : Func} {p : Tmp} (h : fn.results = #[.cell p 43]) (tmps : Array Value) (w : World) (g : Nat) (a b c d : Value)
    (hp : tmps.getD p undef = .pointer (some ⟨g, 0, none⟩)) (hg : w.heap[g]? = some (.cells #[a, b, c, d] 43 (0, 0))) :
    (results fn tmps).run Try.prog w = .ok (.agg #[a, b, c, d]) w := by
  have hp' : tmps[p]?.getD undef = .pointer (some ⟨g, 0, none⟩) := by simpa using hp
  simp [results, h, hp', asAddr, run_loadVar_row w g 43 43 #[a, b, c, d] (0, 0) _ hg Try.underlying43 rfl (by kernel_rfl)]
theorem two_boxesX (w : World) (x y : Obj) : ((w.alloc x).alloc y).heap.size = w.heap.size + 2 ∧ ((w.alloc x).alloc y).heap[w.heap.size]? = some x ∧ ((w.alloc x).alloc y).heap[w.heap.size + 1]? = some y ∧ Below w.heap.size w ((w.alloc x).alloc y) := by
  obtain ⟨a1, a2, a3⟩ := one_box w x
  obtain ⟨b1, b2, b3⟩ := one_box (w.alloc x) y
  rw [a1] at b1 b2 b3
  exact ⟨b1, (b3.block w.heap.size (Nat.lt_succ_self _)).trans a2, b2, a3.trans (b3.mono (Nat.le_succ _))⟩
set_option maxHeartbeats 4000000 in
theorem rcallv_of (z : Xz) (w : World) : Calls Try.prog 21 #[xv z] w fun e w' => e = .returned (cv (callM z.t) z.k) ∧ Below w.heap.size w w' := by
  obtain ⟨q1, q2, q3, q4⟩ := two_boxesX w (xc z) (.cells #[.int .i64 0, .slice none 0 0, .int .u64 0, .int .i64 0] 43)
  obtain ⟨w0, hw0⟩ : ∃ W, (w.alloc (xc z)).alloc (.cells #[.int .i64 0, .slice none 0 0, .int .u64 0, .int .i64 0] 43) = W := ⟨_, rfl⟩
  rw [hw0] at q1 q2 q3 q4
  obtain ⟨⟨⟨i1, i2⟩, kd, ks, tk, tt, gs, st, ys, ds, cd⟩, ⟨ka, kc⟩, ⟨ga, gc⟩, ⟨ya, yc⟩, ⟨da, dc⟩⟩ := z
  dsimp only [xv, xc, cv, callM] at *
  obtain ⟨c0, c1, c2, c3, c4, c5, c6, c7, c8, c9, c10⟩ := cells11 q2
  obtain ⟨r1, r2, r3⟩ := one_box w0 (.cells #[.int .i64 kd, .slice ka ks.length kc, .int .u64 0, .int .i64 tt] 43)
  obtain ⟨w2, hw2⟩ : ∃ W, w0.alloc (.cells #[.int .i64 kd, .slice ka ks.length kc, .int .u64 0, .int .i64 tt] 43) = W := ⟨_, rfl⟩
  rw [hw2] at r1 r2 r3
  have hz : w.heap.size + 2 ≤ w0.heap.size := by omega
  have hb2 := q4.trans (r3.mono (by omega))
  have x2 := (r3.block w.heap.size (by omega)).trans q2
  have y2 := (r3.block (w.heap.size + 1) (by omega)).trans q3
  obtain ⟨d0, d1, d2, d3, d4, d5, d6, d7, d8, d9, d10⟩ := cells11 x2
  obtain ⟨m0, m1, m2, m3⟩ := cells4 r2
  obtain ⟨y0, y1, y2', y3⟩ := cells4 y2
  clear q1 q2 q3 q4 r1
  by_cases h1 : kd = 1
  · have h1b : (kd != 1) = false := by simp [h1]
    obtain ⟨f0, f1, f2, f3⟩ := f_cells4 y2
    have S := set4_block y2 (.int .i64 kd) (.slice ka ks.length kc) (.int .u64 0) (.int .i64 tt)
    have B := set4_below (.int .i64 kd) (.slice ka ks.length kc) (.int .u64 0) (.int .i64 tt) (g := w.heap.size + 1) hb2 (Nat.le_succ _)
    have E : Hid ((if kd = 1 then (0 : Nat) else tk) = 0) := by show _ = _; rw [if_pos h1]
    rw [E.out]
    unfold set4 at S B
    clear h1 E
    go_enter Try.func21, Try.ntmps21
    go_wp2
    refine bodyPost_ret (results_cl rfl _ _ (w.heap.size + 1) _ _ _ _ rfl S) rfl ?_
    exact ⟨rfl, B⟩
  · have h1b : (kd != 1) = true := by simpa using h1
    have E : Hid ((if kd = 1 then (0 : Nat) else tk) = tk) := by show _ = _; rw [if_neg h1]
    rw [E.out]
    have t2 := set_block r2 (j := 2) (.int .u64 (tk : Int))
    have tb := hb2.setCell (p := ⟨w0.heap.size, 2, none⟩) (by show _ ≤ w0.heap.size; omega) (.int .u64 (tk : Int))
    have ty : (w2.setCell ⟨w0.heap.size, 2, none⟩ (.int .u64 (tk : Int))).heap[w.heap.size + 1]? = _ := (set_other (by omega)).trans y2
    obtain ⟨f0, f1, f2, f3⟩ := f_cells4 r2
    obtain ⟨w3, hw3⟩ : ∃ W, w2.setCell ⟨w0.heap.size, 2, none⟩ (.int .u64 (tk : Int)) = W := ⟨_, rfl⟩
    rw [hw3] at t2 tb ty
    have t2' : w3.heap[w0.heap.size]? = some (.cells #[.int .i64 kd, .slice ka ks.length kc, .int .u64 (tk : Int), .int .i64 tt] 43 (0, 0)) := t2
    obtain ⟨n0, n1, n2, n3⟩ := cells4 t2'
    obtain ⟨o0, o1, o2, o3⟩ := cells4 ty
    obtain ⟨g0, g1, g2, g3⟩ := f_cells4 ty
    have S := set4_block ty (.int .i64 kd) (.slice ka ks.length kc) (.int .u64 (tk : Int)) (.int .i64 tt)
    have B := set4_below (.int .i64 kd) (.slice ka ks.length kc) (.int .u64 (tk : Int)) (.int .i64 tt) (g := w.heap.size + 1) tb (Nat.le_succ _)
    unfold set4 at S B
    clear h1 E t2 t2' tb ty hb2 x2 y2 r2 r3
    go_enter Try.func21, Try.ntmps21
    go_wp2
    refine bodyPost_ret (results_cl rfl _ _ (w.heap.size + 1) _ _ _ _ rfl S) rfl ?_
    exact ⟨rfl, B⟩
theorem told_of (z : Xz) (w : World) : Calls Try.prog 41 #[xv z] w fun e w' => e = .returned (.bool (decide (z.t.state = 2) || decide (z.t.state = 3))) ∧ Below w.heap.size w w' := by
  obtain ⟨q1, q2, q3⟩ := x_box w z
  obtain ⟨w0, hw0⟩ : ∃ W, w.alloc (xc z) = W := ⟨_, rfl⟩
  rw [hw0] at q1 q2 q3
  obtain ⟨⟨⟨i1, i2⟩, kd, ks, tk, tt, gs, st, ys, ds, cd⟩, ⟨ka, kc⟩, ⟨ga, gc⟩, ⟨ya, yc⟩, ⟨da, dc⟩⟩ := z
  dsimp only [xv, xc] at *
  obtain ⟨c0, c1, c2, c3, c4, c5, c6, c7, c8, c9, c10⟩ := cells11 q2
  clear q1 q2
  by_cases h : st = 2
  · have hd : (st == 2) = true := by simpa using h
    rw [decide_eq_true h]
    clear h
    go_enter Try.func41, Try.ntmps41
    go_wp2
    go_ret
    exact ⟨rfl, q3⟩
  · have hd : (st == 2) = false := by simpa using h
    rw [decide_eq_false h]
    by_cases h' : st = 3
    · have hd' : (st == 3) = true := by simpa using h'
      rw [decide_eq_true h']
      clear h h'
      go_enter Try.func41, Try.ntmps41
      go_wp2
      go_ret
      exact ⟨rfl, q3⟩
    · have hd' : (st == 3) = false := by simpa using h'
      rw [decide_eq_false h']
      clear h h'
      go_enter Try.func41, Try.ntmps41
      go_wp2
      go_ret
      exact ⟨rfl, q3⟩
end Go.Proofs.Ytglbjimpaoikfaa

