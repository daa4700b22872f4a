import Derived.Test.YtghhijliamnmiaaHo06
import Derived.Test.YtghhijliamnmiaaHo03
/- What is done with windows: New, Left, behind, Extend, Take, Recover of the program; Extend, Take, Recover of the document. -/
namespace Go.Proofs.Ytghhijliamnmiaa
open Go.RowKit OracleMath
set_option maxRecDepth 100000
set_option linter.unusedSimpArgs false
set_option linter.unusedVariables false

@[reducible] def zc : Obj := .cells #[.int .u64 0, .int .u64 0, .bool false] 24
/-- Two boxes at a call's entry: the window that came, the one that is told. -/
theorem two_box (w : World) (o1 o2 : Obj) : ((w.alloc o1).alloc o2).heap.size = w.heap.size + 2 ∧ Below w.heap.size w ((w.alloc o1).alloc o2) ∧ ∀ W, Below (w.heap.size + 2) ((w.alloc o1).alloc o2) W → W.heap[w.heap.size]? = some o1 ∧ W.heap[w.heap.size + 1]? = some o2 := by
  obtain ⟨h1, h2, h3⟩ := one_box w o1
  obtain ⟨g1, g2, g3⟩ := one_box (w.alloc o1) o2
  rw [h1] at g1 g2
  refine ⟨g1, h3.trans (g3.mono (by omega)), fun W hW => ⟨?_, ?_⟩⟩
  · exact (hW.block w.heap.size (by omega)).trans ((g3.block w.heap.size (by omega)).trans h2)
  · exact (hW.block (w.heap.size + 1) (by omega)).trans g2
theorem two_end (w : World) (o1 o2 : Obj) : ((w.alloc o1).alloc o2).heap[w.heap.size + 1]? = some o2 := ((two_box w o1 o2).2.2 _ (Below.refl _ _)).2
/-- A field of the first box is stored, the second box whole. -/
theorem set_far {w : World} {g k i : Nat} {o : Obj} (h : w.heap[k]? = some o) (hne : g ≠ k) (v : Value) : (w.setCell ⟨g, i, none⟩ v).heap[k]? = some o := by
  simp [World.setCell, Array.getElem?_modify, hne, h]
theorem set_0 {w : World} {g : Nat} {a b c : Value} {t : TypeId} (h : w.heap[g]? = some (.cells #[a, b, c] t (0, 0))) (x : Value) : (w.setCell ⟨g, 0, none⟩ x).heap[g]? = some (.cells #[x, b, c] t (0, 0)) := by
  simp [World.setCell, Array.getElem?_modify, h]
theorem set_1 {w : World} {g : Nat} {a b c : Value} {t : TypeId} (h : w.heap[g]? = some (.cells #[a, b, c] t (0, 0))) (x : Value) : (w.setCell ⟨g, 1, none⟩ x).heap[g]? = some (.cells #[a, x, c] t (0, 0)) := by
  simp [World.setCell, Array.getElem?_modify, h]
theorem set_2 {w : World} {g : Nat} {a b c : Value} {t : TypeId} (h : w.heap[g]? = some (.cells #[a, b, c] t (0, 0))) (x : Value) : (w.setCell ⟨g, 2, none⟩ x).heap[g]? = some (.cells #[a, b, x] t (0, 0)) := by
  simp [World.setCell, Array.getElem?_modify, h]
theorem add_one {n : Nat} (h : n ≠ 18446744073709551615) (hn : n < 18446744073709551616) : IntKind.u64.wrap ((n : Int) + 1) = ((n + 1 : Nat) : Int) := by
  rw [show ((n : Int) + 1) = ((n + 1 : Nat) : Int) by omega]; exact IntWalk.u64_in _ (by omega)

theorem wanted_none {o : Oper} {y : Nat → Option Bool} (h : o.guard = none) : Region.wanted o y = true := by
  unfold Region.wanted
  rw [h]
set_option maxHeartbeats 4000000 in
theorem new_of (n : Nat) (w : World) (hn : n < 18446744073709551616) : Calls Try.prog 15 #[.int .u64 (n : Int)] w fun e w' => e = .returned (.tuple #[wv (if n = 0 then (0, 0, false) else (n, n - 1, false)), .int .i64 (if n = 0 then 1 else 0)]) ∧ Below w.heap.size w w' := by
  obtain ⟨q1, q2, q3⟩ := one_box w zc
  obtain ⟨⟨f0, f1, f2⟩, c0, c1, c2⟩ := h_cells q2
  dsimp only [zc] at *
  by_cases h0 : n = 0
  · subst h0
    clear q1 q2 q3 hn
    go_enter Try.func15, Try.ntmps15
    go_wp2
    refine bodyPost_ret (results_w2 rfl _ _ w.heap.size _ _ _ rfl (one_box w _).2.1) rfl ?_
    exact ⟨rfl, (one_box w _).2.2⟩
  · have d0 : ((n : Int) == 0) = false := by simp [h0]
    obtain ⟨p, hp, hw⟩ := sub_one h0 hn
    have E : Hid (n - 1 = p) := by show _ = _; have := hp.out; omega
    rw [if_neg h0, if_neg h0, E.out]
    clear q1 q2 q3 hn hp E
    go_enter Try.func15, Try.ntmps15
    go_wp2
    refine bodyPost_ret (results_w2 rfl _ _ w.heap.size _ _ _ rfl (one_box w _).2.1) rfl ?_
    exact ⟨rfl, (one_box w _).2.2⟩

set_option maxHeartbeats 4000000 in
theorem behind_of (x : Wn) (t : Nat) (w : World) (ht : t < 18446744073709551616) : Calls Try.prog 22 #[wv x, .int .u64 (t : Int)] w fun e w' => e = .returned (wv (behM x t)) ∧ Below w.heap.size w w' := by
  obtain ⟨q1, q3, cl⟩ := two_box w (wc x) zc
  obtain ⟨q4, q5⟩ := cl _ (Below.refl _ _)
  obtain ⟨⟨f0, f1, f2⟩, c0, c1, c2⟩ := h_cells q4
  obtain ⟨⟨g0, g1, g2⟩, d0, d1, d2⟩ := h_cells q5
  obtain ⟨n, l, s⟩ := x
  dsimp only [wc, zc, wv] at *
  by_cases h0 : t = 18446744073709551615
  · subst h0
    rw [show behM (n, l, s) 18446744073709551615 = (18446744073709551615, l, true) from if_pos rfl]
    clear q1 q3 cl q4 q5 ht
    go_enter Try.func22, Try.ntmps22
    go_wp2
    refine bodyPost_ret (results_w1 rfl _ _ (w.heap.size + 1) _ _ _ rfl (two_end w _ _)) rfl ?_
    exact ⟨rfl, (two_box w _ _).2.1⟩
  · have e0 : ((t : Int) == 18446744073709551615) = false := by simp; omega
    have hw := add_one h0 ht
    rw [show behM (n, l, s) t = (t + 1, l, s) from if_neg h0]
    generalize t + 1 = u at *
    clear q1 q3 cl q4 q5 ht h0
    go_enter Try.func22, Try.ntmps22
    go_wp2
    refine bodyPost_ret (results_w1 rfl _ _ (w.heap.size + 1) _ _ _ rfl (two_end w _ _)) rfl ?_
    exact ⟨rfl, (two_box w _ _).2.1⟩

set_option maxHeartbeats 4000000 in
theorem left_of (x : Wn) (w : World) (hok : OkW x) : Calls Try.prog 16 #[wv x] w fun e w' => e = .returned (.int .u64 (lefM x : Int)) ∧ Below w.heap.size w w' := by
  obtain ⟨hs, hb, cl⟩ := wn_box w x
  have kc := check_of x (w.alloc (wc x)) hok
  rw [hs] at kc
  obtain ⟨n, l, s⟩ := x
  have hn : Hid (n < 18446744073709551616) := hok.1
  have hl : Hid (l < 18446744073709551616) := hok.2
  obtain ⟨L, HL⟩ : ∃ L, Hid (L = lefM (n, l, s)) := ⟨_, rfl⟩
  rw [← HL.out]
  have HS : Hid (w.heap.size ≤ w.heap.size + 1) := Nat.le_succ _
  obtain ⟨c0, c1, c2⟩ := cl _ (Below.refl _ _)
  cases hm : mayB (n, l, s) with
  | false =>
    rw [hm] at kc
    simp only [Bool.false_eq_true, if_false] at kc
    have E : Hid (L = 0) := by show _ = _; rw [HL.out]; exact if_pos (.inl hm)
    dsimp only [wv, wc] at *
    clear hok HL hm
    go_enter Try.func16, Try.ntmps16
    go_wp2_with fail
    refine kc.mono ?_
    rintro e w1 ⟨rfl, hb1⟩
    go_wp2
    go_ret
    exact ⟨by rw [E.out]; rfl, hb.trans (hb1.mono HS.out)⟩
  | true =>
    rw [hm] at kc
    simp only [if_true] at kc
    have hm' := may_iff.1 hm
    cases s with
    | true =>
      have E : Hid (L = 0) := by show _ = _; rw [HL.out]; exact if_pos (.inr rfl)
      dsimp only [wv, wc] at *
      clear hok HL hm hm'
      go_enter Try.func16, Try.ntmps16
      go_wp2_with fail
      refine kc.mono ?_
      rintro e w1 ⟨rfl, hb1⟩
      obtain ⟨a0, a1, a2⟩ := cl _ hb1
      go_wp2
      go_ret
      exact ⟨by rw [E.out]; rfl, hb.trans (hb1.mono HS.out)⟩
    | false =>
      have E0 : L = l + 1 - n := by rw [HL.out]; exact if_neg (by rw [hm]; simp)
      obtain ⟨p, hp, hw⟩ := sub_one hm'.1 hn.out
      have hw2 : IntKind.u64.wrap ((l : Int) - (p : Int)) = (L : Int) := by
        have h1 := hp.out
        have h2 := hm'.2.1
        have h3 := hl.out
        dsimp only at h2
        rw [show ((l : Int) - (p : Int)) = (L : Int) by omega]
        exact IntWalk.u64_in _ (by omega)
      dsimp only [wv, wc] at *
      clear hok HL hm hm' E0
      go_enter Try.func16, Try.ntmps16
      go_wp2_with fail
      refine kc.mono ?_
      rintro e w1 ⟨rfl, hb1⟩
      obtain ⟨a0, a1, a2⟩ := cl _ hb1
      go_wp2
      go_ret
      exact ⟨rfl, hb.trans (hb1.mono HS.out)⟩
end Go.Proofs.Ytghhijliamnmiaa

