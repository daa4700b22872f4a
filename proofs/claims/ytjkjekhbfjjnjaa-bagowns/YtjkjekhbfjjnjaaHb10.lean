import Derived.Test.YtjkjekhbfjjnjaaHb09
/- The contract of Twice. -/
namespace Go.Proofs.Ytjkjekhbfjjnjaa
open Go.RowKit Go.Maps
set_option maxRecDepth 100000
set_option linter.unusedSimpArgs false
set_option linter.unusedVariables false

theorem twice_no {w : World} {p m : Nat} {fv : Value} {l : List Msg} {P : Int → Int → Bool} {N : Nat} (h : BagAt w p m fv l P N) (i : Int) (hno : ¬ (0 ≤ i ∧ i < (l.length : Int)) ∨ ¬ l.length < 16384) :
    Calls Try.prog 16 #[.pointer (some ⟨p, 0, none⟩), .int .i64 i] w fun e w' => e = .returned (.bool false) ∧ w' = w := by
  obtain ⟨q0, q1, q2⟩ := h.cells
  obtain ⟨ao, cap, hfv, -⟩ := h.row.shape
  by_cases hi : 0 ≤ i ∧ i < (l.length : Int)
  · have kr := room_of (hfv ▸ q0) q1
    rw [show decide ((l.length : Int) < 16384) = false by simp; omega] at kr
    have kh := has_yes (hfv ▸ q0) q1 i hi.1 hi.2
    clear hno hi h
    go_enter Try.func16, Try.ntmps16
    go_wp2_with (first | (go_at_call 25; refine kh.mono ?_; rintro e wq ⟨rfl, hwq⟩; rw [hwq]; clear hwq wq) | (go_at_call 26; refine kr.mono ?_; rintro e wq ⟨rfl, hwq⟩; rw [hwq]; clear hwq wq))
    go_ret
    exact ⟨rfl, rfl⟩
  · have kh := has_no (hfv ▸ q0) q1 i hi
    clear hno hi h
    go_enter Try.func16, Try.ntmps16
    go_wp2_with (go_at_call 25; refine kh.mono ?_; rintro e wq ⟨rfl, hwq⟩; rw [hwq]; clear hwq wq)
    go_ret
    exact ⟨rfl, rfl⟩

set_option maxHeartbeats 8000000 in
theorem twice_yes {w : World} {p m : Nat} {fv : Value} {l : List Msg} {P : Int → Int → Bool} {N : Nat} (h : BagAt w p m fv l P N) (i : Nat) (x : Msg) (hx : l[i]? = some x) (hlen : l.length < 16384) :
    Calls Try.prog 16 #[.pointer (some ⟨p, 0, none⟩), .int .i64 (i : Int)] w (PostT w p m fv (l ++ [x]) P N) := by
  obtain ⟨q0, q1, q2⟩ := h.cells
  obtain ⟨n1, n2, n3⟩ := h.ne
  have lp := h.lt p (.inl rfl)
  have hR := h.row
  have hi := (List.getElem?_eq_some_iff.1 hx).1
  obtain ⟨g, cap, hfv, hle, hm, hg, c0, c1, c2, -⟩ := msg_cells h.row hx
  have hii : (i : Int) < (l.length : Int) := by omega
  have kr := room_of (hfv ▸ q0) q1
  rw [show decide ((l.length : Int) < 16384) = true by simp; omega] at kr
  have kh := has_yes (hfv ▸ q0) q1 (i : Int) (by omega) hii
  have kp : ∀ ty, ∃ v' w', (Builtin.append_ #[46, 46] ty #[fv, .slice (some ⟨w.heap.size, 0, none⟩) 1 1]).run Try.prog (w.drew.alloc (.cells #[.int .i64 x.1, .int .i64 x.2.1, .string (str x.2.2)] 62)) = .ok v' w' ∧ (Hid (PostT w p m fv (l ++ [x]) P N (.returned (.bool true)) (w'.setCell ⟨p, 0, none⟩ v')) ∧ w'.cell? ⟨p, 0, none⟩ = some fv ∧ (∀ i, w'.frozen? ⟨p, i, none⟩ = false) ∧ ∃ a n c, v' = .slice a n c) := fun ty => by
    obtain ⟨v', w', r1, r2, r3, r4⟩ := push_msg w.drew ty fv l x (hR.same fun k hk => rfl) (by omega)
    have hg : w.grownBy w' fv.ownBlock := grown_of_below (Below.refl _ _).drew r3
    refine ⟨v', w', r1, ⟨rfl, h.stored hg r2 r4 fun y hy => ?_⟩, cell_grown hg q0 n2, fun i => ?_, ?_⟩
    · rcases List.mem_append.1 hy with hy | hy
      · exact h.ok y hy
      · rw [List.mem_singleton.1 hy]; exact h.ok x (List.mem_of_getElem? hx)
    · rw [frozen_same i (hg.block p lp fun e => n2 e.symm)]
      exact q2 i
    · obtain ⟨a, c, e, -⟩ := r2.shape
      exact ⟨a, _, c, e⟩
  subst hfv
  generalize PostT w p m (.slice (some ⟨g, 0, none⟩) l.length cap) (l ++ [x]) P N = T at *
  generalize str x.2.2 = s at *
  generalize x.2.1 = a2 at *
  generalize x.1 = a1 at *
  clear h hR n2 n3 hx
  go_enter Try.func16, Try.ntmps16
  go_wp2_with (first | (go_at_call 25; refine kh.mono ?_; rintro e wq ⟨rfl, hwq⟩; rw [hwq]; clear hwq wq) | (go_at_call 26; refine kr.mono ?_; rintro e wq ⟨rfl, hwq⟩; rw [hwq]; clear hwq wq))
  go_region_law (first
      | (refine step_by (by rfl) _ _ _ (by rfl) (.slice (some ⟨g, 0, none⟩) l.length cap) _ (by simp [Act.eval, Act.put]) (by simp [Act.eval, Act.put]) kp ?_; rintro v3 w3 ⟨hfin, r4, r5, a3, n3, c3, rfl⟩))
  all_goals (go_wp2 <;> first | exact hfin.out | (go_ret; exact hfin.out))
end Go.Proofs.Ytjkjekhbfjjnjaa

