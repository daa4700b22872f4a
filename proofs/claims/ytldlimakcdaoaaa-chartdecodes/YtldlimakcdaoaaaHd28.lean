import Derived.Test.YtldlimakcdaoaaaHd27
/- The contract of Less. -/
namespace Go.Proofs.Ytldlimakcdaoaaa
open Go.RowKit SpanMath
set_option maxRecDepth 100000
set_option linter.unusedSimpArgs false
set_option linter.unusedVariables false

/-- What Add and Less tell. -/
def ResT (ok : Bool) (m : List Sp) (v : Value) (c : Int) (w' : World) : Prop :=
  if ok = false then v = .slice none 0 0 ∧ c = 1 else if 64 < m.length then v = .slice none 0 0 ∧ c = 2 else c = 0 ∧ Rd spE w' v m

/-- What stands between two rounds of the inner loop. -/
structure LSt (n p : Nat) (w0 W : World) (st sd : Value) (x : Sp) (acc os : List Sp) : Prop where
  base : Below (n + 1) w0 W
  box : W.heap[p]? = some (.cells #[.string (bk x.1), .string (bk x.2)] 40 (0, 0))
  sides : Rk spE W 40 sd os
  stay : Rk spE W 40 st acc
  off : ∀ k, st.ownBlock = some k → n + 1 ≤ k ∧ k ≠ p ∧ sd.ownBlock ≠ some k
theorem LSt.below {n p : Nat} {w0 W W' : World} {st sd : Value} {x : Sp} {acc os : List Sp} (h : LSt n p w0 W st sd x acc os) (hN : n + 1 ≤ W.heap.size) (hb : Below W.heap.size W W') : LSt n p w0 W' st sd x acc os :=
  ⟨h.base.trans (hb.mono hN), (hb.block p (Array.getElem?_eq_some_iff.1 h.box).1).trans h.box, h.sides.same fun k hk => hb.block k (h.sides.lt hk), h.stay.same fun k hk => hb.block k (h.stay.lt hk), h.off⟩
theorem LSt.push {n p : Nat} {w0 W W' : World} {st st' sd : Value} {x : Sp} {acc acc' os : List Sp} (h : LSt n p w0 W st sd x acc os) (hN : n + 1 ≤ W.heap.size) (hp : PushT spE 40 W st acc' st' W') : LSt n p w0 W' st' sd x acc' os := by
  obtain ⟨h1, h2, h3⟩ := hp
  have hpl := (Array.getElem?_eq_some_iff.1 h.box).1
  refine ⟨h.base.trans (grown_below h2 hN fun k hk => (h.off k hk).1), (h2.block p hpl fun e => (h.off p e.symm).2.1 rfl).trans h.box, h.sides.same fun k hk => h2.block k (h.sides.lt hk) fun e => (h.off k e.symm).2.2 hk, h1, fun k hk => ?_⟩
  rcases h3 k hk with h' | h'
  · exact h.off k h'
  · refine ⟨by omega, by omega, fun e => ?_⟩
    have := h.sides.lt e
    omega

theorem take_succ_get {α : Type} {l : List α} {i : Nat} {x : α} (h : l[i]? = some x) : l.take (i + 1) = l.take i ++ [x] := by
  obtain ⟨h1, rfl⟩ := List.getElem?_eq_some_iff.1 h
  rw [List.take_succ_eq_append_getElem h1]
theorem less_take {l : List Sp} {s x : Sp} {i : Nat} (h : l[i]? = some x) : lessM (l.take (i + 1)) s = lessM (l.take i) s ++ lessOne s x := by
  rw [take_succ_get h]
  simp [lessM]
theorem lessOne_len (s x : Sp) : (lessOne s x).length ≤ 2 := by
  unfold lessOne
  refine Nat.le_trans (List.length_filterMap_le _ _) ?_
  unfold outs
  rw [List.length_append]
  have h1 : (if s.1 = [] then ([] : List Sp) else [([], s.1)]).length ≤ 1 := by split <;> simp
  have h2 : (if s.2 = [] then ([] : List Sp) else [(s.2, [])]).length ≤ 1 := by split <;> simp
  omega
theorem less_len (s : Sp) : ∀ l : List Sp, (lessM l s).length ≤ 2 * l.length
  | [] => by simp [lessM]
  | x :: l => by
    have h1 := less_len s l
    have h2 := lessOne_len s x
    unfold lessM at *
    rw [List.flatMap_cons, List.length_append, List.length_cons]
    omega
theorem outs_len (s : Sp) : (outs s).length ≤ 2 := by
  unfold outs
  rw [List.length_append]
  have h1 : (if s.1 = [] then ([] : List Sp) else [([], s.1)]).length ≤ 1 := by split <;> simp
  have h2 : (if s.2 = [] then ([] : List Sp) else [(s.2, [])]).length ≤ 1 := by split <;> simp
  omega
theorem fm_some {x o m : Sp} {os : List Sp} {j : Nat} (h : os[j]? = some o) (hm : meet x o = some m) : (os.take (j + 1)).filterMap (fun o => meet x o) = (os.take j).filterMap (fun o => meet x o) ++ [m] := by
  rw [take_succ_get h, List.filterMap_append]
  simp [hm]
theorem fm_none {x o : Sp} {os : List Sp} {j : Nat} (h : os[j]? = some o) (hm : meet x o = none) : (os.take (j + 1)).filterMap (fun o => meet x o) = (os.take j).filterMap (fun o => meet x o) := by
  rw [take_succ_get h, List.filterMap_append]
  simp [hm]

end Go.Proofs.Ytldlimakcdaoaaa

