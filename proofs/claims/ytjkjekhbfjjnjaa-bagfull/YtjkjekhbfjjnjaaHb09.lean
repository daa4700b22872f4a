import Derived.Test.YtjkjekhbfjjnjaaHb08
import Derived.Deep.RegionLaw
/- The contracts of Post and Twice. -/
namespace Go.Proofs.Ytjkjekhbfjjnjaa
open Go.RowKit Go.Maps
set_option maxRecDepth 100000
set_option linter.unusedSimpArgs false
set_option linter.unusedVariables false

theorem step_by {ops : Array Oper} {o : Oper} {a : Act} {w : World} {K : Act → World → Prop} {Q : Exit → Act → World → Prop} {E : Prop} {Φ : Value → World → Prop}
    (hg : o.guard = none) (s x : Operand) (ts : TypeId) (ho : o.op = .call { callee := .builtin .append, args := #[s, x], argTypes := #[ts, ts] })
    (v xv : Value) (hs : a.eval s = v) (hx : a.eval x = xv)
    (hrun : ∀ ty, ∃ v' w', (Builtin.append_ #[ts, ts] ty #[v, xv]).run Try.prog w = .ok v' w' ∧ Φ v' w')
    (hK : ∀ v' w', Φ v' w' → K (a.put o.dst v') w') :
    if Region.wanted o (yielded ops a.tmps) = true then Oper.wp Try.prog o a w K Q else E := by
  have hw : Region.wanted o (yielded ops a.tmps) = true := by simp [Region.wanted, hg]
  rw [if_pos hw]
  obtain ⟨v', w', hr, hφ⟩ := hrun o.type
  unfold Oper.wp
  simp [execOp, ho, resolve, invoke, builtin, hs, hx, hr, Result.andThen]
  exact hK v' w' hφ

theorem cell_grown {w w' : World} {row : Option Nat} {a : Addr} {v : Value} (hg : w.grownBy w' row) (h : w.cell? a = some v) (hr : row ≠ some a.block) : w'.cell? a = some v := hg.cell h (fun e => hr e.symm)
theorem frozen_same {w w' : World} {p : Nat} (i : Nat) (h : w'.heap[p]? = w.heap[p]?) : w'.frozen? ⟨p, i, none⟩ = w.frozen? ⟨p, i, none⟩ := by simp [World.frozen?, h]
theorem grown_of_below {w w1 w2 : World} {row : Option Nat} (hb : Below w.heap.size w w1) (hg : w1.grownBy w2 row) : w.grownBy w2 row :=
  ⟨hg.os.trans hb.os, hg.tape.trans hb.tape, hg.output.trans hb.output, Nat.le_trans hb.size hg.size, fun i hi hne => (hg.block i (Nat.lt_of_lt_of_le hi hb.size) hne).trans (hb.block i hi)⟩

/-- What an act with a bag leaves. -/
def Did (w : World) (p m : Nat) (fv : Value) (l' : List Msg) (P' : Int → Int → Bool) (N' : Nat) (w' : World) : Prop :=
  ∃ fv', BagAt w' p m fv' l' P' N' ∧ Kept (Mine p m fv) w w' ∧ ∀ k, fv'.ownBlock = some k → fv.ownBlock = some k ∨ w.heap.size ≤ k
theorem Did.same {w : World} {p m : Nat} {fv : Value} {l : List Msg} {P : Int → Int → Bool} {N : Nat} (h : BagAt w p m fv l P N) {w' : World} (hb : Below w.heap.size w w') : Did w p m fv l P N w' := ⟨fv, h.below hb, Below.kept hb, fun k hk => .inl hk⟩

/-- Another row of messages, laid into the box. -/
theorem BagAt.stored {w w1 : World} {p m : Nat} {fv fv' : Value} {l l' : List Msg} {P : Int → Int → Bool} {N : Nat} (h : BagAt w p m fv l P N) (hg : w.grownBy w1 fv.ownBlock) (hR : Rk msgE w1 62 fv' l')
    (hn : ∀ k, fv'.ownBlock = some k → fv.ownBlock = some k ∨ w.heap.size ≤ k) (hok : ∀ x ∈ l', MsgOk x) : Did w p m fv l' P N (w1.setCell ⟨p, 0, none⟩ fv') := by
  obtain ⟨n1, n2, n3⟩ := h.ne
  have lp := h.lt p (.inl rfl)
  have lm := h.lt m (.inr (.inl rfl))
  have hp : w1.heap[p]? = some (.cells #[fv, .map (some m)] 49 (0, 0)) := (hg.block p lp fun e => n2 e.symm).trans h.box
  have hm : w1.heap[m]? = w.heap[m]? := hg.block m lm fun e => n3 e.symm
  have o : ∀ k, k ≠ p → (w1.setCell ⟨p, 0, none⟩ fv').heap[k]? = w1.heap[k]? := fun k e => Below.heap_setCell _ _ _ _ e
  have np : fv'.ownBlock ≠ some p := fun e => by
    rcases hn p e with h' | h'
    · exact n2 h'
    · omega
  refine ⟨fv', ⟨?_, hR.same fun k hk => o k (fun e => np (e ▸ hk)), ?_, hok⟩, ⟨hg.os, hg.tape, hg.output, by simpa [World.setCell] using hg.size, fun k hk hS => ?_⟩, hn⟩
  · simp [World.setCell, Array.getElem?_modify, hp]
  · obtain ⟨c, hc, hM⟩ := h.map
    exact ⟨c, hc, hM.same ((o m (fun e => n1 e.symm)).trans hm)⟩
  · rw [o k (fun e => hS (.inl e))]
    exact hg.block k hk fun e => hS (.inr (.inr e.symm))

def PostT (w : World) (p m : Nat) (fv : Value) (l' : List Msg) (P' : Int → Int → Bool) (N' : Nat) (e : Ending) (w' : World) : Prop := e = .returned (.bool true) ∧ Did w p m fv l' P' N' w'

set_option maxHeartbeats 4000000 in
theorem post_yes {w : World} {p m : Nat} {fv : Value} {l : List Msg} {P : Int → Int → Bool} {N : Nat} (h : BagAt w p m fv l P N) (f t : Int) (bv : Value) (d : List Nat) (hB : @Bs keepAll w.heap.size w bv d) (hok : MsgOk (f, t, d)) (hlen : l.length < 16384) :
    Calls Try.prog 17 #[.pointer (some ⟨p, 0, none⟩), .int .i64 f, .int .i64 t, bv] w (PostT w p m fv (l ++ [(f, t, d)]) P N) := by
  obtain ⟨q0, q1, q2⟩ := h.cells
  obtain ⟨n1, n2, n3⟩ := h.ne
  have lp := h.lt p (.inl rfl)
  have hR := h.row
  obtain ⟨ao, cap, hfv, -⟩ := h.row.shape
  have kr := room_of (hfv ▸ q0) q1
  rw [show decide ((l.length : Int) < 16384) = true by simp; omega] at kr
  have hst : ∀ W, Below w.heap.size w W → (convert 31 9 bv).run Try.prog W = .ok (.string (str d)) W := fun W hW => @str_of keepAll _ _ _ _ (@Bs.below keepAll _ _ _ _ _ hB hW) hok.2.2.1
  have hst1 := hst _ (Below.refl _ _).drew
  have kp : ∀ ty, ∃ v' w', (Builtin.append_ #[46, 46] ty #[fv, .slice (some ⟨w.heap.size, 0, none⟩) 1 1]).run Try.prog (w.drew.alloc (.cells #[.int .i64 f, .int .i64 t, .string (str d)] 62)) = .ok v' w' ∧ (Hid (PostT w p m fv (l ++ [(f, t, d)]) P N (.returned (.bool true)) (w'.setCell ⟨p, 0, none⟩ v')) ∧ w'.cell? ⟨p, 0, none⟩ = some fv ∧ (∀ i, w'.frozen? ⟨p, i, none⟩ = false) ∧ ∃ a n c, v' = .slice a n c) := fun ty => by
    obtain ⟨v', w', r1, r2, r3, r4⟩ := push_msg w.drew ty fv l (f, t, d) (hR.same fun k hk => rfl) (by omega)
    have hg : w.grownBy w' fv.ownBlock := grown_of_below (Below.refl _ _).drew r3
    refine ⟨v', w', r1, ⟨rfl, h.stored hg r2 r4 fun x hx => ?_⟩, cell_grown hg q0 n2, fun i => ?_, ?_⟩
    · rcases List.mem_append.1 hx with hx | hx
      · exact h.ok x hx
      · rw [List.mem_singleton.1 hx]; exact hok
    · rw [frozen_same i (hg.block p lp fun e => n2 e.symm)]
      exact q2 i
    · obtain ⟨a, c, e, -⟩ := r2.shape
      exact ⟨a, _, c, e⟩
  obtain ⟨ab, cb, hbv, -⟩ := id hB
  subst hfv hbv
  generalize PostT w p m (.slice ao l.length cap) (l ++ [(f, t, d)]) P N = T at *
  generalize str d = s at *
  generalize d.length = dl at *
  clear hst hB hok h hR n2 n3
  go_enter Try.func17, Try.ntmps17
  go_wp2_with (go_at_call 26; refine kr.mono ?_; rintro e wq ⟨rfl, hwq⟩; rw [hwq]; clear hwq wq)
  go_region_law (first
      | (refine step_by (by rfl) _ _ _ (by rfl) (.slice ao l.length cap) _ (by simp [Act.eval, Act.put]) (by simp [Act.eval, Act.put]) kp ?_; rintro v3 w3 ⟨hfin, r4, r5, a3, n3, c3, rfl⟩))
  all_goals (go_wp2 <;> first | exact hfin.out | (go_ret; exact hfin.out))
theorem post_no {w : World} {p m : Nat} {fv : Value} {l : List Msg} {P : Int → Int → Bool} {N : Nat} (h : BagAt w p m fv l P N) (f t : Int) (bv : Value) (hlen : ¬ l.length < 16384) :
    Calls Try.prog 17 #[.pointer (some ⟨p, 0, none⟩), .int .i64 f, .int .i64 t, bv] w fun e w' => e = .returned (.bool false) ∧ w' = w := by
  obtain ⟨q0, q1, q2⟩ := h.cells
  obtain ⟨ao, cap, hfv, -⟩ := h.row.shape
  have kr := room_of (hfv ▸ q0) q1
  rw [show decide ((l.length : Int) < 16384) = false by simp; omega] at kr
  go_enter Try.func17, Try.ntmps17
  go_wp2_with (go_at_call 26; refine kr.mono ?_; rintro e wq ⟨rfl, hwq⟩; rw [hwq]; clear hwq wq)
  go_ret
  exact ⟨rfl, rfl⟩
end Go.Proofs.Ytjkjekhbfjjnjaa

