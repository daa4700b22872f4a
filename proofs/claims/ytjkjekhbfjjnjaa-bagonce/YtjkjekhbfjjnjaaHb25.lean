import Derived.Test.YtjkjekhbfjjnjaaHb16
import Derived.Test.YtjkjekhbfjjnjaaHb18
/- The state of the law BagOnce: what is left of each message is how often it is on its way. -/
namespace Go.Proofs.Ytjkjekhbfjjnjaa
open Go.RowKit Go.Maps Go.ChangeMaps
set_option maxRecDepth 100000
set_option linter.unusedSimpArgs false
set_option linter.unusedVariables false

theorem upd_ex (M : Value → Option Value) (v u : Value) : ∃ M' : Value → Option Value, M' v = some u ∧ ∀ v', v' ≠ v → M' v' = M v' := by
  classical
  exact ⟨fun v' => if v' = v then some u else M v', if_pos rfl, fun v' h => if_neg h⟩
theorem zeroInt (w : World) : (zeroValue 3).run Try.prog w = .ok (.int .i64 0) w := by kernel_rfl

/-- The map of what is left. -/
structure LeftAt (w : World) (b : Nat) (l : List Msg) (c : Nat) : Prop where
  ex : ∃ M c', c' ≤ c ∧ Mq 39 w b M c' ∧ ∀ x, MsgOk x → (M (mKey x)).getD (.int .i64 0) = .int .i64 ((l.count x : Nat) : Int)

theorem LeftAt.same {w w' : World} {b : Nat} {l : List Msg} {c : Nat} (h : LeftAt w b l c) (hs : w'.heap[b]? = w.heap[b]?) : LeftAt w' b l c := by
  obtain ⟨M, c', hc, hM, hl⟩ := h.ex
  exact ⟨M, c', hc, hM.same hs, hl⟩
theorem LeftAt.lt {w : World} {b : Nat} {l : List Msg} {c : Nat} (h : LeftAt w b l c) : b < w.heap.size := by
  obtain ⟨M, c', hc, hM, hl⟩ := h.ex
  exact hM.lt
theorem LeftAt.made (w : World) : LeftAt (w.alloc (.map #[] 0)) w.heap.size [] 0 := ⟨_, 0, Nat.le_refl _, Mq.made _ w, fun x _ => rfl⟩
/-- 'left[x]'. -/
theorem LeftAt.look {w : World} {b : Nat} {l : List Msg} {c : Nat} (h : LeftAt w b l c) {x : Msg} (hx : MsgOk x) :
    (Instr.lookup 42 (.map (some b)) (.agg #[.int .i64 x.1, .int .i64 x.2.1, .string (str x.2.2)]) false).run Try.prog w = .ok (.int .i64 ((l.count x : Nat) : Int)) w := by
  obtain ⟨M, c', hc, hM, hl⟩ := h.ex
  have := hM.look (Keyed.of_law msg_law) Try.underlying42 (zeroInt w) (mKey_key hx)
  rw [hl x hx] at this
  exact this
/-- 'left[x] op= ..'. -/
theorem LeftAt.entry {w : World} {b : Nat} {l : List Msg} {c : Nat} (h : LeftAt w b l c) (hc : c < 1000000) {x : Msg} (hx : MsgOk x) :
    ∃ (v0 : Value) (st : Nat) (W1 : World), (Instr.mapEntry 42 (.map (some b)) (.agg #[.int .i64 x.1, .int .i64 x.2.1, .string (str x.2.2)])).run Try.prog w = .ok (.tuple #[v0, goInt st]) W1 ∧ w.mapTurned W1 b ∧ (Instr.lookup 42 (.map (some b)) (.agg #[.int .i64 x.1, .int .i64 x.2.1, .string (str x.2.2)]) false).run Try.prog W1 = .ok (.int .i64 ((l.count x : Nat) : Int)) W1 ∧
      ∀ l' : List Msg, (∀ y, y ≠ x → l'.count y = l.count y) → ∀ w2 : World, w2.heap[b]? = W1.heap[b]? →
        ∃ w', (Instr.entryStore 42 (.map (some b)) (goInt st) (.int .i64 ((l'.count x : Nat) : Int))).run Try.prog w2 = .ok () w' ∧ LeftAt w' b l' (c + 1) ∧ w2.mapTurned w' b := by
  obtain ⟨M, c', hc', hM, hl⟩ := h.ex
  obtain ⟨v0, st, W1, e1, e0, elk, e2⟩ := hM.entry msg_law Try.underlying42 zeroInt (by unfold maxLen; omega) (mKey_key hx)
  rw [hl x hx] at elk
  refine ⟨v0, st, W1, e1, e0, elk, fun l' hl' w2 hw2 => ?_⟩
  obtain ⟨M', m1, m2⟩ := upd_ex M (mKey x) (.int .i64 ((l'.count x : Nat) : Int))
  obtain ⟨w', r1, r2, r3⟩ := e2 _ M' m1 m2 w2 hw2
  refine ⟨w', r1, ⟨M', _, ?_, r2, fun y hy => ?_⟩, r3⟩
  · split <;> omega
  · by_cases e : y = x
    · subst e; rw [m1]; rfl
    · rw [m2 _ (fun e' => e (mKey_inj hy hx e')), hl y hy, hl' y e]

theorem count_erase {l : List Msg} {i : Nat} {x : Msg} (hx : l[i]? = some x) : l.count x = (l.eraseIdx i).count x + 1 ∧ ∀ y, y ≠ x → (l.eraseIdx i).count y = l.count y := by
  have hi := (List.getElem?_eq_some_iff.1 hx).1
  have e : l = l.take i ++ x :: l.drop (i + 1) := by
    have := List.take_append_drop i l
    rw [List.drop_eq_getElem_cons hi, (List.getElem?_eq_some_iff.1 hx).2] at this
    exact this.symm
  have e2 : l.eraseIdx i = l.take i ++ l.drop (i + 1) := List.eraseIdx_eq_take_drop_succ _ _
  rw [e2]
  refine ⟨?_, fun y hy => ?_⟩
  · conv => lhs; rw [e]
    rw [List.count_append, List.count_append, List.count_cons_self]
    omega
  · conv => rhs; rw [e]
    rw [List.count_append, List.count_append, List.count_cons_of_ne (fun e => hy e.symm)]
theorem count_snoc {l : List Msg} {x : Msg} : (l ++ [x]).count x = l.count x + 1 ∧ ∀ y, y ≠ x → (l ++ [x]).count y = l.count y := by
  refine ⟨by simp, fun y hy => ?_⟩
  rw [List.count_append, List.count_cons_of_ne (fun e => hy e.symm)]
  simp
end Go.Proofs.Ytjkjekhbfjjnjaa

