import Derived.Test.YtglbjimpaoikfaaProg
import Derived.WalkKit
import Derived.ArgAppend
import Derived.Below
import Derived.Laws.AppendOwnNone
import Derived.OwnWalk
import Derived.Deep.LoopGhost
import Derived.Deep.QuietTactic
import Derived.Deep.RegionHeld3
import Derived.WalkSmall
import Derived.BigQuiet
import Derived.Laws.IdiomStrings
import Derived.Laws.Cover1
import Derived.Sort.Walk0
/- Rows of one's own, of any element: what append makes of one, and that its row is the old one, or new. -/
namespace Go.Proofs.Ytglbjimpaoikfaa
open Go.RowKit
set_option maxRecDepth 100000
set_option linter.unusedSimpArgs false
set_option linter.unusedVariables false

theorem cells_of_block {w : World} {b : Nat} {cs : Array Value} {t : TypeId} (h : w.heap[b]? = some (.cells cs t (0, 0))) (i : Nat) : w.cell? ⟨b, i, none⟩ = cs[i]? := by
  simp [World.cell?, h]
theorem frozen_of {w : World} {q : Nat} {cs : Array Value} {t : TypeId} (h : w.heap[q]? = some (.cells cs t (0, 0))) (i : Nat) : w.frozen? ⟨q, i, none⟩ = false := by
  simp [World.frozen?, h]

theorem run_append_own2 (w : World) (base : Nat) (t ty e : TypeId) (i : TypeInfo) (z : Value) (size bytes : Nat) (ht : Try.prog.underlying t = some (.slice e)) (hi : Try.prog.info? e = some i) (hz : i.zero = some z)
    (hsize : i.size = size) (hby : i.bytes = bytes) (hzs : z.cells.size = size) (hsz : 0 < size) (v : Value) (n : Nat) (xs : List Value) (hown : w.ownsRow base e size v n xs)
    (a : Addr) (m c : Nat) (news : List Value) (hl : news.length = m * size) (hnews : ∀ j u, news[j]? = some u → w.cell? (a.add j) = some u) (h1 : ∀ u ∈ news, u.oneCell' = true)
    (h63 : n + m ≤ maxLen) (hbytes : (n + m) * bytes ≤ 140737488355328) (hbase : base ≤ w.heap.size) :
    ∃ v' w', (Builtin.append_ #[t, t] ty #[v, .slice (some a) m c]).run Try.prog w = .ok v' w' ∧ w'.ownsRow base e size v' (n + m) (xs ++ news) ∧ w.grownBy w' v.ownBlock ∧ ∀ k, v'.ownBlock = some k → v.ownBlock = some k ∨ w.heap.size ≤ k := by
  obtain ⟨v', w', hrun, hown', hg, _⟩ := run_append_own (P := Try.prog) w base t ty e i z size bytes ht hi hz hsize hby hzs hsz v n xs hown a m c news hl hnews h1 h63 hbytes hbase
  refine ⟨v', w', hrun, hown', hg, fun k hk => ?_⟩
  obtain ⟨hxl, ⟨rfl, rfl⟩ | ⟨g, cp, cur, rfl, hgg, hbk, hle, hcm, hcs, htk⟩⟩ := hown
  · obtain ⟨v2, w2, hrun2, hown2, _⟩ := run_append_own (P := Try.prog) w w.heap.size t ty e i z size bytes ht hi hz hsize hby hzs hsz (.slice none 0 0) 0 [] (World.ownsRow_nil w _ _ size) a m c news hl hnews h1 h63 hbytes (Nat.le_refl _)
    cases hrun.symm.trans hrun2
    exact .inr (World.ownsRow.lt hown2 k hk).1
  · by_cases hroom : n + m ≤ cp
    · have hrun2 := run_append_room_cells (P := Try.prog) w t ty e i ht hi g 0 n cp a m c news (by rw [hsize]; exact hl) hnews h1 hroom
        (fun j hj => by
          rw [hsize, cells_of_block hbk, Array.getElem?_eq_getElem (by
            rw [hcs]
            have : (n + m) * size ≤ cp * size := Nat.mul_le_mul_right _ hroom
            rw [Nat.add_mul] at this
            omega)]
          rfl)
        (fun j _ => by simp [World.frozen?, hbk])
      cases hrun.symm.trans hrun2
      exact .inl hk
    · obtain ⟨v2, w2, hrun2, hown2, _⟩ := run_append_arg_grows (P := Try.prog) w t ty e i z size bytes ht hi hz hsize hby hzs hsz ⟨g, 0, none⟩ n cp xs hxl
        (fun j u hj => by
          rw [Addr.add_lit, cells_of_block hbk, Nat.zero_add]
          rw [← htk, List.getElem?_take] at hj
          split at hj
          · simpa using hj
          · cases hj)
        a m c news hl hnews (by omega) h63 hbytes
      cases hrun.symm.trans hrun2
      exact .inr (World.ownsRow.lt hown2 k hk).1

/-- How an element lies in cells. -/
structure El (α : Type) where
  enc : α → List Value
  k : Nat
  len : ∀ x, (enc x).length = k
  one : ∀ x, ∀ u ∈ enc x, u.oneCell' = true
  pos : 0 < k

/-- Elements as cells. -/
def El.flat {α : Type} (E : El α) (xs : List α) : List Value := xs.flatMap E.enc
theorem El.flat_cons {α : Type} (E : El α) (x : α) (xs : List α) : E.flat (x :: xs) = E.enc x ++ E.flat xs := by simp [El.flat]
theorem El.flat_append {α : Type} (E : El α) (xs ys : List α) : E.flat (xs ++ ys) = E.flat xs ++ E.flat ys := by simp [El.flat]
theorem El.flat_length {α : Type} (E : El α) : ∀ xs : List α, (E.flat xs).length = xs.length * E.k
  | [] => by simp [El.flat]
  | x :: xs => by rw [El.flat_cons, List.length_append, El.flat_length E xs, E.len, List.length_cons, Nat.add_mul]; omega
theorem El.flat_mem {α : Type} (E : El α) {xs : List α} : ∀ u ∈ E.flat xs, u.oneCell' = true := by
  intro u hu
  obtain ⟨x, _, hx⟩ := List.mem_flatMap.1 hu
  exact E.one x u hx
theorem El.flat_get {α : Type} (E : El α) : ∀ (xs : List α) (i : Nat) (x : α) (j : Nat), xs[i]? = some x → j < E.k → (E.flat xs)[i * E.k + j]? = (E.enc x)[j]?
  | [], i, x, j, h, _ => by simp at h
  | y :: xs, 0, x, j, h, hj => by
    simp only [List.getElem?_cons_zero, Option.some.injEq] at h
    subst h
    rw [El.flat_cons, Nat.zero_mul, Nat.zero_add, List.getElem?_append_left (by rw [E.len]; exact hj)]
  | y :: xs, i + 1, x, j, h, hj => by
    have h1 := El.flat_get E xs i x j (by simpa using h) hj
    rw [El.flat_cons, Nat.add_mul, Nat.one_mul, List.getElem?_append_right (by rw [E.len]; omega), E.len, ← h1]
    congr 1
    omega
/-- A row of one's own. -/
def Rk {α : Type} (E : El α) (w : World) (t : TypeId) (v : Value) (xs : List α) : Prop := w.ownsRow 0 t E.k v xs.length (E.flat xs)

theorem Rk.shape {α : Type} {E : El α} {w : World} {t : TypeId} {v : Value} {xs : List α} (h : Rk E w t v xs) : ∃ ao cap, v = .slice ao xs.length cap ∧ xs.length ≤ cap ∧ cap ≤ maxLen ∧ (ao = none → xs = []) := by
  obtain ⟨_, ⟨r1, r2⟩ | ⟨g, cp, _, r1, _, _, r2, r3, _⟩⟩ := h
  · exact ⟨none, 0, by rw [r1, r2], by omega, Nat.zero_le _, fun _ => List.eq_nil_of_length_eq_zero r2⟩
  · exact ⟨_, _, r1, r2, r3, fun h => by cases h⟩
theorem Rk.nil {α : Type} (E : El α) (w : World) (t : TypeId) : Rk E w t (.slice none 0 0) [] := World.ownsRow_nil w 0 t E.k
theorem Rk.cells {α : Type} {E : El α} {w : World} {t : TypeId} {v : Value} {xs : List α} (h : Rk E w t v xs) (hne : 0 < xs.length) : ∃ g cap cur, v = .slice (some ⟨g, 0, none⟩) xs.length cap ∧ xs.length ≤ cap ∧ cap ≤ maxLen ∧ w.heap[g]? = some (.cells cur t (0, 0)) ∧ cur.size = cap * E.k ∧ cur.toList.take (xs.length * E.k) = E.flat xs ∧ (∀ i x j, xs[i]? = some x → j < E.k → w.cell? ⟨g, i * E.k + j, none⟩ = (E.enc x)[j]?) ∧ ∀ i, w.frozen? ⟨g, i, none⟩ = false := by
  obtain ⟨_, ⟨_, r2⟩ | ⟨g, cp, cur, r1, _, hbk, hle, hm, hcs, ht⟩⟩ := id h
  · omega
  · refine ⟨g, cp, cur, r1, hle, hm, hbk, hcs, ht, fun i x j hx hj => ?_, fun i => frozen_of hbk i⟩
    have hi := (List.getElem?_eq_some_iff.1 hx).1
    rw [cells_of_block hbk, ← El.flat_get E xs i x j hx hj, ← ht, List.getElem?_take_of_lt (by
      have : (i + 1) * E.k ≤ xs.length * E.k := Nat.mul_le_mul_right _ hi
      rw [Nat.add_mul] at this
      omega)]
    simp
theorem Rk.same {α : Type} {E : El α} {w w' : World} {t : TypeId} {v : Value} {xs : List α} (h : Rk E w t v xs) (hs : ∀ k, v.ownBlock = some k → w'.heap[k]? = w.heap[k]?) : Rk E w' t v xs := by
  obtain ⟨h0, h1 | ⟨g, cap, cur, e1, hg, hbk, r⟩⟩ := h
  · exact ⟨h0, .inl h1⟩
  · exact ⟨h0, .inr ⟨g, cap, cur, e1, hg, (hs g (by rw [e1]; rfl)).trans hbk, r⟩⟩
theorem Rk.lt {α : Type} {E : El α} {w : World} {t : TypeId} {v : Value} {xs : List α} (h : Rk E w t v xs) {k : Nat} (hk : v.ownBlock = some k) : k < w.heap.size := (World.ownsRow.lt h k hk).2
theorem Rk.block {α : Type} {E : El α} {w : World} {t : TypeId} {v : Value} {xs : List α} (h : Rk E w t v xs) {k : Nat} (hk : v.ownBlock = some k) : ∃ cs, w.heap[k]? = some (.cells cs t (0, 0)) := by
  obtain ⟨_, ⟨r1, _⟩ | ⟨g, cp, cur, r1, _, hbk, _⟩⟩ := h
  · rw [r1] at hk; cases hk
  · rw [r1] at hk
    obtain rfl : g = k := by simpa [Value.ownBlock] using hk
    exact ⟨cur, hbk⟩
end Go.Proofs.Ytglbjimpaoikfaa

/- A region that draws its order, where some operations (a store at the end) wait for all that reads: what is held need not hold behind them. -/
namespace Go.Proofs.Ytglbjimpaoikfaa
open Go.RowKit
set_option linter.unusedVariables false

/-- As wpAnyH; behind the operations of M nothing is held. -/
def wpAnyL (P : Program) (md : Region.Mode) (ops : Array Oper) (Q : Exit → Act → World → Prop) (S : World → Prop) (M : List Nat) : Nat → Array Bool → Act → World → Prop
  | 0, listed, a, w => Region.ready md ops listed = [] ∧ Q .normal a w
  | fuel + 1, listed, a, w =>
    (Region.ready md ops listed = [] → Q .normal a w) ∧
    ∀ i ∈ Region.ready md ops listed, wpOp P ops Q i (fun a' w' => (i ∈ M ∨ S w') ∧ wpAnyL P md ops Q S M fuel (listed.setIfInBounds i true) a' w') a w

theorem wpAny_of_L {P : Program} {md : Region.Mode} {ops : Array Oper} {Q : Exit → Act → World → Prop} {S : World → Prop} {M : List Nat} : ∀ (fuel : Nat) (listed : Array Bool) (a : Act) (w : World), wpAnyL P md ops Q S M fuel listed a w → wpAny P md ops Q fuel listed a w
  | 0, _, _, _, h => h
  | fuel + 1, _, _, _, h => ⟨h.1, fun i hi => wpOp_mono (fun a' w' h' => wpAny_of_L fuel _ a' w' h'.2) (h.2 i hi)⟩

/-- Do all of M wait for number i? -/
def waitAll (md : Region.Mode) (ops : Array Oper) (M : List Nat) (i : Nat) : Bool := M.all fun m => match ops[m]? with | some om => om.after.any fun e => Region.binds md e && e.on == i | none => false
theorem waitAll_spec {md : Region.Mode} {ops : Array Oper} {M : List Nat} {i : Nat} (h : waitAll md ops M i = true) {j : Nat} {oj : Oper} (hj : ops[j]? = some oj) (hm : j ∈ M) : ∃ e ∈ oj.after, Region.binds md e = true ∧ e.on = i := by
  unfold waitAll at h
  rw [List.all_eq_true] at h
  have := h j hm
  rw [hj] at this
  simp only [Array.any_eq_true'] at this
  obtain ⟨e, he, h2⟩ := this
  rw [Bool.and_eq_true, beq_iff_eq] at h2
  exact ⟨e, he, h2.1, h2.2⟩

theorem wpAnyL_first {P : Program} {md : Region.Mode} {ops : Array Oper} {Q : Exit → Act → World → Prop} {S : World → Prop} {M : List Nat} {i : Nat} {oi : Oper} {v : Value} (hi : ops[i]? = some oi) (hsel : ∀ (j : Nat) (o : Oper) cs b, ops[j]? = some o → o.op ≠ .select cs b)
    (hQ : ∀ c a w, Q (.panic c) (a.put oi.dst v) w → Q (.panic c) a w) (hM : waitAll md ops M i = true) :
    ∀ (fuel : Nat) (listed : Array Bool) (a : Act) (w : World),
      (∀ j oj, ops[j]? = some oj → j ≠ i → listed.getD j true = false → (∀ e ∈ oj.after, Region.binds md e = true → e.on ≠ i) → oi.apart ops oj = true) →
      i ∈ Region.ready md ops listed → YieldsIf P ops S oi v a → S w →
      wpAnyL P md ops Q S M fuel (listed.setIfInBounds i true) (a.put oi.dst v) w → wpAnyL P md ops Q S M (fuel + 1) listed a w := by
  intro fuel
  induction fuel with
  | zero =>
    intro listed a w _ hr hy hS H
    refine ⟨fun h => (by rw [h] at hr; cases hr), fun j hj => ?_⟩
    by_cases hji : j = i
    · subst hji; exact hy.wpOp hi hS ⟨.inr hS, H⟩
    · have := ready_mono hj hji
      rw [H.1] at this
      cases this
  | succ fuel ih =>
    intro listed a w hfree hr hy hS H
    refine ⟨fun h => (by rw [h] at hr; cases hr), fun j hj => ?_⟩
    by_cases hji : j = i
    · subst hji; exact hy.wpOp hi hS ⟨.inr hS, H⟩
    · have h1 := H.2 j (ready_mono hj hji)
      obtain ⟨hjun, oj, hoj, hall⟩ := mem_ready.1 hj
      have hnot : ∀ e ∈ oj.after, Region.binds md e = true → e.on ≠ i := fun e he hb heq => by
        have h1 := hall e he hb
        have h0 := (mem_ready.1 hr).1
        rw [heq] at h1
        rcases Nat.lt_or_ge i listed.size with h' | h'
        · simp [h'] at h0 h1; rw [h0] at h1; cases h1
        · simp [Array.getElem?_eq_none h'] at h1
      have hjM : j ∉ M := fun hm => by
        obtain ⟨e, he, hb, hon⟩ := waitAll_spec hM hoj hm
        exact hnot e he hb hon
      have h2 := wpOp_putIf hoj (hfree j oj hoj hji hjun hnot) (fun cs b => hsel i oi cs b hi) (fun cs b => hsel j oj cs b hoj) hQ hy h1
      have hfree' : ∀ k ok, ops[k]? = some ok → k ≠ i → (listed.setIfInBounds j true).getD k true = false →
          (∀ e ∈ ok.after, Region.binds md e = true → e.on ≠ i) → oi.apart ops ok = true := fun k ok hk hki hun hno => by
        refine hfree k ok hk hki ?_ hno
        by_cases hjk : j = k
        · subst hjk; exact hjun
        · rw [getD_set_ne true hjk] at hun; exact hun
      refine wpOp_mono (fun a' w' h3 => ⟨h3.2.1, ih (listed.setIfInBounds j true) a' w' hfree' (ready_mono hr (Ne.symm hji)) h3.1 (h3.2.1.resolve_left hjM) ?_⟩) h2
      rw [Array.setIfInBounds_comm _ _ hji]
      exact h3.2.2

/-- Take number i first. -/
theorem wpAnyL_take {P : Program} {md : Region.Mode} {ops : Array Oper} {Q : Exit → Act → World → Prop} {S : World → Prop} {M : List Nat} (i : Nat) {oi : Oper} {v : Value} {fuel : Nat} {listed : Array Bool} {a : Act} {w : World} (hi : ops[i]? = some oi)
    (hs : Region.noSelect ops = true) (hf : Region.free md ops listed i = true) (hr : (Region.ready md ops listed).contains i = true) (hM : waitAll md ops M i = true)
    (hQ : ∀ c a w, Q (.panic c) (a.put oi.dst v) w → Q (.panic c) a w) (hw : Region.wanted oi (yielded ops a.tmps) = true) (hy : ∀ w, S w → (execOp a.eval oi).run P w = .ok (.value v) w) (hS : S w)
    (h : wpAnyL P md ops Q S M fuel (listed.setIfInBounds i true) (a.put oi.dst v) w) : wpAnyL P md ops Q S M (fuel + 1) listed a w :=
  wpAnyL_first hi (Region.noSelect_spec hs) hQ hM fuel listed a w (Region.free_spec hi hf) (by simpa using hr) (.inl ⟨hw, hy⟩) hS h

/-- One operation alone may come up. -/
theorem wpAnyL_one {P : Program} {md : Region.Mode} {ops : Array Oper} {Q : Exit → Act → World → Prop} {S : World → Prop} {M : List Nat} (i : Nat) {o : Oper} {fuel : Nat} {listed : Array Bool} {a : Act} {w : World} (hr : Region.ready md ops listed = [i]) (ho : ops[i]? = some o)
    (hw : Region.wanted o (yielded ops a.tmps) = true) (h : ∀ K' : Act → World → Prop, Shut (∀ a w, (i ∈ M ∨ S w) → wpAnyL P md ops Q S M fuel (listed.setIfInBounds i true) a w → K' a w) → Oper.wp P o a w K' Q) : wpAnyL P md ops Q S M (fuel + 1) listed a w := by
  refine ⟨fun h0 => (by rw [hr] at h0; cases h0), fun j hj => ?_⟩
  rw [hr] at hj
  obtain rfl := List.mem_singleton.1 hj
  refine wpOp_step ho fun K' hK => ?_
  rw [if_pos hw]
  exact h K' fun a w hS hW => hK a w ⟨hS, hW⟩

/-- An operation whose guard says no. -/
theorem wpAnyL_skip {P : Program} {md : Region.Mode} {ops : Array Oper} {Q : Exit → Act → World → Prop} {S : World → Prop} {M : List Nat} (i : Nat) {oi : Oper} {fuel : Nat} {listed : Array Bool} {a : Act} {w : World} (hi : ops[i]? = some oi)
    (hs : Region.noSelect ops = true) (hf : Region.free md ops listed i = true) (hr : (Region.ready md ops listed).contains i = true) (hM : waitAll md ops M i = true)
    (hQ : ∀ c a w, Q (.panic c) (a.put oi.dst undef) w → Q (.panic c) a w) (hw : Region.wanted oi (yielded ops a.tmps) = false) (hS : S w)
    (h : wpAnyL P md ops Q S M fuel (listed.setIfInBounds i true) (a.put oi.dst undef) w) : wpAnyL P md ops Q S M (fuel + 1) listed a w :=
  wpAnyL_first hi (Region.noSelect_spec hs) hQ hM fuel listed a w (Region.free_spec hi hf) (by simpa using hr) (.inr ⟨hw, rfl⟩) hS h
/-- Two operations may come up. -/
theorem wpAnyL_two {P : Program} {md : Region.Mode} {ops : Array Oper} {Q : Exit → Act → World → Prop} {S : World → Prop} {M : List Nat} (i j : Nat) {oi oj : Oper} {fuel : Nat} {listed : Array Bool} {a : Act} {w : World} (hr : Region.ready md ops listed = [i, j]) (hoi : ops[i]? = some oi) (hoj : ops[j]? = some oj)
    (hwi : Region.wanted oi (yielded ops a.tmps) = true) (hwj : Region.wanted oj (yielded ops a.tmps) = true)
    (h1 : ∀ K' : Act → World → Prop, Shut (∀ a w, (i ∈ M ∨ S w) → wpAnyL P md ops Q S M fuel (listed.setIfInBounds i true) a w → K' a w) → Oper.wp P oi a w K' Q)
    (h2 : ∀ K' : Act → World → Prop, Shut (∀ a w, (j ∈ M ∨ S w) → wpAnyL P md ops Q S M fuel (listed.setIfInBounds j true) a w → K' a w) → Oper.wp P oj a w K' Q) : wpAnyL P md ops Q S M (fuel + 1) listed a w := by
  refine ⟨fun h0 => (by rw [hr] at h0; cases h0), fun k hk => ?_⟩
  rw [hr] at hk
  simp only [List.mem_cons, List.not_mem_nil, or_false] at hk
  rcases hk with rfl | rfl
  · refine wpOp_step hoi fun K' hK => ?_
    rw [if_pos hwi]
    exact h1 K' fun a w hS hW => hK a w ⟨hS, hW⟩
  · refine wpOp_step hoj fun K' hK => ?_
    rw [if_pos hwj]
    exact h2 K' fun a w hS hW => hK a w ⟨hS, hW⟩
/-- All have come up. -/
theorem wpAnyL_done {P : Program} {md : Region.Mode} {ops : Array Oper} {Q : Exit → Act → World → Prop} {S : World → Prop} {M : List Nat} {listed : Array Bool} {a : Act} {w : World} (hr : Region.ready md ops listed = []) (h : Q .normal a w) : ∀ fuel, wpAnyL P md ops Q S M fuel listed a w
  | 0 => ⟨hr, h⟩
  | _ + 1 => ⟨fun _ => h, by rw [hr]; simp⟩

/-- The beginning. -/
theorem wp_region_L {P : Program} {ops : Array Oper} {Q : Exit → Act → World → Prop} (S : World → Prop) (M : List Nat) {id : Nat} {a : Act} {w : World} (hm : P.follows .mixedOrders = true)
    (h : wpAnyL P .any ops (NoPanic Q) S M ops.size (Array.replicate ops.size false) a w.drew) : (Code.region id ops true).wp P Q a w :=
  wp_region_noPanic (wp_region_any hm (wpAny_of_L _ _ _ _ h))
theorem wp_by {w : World} {ops : Array Oper} {rest : List Oper} {o : Oper} {a : Act} {Q : Exit → Act → World → Prop} {Φ : Value → World → Prop} (hgd : o.guard = none) (s x : Operand) (ts : TypeId)
    (ho : o.op = .call { callee := .builtin .append, args := #[s, x], argTypes := #[ts, ts] }) (v xv : Value) (hs : a.eval s = v) (hx : a.eval x = xv)
    (hrun : ∀ ty, ∃ v' w', (Builtin.append_ #[ts, ts] ty #[v, xv]).run Try.prog w = .ok v' w' ∧ Φ v' w')
    (h : ∀ v' w', Φ v' w' → wpList Try.prog ops Q rest (a.put o.dst v') w') : wpList Try.prog ops Q (o :: rest) a w := by
  obtain ⟨v', w', hr, hφ⟩ := hrun o.type
  refine wpList_plain hgd fun K hK' => ?_
  unfold Oper.wp
  simp [execOp, ho, resolve, invoke, builtin, hs, hx, hr, Result.andThen]
  exact hK' _ _ (h v' w' hφ)
end Go.Proofs.Ytglbjimpaoikfaa

