import Derived.Test.YtlgnnfhnkfjafaaHp12
/- Rows as they are read and made, of any element; appends to a row of one's own; outside. -/
namespace Go.Proofs.Ytlgnnfhnkfjafaa
open Go.RowKit SpanMath
set_option maxRecDepth 100000
set_option linter.unusedSimpArgs false
set_option linter.unusedVariables false

/-- A slice as it is read, of any element. -/
def Rd {α : Type} (E : El α) (w : World) (v : Value) (xs : List α) : Prop :=
  ∃ ao cap, v = .slice ao xs.length cap ∧ xs.length ≤ cap ∧ (ao = none → cap = 0) ∧ ∀ (i : Nat) (x : α) (j : Nat) (u : Value), xs[i]? = some x → (E.enc x)[j]? = some u → ∃ b off, ao = some ⟨b, off, none⟩ ∧ w.cell? ⟨b, off + (i * E.k + j), none⟩ = some u
theorem Rd.below {α : Type} {E : El α} {w w' : World} {v : Value} {xs : List α} (h : Rd E w v xs) (hb : Below w.heap.size w w') : Rd E w' v xs := by
  obtain ⟨ao, cap, e, h0, h1, h2⟩ := h
  refine ⟨ao, cap, e, h0, h1, fun i x j u hx hu => ?_⟩
  obtain ⟨b, off, r1, r2⟩ := h2 i x j u hx hu
  exact ⟨b, off, r1, (hb.cell (p := ⟨b, off + (i * E.k + j), none⟩) (World.block_lt_of_cell? w _ r2)).trans r2⟩
theorem Rk.rd {α : Type} {E : El α} {w : World} {t : TypeId} {v : Value} {xs : List α} (h : Rk E w t v xs) : Rd E w v xs := by
  obtain ⟨_, ⟨r1, r2⟩ | ⟨g, cp, cur, r1, _, hbk, hle, hm, hcs, ht⟩⟩ := id h
  · refine ⟨none, 0, by rw [r1, r2], by omega, fun _ => rfl, fun i x j u hx => ?_⟩
    rw [List.eq_nil_of_length_eq_zero r2] at hx
    simp at hx
  · refine ⟨_, cp, r1, hle, (fun h => by cases h), fun i x j u hx hu => ⟨g, 0, rfl, ?_⟩⟩
    have hj : j < E.k := by
      have := (List.getElem?_eq_some_iff.1 hu).1
      rw [E.len] at this
      exact this
    have hi := (List.getElem?_eq_some_iff.1 hx).1
    rw [Nat.zero_add, cells_of_block hbk, ← hu, ← El.flat_get E xs i x j hx hj, ← ht, List.getElem?_take_of_lt (by
      have : (i + 1) * E.k ≤ xs.length * E.k := Nat.mul_le_mul_right _ hi
      rw [Nat.add_mul] at this
      omega)]
    simp
theorem Rd.sv {w : World} {v : Value} {l : List Sp} (h : Rd spE w v l) : Sv w v l := by
  obtain ⟨ao, cap, e, _, _, h2⟩ := h
  refine ⟨ao, cap, e, fun i s hs => ?_⟩
  obtain ⟨b, off, r1, r2⟩ := h2 i s 0 _ hs rfl
  obtain ⟨b', off', r3, r4⟩ := h2 i s 1 _ hs rfl
  rw [r1] at r3
  cases r3
  exact ⟨b, off, r1, r2, by rw [← Nat.add_assoc] at r4; exact r4⟩
/-- All its cells. -/
theorem Rd.cells {α : Type} {E : El α} {w : World} {xs : List α} {b off n cap : Nat} (h : Rd E w (.slice (some ⟨b, off, none⟩) n cap) xs) : ∀ j u, (E.flat xs)[j]? = some u → w.cell? ⟨b, off + j, none⟩ = some u := by
  obtain ⟨ao, cap', e, _, _, h2⟩ := h
  cases e
  intro j u hu
  have hj := (List.getElem?_eq_some_iff.1 hu).1
  rw [El.flat_length] at hj
  have hk := E.pos
  have hi : j / E.k < xs.length := Nat.div_lt_of_lt_mul (by rw [Nat.mul_comm]; exact hj)
  have hjm : j / E.k * E.k + j % E.k = j := by
    have := Nat.div_add_mod j E.k
    rw [Nat.mul_comm] at this
    exact this
  have hx : xs[j / E.k]? = some xs[j / E.k] := List.getElem?_eq_getElem hi
  have hget := El.flat_get E xs (j / E.k) xs[j / E.k] (j % E.k) hx (Nat.mod_lt _ hk)
  rw [hjm, hu] at hget
  obtain ⟨b', off', r1, r2⟩ := h2 (j / E.k) _ (j % E.k) u hx hget.symm
  cases r1
  rw [hjm] at r2
  exact r2

/-- What an append leaves. -/
def PushT {α : Type} (E : El α) (t : TypeId) (w : World) (v : Value) (xs' : List α) (v' : Value) (w' : World) : Prop := Rk E w' t v' xs' ∧ w.grownBy w' v.ownBlock ∧ ∀ k, v'.ownBlock = some k → v.ownBlock = some k ∨ w.heap.size ≤ k
theorem grown_of_below {w w1 w2 : World} {row : Option Nat} (hb : Below w.heap.size w w1) (hg : w1.grownBy w2 row) : w.grownBy w2 row :=
  ⟨hg.os.trans hb.os, hg.tape.trans hb.tape, hg.output.trans hb.output, Nat.le_trans hb.size hg.size, fun i hi hne => (hg.block i (Nat.lt_of_lt_of_le hi hb.size) hne).trans (hb.block i hi)⟩
theorem grown_below {n : Nat} {w w' : World} {row : Option Nat} (h : w.grownBy w' row) (hn : n ≤ w.heap.size) (hr : ∀ k, row = some k → n ≤ k) : Below n w w' :=
  ⟨h.os, h.tape, h.output, h.size, fun k hk => h.block k (by omega) fun e => by have := hr k e.symm; omega⟩
/-- 'append(v, x...)': whatever x. -/
theorem append_rd {α : Type} (E : El α) (w : World) (ts t : TypeId) (i0 : TypeInfo) (z : Value) (by_ : Nat) (ht : Try.prog.underlying ts = some (.slice t)) (hi : Try.prog.info? t = some i0) (hz : i0.zero = some z) (hsz : i0.size = E.k) (hby : i0.bytes = by_) (hzs : z.cells.size = E.k) (hb0 : by_ ≤ 1000)
    (v x : Value) (xs ys : List α) (h : Rk E w t v xs) (hx : Rd E w x ys) (hlen : xs.length ≤ 1000000) (hly : ys.length ≤ 1000000) :
    ∀ ty, ∃ v' w', (Builtin.append_ #[ts, ts] ty #[v, x]).run Try.prog w = .ok v' w' ∧ PushT E t w v (xs ++ ys) v' w' := by
  intro ty
  obtain ⟨ao, cap, e, hc, h1, h2⟩ := id hx
  cases ao with
  | none =>
    have h0 := h1 rfl
    have hy : ys = [] := List.eq_nil_of_length_eq_zero (by omega)
    subst hy h0
    rw [e]
    refine ⟨v, w, run_append_owned_none (P := Try.prog) (w := w) 0 ts ty t i0 E.k ht hi v xs.length (E.flat xs) h, by rw [List.append_nil]; exact h, ⟨rfl, rfl, rfl, Nat.le_refl _, fun _ _ _ => rfl⟩, fun k hk => .inl hk⟩
  | some a =>
    subst e
    obtain ⟨b, off, sp⟩ := a
    by_cases hy : ys = []
    · subst hy
      obtain ⟨v', w', hrun, hO, hg, hfr⟩ := run_append_own2 w 0 ts ty t i0 z E.k by_ ht hi hz hsz hby hzs E.pos v xs.length (E.flat xs) h ⟨b, off, sp⟩ 0 cap [] (by simp) (by simp) (by simp) (by unfold maxLen; omega) (by
          have : (xs.length + 0) * by_ ≤ 1000000 * 1000 := Nat.mul_le_mul (by omega) hb0
          omega) (Nat.zero_le _)
      refine ⟨v', w', hrun, ?_, hg, hfr⟩
      rw [List.append_nil] at hO ⊢
      exact hO
    · have hpos : 0 < ys.length := List.length_pos_iff.2 hy
      obtain ⟨b', off', r1, _⟩ := h2 0 ys[0] 0 ((E.enc ys[0])[0]'(by rw [E.len]; exact E.pos)) (List.getElem?_eq_getElem hpos) (List.getElem?_eq_getElem _)
      cases r1
      obtain ⟨v', w', hrun, hO, hg, hfr⟩ := run_append_own2 w 0 ts ty t i0 z E.k by_ ht hi hz hsz hby hzs E.pos v xs.length (E.flat xs) h ⟨b, off, none⟩ ys.length cap (E.flat ys) (El.flat_length E ys) (fun j u hu => by rw [Addr.add_lit]; exact Rd.cells hx j u hu) (El.flat_mem E) (by unfold maxLen; omega) (by
          have : (xs.length + ys.length) * by_ ≤ 2000000 * 1000 := Nat.mul_le_mul (by omega) hb0
          omega) (Nat.zero_le _)
      refine ⟨v', w', hrun, ?_, hg, hfr⟩
      unfold Rk
      rw [El.flat_append, List.length_append]
      exact hO

theorem info_get {t : TypeId} {z : Value} {s b : Nat} (h : (Try.prog.info? t).map (fun i => (i.zero, i.size, i.bytes)) = some (some z, s, b)) : ∃ i0, Try.prog.info? t = some i0 ∧ i0.zero = some z ∧ i0.size = s ∧ i0.bytes = b := by
  obtain ⟨i, h1, h2⟩ := Option.map_eq_some_iff.1 h
  simp only [Prod.mk.injEq] at h2
  exact ⟨i, h1, h2.1, h2.2.1, h2.2.2⟩
/-- A row that was just made. -/
theorem Rk.made {α : Type} {E : El α} {w : World} {t : TypeId} {g : Nat} {cs : Array Value} {xs : List α} (hg : w.heap[g]? = some (.cells cs t (0, 0))) (he : cs.toList = E.flat xs) (hl : xs.length ≤ maxLen) : Rk E w t (.slice (some ⟨g, 0, none⟩) xs.length xs.length) xs := by
  refine ⟨El.flat_length E xs, .inr ⟨g, xs.length, cs, rfl, Nat.zero_le _, hg, Nat.le_refl _, hl, ?_, ?_⟩⟩
  · rw [← Array.length_toList, he, El.flat_length]
  · rw [he, List.take_of_length_le (by rw [El.flat_length]; omega)]
/-- A row of one's own, in blocks from n on. -/
def Own (n : Nat) (w : World) (v : Value) (l : List Sp) : Prop := Rk spE w 43 v l ∧ ∀ k, v.ownBlock = some k → n ≤ k
theorem Own.nil (n : Nat) (w : World) : Own n w (.slice none 0 0) [] := ⟨Rk.nil _ _ _, fun k hk => by cases hk⟩
theorem Own.below {n : Nat} {w w' : World} {v : Value} {l : List Sp} (h : Own n w v l) (hb : Below w.heap.size w w') : Own n w' v l := ⟨h.1.same fun k hk => hb.block k (h.1.lt hk), h.2⟩
theorem Own.push {n : Nat} {w w' : World} {v v' : Value} {l l' : List Sp} (h : Own n w v l) (hn : n ≤ w.heap.size) (hp : PushT spE 43 w v l' v' w') : Own n w' v' l' ∧ Below n w w' := by
  obtain ⟨h1, h2, h3⟩ := hp
  refine ⟨⟨h1, fun k hk => ?_⟩, grown_below h2 hn h.2⟩
  rcases h3 k hk with h' | h'
  · exact h.2 k h'
  · omega

end Go.Proofs.Ytlgnnfhnkfjafaa

