import Derived.Test.YtoipjmjhplkibaaGreatDoorW18
/- Rows of pairs, of one's own: segments and places. -/
namespace Go.Proofs.YtoipjmjhplkibaaGreatDoor
open Go.RowKit
set_option maxRecDepth 100000
set_option linter.unusedSimpArgs false
set_option linter.unusedVariables false

/-- Pairs as cells. -/
def c2 (xs : List (Value × Value)) : List Value := xs.flatMap fun x => [x.1, x.2]
theorem c2_nil : c2 [] = [] := rfl
theorem c2_cons (x : Value × Value) (xs : List (Value × Value)) : c2 (x :: xs) = x.1 :: x.2 :: c2 xs := by simp [c2]
theorem c2_append (xs ys : List (Value × Value)) : c2 (xs ++ ys) = c2 xs ++ c2 ys := by simp [c2]
theorem c2_length : ∀ xs, (c2 xs).length = xs.length * 2
  | [] => rfl
  | x :: xs => by rw [c2_cons, List.length_cons, List.length_cons, c2_length xs, List.length_cons]; omega
theorem c2_get : ∀ (xs : List (Value × Value)) (i : Nat) (x : Value × Value), xs[i]? = some x → (c2 xs)[i * 2]? = some x.1 ∧ (c2 xs)[i * 2 + 1]? = some x.2
  | [], i, x, h => by simp at h
  | y :: xs, 0, x, h => by
    simp only [List.getElem?_cons_zero, Option.some.injEq] at h
    subst h
    exact ⟨rfl, rfl⟩
  | y :: xs, i + 1, x, h => by
    obtain ⟨h1, h2⟩ := c2_get xs i x (by simpa using h)
    rw [c2_cons, show (i + 1) * 2 = i * 2 + 1 + 1 by omega]
    exact ⟨by simpa using h1, by simpa using h2⟩
theorem c2_take : ∀ (xs : List (Value × Value)) (n : Nat), (c2 xs).take (n * 2) = c2 (xs.take n)
  | [], n => by simp [c2]
  | x :: xs, 0 => by simp [c2]
  | x :: xs, n + 1 => by
    rw [List.take_succ_cons, c2_cons, c2_cons, show (n + 1) * 2 = n * 2 + 1 + 1 by omega, List.take_succ_cons, List.take_succ_cons, c2_take xs n]
theorem c2_drop : ∀ (xs : List (Value × Value)) (n : Nat), (c2 xs).drop (n * 2) = c2 (xs.drop n)
  | [], n => by simp [c2]
  | x :: xs, 0 => by simp
  | x :: xs, n + 1 => by
    rw [List.drop_succ_cons, c2_cons, show (n + 1) * 2 = n * 2 + 1 + 1 by omega, List.drop_succ_cons, List.drop_succ_cons, c2_drop xs n]
theorem c2_set2 : ∀ (xs : List (Value × Value)) (i : Nat) (x : Value × Value) (b : Value), xs[i]? = some x → (c2 xs).set (i * 2 + 1) b = c2 (xs.set i (x.1, b))
  | [], i, x, b, h => by simp at h
  | y :: xs, 0, x, b, h => by
    simp only [List.getElem?_cons_zero, Option.some.injEq] at h
    subst h
    rfl
  | y :: xs, i + 1, x, b, h => by
    rw [List.set_cons_succ, c2_cons, c2_cons, show (i + 1) * 2 + 1 = (i * 2 + 1) + 1 + 1 by omega, List.set_cons_succ, List.set_cons_succ, c2_set2 xs i x b (by simpa using h)]

/-- A row of pairs of one's own. -/
def R2 (w : World) (t : TypeId) (v : Value) (xs : List (Value × Value)) : Prop := w.ownsRow 0 t 2 v xs.length (c2 xs)

theorem R2.shape {w : World} {t : TypeId} {v : Value} {xs : List (Value × Value)} (h : R2 w t v xs) : ∃ ao cap, v = .slice ao xs.length cap ∧ xs.length ≤ cap ∧ cap ≤ maxLen ∧ (ao = none → xs = []) := by
  obtain ⟨_, ⟨r1, r2⟩ | ⟨g, cp, _, r1, _, _, r2, r3, _⟩⟩ := h
  · exact ⟨none, 0, by rw [r1, r2], by omega, Nat.zero_le _, fun _ => List.eq_nil_of_length_eq_zero r2⟩
  · exact ⟨_, _, r1, r2, r3, fun h => by cases h⟩
theorem R2.nil (w : World) (t : TypeId) : R2 w t (.slice none 0 0) [] := World.ownsRow_nil w 0 t 2
theorem R2.cells {w : World} {t : TypeId} {v : Value} {xs : List (Value × Value)} (h : R2 w t v xs) (hne : xs ≠ []) : ∃ g cap, v = .slice (some ⟨g, 0, none⟩) xs.length cap ∧ xs.length ≤ cap ∧ cap ≤ maxLen ∧ g < w.heap.size ∧ (∀ i x, xs[i]? = some x → w.cell? ⟨g, i * 2, none⟩ = some x.1 ∧ w.cell? ⟨g, i * 2 + 1, none⟩ = some x.2) ∧ ∀ i, w.frozen? ⟨g, i, none⟩ = false := by
  have hn : 0 < xs.length := List.length_pos_iff.2 hne
  obtain ⟨_, ⟨_, r2⟩ | ⟨g, cp, cur, r1, _, hbk, hle, hm, _, ht⟩⟩ := id h
  · omega
  · have hcell : ∀ (j : Nat) (u : Value), (c2 xs)[j]? = some u → w.cell? ⟨g, j, none⟩ = some u := fun j u hj => by
      rw [cells_of_block hbk]
      rw [← ht, List.getElem?_take] at hj
      split at hj
      · simpa using hj
      · cases hj
    exact ⟨g, cp, r1, hle, hm, (Array.getElem?_eq_some_iff.1 hbk).1, fun i x hx => ⟨hcell _ _ (c2_get xs i x hx).1, hcell _ _ (c2_get xs i x hx).2⟩, fun i => frozen_of hbk i⟩
theorem R2.same {w w' : World} {t : TypeId} {v : Value} {xs : List (Value × Value)} (h : R2 w t v xs) (hs : ∀ k, v.ownBlock = some k → w'.heap[k]? = w.heap[k]?) : R2 w' t v xs := by
  obtain ⟨h0, h1 | ⟨g, cap, cur, e1, hg, hbk, r⟩⟩ := h
  · exact ⟨h0, .inl h1⟩
  · exact ⟨h0, .inr ⟨g, cap, cur, e1, hg, (hs g (by rw [e1]; rfl)).trans hbk, r⟩⟩
theorem R2.lt {w : World} {t : TypeId} {v : Value} {xs : List (Value × Value)} (h : R2 w t v xs) {k : Nat} (hk : v.ownBlock = some k) : k < w.heap.size := (World.ownsRow.lt h k hk).2
/-- The first n of a row. -/
theorem R2.took {w : World} {t : TypeId} {ao : Option Addr} {len cap : Nat} {xs : List (Value × Value)} (h : R2 w t (.slice ao len cap) xs) (n : Nat) (hn : n ≤ xs.length) : R2 w t (.slice ao n cap) (xs.take n) := by
  have hl : (xs.take n).length = n := by rw [List.length_take]; omega
  unfold R2
  rw [hl]
  obtain ⟨h0, ⟨r1, r2⟩ | ⟨g, cp, cur, r1, hg, hbk, hle, hm, hcs, ht⟩⟩ := h
  · cases r1
    obtain rfl : xs = [] := List.eq_nil_of_length_eq_zero r2
    obtain rfl : n = 0 := by simpa using hn
    exact World.ownsRow_nil w 0 t 2
  · cases r1
    refine ⟨by rw [c2_length, hl], .inr ⟨g, cap, cur, rfl, hg, hbk, by omega, hm, hcs, ?_⟩⟩
    rw [← c2_take, ← ht, List.take_take, Nat.min_eq_left (Nat.mul_le_mul_right 2 hn)]
/-- A second cell turned. -/
theorem R2.set {w : World} {t : TypeId} {g len cap : Nat} {xs : List (Value × Value)} (h : R2 w t (.slice (some ⟨g, 0, none⟩) len cap) xs) {i : Nat} {x : Value × Value} (hi : xs[i]? = some x) (b : Value) : R2 (w.setCell ⟨g, i * 2 + 1, none⟩ b) t (.slice (some ⟨g, 0, none⟩) len cap) (xs.set i (x.1, b)) := by
  obtain ⟨h0, ⟨r1, r2⟩ | ⟨g', cp, cur, r1, hg, hbk, hle, hm, hcs, ht⟩⟩ := h
  · cases r1
  · cases r1
    have hil := (List.getElem?_eq_some_iff.1 hi).1
    refine ⟨by rw [c2_length, List.length_set], .inr ⟨g, cap, cur.setIfInBounds (i * 2 + 1) b, by rw [List.length_set], hg, ?_, by rw [List.length_set]; exact hle, hm, by rw [Array.size_setIfInBounds]; exact hcs, ?_⟩⟩
    · simp [World.setCell, Array.getElem?_modify, hbk]
    · rw [List.length_set, ← c2_set2 xs i x b hi, ← ht]
      rw [Array.toList_setIfInBounds, List.take_set]

/-- One pair more. -/
theorem run_push2 (w : World) (ts t ty : TypeId) (i0 : TypeInfo) (z : Value) (by_ : Nat) (ht : Tryz.prog.underlying ts = some (.slice t)) (hi : Tryz.prog.info? t = some i0) (hz : i0.zero = some z) (hsz : i0.size = 2) (hby : i0.bytes = by_) (hzs : z.cells.size = 2) (hb0 : by_ ≤ 1000)
    (v : Value) (xs : List (Value × Value)) (x : Value × Value) (h : R2 w t v xs) (hlen : xs.length ≤ 1000000) (h1 : x.1.oneCell' = true) (h2 : x.2.oneCell' = true) :
    ∃ v' w', (Builtin.append_ #[ts, ts] ty #[v, .slice (some ⟨w.heap.size, 0, none⟩) 1 1]).run Tryz.prog (w.alloc (.cells #[x.1, x.2] t)) = .ok v' w' ∧ R2 w' t v' (xs ++ [x]) ∧ w.grownBy w' v.ownBlock ∧ ∀ k, v'.ownBlock = some k → v.ownBlock = some k ∨ w.heap.size ≤ k := by
  have hb1 := (Below.refl w.heap.size w).alloc (Nat.le_refl _) (.cells #[x.1, x.2] t)
  obtain ⟨v', w', hrun, hO, hg, hfr⟩ := run_append_own2 (w.alloc (.cells #[x.1, x.2] t)) 0 ts ty t i0 z 2 by_ ht hi hz hsz hby hzs (by decide) v xs.length (c2 xs) (ownsRow_below h hb1)
    ⟨w.heap.size, 0, none⟩ 1 1 [x.1, x.2] rfl (by
      intro j u hj
      rw [Addr.add_lit, cells_of_block (heap_alloc_new w _), Nat.zero_add, ← Array.getElem?_toList]
      exact hj) (by
      intro u hu
      simp only [List.mem_cons, List.not_mem_nil, or_false] at hu
      rcases hu with rfl | rfl
      · exact h1
      · exact h2) (by unfold maxLen; omega) (by
        have : (xs.length + 1) * by_ ≤ 1000001 * 1000 := Nat.mul_le_mul (by omega) hb0
        omega) (Nat.zero_le _)
  refine ⟨v', w', hrun, ?_, ⟨hg.os.trans hb1.os, hg.tape.trans hb1.tape, hg.output.trans hb1.output, Nat.le_trans hb1.size hg.size, fun i hi' hne => (hg.block i (Nat.lt_of_lt_of_le hi' hb1.size) hne).trans (hb1.block i hi')⟩, fun k hk => ?_⟩
  · unfold R2
    rw [c2_append, List.length_append]
    exact hO
  · rcases hfr k hk with h' | h'
    · exact .inl h'
    · exact .inr (Nat.le_trans hb1.size h')

theorem infoSeg : (Tryz.prog.info? 81).map (fun i => (i.zero, i.size, i.bytes)) = some (some (.agg #[.int .i64 0, .slice none 0 0]), 2, 32) := by kernel_rfl
theorem infoPlace : (Tryz.prog.info? 140).map (fun i => (i.zero, i.size, i.bytes)) = some (some (.agg #[.int .u64 0, .int .i64 0]), 2, 16) := by kernel_rfl
theorem infoWFile : (Tryz.prog.info? 137).map (fun i => (i.zero, i.size, i.bytes)) = some (some (.agg #[.int .i64 0, .slice none 0 0]), 2, 32) := by kernel_rfl
theorem infoRec : (Tryz.prog.info? 44).map (fun i => (i.zero, i.size, i.bytes)) = some (some (.agg #[.int .u64 0, .slice none 0 0]), 2, 32) := by kernel_rfl

theorem push_seg (w : World) (ty : TypeId) (v : Value) (xs : List (Value × Value)) (x : Value × Value) (h : R2 w 81 v xs) (hlen : xs.length ≤ 1000000) (h1 : x.1.oneCell' = true) (h2 : x.2.oneCell' = true) :
    ∃ v' w', (Builtin.append_ #[73, 73] ty #[v, .slice (some ⟨w.heap.size, 0, none⟩) 1 1]).run Tryz.prog (w.alloc (.cells #[x.1, x.2] 81)) = .ok v' w' ∧ R2 w' 81 v' (xs ++ [x]) ∧ w.grownBy w' v.ownBlock ∧ ∀ k, v'.ownBlock = some k → v.ownBlock = some k ∨ w.heap.size ≤ k := by
  obtain ⟨i0, hi, hz0, hz1, hz2⟩ := info_parts infoSeg
  exact run_push2 w 73 81 ty i0 _ _ Tryz.underlying73 hi hz0 hz1 hz2 rfl (by decide) v xs x h hlen h1 h2
theorem push_place (w : World) (ty : TypeId) (v : Value) (xs : List (Value × Value)) (x : Value × Value) (h : R2 w 140 v xs) (hlen : xs.length ≤ 1000000) (h1 : x.1.oneCell' = true) (h2 : x.2.oneCell' = true) :
    ∃ v' w', (Builtin.append_ #[79, 79] ty #[v, .slice (some ⟨w.heap.size, 0, none⟩) 1 1]).run Tryz.prog (w.alloc (.cells #[x.1, x.2] 140)) = .ok v' w' ∧ R2 w' 140 v' (xs ++ [x]) ∧ w.grownBy w' v.ownBlock ∧ ∀ k, v'.ownBlock = some k → v.ownBlock = some k ∨ w.heap.size ≤ k := by
  obtain ⟨i0, hi, hz0, hz1, hz2⟩ := info_parts infoPlace
  exact run_push2 w 79 140 ty i0 _ _ Tryz.underlying79 hi hz0 hz1 hz2 rfl (by decide) v xs x h hlen h1 h2
theorem push_file (w : World) (ty : TypeId) (v : Value) (xs : List (Value × Value)) (x : Value × Value) (h : R2 w 137 v xs) (hlen : xs.length ≤ 1000000) (h1 : x.1.oneCell' = true) (h2 : x.2.oneCell' = true) :
    ∃ v' w', (Builtin.append_ #[132, 132] ty #[v, .slice (some ⟨w.heap.size, 0, none⟩) 1 1]).run Tryz.prog (w.alloc (.cells #[x.1, x.2] 137)) = .ok v' w' ∧ R2 w' 137 v' (xs ++ [x]) ∧ w.grownBy w' v.ownBlock ∧ ∀ k, v'.ownBlock = some k → v.ownBlock = some k ∨ w.heap.size ≤ k := by
  obtain ⟨i0, hi, hz0, hz1, hz2⟩ := info_parts infoWFile
  exact run_push2 w 132 137 ty i0 _ _ Tryz.underlying132 hi hz0 hz1 hz2 rfl (by decide) v xs x h hlen h1 h2
theorem push_rec (w : World) (ty : TypeId) (v : Value) (xs : List (Value × Value)) (x : Value × Value) (h : R2 w 44 v xs) (hlen : xs.length ≤ 1000000) (h1 : x.1.oneCell' = true) (h2 : x.2.oneCell' = true) :
    ∃ v' w', (Builtin.append_ #[50, 50] ty #[v, .slice (some ⟨w.heap.size, 0, none⟩) 1 1]).run Tryz.prog (w.alloc (.cells #[x.1, x.2] 44)) = .ok v' w' ∧ R2 w' 44 v' (xs ++ [x]) ∧ w.grownBy w' v.ownBlock ∧ ∀ k, v'.ownBlock = some k → v.ownBlock = some k ∨ w.heap.size ≤ k := by
  obtain ⟨i0, hi, hz0, hz1, hz2⟩ := info_parts infoRec
  exact run_push2 w 50 44 ty i0 _ _ Tryz.underlying50 hi hz0 hz1 hz2 rfl (by decide) v xs x h hlen h1 h2
end Go.Proofs.YtoipjmjhplkibaaGreatDoor

