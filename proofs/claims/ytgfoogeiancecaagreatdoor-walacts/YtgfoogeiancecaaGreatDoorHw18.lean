import Derived.Test.YtgfoogeiancecaaGreatDoorHw14
import Derived.Test.YtgfoogeiancecaaGreatDoorHw03
import Derived.Deep.RegionWith
/- Rows of pairs, of one's own: segments and places. -/
namespace Go.Proofs.YtgfoogeiancecaaGreatDoor
open Go.RowKit
set_option maxRecDepth 100000
set_option linter.unusedSimpArgs false
set_option linter.unusedVariables false

/-- Pairs as cells. -/
def c2 (xs : List (Value × Value)) : List Value := xs.flatMap fun x => [x.1, x.2]
theorem c2_nil : c2 [] = [] := rfl
theorem c2_cons (x : Value × Value) (xs : List (Value × Value)) : c2 (x :: xs) = x.1 :: x.2 :: c2 xs := by simp [c2]
theorem c2_append (xs ys : List (Value × Value)) : c2 (xs ++ ys) = c2 xs ++ c2 ys := by simp [c2]
theorem c2_length : ∀ xs, (c2 xs).length = xs.length * 2
  | [] => rfl
  | x :: xs => by rw [c2_cons, List.length_cons, List.length_cons, c2_length xs, List.length_cons]; omega
theorem c2_get : ∀ (xs : List (Value × Value)) (i : Nat) (x : Value × Value), xs[i]? = some x → (c2 xs)[i * 2]? = some x.1 ∧ (c2 xs)[i * 2 + 1]? = some x.2
  | [], i, x, h => by simp at h
  | y :: xs, 0, x, h => by
    simp only [List.getElem?_cons_zero, Option.some.injEq] at h
    subst h
    exact ⟨rfl, rfl⟩
  | y :: xs, i + 1, x, h => by
    obtain ⟨h1, h2⟩ := c2_get xs i x (by simpa using h)
    rw [c2_cons, show (i + 1) * 2 = i * 2 + 1 + 1 by omega]
    exact ⟨by simpa using h1, by simpa using h2⟩
theorem c2_take : ∀ (xs : List (Value × Value)) (n : Nat), (c2 xs).take (n * 2) = c2 (xs.take n)
  | [], n => by simp [c2]
  | x :: xs, 0 => by simp [c2]
  | x :: xs, n + 1 => by
    rw [List.take_succ_cons, c2_cons, c2_cons, show (n + 1) * 2 = n * 2 + 1 + 1 by omega, List.take_succ_cons, List.take_succ_cons, c2_take xs n]
theorem c2_drop : ∀ (xs : List (Value × Value)) (n : Nat), (c2 xs).drop (n * 2) = c2 (xs.drop n)
  | [], n => by simp [c2]
  | x :: xs, 0 => by simp
  | x :: xs, n + 1 => by
    rw [List.drop_succ_cons, c2_cons, show (n + 1) * 2 = n * 2 + 1 + 1 by omega, List.drop_succ_cons, List.drop_succ_cons, c2_drop xs n]
theorem c2_set2 : ∀ (xs : List (Value × Value)) (i : Nat) (x : Value × Value) (b : Value), xs[i]? = some x → (c2 xs).set (i * 2 + 1) b = c2 (xs.set i (x.1, b))
  | [], i, x, b, h => by simp at h
  | y :: xs, 0, x, b, h => by
    simp only [List.getElem?_cons_zero, Option.some.injEq] at h
    subst h
    rfl
  | y :: xs, i + 1, x, b, h => by
    rw [List.set_cons_succ, c2_cons, c2_cons, show (i + 1) * 2 + 1 = (i * 2 + 1) + 1 + 1 by omega, List.set_cons_succ, List.set_cons_succ, c2_set2 xs i x b (by simpa using h)]

/-- A row of pairs of one's own. -/
def R2 (w : World) (t : TypeId) (v : Value) (xs : List (Value × Value)) : Prop := w.ownsRow 0 t 2 v xs.length (c2 xs)

theorem R2.shape {w : World} {t : TypeId} {v : Value} {xs : List (Value × Value)} (h : R2 w t v xs) : ∃ ao cap, v = .slice ao xs.length cap ∧ xs.length ≤ cap ∧ cap ≤ maxLen ∧ (ao = none → xs = []) := by
  obtain ⟨_, ⟨r1, r2⟩ | ⟨g, cp, _, r1, _, _, r2, r3, _⟩⟩ := h
  · exact ⟨none, 0, by rw [r1, r2], by omega, Nat.zero_le _, fun _ => List.eq_nil_of_length_eq_zero r2⟩
  · exact ⟨_, _, r1, r2, r3, fun h => by cases h⟩
theorem R2.nil (w : World) (t : TypeId) : R2 w t (.slice none 0 0) [] := World.ownsRow_nil w 0 t 2
theorem R2.cells {w : World} {t : TypeId} {v : Value} {xs : List (Value × Value)} (h : R2 w t v xs) (hne : xs ≠ []) : ∃ g cap, v = .slice (some ⟨g, 0, none⟩) xs.length cap ∧ xs.length ≤ cap ∧ cap ≤ maxLen ∧ g < w.heap.size ∧ (∀ i x, xs[i]? = some x → w.cell? ⟨g, i * 2, none⟩ = some x.1 ∧ w.cell? ⟨g, i * 2 + 1, none⟩ = some x.2) ∧ ∀ i, w.frozen? ⟨g, i, none⟩ = false := by
  have hn : 0 < xs.length := List.length_pos_iff.2 hne
  obtain ⟨_, ⟨_, r2⟩ | ⟨g, cp, cur, r1, _, hbk, hle, hm, _, ht⟩⟩ := id h
  · omega
  · have hcell : ∀ (j : Nat) (u : Value), (c2 xs)[j]? = some u → w.cell? ⟨g, j, none⟩ = some u := fun j u hj => by
      rw [cells_of_block hbk]
      rw [← ht, List.getElem?_take] at hj
      split at hj
      · simpa using hj
      · cases hj
    exact ⟨g, cp, r1, hle, hm, (Array.getElem?_eq_some_iff.1 hbk).1, fun i x hx => ⟨hcell _ _ (c2_get xs i x hx).1, hcell _ _ (c2_get xs i x hx).2⟩, fun i => frozen_of hbk i⟩
theorem R2.same {w w' : World} {t : TypeId} {v : Value} {xs : List (Value × Value)} (h : R2 w t v xs) (hs : ∀ k, v.ownBlock = some k → w'.heap[k]? = w.heap[k]?) : R2 w' t v xs := by
  obtain ⟨h0, h1 | ⟨g, cap, cur, e1, hg, hbk, r⟩⟩ := h
  · exact ⟨h0, .inl h1⟩
  · exact ⟨h0, .inr ⟨g, cap, cur, e1, hg, (hs g (by rw [e1]; rfl)).trans hbk, r⟩⟩
theorem R2.lt {w : World} {t : TypeId} {v : Value} {xs : List (Value × Value)} (h : R2 w t v xs) {k : Nat} (hk : v.ownBlock = some k) : k < w.heap.size := (World.ownsRow.lt h k hk).2
/-- The first n of a row. -/
theorem R2.took {w : World} {t : TypeId} {ao : Option Addr} {len cap : Nat} {xs : List (Value × Value)} (h : R2 w t (.slice ao len cap) xs) (n : Nat) (hn : n ≤ xs.length) : R2 w t (.slice ao n cap) (xs.take n) := by
  have hl : (xs.take n).length = n := by rw [List.length_take]; omega
  unfold R2
  rw [hl]
  obtain ⟨h0, ⟨r1, r2⟩ | ⟨g, cp, cur, r1, hg, hbk, hle, hm, hcs, ht⟩⟩ := h
  · cases r1
    obtain rfl : xs = [] := List.eq_nil_of_length_eq_zero r2
    obtain rfl : n = 0 := by simpa using hn
    exact World.ownsRow_nil w 0 t 2
  · cases r1
    refine ⟨by rw [c2_length, hl], .inr ⟨g, cap, cur, rfl, hg, hbk, by omega, hm, hcs, ?_⟩⟩
    rw [← c2_take, ← ht, List.take_take, Nat.min_eq_left (Nat.mul_le_mul_right 2 hn)]
/-- A second cell turned. -/
theorem R2.set {w : World} {t : TypeId} {g len cap : Nat} {xs : List (Value × Value)} (h : R2 w t (.slice (some ⟨g, 0, none⟩) len cap) xs) {i : Nat} {x : Value × Value} (hi : xs[i]? = some x) (b : Value) : R2 (w.setCell ⟨g, i * 2 + 1, none⟩ b) t (.slice (some ⟨g, 0, none⟩) len cap) (xs.set i (x.1, b)) := by
  obtain ⟨h0, ⟨r1, r2⟩ | ⟨g', cp, cur, r1, hg, hbk, hle, hm, hcs, ht⟩⟩ := h
  · cases r1
  · cases r1
    have hil := (List.getElem?_eq_some_iff.1 hi).1
    refine ⟨by rw [c2_length, List.length_set], .inr ⟨g, cap, cur.setIfInBounds (i * 2 + 1) b, by rw [List.length_set], hg, ?_, by rw [List.length_set]; exact hle, hm, by rw [Array.size_setIfInBounds]; exact hcs, ?_⟩⟩
    · simp [World.setCell, Array.getElem?_modify, hbk]
    · rw [List.length_set, ← c2_set2 xs i x b hi, ← ht]
      rw [Array.toList_setIfInBounds, List.take_set]

/-- One pair more. -/
theorem run_push2 (w : World) (ts t ty : TypeId) (i0 : TypeInfo) (z : Value) (by_ : Nat) (ht : Tryz.prog.underlying ts = some (.slice t)) (hi : Tryz.prog.info? t = some i0) (hz : i0.zero = some z) (hsz : i0.size = 2) (hby : i0.bytes = by_) (hzs : z.cells.size = 2) (hb0 : by_ ≤ 1000)
    (v : Value) (xs : List (Value × Value)) (x : Value × Value) (h : R2 w t v xs) (hlen : xs.length ≤ 1000000) (h1 : x.1.oneCell' = true) (h2 : x.2.oneCell' = true) :
    ∃ v' w', (Builtin.append_ #[ts, ts] ty #[v, .slice (some ⟨w.heap.size, 0, none⟩) 1 1]).run Tryz.prog (w.alloc (.cells #[x.1, x.2] t)) = .ok v' w' ∧ R2 w' t v' (xs ++ [x]) ∧ w.grownBy w' v.ownBlock ∧ ∀ k, v'.ownBlock = some k → v.ownBlock = some k ∨ w.heap.size ≤ k := by
  have hb1 := (Below.refl w.heap.size w).alloc (Nat.le_refl _) (.cells #[x.1, x.2] t)
  obtain ⟨v', w', hrun, hO, hg, hfr⟩ := run_append_own2 (w.alloc (.cells #[x.1, x.2] t)) 0 ts ty t i0 z 2 by_ ht hi hz hsz hby hzs (by decide) v xs.length (c2 xs) (ownsRow_below h hb1)
    ⟨w.heap.size, 0, none⟩ 1 1 [x.1, x.2] rfl (by
      intro j u hj
      rw [Addr.add_lit, cells_of_block (heap_alloc_new w _), Nat.zero_add, ← Array.getElem?_toList]
      exact hj) (by
      intro u hu
      simp only [List.mem_cons, List.not_mem_nil, or_false] at hu
      rcases hu with rfl | rfl
      · exact h1
      · exact h2) (by unfold maxLen; omega) (by
        have : (xs.length + 1) * by_ ≤ 1000001 * 1000 := Nat.mul_le_mul (by omega) hb0
        omega) (Nat.zero_le _)
  refine ⟨v', w', hrun, ?_, ⟨hg.os.trans hb1.os, hg.tape.trans hb1.tape, hg.output.trans hb1.output, Nat.le_trans hb1.size hg.size, fun i hi' hne => (hg.block i (Nat.lt_of_lt_of_le hi' hb1.size) hne).trans (hb1.block i hi')⟩, fun k hk => ?_⟩
  · unfold R2
    rw [c2_append, List.length_append]
    exact hO
  · rcases hfr k hk with h' | h'
    · exact .inl h'
    · exact .inr (Nat.le_trans hb1.size h')

theorem infoSeg : (Tryz.prog.info? 62).map (fun i => (i.zero, i.size, i.bytes)) = some (some (.agg #[.int .i64 0, .slice none 0 0]), 2, 32) := by kernel_rfl
theorem infoPlace : (Tryz.prog.info? 109).map (fun i => (i.zero, i.size, i.bytes)) = some (some (.agg #[.int .u64 0, .int .i64 0]), 2, 16) := by kernel_rfl
theorem infoWFile : (Tryz.prog.info? 105).map (fun i => (i.zero, i.size, i.bytes)) = some (some (.agg #[.int .i64 0, .slice none 0 0]), 2, 32) := by kernel_rfl
theorem infoRec : (Tryz.prog.info? 44).map (fun i => (i.zero, i.size, i.bytes)) = some (some (.agg #[.int .u64 0, .slice none 0 0]), 2, 32) := by kernel_rfl

theorem push_seg (w : World) (ty : TypeId) (v : Value) (xs : List (Value × Value)) (x : Value × Value) (h : R2 w 62 v xs) (hlen : xs.length ≤ 1000000) (h1 : x.1.oneCell' = true) (h2 : x.2.oneCell' = true) :
    ∃ v' w', (Builtin.append_ #[54, 54] ty #[v, .slice (some ⟨w.heap.size, 0, none⟩) 1 1]).run Tryz.prog (w.alloc (.cells #[x.1, x.2] 62)) = .ok v' w' ∧ R2 w' 62 v' (xs ++ [x]) ∧ w.grownBy w' v.ownBlock ∧ ∀ k, v'.ownBlock = some k → v.ownBlock = some k ∨ w.heap.size ≤ k := by
  obtain ⟨i0, hi, hz0, hz1, hz2⟩ := info_parts infoSeg
  exact run_push2 w 54 62 ty i0 _ _ Tryz.underlying54 hi hz0 hz1 hz2 rfl (by decide) v xs x h hlen h1 h2
theorem push_place (w : World) (ty : TypeId) (v : Value) (xs : List (Value × Value)) (x : Value × Value) (h : R2 w 109 v xs) (hlen : xs.length ≤ 1000000) (h1 : x.1.oneCell' = true) (h2 : x.2.oneCell' = true) :
    ∃ v' w', (Builtin.append_ #[60, 60] ty #[v, .slice (some ⟨w.heap.size, 0, none⟩) 1 1]).run Tryz.prog (w.alloc (.cells #[x.1, x.2] 109)) = .ok v' w' ∧ R2 w' 109 v' (xs ++ [x]) ∧ w.grownBy w' v.ownBlock ∧ ∀ k, v'.ownBlock = some k → v.ownBlock = some k ∨ w.heap.size ≤ k := by
  obtain ⟨i0, hi, hz0, hz1, hz2⟩ := info_parts infoPlace
  exact run_push2 w 60 109 ty i0 _ _ Tryz.underlying60 hi hz0 hz1 hz2 rfl (by decide) v xs x h hlen h1 h2
theorem push_file (w : World) (ty : TypeId) (v : Value) (xs : List (Value × Value)) (x : Value × Value) (h : R2 w 105 v xs) (hlen : xs.length ≤ 1000000) (h1 : x.1.oneCell' = true) (h2 : x.2.oneCell' = true) :
    ∃ v' w', (Builtin.append_ #[100, 100] ty #[v, .slice (some ⟨w.heap.size, 0, none⟩) 1 1]).run Tryz.prog (w.alloc (.cells #[x.1, x.2] 105)) = .ok v' w' ∧ R2 w' 105 v' (xs ++ [x]) ∧ w.grownBy w' v.ownBlock ∧ ∀ k, v'.ownBlock = some k → v.ownBlock = some k ∨ w.heap.size ≤ k := by
  obtain ⟨i0, hi, hz0, hz1, hz2⟩ := info_parts infoWFile
  exact run_push2 w 100 105 ty i0 _ _ Tryz.underlying100 hi hz0 hz1 hz2 rfl (by decide) v xs x h hlen h1 h2
theorem push_rec (w : World) (ty : TypeId) (v : Value) (xs : List (Value × Value)) (x : Value × Value) (h : R2 w 44 v xs) (hlen : xs.length ≤ 1000000) (h1 : x.1.oneCell' = true) (h2 : x.2.oneCell' = true) :
    ∃ v' w', (Builtin.append_ #[72, 72] ty #[v, .slice (some ⟨w.heap.size, 0, none⟩) 1 1]).run Tryz.prog (w.alloc (.cells #[x.1, x.2] 44)) = .ok v' w' ∧ R2 w' 44 v' (xs ++ [x]) ∧ w.grownBy w' v.ownBlock ∧ ∀ k, v'.ownBlock = some k → v.ownBlock = some k ∨ w.heap.size ≤ k := by
  obtain ⟨i0, hi, hz0, hz1, hz2⟩ := info_parts infoRec
  exact run_push2 w 72 44 ty i0 _ _ Tryz.underlying72 hi hz0 hz1 hz2 rfl (by decide) v xs x h hlen h1 h2
end Go.Proofs.YtgfoogeiancecaaGreatDoor

/- Files as they are read of a disk, by rising numbers: sorting and thinning them leaves them. -/
namespace Go.Proofs.YtgfoogeiancecaaGreatDoor
open Go.RowKit
set_option maxRecDepth 100000
set_option linter.unusedSimpArgs false
set_option linter.unusedVariables false

/-- Files as they are read: numbers and bytes. -/
def Nf (w : World) (v : Value) (l : List (Nat × List Nat)) : Prop :=
  ∃ ao cap, v = .slice ao l.length cap ∧ ∀ (i : Nat) (x : Nat × List Nat), l[i]? = some x → ∃ b off sv, ao = some ⟨b, off, none⟩ ∧ w.cell? ⟨b, off + i * 2, none⟩ = some (.int .i64 (x.1 : Int)) ∧ w.cell? ⟨b, off + i * 2 + 1, none⟩ = some sv ∧ @Bs keepAll w.heap.size w sv x.2 ∧ (sv = .slice none 0 0 ∨ ∃ g n c, sv = .slice (some ⟨g, 0, none⟩) n c)
theorem Nf.below {w w' : World} {v : Value} {l : List (Nat × List Nat)} (h : Nf w v l) (hb : Below w.heap.size w w') : Nf w' v l := by
  obtain ⟨ao, cap, e, h2⟩ := h
  refine ⟨ao, cap, e, fun i x hx => ?_⟩
  obtain ⟨b, off, sv, r1, r2, r3, r4⟩ := h2 i x hx
  letI := keepAll
  exact ⟨b, off, sv, r1, (hb.cell (p := ⟨b, off + i * 2, none⟩) (World.block_lt_of_cell? w _ r2)).trans r2, (hb.cell (p := ⟨b, off + i * 2 + 1, none⟩) (World.block_lt_of_cell? w _ r3)).trans r3, (r4.1.below hb).mono hb.size, r4.2⟩

theorem cmp_of (x y : Nat) (u v : Value) (w : World) : Calls Tryz.prog 84 #[.agg #[.int .i64 (x : Int), u], .agg #[.int .i64 (y : Int), v]] w fun e w' => e = .returned (.int .i64 (Lib.compareInt (x : Int) (y : Int))) ∧ Below w.heap.size w w' := by
  have hc := Tryz.cmp_Compare_int (x : Int) (y : Int)
  have hb := ((Below.refl w.heap.size w).alloc (Nat.le_refl _) (.cells #[.int .i64 (x : Int), u] 105)).alloc (by simp) (.cells #[.int .i64 (y : Int), v] 105)
  go_enter Tryz.func84, Tryz.ntmps84
  go_wp2_with fail
  refine (hc _).mono ?_
  rintro e w1 ⟨rfl, hw1⟩
  rw [hw1]
  clear hw1 w1 hc
  go_wp2
  go_ret
  exact ⟨rfl, hb⟩
theorem eqf_of (x y : Nat) (u v : Value) (w : World) (hne : x ≠ y) : Calls Tryz.prog 87 #[.agg #[.int .i64 (x : Int), u], .agg #[.int .i64 (y : Int), v]] w fun e w' => e = .returned (.bool false) ∧ Below w.heap.size w w' := by
  have hb := ((Below.refl w.heap.size w).alloc (Nat.le_refl _) (.cells #[.int .i64 (x : Int), u] 105)).alloc (by simp) (.cells #[.int .i64 (y : Int), v] 105)
  have h1 : ((x : Int) == (y : Int)) = false := by simp; omega
  have h2 : ¬ (x : Int) = (y : Int) := by omega
  go_enter Tryz.func87, Tryz.ntmps87
  go_wp2
  go_ret
  exact ⟨rfl, hb⟩

@[go_sem] theorem dec_pos_i (i : Nat) (h : 0 < i) : decide ((0 : Int) < (i : Int)) = true := by simp; omega
@[go_sem] theorem dec_pos_n (i : Nat) (h : 0 < i) : decide (0 < i) = true := by simp; omega

/-- Numbers rise. -/
def Rising (l : List (Nat × List Nat)) : Prop := ∀ (i : Nat) (x y : Nat × List Nat), l[i]? = some x → l[i + 1]? = some y → x.1 < y.1

set_option maxHeartbeats 1000000 in
theorem insertion_of (l : List (Nat × List Nat)) (v : Value) (w : World) (hN : Nf w v l) (hr : Rising l) (hl : l.length ≤ 1000) :
    Calls Tryz.prog 125 #[v, .int .i64 0, .int .i64 (l.length : Int), .func (.func 84) #[] #[]] w fun e w' => e = .returned (.tuple #[]) ∧ Below w.heap.size w w' := by
  obtain ⟨ao, cap, rfl, hc⟩ := id hN
  go_enter Tryz.func125, Tryz.ntmps125
  go_wp2
  go_loopg [8] (l.length + 1) (fun g s8 wr => ∃ i : Nat, i + g = l.length + 2 ∧ 1 ≤ i ∧ s8 = .int .i64 (i : Int) ∧ Below w.heap.size w wr)
  case atStart => exact ⟨1, by omega, by omega, rfl, Below.refl _ _⟩
  case round =>
    obtain ⟨i, hi, hi1, rfl, hbr⟩ := hrel
    by_cases hlt : i < l.length
    · have hlti : (i : Int) < (l.length : Int) := by omega
      obtain ⟨j, hij⟩ : ∃ j, Hid (i = j + 1) := ⟨i - 1, by show _ = _; omega⟩
      have hjl : j < l.length := by have := hij.out; omega
      have hx := List.getElem?_eq_getElem hlt
      have hy := List.getElem?_eq_getElem hjl
      have hlt2 := hr j _ _ hy (by rw [← hij.out]; exact hx)
      generalize l[i] = x at *
      generalize l[j] = y at *
      obtain ⟨b, off, sx, rfl, x1, x2, x3⟩ := hc i x hx
      obtain ⟨b', off', sy, e, y1, y2, y3⟩ := hc j y hy
      cases e
      have hS : ∀ w', Below w.heap.size w w' → w'.cell? ⟨b, off + i * 2, none⟩ = some (.int .i64 (x.1 : Int)) ∧ w'.cell? ⟨b, off + i * 2 + 1, none⟩ = some sx ∧ w'.cell? ⟨b, off + j * 2, none⟩ = some (.int .i64 (y.1 : Int)) ∧ w'.cell? ⟨b, off + j * 2 + 1, none⟩ = some sy := fun w' hb =>
        ⟨(hb.cell (p := ⟨b, off + i * 2, none⟩) (World.block_lt_of_cell? w _ x1)).trans x1, (hb.cell (p := ⟨b, off + i * 2 + 1, none⟩) (World.block_lt_of_cell? w _ x2)).trans x2, (hb.cell (p := ⟨b, off + j * 2, none⟩) (World.block_lt_of_cell? w _ y1)).trans y1, (hb.cell (p := ⟨b, off + j * 2 + 1, none⟩) (World.block_lt_of_cell? w _ y2)).trans y2⟩
      have hjli : (j : Int) < (l.length : Int) := by omega
      have hi0 : 0 < i := by omega
      have q1 : IntKind.i64.wrap ((i : Int) - 1) = (j : Int) := by
        have := hij.out
        rw [show (i : Int) - 1 = (j : Int) by omega]
        exact IntWalk.i64_in _ (by omega)
      have q2 : IntKind.i64.wrap ((i : Int) + 1) = ((i + 1 : Nat) : Int) := by
        rw [show (i : Int) + 1 = ((i + 1 : Nat) : Int) by omega]
        exact IntWalk.i64_in _ (by omega)
      have hcmp := cmp_of x.1 y.1 sx sy wr.drew
      have hdr : Below w.heap.size wr wr.drew := (Below.refl _ _).drew
      have hg : Lib.compareInt (x.1 : Int) (y.1 : Int) = 1 := by unfold Lib.compareInt; rw [if_neg (by omega), if_pos (by omega)]
      rw [hg] at hcmp
      have y0 := hS _ (hbr.trans hdr)
      clear x1 x2 x3 y1 y2 y3 hx hy hc hN hr hg hlt2
      obtain ⟨g0, hg0⟩ : ∃ g0, Hid (g0 = gk) := ⟨gk, rfl⟩
      go_wp2
      go_loopg [9] 0 (fun g s9 wr2 => s9 = .int .i64 (i : Int) ∧ wr2 = wr)
      case atStart => exact ⟨rfl, rfl⟩
      case round =>
        obtain ⟨rfl, rfl⟩ := hrel
        go_wp2
        go_region_held3 (fun w' => w'.cell? ⟨b, off + i * 2, none⟩ = some (.int .i64 (x.1 : Int)) ∧ w'.cell? ⟨b, off + i * 2 + 1, none⟩ = some sx ∧ w'.cell? ⟨b, off + j * 2, none⟩ = some (.int .i64 (y.1 : Int)) ∧ w'.cell? ⟨b, off + j * 2 + 1, none⟩ = some sy)
          (first | exact y0 | exact y2 | go_keep)
          ((go_at_call 84; refine hcmp.mono ?_; rintro e w2 ⟨rfl, hb2⟩; have hb02 := hbr.trans (hdr.trans (hb2.mono hbr.size)); have y2 := hS _ hb02))
        clear hS hcmp y0 y2
        go_wp2
        go_roundg (g0 - 1)
        case measure => have := hg0.out; omega
        case rel => have := hg0.out; exact ⟨i + 1, by omega, by omega, rfl, hb02⟩
    · have hlti : ¬ (i : Int) < (l.length : Int) := by omega
      go_wp2
      go_end0
      exact ⟨rfl, hbr⟩

set_option maxHeartbeats 1000000 in
theorem stable_of (l : List (Nat × List Nat)) (v : Value) (w : World) (hN : Nf w v l) (hr : Rising l) (hl : l.length < 20) :
    Calls Tryz.prog 106 #[v, .int .i64 (l.length : Int), .func (.func 84) #[] #[]] w fun e w' => e = .returned (.tuple #[]) ∧ Below w.heap.size w w' := by
  have hi := insertion_of l v w hN hr (by omega)
  obtain ⟨ao, cap, rfl, -⟩ := hN
  have h1 : ¬ (20 : Int) ≤ (l.length : Int) := by omega
  have h2 : ¬ (20 : Int) < (l.length : Int) := by omega
  go_enter Tryz.func106, Tryz.ntmps106
  go_wp2
  go_loopg [7, 8] 0 (fun g s7 s8 wr => s7 = .int .i64 0 ∧ s8 = .int .i64 20 ∧ wr = w)
  case atStart => exact ⟨rfl, rfl, rfl⟩
  case round =>
    obtain ⟨rfl, rfl, rfl⟩ := hrel
    go_wp2_with fail
    refine hi.mono ?_
    rintro e w1 ⟨rfl, hb⟩
    go_wp2
    go_loopg [6] 0 (fun g s6 wr2 => s6 = .int .i64 20 ∧ wr2 = w1)
    case atStart => exact ⟨rfl, rfl⟩
    case round =>
      obtain ⟨rfl, rfl⟩ := hrel
      go_wp2
      go_end0
      exact ⟨rfl, hb⟩

set_option maxHeartbeats 1000000 in
theorem sortStable_of (l : List (Nat × List Nat)) (v : Value) (w : World) (hN : Nf w v l) (hr : Rising l) (hl : l.length < 20) :
    Calls Tryz.prog 83 #[v, .func (.func 84) #[] #[]] w fun e w' => e = .returned (.tuple #[]) ∧ Below w.heap.size w w' := by
  have hi := stable_of l v w hN hr hl
  obtain ⟨ao, cap, rfl, -⟩ := hN
  go_enter Tryz.func83, Tryz.ntmps83
  go_wp2_with fail
  refine hi.mono ?_
  rintro e w1 ⟨rfl, hb⟩
  go_wp2
  go_end0
  exact ⟨rfl, hb⟩

set_option maxHeartbeats 1000000 in
theorem compact_of (l : List (Nat × List Nat)) (v : Value) (w : World) (hN : Nf w v l) (hr : Rising l) (hl : l.length ≤ 1000) :
    Calls Tryz.prog 86 #[v, .func (.func 87) #[] #[]] w fun e w' => e = .returned v ∧ Below w.heap.size w w' := by
  obtain ⟨ao, cap, rfl, hc⟩ := id hN
  by_cases h2 : l.length < 2
  · have h2i : (l.length : Int) < 2 := by omega
    go_enter Tryz.func86, Tryz.ntmps86
    go_wp2
    go_ret
    exact ⟨rfl, Below.refl _ _⟩
  have h2i : ¬ (l.length : Int) < 2 := by omega
  go_enter Tryz.func86, Tryz.ntmps86
  go_wp2
  go_loopg [5] (l.length + 1) (fun g s5 wr => ∃ i : Nat, i + g = l.length + 2 ∧ 1 ≤ i ∧ s5 = .int .i64 (i : Int) ∧ Below w.heap.size w wr)
  case atStart => exact ⟨1, by omega, by omega, rfl, Below.refl _ _⟩
  case round =>
    obtain ⟨i, hi, hi1, rfl, hbr⟩ := hrel
    by_cases hlt : i < l.length
    · have hlti : (i : Int) < (l.length : Int) := by omega
      obtain ⟨j, hij⟩ : ∃ j, Hid (i = j + 1) := ⟨i - 1, by show _ = _; omega⟩
      have hjl : j < l.length := by have := hij.out; omega
      have hx := List.getElem?_eq_getElem hlt
      have hy := List.getElem?_eq_getElem hjl
      have hlt2 := hr j _ _ hy (by rw [← hij.out]; exact hx)
      generalize l[i] = x at *
      generalize l[j] = y at *
      obtain ⟨b, off, sx, rfl, x1, x2, x3⟩ := hc i x hx
      obtain ⟨b', off', sy, e, y1, y2, y3⟩ := hc j y hy
      cases e
      have hS : ∀ w', Below w.heap.size w w' → w'.cell? ⟨b, off + i * 2, none⟩ = some (.int .i64 (x.1 : Int)) ∧ w'.cell? ⟨b, off + i * 2 + 1, none⟩ = some sx ∧ w'.cell? ⟨b, off + j * 2, none⟩ = some (.int .i64 (y.1 : Int)) ∧ w'.cell? ⟨b, off + j * 2 + 1, none⟩ = some sy := fun w' hb =>
        ⟨(hb.cell (p := ⟨b, off + i * 2, none⟩) (World.block_lt_of_cell? w _ x1)).trans x1, (hb.cell (p := ⟨b, off + i * 2 + 1, none⟩) (World.block_lt_of_cell? w _ x2)).trans x2, (hb.cell (p := ⟨b, off + j * 2, none⟩) (World.block_lt_of_cell? w _ y1)).trans y1, (hb.cell (p := ⟨b, off + j * 2 + 1, none⟩) (World.block_lt_of_cell? w _ y2)).trans y2⟩
      have hjli : (j : Int) < (l.length : Int) := by omega
      have q1 : IntKind.i64.wrap ((i : Int) - 1) = (j : Int) := by
        have := hij.out
        rw [show (i : Int) - 1 = (j : Int) by omega]
        exact IntWalk.i64_in _ (by omega)
      have q2 : IntKind.i64.wrap ((i : Int) + 1) = ((i + 1 : Nat) : Int) := by
        rw [show (i : Int) + 1 = ((i + 1 : Nat) : Int) by omega]
        exact IntWalk.i64_in _ (by omega)
      have hcmp := eqf_of x.1 y.1 sx sy wr.drew (by omega)
      have hdr : Below w.heap.size wr wr.drew := (Below.refl _ _).drew
      have y0 := hS _ (hbr.trans hdr)
      clear x1 x2 x3 y1 y2 y3 hx hy hc hN hr hlt2
      go_wp2
      go_region_held3 (fun w' => w'.cell? ⟨b, off + i * 2, none⟩ = some (.int .i64 (x.1 : Int)) ∧ w'.cell? ⟨b, off + i * 2 + 1, none⟩ = some sx ∧ w'.cell? ⟨b, off + j * 2, none⟩ = some (.int .i64 (y.1 : Int)) ∧ w'.cell? ⟨b, off + j * 2 + 1, none⟩ = some sy)
        (first | exact y0 | exact y2 | go_keep)
        ((go_at_call 87; refine hcmp.mono ?_; rintro e w2 ⟨rfl, hb2⟩; have hb02 := hbr.trans (hdr.trans (hb2.mono hbr.size)); have y2 := hS _ hb02))
      clear hS hcmp y0 y2
      go_wp2
      go_roundg (gk - 1)
      case measure => omega
      case rel => exact ⟨i + 1, by omega, by omega, rfl, hb02⟩
    · have hlti : ¬ (i : Int) < (l.length : Int) := by omega
      go_wp2
      go_ret
      exact ⟨rfl, hbr⟩
end Go.Proofs.YtgfoogeiancecaaGreatDoor

