import Derived.Test.YtljfhafmedngnaaGreatDoorP23
/- The contract of the program's read: segments' files, all but the last one whole. -/
namespace Go.Proofs.YtljfhafmedngnaaGreatDoor
open Go.RowKit WalMath
set_option maxRecDepth 100000
set_option linter.unusedSimpArgs false
set_option linter.unusedVariables false

/-- A row behind a row. -/
theorem run_app2 (w : World) (ty : TypeId) (v u : Value) (xs ys : List (Value × Value)) (h : R2 w 44 v xs) (hu : R2 w 44 u ys) (hlen : xs.length + ys.length ≤ 100000000) (h1 : ∀ x ∈ ys, x.1.oneCell' = true ∧ x.2.oneCell' = true) :
    ∃ v' w', (Builtin.append_ #[50, 50] ty #[v, u]).run Tryz.prog w = .ok v' w' ∧ R2 w' 44 v' (xs ++ ys) ∧ w.grownBy w' v.ownBlock ∧ ∀ k, v'.ownBlock = some k → v.ownBlock = some k ∨ w.heap.size ≤ k := by
  obtain ⟨i0, hi, hz0, hz1, hz2⟩ := info_parts infoRec
  obtain ⟨hl, ⟨rfl, h0⟩ | ⟨g, cap, cur, rfl, hg, hb, hle, hm, hs, ht⟩⟩ := id hu
  · obtain rfl := List.eq_nil_of_length_eq_zero h0
    exact ⟨v, w, run_append_owned_none (P := Tryz.prog) (w := w) 0 50 ty 44 i0 2 Tryz.underlying50 hi v xs.length (c2 xs) h, by rw [List.append_nil]; exact h, ⟨rfl, rfl, rfl, Nat.le_refl _, fun _ _ _ => rfl⟩, fun k hk => .inl hk⟩
  · obtain ⟨v', w', hrun, hO, hg', hfr⟩ := run_append_own2 w 0 50 ty 44 i0 _ 2 32 Tryz.underlying50 hi hz0 hz1 hz2 rfl (by decide) v xs.length (c2 xs) h
      ⟨g, 0, none⟩ ys.length cap (c2 ys) (c2_length ys) (by
        intro j y hj
        rw [Addr.add_lit, cells_of_block hb, Nat.zero_add]
        rw [← ht, List.getElem?_take] at hj
        split at hj
        · simpa using hj
        · cases hj) (by
        intro y hy
        obtain ⟨x, hx, hy⟩ := List.mem_flatMap.1 hy
        simp only [List.mem_cons, List.not_mem_nil, or_false] at hy
        rcases hy with rfl | rfl
        · exact (h1 x hx).1
        · exact (h1 x hx).2) (by unfold maxLen; omega) (by omega) (Nat.zero_le _)
    refine ⟨v', w', hrun, ?_, hg', hfr⟩
    unfold R2
    rw [c2_append, List.length_append]
    exact hO

/-- What is read of a segment's file. -/
def cutS (x : Seg × Nat) : Seg := ⟨x.1.num, x.1.recs.take (cutN x.1.recs x.2)⟩
def xfile (x : Seg × Nat) : Nat × List Nat := (x.1.num, (joinR x.1.recs).take x.2)
/-- All records. -/
def xrecs (xs : List (Seg × Nat)) : List Rec := xs.flatMap fun x => x.1.recs
/-- What can be read. -/
structure Rdl (xs : List (Seg × Nat)) : Prop where
  num : ∀ (i : Nat) (x y : Seg × Nat), xs[i]? = some x → xs[i + 1]? = some y → y.1.num = x.1.num + 1
  big : ∀ x ∈ xs, 0 < x.1.num ∧ x.1.num < 100000000
  ok : ∀ x ∈ xs, okAll x.1.recs
  chain : chn 0 (xrecs xs)
  full : ∀ (i : Nat) (x : Seg × Nat), xs[i]? = some x → i + 1 < xs.length → sz x.1.recs ≤ x.2
  small : ∀ x ∈ xs, sz x.1.recs ≤ 100000 ∧ x.1.recs.length ≤ 100000
  few : xs.length < 20
theorem Rdl.at {xs : List (Seg × Nat)} (h : Rdl xs) {i : Nat} {x : Seg × Nat} (hi : xs[i]? = some x) : chn (lastIx 0 (xrecs (xs.take i))) x.1.recs := by
  have hil := (List.getElem?_eq_some_iff.1 hi).1
  have hc := h.chain
  have e : xrecs xs = xrecs (xs.take i) ++ (x.1.recs ++ xrecs (xs.drop (i + 1))) := by
    conv => lhs; rw [← List.take_append_drop i xs, List.drop_eq_getElem_cons hil]
    rw [List.getElem?_eq_getElem hil] at hi
    rw [Option.some.inj hi]
    simp [xrecs]
  rw [e, chn_append, chn_append] at hc
  exact hc.2.1
theorem xrecs_snoc {xs : List (Seg × Nat)} {i : Nat} {x : Seg × Nat} (hi : xs[i]? = some x) : xrecs (xs.take (i + 1)) = xrecs (xs.take i) ++ x.1.recs := by
  have hil := (List.getElem?_eq_some_iff.1 hi).1
  rw [List.take_succ_eq_append_getElem hil]
  rw [List.getElem?_eq_getElem hil] at hi
  rw [Option.some.inj hi]
  simp [xrecs]
theorem lastIx_lt {rs : List Rec} (hok : okAll rs) {l : Nat} (hl : l < 18446744073709551616) : lastIx l rs < 18446744073709551616 := by
  induction rs generalizing l with
  | nil => exact hl
  | cons r rs ih => exact ih (fun x hx => hok x (List.mem_cons_of_mem _ hx)) (hok r List.mem_cons_self).2.1
theorem xrecs_ok {xs : List (Seg × Nat)} (h : ∀ x ∈ xs, okAll x.1.recs) : okAll (xrecs xs) := fun r hr => by
  obtain ⟨x, hx, hr⟩ := List.mem_flatMap.1 hr
  exact h x hx r hr

/-- What stands between two rounds of read. -/
structure RdAt (σ : Wm) (w : World) (sv rv : Value) (sg : List Seg) (n : Nat) (wr : World) : Prop where
  segs : SegsAt σ wr sv sg
  recs : ∃ ys, R2 wr 44 rv ys ∧ ys.length ≤ n
  rk : ∀ k, rv.ownBlock = some k → σ k = (4, 0)
  new : ∀ b, (σ b).1 ≠ 0 → w.heap.size ≤ b
  bel : Below w.heap.size w wr
theorem RdAt.below {σ : Wm} {w : World} {sv rv : Value} {sg : List Seg} {n : Nat} {wr w' : World} (h : RdAt σ w sv rv sg n wr) (hb : Below wr.heap.size wr w') : RdAt σ w sv rv sg n w' := by
  obtain ⟨ys, h1, h2⟩ := h.recs
  exact ⟨h.segs.below hb, ⟨ys, h1.same fun k hk => hb.block k (h1.lt hk), h2⟩, h.rk, h.new, h.bel.trans (hb.mono h.bel.size)⟩

/-- A segment more: the row of segments is appended to; the old records lie as they lay. -/
theorem RdAt.push {σ : Wm} {w : World} {sv rv : Value} {sg : List Seg} {n : Nat} {w3 : World} (h : RdAt σ w sv rv sg n w3) (s : Seg) (pv : Value) (hR : R2 w3 120 pv (pl2 (plc 0 s.recs))) (hv : ∀ k, pv.ownBlock = some k → (σ k).1 = 0 ∧ w.heap.size ≤ k) (hlen : sg.length ≤ 1000) (ty : TypeId) :
    ∃ sv' w', (Builtin.append_ #[63, 63] ty #[sv, .slice (some ⟨w3.heap.size, 0, none⟩) 1 1]).run Tryz.prog (w3.alloc (.cells #[.int .i64 (s.num : Int), pv] 73)) = .ok sv' w' ∧ ∃ σ', RdAt σ' w sv' rv (sg ++ [s]) n w' ∧ w3.grownBy w' sv.ownBlock ∧ (∀ b, (σ' b).1 ≠ 0 → (σ b).1 ≠ 0 ∨ pv.ownBlock = some b ∨ w3.heap.size ≤ b) ∧ ∃ a c, sv' = .slice a (sg ++ [s]).length c := by
  obtain ⟨sv', w', r1, σ', r2, r3, r4, r5⟩ := h.segs.push s pv hR (fun k hk => (hv k hk).1) hlen ty
  obtain ⟨ys, y1, y2⟩ := h.recs
  have hrm : ∀ k, rv.ownBlock = some k → (σ k).1 ≠ 0 := fun k hk => by rw [h.rk k hk]; simp
  refine ⟨sv', w', r1, σ', ⟨r2, ⟨ys, y1.same fun k hk => r3.block k (y1.lt hk) (fun e => ?_), y2⟩, fun k hk => (r4 k (hrm k hk)).trans (h.rk k hk), fun b hb => ?_, ?_⟩, r3, r5, ?_⟩
  · have := h.segs.row k e.symm
    rw [h.rk k hk] at this
    cases this
  · rcases r5 b hb with h' | h' | h'
    · exact h.new b h'
    · exact (hv b h').2
    · exact Nat.le_trans h.bel.size h'
  · exact h.bel.grown r3 h.bel.size fun k hk => h.new k (by rw [h.segs.row k hk]; simp)
  · obtain ⟨a, c, e, -⟩ := r2.shape
    exact ⟨a, c, e⟩
/-- Its records. -/
theorem RdAt.more {σ : Wm} {w : World} {sv rv : Value} {sg : List Seg} {n : Nat} {w4 : World} (h : RdAt σ w sv rv sg n w4) (mv : Value) (zs : List (Value × Value)) (hM : R2 w4 44 mv zs) (h1 : ∀ x ∈ zs, x.1.oneCell' = true ∧ x.2.oneCell' = true) (hn : n + zs.length ≤ 100000000) (ty : TypeId) :
    ∃ rv' w', (Builtin.append_ #[50, 50] ty #[rv, mv]).run Tryz.prog w4 = .ok rv' w' ∧ ∃ σ', RdAt σ' w sv rv' sg (n + zs.length) w' ∧ w4.grownBy w' rv.ownBlock ∧ ∀ b, (σ' b).1 ≠ 0 → (σ b).1 ≠ 0 ∨ w4.heap.size ≤ b := by
  obtain ⟨ys, y1, y2⟩ := h.recs
  obtain ⟨rv', w', r1, r2, r3, r4⟩ := run_app2 w4 ty rv mv ys zs y1 hM (by omega) h1
  have hσ : ∀ b, (σ b).1 ≠ 0 → (if w4.heap.size ≤ b ∧ rv'.ownBlock = some b then (4, 0) else σ b) = σ b := fun b hb => by rw [if_neg (fun e => by have := h.segs.lt b hb; omega)]
  have hlt : ∀ b, ((if w4.heap.size ≤ b ∧ rv'.ownBlock = some b then (4, 0) else σ b) : Nat × Nat).1 ≠ 0 → b < w'.heap.size := fun b hb => by
    split at hb
    · rename_i e
      exact r2.lt e.2
    · exact Nat.lt_of_lt_of_le (h.segs.lt b hb) r3.size
  have h5 : ∀ b, ((if w4.heap.size ≤ b ∧ rv'.ownBlock = some b then (4, 0) else σ b) : Nat × Nat).1 ≠ 0 → (σ b).1 ≠ 0 ∨ w4.heap.size ≤ b := fun b hb => by
    split at hb
    · rename_i e
      exact .inr e.1
    · exact .inl hb
  refine ⟨rv', w', r1, fun b => if w4.heap.size ≤ b ∧ rv'.ownBlock = some b then (4, 0) else σ b, ⟨?_, ⟨_, r2, by rw [List.length_append]; omega⟩, fun k hk => ?_, fun b hb => ?_, ?_⟩, r3, h5⟩
  · obtain ⟨vs, g1, g2, g3⟩ := h.segs.ex
    have hne : ∀ k x, σ k = (2, 0) ∨ σ k = (3, x) → rv.ownBlock ≠ some k := fun k x hk e => by
      have := h.rk k e
      rcases hk with hk | hk <;> (rw [hk] at this; cases this)
    refine ⟨⟨vs, g1, g2.same fun k hk => r3.block k (g2.lt hk) (fun e => hne k 0 (.inl (h.segs.row k hk)) e.symm), fun i s v hi hv => ?_⟩, fun k hk => (hσ k (by rw [h.segs.row k hk]; simp)).trans (h.segs.row k hk), hlt⟩
    obtain ⟨g4, g5⟩ := g3 i s v hi hv
    exact ⟨g4.same fun k hk => r3.block k (g4.lt hk) (fun e => hne k _ (.inr (g5 k hk)) e.symm), fun k hk => (hσ k (by rw [g5 k hk]; simp)).trans (g5 k hk)⟩
  · show (if _ then _ else _) = _
    rcases r4 k hk with h' | h'
    · rw [if_neg (fun e => by have := y1.lt h'; omega), h.rk k h']
    · rw [if_pos ⟨h', hk⟩]
  · rcases h5 b hb with h' | h'
    · exact h.new b h'
    · exact Nat.le_trans h.bel.size h'
  · exact h.bel.grown r3 h.bel.size fun k hk => h.new k (by rw [h.rk k hk]; simp)
end Go.Proofs.YtljfhafmedngnaaGreatDoor

