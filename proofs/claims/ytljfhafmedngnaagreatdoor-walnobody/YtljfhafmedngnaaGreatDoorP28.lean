import Derived.Test.YtljfhafmedngnaaGreatDoorP26
import Derived.Test.YtljfhafmedngnaaGreatDoorP27
/- The contract of the program's read: segments' files, all but the last one whole. -/
namespace Go.Proofs.YtljfhafmedngnaaGreatDoor
open Go.RowKit WalMath
set_option maxRecDepth 100000
set_option linter.unusedSimpArgs false
set_option linter.unusedVariables false

/-- A row behind a row. -/
theorem run_app2 (w : World) (ty : TypeId) (v u : Value) (xs ys : List (Value × Value)) (h : R2 w 44 v xs) (hu : R2 w 44 u ys) (hlen : xs.length + ys.length ≤ 100000000) (h1 : ∀ x ∈ ys, x.1.oneCell' = true ∧ x.2.oneCell' = true) :
    ∃ v' w', (Builtin.append_ #[50, 50] ty #[v, u]).run Tryz.prog w = .ok v' w' ∧ R2 w' 44 v' (xs ++ ys) ∧ w.grownBy w' v.ownBlock ∧ ∀ k, v'.ownBlock = some k → v.ownBlock = some k ∨ w.heap.size ≤ k := by
  obtain ⟨i0, hi, hz0, hz1, hz2⟩ := info_parts infoRec
  obtain ⟨hl, ⟨rfl, h0⟩ | ⟨g, cap, cur, rfl, hg, hb, hle, hm, hs, ht⟩⟩ := id hu
  · obtain rfl := List.eq_nil_of_length_eq_zero h0
    exact ⟨v, w, run_append_owned_none (P := Tryz.prog) (w := w) 0 50 ty 44 i0 2 Tryz.underlying50 hi v xs.length (c2 xs) h, by rw [List.append_nil]; exact h, ⟨rfl, rfl, rfl, Nat.le_refl _, fun _ _ _ => rfl⟩, fun k hk => .inl hk⟩
  · obtain ⟨v', w', hrun, hO, hg', hfr⟩ := run_append_own2 w 0 50 ty 44 i0 _ 2 32 Tryz.underlying50 hi hz0 hz1 hz2 rfl (by decide) v xs.length (c2 xs) h
      ⟨g, 0, none⟩ ys.length cap (c2 ys) (c2_length ys) (by
        intro j y hj
        rw [Addr.add_lit, cells_of_block hb, Nat.zero_add]
        rw [← ht, List.getElem?_take] at hj
        split at hj
        · simpa using hj
        · cases hj) (by
        intro y hy
        obtain ⟨x, hx, hy⟩ := List.mem_flatMap.1 hy
        simp only [List.mem_cons, List.not_mem_nil, or_false] at hy
        rcases hy with rfl | rfl
        · exact (h1 x hx).1
        · exact (h1 x hx).2) (by unfold maxLen; omega) (by omega) (Nat.zero_le _)
    refine ⟨v', w', hrun, ?_, hg', hfr⟩
    unfold R2
    rw [c2_append, List.length_append]
    exact hO

/-- What is read of a segment's file. -/
def cutS (x : Seg × Nat) : Seg := ⟨x.1.num, x.1.recs.take (cutN x.1.recs x.2)⟩
def xfile (x : Seg × Nat) : Nat × List Nat := (x.1.num, (joinR x.1.recs).take x.2)
/-- All records. -/
def xrecs (xs : List (Seg × Nat)) : List Rec := xs.flatMap fun x => x.1.recs
/-- What can be read. -/
structure Rdl (xs : List (Seg × Nat)) : Prop where
  num : ∀ (i : Nat) (x y : Seg × Nat), xs[i]? = some x → xs[i + 1]? = some y → y.1.num = x.1.num + 1
  big : ∀ x ∈ xs, 0 < x.1.num ∧ x.1.num < 100000000
  ok : ∀ x ∈ xs, okAll x.1.recs
  chain : chn 0 (xrecs xs)
  full : ∀ (i : Nat) (x : Seg × Nat), xs[i]? = some x → i + 1 < xs.length → sz x.1.recs ≤ x.2
  small : ∀ x ∈ xs, sz x.1.recs ≤ 100000 ∧ x.1.recs.length ≤ 100000
  few : xs.length < 20
theorem Rdl.at {xs : List (Seg × Nat)} (h : Rdl xs) {i : Nat} {x : Seg × Nat} (hi : xs[i]? = some x) : chn (lastIx 0 (xrecs (xs.take i))) x.1.recs := by
  have hil := (List.getElem?_eq_some_iff.1 hi).1
  have hc := h.chain
  have e : xrecs xs = xrecs (xs.take i) ++ (x.1.recs ++ xrecs (xs.drop (i + 1))) := by
    conv => lhs; rw [← List.take_append_drop i xs, List.drop_eq_getElem_cons hil]
    rw [List.getElem?_eq_getElem hil] at hi
    rw [Option.some.inj hi]
    simp [xrecs]
  rw [e, chn_append, chn_append] at hc
  exact hc.2.1
theorem xrecs_snoc {xs : List (Seg × Nat)} {i : Nat} {x : Seg × Nat} (hi : xs[i]? = some x) : xrecs (xs.take (i + 1)) = xrecs (xs.take i) ++ x.1.recs := by
  have hil := (List.getElem?_eq_some_iff.1 hi).1
  rw [List.take_succ_eq_append_getElem hil]
  rw [List.getElem?_eq_getElem hil] at hi
  rw [Option.some.inj hi]
  simp [xrecs]
theorem lastIx_lt {rs : List Rec} (hok : okAll rs) {l : Nat} (hl : l < 18446744073709551616) : lastIx l rs < 18446744073709551616 := by
  induction rs generalizing l with
  | nil => exact hl
  | cons r rs ih => exact ih (fun x hx => hok x (List.mem_cons_of_mem _ hx)) (hok r List.mem_cons_self).2.1
theorem xrecs_ok {xs : List (Seg × Nat)} (h : ∀ x ∈ xs, okAll x.1.recs) : okAll (xrecs xs) := fun r hr => by
  obtain ⟨x, hx, hr⟩ := List.mem_flatMap.1 hr
  exact h x hx r hr

/-- What stands between two rounds of read. -/
structure RdAt (σ : Wm) (w : World) (sv rv : Value) (sg : List Seg) (n : Nat) (wr : World) : Prop where
  segs : SegsAt σ wr sv sg
  recs : ∃ ys, R2 wr 44 rv ys ∧ ys.length ≤ n
  rk : ∀ k, rv.ownBlock = some k → σ k = (4, 0)
  new : ∀ b, (σ b).1 ≠ 0 → w.heap.size ≤ b
  bel : Below w.heap.size w wr
theorem RdAt.below {σ : Wm} {w : World} {sv rv : Value} {sg : List Seg} {n : Nat} {wr w' : World} (h : RdAt σ w sv rv sg n wr) (hb : Below wr.heap.size wr w') : RdAt σ w sv rv sg n w' := by
  obtain ⟨ys, h1, h2⟩ := h.recs
  exact ⟨h.segs.below hb, ⟨ys, h1.same fun k hk => hb.block k (h1.lt hk), h2⟩, h.rk, h.new, h.bel.trans (hb.mono h.bel.size)⟩

/-- A segment more: the row of segments is appended to; the old records lie as they lay. -/
theorem RdAt.push {σ : Wm} {w : World} {sv rv : Value} {sg : List Seg} {n : Nat} {w3 : World} (h : RdAt σ w sv rv sg n w3) (s : Seg) (pv : Value) (hR : R2 w3 120 pv (pl2 (plc 0 s.recs))) (hv : ∀ k, pv.ownBlock = some k → (σ k).1 = 0 ∧ w.heap.size ≤ k) (hlen : sg.length ≤ 1000) (ty : TypeId) :
    ∃ sv' w', (Builtin.append_ #[63, 63] ty #[sv, .slice (some ⟨w3.heap.size, 0, none⟩) 1 1]).run Tryz.prog (w3.alloc (.cells #[.int .i64 (s.num : Int), pv] 73)) = .ok sv' w' ∧ ∃ σ', RdAt σ' w sv' rv (sg ++ [s]) n w' ∧ w3.grownBy w' sv.ownBlock ∧ (∀ b, (σ' b).1 ≠ 0 → (σ b).1 ≠ 0 ∨ pv.ownBlock = some b ∨ w3.heap.size ≤ b) ∧ ∃ a c, sv' = .slice a (sg ++ [s]).length c := by
  obtain ⟨sv', w', r1, σ', r2, r3, r4, r5⟩ := h.segs.push s pv hR (fun k hk => (hv k hk).1) hlen ty
  obtain ⟨ys, y1, y2⟩ := h.recs
  have hrm : ∀ k, rv.ownBlock = some k → (σ k).1 ≠ 0 := fun k hk => by rw [h.rk k hk]; simp
  refine ⟨sv', w', r1, σ', ⟨r2, ⟨ys, y1.same fun k hk => r3.block k (y1.lt hk) (fun e => ?_), y2⟩, fun k hk => (r4 k (hrm k hk)).trans (h.rk k hk), fun b hb => ?_, ?_⟩, r3, r5, ?_⟩
  · have := h.segs.row k e.symm
    rw [h.rk k hk] at this
    cases this
  · rcases r5 b hb with h' | h' | h'
    · exact h.new b h'
    · exact (hv b h').2
    · exact Nat.le_trans h.bel.size h'
  · exact h.bel.grown r3 h.bel.size fun k hk => h.new k (by rw [h.segs.row k hk]; simp)
  · obtain ⟨a, c, e, -⟩ := r2.shape
    exact ⟨a, c, e⟩
/-- Its records. -/
theorem RdAt.more {σ : Wm} {w : World} {sv rv : Value} {sg : List Seg} {n : Nat} {w4 : World} (h : RdAt σ w sv rv sg n w4) (mv : Value) (zs : List (Value × Value)) (hM : R2 w4 44 mv zs) (h1 : ∀ x ∈ zs, x.1.oneCell' = true ∧ x.2.oneCell' = true) (hn : n + zs.length ≤ 100000000) (ty : TypeId) :
    ∃ rv' w', (Builtin.append_ #[50, 50] ty #[rv, mv]).run Tryz.prog w4 = .ok rv' w' ∧ ∃ σ', RdAt σ' w sv rv' sg (n + zs.length) w' ∧ w4.grownBy w' rv.ownBlock ∧ ∀ b, (σ' b).1 ≠ 0 → (σ b).1 ≠ 0 ∨ w4.heap.size ≤ b := by
  obtain ⟨ys, y1, y2⟩ := h.recs
  obtain ⟨rv', w', r1, r2, r3, r4⟩ := run_app2 w4 ty rv mv ys zs y1 hM (by omega) h1
  have hσ : ∀ b, (σ b).1 ≠ 0 → (if w4.heap.size ≤ b ∧ rv'.ownBlock = some b then (4, 0) else σ b) = σ b := fun b hb => by rw [if_neg (fun e => by have := h.segs.lt b hb; omega)]
  have hlt : ∀ b, ((if w4.heap.size ≤ b ∧ rv'.ownBlock = some b then (4, 0) else σ b) : Nat × Nat).1 ≠ 0 → b < w'.heap.size := fun b hb => by
    split at hb
    · rename_i e
      exact r2.lt e.2
    · exact Nat.lt_of_lt_of_le (h.segs.lt b hb) r3.size
  have h5 : ∀ b, ((if w4.heap.size ≤ b ∧ rv'.ownBlock = some b then (4, 0) else σ b) : Nat × Nat).1 ≠ 0 → (σ b).1 ≠ 0 ∨ w4.heap.size ≤ b := fun b hb => by
    split at hb
    · rename_i e
      exact .inr e.1
    · exact .inl hb
  refine ⟨rv', w', r1, fun b => if w4.heap.size ≤ b ∧ rv'.ownBlock = some b then (4, 0) else σ b, ⟨?_, ⟨_, r2, by rw [List.length_append]; omega⟩, fun k hk => ?_, fun b hb => ?_, ?_⟩, r3, h5⟩
  · obtain ⟨vs, g1, g2, g3⟩ := h.segs.ex
    have hne : ∀ k x, σ k = (2, 0) ∨ σ k = (3, x) → rv.ownBlock ≠ some k := fun k x hk e => by
      have := h.rk k e
      rcases hk with hk | hk <;> (rw [hk] at this; cases this)
    refine ⟨⟨vs, g1, g2.same fun k hk => r3.block k (g2.lt hk) (fun e => hne k 0 (.inl (h.segs.row k hk)) e.symm), fun i s v hi hv => ?_⟩, fun k hk => (hσ k (by rw [h.segs.row k hk]; simp)).trans (h.segs.row k hk), hlt⟩
    obtain ⟨g4, g5⟩ := g3 i s v hi hv
    exact ⟨g4.same fun k hk => r3.block k (g4.lt hk) (fun e => hne k _ (.inr (g5 k hk)) e.symm), fun k hk => (hσ k (by rw [g5 k hk]; simp)).trans (g5 k hk)⟩
  · show (if _ then _ else _) = _
    rcases r4 k hk with h' | h'
    · rw [if_neg (fun e => by have := y1.lt h'; omega), h.rk k h']
    · rw [if_pos ⟨h', hk⟩]
  · rcases h5 b hb with h' | h'
    · exact h.new b h'
    · exact Nat.le_trans h.bel.size h'
  · exact h.bel.grown r3 h.bel.size fun k hk => h.new k (by rw [h.rk k hk]; simp)
end Go.Proofs.YtljfhafmedngnaaGreatDoor

/- The contract of the program's read, whole. -/
namespace Go.Proofs.YtljfhafmedngnaaGreatDoor
open Go.RowKit WalMath
set_option maxRecDepth 100000
set_option linter.unusedSimpArgs false
set_option linter.unusedVariables false

/-- What read tells. -/
def ReadsT (w : World) (sg : List Seg) (e : Ending) (w' : World) : Prop := ∃ sv rv σ, e = .returned (.tuple #[sv, rv]) ∧ SegsAt σ w' sv sg ∧ (∀ b, (σ b).1 ≠ 0 → w.heap.size ≤ b) ∧ Below w.heap.size w w'
def MoreN (w : World) (sg : List Seg) (n B7 B6 : Nat) (num : Nat) (rs : List Rec) (pv dv sv rv' : Value) (w' : World) : Prop :=
  ∃ σ', RdAt σ' w sv rv' sg n w' ∧ R2 w' 120 pv (pl2 (plc 0 rs)) ∧ ∀ W, Below w'.heap.size w' W → W.cell? ⟨B7, 0, none⟩ = some (.int .i64 (num : Int)) ∧ W.cell? ⟨B7, 1, none⟩ = some pv ∧ W.cell? ⟨B6, 1, none⟩ = some dv
def PushN (w : World) (sg : List Seg) (n B7 B6 : Nat) (num : Nat) (rs : List Rec) (pv dv mv rv sv' : Value) (w' : World) : Prop :=
  ∃ a m c, sv' = .slice a m c ∧ ∀ ty, ∃ rv' w'', (Builtin.append_ #[50, 50] ty #[rv, mv]).run Tryz.prog w' = .ok rv' w'' ∧ MoreN w sg n B7 B6 num rs pv dv sv' rv' w''

theorem push_more {σ : Wm} {w : World} {sv rv : Value} {sg : List Seg} {n : Nat} {wr : World} (h : RdAt σ w sv rv sg n wr) (s : Seg) (dv : Value) {W1 w2 : World} {pv mv : Value} {zs : List (Value × Value)}
    (hb1 : Below wr.heap.size wr W1) (hk1 : W1.heap[wr.heap.size]? = some (.cells #[.int .i64 (s.num : Int), dv] 122 (0, 0))) (hs1 : W1.heap.size = wr.heap.size + 1)
    (hP : R2 w2 120 pv (pl2 (plc 0 s.recs))) (hM : R2 w2 44 mv zs) (hz1 : ∀ x ∈ zs, x.1.oneCell' = true ∧ x.2.oneCell' = true)
    (hpk : ∀ k, pv.ownBlock = some k → W1.heap.size ≤ k) (hmk : ∀ k, mv.ownBlock = some k → W1.heap.size ≤ k ∧ pv.ownBlock ≠ some k)
    (hb2 : Below W1.heap.size W1 w2) (hlen : sg.length ≤ 1000) (hn : n + zs.length ≤ 100000000) :
    (∀ ty, ∃ sv' w', (Builtin.append_ #[63, 63] ty #[sv, .slice (some ⟨w2.heap.size + 1, 0, none⟩) 1 1]).run Tryz.prog ((w2.alloc (.cells #[.int .i64 (s.num : Int), pv] 73)).alloc (.cells #[.int .i64 (s.num : Int), pv] 73)) = .ok sv' w' ∧ PushN w (sg ++ [s]) (n + zs.length) w2.heap.size wr.heap.size s.num s.recs pv dv mv rv sv' w') := by
  intro ty
  have hbk6 := (hb2.block wr.heap.size (by omega)).trans hk1
  have hb12 : Below wr.heap.size wr w2 := hb1.trans (hb2.mono hb1.size)
  have hb23 : Below w2.heap.size w2 (w2.alloc (.cells #[.int .i64 (s.num : Int), pv] 73)) := (Below.refl _ _).alloc (Nat.le_refl _) _
  have hbk7 := heap_alloc_new w2 (.cells #[.int .i64 (s.num : Int), pv] 73)
  have hs2 := hb2.size
  have hs3 : (w2.alloc (.cells #[.int .i64 (s.num : Int), pv] 73)).heap.size = w2.heap.size + 1 := by simp
  have hA3 := (h.below hb12).below hb23
  have hP3 : R2 (w2.alloc (.cells #[.int .i64 (s.num : Int), pv] 73)) 120 pv (pl2 (plc 0 s.recs)) := hP.same fun k hk => hb23.block k (hP.lt hk)
  have hbk63 := (hb23.block wr.heap.size (by omega)).trans hbk6
  have hold : ∀ b, (σ b).1 ≠ 0 → b < wr.heap.size := h.segs.lt
  generalize w2.alloc (.cells #[.int .i64 (s.num : Int), pv] 73) = w3 at *
  obtain ⟨sv', w4, r1, σ4, hA4, hg4, hm4, a, c, e⟩ := hA3.push s pv hP3 (fun k hk => ⟨by
    have := hpk k hk
    by_cases h0 : (σ k).1 = 0
    · exact h0
    · have := hold k h0
      omega, by have := hpk k hk; have := h.bel.size; omega⟩) hlen ty
  rw [hs3] at r1
  refine ⟨sv', w4, r1, a, _, c, e, fun ty' => ?_⟩
  have hrow : ∀ k, wr.heap.size ≤ k → sv.ownBlock ≠ some k := fun k hk e => by
    have := hold k (by rw [h.segs.row k e]; simp)
    omega
  have hM4 : R2 w4 44 mv zs := hM.same fun k hk => by
    have h1 := (hmk k hk).1
    rw [hg4.block k (by have := hM.lt hk; omega) (fun e => hrow k (by omega) e.symm)]
    exact hb23.block k (hM.lt hk)
  have hP4 : R2 w4 120 pv (pl2 (plc 0 s.recs)) := hP3.same fun k hk => by
    have h1 := hpk k hk
    exact hg4.block k (hP3.lt hk) (fun e => hrow k (by omega) e.symm)
  have hbk64 := (hg4.block wr.heap.size (by omega) (fun e => hrow _ (Nat.le_refl _) e.symm)).trans hbk63
  have hbk74 := (hg4.block w2.heap.size (by omega) (fun e => hrow _ (by omega) e.symm)).trans hbk7
  obtain ⟨rv', w5, t1, σ5, hA5, hg5, hm5⟩ := hA4.more mv zs hM4 hz1 hn ty'
  have hrr : ∀ k, wr.heap.size ≤ k → rv.ownBlock ≠ some k := fun k hk e => by
    have := hold k (by rw [h.rk k e]; simp)
    omega
  have hbk65 := (hg5.block wr.heap.size (by have := hg4.size; omega) (fun e => hrr _ (Nat.le_refl _) e.symm)).trans hbk64
  have hbk75 := (hg5.block w2.heap.size (by have := hg4.size; omega) (fun e => hrr _ (by omega) e.symm)).trans hbk74
  refine ⟨rv', w5, t1, σ5, hA5, hP4.same fun k hk => ?_, fun W hW => ?_⟩
  · have h1 := hpk k hk
    exact hg5.block k (hP4.lt hk) (fun e => hrr k (by omega) e.symm)
  · have g6 := (hW.block _ (Array.getElem?_eq_some_iff.1 hbk65).1).trans hbk65
    have g7 := (hW.block _ (Array.getElem?_eq_some_iff.1 hbk75).1).trans hbk75
    exact ⟨by rw [cells_of_block g7]; rfl, by rw [cells_of_block g7]; rfl, by rw [cells_of_block g6]; rfl⟩

theorem RdAt.wide {σ : Wm} {w : World} {sv rv : Value} {sg : List Seg} {n m : Nat} {wr : World} (h : RdAt σ w sv rv sg n wr) (hn : n ≤ m) : RdAt σ w sv rv sg m wr := by
  obtain ⟨ys, h1, h2⟩ := h.recs
  exact ⟨h.segs, ⟨ys, h1, Nat.le_trans h2 hn⟩, h.rk, h.new, h.bel⟩
theorem max_last {rs : List Rec} {L : Nat} (h : chn L rs) : max L (lastIx 0 rs) = lastIx L rs := by
  cases rs with
  | nil => simp [lastIx]
  | cons r rs =>
    have := chn_ge (r :: rs) L h
    show max L (lastIx r.index rs) = lastIx r.index rs
    rw [lastIx] at this
    omega

set_option maxHeartbeats 8000000 in
theorem read_of (xs : List (Seg × Nat)) (v : Value) (w : World) (hT : Tb w) (hN : Nf w v (xs.map xfile)) (h : Rdl xs) : Calls Tryz.prog 68 #[v] w (ReadsT w (xs.map cutS)) := by
  letI := keepAll
  obtain ⟨ao, cap, rfl, hc⟩ := id hN
  rw [List.length_map]
  have hlen := h.few
  go_enter Tryz.func68, Tryz.ntmps68
  go_wp2
  go_loopg [2, 3, 4, 11] xs.length (fun g s2 s3 s4 s11 wr => ∃ (i L : Nat) (σ : Wm), i + g = xs.length ∧ s11 = .int .i64 (i : Int) ∧ s4 = .int .u64 (L : Int) ∧ L < 18446744073709551616 ∧ Hid (i < xs.length → L = lastIx 0 (xrecs (xs.take i))) ∧ RdAt σ w s2 s3 ((xs.map cutS).take i) (i * 100000) wr)
  case atStart => exact ⟨0, 0, fun _ => (0, 0), by simp, rfl, rfl, by omega, fun _ => rfl, SegsAt.nil _ _ (by simp), ⟨[], R2.nil _ _, Nat.le_refl _⟩, (fun k hk => by cases hk), by simp, Below.refl _ _⟩
  case round =>
    obtain ⟨i, L, σ, hi, rfl, rfl, hL64, hL, hA⟩ := hrel
    by_cases hlt : i < xs.length
    · have hlti : (i : Int) < (xs.length : Int) := by omega
      have hx := List.getElem?_eq_getElem hlt
      generalize xs[i] = x at *
      have hxm : x ∈ xs := List.mem_of_getElem? hx
      have hbw := hA.bel
      obtain ⟨b, off, sv, rfl, r1, r2, r3, r4⟩ := hc i (xfile x) (by rw [List.getElem?_map, hx]; rfl)
      have hgl := World.block_lt_of_cell? w _ r1
      have r1' : wr.cell? ⟨b, off + i * 2, none⟩ = some (.int .i64 (x.1.num : Int)) := (hbw.cell (p := ⟨b, off + i * 2, none⟩) hgl).trans r1
      have r2' := (hbw.cell (p := ⟨b, off + i * 2 + 1, none⟩) hgl).trans r2
      obtain ⟨sa, sc, hsv, -⟩ := id r3
      obtain ⟨dl, hdl⟩ : ∃ n, Hid (n = (xfile x).2.length) := ⟨_, rfl⟩
      rw [← hdl.out] at hsv
      subst hsv
      have hLL : Hid (L = lastIx 0 (xrecs (xs.take i))) := hL.out hlt
      have hchx : Hid (chn L x.1.recs) := by show chn _ _; rw [hLL.out]; exact h.at hx
      have hsmall : Hid ((x.1.recs.take (cutN x.1.recs x.2)).length ≤ 100000) := by
        show _ ≤ _
        rw [List.length_take]
        have := (h.small x hxm).2
        omega
      have hb1 : Below wr.heap.size wr (wr.alloc (.cells #[.int .i64 (x.1.num : Int), .slice sa dl sc] 122)) := (Below.refl _ _).alloc (Nat.le_refl _) _
      have hb01 := hbw.trans (hb1.mono hbw.size)
      have hbd : ∀ k, Below wr.heap.size wr ((wr.alloc (.cells #[.int .i64 (x.1.num : Int), .slice sa dl sc] 122)).drewN k) := fun k => below_drewN hb1 k
      have hrf : ∀ k, Calls Tryz.prog 94 #[.agg #[.int .i64 (x.1.num : Int), .slice sa dl sc], .int .u64 (L : Int)] ((wr.alloc (.cells #[.int .i64 (x.1.num : Int), .slice sa dl sc] 122)).drewN k) (ReadFT ((wr.alloc (.cells #[.int .i64 (x.1.num : Int), .slice sa dl sc] 122)).drewN k) x.1.num (x.1.recs.take (cutN x.1.recs x.2))) := fun k => by
        have hb01 := hbw.trans ((hbd k).mono hbw.size)
        exact readFile_of x.1.num (.slice sa dl sc) x.1.recs x.2 L _ (hT.new hb01) ((r3.below hb01).mono hb01.size) r4 (h.ok x hxm) hchx.out (h.small x hxm).1 (h.small x hxm).2 hL64
      have hsnoc : Hid ((xs.map cutS).take i ++ [cutS x] = (xs.map cutS).take (i + 1)) := by
        show _ = _
        rw [List.take_succ_eq_append_getElem (by rw [List.length_map]; exact hlt), List.getElem_map]
        rw [List.getElem?_eq_getElem hlt] at hx
        rw [Option.some.inj hx]
      have hK : ∀ (k : Nat) w2 pv mv zs, R2 w2 120 pv (pl2 (plc 0 (x.1.recs.take (cutN x.1.recs x.2)))) → R2 w2 44 mv zs → zs.length = (x.1.recs.take (cutN x.1.recs x.2)).length → (∀ y ∈ zs, y.1.oneCell' = true ∧ y.2.oneCell' = true) → (∀ j, pv.ownBlock = some j → ((wr.alloc (.cells #[.int .i64 (x.1.num : Int), .slice sa dl sc] 122)).drewN k).heap.size ≤ j) → (∀ j, mv.ownBlock = some j → ((wr.alloc (.cells #[.int .i64 (x.1.num : Int), .slice sa dl sc] 122)).drewN k).heap.size ≤ j ∧ pv.ownBlock ≠ some j) → Below ((wr.alloc (.cells #[.int .i64 (x.1.num : Int), .slice sa dl sc] 122)).drewN k).heap.size ((wr.alloc (.cells #[.int .i64 (x.1.num : Int), .slice sa dl sc] 122)).drewN k) w2 → Hid _ := fun k w2 pv mv zs hP hM hzl hz1 hpk hmk hb2 => push_more hA (cutS x) (.slice sa dl sc) (hbd k) (heap_alloc_new wr _) (by show (wr.alloc _).heap.size = _; simp) (w2 := w2) (pv := pv) (mv := mv) (zs := zs) hP hM hz1 hpk hmk hb2 (by rw [List.length_take, List.length_map]; omega) (by rw [hzl]; have := hsmall.out; omega)
      obtain ⟨a2, c2', e2, -⟩ := hA.segs.shape
      rw [show ((xs.map cutS).take i).length = i by rw [List.length_take, List.length_map]; omega] at e2
      obtain ⟨ys0, hy0, -⟩ := hA.recs
      obtain ⟨ra0, rc0, hre0, -⟩ := hy0.shape
      obtain ⟨rn0, hrn0⟩ : ∃ n, Hid (n = ys0.length) := ⟨_, rfl⟩
      rw [← hrn0.out] at hre0
      subst hre0
      have hAH : Hid (RdAt σ w u2 (.slice ra0 rn0 rc0) ((xs.map cutS).take i) (i * 100000) wr) := hA
      have q2 : IntKind.i64.wrap ((i : Int) + 1) = ((i + 1 : Nat) : Int) := by
        rw [show (i : Int) + 1 = ((i + 1 : Nat) : Int) by omega]
        exact IntWalk.i64_in _ (by omega)
      have hbrk : Hid (sz (x.1.recs.take (cutN x.1.recs x.2)) < dl → i + 1 = xs.length) := fun hb => by
        rcases Nat.lt_or_ge (i + 1) xs.length with hlt2 | hge
        · have hf := h.full i x hx hlt2
          rw [cutN_all _ _ hf, List.take_length, hdl.out] at hb
          unfold xfile at hb
          rw [List.length_take] at hb
          unfold sz at hb hf
          omega
        · omega
      have hmaxH : Hid (i + 1 < xs.length → max L (lastIx 0 (x.1.recs.take (cutN x.1.recs x.2))) = lastIx 0 (xrecs (xs.take (i + 1)))) := fun hlt2 => by
        have hf := h.full i x hx hlt2
        rw [cutN_all _ _ hf, List.take_length, max_last hchx.out, xrecs_snoc hx, lastIx_append, ← hLL.out]
      have hLc : lastIx 0 (x.1.recs.take (cutN x.1.recs x.2)) < 18446744073709551616 := lastIx_lt (fun r hr => h.ok x hxm r (List.mem_of_mem_take hr)) (by omega)
      clear hN hc r1 r2 r3 r4 hT
      by_cases h0 : i = 0
      · subst h0
        subst e2
        rw [Nat.zero_mul, Nat.add_zero] at r1' r2'
        clear hA
        go_wp2
        go_big_quiet (fail)
        go_wp2_with fail
        refine (hrf nq).mono ?_
        rintro e w2 ⟨pv, mv, zs, rfl, hP, hM, hzl, hz1, hpk, hmk, hb2⟩
        obtain ⟨pa, pc, hpe, -⟩ := hP.shape
        rw [pl2_length, plc_length] at hpe
        obtain ⟨pn, hpn⟩ : ∃ n, Hid (n = (x.1.recs.take (cutN x.1.recs x.2)).length) := ⟨_, rfl⟩
        rw [← hpn.out] at hpe
        subst hpe
        obtain ⟨ma, mc, hme, -⟩ := hM.shape
        obtain ⟨mn, hmn⟩ : ∃ n, Hid (n = zs.length) := ⟨_, rfl⟩
        rw [← hmn.out] at hme
        subst hme
        have hzle : Hid (zs.length ≤ 100000) := by show _ ≤ _; rw [hzl]; exact hsmall.out
        have hpush : ∀ ty, ∃ sv' w', (Builtin.append_ #[63, 63] ty #[(.slice a2 0 c2'), .slice (some ⟨w2.heap.size + 1, 0, none⟩) 1 1]).run Tryz.prog ((w2.alloc (.cells #[.int .i64 (x.1.num : Int), .slice pa pn pc] 73)).alloc (.cells #[.int .i64 (x.1.num : Int), .slice pa pn pc] 73)) = .ok sv' w' ∧ PushN w ((xs.map cutS).take 0 ++ [cutS x]) (0 * 100000 + zs.length) w2.heap.size wr.heap.size x.1.num (x.1.recs.take (cutN x.1.recs x.2)) (.slice pa pn pc) (.slice sa dl sc) (.slice ma mn mc) (.slice ra0 rn0 rc0) sv' w' := (hK nq w2 _ _ zs hP hM hzl hz1 hpk hmk hb2).out
        clear hrf hK hP hM hzl hz1 hpk hmk hb2
        go_wp2_with (at_builtin; refine wp_by rfl _ _ _ rfl _ _ rfl rfl hpush ?_)
        intro sv4 w4 hN4
        obtain ⟨a4, n4, c4, he4, hmore⟩ := id hN4
        subst he4
        clear hN4 hpush
        go_wp2_with (at_builtin; refine wp_by rfl _ _ _ rfl _ _ rfl rfl hmore ?_)
        intro rv5 w5 hN5
        obtain ⟨σ5, hA5, hq5, hS5⟩ := id hN5
        clear hN5 hmore
        have hdr5 : Below w5.heap.size w5 w5.drew := (Below.refl _ _).drew
        have ks := ssize_of (x.1.num : Int) (.slice pa pn pc) _ w5.drew (hq5.pv.below hdr5) (by rw [plc_length]; exact Nat.le_trans hsmall.out (by omega))
        rw [endI_all] at ks
        have kl : ∀ W, Below w5.heap.size w5 W → Calls Tryz.prog 35 #[.agg #[.int .i64 (x.1.num : Int), .slice pa pn pc]] W fun e w' => e = .returned (.int .u64 (lastIx 0 (x.1.recs.take (cutN x.1.recs x.2)) : Int)) ∧ Below W.heap.size W w' := fun W hb => by
          have := slast_of (x.1.num : Int) (.slice pa pn pc) _ W (hq5.pv.below hb) (by rw [plc_length]; exact Nat.le_trans hsmall.out (by omega))
          rw [lastI_plc] at this
          exact this
        have y0 := hS5 _ hdr5
        replace hA5 : RdAt σ5 w (.slice a4 n4 c4) rv5 ((xs.map cutS).take (0 + 1)) (0 * 100000 + zs.length) w5 := by
          rw [← hsnoc.out]
          first | exact hA5 | simpa using hA5
        have hA5H : Hid (RdAt σ5 w (.slice a4 n4 c4) rv5 ((xs.map cutS).take (0 + 1)) (0 * 100000 + zs.length) w5) := hA5
        have hfinH : Hid (∀ W, Below w5.heap.size w5 W → 0 + 1 = xs.length → ReadsT w (xs.map cutS) (.returned (.tuple #[.slice a4 n4 c4, rv5])) W) := fun W hb he => by
          have hA6 := hA5.below hb
          rw [List.take_of_length_le (by rw [List.length_map]; omega)] at hA6
          exact ⟨_, _, σ5, rfl, hA6.segs, hA6.new, hA6.bel⟩
        obtain ⟨ra, rc, hre⟩ : ∃ a c, rv5 = .slice a ((hA5.recs.choose).length) c := by
          obtain ⟨a, c, e, -⟩ := hA5.recs.choose_spec.1.shape
          exact ⟨a, c, e⟩
        generalize (hA5.recs.choose).length = rn at hre
        subst hre
        generalize ReadsT w (xs.map cutS) = T at *
        clear hq5 hA5
        go_wp2
        go_region_held3 (fun w' => w'.cell? ⟨w2.heap.size, 0, none⟩ = some (.int .i64 (x.1.num : Int)) ∧ w'.cell? ⟨w2.heap.size, 1, none⟩ = some (.slice pa pn pc) ∧ w'.cell? ⟨wr.heap.size, 1, none⟩ = some (.slice sa dl sc))
          (first | exact y0 | exact hS5 _ b6 | go_keep)
          ((go_at_call 73; refine ks.mono ?_; rintro e w6 ⟨rfl, b6'⟩; have b6 := hdr5.trans b6'))
        by_cases hbr : sz (x.1.recs.take (cutN x.1.recs x.2)) < dl
        · have hbri : (sz (x.1.recs.take (cutN x.1.recs x.2)) : Int) < (dl : Int) := by omega
          have hfin : Hid _ := hfinH.out w6 b6 (hbrk.out hbr)
          clear hbr hS5 kl ks y0
          go_wp2 <;> first | exact hfin.out | (go_ret2; exact hfin.out)
        · have hbri : ¬ (sz (x.1.recs.take (cutN x.1.recs x.2)) : Int) < (dl : Int) := by omega
          obtain ⟨e0, e1, -⟩ := hS5 w6 b6
          have kl6 := kl w6 b6
          obtain ⟨Lc, hLcd⟩ : ∃ n, Hid (n = lastIx 0 (x.1.recs.take (cutN x.1.recs x.2))) := ⟨_, rfl⟩
          rw [← hLcd.out] at kl6 hLc
          have hmx := hmaxH.out
          rw [← hLcd.out] at hmx
          have hmx' : Hid (0 + 1 < xs.length → max L Lc = lastIx 0 (xrecs (xs.take (0 + 1)))) := hmx
          clear hbr hS5 kl ks y0 hmx hLcd hmaxH
          by_cases hm : L < Lc
          · have hmi : (L : Int) < (Lc : Int) := by omega
            have hmi2 : ¬ (Lc : Int) < (L : Int) := by omega
            have hL' : Hid (0 + 1 < xs.length → Lc = lastIx 0 (xrecs (xs.take (0 + 1)))) := fun hl => by rw [← hmx'.out hl]; omega
            go_wp2_with fail
            refine kl6.mono ?_
            rintro e w7 ⟨rfl, b7⟩
            have b57 := b6.trans (b7.mono b6.size)
            clear kl6
            go_wp2
            go_roundg (gk - 1)
            case measure => omega
            case rel => exact ⟨0 + 1, Lc, σ5, by omega, by go_num, by rw [show max (L : Int) (Lc : Int) = (Lc : Int) by omega], hLc, hL'.out, (hA5H.out.below b57).wide (by have := hzle.out; omega)⟩
          · have hmi : ¬ (L : Int) < (Lc : Int) := by omega
            have hmi2 : (Lc : Int) ≤ (L : Int) := by omega
            have hL' : Hid (0 + 1 < xs.length → L = lastIx 0 (xrecs (xs.take (0 + 1)))) := fun hl => by rw [← hmx'.out hl]; omega
            go_wp2_with fail
            refine kl6.mono ?_
            rintro e w7 ⟨rfl, b7⟩
            have b57 := b6.trans (b7.mono b6.size)
            clear kl6
            go_wp2
            go_roundg (gk - 1)
            case measure => omega
            case rel => exact ⟨0 + 1, L, σ5, by omega, by go_num, by rw [show max (L : Int) (Lc : Int) = (L : Int) by omega], hL64, hL'.out, (hA5H.out.below b57).wide (by have := hzle.out; omega)⟩
      · obtain ⟨j, hij⟩ : ∃ j, Hid (i = j + 1) := ⟨i - 1, by show _ = _; omega⟩
        have hjl : j < xs.length := by have := hij.out; omega
        have hxj := List.getElem?_eq_getElem hjl
        obtain ⟨g2, cp2, e2', _, _, _, hgl2, _, hcell⟩ := hA.segs.cells (by
          intro e
          have := congrArg List.length e
          rw [List.length_take, List.length_map, List.length_nil] at this
          omega)
        rw [show ((xs.map cutS).take i).length = i by rw [List.length_take, List.length_map]; omega] at e2'
        subst e2'
        obtain ⟨vj, c1, -, -⟩ := hcell j (cutS xs[j]) (by rw [List.getElem?_take, if_pos (by have := hij.out; omega), List.getElem?_map, hxj]; rfl)
        have hnj : x.1.num = xs[j].1.num + 1 := h.num j _ x hxj (by rw [← hij.out]; exact hx)
        have hnb := (h.big x hxm).2
        change wr.cell? ⟨g2, j * 2, none⟩ = some (.int .i64 (xs[j].1.num : Int)) at c1
        generalize xs[j] = xj at *
        have c1' : ∀ W, Below wr.heap.size wr W → W.cell? ⟨g2, j * 2, none⟩ = some (.int .i64 (xj.1.num : Int)) := fun W hb => (hb.cell (p := ⟨g2, j * 2, none⟩) (World.block_lt_of_cell? wr _ c1)).trans c1
        have c2 := c1' _ hb1
        have q3 : IntKind.i64.wrap ((i : Int) - 1) = (j : Int) := by
          rw [show (i : Int) - 1 = (j : Int) by have := hij.out; omega]
          exact IntWalk.i64_in _ (by omega)
        have q4 : IntKind.i64.wrap ((xj.1.num : Int) + 1) = (x.1.num : Int) := by
          rw [show (xj.1.num : Int) + 1 = (x.1.num : Int) by omega]
          exact IntWalk.i64_in _ (by omega)
        have hji : (j : Int) < (i : Int) := by have := hij.out; omega
        have hji2 : j < i := by have := hij.out; omega
        have hi0 : 0 < i := by omega
        have q7 : ((x.1.num : Int) != (x.1.num : Int)) = false := by simp
        clear hA hcell c1 c1' hxj hnj
        go_wp2
        go_big_quiet (fail)
        go_wp2_with fail
        refine (hrf nq).mono ?_
        rintro e w2 ⟨pv, mv, zs, rfl, hP, hM, hzl, hz1, hpk, hmk, hb2⟩
        obtain ⟨pa, pc, hpe, -⟩ := hP.shape
        rw [pl2_length, plc_length] at hpe
        obtain ⟨pn, hpn⟩ : ∃ n, Hid (n = (x.1.recs.take (cutN x.1.recs x.2)).length) := ⟨_, rfl⟩
        rw [← hpn.out] at hpe
        subst hpe
        obtain ⟨ma, mc, hme, -⟩ := hM.shape
        obtain ⟨mn, hmn⟩ : ∃ n, Hid (n = zs.length) := ⟨_, rfl⟩
        rw [← hmn.out] at hme
        subst hme
        have hzle : Hid (zs.length ≤ 100000) := by show _ ≤ _; rw [hzl]; exact hsmall.out
        have hpush : ∀ ty, ∃ sv' w', (Builtin.append_ #[63, 63] ty #[(.slice (some ⟨g2, 0, none⟩) i c2'), .slice (some ⟨w2.heap.size + 1, 0, none⟩) 1 1]).run Tryz.prog ((w2.alloc (.cells #[.int .i64 (x.1.num : Int), .slice pa pn pc] 73)).alloc (.cells #[.int .i64 (x.1.num : Int), .slice pa pn pc] 73)) = .ok sv' w' ∧ PushN w ((xs.map cutS).take i ++ [cutS x]) (i * 100000 + zs.length) w2.heap.size wr.heap.size x.1.num (x.1.recs.take (cutN x.1.recs x.2)) (.slice pa pn pc) (.slice sa dl sc) (.slice ma mn mc) (.slice ra0 rn0 rc0) sv' w' := (hK nq w2 _ _ zs hP hM hzl hz1 hpk hmk hb2).out
        clear hrf hK hP hM hzl hz1 hpk hmk hb2
        go_wp2_with (at_builtin; refine wp_by rfl _ _ _ rfl _ _ rfl rfl hpush ?_)
        intro sv4 w4 hN4
        obtain ⟨a4, n4, c4, he4, hmore⟩ := id hN4
        subst he4
        clear hN4 hpush
        go_wp2_with (at_builtin; refine wp_by rfl _ _ _ rfl _ _ rfl rfl hmore ?_)
        intro rv5 w5 hN5
        obtain ⟨σ5, hA5, hq5, hS5⟩ := id hN5
        clear hN5 hmore
        have hdr5 : Below w5.heap.size w5 w5.drew := (Below.refl _ _).drew
        have ks := ssize_of (x.1.num : Int) (.slice pa pn pc) _ w5.drew (hq5.pv.below hdr5) (by rw [plc_length]; exact Nat.le_trans hsmall.out (by omega))
        rw [endI_all] at ks
        have kl : ∀ W, Below w5.heap.size w5 W → Calls Tryz.prog 35 #[.agg #[.int .i64 (x.1.num : Int), .slice pa pn pc]] W fun e w' => e = .returned (.int .u64 (lastIx 0 (x.1.recs.take (cutN x.1.recs x.2)) : Int)) ∧ Below W.heap.size W w' := fun W hb => by
          have := slast_of (x.1.num : Int) (.slice pa pn pc) _ W (hq5.pv.below hb) (by rw [plc_length]; exact Nat.le_trans hsmall.out (by omega))
          rw [lastI_plc] at this
          exact this
        have y0 := hS5 _ hdr5
        replace hA5 : RdAt σ5 w (.slice a4 n4 c4) rv5 ((xs.map cutS).take (i + 1)) (i * 100000 + zs.length) w5 := by
          rw [← hsnoc.out]
          first | exact hA5 | simpa using hA5
        have hA5H : Hid (RdAt σ5 w (.slice a4 n4 c4) rv5 ((xs.map cutS).take (i + 1)) (i * 100000 + zs.length) w5) := hA5
        have hfinH : Hid (∀ W, Below w5.heap.size w5 W → i + 1 = xs.length → ReadsT w (xs.map cutS) (.returned (.tuple #[.slice a4 n4 c4, rv5])) W) := fun W hb he => by
          have hA6 := hA5.below hb
          rw [List.take_of_length_le (by rw [List.length_map]; omega)] at hA6
          exact ⟨_, _, σ5, rfl, hA6.segs, hA6.new, hA6.bel⟩
        obtain ⟨ra, rc, hre⟩ : ∃ a c, rv5 = .slice a ((hA5.recs.choose).length) c := by
          obtain ⟨a, c, e, -⟩ := hA5.recs.choose_spec.1.shape
          exact ⟨a, c, e⟩
        generalize (hA5.recs.choose).length = rn at hre
        subst hre
        generalize ReadsT w (xs.map cutS) = T at *
        clear hq5 hA5
        go_wp2
        go_region_held3 (fun w' => w'.cell? ⟨w2.heap.size, 0, none⟩ = some (.int .i64 (x.1.num : Int)) ∧ w'.cell? ⟨w2.heap.size, 1, none⟩ = some (.slice pa pn pc) ∧ w'.cell? ⟨wr.heap.size, 1, none⟩ = some (.slice sa dl sc))
          (first | exact y0 | exact hS5 _ b6 | go_keep)
          ((go_at_call 73; refine ks.mono ?_; rintro e w6 ⟨rfl, b6'⟩; have b6 := hdr5.trans b6'))
        by_cases hbr : sz (x.1.recs.take (cutN x.1.recs x.2)) < dl
        · have hbri : (sz (x.1.recs.take (cutN x.1.recs x.2)) : Int) < (dl : Int) := by omega
          have hfin : Hid _ := hfinH.out w6 b6 (hbrk.out hbr)
          clear hbr hS5 kl ks y0
          go_wp2 <;> first | exact hfin.out | (go_ret2; exact hfin.out)
        · have hbri : ¬ (sz (x.1.recs.take (cutN x.1.recs x.2)) : Int) < (dl : Int) := by omega
          obtain ⟨e0, e1, -⟩ := hS5 w6 b6
          have kl6 := kl w6 b6
          obtain ⟨Lc, hLcd⟩ : ∃ n, Hid (n = lastIx 0 (x.1.recs.take (cutN x.1.recs x.2))) := ⟨_, rfl⟩
          rw [← hLcd.out] at kl6 hLc
          have hmx := hmaxH.out
          rw [← hLcd.out] at hmx
          have hmx' : Hid (i + 1 < xs.length → max L Lc = lastIx 0 (xrecs (xs.take (i + 1)))) := hmx
          clear hbr hS5 kl ks y0 hmx hLcd hmaxH
          by_cases hm : L < Lc
          · have hmi : (L : Int) < (Lc : Int) := by omega
            have hmi2 : ¬ (Lc : Int) < (L : Int) := by omega
            have hL' : Hid (i + 1 < xs.length → Lc = lastIx 0 (xrecs (xs.take (i + 1)))) := fun hl => by rw [← hmx'.out hl]; omega
            go_wp2_with fail
            refine kl6.mono ?_
            rintro e w7 ⟨rfl, b7⟩
            have b57 := b6.trans (b7.mono b6.size)
            clear kl6
            go_wp2
            go_roundg (gk - 1)
            case measure => omega
            case rel => exact ⟨i + 1, Lc, σ5, by omega, by go_num, by rw [show max (L : Int) (Lc : Int) = (Lc : Int) by omega], hLc, hL'.out, (hA5H.out.below b57).wide (by have := hzle.out; omega)⟩
          · have hmi : ¬ (L : Int) < (Lc : Int) := by omega
            have hmi2 : (Lc : Int) ≤ (L : Int) := by omega
            have hL' : Hid (i + 1 < xs.length → L = lastIx 0 (xrecs (xs.take (i + 1)))) := fun hl => by rw [← hmx'.out hl]; omega
            go_wp2_with fail
            refine kl6.mono ?_
            rintro e w7 ⟨rfl, b7⟩
            have b57 := b6.trans (b7.mono b6.size)
            clear kl6
            go_wp2
            go_roundg (gk - 1)
            case measure => omega
            case rel => exact ⟨i + 1, L, σ5, by omega, by go_num, by rw [show max (L : Int) (Lc : Int) = (L : Int) by omega], hL64, hL'.out, (hA5H.out.below b57).wide (by have := hzle.out; omega)⟩
    · have hlti : ¬ (i : Int) < (xs.length : Int) := by omega
      rw [List.take_of_length_le (by rw [List.length_map]; omega)] at hA
      have hfin : Hid (ReadsT w (xs.map cutS) (.returned (.tuple #[u2, u3])) wr) := ⟨_, _, σ, rfl, hA.segs, hA.new, hA.bel⟩
      clear hA
      generalize ReadsT w (xs.map cutS) = T at *
      go_wp2 <;> first | exact hfin.out | (go_ret2; exact hfin.out)
end Go.Proofs.YtljfhafmedngnaaGreatDoor

