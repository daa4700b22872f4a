import Derived.Test.YtebkfkijlopmoaaHo25
import Derived.Test.YtebkfkijlopmoaaHo26
import Derived.Test.YtebkfkijlopmoaaHo35
/- What stands between two rounds of SessionOnce: seats, which calls were kept, each client's last. -/
namespace Go.Proofs.Ytebkfkijlopmoaa
open Go.RowKit Go.Maps SessionMath
open Go.WideMaps (KeyLaw)
set_option maxRecDepth 100000
set_option linter.unusedSimpArgs false
set_option linter.unusedVariables false

theorem types_two : ∃ m, Try.prog.types.size + 1 = m + 2 := ⟨Try.prog.types.size - 1, by have : 2 ≤ Try.prog.types.size := of_decide_eq_true (by kernel_rfl); omega⟩
theorem cellsInt : Try.prog.cellsOf 3 = 1 := by kernel_rfl
theorem cellsU64 : Try.prog.cellsOf 23 = 1 := by kernel_rfl
theorem id_law : KeyLaw Try.prog 25 := deep_law_laid laidOut (m := 10) (by decide) (of_decide_eq_true (by kernel_rfl)) (by kernel_rfl) (by kernel_rfl)
theorem int_law : Keyed Try.prog 3 := int_keyed Try.underlying3
@[reducible] def idV (z : Cq) : Value := .agg #[.int .i64 z.1, .int .u64 (z.2 : Int)]
theorem CqOk.wf1 {z : Cq} (h : CqOk z) : (Lit.int .i64 z.1).wf = true := by
  have h2 : IntKind.i64.min ≤ z.1 ∧ z.1 ≤ IntKind.i64.max := h.2
  simpa [Lit.wf] using h2
theorem CqOk.wf2 {z : Cq} (h : CqOk z) : (Lit.int .u64 (z.2 : Int)).wf = true := by
  have h2 : IntKind.u64.min ≤ (z.2 : Int) ∧ (z.2 : Int) ≤ IntKind.u64.max := by
    have := h.1
    show (0 : Int) ≤ _ ∧ _ ≤ (18446744073709551615 : Int)
    omega
  simpa [Lit.wf] using h2
theorem id_lits (d : Nat) {z : Cq} (h : CqOk z) : Try.prog.keyLits (d + 2) 25 [.int .i64 z.1, .int .u64 (z.2 : Int)] = some [.int .i64 z.1, .int .u64 (z.2 : Int)] := by
  have wx := h.wf1
  have wy := h.wf2
  simp [Program.keyLits, Try.underlying25, cells_id, cellsInt, cellsU64, Try.underlying3, Try.underlying23, wx, wy]
theorem id_key {z : Cq} (h : CqOk z) : keyOf Try.prog 25 (idV z) = some (.string (keyBytes [.int .i64 z.1, .int .u64 (z.2 : Int)])) := by
  have hkt : Try.prog.keyType 25 = true := by kernel_rfl
  have hf : (idV z).formed Try.prog 25 = true := by simp [idV, Value.formed, Try.underlying25, cells_id]
  obtain ⟨m, hm⟩ := types_two
  have hl := id_lits m h
  simp only [keyOf, Try.underlying25]
  rw [hm, hkt, hf]
  show Option.map _ (Try.prog.keyLits (m + 2) 25 [.int .i64 z.1, .int .u64 (z.2 : Int)]) = _
  rw [hl]
  rfl
theorem int_key {z : Cq} (h : CqOk z) : keyOf Try.prog 3 (.int .i64 z.1) = some (.int .i64 z.1) := by
  have wx := h.wf1
  simp [keyOf, mapKey, Try.underlying3, wx]
/-- Which calls were kept, as a map. -/
def kM (K : List Cq) (v : Value) : Option Value :=
  match v with
  | .agg cs => match cs.toList with
    | [.int .i64 x, .int .u64 y] => if K.any (fun z => decide (z.1 = x) && decide ((z.2 : Int) = y)) then some (.bool true) else none
    | _ => none
  | _ => none
theorem kM_at (K : List Cq) (z : Cq) : kM K (idV z) = if K.any (fun y => decide (y.1 = z.1) && decide ((y.2 : Int) = (z.2 : Int))) then some (.bool true) else none := rfl
theorem kM_in {K : List Cq} {z : Cq} (h : z ∈ K) : kM K (idV z) = some (.bool true) := by
  rw [kM_at, if_pos]
  rw [List.any_eq_true]
  exact ⟨z, h, by simp⟩
theorem kM_out {K : List Cq} {z : Cq} (h : z ∉ K) : kM K (idV z) = none := by
  rw [kM_at, if_neg]
  rw [List.any_eq_true]
  rintro ⟨y, hy, he⟩
  simp only [Bool.and_eq_true, decide_eq_true_eq] at he
  obtain ⟨h1, h2⟩ := he
  have : y = z := Prod.ext h1 (by omega)
  exact h (this ▸ hy)
theorem kM_cons (K : List Cq) (z : Cq) : kM (z :: K) (idV z) = some (.bool true) ∧ ∀ v', v' ≠ idV z → kM (z :: K) v' = kM K v' := by
  refine ⟨kM_in (by simp), fun v' hv => ?_⟩
  unfold kM
  split
  · rename_i cs
    split
    · rename_i x y hcs
      have hne : (decide (z.1 = x) && decide ((z.2 : Int) = y)) = false := by
        rw [Bool.and_eq_false_iff]
        by_cases h1 : z.1 = x
        · right
          refine decide_eq_false fun h2 => hv ?_
          subst h1 h2
          show Value.agg cs = _
          congr 1
          rw [← Array.toList_inj]
          exact hcs
        · left
          exact decide_eq_false h1
      rw [List.any_cons, hne, Bool.false_or]
    · rfl
  · rfl
/-- Each client's last call, as a map. -/
def lM (l : List Ms) (v : Value) : Option Value :=
  match v with
  | .int .i64 c => (seatOf l c).map fun s => .agg #[.int .i64 c, .int .u64 (s.sq : Int)]
  | _ => none
theorem lM_at (l : List Ms) (c : Int) : lM l (.int .i64 c) = (seatOf l c).map fun s => .agg #[.int .i64 c, .int .u64 (s.sq : Int)] := rfl
theorem lM_put {l : List Ms} {s : Ms} (hl : mayB l = true) (hs : seatB s = true) : lM (keptM l s) (.int .i64 s.cl) = some (idV (s.cl, s.sq)) ∧ ∀ v', v' ≠ .int .i64 s.cl → lM (keptM l s) v' = lM l v' := by
  constructor
  · rw [lM_at, kept_seat hl hs, if_pos rfl]
    rfl
  · intro v' hv
    unfold lM
    split
    · rename_i c
      rw [kept_seat hl hs, if_neg (fun h => hv (by rw [h]))]
    · rfl
theorem zeroBool (w : World) : (zeroValue 4).run Try.prog w = .ok (.bool false) w := by kernel_rfl
theorem zeroId (w : World) : (zeroValue 25).run Try.prog w = .ok (.agg #[.int .i64 0, .int .u64 0]) w := by kernel_rfl

/-- What is read in cells is not in a map's block. -/
theorem cell_turned {w w' : World} {bm : Nat} {es : Array MapEntry} {cl : Nat} (hm : w.heap[bm]? = some (.map es cl)) (hg : w.grownBy w' (some bm)) {p : Addr} {u : Value} (h : w.cell? p = some u) : w'.cell? p = some u := by
  have hlt := World.block_lt_of_cell? w _ h
  have hne : p.block ≠ bm := fun e => by
    unfold World.cell? at h
    rw [e, hm] at h
    simp at h
  have hb := hg.block p.block hlt (fun e => hne (Option.some.inj e))
  unfold World.cell? at h ⊢
  rw [hb]
  exact h
theorem Rd.turned {α : Type} {E : El α} {w w' : World} {v : Value} {xs : List α} {bm : Nat} {es : Array MapEntry} {cl : Nat} (hm : w.heap[bm]? = some (.map es cl)) (hg : w.grownBy w' (some bm)) (h : Rd E w v xs) : Rd E w' v xs := by
  obtain ⟨ao, cap, e, h0, h1, h2⟩ := h
  refine ⟨ao, cap, e, h0, h1, fun i x j u hx hu => ?_⟩
  obtain ⟨b, off, r1, r2⟩ := h2 i x j u hx hu
  exact ⟨b, off, r1, cell_turned hm hg r2⟩
theorem Bn.turned {w w' : World} {v : Value} {l : List Nat} {bm : Nat} {es : Array MapEntry} {cl : Nat} (hm : w.heap[bm]? = some (.map es cl)) (hg : w.grownBy w' (some bm)) (h : Bn w v l) : Bn w' v l := by
  obtain ⟨ao, cap, h1, h2, h3, h4, h5⟩ := h
  refine ⟨ao, cap, h1, h2, h3, h4, fun hne => ?_⟩
  obtain ⟨b, off, e1, e2, e3⟩ := h5 hne
  exact ⟨b, off, e1, Nat.lt_of_lt_of_le e2 hg.size, fun j c hj => cell_turned hm hg (e3 j c hj)⟩
theorem SeatsV.turned {w w' : World} {v : Value} {zs : List Sz} {bm : Nat} {es : Array MapEntry} {cl : Nat} (hm : w.heap[bm]? = some (.map es cl)) (hg : w.grownBy w' (some bm)) (h : SeatsV w v zs) : SeatsV w' v zs := ⟨h.1.turned hm hg, fun z hz => Bn.turned hm hg (h.2 z hz)⟩

/-- The plain part: seats and kept calls. -/
structure OncM (l : List Ms) (K : List Cq) : Prop where
  may : mayB l = true
  oks : ∀ m ∈ l, OkS m
  kin : ∀ z ∈ K, ∃ s, seatOf l z.1 = some s ∧ z.2 ≤ s.sq
  sin : ∀ c s, seatOf l c = some s → (c, s.sq) ∈ K
theorem OncM.nil : OncM [] [] := ⟨rfl, by simp, by simp, fun c s h => by cases h⟩
theorem OncM.new {l : List Ms} {K : List Cq} (h : OncM l K) {z : Cq} (hn : newB l z.1 z.2 = true) : z ∉ K := fun hz => by
  obtain ⟨s, h1, h2⟩ := h.kin z hz
  unfold newB at hn
  rw [h1] at hn
  have : s.sq < z.2 := by simpa using hn
  omega
theorem OncM.old {l : List Ms} {K : List Cq} (h : OncM l K) {z : Cq} (hn : newB l z.1 z.2 = false) (hz : z ∉ K) : ∃ s, seatOf l z.1 = some s ∧ z.2 < s.sq := by
  unfold newB at hn
  cases hs : seatOf l z.1 with
  | none => rw [hs] at hn; cases hn
  | some s =>
    rw [hs] at hn
    have h1 : ¬ s.sq < z.2 := by simpa using hn
    refine ⟨s, rfl, ?_⟩
    have h2 := h.sin z.1 s hs
    rcases Nat.lt_or_ge z.2 s.sq with h3 | h3
    · exact h3
    · have : s.sq = z.2 := by omega
      rw [this] at h2
      exact absurd h2 hz
theorem OncM.put {l : List Ms} {K : List Cq} (h : OncM l K) {s : Ms} (hs : seatB s = true) (ho : OkS s) (hn : newB l s.cl s.sq = true) : OncM (keptM l s) ((s.cl, s.sq) :: K) := by
  refine ⟨kept_may h.may hs, fun m hm => ?_, fun z hz => ?_, fun c t ht => ?_⟩
  · unfold keptM at hm
    simp only [List.mem_append, List.mem_filter, List.mem_singleton] at hm
    rcases hm with (⟨h1, _⟩ | rfl) | ⟨h1, _⟩
    · exact h.oks m h1
    · exact ho
    · exact h.oks m h1
  · rw [kept_seat h.may hs]
    rw [List.mem_cons] at hz
    rcases hz with rfl | hz
    · rw [if_pos rfl]
      exact ⟨s, rfl, Nat.le_refl _⟩
    · obtain ⟨t, h1, h2⟩ := h.kin z hz
      by_cases hc : z.1 = s.cl
      · rw [if_pos hc]
        refine ⟨s, rfl, ?_⟩
        unfold newB at hn
        rw [← hc, h1] at hn
        have : t.sq < s.sq := by simpa using hn
        omega
      · rw [if_neg hc]
        exact ⟨t, h1, h2⟩
  · rw [kept_seat h.may hs] at ht
    split at ht
    · rename_i hc
      obtain rfl := Option.some.inj ht
      rw [hc]
      simp
    · exact List.mem_cons_of_mem _ (h.sin c t ht)
theorem look_kept {l : List Ms} {s : Ms} (hl : mayB l = true) (hs : seatB s = true) : lookM (keptM l s) s.cl s.sq = (s.rp, true, 0) := by
  have hc : callB s.cl s.sq = true := by
    have := seat_iff.1 hs
    exact call_iff.2 ⟨this.1, this.2.1, this.2.2.1, this.2.2.2.1⟩
  rw [look_some (kept_may hl hs) hc (by rw [kept_seat hl hs, if_pos rfl]), if_neg (by omega), if_pos rfl]

/-- What stands in memory. -/
structure OncS (n : Nat) (w : World) (v : Value) (zs : List Sz) (K : List Cq) (bk bl N : Nat) : Prop where
  seats : SeatsV w v zs
  m : OncM (mes zs) K
  kept : ∃ c, c ≤ N ∧ Mq 25 w bk (kM K) c
  last : ∃ c, c ≤ N ∧ Mq 3 w bl (lM (mes zs)) c
  ne : bk ≠ bl
  nk : n ≤ bk
  nl : n ≤ bl
theorem OncS.below {n : Nat} {w w' : World} {v : Value} {zs : List Sz} {K : List Cq} {bk bl N : Nat} (h : OncS n w v zs K bk bl N) (hb : Below w.heap.size w w') : OncS n w' v zs K bk bl N := by
  obtain ⟨c1, h1, h2⟩ := h.kept
  obtain ⟨c2, h3, h4⟩ := h.last
  exact ⟨h.seats.below hb, h.m, ⟨c1, h1, h2.same (hb.block bk h2.lt)⟩, ⟨c2, h3, h4.same (hb.block bl h4.lt)⟩, h.ne, h.nk, h.nl⟩
/-- Both stores. -/
def TwoT (n : Nat) (v : Value) (zs : List Sz) (K : List Cq) (z : Cq) (bk bl N : Nat) (W W1 W2 : World) : Prop :=
  (Instr.mapUpdate 45 (.map (some bk)) (idV z) (.bool true)).run Try.prog W = .ok () W1 ∧ (Instr.mapUpdate 46 (.map (some bl)) (.int .i64 z.1) (idV z)).run Try.prog W1 = .ok () W2 ∧ OncS n W2 v zs (z :: K) bk bl (N + 1) ∧ Below n W W1 ∧ Below n W W2 ∧ (∀ p u, W.cell? p = some u → W1.cell? p = some u ∧ W2.cell? p = some u) ∧ W.heap.size ≤ W2.heap.size
theorem OncS.two {n : Nat} {W : World} {v0 v : Value} {zs0 zs : List Sz} {K : List Cq} {z : Cq} {bk bl N : Nat} (h : OncS n W v0 zs0 K bk bl N) (hn : n ≤ W.heap.size) (hN : N ≤ 1000) (hz : CqOk z) {r : List Nat} (hS : SeatsV W v zs) (hm : mes zs = keptM (mes zs0) ⟨z.1, z.2, r⟩) (hs : seatB ⟨z.1, z.2, r⟩ = true) (ho : OkS ⟨z.1, z.2, r⟩) (hnew : newB (mes zs0) z.1 z.2 = true) : ∃ W1 W2, TwoT n v zs K z bk bl N W W1 W2 := by
  obtain ⟨c1, hc1, hM1⟩ := h.kept
  obtain ⟨c2, hc2, hM2⟩ := h.last
  obtain ⟨W1, e1, f1, g1⟩ := hM1.put (Keyed.of_law id_law) Try.underlying45 (by unfold maxLen; omega) (id_key hz) (.bool true) (kM (z :: K)) (kM_cons K z).1 (kM_cons K z).2
  have hg1 := g1.grown
  obtain ⟨es1, cl1, hb1⟩ := hM1.block
  have hM2' : Mq 3 W1 bl (lM (mes zs0)) c2 := hM2.same (hg1.block bl hM2.lt (fun e => h.ne (Option.some.inj e).symm))
  obtain ⟨W2, e2, f2, g2⟩ := hM2'.put int_law Try.underlying46 (by unfold maxLen; omega) (int_key hz) (idV z) (lM (mes zs)) (by rw [hm]; exact (lM_put h.m.may hs).1) (by rw [hm]; exact (lM_put h.m.may hs).2)
  have hg2 := g2.grown
  obtain ⟨es2, cl2, hb2⟩ := hM2'.block
  refine ⟨W1, W2, e1, e2, ⟨(hS.turned hb1 hg1).turned hb2 hg2, ?_, ?_, ?_, h.ne, h.nk, h.nl⟩, ?_, ?_, ?_, Nat.le_trans hg1.size hg2.size⟩
  · rw [hm]
    exact h.m.put hs ho hnew
  · refine ⟨_, ?_, f1.same (hg2.block bk f1.lt (fun e => h.ne (Option.some.inj e)))⟩
    split <;> omega
  · refine ⟨_, ?_, f2⟩
    split <;> omega
  · exact ⟨hg1.os, hg1.tape, hg1.output, hg1.size, fun k hk => hg1.block k (by omega) (fun e => by have := h.nk; have := Option.some.inj e; omega)⟩
  · refine ⟨hg2.os.trans hg1.os, hg2.tape.trans hg1.tape, hg2.output.trans hg1.output, Nat.le_trans hg1.size hg2.size, fun k hk => ?_⟩
    exact (hg2.block k (Nat.lt_of_lt_of_le (by omega) hg1.size) (fun e => by have := h.nl; have := Option.some.inj e; omega)).trans (hg1.block k (by omega) (fun e => by have := h.nk; have := Option.some.inj e; omega))
  · intro p u hp
    have h1 := cell_turned hb1 hg1 hp
    exact ⟨h1, cell_turned hb2 hg2 h1⟩
theorem OncS.keptLook {n : Nat} {w : World} {v : Value} {zs : List Sz} {K : List Cq} {bk bl N : Nat} (h : OncS n w v zs K bk bl N) {z : Cq} (hz : CqOk z) : (Instr.lookup 45 (.map (some bk)) (idV z) false).run Try.prog w = .ok (.bool (decide (z ∈ K))) w := by
  obtain ⟨c1, _, hM⟩ := h.kept
  have := hM.look (Keyed.of_law id_law) Try.underlying45 (zeroBool w) (id_key hz)
  by_cases hk : z ∈ K
  · rw [kM_in hk] at this
    rw [decide_eq_true hk]
    exact this
  · rw [kM_out hk] at this
    rw [decide_eq_false hk]
    exact this
theorem OncS.lastLook {n : Nat} {w : World} {v : Value} {zs : List Sz} {K : List Cq} {bk bl N : Nat} (h : OncS n w v zs K bk bl N) {z : Cq} (hz : CqOk z) {s : Ms} (hs : seatOf (mes zs) z.1 = some s) : (Instr.lookup 46 (.map (some bl)) (.int .i64 z.1) false).run Try.prog w = .ok (.agg #[.int .i64 z.1, .int .u64 (s.sq : Int)]) w := by
  obtain ⟨c1, _, hM⟩ := h.last
  have := hM.look int_law Try.underlying46 (zeroId w) (int_key hz)
  rw [lM_at, hs] at this
  exact this
end Go.Proofs.Ytebkfkijlopmoaa

