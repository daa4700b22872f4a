import Derived.Test.YtncoandnelgkeaaGreatHc08
import Derived.Test.YtncoandnelgkeaaGreatHc09
/- The contract of the document's Compact. -/
namespace Go.Proofs.YtncoandnelgkeaaGreat
open Go.RowKit QuorumMath RlogMath
set_option maxRecDepth 100000
set_option linter.unusedSimpArgs false
set_option linter.unusedVariables false

/-- A row of one's own is not touched where another block is. -/
theorem Ow.far {α : Type} {E : El α} {t : TypeId} {n g i : Nat} {w : World} {v : Value} {l : List α} (h : Ow E t n w v l) (hg : g < n) (u : Value) : Ow E t n (w.setCell ⟨g, i, none⟩ u) v l :=
  ⟨h.1.same fun k hk => by
    have := h.2 k hk
    simp [World.setCell, Array.getElem?_modify, show g ≠ k by omega], h.2⟩
/-- Bytes of a log behind a snapshot, with their slice. -/
def cutZ (p : List Nat × Sl) (x : Nat) (l : List Ez) : List Nat × Sl := l.foldl (fun p z => if z.1.idx ≤ x ∧ z.1.kind = 2 then (z.1.data, z.2) else p) p
theorem cutZ_M (x : Nat) : ∀ (l : List Ez) (p : List Nat × Sl), (cutZ p x l).1 = cutM p.1 x (mes l)
  | [], p => rfl
  | z :: l, p => by
    have := cutZ_M x l (if z.1.idx ≤ x ∧ z.1.kind = 2 then (z.1.data, z.2) else p)
    unfold cutZ cutM mes at *
    rw [List.foldl_cons, List.map_cons, List.foldl_cons, this]
    split <;> rfl
theorem cutZ_at {l : List Ez} {k : Nat} {z : Ez} (hz : l[k]? = some z) (p : List Nat × Sl) (x : Nat) : cutZ p x (l.take (k + 1)) = if z.1.idx ≤ x ∧ z.1.kind = 2 then (z.1.data, z.2) else cutZ p x (l.take k) := by
  unfold cutZ
  rw [take_succ_get hz, List.foldl_append]
  rfl
def behZ (x : Nat) (l : List Ez) : List Ez := l.filter fun z => decide (x < z.1.idx)
theorem behZ_M (x : Nat) (l : List Ez) : mes (behZ x l) = (mes l).filter fun e => decide (x < e.idx) := by
  unfold mes behZ
  rw [List.filter_map]
  rfl
theorem behZ_at {l : List Ez} {k : Nat} {z : Ez} (hz : l[k]? = some z) (x : Nat) : behZ x (l.take (k + 1)) = if x < z.1.idx then behZ x (l.take k) ++ [z] else behZ x (l.take k) := by
  unfold behZ
  rw [take_succ_get hz, List.filter_append]
  split <;> rename_i h
  · simp [h]
  · simp [h]
theorem behZ_len (x : Nat) (l : List Ez) : (behZ x l).length ≤ l.length := List.length_filter_le _ _
/-- A log's cells. -/
theorem lg_cells {w : World} {g : Nat} {a b c d e : Value} {t : TypeId} (h : w.heap[g]? = some (.cells #[a, b, c, d, e] t (0, 0))) : (w.frozen? ⟨g, 0, none⟩ = false ∧ w.frozen? ⟨g, 1, none⟩ = false ∧ w.frozen? ⟨g, 2, none⟩ = false ∧ w.frozen? ⟨g, 3, none⟩ = false ∧ w.frozen? ⟨g, 4, none⟩ = false) ∧ w.cell? ⟨g, 0, none⟩ = some a ∧ w.cell? ⟨g, 1, none⟩ = some b ∧ w.cell? ⟨g, 2, none⟩ = some c ∧ w.cell? ⟨g, 3, none⟩ = some d ∧ w.cell? ⟨g, 4, none⟩ = some e :=
  ⟨⟨frozen_of h 0, frozen_of h 1, frozen_of h 2, frozen_of h 3, frozen_of h 4⟩, by rw [cells_of_block h]; rfl, by rw [cells_of_block h]; rfl, by rw [cells_of_block h]; rfl, by rw [cells_of_block h]; rfl, by rw [cells_of_block h]; rfl⟩
theorem lg_set4 {w : World} {g : Nat} {a b c d e : Value} {t : TypeId} (h : w.heap[g]? = some (.cells #[a, b, c, d, e] t (0, 0))) (v : Value) : (w.setCell ⟨g, 4, none⟩ v).heap[g]? = some (.cells #[a, b, c, d, v] t (0, 0)) := by simp [World.setCell, Array.getElem?_modify, h]
theorem lg_set3 {w : World} {g : Nat} {a b c d e : Value} {t : TypeId} (h : w.heap[g]? = some (.cells #[a, b, c, d, e] t (0, 0))) (v : Value) : (w.setCell ⟨g, 3, none⟩ v).heap[g]? = some (.cells #[a, b, c, v, e] t (0, 0)) := by simp [World.setCell, Array.getElem?_modify, h]
theorem cutZ_mem (x : Nat) : ∀ (l : List Ez) (p : List Nat × Sl), cutZ p x l = p ∨ ∃ z ∈ l, cutZ p x l = (z.1.data, z.2)
  | [], p => .inl rfl
  | z :: l, p => by
    have h : cutZ p x (z :: l) = cutZ (if z.1.idx ≤ x ∧ z.1.kind = 2 then (z.1.data, z.2) else p) x l := rfl
    rw [h]
    rcases cutZ_mem x l (if z.1.idx ≤ x ∧ z.1.kind = 2 then (z.1.data, z.2) else p) with h1 | ⟨y, hy, h1⟩
    · by_cases hc : z.1.idx ≤ x ∧ z.1.kind = 2
      · rw [if_pos hc] at h1 ⊢
        exact .inr ⟨z, List.mem_cons_self, h1⟩
      · rw [if_neg hc] at h1 ⊢
        exact .inl h1
    · exact .inr ⟨y, List.mem_cons_of_mem _ hy, h1⟩
end Go.Proofs.YtncoandnelgkeaaGreat

/- The program's logOf. -/
namespace Go.Proofs.YtncoandnelgkeaaGreat
open Go.RowKit QuorumMath RlogMath
set_option maxRecDepth 100000
set_option linter.unusedSimpArgs false
set_option linter.unusedVariables false

/-- Slices as elements. -/
def slE : El Sl := ⟨fun s => [.slice s.1 s.2.1 s.2.2], 1, fun _ => rfl, fun x u hu => by
  simp only [List.mem_singleton] at hu
  subst hu
  rfl, by decide⟩
theorem rds_at {w : World} {ao : Option Addr} {n cap : Nat} {xs : List Sl} (h : Rd slE w (.slice ao n cap) xs) {i : Nat} {x : Sl} (hx : xs[i]? = some x) : ∃ b off, ao = some ⟨b, off, none⟩ ∧ ∀ W, Below w.heap.size w W → W.cell? ⟨b, off + i, none⟩ = some (.slice x.1 x.2.1 x.2.2) := by
  obtain ⟨ao', cap', e, _, _, h2⟩ := h
  cases e
  obtain ⟨b, off, r1, r2⟩ := h2 i x 0 _ hx rfl
  rw [show i * slE.k + 0 = i from Nat.mul_one i] at r2
  exact ⟨b, off, r1, fun W hW => (hW.cell (p := ⟨b, off + i, none⟩) (World.block_lt_of_cell? w _ r2)).trans r2⟩
theorem results_lg1 {fn : Func} {p : Tmp} (h : fn.results = #[.cell p 28]) (tmps : Array Value) (w : World) (g : Nat) (a b c d e : Value)
    (hp : tmps.getD p undef = .pointer (some ⟨g, 0, none⟩)) (hg : w.heap[g]? = some (.cells #[a, b, c, d, e] 28 (0, 0))) :
    (results fn tmps).run Tryz.prog w = .ok (.agg #[a, b, c, d, e]) w := by
  have hp' : tmps[p]?.getD undef = .pointer (some ⟨g, 0, none⟩) := by simpa using hp
  simp [results, h, hp', asAddr, run_loadVar_row w g 28 28 #[a, b, c, d, e] (0, 0) _ hg Tryz.underlying28 rfl (by kernel_rfl)]
/-- Lists of entries, one behind the other. -/
abbrev Ls := List (Sl × List Ez)
def flatL (ls : Ls) : List Ez := ls.flatMap fun p => p.2
theorem flat_take {ls : Ls} {i : Nat} {p : Sl × List Ez} (h : ls[i]? = some p) : flatL (ls.take (i + 1)) = flatL (ls.take i) ++ p.2 := by
  unfold flatL
  rw [take_succ_get h, List.flatMap_append]
  simp
def LsV (w : World) (v : Value) (ls : Ls) : Prop := Rd slE w v (ls.map fun p => p.1) ∧ ∀ p ∈ ls, EntsV w (.slice p.1.1 p.1.2.1 p.1.2.2) p.2
theorem Cps.far {n g i : Nat} {w : World} {st : Value} {M : List Me} {cur : List Ez} {cs : Array Value} (h : Cps n w st M cur) (hg : w.heap[g]? = some (.cells cs 28 (0, 0))) (hn : g < n) (u : Value) : Cps n (w.setCell ⟨g, i, none⟩ u) st M cur := ⟨h.1.far hn u, h.2.1, fun z hz => (h.2.2 z hz).far hg u⟩

/-- A log of copies. -/
def LogC (n : Nat) (w : World) (v : Value) (b : Me) (l : List Me) : Prop := ∃ (s : Sl) (cur : List Ez) (st : Value), v = lgv (b, s) st ∧ CpD w (b, s) ∧ Cps n w st l cur
theorem LogC.logM {n : Nat} {w : World} {v : Value} {b : Me} {l : List Me} (h : LogC n w v b l) : LogM w v b l := by
  obtain ⟨s, cur, st, h1, h2, h3⟩ := h
  exact ⟨s, cur, st, h1, h2.data, h3.ents, h3.2.1⟩
theorem LogC.far {n g i : Nat} {w : World} {v : Value} {b : Me} {l : List Me} {cs : Array Value} (h : LogC n w v b l) (hg : w.heap[g]? = some (.cells cs 28 (0, 0))) (hn : g < n) (u : Value) : LogC n (w.setCell ⟨g, i, none⟩ u) v b l := by
  obtain ⟨s, cur, st, h1, h2, h3⟩ := h
  exact ⟨s, cur, st, h1, h2.far hg u, h3.far hg hn u⟩
theorem lg_stays {w : World} {g : Nat} {cs : Array Value} (h : w.heap[g]? = some (.cells cs 28 (0, 0))) (j : Nat) (u : Value) : ∃ cs', (w.setCell ⟨g, j, none⟩ u).heap[g]? = some (.cells cs' 28 (0, 0)) := ⟨_, by simp [World.setCell, Array.getElem?_modify, h]; rfl⟩
theorem LogC.far5 {n g : Nat} {w : World} {v : Value} {b : Me} {l : List Me} {cs : Array Value} (h : LogC n w v b l) (hg : w.heap[g]? = some (.cells cs 28 (0, 0))) (hn : g < n) (x0 x1 x2 x3 x4 : Value) : LogC n (((((w.setCell ⟨g, 0, none⟩ x0).setCell ⟨g, 1, none⟩ x1).setCell ⟨g, 2, none⟩ x2).setCell ⟨g, 3, none⟩ x3).setCell ⟨g, 4, none⟩ x4) v b l := by
  obtain ⟨_, g1⟩ := lg_stays hg 0 x0
  obtain ⟨_, g2⟩ := lg_stays g1 1 x1
  obtain ⟨_, g3⟩ := lg_stays g2 2 x2
  obtain ⟨_, g4⟩ := lg_stays g3 3 x3
  exact ((((h.far hg hn _).far g1 hn _).far g2 hn _).far g3 hn _).far g4 hn _

theorem LogC.mono {n m : Nat} {w : World} {v : Value} {b : Me} {l : List Me} (h : LogC n w v b l) (hm : m ≤ n) : LogC m w v b l := by
  obtain ⟨s, cur, st, h1, h2, h3⟩ := h
  exact ⟨s, cur, st, h1, h2, h3.1.mono hm, h3.2⟩
theorem LogC.below {n : Nat} {w w' : World} {v : Value} {b : Me} {l : List Me} (h : LogC n w v b l) (hb : Below w.heap.size w w') : LogC n w' v b l := by
  obtain ⟨s, cur, st, h1, h2, h3⟩ := h
  exact ⟨s, cur, st, h1, h2.below hb, h3.below hb⟩
/-- A log of copies is not touched where another log's box is. -/
theorem LogC.farT {n g i : Nat} {w : World} {v : Value} {b : Me} {l : List Me} {cs : Array Value} (h : LogC n w v b l) (hg : w.heap[g]? = some (.cells cs 28 (0, 0))) (u : Value) : LogC n (w.setCell ⟨g, i, none⟩ u) v b l := by
  obtain ⟨s, cur, st, h1, h2, h3⟩ := h
  refine ⟨s, cur, st, h1, h2.far hg u, ⟨h3.1.1.same fun k hk => ?_, h3.1.2⟩, h3.2.1, fun z hz => (h3.2.2 z hz).far hg u⟩
  obtain ⟨cs', hc⟩ := h3.1.1.block hk
  refine set_far (fun e => ?_) u
  rw [e, hc] at hg
  simp at hg
theorem LogC.farT5 {n g : Nat} {w : World} {v : Value} {b : Me} {l : List Me} {cs : Array Value} (h : LogC n w v b l) (hg : w.heap[g]? = some (.cells cs 28 (0, 0))) (x0 x1 x2 x3 x4 : Value) : LogC n (((((w.setCell ⟨g, 0, none⟩ x0).setCell ⟨g, 1, none⟩ x1).setCell ⟨g, 2, none⟩ x2).setCell ⟨g, 3, none⟩ x3).setCell ⟨g, 4, none⟩ x4) v b l := by
  obtain ⟨_, g1⟩ := lg_stays hg 0 x0
  obtain ⟨_, g2⟩ := lg_stays g1 1 x1
  obtain ⟨_, g3⟩ := lg_stays g2 2 x2
  obtain ⟨_, g4⟩ := lg_stays g3 3 x3
  exact ((((h.farT hg _).farT g1 _).farT g2 _).farT g3 _).farT g4 _
theorem logC_zero (n : Nat) (w : World) : LogC n w (.agg #[.int .u64 0, .int .u64 0, .int .i64 0, .slice none 0 0, .slice none 0 0]) zeroMe [] := ⟨(none, 0, 0), [], .slice none 0 0, rfl, Rk.nil _ _ _, Cps.nil _ _⟩
/-- What Append tells, of copies. -/
def LgC (r : Int × Me × List Me) (e : Ending) (w' : World) : Prop := ∃ v, e = .returned (.tuple #[v, .int .i64 r.1]) ∧ LogC 0 w' v r.2.1 r.2.2
theorem lgc_none {r : Int × Me × List Me} {c : Int} (w : World) (h : r = (c, zeroMe, [])) : LgC r (.returned (.tuple #[.agg #[.int .u64 0, .int .u64 0, .int .i64 0, .slice none 0 0, .slice none 0 0], .int .i64 c])) w := by
  subst h
  exact ⟨_, rfl, logC_zero 0 w⟩
theorem LgC.lg {r : Int × Me × List Me} {e : Ending} {w' : World} (h : LgC r e w') : LgT r e w' := by
  obtain ⟨v, h1, h2⟩ := h
  exact ⟨v, h1, h2.logM⟩

/-- A log that is being copied: its box, its entries so far. -/
def LgS (w3 : World) (x0 x1 x2 x3 : Value) (M : List Me) (wr : World) : Prop := ∃ st cur, wr.heap[w3.heap.size]? = some (.cells #[x0, x1, x2, x3, st] 28 (0, 0)) ∧ Cps (w3.heap.size + 1) wr st M cur ∧ Below w3.heap.size w3 wr

set_option maxHeartbeats 8000000 in
theorem logOf_of (b : Ez) (ls : Ls) (lv : Value) (w : World) (hD : DataV w b) (hL : LsV w lv ls) (hdl : b.1.data.length ≤ 1000000000) (hll : ls.length ≤ 1000) (hle : ∀ p ∈ ls, p.2.length ≤ 2000000) (hdz : ∀ p ∈ ls, ∀ z ∈ p.2, z.1.data.length ≤ 1000000000) (htot : (flatL ls).length ≤ 1000000000) : Calls Tryz.prog 109 #[ev b, lv] w fun e w' => ∃ v, e = .returned v ∧ LogC w.heap.size w' v b.1 (mes (flatL ls)) ∧ Below w.heap.size w w' := by
  obtain ⟨x1, x2, x3⟩ := one_box w (.cells #[.int .u64 (b.1.idx : Int), .int .u64 (b.1.term : Int), .int .i64 b.1.kind, .slice b.2.1 b.2.2.1 b.2.2.2] 25)
  obtain ⟨q1, q2, q3⟩ := one_box (w.alloc (.cells #[.int .u64 (b.1.idx : Int), .int .u64 (b.1.term : Int), .int .i64 b.1.kind, .slice b.2.1 b.2.2.1 b.2.2.2] 25)) (.cells #[.int .u64 0, .int .u64 0, .int .i64 0, .slice none 0 0, .slice none 0 0] 28)
  rw [x1] at q1 q2 q3
  have hb2 := x3.trans (q3.mono (Nat.le_succ _))
  have kb := copy_of b _ (hD.below hb2) hdl
  have x22 := (q3.block w.heap.size (Nat.lt_succ_self _)).trans x2
  obtain ⟨-, c0, c1, c2, c3⟩ := en_cells x22
  have HK : Hid (∀ p ∈ ls, ∀ z ∈ p.2, ∀ W, Below w.heap.size w W → Calls Tryz.prog 112 #[ev z] W fun e w' => ∃ s : Sl, e = .returned (ev (z.1, s)) ∧ CpD w' (z.1, s) ∧ Below W.heap.size W w') := fun p hp z hz W hW => copy_of z W (((hL.2 p hp).2 z hz).below hW) (hdz p hp z hz)
  have HE : Hid (∀ p ∈ ls, Rd entE w (.slice p.1.1 p.1.2.1 p.1.2.2) p.2) := fun p hp => (hL.2 p hp).1
  have HS : Hid (Rd slE w lv (ls.map fun p => p.1)) := hL.1
  have HLE : Hid (∀ p ∈ ls, p.2.length ≤ 2000000) := hle
  have HTT : Hid (∀ k, (flatL (ls.take k)).length ≤ 1000000000) := fun k => by
    have e : flatL ls = flatL (ls.take k) ++ flatL (ls.drop k) := by unfold flatL; rw [← List.flatMap_append, List.take_append_drop]
    rw [e, List.length_append] at htot
    omega
  obtain ⟨la, lc, rfl, -, -⟩ := hL.1.shape
  obtain ⟨⟨ix, tm, kd, dt⟩, sa, sn, sc⟩ := b
  dsimp only [ev] at *
  rw [List.length_map] at *
  clear hD hL hdz htot x1 x2 x3 hle
  go_enter Tryz.func109, Tryz.ntmps109
  go_wp2_with fail
  refine kb.mono ?_
  rintro e w3 ⟨⟨ba, bn, bc⟩, rfl, hCb, hb31⟩
  dsimp only [ev]
  rw [q1] at hb31
  have q33 := (hb31.block (w.heap.size + 1) (by omega)).trans q2
  have hbw3 := hb2.trans (hb31.mono (by omega))
  have hsz3 : w.heap.size + 2 ≤ w3.heap.size := by have := hb31.size; omega
  clear kb c0 c1 c2 c3 x22 q2 hb31 hb2 q3
  have hI0 : LgS w3 (.int .u64 (ix : Int)) (.int .u64 (tm : Int)) (.int .i64 kd) (.slice ba bn bc) (mes (flatL (ls.take 0))) (w3.alloc (.cells #[.int .u64 (ix : Int), .int .u64 (tm : Int), .int .i64 kd, .slice ba bn bc, .slice none 0 0] 28)) := ⟨_, [], heap_alloc_new _ _, Cps.nil _ _, (Below.refl _ _).alloc (Nat.le_refl _) _⟩
  go_wp2
  generalize w3.alloc (.cells #[.int .u64 (ix : Int), .int .u64 (tm : Int), .int .i64 kd, .slice ba bn bc, .slice none 0 0] 28) = w4 at *
  go_loopg [15] ls.length (fun gh s15 wr => ∃ i : Nat, i + gh = ls.length ∧ s15 = .int .i64 (i : Int) ∧ LgS w3 (.int .u64 (ix : Int)) (.int .u64 (tm : Int)) (.int .i64 kd) (.slice ba bn bc) (mes (flatL (ls.take i))) wr)
  case atStart => exact ⟨0, by simp, rfl, hI0⟩
  case round =>
    obtain ⟨i, hig, rfl, hI⟩ := hrel
    obtain ⟨go, hgo⟩ : ∃ go, go = gk := ⟨_, rfl⟩
    clear hI0
    by_cases hlt : i < ls.length
    · have hlti : (i : Int) < (ls.length : Int) := by omega
      have hx : ls[i]? = some ls[i] := List.getElem?_eq_getElem hlt
      obtain ⟨p, hpp⟩ : ∃ p, p = ls[i] := ⟨_, rfl⟩
      rw [← hpp] at hx
      clear hpp
      have hxm : (ls.map fun p => p.1)[i]? = some p.1 := by rw [List.getElem?_map, hx]; rfl
      obtain ⟨lb, lo, rfl, cs⟩ := rds_at HS.out hxm
      have hpm := List.mem_of_getElem? hx
      have HEp : Hid (Rd entE w (.slice p.1.1 p.1.2.1 p.1.2.2) p.2) := HE.out p hpm
      have HKp : Hid (∀ z ∈ p.2, _) := HK.out p hpm
      have hpl := HLE.out p hpm
      have HF : Hid (flatL (ls.take (i + 1)) = flatL (ls.take i) ++ p.2) := flat_take hx
      have hfl := HTT.out i
      have hfl2 := HTT.out (i + 1)
      obtain ⟨⟨pa, pn, pc⟩, zs⟩ := p
      dsimp only at *
      obtain ⟨_, _, hpe, -⟩ := HEp.out.shape
      obtain ⟨-, rfl, -⟩ := Value.slice.inj hpe
      clear hpe hx hxm hpm HK HE HLE HTT
      generalize flatL (ls.take i) = P at *
      obtain ⟨st0, cur0, hG0, hC0, hb0⟩ := hI
      have hbw0 := hbw3.trans (hb0.mono hbw3.size)
      have s0 := cs _ hbw0
      have hI1 : LgS w3 (.int .u64 (ix : Int)) (.int .u64 (tm : Int)) (.int .i64 kd) (.slice ba bn bc) (mes P ++ mes (zs.take 0)) wr := ⟨st0, cur0, hG0, by show Cps _ _ _ (_ ++ []) _; rw [List.append_nil]; exact hC0, hb0⟩
      clear hG0 hC0 hb0 cs HS
      go_wp2
      generalize wr = wr0 at *
      go_loopg [21] zs.length (fun gh s21 wr => ∃ k : Nat, k + gh = zs.length ∧ s21 = .int .i64 (k : Int) ∧ LgS w3 (.int .u64 (ix : Int)) (.int .u64 (tm : Int)) (.int .i64 kd) (.slice ba bn bc) (mes P ++ mes (zs.take k)) wr)
      case atStart => exact ⟨0, by simp, rfl, hI1⟩
      case round =>
        obtain ⟨k, hkg, rfl, st, cur, hG, hC, hb3⟩ := hrel
        clear hI1 s0 hbw0
        have hbw := hbw3.trans (hb3.mono hbw3.size)
        have HCL : Hid (cur.length ≤ 1000000000) := by
          show _ ≤ _
          have h1 := congrArg List.length hC.2.1
          simp only [mes, List.length_append, List.length_map, List.length_take] at h1
          rw [HF.out, List.length_append] at hfl2
          omega
        have hszr : w3.heap.size + 1 ≤ wr.heap.size := by
          have := (Array.getElem?_eq_some_iff.1 hG).1
          omega
        by_cases hlk : k < zs.length
        · have hlki : (k : Int) < (zs.length : Int) := by omega
          have hz : zs[k]? = some zs[k] := List.getElem?_eq_getElem hlk
          obtain ⟨z, hzz⟩ : ∃ z, z = zs[k] := ⟨_, rfl⟩
          rw [← hzz] at hz
          clear hzz
          obtain ⟨p, off, rfl, c⟩ := rde_at HEp.out hz
          obtain ⟨d0, d1, d2, d3⟩ := c _ hbw
          have kc : Hid _ := HKp.out z (List.mem_of_getElem? hz)
          have HM : Hid (mes P ++ mes (zs.take (k + 1)) = (mes P ++ mes (zs.take k)) ++ [z.1]) := by show _ = _; rw [take_succ_get hz, List.append_assoc]; simp [mes]
          have hb4 := hbw.alloc hbw.size (.cells #[.int .u64 (z.1.idx : Int), .int .u64 (z.1.term : Int), .int .i64 z.1.kind, .slice z.2.1 z.2.2.1 z.2.2.2] 25)
          have hC4 := hC.below ((Below.refl _ wr).alloc (Nat.le_refl _) (.cells #[.int .u64 (z.1.idx : Int), .int .u64 (z.1.term : Int), .int .i64 z.1.kind, .slice z.2.1 z.2.2.1 z.2.2.2] 25))
          have hG4 := (heap_alloc_old wr (.cells #[.int .u64 (z.1.idx : Int), .int .u64 (z.1.term : Int), .int .i64 z.1.kind, .slice z.2.1 z.2.2.1 z.2.2.2] 25) (show w3.heap.size < wr.heap.size by omega)).trans hG
          have hownne : Hid (st.ownBlock ≠ some wr.heap.size) := fun e => by have := hC.1.1.lt e; omega
          have hcul : cur.length ≤ 10000000000 := by have := HCL.out; omega
          obtain ⟨⟨ix2, tm2, kd2, dt2⟩, sa2, sn2, sc2⟩ := z
          dsimp only [ev] at d0 d1 d2 d3 kc hb4 hC4 hG4 HM
          obtain ⟨ta, tc, hst, -⟩ := hC.1.1.shape
          subst hst
          have hEBa : (wr.alloc (.cells #[.int .u64 (ix2 : Int), .int .u64 (tm2 : Int), .int .i64 kd2, .slice sa2 sn2 sc2] 25)).heap[wr.heap.size]? = _ := heap_alloc_new _ _
          have hsza : w3.heap.size + 1 ≤ (wr.alloc (.cells #[.int .u64 (ix2 : Int), .int .u64 (tm2 : Int), .int .i64 kd2, .slice sa2 sn2 sc2] 25)).heap.size := by simp; omega
          have hszwa : wr.heap.size < (wr.alloc (.cells #[.int .u64 (ix2 : Int), .int .u64 (tm2 : Int), .int .i64 kd2, .slice sa2 sn2 sc2] 25)).heap.size := by simp
          have hb3d : Below w3.heap.size w3 (wr.alloc (.cells #[.int .u64 (ix2 : Int), .int .u64 (tm2 : Int), .int .i64 kd2, .slice sa2 sn2 sc2] 25)) := hb3.alloc hb3.size _
          clear hz c HCL hC hG hfl hfl2 HF HKp HEp hb3
          go_wp2
          generalize wr.alloc (.cells #[.int .u64 (ix2 : Int), .int .u64 (tm2 : Int), .int .i64 kd2, .slice sa2 sn2 sc2] 25) = wa at *
          refine wp_region_L (fun W => Below (w3.heap.size + 1) wa W ∧ W.heap[wr.heap.size]? = some (.cells #[.int .u64 (ix2 : Int), .int .u64 (tm2 : Int), .int .i64 kd2, .slice sa2 sn2 sc2] 25 (0, 0))) [7] (by kernel_rfl) ?_
          have hCd := hC4.below (Below.refl _ wa).drew
          have hbwd := hb4.drew
          have hGd : wa.drew.heap[w3.heap.size]? = _ := hG4
          have hEB : wa.drew.heap[wr.heap.size]? = _ := hEBa
          have hszd : w3.heap.size + 1 ≤ wa.drew.heap.size := hsza
          have hszw : wr.heap.size < wa.drew.heap.size := hszwa
          have hbaw : Below (w3.heap.size + 1) wa wa.drew := (Below.refl _ wa).drew
          generalize wa.drew = wd at *
          have yS : (fun W => Below (w3.heap.size + 1) wa W ∧ W.heap[wr.heap.size]? = some (.cells #[.int .u64 (ix2 : Int), .int .u64 (tm2 : Int), .int .i64 kd2, .slice sa2 sn2 sc2] 25 (0, 0))) wd := ⟨hbaw, hEB⟩
          refine wpAnyL_take 0 rfl (by kernel_rfl) (by kernel_rfl) (by kernel_rfl) (by kernel_rfl) (fun _ _ _ h => h) (by kernel_rfl) (by intro w' hS'; obtain ⟨hz, hze⟩ := hS'; obtain ⟨-, d0, d1, d2, d3⟩ := en_cells hze; obtain ⟨-, o0, o1, o2, o3, o4⟩ := lg_cells ((hz.block w3.heap.size (Nat.lt_succ_self _)).trans hG4); go_simp <;> rfl) yS ?_
          try simp only [List.getElem_toArray, List.getElem_cons_succ, List.getElem_cons_zero, Act.put, List.setIfInBounds_toArray, List.set_cons_zero, List.set_cons_succ]
          refine wpAnyL_take 1 rfl (by kernel_rfl) (by kernel_rfl) (by kernel_rfl) (by kernel_rfl) (fun _ _ _ h => h) (by kernel_rfl) (by intro w' hS'; obtain ⟨hz, hze⟩ := hS'; obtain ⟨-, d0, d1, d2, d3⟩ := en_cells hze; obtain ⟨-, o0, o1, o2, o3, o4⟩ := lg_cells ((hz.block w3.heap.size (Nat.lt_succ_self _)).trans hG4); go_simp <;> rfl) yS ?_
          try simp only [List.getElem_toArray, List.getElem_cons_succ, List.getElem_cons_zero, Act.put, List.setIfInBounds_toArray, List.set_cons_zero, List.set_cons_succ]
          refine wpAnyL_take 2 rfl (by kernel_rfl) (by kernel_rfl) (by kernel_rfl) (by kernel_rfl) (fun _ _ _ h => h) (by kernel_rfl) (by intro w' hS'; obtain ⟨hz, hze⟩ := hS'; obtain ⟨-, d0, d1, d2, d3⟩ := en_cells hze; obtain ⟨-, o0, o1, o2, o3, o4⟩ := lg_cells ((hz.block w3.heap.size (Nat.lt_succ_self _)).trans hG4); go_simp <;> rfl) yS ?_
          try simp only [List.getElem_toArray, List.getElem_cons_succ, List.getElem_cons_zero, Act.put, List.setIfInBounds_toArray, List.set_cons_zero, List.set_cons_succ]
          refine wpAnyL_one 3 (by kernel_rfl) rfl (by kernel_rfl) ?_
          intro K' hK'
          go_simp
          go_at_call 112
          refine (kc.out _ hbwd).mono ?_
          rintro e W1 ⟨⟨ca, cn, cc⟩, rfl, hCp, hb5⟩
          dsimp only [ev] at *
          have hC5 := hCd.below hb5
          have hbW1 : Below (w3.heap.size + 1) wa W1 := hbaw.trans (hb5.mono hszd)
          have hEW1 : W1.heap[wr.heap.size]? = _ := (hb5.block wr.heap.size hszw).trans hEB
          have hS1 : (fun W => Below (w3.heap.size + 1) wa W ∧ W.heap[wr.heap.size]? = some (.cells #[.int .u64 (ix2 : Int), .int .u64 (tm2 : Int), .int .i64 kd2, .slice sa2 sn2 sc2] 25 (0, 0))) W1 := ⟨hbW1, hEW1⟩
          have hrunH : Hid _ := push_ent (⟨ix2, tm2, kd2, dt2⟩, ca, cn, cc) hC5.1.1 hcul
          dsimp only at hrunH
          refine hK'.out _ _ (.inr hS1) ?_
          clear hK' K'
          try simp only [List.getElem_toArray, List.getElem_cons_succ, List.getElem_cons_zero, Act.put, List.setIfInBounds_toArray, List.set_cons_zero, List.set_cons_succ]
          refine wpAnyL_one 4 (by kernel_rfl) rfl (by kernel_rfl) ?_
          intro K' hK'
          go_simp
          have hS2 : (fun W => Below (w3.heap.size + 1) wa W ∧ W.heap[wr.heap.size]? = some (.cells #[.int .u64 (ix2 : Int), .int .u64 (tm2 : Int), .int .i64 kd2, .slice sa2 sn2 sc2] 25 (0, 0))) (W1.alloc (.cells #[.int .u64 (ix2 : Int), .int .u64 (tm2 : Int), .int .i64 kd2, .slice ca cn cc] 25)) := ⟨hbW1.alloc (Nat.le_trans hsza hbW1.size) _, (heap_alloc_old _ _ (Nat.lt_of_lt_of_le hszwa hbW1.size)).trans hEW1⟩
          refine hK'.out _ _ (.inr hS2) ?_
          clear hK' K'
          try simp only [List.getElem_toArray, List.getElem_cons_succ, List.getElem_cons_zero, Act.put, List.setIfInBounds_toArray, List.set_cons_zero, List.set_cons_succ]
          refine wpAnyL_one 5 (by kernel_rfl) rfl (by kernel_rfl) ?_
          intro K' hK'
          refine op_by _ _ _ rfl _ _ rfl rfl hrunH.out ?_
          intro v6 w6 hp6
          obtain ⟨hC6, hb6⟩ := hC5.push hCp (Nat.le_trans hsza hbW1.size) hp6
          have hb6r : Below (w3.heap.size + 1) wa w6 := hbW1.trans hb6
          have hE6 : w6.heap[wr.heap.size]? = _ := (hp6.2.1.block wr.heap.size (Nat.lt_of_lt_of_le hszwa hbW1.size) (fun e => hownne.out e.symm)).trans hEW1
          have hG6 := (hb6r.block w3.heap.size (Nat.lt_succ_self _)).trans hG4
          obtain ⟨⟨f0', f1', f2', f3', f4'⟩, o0', o1', o2', o3', o4'⟩ := lg_cells hG6
          clear hp6 hrunH hC5 hCd
          generalize cur ++ [((Me.mk ix2 tm2 kd2 dt2, ca, cn, cc) : Ez)] = cur6 at hC6
          obtain ⟨va6, vc6, hv6, -⟩ := hC6.1.1.shape
          generalize cur6.length = n6 at hv6
          subst hv6
          have hS6 : (fun W => Below (w3.heap.size + 1) wa W ∧ W.heap[wr.heap.size]? = some (.cells #[.int .u64 (ix2 : Int), .int .u64 (tm2 : Int), .int .i64 kd2, .slice sa2 sn2 sc2] 25 (0, 0))) w6 := ⟨hb6r, hE6⟩
          refine hK'.out _ _ (.inr hS6) ?_
          clear hK' K'
          try simp only [List.getElem_toArray, List.getElem_cons_succ, List.getElem_cons_zero, Act.put, List.setIfInBounds_toArray, List.set_cons_zero, List.set_cons_succ]
          refine wpAnyL_take 6 rfl (by kernel_rfl) (by kernel_rfl) (by kernel_rfl) (by kernel_rfl) (fun _ _ _ h => h) (by kernel_rfl) (by intro w' hS'; obtain ⟨hz, hze⟩ := hS'; obtain ⟨-, d0, d1, d2, d3⟩ := en_cells hze; obtain ⟨-, o0, o1, o2, o3, o4⟩ := lg_cells ((hz.block w3.heap.size (Nat.lt_succ_self _)).trans hG4); go_simp <;> rfl) hS6 ?_
          try simp only [List.getElem_toArray, List.getElem_cons_succ, List.getElem_cons_zero, Act.put, List.setIfInBounds_toArray, List.set_cons_zero, List.set_cons_succ]
          refine wpAnyL_one 7 (by kernel_rfl) rfl (by kernel_rfl) ?_
          intro K' hK'
          go_simp
          refine hK'.out _ _ (.inl (by decide)) ?_
          clear hK' K'
          try simp only [List.getElem_toArray, List.getElem_cons_succ, List.getElem_cons_zero, Act.put, List.setIfInBounds_toArray, List.set_cons_zero, List.set_cons_succ]
          refine wpAnyL_done (by kernel_rfl) (NoPanic.normal ?_) _
          have hGf := lg_set4 hG6 (.slice va6 n6 vc6)
          have hCf := hC6.far (i := 4) hG6 (Nat.lt_succ_self _) (.slice va6 n6 vc6)
          rw [← HM.out] at hCf
          have hbf : Below w3.heap.size w3 (w6.setCell ⟨w3.heap.size, 4, none⟩ (.slice va6 n6 vc6)) := (hb3d.trans (hb6r.mono (Nat.le_succ _))).setCell (p := ⟨w3.heap.size, 4, none⟩) (Nat.le_refl _) _
          clear HM hC6 hG6
          go_wp2
          go_roundg (gk - 1)
          case measure => omega
          case rel => exact ⟨k + 1, by omega, by go_num, _, _, hGf, hCf, hbf⟩
        · have hlki : ¬ (k : Int) < (zs.length : Int) := by omega
          have hI2 : LgS w3 (.int .u64 (ix : Int)) (.int .u64 (tm : Int)) (.int .i64 kd) (.slice ba bn bc) (mes (flatL (ls.take (i + 1)))) wr := ⟨st, cur, hG, by rw [HF.out]; show Cps _ _ _ (List.map _ _) _; rw [List.map_append, ← List.take_of_length_le (l := zs) (i := k) (by omega)]; exact hC, hb3⟩
          clear HF HEp HKp hG hC HCL hfl hfl2
          go_wp2
          go_roundg (go - 1)
          case measure => omega
          case rel => exact ⟨i + 1, by omega, by go_num, hI2⟩
    · have hlti : ¬ (i : Int) < (ls.length : Int) := by omega
      rw [List.take_of_length_le (by omega)] at hI
      obtain ⟨st, cur, hG, hC, hb3⟩ := hI
      have hbw := hbw3.trans (hb3.mono hbw3.size)
      have qr := (hb3.block (w.heap.size + 1) (by omega)).trans q33
      have hCb' := hCb.below hb3
      obtain ⟨ta, tc, hst, -⟩ := hC.1.1.shape
      obtain ⟨⟨f0, f1, f2, f3, f4⟩, o0, o1, o2, o3, o4⟩ := lg_cells qr
      obtain ⟨⟨f0', f1', f2', f3', f4'⟩, o0', o1', o2', o3', o4'⟩ := lg_cells hG
      have hbf := lg_set_below hbw (g := w.heap.size + 1) (by omega) (.int .u64 (ix : Int)) (.int .u64 (tm : Int)) (.int .i64 kd) (.slice ba bn bc) st
      have HFin : Hid (LogC w.heap.size (((((wr.setCell ⟨w.heap.size + 1, 0, none⟩ (.int .u64 (ix : Int))).setCell ⟨w.heap.size + 1, 1, none⟩ (.int .u64 (tm : Int))).setCell ⟨w.heap.size + 1, 2, none⟩ (.int .i64 kd)).setCell ⟨w.heap.size + 1, 3, none⟩ (.slice ba bn bc)).setCell ⟨w.heap.size + 1, 4, none⟩ st) (.agg #[.int .u64 (ix : Int), .int .u64 (tm : Int), .int .i64 kd, .slice ba bn bc, st]) ⟨ix, tm, kd, dt⟩ (mes (flatL ls))) := by
        have h0 : LogC (w3.heap.size + 1) wr (.agg #[.int .u64 (ix : Int), .int .u64 (tm : Int), .int .i64 kd, .slice ba bn bc, st]) ⟨ix, tm, kd, dt⟩ (mes (flatL ls)) := ⟨(ba, bn, bc), cur, st, rfl, hCb', hC⟩
        obtain ⟨s, cur', st', k1, k2, k3⟩ := h0.far5 qr (by omega) (.int .u64 (ix : Int)) (.int .u64 (tm : Int)) (.int .i64 kd) (.slice ba bn bc) st
        exact ⟨s, cur', st', k1, k2, k3.1.mono (by omega), k3.2⟩
      have HF := lg_set qr (.int .u64 (ix : Int)) (.int .u64 (tm : Int)) (.int .i64 kd) (.slice ba bn bc) st
      clear HS HE HK HLE HTT hG hC hCb hCb' q33
      subst hst
      go_wp2
      (try simp only [Exit.inBlock, Exit.then])
      refine bodyPost_ret (results_lg1 rfl _ _ (w.heap.size + 1) _ _ _ _ _ rfl HF) rfl ?_
      exact ⟨_, rfl, HFin.out, hbf⟩
end Go.Proofs.YtncoandnelgkeaaGreat

/- The program's Append. -/
namespace RlogMath
open QuorumMath
theorem app_no {b : Me} {l : List Me} {t : Nat} {k : Int} {d : List Nat} (h : mayB b l = false) : appM b l t k d = (1, zeroMe, []) := by unfold appM; rw [h]; rfl
theorem app_low {b : Me} {l : List Me} {t : Nat} {k : Int} {d : List Nat} (h : t < (lastM b l).2) : appM b l t k d = (1, zeroMe, []) := by unfold appM; rw [decide_eq_false (by omega : ¬ (lastM b l).2 ≤ t), Bool.and_false]; rfl
theorem app_bad {b : Me} {l : List Me} {t : Nat} {k : Int} {d : List Nat} (h : entB ⟨(lastM b l).1 + 1, t, k, d⟩ = false) : appM b l t k d = (1, zeroMe, []) := by unfold appM; rw [h, Bool.and_false]; rfl
theorem app_full {b : Me} {l : List Me} {t : Nat} {k : Int} {d : List Nat} (h : mayB b l = true) (h2 : ¬ t < (lastM b l).2) (h3 : entB ⟨(lastM b l).1 + 1, t, k, d⟩ = true) (h4 : l.length = 4096 ∨ 4611686018427387904 ≤ (lastM b l).1) : appM b l t k d = (2, zeroMe, []) := by unfold appM; rw [h, h3, decide_eq_true (by omega : (lastM b l).2 ≤ t)]; rw [if_pos (by decide), if_pos h4]
theorem app_ok {b : Me} {l : List Me} {t : Nat} {k : Int} {d : List Nat} (h : mayB b l = true) (h2 : ¬ t < (lastM b l).2) (h3 : entB ⟨(lastM b l).1 + 1, t, k, d⟩ = true) (h4 : ¬ (l.length = 4096 ∨ 4611686018427387904 ≤ (lastM b l).1)) : appM b l t k d = (0, b, l ++ [⟨(lastM b l).1 + 1, t, k, d⟩]) := by unfold appM; rw [h, h3, decide_eq_true (by omega : (lastM b l).2 ≤ t)]; rw [if_pos (by decide), if_neg h4]
end RlogMath
namespace Go.Proofs.YtncoandnelgkeaaGreat
open Go.RowKit QuorumMath RlogMath
set_option maxRecDepth 100000
set_option linter.unusedSimpArgs false
set_option linter.unusedVariables false

/-- A row of lists that was just made. -/
theorem ls_made {w : World} {g : Nat} {p q : Sl} {X Y : List Ez} (hg : w.heap[g]? = some (.cells #[.slice p.1 p.2.1 p.2.2, .slice q.1 q.2.1 q.2.2] 26 (0, 0))) (hX : EntsV w (.slice p.1 p.2.1 p.2.2) X) (hY : EntsV w (.slice q.1 q.2.1 q.2.2) Y) : LsV w (.slice (some ⟨g, 0, none⟩) 2 2) [(p, X), (q, Y)] :=
  ⟨(Rk.made (E := slE) (xs := [p, q]) hg rfl (by unfold maxLen; simp)).rd, fun r hr => by
    simp only [List.mem_cons, List.not_mem_nil, or_false] at hr
    rcases hr with rfl | rfl
    · exact hX
    · exact hY⟩
theorem ls_made1 {w : World} {g : Nat} {p : Sl} {X : List Ez} (hg : w.heap[g]? = some (.cells #[.slice p.1 p.2.1 p.2.2] 26 (0, 0))) (hX : EntsV w (.slice p.1 p.2.1 p.2.2) X) : LsV w (.slice (some ⟨g, 0, none⟩) 1 1) [(p, X)] :=
  ⟨(Rk.made (E := slE) (xs := [p]) hg rfl (by unfold maxLen; simp)).rd, fun r hr => by
    simp only [List.mem_cons, List.not_mem_nil, or_false] at hr
    subst hr
    exact hX⟩
theorem ent_made {w : World} {g : Nat} {z : Ez} (hg : w.heap[g]? = some (.cells #[.int .u64 (z.1.idx : Int), .int .u64 (z.1.term : Int), .int .i64 z.1.kind, .slice z.2.1 z.2.2.1 z.2.2.2] 25 (0, 0))) (hD : DataV w z) : EntsV w (.slice (some ⟨g, 0, none⟩) 1 1) [z] :=
  ⟨(Rk.made (E := entE) (xs := [z]) hg rfl (by unfold maxLen; simp)).rd, fun r hr => by
    simp only [List.mem_cons, List.not_mem_nil, or_false] at hr
    subst hr
    exact hD⟩

set_option maxHeartbeats 8000000 in
theorem papp_c (b : Ez) (zs : List Ez) (lv : Value) (tt : Nat) (kk : Int) (dd : List Nat) (ds : Sl) (w : World) (hD : DataV w b) (hL : EntsV w lv zs) (hbo : EzOk b) (hok : ∀ z ∈ zs, EzOk z) (hdd : Rd byteE w (.slice ds.1 ds.2.1 ds.2.2) dd) (hdc : ∀ c ∈ dd, c < 256) (hlen : zs.length ≤ 2000000) (hdl : b.1.data.length ≤ 1000000000) (hdz : ∀ z ∈ zs, z.1.data.length ≤ 1000000000) (hdn : dd.length ≤ 1000000000) : Calls Tryz.prog 100 #[lgv b lv, .int .u64 (tt : Int), .int .i64 kk, .slice ds.1 ds.2.1 ds.2.2] w fun e w' => LgC (appM b.1 (mes zs) tt kk dd) e w' ∧ Below w.heap.size w w' := by
  obtain ⟨R, HR⟩ : ∃ R, Hid (R = appM b.1 (mes zs) tt kk dd) := ⟨_, rfl⟩
  rw [← HR.out]
  obtain ⟨hs, hb0, cl⟩ := lg_box w b lv
  have kmH : Hid (∀ W, Below w.heap.size w W → _) := fun W hW => pcheck_of b zs lv W (hD.below hW) (hL.below hW) hbo hok (by omega) hdl
  have klH : Hid (∀ W, Below w.heap.size w W → _) := fun W hW => plast_of b zs lv W (hL.below hW) (by omega)
  have keH : Hid (∀ (i : Nat) W, Below w.heap.size w W → _) := fun i W hW => pentry_of i tt kk dd ds.1 ds.2.1 ds.2.2 W (Rd.below hdd hW) hdc
  have HDD : Hid (∀ (i : Nat) W, Below w.heap.size w W → DataV W (⟨i, tt, kk, dd⟩, ds)) := fun i W hW => Rd.below hdd hW
  have hsn : EntsV w lv zs := hL
  obtain ⟨la, lc, rfl, -, -⟩ := hL.1.shape
  have kgH : Hid (∀ (i : Nat) (g : Nat) W, Below w.heap.size w W → W.heap[g]? = some (.cells #[.int .u64 (i : Int), .int .u64 (tt : Int), .int .i64 kk, .slice ds.1 ds.2.1 ds.2.2] 25 (0, 0)) → ∀ h, W.heap[h]? = some (.cells #[.slice la zs.length lc, .slice (some ⟨g, 0, none⟩) 1 1] 26 (0, 0)) → Calls Tryz.prog 109 #[ev b, .slice (some ⟨h, 0, none⟩) 2 2] W fun e w' => ∃ v, e = .returned v ∧ LogC W.heap.size w' v b.1 (mes zs ++ [⟨i, tt, kk, dd⟩]) ∧ Below W.heap.size W w') := fun i g W hW hg h hh => by
    have k := logOf_of b [((la, zs.length, lc), zs), ((some ⟨g, 0, none⟩, 1, 1), [((⟨i, tt, kk, dd⟩, ds) : Ez)])] (.slice (some ⟨h, 0, none⟩) 2 2) W (hD.below hW) (ls_made hh (hsn.below hW) (ent_made (z := (⟨i, tt, kk, dd⟩, ds)) hg (HDD.out i W hW))) hdl (by simp) (by simp; omega) (by
      intro p hp z hz
      simp only [List.mem_cons, List.not_mem_nil, or_false] at hp
      rcases hp with rfl | rfl
      · exact hdz z hz
      · simp only [List.mem_cons, List.not_mem_nil, or_false] at hz
        subst hz
        exact hdn) (by simp [flatL]; omega)
    have e : mes (flatL [((la, zs.length, lc), zs), ((some ⟨g, 0, none⟩, 1, 1), [((⟨i, tt, kk, dd⟩, ds) : Ez)])]) = mes zs ++ [⟨i, tt, kk, dd⟩] := by simp [flatL, mes]
    rw [e] at k
    exact k
  obtain ⟨q1, q2, q3⟩ := one_box (w.alloc (lgc b (.slice la zs.length lc))) (.cells #[.int .u64 0, .int .u64 0, .int .i64 0, .slice none 0 0, .slice none 0 0] 28)
  rw [hs] at q1 q2 q3
  have hb2 := hb0.trans (q3.mono (Nat.le_succ _))
  have kl := klH.out _ hb2
  have HN : Hid (mayB b.1 (mes zs) = false → R = _) := fun h => HR.out.trans (app_no h)
  have HO : Hid (tt < (lastM b.1 (mes zs)).2 → R = _) := fun h => HR.out.trans (app_low h)
  have HBd : Hid (entB ⟨(lastM b.1 (mes zs)).1 + 1, tt, kk, dd⟩ = false → R = _) := fun h => HR.out.trans (app_bad h)
  have HF : Hid (mayB b.1 (mes zs) = true → ¬ tt < (lastM b.1 (mes zs)).2 → entB ⟨(lastM b.1 (mes zs)).1 + 1, tt, kk, dd⟩ = true → ((mes zs).length = 4096 ∨ 4611686018427387904 ≤ (lastM b.1 (mes zs)).1) → R = _) := fun h h2 h3 h4 => HR.out.trans (app_full h h2 h3 h4)
  have HY : Hid (mayB b.1 (mes zs) = true → ¬ tt < (lastM b.1 (mes zs)).2 → entB ⟨(lastM b.1 (mes zs)).1 + 1, tt, kk, dd⟩ = true → ¬ ((mes zs).length = 4096 ∨ 4611686018427387904 ≤ (lastM b.1 (mes zs)).1) → R = _) := fun h h2 h3 h4 => HR.out.trans (app_ok h h2 h3 h4)
  have HLA : Hid (mayB b.1 (mes zs) = true → (lastM b.1 (mes zs)).1 ≤ 4611686018427392000 ∧ zs.length ≤ 4096) := fun h => by have := may_last h; simp [mes] at this; simp [mes]; omega
  have hml : (mes zs).length = zs.length := by simp [mes]
  rw [hml] at HF HY
  clear hD hL hok hbo HR klH hdd hdc hml hsn hdz HDD
  generalize mayB b.1 (mes zs) = B at *
  generalize lastM b.1 (mes zs) = LA at *
  obtain ⟨li, lt⟩ := LA
  generalize mes zs = MZ at *
  obtain ⟨⟨ix, tm, kd, dt⟩, sa, sn, sc⟩ := b
  obtain ⟨da, dn, dc⟩ := ds
  dsimp only [lgc, lgv, ev, lastV] at *
  obtain ⟨c0, c1, c2, c3, c4⟩ := cl _ q3
  go_enter Tryz.func100, Tryz.ntmps100
  go_wp2_with fail
  refine kl.mono ?_
  rintro e w2 ⟨rfl, hb21⟩
  rw [q1] at hb21
  have q22 := (hb21.block (w.heap.size + 1) (by omega)).trans q2
  have hA2 := q3.trans (hb21.mono (by omega))
  have hbw2 := hb2.trans (hb21.mono (by omega))
  obtain ⟨c0, c1, c2, c3, c4⟩ := cl w2 hA2
  have hsz2 : w.heap.size + 2 ≤ w2.heap.size := by have := hb21.size; omega
  have km := kmH.out w2 hbw2
  clear kl q1 q2 q3 hb2 hb21 kmH
  go_wp2_with fail
  refine km.mono ?_
  rintro e w3 ⟨rfl, hb32⟩
  have q33 := (hb32.block (w.heap.size + 1) (by omega)).trans q22
  have hbw3 := hbw2.trans (hb32.mono hbw2.size)
  have hA3 := hA2.trans (hb32.mono (by omega))
  have hsz3 : w.heap.size + 2 ≤ w3.heap.size := by have := hb32.size; omega
  obtain ⟨c0, c1, c2, c3, c4⟩ := cl w3 hA3
  clear km hb32 hbw2 hA2 q22 hsz2
  cases B with
  | false =>
    have E : Hid (_ = _) := HN.out rfl
    clear HN HO HBd HF HY keH kgH cl HLA
    dsimp only [codeB]
    obtain ⟨⟨f0, f1, f2, f3, f4⟩, o0, o1, o2, o3, o4⟩ := lg_cells q33
    go_wp2
    (try simp only [Exit.inBlock, Exit.then])
    refine bodyPost_ret (results_lg rfl _ _ (w.heap.size + 1) _ _ _ _ _ rfl (lg_set q33 _ _ _ _ _)) rfl ?_
    exact ⟨lgc_none _ E.out, lg_set_below hbw3 (by omega) _ _ _ _ _⟩
  | true =>
    obtain ⟨hli, hzl⟩ := HLA.out rfl
    obtain ⟨lj, hlj⟩ : ∃ lj, lj = li + 1 := ⟨_, rfl⟩
    have hwr : IntKind.u64.wrap ((li : Int) + 1) = (lj : Int) := by rw [IntWalk.u64_in _ (by omega)]; omega
    rw [← hlj] at HBd HF HY
    clear hlj HLA HN
    dsimp only [codeB]
    by_cases hlow : tt < lt
    · have hlowi : (tt : Int) < (lt : Int) := by omega
      have E : Hid (_ = _) := HO.out hlow
      clear HO HBd HF HY keH kgH cl
      obtain ⟨⟨f0, f1, f2, f3, f4⟩, o0, o1, o2, o3, o4⟩ := lg_cells q33
      go_wp2
      (try simp only [Exit.inBlock, Exit.then])
      refine bodyPost_ret (results_lg rfl _ _ (w.heap.size + 1) _ _ _ _ _ rfl (lg_set q33 _ _ _ _ _)) rfl ?_
      exact ⟨lgc_none _ E.out, lg_set_below hbw3 (by omega) _ _ _ _ _⟩
    · have hlowi : ¬ (tt : Int) < (lt : Int) := by omega
      have ke := keH.out lj w3 hbw3
      clear keH HO c0 c1 c2 c3 c4
      go_wp2_with fail
      refine ke.mono ?_
      rintro e w5 ⟨rfl, hb53⟩
      have q55 := (hb53.block (w.heap.size + 1) (by omega)).trans q33
      have hbw5 := hbw3.trans (hb53.mono hbw3.size)
      have hA5 := hA3.trans (hb53.mono (by omega))
      have hsz5 : w.heap.size + 2 ≤ w5.heap.size := by have := hb53.size; omega
      obtain ⟨c0, c1, c2, c3, c4⟩ := cl w5 hA5
      clear ke hb53 q33 hbw3 hA3
      cases hEB : entB ⟨lj, tt, kk, dd⟩ with
      | false =>
        have E : Hid (_ = _) := HBd.out hEB
        clear HBd HF HY kgH cl hEB
        obtain ⟨⟨f0, f1, f2, f3, f4⟩, o0, o1, o2, o3, o4⟩ := lg_cells q55
        go_wp2
        (try simp only [Exit.inBlock, Exit.then])
        refine bodyPost_ret (results_lg rfl _ _ (w.heap.size + 1) _ _ _ _ _ rfl (lg_set q55 _ _ _ _ _)) rfl ?_
        exact ⟨lgc_none _ E.out, lg_set_below hbw5 (by omega) _ _ _ _ _⟩
      | true =>
        by_cases hfu : zs.length = 4096 ∨ 4611686018427387904 ≤ li
        · have E : Hid (_ = _) := HF.out trivial hlow hEB hfu
          clear HBd HF HY kgH cl hEB
          by_cases h4 : zs.length = 4096
          · have h4b : (4096 : Int) ≤ (zs.length : Int) := by omega
            obtain ⟨⟨f0, f1, f2, f3, f4⟩, o0, o1, o2, o3, o4⟩ := lg_cells q55
            clear hfu h4
            go_wp2
            (try simp only [Exit.inBlock, Exit.then])
            refine bodyPost_ret (results_lg rfl _ _ (w.heap.size + 1) _ _ _ _ _ rfl (lg_set q55 _ _ _ _ _)) rfl ?_
            exact ⟨lgc_none _ E.out, lg_set_below hbw5 (by omega) _ _ _ _ _⟩
          · have h4b : ¬ (4096 : Int) ≤ (zs.length : Int) := by omega
            have h5i : (4611686018427387904 : Int) ≤ (li : Int) := by omega
            obtain ⟨⟨f0, f1, f2, f3, f4⟩, o0, o1, o2, o3, o4⟩ := lg_cells q55
            clear hfu h4
            go_wp2
            (try simp only [Exit.inBlock, Exit.then])
            refine bodyPost_ret (results_lg rfl _ _ (w.heap.size + 1) _ _ _ _ _ rfl (lg_set q55 _ _ _ _ _)) rfl ?_
            exact ⟨lgc_none _ E.out, lg_set_below hbw5 (by omega) _ _ _ _ _⟩
        · have E : Hid (_ = _) := HY.out trivial hlow hEB hfu
          have h4b : ¬ (4096 : Int) ≤ (zs.length : Int) := by omega
          have h5i : decide ((4611686018427387904 : Int) ≤ (li : Int)) = false := by simp; omega
          obtain ⟨x1, x2, x3⟩ := one_box w5 (.cells #[.int .u64 (lj : Int), .int .u64 (tt : Int), .int .i64 kk, .slice da dn dc] 25)
          obtain ⟨y1, y2, y3⟩ := one_box (w5.alloc (.cells #[.int .u64 (lj : Int), .int .u64 (tt : Int), .int .i64 kk, .slice da dn dc] 25)) (.cells #[.slice la zs.length lc, .slice (some ⟨w5.heap.size, 0, none⟩) 1 1] 26)
          rw [x1] at y1 y2 y3
          have x22 := (y3.block w5.heap.size (Nat.lt_succ_self _)).trans x2
          have hb57 := x3.trans (y3.mono (Nat.le_succ _))
          have hbw7 := hbw5.trans (hb57.mono hbw5.size)
          have q77 := (hb57.block (w.heap.size + 1) (by omega)).trans q55
          have kg := kgH.out lj w5.heap.size _ hbw7 x22 (w5.heap.size + 1) y2
          rw [y1] at kg
          clear HBd HF HY kgH cl hEB hfu x1 x2 x3 y1 y2 y3 x22 q55
          have HE := E
          clear E hli hlow
          go_wp2_with fail
          refine kg.mono ?_
          rintro e w8 ⟨v8, rfl, hC8, hb87⟩
          have q88 := (hb87.block (w.heap.size + 1) (by omega)).trans q77
          have hbw8 := hbw7.trans (hb87.mono (by omega))
          obtain ⟨⟨f0, f1, f2, f3, f4⟩, o0, o1, o2, o3, o4⟩ := lg_cells q88
          obtain ⟨⟨s8a, s8n, s8c⟩, cur8, st8, hv8, -, hCC⟩ := id hC8
          obtain ⟨ta8, tc8, hst8, -⟩ := hCC.1.1.shape
          generalize cur8.length = n8 at hst8
          dsimp only [lgv] at hv8
          have hfin : Hid _ := hC8.far5 q88 (by omega) (.int .u64 (ix : Int)) (.int .u64 (tm : Int)) (.int .i64 kd) (.slice s8a s8n s8c) st8
          subst hst8
          subst hv8
          clear kg hC8 hCC q77 hbw7 hb57 hb87
          go_wp2
          (try simp only [Exit.inBlock, Exit.then])
          refine bodyPost_ret (results_lg rfl _ _ (w.heap.size + 1) _ _ _ _ _ rfl (lg_set q88 _ _ _ _ _)) rfl ?_
          refine ⟨?_, lg_set_below hbw8 (by omega) _ _ _ _ _⟩
          rw [HE.out]
          exact ⟨_, rfl, LogC.mono hfin.out (Nat.zero_le _)⟩
end Go.Proofs.YtncoandnelgkeaaGreat

