import Derived.Test.YtncoandnelgkeaaGreatHc10
import Derived.Laws.Tables
/- Where rows lie: below a number, or in rows of one's own, of their type; what leaves them as they are. -/
namespace Go.Proofs.YtncoandnelgkeaaGreat
open Go.RowKit QuorumMath RlogMath
set_option maxRecDepth 100000
set_option linter.unusedSimpArgs false
set_option linter.unusedVariables false

/-- What is below n, and all that is of no type of T, is as it was. -/
def Frm (n : Nat) (T : List TypeId) (w w' : World) : Prop := (∀ b, b < n → w'.heap[b]? = w.heap[b]?) ∧ ∀ (b : Nat) (cs : Array Value) (t : TypeId) (fr : Nat × Nat), w.heap[b]? = some (.cells cs t fr) → t ∉ T → w'.heap[b]? = w.heap[b]?
theorem Frm.refl (n : Nat) (T : List TypeId) (w : World) : Frm n T w w := ⟨fun _ _ => rfl, fun _ _ _ _ _ _ => rfl⟩
theorem Frm.trans {n : Nat} {T : List TypeId} {w w1 w2 : World} (h : Frm n T w w1) (k : Frm n T w1 w2) : Frm n T w w2 :=
  ⟨fun b hb => (k.1 b hb).trans (h.1 b hb), fun b cs t fr hc ht => (k.2 b cs t fr ((h.2 b cs t fr hc ht).trans hc) ht).trans (h.2 b cs t fr hc ht)⟩
theorem Frm.mono {n : Nat} {T T' : List TypeId} {w w' : World} (h : Frm n T w w') (hT : ∀ t ∈ T, t ∈ T') : Frm n T' w w' := ⟨h.1, fun b cs t fr hc ht => h.2 b cs t fr hc fun hm => ht (hT t hm)⟩
theorem Frm.of_below {n : Nat} {w w' : World} (T : List TypeId) (h : Below w.heap.size w w') (hn : n ≤ w.heap.size) : Frm n T w w' :=
  ⟨fun b hb => h.block b (Nat.lt_of_lt_of_le hb hn), fun b cs t fr hc _ => h.block b (Array.getElem?_eq_some_iff.1 hc).1⟩
theorem Frm.row {n g : Nat} {w : World} {cs0 : Array Value} {t0 : TypeId} {fr0 : Nat × Nat} (hn : n ≤ g) (hg : w.heap[g]? = some (.cells cs0 t0 fr0)) (cs : Array Value) : Frm n [t0] w (w.setRow g cs) :=
  ⟨fun b hb => setRow_other w g b cs (by omega), fun b cs' t fr hc ht => setRow_other w g b cs fun e => by
    subst e
    rw [hg] at hc
    simp only [Option.some.injEq, Obj.cells.injEq] at hc
    exact ht (by rw [← hc.2.1]; exact List.mem_singleton.2 rfl)⟩
theorem Frm.cell {n g i : Nat} {w : World} {cs0 : Array Value} {t0 : TypeId} {fr0 : Nat × Nat} (hn : n ≤ g) (hg : w.heap[g]? = some (.cells cs0 t0 fr0)) (u : Value) : Frm n [t0] w (w.setCell ⟨g, i, none⟩ u) :=
  ⟨fun b hb => set_far (by omega) u, fun b cs' t fr hc ht => set_far (fun e => by
    subst e
    rw [hg] at hc
    simp only [Option.some.injEq, Obj.cells.injEq] at hc
    exact ht (by rw [← hc.2.1]; exact List.mem_singleton.2 rfl)) u⟩
theorem below_row {n g : Nat} {w w' : World} (h : Below n w w') (hg : n ≤ g) (cs : Array Value) : Below n w (w'.setRow g cs) :=
  ⟨h.os, h.tape, h.output, by rw [setRow_size]; exact h.size, fun k hk => (setRow_other w' g k cs (by omega)).trans (h.block k hk)⟩
theorem Ow.farRow {α : Type} {E : El α} {t : TypeId} {n g : Nat} {w : World} {v : Value} {l : List α} (h : Ow E t n w v l) (hg : g < n) (cs : Array Value) : Ow E t n (w.setRow g cs) v l :=
  ⟨h.1.same fun k hk => setRow_other w g k cs (by have := h.2 k hk; omega), h.2⟩
theorem Rk.frm {α : Type} {E : El α} {t : TypeId} {n : Nat} {T : List TypeId} {w w' : World} {v : Value} {xs : List α} (h : Rk E w t v xs) (hf : Frm n T w w') (ht : t ∉ T) : Rk E w' t v xs := h.same fun k hk => by
  obtain ⟨cs, hc⟩ := h.block hk
  exact hf.2 k _ _ _ hc ht
theorem Ow.frm {α : Type} {E : El α} {t : TypeId} {n m : Nat} {T : List TypeId} {w w' : World} {v : Value} {xs : List α} (h : Ow E t m w v xs) (hf : Frm n T w w') (ht : t ∉ T) : Ow E t m w' v xs := ⟨h.1.frm hf ht, h.2⟩

/-- A slice as it is read: below n, or a row of one's own. -/
def RdN {α : Type} (E : El α) (t : TypeId) (n : Nat) (w : World) (v : Value) (xs : List α) : Prop :=
  (Rd E w v xs ∧ (xs ≠ [] → ∀ b off sp l c, v = .slice (some ⟨b, off, sp⟩) l c → b < n)) ∨ Rk E w t v xs
theorem RdN.rd {α : Type} {E : El α} {t : TypeId} {n : Nat} {w : World} {v : Value} {xs : List α} (h : RdN E t n w v xs) : Rd E w v xs := by
  rcases h with h | h
  · exact h.1
  · exact h.rd
theorem Rk.toN {α : Type} {E : El α} {t : TypeId} {w : World} {v : Value} {xs : List α} (h : Rk E w t v xs) (n : Nat) : RdN E t n w v xs := .inr h
theorem Rd.toN {α : Type} {E : El α} {w : World} {v : Value} {xs : List α} (h : Rd E w v xs) (t : TypeId) : RdN E t w.heap.size w v xs := .inl ⟨h, fun hne b off sp l c e => by
  obtain ⟨ao, cap, e', h0, h1, h2⟩ := h
  have hpos : 0 < xs.length := List.length_pos_iff.2 hne
  obtain ⟨b', off', r1, r2⟩ := h2 0 xs[0] 0 ((E.enc xs[0])[0]'(by rw [E.len]; exact E.pos)) (List.getElem?_eq_getElem hpos) (List.getElem?_eq_getElem _)
  rw [e] at e'
  simp only [Value.slice.injEq] at e'
  rw [← e'.1] at r1
  simp only [Option.some.injEq, Addr.mk.injEq] at r1
  have := World.block_lt_of_cell? w _ r2
  rw [r1.1]
  exact this⟩
theorem RdN.frm {α : Type} {E : El α} {t : TypeId} {n : Nat} {T : List TypeId} {w w' : World} {v : Value} {xs : List α} (h : RdN E t n w v xs) (hf : Frm n T w w') (ht : t ∉ T) : RdN E t n w' v xs := by
  rcases h with ⟨h, hb⟩ | h
  · refine .inl ⟨?_, hb⟩
    obtain ⟨ao, cap, e, h0, h1, h2⟩ := h
    refine ⟨ao, cap, e, h0, h1, fun i x j u hx hu => ?_⟩
    obtain ⟨b, off, r1, r2⟩ := h2 i x j u hx hu
    have hne : xs ≠ [] := fun h => by rw [h] at hx; simp at hx
    have hlt := hb hne b off none _ _ (by rw [e, r1])
    refine ⟨b, off, r1, ?_⟩
    rw [← r2]
    unfold World.cell?
    rw [hf.1 b hlt]
  · exact .inr (h.frm hf ht)
theorem RdN.below {α : Type} {E : El α} {t : TypeId} {n : Nat} {w w' : World} {v : Value} {xs : List α} (h : RdN E t n w v xs) (hb : Below w.heap.size w w') : RdN E t n w' v xs := by
  rcases h with ⟨h, h'⟩ | h
  · exact .inl ⟨h.below hb, h'⟩
  · exact .inr (h.same fun k hk => hb.block k (h.lt hk))
theorem RdN.mono {α : Type} {E : El α} {t : TypeId} {n m : Nat} {w : World} {v : Value} {xs : List α} (h : RdN E t n w v xs) (hm : n ≤ m) : RdN E t m w v xs := by
  rcases h with ⟨h, h'⟩ | h
  · exact .inl ⟨h, fun hne b off sp l c e => Nat.lt_of_lt_of_le (h' hne b off sp l c e) hm⟩
  · exact .inr h
theorem RdN.nil {α : Type} (E : El α) (t : TypeId) (n : Nat) (w : World) : RdN E t n w (.slice none 0 0) [] := .inr (Rk.nil _ _ _)
/-- An entry's bytes, entries, a log. -/
def DataN (n : Nat) (w : World) (z : Ez) : Prop := RdN byteE 5 n w (.slice z.2.1 z.2.2.1 z.2.2.2) z.1.data
theorem DataN.v {n : Nat} {w : World} {z : Ez} (h : DataN n w z) : DataV w z := RdN.rd h
theorem DataN.below {n : Nat} {w w' : World} {z : Ez} (h : DataN n w z) (hb : Below w.heap.size w w') : DataN n w' z := RdN.below h hb
theorem DataN.frm {n : Nat} {T : List TypeId} {w w' : World} {z : Ez} (h : DataN n w z) (hf : Frm n T w w') (ht : (5 : TypeId) ∉ T) : DataN n w' z := RdN.frm h hf ht
theorem CpD.toN {w : World} {z : Ez} (h : CpD w z) (n : Nat) : DataN n w z := .inr h
theorem DataV.toN {w : World} {z : Ez} (h : DataV w z) : DataN w.heap.size w z := Rd.toN h _
def EntsN (n : Nat) (w : World) (v : Value) (zs : List Ez) : Prop := RdN entE 25 n w v zs ∧ ∀ z ∈ zs, DataN n w z
theorem EntsN.v {n : Nat} {w : World} {v : Value} {zs : List Ez} (h : EntsN n w v zs) : EntsV w v zs := ⟨h.1.rd, fun z hz => (h.2 z hz).v⟩
theorem EntsN.below {n : Nat} {w w' : World} {v : Value} {zs : List Ez} (h : EntsN n w v zs) (hb : Below w.heap.size w w') : EntsN n w' v zs := ⟨h.1.below hb, fun z hz => (h.2 z hz).below hb⟩
theorem EntsN.frm {n : Nat} {T : List TypeId} {w w' : World} {v : Value} {zs : List Ez} (h : EntsN n w v zs) (hf : Frm n T w w') (ht : (25 : TypeId) ∉ T) (ht' : (5 : TypeId) ∉ T) : EntsN n w' v zs := ⟨h.1.frm hf ht, fun z hz => (h.2 z hz).frm hf ht'⟩
theorem EntsV.toN {w : World} {v : Value} {zs : List Ez} (h : EntsV w v zs) : EntsN w.heap.size w v zs := ⟨h.1.toN _, fun z hz => (h.2 z hz).toN⟩
theorem EntsN.nil (n : Nat) (w : World) : EntsN n w (.slice none 0 0) [] := ⟨RdN.nil _ _ _ _, fun z hz => by simp at hz⟩
theorem Cps.toN {m : Nat} {w : World} {st : Value} {M : List Me} {cur : List Ez} (h : Cps m w st M cur) (n : Nat) : EntsN n w st cur := ⟨h.1.1.toN n, fun z hz => (h.2.2 z hz).toN n⟩
def LogN (n : Nat) (w : World) (v : Value) (b : Me) (l : List Me) : Prop := ∃ (s : Sl) (zs : List Ez) (lv : Sl), v = lgv (b, s) (.slice lv.1 lv.2.1 lv.2.2) ∧ DataN n w (b, s) ∧ EntsN n w (.slice lv.1 lv.2.1 lv.2.2) zs ∧ mes zs = l
theorem LogN.below {n : Nat} {w w' : World} {v : Value} {b : Me} {l : List Me} (h : LogN n w v b l) (hb : Below w.heap.size w w') : LogN n w' v b l := by
  obtain ⟨s, zs, lv, h1, h2, h3, h4⟩ := h
  exact ⟨s, zs, lv, h1, h2.below hb, h3.below hb, h4⟩
theorem LogN.frm {n : Nat} {T : List TypeId} {w w' : World} {v : Value} {b : Me} {l : List Me} (h : LogN n w v b l) (hf : Frm n T w w') (ht : (25 : TypeId) ∉ T) (ht' : (5 : TypeId) ∉ T) : LogN n w' v b l := by
  obtain ⟨s, zs, lv, h1, h2, h3, h4⟩ := h
  exact ⟨s, zs, lv, h1, h2.frm hf ht', h3.frm hf ht ht', h4⟩
theorem logN_zero (n : Nat) (w : World) : LogN n w (.agg #[.int .u64 0, .int .u64 0, .int .i64 0, .slice none 0 0, .slice none 0 0]) zeroMe [] := ⟨(none, 0, 0), [], (none, 0, 0), rfl, RdN.nil _ _ _ _, EntsN.nil _ _, rfl⟩
theorem LogC.toN {m : Nat} {w : World} {v : Value} {b : Me} {l : List Me} (h : LogC m w v b l) (n : Nat) : LogN n w v b l := by
  obtain ⟨s, cur, st, h1, h2, h3⟩ := h
  obtain ⟨ao, cap, rfl, -, -⟩ := h3.1.1.rd.shape
  exact ⟨s, cur, (ao, cur.length, cap), h1, h2.toN n, h3.toN n, h3.2.1⟩
/-- What Append tells. -/
def LgN (n : Nat) (r : Int × Me × List Me) (e : Ending) (w' : World) : Prop := ∃ v, e = .returned (.tuple #[v, .int .i64 r.1]) ∧ LogN n w' v r.2.1 r.2.2
theorem lgN_none {n : Nat} {r : Int × Me × List Me} {c : Int} (w : World) (h : r = (c, zeroMe, [])) : LgN n r (.returned (.tuple #[.agg #[.int .u64 0, .int .u64 0, .int .i64 0, .slice none 0 0, .slice none 0 0], .int .i64 c])) w := by
  subst h
  exact ⟨_, rfl, logN_zero n w⟩
end Go.Proofs.YtncoandnelgkeaaGreat

