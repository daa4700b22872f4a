import Derived.Test.YtgfoogeiancecaaGreatDoorHw23
/- Rows of the document's side: records, ends, segments that were read; what of them stays where nothing settled is written. -/
namespace Go.Proofs.YtgfoogeiancecaaGreatDoor
open Go.RowKit WalMath
set_option maxRecDepth 100000
set_option linter.unusedSimpArgs false
set_option linter.unusedVariables false

theorem ownsRow_same {w w' : World} {n : Nat} {t : TypeId} {k : Nat} {v : Value} {m : Nat} {xs : List Value} (h : w.ownsRow n t k v m xs) (hs : ∀ j, v.ownBlock = some j → w'.heap[j]? = w.heap[j]?) : w'.ownsRow n t k v m xs := by
  obtain ⟨h0, h1 | ⟨g, cap, cur, e1, hg, hbk, r⟩⟩ := h
  · exact ⟨h0, .inl h1⟩
  · exact ⟨h0, .inr ⟨g, cap, cur, e1, hg, (hs g (by rw [e1]; rfl)).trans hbk, r⟩⟩
theorem fbs_same {w w' : World} {v : Value} {l : List Nat} (h : Fr.Bs w.heap.size w v l) (hs : ∀ j, v.ownBlock = some j → w'.heap[j]? = w.heap[j]?) (hz : w.heap.size ≤ w'.heap.size) : Fr.Bs w'.heap.size w' v l := by
  obtain ⟨ao, cap, h1, h2, h3, h4, h5⟩ := h
  refine ⟨ao, cap, h1, h2, h3, h4, fun hne => ?_⟩
  obtain ⟨b, off, e1, e2, e3⟩ := h5 hne
  refine ⟨b, off, e1, by omega, fun j c hj => ?_⟩
  have := e3 j c hj
  unfold World.cell? at this ⊢
  dsimp only at this ⊢
  rw [hs b (by rw [h1, e1]; rfl)]
  exact this

theorem run_pushG (w : World) (ts t ty : TypeId) (i0 : TypeInfo) (z : Value) (k by_ : Nat) (ht : Tryz.prog.underlying ts = some (.slice t)) (hi : Tryz.prog.info? t = some i0) (hz : i0.zero = some z) (hsz : i0.size = k) (hby : i0.bytes = by_) (hzs : z.cells.size = k) (hk : 0 < k) (hb0 : by_ ≤ 1000)
    (v : Value) (n : Nat) (xs x : List Value) (h : w.ownsRow 0 t k v n xs) (hx : x.length = k) (hlen : n ≤ 1000000) (h1 : ∀ u ∈ x, u.oneCell' = true) :
    ∃ v' w', (Builtin.append_ #[ts, ts] ty #[v, .slice (some ⟨w.heap.size, 0, none⟩) 1 1]).run Tryz.prog (w.alloc (.cells x.toArray t)) = .ok v' w' ∧ w'.ownsRow 0 t k v' (n + 1) (xs ++ x) ∧ w.grownBy w' v.ownBlock ∧ ∀ j, v'.ownBlock = some j → v.ownBlock = some j ∨ w.heap.size ≤ j := by
  have hb1 := (Below.refl w.heap.size w).alloc (Nat.le_refl _) (.cells x.toArray t)
  obtain ⟨v', w', hrun, hO, hg, hfr⟩ := run_append_own2 (w.alloc (.cells x.toArray t)) 0 ts ty t i0 z k by_ ht hi hz hsz hby hzs hk v n xs (ownsRow_below h hb1)
    ⟨w.heap.size, 0, none⟩ 1 1 x (by rw [hx, Nat.one_mul]) (by
      intro j u hj
      rw [Addr.add_lit, cells_of_block (heap_alloc_new w _), Nat.zero_add]
      simpa using hj) h1 (by unfold maxLen; omega) (by
        have : (n + 1) * by_ ≤ 1000001 * 1000 := Nat.mul_le_mul (by omega) hb0
        omega) (Nat.zero_le _)
  refine ⟨v', w', hrun, hO, ⟨hg.os.trans hb1.os, hg.tape.trans hb1.tape, hg.output.trans hb1.output, Nat.le_trans hb1.size hg.size, fun i hi' hne => (hg.block i (Nat.lt_of_lt_of_le hi' hb1.size) hne).trans (hb1.block i hi')⟩, fun k hk => ?_⟩
  rcases hfr k hk with h' | h'
  · exact .inl h'
  · exact .inr (Nat.le_trans hb1.size h')

theorem infoIn : (Tryz.prog.info? 3).map (fun i => (i.zero, i.size, i.bytes)) = some (some (.int .i64 0), 1, 8) := by kernel_rfl
theorem infoRSeg : (Tryz.prog.info? 74).map (fun i => (i.zero, i.size, i.bytes)) = some (some (.agg #[.int .i64 0, .slice none 0 0, .slice none 0 0]), 3, 56) := by kernel_rfl

/-- Records in a row, their bytes in settled blocks. -/
def RecVs (D : Nat → Prop) (w : World) (lv : Value) (rs : List Rec) : Prop :=
  ∃ ys : List (Value × Value), R2 w 44 lv ys ∧ ys.length = rs.length ∧ ∀ (k : Nat) (r : Rec) (y : Value × Value), rs[k]? = some r → ys[k]? = some y → y.1 = .int .u64 (r.index : Int) ∧ Fr.Bs w.heap.size w y.2 r.data ∧ ∀ j, y.2.ownBlock = some j → D j
theorem RecVs.nil (D : Nat → Prop) (w : World) : RecVs D w (.slice none 0 0) [] := ⟨[], R2.nil _ _, rfl, fun k r y h => by simp at h⟩
theorem RecVs.same {D D' : Nat → Prop} {w w' : World} {lv : Value} {rs : List Rec} (h : RecVs D w lv rs) (hl : ∀ j, lv.ownBlock = some j → w'.heap[j]? = w.heap[j]?) (hD : ∀ j, D j → w'.heap[j]? = w.heap[j]?) (hz : w.heap.size ≤ w'.heap.size) (hDD : ∀ j, D j → D' j) : RecVs D' w' lv rs := by
  obtain ⟨ys, h1, h2, h3⟩ := h
  refine ⟨ys, h1.same hl, h2, fun k r y hr hy => ?_⟩
  obtain ⟨g1, g2, g3⟩ := h3 k r y hr hy
  exact ⟨g1, fbs_same g2 (fun j hj => hD j (g3 j hj)) hz, fun j hj => hDD j (g3 j hj)⟩
theorem RecVs.push {D : Nat → Prop} {w : World} {lv : Value} {rs : List Rec} (h : RecVs D w lv rs) (r : Rec) (v : Value) (hB : Fr.Bs w.heap.size w v r.data) (hv : ∀ j, v.ownBlock = some j → D j) (hlv : ∀ j, lv.ownBlock = some j → ¬ D j) (hD : ∀ j, D j → j < w.heap.size) (hlen : rs.length ≤ 1000000) (ty : TypeId) :
    ∃ v' w', (Builtin.append_ #[72, 72] ty #[lv, .slice (some ⟨w.heap.size, 0, none⟩) 1 1]).run Tryz.prog (w.alloc (.cells #[.int .u64 (r.index : Int), v] 44)) = .ok v' w' ∧ RecVs D w' v' (rs ++ [r]) ∧ w.grownBy w' lv.ownBlock ∧ ∀ k, v'.ownBlock = some k → lv.ownBlock = some k ∨ w.heap.size ≤ k := by
  obtain ⟨ys, h1, h2, h3⟩ := h
  obtain ⟨v', w', r1, r2, r3, r4⟩ := push_rec w ty lv ys (.int .u64 (r.index : Int), v) h1 (by omega) rfl (by obtain ⟨_, _, e, _⟩ := hB; rw [e]; rfl)
  have hDw : ∀ j, D j → w'.heap[j]? = w.heap[j]? := fun j hj => r3.block j (hD j hj) (fun e => hlv j e.symm hj)
  refine ⟨v', w', r1, ⟨_, r2, by simp [h2], fun k q y hq hy => ?_⟩, r3, r4⟩
  by_cases hk : k < rs.length
  · rw [List.getElem?_append_left hk] at hq
    rw [List.getElem?_append_left (by omega)] at hy
    obtain ⟨g1, g2, g3⟩ := h3 k q y hq hy
    exact ⟨g1, fbs_same g2 (fun j hj => hDw j (g3 j hj)) r3.size, g3⟩
  · have hkl := (List.getElem?_eq_some_iff.1 hq).1
    simp at hkl
    obtain rfl : k = rs.length := by omega
    obtain rfl : r = q := by simpa using hq
    rw [← h2] at hy
    obtain rfl : (Value.int .u64 (r.index : Int), v) = y := by simpa using hy
    exact ⟨rfl, fbs_same hB (fun j hj => hDw j (hv j hj)) r3.size, hv⟩

/-- Numbers in a row. -/
def EndVs (w : World) (ev : Value) (es : List Nat) : Prop := w.ownsRow 0 3 1 ev es.length (es.map fun (e : Nat) => Value.int .i64 (e : Int))
theorem EndVs.nil (w : World) : EndVs w (.slice none 0 0) [] := World.ownsRow_nil w 0 3 1
theorem EndVs.same {w w' : World} {ev : Value} {es : List Nat} (h : EndVs w ev es) (hs : ∀ j, ev.ownBlock = some j → w'.heap[j]? = w.heap[j]?) : EndVs w' ev es := ownsRow_same h hs
theorem EndVs.push {w : World} {ev : Value} {es : List Nat} (h : EndVs w ev es) (e : Nat) (hlen : es.length ≤ 1000000) (ty : TypeId) :
    ∃ v' w', (Builtin.append_ #[33, 33] ty #[ev, .slice (some ⟨w.heap.size, 0, none⟩) 1 1]).run Tryz.prog (w.alloc (.cells #[.int .i64 (e : Int)] 3)) = .ok v' w' ∧ EndVs w' v' (es ++ [e]) ∧ w.grownBy w' ev.ownBlock ∧ ∀ k, v'.ownBlock = some k → ev.ownBlock = some k ∨ w.heap.size ≤ k := by
  obtain ⟨i0, hi, hz0, hz1, hz2⟩ := info_parts infoIn
  obtain ⟨v', w', r1, r2, r3, r4⟩ := run_pushG w 33 3 ty i0 _ 1 _ Tryz.underlying33 hi hz0 hz1 hz2 rfl (by decide) (by decide) ev es.length _ [.int .i64 (e : Int)] h rfl hlen (by intro u hu; rw [List.mem_singleton.1 hu]; rfl)
  refine ⟨v', w', r1, ?_, r3, r4⟩
  unfold EndVs
  rw [List.length_append, List.map_append]
  exact r2

/-- Where records end. -/
def endsOf (rs : List Rec) : List Nat := (plc 0 rs).map Prod.snd
theorem endsOf_length (rs : List Rec) : (endsOf rs).length = rs.length := by simp [endsOf, plc_length]
theorem endsOf_snoc (rs : List Rec) (r : Rec) : endsOf (rs ++ [r]) = endsOf rs ++ [sz rs + (recB r).length] := by simp [endsOf, plc_snoc]

/-- A segment's three values. -/
def sgc (z : Nat × Value × Value) : List Value := [.int .i64 (z.1 : Int), z.2.1, z.2.2]
/-- Segments in a row, their rows in settled blocks. -/
def SegsV (D : Nat → Prop) (w : World) (ov : Value) (ss : List (Nat × List Rec)) : Prop :=
  ∃ zs : List (Nat × Value × Value), zs.length = ss.length ∧ w.ownsRow 0 74 3 ov zs.length (zs.flatMap sgc) ∧ ∀ (k : Nat) (s : Nat × List Rec) (z : Nat × Value × Value), ss[k]? = some s → zs[k]? = some z →
    z.1 = s.1 ∧ RecVs D w z.2.1 s.2 ∧ EndVs w z.2.2 (endsOf s.2) ∧ (∀ j, z.2.1.ownBlock = some j → D j) ∧ ∀ j, z.2.2.ownBlock = some j → D j
theorem SegsV.nil (D : Nat → Prop) (w : World) : SegsV D w (.slice none 0 0) [] := ⟨[], rfl, World.ownsRow_nil w 0 _ 3, fun k s z h => by simp at h⟩
theorem SegsV.same {D D' : Nat → Prop} {w w' : World} {ov : Value} {ss : List (Nat × List Rec)} (h : SegsV D w ov ss) (hl : ∀ j, ov.ownBlock = some j → w'.heap[j]? = w.heap[j]?) (hD : ∀ j, D j → w'.heap[j]? = w.heap[j]?) (hz : w.heap.size ≤ w'.heap.size) (hDD : ∀ j, D j → D' j) : SegsV D' w' ov ss := by
  obtain ⟨zs, h1, h2, h3⟩ := h
  refine ⟨zs, h1, ownsRow_same h2 hl, fun k s z hs hzk => ?_⟩
  obtain ⟨g1, g2, g3, g4, g5⟩ := h3 k s z hs hzk
  exact ⟨g1, g2.same (fun j hj => hD j (g4 j hj)) hD hz hDD, g3.same (fun j hj => hD j (g5 j hj)), fun j hj => hDD j (g4 j hj), fun j hj => hDD j (g5 j hj)⟩
theorem SegsV.push {D : Nat → Prop} {w : World} {ov : Value} {ss : List (Nat × List Rec)} (h : SegsV D w ov ss) (i : Nat) (rs : List Rec) (lv ev : Value) (hR : RecVs D w lv rs) (hE : EndVs w ev (endsOf rs)) (hlv : ∀ j, lv.ownBlock = some j → D j) (hev : ∀ j, ev.ownBlock = some j → D j) (hov : ∀ j, ov.ownBlock = some j → ¬ D j) (hD : ∀ j, D j → j < w.heap.size) (hlen : ss.length ≤ 1000000) (ty : TypeId) :
    ∃ v' w', (Builtin.append_ #[67, 67] ty #[ov, .slice (some ⟨w.heap.size, 0, none⟩) 1 1]).run Tryz.prog (w.alloc (.cells #[.int .i64 (i : Int), lv, ev] 74)) = .ok v' w' ∧ SegsV D w' v' (ss ++ [(i, rs)]) ∧ w.grownBy w' ov.ownBlock ∧ ∀ k, v'.ownBlock = some k → ov.ownBlock = some k ∨ w.heap.size ≤ k := by
  obtain ⟨zs, h1, h2, h3⟩ := h
  obtain ⟨i0, hi, hz0, hz1, hz2⟩ := info_parts infoRSeg
  obtain ⟨v', w', r1, r2, r3, r4⟩ := run_pushG w 67 74 ty i0 _ 3 _ Tryz.underlying67 hi hz0 hz1 hz2 rfl (by decide) (by decide) ov zs.length _ (sgc (i, lv, ev)) h2 rfl (by omega) (by
    intro u hu
    simp only [sgc, List.mem_cons, List.not_mem_nil, or_false] at hu
    rcases hu with rfl | rfl | rfl
    · rfl
    · obtain ⟨ys, a, _⟩ := hR
      obtain ⟨_, _, e, _⟩ := a.shape
      rw [e]; rfl
    · rcases hE.2 with ⟨e, _⟩ | ⟨_, _, _, e, _⟩ <;> (rw [e]; rfl))
  have hDw : ∀ j, D j → w'.heap[j]? = w.heap[j]? := fun j hj => r3.block j (hD j hj) (fun e => hov j e.symm hj)
  refine ⟨v', w', r1, ⟨zs ++ [(i, lv, ev)], by simp [h1], ?_, fun k s z hs hzk => ?_⟩, r3, r4⟩
  · rw [List.length_append, List.flatMap_append]
    simpa using r2
  · by_cases hk : k < ss.length
    · rw [List.getElem?_append_left hk] at hs
      rw [List.getElem?_append_left (by omega)] at hzk
      obtain ⟨g1, g2, g3, g4, g5⟩ := h3 k s z hs hzk
      exact ⟨g1, g2.same (fun j hj => hDw j (g4 j hj)) hDw r3.size (fun _ h => h), g3.same (fun j hj => hDw j (g5 j hj)), g4, g5⟩
    · have hkl := (List.getElem?_eq_some_iff.1 hs).1
      simp at hkl
      obtain rfl : k = ss.length := by omega
      obtain rfl : (i, rs) = s := by simpa using hs
      rw [← h1] at hzk
      obtain rfl : (i, lv, ev) = z := by simpa using hzk
      exact ⟨rfl, hR.same (fun j hj => hDw j (hlv j hj)) hDw r3.size (fun _ h => h), hE.same (fun j hj => hDw j (hev j hj)), hlv, hev⟩
end Go.Proofs.YtgfoogeiancecaaGreatDoor

/- What stands between two rounds of the document's own Segments. -/
namespace Go.Proofs.YtgfoogeiancecaaGreatDoor
open Go.RowKit WalMath
set_option maxRecDepth 100000
set_option linter.unusedSimpArgs false
set_option linter.unusedVariables false

/-- Behind whole files. -/
structure OutAt (n : Nat) (D : Nat → Prop) (w : World) (ov : Value) (ss : List (Nat × List Rec)) (wr : World) : Prop where
  out : SegsV D wr ov ss
  ovD : ∀ j, ov.ownBlock = some j → ¬ D j ∧ n ≤ j ∧ j < wr.heap.size
  dN : ∀ j, D j → n ≤ j ∧ j < wr.heap.size
  bel : Below n w wr
/-- Within a file. -/
structure InAt (n : Nat) (D : Nat → Prop) (w : World) (sb i : Nat) (lv ev ov : Value) (ss : List (Nat × List Rec)) (rs : List Rec) (es : List Nat) (wr : World) : Prop where
  box : wr.heap[sb]? = some (.cells #[.int .i64 (i : Int), lv, ev] 74 (0, 0))
  recs : RecVs D wr lv rs
  ends : EndVs wr ev es
  out : SegsV D wr ov ss
  lvD : ∀ j, lv.ownBlock = some j → ¬ D j ∧ j ≠ sb ∧ n ≤ j ∧ j < wr.heap.size
  evD : ∀ j, ev.ownBlock = some j → ¬ D j ∧ j ≠ sb ∧ n ≤ j ∧ j < wr.heap.size ∧ lv.ownBlock ≠ some j
  ovD : ∀ j, ov.ownBlock = some j → ¬ D j ∧ j ≠ sb ∧ n ≤ j ∧ j < wr.heap.size ∧ lv.ownBlock ≠ some j ∧ ev.ownBlock ≠ some j
  sbD : ¬ D sb ∧ n ≤ sb
  dN : ∀ j, D j → n ≤ j ∧ j < wr.heap.size
  bel : Below n w wr

theorem OutAt.below {n : Nat} {D : Nat → Prop} {w : World} {ov : Value} {ss : List (Nat × List Rec)} {wr W : World} (h : OutAt n D w ov ss wr) (hb : Below wr.heap.size wr W) (hn : n ≤ wr.heap.size) : OutAt n D w ov ss W :=
  ⟨h.out.same (fun j hj => hb.block j (h.ovD j hj).2.2) (fun j hj => hb.block j (h.dN j hj).2) hb.size (fun _ x => x), fun j hj => ⟨(h.ovD j hj).1, (h.ovD j hj).2.1, Nat.lt_of_lt_of_le (h.ovD j hj).2.2 hb.size⟩, fun j hj => ⟨(h.dN j hj).1, Nat.lt_of_lt_of_le (h.dN j hj).2 hb.size⟩, h.bel.trans (hb.mono hn)⟩
theorem OutAt.enter {n : Nat} {D : Nat → Prop} {w : World} {ov : Value} {ss : List (Nat × List Rec)} {wr : World} (h : OutAt n D w ov ss wr) (hn : n ≤ wr.heap.size) (i : Nat) : InAt n D w wr.heap.size i (.slice none 0 0) (.slice none 0 0) ov ss [] [] (wr.alloc (.cells #[.int .i64 (i : Int), .slice none 0 0, .slice none 0 0] 74)) := by
  have hb : Below wr.heap.size wr (wr.alloc (.cells #[.int .i64 (i : Int), .slice none 0 0, .slice none 0 0] 74)) := (Below.refl _ _).alloc (Nat.le_refl _) _
  have h2 := h.below hb hn
  refine ⟨heap_alloc_new wr _, RecVs.nil _ _, EndVs.nil _, h2.out, (fun j hj => by cases hj), (fun j hj => by cases hj), fun j hj => ?_, ⟨fun e => ?_, hn⟩, h2.dN, h2.bel⟩
  · have := h2.ovD j hj
    have h4 := (h.ovD j hj).2.2
    exact ⟨this.1, by omega, this.2.1, this.2.2, (fun e => by cases e), (fun e => by cases e)⟩
  · have := (h.dN _ e).2
    omega
theorem InAt.grow {n : Nat} {D D' : Nat → Prop} {w : World} {sb i : Nat} {lv ev ov : Value} {ss : List (Nat × List Rec)} {rs : List Rec} {es : List Nat} {wr W : World} (h : InAt n D w sb i lv ev ov ss rs es wr) (hb : Below wr.heap.size wr W) (h1 : ∀ j, D j → D' j) (h2 : ∀ j, D' j → D j ∨ (wr.heap.size ≤ j ∧ j < W.heap.size)) : InAt n D' w sb i lv ev ov ss rs es W := by
  have hsb : sb < wr.heap.size := (Array.getElem?_eq_some_iff.1 h.box).1
  have hn : n ≤ wr.heap.size := by have := h.sbD.2; omega
  have hs := hb.size
  have hD : ∀ j, D j → W.heap[j]? = wr.heap[j]? := fun j hj => hb.block j (h.dN j hj).2
  have hnD : ∀ j, j < wr.heap.size → ¬ D j → ¬ D' j := fun j hj hd e => (h2 j e).elim hd (fun x => by omega)
  refine ⟨(hb.block sb hsb).trans h.box, h.recs.same (fun j hj => hb.block j (h.lvD j hj).2.2.2) hD hs h1, h.ends.same (fun j hj => hb.block j (h.evD j hj).2.2.2.1), h.out.same (fun j hj => hb.block j (h.ovD j hj).2.2.2.1) hD hs h1, fun j hj => ?_, fun j hj => ?_, fun j hj => ?_, ⟨hnD sb hsb h.sbD.1, h.sbD.2⟩, fun j hj => ?_, h.bel.trans (hb.mono hn)⟩
  · obtain ⟨a, b, c, d⟩ := h.lvD j hj
    exact ⟨hnD j d a, b, c, by omega⟩
  · obtain ⟨a, b, c, d, e⟩ := h.evD j hj
    exact ⟨hnD j d a, b, c, by omega, e⟩
  · obtain ⟨a, b, c, d, e⟩ := h.ovD j hj
    exact ⟨hnD j d a, b, c, by omega, e⟩
  · rcases h2 j hj with x | x
    · have := h.dN j x
      omega
    · omega
theorem InAt.below {n : Nat} {D : Nat → Prop} {w : World} {sb i : Nat} {lv ev ov : Value} {ss : List (Nat × List Rec)} {rs : List Rec} {es : List Nat} {wr W : World} (h : InAt n D w sb i lv ev ov ss rs es wr) (hb : Below wr.heap.size wr W) : InAt n D w sb i lv ev ov ss rs es W := h.grow hb (fun _ x => x) (fun _ x => .inl x)
/-- .. the blocks that were made are settled. -/
theorem InAt.settle {n : Nat} {D : Nat → Prop} {w : World} {sb i : Nat} {lv ev ov : Value} {ss : List (Nat × List Rec)} {rs : List Rec} {es : List Nat} {wr W : World} (h : InAt n D w sb i lv ev ov ss rs es wr) (hb : Below wr.heap.size wr W) : InAt n (fun j => D j ∨ (wr.heap.size ≤ j ∧ j < W.heap.size)) w sb i lv ev ov ss rs es W := h.grow hb (fun _ x => .inl x) (fun _ x => x)

theorem seg3_1 {w : World} {g : Nat} {a b c : Value} {t : TypeId} (h : w.heap[g]? = some (.cells #[a, b, c] t (0, 0))) (y : Value) : (w.setCell ⟨g, 1, none⟩ y).heap[g]? = some (.cells #[a, y, c] t (0, 0)) := by
  simp [World.setCell, Array.getElem?_modify, h]
theorem seg3_2 {w : World} {g : Nat} {a b c : Value} {t : TypeId} (h : w.heap[g]? = some (.cells #[a, b, c] t (0, 0))) (y : Value) : (w.setCell ⟨g, 2, none⟩ y).heap[g]? = some (.cells #[a, b, y] t (0, 0)) := by
  simp [World.setCell, Array.getElem?_modify, h]

/-- .. behind an append to the records. -/
theorem InAt.pushRec {n : Nat} {D : Nat → Prop} {w : World} {sb i : Nat} {lv ev ov : Value} {ss : List (Nat × List Rec)} {rs : List Rec} {es : List Nat} {wr : World} (h : InAt n D w sb i lv ev ov ss rs es wr) {rs' : List Rec} {v' : Value} {w' : World} (hR : RecVs D w' v' rs') (hg : wr.grownBy w' lv.ownBlock) (hn : ∀ k, v'.ownBlock = some k → lv.ownBlock = some k ∨ wr.heap.size ≤ k) (hlt : ∀ k, v'.ownBlock = some k → k < w'.heap.size) : InAt n D w sb i v' ev ov ss rs' es (w'.setCell ⟨sb, 1, none⟩ v') := by
  have hsb : sb < wr.heap.size := (Array.getElem?_eq_some_iff.1 h.box).1
  have hnw : n ≤ wr.heap.size := by have := h.sbD.2; omega
  have hs := hg.size
  have hsz : (w'.setCell ⟨sb, 1, none⟩ v').heap.size = w'.heap.size := by simp [World.setCell]
  have hblk : ∀ j, j < wr.heap.size → j ≠ sb → lv.ownBlock ≠ some j → (w'.setCell ⟨sb, 1, none⟩ v').heap[j]? = wr.heap[j]? := fun j h1 h2 h3 => by
    rw [set_same 1 _ h2]
    exact hg.block j h1 (fun e => h3 e.symm)
  have hDs : ∀ j, D j → j ≠ sb := fun j hj e => h.sbD.1 (e ▸ hj)
  have hDl : ∀ j, D j → lv.ownBlock ≠ some j := fun j hj e => (h.lvD j e).1 hj
  have hDb : ∀ j, D j → (w'.setCell ⟨sb, 1, none⟩ v').heap[j]? = wr.heap[j]? := fun j hj => hblk j (h.dN j hj).2 (hDs j hj) (hDl j hj)
  have hv : ∀ j, v'.ownBlock = some j → ¬ D j ∧ j ≠ sb ∧ n ≤ j := fun j hj => by
    rcases hn j hj with x | x
    · exact ⟨(h.lvD j x).1, (h.lvD j x).2.1, (h.lvD j x).2.2.1⟩
    · exact ⟨fun e => by have := (h.dN j e).2; omega, by omega, by omega⟩
  have hvn : ∀ j, j < wr.heap.size → lv.ownBlock ≠ some j → v'.ownBlock ≠ some j := fun j h1 h2 e => (hn j e).elim h2 (fun x => by omega)
  refine ⟨?_, hR.same (fun j hj => set_same 1 _ (hv j hj).2.1) (fun j hj => set_same 1 _ (hDs j hj)) (by rw [hsz]; exact Nat.le_refl _) (fun _ x => x), h.ends.same (fun j hj => ?_), h.out.same (fun j hj => ?_) hDb (by omega) (fun _ x => x), fun j hj => ?_, fun j hj => ?_, fun j hj => ?_, h.sbD, fun j hj => ?_, ?_⟩
  · exact seg3_1 ((hg.block sb hsb (fun e => (h.lvD sb e.symm).2.1 rfl)).trans h.box) v'
  · obtain ⟨a, b, c, d, e⟩ := h.evD j hj
    exact hblk j d b e
  · obtain ⟨a, b, c, d, e, f⟩ := h.ovD j hj
    exact hblk j d b e
  · have := hlt j hj
    obtain ⟨a, b, c⟩ := hv j hj
    exact ⟨a, b, c, by omega⟩
  · obtain ⟨a, b, c, d, e⟩ := h.evD j hj
    exact ⟨a, b, c, by omega, hvn j d e⟩
  · obtain ⟨a, b, c, d, e, f⟩ := h.ovD j hj
    exact ⟨a, b, c, by omega, hvn j d e, f⟩
  · have := h.dN j hj
    omega
  · exact (h.bel.grown hg hnw fun k hk => (h.lvD k hk).2.2.1).setCell (p := ⟨sb, 1, none⟩) h.sbD.2 _
/-- .. behind an append to the ends. -/
theorem InAt.pushEnd {n : Nat} {D : Nat → Prop} {w : World} {sb i : Nat} {lv ev ov : Value} {ss : List (Nat × List Rec)} {rs : List Rec} {es : List Nat} {wr : World} (h : InAt n D w sb i lv ev ov ss rs es wr) {es' : List Nat} {v' : Value} {w' : World} (hE : EndVs w' v' es') (hg : wr.grownBy w' ev.ownBlock) (hn : ∀ k, v'.ownBlock = some k → ev.ownBlock = some k ∨ wr.heap.size ≤ k) (hlt : ∀ k, v'.ownBlock = some k → k < w'.heap.size) : InAt n D w sb i lv v' ov ss rs es' (w'.setCell ⟨sb, 2, none⟩ v') := by
  have hsb : sb < wr.heap.size := (Array.getElem?_eq_some_iff.1 h.box).1
  have hnw : n ≤ wr.heap.size := by have := h.sbD.2; omega
  have hs := hg.size
  have hsz : (w'.setCell ⟨sb, 2, none⟩ v').heap.size = w'.heap.size := by simp [World.setCell]
  have hblk : ∀ j, j < wr.heap.size → j ≠ sb → ev.ownBlock ≠ some j → (w'.setCell ⟨sb, 2, none⟩ v').heap[j]? = wr.heap[j]? := fun j h1 h2 h3 => by
    rw [set_same 2 _ h2]
    exact hg.block j h1 (fun e => h3 e.symm)
  have hDs : ∀ j, D j → j ≠ sb := fun j hj e => h.sbD.1 (e ▸ hj)
  have hDl : ∀ j, D j → ev.ownBlock ≠ some j := fun j hj e => (h.evD j e).1 hj
  have hDb : ∀ j, D j → (w'.setCell ⟨sb, 2, none⟩ v').heap[j]? = wr.heap[j]? := fun j hj => hblk j (h.dN j hj).2 (hDs j hj) (hDl j hj)
  have hv : ∀ j, v'.ownBlock = some j → ¬ D j ∧ j ≠ sb ∧ n ≤ j ∧ lv.ownBlock ≠ some j := fun j hj => by
    rcases hn j hj with x | x
    · exact ⟨(h.evD j x).1, (h.evD j x).2.1, (h.evD j x).2.2.1, (h.evD j x).2.2.2.2⟩
    · exact ⟨fun e => by have := (h.dN j e).2; omega, by omega, by omega, fun e => by have := (h.lvD j e).2.2.2; omega⟩
  have hvn : ∀ j, j < wr.heap.size → ev.ownBlock ≠ some j → v'.ownBlock ≠ some j := fun j h1 h2 e => (hn j e).elim h2 (fun x => by omega)
  have hlb : ∀ j, lv.ownBlock = some j → (w'.setCell ⟨sb, 2, none⟩ v').heap[j]? = wr.heap[j]? := fun j hj => by
    obtain ⟨a, b, c, d⟩ := h.lvD j hj
    exact hblk j d b (fun e => (h.evD j e).2.2.2.2 hj)
  refine ⟨?_, h.recs.same hlb hDb (by omega) (fun _ x => x), hE.same (fun j hj => set_same 2 _ (hv j hj).2.1), h.out.same (fun j hj => ?_) hDb (by omega) (fun _ x => x), fun j hj => ?_, fun j hj => ?_, fun j hj => ?_, h.sbD, fun j hj => ?_, ?_⟩
  · exact seg3_2 ((hg.block sb hsb (fun e => (h.evD sb e.symm).2.1 rfl)).trans h.box) v'
  · obtain ⟨a, b, c, d, e, f⟩ := h.ovD j hj
    exact hblk j d b f
  · obtain ⟨a, b, c, d⟩ := h.lvD j hj
    exact ⟨a, b, c, by omega⟩
  · have := hlt j hj
    obtain ⟨a, b, c, d⟩ := hv j hj
    exact ⟨a, b, c, by omega, d⟩
  · obtain ⟨a, b, c, d, e, f⟩ := h.ovD j hj
    exact ⟨a, b, c, by omega, e, hvn j d f⟩
  · have := h.dN j hj
    omega
  · exact (h.bel.grown hg hnw fun k hk => (h.evD k hk).2.2.1).setCell (p := ⟨sb, 2, none⟩) h.sbD.2 _
/-- .. behind an append of the segment to what goes out. -/
theorem InAt.done {n : Nat} {D : Nat → Prop} {w : World} {sb i : Nat} {lv ev ov : Value} {ss : List (Nat × List Rec)} {rs : List Rec} {wr : World} (h : InAt n D w sb i lv ev ov ss rs (endsOf rs) wr) (hlen : ss.length ≤ 1000000) (ty : TypeId) :
    ∃ v' w', (Builtin.append_ #[67, 67] ty #[ov, .slice (some ⟨wr.heap.size, 0, none⟩) 1 1]).run Tryz.prog (wr.alloc (.cells #[.int .i64 (i : Int), lv, ev] 74)) = .ok v' w' ∧ (∃ D', OutAt n D' w v' (ss ++ [(i, rs)]) w') := by
  have hsb : sb < wr.heap.size := (Array.getElem?_eq_some_iff.1 h.box).1
  have hnw : n ≤ wr.heap.size := by have := h.sbD.2; omega
  have i1 : ∀ j, D j → (D j ∨ lv.ownBlock = some j ∨ ev.ownBlock = some j) := fun j x => .inl x
  have hlt : ∀ j, (D j ∨ lv.ownBlock = some j ∨ ev.ownBlock = some j) → n ≤ j ∧ j < wr.heap.size := fun j x => by
    rcases x with x | x | x
    · exact h.dN j x
    · exact ⟨(h.lvD j x).2.2.1, (h.lvD j x).2.2.2⟩
    · exact ⟨(h.evD j x).2.2.1, (h.evD j x).2.2.2.1⟩
  have hov : ∀ j, ov.ownBlock = some j → ¬ (D j ∨ lv.ownBlock = some j ∨ ev.ownBlock = some j) := fun j hj e => by
    obtain ⟨a, b, c, d, f, g⟩ := h.ovD j hj
    rcases e with e | e | e
    · exact a e
    · exact f e
    · exact g e
  obtain ⟨v', w', r1, r2, r3, r4⟩ := (h.out.same (D' := fun j => D j ∨ lv.ownBlock = some j ∨ ev.ownBlock = some j) (fun _ _ => rfl) (fun _ _ => rfl) (Nat.le_refl _) i1).push i rs lv ev (h.recs.same (fun _ _ => rfl) (fun _ _ => rfl) (Nat.le_refl _) i1) h.ends (fun j x => .inr (.inl x)) (fun j x => .inr (.inr x)) hov (fun j x => (hlt j x).2) hlen ty
  refine ⟨v', w', r1, _, r2, fun j hj => ?_, fun j hj => ⟨(hlt j hj).1, Nat.lt_of_lt_of_le (hlt j hj).2 r3.size⟩, h.bel.grown r3 hnw fun k hk => (h.ovD k hk).2.2.1⟩
  have hj' : j < w'.heap.size := by
    obtain ⟨zs, _, a, _⟩ := r2
    exact (World.ownsRow.lt a j hj).2
  rcases r4 j hj with x | x
  · exact ⟨hov j x, (h.ovD j x).2.2.1, hj'⟩
  · exact ⟨fun e => by have := (hlt j e).2; omega, by omega, hj'⟩
end Go.Proofs.YtgfoogeiancecaaGreatDoor

