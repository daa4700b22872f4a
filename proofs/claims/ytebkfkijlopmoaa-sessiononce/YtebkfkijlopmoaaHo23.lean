import Derived.Test.YtebkfkijlopmoaaHo04
import Derived.Test.YtebkfkijlopmoaaHo21
import Derived.Test.YtebkfkijlopmoaaHo22
/- Seats as they are read. -/
namespace Go.Proofs.Ytebkfkijlopmoaa
open Go.RowKit SessionMath
set_option maxRecDepth 100000
set_option linter.unusedSimpArgs false
set_option linter.unusedVariables false

/-- A slice's parts; a seat with its reply's slice. -/
abbrev Sl := Option Addr × Nat × Nat
abbrev Sz := Ms × Sl
def seatE : El Sz := ⟨fun z => [.int .i64 z.1.cl, .int .u64 (z.1.sq : Int), .slice z.2.1 z.2.2.1 z.2.2.2], 3, fun _ => rfl, fun x u hu => by
  simp only [List.mem_cons, List.not_mem_nil, or_false] at hu
  rcases hu with rfl | rfl | rfl <;> rfl, by decide⟩
/-- Bytes as they are read. -/
def Bn (w : World) (v : Value) (l : List Nat) : Prop := Wi.Bs w.heap.size w v l
theorem Bn.below {w w' : World} {v : Value} {l : List Nat} (h : Bn w v l) (hb : Below w.heap.size w w') : Bn w' v l := Wi.Bs.mono (Wi.Bs.below h hb) hb.size
theorem Bn.shape {w : World} {v : Value} {l : List Nat} (h : Bn w v l) : ∃ ao cap, v = .slice ao l.length cap := by
  obtain ⟨ao, cap, e, _⟩ := h
  exact ⟨ao, cap, e⟩
abbrev sv (z : Sz) : Value := .slice z.2.1 z.2.2.1 z.2.2.2
/-- A seat's reply. -/
def RepV (w : World) (z : Sz) : Prop := Bn w (sv z) z.1.rp
theorem RepV.below {w w' : World} {z : Sz} (h : RepV w z) (hb : Below w.heap.size w w') : RepV w' z := Bn.below h hb
theorem RepV.len {w : World} {z : Sz} (h : RepV w z) : z.2.2.1 = z.1.rp.length := by
  obtain ⟨ao, cap, e, _⟩ := h
  exact (Value.slice.inj e).2.1
/-- Seats. -/
def SeatsV (w : World) (v : Value) (zs : List Sz) : Prop := Rd seatE w v zs ∧ ∀ z ∈ zs, RepV w z
theorem SeatsV.below {w w' : World} {v : Value} {zs : List Sz} (h : SeatsV w v zs) (hb : Below w.heap.size w w') : SeatsV w' v zs := ⟨h.1.below hb, fun z hz => (h.2 z hz).below hb⟩
theorem SeatsV.nil (w : World) : SeatsV w (.slice none 0 0) [] := ⟨⟨none, 0, rfl, Nat.le_refl _, fun _ => rfl, fun i x j u hx => by simp at hx⟩, by simp⟩
abbrev mes (zs : List Sz) : List Ms := zs.map fun z => z.1
theorem mes_at {zs : List Sz} {i : Nat} {z : Sz} (h : zs[i]? = some z) : (mes zs)[i]? = some z.1 := by rw [List.getElem?_map, h]; rfl
/-- Numbers and bytes as they came in. -/
def SzOk (z : Sz) : Prop := z.1.sq < 18446744073709551616 ∧ ∀ c ∈ z.1.rp, c < 256
@[reducible] def ev (z : Sz) : Value := .agg #[.int .i64 z.1.cl, .int .u64 (z.1.sq : Int), .slice z.2.1 z.2.2.1 z.2.2.2]
@[reducible] def ec (z : Sz) : Obj := .cells #[.int .i64 z.1.cl, .int .u64 (z.1.sq : Int), .slice z.2.1 z.2.2.1 z.2.2.2] 49
/-- One seat of a slice, in every later world. -/
theorem rds_at {w : World} {ao : Option Addr} {n cap : Nat} {zs : List Sz} (h : Rd seatE w (.slice ao n cap) zs) {i : Nat} {z : Sz} (hz : zs[i]? = some z) : ∃ b off, ao = some ⟨b, off, none⟩ ∧ ∀ W, Below w.heap.size w W → W.cell? ⟨b, off + i * 3, none⟩ = some (.int .i64 z.1.cl) ∧ W.cell? ⟨b, off + i * 3 + 1, none⟩ = some (.int .u64 (z.1.sq : Int)) ∧ W.cell? ⟨b, off + i * 3 + 2, none⟩ = some (.slice z.2.1 z.2.2.1 z.2.2.2) := by
  obtain ⟨ao', cap', e, _, _, h2⟩ := h
  cases e
  obtain ⟨b, off, r1, r2⟩ := h2 i z 0 _ hz rfl
  obtain ⟨b', off', r3, r4⟩ := h2 i z 1 _ hz rfl
  cases r1.symm.trans r3
  obtain ⟨b', off', r5, r6⟩ := h2 i z 2 _ hz rfl
  cases r1.symm.trans r5
  have r2' : w.cell? ⟨b, off + i * 3, none⟩ = _ := r2
  have r4' : w.cell? ⟨b, off + i * 3 + 1, none⟩ = _ := r4
  have r6' : w.cell? ⟨b, off + i * 3 + 2, none⟩ = _ := r6
  exact ⟨b, off, r1, fun W hW => ⟨(hW.cell (p := ⟨b, off + i * 3, none⟩) (World.block_lt_of_cell? w _ r2')).trans r2', (hW.cell (p := ⟨b, off + i * 3 + 1, none⟩) (World.block_lt_of_cell? w _ r4')).trans r4', (hW.cell (p := ⟨b, off + i * 3 + 2, none⟩) (World.block_lt_of_cell? w _ r6')).trans r6'⟩⟩
/-- A seat in its box, in every later world. -/
theorem st_box (w : World) (z : Sz) : (w.alloc (ec z)).heap.size = w.heap.size + 1 ∧ Below w.heap.size w (w.alloc (ec z)) ∧ ∀ W, Below (w.heap.size + 1) (w.alloc (ec z)) W → W.cell? ⟨w.heap.size, 0, none⟩ = some (.int .i64 z.1.cl) ∧ W.cell? ⟨w.heap.size, 1, none⟩ = some (.int .u64 (z.1.sq : Int)) ∧ W.cell? ⟨w.heap.size, 2, none⟩ = some (.slice z.2.1 z.2.2.1 z.2.2.2) := by
  obtain ⟨h1, h2, h3⟩ := one_box w (ec z)
  refine ⟨h1, h3, fun W hW => ?_⟩
  have := (hW.block w.heap.size (Nat.lt_succ_self _)).trans h2
  exact ⟨by rw [cells_of_block this]; rfl, by rw [cells_of_block this]; rfl, by rw [cells_of_block this]; rfl⟩
/-- A call in its box. -/
theorem id_box (w : World) (c : Int) (q : Nat) : (w.alloc (.cells #[.int .i64 c, .int .u64 (q : Int)] 25)).heap.size = w.heap.size + 1 ∧ Below w.heap.size w (w.alloc (.cells #[.int .i64 c, .int .u64 (q : Int)] 25)) ∧ ∀ W, Below (w.heap.size + 1) (w.alloc (.cells #[.int .i64 c, .int .u64 (q : Int)] 25)) W → W.cell? ⟨w.heap.size, 0, none⟩ = some (.int .i64 c) ∧ W.cell? ⟨w.heap.size, 1, none⟩ = some (.int .u64 (q : Int)) := by
  obtain ⟨h1, h2, h3⟩ := one_box w (.cells #[.int .i64 c, .int .u64 (q : Int)] 25)
  refine ⟨h1, h3, fun W hW => ?_⟩
  have := (hW.block w.heap.size (Nat.lt_succ_self _)).trans h2
  exact ⟨by rw [cells_of_block this]; rfl, by rw [cells_of_block this]; rfl⟩
theorem infoSeat : (Try.prog.info? 49).map (fun i => (i.zero, i.size, i.bytes)) = some (some (.agg #[.int .i64 0, .int .u64 0, .slice none 0 0]), 3, 40) := by kernel_rfl
theorem append_seat {w : World} {v x : Value} {xs ys : List Sz} (h : Rk seatE w 49 v xs) (hx : Rd seatE w x ys) (hlen : xs.length ≤ 1000000) (hly : ys.length ≤ 1000000) :
    ∀ ty, ∃ v' w', (Builtin.append_ #[22, 22] ty #[v, x]).run Try.prog w = .ok v' w' ∧ PushT seatE 49 w v (xs ++ ys) v' w' := by
  obtain ⟨i0, h1, h2, h3, h4⟩ := info_get infoSeat
  exact append_rd seatE w 22 49 i0 _ 40 Try.underlying22 h1 h2 h3 h4 rfl (by decide) v x xs ys h hx (by omega) (by omega)
/-- A reply of one's own. -/
def CpR (w : World) (z : Sz) : Prop := Wi.Own 0 w (sv z) z.1.rp
theorem CpR.rep {w : World} {z : Sz} (h : CpR w z) : RepV w z := Wi.Own.bs h
theorem CpR.below {w w' : World} {z : Sz} (h : CpR w z) (hb : Below w.heap.size w w') : CpR w' z := Wi.Own.below h hb
theorem own_same {n : Nat} {w w' : World} {v : Value} {l : List Nat} (h : Wi.Own n w v l) (hs : ∀ k cs, v.ownBlock = some k → w.heap[k]? = some (.cells cs 5 (0, 0)) → w'.heap[k]? = w.heap[k]?) : Wi.Own n w' v l := by
  obtain ⟨h0, h1 | ⟨g, cap, cur, e1, hg, hbk, r⟩⟩ := h
  · exact ⟨h0, .inl h1⟩
  · subst e1
    exact ⟨h0, .inr ⟨g, cap, cur, rfl, hg, (hs g cur rfl hbk).trans hbk, r⟩⟩
theorem CpR.grown {w w' : World} {z : Sz} {st : Value} {cur : List Sz} (h : CpR w z) (hs : Rk seatE w 49 st cur) (hg : w.grownBy w' st.ownBlock) : CpR w' z := own_same h fun k cs hk hb => by
  refine hg.block k (Array.getElem?_eq_some_iff.1 hb).1 fun e => ?_
  obtain ⟨cs', hc'⟩ := hs.block e.symm
  rw [hb] at hc'
  simp at hc'
theorem CpR.far {w : World} {z : Sz} {g i : Nat} {t : TypeId} {cs : Array Value} (h : CpR w z) (hg : w.heap[g]? = some (.cells cs t (0, 0))) (ht : t ≠ 5) (u : Value) : CpR (w.setCell ⟨g, i, none⟩ u) z := own_same h fun k cs' hk hb => by
  have hne : g ≠ k := fun e => by
    rw [e, hb] at hg
    simp at hg
    exact ht hg.2.symm
  simp [World.setCell, Array.getElem?_modify, hne]
end Go.Proofs.Ytebkfkijlopmoaa

