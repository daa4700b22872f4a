import Derived.Test.YtoipjmjhplkibaaDoorQ34
import Derived.Test.YtoipjmjhplkibaaDoorQ35
import Derived.Test.YtoipjmjhplkibaaDoorQ27
import Derived.Test.YtoipjmjhplkibaaDoorQ52
import Derived.Test.YtoipjmjhplkibaaDoorQ14
/- The state of SnapGathers: a basket, the law's two rows, and the row of chunks. -/
namespace Go.Proofs.YtoipjmjhplkibaaDoor
open Go.RowKit
set_option maxRecDepth 100000
set_option linter.unusedSimpArgs false
set_option linter.unusedVariables false

theorem infoStr : (Tryd.prog.info? 9).map (fun i => (i.zero, i.size, i.bytes)) = some (some (.string ByteArray.empty), 1, 16) := by kernel_rfl
theorem make_bools (N : Nat) (hN : N ≤ 1000) (W : World) : (Instr.makeSlice 35 (.int .i64 (N : Int)) (.int .i64 (N : Int))).run Tryd.prog W = .ok (.slice (some ⟨W.heap.size, 0, none⟩) N N) (W.alloc (.cells (Array.replicate N (.bool false)) 4)) := by
  obtain ⟨i0, hi, hz0, hz1, hz2⟩ := info_parts infoBool
  have := run_make (P := Tryd.prog) W 35 4 i0 (.bool false) Tryd.underlying35 hi hz0 .i64 .i64 (N : Int) (N : Int) (by omega) (Int.le_refl _) (by rw [hz2]; omega) (by omega)
  rw [Int.toNat_natCast, hz1, made_zero _ rfl, List.toArray_replicate] at this
  exact this
theorem make_strs (N : Nat) (hN : N ≤ 1000) (W : World) : (Instr.makeSlice 36 (.int .i64 (N : Int)) (.int .i64 (N : Int))).run Tryd.prog W = .ok (.slice (some ⟨W.heap.size, 0, none⟩) N N) (W.alloc (.cells (Array.replicate N (.string ByteArray.empty)) 9)) := by
  obtain ⟨i0, hi, hz0, hz1, hz2⟩ := info_parts infoStr
  have := run_make (P := Tryd.prog) W 36 9 i0 (.string ByteArray.empty) Tryd.underlying36 hi hz0 .i64 .i64 (N : Int) (N : Int) (by omega) (Int.le_refl _) (by rw [hz2]; omega) (by omega)
  rw [Int.toNat_natCast, hz1, made_zero _ rfl, List.toArray_replicate] at this
  exact this

theorem step_append_own {ops : Array Oper} {o : Oper} {a : Act} {w : World} {K : Act → World → Prop} {Q : Exit → Act → World → Prop} {E : Prop}
    (hg : o.guard = none) (s x : Operand) (ho : o.op = .call { callee := .builtin .append, args := #[s, x], argTypes := #[22, 22] })
    (n₀ : Nat) (v : Value) (l : List Nat) (hs : a.eval s = v) (hown : Fr.Own n₀ w v l) (hn₀ : n₀ ≤ w.heap.size)
    (n₁ : Nat) (xv : Value) (r : List Nat) (hx : a.eval x = xv) (hB : Fr.Bs n₁ w xv r) (hlen : l.length + r.length ≤ 140737488355328)
    (hK : ∀ v' w', Fr.Own n₀ w' v' (l ++ r) → Below n₀ w w' → K (a.put o.dst v') w') :
    if Region.wanted o (yielded ops a.tmps) = true then Oper.wp Tryd.prog o a w K Q else E := by
  have hw : Region.wanted o (yielded ops a.tmps) = true := by simp [Region.wanted, hg]
  rw [if_pos hw]
  obtain ⟨v', w', hrun, r1, r2, _, _⟩ := Fr.run_append_bs w o.type n₀ v l hown hn₀ n₁ xv r hB hlen
  unfold Oper.wp
  simp [execOp, ho, resolve, invoke, builtin, hs, hx, hrun, Result.andThen]
  exact hK v' w' r1 r2

/-- Texts as they lie in a row. -/
def sc (S : List (List Nat)) : List Value := S.map fun s => .string (Fr.str s)

/-- All that the law has, at its loop's head. -/
structure GSt (w : World) (l : List Nat) (q g1 g2 gl h1 h2 : Nat) (vs : List Value) (wr : World) (B : List Nat) (H : List Bool) (S : List (List Nat)) : Prop where
  bk : BkAt wr q g1 g2 B H
  has : wr.heap[h1]? = some (.cells (H.map Value.bool).toArray 4 (0, 0))
  had : wr.heap[h2]? = some (.cells (sc S).toArray 9 (0, 0))
  row : ∀ i v, vs[i]? = some v → wr.cell? ⟨gl, i, none⟩ = some v
  bel : Below w.heap.size w wr
  inv : GInv l B H S
  n1 : h1 ≠ q ∧ h1 ≠ g1 ∧ h1 ≠ g2 ∧ h1 ≠ gl
  n2 : h2 ≠ q ∧ h2 ≠ g1 ∧ h2 ≠ g2 ∧ h2 ≠ gl ∧ h2 ≠ h1
  n3 : gl ≠ g1 ∧ gl ≠ g2
  n4 : w.heap.size ≤ g1 ∧ w.heap.size ≤ g2 ∧ w.heap.size ≤ h1 ∧ w.heap.size ≤ h2

theorem GSt.below {w : World} {l : List Nat} {q g1 g2 gl h1 h2 : Nat} {vs : List Value} {wr wr' : World} {B : List Nat} {H : List Bool} {S : List (List Nat)} (h : GSt w l q g1 g2 gl h1 h2 vs wr B H S) (hb : Below wr.heap.size wr wr') : GSt w l q g1 g2 gl h1 h2 vs wr' B H S := by
  have k : ∀ {i : Nat} {o : Obj}, wr.heap[i]? = some o → wr'.heap[i]? = some o := fun {i o} hi => (hb.block i (Array.getElem?_eq_some_iff.1 hi).1).trans hi
  exact ⟨⟨k h.bk.box, k h.bk.row, k h.bk.has, h.bk.len, h.bk.few, h.bk.ne⟩, k h.has, k h.had, fun i v hv => (hb.cell (p := ⟨gl, i, none⟩) (World.block_lt_of_cell? wr _ (h.row i v hv))).trans (h.row i v hv), h.bel.trans (hb.mono h.bel.size), h.inv, h.n1, h.n2, h.n3, h.n4⟩

/-- What a chunk that is taken leaves. -/
theorem GSt.put {w : World} {l : List Nat} {q g1 g2 gl h1 h2 : Nat} {vs : List Value} {wr w2 : World} {B : List Nat} {H : List Bool} {S : List (List Nat)} (h : GSt w l q g1 g2 gl h1 h2 vs wr B H S) (m : Nat) (hm : m < H.length) (c : List Nat) (hc : c.length = (chAt B m).length) (h8 : ∀ x ∈ c, x < 256)
    (hbk : BkAt w2 q g1 g2 (splice B (m * 256) c) (H.set m true)) (w1 : World) (hb : Below wr.heap.size ((wr.setCell ⟨h1, m, none⟩ (.bool true)).setCell ⟨h2, m, none⟩ (.string (Fr.str c))) w1) (hk : Kept (fun b => b = g1 ∨ b = g2) w1 w2) : GSt w l q g1 g2 gl h1 h2 vs w2 (splice B (m * 256) c) (H.set m true) (S.set m c) := by
  have l1 := (Array.getElem?_eq_some_iff.1 h.has).1
  have l2 := (Array.getElem?_eq_some_iff.1 h.had).1
  have hsz : ((wr.setCell ⟨h1, m, none⟩ (.bool true)).setCell ⟨h2, m, none⟩ (.string (Fr.str c))).heap.size = wr.heap.size := by simp [World.setCell]
  have hsz1 : wr.heap.size ≤ w1.heap.size := by have := hb.size; rw [hsz] at this; exact this
  have e1 : ((wr.setCell ⟨h1, m, none⟩ (.bool true)).setCell ⟨h2, m, none⟩ (.string (Fr.str c))).heap[h1]? = some (.cells ((H.set m true).map Value.bool).toArray 4 (0, 0)) := by
    rw [Below.heap_setCell _ _ _ _ (fun e => h.n2.2.2.2.2 e.symm)]
    simp [World.setCell, Array.getElem?_modify, h.has, List.map_set]
  have e2 : ((wr.setCell ⟨h1, m, none⟩ (.bool true)).setCell ⟨h2, m, none⟩ (.string (Fr.str c))).heap[h2]? = some (.cells (sc (S.set m c)).toArray 9 (0, 0)) := by
    have e : (wr.setCell ⟨h1, m, none⟩ (.bool true)).heap[h2]? = some (.cells (sc S).toArray 9 (0, 0)) := by
      rw [Below.heap_setCell _ _ _ _ h.n2.2.2.2.2]
      exact h.had
    have e' : (sc S).set m (.string (Fr.str c)) = sc (S.set m c) := by unfold sc; rw [List.map_set]
    rw [← e']
    simp [World.setCell, Array.getElem?_modify] at e ⊢
    simp [e]
  have hkb : Below w.heap.size w1 w2 := hk.below (Nat.le_trans h.bel.size hsz1) (fun b hb => by rcases hb with rfl | rfl; exact h.n4.1; exact h.n4.2.1)
  have hset : Below w.heap.size w ((wr.setCell ⟨h1, m, none⟩ (.bool true)).setCell ⟨h2, m, none⟩ (.string (Fr.str c))) := (h.bel.setCell (p := ⟨h1, m, none⟩) h.n4.2.2.1 _).setCell (p := ⟨h2, m, none⟩) h.n4.2.2.2 _
  refine ⟨hbk, ?_, ?_, fun i v hv => ?_, (hset.trans (hb.mono h.bel.size)).trans hkb, h.inv.put m hm c hc h8, h.n1, h.n2, h.n3, h.n4⟩
  · rw [hk.block h1 (by omega) (by rintro (e | e); exact h.n1.2.1 e; exact h.n1.2.2.1 e), hb.block h1 l1]
    exact e1
  · rw [hk.block h2 (by omega) (by rintro (e | e); exact h.n2.2.1 e; exact h.n2.2.2.1 e), hb.block h2 l2]
    exact e2
  · have hc0 := h.row i v hv
    have hl := World.block_lt_of_cell? wr _ hc0
    have hc1 : ((wr.setCell ⟨h1, m, none⟩ (.bool true)).setCell ⟨h2, m, none⟩ (.string (Fr.str c))).cell? ⟨gl, i, none⟩ = some v := by
      rw [← hc0]
      unfold World.cell?
      dsimp only
      rw [Below.heap_setCell _ _ _ _ (fun e => h.n2.2.2.2.1 e.symm), Below.heap_setCell _ _ _ _ (fun e => h.n1.2.2.2 e.symm)]
    have hc2 := (hb.cell (p := ⟨gl, i, none⟩) hl).trans hc1
    exact hk.cell hc2 (by rintro (e | e); exact h.n3.1 e; exact h.n3.2 e)
/-- The row of chunks, by its cells. -/
theorem Ck.cellsOf {n₀ e₀ : Nat} {w : World} {g n cap : Nat} {ds : List (List Nat)} (h : Ck n₀ e₀ w (.slice (some ⟨g, 0, none⟩) n cap) ds) : ∃ vs : List Value, (n₀ ≤ g ∧ g < w.heap.size) ∧ (∀ (i : Nat) (v : Value), vs[i]? = some v → w.cell? ⟨g, i, none⟩ = some v) ∧ ∀ (i : Nat) (d : List Nat), ds[i]? = some d → ∃ a c, vs[i]? = some (.slice a d.length c) ∧ Fr.Bs e₀ w (.slice a d.length c) d := by
  obtain ⟨vs, h1, h2, h3⟩ := h
  have hlt := World.ownsRow.lt h1 g rfl
  refine ⟨vs, hlt, fun i v hv => ?_, fun i d hd => ?_⟩
  · have hi := (List.getElem?_eq_some_iff.1 hv).1
    obtain ⟨g', cap', hs, -, hc⟩ := row_cell h1 (by omega)
    cases hs
    have := hc i v hv
    rw [Nat.zero_add] at this
    exact this
  · have hi := (List.getElem?_eq_some_iff.1 hd).1
    have hv : vs[i]? = some vs[i] := List.getElem?_eq_getElem (by omega)
    have hB := h3 i _ d hv hd
    obtain ⟨a, c, e, -⟩ := id hB
    rw [e] at hB hv
    exact ⟨a, c, hv, hB⟩

/-- The state ahead of the loop. -/
theorem GSt.start {w w1 w2 : World} {l : List Nat} {q g1 g2 gl : Nat} {vs : List Value} (hbk : BkAt w1 q g1 g2 (List.replicate l.length 0) (List.replicate (chunks l.length) false)) (hb1 : Below w.heap.size w w1) (hb2 : Below w1.heap.size w1 w2) (hq0 : w.heap.size ≤ q) (hg1 : w.heap.size ≤ g1) (hg2 : w.heap.size ≤ g2) (hgl : w1.heap.size ≤ gl ∧ gl < w2.heap.size) (hvs : ∀ i v, vs[i]? = some v → w2.cell? ⟨gl, i, none⟩ = some v) (hinv : GInv l (List.replicate l.length 0) (List.replicate (chunks l.length) false) (List.replicate (chunks l.length) [])) :
    GSt w l q g1 g2 gl w2.heap.size (w2.heap.size + 1) vs ((w2.alloc (.cells (Array.replicate (chunks l.length) (.bool false)) 4)).alloc (.cells (Array.replicate (chunks l.length) (.string ByteArray.empty)) 9)) (List.replicate l.length 0) (List.replicate (chunks l.length) false) (List.replicate (chunks l.length) []) := by
  have s1 : (w2.alloc (.cells (Array.replicate (chunks l.length) (.bool false)) 4)).heap.size = w2.heap.size + 1 := by simp
  have a1 := (Below.refl w2.heap.size w2).alloc (Nat.le_refl _) (.cells (Array.replicate (chunks l.length) (.bool false)) 4)
  have a2 := a1.alloc (by rw [s1]; omega) (.cells (Array.replicate (chunks l.length) (.string ByteArray.empty)) 9)
  have n1 := heap_alloc_new w2 (.cells (Array.replicate (chunks l.length) (.bool false)) 4)
  have n2 := heap_alloc_new (w2.alloc (.cells (Array.replicate (chunks l.length) (.bool false)) 4)) (.cells (Array.replicate (chunks l.length) (.string ByteArray.empty)) 9)
  rw [s1] at n2
  have lq := (Array.getElem?_eq_some_iff.1 hbk.box).1
  have l1 := (Array.getElem?_eq_some_iff.1 hbk.row).1
  have l2 := (Array.getElem?_eq_some_iff.1 hbk.has).1
  have z1 := hb1.size
  have z2 := hb2.size
  have k : ∀ {i : Nat} {o : Obj}, i < w1.heap.size → w1.heap[i]? = some o → ((w2.alloc (.cells (Array.replicate (chunks l.length) (.bool false)) 4)).alloc (.cells (Array.replicate (chunks l.length) (.string ByteArray.empty)) 9)).heap[i]? = some o := fun {i o} hi ho => by
    rw [a2.block i (by omega), hb2.block i hi]
    exact ho
  refine ⟨⟨k lq hbk.box, k l1 hbk.row, k l2 hbk.has, hbk.len, hbk.few, hbk.ne⟩, ?_, ?_, fun i v hv => (a2.cell (p := ⟨gl, i, none⟩) hgl.2).trans (hvs i v hv), (hb1.trans (hb2.mono z1)).trans (a2.mono (by omega)), hinv, ⟨by omega, by omega, by omega, by omega⟩, ⟨by omega, by omega, by omega, by omega, by omega⟩, ⟨by omega, by omega⟩, ⟨by omega, by omega, by omega, by omega⟩⟩
  · rw [heap_alloc_old _ _ (by omega), n1]
    simp
  · rw [n2]
    simp [sc]
    right
    rfl
theorem GSt.hascell {w : World} {l : List Nat} {q g1 g2 gl h1 h2 : Nat} {vs : List Value} {wr : World} {B : List Nat} {H : List Bool} {S : List (List Nat)} (h : GSt w l q g1 g2 gl h1 h2 vs wr B H S) {m : Nat} {b : Bool} (hm : H[m]? = some b) : wr.cell? ⟨h1, m, none⟩ = some (.bool b) := by
  rw [Fr.cells_of_block h.has, List.getElem?_toArray, List.getElem?_map, hm]
  rfl
theorem GSt.hadcell {w : World} {l : List Nat} {q g1 g2 gl h1 h2 : Nat} {vs : List Value} {wr : World} {B : List Nat} {H : List Bool} {S : List (List Nat)} (h : GSt w l q g1 g2 gl h1 h2 vs wr B H S) {m : Nat} {s : List Nat} (hm : S[m]? = some s) : wr.cell? ⟨h2, m, none⟩ = some (.string (Fr.str s)) := by
  rw [Fr.cells_of_block h.had, List.getElem?_toArray]
  unfold sc
  rw [List.getElem?_map, hm]
  rfl
theorem GSt.big {w : World} {l : List Nat} {q g1 g2 gl h1 : Nat} {vs : List Value} {wr : World} {B : List Nat} {H : List Bool} {S : List (List Nat)} (h : GSt w l q g1 g2 gl h1 (h1 + 1) vs wr B H S) : h1 + 2 ≤ wr.heap.size := (Array.getElem?_eq_some_iff.1 h.had).1
/-- Bytes of the input, in another world behind it. -/
theorem bs_swap {n : Nat} {w w2 W : World} {v : Value} {l : List Nat} (h : Fr.Bs n w2 v l) (h1 : Below n w w2) (h2 : Below n w W) : Fr.Bs n W v l := by
  obtain ⟨ao, cap, e, a, b, c, d⟩ := h
  refine ⟨ao, cap, e, a, b, c, fun hne => ?_⟩
  obtain ⟨bb, off, e1, e2, e3⟩ := d hne
  exact ⟨bb, off, e1, e2, fun j x hj => (h2.cell (p := ⟨bb, off + j, none⟩) e2).trans ((h1.cell (p := ⟨bb, off + j, none⟩) e2).symm.trans (e3 j x hj))⟩
/-- What the law's own stores leave. -/
theorem GSt.stored {w : World} {l : List Nat} {q g1 g2 gl h1 h2 : Nat} {vs : List Value} {wr : World} {B : List Nat} {H : List Bool} {S : List (List Nat)} (h : GSt w l q g1 g2 gl h1 h2 vs wr B H S) (m : Nat) (t : ByteArray) :
    (∀ W, Below wr.heap.size ((wr.setCell ⟨h1, m, none⟩ (.bool true)).setCell ⟨h2, m, none⟩ (.string t)) W → BkAt W q g1 g2 B H) ∧ Below w.heap.size w ((wr.setCell ⟨h1, m, none⟩ (.bool true)).setCell ⟨h2, m, none⟩ (.string t)) ∧ Below w.heap.size w (wr.setCell ⟨h1, m, none⟩ (.bool true)) ∧ ((wr.setCell ⟨h1, m, none⟩ (.bool true)).setCell ⟨h2, m, none⟩ (.string t)).heap.size = wr.heap.size ∧ wr.frozen? ⟨h1, m, none⟩ = false ∧ (wr.setCell ⟨h1, m, none⟩ (.bool true)).frozen? ⟨h2, m, none⟩ = false ∧
    (∀ u, wr.cell? ⟨h2, m, none⟩ = some u → (wr.setCell ⟨h1, m, none⟩ (.bool true)).cell? ⟨h2, m, none⟩ = some u) ∧ ∀ b i u, b ≠ h1 → b ≠ h2 → wr.cell? ⟨b, i, none⟩ = some u → (wr.setCell ⟨h1, m, none⟩ (.bool true)).cell? ⟨b, i, none⟩ = some u ∧ ((wr.setCell ⟨h1, m, none⟩ (.bool true)).setCell ⟨h2, m, none⟩ (.string t)).cell? ⟨b, i, none⟩ = some u := by
  have o : ∀ k, k ≠ h1 → k ≠ h2 → ((wr.setCell ⟨h1, m, none⟩ (.bool true)).setCell ⟨h2, m, none⟩ (.string t)).heap[k]? = wr.heap[k]? := fun k e1 e2 => by rw [Below.heap_setCell _ _ _ _ e2, Below.heap_setCell _ _ _ _ e1]
  have o1 : ∀ k, k ≠ h1 → (wr.setCell ⟨h1, m, none⟩ (.bool true)).heap[k]? = wr.heap[k]? := fun k e1 => Below.heap_setCell _ _ _ _ e1
  have hset1 : Below w.heap.size w (wr.setCell ⟨h1, m, none⟩ (.bool true)) := h.bel.setCell (p := ⟨h1, m, none⟩) h.n4.2.2.1 _
  have hset : Below w.heap.size w ((wr.setCell ⟨h1, m, none⟩ (.bool true)).setCell ⟨h2, m, none⟩ (.string t)) := hset1.setCell (p := ⟨h2, m, none⟩) h.n4.2.2.2 _
  have hh2 : (wr.setCell ⟨h1, m, none⟩ (.bool true)).heap[h2]? = some (.cells (sc S).toArray 9 (0, 0)) := by rw [o1 h2 h.n2.2.2.2.2]; exact h.had
  refine ⟨fun W hb => ?_, hset, hset1, by simp [World.setCell], Fr.frozen_of h.has m, Fr.frozen_of hh2 m, fun u hu => ?_, fun b i u e1 e2 hu => ?_⟩
  · have k : ∀ {i : Nat} {ob : Obj}, i ≠ h1 → i ≠ h2 → wr.heap[i]? = some ob → W.heap[i]? = some ob := fun {i ob} e1 e2 hi => by
      rw [hb.block i (Array.getElem?_eq_some_iff.1 hi).1, o i e1 e2]
      exact hi
    exact ⟨k (fun e => h.n1.1 e.symm) (fun e => h.n2.1 e.symm) h.bk.box, k (fun e => h.n1.2.1 e.symm) (fun e => h.n2.2.1 e.symm) h.bk.row, k (fun e => h.n1.2.2.1 e.symm) (fun e => h.n2.2.2.1 e.symm) h.bk.has, h.bk.len, h.bk.few, h.bk.ne⟩
  · rw [← hu]
    unfold World.cell?
    dsimp only
    rw [o1 h2 h.n2.2.2.2.2]
  · rw [← hu]
    unfold World.cell?
    dsimp only
    rw [o1 b e1, o b e1 e2]
    exact ⟨rfl, rfl⟩
theorem miss_prefix (H : List Bool) (a : Nat) : ∀ k, ∃ t, missU H (a + k) = missU H a ++ t
  | 0 => ⟨[], by simp⟩
  | k + 1 => by
    obtain ⟨t, ht⟩ := miss_prefix H a k
    refine ⟨t ++ (if H[a + k]? = some false then [a + k] else []), ?_⟩
    rw [← Nat.add_assoc, missU, ht, List.append_assoc]
theorem miss_at {H : List Bool} {j : Nat} (hj : j < H.length) (h : H[j]? = some false) : (missL H)[(missU H j).length]? = some j ∧ (missU H (j + 1)).length = (missU H j).length + 1 := by
  have e : missU H (j + 1) = missU H j ++ [j] := by rw [missU, if_pos h]
  refine ⟨?_, by rw [e]; simp⟩
  obtain ⟨t, ht⟩ := miss_prefix H (j + 1) (H.length - (j + 1))
  rw [show j + 1 + (H.length - (j + 1)) = H.length by omega] at ht
  unfold missL
  rw [ht, e, List.append_assoc, List.getElem?_append_right (Nat.le_refl _)]
  simp
theorem miss_skip {H : List Bool} {j : Nat} (h : H[j]? = some true) : missU H (j + 1) = missU H j := by
  rw [missU, if_neg (by rw [h]; simp), List.append_nil]
theorem str_app (a b : List Nat) : Fr.str a ++ Fr.str b = Fr.str (a ++ b) := by
  apply ByteArray.ext
  simp [Fr.str, ByteArray.data_append]
theorem str_size (a : List Nat) : (Fr.str a).size = a.length := by
  show (Fr.str a).data.size = _
  simp [Fr.str]
theorem flat_small : ∀ (S : List (List Nat)), (∀ s ∈ S, s.length ≤ 256) → S.flatten.length ≤ 256 * S.length
  | [], _ => by simp
  | s :: S, h => by
    have h1 := h s List.mem_cons_self
    have h2 := flat_small S fun x hx => h x (List.mem_cons_of_mem _ hx)
    rw [List.flatten_cons, List.length_append, List.length_cons]
    omega
end Go.Proofs.YtoipjmjhplkibaaDoor

/- The law SnapGathers answers true and leaves all memory as it was: the walk (written by wip/tools/gen_sgath.py). -/
namespace Go.Proofs.YtoipjmjhplkibaaDoor
open Go.RowKit
set_option maxRecDepth 100000
set_option linter.unusedSimpArgs false
set_option linter.unusedVariables false

set_option maxHeartbeats 8000000 in
theorem sgathers_law (l : List Nat) (ps : List Pt) (v pv : Value) (w : World) (hT : Tb w) (hB : Fr.Bs w.heap.size w v l) (hl : ∀ c ∈ l, c < 256) (hP : Pv w pv ps) (hok : ∀ x ∈ ps, PtOk x) (hsz : ∀ x ∈ ps, x.els.length ≤ 140737488355328) :
    Calls Tryd.prog 4 #[v, pv] w fun e w' => e = .returned (.bool true) ∧ Below w.heap.size w w' := by
  have haw : ∀ W, Below w.heap.size w W → Calls Tryd.prog 5 #[] W fun e w' => e = .returned (.bool true) ∧ Below W.heap.size W w' := fun W hb => sawake_of W (hT.new hb)
  obtain ⟨a, c, rfl, hlc, hcm, -⟩ := id hB
  obtain ⟨ap, cp, rfl, hat⟩ := id hP
  by_cases hlong : l.length ≤ 32768
  · have hlg : ¬ (32768 : Int) < (l.length : Int) := by omega
    have kg := gather_of l.length w hlong
    have kC : ∀ W, Below w.heap.size w W → Calls Tryd.prog 6 #[.slice a l.length c] W fun e w' => ∃ ov, e = .returned ov ∧ Ck W.heap.size w.heap.size w' ov (chk l) ∧ Below W.heap.size W w' := fun W hb => refChunks_of w.heap.size l _ W (hB.below hb) hb.size (by omega)
    have hlen := chk_len l
    have hN : chunks l.length ≤ 200 := by unfold chunks; omega
    have hNp := chunks_pos l.length
    have mk1 := make_bools (chunks l.length) (by omega)
    have mk2 := make_strs (chunks l.length) (by omega)
    have hst0 := GInv.start l
    have hchk : ∀ i, i < chunks l.length → (chk l)[i]? = some (chAt l i) := fun i hi => chk_at hi
    go_enter Tryd.func4, Tryd.ntmps4
    go_wp2_with fail
    refine kg.mono ?_
    rintro e w1 ⟨q, g1, g2, rfl, hbk, ⟨hq0, hg10, hg20⟩, hb1⟩
    have kC1 := kC w1 hb1
    clear kg kC
    go_wp2_with fail
    refine kC1.mono ?_
    rintro e w2 ⟨ov, rfl, hCk, hb2⟩
    obtain ⟨ao, co, rfl⟩ := hCk.shape
    obtain ⟨gl, a0, c0, rfl, -, -⟩ := hCk.at (hchk 0 hNp)
    have hrow := hCk.cellsOf
    rw [hlen] at *
    obtain ⟨vs, hglb, hvs, hBs⟩ := hrow
    have hst : GSt w l q g1 g2 gl w2.heap.size (w2.heap.size + 1) vs ((w2.alloc (.cells (Array.replicate (chunks l.length) (.bool false)) 4)).alloc (.cells (Array.replicate (chunks l.length) (.string ByteArray.empty)) 9)) (List.replicate l.length 0) (List.replicate (chunks l.length) false) (List.replicate (chunks l.length) []) :=
      GSt.start hbk hb1 hb2 hq0 hg10 hg20 hglb hvs hst0
    have hb12 := hb1.trans (hb2.mono hb1.size)
    have hBs' : ∀ i, i < chunks l.length → ∃ am cm, vs[i]? = some (.slice am (chAt l i).length cm) ∧ Fr.Bs w.heap.size w2 (.slice am (chAt l i).length cm) (chAt l i) := fun i hi => hBs i _ (hchk i hi)
    clear kC1 hCk hBs hvs hbk hst0
    go_wp2
    clear mk1 mk2
    have hcl0 : Hid (chunks l.length = chunks l.length) := rfl
    generalize hNN' : chunks l.length = N at *
    have hNN : Hid (chunks l.length = N) := hNN'
    clear hNN' hcl0
    generalize (w2.alloc (.cells (Array.replicate N (.bool false)) 4)).alloc (.cells (Array.replicate N (.string ByteArray.empty)) 9) = w3 at *
    go_loopg [10] 300 (fun g s10 wr => ∃ i : Nat, i + g = 300 ∧ s10 = .int .i64 (i : Int) ∧ ∃ B H S, GSt w l q g1 g2 gl w2.heap.size (w2.heap.size + 1) vs wr B H S)
    case atStart => exact ⟨0, by simp, rfl, _, _, _, hst⟩
    case round =>
      obtain ⟨i, hi, rfl, B, H, S, hG⟩ := hrel
      have hHN : H.length = N := by rw [hG.inv.hl]; exact hNN.out
      by_cases hgo : i < ps.length ∧ i < 300
      · have hlt1 : (i : Int) < (ps.length : Int) := by omega
        have hlt2 : (i : Int) < 300 := by omega
        have hx : ps[i]? = some ps[i] := List.getElem?_eq_getElem hgo.1
        have hxm := List.getElem_mem hgo.1
        obtain ⟨b, off, vs0, rfl, ⟨bv, rfl, hBx⟩, hc⟩ := hat i ps[i] hx
        have hx8 := hok _ hxm
        have hx47 := hsz _ hxm
        have hc0 : ∀ (j : Nat) (u : Value), [Value.int .i64 ps[i].i, bv, .bool ps[i].own][j]? = some u → wr.cell? ⟨b, off + i * 3 + j, none⟩ = some u := fun j u hu => (hG.bel.cell (p := ⟨b, off + i * 3 + j, none⟩) (World.block_lt_of_cell? w _ (hc j u hu))).trans (hc j u hu)
        generalize ps[i] = x at *
        obtain ⟨XI, els, own⟩ := x
        dsimp only at *
        have d0 := hc0 0 _ rfl
        have d1 := hc0 1 _ rfl
        have d2 := hc0 2 _ rfl
        rw [Nat.add_zero] at d0
        obtain ⟨ae, ce, hbv, -, -, -⟩ := id hBx
        subst hbv
        have hbx := (Below.refl wr.heap.size wr).alloc (Nat.le_refl _) (.cells #[.int .i64 XI, .slice ae els.length ce, .bool own] 38)
        have hbk := heap_alloc_new wr (.cells #[.int .i64 XI, .slice ae els.length ce, .bool own] 38)
        have hGb := hG.below hbx
        have p0 : (wr.alloc (.cells #[.int .i64 XI, .slice ae els.length ce, .bool own] 38)).cell? ⟨wr.heap.size, 0, none⟩ = some (.int .i64 XI) := by rw [Fr.cells_of_block hbk]; rfl
        have hbc := hGb.bel
        have hpl : wr.heap.size < (wr.alloc (.cells #[.int .i64 XI, .slice ae els.length ce, .bool own] 38)).heap.size := by simp
        have hgz : Hid (g1 < wr.heap.size ∧ g2 < wr.heap.size) := ⟨(Array.getElem?_eq_some_iff.1 hG.bk.row).1, (Array.getElem?_eq_some_iff.1 hG.bk.has).1⟩
        have hwz : Hid (w2.heap.size + 2 ≤ wr.heap.size) := hG.big
        clear hc0 hc hx hxm hat hbk hgo
        by_cases hin : 0 ≤ XI ∧ XI < (N : Int)
        · obtain ⟨m, rfl⟩ : ∃ m : Nat, XI = (m : Int) := ⟨XI.toNat, by omega⟩
          obtain ⟨am, cm, hvm, hBm⟩ := hBs' m (by omega)
          have hmH : m < H.length := by rw [hHN]; omega
          have hchB : (chAt B m).length = (chAt l m).length := by rw [chAt_len, chAt_len, hG.inv.bl]
          have hD8 := chAt_bytes hl m
          have r0 := hGb.row m _ hvm
          have e1 : (m : Int) < (N : Int) := hin.2
          have e2 : ¬ (m : Int) < 0 := by omega
          have e3 : (0 : Int) ≤ (m : Int) := hin.1
          have hbw2 : Below w.heap.size w w2 := hb12
          obtain ⟨D, hD⟩ : ∃ D, chAt l m = D := ⟨_, rfl⟩
          rw [hD] at hBm hvm hchB hD8 r0
          clear hD hin hvm hBs' hb12
          cases own with
          | false =>
            have hBcl : ∀ W, Below w.heap.size w W → Fr.Bs w.heap.size W (.slice ae els.length ce) els := fun W hb => hBx.below hb
            by_cases hlen1' : els.length = D.length
            · have hlB : Hid (els.length = (chAt B m).length) := hlen1'.trans hchB.symm
              have hlnj : (((els.length : Nat) : Int) != ((D.length : Nat) : Int)) = false := by rw [hlen1']; simp
              rw [hlen1'] at hBx hbx hGb p0 hbc hpl hBcl d1 r0
              clear hlnj hlen1' hchB
              have hcl8 : ∀ y ∈ els, y < 256 := hx8
              have hcl47 : els.length ≤ 140737488355328 := hx47
              by_cases hHt : H[m]? = some true
              · by_cases hcleq : els = chAt B m
                · have hsame : H[m]? = some true → ([] ++ els) = chAt B m := fun _ => hcleq
                  have hcq : Hid (els = chAt B m) := hcleq
                  have hsm : Hid (H[m]? = some true → ([] ++ els) = chAt B m) := hsame
                  clear hcleq hsame
                  go_wp2
                  refine gen_world ?_
                  intro Wb hWb
                  rw [← hWb] at hGb p0 hbc hpl hbx r0
                  have y0 := p0
                  clear hWb d0 d1 d2 hbx
                  have sv := fun k => Fr.str_of (hBcl _ (below_drewN hbc k)) hcl8
                  have c8 := hGb.hascell hHt
                  have c9 := hGb.hadcell (hGb.inv.yes m hHt)
                  rw [← hcq.out] at c9
                  go_big_quiet (fail)
                  refine gen_world ?_
                  intro Wd hWd
                  have hbd : Below Wb.heap.size Wb Wd := by rw [hWd]; exact below_drewN (Below.refl _ _) _
                  have hGd := hGb.below hbd
                  have yd := (hbd.cell (p := ⟨wr.heap.size, 0, none⟩) hpl).trans y0
                  have hpd : wr.heap.size < Wd.heap.size := Nat.lt_of_lt_of_le hpl hbd.size
                  clear hWd sv c8 r0 p0 y0 hbc
                  try clear c9
                  have y0 := yd
                  have hbc := hGd.bel
                  obtain ⟨SM, hSM⟩ : ∃ SM, S[m]? = some SM := ⟨_, List.getElem?_eq_getElem (by rw [hGd.inv.sl]; exact hmH)⟩
                  obtain ⟨HM, hHM⟩ : ∃ HM, H[m]? = some HM := ⟨_, List.getElem?_eq_getElem hmH⟩
                  have hpg : Hid (¬ (wr.heap.size = g1 ∨ wr.heap.size = g2)) := fun h => by have := hgz.out; omega
                  obtain ⟨t1, t2, t3, t4, t5, t6, t7, t8⟩ := hGd.stored m (Fr.str els)
                  have x1 := hGd.hascell hHM
                  have x2 := t7 _ (hGd.hadcell hSM)
                  have x3 := t8 wr.heap.size 0 _ (by have := hwz.out; omega) (by have := hwz.out; omega) y0
                  obtain ⟨x3a, x3b⟩ := x3
                  have sv2 := Fr.str_of (hBcl _ t3) hcl8
                  have hGput : ∀ w7 w6 : World, Below Wd.heap.size ((Wd.setCell ⟨w2.heap.size, m, none⟩ (.bool true)).setCell ⟨w2.heap.size + 1, m, none⟩ (.string (Fr.str els))) w6 → BkAt w7 q g1 g2 (splice B (m * 256) ([] ++ els)) (H.set m true) → Kept (fun b => b = g1 ∨ b = g2) w6 w7 → Hid (GSt w l q g1 g2 gl w2.heap.size (w2.heap.size + 1) vs w7 (splice B (m * 256) ([] ++ els)) (H.set m true) (S.set m els)) := fun w7 w6 a1 a2 a3 => hGd.put m hmH els hlB.out hcl8 a2 w6 a1 a3
                  clear t7 t8
                  go_wp2
                  refine gen_world ?_
                  intro Wt hWt
                  rw [← hWt] at t1 t2 t4 x3b
                  have hGput : ∀ w7 w6 : World, Below Wt.heap.size Wt w6 → BkAt w7 q g1 g2 (splice B (m * 256) ([] ++ els)) (H.set m true) → Kept (fun b => b = g1 ∨ b = g2) w6 w7 → Hid (GSt w l q g1 g2 gl w2.heap.size (w2.heap.size + 1) vs w7 (splice B (m * 256) ([] ++ els)) (H.set m true) (S.set m els)) := fun w7 w6 a1 a2 a3 => hGput w7 w6 (by rw [← hWt, ← t4]; exact a1) a2 a3
                  have hbkT : ∀ W, Below Wt.heap.size Wt W → BkAt W q g1 g2 B H := fun W hW => t1 W (by rw [← t4]; exact hW)
                  clear y0 hbc
                  have y0 := x3b
                  have hbc := t2
                  clear hWt t1 t2 t3 t4 t5 t6 x1 x2 x3a sv2
                  have hd5 : Below Wt.heap.size Wt Wt.drew := (Below.refl _ _).drew
                  have hO5 : Fr.Own Wt.drew.heap.size (Wt.drew.alloc (.cells #[] 5)) (.slice (some ⟨Wt.drew.heap.size, 0, none⟩) 0 0) [] := own_new Wt.drew #[] [] rfl (by simp)
                  have hb5 := (Below.refl Wt.drew.heap.size Wt.drew).alloc (Nat.le_refl _) (.cells #[] 5)
                  have hb05 := hd5.trans hb5
                  have hB5 := hBcl _ (hbc.trans (hb05.mono hbc.size))
                  have hl0 : ([] : List Nat).length + els.length ≤ 140737488355328 := by simpa using hcl47
                  have yk : ∀ W, Below Wt.heap.size Wt W → W.cell? ⟨wr.heap.size, 0, none⟩ = some (.int .i64 (m : Int)) := fun W hb => (hb.cell (p := ⟨wr.heap.size, 0, none⟩) (World.block_lt_of_cell? Wt _ y0)).trans y0
                  have kput := fun (W : World) (hW : Below Wt.heap.size Wt W) (a6 : Option Addr) (c6 : Nat) (hO : Fr.Own Wt.drew.heap.size W (.slice a6 ([] ++ els).length c6) ([] ++ els)) => put_ok (hbkT W hW) m hmH hGd.inv.b8 _ ([] ++ els) a6 c6 hO.bs hcl8 hlB.out hsm.out
                  clear hBcl hGb hGd hG hsm
                  go_wp2
                  go_region_held3 (fun w' => w'.cell? ⟨wr.heap.size, 0, none⟩ = some (.int .i64 (m : Int)))
                    (first | exact yk _ hd5 | exact yk _ hb05 | exact yk _ (hb05.trans hb6) | exact yk _ hb07 | exact y7 | go_keep)
                    (first
                      | (refine step_append_own (by rfl) _ _ (by rfl) Wt.drew.heap.size (.slice (some ⟨Wt.drew.heap.size, 0, none⟩) 0 0) [] (by rfl) hO5 hb5.size w.heap.size (.slice ae D.length ce) els (by rfl) hB5 hl0 ?_; intro v6 w6 hO6 hb6; obtain ⟨ao6, cap6, hv6⟩ := hO6.shape; subst hv6)
                      | (go_at_call 10; refine (kput w6 (hb05.trans hb6) _ _ hO6).mono ?_; rintro e w7 ⟨rfl, hbk7, hk7⟩; have hb07 := hb05.trans hb6; have y7 := hk7.cell (yk _ hb07) hpg.out; have hGn := hGput w7 w6 hb07 hbk7 hk7))
                  clear hbk7 hk7 kput yk hO6 hGput hbkT y7
                  go_wp2
                  go_roundg (gk - 1)
                  case measure => omega
                  case rel => exact ⟨i + 1, by omega, by go_num, _, _, _, hGn.out⟩
                · go_wp2
                  refine gen_world ?_
                  intro Wb hWb
                  rw [← hWb] at hGb p0 hbc hpl hbx r0
                  have y0 := p0
                  clear hWb d0 d1 d2 hbx
                  have sv := fun k => Fr.str_of (hBcl _ (below_drewN hbc k)) hcl8
                  have c8 := hGb.hascell hHt
                  have c9 := hGb.hadcell (hGb.inv.yes m hHt)
                  have hst := Fr.str_ne (chAt_bytes hGb.inv.b8 m) hcl8 (fun e => hcleq e.symm)
                  go_big_quiet (fail)
                  refine gen_world ?_
                  intro Wd hWd
                  have hbd : Below Wb.heap.size Wb Wd := by rw [hWd]; exact below_drewN (Below.refl _ _) _
                  have hGd := hGb.below hbd
                  have yd := (hbd.cell (p := ⟨wr.heap.size, 0, none⟩) hpl).trans y0
                  have hpd : wr.heap.size < Wd.heap.size := Nat.lt_of_lt_of_le hpl hbd.size
                  clear hWd sv c8 r0 p0 y0 hbc
                  try clear c9
                  have y0 := yd
                  have hbc := hGd.bel
                  have hGfin : ∀ W, Below Wd.heap.size Wd W → Hid (GSt w l q g1 g2 gl w2.heap.size (w2.heap.size + 1) vs W B H S) := fun W hW => hGd.below hW
                  have hd5 : Below Wd.heap.size Wd Wd.drew := (Below.refl _ _).drew
                  have hO5 : Fr.Own Wd.drew.heap.size (Wd.drew.alloc (.cells #[] 5)) (.slice (some ⟨Wd.drew.heap.size, 0, none⟩) 0 0) [] := own_new Wd.drew #[] [] rfl (by simp)
                  have hb5 := (Below.refl Wd.drew.heap.size Wd.drew).alloc (Nat.le_refl _) (.cells #[] 5)
                  have hb05 := hd5.trans hb5
                  have hB5 := hBcl _ (hbc.trans (hb05.mono hbc.size))
                  have hl0 : ([] : List Nat).length + els.length ≤ 140737488355328 := by simpa using hcl47
                  have yk : ∀ W, Below Wd.heap.size Wd W → W.cell? ⟨wr.heap.size, 0, none⟩ = some (.int .i64 (m : Int)) := fun W hb => (hb.cell (p := ⟨wr.heap.size, 0, none⟩) (World.block_lt_of_cell? Wd _ y0)).trans y0
                  have kput := fun (W : World) (hW : Below Wd.heap.size Wd W) (a6 : Option Addr) (c6 : Nat) (hO : Fr.Own Wd.drew.heap.size W (.slice a6 ([] ++ els).length c6) ([] ++ els)) => put_same (hGd.below hW).bk m hmH hGd.inv.b8 _ ([] ++ els) a6 c6 hO.bs hcl8 hlB.out hHt hcleq
                  clear hBcl hGb hGd hG hcleq hHt hst
                  go_wp2
                  go_region_held3 (fun w' => w'.cell? ⟨wr.heap.size, 0, none⟩ = some (.int .i64 (m : Int)))
                    (first | exact yk _ hd5 | exact yk _ hb05 | exact yk _ (hb05.trans hb6) | exact yk _ hb07 | exact y7 | go_keep)
                    (first
                      | (refine step_append_own (by rfl) _ _ (by rfl) Wd.drew.heap.size (.slice (some ⟨Wd.drew.heap.size, 0, none⟩) 0 0) [] (by rfl) hO5 hb5.size w.heap.size (.slice ae D.length ce) els (by rfl) hB5 hl0 ?_; intro v6 w6 hO6 hb6; obtain ⟨ao6, cap6, hv6⟩ := hO6.shape; subst hv6)
                      | (go_at_call 10; refine (kput w6 (hb05.trans hb6) _ _ hO6).mono ?_; rintro e w7 ⟨rfl, hw7⟩; rw [hw7]; have hb07 := hb05.trans hb6; have hGn := hGfin w6 hb07))
                  clear hw7 kput yk hO6
                  go_wp2
                  go_roundg (gk - 1)
                  case measure => omega
                  case rel => exact ⟨i + 1, by omega, by go_num, _, _, _, hGn.out⟩
              · have hHf : H[m]? = some false := by
                  have hx : H[m]? = some H[m] := List.getElem?_eq_getElem hmH
                  rw [hx] at hHt ⊢
                  cases hv : H[m] with
                  | true => rw [hv] at hHt; exact absurd rfl hHt
                  | false => rfl
                have hsm : Hid (H[m]? = some true → ([] ++ els) = chAt B m) := fun h => absurd h hHt
                clear hHt
                go_wp2
                refine gen_world ?_
                intro Wb hWb
                rw [← hWb] at hGb p0 hbc hpl hbx r0
                have y0 := p0
                clear hWb d0 d1 d2 hbx
                have sv := fun k => Fr.str_of (hBcl _ (below_drewN hbc k)) hcl8
                have c8 := hGb.hascell hHf
                go_big_quiet (fail)
                refine gen_world ?_
                intro Wd hWd
                have hbd : Below Wb.heap.size Wb Wd := by rw [hWd]; exact below_drewN (Below.refl _ _) _
                have hGd := hGb.below hbd
                have yd := (hbd.cell (p := ⟨wr.heap.size, 0, none⟩) hpl).trans y0
                have hpd : wr.heap.size < Wd.heap.size := Nat.lt_of_lt_of_le hpl hbd.size
                clear hWd sv c8 r0 p0 y0 hbc
                try clear c9
                have y0 := yd
                have hbc := hGd.bel
                obtain ⟨SM, hSM⟩ : ∃ SM, S[m]? = some SM := ⟨_, List.getElem?_eq_getElem (by rw [hGd.inv.sl]; exact hmH)⟩
                obtain ⟨HM, hHM⟩ : ∃ HM, H[m]? = some HM := ⟨_, List.getElem?_eq_getElem hmH⟩
                have hpg : Hid (¬ (wr.heap.size = g1 ∨ wr.heap.size = g2)) := fun h => by have := hgz.out; omega
                obtain ⟨t1, t2, t3, t4, t5, t6, t7, t8⟩ := hGd.stored m (Fr.str els)
                have x1 := hGd.hascell hHM
                have x2 := t7 _ (hGd.hadcell hSM)
                have x3 := t8 wr.heap.size 0 _ (by have := hwz.out; omega) (by have := hwz.out; omega) y0
                obtain ⟨x3a, x3b⟩ := x3
                have sv2 := Fr.str_of (hBcl _ t3) hcl8
                have hGput : ∀ w7 w6 : World, Below Wd.heap.size ((Wd.setCell ⟨w2.heap.size, m, none⟩ (.bool true)).setCell ⟨w2.heap.size + 1, m, none⟩ (.string (Fr.str els))) w6 → BkAt w7 q g1 g2 (splice B (m * 256) ([] ++ els)) (H.set m true) → Kept (fun b => b = g1 ∨ b = g2) w6 w7 → Hid (GSt w l q g1 g2 gl w2.heap.size (w2.heap.size + 1) vs w7 (splice B (m * 256) ([] ++ els)) (H.set m true) (S.set m els)) := fun w7 w6 a1 a2 a3 => hGd.put m hmH els hlB.out hcl8 a2 w6 a1 a3
                clear t7 t8
                go_wp2
                refine gen_world ?_
                intro Wt hWt
                rw [← hWt] at t1 t2 t4 x3b
                have hGput : ∀ w7 w6 : World, Below Wt.heap.size Wt w6 → BkAt w7 q g1 g2 (splice B (m * 256) ([] ++ els)) (H.set m true) → Kept (fun b => b = g1 ∨ b = g2) w6 w7 → Hid (GSt w l q g1 g2 gl w2.heap.size (w2.heap.size + 1) vs w7 (splice B (m * 256) ([] ++ els)) (H.set m true) (S.set m els)) := fun w7 w6 a1 a2 a3 => hGput w7 w6 (by rw [← hWt, ← t4]; exact a1) a2 a3
                have hbkT : ∀ W, Below Wt.heap.size Wt W → BkAt W q g1 g2 B H := fun W hW => t1 W (by rw [← t4]; exact hW)
                clear y0 hbc
                have y0 := x3b
                have hbc := t2
                clear hWt t1 t2 t3 t4 t5 t6 x1 x2 x3a sv2
                have hd5 : Below Wt.heap.size Wt Wt.drew := (Below.refl _ _).drew
                have hO5 : Fr.Own Wt.drew.heap.size (Wt.drew.alloc (.cells #[] 5)) (.slice (some ⟨Wt.drew.heap.size, 0, none⟩) 0 0) [] := own_new Wt.drew #[] [] rfl (by simp)
                have hb5 := (Below.refl Wt.drew.heap.size Wt.drew).alloc (Nat.le_refl _) (.cells #[] 5)
                have hb05 := hd5.trans hb5
                have hB5 := hBcl _ (hbc.trans (hb05.mono hbc.size))
                have hl0 : ([] : List Nat).length + els.length ≤ 140737488355328 := by simpa using hcl47
                have yk : ∀ W, Below Wt.heap.size Wt W → W.cell? ⟨wr.heap.size, 0, none⟩ = some (.int .i64 (m : Int)) := fun W hb => (hb.cell (p := ⟨wr.heap.size, 0, none⟩) (World.block_lt_of_cell? Wt _ y0)).trans y0
                have kput := fun (W : World) (hW : Below Wt.heap.size Wt W) (a6 : Option Addr) (c6 : Nat) (hO : Fr.Own Wt.drew.heap.size W (.slice a6 ([] ++ els).length c6) ([] ++ els)) => put_ok (hbkT W hW) m hmH hGd.inv.b8 _ ([] ++ els) a6 c6 hO.bs hcl8 hlB.out hsm.out
                clear hBcl hGb hGd hG hsm
                go_wp2
                go_region_held3 (fun w' => w'.cell? ⟨wr.heap.size, 0, none⟩ = some (.int .i64 (m : Int)))
                  (first | exact yk _ hd5 | exact yk _ hb05 | exact yk _ (hb05.trans hb6) | exact yk _ hb07 | exact y7 | go_keep)
                  (first
                    | (refine step_append_own (by rfl) _ _ (by rfl) Wt.drew.heap.size (.slice (some ⟨Wt.drew.heap.size, 0, none⟩) 0 0) [] (by rfl) hO5 hb5.size w.heap.size (.slice ae D.length ce) els (by rfl) hB5 hl0 ?_; intro v6 w6 hO6 hb6; obtain ⟨ao6, cap6, hv6⟩ := hO6.shape; subst hv6)
                    | (go_at_call 10; refine (kput w6 (hb05.trans hb6) _ _ hO6).mono ?_; rintro e w7 ⟨rfl, hbk7, hk7⟩; have hb07 := hb05.trans hb6; have y7 := hk7.cell (yk _ hb07) hpg.out; have hGn := hGput w7 w6 hb07 hbk7 hk7))
                clear hbk7 hk7 kput yk hO6 hGput hbkT y7
                go_wp2
                go_roundg (gk - 1)
                case measure => omega
                case rel => exact ⟨i + 1, by omega, by go_num, _, _, _, hGn.out⟩
            · have hlen1 := hlen1'
              have hlnj : (((els.length : Nat) : Int) != ((D.length : Nat) : Int)) = true := by simp; omega
              have hlni : ¬ ((els.length : Nat) : Int) = ((D.length : Nat) : Int) := by omega
              have hcl47 : els.length ≤ 140737488355328 := hx47
              clear hlen1'
              go_wp2
              refine gen_world ?_
              intro Wb hWb
              rw [← hWb] at hGb p0 hbc hpl hbx r0
              have y0 := p0
              clear hWb d0 d1 d2 hbx
              have hGfin : ∀ W, Below Wb.heap.size Wb W → Hid (GSt w l q g1 g2 gl w2.heap.size (w2.heap.size + 1) vs W B H S) := fun W hW => hGb.below hW
              have hd5 : Below Wb.heap.size Wb Wb.drew := (Below.refl _ _).drew
              have hO5 : Fr.Own Wb.drew.heap.size (Wb.drew.alloc (.cells #[] 5)) (.slice (some ⟨Wb.drew.heap.size, 0, none⟩) 0 0) [] := own_new Wb.drew #[] [] rfl (by simp)
              have hb5 := (Below.refl Wb.drew.heap.size Wb.drew).alloc (Nat.le_refl _) (.cells #[] 5)
              have hb05 := hd5.trans hb5
              have hB5 := hBcl _ (hbc.trans (hb05.mono hbc.size))
              have hl0 : ([] : List Nat).length + els.length ≤ 140737488355328 := by simpa using hcl47
              have yk : ∀ W, Below Wb.heap.size Wb W → W.cell? ⟨wr.heap.size, 0, none⟩ = some (.int .i64 (m : Int)) := fun W hb => (hb.cell (p := ⟨wr.heap.size, 0, none⟩) (World.block_lt_of_cell? Wb _ y0)).trans y0
              have kput := fun (W : World) (hW : Below Wb.heap.size Wb W) (a6 : Option Addr) (c6 : Nat) (hO : Fr.Own Wb.drew.heap.size W (.slice a6 ([] ++ els).length c6) ([] ++ els)) => put_arg (hGb.below hW).bk (m : Int) a6 ([] ++ els).length c6 (.inr (by rw [Int.toNat_natCast, hchB]; exact hlen1))
              clear hBcl hGb hG hlen1 hchB
              go_wp2
              go_region_held3 (fun w' => w'.cell? ⟨wr.heap.size, 0, none⟩ = some (.int .i64 (m : Int)))
                (first | exact yk _ hd5 | exact yk _ hb05 | exact yk _ (hb05.trans hb6) | exact yk _ hb07 | exact y7 | go_keep)
                (first
                  | (refine step_append_own (by rfl) _ _ (by rfl) Wb.drew.heap.size (.slice (some ⟨Wb.drew.heap.size, 0, none⟩) 0 0) [] (by rfl) hO5 hb5.size w.heap.size (.slice ae els.length ce) els (by rfl) hB5 hl0 ?_; intro v6 w6 hO6 hb6; obtain ⟨ao6, cap6, hv6⟩ := hO6.shape; subst hv6)
                  | (go_at_call 10; refine (kput w6 (hb05.trans hb6) _ _ hO6).mono ?_; rintro e w7 ⟨rfl, hw7⟩; rw [hw7]; have hb07 := hb05.trans hb6; have hGn := hGfin w6 hb07))
              clear hw7 kput yk hO6
              go_wp2
              go_roundg (gk - 1)
              case measure => omega
              case rel => exact ⟨i + 1, by omega, by go_num, _, _, _, hGn.out⟩
          | true =>
            have hBcl : ∀ W, Below w.heap.size w W → Fr.Bs w.heap.size W (.slice am D.length cm) D := fun W hb => bs_swap hBm hbw2 hb
            have hlB : Hid (D.length = (chAt B m).length) := hchB.symm
            have hD47 : D.length ≤ 140737488355328 := by rw [← hchB, chAt_len]; omega
            clear hchB
            have hcl8 : ∀ y ∈ D, y < 256 := hD8
            have hcl47 : D.length ≤ 140737488355328 := hD47
            by_cases hHt : H[m]? = some true
            · by_cases hcleq : D = chAt B m
              · have hsame : H[m]? = some true → ([] ++ D) = chAt B m := fun _ => hcleq
                have hcq : Hid (D = chAt B m) := hcleq
                have hsm : Hid (H[m]? = some true → ([] ++ D) = chAt B m) := hsame
                clear hcleq hsame
                go_wp2
                refine gen_world ?_
                intro Wb hWb
                rw [← hWb] at hGb p0 hbc hpl hbx r0
                have y0 := p0
                clear hWb d0 d1 d2 hbx
                have sv := fun k => Fr.str_of (hBcl _ (below_drewN hbc k)) hcl8
                have c8 := hGb.hascell hHt
                have c9 := hGb.hadcell (hGb.inv.yes m hHt)
                rw [← hcq.out] at c9
                go_big_quiet (fail)
                refine gen_world ?_
                intro Wd hWd
                have hbd : Below Wb.heap.size Wb Wd := by rw [hWd]; exact below_drewN (Below.refl _ _) _
                have hGd := hGb.below hbd
                have yd := (hbd.cell (p := ⟨wr.heap.size, 0, none⟩) hpl).trans y0
                have hpd : wr.heap.size < Wd.heap.size := Nat.lt_of_lt_of_le hpl hbd.size
                clear hWd sv c8 r0 p0 y0 hbc
                try clear c9
                have y0 := yd
                have hbc := hGd.bel
                obtain ⟨SM, hSM⟩ : ∃ SM, S[m]? = some SM := ⟨_, List.getElem?_eq_getElem (by rw [hGd.inv.sl]; exact hmH)⟩
                obtain ⟨HM, hHM⟩ : ∃ HM, H[m]? = some HM := ⟨_, List.getElem?_eq_getElem hmH⟩
                have hpg : Hid (¬ (wr.heap.size = g1 ∨ wr.heap.size = g2)) := fun h => by have := hgz.out; omega
                obtain ⟨t1, t2, t3, t4, t5, t6, t7, t8⟩ := hGd.stored m (Fr.str D)
                have x1 := hGd.hascell hHM
                have x2 := t7 _ (hGd.hadcell hSM)
                have x3 := t8 wr.heap.size 0 _ (by have := hwz.out; omega) (by have := hwz.out; omega) y0
                obtain ⟨x3a, x3b⟩ := x3
                have sv2 := Fr.str_of (hBcl _ t3) hcl8
                have hGput : ∀ w7 w6 : World, Below Wd.heap.size ((Wd.setCell ⟨w2.heap.size, m, none⟩ (.bool true)).setCell ⟨w2.heap.size + 1, m, none⟩ (.string (Fr.str D))) w6 → BkAt w7 q g1 g2 (splice B (m * 256) ([] ++ D)) (H.set m true) → Kept (fun b => b = g1 ∨ b = g2) w6 w7 → Hid (GSt w l q g1 g2 gl w2.heap.size (w2.heap.size + 1) vs w7 (splice B (m * 256) ([] ++ D)) (H.set m true) (S.set m D)) := fun w7 w6 a1 a2 a3 => hGd.put m hmH D hlB.out hcl8 a2 w6 a1 a3
                clear t7 t8
                go_wp2
                refine gen_world ?_
                intro Wt hWt
                rw [← hWt] at t1 t2 t4 x3b
                have hGput : ∀ w7 w6 : World, Below Wt.heap.size Wt w6 → BkAt w7 q g1 g2 (splice B (m * 256) ([] ++ D)) (H.set m true) → Kept (fun b => b = g1 ∨ b = g2) w6 w7 → Hid (GSt w l q g1 g2 gl w2.heap.size (w2.heap.size + 1) vs w7 (splice B (m * 256) ([] ++ D)) (H.set m true) (S.set m D)) := fun w7 w6 a1 a2 a3 => hGput w7 w6 (by rw [← hWt, ← t4]; exact a1) a2 a3
                have hbkT : ∀ W, Below Wt.heap.size Wt W → BkAt W q g1 g2 B H := fun W hW => t1 W (by rw [← t4]; exact hW)
                clear y0 hbc
                have y0 := x3b
                have hbc := t2
                clear hWt t1 t2 t3 t4 t5 t6 x1 x2 x3a sv2
                have hd5 : Below Wt.heap.size Wt Wt.drew := (Below.refl _ _).drew
                have hO5 : Fr.Own Wt.drew.heap.size (Wt.drew.alloc (.cells #[] 5)) (.slice (some ⟨Wt.drew.heap.size, 0, none⟩) 0 0) [] := own_new Wt.drew #[] [] rfl (by simp)
                have hb5 := (Below.refl Wt.drew.heap.size Wt.drew).alloc (Nat.le_refl _) (.cells #[] 5)
                have hb05 := hd5.trans hb5
                have hB5 := hBcl _ (hbc.trans (hb05.mono hbc.size))
                have hl0 : ([] : List Nat).length + D.length ≤ 140737488355328 := by simpa using hcl47
                have yk : ∀ W, Below Wt.heap.size Wt W → W.cell? ⟨wr.heap.size, 0, none⟩ = some (.int .i64 (m : Int)) := fun W hb => (hb.cell (p := ⟨wr.heap.size, 0, none⟩) (World.block_lt_of_cell? Wt _ y0)).trans y0
                have kput := fun (W : World) (hW : Below Wt.heap.size Wt W) (a6 : Option Addr) (c6 : Nat) (hO : Fr.Own Wt.drew.heap.size W (.slice a6 ([] ++ D).length c6) ([] ++ D)) => put_ok (hbkT W hW) m hmH hGd.inv.b8 _ ([] ++ D) a6 c6 hO.bs hcl8 hlB.out hsm.out
                clear hBcl hGb hGd hG hsm
                go_wp2
                go_region_held3 (fun w' => w'.cell? ⟨wr.heap.size, 0, none⟩ = some (.int .i64 (m : Int)))
                  (first | exact yk _ hd5 | exact yk _ hb05 | exact yk _ (hb05.trans hb6) | exact yk _ hb07 | exact y7 | go_keep)
                  (first
                    | (refine step_append_own (by rfl) _ _ (by rfl) Wt.drew.heap.size (.slice (some ⟨Wt.drew.heap.size, 0, none⟩) 0 0) [] (by rfl) hO5 hb5.size w.heap.size (.slice am D.length cm) D (by rfl) hB5 hl0 ?_; intro v6 w6 hO6 hb6; obtain ⟨ao6, cap6, hv6⟩ := hO6.shape; subst hv6)
                    | (go_at_call 10; refine (kput w6 (hb05.trans hb6) _ _ hO6).mono ?_; rintro e w7 ⟨rfl, hbk7, hk7⟩; have hb07 := hb05.trans hb6; have y7 := hk7.cell (yk _ hb07) hpg.out; have hGn := hGput w7 w6 hb07 hbk7 hk7))
                clear hbk7 hk7 kput yk hO6 hGput hbkT y7
                go_wp2
                go_roundg (gk - 1)
                case measure => omega
                case rel => exact ⟨i + 1, by omega, by go_num, _, _, _, hGn.out⟩
              · go_wp2
                refine gen_world ?_
                intro Wb hWb
                rw [← hWb] at hGb p0 hbc hpl hbx r0
                have y0 := p0
                clear hWb d0 d1 d2 hbx
                have sv := fun k => Fr.str_of (hBcl _ (below_drewN hbc k)) hcl8
                have c8 := hGb.hascell hHt
                have c9 := hGb.hadcell (hGb.inv.yes m hHt)
                have hst := Fr.str_ne (chAt_bytes hGb.inv.b8 m) hcl8 (fun e => hcleq e.symm)
                go_big_quiet (fail)
                refine gen_world ?_
                intro Wd hWd
                have hbd : Below Wb.heap.size Wb Wd := by rw [hWd]; exact below_drewN (Below.refl _ _) _
                have hGd := hGb.below hbd
                have yd := (hbd.cell (p := ⟨wr.heap.size, 0, none⟩) hpl).trans y0
                have hpd : wr.heap.size < Wd.heap.size := Nat.lt_of_lt_of_le hpl hbd.size
                clear hWd sv c8 r0 p0 y0 hbc
                try clear c9
                have y0 := yd
                have hbc := hGd.bel
                have hGfin : ∀ W, Below Wd.heap.size Wd W → Hid (GSt w l q g1 g2 gl w2.heap.size (w2.heap.size + 1) vs W B H S) := fun W hW => hGd.below hW
                have hd5 : Below Wd.heap.size Wd Wd.drew := (Below.refl _ _).drew
                have hO5 : Fr.Own Wd.drew.heap.size (Wd.drew.alloc (.cells #[] 5)) (.slice (some ⟨Wd.drew.heap.size, 0, none⟩) 0 0) [] := own_new Wd.drew #[] [] rfl (by simp)
                have hb5 := (Below.refl Wd.drew.heap.size Wd.drew).alloc (Nat.le_refl _) (.cells #[] 5)
                have hb05 := hd5.trans hb5
                have hB5 := hBcl _ (hbc.trans (hb05.mono hbc.size))
                have hl0 : ([] : List Nat).length + D.length ≤ 140737488355328 := by simpa using hcl47
                have yk : ∀ W, Below Wd.heap.size Wd W → W.cell? ⟨wr.heap.size, 0, none⟩ = some (.int .i64 (m : Int)) := fun W hb => (hb.cell (p := ⟨wr.heap.size, 0, none⟩) (World.block_lt_of_cell? Wd _ y0)).trans y0
                have kput := fun (W : World) (hW : Below Wd.heap.size Wd W) (a6 : Option Addr) (c6 : Nat) (hO : Fr.Own Wd.drew.heap.size W (.slice a6 ([] ++ D).length c6) ([] ++ D)) => put_same (hGd.below hW).bk m hmH hGd.inv.b8 _ ([] ++ D) a6 c6 hO.bs hcl8 hlB.out hHt hcleq
                clear hBcl hGb hGd hG hcleq hHt hst
                go_wp2
                go_region_held3 (fun w' => w'.cell? ⟨wr.heap.size, 0, none⟩ = some (.int .i64 (m : Int)))
                  (first | exact yk _ hd5 | exact yk _ hb05 | exact yk _ (hb05.trans hb6) | exact yk _ hb07 | exact y7 | go_keep)
                  (first
                    | (refine step_append_own (by rfl) _ _ (by rfl) Wd.drew.heap.size (.slice (some ⟨Wd.drew.heap.size, 0, none⟩) 0 0) [] (by rfl) hO5 hb5.size w.heap.size (.slice am D.length cm) D (by rfl) hB5 hl0 ?_; intro v6 w6 hO6 hb6; obtain ⟨ao6, cap6, hv6⟩ := hO6.shape; subst hv6)
                    | (go_at_call 10; refine (kput w6 (hb05.trans hb6) _ _ hO6).mono ?_; rintro e w7 ⟨rfl, hw7⟩; rw [hw7]; have hb07 := hb05.trans hb6; have hGn := hGfin w6 hb07))
                clear hw7 kput yk hO6
                go_wp2
                go_roundg (gk - 1)
                case measure => omega
                case rel => exact ⟨i + 1, by omega, by go_num, _, _, _, hGn.out⟩
            · have hHf : H[m]? = some false := by
                have hx : H[m]? = some H[m] := List.getElem?_eq_getElem hmH
                rw [hx] at hHt ⊢
                cases hv : H[m] with
                | true => rw [hv] at hHt; exact absurd rfl hHt
                | false => rfl
              have hsm : Hid (H[m]? = some true → ([] ++ D) = chAt B m) := fun h => absurd h hHt
              clear hHt
              go_wp2
              refine gen_world ?_
              intro Wb hWb
              rw [← hWb] at hGb p0 hbc hpl hbx r0
              have y0 := p0
              clear hWb d0 d1 d2 hbx
              have sv := fun k => Fr.str_of (hBcl _ (below_drewN hbc k)) hcl8
              have c8 := hGb.hascell hHf
              go_big_quiet (fail)
              refine gen_world ?_
              intro Wd hWd
              have hbd : Below Wb.heap.size Wb Wd := by rw [hWd]; exact below_drewN (Below.refl _ _) _
              have hGd := hGb.below hbd
              have yd := (hbd.cell (p := ⟨wr.heap.size, 0, none⟩) hpl).trans y0
              have hpd : wr.heap.size < Wd.heap.size := Nat.lt_of_lt_of_le hpl hbd.size
              clear hWd sv c8 r0 p0 y0 hbc
              try clear c9
              have y0 := yd
              have hbc := hGd.bel
              obtain ⟨SM, hSM⟩ : ∃ SM, S[m]? = some SM := ⟨_, List.getElem?_eq_getElem (by rw [hGd.inv.sl]; exact hmH)⟩
              obtain ⟨HM, hHM⟩ : ∃ HM, H[m]? = some HM := ⟨_, List.getElem?_eq_getElem hmH⟩
              have hpg : Hid (¬ (wr.heap.size = g1 ∨ wr.heap.size = g2)) := fun h => by have := hgz.out; omega
              obtain ⟨t1, t2, t3, t4, t5, t6, t7, t8⟩ := hGd.stored m (Fr.str D)
              have x1 := hGd.hascell hHM
              have x2 := t7 _ (hGd.hadcell hSM)
              have x3 := t8 wr.heap.size 0 _ (by have := hwz.out; omega) (by have := hwz.out; omega) y0
              obtain ⟨x3a, x3b⟩ := x3
              have sv2 := Fr.str_of (hBcl _ t3) hcl8
              have hGput : ∀ w7 w6 : World, Below Wd.heap.size ((Wd.setCell ⟨w2.heap.size, m, none⟩ (.bool true)).setCell ⟨w2.heap.size + 1, m, none⟩ (.string (Fr.str D))) w6 → BkAt w7 q g1 g2 (splice B (m * 256) ([] ++ D)) (H.set m true) → Kept (fun b => b = g1 ∨ b = g2) w6 w7 → Hid (GSt w l q g1 g2 gl w2.heap.size (w2.heap.size + 1) vs w7 (splice B (m * 256) ([] ++ D)) (H.set m true) (S.set m D)) := fun w7 w6 a1 a2 a3 => hGd.put m hmH D hlB.out hcl8 a2 w6 a1 a3
              clear t7 t8
              go_wp2
              refine gen_world ?_
              intro Wt hWt
              rw [← hWt] at t1 t2 t4 x3b
              have hGput : ∀ w7 w6 : World, Below Wt.heap.size Wt w6 → BkAt w7 q g1 g2 (splice B (m * 256) ([] ++ D)) (H.set m true) → Kept (fun b => b = g1 ∨ b = g2) w6 w7 → Hid (GSt w l q g1 g2 gl w2.heap.size (w2.heap.size + 1) vs w7 (splice B (m * 256) ([] ++ D)) (H.set m true) (S.set m D)) := fun w7 w6 a1 a2 a3 => hGput w7 w6 (by rw [← hWt, ← t4]; exact a1) a2 a3
              have hbkT : ∀ W, Below Wt.heap.size Wt W → BkAt W q g1 g2 B H := fun W hW => t1 W (by rw [← t4]; exact hW)
              clear y0 hbc
              have y0 := x3b
              have hbc := t2
              clear hWt t1 t2 t3 t4 t5 t6 x1 x2 x3a sv2
              have hd5 : Below Wt.heap.size Wt Wt.drew := (Below.refl _ _).drew
              have hO5 : Fr.Own Wt.drew.heap.size (Wt.drew.alloc (.cells #[] 5)) (.slice (some ⟨Wt.drew.heap.size, 0, none⟩) 0 0) [] := own_new Wt.drew #[] [] rfl (by simp)
              have hb5 := (Below.refl Wt.drew.heap.size Wt.drew).alloc (Nat.le_refl _) (.cells #[] 5)
              have hb05 := hd5.trans hb5
              have hB5 := hBcl _ (hbc.trans (hb05.mono hbc.size))
              have hl0 : ([] : List Nat).length + D.length ≤ 140737488355328 := by simpa using hcl47
              have yk : ∀ W, Below Wt.heap.size Wt W → W.cell? ⟨wr.heap.size, 0, none⟩ = some (.int .i64 (m : Int)) := fun W hb => (hb.cell (p := ⟨wr.heap.size, 0, none⟩) (World.block_lt_of_cell? Wt _ y0)).trans y0
              have kput := fun (W : World) (hW : Below Wt.heap.size Wt W) (a6 : Option Addr) (c6 : Nat) (hO : Fr.Own Wt.drew.heap.size W (.slice a6 ([] ++ D).length c6) ([] ++ D)) => put_ok (hbkT W hW) m hmH hGd.inv.b8 _ ([] ++ D) a6 c6 hO.bs hcl8 hlB.out hsm.out
              clear hBcl hGb hGd hG hsm
              go_wp2
              go_region_held3 (fun w' => w'.cell? ⟨wr.heap.size, 0, none⟩ = some (.int .i64 (m : Int)))
                (first | exact yk _ hd5 | exact yk _ hb05 | exact yk _ (hb05.trans hb6) | exact yk _ hb07 | exact y7 | go_keep)
                (first
                  | (refine step_append_own (by rfl) _ _ (by rfl) Wt.drew.heap.size (.slice (some ⟨Wt.drew.heap.size, 0, none⟩) 0 0) [] (by rfl) hO5 hb5.size w.heap.size (.slice am D.length cm) D (by rfl) hB5 hl0 ?_; intro v6 w6 hO6 hb6; obtain ⟨ao6, cap6, hv6⟩ := hO6.shape; subst hv6)
                  | (go_at_call 10; refine (kput w6 (hb05.trans hb6) _ _ hO6).mono ?_; rintro e w7 ⟨rfl, hbk7, hk7⟩; have hb07 := hb05.trans hb6; have y7 := hk7.cell (yk _ hb07) hpg.out; have hGn := hGput w7 w6 hb07 hbk7 hk7))
              clear hbk7 hk7 kput yk hO6 hGput hbkT y7
              go_wp2
              go_roundg (gk - 1)
              case measure => omega
              case rel => exact ⟨i + 1, by omega, by go_num, _, _, _, hGn.out⟩
        · have hinH : ¬ (0 ≤ XI ∧ XI < (H.length : Int)) := by rw [hHN]; exact hin
          have hx2 : (XI < 0) ∨ (¬ XI < 0 ∧ (N : Int) ≤ XI) := by omega
          clear hin
          cases own <;> rcases hx2 with hx2 | ⟨hx2, hx3⟩ <;>
          go_wp2 <;>
          (refine gen_world ?_
           intro Wb hWb
           rw [← hWb] at hGb p0 hbc hpl hbx
           have y0 := p0
           have hGfin : ∀ W, Below Wb.heap.size Wb W → Hid (GSt w l q g1 g2 gl w2.heap.size (w2.heap.size + 1) vs W B H S) := fun W hW => hGb.below hW
           clear hWb d0 d1 d2 hbx
           have hBcl : ∀ W, Below w.heap.size w W → Fr.Bs w.heap.size W (.slice ae els.length ce) els := fun W hb => hBx.below hb
           have hcl47 : els.length ≤ 140737488355328 := hx47
           have hd5 : Below Wb.heap.size Wb Wb.drew := (Below.refl _ _).drew
           have hO5 : Fr.Own Wb.drew.heap.size (Wb.drew.alloc (.cells #[] 5)) (.slice (some ⟨Wb.drew.heap.size, 0, none⟩) 0 0) [] := own_new Wb.drew #[] [] rfl (by simp)
           have hb5 := (Below.refl Wb.drew.heap.size Wb.drew).alloc (Nat.le_refl _) (.cells #[] 5)
           have hb05 := hd5.trans hb5
           have hB5 := hBcl _ (hbc.trans (hb05.mono hbc.size))
           have hl0 : ([] : List Nat).length + els.length ≤ 140737488355328 := by simpa using hcl47
           have yk : ∀ W, Below Wb.heap.size Wb W → W.cell? ⟨wr.heap.size, 0, none⟩ = some (.int .i64 XI) := fun W hb => (hb.cell (p := ⟨wr.heap.size, 0, none⟩) (World.block_lt_of_cell? Wb _ y0)).trans y0
           have kput := fun (W : World) (hW : Below Wb.heap.size Wb W) (a6 : Option Addr) (c6 : Nat) (hO : Fr.Own Wb.drew.heap.size W (.slice a6 ([] ++ els).length c6) ([] ++ els)) => put_arg (hGb.below hW).bk XI a6 ([] ++ els).length c6 (.inl hinH)
           clear hBcl hGb hG hBx hinH
           go_wp2
           go_region_held3 (fun w' => w'.cell? ⟨wr.heap.size, 0, none⟩ = some (.int .i64 XI))
             (first | exact yk _ hd5 | exact yk _ hb05 | exact yk _ (hb05.trans hb6) | exact yk _ hb07 | exact y7 | go_keep)
             (first
               | (refine step_append_own (by rfl) _ _ (by rfl) Wb.drew.heap.size (.slice (some ⟨Wb.drew.heap.size, 0, none⟩) 0 0) [] (by rfl) hO5 hb5.size w.heap.size (.slice ae els.length ce) els (by rfl) hB5 hl0 ?_; intro v6 w6 hO6 hb6; obtain ⟨ao6, cap6, hv6⟩ := hO6.shape; subst hv6)
               | (go_at_call 10; refine (kput w6 (hb05.trans hb6) _ _ hO6).mono ?_; rintro e w7 ⟨rfl, hw7⟩; rw [hw7]; have hb07 := hb05.trans hb6; have hGn := hGfin w6 hb07))
           clear hw7 kput yk hO6
           go_wp2
           go_roundg (gk - 1)
           case measure => omega
           case rel => exact ⟨i + 1, by omega, by go_num, _, _, _, hGn.out⟩)
      · have hend : (¬ (i : Int) < (ps.length : Int)) ∨ ((i : Int) < (ps.length : Int) ∧ ¬ (i : Int) < 300) := by
          by_cases h : (i : Int) < (ps.length : Int)
          · exact .inr ⟨h, fun h' => hgo ⟨by omega, by omega⟩⟩
          · exact .inl h
        have km := missing_of hG.bk
        have kb1 := fun (W : World) (hW : Below wr.heap.size wr W) (hm : missL H = []) => bytes_of (hG.below hW).bk hm
        have kb2 := fun (W : World) (hW : Below wr.heap.size wr W) (hm : missL H ≠ []) => bytes_no (hG.below hW).bk hm
        have hwhole := hG.inv.whole
        have hsmall := fun (i : Nat) (s : List Nat) (hs : S[i]? = some s) => hG.inv.small hs
        have hsl : S.length = N := by rw [hG.inv.sl]; exact hHN
        have hB8 := hG.inv.b8
        have hbw := hG.bel
        clear hgo hat hP hB hst hBs' hb12 hlong hok hsz
        rcases hend with h | ⟨h, h'⟩ <;>
        (go_wp2_with fail
         refine km.mono ?_
         rintro e w4 ⟨ov, rfl, hI, hb4⟩
         obtain ⟨ai, ci, hov⟩ := hI.shape
         subst hov
         have hG4 := hG.below hb4
         have hwb4 := hG4.bel
         have mcell : ∀ (k m : Nat), (missL H)[k]? = some m → ∃ gm, ai = some ⟨gm, 0, none⟩ ∧ w4.cell? ⟨gm, k, none⟩ = some (.int .i64 (m : Int)) := fun k m hk => by
           have hk' := (List.getElem?_eq_some_iff.1 hk).1
           obtain ⟨gm, cap, hs, -, hc⟩ := row_cell hI (by omega)
           cases hs
           refine ⟨gm, rfl, ?_⟩
           have := hc k (.int .i64 (m : Int)) (by unfold ic; rw [List.getElem?_map, hk]; rfl)
           rw [Nat.zero_add] at this
           exact this
         clear km hI
         go_wp2
         go_loopg [16, 17, 18] N (fun g s16 s17 s18 wx => ∃ j : Nat, j + g = N ∧ s18 = .int .i64 (j : Int) ∧ s16 = .int .i64 ((missU H j).length : Int) ∧ s17 = .string (Fr.str (S.take j).flatten) ∧ wx = w4)
         case atStart => exact ⟨0, by simp, rfl, rfl, rfl, rfl⟩
         case round =>
           obtain ⟨j, hj, rfl, rfl, rfl, hwx⟩ := hrel
           rw [hwx]
           clear hwx
           by_cases hlt : j < N
           · have hlti : (j : Int) < (N : Int) := by omega
             have hjH : j < H.length := by omega
             have hx : H[j]? = some H[j] := List.getElem?_eq_getElem hjH
             have hjS : j < S.length := by omega
             have hs : S[j]? = some S[j] := List.getElem?_eq_getElem hjS
             have c8 := hG4.hascell hx
             have c9 := hG4.hadcell hs
             have hfl : (S.take j).flatten.length ≤ 256 * j := by
               have := flat_small (S.take j) fun s hs => by
                 obtain ⟨k, hk⟩ := List.mem_iff_getElem?.1 hs
                 have hk1 : k < j := by
                   have := (List.getElem?_eq_some_iff.1 hk).1
                   rw [List.length_take] at this
                   omega
                 rw [List.getElem?_take_of_lt hk1] at hk
                 exact (hsmall k s hk).1
               rw [List.length_take] at this
               omega
             have hsj := (hsmall j _ hs).1
             have HA : Hid (Fr.str (S.take j).flatten ++ Fr.str S[j] = Fr.str (S.take (j + 1)).flatten) := by
               show _ = _
               rw [str_app, List.take_succ_eq_append_getElem hjS, List.flatten_append]
               simp
             have hks : ¬ 9223372036854775807 < (Fr.str (S.take j).flatten).size + (Fr.str S[j]).size := by rw [str_size, str_size]; omega
             generalize Fr.str (S.take j).flatten = T1 at *
             generalize Fr.str S[j] = T2 at *
             cases hv : H[j] with
             | false =>
               rw [hv] at c8 hx
               obtain ⟨hm1, hm2⟩ := miss_at hjH hx
               obtain ⟨gm, hgm, mc⟩ := mcell _ _ hm1
               subst hgm
               have hnl : ((missU H j).length : Int) < ((missL H).length : Int) := by
                 have := (List.getElem?_eq_some_iff.1 hm1).1
                 omega
               have hnl' : ¬ ((missL H).length : Int) ≤ ((missU H j).length : Int) := by omega
               have hm2' : Hid ((missU H (j + 1)).length = (missU H j).length + 1) := hm2
               have hsmU : (missU H j).length ≤ 200 := by have := missU_len H j; omega
               clear hm1 hm2 hx hs hv
               generalize (missU H j).length = n at *
               go_wp2
               go_roundg (gk - 1)
               case measure => omega
               case rel => exact ⟨j + 1, by omega, by go_num, by rw [hm2'.out]; go_num, by rw [← HA.out], rfl⟩
             | true =>
               rw [hv] at c8 hx
               have hm2' : Hid (missU H (j + 1) = missU H j) := miss_skip hx
               clear hx hs hv
               generalize hnn : (missU H j).length = n at *
               go_wp2
               go_roundg (gk - 1)
               case measure => omega
               case rel => exact ⟨j + 1, by omega, by go_num, by rw [hm2'.out, hnn], by rw [← HA.out], rfl⟩
           · have hlti : ¬ (j : Int) < (N : Int) := by omega
             have hjN : j = H.length := by omega
             have hn : (missU H j).length = (missL H).length := by rw [hjN]; rfl
             have hall : (S.take j).flatten = S.flatten := by rw [List.take_of_length_le (by omega)]
             rw [hn, hall]
             by_cases hmz : missL H = []
             · have kb := kb1 w4 hb4 hmz
               rw [hwhole hmz, hmz]
               clear kb1 kb2 hwhole hsmall hmz hn hall hjN hG hG4 mcell
               go_wp2_with fail
               refine kb.mono ?_
               rintro e w5 ⟨a5, n5, c5, rfl, hB5, hb5⟩
               have hbw5 := hwb4.trans (hb5.mono hwb4.size)
               have sv := Fr.str_of hB5 hB8
               have ka := haw w5 hbw5
               clear kb haw hB5
               go_wp2_with fail
               refine ka.mono ?_
               rintro e w6 ⟨rfl, hb6⟩
               clear ka
               go_wp2
               go_ret
               exact ⟨rfl, hbw5.trans (hb6.mono hbw5.size)⟩
             · have kb := kb2 w4 hb4 hmz
               have hpos : (0 : Int) < ((missL H).length : Int) := by
                 have := List.length_pos_iff.2 hmz
                 omega
               have hpos2 : ¬ ((missL H).length : Int) = 0 := by omega
               have hpos3 : (((missL H).length : Int) == 0) = false := by simp; omega
               clear kb1 kb2 hwhole hsmall hmz hn hall hjN hG hG4 mcell
               generalize (missL H).length = ML at *
               generalize Fr.str S.flatten = TT at *
               go_wp2_with fail
               refine kb.mono ?_
               rintro e w5 ⟨rfl, hb5⟩
               have hbw5 := hwb4.trans (hb5.mono hwb4.size)
               have ka := haw w5 hbw5
               clear kb haw
               go_wp2_with fail
               refine ka.mono ?_
               rintro e w6 ⟨rfl, hb6⟩
               clear ka
               go_wp2
               go_ret
               exact ⟨rfl, hbw5.trans (hb6.mono hbw5.size)⟩)
  · have hlg : (32768 : Int) < (l.length : Int) := by omega
    have kg := gather_no (l.length : Int) w (.inr hlg)
    have ka := haw w (Below.refl _ _)
    clear haw hB hP
    go_enter Tryd.func4, Tryd.ntmps4
    go_wp2_with fail
    refine kg.mono ?_
    rintro e w1 ⟨rfl, hw⟩
    rw [hw]
    clear kg hw
    go_wp2_with fail
    refine ka.mono ?_
    rintro e w3 ⟨rfl, hb3⟩
    clear ka
    go_wp2
    go_ret
    exact ⟨rfl, hb3⟩
end Go.Proofs.YtoipjmjhplkibaaDoor

