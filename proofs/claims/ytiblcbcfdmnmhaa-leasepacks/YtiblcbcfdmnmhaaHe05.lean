import Derived.Test.YtiblcbcfdmnmhaaHe04
import Derived.Lib.Bytealg
/- Keys as values; holds and marks as they are read. -/
namespace Go.Proofs.Ytiblcbcfdmnmhaa
open Go.RowKit LeaseMath
set_option maxRecDepth 100000
set_option linter.unusedSimpArgs false
set_option linter.unusedVariables false

/-- A key's text. -/
def bk (k : K) : ByteArray := ⟨k.toArray⟩
theorem bk_data (k : K) : (bk k).data.toList = k := by simp [bk]
theorem bk_toList (k : K) : (bk k).toList = k := by rw [ByteArray.toList_eq, bk_data]
@[go_sem high] theorem bk_size (k : K) : (bk k).size = k.length := by
  show (bk k).data.size = _
  simp [bk]
theorem bk_of (s : ByteArray) : ∃ k, s = bk k := ⟨s.data.toList, by cases s; simp [bk]⟩
theorem bk_nil : bk [] = { data := #[] } := rfl
theorem bk_inj {a b : K} (h : bk a = bk b) : a = b := by rw [← bk_data a, h, bk_data]
@[go_sem high] theorem lss_bk (t : TypeId) (a b : K) : binOp .lss t (.string (bk a)) (.string (bk b)) = pure (.bool (decide (a < b))) := by
  rw [binOp_string_lss, bk_toList, bk_toList, bytesLess_eq]
@[go_sem high] theorem leq_bk (t : TypeId) (a b : K) : binOp .leq t (.string (bk a)) (.string (bk b)) = pure (.bool (decide (a ≤ b))) := by
  rw [binOp_string_leq, bk_toList, bk_toList, bytesLess_eq]
  congr 2
  rw [Bool.eq_iff_iff, Bool.or_eq_true, decide_eq_true_eq, decide_eq_true_eq, beq_iff_eq]
  grind
@[go_sem high] theorem geq_bk (t : TypeId) (a b : K) : binOp .geq t (.string (bk a)) (.string (bk b)) = pure (.bool (decide (b ≤ a))) := by
  rw [binOp_string_geq, bk_toList, bk_toList, bytesLess_eq]
  congr 2
  by_cases h : a < b
  · rw [decide_eq_true h, decide_eq_false (by grind)]; rfl
  · rw [decide_eq_false h, decide_eq_true (by grind)]; rfl
@[go_sem high] theorem eql_bk (t : TypeId) (a b : K) : binOp .eql t (.string (bk a)) (.string (bk b)) = pure (.bool (decide (a = b))) := by
  simp only [binOp, Op.stringOp, bk_toList]
  first | rfl | (congr 2; rw [Bool.eq_iff_iff]; simp)
@[go_sem high] theorem neq_bk (t : TypeId) (a b : K) : binOp .neq t (.string (bk a)) (.string (bk b)) = pure (.bool (!decide (a = b))) := by
  simp only [binOp, Op.stringOp, bk_toList]
  first | rfl | (congr 2; rw [Bool.eq_iff_iff]; simp)
/-- Which of two keys is ahead. -/
def cmpM (a b : K) : Int := if a < b then -1 else if b < a then 1 else 0
theorem cmp_bk : ∀ (a b : K), Lib.compareBytes a b = cmpM a b
  | [], [] => by simp [Lib.compareBytes, cmpM]
  | [], _ :: _ => by simp [Lib.compareBytes, cmpM]
  | _ :: _, [] => by simp [Lib.compareBytes, cmpM]
  | a :: x, b :: y => by
    have ih := cmp_bk x y
    unfold Lib.compareBytes
    unfold cmpM at ih ⊢
    simp only [List.cons_lt_cons_iff]
    rcases Classical.em (a = b) with h | h
    · subst h
      have h1 : ¬ a < a := UInt8.lt_irrefl a
      simp [h1, ih]
    · rcases UInt8.lt_or_lt_of_ne h with h1 | h1
      · simp [h1]
      · have h2 : ¬ a < b := fun h3 => UInt8.lt_irrefl _ (UInt8.lt_trans h1 h3)
        have h3 : ¬ b = a := fun e => h e.symm
        simp [h1, h2, h, h3]
/-- A hold's value; a mark's. -/
@[reducible] def hv (h : Hd) : Value := .agg #[.string (bk h.1), .int .u64 (h.2.1 : Int), .int .i64 h.2.2]
@[reducible] def mv (m : Mk) : Value := .agg #[.string (bk m.1), .int .u64 (m.2 : Int)]
@[reducible] def hc (h : Hd) : Obj := .cells #[.string (bk h.1), .int .u64 (h.2.1 : Int), .int .i64 h.2.2] 25
@[reducible] def mc (m : Mk) : Obj := .cells #[.string (bk m.1), .int .u64 (m.2 : Int)] 61
def holdE : El Hd := ⟨fun h => [.string (bk h.1), .int .u64 (h.2.1 : Int), .int .i64 h.2.2], 3, fun _ => rfl, fun x u hu => by
  simp only [List.mem_cons, List.not_mem_nil, or_false] at hu
  rcases hu with rfl | rfl | rfl <;> rfl, by decide⟩
def markE : El Mk := ⟨fun h => [.string (bk h.1), .int .u64 (h.2 : Int)], 2, fun _ => rfl, fun x u hu => by
  simp only [List.mem_cons, List.not_mem_nil, or_false] at hu
  rcases hu with rfl | rfl <;> rfl, by decide⟩
@[go_sem high] theorem eqIn_hold (w : World) (a b : K) (x y : Nat) (p q : Int) : (Op.equalIn 10000 25 (.agg #[.string (bk a), .int .u64 (x : Int), .int .i64 p]) (.agg #[.string (bk b), .int .u64 (y : Int), .int .i64 q])).run Try.prog w = .ok (decide (a = b) && decide (x = y) && decide (p = q)) w := by
  have u3 := Try.underlying9
  have a3 := Try.isAgg9
  have z3 := Try.sizeOf9
  have u4 := Try.underlying3
  have a4 := Try.isAgg3
  have z4 := Try.sizeOf3
  have u5 := Try.underlying23
  have a5 := Try.isAgg23
  have z5 := Try.sizeOf23
  have hS : Try.prog.underlying 25 = some (.struct (Try.prog.fieldsOf 25)) := by kernel_rfl
  have hp : Try.prog.stoodInHeld 25 = false := by kernel_rfl
  rw [show (10000 : Nat) = 9999 + 1 from rfl, run_equalIn_agg w 9999 25 _ _ hS hp]
  simp only [Program.fieldsOf, Try.underlying25]
  go_simp
  by_cases h1 : a = b <;> by_cases h2 : x = y <;> by_cases h3 : p = q <;> simp [h1, h2, h3, bk_toList] <;> omega
@[go_sem high] theorem eqIn_mark (w : World) (a b : K) (x y : Nat) : (Op.equalIn 10000 61 (.agg #[.string (bk a), .int .u64 (x : Int)]) (.agg #[.string (bk b), .int .u64 (y : Int)])).run Try.prog w = .ok (decide (a = b) && decide (x = y)) w := by
  have u3 := Try.underlying9
  have a3 := Try.isAgg9
  have z3 := Try.sizeOf9
  have u5 := Try.underlying23
  have a5 := Try.isAgg23
  have z5 := Try.sizeOf23
  have hS : Try.prog.underlying 61 = some (.struct (Try.prog.fieldsOf 61)) := by kernel_rfl
  have hp : Try.prog.stoodInHeld 61 = false := by kernel_rfl
  rw [show (10000 : Nat) = 9999 + 1 from rfl, run_equalIn_agg w 9999 61 _ _ hS hp]
  simp only [Program.fieldsOf, Try.underlying61]
  go_simp
  by_cases h1 : a = b <;> by_cases h2 : x = y <;> simp [h1, h2, bk_toList] <;> omega
/-- One of a slice, in every later world. -/
theorem rdh_at {w : World} {ao : Option Addr} {n cap : Nat} {zs : List Hd} (h : Rd holdE w (.slice ao n cap) zs) {i : Nat} {z : Hd} (hz : zs[i]? = some z) : ∃ b off, ao = some ⟨b, off, none⟩ ∧ ∀ W, Below w.heap.size w W → W.cell? ⟨b, off + i * 3, none⟩ = some (.string (bk z.1)) ∧ W.cell? ⟨b, off + i * 3 + 1, none⟩ = some (.int .u64 (z.2.1 : Int)) ∧ W.cell? ⟨b, off + i * 3 + 2, none⟩ = some (.int .i64 z.2.2) := by
  obtain ⟨ao', cap', e, _, _, h2⟩ := h
  cases e
  obtain ⟨b, off, r1, r2⟩ := h2 i z 0 _ hz rfl
  obtain ⟨b', off', r3, r4⟩ := h2 i z 1 _ hz rfl
  cases r1.symm.trans r3
  obtain ⟨b', off', r5, r6⟩ := h2 i z 2 _ hz rfl
  cases r1.symm.trans r5
  have r2' : w.cell? ⟨b, off + i * 3, none⟩ = _ := r2
  have r4' : w.cell? ⟨b, off + i * 3 + 1, none⟩ = _ := r4
  have r6' : w.cell? ⟨b, off + i * 3 + 2, none⟩ = _ := r6
  exact ⟨b, off, r1, fun W hW => ⟨(hW.cell (p := ⟨b, off + i * 3, none⟩) (World.block_lt_of_cell? w _ r2')).trans r2', (hW.cell (p := ⟨b, off + i * 3 + 1, none⟩) (World.block_lt_of_cell? w _ r4')).trans r4', (hW.cell (p := ⟨b, off + i * 3 + 2, none⟩) (World.block_lt_of_cell? w _ r6')).trans r6'⟩⟩
theorem rdm_at {w : World} {ao : Option Addr} {n cap : Nat} {zs : List Mk} (h : Rd markE w (.slice ao n cap) zs) {i : Nat} {z : Mk} (hz : zs[i]? = some z) : ∃ b off, ao = some ⟨b, off, none⟩ ∧ ∀ W, Below w.heap.size w W → W.cell? ⟨b, off + i * 2, none⟩ = some (.string (bk z.1)) ∧ W.cell? ⟨b, off + i * 2 + 1, none⟩ = some (.int .u64 (z.2 : Int)) := by
  obtain ⟨ao', cap', e, _, _, h2⟩ := h
  cases e
  obtain ⟨b, off, r1, r2⟩ := h2 i z 0 _ hz rfl
  obtain ⟨b', off', r3, r4⟩ := h2 i z 1 _ hz rfl
  cases r1.symm.trans r3
  have r2' : w.cell? ⟨b, off + i * 2, none⟩ = _ := r2
  have r4' : w.cell? ⟨b, off + i * 2 + 1, none⟩ = _ := r4
  exact ⟨b, off, r1, fun W hW => ⟨(hW.cell (p := ⟨b, off + i * 2, none⟩) (World.block_lt_of_cell? w _ r2')).trans r2', (hW.cell (p := ⟨b, off + i * 2 + 1, none⟩) (World.block_lt_of_cell? w _ r4')).trans r4'⟩⟩
/-- One in its box, in every later world. -/
theorem hd_box (w : World) (z : Hd) : (w.alloc (hc z)).heap.size = w.heap.size + 1 ∧ Below w.heap.size w (w.alloc (hc z)) ∧ ∀ W, Below (w.heap.size + 1) (w.alloc (hc z)) W → W.cell? ⟨w.heap.size, 0, none⟩ = some (.string (bk z.1)) ∧ W.cell? ⟨w.heap.size, 1, none⟩ = some (.int .u64 (z.2.1 : Int)) ∧ W.cell? ⟨w.heap.size, 2, none⟩ = some (.int .i64 z.2.2) := by
  obtain ⟨h1, h2, h3⟩ := one_box w (hc z)
  refine ⟨h1, h3, fun W hW => ?_⟩
  have := (hW.block w.heap.size (Nat.lt_succ_self _)).trans h2
  exact ⟨by rw [cells_of_block this]; rfl, by rw [cells_of_block this]; rfl, by rw [cells_of_block this]; rfl⟩
theorem mk_box (w : World) (z : Mk) : (w.alloc (mc z)).heap.size = w.heap.size + 1 ∧ Below w.heap.size w (w.alloc (mc z)) ∧ ∀ W, Below (w.heap.size + 1) (w.alloc (mc z)) W → W.cell? ⟨w.heap.size, 0, none⟩ = some (.string (bk z.1)) ∧ W.cell? ⟨w.heap.size, 1, none⟩ = some (.int .u64 (z.2 : Int)) := by
  obtain ⟨h1, h2, h3⟩ := one_box w (mc z)
  refine ⟨h1, h3, fun W hW => ?_⟩
  have := (hW.block w.heap.size (Nat.lt_succ_self _)).trans h2
  exact ⟨by rw [cells_of_block this]; rfl, by rw [cells_of_block this]; rfl⟩
theorem infoHold : (Try.prog.info? 25).map (fun i => (i.zero, i.size, i.bytes)) = some (some (.agg #[.string { data := #[] }, .int .u64 0, .int .i64 0]), 3, 32) := by kernel_rfl
theorem infoMark : (Try.prog.info? 61).map (fun i => (i.zero, i.size, i.bytes)) = some (some (.agg #[.string { data := #[] }, .int .u64 0]), 2, 24) := by kernel_rfl
theorem push_hold {w : World} {v : Value} {xs : List Hd} (z : Hd) (h : Rk holdE w 25 v xs) (hlen : xs.length ≤ 10000000000) :
    ∀ ty, ∃ v' w', (Builtin.append_ #[22, 22] ty #[v, .slice (some ⟨w.heap.size, 0, none⟩) 1 1]).run Try.prog (w.alloc (.cells #[.string (bk z.1), .int .u64 (z.2.1 : Int), .int .i64 z.2.2] 25)) = .ok v' w' ∧ PushT holdE 25 w v (xs ++ [z]) v' w' :=
  push_el holdE Try.underlying22 infoHold rfl (by decide) z h hlen
theorem push_mark {w : World} {v : Value} {xs : List Mk} (z : Mk) (h : Rk markE w 61 v xs) (hlen : xs.length ≤ 10000000000) :
    ∀ ty, ∃ v' w', (Builtin.append_ #[42, 42] ty #[v, .slice (some ⟨w.heap.size, 0, none⟩) 1 1]).run Try.prog (w.alloc (.cells #[.string (bk z.1), .int .u64 (z.2 : Int)] 61)) = .ok v' w' ∧ PushT markE 61 w v (xs ++ [z]) v' w' :=
  push_el markE Try.underlying42 infoMark rfl (by decide) z h hlen
theorem append_hold {w : World} {v x : Value} {xs ys : List Hd} (h : Rk holdE w 25 v xs) (hx : Rd holdE w x ys) (hlen : xs.length ≤ 1000000) (hly : ys.length ≤ 1000000) :
    ∀ ty, ∃ v' w', (Builtin.append_ #[22, 22] ty #[v, x]).run Try.prog w = .ok v' w' ∧ PushT holdE 25 w v (xs ++ ys) v' w' := by
  obtain ⟨i0, h1, h2, h3, h4⟩ := info_get infoHold
  exact append_rd holdE w 22 25 i0 _ 32 Try.underlying22 h1 h2 h3 h4 rfl (by decide) v x xs ys h hx (by omega) (by omega)
theorem append_mark {w : World} {v x : Value} {xs ys : List Mk} (h : Rk markE w 61 v xs) (hx : Rd markE w x ys) (hlen : xs.length ≤ 1000000) (hly : ys.length ≤ 1000000) :
    ∀ ty, ∃ v' w', (Builtin.append_ #[42, 42] ty #[v, x]).run Try.prog w = .ok v' w' ∧ PushT markE 61 w v (xs ++ ys) v' w' := by
  obtain ⟨i0, h1, h2, h3, h4⟩ := info_get infoMark
  exact append_rd markE w 42 61 i0 _ 24 Try.underlying42 h1 h2 h3 h4 rfl (by decide) v x xs ys h hx (by omega) (by omega)
theorem Rd.nil {α : Type} (E : El α) (w : World) : Rd E w (.slice none 0 0) [] := ⟨none, 0, rfl, Nat.le_refl _, fun _ => rfl, fun i x j u hx => by simp at hx⟩
theorem keep_step {n : Nat} {w W w' : World} (h1 : Below n w W) (hn : n ≤ w.heap.size) (h2 : Below W.heap.size W w') : Below n w w' := h1.trans (h2.mono (Nat.le_trans hn h1.size))
end Go.Proofs.Ytiblcbcfdmnmhaa

