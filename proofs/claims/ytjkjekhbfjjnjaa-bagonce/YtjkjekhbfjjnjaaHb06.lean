import Derived.Test.YtjkjekhbfjjnjaaHb04
import Derived.Test.YtjkjekhbfjjnjaaHb05
/- Keys of maps: pairs of numbers, and messages; messages and pairs as they lie in rows. -/
namespace Go.Proofs.Ytjkjekhbfjjnjaa
open Go.RowKit Go.Maps
open Go.WideMaps (KeyLaw)
set_option maxRecDepth 100000
set_option linter.unusedSimpArgs false
set_option linter.unusedVariables false

theorem laidOut : laidOutB Try.prog = true := by kernel_rfl
theorem types_two : ∃ m, Try.prog.types.size + 1 = m + 2 := ⟨Try.prog.types.size - 1, by have : 2 ≤ Try.prog.types.size := of_decide_eq_true (by kernel_rfl); omega⟩
theorem cellsInt : Try.prog.cellsOf 3 = 1 := by kernel_rfl
theorem cellsStr : Try.prog.cellsOf 9 = 1 := by kernel_rfl
theorem cellsPair : Try.prog.cellsOf 59 = 2 := by kernel_rfl
theorem cellsLMsg : Try.prog.cellsOf 39 = 3 := by kernel_rfl

theorem pair_law : KeyLaw Try.prog 59 := deep_law_laid laidOut (m := 10) (by decide) (of_decide_eq_true (by kernel_rfl)) (by kernel_rfl) (by kernel_rfl)
theorem msg_law : KeyLaw Try.prog 39 := deep_law_laid laidOut (m := 10) (by decide) (of_decide_eq_true (by kernel_rfl)) (by kernel_rfl) (by kernel_rfl)

/-- A number that an int bears. -/
def i64 (z : Int) : Prop := -9223372036854775808 ≤ z ∧ z ≤ 9223372036854775807
theorem i64.wf {z : Int} (h : i64 z) : (Lit.int .i64 z).wf = true := by
  have h2 : IntKind.i64.min ≤ z ∧ z ≤ IntKind.i64.max := h
  simpa [Lit.wf] using h2

def pKey (x y : Int) : Value := .agg #[.int .i64 x, .int .i64 y]
theorem pair_lits (d : Nat) {x y : Int} (hx : i64 x) (hy : i64 y) : Try.prog.keyLits (d + 2) 59 [.int .i64 x, .int .i64 y] = some [.int .i64 x, .int .i64 y] := by
  have wx := hx.wf
  have wy := hy.wf
  simp [Program.keyLits, Try.underlying59, cellsPair, cellsInt, Try.underlying3, wx, wy]
theorem pKey_key {x y : Int} (hx : i64 x) (hy : i64 y) : keyOf Try.prog 59 (pKey x y) = some (.string (keyBytes [.int .i64 x, .int .i64 y])) := by
  have hkt : Try.prog.keyType 59 = true := by kernel_rfl
  have hf : (pKey x y).formed Try.prog 59 = true := by simp [pKey, Value.formed, Try.underlying59, cellsPair]
  obtain ⟨m, hm⟩ := types_two
  have hl := pair_lits m hx hy
  simp only [keyOf, Try.underlying59]
  rw [hm, hkt, hf]
  show Option.map _ (Try.prog.keyLits (m + 2) 59 [.int .i64 x, .int .i64 y]) = _
  rw [hl]
  rfl

/-- A message. -/
abbrev Msg := Int × Int × List Nat
def MsgOk (x : Msg) : Prop := i64 x.1 ∧ i64 x.2.1 ∧ (∀ c ∈ x.2.2, c < 256) ∧ x.2.2.length ≤ maxLen
def mKey (x : Msg) : Value := .agg #[.int .i64 x.1, .int .i64 x.2.1, .string (str x.2.2)]
theorem str_size (a : List Nat) : (str a).size = a.length := by
  show (str a).data.size = _
  simp [str]
theorem msg_lits (d : Nat) {x : Msg} (h : MsgOk x) : Try.prog.keyLits (d + 2) 39 [.int .i64 x.1, .int .i64 x.2.1, .string (str x.2.2)] = some [.int .i64 x.1, .int .i64 x.2.1, .string (str x.2.2).data.toList] := by
  have wx := h.1.wf
  have wy := h.2.1.wf
  have wz : (str x.2.2).size ≤ maxLen := by rw [str_size]; exact h.2.2.2
  simp [Program.keyLits, Try.underlying39, cellsLMsg, cellsInt, cellsStr, Try.underlying3, Try.underlying9, wx, wy, wz]
theorem mKey_key {x : Msg} (h : MsgOk x) : keyOf Try.prog 39 (mKey x) = some (.string (keyBytes [.int .i64 x.1, .int .i64 x.2.1, .string (str x.2.2).data.toList])) := by
  have hkt : Try.prog.keyType 39 = true := by kernel_rfl
  have hf : (mKey x).formed Try.prog 39 = true := by simp [mKey, Value.formed, Try.underlying39, cellsLMsg]
  obtain ⟨m, hm⟩ := types_two
  have hl := msg_lits m h
  simp only [keyOf, Try.underlying39]
  rw [hm, hkt, hf]
  show Option.map _ (Try.prog.keyLits (m + 2) 39 [.int .i64 x.1, .int .i64 x.2.1, .string (str x.2.2)]) = _
  rw [hl]
  rfl
theorem mKey_inj {x y : Msg} (hx : MsgOk x) (hy : MsgOk y) (h : mKey x = mKey y) : x = y := by
  obtain ⟨a, b, c⟩ := x
  obtain ⟨a', b', c'⟩ := y
  simp only [mKey, Value.agg.injEq, Array.mk.injEq, List.cons.injEq, Value.int.injEq, Value.string.injEq, and_true, true_and] at h
  obtain ⟨rfl, rfl, h⟩ := h
  have := str_inj hx.2.2.1 hy.2.2.1 h
  dsimp only at this
  rw [this]

/-- Messages in a row. -/
@[reducible] def msgE : El Msg := ⟨fun x => [.int .i64 x.1, .int .i64 x.2.1, .string (str x.2.2)], 3, fun _ => rfl, fun x u hu => by
  simp only [List.mem_cons, List.not_mem_nil, or_false] at hu
  rcases hu with rfl | rfl | rfl <;> rfl, by decide⟩
/-- Pairs in a row. -/
@[reducible] def pairE : El (Int × Int) := ⟨fun x => [.int .i64 x.1, .int .i64 x.2], 2, fun _ => rfl, fun x u hu => by
  simp only [List.mem_cons, List.not_mem_nil, or_false] at hu
  rcases hu with rfl | rfl <;> rfl, by decide⟩

theorem infoMsg : (Try.prog.info? 62).map (fun i => (i.zero, i.size, i.bytes)) = some (some (.agg #[.int .i64 0, .int .i64 0, .string ByteArray.empty]), 3, 32) := by kernel_rfl
theorem infoLMsg : (Try.prog.info? 39).map (fun i => (i.zero, i.size, i.bytes)) = some (some (.agg #[.int .i64 0, .int .i64 0, .string ByteArray.empty]), 3, 32) := by kernel_rfl
theorem infoPair : (Try.prog.info? 55).map (fun i => (i.zero, i.size, i.bytes)) = some (some (.agg #[.int .i64 0, .int .i64 0]), 2, 16) := by kernel_rfl

theorem push_msg (w : World) (ty : TypeId) (v : Value) (xs : List Msg) (x : Msg) (h : Rk msgE w 62 v xs) (hlen : xs.length ≤ 1000000) :
    ∃ v' w', (Builtin.append_ #[46, 46] ty #[v, .slice (some ⟨w.heap.size, 0, none⟩) 1 1]).run Try.prog (w.alloc (.cells #[.int .i64 x.1, .int .i64 x.2.1, .string (str x.2.2)] 62)) = .ok v' w' ∧ Rk msgE w' 62 v' (xs ++ [x]) ∧ w.grownBy w' v.ownBlock ∧ ∀ k, v'.ownBlock = some k → v.ownBlock = some k ∨ w.heap.size ≤ k := by
  obtain ⟨i0, hi, hz0, hz1, hz2⟩ := info_parts infoMsg
  exact run_pushk msgE w 46 62 ty i0 _ _ Try.underlying46 hi hz0 hz1 hz2 rfl (by decide) v xs x h hlen
theorem push_lmsg (w : World) (ty : TypeId) (v : Value) (xs : List Msg) (x : Msg) (h : Rk msgE w 39 v xs) (hlen : xs.length ≤ 1000000) :
    ∃ v' w', (Builtin.append_ #[26, 26] ty #[v, .slice (some ⟨w.heap.size, 0, none⟩) 1 1]).run Try.prog (w.alloc (.cells #[.int .i64 x.1, .int .i64 x.2.1, .string (str x.2.2)] 39)) = .ok v' w' ∧ Rk msgE w' 39 v' (xs ++ [x]) ∧ w.grownBy w' v.ownBlock ∧ ∀ k, v'.ownBlock = some k → v.ownBlock = some k ∨ w.heap.size ≤ k := by
  obtain ⟨i0, hi, hz0, hz1, hz2⟩ := info_parts infoLMsg
  exact run_pushk msgE w 26 39 ty i0 _ _ Try.underlying26 hi hz0 hz1 hz2 rfl (by decide) v xs x h hlen
theorem push_pair (w : World) (ty : TypeId) (v : Value) (xs : List (Int × Int)) (x : Int × Int) (h : Rk pairE w 55 v xs) (hlen : xs.length ≤ 1000000) :
    ∃ v' w', (Builtin.append_ #[27, 27] ty #[v, .slice (some ⟨w.heap.size, 0, none⟩) 1 1]).run Try.prog (w.alloc (.cells #[.int .i64 x.1, .int .i64 x.2] 55)) = .ok v' w' ∧ Rk pairE w' 55 v' (xs ++ [x]) ∧ w.grownBy w' v.ownBlock ∧ ∀ k, v'.ownBlock = some k → v.ownBlock = some k ∨ w.heap.size ≤ k := by
  obtain ⟨i0, hi, hz0, hz1, hz2⟩ := info_parts infoPair
  exact run_pushk pairE w 27 55 ty i0 _ _ Try.underlying27 hi hz0 hz1 hz2 rfl (by decide) v xs x h hlen
end Go.Proofs.Ytjkjekhbfjjnjaa

