import Derived.Test.YtlgnnfhnkfjafaaHp01
import Derived.Test.YtlgnnfhnkfjafaaHp02
/- Keys and spans as values: what comparing them, their greater and lesser one come to. -/
namespace Go.Proofs.Ytlgnnfhnkfjafaa
open Go.RowKit SpanMath
set_option maxRecDepth 100000
set_option linter.unusedSimpArgs false
set_option linter.unusedVariables false

/-- A key's text. -/
def bk (k : K) : ByteArray := ⟨k.toArray⟩
theorem bk_data (k : K) : (bk k).data.toList = k := by simp [bk]
theorem bk_toList (k : K) : (bk k).toList = k := by rw [ByteArray.toList_eq, bk_data]
@[go_sem high] theorem bk_size (k : K) : (bk k).size = k.length := by
  show (bk k).data.size = _
  simp [bk]
theorem bk_of (s : ByteArray) : ∃ k, s = bk k := ⟨s.data.toList, by cases s; simp [bk]⟩
@[go_sem high] theorem lss_bk (t : TypeId) (a b : K) : binOp .lss t (.string (bk a)) (.string (bk b)) = pure (.bool (decide (a < b))) := by
  rw [binOp_string_lss, bk_toList, bk_toList, bytesLess_eq]
@[go_sem high] theorem leq_bk (t : TypeId) (a b : K) : binOp .leq t (.string (bk a)) (.string (bk b)) = pure (.bool (decide (a ≤ b))) := by
  rw [binOp_string_leq, bk_toList, bk_toList, bytesLess_eq]
  congr 2
  rw [Bool.eq_iff_iff, Bool.or_eq_true, decide_eq_true_eq, decide_eq_true_eq, beq_iff_eq]
  grind
@[go_sem high] theorem eql_bk (t : TypeId) (a b : K) : binOp .eql t (.string (bk a)) (.string (bk b)) = pure (.bool (decide (a = b))) := by
  simp only [binOp, Op.stringOp, bk_toList]
  first | rfl | (congr 2; rw [Bool.eq_iff_iff]; simp)
@[go_sem high] theorem neq_bk (t : TypeId) (a b : K) : binOp .neq t (.string (bk a)) (.string (bk b)) = pure (.bool (!decide (a = b))) := by
  simp only [binOp, Op.stringOp, bk_toList]
  first | rfl | (congr 2; rw [Bool.eq_iff_iff]; simp)
@[go_sem high] theorem eql_bk0 (t : TypeId) (a : K) : binOp .eql t (.string (bk a)) (.string { data := #[] }) = pure (.bool (decide (a = []))) := eql_bk t a []
@[go_sem high] theorem neq_bk0 (t : TypeId) (a : K) : binOp .neq t (.string (bk a)) (.string { data := #[] }) = pure (.bool (!decide (a = []))) := neq_bk t a []
@[go_sem high] theorem run_max_bk {P : Program} (w : World) (ts : Array TypeId) (t : TypeId) (a b : K) : (Builtin.max_ ts t #[.string (bk a), .string (bk b)]).run P w = .ok (.string (bk (kmax a b))) w := by
  by_cases h : a < b <;> simp [Builtin.max_, Builtin.max2, Op.stringOp, asBool, kmax, bytesLess_eq, bk_toList, h]
@[go_sem high] theorem run_min_bk {P : Program} (w : World) (ts : Array TypeId) (t : TypeId) (a b : K) : (Builtin.min_ ts t #[.string (bk a), .string (bk b)]).run P w = .ok (.string (bk (kmin a b))) w := by
  unfold kmin
  by_cases h : a < b
  · have h2 : ¬ b < a := by grind
    simp [Builtin.min_, Builtin.min2, Op.stringOp, asBool, bytesLess_eq, bk_toList, h, h2]
  · by_cases h' : a = b
    · subst h'
      simp [Builtin.min_, Builtin.min2, Op.stringOp, asBool, bytesLess_eq, bk_toList, h]
    · have h2 : b < a := by grind
      simp [Builtin.min_, Builtin.min2, Op.stringOp, asBool, bytesLess_eq, bk_toList, h, h', h2]
/-- A span's value. -/
@[reducible] def sv (s : Sp) : Value := .agg #[.string (bk s.1), .string (bk s.2)]
@[go_sem high] theorem eqIn_sp (w : World) (a b c d : K) : (Op.equalIn 10000 43 (.agg #[.string (bk a), .string (bk b)]) (.agg #[.string (bk c), .string (bk d)])).run Try.prog w = .ok (decide (a = c) && decide (b = d)) w := by
  have u3 := Try.underlying9
  have a3 := Try.isAgg9
  have z3 := Try.sizeOf9
  have hS : Try.prog.underlying 43 = some (.struct (Try.prog.fieldsOf 43)) := by kernel_rfl
  have hp : Try.prog.stoodInHeld 43 = false := by kernel_rfl
  rw [show (10000 : Nat) = 9999 + 1 from rfl, run_equalIn_agg w 9999 43 _ _ hS hp]
  simp only [Program.fieldsOf, Try.underlying43]
  go_simp
  by_cases h1 : a = c <;> by_cases h2 : b = d <;> simp [h1, h2, bk_toList]
@[go_sem high] theorem eqIn_sp0 (w : World) (a b : K) : (Op.equalIn 10000 43 (.agg #[.string (bk a), .string (bk b)]) (.agg #[.string { data := #[] }, .string { data := #[] }])).run Try.prog w = .ok (decide (a = []) && decide (b = [])) w := eqIn_sp w a b [] []
end Go.Proofs.Ytlgnnfhnkfjafaa

