import Derived.Test.YtfpbgfmnjpamlaaGreatHt02
import Derived.Test.YtfpbgfmnjpamlaaGreatHt03
/- Keys and spans as values: what comparing them, their greater and lesser one come to. -/
namespace Go.Proofs.YtfpbgfmnjpamlaaGreat
open Go.RowKit SpanMath
set_option maxRecDepth 100000
set_option linter.unusedSimpArgs false
set_option linter.unusedVariables false

/-- A key's text. -/
def bk (k : K) : ByteArray := ⟨k.toArray⟩
theorem bk_data (k : K) : (bk k).data.toList = k := by simp [bk]
theorem bk_toList (k : K) : (bk k).toList = k := by rw [ByteArray.toList_eq, bk_data]
@[go_sem high] theorem bk_size (k : K) : (bk k).size = k.length := by
  show (bk k).data.size = _
  simp [bk]
theorem bk_of (s : ByteArray) : ∃ k, s = bk k := ⟨s.data.toList, by cases s; simp [bk]⟩
@[go_sem high] theorem lss_bk (t : TypeId) (a b : K) : binOp .lss t (.string (bk a)) (.string (bk b)) = pure (.bool (decide (a < b))) := by
  rw [binOp_string_lss, bk_toList, bk_toList, bytesLess_eq]
@[go_sem high] theorem leq_bk (t : TypeId) (a b : K) : binOp .leq t (.string (bk a)) (.string (bk b)) = pure (.bool (decide (a ≤ b))) := by
  rw [binOp_string_leq, bk_toList, bk_toList, bytesLess_eq]
  congr 2
  rw [Bool.eq_iff_iff, Bool.or_eq_true, decide_eq_true_eq, decide_eq_true_eq, beq_iff_eq]
  grind
@[go_sem high] theorem eql_bk (t : TypeId) (a b : K) : binOp .eql t (.string (bk a)) (.string (bk b)) = pure (.bool (decide (a = b))) := by
  simp only [binOp, Op.stringOp, bk_toList]
  first | rfl | (congr 2; rw [Bool.eq_iff_iff]; simp)
@[go_sem high] theorem neq_bk (t : TypeId) (a b : K) : binOp .neq t (.string (bk a)) (.string (bk b)) = pure (.bool (!decide (a = b))) := by
  simp only [binOp, Op.stringOp, bk_toList]
  first | rfl | (congr 2; rw [Bool.eq_iff_iff]; simp)
@[go_sem high] theorem eql_bk0 (t : TypeId) (a : K) : binOp .eql t (.string (bk a)) (.string { data := #[] }) = pure (.bool (decide (a = []))) := eql_bk t a []
@[go_sem high] theorem neq_bk0 (t : TypeId) (a : K) : binOp .neq t (.string (bk a)) (.string { data := #[] }) = pure (.bool (!decide (a = []))) := neq_bk t a []
@[go_sem high] theorem run_max_bk {P : Program} (w : World) (ts : Array TypeId) (t : TypeId) (a b : K) : (Builtin.max_ ts t #[.string (bk a), .string (bk b)]).run P w = .ok (.string (bk (kmax a b))) w := by
  by_cases h : a < b <;> simp [Builtin.max_, Builtin.max2, Op.stringOp, asBool, kmax, bytesLess_eq, bk_toList, h]
@[go_sem high] theorem run_min_bk {P : Program} (w : World) (ts : Array TypeId) (t : TypeId) (a b : K) : (Builtin.min_ ts t #[.string (bk a), .string (bk b)]).run P w = .ok (.string (bk (kmin a b))) w := by
  unfold kmin
  by_cases h : a < b
  · have h2 : ¬ b < a := by grind
    simp [Builtin.min_, Builtin.min2, Op.stringOp, asBool, bytesLess_eq, bk_toList, h, h2]
  · by_cases h' : a = b
    · subst h'
      simp [Builtin.min_, Builtin.min2, Op.stringOp, asBool, bytesLess_eq, bk_toList, h]
    · have h2 : b < a := by grind
      simp [Builtin.min_, Builtin.min2, Op.stringOp, asBool, bytesLess_eq, bk_toList, h, h', h2]
/-- A span's value. -/
@[reducible] def sv (s : Sp) : Value := .agg #[.string (bk s.1), .string (bk s.2)]
@[go_sem high] theorem eqIn_sp (w : World) (a b c d : K) : (Op.equalIn 10000 47 (.agg #[.string (bk a), .string (bk b)]) (.agg #[.string (bk c), .string (bk d)])).run Tryz.prog w = .ok (decide (a = c) && decide (b = d)) w := by
  have u3 := Tryz.underlying9
  have a3 := Tryz.isAgg9
  have z3 := Tryz.sizeOf9
  have hS : Tryz.prog.underlying 47 = some (.struct (Tryz.prog.fieldsOf 47)) := by kernel_rfl
  have hp : Tryz.prog.stoodInHeld 47 = false := by kernel_rfl
  rw [show (10000 : Nat) = 9999 + 1 from rfl, run_equalIn_agg w 9999 47 _ _ hS hp]
  simp only [Program.fieldsOf, Tryz.underlying47]
  go_simp
  by_cases h1 : a = c <;> by_cases h2 : b = d <;> simp [h1, h2, bk_toList]
@[go_sem high] theorem eqIn_sp0 (w : World) (a b : K) : (Op.equalIn 10000 47 (.agg #[.string (bk a), .string (bk b)]) (.agg #[.string { data := #[] }, .string { data := #[] }])).run Tryz.prog w = .ok (decide (a = []) && decide (b = [])) w := eqIn_sp w a b [] []
end Go.Proofs.YtfpbgfmnjpamlaaGreat

/- The contracts of the small functions: what each tells; nothing old turns. -/
namespace Go.Proofs.YtfpbgfmnjpamlaaGreat
open Go.RowKit SpanMath
set_option maxRecDepth 100000
set_option linter.unusedSimpArgs false
set_option linter.unusedVariables false

theorem isKey_of (k : K) (w : World) : Calls Tryz.prog 122 #[.string (bk k)] w fun e w' => e = .returned (.bool (decide (k.length ≤ 64))) ∧ w' = w := by
  by_cases h : k.length ≤ 64
  · have hi : (k.length : Int) ≤ 64 := by omega
    go_enter Tryz.func122, Tryz.ntmps122
    go_wp2
    go_ret
    exact ⟨by simp [h], rfl⟩
  · have hi : ¬ (k.length : Int) ≤ 64 := by omega
    go_enter Tryz.func122, Tryz.ntmps122
    go_wp2
    go_ret
    exact ⟨by simp [h], rfl⟩

theorem below_of (k t : K) (w : World) : Calls Tryz.prog 123 #[.string (bk k), .string (bk t)] w fun e w' => e = .returned (.bool (blw k t)) ∧ w' = w := by
  obtain ⟨B, HB⟩ : ∃ B, Hid (B = blw k t) := ⟨_, rfl⟩
  rw [← HB.out]
  by_cases h : t = []
  · have E : Hid (B = true) := by show _ = _; rw [HB.out]; simp [blw, h]
    clear HB
    go_enter Tryz.func123, Tryz.ntmps123
    go_wp2
    go_ret
    exact ⟨by rw [E.out]; rfl, rfl⟩
  · by_cases h2 : k < t
    · have E : Hid (B = true) := by show _ = _; rw [HB.out]; simp [blw, h2]
      clear HB
      go_enter Tryz.func123, Tryz.ntmps123
      go_wp2
      go_ret
      exact ⟨by rw [E.out]; rfl, rfl⟩
    · have E : Hid (B = false) := by show _ = _; rw [HB.out]; simp [blw, h, h2]
      clear HB
      go_enter Tryz.func123, Tryz.ntmps123
      go_wp2
      go_ret
      exact ⟨by rw [E.out]; rfl, rfl⟩

theorem sooner_of (a b : K) (w : World) : Calls Tryz.prog 166 #[.string (bk a), .string (bk b)] w fun e w' => e = .returned (.string (bk (soon a b))) ∧ w' = w := by
  obtain ⟨B, HB⟩ : ∃ B, Hid (B = soon a b) := ⟨_, rfl⟩
  rw [← HB.out]
  have h0 := nil_le b
  have h1 := nil_le a
  by_cases h : a = []
  · have E : Hid (B = kmax a b) := by show _ = _; rw [HB.out]; unfold soon kmax; grind
    clear HB h0 h1
    go_enter Tryz.func166, Tryz.ntmps166
    go_wp2
    go_ret
    exact ⟨by rw [E.out, h]; rfl, rfl⟩
  · by_cases h2 : b = []
    · have E : Hid (B = kmax a b) := by show _ = _; rw [HB.out]; unfold soon kmax; grind
      clear HB h0 h1
      go_enter Tryz.func166, Tryz.ntmps166
      go_wp2
      go_ret
      exact ⟨by rw [E.out, h2]; rfl, rfl⟩
    · have E : Hid (B = kmin a b) := by show _ = _; rw [HB.out]; unfold soon; rw [if_neg h, if_neg h2]
      clear HB
      go_enter Tryz.func166, Tryz.ntmps166
      go_wp2
      go_ret
      exact ⟨by rw [E.out]; rfl, rfl⟩

theorem apart_of (a b : Sp) (w : World) : Calls Tryz.prog 117 #[sv a, sv b] w fun e w' => e = .returned (.bool (apt a b)) ∧ Below w.heap.size w w' := by
  obtain ⟨a1, a2⟩ := a
  obtain ⟨b1, b2⟩ := b
  obtain ⟨B, HB⟩ : ∃ B, Hid (B = apt (a1, a2) (b1, b2)) := ⟨_, rfl⟩
  rw [← HB.out]
  have hb : Below w.heap.size w ((w.alloc (.cells #[.string (bk a1), .string (bk a2)] 47)).alloc (.cells #[.string (bk b1), .string (bk b2)] 47)) := ((Below.refl w.heap.size w).alloc (Nat.le_refl _) _).alloc (by simp) _
  by_cases h : a2 = []
  · have E : Hid (B = false) := by show _ = _; rw [HB.out]; simp [apt, h]
    subst h
    clear HB
    go_enter Tryz.func117, Tryz.ntmps117
    go_wp2
    go_ret
    exact ⟨by rw [E.out]; rfl, hb⟩
  · by_cases h2 : a2 < b1
    · have E : Hid (B = true) := by show _ = _; rw [HB.out]; simp [apt, h, h2]
      clear HB
      go_enter Tryz.func117, Tryz.ntmps117
      go_wp2
      go_ret
      exact ⟨by rw [E.out]; rfl, hb⟩
    · have E : Hid (B = false) := by show _ = _; rw [HB.out]; simp [apt, h, h2]
      clear HB
      go_enter Tryz.func117, Tryz.ntmps117
      go_wp2
      go_ret
      exact ⟨by rw [E.out]; rfl, hb⟩

end Go.Proofs.YtfpbgfmnjpamlaaGreat

