import Derived.Test.YtldlimakcdaoaaaHd19
import Derived.Test.YtldlimakcdaoaaaHd16
/- Keys and spans as values: what comparing them, their greater and lesser one come to. -/
namespace Go.Proofs.Ytldlimakcdaoaaa
open Go.RowKit SpanMath
set_option maxRecDepth 100000
set_option linter.unusedSimpArgs false
set_option linter.unusedVariables false

/-- A key's text. -/
def bk (k : K) : ByteArray := ⟨k.toArray⟩
theorem bk_data (k : K) : (bk k).data.toList = k := by simp [bk]
theorem bk_toList (k : K) : (bk k).toList = k := by rw [ByteArray.toList_eq, bk_data]
@[go_sem high] theorem bk_size (k : K) : (bk k).size = k.length := by
  show (bk k).data.size = _
  simp [bk]
theorem bk_of (s : ByteArray) : ∃ k, s = bk k := ⟨s.data.toList, by cases s; simp [bk]⟩
theorem bk_nil : bk [] = { data := #[] } := rfl
theorem bk_inj {a b : K} (h : bk a = bk b) : a = b := by rw [← bk_data a, h, bk_data]
@[go_sem high] theorem lss_bk (t : TypeId) (a b : K) : binOp .lss t (.string (bk a)) (.string (bk b)) = pure (.bool (decide (a < b))) := by
  rw [binOp_string_lss, bk_toList, bk_toList, bytesLess_eq]
@[go_sem high] theorem leq_bk (t : TypeId) (a b : K) : binOp .leq t (.string (bk a)) (.string (bk b)) = pure (.bool (decide (a ≤ b))) := by
  rw [binOp_string_leq, bk_toList, bk_toList, bytesLess_eq]
  congr 2
  rw [Bool.eq_iff_iff, Bool.or_eq_true, decide_eq_true_eq, decide_eq_true_eq, beq_iff_eq]
  grind
@[go_sem high] theorem eql_bk (t : TypeId) (a b : K) : binOp .eql t (.string (bk a)) (.string (bk b)) = pure (.bool (decide (a = b))) := by
  simp only [binOp, Op.stringOp, bk_toList]
  first | rfl | (congr 2; rw [Bool.eq_iff_iff]; simp)
@[go_sem high] theorem neq_bk (t : TypeId) (a b : K) : binOp .neq t (.string (bk a)) (.string (bk b)) = pure (.bool (!decide (a = b))) := by
  simp only [binOp, Op.stringOp, bk_toList]
  first | rfl | (congr 2; rw [Bool.eq_iff_iff]; simp)
@[go_sem high] theorem eql_bk0 (t : TypeId) (a : K) : binOp .eql t (.string (bk a)) (.string { data := #[] }) = pure (.bool (decide (a = []))) := eql_bk t a []
@[go_sem high] theorem neq_bk0 (t : TypeId) (a : K) : binOp .neq t (.string (bk a)) (.string { data := #[] }) = pure (.bool (!decide (a = []))) := neq_bk t a []
@[go_sem high] theorem run_max_bk {P : Program} (w : World) (ts : Array TypeId) (t : TypeId) (a b : K) : (Builtin.max_ ts t #[.string (bk a), .string (bk b)]).run P w = .ok (.string (bk (kmax a b))) w := by
  by_cases h : a < b <;> simp [Builtin.max_, Builtin.max2, Op.stringOp, asBool, kmax, bytesLess_eq, bk_toList, h]
@[go_sem high] theorem run_min_bk {P : Program} (w : World) (ts : Array TypeId) (t : TypeId) (a b : K) : (Builtin.min_ ts t #[.string (bk a), .string (bk b)]).run P w = .ok (.string (bk (kmin a b))) w := by
  unfold kmin
  by_cases h : a < b
  · have h2 : ¬ b < a := by grind
    simp [Builtin.min_, Builtin.min2, Op.stringOp, asBool, bytesLess_eq, bk_toList, h, h2]
  · by_cases h' : a = b
    · subst h'
      simp [Builtin.min_, Builtin.min2, Op.stringOp, asBool, bytesLess_eq, bk_toList, h]
    · have h2 : b < a := by grind
      simp [Builtin.min_, Builtin.min2, Op.stringOp, asBool, bytesLess_eq, bk_toList, h, h', h2]
/-- A span's value. -/
@[reducible] def sv (s : Sp) : Value := .agg #[.string (bk s.1), .string (bk s.2)]
@[go_sem high] theorem eqIn_sp (w : World) (a b c d : K) : (Op.equalIn 10000 40 (.agg #[.string (bk a), .string (bk b)]) (.agg #[.string (bk c), .string (bk d)])).run Try.prog w = .ok (decide (a = c) && decide (b = d)) w := by
  have u3 := Try.underlying9
  have a3 := Try.isAgg9
  have z3 := Try.sizeOf9
  have hS : Try.prog.underlying 40 = some (.struct (Try.prog.fieldsOf 40)) := by kernel_rfl
  have hp : Try.prog.stoodInHeld 40 = false := by kernel_rfl
  rw [show (10000 : Nat) = 9999 + 1 from rfl, run_equalIn_agg w 9999 40 _ _ hS hp]
  simp only [Program.fieldsOf, Try.underlying40]
  go_simp
  by_cases h1 : a = c <;> by_cases h2 : b = d <;> simp [h1, h2, bk_toList]
@[go_sem high] theorem eqIn_sp0 (w : World) (a b : K) : (Op.equalIn 10000 40 (.agg #[.string (bk a), .string (bk b)]) (.agg #[.string { data := #[] }, .string { data := #[] }])).run Try.prog w = .ok (decide (a = []) && decide (b = [])) w := eqIn_sp w a b [] []
end Go.Proofs.Ytldlimakcdaoaaa

/- The contracts of the small functions: what each tells; nothing old turns. -/
namespace Go.Proofs.Ytldlimakcdaoaaa
open Go.RowKit SpanMath
set_option maxRecDepth 100000
set_option linter.unusedSimpArgs false
set_option linter.unusedVariables false

theorem isKey_of (k : K) (w : World) : Calls Try.prog 59 #[.string (bk k)] w fun e w' => e = .returned (.bool (decide (k.length ≤ 64))) ∧ w' = w := by
  by_cases h : k.length ≤ 64
  · have hi : (k.length : Int) ≤ 64 := by omega
    go_enter Try.func59, Try.ntmps59
    go_wp2
    go_ret
    exact ⟨by simp [h], rfl⟩
  · have hi : ¬ (k.length : Int) ≤ 64 := by omega
    go_enter Try.func59, Try.ntmps59
    go_wp2
    go_ret
    exact ⟨by simp [h], rfl⟩

theorem below_of (k t : K) (w : World) : Calls Try.prog 78 #[.string (bk k), .string (bk t)] w fun e w' => e = .returned (.bool (blw k t)) ∧ w' = w := by
  obtain ⟨B, HB⟩ : ∃ B, Hid (B = blw k t) := ⟨_, rfl⟩
  rw [← HB.out]
  by_cases h : t = []
  · have E : Hid (B = true) := by show _ = _; rw [HB.out]; simp [blw, h]
    clear HB
    go_enter Try.func78, Try.ntmps78
    go_wp2
    go_ret
    exact ⟨by rw [E.out]; rfl, rfl⟩
  · by_cases h2 : k < t
    · have E : Hid (B = true) := by show _ = _; rw [HB.out]; simp [blw, h2]
      clear HB
      go_enter Try.func78, Try.ntmps78
      go_wp2
      go_ret
      exact ⟨by rw [E.out]; rfl, rfl⟩
    · have E : Hid (B = false) := by show _ = _; rw [HB.out]; simp [blw, h, h2]
      clear HB
      go_enter Try.func78, Try.ntmps78
      go_wp2
      go_ret
      exact ⟨by rw [E.out]; rfl, rfl⟩

theorem later_of (a b : K) (w : World) : Calls Try.prog 66 #[.string (bk a), .string (bk b)] w fun e w' => e = .returned (.string (bk (late a b))) ∧ w' = w := by
  obtain ⟨B, HB⟩ : ∃ B, Hid (B = late a b) := ⟨_, rfl⟩
  rw [← HB.out]
  by_cases h : a = []
  · have E : Hid (B = []) := by show _ = _; rw [HB.out]; simp [late, h]
    clear HB
    go_enter Try.func66, Try.ntmps66
    go_wp2
    go_ret
    exact ⟨by rw [E.out]; rfl, rfl⟩
  · by_cases h2 : b = []
    · have E : Hid (B = []) := by show _ = _; rw [HB.out]; simp [late, h2]
      clear HB
      go_enter Try.func66, Try.ntmps66
      go_wp2
      go_ret
      exact ⟨by rw [E.out]; rfl, rfl⟩
    · have E : Hid (B = kmax a b) := by show _ = _; rw [HB.out]; simp [late, h, h2]
      clear HB
      go_enter Try.func66, Try.ntmps66
      go_wp2
      go_ret
      exact ⟨by rw [E.out]; rfl, rfl⟩

theorem apart_of (a b : Sp) (w : World) : Calls Try.prog 65 #[sv a, sv b] w fun e w' => e = .returned (.bool (apt a b)) ∧ Below w.heap.size w w' := by
  obtain ⟨a1, a2⟩ := a
  obtain ⟨b1, b2⟩ := b
  obtain ⟨B, HB⟩ : ∃ B, Hid (B = apt (a1, a2) (b1, b2)) := ⟨_, rfl⟩
  rw [← HB.out]
  have hb : Below w.heap.size w ((w.alloc (.cells #[.string (bk a1), .string (bk a2)] 40)).alloc (.cells #[.string (bk b1), .string (bk b2)] 40)) := ((Below.refl w.heap.size w).alloc (Nat.le_refl _) _).alloc (by simp) _
  by_cases h : a2 = []
  · have E : Hid (B = false) := by show _ = _; rw [HB.out]; simp [apt, h]
    subst h
    clear HB
    go_enter Try.func65, Try.ntmps65
    go_wp2
    go_ret
    exact ⟨by rw [E.out]; rfl, hb⟩
  · by_cases h2 : a2 < b1
    · have E : Hid (B = true) := by show _ = _; rw [HB.out]; simp [apt, h, h2]
      clear HB
      go_enter Try.func65, Try.ntmps65
      go_wp2
      go_ret
      exact ⟨by rw [E.out]; rfl, hb⟩
    · have E : Hid (B = false) := by show _ = _; rw [HB.out]; simp [apt, h, h2]
      clear HB
      go_enter Try.func65, Try.ntmps65
      go_wp2
      go_ret
      exact ⟨by rw [E.out]; rfl, hb⟩

theorem may_of (s : Sp) (w : World) : Calls Try.prog 45 #[sv s] w fun e w' => e = .returned (.bool (may s)) ∧ Below w.heap.size w w' := by
  obtain ⟨a, b⟩ := s
  obtain ⟨B, HB⟩ : ∃ B, Hid (B = may (a, b)) := ⟨_, rfl⟩
  rw [← HB.out]
  have hb : Below w.heap.size w (w.alloc (.cells #[.string (bk a), .string (bk b)] 40)) := (Below.refl w.heap.size w).alloc (Nat.le_refl _) _
  by_cases h1 : a.length ≤ 64
  · have i1 : (a.length : Int) ≤ 64 := by omega
    by_cases h2 : b.length ≤ 64
    · have i2 : (b.length : Int) ≤ 64 := by omega
      by_cases h3 : b = []
      · have E : Hid (B = true) := by show _ = _; rw [HB.out]; simp [may, blw, h1, h3]
        subst h3
        clear HB
        go_enter Try.func45, Try.ntmps45
        go_wp2
        go_ret
        exact ⟨by rw [E.out]; rfl, hb⟩
      · by_cases h4 : a < b
        · have E : Hid (B = true) := by show _ = _; rw [HB.out]; simp [may, blw, h1, h2, h4]
          clear HB
          go_enter Try.func45, Try.ntmps45
          go_wp2
          go_ret
          exact ⟨by rw [E.out]; rfl, hb⟩
        · have E : Hid (B = false) := by show _ = _; rw [HB.out]; simp [may, blw, h1, h2, h3, h4]
          clear HB
          go_enter Try.func45, Try.ntmps45
          go_wp2
          go_ret
          exact ⟨by rw [E.out]; rfl, hb⟩
    · have i2 : ¬ (b.length : Int) ≤ 64 := by omega
      have E : Hid (B = false) := by show _ = _; rw [HB.out]; simp [may, h2]
      clear HB
      go_enter Try.func45, Try.ntmps45
      go_wp2
      go_ret
      exact ⟨by rw [E.out]; rfl, hb⟩
  · have i1 : ¬ (a.length : Int) ≤ 64 := by omega
    have E : Hid (B = false) := by show _ = _; rw [HB.out]; simp [may, h1]
    clear HB
    go_enter Try.func45, Try.ntmps45
    go_wp2
    go_ret
    exact ⟨by rw [E.out]; rfl, hb⟩

theorem refHas_of (s : Sp) (k : K) (w : World) : Calls Try.prog 30 #[sv s, .string (bk k)] w fun e w' => e = .returned (.bool (has s k)) ∧ Below w.heap.size w w' := by
  obtain ⟨a, b⟩ := s
  obtain ⟨B, HB⟩ : ∃ B, Hid (B = has (a, b) k) := ⟨_, rfl⟩
  rw [← HB.out]
  have hb : Below w.heap.size w (w.alloc (.cells #[.string (bk a), .string (bk b)] 40)) := (Below.refl w.heap.size w).alloc (Nat.le_refl _) _
  by_cases h1 : a ≤ k
  · by_cases h2 : b = []
    · have E : Hid (B = true) := by show _ = _; rw [HB.out]; simp [has, blw, h1, h2]
      subst h2
      clear HB
      go_enter Try.func30, Try.ntmps30
      go_wp2
      go_ret
      exact ⟨by rw [E.out]; rfl, hb⟩
    · by_cases h3 : k < b
      · have E : Hid (B = true) := by show _ = _; rw [HB.out]; simp [has, blw, h1, h2, h3]
        clear HB
        go_enter Try.func30, Try.ntmps30
        go_wp2
        go_ret
        exact ⟨by rw [E.out]; rfl, hb⟩
      · have E : Hid (B = false) := by show _ = _; rw [HB.out]; simp [has, blw, h1, h2, h3]
        clear HB
        go_enter Try.func30, Try.ntmps30
        go_wp2
        go_ret
        exact ⟨by rw [E.out]; rfl, hb⟩
  · have E : Hid (B = false) := by show _ = _; rw [HB.out]; simp [has, blw, h1]
    clear HB
    go_enter Try.func30, Try.ntmps30
    go_wp2
    go_ret
    exact ⟨by rw [E.out]; rfl, hb⟩
end Go.Proofs.Ytldlimakcdaoaaa

