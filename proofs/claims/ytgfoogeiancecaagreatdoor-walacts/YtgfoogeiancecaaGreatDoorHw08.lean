import Derived.KernelRfl
/- Plain mathematics of CRC-32: the sum as a fold, that it is linear, and that one, two or three turned bits in at most 2048 turn it. -/
namespace CrcMath

def poly : Nat := 3988292384
/-- One bit's step. -/
def T (x : Nat) : Nat := if x % 2 = 1 then x / 2 ^^^ poly else x / 2
def Tn : Nat → Nat → Nat
  | 0, x => x
  | n + 1, x => Tn n (T x)

theorem xor_div2 (x y : Nat) : (x ^^^ y) / 2 = x / 2 ^^^ y / 2 := by
  apply Nat.eq_of_testBit_eq
  intro i
  simp [Nat.testBit_div_two]

theorem xor_mod2 (x y : Nat) : (x ^^^ y) % 2 = (x % 2 + y % 2) % 2 := by
  have h : (x ^^^ y) % 2 = (x % 2) ^^^ (y % 2) := by
    have := Nat.xor_mod_two_pow (a := x) (b := y) (n := 1)
    simpa using this
  rw [h]
  rcases Nat.mod_two_eq_zero_or_one x with hx | hx <;> rcases Nat.mod_two_eq_zero_or_one y with hy | hy <;> simp [hx, hy]

theorem T_xor (x y : Nat) : T (x ^^^ y) = T x ^^^ T y := by
  unfold T
  rw [xor_div2, xor_mod2]
  rcases Nat.mod_two_eq_zero_or_one x with hx | hx <;> rcases Nat.mod_two_eq_zero_or_one y with hy | hy <;> simp [hx, hy]
  · exact Nat.xor_assoc _ _ _
  · rw [Nat.xor_assoc, Nat.xor_comm (y / 2) poly, ← Nat.xor_assoc]
  · rw [Nat.xor_assoc, Nat.xor_comm (y / 2) poly, ← Nat.xor_assoc poly poly, Nat.xor_self, Nat.zero_xor]

theorem Tn_xor (n : Nat) : ∀ x y, Tn n (x ^^^ y) = Tn n x ^^^ Tn n y := by
  induction n with
  | zero => intro x y; rfl
  | succ n ih => intro x y; rw [Tn, T_xor, ih]; rfl
theorem T_zero : T 0 = 0 := rfl
theorem Tn_zero (n : Nat) : Tn n 0 = 0 := by
  induction n with
  | zero => rfl
  | succ n ih => rw [Tn, T_zero, ih]
theorem Tn_add (m n x : Nat) : Tn (m + n) x = Tn n (Tn m x) := by
  induction m generalizing x with
  | zero => simp [Tn]
  | succ m ih => rw [Nat.succ_add, Tn, ih]; rfl

theorem T_lt {x : Nat} (h : x < 4294967296) : T x < 4294967296 := by
  unfold T
  have h1 : x / 2 < 2 ^ 32 := by omega
  have h2 : poly < 2 ^ 32 := by decide
  split
  · exact Nat.xor_lt_two_pow h1 h2
  · omega
theorem Tn_lt (n : Nat) : ∀ {x : Nat}, x < 4294967296 → Tn n x < 4294967296 := by
  induction n with
  | zero => intro x h; exact h
  | succ n ih => intro x h; exact ih (T_lt h)

theorem T_inj {x : Nat} (h : x < 4294967296) (h0 : T x = 0) : x = 0 := by
  unfold T at h0
  split at h0
  · -- x / 2 = poly, but poly has its highest bit set and x / 2 < 2^31
    have : x / 2 = poly := by
      have := congrArg (· ^^^ poly) h0
      simpa [Nat.xor_assoc] using this
    have hp : poly = 3988292384 := rfl
    omega
  · omega
theorem Tn_inj (n : Nat) : ∀ {x : Nat}, x < 4294967296 → Tn n x = 0 → x = 0 := by
  induction n with
  | zero => intro x _ h; exact h
  | succ n ih => intro x h h0; exact T_inj h (ih (T_lt h) h0)

/-- What one turned bit makes, m steps on. -/
def s (m : Nat) : Nat := Tn m 1
theorem s_lt (m : Nat) : s m < 4294967296 := Tn_lt m (by decide)
theorem s_add (m n : Nat) : s (m + n) = Tn m (s n) := by unfold s; rw [Nat.add_comm, Tn_add]
end CrcMath

/- The closed check behind the theorem of few bits: among 2047 powers no two, and no three with 1, cancel. -/
namespace CrcMath
set_option maxRecDepth 1000000

/-- T for the kernel. -/
def Tf (x : Nat) : Nat := cond (Nat.beq (Nat.mod x 2) 1) (Nat.xor (Nat.div x 2) 3988292384) (Nat.div x 2)
theorem Tf_eq (x : Nat) : Tf x = T x := by
  unfold Tf T
  show cond (Nat.beq (x % 2) 1) (x / 2 ^^^ poly) (x / 2) = _
  rcases Nat.mod_two_eq_zero_or_one x with h | h
  · rw [h]; rfl
  · rw [h]; rfl

def sList : Nat → Nat → List Nat
  | 0, _ => []
  | n + 1, x => x :: sList n (Tf x)

def pick (r : Nat) : List Nat → List Nat
  | [] => []
  | x :: l => cond (Nat.beq (Nat.mod x 64) r) (x :: pick r l) (pick r l)

def notIn (y : Nat) : List Nat → Bool
  | [] => true
  | x :: l => cond (Nat.beq x y) false (notIn y l)

def apart (u : List Nat) : List Nat → Bool
  | [] => true
  | x :: l => cond (Nat.beq x 1) false (cond (notIn (Nat.xor x 1) u) (apart u l) false)

def allB (l : List Nat) : Nat → Bool
  | 0 => true
  | r + 1 => cond (apart (pick (Nat.xor r 1) l) (pick r l)) (allB l r) false

theorem checked : allB (sList 2047 (Tf 1)) 64 = true := by kernel_rfl
end CrcMath

/- The theorem of few bits: in at most 256 bytes up to three turned bits turn the sum, unless they turn nothing at all. -/
namespace CrcMath

theorem mem_pick {x : Nat} : ∀ {l : List Nat}, x ∈ l → x ∈ pick (x % 64) l
  | y :: l, h => by
    rcases List.mem_cons.1 h with rfl | h
    · have : Nat.beq (Nat.mod x 64) (x % 64) = true := Nat.beq_refl _
      simp only [pick, this, cond_true]
      exact List.mem_cons_self
    · have ih := mem_pick h
      simp only [pick]
      cases Nat.beq (Nat.mod y 64) (x % 64)
      · exact ih
      · exact List.mem_cons_of_mem _ ih

theorem notIn_spec {y : Nat} : ∀ {l : List Nat}, notIn y l = true → y ∉ l
  | [], _ => by simp
  | x :: l, h => by
    simp only [notIn] at h
    cases hb : Nat.beq x y with
    | true => rw [hb] at h; cases h
    | false =>
      rw [hb] at h
      intro hm
      rcases List.mem_cons.1 hm with rfl | hm
      · rw [Nat.beq_refl] at hb; cases hb
      · exact notIn_spec h hm

theorem apart_spec {u : List Nat} : ∀ {l : List Nat}, apart u l = true → ∀ x ∈ l, x ≠ 1 ∧ x ^^^ 1 ∉ u
  | [], _ => by simp
  | y :: l, h => by
    simp only [apart] at h
    cases h1 : Nat.beq y 1 with
    | true => rw [h1] at h; cases h
    | false =>
      rw [h1] at h
      cases h2 : notIn (Nat.xor y 1) u with
      | false => rw [h2] at h; cases h
      | true =>
        rw [h2] at h
        intro x hx
        rcases List.mem_cons.1 hx with rfl | hx
        · exact ⟨fun e => (by rw [e] at h1; cases h1), notIn_spec h2⟩
        · exact apart_spec h x hx

theorem allB_spec {l : List Nat} : ∀ {n : Nat}, allB l n = true → ∀ r, r < n → apart (pick (r ^^^ 1) l) (pick r l) = true
  | n + 1, h, r, hr => by
    simp only [allB] at h
    cases h1 : apart (pick (Nat.xor n 1) l) (pick n l) with
    | false => rw [h1] at h; cases h
    | true =>
      rw [h1] at h
      rcases Nat.lt_succ_iff_lt_or_eq.1 hr with hlt | rfl
      · exact allB_spec h r hlt
      · exact h1

theorem mem_sList (x : Nat) : ∀ n i, i < n → Tn i x ∈ sList n x := by
  intro n
  induction n generalizing x with
  | zero => intro i h; omega
  | succ n ih =>
    intro i h
    cases i with
    | zero => exact List.mem_cons_self
    | succ i =>
      refine List.mem_cons_of_mem _ ?_
      rw [Tf_eq]
      exact ih (T x) i (by omega)

theorem s_mem (i : Nat) (h1 : 1 ≤ i) (h2 : i ≤ 2047) : s i ∈ sList 2047 (Tf 1) := by
  obtain ⟨k, rfl⟩ : ∃ k, i = k + 1 := ⟨i - 1, by omega⟩
  have := mem_sList (T 1) 2047 k (by omega)
  rw [Tf_eq]
  exact this

theorem base (i j : Nat) (hi1 : 1 ≤ i) (hi2 : i ≤ 2047) (hj1 : 1 ≤ j) (hj2 : j ≤ 2047) : s i ≠ 1 ∧ s i ^^^ 1 ≠ s j := by
  have h := allB_spec checked (s i % 64) (Nat.mod_lt _ (by decide))
  have := apart_spec h (s i) (mem_pick (s_mem i hi1 hi2))
  refine ⟨this.1, fun e => this.2 ?_⟩
  have hm : (s i % 64) ^^^ 1 = s j % 64 := by
    rw [← e]
    have := Nat.xor_mod_two_pow (a := s i) (b := 1) (n := 6)
    simpa using this.symm
  rw [hm, e]
  exact mem_pick (s_mem j hj1 hj2)

theorem s_ne (m : Nat) : s m ≠ 0 := fun h => by
  have := Tn_inj m (x := 1) (by decide) h
  omega

theorem xor_eq_zero {a b : Nat} (h : a ^^^ b = 0) : a = b := by
  have := congrArg (· ^^^ b) h
  simpa [Nat.xor_assoc] using this

theorem two {a b : Nat} (ha2 : a ≤ 2048) (hb2 : b ≤ 2048) (ha1 : 1 ≤ a) (hb1 : 1 ≤ b) (h : s a = s b) : a = b := by
  have key : ∀ a b : Nat, 1 ≤ a → a < b → b ≤ 2048 → s a = s b → False := by
    intro a b h1 h2 h3 h
    have e : Tn a (1 ^^^ s (b - a)) = 0 := by
      rw [Tn_xor]
      have : Tn a (s (b - a)) = s b := by rw [← s_add]; congr 1; omega
      rw [this, ← h]
      exact Nat.xor_self _
    have := Tn_inj a (Nat.xor_lt_two_pow (n := 32) (by decide) (s_lt _)) e
    exact (base (b - a) 1 (by omega) (by omega) (by decide) (by decide)).1 (xor_eq_zero this).symm
  rcases Nat.lt_trichotomy a b with hlt | he | hlt
  · exact (key a b ha1 hlt hb2 h).elim
  · exact he
  · exact (key b a hb1 hlt ha2 h.symm).elim

theorem three_least {a b c : Nat} (h1 : 1 ≤ a) (hab : a ≤ b) (hac : a ≤ c) (hb : b ≤ 2048) (hc : c ≤ 2048) (h : s a ^^^ (s b ^^^ s c) = 0) : False := by
  have e : Tn a (1 ^^^ (s (b - a) ^^^ s (c - a))) = 0 := by
    rw [Tn_xor, Tn_xor]
    have e1 : Tn a (s (b - a)) = s b := by rw [← s_add]; congr 1; omega
    have e2 : Tn a (s (c - a)) = s c := by rw [← s_add]; congr 1; omega
    rw [e1, e2]; exact h
  have h0 := Tn_inj a (Nat.xor_lt_two_pow (n := 32) (by decide) (Nat.xor_lt_two_pow (n := 32) (s_lt _) (s_lt _))) e
  rcases Nat.eq_or_lt_of_le hab with rfl | hab
  · have e1 : s (a - a) = 1 := by rw [Nat.sub_self]; rfl
    rw [e1, ← Nat.xor_assoc, Nat.xor_self, Nat.zero_xor] at h0
    exact s_ne _ h0
  rcases Nat.eq_or_lt_of_le hac with rfl | hac
  · have e1 : s (a - a) = 1 := by rw [Nat.sub_self]; rfl
    rw [e1, Nat.xor_comm (s (b - a)) 1, ← Nat.xor_assoc, Nat.xor_self, Nat.zero_xor] at h0
    exact s_ne _ h0
  have h2 := (base (b - a) (c - a) (by omega) (by omega) (by omega) (by omega)).2
  apply h2
  rw [← Nat.xor_assoc] at h0
  rw [Nat.xor_comm]
  exact xor_eq_zero h0

theorem three {a b c : Nat} (ha1 : 1 ≤ a) (hb1 : 1 ≤ b) (hc1 : 1 ≤ c) (ha : a ≤ 2048) (hb : b ≤ 2048) (hc : c ≤ 2048) (h : s a ^^^ (s b ^^^ s c) = 0) : False := by
  by_cases hab : a ≤ b
  · by_cases hac : a ≤ c
    · exact three_least ha1 hab hac hb hc h
    · refine three_least (a := c) (b := a) (c := b) hc1 (by omega) (by omega) ha hb ?_
      rw [← h, Nat.xor_comm, Nat.xor_assoc]
  · by_cases hbc : b ≤ c
    · refine three_least (a := b) (b := a) (c := c) hb1 (by omega) hbc ha hc ?_
      rw [← h, ← Nat.xor_assoc, ← Nat.xor_assoc, Nat.xor_comm (s b) (s a)]
    · refine three_least (a := c) (b := a) (c := b) hc1 (by omega) (by omega) ha hb ?_
      rw [← h, Nat.xor_comm, Nat.xor_assoc]

/-- One byte's step; bytes' step. -/
def crcByte (x c : Nat) : Nat := Tn 8 (x ^^^ c)
def crcList (x : Nat) (l : List Nat) : Nat := l.foldl crcByte x

theorem crc_xor (l : List Nat) : ∀ x z, crcList (x ^^^ z) l = crcList x l ^^^ Tn (8 * l.length) z := by
  induction l with
  | nil => intro x z; rfl
  | cons c r ih =>
    intro x z
    show crcList (crcByte (x ^^^ z) c) r = crcList (crcByte x c) r ^^^ _
    have e : crcByte (x ^^^ z) c = crcByte x c ^^^ Tn 8 z := by
      unfold crcByte
      rw [Nat.xor_assoc, Nat.xor_comm z c, ← Nat.xor_assoc, Tn_xor]
    rw [e, ih, ← Tn_add]
    congr 2
    simp only [List.length_cons]
    omega

theorem crc_set (l : List Nat) : ∀ (x q v : Nat) (h : q < l.length), crcList x (l.set q (l[q] ^^^ v)) = crcList x l ^^^ Tn (8 * (l.length - q)) v := by
  induction l with
  | nil => intro x q v h; simp at h
  | cons c r ih =>
    intro x q v h
    cases q with
    | zero =>
      show crcList (crcByte x (c ^^^ v)) r = crcList (crcByte x c) r ^^^ _
      have e : crcByte x (c ^^^ v) = crcByte x c ^^^ Tn 8 v := by
        unfold crcByte
        rw [← Nat.xor_assoc, Tn_xor]
      rw [e, crc_xor, ← Tn_add]
      congr 2
      simp only [List.length_cons]
      omega
    | succ q =>
      show crcList (crcByte x c) (r.set q (r[q]'(by simpa using h) ^^^ v)) = crcList (crcByte x c) r ^^^ _
      rw [ih (crcByte x c) q v (by simpa using h)]
      congr 2
      simp only [List.length_cons]
      omega

theorem Tn_pow : ∀ r, Tn r (2 ^ r) = 1
  | 0 => rfl
  | r + 1 => by
    have e : T (2 ^ (r + 1)) = 2 ^ r := by
      unfold T
      have h2 : 2 ^ (r + 1) = 2 ^ r * 2 := Nat.pow_succ 2 r
      rw [if_neg (by omega)]
      omega
    rw [Tn, e]
    exact Tn_pow r

/-- Bit n of bytes is turned; behind their end nothing is. -/
def flip (l : List Nat) (n : Nat) : List Nat := if h : n / 8 < l.length then l.set (n / 8) (l[n / 8] ^^^ 2 ^ (n % 8)) else l

theorem flip_length (l : List Nat) (n : Nat) : (flip l n).length = l.length := by
  unfold flip
  split <;> simp

/-- What a turned bit adds to the sum. -/
def adds (len n : Nat) : Nat := if n / 8 < len then s (8 * len - n) else 0

theorem crc_flip (l : List Nat) (x n : Nat) : crcList x (flip l n) = crcList x l ^^^ adds l.length n := by
  unfold flip adds
  split
  · rename_i h
    rw [crc_set l x (n / 8) (2 ^ (n % 8)) h]
    congr 1
    have e : 8 * (l.length - n / 8) = n % 8 + (8 * l.length - n) := by omega
    rw [e, Tn_add, Tn_pow]
    rfl
  · simp

theorem flip_twice (l : List Nat) (n : Nat) : flip (flip l n) n = l := by
  unfold flip
  by_cases h : n / 8 < l.length
  · rw [dif_pos h, dif_pos (by simpa using h)]
    apply List.ext_getElem
    · simp
    · intro i h1 h2
      by_cases hi : n / 8 = i
      · subst hi; simp [Nat.xor_assoc]
      · simp [hi]
  · rw [dif_neg h, dif_neg h]

theorem flip_none {l : List Nat} {n : Nat} (h : ¬ n / 8 < l.length) : flip l n = l := by unfold flip; rw [dif_neg h]

/-- The theorem of few bits. -/
theorem few (l : List Nat) (hl : l.length ≤ 256) (x a b c : Nat) : crcList x (flip (flip (flip l a) b) c) = crcList x l ↔ flip (flip (flip l a) b) c = l := by
  refine ⟨fun h => ?_, fun h => by rw [h]⟩
  rw [crc_flip, crc_flip, crc_flip] at h
  simp only [flip_length] at h
  have h0 : adds l.length a ^^^ (adds l.length b ^^^ adds l.length c) = 0 := by
    have := congrArg (crcList x l ^^^ ·) h
    simp only [Nat.xor_assoc, Nat.xor_self] at this
    rw [← Nat.xor_assoc, Nat.xor_self, Nat.zero_xor] at this
    exact this
  have ex : ∀ {n : Nat}, n / 8 < l.length → adds l.length n = s (8 * l.length - n) ∧ 1 ≤ 8 * l.length - n ∧ 8 * l.length - n ≤ 2048 ∧ n < 8 * l.length := fun {n} h => ⟨if_pos h, by omega, by omega, by omega⟩
  have ez : ∀ {n : Nat}, ¬ n / 8 < l.length → adds l.length n = 0 := fun h => if_neg h
  have noF : ∀ {n : Nat} (m : List Nat), m.length = l.length → ¬ n / 8 < l.length → flip m n = m := fun m hm h => flip_none (by rw [hm]; exact h)
  by_cases ha : a / 8 < l.length <;> by_cases hb : b / 8 < l.length <;> by_cases hc : c / 8 < l.length
  · rw [(ex ha).1, (ex hb).1, (ex hc).1] at h0
    exact (three (ex ha).2.1 (ex hb).2.1 (ex hc).2.1 (ex ha).2.2.1 (ex hb).2.2.1 (ex hc).2.2.1 h0).elim
  · rw [(ex ha).1, (ex hb).1, ez hc, Nat.xor_zero] at h0
    have e := two (ex ha).2.2.1 (ex hb).2.2.1 (ex ha).2.1 (ex hb).2.1 (xor_eq_zero h0)
    have e' : a = b := by have := (ex ha).2.2.2; have := (ex hb).2.2.2; omega
    rw [noF _ (by simp [flip_length]) hc, e', flip_twice]
  · rw [(ex ha).1, ez hb, (ex hc).1, Nat.zero_xor] at h0
    have e := two (ex ha).2.2.1 (ex hc).2.2.1 (ex ha).2.1 (ex hc).2.1 (xor_eq_zero h0)
    have e' : a = c := by have := (ex ha).2.2.2; have := (ex hc).2.2.2; omega
    rw [noF (flip l a) (flip_length _ _) hb, e', flip_twice]
  · rw [(ex ha).1, ez hb, ez hc, Nat.xor_zero, Nat.xor_zero] at h0
    exact (s_ne _ h0).elim
  · rw [ez ha, (ex hb).1, (ex hc).1, Nat.zero_xor] at h0
    have e := two (ex hb).2.2.1 (ex hc).2.2.1 (ex hb).2.1 (ex hc).2.1 (xor_eq_zero h0)
    have e' : b = c := by have := (ex hb).2.2.2; have := (ex hc).2.2.2; omega
    rw [noF l rfl ha, e', flip_twice]
  · rw [ez ha, (ex hb).1, ez hc, Nat.zero_xor, Nat.xor_zero] at h0
    exact (s_ne _ h0).elim
  · rw [ez ha, ez hb, (ex hc).1, Nat.zero_xor, Nat.zero_xor] at h0
    exact (s_ne _ h0).elim
  · rw [noF l rfl ha, noF l rfl hb, noF l rfl hc]

theorem Tn_shift : ∀ r k, Tn r (k * 2 ^ r) = k
  | 0, k => by simp [Tn]
  | r + 1, k => by
    have e : T (k * 2 ^ (r + 1)) = k * 2 ^ r := by
      have h2 : k * 2 ^ (r + 1) = 2 * (k * 2 ^ r) := by rw [Nat.pow_succ, ← Nat.mul_assoc, Nat.mul_comm]
      unfold T
      rw [h2, if_neg (by omega)]
      omega
    rw [Tn, e]
    exact Tn_shift r k

theorem split256 (y : Nat) : y = (y / 256 * 2 ^ 8) ^^^ (y % 256) := by
  apply Nat.eq_of_testBit_eq
  intro i
  have h1 : (y / 256 * 2 ^ 8).testBit i = (decide (8 ≤ i) && y.testBit i) := by
    rw [show y / 256 = y / 2 ^ 8 from rfl, Nat.testBit_mul_two_pow]
    by_cases h : 8 ≤ i
    · simp only [h, decide_true, Bool.true_and]
      rw [Nat.testBit_div_two_pow]
      congr 1
      omega
    · simp [h]
  have h2 : (y % 256).testBit i = (decide (i < 8) && y.testBit i) := by
    rw [show y % 256 = y % 2 ^ 8 from rfl, Nat.testBit_mod_two_pow]
  rw [Nat.testBit_xor, h1, h2]
  by_cases h : 8 ≤ i
  · have : ¬ i < 8 := by omega
    simp [h, this]
  · have : i < 8 := by omega
    simp [h, this]

/-- The step by a table of 256 sums. -/
theorem by_table (y : Nat) : Tn 8 y = Tn 8 (y % 256) ^^^ y / 256 := by
  conv => lhs; rw [split256 y]
  rw [Tn_xor, Tn_shift, Nat.xor_comm]
end CrcMath

/- Plain mathematics of CRC-32: the step by a table of 16, the step bit by bit as the document's own, and sums that go on. -/
namespace CrcMath

theorem splitr (r y : Nat) : y = (y / 2 ^ r * 2 ^ r) ^^^ (y % 2 ^ r) := by
  apply Nat.eq_of_testBit_eq
  intro i
  have h1 : (y / 2 ^ r * 2 ^ r).testBit i = (decide (r ≤ i) && y.testBit i) := by
    rw [Nat.testBit_mul_two_pow]
    by_cases h : r ≤ i
    · simp only [h, decide_true, Bool.true_and]
      rw [Nat.testBit_div_two_pow]
      congr 1
      omega
    · simp [h]
  rw [Nat.testBit_xor, h1, Nat.testBit_mod_two_pow]
  by_cases h : r ≤ i
  · have : ¬ i < r := by omega
    simp [h, this]
  · have : i < r := by omega
    simp [h, this]

/-- The step by a table of 16 words. -/
theorem by_half (y : Nat) : y / 16 ^^^ Tn 4 (y % 16) = Tn 4 y := by
  conv => rhs; rw [splitr 4 y]
  rw [Tn_xor, Tn_shift]

theorem two_halves (y : Nat) : Tn 4 (Tn 4 y) = Tn 8 y := (Tn_add 4 4 y).symm

/-- The step bit by bit. -/
theorem bit_round (z q y : Nat) (h : z ^^^ q = y) : T y = (if (z ^^^ q) % 2 = 1 then z / 2 ^^^ poly else z / 2) ^^^ q / 2 := by
  subst h
  unfold T
  rw [xor_div2]
  split
  · rw [Nat.xor_assoc, Nat.xor_comm (q / 2) poly, ← Nat.xor_assoc]
  · rfl

theorem Tn_succ (n x : Nat) : Tn (n + 1) x = T (Tn n x) := by rw [Tn_add n 1]; rfl

/-- Sums as they are told. -/
def crcStep (s : Nat) (l : List Nat) : Nat := crcList (4294967295 ^^^ s) l ^^^ 4294967295
def crcSum (l : List Nat) : Nat := crcStep 0 l

theorem crcList_append (x : Nat) (l r : List Nat) : crcList x (l ++ r) = crcList (crcList x l) r := by unfold crcList; rw [List.foldl_append]
theorem crcList_snoc (x : Nat) (l : List Nat) (c : Nat) : crcList x (l ++ [c]) = crcByte (crcList x l) c := by rw [crcList_append]; rfl

theorem crcStep_sum (a b : List Nat) : crcStep (crcSum a) b = crcSum (a ++ b) := by
  unfold crcSum crcStep
  rw [crcList_append, Nat.xor_comm 4294967295 (_ ^^^ 4294967295), Nat.xor_assoc, Nat.xor_self, Nat.xor_zero]

theorem xor_lt32 {a b : Nat} (ha : a < 4294967296) (hb : b < 4294967296) : a ^^^ b < 4294967296 := Nat.xor_lt_two_pow (n := 32) ha hb
theorem crcByte_lt {x c : Nat} (hx : x < 4294967296) (hc : c < 256) : crcByte x c < 4294967296 := Tn_lt 8 (xor_lt32 hx (by omega))
theorem crcList_lt : ∀ (l : List Nat) {x : Nat}, x < 4294967296 → (∀ c ∈ l, c < 256) → crcList x l < 4294967296
  | [], _, h, _ => h
  | c :: l, x, h, hl => by
    show crcList (crcByte x c) l < _
    exact crcList_lt l (crcByte_lt h (hl c List.mem_cons_self)) fun d hd => hl d (List.mem_cons_of_mem _ hd)
theorem crcStep_lt {s : Nat} {l : List Nat} (hs : s < 4294967296) (hl : ∀ c ∈ l, c < 256) : crcStep s l < 4294967296 := xor_lt32 (crcList_lt l (xor_lt32 (by decide) hs) hl) (by decide)
theorem crcSum_lt {l : List Nat} (hl : ∀ c ∈ l, c < 256) : crcSum l < 4294967296 := crcStep_lt (by decide) hl

theorem xor_inj {a b c : Nat} (h : a ^^^ c = b ^^^ c) : a = b := by
  have := congrArg (· ^^^ c) h
  simpa [Nat.xor_assoc] using this
theorem crcSum_eq {l r : List Nat} : crcSum l = crcSum r ↔ crcList 4294967295 l = crcList 4294967295 r := by
  unfold crcSum crcStep
  exact ⟨fun h => xor_inj h, fun h => congrArg (· ^^^ 4294967295) h⟩
end CrcMath

