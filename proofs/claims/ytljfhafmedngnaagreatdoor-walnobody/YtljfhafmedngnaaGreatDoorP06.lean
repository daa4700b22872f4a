import Derived.Test.YtljfhafmedngnaaGreatDoorP05
import Derived.KernelRfl
/- The contracts of a reader's peek, Uvarint and Varint: the next number, or what was wrong; nothing but the reader's own block has turned. -/
namespace Go.Proofs.YtljfhafmedngnaaGreatDoor.Fr
open Go.RowKit WireMath
set_option maxRecDepth 100000
set_option linter.unusedSimpArgs false

theorem src_bytes {l : List Nat} {a b : Nat} (hl : ∀ c ∈ l, c < 256) : ∀ c ∈ src l a b, c < 256 := by
  unfold src
  intro c hc
  split at hc
  · exact hl c (List.mem_of_mem_drop hc)
  · simp at hc
theorem src_len {l : List Nat} {a b k : Nat} (h : k ≤ (src l a b).length) (hk : 0 < k) : b = 0 ∧ a + k ≤ l.length := by
  unfold src at h
  split at h
  · rename_i hb
    rw [List.length_drop] at h
    exact ⟨hb, by omega⟩
  · simp at h; omega
theorem rd_facts {l : List Nat} {n k : Nat} (hl : ∀ c ∈ l, c < 256) (h : rd 10 0 0 l = some (n, k)) : n < 18446744073709551616 ∧ 0 < k ∧ k ≤ 10 ∧ k ≤ l.length := by
  obtain ⟨h1, h2, h3, h4⟩ := canonical l hl n k h
  refine ⟨h4, by rw [h2]; exact uv_pos n, h3, ?_⟩
  have := congrArg List.length h1
  rw [List.length_take] at this
  omega

set_option maxHeartbeats 2000000 in
theorem peek_none (q : Nat) (l : List Nat) (a b : Nat) (w : World) (h : Rd w q l a b) (hl : ∀ c ∈ l, c < 256) (hrd : rd 10 0 0 (src l a b) = none) :
    Calls Tryz.prog 114 #[.pointer (some ⟨q, 0, none⟩)] w fun e w' => e = .returned (.tuple #[.int .u64 0, .int .i64 0]) ∧ Rd w' q l a (wb b 5) ∧ Kp q w w' := by
  go_enter Tryz.func114, Tryz.ntmps114
  go_wp2_with fail
  refine (rest_of q l a b w h).mono ?_
  rintro e w1 ⟨v1, rfl, hB1, hb1⟩
  have h1 := h.below hb1
  have hf := first_of q _ v1 w1 hB1 (src_bytes hl)
  rw [hrd] at hf
  dsimp only [rdV, Option.getD] at hf
  go_wp2_with fail
  refine hf.mono ?_
  rintro e wx ⟨rfl, hwx⟩
  subst hwx
  go_wp2_with fail
  refine (fail_of q l a b 5 _ h1).mono ?_
  rintro e w2 ⟨rfl, h2, k2⟩
  go_wp2
  go_ret2
  exact ⟨rfl, h2, (Kp.of_below hb1).trans k2⟩

set_option maxHeartbeats 2000000 in
theorem peek_some (q : Nat) (l : List Nat) (a b n k : Nat) (w : World) (h : Rd w q l a b) (hl : ∀ c ∈ l, c < 256) (hrd : rd 10 0 0 (src l a b) = some (n, k)) :
    Calls Tryz.prog 114 #[.pointer (some ⟨q, 0, none⟩)] w fun e w' => e = .returned (.tuple #[.int .u64 (n : Int), .int .i64 (k : Int)]) ∧ Rd w' q l a b ∧ Kp q w w' := by
  obtain ⟨hn, hk0, hk10, _⟩ := rd_facts (src_bytes hl) hrd
  have hk1 : ¬ (k : Int) = 0 := by omega
  have hk2 : ¬ k = 0 := by omega
  go_enter Tryz.func114, Tryz.ntmps114
  go_wp2_with fail
  refine (rest_of q l a b w h).mono ?_
  rintro e w1 ⟨v1, rfl, hB1, hb1⟩
  have h1 := h.below hb1
  have hf := first_of q _ v1 w1 hB1 (src_bytes hl)
  rw [hrd] at hf
  dsimp only [rdV, Option.getD] at hf
  go_wp2_with fail
  refine hf.mono ?_
  rintro e wx ⟨rfl, hwx⟩
  subst hwx
  clear hf
  go_wp2
  go_ret2
  exact ⟨rfl, h1, Kp.of_below hb1⟩

theorem wb_wb (b c d : Nat) (hc : c ≠ 0) : wb (wb b c) d = wb b c := by
  unfold wb
  by_cases hb : b = 0
  · rw [if_pos hb, if_neg hc]
  · rw [if_neg hb, if_neg hb]

set_option maxHeartbeats 2000000 in
theorem peekM_none (q : Nat) (l : List Nat) (a b : Nat) (m : Int) (w : World) (h : Rd w q l a b) (hl : ∀ c ∈ l, c < 256) (hrd : rd 10 0 0 (src l a b) = none) (hm2 : m ≤ 9223372036854775807) :
    Calls Tryz.prog 158 #[.pointer (some ⟨q, 0, none⟩), .int .i64 m] w fun e w' => e = .returned (.tuple #[.int .u64 0, .int .i64 0]) ∧ Rd w' q l a (wb b 5) ∧ Kp q w w' := by
  by_cases hneg : m < 0
  · go_enter Tryz.func158, Tryz.ntmps158
    go_wp2_with fail
    refine (peek_none q l a b w h hl hrd).mono ?_
    rintro e w1 ⟨rfl, h1, k1⟩
    go_wp2_with fail
    refine (fail_of q l a _ 3 _ h1).mono ?_
    rintro e w2 ⟨rfl, h2, k2⟩
    rw [wb_wb b 5 3 (by decide)] at h2
    go_wp2
    go_ret2
    exact ⟨rfl, h2, k1.trans k2⟩
  · have hneg2 : 0 ≤ m := by omega
    have q1 : IntKind.u64.wrap m = m := by rw [IntKind.wrap_u64]; omega
    go_enter Tryz.func158, Tryz.ntmps158
    go_wp2_with fail
    refine (peek_none q l a b w h hl hrd).mono ?_
    rintro e w1 ⟨rfl, h1, k1⟩
    go_wp2
    go_ret2
    exact ⟨rfl, h1, k1⟩

set_option maxHeartbeats 2000000 in
theorem peekM_some (q : Nat) (l : List Nat) (a b n k : Nat) (m : Int) (w : World) (h : Rd w q l a b) (hl : ∀ c ∈ l, c < 256) (hrd : rd 10 0 0 (src l a b) = some (n, k)) (hm : (n : Int) ≤ m) (hm2 : m ≤ 9223372036854775807) :
    Calls Tryz.prog 158 #[.pointer (some ⟨q, 0, none⟩), .int .i64 m] w fun e w' => e = .returned (.tuple #[.int .u64 (n : Int), .int .i64 (k : Int)]) ∧ Rd w' q l a b ∧ Kp q w w' := by
  have hneg : ¬ m < 0 := by omega
  have hneg2 : 0 ≤ m := by omega
  have q1 : IntKind.u64.wrap m = m := by rw [IntKind.wrap_u64]; omega
  go_enter Tryz.func158, Tryz.ntmps158
  go_wp2_with fail
  refine (peek_some q l a b n k w h hl hrd).mono ?_
  rintro e w1 ⟨rfl, h1, k1⟩
  go_wp2
  go_ret2
  exact ⟨rfl, h1, k1⟩

set_option maxHeartbeats 2000000 in
theorem peekM_long (q : Nat) (l : List Nat) (a b n k : Nat) (m : Int) (w : World) (h : Rd w q l a b) (hl : ∀ c ∈ l, c < 256) (hrd : rd 10 0 0 (src l a b) = some (n, k)) (hm : ¬ (n : Int) ≤ m) (hm2 : m ≤ 9223372036854775807) :
    Calls Tryz.prog 158 #[.pointer (some ⟨q, 0, none⟩), .int .i64 m] w fun e w' => e = .returned (.tuple #[.int .u64 0, .int .i64 0]) ∧ Rd w' q l a (wb b 3) ∧ Kp q w w' := by
  by_cases hneg : m < 0
  · clear hm
    go_enter Tryz.func158, Tryz.ntmps158
    go_wp2_with fail
    refine (peek_some q l a b n k w h hl hrd).mono ?_
    rintro e w1 ⟨rfl, h1, k1⟩
    go_wp2_with fail
    refine (fail_of q l a b 3 _ h1).mono ?_
    rintro e w2 ⟨rfl, h2, k2⟩
    go_wp2
    go_ret2
    exact ⟨rfl, h2, k1.trans k2⟩
  · have hneg2 : 0 ≤ m := by omega
    have q1 : IntKind.u64.wrap m = m := by rw [IntKind.wrap_u64]; omega
    go_enter Tryz.func158, Tryz.ntmps158
    go_wp2_with fail
    refine (peek_some q l a b n k w h hl hrd).mono ?_
    rintro e w1 ⟨rfl, h1, k1⟩
    go_wp2_with fail
    refine (fail_of q l a b 3 _ h1).mono ?_
    rintro e w2 ⟨rfl, h2, k2⟩
    go_wp2
    go_ret2
    exact ⟨rfl, h2, k1.trans k2⟩

/-- What a reader's Uvarint tells, and leaves. -/
def uvN (l : List Nat) (a b : Nat) : Nat := ((rd 10 0 0 (src l a b)).getD (0, 0)).1
def uvA (l : List Nat) (a b : Nat) : Nat := a + ((rd 10 0 0 (src l a b)).getD (0, 0)).2
def uvE (l : List Nat) (a b : Nat) : Nat := if rd 10 0 0 (src l a b) = none then wb b 5 else b

theorem uvN_lt {l : List Nat} {a b : Nat} (hl : ∀ c ∈ l, c < 256) : uvN l a b < 18446744073709551616 := by
  unfold uvN
  cases hrd : rd 10 0 0 (src l a b) with
  | none => simp
  | some x => exact (rd_facts (src_bytes hl) (n := x.1) (k := x.2) hrd).1
end Go.Proofs.YtljfhafmedngnaaGreatDoor.Fr

/- The contract of a reader's Number, whole. -/
namespace Go.Proofs.YtljfhafmedngnaaGreatDoor.Fr
open Go.RowKit WireMath
set_option maxRecDepth 100000
set_option linter.unusedSimpArgs false

/-- What Number tells, and leaves. -/
def nuN (l : List Nat) (a b : Nat) (m : Int) : Nat := match rd 10 0 0 (src l a b) with | none => 0 | some x => if (x.1 : Int) ≤ m then x.1 else 0
def nuA (l : List Nat) (a b : Nat) (m : Int) : Nat := match rd 10 0 0 (src l a b) with | none => a | some x => if (x.1 : Int) ≤ m then a + x.2 else a
def nuE (l : List Nat) (a b : Nat) (m : Int) : Nat := match rd 10 0 0 (src l a b) with | none => wb b 5 | some x => if (x.1 : Int) ≤ m then b else wb b 3
theorem nu_none {l : List Nat} {a b : Nat} (m : Int) (h : rd 10 0 0 (src l a b) = none) : nuN l a b m = 0 ∧ nuA l a b m = a ∧ nuE l a b m = wb b 5 := by simp [nuN, nuA, nuE, h]
theorem nu_some {l : List Nat} {a b n k : Nat} {m : Int} (h : rd 10 0 0 (src l a b) = some (n, k)) (hm : (n : Int) ≤ m) : nuN l a b m = n ∧ nuA l a b m = a + k ∧ nuE l a b m = b := by simp [nuN, nuA, nuE, h, hm]
theorem nu_long {l : List Nat} {a b n k : Nat} {m : Int} (h : rd 10 0 0 (src l a b) = some (n, k)) (hm : ¬ (n : Int) ≤ m) : nuN l a b m = 0 ∧ nuA l a b m = a ∧ nuE l a b m = wb b 3 := by simp [nuN, nuA, nuE, h, hm]

theorem wb_ne (b c : Nat) (hc : c ≠ 0) : wb b c ≠ 0 := by unfold wb; split <;> omega

set_option maxHeartbeats 2000000 in
theorem number_m (q : Nat) (l : List Nat) (a b : Nat) (m : Int) (w : World) (h : Rd w q l a b) (hl : ∀ c ∈ l, c < 256) (hm2 : m ≤ 9223372036854775807) :
    Calls Tryz.prog 131 #[.pointer (some ⟨q, 0, none⟩), .int .i64 m] w fun e w' => e = .returned (.int .i64 (nuN l a b m : Int)) ∧ Rd w' q l (nuA l a b m) (nuE l a b m) ∧ Kp q w w' := by
  have hal : a ≤ l.length := by obtain ⟨_, _, _, h3⟩ := h; exact h3
  have zero : ∀ c, Calls Tryz.prog 158 #[.pointer (some ⟨q, 0, none⟩), .int .i64 m] w (fun e w' => e = .returned (.tuple #[.int .u64 0, .int .i64 0]) ∧ Rd w' q l a c ∧ Kp q w w') →
      Calls Tryz.prog 131 #[.pointer (some ⟨q, 0, none⟩), .int .i64 m] w fun e w' => e = .returned (.int .i64 0) ∧ Rd w' q l a c ∧ Kp q w w' := by
    intro c hp
    go_enter Tryz.func131, Tryz.ntmps131
    go_wp2_with fail
    refine hp.mono ?_
    rintro e w1 ⟨rfl, h1, k1⟩
    go_wp2_with fail
    refine (skip_of q l a c 0 w1 h1 (by omega)).mono ?_
    rintro e w2 ⟨rfl, h2, k2⟩
    go_wp2
    go_ret
    exact ⟨rfl, h2, k1.trans k2⟩
  cases hrd : rd 10 0 0 (src l a b) with
  | none =>
    obtain ⟨e1, e2, e3⟩ := nu_none m hrd
    rw [e1, e2, e3]
    exact zero _ (peekM_none q l a b m w h hl hrd hm2)
  | some x =>
    obtain ⟨n, k⟩ := x
    by_cases hm : (n : Int) ≤ m
    · obtain ⟨e1, e2, e3⟩ := nu_some hrd hm
      rw [e1, e2, e3]
      obtain ⟨hn, hk0, hk10, hkl⟩ := rd_facts (src_bytes hl) hrd
      obtain ⟨rfl, hal⟩ := src_len hkl hk0
      have hp := peekM_some q l a 0 n k m w h hl hrd hm hm2
      have hn63 : (n : Int) ≤ 9223372036854775807 := by omega
      clear hrd zero e1 e2 e3
      go_enter Tryz.func131, Tryz.ntmps131
      go_wp2_with fail
      refine hp.mono ?_
      rintro e w1 ⟨rfl, h1, k1⟩
      go_wp2_with fail
      refine (skip_of q l a 0 k w1 h1 hal).mono ?_
      rintro e w2 ⟨rfl, h2, k2⟩
      go_wp2
      go_ret
      exact ⟨rfl, h2, k1.trans k2⟩
    · obtain ⟨e1, e2, e3⟩ := nu_long hrd hm
      rw [e1, e2, e3]
      exact zero _ (peekM_long q l a b n k m w h hl hrd hm hm2)
end Go.Proofs.YtljfhafmedngnaaGreatDoor.Fr

/- Plain mathematics of CRC-32: the sum as a fold, that it is linear, and that one, two or three turned bits in at most 2048 turn it. -/
namespace CrcMath

def poly : Nat := 3988292384
/-- One bit's step. -/
def T (x : Nat) : Nat := if x % 2 = 1 then x / 2 ^^^ poly else x / 2
def Tn : Nat → Nat → Nat
  | 0, x => x
  | n + 1, x => Tn n (T x)

theorem xor_div2 (x y : Nat) : (x ^^^ y) / 2 = x / 2 ^^^ y / 2 := by
  apply Nat.eq_of_testBit_eq
  intro i
  simp [Nat.testBit_div_two]

theorem xor_mod2 (x y : Nat) : (x ^^^ y) % 2 = (x % 2 + y % 2) % 2 := by
  have h : (x ^^^ y) % 2 = (x % 2) ^^^ (y % 2) := by
    have := Nat.xor_mod_two_pow (a := x) (b := y) (n := 1)
    simpa using this
  rw [h]
  rcases Nat.mod_two_eq_zero_or_one x with hx | hx <;> rcases Nat.mod_two_eq_zero_or_one y with hy | hy <;> simp [hx, hy]

theorem T_xor (x y : Nat) : T (x ^^^ y) = T x ^^^ T y := by
  unfold T
  rw [xor_div2, xor_mod2]
  rcases Nat.mod_two_eq_zero_or_one x with hx | hx <;> rcases Nat.mod_two_eq_zero_or_one y with hy | hy <;> simp [hx, hy]
  · exact Nat.xor_assoc _ _ _
  · rw [Nat.xor_assoc, Nat.xor_comm (y / 2) poly, ← Nat.xor_assoc]
  · rw [Nat.xor_assoc, Nat.xor_comm (y / 2) poly, ← Nat.xor_assoc poly poly, Nat.xor_self, Nat.zero_xor]

theorem Tn_xor (n : Nat) : ∀ x y, Tn n (x ^^^ y) = Tn n x ^^^ Tn n y := by
  induction n with
  | zero => intro x y; rfl
  | succ n ih => intro x y; rw [Tn, T_xor, ih]; rfl
theorem T_zero : T 0 = 0 := rfl
theorem Tn_zero (n : Nat) : Tn n 0 = 0 := by
  induction n with
  | zero => rfl
  | succ n ih => rw [Tn, T_zero, ih]
theorem Tn_add (m n x : Nat) : Tn (m + n) x = Tn n (Tn m x) := by
  induction m generalizing x with
  | zero => simp [Tn]
  | succ m ih => rw [Nat.succ_add, Tn, ih]; rfl

theorem T_lt {x : Nat} (h : x < 4294967296) : T x < 4294967296 := by
  unfold T
  have h1 : x / 2 < 2 ^ 32 := by omega
  have h2 : poly < 2 ^ 32 := by decide
  split
  · exact Nat.xor_lt_two_pow h1 h2
  · omega
theorem Tn_lt (n : Nat) : ∀ {x : Nat}, x < 4294967296 → Tn n x < 4294967296 := by
  induction n with
  | zero => intro x h; exact h
  | succ n ih => intro x h; exact ih (T_lt h)

theorem T_inj {x : Nat} (h : x < 4294967296) (h0 : T x = 0) : x = 0 := by
  unfold T at h0
  split at h0
  · -- x / 2 = poly, but poly has its highest bit set and x / 2 < 2^31
    have : x / 2 = poly := by
      have := congrArg (· ^^^ poly) h0
      simpa [Nat.xor_assoc] using this
    have hp : poly = 3988292384 := rfl
    omega
  · omega
theorem Tn_inj (n : Nat) : ∀ {x : Nat}, x < 4294967296 → Tn n x = 0 → x = 0 := by
  induction n with
  | zero => intro x _ h; exact h
  | succ n ih => intro x h h0; exact T_inj h (ih (T_lt h) h0)

/-- What one turned bit makes, m steps on. -/
def s (m : Nat) : Nat := Tn m 1
theorem s_lt (m : Nat) : s m < 4294967296 := Tn_lt m (by decide)
theorem s_add (m n : Nat) : s (m + n) = Tn m (s n) := by unfold s; rw [Nat.add_comm, Tn_add]
end CrcMath

/- The closed check behind the theorem of few bits: among 2047 powers no two, and no three with 1, cancel. -/
namespace CrcMath
set_option maxRecDepth 1000000

/-- T for the kernel. -/
def Tf (x : Nat) : Nat := cond (Nat.beq (Nat.mod x 2) 1) (Nat.xor (Nat.div x 2) 3988292384) (Nat.div x 2)
theorem Tf_eq (x : Nat) : Tf x = T x := by
  unfold Tf T
  show cond (Nat.beq (x % 2) 1) (x / 2 ^^^ poly) (x / 2) = _
  rcases Nat.mod_two_eq_zero_or_one x with h | h
  · rw [h]; rfl
  · rw [h]; rfl

def sList : Nat → Nat → List Nat
  | 0, _ => []
  | n + 1, x => x :: sList n (Tf x)

def pick (r : Nat) : List Nat → List Nat
  | [] => []
  | x :: l => cond (Nat.beq (Nat.mod x 64) r) (x :: pick r l) (pick r l)

def notIn (y : Nat) : List Nat → Bool
  | [] => true
  | x :: l => cond (Nat.beq x y) false (notIn y l)

def apart (u : List Nat) : List Nat → Bool
  | [] => true
  | x :: l => cond (Nat.beq x 1) false (cond (notIn (Nat.xor x 1) u) (apart u l) false)

def allB (l : List Nat) : Nat → Bool
  | 0 => true
  | r + 1 => cond (apart (pick (Nat.xor r 1) l) (pick r l)) (allB l r) false

theorem checked : allB (sList 2047 (Tf 1)) 64 = true := by kernel_rfl
end CrcMath

