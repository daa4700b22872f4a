/- Plain mathematics of CRC-32: the step by a table of 16, the step bit by bit as the document's own, and sums that go on. -/
import Derived.Test.YtlminobaohkalaaDoorCrcFew
namespace CrcMath

theorem splitr (r y : Nat) : y = (y / 2 ^ r * 2 ^ r) ^^^ (y % 2 ^ r) := by
  apply Nat.eq_of_testBit_eq
  intro i
  have h1 : (y / 2 ^ r * 2 ^ r).testBit i = (decide (r ≤ i) && y.testBit i) := by
    rw [Nat.testBit_mul_two_pow]
    by_cases h : r ≤ i
    · simp only [h, decide_true, Bool.true_and]
      rw [Nat.testBit_div_two_pow]
      congr 1
      omega
    · simp [h]
  rw [Nat.testBit_xor, h1, Nat.testBit_mod_two_pow]
  by_cases h : r ≤ i
  · have : ¬ i < r := by omega
    simp [h, this]
  · have : i < r := by omega
    simp [h, this]

/-- The step by a table of 16 words. -/
theorem by_half (y : Nat) : y / 16 ^^^ Tn 4 (y % 16) = Tn 4 y := by
  conv => rhs; rw [splitr 4 y]
  rw [Tn_xor, Tn_shift]

theorem two_halves (y : Nat) : Tn 4 (Tn 4 y) = Tn 8 y := (Tn_add 4 4 y).symm

/-- The step bit by bit. -/
theorem bit_round (z q y : Nat) (h : z ^^^ q = y) : T y = (if (z ^^^ q) % 2 = 1 then z / 2 ^^^ poly else z / 2) ^^^ q / 2 := by
  subst h
  unfold T
  rw [xor_div2]
  split
  · rw [Nat.xor_assoc, Nat.xor_comm (q / 2) poly, ← Nat.xor_assoc]
  · rfl

theorem Tn_succ (n x : Nat) : Tn (n + 1) x = T (Tn n x) := by rw [Tn_add n 1]; rfl

/-- Sums as they are told. -/
def crcStep (s : Nat) (l : List Nat) : Nat := crcList (4294967295 ^^^ s) l ^^^ 4294967295
def crcSum (l : List Nat) : Nat := crcStep 0 l

theorem crcList_append (x : Nat) (l r : List Nat) : crcList x (l ++ r) = crcList (crcList x l) r := by unfold crcList; rw [List.foldl_append]
theorem crcList_snoc (x : Nat) (l : List Nat) (c : Nat) : crcList x (l ++ [c]) = crcByte (crcList x l) c := by rw [crcList_append]; rfl

theorem crcStep_sum (a b : List Nat) : crcStep (crcSum a) b = crcSum (a ++ b) := by
  unfold crcSum crcStep
  rw [crcList_append, Nat.xor_comm 4294967295 (_ ^^^ 4294967295), Nat.xor_assoc, Nat.xor_self, Nat.xor_zero]

theorem xor_lt32 {a b : Nat} (ha : a < 4294967296) (hb : b < 4294967296) : a ^^^ b < 4294967296 := Nat.xor_lt_two_pow (n := 32) ha hb
theorem crcByte_lt {x c : Nat} (hx : x < 4294967296) (hc : c < 256) : crcByte x c < 4294967296 := Tn_lt 8 (xor_lt32 hx (by omega))
theorem crcList_lt : ∀ (l : List Nat) {x : Nat}, x < 4294967296 → (∀ c ∈ l, c < 256) → crcList x l < 4294967296
  | [], _, h, _ => h
  | c :: l, x, h, hl => by
    show crcList (crcByte x c) l < _
    exact crcList_lt l (crcByte_lt h (hl c List.mem_cons_self)) fun d hd => hl d (List.mem_cons_of_mem _ hd)
theorem crcStep_lt {s : Nat} {l : List Nat} (hs : s < 4294967296) (hl : ∀ c ∈ l, c < 256) : crcStep s l < 4294967296 := xor_lt32 (crcList_lt l (xor_lt32 (by decide) hs) hl) (by decide)
theorem crcSum_lt {l : List Nat} (hl : ∀ c ∈ l, c < 256) : crcSum l < 4294967296 := crcStep_lt (by decide) hl

theorem xor_inj {a b c : Nat} (h : a ^^^ c = b ^^^ c) : a = b := by
  have := congrArg (· ^^^ c) h
  simpa [Nat.xor_assoc] using this
theorem crcSum_eq {l r : List Nat} : crcSum l = crcSum r ↔ crcList 4294967295 l = crcList 4294967295 r := by
  unfold crcSum crcStep
  exact ⟨fun h => xor_inj h, fun h => congrArg (· ^^^ 4294967295) h⟩
end CrcMath
