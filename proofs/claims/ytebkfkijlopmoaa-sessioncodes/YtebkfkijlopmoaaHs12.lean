import Derived.Test.YtebkfkijlopmoaaHs11
/- The contracts of a reader's fixed, Fixed4, Fixed8 and Byte: the number of the next bytes, or what was wrong; nothing but the reader's own block has turned. -/
namespace Go.Proofs.Ytebkfkijlopmoaa.Wi
open Go.RowKit WireMath
set_option maxRecDepth 100000
set_option linter.unusedSimpArgs false

theorem unfx_snoc (c : Nat) : ∀ l : List Nat, unfx (l ++ [c]) = unfx l + c * 256 ^ l.length
  | [] => by simp [unfx]
  | x :: r => by
    rw [List.cons_append, unfx, unfx_snoc c r, unfx, List.length_cons, Nat.pow_succ, Nat.mul_add, Nat.mul_comm (256 ^ r.length) 256, ← Nat.mul_assoc c, Nat.mul_comm c 256, Nat.mul_assoc, Nat.add_assoc]

theorem two_pow_8 (i : Nat) : 2 ^ (8 * i) = 256 ^ i := by rw [Nat.pow_mul]

/-- A byte laid into its place. -/
theorem or_byte (i acc c : Nat) (hi : i ≤ 7) (ha : acc < 256 ^ i) (hc : c < 256) :
    bits .or .u64 (acc : Int) (IntKind.u64.wrap ((c : Int) * 2 ^ (8 * i))) = ((acc + c * 256 ^ i : Nat) : Int) := by
  have e : (c : Int) * 2 ^ (8 * i) = ((c * 256 ^ i : Nat) : Int) := by
    rw [← two_pow_8]
    push_cast
    rfl
  have hp : 256 ^ i ≤ 256 ^ 7 := Nat.pow_le_pow_right (by decide) hi
  have hb : c * 256 ^ i < 18446744073709551616 := by
    have : c * 256 ^ i ≤ 255 * 256 ^ 7 := Nat.mul_le_mul (by omega) hp
    omega
  rw [e, IntKind.wrap_u64, Int.emod_eq_of_lt (by omega) (by omega), bits_or_u64_nat acc _ (by omega) hb]
  congr 1
  have h1 := Nat.shiftLeft_add_eq_or_of_lt (b := acc) (i := 8 * i) (by rw [two_pow_8]; exact ha) c
  rw [Nat.shiftLeft_eq, two_pow_8] at h1
  rw [Nat.or_comm, ← h1, Nat.add_comm]

/-- What a reader's fixed tells, and leaves. -/
def fxN (l : List Nat) (a b k : Nat) : Nat := if (src l a b).length < k then 0 else unfx ((src l a b).take k)
def fxA (l : List Nat) (a b k : Nat) : Nat := if (src l a b).length < k then a else a + k
def fxE (l : List Nat) (a b k : Nat) : Nat := if (src l a b).length < k then wb b 5 else b

theorem fxN_lt {l : List Nat} {a b k : Nat} (hl : ∀ c ∈ l, c < 256) : fxN l a b k < 256 ^ k := by
  unfold fxN
  split
  · exact Nat.pow_pos (by decide)
  · have h1 := unfx_lt ((src l a b).take k) (fun c hc => src_bytes hl c (List.mem_of_mem_take hc))
    rw [List.length_take, Nat.min_eq_left (by omega)] at h1
    exact h1

end Go.Proofs.Ytebkfkijlopmoaa.Wi

