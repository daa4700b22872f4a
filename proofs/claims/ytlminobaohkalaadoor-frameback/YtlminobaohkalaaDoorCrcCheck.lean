/- The closed check behind the theorem of few bits: among 2047 powers no two, and no three with 1, cancel. -/
import Derived.Test.YtlminobaohkalaaDoorCrcMath
namespace CrcMath
set_option maxRecDepth 1000000

/-- T for the kernel. -/
def Tf (x : Nat) : Nat := cond (Nat.beq (Nat.mod x 2) 1) (Nat.xor (Nat.div x 2) 3988292384) (Nat.div x 2)
theorem Tf_eq (x : Nat) : Tf x = T x := by
  unfold Tf T
  show cond (Nat.beq (x % 2) 1) (x / 2 ^^^ poly) (x / 2) = _
  rcases Nat.mod_two_eq_zero_or_one x with h | h
  · rw [h]; rfl
  · rw [h]; rfl

def sList : Nat → Nat → List Nat
  | 0, _ => []
  | n + 1, x => x :: sList n (Tf x)

def pick (r : Nat) : List Nat → List Nat
  | [] => []
  | x :: l => cond (Nat.beq (Nat.mod x 64) r) (x :: pick r l) (pick r l)

def notIn (y : Nat) : List Nat → Bool
  | [] => true
  | x :: l => cond (Nat.beq x y) false (notIn y l)

def apart (u : List Nat) : List Nat → Bool
  | [] => true
  | x :: l => cond (Nat.beq x 1) false (cond (notIn (Nat.xor x 1) u) (apart u l) false)

def allB (l : List Nat) : Nat → Bool
  | 0 => true
  | r + 1 => cond (apart (pick (Nat.xor r 1) l) (pick r l)) (allB l r) false

theorem checked : allB (sList 2047 (Tf 1)) 64 = true := by kernel_rfl
end CrcMath
