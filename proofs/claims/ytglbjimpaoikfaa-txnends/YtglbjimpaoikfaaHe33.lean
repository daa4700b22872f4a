import Derived.Test.YtglbjimpaoikfaaHe32
/- The document's Token. -/
namespace Go.Proofs.Ytglbjimpaoikfaa
open Go.RowKit LeaseMath
set_option maxRecDepth 100000
set_option linter.unusedSimpArgs false
set_option linter.unusedVariables false

end Go.Proofs.Ytglbjimpaoikfaa

/- The document's plus. -/
namespace Go.Proofs.Ytglbjimpaoikfaa
open Go.RowKit LeaseMath
set_option maxRecDepth 100000
set_option linter.unusedSimpArgs false
set_option linter.unusedVariables false

def nums (k : Nat) : List Int := (List.range k).map fun n : Nat => (n : Int) + 1
theorem nums_mem {k : Nat} {n : Int} : n ∈ nums k ↔ 1 ≤ n ∧ n ≤ k := by
  unfold nums
  rw [List.mem_map]
  constructor
  · rintro ⟨m, hm, rfl⟩
    rw [List.mem_range] at hm
    omega
  · intro h
    exact ⟨(n - 1).toNat, by rw [List.mem_range]; omega, by omega⟩
theorem nums_ris (k : Nat) : (nums k).Pairwise (· < ·) := by
  unfold nums
  rw [List.pairwise_map]
  exact List.pairwise_lt_range.imp (by intro a b h; omega)
theorem nums_succ (k : Nat) : nums (k + 1) = nums k ++ [(k : Int) + 1] := by
  unfold nums
  rw [List.range_succ, List.map_append]
  rfl
theorem nums_len (k : Nat) : (nums k).length = k := by simp [nums]
def plusP (l : List Int) (g n : Int) : Bool := decide (n = g) || decide (n ∈ l)
def plusL (l : List Int) (g : Int) (k : Nat) : List Int := (nums k).filter (plusP l g)
end Go.Proofs.Ytglbjimpaoikfaa

