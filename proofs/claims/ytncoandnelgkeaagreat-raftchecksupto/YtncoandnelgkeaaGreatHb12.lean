import Derived.Test.YtncoandnelgkeaaGreatHb11
/- The program's agree. -/
namespace RlogMath
end RlogMath
namespace Go.Proofs.YtncoandnelgkeaaGreat
open Go.RowKit QuorumMath RlogMath
set_option maxRecDepth 100000
set_option linter.unusedSimpArgs false
set_option linter.unusedVariables false

end Go.Proofs.YtncoandnelgkeaaGreat

/- Merging: plain mathematics. -/
namespace RlogMath
open QuorumMath
end RlogMath

/- The program's Merge. -/
namespace Go.Proofs.YtncoandnelgkeaaGreat
open Go.RowKit QuorumMath RlogMath
set_option maxRecDepth 100000
set_option linter.unusedSimpArgs false
set_option linter.unusedVariables false

/-- What Merge tells. -/
def Lg3T (r : Int × Me × List Me × Nat) (e : Ending) (w' : World) : Prop := ∃ v, e = .returned (.tuple #[v, .int .u64 (r.2.2.2 : Int), .int .i64 r.1]) ∧ LogM w' v r.2.1 r.2.2.1
/-- The same, of copies. -/
def Lg3C (r : Int × Me × List Me × Nat) (e : Ending) (w' : World) : Prop := ∃ v, e = .returned (.tuple #[v, .int .u64 (r.2.2.2 : Int), .int .i64 r.1]) ∧ LogC 0 w' v r.2.1 r.2.2.1
theorem Lg3C.lg {r : Int × Me × List Me × Nat} {e : Ending} {w' : World} (h : Lg3C r e w') : Lg3T r e w' := by
  obtain ⟨v, h1, h2⟩ := h
  exact ⟨v, h1, h2.logM⟩
end Go.Proofs.YtncoandnelgkeaaGreat

