import Derived.Test.YtfpbgfmnjpamlaaGreatHv43
import Derived.Test.YtfpbgfmnjpamlaaGreatHv41
import Derived.Test.YtfpbgfmnjpamlaaGreatHv50
import Derived.Test.YtfpbgfmnjpamlaaGreatHv47
import Derived.Test.YtfpbgfmnjpamlaaGreatHv19
import Derived.Test.YtfpbgfmnjpamlaaGreatHv35
/- The document's refused. -/
namespace Go.Proofs.YtfpbgfmnjpamlaaGreat
open Go.RowKit LeaseMath
set_option maxRecDepth 100000
set_option linter.unusedSimpArgs false
set_option linter.unusedVariables false

theorem cells3 {w : World} {g : Nat} {a b c : Value} {t : TypeId} (H : w.heap[g]? = some (.cells #[a, b, c] t (0, 0))) : w.cell? ⟨g, 0, none⟩ = some a ∧ w.cell? ⟨g, 1, none⟩ = some b ∧ w.cell? ⟨g, 2, none⟩ = some c := by
 refine ⟨?_, ?_, ?_⟩ <;> rw [cells_of_block H] <;> rfl
end Go.Proofs.YtfpbgfmnjpamlaaGreat

/- The document's Prepare: its mathematics, what its calls tell. -/
namespace Go.Proofs.YtfpbgfmnjpamlaaGreat
open Go.RowKit LeaseMath
set_option maxRecDepth 100000
set_option linter.unusedSimpArgs false
set_option linter.unusedVariables false

def RPrepT (m : Tb × Int) (e : Ending) (w' : World) : Prop := ∃ z : Tz, e = .returned (.tuple #[tv z, .int .i64 m.2]) ∧ z.t = m.1 ∧ TbR w' z
theorem RPrepT.mk {w : World} {z : Tz} {t : Tb} {c : Int} {m : Tb × Int} (h : m = (t, c)) (hz : z.t = t) (hT : TbR w z) : RPrepT m (.returned (.tuple #[tv z, .int .i64 c])) w := ⟨z, by rw [h], by rw [h]; exact hz, hT⟩
theorem noZ_r (w : World) : TbR w noZ := ⟨Rd.nil _ _, Rd.nil _ _, Rd.nil _ _, Rd.nil _ _, Rd.nil _ _⟩
end Go.Proofs.YtfpbgfmnjpamlaaGreat

