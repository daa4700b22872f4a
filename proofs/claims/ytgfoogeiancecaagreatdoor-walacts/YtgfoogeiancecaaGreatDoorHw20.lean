import Derived.Test.YtgfoogeiancecaaGreatDoorHw19
import Derived.Test.YtgfoogeiancecaaGreatDoorRows
import Derived.Test.YtgfoogeiancecaaGreatDoorCards
import Derived.Test.YtgfoogeiancecaaGreatDoorTie
import Derived.Deep.SlicePairs
import Derived.ProofKit
import Derived.Lib.SmallJoins
import Derived.OpenShut
import Derived.LaidLaws
import Derived.LaidSub
import Derived.LaidHandle
import Derived.MakeChecks
import Derived.Lay
import Derived.SevenTiedAt
import Derived.Stop.Joined
import Derived.Lib.LaidTab
/- From the row's condition on its six variables to the two tables that are read. -/
namespace Go.Proofs.YtgfoogeiancecaaGreatDoor
open Go.ChangeShapes Go.WideShapes Go.ChangeAt Go.RowKit
set_option maxRecDepth 100000
set_option linter.unusedSimpArgs false

theorem own : ownKnob Tryz.prog.godebug = none := by kernel_rfl
theorem laidOut : laidOutB Tryz.prog = true := by kernel_rfl

/-- The table's words. -/
def words : List Int := [0, 498536548, 997073096, 651767980, 1994146192, 1802195444, 1303535960, 1342533948, 3988292384, 4027552580, 3604390888, 3412177804, 2607071920, 2262029012, 2685067896, 3183342108]
theorem words_are : ((List.range 16).all fun r => words.getD r 0 == (CrcMath.Tn 4 r : Int)) = true := by kernel_rfl
/-- What the row lists. -/
def laid : List (String × DataW Unit) := Rows.walActsRow.laid

theorem tb_of_laid {W : World} (h : laidMetH Tryz.prog laid W) : Tb W := by
  have h1 := h.filter fun x => x.1 == "gudgeon/crc.halves"
  have h2 := h.filter fun x => x.1 == "internal/strconv.uint64pow10"
  have e1 : (laid.filter fun x => x.1 == "gudgeon/crc.halves") = [("gudgeon/crc.halves", Lib.tabData .u32 words)] := by kernel_rfl
  have e2 : (laid.filter fun x => x.1 == "internal/strconv.uint64pow10") = [("internal/strconv.uint64pow10", Lib.tabData .u64 Lib.pow10Tab)] := by kernel_rfl
  rw [e1, MakeChecks.laidMetH_plain _ _ _ (by kernel_rfl)] at h1
  rw [e2, MakeChecks.laidMetH_plain _ _ _ (by kernel_rfl)] at h2
  have hg : Tryz.prog.globalNamed "gudgeon/crc.halves" = some 0 := by kernel_rfl
  have t1 := Lib.tabIs_of_head hg (t := 221) (by kernel_rfl) Tryz.underlying221 Tryz.underlying156 (by kernel_rfl) (by kernel_rfl) h1
  refine ⟨fun r hr => ?_, Lib.tabIs_of_head pow_at (t := 223) (by kernel_rfl) Tryz.underlying223 Tryz.underlying31 (by kernel_rfl) (by kernel_rfl) h2⟩
  rw [t1.cell hg r hr]
  have hw : words.getD r 0 = (CrcMath.Tn 4 r : Int) := by simpa using List.all_eq_true.1 words_are r (List.mem_range.2 hr)
  rw [hw]

theorem met (os : Os) (args : Array Value) : laidMetH Tryz.prog laid ((World.laidAll Tryz.prog os laid).forCall (fun _ _ => 0) ⟨#[], args, []⟩).memory := by
  rw [MakeChecks.laidMetH_plain _ _ _ (by kernel_rfl)]
  exact laidMet_laidAll _ (by kernel_rfl) (by kernel_rfl)

end Go.Proofs.YtgfoogeiancecaaGreatDoor

