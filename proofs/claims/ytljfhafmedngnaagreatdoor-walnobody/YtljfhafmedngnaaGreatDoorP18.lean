import Derived.Test.YtljfhafmedngnaaGreatDoorP17
import Derived.Test.YtljfhafmedngnaaGreatDoorRows
import Derived.Test.YtljfhafmedngnaaGreatDoorCards
import Derived.Test.YtljfhafmedngnaaGreatDoorTie
import Derived.Deep.SlicePairs
import Derived.ProofKit
import Derived.Lib.SmallJoins
import Derived.OpenShut
import Derived.LaidLaws
import Derived.LaidSub
import Derived.LaidHandle
import Derived.MakeChecks
import Derived.Lay
import Derived.SevenTiedAt
import Derived.Stop.Joined
import Derived.Lib.LaidTab
/- From the row's condition on its six variables to the two tables that are read; how a record that came in is read. -/
namespace Go.Proofs.YtljfhafmedngnaaGreatDoor
open Go.ChangeShapes Go.WideShapes Go.ChangeAt Go.RowKit
set_option maxRecDepth 100000
set_option linter.unusedSimpArgs false

theorem own : ownKnob Tryz.prog.godebug = none := by kernel_rfl
theorem laidOut : laidOutB Tryz.prog = true := by kernel_rfl

/-- The table's words. -/
def words : List Int := [0, 498536548, 997073096, 651767980, 1994146192, 1802195444, 1303535960, 1342533948, 3988292384, 4027552580, 3604390888, 3412177804, 2607071920, 2262029012, 2685067896, 3183342108]
theorem words_are : ((List.range 16).all fun r => words.getD r 0 == (CrcMath.Tn 4 r : Int)) = true := by kernel_rfl
/-- What the row lists. -/
def laid : List (String × DataW Unit) := Rows.walNobodyRow.laid

theorem tb_of_laid {W : World} (h : laidMetH Tryz.prog laid W) : Tb W := by
  have h1 := h.filter fun x => x.1 == "gudgeon/crc.halves"
  have h2 := h.filter fun x => x.1 == "internal/strconv.uint64pow10"
  have e1 : (laid.filter fun x => x.1 == "gudgeon/crc.halves") = [("gudgeon/crc.halves", Lib.tabData .u32 words)] := by kernel_rfl
  have e2 : (laid.filter fun x => x.1 == "internal/strconv.uint64pow10") = [("internal/strconv.uint64pow10", Lib.tabData .u64 Lib.pow10Tab)] := by kernel_rfl
  rw [e1, MakeChecks.laidMetH_plain _ _ _ (by kernel_rfl)] at h1
  rw [e2, MakeChecks.laidMetH_plain _ _ _ (by kernel_rfl)] at h2
  have hg : Tryz.prog.globalNamed "gudgeon/crc.halves" = some 0 := by kernel_rfl
  have t1 := Lib.tabIs_of_head hg (t := 228) (by kernel_rfl) Tryz.underlying228 Tryz.underlying166 (by kernel_rfl) (by kernel_rfl) h1
  refine ⟨fun r hr => ?_, Lib.tabIs_of_head pow_at (t := 230) (by kernel_rfl) Tryz.underlying230 Tryz.underlying31 (by kernel_rfl) (by kernel_rfl) h2⟩
  rw [t1.cell hg r hr]
  have hw : words.getD r 0 = (CrcMath.Tn 4 r : Int) := by simpa using List.all_eq_true.1 words_are r (List.mem_range.2 hr)
  rw [hw]

theorem met (os : Os) (args : Array Value) : laidMetH Tryz.prog laid ((World.laidAll Tryz.prog os laid).forCall (fun _ _ => 0) ⟨#[], args, []⟩).memory := by
  rw [MakeChecks.laidMetH_plain _ _ _ (by kernel_rfl)]
  exact laidMet_laidAll _ (by kernel_rfl) (by kernel_rfl)

theorem cells_rec : Tryz.prog.cellsOf 44 = 2 := by kernel_rfl
theorem cells_byte : Tryz.prog.cellsOf 5 = 1 := by kernel_rfl

/-- A record, opened: its index, and that its bytes are a slice. -/
theorem rec_opened {H : Type} {enc : TypeId × Value → H} {W : World} {fuel : Nat} {cs : List Value} {y : DataW H × List MemPlace} (hlen : cs.length = 2)
    (h : DataW.trod enc Tryz.prog W 0 (fun _ => true) true fuel 44 cs = some y) : ∃ z a n c, cs = [.int .u64 z, .slice a n c] := by
  obtain ⟨y0, y1, k, -, -, g0, g1⟩ := trod_struct2 Tryz.underlying44 h
  match cs, hlen with
  | [v0, v1], _ =>
    have g0' : DataW.trod enc Tryz.prog W 0 (fun _ => true) true k 31 [v0] = some y0 := g0
    have g1' : DataW.trod enc Tryz.prog W 0 (fun _ => true) true k 32 [v1] = some y1 := g1
    obtain ⟨z0, i0, _, _⟩ := DataW.trod_int Tryz.underlying31 g0'
    simp only [List.cons.injEq, and_true] at i0
    subst i0
    rcases Deep.open_slice1 Tryz.underlying32 cells_byte g1' with ⟨hcs, hx⟩ | ⟨a, len, cap, m, n, V, D, Pl, hcs, _, hl, hm, hmm, hx, hc⟩
    · obtain rfl : v1 = .slice none 0 0 := by simpa using hcs
      exact ⟨_, _, _, _, rfl⟩
    · obtain rfl : v1 = .slice (some a) len cap := by simpa using hcs
      exact ⟨_, _, _, _, rfl⟩
end Go.Proofs.YtljfhafmedngnaaGreatDoor

