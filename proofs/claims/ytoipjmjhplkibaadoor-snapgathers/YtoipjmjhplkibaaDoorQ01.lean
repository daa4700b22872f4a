import Derived.Test.YtoipjmjhplkibaaDoorProg
import Derived.WalkKit
import Derived.OwnWalk
import Derived.Deep.LoopGhost
import Derived.WalkSmall
import Derived.Laws.IdiomStrings
import Derived.Below
import Derived.Lib.SlBytesConst
/- The contract of the document's own Number: a segment's number, by its name. -/
namespace Go.Proofs.YtoipjmjhplkibaaDoor
open Go.RowKit
set_option maxRecDepth 100000
set_option linter.unusedSimpArgs false
set_option linter.unusedVariables false

/-- A digit's byte. -/
def digit (c : Nat) : Bool := decide (48 ≤ c ∧ c ≤ 57)
/-- The number of digits, behind n. -/
def numOf : Nat → List UInt8 → Nat
  | n, [] => n
  | n, c :: l => if digit c.toNat then numOf (n * 10 + (c.toNat - 48)) l else 0
/-- A segment's number, by its name; 0: it is none. -/
def segNum (s : ByteArray) : Nat := if s.size = 12 ∧ (s.extract 0 4).toList = [119, 97, 108, 45] then numOf 0 (s.data.toList.drop 4) else 0

end Go.Proofs.YtoipjmjhplkibaaDoor

/- A segment's name, by its number: the bytes behind each round of the document's own Name. -/
namespace Go.Proofs.YtoipjmjhplkibaaDoor
open Go.RowKit
set_option maxRecDepth 100000
set_option linter.unusedSimpArgs false
set_option linter.unusedVariables false

/-- The last k digits of a number, as bytes. -/
def digs : Nat → Nat → List Nat
  | 0, _ => []
  | k + 1, n => (48 + n / 10 ^ k % 10) :: digs k n
/-- What stands there behind k rounds. -/
def nameL (k n : Nat) : List Nat := [119, 97, 108, 45] ++ List.replicate (8 - k) 48 ++ digs k n
/-- A segment's name. -/
def segName (n : Nat) : ByteArray := ⟨((nameL 8 n).map UInt8.ofNat).toArray⟩
def bcells (l : List Nat) : Array Value := (l.map fun (c : Nat) => Value.int .u8 (c : Int)).toArray

theorem name_step (n : Nat) : ∀ k, k < 8 → (nameL k n).set (11 - k) (48 + n / 10 ^ k % 10) = nameL (k + 1) n
  | 0, _ => rfl
  | 1, _ => rfl
  | 2, _ => rfl
  | 3, _ => rfl
  | 4, _ => rfl
  | 5, _ => rfl
  | 6, _ => rfl
  | 7, _ => rfl
  | k + 8, h => by omega
theorem digs_lt : ∀ k n, ∀ c ∈ digs k n, c < 256
  | 0, n, c, h => by cases h
  | k + 1, n, c, h => by
    rcases List.mem_cons.1 h with rfl | h
    · omega
    · exact digs_lt k n c h
theorem digs_length : ∀ k n, (digs k n).length = k
  | 0, _ => rfl
  | k + 1, n => by simp [digs, digs_length k n]
theorem nameL_length {k n : Nat} (h : k ≤ 8) : (nameL k n).length = 12 := by
  simp [nameL, digs_length]
  omega

theorem cells_marked {w : World} {g : Nat} {l : List Nat} {t : TypeId} {m : Nat × Nat} (h : w.heap[g]? = some (.cells (bcells l) t m)) {i c : Nat} (hc : l[i]? = some c) : w.cell? ⟨g, i, none⟩ = some (.int .u8 (c : Int)) := by
  unfold World.cell?
  dsimp only
  rw [h]
  simp [bcells, hc]
theorem set_marked {w : World} {g : Nat} {l : List Nat} {t : TypeId} {m : Nat × Nat} (h : w.heap[g]? = some (.cells (bcells l) t m)) (i c : Nat) : (w.setCell ⟨g, i, none⟩ (.int .u8 (c : Int))).heap[g]? = some (.cells (bcells (l.set i c)) t m) := by
  simp [World.setCell, Array.getElem?_modify, h, bcells, List.map_set]
end Go.Proofs.YtoipjmjhplkibaaDoor

