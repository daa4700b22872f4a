import Derived.Test.YtoipjmjhplkibaaGreatDoorProg
import Derived.WalkKit
import Derived.OwnWalk
import Derived.Deep.LoopGhost
import Derived.WalkSmall
import Derived.Laws.IdiomStrings
import Derived.Below
import Derived.Lib.SlBytesConst
/- The contract of the document's own Number: a segment's number, by its name. -/
namespace Go.Proofs.YtoipjmjhplkibaaGreatDoor
open Go.RowKit
set_option maxRecDepth 100000
set_option linter.unusedSimpArgs false
set_option linter.unusedVariables false

/-- A digit's byte. -/
def digit (c : Nat) : Bool := decide (48 ≤ c ∧ c ≤ 57)
/-- The number of digits, behind n. -/
def numOf : Nat → List UInt8 → Nat
  | n, [] => n
  | n, c :: l => if digit c.toNat then numOf (n * 10 + (c.toNat - 48)) l else 0
/-- A segment's number, by its name; 0: it is none. -/
def segNum (s : ByteArray) : Nat := if s.size = 12 ∧ (s.extract 0 4).toList = [119, 97, 108, 45] then numOf 0 (s.data.toList.drop 4) else 0

set_option maxHeartbeats 1000000 in
theorem number_of (s : ByteArray) (w : World) : Calls Tryz.prog 52 #[.string s] w fun e w' => e = .returned (.int .i64 (segNum s : Int)) ∧ w' = w := by
  obtain ⟨R, HR⟩ : ∃ R, Hid (R = segNum s) := ⟨_, rfl⟩
  rw [← HR.out]
  by_cases h12 : s.size = 12
  · by_cases h4 : (s.extract 0 4).toList = [119, 97, 108, 45]
    · have E0 : Hid (R = numOf 0 (s.data.toList.drop 4)) := by show _ = _; rw [HR.out]; unfold segNum; rw [if_pos ⟨h12, h4⟩]
      have hi : (s.size : Int) = 12 := by omega
      have hi2 : ((s.size : Int) == 12) = true := by simp [hi]
      have h4' : ((s.extract 0 4).toList == [119, 97, 108, 45]) = true := by rw [h4]; rfl
      clear HR
      go_enter Tryz.func52, Tryz.ntmps52
      go_wp2
      go_loopg [3, 4] 8 (fun g s3 s4 wr => ∃ i n : Nat, i + g = 12 ∧ 4 ≤ i ∧ s4 = .int .i64 (i : Int) ∧ s3 = .int .i64 (n : Int) ∧ n + 1 ≤ 10 ^ (i - 4) ∧ Hid (R = numOf n (s.data.toList.drop i)) ∧ wr = w)
      case atStart => exact ⟨4, 0, by simp, Nat.le_refl _, rfl, rfl, by simp, E0, rfl⟩
      case round =>
        obtain ⟨i, n, hig, h4i, rfl, rfl, hn, E, rfl⟩ := hrel
        have hn8 : n ≤ 100000000 := by
          have : 10 ^ (i - 4) ≤ 10 ^ 8 := Nat.pow_le_pow_right (by omega) (by omega)
          omega
        by_cases hlt : i < 12
        · have hlti : (i : Int) < 12 := by omega
          have hls : i < s.size := by omega
          have hlsi : (i : Int) < (s.size : Int) := by omega
          have hsz : s.data.toList.length = s.size := rfl
          have hd : s.data.toList.drop i = s[i] :: s.data.toList.drop (i + 1) := by
            rw [List.drop_eq_getElem_cons (by omega)]
            rfl
          rw [hd] at E
          obtain ⟨c, hcv⟩ : ∃ c : Nat, s[i].toNat = c := ⟨_, rfl⟩
          have hE1 : digit c = true → Hid (R = numOf (n * 10 + (c - 48)) (s.data.toList.drop (i + 1))) := fun h => by show _ = _; rw [E.out, numOf, hcv, if_pos h]
          have hE2 : digit c = false → Hid (R = 0) := fun h => by show _ = _; rw [E.out, numOf, hcv, if_neg (by rw [h]; simp)]
          have hpow : 10 ^ (i + 1 - 4) = 10 ^ (i - 4) * 10 := by rw [show i + 1 - 4 = (i - 4) + 1 by omega, Nat.pow_succ]
          clear hd E hsz
          by_cases h48 : 48 ≤ c
          · have k1 : ¬ (c : Int) < 48 := by omega
            by_cases h57 : c ≤ 57
            · have k2 : ¬ (57 : Int) < (c : Int) := by omega
              have E1 := hE1 (by unfold digit; simp; omega)
              have hn' : n * 10 + (c - 48) + 1 ≤ 10 ^ (i + 1 - 4) := by rw [hpow]; omega
              have q1 : IntKind.u8.wrap ((c : Int) - 48) = ((c - 48 : Nat) : Int) := by
                rw [Int.ofNat_sub h48]
                exact IntWalk.u8_in _ (by omega)
              clear hE1 hE2
              go_wp2
              go_roundg (gk - 1)
              case measure => omega
              case rel => exact ⟨i + 1, n * 10 + (c - 48), by omega, by omega, by go_num, by go_num, hn', E1, rfl⟩
            · have k2 : (57 : Int) < (c : Int) := by omega
              have E1 := hE2 (by unfold digit; simp; omega)
              clear hE1 hE2
              go_wp2
              go_ret
              exact ⟨by rw [E1.out]; rfl, rfl⟩
          · have k1 : (c : Int) < 48 := by omega
            have E1 := hE2 (by unfold digit; simp; omega)
            clear hE1 hE2
            go_wp2
            go_ret
            exact ⟨by rw [E1.out]; rfl, rfl⟩
        · obtain rfl : i = 12 := by omega
          have E1 : Hid (R = n) := by
            show _ = _
            rw [E.out, List.drop_eq_nil_of_le (by rw [show s.data.toList.length = s.size from rfl]; omega)]
            rfl
          clear E
          go_wp2
          go_ret
          exact ⟨by rw [E1.out]; rfl, rfl⟩
    · have E : Hid (R = 0) := by show _ = _; rw [HR.out]; unfold segNum; rw [if_neg (fun h => h4 h.2)]
      have hi : (s.size : Int) = 12 := by omega
      have hi2 : ((s.size : Int) == 12) = true := by simp [hi]
      have h4' : ((s.extract 0 4).toList == [119, 97, 108, 45]) = false := by simpa using h4
      clear HR
      go_enter Tryz.func52, Tryz.ntmps52
      go_wp2
      go_ret
      exact ⟨by rw [E.out]; rfl, rfl⟩
  · have E : Hid (R = 0) := by show _ = _; rw [HR.out]; unfold segNum; rw [if_neg (fun h => h12 h.1)]
    have hi : ¬ (s.size : Int) = 12 := by omega
    have hi2 : ((s.size : Int) == 12) = false := by simpa using hi
    clear HR
    go_enter Tryz.func52, Tryz.ntmps52
    go_wp2
    go_ret
    exact ⟨by rw [E.out]; rfl, rfl⟩
end Go.Proofs.YtoipjmjhplkibaaGreatDoor

/- A segment's name, by its number: the bytes behind each round of the document's own Name. -/
namespace Go.Proofs.YtoipjmjhplkibaaGreatDoor
open Go.RowKit
set_option maxRecDepth 100000
set_option linter.unusedSimpArgs false
set_option linter.unusedVariables false

/-- The last k digits of a number, as bytes. -/
def digs : Nat → Nat → List Nat
  | 0, _ => []
  | k + 1, n => (48 + n / 10 ^ k % 10) :: digs k n
/-- What stands there behind k rounds. -/
def nameL (k n : Nat) : List Nat := [119, 97, 108, 45] ++ List.replicate (8 - k) 48 ++ digs k n
/-- A segment's name. -/
def segName (n : Nat) : ByteArray := ⟨((nameL 8 n).map UInt8.ofNat).toArray⟩
def bcells (l : List Nat) : Array Value := (l.map fun (c : Nat) => Value.int .u8 (c : Int)).toArray

theorem name_step (n : Nat) : ∀ k, k < 8 → (nameL k n).set (11 - k) (48 + n / 10 ^ k % 10) = nameL (k + 1) n
  | 0, _ => rfl
  | 1, _ => rfl
  | 2, _ => rfl
  | 3, _ => rfl
  | 4, _ => rfl
  | 5, _ => rfl
  | 6, _ => rfl
  | 7, _ => rfl
  | k + 8, h => by omega
theorem digs_lt : ∀ k n, ∀ c ∈ digs k n, c < 256
  | 0, n, c, h => by cases h
  | k + 1, n, c, h => by
    rcases List.mem_cons.1 h with rfl | h
    · omega
    · exact digs_lt k n c h
theorem digs_length : ∀ k n, (digs k n).length = k
  | 0, _ => rfl
  | k + 1, n => by simp [digs, digs_length k n]
theorem nameL_length {k n : Nat} (h : k ≤ 8) : (nameL k n).length = 12 := by
  simp [nameL, digs_length]
  omega

theorem cells_marked {w : World} {g : Nat} {l : List Nat} {t : TypeId} {m : Nat × Nat} (h : w.heap[g]? = some (.cells (bcells l) t m)) {i c : Nat} (hc : l[i]? = some c) : w.cell? ⟨g, i, none⟩ = some (.int .u8 (c : Int)) := by
  unfold World.cell?
  dsimp only
  rw [h]
  simp [bcells, hc]
theorem set_marked {w : World} {g : Nat} {l : List Nat} {t : TypeId} {m : Nat × Nat} (h : w.heap[g]? = some (.cells (bcells l) t m)) (i c : Nat) : (w.setCell ⟨g, i, none⟩ (.int .u8 (c : Int))).heap[g]? = some (.cells (bcells (l.set i c)) t m) := by
  simp [World.setCell, Array.getElem?_modify, h, bcells, List.map_set]
end Go.Proofs.YtoipjmjhplkibaaGreatDoor

