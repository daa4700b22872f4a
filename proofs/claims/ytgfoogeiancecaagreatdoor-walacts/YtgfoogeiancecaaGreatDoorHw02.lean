import Derived.Test.YtgfoogeiancecaaGreatDoorProg
import Derived.WalkKit
import Derived.OwnWalk
import Derived.Deep.LoopGhost
import Derived.WalkSmall
import Derived.Laws.IdiomStrings
import Derived.Below
import Derived.Lib.SlBytesConst
import Derived.Test.YtgfoogeiancecaaGreatDoorHw01
import Derived.Lib.ItoaNum
import Derived.Lib.ParseIntB
/- The contract of the document's own Number: a segment's number, by its name. -/
namespace Go.Proofs.YtgfoogeiancecaaGreatDoor
open Go.RowKit
set_option maxRecDepth 100000
set_option linter.unusedSimpArgs false
set_option linter.unusedVariables false

/-- A digit's byte. -/
def digit (c : Nat) : Bool := decide (48 ≤ c ∧ c ≤ 57)
/-- The number of digits, behind n. -/
def numOf : Nat → List UInt8 → Nat
  | n, [] => n
  | n, c :: l => if digit c.toNat then numOf (n * 10 + (c.toNat - 48)) l else 0
/-- A segment's number, by its name; 0: it is none. -/
def segNum (s : ByteArray) : Nat := if s.size = 12 ∧ (s.extract 0 4).toList = [119, 97, 108, 45] then numOf 0 (s.data.toList.drop 4) else 0

set_option maxHeartbeats 1000000 in
theorem number_of (s : ByteArray) (w : World) : Calls Tryz.prog 41 #[.string s] w fun e w' => e = .returned (.int .i64 (segNum s : Int)) ∧ w' = w := by
  obtain ⟨R, HR⟩ : ∃ R, Hid (R = segNum s) := ⟨_, rfl⟩
  rw [← HR.out]
  by_cases h12 : s.size = 12
  · by_cases h4 : (s.extract 0 4).toList = [119, 97, 108, 45]
    · have E0 : Hid (R = numOf 0 (s.data.toList.drop 4)) := by show _ = _; rw [HR.out]; unfold segNum; rw [if_pos ⟨h12, h4⟩]
      have hi : (s.size : Int) = 12 := by omega
      have hi2 : ((s.size : Int) == 12) = true := by simp [hi]
      have h4' : ((s.extract 0 4).toList == [119, 97, 108, 45]) = true := by rw [h4]; rfl
      clear HR
      go_enter Tryz.func41, Tryz.ntmps41
      go_wp2
      go_loopg [3, 4] 8 (fun g s3 s4 wr => ∃ i n : Nat, i + g = 12 ∧ 4 ≤ i ∧ s4 = .int .i64 (i : Int) ∧ s3 = .int .i64 (n : Int) ∧ n + 1 ≤ 10 ^ (i - 4) ∧ Hid (R = numOf n (s.data.toList.drop i)) ∧ wr = w)
      case atStart => exact ⟨4, 0, by simp, Nat.le_refl _, rfl, rfl, by simp, E0, rfl⟩
      case round =>
        obtain ⟨i, n, hig, h4i, rfl, rfl, hn, E, rfl⟩ := hrel
        have hn8 : n ≤ 100000000 := by
          have : 10 ^ (i - 4) ≤ 10 ^ 8 := Nat.pow_le_pow_right (by omega) (by omega)
          omega
        by_cases hlt : i < 12
        · have hlti : (i : Int) < 12 := by omega
          have hls : i < s.size := by omega
          have hlsi : (i : Int) < (s.size : Int) := by omega
          have hsz : s.data.toList.length = s.size := rfl
          have hd : s.data.toList.drop i = s[i] :: s.data.toList.drop (i + 1) := by
            rw [List.drop_eq_getElem_cons (by omega)]
            rfl
          rw [hd] at E
          obtain ⟨c, hcv⟩ : ∃ c : Nat, s[i].toNat = c := ⟨_, rfl⟩
          have hE1 : digit c = true → Hid (R = numOf (n * 10 + (c - 48)) (s.data.toList.drop (i + 1))) := fun h => by show _ = _; rw [E.out, numOf, hcv, if_pos h]
          have hE2 : digit c = false → Hid (R = 0) := fun h => by show _ = _; rw [E.out, numOf, hcv, if_neg (by rw [h]; simp)]
          have hpow : 10 ^ (i + 1 - 4) = 10 ^ (i - 4) * 10 := by rw [show i + 1 - 4 = (i - 4) + 1 by omega, Nat.pow_succ]
          clear hd E hsz
          by_cases h48 : 48 ≤ c
          · have k1 : ¬ (c : Int) < 48 := by omega
            by_cases h57 : c ≤ 57
            · have k2 : ¬ (57 : Int) < (c : Int) := by omega
              have E1 := hE1 (by unfold digit; simp; omega)
              have hn' : n * 10 + (c - 48) + 1 ≤ 10 ^ (i + 1 - 4) := by rw [hpow]; omega
              have q1 : IntKind.u8.wrap ((c : Int) - 48) = ((c - 48 : Nat) : Int) := by
                rw [Int.ofNat_sub h48]
                exact IntWalk.u8_in _ (by omega)
              clear hE1 hE2
              go_wp2
              go_roundg (gk - 1)
              case measure => omega
              case rel => exact ⟨i + 1, n * 10 + (c - 48), by omega, by omega, by go_num, by go_num, hn', E1, rfl⟩
            · have k2 : (57 : Int) < (c : Int) := by omega
              have E1 := hE2 (by unfold digit; simp; omega)
              clear hE1 hE2
              go_wp2
              go_ret
              exact ⟨by rw [E1.out]; rfl, rfl⟩
          · have k1 : (c : Int) < 48 := by omega
            have E1 := hE2 (by unfold digit; simp; omega)
            clear hE1 hE2
            go_wp2
            go_ret
            exact ⟨by rw [E1.out]; rfl, rfl⟩
        · obtain rfl : i = 12 := by omega
          have E1 : Hid (R = n) := by
            show _ = _
            rw [E.out, List.drop_eq_nil_of_le (by rw [show s.data.toList.length = s.size from rfl]; omega)]
            rfl
          clear E
          go_wp2
          go_ret
          exact ⟨by rw [E1.out]; rfl, rfl⟩
    · have E : Hid (R = 0) := by show _ = _; rw [HR.out]; unfold segNum; rw [if_neg (fun h => h4 h.2)]
      have hi : (s.size : Int) = 12 := by omega
      have hi2 : ((s.size : Int) == 12) = true := by simp [hi]
      have h4' : ((s.extract 0 4).toList == [119, 97, 108, 45]) = false := by simpa using h4
      clear HR
      go_enter Tryz.func41, Tryz.ntmps41
      go_wp2
      go_ret
      exact ⟨by rw [E.out]; rfl, rfl⟩
  · have E : Hid (R = 0) := by show _ = _; rw [HR.out]; unfold segNum; rw [if_neg (fun h => h12 h.1)]
    have hi : ¬ (s.size : Int) = 12 := by omega
    have hi2 : ((s.size : Int) == 12) = false := by simpa using hi
    clear HR
    go_enter Tryz.func41, Tryz.ntmps41
    go_wp2
    go_ret
    exact ⟨by rw [E.out]; rfl, rfl⟩
end Go.Proofs.YtgfoogeiancecaaGreatDoor

/- A segment's name, by its number: the bytes behind each round of the document's own Name. -/
namespace Go.Proofs.YtgfoogeiancecaaGreatDoor
open Go.RowKit
set_option maxRecDepth 100000
set_option linter.unusedSimpArgs false
set_option linter.unusedVariables false

/-- The last k digits of a number, as bytes. -/
def digs : Nat → Nat → List Nat
  | 0, _ => []
  | k + 1, n => (48 + n / 10 ^ k % 10) :: digs k n
/-- What stands there behind k rounds. -/
def nameL (k n : Nat) : List Nat := [119, 97, 108, 45] ++ List.replicate (8 - k) 48 ++ digs k n
/-- A segment's name. -/
def segName (n : Nat) : ByteArray := ⟨((nameL 8 n).map UInt8.ofNat).toArray⟩
def bcells (l : List Nat) : Array Value := (l.map fun (c : Nat) => Value.int .u8 (c : Int)).toArray

theorem name_step (n : Nat) : ∀ k, k < 8 → (nameL k n).set (11 - k) (48 + n / 10 ^ k % 10) = nameL (k + 1) n
  | 0, _ => rfl
  | 1, _ => rfl
  | 2, _ => rfl
  | 3, _ => rfl
  | 4, _ => rfl
  | 5, _ => rfl
  | 6, _ => rfl
  | 7, _ => rfl
  | k + 8, h => by omega
theorem digs_lt : ∀ k n, ∀ c ∈ digs k n, c < 256
  | 0, n, c, h => by cases h
  | k + 1, n, c, h => by
    rcases List.mem_cons.1 h with rfl | h
    · omega
    · exact digs_lt k n c h
theorem digs_length : ∀ k n, (digs k n).length = k
  | 0, _ => rfl
  | k + 1, n => by simp [digs, digs_length k n]
theorem nameL_length {k n : Nat} (h : k ≤ 8) : (nameL k n).length = 12 := by
  simp [nameL, digs_length]
  omega

theorem cells_marked {w : World} {g : Nat} {l : List Nat} {t : TypeId} {m : Nat × Nat} (h : w.heap[g]? = some (.cells (bcells l) t m)) {i c : Nat} (hc : l[i]? = some c) : w.cell? ⟨g, i, none⟩ = some (.int .u8 (c : Int)) := by
  unfold World.cell?
  dsimp only
  rw [h]
  simp [bcells, hc]
theorem set_marked {w : World} {g : Nat} {l : List Nat} {t : TypeId} {m : Nat × Nat} (h : w.heap[g]? = some (.cells (bcells l) t m)) (i c : Nat) : (w.setCell ⟨g, i, none⟩ (.int .u8 (c : Int))).heap[g]? = some (.cells (bcells (l.set i c)) t m) := by
  simp [World.setCell, Array.getElem?_modify, h, bcells, List.map_set]
end Go.Proofs.YtgfoogeiancecaaGreatDoor

/- Segments' names, in plain mathematics: their digits, their order, what the library makes and reads of them. -/
namespace Go.Proofs.YtgfoogeiancecaaGreatDoor
open Go.RowKit DiskMath
set_option maxRecDepth 100000

theorem digs_snoc : ∀ k n, digs (k + 1) n = digs k (n / 10) ++ [48 + n % 10]
  | 0, n => by simp [digs]
  | k + 1, n => by
    rw [digs, digs_snoc k n, digs]
    rw [show n / 10 ^ (k + 1) = n / 10 / 10 ^ k by rw [Nat.div_div_eq_div_mul, Nat.pow_succ, Nat.mul_comm]]
    rfl
theorem digs_range : ∀ k n, ∀ c ∈ digs k n, 48 ≤ c ∧ c ≤ 57
  | 0, n, c, h => by cases h
  | k + 1, n, c, h => by
    rcases List.mem_cons.1 h with rfl | h
    · omega
    · exact digs_range k n c h

theorem dec_digs : ∀ k n, n < 10 ^ k → Lib.decDigits (10 ^ k + n) = 49 :: (digs k n).map UInt8.ofNat
  | 0, n, h => by
    obtain rfl : n = 0 := by simp at h; exact h
    rw [Lib.decDigits]
    rfl
  | k + 1, n, h => by
    have hp : 0 < 10 ^ k := Nat.pow_pos (by decide)
    rw [Nat.pow_succ] at h
    have e1 : (10 ^ (k + 1) + n) / 10 = 10 ^ k + n / 10 := by rw [Nat.pow_succ]; omega
    have e2 : (10 ^ (k + 1) + n) % 10 = n % 10 := by rw [Nat.pow_succ]; omega
    rw [Lib.decDigits, dif_neg (by rw [Nat.pow_succ]; omega), e1, e2, dec_digs k (n / 10) (by omega), digs_snoc, List.map_append]
    rfl

theorem parse_digs (M : Nat) (hM : M ≤ 4294967295) : ∀ k acc n, acc * 10 ^ k + n % 10 ^ k ≤ M → Lib.parseUintM M acc ((digs k n).map UInt8.ofNat) = .ok (acc * 10 ^ k + n % 10 ^ k)
  | 0, acc, n, h => by simp [digs, Lib.parseUintM, Nat.mod_one]
  | k + 1, acc, n, h => by
    have hp : 0 < 10 ^ k := Nat.pow_pos (by decide)
    have hd : n / 10 ^ k % 10 < 10 := Nat.mod_lt _ (by decide)
    have e : acc * 10 ^ (k + 1) + n % 10 ^ (k + 1) = (acc * 10 + n / 10 ^ k % 10) * 10 ^ k + n % 10 ^ k := by
      rw [Nat.pow_succ, Nat.mod_mul, Nat.add_mul, Nat.mul_assoc, Nat.mul_comm 10 (10 ^ k), Nat.mul_comm (n / 10 ^ k % 10) (10 ^ k)]
      omega
    rw [e] at h ⊢
    have hacc : acc * 10 + n / 10 ^ k % 10 ≤ M := by
      have := Nat.le_mul_of_pos_right (acc * 10 + n / 10 ^ k % 10) hp
      omega
    have hc : (UInt8.ofNat (48 + n / 10 ^ k % 10)).toNat = 48 + n / 10 ^ k % 10 := by
      rw [UInt8.toNat_ofNat', Nat.mod_eq_of_lt (by omega)]
    rw [digs, List.map_cons, Lib.parseUintM, hc, if_pos (by omega), if_neg (by omega), if_neg (by omega), show 48 + n / 10 ^ k % 10 - 48 = n / 10 ^ k % 10 by omega]
    exact parse_digs M hM k _ n h

theorem segName_list (n : Nat) : (segName n).data.toList = [119, 97, 108, 45] ++ (digs 8 n).map UInt8.ofNat := by
  simp [segName, nameL]
theorem segName_size (n : Nat) : (segName n).size = 12 := by
  show (segName n).data.size = 12
  rw [← Array.length_toList, segName_list]
  simp [digs_length]

/-- By number is by name. -/
theorem digs_order : ∀ k a b, a % 10 ^ k < b % 10 ^ k → (digs k a).map UInt8.ofNat < (digs k b).map UInt8.ofNat
  | 0, a, b, h => by simp [Nat.mod_one] at h
  | k + 1, a, b, h => by
    rw [Nat.pow_succ, Nat.mod_mul, Nat.mod_mul] at h
    have hp : 0 < 10 ^ k := Nat.pow_pos (by decide)
    have ha : a / 10 ^ k % 10 < 10 := Nat.mod_lt _ (by decide)
    have hb : b / 10 ^ k % 10 < 10 := Nat.mod_lt _ (by decide)
    have ha' := Nat.mod_lt a hp
    have hb' := Nat.mod_lt b hp
    rw [digs, digs, List.map_cons, List.map_cons, List.cons_lt_cons_iff]
    have hle : a / 10 ^ k % 10 ≤ b / 10 ^ k % 10 := by
      rcases Nat.lt_or_ge (b / 10 ^ k % 10) (a / 10 ^ k % 10) with hlt | hge
      · have := Nat.mul_le_mul_left (10 ^ k) (show b / 10 ^ k % 10 + 1 ≤ a / 10 ^ k % 10 from hlt)
        rw [Nat.mul_add] at this
        omega
      · exact hge
    rcases Nat.lt_or_ge (a / 10 ^ k % 10) (b / 10 ^ k % 10) with hlt | hge
    · left
      have hx : ∀ x, x < 10 → (UInt8.ofNat (48 + x)).toNat = 48 + x := fun x hx => by rw [UInt8.toNat_ofNat', Nat.mod_eq_of_lt (by omega)]
      rw [UInt8.lt_iff_toNat_lt, hx _ ha, hx _ hb]
      omega
    · have e : a / 10 ^ k % 10 = b / 10 ^ k % 10 := by omega
      right
      rw [e] at h ⊢
      exact ⟨rfl, digs_order k a b (by omega)⟩

theorem segName_lt {a b : Nat} (h : a < b) (hb : b < 100000000) : strOrd.lt (segName a) (segName b) := by
  show (segName a).toList < (segName b).toList
  rw [ByteArray.toList_eq, ByteArray.toList_eq, segName_list, segName_list]
  have := digs_order 8 a b (by rw [Nat.mod_eq_of_lt (by omega), Nat.mod_eq_of_lt (by omega)]; exact h)
  generalize (digs 8 a).map UInt8.ofNat = A at *
  generalize (digs 8 b).map UInt8.ofNat = B at *
  simp only [List.cons_append, List.nil_append, List.cons_lt_cons_iff]
  simp [this]
theorem segName_inj {a b : Nat} (ha : a < 100000000) (hb : b < 100000000) (h : segName a = segName b) : a = b := by
  rcases Nat.lt_trichotomy a b with h1 | h1 | h1
  · have := segName_lt h1 hb
    rw [h] at this
    exact absurd this (strOrd.irr _)
  · exact h1
  · have := segName_lt h1 ha
    rw [h] at this
    exact absurd this (strOrd.irr _)
theorem segName_may (n : Nat) : mayName (segName n) = true := by
  unfold mayName
  rw [segName_size, segName_list]
  simp only [List.all_append, List.all_map, Bool.and_eq_true, List.all_eq_true]
  refine ⟨by decide, by decide, fun c hc => ?_⟩
  have := digs_range 8 n c hc
  simp only [Function.comp, UInt8.toNat_ofNat']
  rw [Nat.mod_eq_of_lt (by omega)]
  unfold mayByte
  simp
  omega
end Go.Proofs.YtgfoogeiancecaaGreatDoor

