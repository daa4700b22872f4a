import Derived.Test.YtoipjmjhplkibaaDoorQ01
import Derived.Test.YtoipjmjhplkibaaDoorQ02
import Derived.Lib.ItoaNum
import Derived.Lib.ParseIntB
/- Segments' names, in plain mathematics: their digits, their order, what the library makes and reads of them. -/
namespace Go.Proofs.YtoipjmjhplkibaaDoor
open Go.RowKit DiskMath
set_option maxRecDepth 100000

theorem digs_snoc : ∀ k n, digs (k + 1) n = digs k (n / 10) ++ [48 + n % 10]
  | 0, n => by simp [digs]
  | k + 1, n => by
    rw [digs, digs_snoc k n, digs]
    rw [show n / 10 ^ (k + 1) = n / 10 / 10 ^ k by rw [Nat.div_div_eq_div_mul, Nat.pow_succ, Nat.mul_comm]]
    rfl
theorem digs_range : ∀ k n, ∀ c ∈ digs k n, 48 ≤ c ∧ c ≤ 57
  | 0, n, c, h => by cases h
  | k + 1, n, c, h => by
    rcases List.mem_cons.1 h with rfl | h
    · omega
    · exact digs_range k n c h

theorem dec_digs : ∀ k n, n < 10 ^ k → Lib.decDigits (10 ^ k + n) = 49 :: (digs k n).map UInt8.ofNat
  | 0, n, h => by
    obtain rfl : n = 0 := by simp at h; exact h
    rw [Lib.decDigits]
    rfl
  | k + 1, n, h => by
    have hp : 0 < 10 ^ k := Nat.pow_pos (by decide)
    rw [Nat.pow_succ] at h
    have e1 : (10 ^ (k + 1) + n) / 10 = 10 ^ k + n / 10 := by rw [Nat.pow_succ]; omega
    have e2 : (10 ^ (k + 1) + n) % 10 = n % 10 := by rw [Nat.pow_succ]; omega
    rw [Lib.decDigits, dif_neg (by rw [Nat.pow_succ]; omega), e1, e2, dec_digs k (n / 10) (by omega), digs_snoc, List.map_append]
    rfl

theorem parse_digs (M : Nat) (hM : M ≤ 4294967295) : ∀ k acc n, acc * 10 ^ k + n % 10 ^ k ≤ M → Lib.parseUintM M acc ((digs k n).map UInt8.ofNat) = .ok (acc * 10 ^ k + n % 10 ^ k)
  | 0, acc, n, h => by simp [digs, Lib.parseUintM, Nat.mod_one]
  | k + 1, acc, n, h => by
    have hp : 0 < 10 ^ k := Nat.pow_pos (by decide)
    have hd : n / 10 ^ k % 10 < 10 := Nat.mod_lt _ (by decide)
    have e : acc * 10 ^ (k + 1) + n % 10 ^ (k + 1) = (acc * 10 + n / 10 ^ k % 10) * 10 ^ k + n % 10 ^ k := by
      rw [Nat.pow_succ, Nat.mod_mul, Nat.add_mul, Nat.mul_assoc, Nat.mul_comm 10 (10 ^ k), Nat.mul_comm (n / 10 ^ k % 10) (10 ^ k)]
      omega
    rw [e] at h ⊢
    have hacc : acc * 10 + n / 10 ^ k % 10 ≤ M := by
      have := Nat.le_mul_of_pos_right (acc * 10 + n / 10 ^ k % 10) hp
      omega
    have hc : (UInt8.ofNat (48 + n / 10 ^ k % 10)).toNat = 48 + n / 10 ^ k % 10 := by
      rw [UInt8.toNat_ofNat', Nat.mod_eq_of_lt (by omega)]
    rw [digs, List.map_cons, Lib.parseUintM, hc, if_pos (by omega), if_neg (by omega), if_neg (by omega), show 48 + n / 10 ^ k % 10 - 48 = n / 10 ^ k % 10 by omega]
    exact parse_digs M hM k _ n h

theorem segName_list (n : Nat) : (segName n).data.toList = [119, 97, 108, 45] ++ (digs 8 n).map UInt8.ofNat := by
  simp [segName, nameL]
theorem segName_size (n : Nat) : (segName n).size = 12 := by
  show (segName n).data.size = 12
  rw [← Array.length_toList, segName_list]
  simp [digs_length]

/-- By number is by name. -/
theorem digs_order : ∀ k a b, a % 10 ^ k < b % 10 ^ k → (digs k a).map UInt8.ofNat < (digs k b).map UInt8.ofNat
  | 0, a, b, h => by simp [Nat.mod_one] at h
  | k + 1, a, b, h => by
    rw [Nat.pow_succ, Nat.mod_mul, Nat.mod_mul] at h
    have hp : 0 < 10 ^ k := Nat.pow_pos (by decide)
    have ha : a / 10 ^ k % 10 < 10 := Nat.mod_lt _ (by decide)
    have hb : b / 10 ^ k % 10 < 10 := Nat.mod_lt _ (by decide)
    have ha' := Nat.mod_lt a hp
    have hb' := Nat.mod_lt b hp
    rw [digs, digs, List.map_cons, List.map_cons, List.cons_lt_cons_iff]
    have hle : a / 10 ^ k % 10 ≤ b / 10 ^ k % 10 := by
      rcases Nat.lt_or_ge (b / 10 ^ k % 10) (a / 10 ^ k % 10) with hlt | hge
      · have := Nat.mul_le_mul_left (10 ^ k) (show b / 10 ^ k % 10 + 1 ≤ a / 10 ^ k % 10 from hlt)
        rw [Nat.mul_add] at this
        omega
      · exact hge
    rcases Nat.lt_or_ge (a / 10 ^ k % 10) (b / 10 ^ k % 10) with hlt | hge
    · left
      have hx : ∀ x, x < 10 → (UInt8.ofNat (48 + x)).toNat = 48 + x := fun x hx => by rw [UInt8.toNat_ofNat', Nat.mod_eq_of_lt (by omega)]
      rw [UInt8.lt_iff_toNat_lt, hx _ ha, hx _ hb]
      omega
    · have e : a / 10 ^ k % 10 = b / 10 ^ k % 10 := by omega
      right
      rw [e] at h ⊢
      exact ⟨rfl, digs_order k a b (by omega)⟩

theorem segName_lt {a b : Nat} (h : a < b) (hb : b < 100000000) : strOrd.lt (segName a) (segName b) := by
  show (segName a).toList < (segName b).toList
  rw [ByteArray.toList_eq, ByteArray.toList_eq, segName_list, segName_list]
  have := digs_order 8 a b (by rw [Nat.mod_eq_of_lt (by omega), Nat.mod_eq_of_lt (by omega)]; exact h)
  generalize (digs 8 a).map UInt8.ofNat = A at *
  generalize (digs 8 b).map UInt8.ofNat = B at *
  simp only [List.cons_append, List.nil_append, List.cons_lt_cons_iff]
  simp [this]
theorem segName_inj {a b : Nat} (ha : a < 100000000) (hb : b < 100000000) (h : segName a = segName b) : a = b := by
  rcases Nat.lt_trichotomy a b with h1 | h1 | h1
  · have := segName_lt h1 hb
    rw [h] at this
    exact absurd this (strOrd.irr _)
  · exact h1
  · have := segName_lt h1 ha
    rw [h] at this
    exact absurd this (strOrd.irr _)
theorem segName_may (n : Nat) : mayName (segName n) = true := by
  unfold mayName
  rw [segName_size, segName_list]
  simp only [List.all_append, List.all_map, Bool.and_eq_true, List.all_eq_true]
  refine ⟨by decide, by decide, fun c hc => ?_⟩
  have := digs_range 8 n c hc
  simp only [Function.comp, UInt8.toNat_ofNat']
  rw [Nat.mod_eq_of_lt (by omega)]
  unfold mayByte
  simp
  omega
end Go.Proofs.YtoipjmjhplkibaaDoor

