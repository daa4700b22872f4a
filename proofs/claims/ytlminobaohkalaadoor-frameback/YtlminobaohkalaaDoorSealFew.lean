/- The theorem of turned frames, plainly: of bytes behind their CRC-32 sum, 256 in all at most, up to three turned bits are seen, wherever they lie, unless they turn nothing at all. -/
import Derived.Test.YtlminobaohkalaaDoorCrcFew
namespace CrcMath

theorem xor_mul (x y k : Nat) : (x ^^^ y) * 2 ^ k = x * 2 ^ k ^^^ y * 2 ^ k := by
  apply Nat.eq_of_testBit_eq
  intro i
  rw [Nat.testBit_xor, Nat.testBit_mul_two_pow, Nat.testBit_mul_two_pow, Nat.testBit_mul_two_pow, Nat.testBit_xor]
  by_cases h : k ≤ i <;> simp [h]

theorem ac0 (p q r t e : Nat) : (p ^^^ e) ^^^ (q ^^^ (r ^^^ t)) = p ^^^ (q ^^^ (r ^^^ t)) ^^^ e := by ac_rfl
theorem ac1 (p q r t e : Nat) : p ^^^ ((q ^^^ e) ^^^ (r ^^^ t)) = p ^^^ (q ^^^ (r ^^^ t)) ^^^ e := by ac_rfl
theorem ac2 (p q r t e : Nat) : p ^^^ (q ^^^ ((r ^^^ e) ^^^ t)) = p ^^^ (q ^^^ (r ^^^ t)) ^^^ e := by ac_rfl
theorem ac3 (p q r t e : Nat) : p ^^^ (q ^^^ (r ^^^ (t ^^^ e))) = p ^^^ (q ^^^ (r ^^^ t)) ^^^ e := by ac_rfl
theorem ac5 (c e y t : Nat) : (c ^^^ e ^^^ y) ^^^ t = (c ^^^ y) ^^^ t ^^^ e := by ac_rfl

/-- The sum that stands ahead: four bytes, the highest first. -/
def top (B : List Nat) : Nat := B[0]?.getD 0 * 2 ^ 24 ^^^ (B[1]?.getD 0 * 2 ^ 16 ^^^ (B[2]?.getD 0 * 2 ^ 8 ^^^ B[3]?.getD 0 * 2 ^ 0))
/-- 0 just where the sum ahead is the bytes' own (x: where the sum begins; y: what is turned in its end). -/
def synd (x y : Nat) (B : List Nat) : Nat := (crcList x (B.drop 4) ^^^ y) ^^^ top B

/-- What a turned bit adds to 'synd'. -/
def addsS (len n : Nat) : Nat := if n / 8 < 4 then 2 ^ (8 * (3 - n / 8) + n % 8) else if n / 8 < len then s (8 * len - n) else 0

theorem top_flip (B : List Nat) (h4 : 4 ≤ B.length) (n : Nat) (hq : n / 8 < 4) : top (flip B n) = top B ^^^ 2 ^ (8 * (3 - n / 8) + n % 8) := by
  have hlt : n / 8 < B.length := by omega
  have key : ∀ (q r : Nat) (hq : q < B.length), q < 4 → top (B.set q (B[q] ^^^ 2 ^ r)) = top B ^^^ 2 ^ (8 * (3 - q) + r) := by
    intro q r hq h
    have hg : ∀ i, (h : i < B.length) → B[i]?.getD 0 = B[i] := fun i h => by simp [h]
    obtain rfl | rfl | rfl | rfl : q = 0 ∨ q = 1 ∨ q = 2 ∨ q = 3 := by omega
    · have e : 2 ^ (8 * (3 - 0) + r) = 2 ^ r * 2 ^ 24 := by rw [← Nat.pow_add]; congr 1; omega
      unfold top
      simp only [List.getElem?_set, hq, if_true, e]
      simp only [hg 0 (by omega), Option.getD_some, show ¬ (0 : Nat) = 1 by decide, show ¬ (0 : Nat) = 2 by decide, show ¬ (0 : Nat) = 3 by decide, if_false, xor_mul]
      exact ac0 _ _ _ _ _
    · have e : 2 ^ (8 * (3 - 1) + r) = 2 ^ r * 2 ^ 16 := by rw [← Nat.pow_add]; congr 1; omega
      unfold top
      simp only [List.getElem?_set, hq, if_true, e]
      simp only [hg 1 (by omega), Option.getD_some, show ¬ (1 : Nat) = 0 by decide, show ¬ (1 : Nat) = 2 by decide, show ¬ (1 : Nat) = 3 by decide, if_false, xor_mul]
      exact ac1 _ _ _ _ _
    · have e : 2 ^ (8 * (3 - 2) + r) = 2 ^ r * 2 ^ 8 := by rw [← Nat.pow_add]; congr 1; omega
      unfold top
      simp only [List.getElem?_set, hq, if_true, e]
      simp only [hg 2 (by omega), Option.getD_some, show ¬ (2 : Nat) = 0 by decide, show ¬ (2 : Nat) = 1 by decide, show ¬ (2 : Nat) = 3 by decide, if_false, xor_mul]
      exact ac2 _ _ _ _ _
    · have e : 2 ^ (8 * (3 - 3) + r) = 2 ^ r * 2 ^ 0 := by rw [← Nat.pow_add]; congr 1; omega
      unfold top
      simp only [List.getElem?_set, hq, if_true, e]
      simp only [hg 3 (by omega), Option.getD_some, show ¬ (3 : Nat) = 0 by decide, show ¬ (3 : Nat) = 1 by decide, show ¬ (3 : Nat) = 2 by decide, if_false, xor_mul]
      exact ac3 _ _ _ _ _
  unfold flip
  rw [dif_pos hlt]
  exact key (n / 8) (n % 8) hlt hq

theorem synd_flip (x y : Nat) (B : List Nat) (h4 : 4 ≤ B.length) (n : Nat) : synd x y (flip B n) = synd x y B ^^^ addsS B.length n := by
  unfold addsS
  by_cases hq : n / 8 < 4
  · rw [if_pos hq]
    unfold synd
    rw [top_flip B h4 n hq]
    have hd : (flip B n).drop 4 = B.drop 4 := by
      unfold flip
      rw [dif_pos (by omega), List.drop_set_of_lt hq]
    rw [hd]
    exact (Nat.xor_assoc _ _ _).symm
  · rw [if_neg hq]
    by_cases hl : n / 8 < B.length
    · rw [if_pos hl]
      unfold synd
      have ht : top (flip B n) = top B := by
        unfold flip top
        rw [dif_pos hl]
        simp only [List.getElem?_set, show ¬ n / 8 = 0 by omega, show ¬ n / 8 = 1 by omega, show ¬ n / 8 = 2 by omega, show ¬ n / 8 = 3 by omega, if_false]
      have hd : (flip B n).drop 4 = flip (B.drop 4) (n - 32) := by
        unfold flip
        have e1 : (n - 32) / 8 = n / 8 - 4 := by omega
        have e2 : (n - 32) % 8 = n % 8 := by omega
        rw [dif_pos hl, dif_pos (by simp only [List.length_drop]; omega)]
        rw [List.drop_set, if_neg (by omega)]
        simp only [e1, e2, List.getElem_drop]
        congr 2
        simp only [show 4 + (n / 8 - 4) = n / 8 by omega]
      rw [ht, hd, crc_flip]
      have ea : adds (B.drop 4).length (n - 32) = s (8 * B.length - n) := by
        unfold adds
        rw [if_pos (by simp only [List.length_drop]; omega)]
        congr 1
        simp only [List.length_drop]
        omega
      rw [ea]
      exact ac5 _ _ _ _
    · rw [if_neg hl, flip_none hl, Nat.xor_zero]

/-- A turned bit's place among the powers. -/
def placeS (len n : Nat) : Nat := if n / 8 < 4 then 32 - (8 * (3 - n / 8) + n % 8) else 8 * len - n + 32

theorem adds_place (len n : Nat) (_h4 : 4 ≤ len) (h : n / 8 < len) : Tn 32 (addsS len n) = s (placeS len n) := by
  unfold addsS placeS
  by_cases hq : n / 8 < 4
  · rw [if_pos hq, if_pos hq]
    obtain ⟨k, hk⟩ : ∃ k, 8 * (3 - n / 8) + n % 8 = k := ⟨_, rfl⟩
    have hk32 : k < 32 := by omega
    rw [hk]
    have e : Tn 32 (2 ^ k) = Tn (32 - k) (Tn k (2 ^ k)) := by rw [← Tn_add]; congr 1; omega
    rw [e, Tn_pow]
    rfl
  · rw [if_neg hq, if_neg hq, if_pos h, Nat.add_comm, s_add]

theorem place_bounds (len n : Nat) (h4 : 4 ≤ len) (hl : len ≤ 256) (h : n / 8 < len) : 1 ≤ placeS len n ∧ placeS len n ≤ 2048 := by
  unfold placeS
  split <;> omega

theorem place_inj (len a b : Nat) (_h4 : 4 ≤ len) (ha : a / 8 < len) (hb : b / 8 < len) (h : placeS len a = placeS len b) : a = b := by
  unfold placeS at h
  split at h <;> split at h <;> omega

/-- Of sealed bytes up to three turned bits are seen, unless they turn nothing. -/
theorem sealed_few (x y : Nat) (l : List Nat) (h4 : 4 ≤ l.length) (hl : l.length ≤ 256) (hs : synd x y l = 0) (a b c : Nat) :
    synd x y (flip (flip (flip l a) b) c) = 0 ↔ flip (flip (flip l a) b) c = l := by
  refine ⟨fun h => ?_, fun h => by rw [h]; exact hs⟩
  rw [synd_flip _ _ _ (by simp only [flip_length]; exact h4), synd_flip _ _ _ (by simp only [flip_length]; exact h4), synd_flip _ _ _ h4, hs] at h
  simp only [flip_length, Nat.zero_xor, Nat.xor_assoc] at h
  have h0 : Tn 32 (addsS l.length a) ^^^ (Tn 32 (addsS l.length b) ^^^ Tn 32 (addsS l.length c)) = 0 := by
    rw [← Tn_xor, ← Tn_xor, h, Tn_zero]
  clear h
  have ex : ∀ {n : Nat}, n / 8 < l.length → Tn 32 (addsS l.length n) = s (placeS l.length n) ∧ 1 ≤ placeS l.length n ∧ placeS l.length n ≤ 2048 := fun {n} h => ⟨adds_place _ _ h4 h, (place_bounds _ _ h4 hl h).1, (place_bounds _ _ h4 hl h).2⟩
  have ez : ∀ {n : Nat}, ¬ n / 8 < l.length → Tn 32 (addsS l.length n) = 0 := fun {n} h => by
    have : addsS l.length n = 0 := by unfold addsS; rw [if_neg (by omega), if_neg h]
    rw [this, Tn_zero]
  have noF : ∀ {n : Nat} (m : List Nat), m.length = l.length → ¬ n / 8 < l.length → flip m n = m := fun m hm h => flip_none (by rw [hm]; exact h)
  by_cases ha : a / 8 < l.length <;> by_cases hb : b / 8 < l.length <;> by_cases hc : c / 8 < l.length
  · rw [(ex ha).1, (ex hb).1, (ex hc).1] at h0
    exact (three (ex ha).2.1 (ex hb).2.1 (ex hc).2.1 (ex ha).2.2 (ex hb).2.2 (ex hc).2.2 h0).elim
  · rw [(ex ha).1, (ex hb).1, ez hc, Nat.xor_zero] at h0
    have e := place_inj _ _ _ h4 ha hb (two (ex ha).2.2 (ex hb).2.2 (ex ha).2.1 (ex hb).2.1 (xor_eq_zero h0))
    rw [noF _ (by simp [flip_length]) hc, e, flip_twice]
  · rw [(ex ha).1, ez hb, (ex hc).1, Nat.zero_xor] at h0
    have e := place_inj _ _ _ h4 ha hc (two (ex ha).2.2 (ex hc).2.2 (ex ha).2.1 (ex hc).2.1 (xor_eq_zero h0))
    rw [noF (flip l a) (flip_length _ _) hb, e, flip_twice]
  · rw [(ex ha).1, ez hb, ez hc, Nat.xor_zero, Nat.xor_zero] at h0
    exact (s_ne _ h0).elim
  · rw [ez ha, (ex hb).1, (ex hc).1, Nat.zero_xor] at h0
    have e := place_inj _ _ _ h4 hb hc (two (ex hb).2.2 (ex hc).2.2 (ex hb).2.1 (ex hc).2.1 (xor_eq_zero h0))
    rw [noF l rfl ha, e, flip_twice]
  · rw [ez ha, (ex hb).1, ez hc, Nat.zero_xor, Nat.xor_zero] at h0
    exact (s_ne _ h0).elim
  · rw [ez ha, ez hb, (ex hc).1, Nat.zero_xor, Nat.zero_xor] at h0
    exact (s_ne _ h0).elim
  · rw [noF l rfl ha, noF l rfl hb, noF l rfl hc]
end CrcMath
