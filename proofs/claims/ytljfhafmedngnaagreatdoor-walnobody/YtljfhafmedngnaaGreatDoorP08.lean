import Derived.Test.YtljfhafmedngnaaGreatDoorP07
/- Plain mathematics of CRC-32: the step by a table of 16, the step bit by bit as the document's own, and sums that go on. -/
namespace CrcMath

theorem splitr (r y : Nat) : y = (y / 2 ^ r * 2 ^ r) ^^^ (y % 2 ^ r) := by
  apply Nat.eq_of_testBit_eq
  intro i
  have h1 : (y / 2 ^ r * 2 ^ r).testBit i = (decide (r ≤ i) && y.testBit i) := by
    rw [Nat.testBit_mul_two_pow]
    by_cases h : r ≤ i
    · simp only [h, decide_true, Bool.true_and]
      rw [Nat.testBit_div_two_pow]
      congr 1
      omega
    · simp [h]
  rw [Nat.testBit_xor, h1, Nat.testBit_mod_two_pow]
  by_cases h : r ≤ i
  · have : ¬ i < r := by omega
    simp [h, this]
  · have : i < r := by omega
    simp [h, this]

/-- The step by a table of 16 words. -/
theorem by_half (y : Nat) : y / 16 ^^^ Tn 4 (y % 16) = Tn 4 y := by
  conv => rhs; rw [splitr 4 y]
  rw [Tn_xor, Tn_shift]

theorem two_halves (y : Nat) : Tn 4 (Tn 4 y) = Tn 8 y := (Tn_add 4 4 y).symm

/-- The step bit by bit. -/
theorem bit_round (z q y : Nat) (h : z ^^^ q = y) : T y = (if (z ^^^ q) % 2 = 1 then z / 2 ^^^ poly else z / 2) ^^^ q / 2 := by
  subst h
  unfold T
  rw [xor_div2]
  split
  · rw [Nat.xor_assoc, Nat.xor_comm (q / 2) poly, ← Nat.xor_assoc]
  · rfl

theorem Tn_succ (n x : Nat) : Tn (n + 1) x = T (Tn n x) := by rw [Tn_add n 1]; rfl

/-- Sums as they are told. -/
def crcStep (s : Nat) (l : List Nat) : Nat := crcList (4294967295 ^^^ s) l ^^^ 4294967295
def crcSum (l : List Nat) : Nat := crcStep 0 l

theorem crcList_append (x : Nat) (l r : List Nat) : crcList x (l ++ r) = crcList (crcList x l) r := by unfold crcList; rw [List.foldl_append]
theorem crcList_snoc (x : Nat) (l : List Nat) (c : Nat) : crcList x (l ++ [c]) = crcByte (crcList x l) c := by rw [crcList_append]; rfl

theorem crcStep_sum (a b : List Nat) : crcStep (crcSum a) b = crcSum (a ++ b) := by
  unfold crcSum crcStep
  rw [crcList_append, Nat.xor_comm 4294967295 (_ ^^^ 4294967295), Nat.xor_assoc, Nat.xor_self, Nat.xor_zero]

theorem xor_lt32 {a b : Nat} (ha : a < 4294967296) (hb : b < 4294967296) : a ^^^ b < 4294967296 := Nat.xor_lt_two_pow (n := 32) ha hb
theorem crcByte_lt {x c : Nat} (hx : x < 4294967296) (hc : c < 256) : crcByte x c < 4294967296 := Tn_lt 8 (xor_lt32 hx (by omega))
theorem crcList_lt : ∀ (l : List Nat) {x : Nat}, x < 4294967296 → (∀ c ∈ l, c < 256) → crcList x l < 4294967296
  | [], _, h, _ => h
  | c :: l, x, h, hl => by
    show crcList (crcByte x c) l < _
    exact crcList_lt l (crcByte_lt h (hl c List.mem_cons_self)) fun d hd => hl d (List.mem_cons_of_mem _ hd)
theorem crcStep_lt {s : Nat} {l : List Nat} (hs : s < 4294967296) (hl : ∀ c ∈ l, c < 256) : crcStep s l < 4294967296 := xor_lt32 (crcList_lt l (xor_lt32 (by decide) hs) hl) (by decide)
theorem crcSum_lt {l : List Nat} (hl : ∀ c ∈ l, c < 256) : crcSum l < 4294967296 := crcStep_lt (by decide) hl

theorem xor_inj {a b c : Nat} (h : a ^^^ c = b ^^^ c) : a = b := by
  have := congrArg (· ^^^ c) h
  simpa [Nat.xor_assoc] using this
theorem crcSum_eq {l r : List Nat} : crcSum l = crcSum r ↔ crcList 4294967295 l = crcList 4294967295 r := by
  unfold crcSum crcStep
  exact ⟨fun h => xor_inj h, fun h => congrArg (· ^^^ 4294967295) h⟩
end CrcMath

/- The theorem of turned frames, plainly: of bytes behind their CRC-32 sum, 256 in all at most, up to three turned bits are seen, wherever they lie, unless they turn nothing at all. -/
namespace CrcMath

theorem xor_mul (x y k : Nat) : (x ^^^ y) * 2 ^ k = x * 2 ^ k ^^^ y * 2 ^ k := by
  apply Nat.eq_of_testBit_eq
  intro i
  rw [Nat.testBit_xor, Nat.testBit_mul_two_pow, Nat.testBit_mul_two_pow, Nat.testBit_mul_two_pow, Nat.testBit_xor]
  by_cases h : k ≤ i <;> simp [h]

theorem ac0 (p q r t e : Nat) : (p ^^^ e) ^^^ (q ^^^ (r ^^^ t)) = p ^^^ (q ^^^ (r ^^^ t)) ^^^ e := by ac_rfl
theorem ac1 (p q r t e : Nat) : p ^^^ ((q ^^^ e) ^^^ (r ^^^ t)) = p ^^^ (q ^^^ (r ^^^ t)) ^^^ e := by ac_rfl
theorem ac2 (p q r t e : Nat) : p ^^^ (q ^^^ ((r ^^^ e) ^^^ t)) = p ^^^ (q ^^^ (r ^^^ t)) ^^^ e := by ac_rfl
theorem ac3 (p q r t e : Nat) : p ^^^ (q ^^^ (r ^^^ (t ^^^ e))) = p ^^^ (q ^^^ (r ^^^ t)) ^^^ e := by ac_rfl
theorem ac5 (c e y t : Nat) : (c ^^^ e ^^^ y) ^^^ t = (c ^^^ y) ^^^ t ^^^ e := by ac_rfl

/-- The sum that stands ahead: four bytes, the highest first. -/
def top (B : List Nat) : Nat := B[0]?.getD 0 * 2 ^ 24 ^^^ (B[1]?.getD 0 * 2 ^ 16 ^^^ (B[2]?.getD 0 * 2 ^ 8 ^^^ B[3]?.getD 0 * 2 ^ 0))
/-- 0 just where the sum ahead is the bytes' own (x: where the sum begins; y: what is turned in its end). -/
def synd (x y : Nat) (B : List Nat) : Nat := (crcList x (B.drop 4) ^^^ y) ^^^ top B

/-- What a turned bit adds to 'synd'. -/
def addsS (len n : Nat) : Nat := if n / 8 < 4 then 2 ^ (8 * (3 - n / 8) + n % 8) else if n / 8 < len then s (8 * len - n) else 0

theorem top_flip (B : List Nat) (h4 : 4 ≤ B.length) (n : Nat) (hq : n / 8 < 4) : top (flip B n) = top B ^^^ 2 ^ (8 * (3 - n / 8) + n % 8) := by
  have hlt : n / 8 < B.length := by omega
  have key : ∀ (q r : Nat) (hq : q < B.length), q < 4 → top (B.set q (B[q] ^^^ 2 ^ r)) = top B ^^^ 2 ^ (8 * (3 - q) + r) := by
    intro q r hq h
    have hg : ∀ i, (h : i < B.length) → B[i]?.getD 0 = B[i] := fun i h => by simp [h]
    obtain rfl | rfl | rfl | rfl : q = 0 ∨ q = 1 ∨ q = 2 ∨ q = 3 := by omega
    · have e : 2 ^ (8 * (3 - 0) + r) = 2 ^ r * 2 ^ 24 := by rw [← Nat.pow_add]; congr 1; omega
      unfold top
      simp only [List.getElem?_set, hq, if_true, e]
      simp only [hg 0 (by omega), Option.getD_some, show ¬ (0 : Nat) = 1 by decide, show ¬ (0 : Nat) = 2 by decide, show ¬ (0 : Nat) = 3 by decide, if_false, xor_mul]
      exact ac0 _ _ _ _ _
    · have e : 2 ^ (8 * (3 - 1) + r) = 2 ^ r * 2 ^ 16 := by rw [← Nat.pow_add]; congr 1; omega
      unfold top
      simp only [List.getElem?_set, hq, if_true, e]
      simp only [hg 1 (by omega), Option.getD_some, show ¬ (1 : Nat) = 0 by decide, show ¬ (1 : Nat) = 2 by decide, show ¬ (1 : Nat) = 3 by decide, if_false, xor_mul]
      exact ac1 _ _ _ _ _
    · have e : 2 ^ (8 * (3 - 2) + r) = 2 ^ r * 2 ^ 8 := by rw [← Nat.pow_add]; congr 1; omega
      unfold top
      simp only [List.getElem?_set, hq, if_true, e]
      simp only [hg 2 (by omega), Option.getD_some, show ¬ (2 : Nat) = 0 by decide, show ¬ (2 : Nat) = 1 by decide, show ¬ (2 : Nat) = 3 by decide, if_false, xor_mul]
      exact ac2 _ _ _ _ _
    · have e : 2 ^ (8 * (3 - 3) + r) = 2 ^ r * 2 ^ 0 := by rw [← Nat.pow_add]; congr 1; omega
      unfold top
      simp only [List.getElem?_set, hq, if_true, e]
      simp only [hg 3 (by omega), Option.getD_some, show ¬ (3 : Nat) = 0 by decide, show ¬ (3 : Nat) = 1 by decide, show ¬ (3 : Nat) = 2 by decide, if_false, xor_mul]
      exact ac3 _ _ _ _ _
  unfold flip
  rw [dif_pos hlt]
  exact key (n / 8) (n % 8) hlt hq

theorem synd_flip (x y : Nat) (B : List Nat) (h4 : 4 ≤ B.length) (n : Nat) : synd x y (flip B n) = synd x y B ^^^ addsS B.length n := by
  unfold addsS
  by_cases hq : n / 8 < 4
  · rw [if_pos hq]
    unfold synd
    rw [top_flip B h4 n hq]
    have hd : (flip B n).drop 4 = B.drop 4 := by
      unfold flip
      rw [dif_pos (by omega), List.drop_set_of_lt hq]
    rw [hd]
    exact (Nat.xor_assoc _ _ _).symm
  · rw [if_neg hq]
    by_cases hl : n / 8 < B.length
    · rw [if_pos hl]
      unfold synd
      have ht : top (flip B n) = top B := by
        unfold flip top
        rw [dif_pos hl]
        simp only [List.getElem?_set, show ¬ n / 8 = 0 by omega, show ¬ n / 8 = 1 by omega, show ¬ n / 8 = 2 by omega, show ¬ n / 8 = 3 by omega, if_false]
      have hd : (flip B n).drop 4 = flip (B.drop 4) (n - 32) := by
        unfold flip
        have e1 : (n - 32) / 8 = n / 8 - 4 := by omega
        have e2 : (n - 32) % 8 = n % 8 := by omega
        rw [dif_pos hl, dif_pos (by simp only [List.length_drop]; omega)]
        rw [List.drop_set, if_neg (by omega)]
        simp only [e1, e2, List.getElem_drop]
        congr 2
        simp only [show 4 + (n / 8 - 4) = n / 8 by omega]
      rw [ht, hd, crc_flip]
      have ea : adds (B.drop 4).length (n - 32) = s (8 * B.length - n) := by
        unfold adds
        rw [if_pos (by simp only [List.length_drop]; omega)]
        congr 1
        simp only [List.length_drop]
        omega
      rw [ea]
      exact ac5 _ _ _ _
    · rw [if_neg hl, flip_none hl, Nat.xor_zero]

/-- A turned bit's place among the powers. -/
def placeS (len n : Nat) : Nat := if n / 8 < 4 then 32 - (8 * (3 - n / 8) + n % 8) else 8 * len - n + 32

theorem adds_place (len n : Nat) (_h4 : 4 ≤ len) (h : n / 8 < len) : Tn 32 (addsS len n) = s (placeS len n) := by
  unfold addsS placeS
  by_cases hq : n / 8 < 4
  · rw [if_pos hq, if_pos hq]
    obtain ⟨k, hk⟩ : ∃ k, 8 * (3 - n / 8) + n % 8 = k := ⟨_, rfl⟩
    have hk32 : k < 32 := by omega
    rw [hk]
    have e : Tn 32 (2 ^ k) = Tn (32 - k) (Tn k (2 ^ k)) := by rw [← Tn_add]; congr 1; omega
    rw [e, Tn_pow]
    rfl
  · rw [if_neg hq, if_neg hq, if_pos h, Nat.add_comm, s_add]

theorem place_bounds (len n : Nat) (h4 : 4 ≤ len) (hl : len ≤ 256) (h : n / 8 < len) : 1 ≤ placeS len n ∧ placeS len n ≤ 2048 := by
  unfold placeS
  split <;> omega

theorem place_inj (len a b : Nat) (_h4 : 4 ≤ len) (ha : a / 8 < len) (hb : b / 8 < len) (h : placeS len a = placeS len b) : a = b := by
  unfold placeS at h
  split at h <;> split at h <;> omega

/-- Of sealed bytes up to three turned bits are seen, unless they turn nothing. -/
theorem sealed_few (x y : Nat) (l : List Nat) (h4 : 4 ≤ l.length) (hl : l.length ≤ 256) (hs : synd x y l = 0) (a b c : Nat) :
    synd x y (flip (flip (flip l a) b) c) = 0 ↔ flip (flip (flip l a) b) c = l := by
  refine ⟨fun h => ?_, fun h => by rw [h]; exact hs⟩
  rw [synd_flip _ _ _ (by simp only [flip_length]; exact h4), synd_flip _ _ _ (by simp only [flip_length]; exact h4), synd_flip _ _ _ h4, hs] at h
  simp only [flip_length, Nat.zero_xor, Nat.xor_assoc] at h
  have h0 : Tn 32 (addsS l.length a) ^^^ (Tn 32 (addsS l.length b) ^^^ Tn 32 (addsS l.length c)) = 0 := by
    rw [← Tn_xor, ← Tn_xor, h, Tn_zero]
  clear h
  have ex : ∀ {n : Nat}, n / 8 < l.length → Tn 32 (addsS l.length n) = s (placeS l.length n) ∧ 1 ≤ placeS l.length n ∧ placeS l.length n ≤ 2048 := fun {n} h => ⟨adds_place _ _ h4 h, (place_bounds _ _ h4 hl h).1, (place_bounds _ _ h4 hl h).2⟩
  have ez : ∀ {n : Nat}, ¬ n / 8 < l.length → Tn 32 (addsS l.length n) = 0 := fun {n} h => by
    have : addsS l.length n = 0 := by unfold addsS; rw [if_neg (by omega), if_neg h]
    rw [this, Tn_zero]
  have noF : ∀ {n : Nat} (m : List Nat), m.length = l.length → ¬ n / 8 < l.length → flip m n = m := fun m hm h => flip_none (by rw [hm]; exact h)
  by_cases ha : a / 8 < l.length <;> by_cases hb : b / 8 < l.length <;> by_cases hc : c / 8 < l.length
  · rw [(ex ha).1, (ex hb).1, (ex hc).1] at h0
    exact (three (ex ha).2.1 (ex hb).2.1 (ex hc).2.1 (ex ha).2.2 (ex hb).2.2 (ex hc).2.2 h0).elim
  · rw [(ex ha).1, (ex hb).1, ez hc, Nat.xor_zero] at h0
    have e := place_inj _ _ _ h4 ha hb (two (ex ha).2.2 (ex hb).2.2 (ex ha).2.1 (ex hb).2.1 (xor_eq_zero h0))
    rw [noF _ (by simp [flip_length]) hc, e, flip_twice]
  · rw [(ex ha).1, ez hb, (ex hc).1, Nat.zero_xor] at h0
    have e := place_inj _ _ _ h4 ha hc (two (ex ha).2.2 (ex hc).2.2 (ex ha).2.1 (ex hc).2.1 (xor_eq_zero h0))
    rw [noF (flip l a) (flip_length _ _) hb, e, flip_twice]
  · rw [(ex ha).1, ez hb, ez hc, Nat.xor_zero, Nat.xor_zero] at h0
    exact (s_ne _ h0).elim
  · rw [ez ha, (ex hb).1, (ex hc).1, Nat.zero_xor] at h0
    have e := place_inj _ _ _ h4 hb hc (two (ex hb).2.2 (ex hc).2.2 (ex hb).2.1 (ex hc).2.1 (xor_eq_zero h0))
    rw [noF l rfl ha, e, flip_twice]
  · rw [ez ha, (ex hb).1, ez hc, Nat.zero_xor, Nat.xor_zero] at h0
    exact (s_ne _ h0).elim
  · rw [ez ha, ez hb, (ex hc).1, Nat.zero_xor, Nat.zero_xor] at h0
    exact (s_ne _ h0).elim
  · rw [noF l rfl ha, noF l rfl hb, noF l rfl hc]
end CrcMath

