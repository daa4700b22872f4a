import Derived.Test.YtgfoogeiancecaaGreatDoorHw08
import Derived.Test.YtgfoogeiancecaaGreatDoorHw04
/- The theorem of turned frames, plainly: of bytes behind their CRC-32 sum, 256 in all at most, up to three turned bits are seen, wherever they lie, unless they turn nothing at all. -/
namespace CrcMath

theorem xor_mul (x y k : Nat) : (x ^^^ y) * 2 ^ k = x * 2 ^ k ^^^ y * 2 ^ k := by
  apply Nat.eq_of_testBit_eq
  intro i
  rw [Nat.testBit_xor, Nat.testBit_mul_two_pow, Nat.testBit_mul_two_pow, Nat.testBit_mul_two_pow, Nat.testBit_xor]
  by_cases h : k ≤ i <;> simp [h]

theorem ac0 (p q r t e : Nat) : (p ^^^ e) ^^^ (q ^^^ (r ^^^ t)) = p ^^^ (q ^^^ (r ^^^ t)) ^^^ e := by ac_rfl
theorem ac1 (p q r t e : Nat) : p ^^^ ((q ^^^ e) ^^^ (r ^^^ t)) = p ^^^ (q ^^^ (r ^^^ t)) ^^^ e := by ac_rfl
theorem ac2 (p q r t e : Nat) : p ^^^ (q ^^^ ((r ^^^ e) ^^^ t)) = p ^^^ (q ^^^ (r ^^^ t)) ^^^ e := by ac_rfl
theorem ac3 (p q r t e : Nat) : p ^^^ (q ^^^ (r ^^^ (t ^^^ e))) = p ^^^ (q ^^^ (r ^^^ t)) ^^^ e := by ac_rfl
theorem ac5 (c e y t : Nat) : (c ^^^ e ^^^ y) ^^^ t = (c ^^^ y) ^^^ t ^^^ e := by ac_rfl

/-- The sum that stands ahead: four bytes, the highest first. -/
def top (B : List Nat) : Nat := B[0]?.getD 0 * 2 ^ 24 ^^^ (B[1]?.getD 0 * 2 ^ 16 ^^^ (B[2]?.getD 0 * 2 ^ 8 ^^^ B[3]?.getD 0 * 2 ^ 0))
/-- 0 just where the sum ahead is the bytes' own (x: where the sum begins; y: what is turned in its end). -/
def synd (x y : Nat) (B : List Nat) : Nat := (crcList x (B.drop 4) ^^^ y) ^^^ top B

/-- What a turned bit adds to 'synd'. -/
def addsS (len n : Nat) : Nat := if n / 8 < 4 then 2 ^ (8 * (3 - n / 8) + n % 8) else if n / 8 < len then s (8 * len - n) else 0

theorem top_flip (B : List Nat) (h4 : 4 ≤ B.length) (n : Nat) (hq : n / 8 < 4) : top (flip B n) = top B ^^^ 2 ^ (8 * (3 - n / 8) + n % 8) := by
  have hlt : n / 8 < B.length := by omega
  have key : ∀ (q r : Nat) (hq : q < B.length), q < 4 → top (B.set q (B[q] ^^^ 2 ^ r)) = top B ^^^ 2 ^ (8 * (3 - q) + r) := by
    intro q r hq h
    have hg : ∀ i, (h : i < B.length) → B[i]?.getD 0 = B[i] := fun i h => by simp [h]
    obtain rfl | rfl | rfl | rfl : q = 0 ∨ q = 1 ∨ q = 2 ∨ q = 3 := by omega
    · have e : 2 ^ (8 * (3 - 0) + r) = 2 ^ r * 2 ^ 24 := by rw [← Nat.pow_add]; congr 1; omega
      unfold top
      simp only [List.getElem?_set, hq, if_true, e]
      simp only [hg 0 (by omega), Option.getD_some, show ¬ (0 : Nat) = 1 by decide, show ¬ (0 : Nat) = 2 by decide, show ¬ (0 : Nat) = 3 by decide, if_false, xor_mul]
      exact ac0 _ _ _ _ _
    · have e : 2 ^ (8 * (3 - 1) + r) = 2 ^ r * 2 ^ 16 := by rw [← Nat.pow_add]; congr 1; omega
      unfold top
      simp only [List.getElem?_set, hq, if_true, e]
      simp only [hg 1 (by omega), Option.getD_some, show ¬ (1 : Nat) = 0 by decide, show ¬ (1 : Nat) = 2 by decide, show ¬ (1 : Nat) = 3 by decide, if_false, xor_mul]
      exact ac1 _ _ _ _ _
    · have e : 2 ^ (8 * (3 - 2) + r) = 2 ^ r * 2 ^ 8 := by rw [← Nat.pow_add]; congr 1; omega
      unfold top
      simp only [List.getElem?_set, hq, if_true, e]
      simp only [hg 2 (by omega), Option.getD_some, show ¬ (2 : Nat) = 0 by decide, show ¬ (2 : Nat) = 1 by decide, show ¬ (2 : Nat) = 3 by decide, if_false, xor_mul]
      exact ac2 _ _ _ _ _
    · have e : 2 ^ (8 * (3 - 3) + r) = 2 ^ r * 2 ^ 0 := by rw [← Nat.pow_add]; congr 1; omega
      unfold top
      simp only [List.getElem?_set, hq, if_true, e]
      simp only [hg 3 (by omega), Option.getD_some, show ¬ (3 : Nat) = 0 by decide, show ¬ (3 : Nat) = 1 by decide, show ¬ (3 : Nat) = 2 by decide, if_false, xor_mul]
      exact ac3 _ _ _ _ _
  unfold flip
  rw [dif_pos hlt]
  exact key (n / 8) (n % 8) hlt hq

theorem synd_flip (x y : Nat) (B : List Nat) (h4 : 4 ≤ B.length) (n : Nat) : synd x y (flip B n) = synd x y B ^^^ addsS B.length n := by
  unfold addsS
  by_cases hq : n / 8 < 4
  · rw [if_pos hq]
    unfold synd
    rw [top_flip B h4 n hq]
    have hd : (flip B n).drop 4 = B.drop 4 := by
      unfold flip
      rw [dif_pos (by omega), List.drop_set_of_lt hq]
    rw [hd]
    exact (Nat.xor_assoc _ _ _).symm
  · rw [if_neg hq]
    by_cases hl : n / 8 < B.length
    · rw [if_pos hl]
      unfold synd
      have ht : top (flip B n) = top B := by
        unfold flip top
        rw [dif_pos hl]
        simp only [List.getElem?_set, show ¬ n / 8 = 0 by omega, show ¬ n / 8 = 1 by omega, show ¬ n / 8 = 2 by omega, show ¬ n / 8 = 3 by omega, if_false]
      have hd : (flip B n).drop 4 = flip (B.drop 4) (n - 32) := by
        unfold flip
        have e1 : (n - 32) / 8 = n / 8 - 4 := by omega
        have e2 : (n - 32) % 8 = n % 8 := by omega
        rw [dif_pos hl, dif_pos (by simp only [List.length_drop]; omega)]
        rw [List.drop_set, if_neg (by omega)]
        simp only [e1, e2, List.getElem_drop]
        congr 2
        simp only [show 4 + (n / 8 - 4) = n / 8 by omega]
      rw [ht, hd, crc_flip]
      have ea : adds (B.drop 4).length (n - 32) = s (8 * B.length - n) := by
        unfold adds
        rw [if_pos (by simp only [List.length_drop]; omega)]
        congr 1
        simp only [List.length_drop]
        omega
      rw [ea]
      exact ac5 _ _ _ _
    · rw [if_neg hl, flip_none hl, Nat.xor_zero]

/-- A turned bit's place among the powers. -/
def placeS (len n : Nat) : Nat := if n / 8 < 4 then 32 - (8 * (3 - n / 8) + n % 8) else 8 * len - n + 32

theorem adds_place (len n : Nat) (_h4 : 4 ≤ len) (h : n / 8 < len) : Tn 32 (addsS len n) = s (placeS len n) := by
  unfold addsS placeS
  by_cases hq : n / 8 < 4
  · rw [if_pos hq, if_pos hq]
    obtain ⟨k, hk⟩ : ∃ k, 8 * (3 - n / 8) + n % 8 = k := ⟨_, rfl⟩
    have hk32 : k < 32 := by omega
    rw [hk]
    have e : Tn 32 (2 ^ k) = Tn (32 - k) (Tn k (2 ^ k)) := by rw [← Tn_add]; congr 1; omega
    rw [e, Tn_pow]
    rfl
  · rw [if_neg hq, if_neg hq, if_pos h, Nat.add_comm, s_add]

theorem place_bounds (len n : Nat) (h4 : 4 ≤ len) (hl : len ≤ 256) (h : n / 8 < len) : 1 ≤ placeS len n ∧ placeS len n ≤ 2048 := by
  unfold placeS
  split <;> omega

theorem place_inj (len a b : Nat) (_h4 : 4 ≤ len) (ha : a / 8 < len) (hb : b / 8 < len) (h : placeS len a = placeS len b) : a = b := by
  unfold placeS at h
  split at h <;> split at h <;> omega

/-- Of sealed bytes up to three turned bits are seen, unless they turn nothing. -/
theorem sealed_few (x y : Nat) (l : List Nat) (h4 : 4 ≤ l.length) (hl : l.length ≤ 256) (hs : synd x y l = 0) (a b c : Nat) :
    synd x y (flip (flip (flip l a) b) c) = 0 ↔ flip (flip (flip l a) b) c = l := by
  refine ⟨fun h => ?_, fun h => by rw [h]; exact hs⟩
  rw [synd_flip _ _ _ (by simp only [flip_length]; exact h4), synd_flip _ _ _ (by simp only [flip_length]; exact h4), synd_flip _ _ _ h4, hs] at h
  simp only [flip_length, Nat.zero_xor, Nat.xor_assoc] at h
  have h0 : Tn 32 (addsS l.length a) ^^^ (Tn 32 (addsS l.length b) ^^^ Tn 32 (addsS l.length c)) = 0 := by
    rw [← Tn_xor, ← Tn_xor, h, Tn_zero]
  clear h
  have ex : ∀ {n : Nat}, n / 8 < l.length → Tn 32 (addsS l.length n) = s (placeS l.length n) ∧ 1 ≤ placeS l.length n ∧ placeS l.length n ≤ 2048 := fun {n} h => ⟨adds_place _ _ h4 h, (place_bounds _ _ h4 hl h).1, (place_bounds _ _ h4 hl h).2⟩
  have ez : ∀ {n : Nat}, ¬ n / 8 < l.length → Tn 32 (addsS l.length n) = 0 := fun {n} h => by
    have : addsS l.length n = 0 := by unfold addsS; rw [if_neg (by omega), if_neg h]
    rw [this, Tn_zero]
  have noF : ∀ {n : Nat} (m : List Nat), m.length = l.length → ¬ n / 8 < l.length → flip m n = m := fun m hm h => flip_none (by rw [hm]; exact h)
  by_cases ha : a / 8 < l.length <;> by_cases hb : b / 8 < l.length <;> by_cases hc : c / 8 < l.length
  · rw [(ex ha).1, (ex hb).1, (ex hc).1] at h0
    exact (three (ex ha).2.1 (ex hb).2.1 (ex hc).2.1 (ex ha).2.2 (ex hb).2.2 (ex hc).2.2 h0).elim
  · rw [(ex ha).1, (ex hb).1, ez hc, Nat.xor_zero] at h0
    have e := place_inj _ _ _ h4 ha hb (two (ex ha).2.2 (ex hb).2.2 (ex ha).2.1 (ex hb).2.1 (xor_eq_zero h0))
    rw [noF _ (by simp [flip_length]) hc, e, flip_twice]
  · rw [(ex ha).1, ez hb, (ex hc).1, Nat.zero_xor] at h0
    have e := place_inj _ _ _ h4 ha hc (two (ex ha).2.2 (ex hc).2.2 (ex ha).2.1 (ex hc).2.1 (xor_eq_zero h0))
    rw [noF (flip l a) (flip_length _ _) hb, e, flip_twice]
  · rw [(ex ha).1, ez hb, ez hc, Nat.xor_zero, Nat.xor_zero] at h0
    exact (s_ne _ h0).elim
  · rw [ez ha, (ex hb).1, (ex hc).1, Nat.zero_xor] at h0
    have e := place_inj _ _ _ h4 hb hc (two (ex hb).2.2 (ex hc).2.2 (ex hb).2.1 (ex hc).2.1 (xor_eq_zero h0))
    rw [noF l rfl ha, e, flip_twice]
  · rw [ez ha, (ex hb).1, ez hc, Nat.zero_xor, Nat.xor_zero] at h0
    exact (s_ne _ h0).elim
  · rw [ez ha, ez hb, (ex hc).1, Nat.zero_xor, Nat.zero_xor] at h0
    exact (s_ne _ h0).elim
  · rw [noF l rfl ha, noF l rfl hb, noF l rfl hc]
end CrcMath

/- Plain mathematics of frames: a frame's bytes, the frame at the beginning of bytes, all frames; what was put together is read back, a beginning of it is a beginning; a frame with up to three turned bits is none. -/
namespace FrameMath
open WireMath CrcMath

/-- A number's four bytes, the highest first. -/
def be4 (n : Nat) : List Nat := [n / 16777216 % 256, n / 65536 % 256, n / 256 % 256, n % 256]
/-- Bytes behind their sum. -/
def sealed (l : List Nat) : List Nat := be4 (crcSum l) ++ l
theorem be4_lt {n : Nat} : ∀ c ∈ be4 n, c < 256 := by
  intro c hc
  simp only [be4, List.mem_cons, List.not_mem_nil, or_false] at hc
  omega
theorem sealed_lt {l : List Nat} (hl : ∀ c ∈ l, c < 256) : ∀ c ∈ sealed l, c < 256 := by
  intro c hc
  rcases List.mem_append.1 hc with h | h
  · exact be4_lt c h
  · exact hl c h
theorem sealed_length (l : List Nat) : (sealed l).length = l.length + 4 := by simp [sealed, be4]
theorem sealed_take (l : List Nat) : (sealed l).take 4 = be4 (crcSum l) := rfl
theorem sealed_drop (l : List Nat) : (sealed l).drop 4 = l := rfl

/-- A frame's bytes. -/
def frameB (k : Nat) (d : List Nat) : List Nat := uv (d.length + 5) ++ sealed (k :: d)
theorem frameB_length (k : Nat) (d : List Nat) : (frameB k d).length = (uv (d.length + 5)).length + (d.length + 5) := by
  simp [frameB, sealed_length]
theorem frameB_lt {k : Nat} {d : List Nat} (hk : k < 256) (hd : ∀ c ∈ d, c < 256) : ∀ c ∈ frameB k d, c < 256 := by
  intro c hc
  rcases List.mem_append.1 hc with h | h
  · exact uv_bytes _ c h
  · refine sealed_lt (fun c hc => ?_) c h
    rcases List.mem_cons.1 hc with rfl | hc
    · exact hk
    · exact hd c hc

/-- What is told of the frame at the beginning of bytes: its kind, its bytes, how many it has; or an error (5, 12). -/
abbrev Nx := Except Nat (Nat × List Nat × Nat)

/-- Can bytes be the beginning of a number that is not at its end? -/
def openB (l : List Nat) : Bool := decide (l.length ≤ 2) && l.all fun c => decide (128 ≤ c)

/-- The frame behind a number that has n bytes. -/
def body (l : List Nat) (size n : Nat) : Nx :=
  if size < 5 ∨ 1048576 < size then .error 5
  else if l.length - n < size then .error 12
  else if sealed (((l.drop n).take size).drop 4) = (l.drop n).take size then .ok ((((l.drop n).take size)[4]?.getD 0), (((l.drop n).take size).drop 5), (n + size))
  else .error 5
def next (l : List Nat) : Nx :=
  match rd 10 0 0 l with
  | some (size, n) => body l size n
  | none => if openB l then .error 12 else .error 5

theorem next_frame (k : Nat) (d rest : List Nat) (hd : d.length ≤ 1048571) : next (frameB k d ++ rest) = .ok (k, d, (frameB k d).length) := by
  have e1 : frameB k d ++ rest = uv (d.length + 5) ++ (sealed (k :: d) ++ rest) := by simp [frameB]
  unfold next
  rw [e1, read_back _ (by omega)]
  have e2 : ((uv (d.length + 5) ++ (sealed (k :: d) ++ rest)).drop (uv (d.length + 5)).length).take (d.length + 5) = sealed (k :: d) := by
    rw [List.drop_left, List.take_append_of_le_length (by simp [sealed_length]), List.take_of_length_le (by simp [sealed_length])]
  show body _ _ _ = _
  unfold body
  rw [if_neg (by omega), if_neg (by simp [sealed_length]), e2, sealed_drop, if_pos rfl, frameB_length]
  rfl

/-- A number's bytes but the last are 128 or above. -/
theorem uv_cut (n : Nat) : ∀ c, c < (uv n).length → ∀ x ∈ (uv n).take c, 128 ≤ x := by
  induction n using Nat.strongRecOn with
  | ind n ih =>
    intro c hc x hx
    by_cases h : n < 128
    · rw [uv_lt h] at hc hx
      obtain rfl : c = 0 := by simpa using hc
      simp at hx
    · rw [uv_ge h] at hc hx
      cases c with
      | zero => simp at hx
      | succ c =>
        rw [List.take_succ_cons] at hx
        rcases List.mem_cons.1 hx with rfl | hx
        · omega
        · exact ih (n / 128) (by omega) c (by simpa using hc) x hx

theorem rd_open : ∀ (l : List Nat) (f i n : Nat), (∀ x ∈ l, 128 ≤ x) → rd f i n l = none
  | [], f, i, n, _ => by cases f <;> rfl
  | c :: l, f, i, n, h => by
    cases f with
    | zero => rfl
    | succ f =>
      rw [rd]
      split
      · rfl
      · rw [if_neg (by have := h c List.mem_cons_self; omega)]
        exact rd_open l f (i + 1) _ fun x hx => h x (List.mem_cons_of_mem _ hx)

theorem next_cut (k : Nat) (d : List Nat) (hd : d.length ≤ 1048571) (c : Nat) (hc : c < (frameB k d).length) : next ((frameB k d).take c) = .error 12 := by
  have hu : (uv (d.length + 5)).length ≤ 3 := uv_len (k := 2) (by omega)
  unfold next
  by_cases h : c < (uv (d.length + 5)).length
  · have e1 : (frameB k d).take c = (uv (d.length + 5)).take c := by
      unfold frameB
      rw [List.take_append_of_le_length (by omega)]
    have h1 := uv_cut (d.length + 5) c h
    rw [e1, rd_open _ _ _ _ h1]
    have : openB ((uv (d.length + 5)).take c) = true := by
      unfold openB
      rw [Bool.and_eq_true, decide_eq_true_eq, List.all_eq_true]
      exact ⟨by rw [List.length_take]; omega, fun x hx => by simpa using h1 x hx⟩
    simp [this]
  · have e1 : (frameB k d).take c = uv (d.length + 5) ++ (sealed (k :: d)).take (c - (uv (d.length + 5)).length) := by
      unfold frameB
      rw [List.take_append, List.take_of_length_le (by omega)]
    rw [e1, read_back _ (by omega)]
    show body _ _ _ = _
    unfold body
    rw [frameB_length] at hc
    rw [if_neg (by omega), if_pos (by simp [sealed_length]; omega)]

/-- All frames, as far as they are right: they, how many bytes they have, and what was wrong then (0: nothing). -/
def all : Nat → List Nat → List (Nat × List Nat) × Nat × Nat
  | 0, _ => ([], 0, 0)
  | f + 1, l => if l = [] then ([], 0, 0) else
    match next l with
    | .error e => ([], 0, e)
    | .ok (k, d, n) => ((k, d) :: (all f (l.drop n)).1, n + (all f (l.drop n)).2.1, (all f (l.drop n)).2.2)

theorem all_nil (f : Nat) : all f [] = ([], 0, 0) := by cases f <;> rfl
theorem all_ok (f : Nat) {l : List Nat} {k n : Nat} {d : List Nat} (hl : l ≠ []) (h : next l = .ok (k, d, n)) : all (f + 1) l = ((k, d) :: (all f (l.drop n)).1, n + (all f (l.drop n)).2.1, (all f (l.drop n)).2.2) := by
  rw [all, if_neg hl, h]
theorem all_err (f : Nat) {l : List Nat} {e : Nat} (hl : l ≠ []) (h : next l = .error e) : all (f + 1) l = ([], 0, e) := by
  rw [all, if_neg hl, h]

/-- Frames, one behind the other. -/
def join (fs : List (Nat × List Nat)) : List Nat := fs.flatMap fun x => frameB x.1 x.2
theorem join_cons (k : Nat) (d : List Nat) (fs : List (Nat × List Nat)) : join ((k, d) :: fs) = frameB k d ++ join fs := by simp [join]
theorem frameB_ne (k : Nat) (d : List Nat) : frameB k d ≠ [] := by
  intro h
  have := congrArg List.length h
  rw [frameB_length] at this
  simp at this

theorem all_join : ∀ (fs : List (Nat × List Nat)) (f : Nat), fs.length ≤ f → (∀ x ∈ fs, x.2.length ≤ 1048571) → all f (join fs) = (fs, (join fs).length, 0)
  | [], f, _, _ => all_nil f
  | (k, d) :: fs, f, hf, h => by
    obtain ⟨g, rfl⟩ : ∃ g, f = g + 1 := ⟨f - 1, by simp at hf; omega⟩
    have hd := h (k, d) List.mem_cons_self
    have ih := all_join fs g (by simpa using hf) fun x hx => h x (List.mem_cons_of_mem _ hx)
    rw [join_cons, all_ok g (by simp [frameB_ne]) (next_frame k d (join fs) hd), List.drop_left, ih, List.length_append]

theorem all_cut : ∀ (fs : List (Nat × List Nat)) (f c : Nat), fs.length ≤ f → (∀ x ∈ fs, x.2.length ≤ 1048571) → c ≤ (join fs).length →
    ∃ j m e, all f ((join fs).take c) = (fs.take j, m, e) ∧ j ≤ fs.length ∧ m ≤ c ∧ ((e = 0 ∧ m = c) ∨ (e = 12 ∧ m ≠ c))
  | [], f, c, _, _, hc => ⟨0, 0, 0, by simp [join, all_nil], Nat.le_refl _, Nat.zero_le _, .inl ⟨rfl, by have : c ≤ 0 := hc; omega⟩⟩
  | (k, d) :: fs, f, c, hf, h, hc => by
    obtain ⟨g, rfl⟩ : ∃ g, f = g + 1 := ⟨f - 1, by simp at hf; omega⟩
    have hd := h (k, d) List.mem_cons_self
    rw [join_cons] at hc ⊢
    by_cases h0 : c = 0
    · subst h0
      exact ⟨0, 0, 0, by simp [all_nil], Nat.zero_le _, Nat.le_refl _, .inl ⟨rfl, rfl⟩⟩
    by_cases hlt : c < (frameB k d).length
    · have e1 : (frameB k d ++ join fs).take c = (frameB k d).take c := List.take_append_of_le_length (by omega)
      have hne : (frameB k d).take c ≠ [] := by
        intro he
        have := congrArg List.length he
        rw [List.length_take, List.length_nil] at this
        omega
      rw [e1, all_err g hne (next_cut k d hd c hlt)]
      exact ⟨0, 0, 12, rfl, Nat.zero_le _, Nat.zero_le _, .inr ⟨rfl, Ne.symm h0⟩⟩
    · have e1 : (frameB k d ++ join fs).take c = frameB k d ++ (join fs).take (c - (frameB k d).length) := by
        rw [List.take_append, List.take_of_length_le (by omega)]
      rw [List.length_append] at hc
      obtain ⟨j, m, e, h1, h2, h3, h4⟩ := all_cut fs g (c - (frameB k d).length) (by simpa using hf) (fun x hx => h x (List.mem_cons_of_mem _ hx)) (by omega)
      rw [e1, all_ok g (by simp [frameB_ne]) (next_frame k d _ hd), List.drop_left, h1]
      refine ⟨j + 1, (frameB k d).length + m, e, rfl, by simpa using h2, by omega, ?_⟩
      rcases h4 with ⟨a, b⟩ | ⟨a, b⟩
      · exact .inl ⟨a, by omega⟩
      · exact .inr ⟨a, by omega⟩

/-- The sum that bytes' first four tell is their own just where 'synd' is 0. -/
theorem synd_sealed (B : List Nat) (hB : ∀ c ∈ B, c < 256) (h4 : 4 ≤ B.length) : synd 4294967295 4294967295 B = 0 ↔ sealed (B.drop 4) = B := by
  have hs : crcSum (B.drop 4) = crcList 4294967295 (B.drop 4) ^^^ 4294967295 := rfl
  unfold synd
  rw [← hs]
  have hl := crcSum_lt (l := B.drop 4) fun c hc => hB c (List.mem_of_mem_drop hc)
  match B, h4 with
  | c0 :: c1 :: c2 :: c3 :: r, _ =>
    have k0 : c0 < 256 := hB c0 (by simp)
    have k1 : c1 < 256 := hB c1 (by simp)
    have k2 : c2 < 256 := hB c2 (by simp)
    have k3 : c3 < 256 := hB c3 (by simp)
    have et : top (c0 :: c1 :: c2 :: c3 :: r) = c0 * 16777216 + c1 * 65536 + c2 * 256 + c3 := by
      show c0 * 2 ^ 24 ^^^ (c1 * 2 ^ 16 ^^^ (c2 * 2 ^ 8 ^^^ c3 * 2 ^ 0)) = _
      have j : ∀ (i x y : Nat), y < 2 ^ i → x * 2 ^ i ^^^ y = x * 2 ^ i + y := by
        intro i x y hy
        apply Nat.eq_of_testBit_eq
        intro b
        rw [Nat.testBit_xor, Nat.mul_comm x, Nat.testBit_two_pow_mul_add x hy, Nat.mul_comm (2 ^ i) x, Nat.testBit_mul_two_pow]
        by_cases hb : b < i
        · have : ¬ i ≤ b := by omega
          simp [hb, this]
        · have hib : i ≤ b := by omega
          have : y.testBit b = false := Nat.testBit_lt_two_pow (Nat.lt_of_lt_of_le hy (Nat.pow_le_pow_right (by decide) hib))
          simp [hb, hib, this]
      rw [j 8 c2 _ (by omega), j 16 c1 _ (by omega), j 24 c0 _ (by omega)]
      omega
    rw [et]
    show crcSum r ^^^ _ = 0 ↔ sealed r = _
    have hx : crcSum r ^^^ (c0 * 16777216 + c1 * 65536 + c2 * 256 + c3) = 0 ↔ crcSum r = c0 * 16777216 + c1 * 65536 + c2 * 256 + c3 := ⟨xor_eq_zero, fun h => by rw [h, Nat.xor_self]⟩
    have hl' : crcSum r < 4294967296 := hl
    rw [hx]
    simp only [sealed, be4, List.cons_append, List.nil_append, List.cons.injEq, and_true]
    omega

theorem flip_bytes {l : List Nat} (hl : ∀ c ∈ l, c < 256) (n : Nat) : ∀ c ∈ CrcMath.flip l n, c < 256 := by
  unfold CrcMath.flip
  split
  · rename_i h
    intro c hc
    rcases List.mem_or_eq_of_mem_set hc with hc | rfl
    · exact hl c hc
    · refine Nat.xor_lt_two_pow (n := 8) (hl _ (List.getElem_mem h)) ?_
      exact Nat.pow_lt_pow_right (by decide) (Nat.mod_lt _ (by decide))
  · exact hl

/-- Of bytes behind their sum up to three turned bits are seen. -/
theorem turned_seen (d : List Nat) (hd : ∀ c ∈ d, c < 256) (hl : d.length ≤ 252) (a b c : Nat) :
    sealed ((CrcMath.flip (CrcMath.flip (CrcMath.flip (sealed d) a) b) c).drop 4) = CrcMath.flip (CrcMath.flip (CrcMath.flip (sealed d) a) b) c ↔ CrcMath.flip (CrcMath.flip (CrcMath.flip (sealed d) a) b) c = sealed d := by
  have h4 : 4 ≤ (sealed d).length := by rw [sealed_length]; omega
  have h0 : synd 4294967295 4294967295 (sealed d) = 0 := (synd_sealed _ (sealed_lt hd) h4).2 (by rw [sealed_drop])
  rw [← synd_sealed _ (flip_bytes (flip_bytes (flip_bytes (sealed_lt hd) a) b) c) (by simp only [flip_length]; exact h4)]
  exact sealed_few _ _ _ h4 (by rw [sealed_length]; omega) h0 a b c

/-- A frame whose body is other bytes of the same length that are not behind their sum is none. -/
theorem next_turned (d B : List Nat) (hd : d.length ≤ 1048571) (hB : B.length = d.length + 5) (hs : sealed (B.drop 4) ≠ B) : next (uv (d.length + 5) ++ B) = .error 5 := by
  unfold next
  rw [read_back _ (by omega)]
  show body _ _ _ = _
  unfold body
  rw [if_neg (by omega), if_neg (by simp; omega), List.drop_left, List.take_of_length_le (by omega), if_neg hs]

/-- A beginning that is a number's bytes is what the reader finds. -/
theorem rd_of_take {l : List Nat} {n N : Nat} (h : l.take n = uv N) (hN : N < 18446744073709551616) (hn : n ≤ l.length) : rd 10 0 0 l = some (N, n) := by
  have e : (uv N).length = n := by rw [← h, List.length_take]; omega
  have := read_back N hN (l.drop n)
  rw [← h, List.take_append_drop, h, e] at this
  exact this

/-- How many bytes a frame's number has, where it is short. -/
theorem uv_one {n : Nat} (h : n < 128) : (uv n).length = 1 := by rw [uv_lt h]; rfl
theorem uv_two {n : Nat} (h : 128 ≤ n) (h2 : n < 16384) : (uv n).length = 2 := by
  rw [uv_ge (by omega), List.length_cons, uv_one (by omega)]
end FrameMath

/- Plain mathematics of frames, more: the frame at the beginning of bytes is found by the first three bytes; and as the document's own Next finds it, trying one length after the other. -/
namespace FrameMath
open WireMath CrcMath

theorem rd_parts {l : List Nat} {n k : Nat} (hl : ∀ c ∈ l, c < 256) (h : rd 10 0 0 l = some (n, k)) : n < 18446744073709551616 ∧ 0 < k ∧ k ≤ 10 ∧ k ≤ l.length := by
  obtain ⟨h1, h2, h3, h4⟩ := canonical l hl n k h
  refine ⟨h4, by rw [h2]; exact uv_pos n, h3, ?_⟩
  have := congrArg List.length h1
  rw [List.length_take] at this
  omega

theorem next_gap {l : List Nat} (h : l.length < 3) (ha : (l.all fun c => decide (128 ≤ c)) = true) : next l = .error 12 := by
  unfold next
  have hx : ∀ x ∈ l, 128 ≤ x := fun x hx => by simpa using List.all_eq_true.1 ha x hx
  rw [rd_open l 10 0 0 hx]
  have : openB l = true := by
    unfold openB
    rw [Bool.and_eq_true, decide_eq_true_eq]
    exact ⟨by omega, ha⟩
  simp [this]

theorem next_num {l : List Nat} {s k : Nat} (hl : ∀ c ∈ l, c < 256) (hr : rd 10 0 0 (l.take 3) = some (s, k)) : next l = body l s k ∧ 0 < k ∧ k ≤ 3 ∧ k ≤ l.length := by
  have hl3 : ∀ c ∈ l.take 3, c < 256 := fun c hc => hl c (List.mem_of_mem_take hc)
  obtain ⟨h1, h2, h3, h4⟩ := rd_parts hl3 hr
  have h5 := (canonical _ hl3 s k hr).1
  rw [List.length_take] at h4
  rw [List.take_take, Nat.min_eq_left (by omega)] at h5
  have := rd_of_take h5 h1 (by omega)
  refine ⟨?_, h2, by omega, by omega⟩
  unfold next
  rw [this]

theorem next_bad {l : List Nat} (hl : ∀ c ∈ l, c < 256) (h : ¬ (l.length < 3 ∧ (l.all fun c => decide (128 ≤ c)) = true)) (hr : rd 10 0 0 (l.take 3) = none) : next l = .error 5 := by
  unfold next
  cases hn : rd 10 0 0 l with
  | none =>
    have : openB l = false := by
      rw [Bool.eq_false_iff]
      intro ho
      unfold openB at ho
      rw [Bool.and_eq_true, decide_eq_true_eq] at ho
      exact h ⟨by omega, ho.2⟩
    simp [this]
  | some x =>
    obtain ⟨s, k⟩ := x
    obtain ⟨h1, h2, h3, h4⟩ := canonical l hl s k hn
    obtain ⟨_, g2, _, g4⟩ := rd_parts hl hn
    have hk : ¬ k ≤ 3 := by
      intro hk
      have e : (l.take 3).take k = uv s := by rw [List.take_take, Nat.min_eq_left hk, h1]
      have := rd_of_take e h4 (by rw [List.length_take]; omega)
      rw [hr] at this
      cases this
    have hs : ¬ s < 128 ^ 3 := fun hs => by
      have := uv_len (k := 2) hs
      omega
    show body l s k = _
    unfold body
    rw [if_pos (.inr (by omega))]

/-- A body is as Seal makes it just where its first four bytes are the sum of the others. -/
theorem sealed_iff {B : List Nat} : sealed (B.drop 4) = B ↔ B.take 4 = be4 (crcSum (B.drop 4)) := by
  unfold sealed
  constructor
  · intro h
    have := congrArg (List.take 4) h
    rw [List.take_left' (by simp [be4])] at this
    exact this.symm
  · intro h
    rw [← h, List.take_append_drop]

theorem body_small {l : List Nat} {s k : Nat} (h : s < 5 ∨ 1048576 < s) : body l s k = .error 5 := by
  unfold body
  rw [if_pos h]
theorem body_gap {l : List Nat} {s k : Nat} (h5 : 5 ≤ s) (h20 : s ≤ 1048576) (h : l.length < k + s) (hk : k ≤ l.length) : body l s k = .error 12 := by
  unfold body
  rw [if_neg (by omega), if_pos (by omega)]
theorem body_text {l : List Nat} {s k : Nat} (h5 : 5 ≤ s) (h20 : s ≤ 1048576) (h : k + s ≤ l.length) (hs : ¬ ((l.drop k).take s).take 4 = be4 (crcSum (((l.drop k).take s).drop 4))) : body l s k = .error 5 := by
  unfold body
  rw [if_neg (by omega), if_neg (by omega), if_neg (fun h => hs (sealed_iff.1 h))]
theorem body_ok {l : List Nat} {s k : Nat} (h5 : 5 ≤ s) (h20 : s ≤ 1048576) (h : k + s ≤ l.length) (hs : ((l.drop k).take s).take 4 = be4 (crcSum (((l.drop k).take s).drop 4))) : body l s k = .ok ((((l.drop k).take s)[4]?.getD 0), (((l.drop k).take s).drop 5), (k + s)) := by
  unfold body
  rw [if_neg (by omega), if_neg (by omega), if_pos (sealed_iff.2 hs)]

/-- What the document's own value tells of bytes: the number, and whether it has just these bytes. -/
theorem value_iff {l : List Nat} {n : Nat} (hl : ∀ c ∈ l, c < 256) (hn : n ≤ l.length) : uv (((rd 10 0 0 (l.take n)).getD (0, 0)).1) = l.take n ↔ ∃ N, rd 10 0 0 l = some (N, n) ∧ N = ((rd 10 0 0 (l.take n)).getD (0, 0)).1 := by
  have hl' : ∀ c ∈ l.take n, c < 256 := fun c hc => hl c (List.mem_of_mem_take hc)
  have hlen : (l.take n).length = n := by rw [List.length_take]; omega
  constructor
  · intro h
    refine ⟨_, ?_, rfl⟩
    cases hr : rd 10 0 0 (l.take n) with
    | none =>
      rw [hr] at h
      have : rd 10 0 0 (l.take n) = some (0, 1) := by rw [← h]; show rd 10 0 0 (uv 0) = _; rw [uv_lt (by decide)]; rfl
      rw [hr] at this
      cases this
    | some x =>
      rw [hr] at h
      exact rd_of_take h.symm (rd_parts hl' hr).1 hn
  · rintro ⟨N, h1, h2⟩
    obtain ⟨g1, g2, g3, g4⟩ := canonical l hl N n h1
    have : rd 10 0 0 (l.take n) = some (N, n) := by
      have := read_back N g4 []
      rw [List.append_nil, ← g1, hlen] at this
      exact this
    rw [this]
    exact g1.symm

theorem value_back {l : List Nat} {n N : Nat} (hl : ∀ c ∈ l, c < 256) (hn : n ≤ l.length) (h1 : rd 10 0 0 l = some (N, n)) : rd 10 0 0 (l.take n) = some (N, n) ∧ uv N = l.take n := by
  obtain ⟨g1, g2, g3, g4⟩ := canonical l hl N n h1
  have := read_back N g4 []
  rw [List.append_nil, ← g1, List.length_take, Nat.min_eq_left hn] at this
  exact ⟨this, g1.symm⟩

theorem next_ok_facts {l : List Nat} {k n : Nat} {d : List Nat} (h : next l = .ok (k, d, n)) : 0 < n ∧ n ≤ l.length ∧ d.length ≤ l.length ∧ (∀ c ∈ d, c ∈ l) := by
  unfold next at h
  split at h
  · rename_i s m hr
    unfold body at h
    split at h
    · cases h
    · split at h
      · cases h
      · split at h
        · simp only [Except.ok.injEq, Prod.mk.injEq] at h
          obtain ⟨_, h2, h3⟩ := h
          refine ⟨by omega, ?_, ?_, ?_⟩
          · rename_i a b c
            by_cases hm : m ≤ l.length
            · omega
            · omega
          · rw [← h2]; simp; omega
          · intro c hc
            rw [← h2] at hc
            exact List.mem_of_mem_drop (List.mem_of_mem_take (List.mem_of_mem_drop hc))
        · cases h
  · split at h <;> cases h
theorem next_err_lt {l : List Nat} {e : Nat} (h : next l = .error e) : e = 5 ∨ e = 12 := by
  unfold next at h
  split at h
  · unfold body at h
    split at h
    · cases h; exact .inl rfl
    · split at h
      · cases h; exact .inr rfl
      · split at h
        · cases h
        · cases h; exact .inl rfl
  · split at h
    · cases h; exact .inr rfl
    · cases h; exact .inl rfl
end FrameMath

