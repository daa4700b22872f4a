/- The contracts of a reader's fixed, Fixed4, Fixed8 and Byte: the number of the next bytes, or what was wrong; nothing but the reader's own block has turned. -/
import Derived.Test.YtjimippblgddbaaPeek
namespace Go.Proofs.Ytjimippblgddbaa
open Go.RowKit WireMath
set_option maxRecDepth 100000
set_option linter.unusedSimpArgs false

theorem unfx_snoc (c : Nat) : ∀ l : List Nat, unfx (l ++ [c]) = unfx l + c * 256 ^ l.length
  | [] => by simp [unfx]
  | x :: r => by
    rw [List.cons_append, unfx, unfx_snoc c r, unfx, List.length_cons, Nat.pow_succ, Nat.mul_add, Nat.mul_comm (256 ^ r.length) 256, ← Nat.mul_assoc c, Nat.mul_comm c 256, Nat.mul_assoc, Nat.add_assoc]

theorem two_pow_8 (i : Nat) : 2 ^ (8 * i) = 256 ^ i := by rw [Nat.pow_mul]

/-- A byte laid into its place. -/
theorem or_byte (i acc c : Nat) (hi : i ≤ 7) (ha : acc < 256 ^ i) (hc : c < 256) :
    bits .or .u64 (acc : Int) (IntKind.u64.wrap ((c : Int) * 2 ^ (8 * i))) = ((acc + c * 256 ^ i : Nat) : Int) := by
  have e : (c : Int) * 2 ^ (8 * i) = ((c * 256 ^ i : Nat) : Int) := by
    rw [← two_pow_8]
    push_cast
    rfl
  have hp : 256 ^ i ≤ 256 ^ 7 := Nat.pow_le_pow_right (by decide) hi
  have hb : c * 256 ^ i < 18446744073709551616 := by
    have : c * 256 ^ i ≤ 255 * 256 ^ 7 := Nat.mul_le_mul (by omega) hp
    omega
  rw [e, IntKind.wrap_u64, Int.emod_eq_of_lt (by omega) (by omega), bits_or_u64_nat acc _ (by omega) hb]
  congr 1
  have h1 := Nat.shiftLeft_add_eq_or_of_lt (b := acc) (i := 8 * i) (by rw [two_pow_8]; exact ha) c
  rw [Nat.shiftLeft_eq, two_pow_8] at h1
  rw [Nat.or_comm, ← h1, Nat.add_comm]

set_option maxHeartbeats 2000000 in
theorem fixed_short (q : Nat) (l : List Nat) (a b k : Nat) (w : World) (h : Rd w q l a b) (hk : (src l a b).length < k) :
    Calls Try.prog 41 #[.pointer (some ⟨q, 0, none⟩), .int .i64 (k : Int)] w fun e w' => e = .returned (.int .u64 0) ∧ Rd w' q l a (wb b 5) ∧ Kp q w w' := by
  have hk' : ((src l a b).length : Int) < (k : Int) := by omega
  go_enter Try.func41, Try.ntmps41
  go_wp2_with fail
  refine (rest_of q l a b w h).mono ?_
  rintro e w1 ⟨v1, rfl, hB1, hb1⟩
  have h1 := h.below hb1
  obtain ⟨ao, cap, rfl, _⟩ := hB1
  go_wp2_with fail
  refine (fail_of q l a b 5 _ h1).mono ?_
  rintro e w2 ⟨rfl, h2, k2⟩
  go_wp2
  go_ret
  exact ⟨rfl, h2, (Kp.of_below hb1).trans k2⟩

set_option maxHeartbeats 4000000 in
theorem fixed_ok (q : Nat) (l : List Nat) (a b k : Nat) (w : World) (h : Rd w q l a b) (hl : ∀ c ∈ l, c < 256) (hk : k ≤ (src l a b).length) (hk0 : 0 < k) (hk8 : k ≤ 8) :
    Calls Try.prog 41 #[.pointer (some ⟨q, 0, none⟩), .int .i64 (k : Int)] w fun e w' => e = .returned (.int .u64 (unfx ((src l a b).take k) : Int)) ∧ Rd w' q l (a + k) b ∧ Kp q w w' := by
  have hal := (src_len hk hk0).2
  have hbytes := src_bytes (a := a) (b := b) hl
  have hk' : ¬ ((src l a b).length : Int) < (k : Int) := by omega
  have hr := rest_of q l a b w h
  generalize src l a b = s at *
  go_enter Try.func41, Try.ntmps41
  go_wp2_with fail
  refine hr.mono ?_
  rintro e w1 ⟨v1, rfl, hB1, hb1⟩
  have h1 := h.below hb1
  obtain ⟨ao, cap, rfl, g2, g3, _, g5⟩ := hB1
  obtain ⟨bb, off, rfl, _, hc⟩ := g5 (by rintro rfl; simp at hk; omega)
  have hkc : (k : Int) ≤ (cap : Int) := by omega
  have hmc : (cap : Int) ≤ 9223372036854775807 := by unfold maxLen at g3; omega
  have hb1' : Hid (Below w.heap.size w w1) := hb1
  clear hb1 g5
  go_wp2
  go_loopg [6, 21] k (fun g s6 s21 wr => ∃ i : Nat, i + g = k ∧ s21 = .int .i64 (i : Int) ∧ s6 = .int .u64 (unfx (s.take i) : Int) ∧ wr = w1)
  case atStart => exact ⟨0, by simp, rfl, rfl, rfl⟩
  case round =>
    obtain ⟨i, hi, rfl, rfl, rfl⟩ := hrel
    by_cases hlt : i < k
    · have hil : i < s.length := by omega
      have hcell := hc i s[i] (List.getElem?_eq_getElem hil)
      have hc256 := hbytes s[i] (List.getElem_mem hil)
      have htl : (s.take i).length = i := by rw [List.length_take]; omega
      have E : Hid (unfx (s.take (i + 1)) = unfx (s.take i) + s[i] * 256 ^ i) := by
        show _ = _
        rw [List.take_succ_eq_append_getElem hil, unfx_snoc, htl]
      have hacc : unfx (s.take i) < 256 ^ i := by
        have := unfx_lt (s.take i) (fun c hc => hbytes c (List.mem_of_mem_take hc))
        rwa [htl] at this
      generalize s[i] = c at hcell hc256 E
      generalize unfx (s.take i) = acc at hacc E ⊢
      have qd := or_byte i acc c (by omega) hacc hc256
      have hlti : (i : Int) < (k : Int) := by omega
      clear hc hbytes htl
      go_wp2
      go_roundg (gk - 1)
      case measure => omega
      case rel => exact ⟨i + 1, by omega, by go_num, by rw [E.out]; go_num, rfl⟩
    · obtain rfl : i = k := by omega
      have hlti : ¬ (i : Int) < (i : Int) := by omega
      clear hc hbytes
      go_wp2_with fail
      refine (skip_of q l a b i _ h1 hal).mono ?_
      rintro e w2 ⟨rfl, h2, k2⟩
      go_wp2
      go_ret
      exact ⟨rfl, h2, (Kp.of_below hb1'.out).trans k2⟩

/-- What a reader's fixed tells, and leaves. -/
def fxN (l : List Nat) (a b k : Nat) : Nat := if (src l a b).length < k then 0 else unfx ((src l a b).take k)
def fxA (l : List Nat) (a b k : Nat) : Nat := if (src l a b).length < k then a else a + k
def fxE (l : List Nat) (a b k : Nat) : Nat := if (src l a b).length < k then wb b 5 else b

theorem fixed_m (q : Nat) (l : List Nat) (a b k : Nat) (w : World) (h : Rd w q l a b) (hl : ∀ c ∈ l, c < 256) (hk0 : 0 < k) (hk8 : k ≤ 8) :
    Calls Try.prog 41 #[.pointer (some ⟨q, 0, none⟩), .int .i64 (k : Int)] w fun e w' => e = .returned (.int .u64 (fxN l a b k : Int)) ∧ Rd w' q l (fxA l a b k) (fxE l a b k) ∧ Kp q w w' := by
  unfold fxN fxA fxE
  by_cases hs : (src l a b).length < k
  · rw [if_pos hs, if_pos hs, if_pos hs]
    exact fixed_short q l a b k w h hs
  · rw [if_neg hs, if_neg hs, if_neg hs]
    exact fixed_ok q l a b k w h hl (by omega) hk0 hk8

theorem fxN_lt {l : List Nat} {a b k : Nat} (hl : ∀ c ∈ l, c < 256) : fxN l a b k < 256 ^ k := by
  unfold fxN
  split
  · exact Nat.pow_pos (by decide)
  · have h1 := unfx_lt ((src l a b).take k) (fun c hc => src_bytes hl c (List.mem_of_mem_take hc))
    rw [List.length_take, Nat.min_eq_left (by omega)] at h1
    exact h1

set_option maxHeartbeats 1000000 in
theorem fixed4_m (q : Nat) (l : List Nat) (a b : Nat) (w : World) (h : Rd w q l a b) (hl : ∀ c ∈ l, c < 256) :
    Calls Try.prog 15 #[.pointer (some ⟨q, 0, none⟩)] w fun e w' => e = .returned (.int .u32 (fxN l a b 4 : Int)) ∧ Rd w' q l (fxA l a b 4) (fxE l a b 4) ∧ Kp q w w' := by
  have hf := fixed_m q l a b 4 w h hl (by decide) (by decide)
  have hn : fxN l a b 4 < 4294967296 := fxN_lt hl
  generalize fxN l a b 4 = n at hf hn
  go_enter Try.func15, Try.ntmps15
  go_wp2_with fail
  refine hf.mono ?_
  rintro e w1 ⟨rfl, h1, k1⟩
  go_wp2
  go_ret
  exact ⟨rfl, h1, k1⟩

set_option maxHeartbeats 1000000 in
theorem fixed8_m (q : Nat) (l : List Nat) (a b : Nat) (w : World) (h : Rd w q l a b) (hl : ∀ c ∈ l, c < 256) :
    Calls Try.prog 16 #[.pointer (some ⟨q, 0, none⟩)] w fun e w' => e = .returned (.int .u64 (fxN l a b 8 : Int)) ∧ Rd w' q l (fxA l a b 8) (fxE l a b 8) ∧ Kp q w w' := by
  have hf := fixed_m q l a b 8 w h hl (by decide) (by decide)
  go_enter Try.func16, Try.ntmps16
  go_wp2_with fail
  refine hf.mono ?_
  rintro e w1 ⟨rfl, h1, k1⟩
  go_wp2
  go_ret
  exact ⟨rfl, h1, k1⟩

set_option maxHeartbeats 1000000 in
theorem byte_m (q : Nat) (l : List Nat) (a b : Nat) (w : World) (h : Rd w q l a b) (hl : ∀ c ∈ l, c < 256) :
    Calls Try.prog 23 #[.pointer (some ⟨q, 0, none⟩)] w fun e w' => e = .returned (.int .u8 (fxN l a b 1 : Int)) ∧ Rd w' q l (fxA l a b 1) (fxE l a b 1) ∧ Kp q w w' := by
  have hf := fixed_m q l a b 1 w h hl (by decide) (by decide)
  have hn : fxN l a b 1 < 256 := fxN_lt hl
  generalize fxN l a b 1 = n at hf hn
  go_enter Try.func23, Try.ntmps23
  go_wp2_with fail
  refine hf.mono ?_
  rintro e w1 ⟨rfl, h1, k1⟩
  go_wp2
  go_ret
  exact ⟨rfl, h1, k1⟩
end Go.Proofs.Ytjimippblgddbaa
