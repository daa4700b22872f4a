import Derived.Test.YtghhijliamnmiaaHo17
import Derived.Laws.Bits64b
import Derived.Laws.Bits64
/- The contract of the program's own first: the number that bytes begin with, in its one form, and how many bytes it takes; nothing turns. -/
namespace Go.Proofs.Ytghhijliamnmiaa.Wi
open Go.RowKit WireMath
set_option maxRecDepth 100000
set_option linter.unusedSimpArgs false

/-- What was read, as two results. -/
def rdV (x : Option (Nat × Nat)) : Value := .tuple #[.int .u64 (((x.getD (0, 0)).1 : Nat) : Int), .int .i64 (((x.getD (0, 0)).2 : Nat) : Int)]

theorem rd_step (i acc c : Nat) (r : List Nat) (hi : i ≤ 9) : rd (10 - i) i acc (c :: r) =
    if i = 9 ∧ 1 < c % 128 then none else if c < 128 then (if c = 0 ∧ 0 < i then none else some (acc + c * 128 ^ i, i + 1)) else rd (10 - (i + 1)) (i + 1) (acc + (c % 128) * 128 ^ i) r := by
  obtain ⟨f, hf⟩ : ∃ f, 10 - i = f + 1 := ⟨9 - i, by omega⟩
  rw [hf, show 10 - (i + 1) = f by omega, rd]
theorem rd_end (i acc : Nat) : rd (10 - i) i acc [] = none := by
  cases 10 - i <;> rfl

theorem two_pow_7 (i : Nat) : 2 ^ (7 * i) = 128 ^ i := by rw [Nat.pow_mul]

/-- A digit laid into its place. -/
theorem or_digit (i acc c : Nat) (hi : i ≤ 9) (ha : acc < 128 ^ i) (h9 : i = 9 → c % 128 ≤ 1) :
    bits .or .u64 (acc : Int) (IntKind.u64.wrap ((c : Int) % 128 * 2 ^ (7 * i))) = ((acc + c % 128 * 128 ^ i : Nat) : Int) := by
  have e : (c : Int) % 128 * 2 ^ (7 * i) = ((c % 128 * 128 ^ i : Nat) : Int) := by
    rw [← two_pow_7]
    push_cast
    rfl
  have hx : c % 128 < 128 := Nat.mod_lt _ (by decide)
  have hp : 128 ^ i ≤ 128 ^ 9 := Nat.pow_le_pow_right (by decide) hi
  have hb : c % 128 * 128 ^ i < 18446744073709551616 := by
    by_cases h : i = 9
    · subst h
      have := h9 rfl
      have : c % 128 * 128 ^ 9 ≤ 1 * 128 ^ 9 := Nat.mul_le_mul_right _ this
      omega
    · have hp8 : 128 ^ i ≤ 128 ^ 8 := Nat.pow_le_pow_right (by decide) (by omega)
      have : c % 128 * 128 ^ i ≤ 127 * 128 ^ 8 := Nat.mul_le_mul (by omega) hp8
      omega
  rw [e, IntKind.wrap_u64, Int.emod_eq_of_lt (by omega) (by omega), bits_or_u64_nat acc _ (by omega) hb]
  congr 1
  have h1 := Nat.shiftLeft_add_eq_or_of_lt (b := acc) (i := 7 * i) (by rw [two_pow_7]; exact ha) (c % 128)
  rw [Nat.shiftLeft_eq, two_pow_7] at h1
  rw [Nat.or_comm, ← h1, Nat.add_comm]

theorem or_zero : bits .or .u64 0 (IntKind.u64.wrap 0) = 0 := by kernel_rfl

theorem acc_next (i acc c : Nat) (ha : acc < 128 ^ i) : acc + c % 128 * 128 ^ i < 128 ^ (i + 1) := by
  have hx : c % 128 < 128 := Nat.mod_lt _ (by decide)
  have : c % 128 * 128 ^ i ≤ 127 * 128 ^ i := Nat.mul_le_mul_right _ (by omega)
  rw [Nat.pow_succ]
  omega

set_option maxHeartbeats 4000000 in
theorem first_of (n₀ : Nat) (l : List Nat) (v : Value) (w : World) (hB : Bs n₀ w v l) (hl : ∀ c ∈ l, c < 256) :
    Calls Try.prog 39 #[v] w fun e w' => e = .returned (rdV (rd 10 0 0 l)) ∧ w' = w := by
  obtain ⟨ao, cap, rfl, h2, h3, h4, h5⟩ := id hB
  have hm : l.length ≤ 9223372036854775807 := by unfold maxLen at h3; omega
  go_enter Try.func39, Try.ntmps39
  go_wp2
  go_loopg [2, 8] l.length (fun g s2 s8 wr => ∃ i acc : Nat, i + g = l.length ∧ s8 = .int .i64 (i : Int) ∧ s2 = .int .u64 (acc : Int) ∧ i ≤ 9 ∧ acc < 128 ^ i ∧ Hid (rd 10 0 0 l = rd (10 - i) i acc (l.drop i)) ∧ wr = w)
  case atStart => exact ⟨0, 0, by simp, rfl, rfl, by omega, by simp, rfl, rfl⟩
  case round =>
    obtain ⟨i, acc, hi, rfl, rfl, hi9, hacc, E, rfl⟩ := hrel
    by_cases hlt : i < l.length
    · obtain ⟨b, off, rfl, hb, hc⟩ := h5 (by rintro rfl; simp at hlt)
      have hcell := hc i l[i] (List.getElem?_eq_getElem hlt)
      have hc256 := hl l[i] (List.getElem_mem hlt)
      have hdr : l.drop i = l[i] :: l.drop (i + 1) := List.drop_eq_getElem_cons hlt
      generalize l[i] = c at hcell hc256 hdr
      have hlti : (i : Int) < (l.length : Int) := by omega
      have E1 : Hid (rd 10 0 0 l = if i = 9 ∧ 1 < c % 128 then none else if c < 128 then (if c = 0 ∧ 0 < i then none else some (acc + c * 128 ^ i, i + 1)) else rd (10 - (i + 1)) (i + 1) (acc + (c % 128) * 128 ^ i) (l.drop (i + 1))) := by
        show _ = _
        rw [E.out, hdr, rd_step i acc c _ hi9]
      clear E hc h5 hl hdr h4 hB
      by_cases h9 : i = 9 ∧ 1 < c
      · obtain ⟨rfl, h1⟩ := h9
        have hc1 : ¬ (c : Int) ≤ 1 := by omega
        have E' : Hid (rd 10 0 0 l = none) := by
          show _ = _
          rw [E1.out]
          by_cases h : 1 < c % 128
          · rw [if_pos ⟨rfl, h⟩]
          · rw [if_neg (fun h' => h h'.2), if_neg (by omega)]
            rfl
        clear E1
        go_wp2
        go_ret2
        exact ⟨by rw [E'.out]; rfl, rfl⟩
      · by_cases hc128 : c < 128
        · by_cases hz : c = 0
          · subst hz
            by_cases hi0 : i = 0
            · subst hi0
              obtain rfl : acc = 0 := by simpa using hacc
              have E' : Hid (rd 10 0 0 l = some (0, 1)) := by show _ = _; rw [E1.out]; rfl
              have q0 := or_zero
              rw [Nat.add_zero] at hcell
              clear E1
              go_wp2
              go_ret2
              exact ⟨by rw [E'.out]; rfl, rfl⟩
            · have hi1 : 0 < i := by omega
              have E' : Hid (rd 10 0 0 l = none) := by
                show _ = _
                rw [E1.out, if_neg (by omega), if_pos (by omega), if_pos ⟨rfl, hi1⟩]
              clear E1
              go_wp2
              all_goals go_ret2
              all_goals exact ⟨by rw [E'.out]; rfl, rfl⟩
          · have E' : Hid (rd 10 0 0 l = some (acc + c % 128 * 128 ^ i, i + 1)) := by
              show _ = _
              rw [E1.out, if_neg (by omega), if_pos hc128, if_neg (fun h => hz h.1), Nat.mod_eq_of_lt hc128]
            have qd := or_digit i acc c hi9 hacc (by omega)
            clear E1
            by_cases h8 : i = 9
            · subst h8
              obtain rfl : c = 1 := by omega
              have qe : bits .or .u64 (acc : Int) 9223372036854775808 = ((acc + 9223372036854775808 : Nat) : Int) := qd
              clear qd
              go_wp2
              go_ret2
              exact ⟨by rw [E'.out]; rfl, rfl⟩
            · have hi8 : ¬ (i : Int) = 9 := by omega
              go_wp2
              go_ret2
              exact ⟨by rw [E'.out]; rfl, rfl⟩
        · have hi8 : ¬ (i : Int) = 9 := by omega
          have hz : ¬ c = 0 := by omega
          have E' : Hid (rd 10 0 0 l = rd (10 - (i + 1)) (i + 1) (acc + (c % 128) * 128 ^ i) (l.drop (i + 1))) := by
            show _ = _
            rw [E1.out, if_neg (by omega), if_neg hc128]
          have qd := or_digit i acc c hi9 hacc (by omega)
          have hacc' := acc_next i acc c hacc
          clear E1
          go_wp2
          all_goals go_roundg (gk - 1)
          case measure => omega
          case rel => exact ⟨i + 1, acc + c % 128 * 128 ^ i, by omega, by go_num, by go_num, by omega, hacc', E', rfl⟩
    · have hlti : ¬ (i : Int) < (l.length : Int) := by omega
      have E' : Hid (rd 10 0 0 l = none) := by
        show _ = _
        rw [E.out, List.drop_eq_nil_of_le (by omega), rd_end]
      clear E h5 hl h4 hB
      go_wp2
      go_ret2
      exact ⟨by rw [E'.out]; rfl, rfl⟩
end Go.Proofs.Ytghhijliamnmiaa.Wi

