import Derived.Test.YtghhijliamnmiaaHo18
import Derived.Test.YtghhijliamnmiaaHo20
import Derived.Test.YtghhijliamnmiaaHo21
/- The contracts of the document's ReadUvarint, ReadVarint and ReadFixed: they tell, and leave, what the program's readers do. -/
namespace Go.Proofs.Ytghhijliamnmiaa.Wi
open Go.RowKit WireMath
set_option maxRecDepth 100000
set_option linter.unusedSimpArgs false

theorem uv_none {l : List Nat} {a b : Nat} (h : rd 10 0 0 (src l a b) = none) : uvN l a b = 0 ∧ uvA l a b = a ∧ uvE l a b = wb b 5 := by
  refine ⟨by simp [uvN, h], by simp [uvA, h], by simp [uvE, h]⟩
theorem uv_some {l : List Nat} {a b n k : Nat} (h : rd 10 0 0 (src l a b) = some (n, k)) : uvN l a b = n ∧ uvA l a b = a + k ∧ uvE l a b = b := by
  refine ⟨by simp [uvN, h], by simp [uvA, h], by simp [uvE, h]⟩

set_option maxHeartbeats 4000000 in
theorem ruv_of (n₀ r : Nat) (l : List Nat) (a b : Nat) (w : World) (h : Rr n₀ w r l a b) (hl : ∀ c ∈ l, c < 256) :
    Calls Try.prog 29 #[.pointer (some ⟨r, 0, none⟩)] w fun e w' => e = .returned (.int .u64 (uvN l a b : Int)) ∧ Rr n₀ w' r l (uvA l a b) (uvE l a b) ∧ Kp r w w' := by
  obtain ⟨sv, h1, h2, h3, h4⟩ := id h
  have hm : l.length ≤ 9223372036854775807 := by obtain ⟨ao, cap, _, g2, g3, _⟩ := h2; unfold maxLen at g3; omega
  have c1 : w.cell? ⟨r, 1, none⟩ = some (.int .i64 (a : Int)) := by rw [cells_of_block h1]; rfl
  clear h1 h2
  have hu0 := @uv_none l a b
  have hu1 := @uv_some l a b
  generalize uvN l a b = N at *
  generalize uvA l a b = A at *
  generalize uvE l a b = E at *
  have hu0' : Hid (rd 10 0 0 (src l a b) = none → N = 0 ∧ A = a ∧ E = wb b 5) := hu0
  have hu1' : Hid (∀ n k, rd 10 0 0 (src l a b) = some (n, k) → N = n ∧ A = a + k ∧ E = b) := fun n k => hu1
  clear hu0 hu1
  go_enter Try.func29, Try.ntmps29
  go_wp2
  go_loopg [4, 5] 10 (fun g s3 s4 wr => ∃ i acc : Nat, i + g = 10 ∧ s4 = .int .i64 (i : Int) ∧ s3 = .int .u64 (acc : Int) ∧ acc < 128 ^ i ∧ Hid (rd 10 0 0 (src l a b) = rd (10 - i) i acc (src l (a + i) b)) ∧ (i = 0 ∨ b = 0) ∧ Rr n₀ wr r l (a + i) b ∧ Kp r w wr)
  case atStart => exact ⟨0, 0, by simp, rfl, rfl, by simp, rfl, .inl rfl, h, Kp.refl _ _⟩
  case round =>
    obtain ⟨i, acc, hi, rfl, rfl, hacc, E1, hib, hR, hK⟩ := hrel
    have bad : Hid (∀ W a', rd 10 0 0 (src l a b) = none → Rr n₀ W r l a' b → (b = 0 ∨ a' = a) → Calls Try.prog 38 #[.pointer (some ⟨r, 0, none⟩), .int .i64 5, .int .i64 (a : Int)] W fun e w' => e = .returned (.tuple #[]) ∧ (N = 0 ∧ Rr n₀ w' r l A E) ∧ Kp r W w') := by
      intro W a' hn hR' hab
      obtain ⟨e1, e2, e3⟩ := hu0'.out hn
      refine (wrong_of n₀ r l a' b 5 a W hR' h3).mono ?_
      rintro e w' ⟨he, hr, hk⟩
      refine ⟨he, ⟨e1, ?_⟩, hk⟩
      rw [e2, e3]
      rcases hab with rfl | rfl
      · exact hr
      · simpa using hr
    by_cases hlt : i < 10
    · have hlti : (i : Int) < 10 := by omega
      cases hs : src l (a + i) b with
      | nil =>
        rw [hs, rd_end] at E1
        have hn := next_none n₀ r l (a + i) b wr hR hs
        clear hs
        go_wp2_with fail
        refine hn.mono ?_
        rintro e w1 ⟨rfl, hb1⟩
        have hw := bad.out w1 (a + i) E1.out (hR.below hb1) (by omega)
        go_wp2_with fail
        refine hw.mono ?_
        rintro e w2 ⟨rfl, ⟨rfl, hR2⟩, hk2⟩
        go_wp2
        go_ret
        exact ⟨rfl, hR2, (hK.trans (Kp.of_below hb1)).trans hk2⟩
      | cons c t =>
        have hn := next_some n₀ r l (a + i) b c t wr hR hs
        obtain ⟨rfl, hal, hc, rfl⟩ := src_ne hs
        have hc256 := hl c (List.mem_of_getElem? hc)
        rw [hs] at E1
        have E2 := E1.out
        rw [rd_step i acc c _ (by omega)] at E2
        have E3 : Hid (rd 10 0 0 (src l a 0) = _) := E2
        clear E1 E2 hs hc hl
        go_wp2_with fail
        refine hn.mono ?_
        rintro e w1 ⟨rfl, hR1, hk1⟩
        clear hn
        have qc : IntKind.u64.wrap ((c : Int) % 128) = (c : Int) % 128 := by rw [IntKind.wrap_u64]; omega
        by_cases h9 : i = 9 ∧ 1 < c % 128
        · have hw := bad.out w1 (a + i + 1) (by rw [E3.out, if_pos h9]) hR1 (by simp)
          obtain ⟨rfl, h91⟩ := h9
          have h92 : ¬ (c : Int) % 128 ≤ 1 := by omega
          clear E3 bad
          go_wp2_with fail
          refine hw.mono ?_
          rintro e w2 ⟨rfl, ⟨rfl, hR2⟩, hk2⟩
          go_wp2
          go_ret
          exact ⟨rfl, hR2, (hK.trans hk1).trans hk2⟩
        · have qd := or_digit i acc c (by omega) hacc (by omega)
          have hacc' := acc_next i acc c hacc
          by_cases hc128 : c < 128
          · by_cases hz : c = 0 ∧ 0 < i
            · have hw := bad.out w1 (a + i + 1) (by rw [E3.out, if_neg h9, if_pos hc128, if_pos hz]) hR1 (by simp)
              obtain ⟨rfl, hz1⟩ := hz
              clear E3 bad qc qd h9
              rcases Nat.lt_or_ge i 9 with hi9 | hi9
              · have hi8 : ¬ (i : Int) = 9 := by omega
                go_wp2_with fail
                refine hw.mono ?_
                rintro e w2 ⟨rfl, ⟨rfl, hR2⟩, hk2⟩
                go_wp2
                go_ret
                exact ⟨rfl, hR2, (hK.trans hk1).trans hk2⟩
              · obtain rfl : i = 9 := by omega
                go_wp2_with fail
                refine hw.mono ?_
                rintro e w2 ⟨rfl, ⟨rfl, hR2⟩, hk2⟩
                go_wp2
                go_ret
                exact ⟨rfl, hR2, (hK.trans hk1).trans hk2⟩
            · obtain ⟨e1, e2, e3⟩ := hu1'.out (acc + c % 128 * 128 ^ i) (i + 1) (by rw [E3.out, if_neg h9, if_pos hc128, if_neg hz, Nat.mod_eq_of_lt hc128])
              have hR2 : Rr n₀ w1 r l A E := by rw [e2, e3]; exact hR1
              have e1' : Hid (N = acc + c % 128 * 128 ^ i) := e1
              clear E3 bad hu1' hu0' e1 e2 e3
              by_cases hc0 : c = 0
              · obtain rfl : i = 0 := by omega
                subst hc0
                obtain rfl : acc = 0 := by simpa using hacc
                have q0 := or_zero
                clear qd qc h9 hz
                go_wp2
                go_ret
                exact ⟨by rw [e1'.out]; rfl, hR2, hK.trans hk1⟩
              · rcases Nat.lt_or_ge i 9 with hi9 | hi9
                · have hi8 : ¬ (i : Int) = 9 := by omega
                  clear h9 hz
                  go_wp2
                  go_ret
                  exact ⟨by rw [e1'.out]; rfl, hR2, hK.trans hk1⟩
                · obtain rfl : i = 9 := by omega
                  obtain rfl : c = 1 := by omega
                  have qe : bits .or .u64 (acc : Int) 9223372036854775808 = ((acc + 9223372036854775808 : Nat) : Int) := qd
                  clear qd qc h9 hz
                  go_wp2
                  go_ret
                  exact ⟨by rw [e1'.out]; rfl, hR2, hK.trans hk1⟩
          · have hz : ¬ c = 0 := by omega
            have E' : Hid (rd 10 0 0 (src l a 0) = rd (10 - (i + 1)) (i + 1) (acc + (c % 128) * 128 ^ i) (src l (a + i + 1) 0)) := by
              show _ = _
              rw [E3.out, if_neg h9, if_neg hc128]
            clear E3 bad
            rcases Nat.lt_or_ge i 9 with hi9 | hi9
            · have hi8 : ¬ (i : Int) = 9 := by omega
              clear h9
              go_wp2
              all_goals go_roundg (gk - 1)
              case measure => omega
              case rel => exact ⟨i + 1, acc + c % 128 * 128 ^ i, by omega, by go_num, by go_num, hacc', E', by simp, hR1, hK.trans hk1⟩
            · obtain rfl : i = 9 := by omega
              have h92 : (c : Int) % 128 ≤ 1 := by omega
              have qe : bits .or .u64 (acc : Int) ((c : Int) % 128 * 9223372036854775808) = ((acc + c % 128 * 9223372036854775808 : Nat) : Int) := by
                rw [show (2 : Int) ^ (7 * 9) = 9223372036854775808 from rfl, IntKind.wrap_u64, Int.emod_eq_of_lt (by omega) (by omega)] at qd
                exact qd
              clear h9 qd
              go_wp2
              all_goals go_roundg (gk - 1)
              case measure => omega
              case rel => exact ⟨10, acc + c % 128 * 128 ^ 9, by omega, by go_num, by go_num, hacc', E', by simp, hR1, hK.trans hk1⟩
    · have hlti : ¬ (i : Int) < 10 := by omega
      have hw := bad.out wr (a + i) (by rw [E1.out, show 10 - i = 0 by omega]; rfl) hR (by omega)
      clear E1 bad
      go_wp2_with fail
      refine hw.mono ?_
      rintro e w2 ⟨rfl, ⟨rfl, hR2⟩, hk2⟩
      go_wp2
      go_ret
      exact ⟨rfl, hR2, hK.trans hk2⟩

end Go.Proofs.Ytghhijliamnmiaa.Wi

