import Derived.Test.YtljfhafmedngnaaGreatDoorP46
import Derived.Test.YtljfhafmedngnaaGreatDoorP06
import Derived.Test.YtljfhafmedngnaaGreatDoorP15
import Derived.Deep.RegionHeld
/- The contracts of the document's ReadUvarint, ReadVarint and ReadFixed: they tell, and leave, what the program's readers do. -/
namespace Go.Proofs.YtljfhafmedngnaaGreatDoor.Fr
open Go.RowKit WireMath
set_option maxRecDepth 100000
set_option linter.unusedSimpArgs false

theorem src_drop {l : List Nat} {a i : Nat} : (src l a 0).drop i = src l (a + i) 0 := by
  simp [src, List.drop_drop]

theorem uv_none {l : List Nat} {a b : Nat} (h : rd 10 0 0 (src l a b) = none) : uvN l a b = 0 ∧ uvA l a b = a ∧ uvE l a b = wb b 5 := by
  refine ⟨by simp [uvN, h], by simp [uvA, h], by simp [uvE, h]⟩
theorem uv_some {l : List Nat} {a b n k : Nat} (h : rd 10 0 0 (src l a b) = some (n, k)) : uvN l a b = n ∧ uvA l a b = a + k ∧ uvE l a b = b := by
  refine ⟨by simp [uvN, h], by simp [uvA, h], by simp [uvE, h]⟩

/-- Where nothing is read behind what was wrong. -/
theorem rd_bad {l : List Nat} {a b : Nat} (hb : b ≠ 0) : rd 10 0 0 (src l a b) = none := by
  have : src l a b = [] := by unfold src; rw [if_neg hb]
  rw [this]; rfl

set_option maxHeartbeats 4000000 in
theorem ruv_of (n₀ r : Nat) (l : List Nat) (a b : Nat) (w : World) (h : Rr n₀ w r l a b) (hl : ∀ c ∈ l, c < 256) :
    Calls Tryz.prog 103 #[.pointer (some ⟨r, 0, none⟩)] w fun e w' => e = .returned (.int .u64 (uvN l a b : Int)) ∧ Rr n₀ w' r l (uvA l a b) (uvE l a b) ∧ Kp r w w' := by
  obtain ⟨sv, h1, h2, h3, h4⟩ := id h
  have hm : l.length ≤ 9223372036854775807 := by obtain ⟨ao, cap, _, g2, g3, _⟩ := h2; unfold maxLen at g3; omega
  have c1 : w.cell? ⟨r, 1, none⟩ = some (.int .i64 (a : Int)) := by rw [cells_of_block h1]; rfl
  clear h1 h2
  have hu0 := @uv_none l a b
  have hu1 := @uv_some l a b
  generalize uvN l a b = N at *
  generalize uvA l a b = A at *
  generalize uvE l a b = E at *
  have hu0' : Hid (rd 10 0 0 (src l a b) = none → N = 0 ∧ A = a ∧ E = wb b 5) := hu0
  have hu1' : Hid (∀ n k, rd 10 0 0 (src l a b) = some (n, k) → N = n ∧ A = a + k ∧ E = b) := fun n k => hu1
  clear hu0 hu1
  go_enter Tryz.func103, Tryz.ntmps103
  go_wp2
  go_loopg [4, 5] 10 (fun g s3 s4 wr => ∃ i acc : Nat, i + g = 10 ∧ s4 = .int .i64 (i : Int) ∧ s3 = .int .u64 (acc : Int) ∧ acc < 128 ^ i ∧ Hid (rd 10 0 0 (src l a b) = rd (10 - i) i acc (src l (a + i) b)) ∧ (i = 0 ∨ b = 0) ∧ Rr n₀ wr r l (a + i) b ∧ Kp r w wr)
  case atStart => exact ⟨0, 0, by simp, rfl, rfl, by simp, rfl, .inl rfl, h, Kp.refl _ _⟩
  case round =>
    obtain ⟨i, acc, hi, rfl, rfl, hacc, E1, hib, hR, hK⟩ := hrel
    have bad : Hid (∀ W a', rd 10 0 0 (src l a b) = none → Rr n₀ W r l a' b → (b = 0 ∨ a' = a) → Calls Tryz.prog 124 #[.pointer (some ⟨r, 0, none⟩), .int .i64 5, .int .i64 (a : Int)] W fun e w' => e = .returned (.tuple #[]) ∧ (N = 0 ∧ Rr n₀ w' r l A E) ∧ Kp r W w') := by
      intro W a' hn hR' hab
      obtain ⟨e1, e2, e3⟩ := hu0'.out hn
      refine (wrong_of n₀ r l a' b 5 a W hR' h3).mono ?_
      rintro e w' ⟨he, hr, hk⟩
      refine ⟨he, ⟨e1, ?_⟩, hk⟩
      rw [e2, e3]
      rcases hab with rfl | rfl
      · exact hr
      · simpa using hr
    by_cases hlt : i < 10
    · have hlti : (i : Int) < 10 := by omega
      cases hs : src l (a + i) b with
      | nil =>
        rw [hs, rd_end] at E1
        have hn := next_none n₀ r l (a + i) b wr hR hs
        clear hs
        go_wp2_with fail
        refine hn.mono ?_
        rintro e w1 ⟨rfl, hb1⟩
        have hw := bad.out w1 (a + i) E1.out (hR.below hb1) (by omega)
        go_wp2_with fail
        refine hw.mono ?_
        rintro e w2 ⟨rfl, ⟨rfl, hR2⟩, hk2⟩
        go_wp2
        go_ret
        exact ⟨rfl, hR2, (hK.trans (Kp.of_below hb1)).trans hk2⟩
      | cons c t =>
        have hn := next_some n₀ r l (a + i) b c t wr hR hs
        obtain ⟨rfl, hal, hc, rfl⟩ := src_ne hs
        have hc256 := hl c (List.mem_of_getElem? hc)
        rw [hs] at E1
        have E2 := E1.out
        rw [rd_step i acc c _ (by omega)] at E2
        have E3 : Hid (rd 10 0 0 (src l a 0) = _) := E2
        clear E1 E2 hs hc hl
        go_wp2_with fail
        refine hn.mono ?_
        rintro e w1 ⟨rfl, hR1, hk1⟩
        clear hn
        have qc : IntKind.u64.wrap ((c : Int) % 128) = (c : Int) % 128 := by rw [IntKind.wrap_u64]; omega
        by_cases h9 : i = 9 ∧ 1 < c % 128
        · have hw := bad.out w1 (a + i + 1) (by rw [E3.out, if_pos h9]) hR1 (by simp)
          obtain ⟨rfl, h91⟩ := h9
          have h92 : ¬ (c : Int) % 128 ≤ 1 := by omega
          clear E3 bad
          go_wp2_with fail
          refine hw.mono ?_
          rintro e w2 ⟨rfl, ⟨rfl, hR2⟩, hk2⟩
          go_wp2
          go_ret
          exact ⟨rfl, hR2, (hK.trans hk1).trans hk2⟩
        · have qd := or_digit i acc c (by omega) hacc (by omega)
          have hacc' := acc_next i acc c hacc
          by_cases hc128 : c < 128
          · by_cases hz : c = 0 ∧ 0 < i
            · have hw := bad.out w1 (a + i + 1) (by rw [E3.out, if_neg h9, if_pos hc128, if_pos hz]) hR1 (by simp)
              obtain ⟨rfl, hz1⟩ := hz
              clear E3 bad qc qd h9
              rcases Nat.lt_or_ge i 9 with hi9 | hi9
              · have hi8 : ¬ (i : Int) = 9 := by omega
                go_wp2_with fail
                refine hw.mono ?_
                rintro e w2 ⟨rfl, ⟨rfl, hR2⟩, hk2⟩
                go_wp2
                go_ret
                exact ⟨rfl, hR2, (hK.trans hk1).trans hk2⟩
              · obtain rfl : i = 9 := by omega
                go_wp2_with fail
                refine hw.mono ?_
                rintro e w2 ⟨rfl, ⟨rfl, hR2⟩, hk2⟩
                go_wp2
                go_ret
                exact ⟨rfl, hR2, (hK.trans hk1).trans hk2⟩
            · obtain ⟨e1, e2, e3⟩ := hu1'.out (acc + c % 128 * 128 ^ i) (i + 1) (by rw [E3.out, if_neg h9, if_pos hc128, if_neg hz, Nat.mod_eq_of_lt hc128])
              have hR2 : Rr n₀ w1 r l A E := by rw [e2, e3]; exact hR1
              have e1' : Hid (N = acc + c % 128 * 128 ^ i) := e1
              clear E3 bad hu1' hu0' e1 e2 e3
              by_cases hc0 : c = 0
              · obtain rfl : i = 0 := by omega
                subst hc0
                obtain rfl : acc = 0 := by simpa using hacc
                have q0 := or_zero
                clear qd qc h9 hz
                go_wp2
                go_ret
                exact ⟨by rw [e1'.out]; rfl, hR2, hK.trans hk1⟩
              · rcases Nat.lt_or_ge i 9 with hi9 | hi9
                · have hi8 : ¬ (i : Int) = 9 := by omega
                  clear h9 hz
                  go_wp2
                  go_ret
                  exact ⟨by rw [e1'.out]; rfl, hR2, hK.trans hk1⟩
                · obtain rfl : i = 9 := by omega
                  obtain rfl : c = 1 := by omega
                  have qe : bits .or .u64 (acc : Int) 9223372036854775808 = ((acc + 9223372036854775808 : Nat) : Int) := qd
                  clear qd qc h9 hz
                  go_wp2
                  go_ret
                  exact ⟨by rw [e1'.out]; rfl, hR2, hK.trans hk1⟩
          · have hz : ¬ c = 0 := by omega
            have E' : Hid (rd 10 0 0 (src l a 0) = rd (10 - (i + 1)) (i + 1) (acc + (c % 128) * 128 ^ i) (src l (a + i + 1) 0)) := by
              show _ = _
              rw [E3.out, if_neg h9, if_neg hc128]
            clear E3 bad
            rcases Nat.lt_or_ge i 9 with hi9 | hi9
            · have hi8 : ¬ (i : Int) = 9 := by omega
              clear h9
              go_wp2
              all_goals go_roundg (gk - 1)
              case measure => omega
              case rel => exact ⟨i + 1, acc + c % 128 * 128 ^ i, by omega, by go_num, by go_num, hacc', E', by simp, hR1, hK.trans hk1⟩
            · obtain rfl : i = 9 := by omega
              have h92 : (c : Int) % 128 ≤ 1 := by omega
              have qe : bits .or .u64 (acc : Int) ((c : Int) % 128 * 9223372036854775808) = ((acc + c % 128 * 9223372036854775808 : Nat) : Int) := by
                rw [show (2 : Int) ^ (7 * 9) = 9223372036854775808 from rfl, IntKind.wrap_u64, Int.emod_eq_of_lt (by omega) (by omega)] at qd
                exact qd
              clear h9 qd
              go_wp2
              all_goals go_roundg (gk - 1)
              case measure => omega
              case rel => exact ⟨10, acc + c % 128 * 128 ^ 9, by omega, by go_num, by go_num, hacc', E', by simp, hR1, hK.trans hk1⟩
    · have hlti : ¬ (i : Int) < 10 := by omega
      have hw := bad.out wr (a + i) (by rw [E1.out, show 10 - i = 0 by omega]; rfl) hR (by omega)
      clear E1 bad
      go_wp2_with fail
      refine hw.mono ?_
      rintro e w2 ⟨rfl, ⟨rfl, hR2⟩, hk2⟩
      go_wp2
      go_ret
      exact ⟨rfl, hR2, hK.trans hk2⟩
end Go.Proofs.YtljfhafmedngnaaGreatDoor.Fr

/- The contracts of the document's own value, open and Next: the frame at the beginning of bytes as the program finds it; what lay in memory before stays as it was. -/
namespace Go.Proofs.YtljfhafmedngnaaGreatDoor.Fr
open Go.RowKit WireMath CrcMath FrameMath
set_option maxRecDepth 100000
set_option linter.unusedSimpArgs false

set_option maxHeartbeats 2000000 in
theorem value_of (n₀ : Nat) (l : List Nat) (v : Value) (w : World) (hB : Bs n₀ w v l) (hl : ∀ c ∈ l, c < 256) (hn₀ : n₀ ≤ w.heap.size) :
    Calls Tryz.prog 121 #[v] w fun e w' => e = .returned (.tuple #[.int .u64 (((rd 10 0 0 l).getD (0, 0)).1 : Int), .bool (decide (uv ((rd 10 0 0 l).getD (0, 0)).1 = l))]) ∧ Below w.heap.size w w' := by
  have hb1 := (Below.refl w.heap.size w).alloc (Nat.le_refl _) (.cells #[v, .int .i64 0, .int .i64 0] 161)
  have hB1 := hB.below (hb1.mono hn₀)
  have hR : Rr n₀ (w.alloc (.cells #[v, .int .i64 0, .int .i64 0] 161)) w.heap.size l 0 0 := ⟨v, heap_alloc_new w _, hB1, Nat.zero_le _, hn₀⟩
  have hu := ruv_of n₀ w.heap.size l 0 0 _ hR hl
  have hN : uvN l 0 0 = ((rd 10 0 0 l).getD (0, 0)).1 := rfl
  have hNlt := uvN_lt (a := 0) (b := 0) hl
  rw [hN] at hu hNlt
  generalize ((rd 10 0 0 l).getD (0, 0)).1 = N at *
  have hub : ∀ c ∈ uv N, c < 256 := uv_bytes N
  obtain ⟨ao, cap, rfl, -⟩ := id hB
  obtain ⟨B, HB⟩ : ∃ B, Hid (B = decide (uv N = l)) := ⟨_, rfl⟩
  rw [← HB.out]
  clear hR hN
  go_enter Tryz.func121, Tryz.ntmps121
  go_wp2_with fail
  refine hu.mono ?_
  rintro e w2 ⟨rfl, -, hk2⟩
  have hbel2 : Below w.heap.size w w2 := hb1.trans (hk2.below (Nat.le_refl _) hb1.size)
  have hB2 := hB.below (hbel2.mono hn₀)
  clear hu hk2 hB1 hB hb1
  have hd2 : Below w2.heap.size w2 w2.drew := (Below.refl _ _).drew
  have ku := refUvarint_of N w2.drew hNlt
  have hS : ∀ w', Below w2.heap.size w2 w' → (convert 32 9 (.slice ao l.length cap)).run Tryz.prog w' = .ok (.string (str l)) w' := fun w' hb => str_of (hB2.below (hb.mono (Nat.le_trans hn₀ hbel2.size))) hl
  by_cases he : uv N = l
  · have HE : Hid (B = true) := HB.out.trans (decide_eq_true he)
    rw [he] at ku hub
    clear he HB
    go_wp2
    go_region_held (fun w' => (convert 32 9 (.slice ao l.length cap)).run Tryz.prog w' = .ok (.string (str l)) w')
      (first | go_keep | exact x4 | exact hS _ hd2)
      (first | (go_at_call 61; refine ku.mono ?_; rintro e w4 ⟨v4, rfl, hO4, hb4⟩; have hbel4 := hd2.trans hb4; have x4 := hS _ hbel4; have c4 := str_of hO4.bs hl))
    go_wp2
    go_ret2
    exact ⟨by rw [HE.out]; rfl, hbel2.trans (hbel4.mono hbel2.size)⟩
  · have HE : Hid (B = false) := HB.out.trans (decide_eq_false he)
    have hst := str_ne hub hl he
    have hst2 : ¬ (str (uv N)).toList = (str l).toList := fun h => by rw [h] at hst; simp at hst
    clear HB
    generalize uv N = U at *
    go_wp2
    go_region_held (fun w' => (convert 32 9 (.slice ao l.length cap)).run Tryz.prog w' = .ok (.string (str l)) w')
      (first | go_keep | exact x4 | exact hS _ hd2)
      (first | (go_at_call 61; refine ku.mono ?_; rintro e w4 ⟨v4, rfl, hO4, hb4⟩; have hbel4 := hd2.trans hb4; have x4 := hS _ hbel4; have c4 := str_of hO4.bs hub))
    go_wp2
    go_ret2
    exact ⟨by rw [HE.out]; rfl, hbel2.trans (hbel4.mono hbel2.size)⟩

theorem refOpen_of (n₀ : Nat) (l : List Nat) (v : Value) (w : World) (hB : Bs n₀ w v l) :
    Calls Tryz.prog 122 #[v] w fun e w' => e = .returned (.bool (openB l)) ∧ w' = w := by
  obtain ⟨ao, cap, rfl, h2, h3, h4, h5⟩ := id hB
  have hm : l.length ≤ 9223372036854775807 := by unfold maxLen at h3; omega
  by_cases h2l : 2 < l.length
  · have i2 : (2 : Int) < (l.length : Int) := by omega
    have E' : Hid (openB l = false) := by
      show _ = _
      unfold openB
      rw [decide_eq_false (by omega)]
      rfl
    clear hB h5
    go_enter Tryz.func122, Tryz.ntmps122
    go_wp2
    go_ret
    exact ⟨by rw [E'.out]; rfl, rfl⟩
  have i2 : ¬ (2 : Int) < (l.length : Int) := by omega
  have hop : openB l = l.all fun c => decide (128 ≤ c) := by
    unfold openB
    rw [decide_eq_true (by omega), Bool.true_and]
  rw [hop]
  go_enter Tryz.func122, Tryz.ntmps122
  go_wp2
  go_loopg [3] l.length (fun g s3 wr => ∃ i : Nat, i + g = l.length ∧ s3 = .int .i64 (i : Int) ∧ Hid (∀ j c, j < i → l[j]? = some c → 128 ≤ c) ∧ wr = w)
  case atStart => exact ⟨0, by simp, rfl, fun _ _ h => by omega, rfl⟩
  case round =>
    obtain ⟨i, hi, rfl, E, rfl⟩ := hrel
    by_cases hlt : i < l.length
    · obtain ⟨b, off, rfl, hb, hc⟩ := h5 (by rintro rfl; simp at hlt)
      have hg : l[i]? = some l[i] := List.getElem?_eq_getElem hlt
      have hcell := hc i l[i] hg
      have hlti : (i : Int) < (l.length : Int) := by omega
      by_cases h128 : l[i] < 128
      · have E' : Hid ((l.all fun c => decide (128 ≤ c)) = false) := by
          show _ = _
          rw [Bool.eq_false_iff]
          intro h
          have := List.all_eq_true.1 h l[i] (List.getElem_mem hlt)
          simp only [decide_eq_true_eq] at this
          omega
        generalize l[i] = c at hcell h128
        have q : (c : Int) < 128 := by omega
        clear E hc h5 hB hg hop
        go_wp2
        go_ret
        exact ⟨by rw [E'.out]; rfl, rfl⟩
      · have E' : Hid (∀ j c, j < i + 1 → l[j]? = some c → 128 ≤ c) := by
          intro j c hj hjc
          by_cases hji : j = i
          · subst hji
            rw [hg] at hjc
            cases hjc
            omega
          · exact E.out j c (by omega) hjc
        generalize l[i] = c at hcell h128
        have q : ¬ (c : Int) < 128 := by omega
        clear E hc h5 hB hg hop
        go_wp2
        go_roundg (gk - 1)
        case measure => omega
        case rel => exact ⟨i + 1, by omega, by go_num, E', rfl⟩
    · have hlti : ¬ (i : Int) < (l.length : Int) := by omega
      have E' : Hid ((l.all fun c => decide (128 ≤ c)) = true) := by
        show _ = _
        rw [List.all_eq_true]
        intro x hx
        obtain ⟨j, hj, rfl⟩ := List.getElem_of_mem hx
        simpa using E.out j l[j] (by omega) (List.getElem?_eq_getElem hj)
      clear E h5 hB hop
      go_wp2
      go_ret
      exact ⟨by rw [E'.out]; rfl, rfl⟩
end Go.Proofs.YtljfhafmedngnaaGreatDoor.Fr

