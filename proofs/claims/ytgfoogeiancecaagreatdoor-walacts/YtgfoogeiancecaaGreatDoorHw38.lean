import Derived.Test.YtgfoogeiancecaaGreatDoorHw06
import Derived.Test.YtgfoogeiancecaaGreatDoorHw07
/- The document's own reader in its block, and the contracts of its small functions (next, wrong, Done). -/
namespace Go.Proofs.YtgfoogeiancecaaGreatDoor.Fr
open Go.RowKit WireMath
set_option maxRecDepth 100000
set_option linter.unusedSimpArgs false

/-- The document's reader in block r: bytes (below block n₀), a place, what was wrong. -/
def Rr (n₀ : Nat) (w : World) (r : Nat) (l : List Nat) (at_ bad : Nat) : Prop :=
  ∃ sv, w.heap[r]? = some (.cells #[sv, .int .i64 (at_ : Int), .int .i64 (bad : Int)] 150 (0, 0)) ∧ Bs n₀ w sv l ∧ at_ ≤ l.length ∧ n₀ ≤ r

theorem Rr.lt {n₀ : Nat} {w : World} {r : Nat} {l : List Nat} {a b : Nat} (h : Rr n₀ w r l a b) : r < w.heap.size := by
  obtain ⟨sv, h1, _⟩ := h
  exact (Array.getElem?_eq_some_iff.1 h1).1
theorem Rr.below {n₀ : Nat} {w w' : World} {r : Nat} {l : List Nat} {a b : Nat} (h : Rr n₀ w r l a b) (hb : Below w.heap.size w w') : Rr n₀ w' r l a b := by
  have hq := h.lt
  obtain ⟨sv, h1, h2, h3, h4⟩ := h
  exact ⟨sv, (hb.block r hq).trans h1, h2.below (hb.mono (by omega)), h3, h4⟩
theorem Bs.kp0 {n₀ q : Nat} {w w' : World} {v : Value} {l : List Nat} (h : Bs n₀ w v l) (hk : Kp q w w') (hn : n₀ ≤ q) : Bs n₀ w' v l := by
  obtain ⟨ao, cap, rfl, h2, h3, h4, h5⟩ := h
  exact ⟨ao, cap, rfl, h2, h3, h4, fun hne => by
    obtain ⟨b, off, e1, e2, e3⟩ := h5 hne
    subst e1
    exact ⟨b, off, rfl, e2, fun j c hj => hk.cell (a := ⟨b, off + j, none⟩) (e3 j c hj) (fun e => absurd (by simpa using e : b = q) (by omega))⟩⟩
/-- The program's reader turns, the document's stays. -/
theorem Rr.kp {n₀ q : Nat} {w w' : World} {r : Nat} {l : List Nat} {a b : Nat} (h : Rr n₀ w r l a b) (hk : Kp q w w') (hn : n₀ ≤ q) (hqr : q ≠ r) : Rr n₀ w' r l a b := by
  have hr := h.lt
  obtain ⟨sv, h1, h2, h3, h4⟩ := h
  exact ⟨sv, (hk.block r hr (fun e => hqr (by simpa using e.symm))).trans h1, h2.kp0 hk hn, h3, h4⟩
/-- The document's reader turns, the program's stays. -/
theorem Rd.kp {q r : Nat} {w w' : World} {l : List Nat} {a b : Nat} (h : Rd w q l a b) (hk : Kp r w w') (hqr : q < r) : Rd w' q l a b := by
  have hq := h.lt
  obtain ⟨sv, h1, h2, h3⟩ := h
  exact ⟨sv, (hk.block q hq (fun e => by have : q = r := by simpa using e
                                         omega)).trans h1, h2.kp0 hk (Nat.le_of_lt hqr), h3⟩

theorem src_ne {l : List Nat} {a b c : Nat} {t : List Nat} (h : src l a b = c :: t) : b = 0 ∧ a < l.length ∧ l[a]? = some c ∧ t = src l (a + 1) 0 := by
  unfold src at h
  split at h
  · rename_i hb
    have hl : a < l.length := by
      rcases Nat.lt_or_ge a l.length with h1 | h1
      · exact h1
      · rw [List.drop_eq_nil_of_le h1] at h; cases h
    rw [List.drop_eq_getElem_cons hl] at h
    injection h with h1 h2
    exact ⟨hb, hl, by rw [List.getElem?_eq_getElem hl, h1], by rw [← h2]; rfl⟩
  · cases h
theorem src_nil {l : List Nat} {a b : Nat} (h : src l a b = []) : b ≠ 0 ∨ l.length ≤ a := by
  unfold src at h
  split at h
  · right; simpa using h
  · left; assumption

set_option maxHeartbeats 1000000 in
theorem next_none (n₀ r : Nat) (l : List Nat) (a b : Nat) (w : World) (h : Rr n₀ w r l a b) (hs : src l a b = []) :
    Calls Tryz.prog 110 #[.pointer (some ⟨r, 0, none⟩)] w fun e w' => e = .returned (.tuple #[.int .u8 0, .bool false]) ∧ Below w.heap.size w w' := by
  obtain ⟨sv, h1, h2, h3, h4⟩ := id h
  obtain ⟨ao, cap, rfl, g2, g3, _⟩ := h2
  have c0 : w.cell? ⟨r, 0, none⟩ = some (.slice ao l.length cap) := by rw [cells_of_block h1]; rfl
  have c1 : w.cell? ⟨r, 1, none⟩ = some (.int .i64 (a : Int)) := by rw [cells_of_block h1]; rfl
  have c2 : w.cell? ⟨r, 2, none⟩ = some (.int .i64 (b : Int)) := by rw [cells_of_block h1]; rfl
  by_cases hb : b = 0
  · subst hb
    have hal : l.length ≤ a := by rcases src_nil hs with h | h <;> simp_all
    have hal2 : (l.length : Int) ≤ (a : Int) := by omega
    clear hs
    go_enter Tryz.func110, Tryz.ntmps110
    go_wp2
    go_quiet (fail)
    go_wp2
    go_ret2
    exact ⟨rfl, below_drewN (Below.refl _ _) _⟩
  · have hb2 : ¬ (b : Int) = 0 := by omega
    have hb3 : ((b : Int) != 0) = true := by simp; omega
    clear hs
    go_enter Tryz.func110, Tryz.ntmps110
    go_wp2
    go_quiet (fail)
    go_wp2
    go_ret2
    exact ⟨rfl, below_drewN (Below.refl _ _) _⟩

theorem Rr.set_at {n₀ r : Nat} {l : List Nat} {a b : Nat} {w : World} (h : Rr n₀ w r l a b) (k : Nat) (hk : k ≤ l.length) : Rr n₀ (w.setCell ⟨r, 1, none⟩ (.int .i64 (k : Int))) r l k b := by
  obtain ⟨sv, h1, h2, h3, h4⟩ := h
  exact ⟨sv, Go.Proofs.YtgfoogeiancecaaGreatDoor.Fr.set_at h1 _, h2.kp0 (Kp.set r 1 _ _) h4, hk, h4⟩
theorem Rr.set_bad {n₀ r : Nat} {l : List Nat} {a b : Nat} {w : World} (h : Rr n₀ w r l a b) (c : Nat) : Rr n₀ (w.setCell ⟨r, 2, none⟩ (.int .i64 (c : Int))) r l a c := by
  obtain ⟨sv, h1, h2, h3, h4⟩ := h
  exact ⟨sv, Go.Proofs.YtgfoogeiancecaaGreatDoor.Fr.set_bad h1 _, h2.kp0 (Kp.set r 2 _ _) h4, h3, h4⟩
theorem Rr.drewN {n₀ r : Nat} {l : List Nat} {a b : Nat} {w : World} (h : Rr n₀ w r l a b) (k : Nat) : Rr n₀ (w.drewN k) r l a b := h.below (below_drewN (Below.refl _ _) _)

set_option maxHeartbeats 2000000 in
theorem next_some (n₀ r : Nat) (l : List Nat) (a b c : Nat) (t : List Nat) (w : World) (h : Rr n₀ w r l a b) (hs : src l a b = c :: t) :
    Calls Tryz.prog 110 #[.pointer (some ⟨r, 0, none⟩)] w fun e w' => e = .returned (.tuple #[.int .u8 (c : Int), .bool true]) ∧ Rr n₀ w' r l (a + 1) b ∧ Kp r w w' := by
  obtain ⟨rfl, hal, hc, -⟩ := src_ne hs
  clear hs
  obtain ⟨sv, h1, h2, h3, h4⟩ := id h
  obtain ⟨ao, cap, rfl, g2, g3, _, g5⟩ := id h2
  obtain ⟨bb, off, rfl, hbb, hcell⟩ := g5 (by rintro rfl; simp at hal)
  have hx := hcell a c hc
  have c0 : w.cell? ⟨r, 0, none⟩ = some (.slice (some ⟨bb, off, none⟩) l.length cap) := by rw [cells_of_block h1]; rfl
  have c1 : w.cell? ⟨r, 1, none⟩ = some (.int .i64 (a : Int)) := by rw [cells_of_block h1]; rfl
  have c2 : w.cell? ⟨r, 2, none⟩ = some (.int .i64 0) := by rw [cells_of_block h1]; rfl
  have f1 := frozen_of h1 1
  have hal2 : ¬ (l.length : Int) ≤ (a : Int) := by omega
  have hal3 : (a : Int) < (l.length : Int) := by omega
  have hm : (l.length : Int) ≤ 9223372036854775807 := by unfold maxLen at g3; omega
  have q1 : IntKind.i64.wrap ((a : Int) + 1) = (a : Int) + 1 := IntWalk.i64_in _ (by omega)
  clear g5 hcell hc
  go_enter Tryz.func110, Tryz.ntmps110
  go_wp2
  go_quiet (fail)
  have hR0 := h.drewN nq
  go_wp2
  have hR1 : Rr n₀ ((w.drewN nq).setCell ⟨r, 1, none⟩ (.int .i64 ((a : Int) + 1))) r l (a + 1) 0 := hR0.set_at (a + 1) (by omega)
  have hk1 := Kp.set r 1 (.int .i64 ((a : Int) + 1)) (w.drewN nq)
  go_quiet (fail)
  go_wp2
  go_ret2
  exact ⟨rfl, hR1.drewN _, ((Kp.of_below (below_drewN (Below.refl _ _) _)).trans hk1).trans (Kp.of_below (below_drewN (Below.refl _ _) _))⟩

set_option maxHeartbeats 1000000 in
theorem wrong_of (n₀ r : Nat) (l : List Nat) (a b c k : Nat) (w : World) (hR : Rr n₀ w r l a b) (hk : k ≤ l.length) :
    Calls Tryz.prog 111 #[.pointer (some ⟨r, 0, none⟩), .int .i64 (c : Int), .int .i64 (k : Int)] w fun e w' => e = .returned (.tuple #[]) ∧ Rr n₀ w' r l (if b = 0 then k else a) (wb b c) ∧ Kp r w w' := by
  obtain ⟨sv, h1, h2, h3, h4⟩ := id hR
  have c2 : w.cell? ⟨r, 2, none⟩ = some (.int .i64 (b : Int)) := by rw [cells_of_block h1]; rfl
  have f2 := frozen_of h1 2
  by_cases hb : b = 0
  · subst hb
    have hs := hR.set_bad c
    obtain ⟨sv', h1', _⟩ := id hs
    have f1 := frozen_of h1' 1
    have c1 : (w.setCell ⟨r, 2, none⟩ (.int .i64 (c : Int))).cell? ⟨r, 1, none⟩ = some (.int .i64 (a : Int)) := by rw [cells_of_block h1']; rfl
    go_enter Tryz.func111, Tryz.ntmps111
    go_wp2
    go_end0
    exact ⟨rfl, hs.set_at k hk, (Kp.set r 2 _ _).trans (Kp.set r 1 _ _)⟩
  · have hb2 : ¬ (b : Int) = 0 := by omega
    have hb' : ((b : Int) == 0) = false := by simp; omega
    go_enter Tryz.func111, Tryz.ntmps111
    go_wp2
    go_end0
    exact ⟨rfl, by rw [show wb b c = b by unfold wb; rw [if_neg hb]]; exact hR, Kp.refl _ _⟩
end Go.Proofs.YtgfoogeiancecaaGreatDoor.Fr

/- The contracts of the document's ReadUvarint, ReadVarint and ReadFixed: they tell, and leave, what the program's readers do. -/
namespace Go.Proofs.YtgfoogeiancecaaGreatDoor.Fr
open Go.RowKit WireMath
set_option maxRecDepth 100000
set_option linter.unusedSimpArgs false

theorem src_drop {l : List Nat} {a i : Nat} : (src l a 0).drop i = src l (a + i) 0 := by
  simp [src, List.drop_drop]

theorem uv_none {l : List Nat} {a b : Nat} (h : rd 10 0 0 (src l a b) = none) : uvN l a b = 0 ∧ uvA l a b = a ∧ uvE l a b = wb b 5 := by
  refine ⟨by simp [uvN, h], by simp [uvA, h], by simp [uvE, h]⟩
theorem uv_some {l : List Nat} {a b n k : Nat} (h : rd 10 0 0 (src l a b) = some (n, k)) : uvN l a b = n ∧ uvA l a b = a + k ∧ uvE l a b = b := by
  refine ⟨by simp [uvN, h], by simp [uvA, h], by simp [uvE, h]⟩

/-- Where nothing is read behind what was wrong. -/
theorem rd_bad {l : List Nat} {a b : Nat} (hb : b ≠ 0) : rd 10 0 0 (src l a b) = none := by
  have : src l a b = [] := by unfold src; rw [if_neg hb]
  rw [this]; rfl

set_option maxHeartbeats 4000000 in
theorem ruv_of (n₀ r : Nat) (l : List Nat) (a b : Nat) (w : World) (h : Rr n₀ w r l a b) (hl : ∀ c ∈ l, c < 256) :
    Calls Tryz.prog 90 #[.pointer (some ⟨r, 0, none⟩)] w fun e w' => e = .returned (.int .u64 (uvN l a b : Int)) ∧ Rr n₀ w' r l (uvA l a b) (uvE l a b) ∧ Kp r w w' := by
  obtain ⟨sv, h1, h2, h3, h4⟩ := id h
  have hm : l.length ≤ 9223372036854775807 := by obtain ⟨ao, cap, _, g2, g3, _⟩ := h2; unfold maxLen at g3; omega
  have c1 : w.cell? ⟨r, 1, none⟩ = some (.int .i64 (a : Int)) := by rw [cells_of_block h1]; rfl
  clear h1 h2
  have hu0 := @uv_none l a b
  have hu1 := @uv_some l a b
  generalize uvN l a b = N at *
  generalize uvA l a b = A at *
  generalize uvE l a b = E at *
  have hu0' : Hid (rd 10 0 0 (src l a b) = none → N = 0 ∧ A = a ∧ E = wb b 5) := hu0
  have hu1' : Hid (∀ n k, rd 10 0 0 (src l a b) = some (n, k) → N = n ∧ A = a + k ∧ E = b) := fun n k => hu1
  clear hu0 hu1
  go_enter Tryz.func90, Tryz.ntmps90
  go_wp2
  go_loopg [4, 5] 10 (fun g s3 s4 wr => ∃ i acc : Nat, i + g = 10 ∧ s4 = .int .i64 (i : Int) ∧ s3 = .int .u64 (acc : Int) ∧ acc < 128 ^ i ∧ Hid (rd 10 0 0 (src l a b) = rd (10 - i) i acc (src l (a + i) b)) ∧ (i = 0 ∨ b = 0) ∧ Rr n₀ wr r l (a + i) b ∧ Kp r w wr)
  case atStart => exact ⟨0, 0, by simp, rfl, rfl, by simp, rfl, .inl rfl, h, Kp.refl _ _⟩
  case round =>
    obtain ⟨i, acc, hi, rfl, rfl, hacc, E1, hib, hR, hK⟩ := hrel
    have bad : Hid (∀ W a', rd 10 0 0 (src l a b) = none → Rr n₀ W r l a' b → (b = 0 ∨ a' = a) → Calls Tryz.prog 111 #[.pointer (some ⟨r, 0, none⟩), .int .i64 5, .int .i64 (a : Int)] W fun e w' => e = .returned (.tuple #[]) ∧ (N = 0 ∧ Rr n₀ w' r l A E) ∧ Kp r W w') := by
      intro W a' hn hR' hab
      obtain ⟨e1, e2, e3⟩ := hu0'.out hn
      refine (wrong_of n₀ r l a' b 5 a W hR' h3).mono ?_
      rintro e w' ⟨he, hr, hk⟩
      refine ⟨he, ⟨e1, ?_⟩, hk⟩
      rw [e2, e3]
      rcases hab with rfl | rfl
      · exact hr
      · simpa using hr
    by_cases hlt : i < 10
    · have hlti : (i : Int) < 10 := by omega
      cases hs : src l (a + i) b with
      | nil =>
        rw [hs, rd_end] at E1
        have hn := next_none n₀ r l (a + i) b wr hR hs
        clear hs
        go_wp2_with fail
        refine hn.mono ?_
        rintro e w1 ⟨rfl, hb1⟩
        have hw := bad.out w1 (a + i) E1.out (hR.below hb1) (by omega)
        go_wp2_with fail
        refine hw.mono ?_
        rintro e w2 ⟨rfl, ⟨rfl, hR2⟩, hk2⟩
        go_wp2
        go_ret
        exact ⟨rfl, hR2, (hK.trans (Kp.of_below hb1)).trans hk2⟩
      | cons c t =>
        have hn := next_some n₀ r l (a + i) b c t wr hR hs
        obtain ⟨rfl, hal, hc, rfl⟩ := src_ne hs
        have hc256 := hl c (List.mem_of_getElem? hc)
        rw [hs] at E1
        have E2 := E1.out
        rw [rd_step i acc c _ (by omega)] at E2
        have E3 : Hid (rd 10 0 0 (src l a 0) = _) := E2
        clear E1 E2 hs hc hl
        go_wp2_with fail
        refine hn.mono ?_
        rintro e w1 ⟨rfl, hR1, hk1⟩
        clear hn
        have qc : IntKind.u64.wrap ((c : Int) % 128) = (c : Int) % 128 := by rw [IntKind.wrap_u64]; omega
        by_cases h9 : i = 9 ∧ 1 < c % 128
        · have hw := bad.out w1 (a + i + 1) (by rw [E3.out, if_pos h9]) hR1 (by simp)
          obtain ⟨rfl, h91⟩ := h9
          have h92 : ¬ (c : Int) % 128 ≤ 1 := by omega
          clear E3 bad
          go_wp2_with fail
          refine hw.mono ?_
          rintro e w2 ⟨rfl, ⟨rfl, hR2⟩, hk2⟩
          go_wp2
          go_ret
          exact ⟨rfl, hR2, (hK.trans hk1).trans hk2⟩
        · have qd := or_digit i acc c (by omega) hacc (by omega)
          have hacc' := acc_next i acc c hacc
          by_cases hc128 : c < 128
          · by_cases hz : c = 0 ∧ 0 < i
            · have hw := bad.out w1 (a + i + 1) (by rw [E3.out, if_neg h9, if_pos hc128, if_pos hz]) hR1 (by simp)
              obtain ⟨rfl, hz1⟩ := hz
              clear E3 bad qc qd h9
              rcases Nat.lt_or_ge i 9 with hi9 | hi9
              · have hi8 : ¬ (i : Int) = 9 := by omega
                go_wp2_with fail
                refine hw.mono ?_
                rintro e w2 ⟨rfl, ⟨rfl, hR2⟩, hk2⟩
                go_wp2
                go_ret
                exact ⟨rfl, hR2, (hK.trans hk1).trans hk2⟩
              · obtain rfl : i = 9 := by omega
                go_wp2_with fail
                refine hw.mono ?_
                rintro e w2 ⟨rfl, ⟨rfl, hR2⟩, hk2⟩
                go_wp2
                go_ret
                exact ⟨rfl, hR2, (hK.trans hk1).trans hk2⟩
            · obtain ⟨e1, e2, e3⟩ := hu1'.out (acc + c % 128 * 128 ^ i) (i + 1) (by rw [E3.out, if_neg h9, if_pos hc128, if_neg hz, Nat.mod_eq_of_lt hc128])
              have hR2 : Rr n₀ w1 r l A E := by rw [e2, e3]; exact hR1
              have e1' : Hid (N = acc + c % 128 * 128 ^ i) := e1
              clear E3 bad hu1' hu0' e1 e2 e3
              by_cases hc0 : c = 0
              · obtain rfl : i = 0 := by omega
                subst hc0
                obtain rfl : acc = 0 := by simpa using hacc
                have q0 := or_zero
                clear qd qc h9 hz
                go_wp2
                go_ret
                exact ⟨by rw [e1'.out]; rfl, hR2, hK.trans hk1⟩
              · rcases Nat.lt_or_ge i 9 with hi9 | hi9
                · have hi8 : ¬ (i : Int) = 9 := by omega
                  clear h9 hz
                  go_wp2
                  go_ret
                  exact ⟨by rw [e1'.out]; rfl, hR2, hK.trans hk1⟩
                · obtain rfl : i = 9 := by omega
                  obtain rfl : c = 1 := by omega
                  have qe : bits .or .u64 (acc : Int) 9223372036854775808 = ((acc + 9223372036854775808 : Nat) : Int) := qd
                  clear qd qc h9 hz
                  go_wp2
                  go_ret
                  exact ⟨by rw [e1'.out]; rfl, hR2, hK.trans hk1⟩
          · have hz : ¬ c = 0 := by omega
            have E' : Hid (rd 10 0 0 (src l a 0) = rd (10 - (i + 1)) (i + 1) (acc + (c % 128) * 128 ^ i) (src l (a + i + 1) 0)) := by
              show _ = _
              rw [E3.out, if_neg h9, if_neg hc128]
            clear E3 bad
            rcases Nat.lt_or_ge i 9 with hi9 | hi9
            · have hi8 : ¬ (i : Int) = 9 := by omega
              clear h9
              go_wp2
              all_goals go_roundg (gk - 1)
              case measure => omega
              case rel => exact ⟨i + 1, acc + c % 128 * 128 ^ i, by omega, by go_num, by go_num, hacc', E', by simp, hR1, hK.trans hk1⟩
            · obtain rfl : i = 9 := by omega
              have h92 : (c : Int) % 128 ≤ 1 := by omega
              have qe : bits .or .u64 (acc : Int) ((c : Int) % 128 * 9223372036854775808) = ((acc + c % 128 * 9223372036854775808 : Nat) : Int) := by
                rw [show (2 : Int) ^ (7 * 9) = 9223372036854775808 from rfl, IntKind.wrap_u64, Int.emod_eq_of_lt (by omega) (by omega)] at qd
                exact qd
              clear h9 qd
              go_wp2
              all_goals go_roundg (gk - 1)
              case measure => omega
              case rel => exact ⟨10, acc + c % 128 * 128 ^ 9, by omega, by go_num, by go_num, hacc', E', by simp, hR1, hK.trans hk1⟩
    · have hlti : ¬ (i : Int) < 10 := by omega
      have hw := bad.out wr (a + i) (by rw [E1.out, show 10 - i = 0 by omega]; rfl) hR (by omega)
      clear E1 bad
      go_wp2_with fail
      refine hw.mono ?_
      rintro e w2 ⟨rfl, ⟨rfl, hR2⟩, hk2⟩
      go_wp2
      go_ret
      exact ⟨rfl, hR2, hK.trans hk2⟩
end Go.Proofs.YtgfoogeiancecaaGreatDoor.Fr

