import Derived.Test.YtoipjmjhplkibaaDoorQ08
import Derived.Test.YtoipjmjhplkibaaDoorQ10
import Derived.OwnWalk
/- The contracts of the program's own goesOn and ends: where a frame's body begins and ends, or why there is none; what lay in memory before stays as it was. -/
namespace Go.Proofs.YtoipjmjhplkibaaDoor.Fr
open Go.RowKit WireMath FrameMath
set_option maxRecDepth 100000
set_option linter.unusedSimpArgs false

theorem goesOn_of (n₀ : Nat) (l : List Nat) (v : Value) (w : World) (hB : Bs n₀ w v l) :
    Calls Tryd.prog 66 #[v] w fun e w' => e = .returned (.bool (l.all fun c => decide (128 ≤ c))) ∧ w' = w := by
  obtain ⟨ao, cap, rfl, h2, h3, h4, h5⟩ := id hB
  have hm : l.length ≤ 9223372036854775807 := by unfold maxLen at h3; omega
  go_enter Tryd.func66, Tryd.ntmps66
  go_wp2
  go_loopg [7] l.length (fun g s7 wr => ∃ i : Nat, i + g = l.length ∧ s7 = .int .i64 (i : Int) ∧ Hid (∀ j c, j < i → l[j]? = some c → 128 ≤ c) ∧ wr = w)
  case atStart => exact ⟨0, by simp, rfl, fun _ _ h => by omega, rfl⟩
  case round =>
    obtain ⟨i, hi, rfl, E, rfl⟩ := hrel
    by_cases hlt : i < l.length
    · obtain ⟨b, off, rfl, hb, hc⟩ := h5 (by rintro rfl; simp at hlt)
      have hg : l[i]? = some l[i] := List.getElem?_eq_getElem hlt
      have hcell := hc i l[i] hg
      have hlti : (i : Int) < (l.length : Int) := by omega
      by_cases h128 : l[i] < 128
      · have E' : Hid ((l.all fun c => decide (128 ≤ c)) = false) := by
          show _ = _
          rw [Bool.eq_false_iff]
          intro h
          have := List.all_eq_true.1 h l[i] (List.getElem_mem hlt)
          simp only [decide_eq_true_eq] at this
          omega
        generalize l[i] = c at hcell h128
        have q : (c : Int) < 128 := by omega
        clear E hc h5 hB hg
        go_wp2
        go_ret
        exact ⟨by rw [E'.out]; rfl, rfl⟩
      · have E' : Hid (∀ j c, j < i + 1 → l[j]? = some c → 128 ≤ c) := by
          intro j c hj hjc
          by_cases hji : j = i
          · subst hji
            rw [hg] at hjc
            cases hjc
            omega
          · exact E.out j c (by omega) hjc
        generalize l[i] = c at hcell h128
        have q : ¬ (c : Int) < 128 := by omega
        clear E hc h5 hB hg
        go_wp2
        go_roundg (gk - 1)
        case measure => omega
        case rel => exact ⟨i + 1, by omega, by go_num, E', rfl⟩
    · have hlti : ¬ (i : Int) < (l.length : Int) := by omega
      have E' : Hid ((l.all fun c => decide (128 ≤ c)) = true) := by
        show _ = _
        rw [List.all_eq_true]
        intro x hx
        obtain ⟨j, hj, rfl⟩ := List.getElem_of_mem hx
        simpa using E.out j l[j] (by omega) (List.getElem?_eq_getElem hj)
      clear E h5 hB
      go_wp2
      go_ret
      exact ⟨by rw [E'.out]; rfl, rfl⟩
theorem Bs.took {n : Nat} {w : World} {l : List Nat} {ao : Option Addr} {len cap k : Nat} (h : Bs n w (.slice ao len cap) l) (hk : k ≤ l.length) : Bs n w (.slice ao k cap) (l.take k) := by
  obtain ⟨ao', cp, e0, h2, h3, h4, h5⟩ := h
  cases e0
  have hl : (l.take k).length = k := by rw [List.length_take]; omega
  refine ⟨ao, cap, by rw [hl], by rw [hl]; omega, h3, h4, fun hne => ?_⟩
  obtain ⟨b, off, e1, e2, e3⟩ := h5 (by rintro rfl; simp at hne)
  refine ⟨b, off, e1, e2, fun j c hj => e3 j c ?_⟩
  rw [List.getElem?_take] at hj
  split at hj
  · exact hj
  · cases hj

theorem ends_gap (n₀ : Nat) (l : List Nat) (v : Value) (w : World) (hB : Bs n₀ w v l) (h3 : l.length < 3) (ha : (l.all fun c => decide (128 ≤ c)) = true) :
    Calls Tryd.prog 56 #[v] w fun e w' => e = .returned (.tuple #[.int .i64 0, .int .i64 0, .int .i64 12]) ∧ w' = w := by
  have hg := goesOn_of n₀ l v w hB
  rw [ha] at hg
  obtain ⟨ao, cap, rfl, h2, h3', h4, -⟩ := id hB
  have h3i : (l.length : Int) < 3 := by omega
  have hm : min (l.length : Int) 3 = (l.length : Int) := by omega
  have hcap : (cap : Int) ≤ 9223372036854775807 := by unfold maxLen at h3'; omega
  have hlc : (l.length : Int) ≤ (cap : Int) := by omega
  clear hB
  go_enter Tryd.func56, Tryd.ntmps56
  go_wp2_with fail
  refine hg.mono ?_
  rintro e wx ⟨rfl, hwx⟩
  subst hwx
  go_wp2
  go_ret3
  exact ⟨rfl, rfl⟩

theorem src_all (l : List Nat) : src l 0 0 = l := rfl

/-- The first three bytes' slice. -/
theorem first3 {n₀ : Nat} {l : List Nat} {ao : Option Addr} {cap : Nat} {w : World} (hB : Bs n₀ w (.slice ao l.length cap) l) : Bs n₀ w (.slice ao (l.take 3).length cap) (l.take 3) ∧ ((l.take 3).length : Int) = min (l.length : Int) 3 := by
  refine ⟨?_, by rw [List.length_take]; omega⟩
  have := Bs.took hB (k := (l.take 3).length) (by rw [List.length_take]; omega)
  rw [show l.take (l.take 3).length = l.take 3 by
    rw [List.length_take, ← List.take_take, List.take_of_length_le (Nat.le_refl l.length)]] at this
  exact this

theorem nuA_le {l : List Nat} {m : Int} (hl : ∀ c ∈ l, c < 256) : nuA l 0 0 m ≤ l.length := by
  unfold nuA
  rw [src_all]
  cases hr : rd 10 0 0 l with
  | none => exact Nat.zero_le _
  | some x =>
    have := (rd_parts (n := x.1) (k := x.2) hl hr).2.2.2
    simp only
    split <;> omega
theorem nuN_le {l : List Nat} : nuN l 0 0 1048576 ≤ 1048576 := by
  unfold nuN
  split
  · omega
  · split <;> omega

theorem Rd.bad {w : World} {q : Nat} {l : List Nat} {a b : Nat} (h : Rd w q l a b) : w.cell? ⟨q, 2, none⟩ = some (.int .i64 (b : Int)) := by
  obtain ⟨sv, h1, _⟩ := h
  rw [cells_of_block h1]; rfl

set_option maxHeartbeats 2000000 in
theorem ends_some (n₀ : Nat) (l : List Nat) (v : Value) (w : World) (hB : Bs n₀ w v l) (hn₀ : n₀ ≤ w.heap.size) (hl : ∀ c ∈ l, c < 256) (hno : ¬ (l.length < 3 ∧ (l.all fun c => decide (128 ≤ c)) = true)) :
    Calls Tryd.prog 56 #[v] w fun e w' => e = .returned (if nuE (l.take 3) 0 0 1048576 ≠ 0 ∨ nuN (l.take 3) 0 0 1048576 < 5 then .tuple #[.int .i64 0, .int .i64 0, .int .i64 5] else .tuple #[.int .i64 (nuA (l.take 3) 0 0 1048576 : Int), .int .i64 ((nuA (l.take 3) 0 0 1048576 + nuN (l.take 3) 0 0 1048576 : Nat) : Int), .int .i64 0]) ∧ Below w.heap.size w w' := by
  obtain ⟨ao, cap, rfl, h2, h3', h4, -⟩ := id hB
  obtain ⟨hB3, hm⟩ := first3 hB
  have hg := goesOn_of n₀ _ _ w hB
  have hl3 : ∀ c ∈ l.take 3, c < 256 := fun c hc => hl c (List.mem_of_mem_take hc)
  have hr := read_of n₀ _ _ w hB3 hn₀ (by rw [List.length_take]; omega)
  have hl33 : (l.take 3).length ≤ 3 := by rw [List.length_take]; omega
  have hnum : ∀ q W, Rd W q (l.take 3) 0 0 → Calls Tryd.prog 67 #[.pointer (some ⟨q, 0, none⟩), .int .i64 1048576] W _ := fun q W h => number_m q (l.take 3) 0 0 1048576 W h hl3 (by decide)
  have hA : nuA (l.take 3) 0 0 1048576 ≤ (l.take 3).length := nuA_le hl3
  have hN : nuN (l.take 3) 0 0 1048576 ≤ 1048576 := nuN_le
  have hcap : (cap : Int) ≤ 9223372036854775807 := by unfold maxLen at h3'; omega
  generalize nuN (l.take 3) 0 0 1048576 = N at *
  generalize nuA (l.take 3) 0 0 1048576 = A at *
  generalize nuE (l.take 3) 0 0 1048576 = E at *
  have hR : ∃ R, Hid (R = if E ≠ 0 ∨ N < 5 then Value.tuple #[.int .i64 0, .int .i64 0, .int .i64 5] else .tuple #[.int .i64 (A : Int), .int .i64 ((A + N : Nat) : Int), .int .i64 0]) := ⟨_, rfl⟩
  obtain ⟨R, HR⟩ := hR
  rw [← HR.out]
  clear hB hB3 hl3 hl hm
  by_cases h3 : l.length < 3
  · have hall : (l.all fun c => decide (128 ≤ c)) = false := by
      rw [Bool.eq_false_iff]
      exact fun ha => hno ⟨h3, ha⟩
    rw [hall] at hg
    rw [List.take_of_length_le (by omega)] at hr hA hnum
    have h3i : (l.length : Int) < 3 := by omega
    have hmi : min (l.length : Int) 3 = (l.length : Int) := by omega
    have hlc : (l.length : Int) ≤ (cap : Int) := by omega
    go_enter Tryd.func56, Tryd.ntmps56
    go_wp2_with fail
    refine hg.mono ?_
    rintro e wx ⟨rfl, hwx⟩
    rw [hwx]
    clear hwx wx
    go_wp2_with fail
    refine hr.mono ?_
    rintro e w1 ⟨q, rfl, hq, h1, hb1⟩
    go_wp2_with fail
    refine (hnum q w1 h1).mono ?_
    rintro e w2 ⟨rfl, h2', k2⟩
    have hbel : Below w.heap.size w w2 := hb1.trans (k2.below hq hb1.size)
    have c2 := h2'.bad
    clear hnum hr h1 k2 hb1
    by_cases hE : E = 0
    · subst hE
      by_cases hN5 : N < 5
      · have hNi : (N : Int) < 5 := by omega
        go_wp2_with (go_at_call 46; refine (err_of q 0 _ c2).mono ?_; rintro e wx ⟨rfl, hwx⟩; subst hwx)
        go_ret3
        exact ⟨by rw [HR.out, if_pos (.inr hN5)]; rfl, hbel⟩
      · have hNi : ¬ (N : Int) < 5 := by omega
        have hL := left_of q _ A 0 _ h2'
        go_wp2_with (go_at_call 46; refine (err_of q 0 _ c2).mono ?_; rintro e wx ⟨rfl, hwx⟩; subst hwx)
        refine hL.mono ?_
        rintro e w3 ⟨rfl, hb3⟩
        go_wp2
        go_ret3
        refine ⟨?_, hbel.trans (hb3.mono hbel.size)⟩
        have e1 : (l.length : Int) - ((l.length - A : Nat) : Int) = (A : Int) := by omega
        have e2 : (l.length : Int) - ((l.length - A : Nat) : Int) + (N : Int) = ((A + N : Nat) : Int) := by omega
        rw [HR.out, if_neg (by omega), ← e2, ← e1]
        rfl
    · have hEi : ¬ (E : Int) = 0 := by omega
      have hEj : ((E : Int) != 0) = true := by simp; omega
      go_wp2_with (go_at_call 46; refine (err_of q E _ c2).mono ?_; rintro e wx ⟨rfl, hwx⟩; subst hwx)
      go_ret3
      exact ⟨by rw [HR.out, if_pos (.inl hE)]; rfl, hbel⟩
  by_cases h33 : l.length = 3
  · have hlen3 : (l.take 3).length = 3 := by rw [List.length_take]; omega
    rw [hlen3] at hr hA
    have hlc : (3 : Int) ≤ (cap : Int) := by omega
    have hlc2 : 3 ≤ cap := by omega
    clear hg
    go_enter Tryd.func56, Tryd.ntmps56
    go_wp2_with fail
    refine hr.mono ?_
    rintro e w1 ⟨q, rfl, hq, h1, hb1⟩
    go_wp2_with fail
    refine (hnum q w1 h1).mono ?_
    rintro e w2 ⟨rfl, h2', k2⟩
    have hbel : Below w.heap.size w w2 := hb1.trans (k2.below hq hb1.size)
    have c2 := h2'.bad
    clear hnum hr h1 k2 hb1
    by_cases hE : E = 0
    · subst hE
      by_cases hN5 : N < 5
      · have hNi : (N : Int) < 5 := by omega
        go_wp2_with (go_at_call 46; refine (err_of q 0 _ c2).mono ?_; rintro e wx ⟨rfl, hwx⟩; subst hwx)
        go_ret3
        exact ⟨by rw [HR.out, if_pos (.inr hN5)]; rfl, hbel⟩
      · have hNi : ¬ (N : Int) < 5 := by omega
        have hL := left_of q _ A 0 _ h2'
        go_wp2_with (go_at_call 46; refine (err_of q 0 _ c2).mono ?_; rintro e wx ⟨rfl, hwx⟩; subst hwx)
        refine hL.mono ?_
        rintro e w3 ⟨rfl, hb3⟩
        go_wp2
        go_ret3
        refine ⟨?_, hbel.trans (hb3.mono hbel.size)⟩
        have e1 : (3 : Int) - ((3 - A : Nat) : Int) = (A : Int) := by omega
        have e2 : (3 : Int) - ((3 - A : Nat) : Int) + (N : Int) = ((A + N : Nat) : Int) := by omega
        rw [HR.out, if_neg (by omega), ← e2, ← e1]
        rfl
    · have hEi : ¬ (E : Int) = 0 := by omega
      have hEj : ((E : Int) != 0) = true := by simp; omega
      go_wp2_with (go_at_call 46; refine (err_of q E _ c2).mono ?_; rintro e wx ⟨rfl, hwx⟩; subst hwx)
      go_ret3
      exact ⟨by rw [HR.out, if_pos (.inl hE)]; rfl, hbel⟩
  · have hlen3 : (l.take 3).length = 3 := by rw [List.length_take]; omega
    rw [hlen3] at hr hA
    have h3i : ¬ (l.length : Int) < 3 := by omega
    have h3j : ¬ (l.length : Int) ≤ 3 := by omega
    have h3k : (3 : Int) < (l.length : Int) := by omega
    have hmi : min (l.length : Int) 3 = 3 := by omega
    have hlc : (3 : Int) ≤ (cap : Int) := by omega
    have hlc2 : 3 ≤ cap := by omega
    clear hg
    go_enter Tryd.func56, Tryd.ntmps56
    go_wp2_with fail
    refine hr.mono ?_
    rintro e w1 ⟨q, rfl, hq, h1, hb1⟩
    go_wp2_with fail
    refine (hnum q w1 h1).mono ?_
    rintro e w2 ⟨rfl, h2', k2⟩
    have hbel : Below w.heap.size w w2 := hb1.trans (k2.below hq hb1.size)
    have c2 := h2'.bad
    clear hnum hr h1 k2 hb1
    by_cases hE : E = 0
    · subst hE
      by_cases hN5 : N < 5
      · have hNi : (N : Int) < 5 := by omega
        go_wp2_with (go_at_call 46; refine (err_of q 0 _ c2).mono ?_; rintro e wx ⟨rfl, hwx⟩; subst hwx)
        go_ret3
        exact ⟨by rw [HR.out, if_pos (.inr hN5)]; rfl, hbel⟩
      · have hNi : ¬ (N : Int) < 5 := by omega
        have hL := left_of q _ A 0 _ h2'
        go_wp2_with (go_at_call 46; refine (err_of q 0 _ c2).mono ?_; rintro e wx ⟨rfl, hwx⟩; subst hwx)
        refine hL.mono ?_
        rintro e w3 ⟨rfl, hb3⟩
        go_wp2
        go_ret3
        refine ⟨?_, hbel.trans (hb3.mono hbel.size)⟩
        have e1 : (3 : Int) - ((3 - A : Nat) : Int) = (A : Int) := by omega
        have e2 : (3 : Int) - ((3 - A : Nat) : Int) + (N : Int) = ((A + N : Nat) : Int) := by omega
        rw [HR.out, if_neg (by omega), ← e2, ← e1]
        rfl
    · have hEi : ¬ (E : Int) = 0 := by omega
      have hEj : ((E : Int) != 0) = true := by simp; omega
      go_wp2_with (go_at_call 46; refine (err_of q E _ c2).mono ?_; rintro e wx ⟨rfl, hwx⟩; subst hwx)
      go_ret3
      exact ⟨by rw [HR.out, if_pos (.inl hE)]; rfl, hbel⟩
end Go.Proofs.YtoipjmjhplkibaaDoor.Fr

