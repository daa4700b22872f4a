import Derived.Test.YtglbjimpaoikfaaHe16
/- The contract of slices.BinarySearch at numbers. -/
namespace Go.Proofs.Ytglbjimpaoikfaa
open Go.RowKit QuorumMath
set_option maxRecDepth 100000
set_option linter.unusedSimpArgs false
set_option linter.unusedVariables false

theorem less_of (x y : Int) (w : World) : Calls Try.prog 68 #[.int .i64 x, .int .i64 y] w fun e w' => e = .returned (.bool (decide (x < y))) ∧ w' = w := by
  have kn : ∀ z W, Calls Try.prog 72 #[.int .i64 z] W fun e w' => e = .returned (.bool false) ∧ w' = W := fun z W => by
    go_enter Try.func72, Try.ntmps72
    go_wp2
    go_ret
    exact ⟨by simp, rfl⟩
  go_enter Try.func68, Try.ntmps68
  go_wp2_with (go_at_call 72; refine (kn _ _).mono ?_; rintro e w' ⟨rfl, rfl⟩)
  go_ret
  exact ⟨rfl, rfl⟩

set_option maxHeartbeats 2000000 in
theorem search_of (l : List Int) (lv : Value) (z : Int) (K : Nat) (w : World) (hF : Rd intE w lv l) (hlen : l.length ≤ 1000000) (hS : Spot l z K) (hp : l.Pairwise (· ≤ ·)) : Calls Try.prog 64 #[lv, .int .i64 z] w fun e w' => e = .returned (.tuple #[.int .i64 (K : Int), .bool (decide (z ∈ l))]) ∧ w' = w := by
  obtain ⟨B, HB⟩ : ∃ B, Hid (B = decide (z ∈ l)) := ⟨_, rfl⟩
  rw [← HB.out]
  have HS : Hid (Spot l z K) := hS
  have hKl := hS.1
  have kn : ∀ z W, Calls Try.prog 69 #[.int .i64 z] W fun e w' => e = .returned (.bool false) ∧ w' = W := fun z W => by
    go_enter Try.func69, Try.ntmps69
    go_wp2
    go_ret
    exact ⟨by simp, rfl⟩
  have HP : Hid (z ∈ l ↔ l[K]? = some z) := spot_in hS hp
  clear hS hp
  obtain ⟨ao, cap, rfl, -, -⟩ := hF.shape
  go_enter Try.func64, Try.ntmps64
  go_wp2
  go_loopg [7, 8] (l.length + 1) (fun g s7 s8 wr => ∃ i j : Nat, i ≤ K ∧ K ≤ j ∧ j ≤ l.length ∧ j - i < g ∧ s7 = .int .i64 (i : Int) ∧ s8 = .int .i64 (j : Int) ∧ wr = w)
  case atStart => exact ⟨0, l.length, Nat.zero_le _, hKl, Nat.le_refl _, by omega, rfl, rfl, rfl⟩
  case round =>
    obtain ⟨i, j, hiK, hKj, hjl, hg, rfl, rfl, rfl⟩ := hrel
    by_cases hij : i < j
    · have hiji : (i : Int) < (j : Int) := by omega
      obtain ⟨h, hh⟩ : ∃ h : Nat, Hid (h = (i + j) / 2) := ⟨_, rfl⟩
      have hh1 : i ≤ h := by have := hh.out; omega
      have hh2 : h < j := by have := hh.out; omega
      have hhl : h < l.length := by omega
      have hx : l[h]? = some l[h] := List.getElem?_eq_getElem hhl
      obtain ⟨x, hxx⟩ : ∃ x, x = l[h] := ⟨_, rfl⟩
      rw [← hxx] at hx
      clear hxx
      obtain ⟨b, off, rfl, c⟩ := rdi_at hF hx
      have c0 := c wr (Below.refl _ _)
      have kl := less_of x z wr
      have hle : x < z → h < K := fun hxz => by
        by_cases hk : K ≤ h
        · have := HS.out.2.2 h x hk hx
          omega
        · omega
      have hge : ¬ x < z → K ≤ h := fun hxz => by
        by_cases hk : h < K
        · have := HS.out.2.1 h x hk hx
          omega
        · omega
      have q1 : ((i : Int) + (j : Int)) / 2 = (h : Int) := by have := hh.out; omega
      have q2 : (((i : Int) + (j : Int)) / 2).toNat = h := by omega
      by_cases hxz : x < z
      · rw [decide_eq_true hxz] at kl
        have hhK := hle hxz
        clear hle hge HS HP HB hF c hx kn
        go_wp2_with fail
        refine kl.mono ?_
        rintro e w1 ⟨rfl, hw1⟩
        subst hw1
        go_wp2
        go_roundg (gk - 1)
        case measure => omega
        case rel => exact ⟨h + 1, j, by omega, hKj, hjl, by omega, by go_num, rfl, rfl⟩
      · rw [decide_eq_false hxz] at kl
        have hhK := hge hxz
        clear hle hge HS HP HB hF c hx kn
        go_wp2_with fail
        refine kl.mono ?_
        rintro e w1 ⟨rfl, hw1⟩
        subst hw1
        go_wp2
        go_roundg (gk - 1)
        case measure => omega
        case rel => exact ⟨i, h, by omega, hhK, by omega, by omega, rfl, by go_num, rfl⟩
    · have hiji : ¬ (i : Int) < (j : Int) := by omega
      obtain rfl : i = K := by omega
      obtain rfl : i = j := by omega
      by_cases hil : i < l.length
      · have hili : (i : Int) < (l.length : Int) := by omega
        have hx : l[i]? = some l[i] := List.getElem?_eq_getElem hil
        obtain ⟨x, hxx⟩ : ∃ x, x = l[i] := ⟨_, rfl⟩
        rw [← hxx] at hx
        clear hxx
        obtain ⟨b, off, rfl, c⟩ := rdi_at hF hx
        have c0 := c wr (Below.refl _ _)
        by_cases hxz : x = z
        · have E : Hid (B = true) := by show _ = _; rw [HB.out, decide_eq_true_eq, HP.out, hx, hxz]
          subst hxz
          clear HS HP HB hF c hx
          go_wp2
          go_ret2
          exact ⟨by rw [E.out]; rfl, rfl⟩
        · have E : Hid (B = false) := by
            show _ = _
            rw [HB.out, decide_eq_false_iff_not, HP.out, hx]
            intro h
            cases h
            exact hxz rfl
          have kn1 := kn x wr
          have hq : (x == z) = false := by simpa using hxz
          clear HS HP HB hF c hx kn
          go_wp2_with fail
          refine kn1.mono ?_
          rintro e w1 ⟨rfl, hw1⟩
          subst hw1
          go_wp2
          go_ret2
          exact ⟨by rw [E.out]; rfl, rfl⟩
      · have hili : ¬ (i : Int) < (l.length : Int) := by omega
        have E : Hid (B = false) := by
          show _ = _
          rw [HB.out, decide_eq_false_iff_not, HP.out, List.getElem?_eq_none (by omega)]
          simp
        clear HS HP HB hF kn
        go_wp2
        go_ret2
        exact ⟨by rw [E.out]; rfl, rfl⟩
end Go.Proofs.Ytglbjimpaoikfaa

