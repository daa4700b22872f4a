import Derived.Test.YtfpbgfmnjpamlaaGreatHt21
/- Until. -/
namespace Go.Proofs.YtfpbgfmnjpamlaaGreat
open Go.RowKit LeaseMath
set_option maxRecDepth 100000
set_option linter.unusedSimpArgs false
set_option linter.unusedVariables false

/-- Till when one lasts. -/
def untilM (now ttl : Int) : Int × Int := if timeB now && decide (1 ≤ ttl) && decide (ttl ≤ 1048576) then (laterM now ttl, 0) else (0, 1)
set_option maxHeartbeats 1000000 in
theorem until_of (now ttl : Int) (w : World) : Calls Tryz.prog 110 #[.int .i64 now, .int .i64 ttl] w fun e w' => e = .returned (.tuple #[.int .i64 (untilM now ttl).1, .int .i64 (untilM now ttl).2]) ∧ w' = w := by
  obtain ⟨U, HU⟩ : ∃ U, Hid (U = untilM now ttl) := ⟨_, rfl⟩
  rw [← HU.out]
  have kt := fun W => time_of now W
  cases ht : timeB now with
  | false =>
    have E : Hid (U = (0, 1)) := by show _ = _; rw [HU.out]; simp [untilM, ht]
    rw [ht] at kt
    clear HU ht
    go_enter Tryz.func110, Tryz.ntmps110
    go_wp2_with fail
    refine (kt _).mono ?_
    rintro e w1 ⟨rfl, hw1⟩
    subst hw1
    go_wp2
    go_ret2
    exact ⟨by rw [E.out]; rfl, rfl⟩
  | true =>
    obtain ⟨a0, a1⟩ := time_iff.1 ht
    rw [ht] at kt
    by_cases h1 : 1 ≤ ttl
    · have h1' : ¬ ttl < 1 := by omega
      have h1d : decide (ttl < 1) = false := decide_eq_false h1'
      by_cases h2 : ttl ≤ 1048576
      · have h2' : ¬ 1048576 < ttl := by omega
        have h2d : decide (1048576 < ttl) = false := decide_eq_false h2'
        have E : Hid (U = (laterM now ttl, 0)) := by show _ = _; rw [HU.out]; simp [untilM, ht, h1, h2]
        have kl := fun W => llater_of now ttl W a0 a1 (by omega) (by omega)
        generalize laterM now ttl = L at *
        clear HU ht h1 h2 a0 a1
        go_enter Tryz.func110, Tryz.ntmps110
        go_wp2_with fail
        refine (kt _).mono ?_
        rintro e w1 ⟨rfl, hw1⟩
        subst hw1
        go_wp2_with fail
        refine (kl _).mono ?_
        rintro e w2 ⟨rfl, hw2⟩
        subst hw2
        go_wp2
        go_ret2
        exact ⟨by rw [E.out]; rfl, rfl⟩
      · have h2' : 1048576 < ttl := by omega
        have h2d : decide (1048576 < ttl) = true := decide_eq_true h2'
        have E : Hid (U = (0, 1)) := by show _ = _; rw [HU.out]; simp [untilM, h2]
        clear HU ht h1 h2 a0 a1
        go_enter Tryz.func110, Tryz.ntmps110
        go_wp2_with fail
        refine (kt _).mono ?_
        rintro e w1 ⟨rfl, hw1⟩
        subst hw1
        go_wp2
        go_ret2
        exact ⟨by rw [E.out]; rfl, rfl⟩
    · have h1' : ttl < 1 := by omega
      have h1d : decide (ttl < 1) = true := decide_eq_true h1'
      have E : Hid (U = (0, 1)) := by show _ = _; rw [HU.out]; simp [untilM, h1]
      clear HU ht h1 a0 a1
      go_enter Tryz.func110, Tryz.ntmps110
      go_wp2_with fail
      refine (kt _).mono ?_
      rintro e w1 ⟨rfl, hw1⟩
      subst hw1
      go_wp2
      go_ret2
      exact ⟨by rw [E.out]; rfl, rfl⟩
end Go.Proofs.YtfpbgfmnjpamlaaGreat

