import Derived.Test.YtoipjmjhplkibaaGreatDoorProg
import Derived.WalkKit
/- The contract of the program's Count: how many chunks so many bytes have. -/
namespace Go.Proofs.YtoipjmjhplkibaaGreatDoor
open Go.RowKit
set_option maxRecDepth 100000
set_option linter.unusedSimpArgs false
set_option linter.unusedVariables false

/-- How many chunks so many bytes have. -/
def chunks (n : Nat) : Nat := (n - 1) / 256 + 1

theorem count_neg (z : Int) (w : World) (h : z < 0) : Calls Tryz.prog 72 #[.int .i64 z] w fun e w' => e = .returned (.int .i64 0) ∧ w' = w := by
  go_enter Tryz.func72, Tryz.ntmps72
  go_wp2
  go_ret
  exact ⟨rfl, rfl⟩
theorem count_of (n : Nat) (w : World) (hn : n ≤ 9223372036854775807) : Calls Tryz.prog 72 #[.int .i64 (n : Int)] w fun e w' => e = .returned (.int .i64 (chunks n : Int)) ∧ w' = w := by
  have h0 : ¬ (n : Int) < 0 := by omega
  obtain ⟨C, HC⟩ : ∃ C : Int, Hid (C = (chunks n : Int)) := ⟨_, rfl⟩
  rw [← HC.out]
  by_cases hz : n = 0
  · subst hz
    have E : Hid (C = 1) := HC.out
    clear HC
    go_enter Tryz.func72, Tryz.ntmps72
    go_wp2
    go_ret
    exact ⟨by rw [E.out]; rfl, rfl⟩
  · obtain ⟨Q, hQ⟩ : ∃ Q : Nat, Q = (n - 1) / 256 := ⟨_, rfl⟩
    have hq : ((n : Int) - 1).tdiv 256 = (Q : Int) := by
      have e : (n : Int) - 1 = ((n - 1 : Nat) : Int) := by omega
      rw [e, Int.tdiv_eq_ediv_of_nonneg (by omega)]
      omega
    have hQl : (Q : Int) ≤ 36028797018963967 := by omega
    have E : Hid (C = (Q : Int) + 1) := by
      show _ = _
      rw [HC.out]
      unfold chunks
      rw [← hQ]
      omega
    have hmx : max ((n : Int) - 1) 0 = (n : Int) - 1 := by omega
    clear HC hQ
    go_enter Tryz.func72, Tryz.ntmps72
    go_wp2
    go_ret
    exact ⟨by rw [E.out]; first | rfl | go_num, rfl⟩
end Go.Proofs.YtoipjmjhplkibaaGreatDoor

