/- The walk of the law FaultReacts: it answers true at every code, and what lay in memory before stays as it was. -/
import Derived.Test.YtgffbicdfclcmaaDoorAwake
namespace Go.Proofs.YtgffbicdfclcmaaDoor
open Go.RowKit
set_option maxRecDepth 100000

/-- Which codes are treated alike: refresh and again, again, forget, nothing. -/
def kindOf (n : Int) : Nat := if n = 10 ∨ n = 7 then 0 else if n = 9 then 1 else if n = 8 ∨ n = 4 ∨ n = 6 ∨ n = 11 then 2 else 3
def reactV (k : Nat) : Value := match k with
  | 0 => .tuple #[.bool true, .bool true, .bool false]
  | 1 => .tuple #[.bool false, .bool true, .bool false]
  | 2 => .tuple #[.bool false, .bool false, .bool true]
  | _ => .tuple #[.bool false, .bool false, .bool false]
def reactN (k : Nat) : Int := match k with
  | 0 => 3
  | 1 => 2
  | 2 => 4
  | _ => 0

set_option maxHeartbeats 1000000 in
theorem react_of (n : Int) (w : World) : Calls Tryd.prog 22 #[.int .i64 n] w fun e w' => e = .returned (reactV (kindOf n)) ∧ w' = w := by
  by_cases h : n = 10 ∨ n = 7 ∨ n = 9 ∨ n = 8 ∨ n = 4 ∨ n = 6 ∨ n = 11
  · obtain rfl | rfl | rfl | rfl | rfl | rfl | rfl := h
    all_goals
      go_enter Tryd.func22, Tryd.ntmps22
      go_wp2
      go_ret3
      exact ⟨rfl, rfl⟩
  · have hk : kindOf n = 3 := by unfold kindOf; rw [if_neg (by omega), if_neg (by omega), if_neg (by omega)]
    rw [hk]
    have h1 : (n == 10) = false := by simp; omega
    have h2 : (n == 7) = false := by simp; omega
    have h3 : (n == 9) = false := by simp; omega
    have h4 : (n == 8) = false := by simp; omega
    have h5 : (n == 4) = false := by simp; omega
    have h6 : (n == 6) = false := by simp; omega
    have h7 : (n == 11) = false := by simp; omega
    clear h hk
    go_enter Tryd.func22, Tryd.ntmps22
    go_wp2
    go_ret3
    exact ⟨rfl, rfl⟩

set_option maxHeartbeats 1000000 in
theorem refReact_of (n : Int) (w : World) : Calls Tryd.prog 23 #[.int .i64 n] w fun e w' => e = .returned (.int .i64 (reactN (kindOf n))) ∧ w' = w := by
  by_cases h : n = 10 ∨ n = 7 ∨ n = 9 ∨ n = 8 ∨ n = 4 ∨ n = 6 ∨ n = 11
  · obtain rfl | rfl | rfl | rfl | rfl | rfl | rfl := h
    all_goals
      go_enter Tryd.func23, Tryd.ntmps23
      go_wp2
      go_ret
      exact ⟨rfl, rfl⟩
  · have hk : kindOf n = 3 := by unfold kindOf; rw [if_neg (by omega), if_neg (by omega), if_neg (by omega)]
    rw [hk]
    have h1 : (n == 10) = false := by simp; omega
    have h2 : (n == 7) = false := by simp; omega
    have h3 : (n == 9) = false := by simp; omega
    have h4 : (n == 8) = false := by simp; omega
    have h5 : (n == 4) = false := by simp; omega
    have h6 : (n == 6) = false := by simp; omega
    have h7 : (n == 11) = false := by simp; omega
    clear h hk
    go_enter Tryd.func23, Tryd.ntmps23
    go_wp2
    go_ret
    exact ⟨rfl, rfl⟩

theorem kindOf_lt (n : Int) : kindOf n = 0 ∨ kindOf n = 1 ∨ kindOf n = 2 ∨ kindOf n = 3 := by
  unfold kindOf
  split
  · exact .inl rfl
  · split
    · exact .inr (.inl rfl)
    · split
      · exact .inr (.inr (.inl rfl))
      · exact .inr (.inr (.inr rfl))

set_option maxHeartbeats 2000000 in
theorem reacts_law (n : Int) (w : World) (hg : Door w) : Calls Tryd.prog 6 #[.int .i64 n] w fun e w' => e = .returned (.bool true) ∧ Below w.heap.size w w' := by
  have h1 := react_of n w
  have h2 := refReact_of n w
  have h3 := awake_of w hg
  obtain hk | hk | hk | hk := kindOf_lt n
  all_goals
    rw [hk] at h1 h2
    clear hk
    dsimp only [reactV, reactN] at h1 h2
    go_enter Tryd.func6, Tryd.ntmps6
    go_wp2_with (first | (go_at_call 22; refine h1.mono ?_; rintro e wx ⟨rfl, hwx⟩; subst hwx) | (go_at_call 23; refine h2.mono ?_; rintro e wx ⟨rfl, hwx⟩; subst hwx) | (go_at_call 14; refine h3.mono ?_; rintro e w3 ⟨rfl, hb3⟩))
    go_ret
    exact ⟨rfl, hb3⟩
end Go.Proofs.YtgffbicdfclcmaaDoor
