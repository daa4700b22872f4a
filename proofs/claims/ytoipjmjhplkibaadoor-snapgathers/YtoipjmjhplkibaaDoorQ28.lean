import Derived.Test.YtoipjmjhplkibaaDoorProg
import Derived.WalkKit
/- The contract of the program's Count: how many chunks so many bytes have. -/
namespace Go.Proofs.YtoipjmjhplkibaaDoor
open Go.RowKit
set_option maxRecDepth 100000
set_option linter.unusedSimpArgs false
set_option linter.unusedVariables false

/-- How many chunks so many bytes have. -/
def chunks (n : Nat) : Nat := (n - 1) / 256 + 1

theorem count_neg (z : Int) (w : World) (h : z < 0) : Calls Tryd.prog 8 #[.int .i64 z] w fun e w' => e = .returned (.int .i64 0) ∧ w' = w := by
  go_enter Tryd.func8, Tryd.ntmps8
  go_wp2
  go_ret
  exact ⟨rfl, rfl⟩
theorem count_of (n : Nat) (w : World) (hn : n ≤ 9223372036854775807) : Calls Tryd.prog 8 #[.int .i64 (n : Int)] w fun e w' => e = .returned (.int .i64 (chunks n : Int)) ∧ w' = w := by
  have h0 : ¬ (n : Int) < 0 := by omega
  obtain ⟨C, HC⟩ : ∃ C : Int, Hid (C = (chunks n : Int)) := ⟨_, rfl⟩
  rw [← HC.out]
  by_cases hz : n = 0
  · subst hz
    have E : Hid (C = 1) := HC.out
    clear HC
    go_enter Tryd.func8, Tryd.ntmps8
    go_wp2
    go_ret
    exact ⟨by rw [E.out]; rfl, rfl⟩
  · obtain ⟨Q, hQ⟩ : ∃ Q : Nat, Q = (n - 1) / 256 := ⟨_, rfl⟩
    have hq : ((n : Int) - 1).tdiv 256 = (Q : Int) := by
      have e : (n : Int) - 1 = ((n - 1 : Nat) : Int) := by omega
      rw [e, Int.tdiv_eq_ediv_of_nonneg (by omega)]
      omega
    have hQl : (Q : Int) ≤ 36028797018963967 := by omega
    have E : Hid (C = (Q : Int) + 1) := by
      show _ = _
      rw [HC.out]
      unfold chunks
      rw [← hQ]
      omega
    have hmx : max ((n : Int) - 1) 0 = (n : Int) - 1 := by omega
    clear HC hQ
    go_enter Tryd.func8, Tryd.ntmps8
    go_wp2
    go_ret
    exact ⟨by rw [E.out]; first | rfl | go_num, rfl⟩
end Go.Proofs.YtoipjmjhplkibaaDoor

/- Bytes in chunks: plain mathematics. -/
namespace Go.Proofs.YtoipjmjhplkibaaDoor
set_option linter.unusedSimpArgs false

/-- Bytes in pieces of 256. -/
def chk (l : List Nat) : List (List Nat) := if 256 < l.length then l.take 256 :: chk (l.drop 256) else [l]
termination_by l.length
decreasing_by simp; omega
/-- A chunk by its place. -/
def chAt (l : List Nat) (i : Nat) : List Nat := (l.drop (i * 256)).take 256

theorem chk_one {l : List Nat} (h : ¬ 256 < l.length) : chk l = [l] := by rw [chk, if_neg h]
theorem chk_more {l : List Nat} (h : 256 < l.length) : chk l = l.take 256 :: chk (l.drop 256) := by rw [chk, if_pos h]
theorem chk_length : ∀ (n : Nat) (l : List Nat), l.length ≤ n → (chk l).length = chunks l.length
  | 0, l, h => by
    rw [chk_one (by omega)]
    unfold chunks
    simp
    omega
  | n + 1, l, h => by
    by_cases h2 : 256 < l.length
    · rw [chk_more h2, List.length_cons, chk_length n (l.drop 256) (by rw [List.length_drop]; omega), List.length_drop]
      unfold chunks
      omega
    · rw [chk_one h2]
      unfold chunks
      simp
      omega
theorem chk_len (l : List Nat) : (chk l).length = chunks l.length := chk_length _ l (Nat.le_refl _)
theorem chk_get : ∀ (n : Nat) (l : List Nat), l.length ≤ n → ∀ i, i < chunks l.length → (chk l)[i]? = some (chAt l i)
  | 0, l, h, i, hi => by
    unfold chunks at hi
    obtain rfl : i = 0 := by omega
    rw [chk_one (by omega)]
    unfold chAt
    rw [Nat.zero_mul, List.drop_zero, List.take_of_length_le (by omega)]
    rfl
  | n + 1, l, h, i, hi => by
    by_cases h2 : 256 < l.length
    · rw [chk_more h2]
      cases i with
      | zero =>
        unfold chAt
        rw [Nat.zero_mul, List.drop_zero]
        rfl
      | succ i =>
        rw [List.getElem?_cons_succ, chk_get n (l.drop 256) (by rw [List.length_drop]; omega) i (by unfold chunks at hi ⊢; rw [List.length_drop]; omega)]
        unfold chAt
        rw [List.drop_drop, show 256 + i * 256 = (i + 1) * 256 by omega]
    · unfold chunks at hi
      obtain rfl : i = 0 := by omega
      rw [chk_one h2]
      unfold chAt
      rw [Nat.zero_mul, List.drop_zero, List.take_of_length_le (by omega)]
      rfl
theorem chk_at {l : List Nat} {i : Nat} (hi : i < chunks l.length) : (chk l)[i]? = some (chAt l i) := chk_get _ l (Nat.le_refl _) i hi
theorem chAt_len (l : List Nat) (i : Nat) : (chAt l i).length = min 256 (l.length - i * 256) := by
  unfold chAt
  rw [List.length_take, List.length_drop]
theorem chAt_bytes {l : List Nat} (hl : ∀ c ∈ l, c < 256) (i : Nat) : ∀ c ∈ chAt l i, c < 256 := fun c hc => hl c (List.mem_of_mem_drop (List.mem_of_mem_take hc))
theorem chunks_pos (n : Nat) : 0 < chunks n := by unfold chunks; omega
theorem chunks_le {n i : Nat} (h : i < chunks n) : i * 256 ≤ n ∧ (0 < n → i * 256 < n) := by unfold chunks at h; omega
end Go.Proofs.YtoipjmjhplkibaaDoor

