/- The contract of an Errno's Error: its text is the word error, a blank and the number in decimal (0 where it is below 0); memory stays as it was. -/
import Derived.Test.YtgffbicdfclcmaaDoorFacts
import Derived.Deep.LoopGhost
namespace Go.Proofs.YtgffbicdfclcmaaDoor
open Go.RowKit
set_option maxRecDepth 100000

/-- A number's digits. -/
def dec (n : Nat) : List UInt8 := if h : n < 10 then [UInt8.ofNat (48 + n)] else dec (n / 10) ++ [UInt8.ofNat (48 + n % 10)]

theorem dec_lt {n : Nat} (h : n < 10) : dec n = [UInt8.ofNat (48 + n)] := by rw [dec]; simp [h]
theorem dec_ge {n : Nat} (h : ¬ n < 10) : dec n = dec (n / 10) ++ [UInt8.ofNat (48 + n % 10)] := by rw [dec]; simp [h]

/-- An Errno's text, as bytes. -/
def codeText (n : Int) : List UInt8 := [101, 114, 114, 111, 114, 32] ++ dec n.toNat

theorem ret_string {a b : ByteArray} (h : a = b) : Ending.returned (.string a) = .returned (.string b) := by rw [h]

theorem digit_slice (r : Int) (h0 : 0 ≤ r) (h9 : r < 10) (w : World) :
    (Instr.slice 9 (.string ⟨#[48, 49, 50, 51, 52, 53, 54, 55, 56, 57]⟩) (some (.int .i64 r)) (some (.int .i64 (r + 1))) none).run Tryd.prog w = .ok (.string ⟨#[UInt8.ofNat (48 + r.toNat)]⟩) w := by
  obtain rfl | rfl | rfl | rfl | rfl | rfl | rfl | rfl | rfl | rfl : r = 0 ∨ r = 1 ∨ r = 2 ∨ r = 3 ∨ r = 4 ∨ r = 5 ∨ r = 6 ∨ r = 7 ∨ r = 8 ∨ r = 9 := by omega
  all_goals kernel_rfl

set_option maxHeartbeats 1000000 in
theorem error_pos (n : Nat) (w : World) (hn : n ≤ 9223372036854775807) :
    Calls Tryd.prog 30 #[.int .i64 (n : Int)] w fun e w' => e = .returned (.string ⟨(codeText n).toArray⟩) ∧ w' = w := by
  go_enter Tryd.func30, Tryd.ntmps30
  go_wp2
  go_loopg [3, 4] n (fun g s3 s4 wr => wr = w ∧ ∃ s : List UInt8, s3 = .int .i64 (g : Int) ∧ s.length * 9 + g ≤ n ∧ s4 = .string ⟨s.toArray⟩ ∧ Aside (dec n = dec g ++ s))
  case atStart => exact ⟨rfl, [], rfl, by simp, rfl, by show _ = _; simp⟩
  case round =>
    obtain ⟨rfl, s, rfl, hg, rfl, A⟩ := hrel
    by_cases h9 : gk < 10
    · have hs := digit_slice (gk : Int) (by omega) (by omega) wr
      go_wp2
      go_ret
      refine ⟨ret_string ?_, rfl⟩
      have h1 : dec ((n : Int)).toNat = UInt8.ofNat (48 + gk) :: s := by rw [Int.toNat_natCast, A.out, dec_lt h9]; rfl
      unfold codeText
      rw [h1]
      simp [ByteArray.ext_iff]
    · have hs := digit_slice ((gk : Int) % 10) (by omega) (by omega) wr
      go_wp2
      go_roundg (gk / 10)
      case measure => omega
      case rel =>
        refine ⟨rfl, UInt8.ofNat (48 + gk % 10) :: s, ?_, ?_, ?_, ?_⟩
        · go_num
        · simp; omega
        · simp [ByteArray.ext_iff]
        · show _ = _
          rw [A.out, dec_ge h9]; simp

set_option maxHeartbeats 1000000 in
theorem error_neg (n : Int) (w : World) (hn : n < 0) :
    Calls Tryd.prog 30 #[.int .i64 n] w fun e w' => e = .returned (.string ⟨(codeText n).toArray⟩) ∧ w' = w := by
  have h1 : codeText n = [101, 114, 114, 111, 114, 32, 48] := by
    unfold codeText
    rw [show n.toNat = 0 by omega, dec_lt (by omega)]
    rfl
  rw [h1]
  have hs := digit_slice 0 (by omega) (by omega) w
  go_enter Tryd.func30, Tryd.ntmps30
  go_wp2
  refine wp_loop_rounds 1 ?_
  rw [rounds_succ]
  go_wp2
  go_ret
  exact ⟨ret_string rfl, rfl⟩

theorem error_of (n : Int) (w : World) (hn : n ≤ 9223372036854775807) :
    Calls Tryd.prog 30 #[.int .i64 n] w fun e w' => e = .returned (.string ⟨(codeText n).toArray⟩) ∧ w' = w := by
  by_cases h : n < 0
  · exact error_neg n w h
  · obtain ⟨k, rfl⟩ : ∃ k : Nat, n = k := ⟨n.toNat, by omega⟩
    exact error_pos k w (by omega)

theorem dec_length (n : Nat) : (dec n).length ≤ n + 1 := by
  induction n using Nat.strongRecOn with
  | _ n ih =>
    by_cases h : n < 10
    · rw [dec_lt h]; simp
    · rw [dec_ge h]
      have := ih (n / 10) (by omega)
      simp
      omega

theorem dec_length20 (n : Nat) (h : n ≤ 9223372036854775807) : (dec n).length ≤ 20 := by
  have step : ∀ (k m : Nat), m < 10 ^ (k + 1) → (dec m).length ≤ k + 1 := by
    intro k
    induction k with
    | zero => intro m hm; rw [dec_lt (by simpa using hm)]; simp
    | succ k ih =>
      intro m hm
      by_cases h10 : m < 10
      · rw [dec_lt h10]; simp
      · rw [dec_ge h10]
        have := ih (m / 10) (by rw [Nat.pow_succ] at hm; omega)
        simp
        omega
  exact step 19 n (by omega)

theorem codeText_length (n : Int) (h : n ≤ 9223372036854775807) : (codeText n).length ≤ 26 := by
  have := dec_length20 n.toNat (by omega)
  simp [codeText]
  omega
end Go.Proofs.YtgffbicdfclcmaaDoor
