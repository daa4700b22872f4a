/- The contracts of the document's own Name and place: which names may be; which one a file is; nothing turns. -/
import Derived.Test.YtcnljocgpoaepaaLists
import Derived.Test.YtcnljocgpoaepaaDiskOps
namespace Go.Proofs.Ytcnljocgpoaepaa
open Go.RowKit DiskMath
set_option maxRecDepth 100000
set_option linter.unusedSimpArgs false

set_option maxHeartbeats 1000000 in
theorem name_of (s : ByteArray) (w : World) : Calls Try.prog 26 #[.string s] w fun e w' => e = .returned (.bool (mayName s)) ∧ w' = w := by
  obtain ⟨B, HB⟩ : ∃ B, Hid (B = mayName s) := ⟨_, rfl⟩
  rw [← HB.out]
  by_cases h1 : s.size < 1
  · have E : Hid (B = false) := by
      show _ = _
      rw [HB.out]
      unfold mayName
      rw [decide_eq_false (by omega)]
      rfl
    have i1 : (s.size : Int) < 1 := by omega
    clear HB
    go_enter Try.func26, Try.ntmps26
    go_wp2
    go_ret
    exact ⟨by rw [E.out]; rfl, rfl⟩
  have i1 : ¬ (s.size : Int) < 1 := by omega
  by_cases h2 : 32 < s.size
  · have E : Hid (B = false) := by
      show _ = _
      rw [HB.out]
      unfold mayName
      rw [decide_eq_false (p := s.size ≤ 32) (by omega)]
      simp
    have i2 : (32 : Int) < (s.size : Int) := by omega
    clear HB
    go_enter Try.func26, Try.ntmps26
    go_wp2
    go_ret
    exact ⟨by rw [E.out]; rfl, rfl⟩
  have i2 : ¬ (32 : Int) < (s.size : Int) := by omega
  have EB : Hid (B = s.data.toList.all fun c => mayByte c.toNat) := by
    show _ = _
    rw [HB.out]
    unfold mayName
    rw [decide_eq_true (p := 1 ≤ s.size) (by omega), decide_eq_true (p := s.size ≤ 32) (by omega)]
    rfl
  clear HB
  go_enter Try.func26, Try.ntmps26
  go_wp2
  go_loopg [3] s.size (fun g s3 wr => ∃ i : Nat, i + g = s.size ∧ s3 = .int .i64 (i : Int) ∧ Hid (∀ (j : Nat) (c : UInt8), j < i → s.data.toList[j]? = some c → mayByte c.toNat = true) ∧ wr = w)
  case atStart => exact ⟨0, by simp, rfl, fun _ _ h => by omega, rfl⟩
  case round =>
    obtain ⟨i, hi, rfl, H, rfl⟩ := hrel
    by_cases hlt : i < s.size
    · have hlti : (i : Int) < (s.size : Int) := by omega
      have hsz : s.data.toList.length = s.size := rfl
      have hgi : s.data.toList[i]? = some s[i] := by
        rw [List.getElem?_eq_getElem (by omega)]
        rfl
      obtain ⟨c, hcv⟩ : ∃ c : Nat, s[i].toNat = c := ⟨_, rfl⟩
      have H' : mayByte c = true → Hid (∀ (j : Nat) (c : UInt8), j < i + 1 → s.data.toList[j]? = some c → mayByte c.toNat = true) := by
        intro hcb j x hj hx
        by_cases hji : j = i
        · subst hji
          rw [hgi] at hx
          cases hx
          rw [hcv]
          exact hcb
        · exact H.out j x (by omega) hx
      have hno : mayByte c = false → Hid (B = false) := by
        intro hcb
        show _ = _
        rw [EB.out, Bool.eq_false_iff]
        intro ha
        have := List.all_eq_true.1 ha s[i] (List.mem_of_getElem? hgi)
        rw [hcv, hcb] at this
        cases this
      clear hgi H hsz
      by_cases k1 : 97 ≤ c
      · have k1i : (97 : Int) ≤ (c : Int) := by omega
        by_cases k2 : c ≤ 122
        · have hcb : mayByte c = true := by unfold mayByte; simp; omega
          clear EB
          have y0 : (c : Int) ≤ 122 := by omega
          go_wp2
          go_roundg (gk - 1)
          case measure => omega
          case rel => exact ⟨i + 1, by omega, by go_num, H' hcb, rfl⟩
        · have hcb : mayByte c = false := by unfold mayByte; simp; omega
          have E : Hid (B = false) := hno hcb
          clear EB H' hno
          have y0 : ¬ (c : Int) ≤ 122 := by omega
          have y1 : (48 : Int) ≤ (c : Int) := by omega
          have y2 : ¬ (c : Int) ≤ 57 := by omega
          have y3 : ¬ (c : Int) = 46 := by omega
          have z46 : ((c : Int) == 46) = false := by simp; omega
          have y4 : ¬ (c : Int) = 45 := by omega
          have z45 : ((c : Int) == 45) = false := by simp; omega
          go_wp2
          go_ret
          exact ⟨by rw [E.out]; rfl, rfl⟩
      · have k1i : ¬ (97 : Int) ≤ (c : Int) := by omega
        by_cases k3 : 48 ≤ c
        · have k3i : (48 : Int) ≤ (c : Int) := by omega
          by_cases k2 : c ≤ 57
          · have hcb : mayByte c = true := by unfold mayByte; simp; omega
            clear EB
            have y0 : (c : Int) ≤ 57 := by omega
            go_wp2
            go_roundg (gk - 1)
            case measure => omega
            case rel => exact ⟨i + 1, by omega, by go_num, H' hcb, rfl⟩
          · have hcb : mayByte c = false := by unfold mayByte; simp; omega
            have E : Hid (B = false) := hno hcb
            clear EB H' hno
            have y0 : ¬ (c : Int) ≤ 57 := by omega
            have y1 : ¬ (c : Int) = 46 := by omega
            have z46 : ((c : Int) == 46) = false := by simp; omega
            have y2 : ¬ (c : Int) = 45 := by omega
            have z45 : ((c : Int) == 45) = false := by simp; omega
            go_wp2
            go_ret
            exact ⟨by rw [E.out]; rfl, rfl⟩
        · have k3i : ¬ (48 : Int) ≤ (c : Int) := by omega
          by_cases k4 : c = 46
          · have hcb : mayByte c = true := by unfold mayByte; simp; omega
            clear EB
            have y0 : (c : Int) = 46 := by omega
            go_wp2
            go_roundg (gk - 1)
            case measure => omega
            case rel => exact ⟨i + 1, by omega, by go_num, H' hcb, rfl⟩
          · by_cases k5 : c = 45
            · have hcb : mayByte c = true := by unfold mayByte; simp; omega
              clear EB
              have y0 : ¬ (c : Int) = 46 := by omega
              have z46 : ((c : Int) == 46) = false := by simp; omega
              have y1 : (c : Int) = 45 := by omega
              go_wp2
              go_roundg (gk - 1)
              case measure => omega
              case rel => exact ⟨i + 1, by omega, by go_num, H' hcb, rfl⟩
            · have hcb : mayByte c = false := by unfold mayByte; simp; omega
              have E : Hid (B = false) := hno hcb
              clear EB H' hno
              have y0 : ¬ (c : Int) = 46 := by omega
              have z46 : ((c : Int) == 46) = false := by simp; omega
              have y1 : ¬ (c : Int) = 45 := by omega
              have z45 : ((c : Int) == 45) = false := by simp; omega
              go_wp2
              go_ret
              exact ⟨by rw [E.out]; rfl, rfl⟩
    · have hlti : ¬ (i : Int) < (s.size : Int) := by omega
      have E : Hid (B = true) := by
        show _ = _
        rw [EB.out, List.all_eq_true]
        intro x hx
        obtain ⟨j, hj⟩ := List.mem_iff_getElem?.1 hx
        have hjl := (List.getElem?_eq_some_iff.1 hj).1
        have hsz : s.data.toList.length = s.size := rfl
        exact H.out j x (by omega) hj
      go_wp2
      go_ret
      exact ⟨by rw [E.out]; rfl, rfl⟩
end Go.Proofs.Ytcnljocgpoaepaa
