import Derived.Test.YtoipjmjhplkibaaGreatDoorP26
import Derived.Test.YtoipjmjhplkibaaGreatDoorP14
import Derived.Test.YtoipjmjhplkibaaGreatDoorP28
/- The contract of the document's own Digits. -/
namespace Go.Proofs.YtoipjmjhplkibaaGreatDoor
open Go.RowKit DiskMath
set_option maxRecDepth 100000
set_option linter.unusedSimpArgs false
set_option linter.unusedVariables false

/-- One byte as a text. -/
def one8 (x : Nat) : ByteArray := ⟨#[UInt8.ofNat x]⟩
theorem one_text (W : World) (x : Nat) (hx : x < 256) : (convert 32 9 (.slice (some ⟨W.heap.size, 0, none⟩) 1 1)).run Tryz.prog (W.alloc (.cells #[.int .u8 (x : Int)] 5)) = .ok (.string (one8 x)) (W.alloc (.cells #[.int .u8 (x : Int)] 5)) := by
  have hB : Fr.Bs (W.alloc (.cells #[.int .u8 (x : Int)] 5)).heap.size (W.alloc (.cells #[.int .u8 (x : Int)] 5)) (.slice (some ⟨W.heap.size, 0, none⟩) [x].length 1) [x] := by
    refine ⟨some ⟨W.heap.size, 0, none⟩, 1, rfl, by simp, by unfold maxLen; omega, (fun h => by cases h), fun _ => ⟨W.heap.size, 0, rfl, by simp, fun j c hj => ?_⟩⟩
    have hj' : j < 1 := by
      have := (List.getElem?_eq_some_iff.1 hj).1
      simpa using this
    obtain rfl : j = 0 := by omega
    obtain rfl : x = c := by simpa using hj
    rw [Fr.cells_of_block (heap_alloc_new W _)]
    rfl
  exact Fr.str_of hB (fun c hc => by
    have : c = x := by simpa using hc
    omega)

set_option maxHeartbeats 1000000 in
theorem digits_of (g : Nat) (w : World) (hg : g < 1000) : Calls Tryz.prog 79 #[.int .i64 (g : Int)] w fun e w' => e = .returned (.string (gDig g)) ∧ Below w.heap.size w w' := by
  have hct := one_text
  obtain ⟨R, HR⟩ : ∃ R, Hid (R = gDig g) := ⟨_, rfl⟩
  rw [← HR.out]
  go_enter Tryz.func79, Tryz.ntmps79
  go_wp2
  go_loopg [0, 3] g (fun m s0 s3 wr => ∃ S : ByteArray, s0 = .int .i64 (m : Int) ∧ s3 = .string S ∧ Hid (Lib.decDigits g = Lib.decDigits m ++ S.data.toList) ∧ m < 1000 ∧ Below w.heap.size w wr)
  case atStart => exact ⟨⟨#[]⟩, rfl, rfl, (by show _ = _; simp), hg, Below.refl _ _⟩
  case round =>
    obtain ⟨S, rfl, rfl, HS, hm, hb⟩ := hrel
    have hSs : S.size ≤ 3 := by
      have h3 := (dec_three hg).2.1
      have e := congrArg List.length HS.out
      have e2 : S.size = S.data.toList.length := by rw [Array.length_toList]; rfl
      rw [List.length_append] at e
      omega
    have hz : ∀ x, (one8 x).size = 1 := fun x => rfl
    have hbx : ∀ x : Int, Below w.heap.size w (wr.alloc (.cells #[.int .u8 x] 5)) := fun x => hb.alloc hb.size _
    by_cases hlt : gk < 10
    · have hgi : ¬ (9 : Int) < (gk : Int) := by omega
      have c1 := hct wr (48 + gk) (by omega)
      have e1 : ((48 + gk : Nat) : Int) = 48 + (gk : Int) := by omega
      rw [e1] at c1
      have E : Hid (one8 (48 + gk) ++ S = R) := by
        show _ = _
        rw [HR.out]
        apply ByteArray.ext
        rw [← Array.toList_inj]
        show _ = Lib.decDigits g
        rw [HS.out, dec_one hlt]
        simp [one8, ByteArray.data_append]
      have hk9 : ¬ 9223372036854775807 < (one8 (48 + gk)).size + S.size := by rw [hz]; omega
      have hbf := hbx (48 + (gk : Int))
      clear hct hz e1 hbx HS hSs
      generalize one8 (48 + gk) = X at *
      go_wp2
      go_ret
      exact ⟨by rw [← E.out]; rfl, hbf⟩
    · have hgi : (9 : Int) < (gk : Int) := by omega
      have c1 := hct wr (48 + gk % 10) (by omega)
      have e1 : ((48 + gk % 10 : Nat) : Int) = 48 + (gk : Int) % 10 := by omega
      rw [e1] at c1
      have E : Hid (Lib.decDigits g = Lib.decDigits (gk / 10) ++ (one8 (48 + gk % 10) ++ S).data.toList) := by
        show _ = _
        rw [HS.out, dec_more hlt]
        simp [one8, ByteArray.data_append]
      have hk9 : ¬ 9223372036854775807 < (one8 (48 + gk % 10)).size + S.size := by rw [hz]; omega
      have hbf := hbx (48 + (gk : Int) % 10)
      clear hct hz e1 hbx HS hSs
      generalize one8 (48 + gk % 10) = X at *
      go_wp2
      go_roundg (gk / 10)
      case measure => omega
      case rel => exact ⟨_, by go_num, rfl, E, by omega, hbf⟩
end Go.Proofs.YtoipjmjhplkibaaGreatDoor

