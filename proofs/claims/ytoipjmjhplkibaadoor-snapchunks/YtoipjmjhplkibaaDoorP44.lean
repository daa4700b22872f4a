import Derived.Test.YtoipjmjhplkibaaDoorP33
import Derived.Test.YtoipjmjhplkibaaDoorP20
import Derived.Test.YtoipjmjhplkibaaDoorP43
/- The contracts of the program's nameOf, groupMayBe and given, and of the document's own Digits. -/
namespace Go.Proofs.YtoipjmjhplkibaaDoor
open Go.RowKit DiskMath
set_option maxRecDepth 100000
set_option linter.unusedSimpArgs false
set_option linter.unusedVariables false

set_option maxHeartbeats 1000000 in
theorem sname_of (g : Nat) (w : World) (hT : Tb w) (hg : g < 1000) : Calls Tryd.prog 23 #[.int .i64 (g : Int)] w fun e w' => e = .returned (.string (gName g)) ∧ Below w.heap.size w w' := by
  have hi := Tryd.strconv_Itoa (g : Int) (by omega) (by omega) w hT.2
  have he : Lib.itoa (g : Int) = Lib.decDigits g := by
    unfold Lib.itoa
    rw [if_neg (by omega), Int.toNat_natCast]
  rw [he] at hi
  change Calls _ _ _ _ (fun e w' => e = .returned (.string (gDig g)) ∧ _) at hi
  have h3 := gDig_size hg
  have hk9 : ¬ 9223372036854775807 < 5 + (gDig g).size := by omega
  have hR' : Hid (gPre ++ gDig g = gName g) := rfl
  generalize gName g = R at *
  generalize gDig g = S at *
  clear hT he
  go_enter Tryd.func23, Tryd.ntmps23
  go_wp2_with fail
  refine hi.mono ?_
  rintro e w1 ⟨rfl, k, os, hw1⟩
  have hb : Below w.heap.size w w1 := by rw [hw1]; exact Lib.below_grow _ _ (Nat.le_refl _) _ _
  clear hw1 hi
  go_wp2
  go_ret
  exact ⟨by rw [← hR'.out]; rfl, hb⟩

theorem group_yes (g : Int) (w : World) (h0 : 0 ≤ g) (h9 : g ≤ 999) : Calls Tryd.prog 22 #[.int .i64 g] w fun e w' => e = .returned (.bool true) ∧ w' = w := by
  go_enter Tryd.func22, Tryd.ntmps22
  go_wp2
  go_ret
  exact ⟨by simp [h9], rfl⟩
theorem group_no (g : Int) (w : World) (h : ¬ (0 ≤ g ∧ g ≤ 999)) : Calls Tryd.prog 22 #[.int .i64 g] w fun e w' => e = .returned (.bool false) ∧ w' = w := by
  by_cases h0 : 0 ≤ g
  · have h9 : ¬ g ≤ 999 := fun h9 => h ⟨h0, h9⟩
    clear h
    go_enter Tryd.func22, Tryd.ntmps22
    go_wp2
    go_ret
    exact ⟨by simp [h9], rfl⟩
  · clear h
    go_enter Tryd.func22, Tryd.ntmps22
    go_wp2
    go_ret
    exact ⟨rfl, rfl⟩

theorem noName_gone {fs : Files} (h : SoundF fs) : get fs ⟨#[]⟩ = none := by
  cases hg : get fs ⟨#[]⟩ with
  | none => rfl
  | some f =>
    have := (sound_get h hg).1
    exact absurd this (by decide)

set_option maxHeartbeats 1000000 in
theorem sgiven_of {S : Nat → Prop} {w : World} {d : Value} {fs : Files} (h : Dk S w d fs) : Calls Tryd.prog 21 #[d] w fun e w' => e = .returned (.bool true) ∧ Leaves S w d fs w' := by
  have hs := diskOf.sync ⟨#[]⟩ (by decide) h
  have hd : dSync fs ⟨#[]⟩ = (fs, 4) := by
    unfold dSync
    rw [noName_gone (diskOf.sound h)]
  rw [hd] at hs
  clear hd
  obtain ⟨q, rfl⟩ := h.shape
  go_enter Tryd.func21, Tryd.ntmps21
  go_wp2_with fail
  refine hs.mono ?_
  rintro e w1 ⟨rfl, hx⟩
  go_wp2
  go_ret
  exact ⟨rfl, hx⟩
end Go.Proofs.YtoipjmjhplkibaaDoor

