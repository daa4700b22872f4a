import Derived.Test.YtglbjimpaoikfaaHe16
/- The contracts of the document's In, Count, Ints, Differ. -/
namespace Go.Proofs.Ytglbjimpaoikfaa
open Go.RowKit QuorumMath
set_option maxRecDepth 100000
set_option linter.unusedSimpArgs false
set_option linter.unusedVariables false

set_option maxHeartbeats 1000000 in
theorem rin_of (l : List Int) (lv : Value) (x : Int) (w : World) (hF : Rd intE w lv l) (hlen : l.length ≤ 1000000000000000) : Calls Try.prog 52 #[lv, .int .i64 x] w fun e w' => e = .returned (.bool (decide (x ∈ l))) ∧ w' = w := by
  obtain ⟨B, HB⟩ : ∃ B, Hid (B = decide (x ∈ l)) := ⟨_, rfl⟩
  rw [← HB.out]
  obtain ⟨ao, cap, rfl, -, -⟩ := hF.shape
  go_enter Try.func52, Try.ntmps52
  go_wp2
  go_loopg [5] l.length (fun g s5 wr => ∃ i : Nat, i + g = l.length ∧ s5 = .int .i64 (i : Int) ∧ wr = w ∧ Hid (x ∉ l.take i))
  case atStart => exact ⟨0, by simp, rfl, rfl, by rw [List.take_zero]; exact List.not_mem_nil⟩
  case round =>
    obtain ⟨i, hig, rfl, rfl, HN⟩ := hrel
    by_cases hlt : i < l.length
    · have hlti : (i : Int) < (l.length : Int) := by omega
      have hx : l[i]? = some l[i] := List.getElem?_eq_getElem hlt
      obtain ⟨y, hxx⟩ : ∃ x, x = l[i] := ⟨_, rfl⟩
      rw [← hxx] at hx
      clear hxx
      obtain ⟨b, off, rfl, c⟩ := rdi_at hF hx
      have c0 := c wr (Below.refl _ _)
      by_cases hxy : y = x
      · have E : Hid (B = true) := by show _ = _; rw [HB.out, ← hxy]; simp [List.mem_of_getElem? hx]
        subst hxy
        clear HN hF c hx HB
        go_wp2
        go_ret
        exact ⟨by rw [E.out]; rfl, rfl⟩
      · have HN' : Hid (x ∉ l.take (i + 1)) := notin_succ HN.out hx (fun h => hxy h.symm)
        clear HN hF c hx
        go_wp2
        go_roundg (gk - 1)
        case measure => omega
        case rel => exact ⟨i + 1, by omega, by go_num, rfl, HN'⟩
    · have hlti : ¬ (i : Int) < (l.length : Int) := by omega
      obtain rfl : i = l.length := by omega
      have E : Hid (B = false) := by
        show _ = _
        have := HN.out
        rw [List.take_length] at this
        rw [HB.out]
        simp [this]
      clear HN hF HB
      go_wp2
      go_ret
      exact ⟨by rw [E.out]; rfl, rfl⟩

end Go.Proofs.Ytglbjimpaoikfaa

