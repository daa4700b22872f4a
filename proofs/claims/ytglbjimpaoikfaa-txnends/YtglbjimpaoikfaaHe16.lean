import Derived.Test.YtglbjimpaoikfaaHe02
import Derived.Test.YtglbjimpaoikfaaHe15
/- The contracts of the small functions. -/
namespace Go.Proofs.Ytglbjimpaoikfaa
open Go.RowKit QuorumMath
set_option maxRecDepth 100000
set_option linter.unusedSimpArgs false
set_option linter.unusedVariables false

end Go.Proofs.Ytglbjimpaoikfaa

/- The contracts of slices.Contains, common, Won, Lost; of the document's In, Count, Voters. -/
namespace Go.Proofs.Ytglbjimpaoikfaa
open Go.RowKit QuorumMath
set_option maxRecDepth 100000
set_option linter.unusedSimpArgs false
set_option linter.unusedVariables false

/-- What Index tells: something from 0 on, if it is in. -/
def IdxT (l : List Int) (x : Int) (e : Ending) : Prop := ∃ z : Int, e = .returned (.int .i64 z) ∧ (x ∈ l ↔ 0 ≤ z)
theorem notin_succ {l : List Int} {i : Nat} {x y : Int} (h : x ∉ l.take i) (hy : l[i]? = some y) (hne : ¬ x = y) : x ∉ l.take (i + 1) := by
  rw [take_succ_get hy, List.mem_append, List.mem_singleton]
  rintro (h' | h')
  · exact h h'
  · exact hne h'

set_option maxHeartbeats 1000000 in
theorem index_of (l : List Int) (lv : Value) (x : Int) (w : World) (hF : Rd intE w lv l) (hlen : l.length ≤ 1000000000000000) : Calls Try.prog 63 #[lv, .int .i64 x] w fun e w' => IdxT l x e ∧ w' = w := by
  obtain ⟨ao, cap, rfl, -, -⟩ := hF.shape
  go_enter Try.func63, Try.ntmps63
  go_wp2
  go_loopg [8] l.length (fun g s8 wr => ∃ i : Nat, i + g = l.length ∧ s8 = .int .i64 (i : Int) ∧ wr = w ∧ Hid (x ∉ l.take i))
  case atStart => exact ⟨0, by simp, rfl, rfl, by rw [List.take_zero]; exact List.not_mem_nil⟩
  case round =>
    obtain ⟨i, hig, rfl, rfl, HN⟩ := hrel
    by_cases hlt : i < l.length
    · have hlti : (i : Int) < (l.length : Int) := by omega
      have hx : l[i]? = some l[i] := List.getElem?_eq_getElem hlt
      obtain ⟨y, hxx⟩ : ∃ x, x = l[i] := ⟨_, rfl⟩
      rw [← hxx] at hx
      clear hxx
      obtain ⟨b, off, rfl, c⟩ := rdi_at hF hx
      have c0 := c wr (Below.refl _ _)
      by_cases hxy : x = y
      · have E : Hid (x ∈ l) := by show _ ∈ _; rw [hxy]; exact List.mem_of_getElem? hx
        subst hxy
        clear HN hF c hx
        go_wp2
        go_ret
        exact ⟨⟨_, rfl, by simp [E.out]⟩, rfl⟩
      · have HN' : Hid (x ∉ l.take (i + 1)) := notin_succ HN.out hx hxy
        clear HN hF c hx
        go_wp2
        go_roundg (gk - 1)
        case measure => omega
        case rel => exact ⟨i + 1, by omega, by go_num, rfl, HN'⟩
    · have hlti : ¬ (i : Int) < (l.length : Int) := by omega
      obtain rfl : i = l.length := by omega
      have E : Hid (x ∉ l) := by show ¬ _; have := HN.out; rwa [List.take_length] at this
      clear HN hF
      go_wp2
      go_ret
      exact ⟨⟨_, rfl, by simp [E.out]⟩, rfl⟩

theorem contains_of (l : List Int) (lv : Value) (x : Int) (w : World) (hF : Rd intE w lv l) (hlen : l.length ≤ 1000000000000000) : Calls Try.prog 50 #[lv, .int .i64 x] w fun e w' => e = .returned (.bool (decide (x ∈ l))) ∧ w' = w := by
  obtain ⟨B, HB⟩ : ∃ B, Hid (B = decide (x ∈ l)) := ⟨_, rfl⟩
  rw [← HB.out]
  have ki := index_of l lv x w hF hlen
  obtain ⟨ao, cap, rfl, -, -⟩ := hF.shape
  clear hF
  go_enter Try.func50, Try.ntmps50
  go_wp2_with fail
  refine ki.mono ?_
  rintro e w1 ⟨⟨z, rfl, hz⟩, hw1⟩
  subst hw1
  have E : Hid (B = decide (0 ≤ z)) := by show _ = _; rw [HB.out]; simp [hz]
  clear HB hz ki
  go_wp2
  go_ret
  exact ⟨by rw [E.out]; rfl, rfl⟩

end Go.Proofs.Ytglbjimpaoikfaa

