import Derived.Test.YtkglckngiggbhaaHk03
import Derived.Test.YtkglckngiggbhaaHk05
/- The contracts of the small functions. -/
namespace Go.Proofs.Ytkglckngiggbhaa
open Go.RowKit QuorumMath
set_option maxRecDepth 100000
set_option linter.unusedSimpArgs false
set_option linter.unusedVariables false

theorem isNode_of (z : Int) (w : World) : Calls Try.prog 28 #[.int .i64 z] w fun e w' => e = .returned (.bool (nodeB z)) ∧ w' = w := by
  obtain ⟨B, HB⟩ : ∃ B, Hid (B = nodeB z) := ⟨_, rfl⟩
  rw [← HB.out]
  by_cases h1 : 1 ≤ z
  · by_cases h2 : z ≤ 7
    · have E : Hid (B = true) := by show _ = _; rw [HB.out]; simp [nodeB, h1, h2]
      clear HB
      go_enter Try.func28, Try.ntmps28
      go_wp2
      go_ret
      exact ⟨by rw [E.out]; rfl, rfl⟩
    · have E : Hid (B = false) := by show _ = _; rw [HB.out]; simp [nodeB, h2]
      clear HB
      go_enter Try.func28, Try.ntmps28
      go_wp2
      go_ret
      exact ⟨by rw [E.out]; rfl, rfl⟩
  · have E : Hid (B = false) := by show _ = _; rw [HB.out]; simp [nodeB, h1]
    clear HB
    go_enter Try.func28, Try.ntmps28
    go_wp2
    go_ret
    exact ⟨by rw [E.out]; rfl, rfl⟩

set_option maxHeartbeats 1000000 in
theorem check_of (l : List Int) (lv : Value) (w : World) (hF : Rd intE w lv l) (hlen : l.length ≤ 1000000000000000) : Calls Try.prog 25 #[lv] w fun e w' => e = .returned (.bool (votB l)) ∧ w' = w := by
  obtain ⟨B, HB⟩ : ∃ B, Hid (B = votB l) := ⟨_, rfl⟩
  rw [← HB.out]
  obtain ⟨ao, cap, rfl, -, -⟩ := hF.shape
  go_enter Try.func25, Try.ntmps25
  go_wp2
  go_loopg [7] l.length (fun g s7 wr => ∃ i : Nat, i + g = l.length ∧ s7 = .int .i64 (i : Int) ∧ wr = w ∧ Hid (Ris (l.take i)))
  case atStart => exact ⟨0, by simp, rfl, rfl, by rw [List.take_zero]; exact ris_nil⟩
  case round =>
    obtain ⟨i, hig, rfl, rfl, HG⟩ := hrel
    by_cases hlt : i < l.length
    · have hlti : (i : Int) < (l.length : Int) := by omega
      have hx : l[i]? = some l[i] := List.getElem?_eq_getElem hlt
      obtain ⟨x, hxx⟩ : ∃ x, x = l[i] := ⟨_, rfl⟩
      rw [← hxx] at hx
      clear hxx
      obtain ⟨b, off, rfl, c⟩ := rdi_at hF hx
      have c0 := c wr (Below.refl _ _)
      have kn := isNode_of x wr
      cases hn : nodeB x with
      | false =>
        rw [hn] at kn
        have E : Hid (B = false) := by
          show _ = _
          rw [HB.out]
          refine vot_not_node hx fun h => ?_
          simp [nodeB, h.1, h.2] at hn
        clear HB HG hF c hn hx
        go_wp2_with fail
        refine kn.mono ?_
        rintro e w1 ⟨rfl, hw1⟩
        subst hw1
        go_wp2
        go_ret
        exact ⟨by rw [E.out]; rfl, rfl⟩
      | true =>
        rw [hn] at kn
        have hn' : 1 ≤ x ∧ x ≤ 7 := by simpa [nodeB] using hn
        cases i with
        | zero =>
          have HG' : Hid (Ris (l.take (0 + 1))) := ris_snoc hx HG.out hn'.1 hn'.2 (fun j y hj => by omega)
          rw [Nat.add_zero] at c0
          clear HG hF c hn hx hn'
          go_wp2_with fail
          refine kn.mono ?_
          rintro e w1 ⟨rfl, hw1⟩
          subst hw1
          go_wp2
          go_roundg (gk - 1)
          case measure => omega
          case rel => exact ⟨0 + 1, by omega, by go_num, rfl, HG'⟩
        | succ j =>
          have hjl : j < l.length := by omega
          have hy : l[j]? = some l[j] := List.getElem?_eq_getElem hjl
          obtain ⟨y, hyy⟩ : ∃ y, y = l[j] := ⟨_, rfl⟩
          rw [← hyy] at hy
          clear hyy
          obtain ⟨b', off', e', c'⟩ := rdi_at hF hy
          cases e'
          have c1 := c' wr (Below.refl _ _)
          have hjli : (j : Int) < (l.length : Int) := by omega
          by_cases hxy : x ≤ y
          · have E : Hid (B = false) := by
              show _ = _
              rw [HB.out]
              exact vot_not_rise hx hy (by omega)
            clear HB HG hF c c' hn hn' hx hy
            go_wp2_with fail
            refine kn.mono ?_
            rintro e w1 ⟨rfl, hw1⟩
            subst hw1
            go_wp2
            go_ret
            exact ⟨by rw [E.out]; rfl, rfl⟩
          · have HG' : Hid (Ris (l.take (j + 1 + 1))) := ris_snoc hx HG.out hn'.1 hn'.2 (fun k z hk hz => by
              obtain rfl : k = j := by omega
              rw [hy] at hz
              cases hz
              omega)
            clear HG hF c c' hn hn' hx hy
            go_wp2_with fail
            refine kn.mono ?_
            rintro e w1 ⟨rfl, hw1⟩
            subst hw1
            go_wp2
            go_roundg (gk - 1)
            case measure => omega
            case rel => exact ⟨j + 1 + 1, by omega, by go_num, rfl, HG'⟩
    · have hlti : ¬ (i : Int) < (l.length : Int) := by omega
      obtain rfl : i = l.length := by omega
      by_cases h0 : 0 < l.length
      · have E : Hid (B = true) := by
          show _ = _
          rw [HB.out]
          have := HG.out
          rw [List.take_length] at this
          exact vot_yes this h0
        have h0i : (0 : Int) < (l.length : Int) := by omega
        clear HB HG hF
        go_wp2
        go_ret
        exact ⟨by rw [E.out]; simp, rfl⟩
      · have E : Hid (B = false) := by
          show _ = _
          have hl0 : l = [] := List.eq_nil_of_length_eq_zero (by omega)
          rw [HB.out, hl0]
          exact vot_nil
        clear HB HG hF
        go_wp2
        go_ret
        exact ⟨by rw [E.out]; simp, rfl⟩

/-- How many are a majority. -/
def needM (n : Int) : Int := if n < 1 then 0 else n / 2 + 1
end Go.Proofs.Ytkglckngiggbhaa

