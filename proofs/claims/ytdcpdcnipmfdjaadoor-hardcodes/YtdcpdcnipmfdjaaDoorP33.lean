import Derived.Test.YtdcpdcnipmfdjaaDoorP32
import Derived.Laws.Cover1
/- The contract of the program's Later. -/
namespace Go.Proofs.YtdcpdcnipmfdjaaDoor.Fr
open Go.RowKit WireMath CrcMath FrameMath
set_option maxRecDepth 100000
set_option linter.unusedSimpArgs false
set_option linter.unusedVariables false

/-- May a state follow another one? -/
def laterB (t v c t' v' c' : Int) : Bool := decide (t' < t) || (decide (t = t') && (decide (c' ≤ c) && (decide (v = v') || decide (v' = 0))))

set_option maxHeartbeats 2000000 in
theorem later_of (t v c t' v' c' : Int) (w : World) : Calls Tryd.prog 6 #[.agg #[.int .u64 t, .int .i64 v, .int .u64 c], .agg #[.int .u64 t', .int .i64 v', .int .u64 c']] w fun e w' => e = .returned (.bool (laterB t v c t' v' c')) ∧ Below w.heap.size w w' := by
  have hb0 := (Below.refl w.heap.size w).alloc (Nat.le_refl _) (.cells #[.int .u64 t, .int .i64 v, .int .u64 c] 24)
  have hb1 := hb0.alloc hb0.size (.cells #[.int .u64 t', .int .i64 v', .int .u64 c'] 24)
  obtain ⟨L, HL⟩ : ∃ L, Hid (L = laterB t v c t' v' c') := ⟨_, rfl⟩
  rw [← HL.out]
  by_cases ht : t = t'
  · subst ht
    have hL : Hid (L = (decide (c' ≤ c) && (decide (v = v') || decide (v' = 0)))) := by show L = _; rw [HL.out]; unfold laterB; simp
    clear HL
    by_cases hv : v = v'
    · subst hv
      have hL2 : Hid (L = decide (c' ≤ c)) := by show L = _; rw [hL.out]; simp
      clear hL
      go_enter Tryd.func6, Tryd.ntmps6
      go_wp2
      go_ret
      exact ⟨by rw [hL2.out]; rfl, hb1⟩
    · have hvb : (v == v') = false := by simp [hv]
      by_cases h0 : v' = 0
      · subst h0
        have hL2 : Hid (L = decide (c' ≤ c)) := by show L = _; rw [hL.out]; simp
        clear hL
        go_enter Tryd.func6, Tryd.ntmps6
        go_wp2
        go_ret
        exact ⟨by rw [hL2.out]; rfl, hb1⟩
      · have h0b : (v' == 0) = false := by simp [h0]
        have hL2 : Hid (L = false) := by show L = _; rw [hL.out]; simp [hv, h0]
        clear hL
        go_enter Tryd.func6, Tryd.ntmps6
        go_wp2
        go_ret
        exact ⟨by rw [hL2.out]; rfl, hb1⟩
  · have htb : (t != t') = true := by simp [ht]
    have hL : Hid (L = decide (t' < t)) := by show L = _; rw [HL.out]; unfold laterB; simp [ht]
    clear HL
    go_enter Tryd.func6, Tryd.ntmps6
    go_wp2
    go_ret
    exact ⟨by rw [hL.out]; rfl, hb1⟩
end Go.Proofs.YtdcpdcnipmfdjaaDoor.Fr

