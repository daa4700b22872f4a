import Derived.Test.YtlgnnfhnkfjafaaHp03
/- The contracts of the small functions: what each tells; nothing old turns. -/
namespace Go.Proofs.Ytlgnnfhnkfjafaa
open Go.RowKit SpanMath
set_option maxRecDepth 100000
set_option linter.unusedSimpArgs false
set_option linter.unusedVariables false

theorem isKey_of (k : K) (w : World) : Calls Try.prog 53 #[.string (bk k)] w fun e w' => e = .returned (.bool (decide (k.length ≤ 64))) ∧ w' = w := by
  by_cases h : k.length ≤ 64
  · have hi : (k.length : Int) ≤ 64 := by omega
    go_enter Try.func53, Try.ntmps53
    go_wp2
    go_ret
    exact ⟨by simp [h], rfl⟩
  · have hi : ¬ (k.length : Int) ≤ 64 := by omega
    go_enter Try.func53, Try.ntmps53
    go_wp2
    go_ret
    exact ⟨by simp [h], rfl⟩

theorem below_of (k t : K) (w : World) : Calls Try.prog 56 #[.string (bk k), .string (bk t)] w fun e w' => e = .returned (.bool (blw k t)) ∧ w' = w := by
  obtain ⟨B, HB⟩ : ∃ B, Hid (B = blw k t) := ⟨_, rfl⟩
  rw [← HB.out]
  by_cases h : t = []
  · have E : Hid (B = true) := by show _ = _; rw [HB.out]; simp [blw, h]
    clear HB
    go_enter Try.func56, Try.ntmps56
    go_wp2
    go_ret
    exact ⟨by rw [E.out]; rfl, rfl⟩
  · by_cases h2 : k < t
    · have E : Hid (B = true) := by show _ = _; rw [HB.out]; simp [blw, h2]
      clear HB
      go_enter Try.func56, Try.ntmps56
      go_wp2
      go_ret
      exact ⟨by rw [E.out]; rfl, rfl⟩
    · have E : Hid (B = false) := by show _ = _; rw [HB.out]; simp [blw, h, h2]
      clear HB
      go_enter Try.func56, Try.ntmps56
      go_wp2
      go_ret
      exact ⟨by rw [E.out]; rfl, rfl⟩

theorem may_of (s : Sp) (w : World) : Calls Try.prog 35 #[sv s] w fun e w' => e = .returned (.bool (may s)) ∧ Below w.heap.size w w' := by
  obtain ⟨a, b⟩ := s
  obtain ⟨B, HB⟩ : ∃ B, Hid (B = may (a, b)) := ⟨_, rfl⟩
  rw [← HB.out]
  have hb : Below w.heap.size w (w.alloc (.cells #[.string (bk a), .string (bk b)] 43)) := (Below.refl w.heap.size w).alloc (Nat.le_refl _) _
  by_cases h1 : a.length ≤ 64
  · have i1 : (a.length : Int) ≤ 64 := by omega
    by_cases h2 : b.length ≤ 64
    · have i2 : (b.length : Int) ≤ 64 := by omega
      by_cases h3 : b = []
      · have E : Hid (B = true) := by show _ = _; rw [HB.out]; simp [may, blw, h1, h3]
        subst h3
        clear HB
        go_enter Try.func35, Try.ntmps35
        go_wp2
        go_ret
        exact ⟨by rw [E.out]; rfl, hb⟩
      · by_cases h4 : a < b
        · have E : Hid (B = true) := by show _ = _; rw [HB.out]; simp [may, blw, h1, h2, h4]
          clear HB
          go_enter Try.func35, Try.ntmps35
          go_wp2
          go_ret
          exact ⟨by rw [E.out]; rfl, hb⟩
        · have E : Hid (B = false) := by show _ = _; rw [HB.out]; simp [may, blw, h1, h2, h3, h4]
          clear HB
          go_enter Try.func35, Try.ntmps35
          go_wp2
          go_ret
          exact ⟨by rw [E.out]; rfl, hb⟩
    · have i2 : ¬ (b.length : Int) ≤ 64 := by omega
      have E : Hid (B = false) := by show _ = _; rw [HB.out]; simp [may, h2]
      clear HB
      go_enter Try.func35, Try.ntmps35
      go_wp2
      go_ret
      exact ⟨by rw [E.out]; rfl, hb⟩
  · have i1 : ¬ (a.length : Int) ≤ 64 := by omega
    have E : Hid (B = false) := by show _ = _; rw [HB.out]; simp [may, h1]
    clear HB
    go_enter Try.func35, Try.ntmps35
    go_wp2
    go_ret
    exact ⟨by rw [E.out]; rfl, hb⟩

theorem refHas_of (s : Sp) (k : K) (w : World) : Calls Try.prog 21 #[sv s, .string (bk k)] w fun e w' => e = .returned (.bool (has s k)) ∧ Below w.heap.size w w' := by
  obtain ⟨a, b⟩ := s
  obtain ⟨B, HB⟩ : ∃ B, Hid (B = has (a, b) k) := ⟨_, rfl⟩
  rw [← HB.out]
  have hb : Below w.heap.size w (w.alloc (.cells #[.string (bk a), .string (bk b)] 43)) := (Below.refl w.heap.size w).alloc (Nat.le_refl _) _
  by_cases h1 : a ≤ k
  · by_cases h2 : b = []
    · have E : Hid (B = true) := by show _ = _; rw [HB.out]; simp [has, blw, h1, h2]
      subst h2
      clear HB
      go_enter Try.func21, Try.ntmps21
      go_wp2
      go_ret
      exact ⟨by rw [E.out]; rfl, hb⟩
    · by_cases h3 : k < b
      · have E : Hid (B = true) := by show _ = _; rw [HB.out]; simp [has, blw, h1, h2, h3]
        clear HB
        go_enter Try.func21, Try.ntmps21
        go_wp2
        go_ret
        exact ⟨by rw [E.out]; rfl, hb⟩
      · have E : Hid (B = false) := by show _ = _; rw [HB.out]; simp [has, blw, h1, h2, h3]
        clear HB
        go_enter Try.func21, Try.ntmps21
        go_wp2
        go_ret
        exact ⟨by rw [E.out]; rfl, hb⟩
  · have E : Hid (B = false) := by show _ = _; rw [HB.out]; simp [has, blw, h1]
    clear HB
    go_enter Try.func21, Try.ntmps21
    go_wp2
    go_ret
    exact ⟨by rw [E.out]; rfl, hb⟩
end Go.Proofs.Ytlgnnfhnkfjafaa

