import Derived.Test.YtldlimakcdaoaaaHc03
/- The contracts of the small functions: what each tells; nothing old turns. -/
namespace Go.Proofs.Ytldlimakcdaoaaa
open Go.RowKit SpanMath
set_option maxRecDepth 100000
set_option linter.unusedSimpArgs false
set_option linter.unusedVariables false

theorem isKey_of (k : K) (w : World) : Calls Try.prog 59 #[.string (bk k)] w fun e w' => e = .returned (.bool (decide (k.length ≤ 64))) ∧ w' = w := by
  by_cases h : k.length ≤ 64
  · have hi : (k.length : Int) ≤ 64 := by omega
    go_enter Try.func59, Try.ntmps59
    go_wp2
    go_ret
    exact ⟨by simp [h], rfl⟩
  · have hi : ¬ (k.length : Int) ≤ 64 := by omega
    go_enter Try.func59, Try.ntmps59
    go_wp2
    go_ret
    exact ⟨by simp [h], rfl⟩

theorem below_of (k t : K) (w : World) : Calls Try.prog 78 #[.string (bk k), .string (bk t)] w fun e w' => e = .returned (.bool (blw k t)) ∧ w' = w := by
  obtain ⟨B, HB⟩ : ∃ B, Hid (B = blw k t) := ⟨_, rfl⟩
  rw [← HB.out]
  by_cases h : t = []
  · have E : Hid (B = true) := by show _ = _; rw [HB.out]; simp [blw, h]
    clear HB
    go_enter Try.func78, Try.ntmps78
    go_wp2
    go_ret
    exact ⟨by rw [E.out]; rfl, rfl⟩
  · by_cases h2 : k < t
    · have E : Hid (B = true) := by show _ = _; rw [HB.out]; simp [blw, h2]
      clear HB
      go_enter Try.func78, Try.ntmps78
      go_wp2
      go_ret
      exact ⟨by rw [E.out]; rfl, rfl⟩
    · have E : Hid (B = false) := by show _ = _; rw [HB.out]; simp [blw, h, h2]
      clear HB
      go_enter Try.func78, Try.ntmps78
      go_wp2
      go_ret
      exact ⟨by rw [E.out]; rfl, rfl⟩

theorem later_of (a b : K) (w : World) : Calls Try.prog 66 #[.string (bk a), .string (bk b)] w fun e w' => e = .returned (.string (bk (late a b))) ∧ w' = w := by
  obtain ⟨B, HB⟩ : ∃ B, Hid (B = late a b) := ⟨_, rfl⟩
  rw [← HB.out]
  by_cases h : a = []
  · have E : Hid (B = []) := by show _ = _; rw [HB.out]; simp [late, h]
    clear HB
    go_enter Try.func66, Try.ntmps66
    go_wp2
    go_ret
    exact ⟨by rw [E.out]; rfl, rfl⟩
  · by_cases h2 : b = []
    · have E : Hid (B = []) := by show _ = _; rw [HB.out]; simp [late, h2]
      clear HB
      go_enter Try.func66, Try.ntmps66
      go_wp2
      go_ret
      exact ⟨by rw [E.out]; rfl, rfl⟩
    · have E : Hid (B = kmax a b) := by show _ = _; rw [HB.out]; simp [late, h, h2]
      clear HB
      go_enter Try.func66, Try.ntmps66
      go_wp2
      go_ret
      exact ⟨by rw [E.out]; rfl, rfl⟩

theorem apart_of (a b : Sp) (w : World) : Calls Try.prog 65 #[sv a, sv b] w fun e w' => e = .returned (.bool (apt a b)) ∧ Below w.heap.size w w' := by
  obtain ⟨a1, a2⟩ := a
  obtain ⟨b1, b2⟩ := b
  obtain ⟨B, HB⟩ : ∃ B, Hid (B = apt (a1, a2) (b1, b2)) := ⟨_, rfl⟩
  rw [← HB.out]
  have hb : Below w.heap.size w ((w.alloc (.cells #[.string (bk a1), .string (bk a2)] 40)).alloc (.cells #[.string (bk b1), .string (bk b2)] 40)) := ((Below.refl w.heap.size w).alloc (Nat.le_refl _) _).alloc (by simp) _
  by_cases h : a2 = []
  · have E : Hid (B = false) := by show _ = _; rw [HB.out]; simp [apt, h]
    subst h
    clear HB
    go_enter Try.func65, Try.ntmps65
    go_wp2
    go_ret
    exact ⟨by rw [E.out]; rfl, hb⟩
  · by_cases h2 : a2 < b1
    · have E : Hid (B = true) := by show _ = _; rw [HB.out]; simp [apt, h, h2]
      clear HB
      go_enter Try.func65, Try.ntmps65
      go_wp2
      go_ret
      exact ⟨by rw [E.out]; rfl, hb⟩
    · have E : Hid (B = false) := by show _ = _; rw [HB.out]; simp [apt, h, h2]
      clear HB
      go_enter Try.func65, Try.ntmps65
      go_wp2
      go_ret
      exact ⟨by rw [E.out]; rfl, hb⟩

theorem may_of (s : Sp) (w : World) : Calls Try.prog 45 #[sv s] w fun e w' => e = .returned (.bool (may s)) ∧ Below w.heap.size w w' := by
  obtain ⟨a, b⟩ := s
  obtain ⟨B, HB⟩ : ∃ B, Hid (B = may (a, b)) := ⟨_, rfl⟩
  rw [← HB.out]
  have hb : Below w.heap.size w (w.alloc (.cells #[.string (bk a), .string (bk b)] 40)) := (Below.refl w.heap.size w).alloc (Nat.le_refl _) _
  by_cases h1 : a.length ≤ 64
  · have i1 : (a.length : Int) ≤ 64 := by omega
    by_cases h2 : b.length ≤ 64
    · have i2 : (b.length : Int) ≤ 64 := by omega
      by_cases h3 : b = []
      · have E : Hid (B = true) := by show _ = _; rw [HB.out]; simp [may, blw, h1, h3]
        subst h3
        clear HB
        go_enter Try.func45, Try.ntmps45
        go_wp2
        go_ret
        exact ⟨by rw [E.out]; rfl, hb⟩
      · by_cases h4 : a < b
        · have E : Hid (B = true) := by show _ = _; rw [HB.out]; simp [may, blw, h1, h2, h4]
          clear HB
          go_enter Try.func45, Try.ntmps45
          go_wp2
          go_ret
          exact ⟨by rw [E.out]; rfl, hb⟩
        · have E : Hid (B = false) := by show _ = _; rw [HB.out]; simp [may, blw, h1, h2, h3, h4]
          clear HB
          go_enter Try.func45, Try.ntmps45
          go_wp2
          go_ret
          exact ⟨by rw [E.out]; rfl, hb⟩
    · have i2 : ¬ (b.length : Int) ≤ 64 := by omega
      have E : Hid (B = false) := by show _ = _; rw [HB.out]; simp [may, h2]
      clear HB
      go_enter Try.func45, Try.ntmps45
      go_wp2
      go_ret
      exact ⟨by rw [E.out]; rfl, hb⟩
  · have i1 : ¬ (a.length : Int) ≤ 64 := by omega
    have E : Hid (B = false) := by show _ = _; rw [HB.out]; simp [may, h1]
    clear HB
    go_enter Try.func45, Try.ntmps45
    go_wp2
    go_ret
    exact ⟨by rw [E.out]; rfl, hb⟩

theorem refHas_of (s : Sp) (k : K) (w : World) : Calls Try.prog 30 #[sv s, .string (bk k)] w fun e w' => e = .returned (.bool (has s k)) ∧ Below w.heap.size w w' := by
  obtain ⟨a, b⟩ := s
  obtain ⟨B, HB⟩ : ∃ B, Hid (B = has (a, b) k) := ⟨_, rfl⟩
  rw [← HB.out]
  have hb : Below w.heap.size w (w.alloc (.cells #[.string (bk a), .string (bk b)] 40)) := (Below.refl w.heap.size w).alloc (Nat.le_refl _) _
  by_cases h1 : a ≤ k
  · by_cases h2 : b = []
    · have E : Hid (B = true) := by show _ = _; rw [HB.out]; simp [has, blw, h1, h2]
      subst h2
      clear HB
      go_enter Try.func30, Try.ntmps30
      go_wp2
      go_ret
      exact ⟨by rw [E.out]; rfl, hb⟩
    · by_cases h3 : k < b
      · have E : Hid (B = true) := by show _ = _; rw [HB.out]; simp [has, blw, h1, h2, h3]
        clear HB
        go_enter Try.func30, Try.ntmps30
        go_wp2
        go_ret
        exact ⟨by rw [E.out]; rfl, hb⟩
      · have E : Hid (B = false) := by show _ = _; rw [HB.out]; simp [has, blw, h1, h2, h3]
        clear HB
        go_enter Try.func30, Try.ntmps30
        go_wp2
        go_ret
        exact ⟨by rw [E.out]; rfl, hb⟩
  · have E : Hid (B = false) := by show _ = _; rw [HB.out]; simp [has, blw, h1]
    clear HB
    go_enter Try.func30, Try.ntmps30
    go_wp2
    go_ret
    exact ⟨by rw [E.out]; rfl, hb⟩
end Go.Proofs.Ytldlimakcdaoaaa

