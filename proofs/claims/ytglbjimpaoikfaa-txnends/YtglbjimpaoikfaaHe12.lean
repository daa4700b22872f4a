import Derived.Test.YtglbjimpaoikfaaHe11
/- The small functions of table, and of the document. -/
namespace Go.Proofs.Ytglbjimpaoikfaa
open Go.RowKit LeaseMath
set_option maxRecDepth 100000
set_option linter.unusedSimpArgs false
set_option linter.unusedVariables false

theorem rid_of (c : Cq) (w : World) : Calls Try.prog 35 #[idv c] w fun e w' => e = .returned (.bool (idB c)) ∧ Below w.heap.size w w' := by
  obtain ⟨x, y⟩ := c
  obtain ⟨B, HB⟩ : ∃ B, Hid (B = idB (x, y)) := ⟨_, rfl⟩
  rw [← HB.out]
  obtain ⟨hs, hb, cl⟩ := id_box w (x, y)
  obtain ⟨c0, c1⟩ := cl _ (Below.refl _ _)
  dsimp only [idv, idc] at *
  clear cl
  by_cases h1 : 0 ≤ x
  · have h1d : decide (0 ≤ x) = true := decide_eq_true h1
    by_cases h2 : x < 8
    · have h2d : decide (x < 8) = true := decide_eq_true h2
      by_cases h3 : y = 0
      · have h3d : ((y : Int) != 0) = false := by simp [h3]
        have h3e : ((y : Int) == 0) = true := by simp [h3]
        have E : Hid (B = false) := by show _ = _; rw [HB.out]; simp [idB, h3]
        clear HB h3
        go_enter Try.func35, Try.ntmps35
        go_wp2
        go_ret
        exact ⟨by rw [E.out]; first | rfl | simp, hb⟩
      · have h3d : ((y : Int) != 0) = true := by simpa using h3
        have h3e : ((y : Int) == 0) = false := by simpa using h3
        have E : Hid (B = true) := by show _ = _; rw [HB.out]; simp [idB, h1, h2, h3]
        clear HB h3
        go_enter Try.func35, Try.ntmps35
        go_wp2
        go_ret
        exact ⟨by rw [E.out]; first | rfl | simp, hb⟩
    · have h2d : decide (x < 8) = false := decide_eq_false h2
      have E : Hid (B = false) := by show _ = _; rw [HB.out]; simp [idB, h2]
      clear HB h2
      go_enter Try.func35, Try.ntmps35
      go_wp2
      go_ret
      exact ⟨by rw [E.out]; first | rfl | simp, hb⟩
  · have h1d : decide (0 ≤ x) = false := decide_eq_false h1
    have E : Hid (B = false) := by show _ = _; rw [HB.out]; simp [idB, h1]
    clear HB h1
    go_enter Try.func35, Try.ntmps35
    go_wp2
    go_ret
    exact ⟨by rw [E.out]; first | rfl | simp, hb⟩

theorem mayTurn_of (k t : Int) (w : World) : Calls Try.prog 55 #[.int .i64 k, .int .i64 t] w fun e w' => e = .returned (.bool (turnB k t)) ∧ w' = w := by
  obtain ⟨B, HB⟩ : ∃ B, Hid (B = turnB k t) := ⟨_, rfl⟩
  rw [← HB.out]
  by_cases h2 : k = 2
  · subst h2
    by_cases h4 : t = 0
    · subst h4
      have E : Hid (B = true) := by show _ = _; rw [HB.out]; simp [turnB]
      clear HB
      go_enter Try.func55, Try.ntmps55
      go_wp2
      go_ret
      exact ⟨by rw [E.out]; first | rfl | simp, rfl⟩
    · have h4d : (t == 0) = false := by simpa using h4
      have E : Hid (B = false) := by show _ = _; rw [HB.out]; simp [turnB, h4]
      clear HB h4
      go_enter Try.func55, Try.ntmps55
      go_wp2
      go_ret
      exact ⟨by rw [E.out]; first | rfl | simp, rfl⟩
  · have h2d : (k == 2) = false := by simpa using h2
    by_cases h1k : k = 1
    · subst h1k
      by_cases h5 : 1 ≤ t
      · have h5d : decide (1 ≤ t) = true := decide_eq_true h5
        by_cases h6 : t ≤ 1048576
        · have h6d : decide (t ≤ 1048576) = true := decide_eq_true h6
          have E : Hid (B = true) := by show _ = _; rw [HB.out]; simp [turnB, h5, h6]
          clear HB h2 h2d
          go_enter Try.func55, Try.ntmps55
          go_wp2
          go_ret
          exact ⟨by rw [E.out]; first | rfl | simp, rfl⟩
        · have h6d : decide (t ≤ 1048576) = false := decide_eq_false h6
          have E : Hid (B = false) := by show _ = _; rw [HB.out]; simp [turnB, h6]
          clear HB h6 h2 h2d
          go_enter Try.func55, Try.ntmps55
          go_wp2
          go_ret
          exact ⟨by rw [E.out]; first | rfl | simp, rfl⟩
      · have h5d : decide (1 ≤ t) = false := decide_eq_false h5
        have E : Hid (B = false) := by show _ = _; rw [HB.out]; simp [turnB, h5]
        clear HB h5 h2 h2d
        go_enter Try.func55, Try.ntmps55
        go_wp2
        go_ret
        exact ⟨by rw [E.out]; first | rfl | simp, rfl⟩
    · have h1d : (k == 1) = false := by simpa using h1k
      by_cases h3k : k = 3
      · subst h3k
        clear h1k h1d
        by_cases h5 : 1 ≤ t
        · have h5d : decide (1 ≤ t) = true := decide_eq_true h5
          by_cases h6 : t ≤ 1048576
          · have h6d : decide (t ≤ 1048576) = true := decide_eq_true h6
            have E : Hid (B = true) := by show _ = _; rw [HB.out]; simp [turnB, h5, h6]
            clear HB h2 h2d
            go_enter Try.func55, Try.ntmps55
            go_wp2
            go_ret
            exact ⟨by rw [E.out]; first | rfl | simp, rfl⟩
          · have h6d : decide (t ≤ 1048576) = false := decide_eq_false h6
            have E : Hid (B = false) := by show _ = _; rw [HB.out]; simp [turnB, h6]
            clear HB h6 h2 h2d
            go_enter Try.func55, Try.ntmps55
            go_wp2
            go_ret
            exact ⟨by rw [E.out]; first | rfl | simp, rfl⟩
        · have h5d : decide (1 ≤ t) = false := decide_eq_false h5
          have E : Hid (B = false) := by show _ = _; rw [HB.out]; simp [turnB, h5]
          clear HB h5 h2 h2d
          go_enter Try.func55, Try.ntmps55
          go_wp2
          go_ret
          exact ⟨by rw [E.out]; first | rfl | simp, rfl⟩
      · have h3d : (k == 3) = false := by simpa using h3k
        have E : Hid (B = false) := by show _ = _; rw [HB.out]; simp [turnB, h1k, h2, h3k]
        clear HB h1k h2 h3k
        go_enter Try.func55, Try.ntmps55
        go_wp2
        go_ret
        exact ⟨by rw [E.out]; first | rfl | simp, rfl⟩

theorem lasts_of (k t : Int) (w : World) : Calls Try.prog 61 #[.int .i64 k, .int .i64 t] w fun e w' => e = .returned (.bool (turnB k t)) ∧ w' = w := by
  obtain ⟨B, HB⟩ : ∃ B, Hid (B = turnB k t) := ⟨_, rfl⟩
  rw [← HB.out]
  by_cases h2 : k = 2
  · subst h2
    by_cases h4 : t = 0
    · subst h4
      have E : Hid (B = true) := by show _ = _; rw [HB.out]; simp [turnB]
      clear HB
      go_enter Try.func61, Try.ntmps61
      go_wp2
      go_ret
      exact ⟨by rw [E.out]; first | rfl | simp, rfl⟩
    · have h4d : (t == 0) = false := by simpa using h4
      have E : Hid (B = false) := by show _ = _; rw [HB.out]; simp [turnB, h4]
      clear HB h4
      go_enter Try.func61, Try.ntmps61
      go_wp2
      go_ret
      exact ⟨by rw [E.out]; first | rfl | simp, rfl⟩
  · have h2d : (k == 2) = false := by simpa using h2
    by_cases h1k : k = 1
    · subst h1k
      by_cases h5 : 1 ≤ t
      · have h5d : decide (1 ≤ t) = true := decide_eq_true h5
        by_cases h6 : t ≤ 1048576
        · have h6d : decide (t ≤ 1048576) = true := decide_eq_true h6
          have E : Hid (B = true) := by show _ = _; rw [HB.out]; simp [turnB, h5, h6]
          clear HB h2 h2d
          go_enter Try.func61, Try.ntmps61
          go_wp2
          go_ret
          exact ⟨by rw [E.out]; first | rfl | simp, rfl⟩
        · have h6d : decide (t ≤ 1048576) = false := decide_eq_false h6
          have E : Hid (B = false) := by show _ = _; rw [HB.out]; simp [turnB, h6]
          clear HB h6 h2 h2d
          go_enter Try.func61, Try.ntmps61
          go_wp2
          go_ret
          exact ⟨by rw [E.out]; first | rfl | simp, rfl⟩
      · have h5d : decide (1 ≤ t) = false := decide_eq_false h5
        have E : Hid (B = false) := by show _ = _; rw [HB.out]; simp [turnB, h5]
        clear HB h5 h2 h2d
        go_enter Try.func61, Try.ntmps61
        go_wp2
        go_ret
        exact ⟨by rw [E.out]; first | rfl | simp, rfl⟩
    · have h1d : (k == 1) = false := by simpa using h1k
      by_cases h3k : k = 3
      · subst h3k
        clear h1k h1d
        by_cases h5 : 1 ≤ t
        · have h5d : decide (1 ≤ t) = true := decide_eq_true h5
          by_cases h6 : t ≤ 1048576
          · have h6d : decide (t ≤ 1048576) = true := decide_eq_true h6
            have E : Hid (B = true) := by show _ = _; rw [HB.out]; simp [turnB, h5, h6]
            clear HB h2 h2d
            go_enter Try.func61, Try.ntmps61
            go_wp2
            go_ret
            exact ⟨by rw [E.out]; first | rfl | simp, rfl⟩
          · have h6d : decide (t ≤ 1048576) = false := decide_eq_false h6
            have E : Hid (B = false) := by show _ = _; rw [HB.out]; simp [turnB, h6]
            clear HB h6 h2 h2d
            go_enter Try.func61, Try.ntmps61
            go_wp2
            go_ret
            exact ⟨by rw [E.out]; first | rfl | simp, rfl⟩
        · have h5d : decide (1 ≤ t) = false := decide_eq_false h5
          have E : Hid (B = false) := by show _ = _; rw [HB.out]; simp [turnB, h5]
          clear HB h5 h2 h2d
          go_enter Try.func61, Try.ntmps61
          go_wp2
          go_ret
          exact ⟨by rw [E.out]; first | rfl | simp, rfl⟩
      · have h3d : (k == 3) = false := by simpa using h3k
        have E : Hid (B = false) := by show _ = _; rw [HB.out]; simp [turnB, h1k, h2, h3k]
        clear HB h1k h2 h3k
        go_enter Try.func61, Try.ntmps61
        go_wp2
        go_ret
        exact ⟨by rw [E.out]; first | rfl | simp, rfl⟩

theorem tkey_of (k : K) (w : World) : Calls Try.prog 66 #[.string (bk k)] w fun e w' => e = .returned (.bool (decide (k.length ≤ 64))) ∧ w' = w := by
  have e : decide ((k.length : Int) ≤ 64) = decide (k.length ≤ 64) := by simp only [decide_eq_decide]; omega
  obtain ⟨B, HB⟩ : ∃ B, B = decide (k.length ≤ 64) := ⟨_, rfl⟩
  rw [← HB] at e ⊢
  clear HB
  go_enter Try.func66, Try.ntmps66
  go_wp2
  go_ret
  exact ⟨rfl, rfl⟩

end Go.Proofs.Ytglbjimpaoikfaa

