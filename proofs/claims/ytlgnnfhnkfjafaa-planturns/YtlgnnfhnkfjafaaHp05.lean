import Derived.Test.YtlgnnfhnkfjafaaHp04
/- The contracts of Check, Has, Meet, Split, Join. -/
namespace Go.Proofs.Ytlgnnfhnkfjafaa
open Go.RowKit SpanMath
set_option maxRecDepth 100000
set_option linter.unusedSimpArgs false
set_option linter.unusedVariables false

theorem check_of (s : Sp) (w : World) : Calls Try.prog 51 #[sv s] w fun e w' => e = .returned (.int .i64 (if may s then 0 else 1)) ∧ Below w.heap.size w w' := by
  obtain ⟨a, b⟩ := s
  obtain ⟨B, HB⟩ : ∃ B : Int, Hid (B = if may (a, b) then 0 else 1) := ⟨_, rfl⟩
  rw [← HB.out]
  have hb : Below w.heap.size w (w.alloc (.cells #[.string (bk a), .string (bk b)] 43)) := (Below.refl w.heap.size w).alloc (Nat.le_refl _) _
  by_cases h1 : a.length ≤ 64
  · have i1 : (a.length : Int) ≤ 64 := by omega
    by_cases h2 : b.length ≤ 64
    · have i2 : (b.length : Int) ≤ 64 := by omega
      by_cases h3 : b = []
      · have E : Hid (B = 0) := by show _ = _; rw [HB.out]; simp [may, blw, h1, h3]
        subst h3
        clear HB
        go_enter Try.func51, Try.ntmps51
        go_wp2
        go_ret
        exact ⟨by rw [E.out]; rfl, hb⟩
      · by_cases h4 : a < b
        · have E : Hid (B = 0) := by show _ = _; rw [HB.out]; simp [may, blw, h1, h2, h4]
          clear HB
          go_enter Try.func51, Try.ntmps51
          go_wp2
          go_ret
          exact ⟨by rw [E.out]; rfl, hb⟩
        · have E : Hid (B = 1) := by show _ = _; rw [HB.out]; simp [may, blw, h1, h2, h3, h4]
          clear HB
          go_enter Try.func51, Try.ntmps51
          go_wp2
          go_ret
          exact ⟨by rw [E.out]; rfl, hb⟩
    · have i2 : ¬ (b.length : Int) ≤ 64 := by omega
      have E : Hid (B = 1) := by show _ = _; rw [HB.out]; simp [may, h2]
      clear HB
      go_enter Try.func51, Try.ntmps51
      go_wp2
      go_ret
      exact ⟨by rw [E.out]; rfl, hb⟩
  · have i1 : ¬ (a.length : Int) ≤ 64 := by omega
    have E : Hid (B = 1) := by show _ = _; rw [HB.out]; simp [may, h1]
    clear HB
    go_enter Try.func51, Try.ntmps51
    go_wp2
    go_ret
    exact ⟨by rw [E.out]; rfl, hb⟩
theorem check_yes {s : Sp} (h : may s = true) (w : World) : Calls Try.prog 51 #[sv s] w fun e w' => e = .returned (.int .i64 0) ∧ Below w.heap.size w w' := by
  refine (check_of s w).mono ?_
  rintro e w' ⟨rfl, hb⟩
  exact ⟨by rw [if_pos h], hb⟩
theorem check_no {s : Sp} (h : may s = false) (w : World) : Calls Try.prog 51 #[sv s] w fun e w' => e = .returned (.int .i64 1) ∧ Below w.heap.size w w' := by
  refine (check_of s w).mono ?_
  rintro e w' ⟨rfl, hb⟩
  exact ⟨by rw [h]; rfl, hb⟩

/-- What Has tells. -/
def hasP (s : Sp) (k : K) : Bool := may s && decide (k.length ≤ 64) && has s k
theorem has_of (s : Sp) (k : K) (w : World) : Calls Try.prog 48 #[sv s, .string (bk k)] w fun e w' => e = .returned (.bool (hasP s k)) ∧ Below w.heap.size w w' := by
  obtain ⟨a, b⟩ := s
  obtain ⟨B, HB⟩ : ∃ B, Hid (B = hasP (a, b) k) := ⟨_, rfl⟩
  rw [← HB.out]
  have hb : Below w.heap.size w (w.alloc (.cells #[.string (bk a), .string (bk b)] 43)) := (Below.refl w.heap.size w).alloc (Nat.le_refl _) _
  have hbk := heap_alloc_new w (.cells #[.string (bk a), .string (bk b)] 43)
  have hsz : (w.alloc (.cells #[.string (bk a), .string (bk b)] 43)).heap.size = w.heap.size + 1 := by simp
  have cl : ∀ W, Below (w.heap.size + 1) (w.alloc (.cells #[.string (bk a), .string (bk b)] 43)) W → W.cell? ⟨w.heap.size, 0, none⟩ = some (.string (bk a)) ∧ W.cell? ⟨w.heap.size, 1, none⟩ = some (.string (bk b)) := fun W hW => by
    have := (hW.block w.heap.size (Nat.lt_succ_self _)).trans hbk
    exact ⟨by rw [cells_of_block this]; rfl, by rw [cells_of_block this]; rfl⟩
  cases hm : may (a, b) with
  | false =>
    have E : Hid (B = false) := by show _ = _; rw [HB.out]; simp [hasP, hm]
    have kc := check_no hm (w.alloc (.cells #[.string (bk a), .string (bk b)] 43))
    rw [hsz] at kc
    clear HB hm cl hsz hbk
    go_enter Try.func48, Try.ntmps48
    go_wp2_with fail
    refine kc.mono ?_
    rintro e w1 ⟨rfl, hb1⟩
    go_wp2
    go_ret
    exact ⟨by rw [E.out]; rfl, hb.trans (hb1.mono (Nat.le_succ _))⟩
  | true =>
    have kc := check_yes hm (w.alloc (.cells #[.string (bk a), .string (bk b)] 43))
    rw [hsz] at kc
    have ki := fun W => isKey_of k W
    by_cases hk : k.length ≤ 64
    · rw [decide_eq_true hk] at ki
      by_cases h1 : a ≤ k
      · have kb := fun W => below_of k b W
        have E : Hid (B = blw k b) := by show _ = _; rw [HB.out]; simp [hasP, hm, hk, has, h1]
        clear HB hm hsz hbk hk
        go_enter Try.func48, Try.ntmps48
        go_wp2_with fail
        refine kc.mono ?_
        rintro e w1 ⟨rfl, hb1⟩
        obtain ⟨c0, c1⟩ := cl w1 hb1
        clear cl
        go_wp2_with fail
        refine (ki _).mono ?_
        rintro e w2 ⟨rfl, hw2⟩
        subst hw2
        go_wp2_with fail
        refine (kb _).mono ?_
        rintro e w3 ⟨rfl, hw3⟩
        subst hw3
        go_wp2
        go_ret
        exact ⟨by rw [E.out]; rfl, hb.trans (hb1.mono (Nat.le_succ _))⟩
      · have E : Hid (B = false) := by show _ = _; rw [HB.out]; simp [hasP, has, h1]
        clear HB hm hsz hbk hk
        go_enter Try.func48, Try.ntmps48
        go_wp2_with fail
        refine kc.mono ?_
        rintro e w1 ⟨rfl, hb1⟩
        obtain ⟨c0, c1⟩ := cl w1 hb1
        clear cl
        go_wp2_with fail
        refine (ki _).mono ?_
        rintro e w2 ⟨rfl, hw2⟩
        subst hw2
        go_wp2
        go_ret
        exact ⟨by rw [E.out]; rfl, hb.trans (hb1.mono (Nat.le_succ _))⟩
    · rw [decide_eq_false hk] at ki
      have E : Hid (B = false) := by show _ = _; rw [HB.out]; simp [hasP, hk]
      clear HB hm hsz hbk hk
      go_enter Try.func48, Try.ntmps48
      go_wp2_with fail
      refine kc.mono ?_
      rintro e w1 ⟨rfl, hb1⟩
      clear cl
      go_wp2_with fail
      refine (ki _).mono ?_
      rintro e w2 ⟨rfl, hw2⟩
      subst hw2
      go_wp2
      go_ret
      exact ⟨by rw [E.out]; rfl, hb.trans (hb1.mono (Nat.le_succ _))⟩
end Go.Proofs.Ytlgnnfhnkfjafaa

