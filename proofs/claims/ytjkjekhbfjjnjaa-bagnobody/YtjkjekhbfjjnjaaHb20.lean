import Derived.Test.YtjkjekhbfjjnjaaHb16
/- The contracts of all methods at a bag that New did not give. -/
namespace Go.Proofs.Ytjkjekhbfjjnjaa
open Go.RowKit Go.Maps
set_option maxRecDepth 100000
set_option linter.unusedSimpArgs false
set_option linter.unusedVariables false

/-- A bag that New did not give: none, or one with no map. -/
def NoBag (w : World) (z : Value) : Prop := z = .pointer none ∨ ∃ p, z = .pointer (some ⟨p, 0, none⟩) ∧ w.heap[p]? = some (.cells #[.slice none 0 0, .map none] 49 (0, 0))
theorem NoBag.below {w w' : World} {z : Value} (h : NoBag w z) (hb : Below w.heap.size w w') : NoBag w' z := h.imp id fun ⟨p, e, hp⟩ => ⟨p, e, (hb.block p (Array.getElem?_eq_some_iff.1 hp).1).trans hp⟩
theorem NoBag.shape {w : World} {z : Value} (h : NoBag w z) : ∃ a, z = .pointer a := by
  rcases h with rfl | ⟨p, rfl, _⟩
  · exact ⟨_, rfl⟩
  · exact ⟨_, rfl⟩

theorem given_no {w : World} {z : Value} (h : NoBag w z) : Calls Try.prog 23 #[z] w fun e w' => e = .returned (.bool false) ∧ w' = w := by
  have hq := map_neq
  rcases h with rfl | ⟨p, rfl, hp⟩
  · go_enter Try.func23, Try.ntmps23
    go_wp2
    go_ret
    exact ⟨rfl, rfl⟩
  · have c1 : w.cell? ⟨p, 1, none⟩ = some (.map none) := by rw [cells_of_block hp]; rfl
    go_enter Try.func23, Try.ntmps23
    go_wp2
    go_ret
    exact ⟨rfl, rfl⟩
theorem len_no {w : World} {z : Value} (h : NoBag w z) : Calls Try.prog 10 #[z] w fun e w' => e = .returned (.int .i64 0) ∧ w' = w := by
  have kg := given_no h
  obtain ⟨a, rfl⟩ := h.shape
  go_enter Try.func10, Try.ntmps10
  go_wp2_with (go_at_call 23; refine kg.mono ?_; rintro e w' ⟨rfl, rfl⟩)
  go_ret
  exact ⟨rfl, rfl⟩
theorem has_none {w : World} {z : Value} (h : NoBag w z) : Calls Try.prog 25 #[z, .int .i64 0] w fun e w' => e = .returned (.bool false) ∧ w' = w := by
  have kg := len_no h
  obtain ⟨a, rfl⟩ := h.shape
  go_enter Try.func25, Try.ntmps25
  go_wp2_with (go_at_call 10; refine kg.mono ?_; rintro e w' ⟨rfl, rfl⟩)
  go_ret
  exact ⟨rfl, rfl⟩
theorem room_no {w : World} {z : Value} (h : NoBag w z) : Calls Try.prog 26 #[z] w fun e w' => e = .returned (.bool false) ∧ w' = w := by
  have kg := given_no h
  obtain ⟨a, rfl⟩ := h.shape
  go_enter Try.func26, Try.ntmps26
  go_wp2_with (go_at_call 23; refine kg.mono ?_; rintro e w' ⟨rfl, rfl⟩)
  go_ret
  exact ⟨rfl, rfl⟩
theorem post_none {w : World} {z : Value} (h : NoBag w z) (f t : Int) (bv : Value) : Calls Try.prog 17 #[z, .int .i64 f, .int .i64 t, bv] w fun e w' => e = .returned (.bool false) ∧ w' = w := by
  have kg := room_no h
  obtain ⟨a, rfl⟩ := h.shape
  go_enter Try.func17, Try.ntmps17
  go_wp2_with (go_at_call 26; refine kg.mono ?_; rintro e w' ⟨rfl, rfl⟩)
  go_ret
  exact ⟨rfl, rfl⟩
theorem look_none {w : World} {z : Value} (h : NoBag w z) : Calls Try.prog 13 #[z, .int .i64 0] w fun e w' => NoT e ∧ w' = w := by
  have kg := has_none h
  obtain ⟨a, rfl⟩ := h.shape
  go_enter Try.func13, Try.ntmps13
  go_wp2_with (go_at_call 25; refine kg.mono ?_; rintro e w' ⟨rfl, rfl⟩)
  refine bodyPost_ret (results_tmp4 rfl _ _ _) rfl ?_
  exact ⟨rfl, rfl⟩
theorem deliver_none {w : World} {z : Value} (h : NoBag w z) : Calls Try.prog 15 #[z, .int .i64 0] w fun e w' => NoT e ∧ w' = w := by
  have kg := has_none h
  obtain ⟨a, rfl⟩ := h.shape
  go_enter Try.func15, Try.ntmps15
  go_wp2_with (go_at_call 25; refine kg.mono ?_; rintro e w' ⟨rfl, rfl⟩)
  refine bodyPost_ret (results_tmp4 rfl _ _ _) rfl ?_
  exact ⟨rfl, rfl⟩
theorem drop_none {w : World} {z : Value} (h : NoBag w z) : Calls Try.prog 18 #[z, .int .i64 0] w fun e w' => e = .returned (.bool false) ∧ w' = w := by
  have kg := has_none h
  obtain ⟨a, rfl⟩ := h.shape
  go_enter Try.func18, Try.ntmps18
  go_wp2_with (go_at_call 25; refine kg.mono ?_; rintro e w' ⟨rfl, rfl⟩)
  go_ret
  exact ⟨rfl, rfl⟩
theorem twice_none {w : World} {z : Value} (h : NoBag w z) : Calls Try.prog 16 #[z, .int .i64 0] w fun e w' => e = .returned (.bool false) ∧ w' = w := by
  have kg := has_none h
  obtain ⟨a, rfl⟩ := h.shape
  go_enter Try.func16, Try.ntmps16
  go_wp2_with (go_at_call 25; refine kg.mono ?_; rintro e w' ⟨rfl, rfl⟩)
  go_ret
  exact ⟨rfl, rfl⟩
theorem part_none {w : World} {z : Value} (h : NoBag w z) (a b : Int) : Calls Try.prog 19 #[z, .int .i64 a, .int .i64 b] w fun e w' => e = .returned (.tuple #[]) ∧ w' = w := by
  have kg := given_no h
  obtain ⟨a, rfl⟩ := h.shape
  go_enter Try.func19, Try.ntmps19
  go_wp2_with (go_at_call 23; refine kg.mono ?_; rintro e w' ⟨rfl, rfl⟩)
  exact bodyPost_ret (results_none rfl _ _ _) rfl ⟨rfl, rfl⟩
theorem heal_none {w : World} {z : Value} (h : NoBag w z) : Calls Try.prog 20 #[z] w fun e w' => e = .returned (.tuple #[]) ∧ w' = w := by
  have kg := given_no h
  obtain ⟨a, rfl⟩ := h.shape
  go_enter Try.func20, Try.ntmps20
  go_wp2_with (go_at_call 23; refine kg.mono ?_; rintro e w' ⟨rfl, rfl⟩)
  exact bodyPost_ret (results_none rfl _ _ _) rfl ⟨rfl, rfl⟩
theorem parted_none {w : World} {z : Value} (h : NoBag w z) (a b : Int) : Calls Try.prog 11 #[z, .int .i64 a, .int .i64 b] w fun e w' => e = .returned (.bool false) ∧ w' = w := by
  have kg := given_no h
  obtain ⟨a, rfl⟩ := h.shape
  go_enter Try.func11, Try.ntmps11
  go_wp2_with (go_at_call 23; refine kg.mono ?_; rintro e w' ⟨rfl, rfl⟩)
  go_ret
  exact ⟨rfl, rfl⟩
theorem clear_none {w : World} {z : Value} (h : NoBag w z) (a : Int) : Calls Try.prog 21 #[z, .int .i64 a] w fun e w' => e = .returned (.int .i64 0) ∧ w' = w.alloc (.cells #[.int .i64 a] 3) := by
  have kg := given_no (h.below ((Below.refl w.heap.size w).alloc (Nat.le_refl _) (.cells #[.int .i64 a] 3)))
  obtain ⟨a, rfl⟩ := h.shape
  go_enter Try.func21, Try.ntmps21
  go_wp2_with (go_at_call 23; refine kg.mono ?_; rintro e w' ⟨rfl, rfl⟩)
  go_ret
  exact ⟨rfl, rfl⟩
end Go.Proofs.Ytjkjekhbfjjnjaa

