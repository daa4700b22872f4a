import Derived.Test.YtlgnnfhnkfjafaaHp06
/- The contracts of Join and Split. -/
namespace Go.Proofs.Ytlgnnfhnkfjafaa
open Go.RowKit SpanMath
set_option maxRecDepth 100000
set_option linter.unusedSimpArgs false
set_option linter.unusedVariables false

/-- What Join tells. -/
def joinP (a b : Sp) : Sp × Int := if may a && may b then (if a.2 ≠ b.1 ∨ a.2 = [] then (([], []), 10) else ((a.1, b.2), 0)) else (([], []), 1)
def joinV (m : Sp × Int) : Value := .tuple #[sv m.1, .int .i64 m.2]

set_option maxHeartbeats 2000000 in
theorem join_of (a b : Sp) (w : World) : Calls Try.prog 47 #[sv a, sv b] w fun e w' => e = .returned (joinV (joinP a b)) ∧ Below w.heap.size w w' := by
  obtain ⟨M, HM⟩ : ∃ M, Hid (M = joinP a b) := ⟨_, rfl⟩
  rw [← HM.out]
  obtain ⟨a1, a2⟩ := a
  obtain ⟨b1, b2⟩ := b
  have T := three_boxes w (.cells #[.string (bk a1), .string (bk a2)] 43) (.cells #[.string (bk b1), .string (bk b2)] 43) (.cells #[.string { data := #[] }, .string { data := #[] }] 43)
  go_enter Try.func47, Try.ntmps47
  go_wp2_with fail
  generalize (((w.alloc (.cells #[.string (bk a1), .string (bk a2)] 43)).alloc (.cells #[.string (bk b1), .string (bk b2)] 43)).alloc (.cells #[.string { data := #[] }, .string { data := #[] }] 43)) = w0 at *
  obtain ⟨hs0, g0, g1, g2, hb0⟩ := T
  have cl : ∀ W, Below (w.heap.size + 3) w0 W → (W.cell? ⟨w.heap.size, 0, none⟩ = some (.string (bk a1)) ∧ W.cell? ⟨w.heap.size, 1, none⟩ = some (.string (bk a2)) ∧ W.cell? ⟨w.heap.size + 1, 0, none⟩ = some (.string (bk b1)) ∧ W.cell? ⟨w.heap.size + 1, 1, none⟩ = some (.string (bk b2))) ∧ W.heap[w.heap.size + 2]? = some (.cells #[.string { data := #[] }, .string { data := #[] }] 43 (0, 0)) := fun W hW => by
    have z0 := (hW.block w.heap.size (by omega)).trans g0
    have z1 := (hW.block (w.heap.size + 1) (by omega)).trans g1
    have z2 := (hW.block (w.heap.size + 2) (by omega)).trans g2
    exact ⟨⟨by rw [cells_of_block z0]; rfl, by rw [cells_of_block z0]; rfl, by rw [cells_of_block z1]; rfl, by rw [cells_of_block z1]; rfl⟩, z2⟩
  clear g0 g1 g2
  cases ha : may (a1, a2) with
  | false =>
      have kc := check_no ha w0
      have E : Hid (M = (([], []), 1)) := by show _ = _; rw [HM.out]; simp [joinP, ha]
      rw [hs0] at kc
      clear HM ha
      refine kc.mono ?_
      rintro e w1 ⟨rfl, hbx⟩
      obtain ⟨⟨c0, c1, c2, c3⟩, z2⟩ := cl w1 hbx
      have z3 := frozen_of z2 0
      have z4 := frozen_of z2 1
      have z5 : w1.cell? ⟨w.heap.size + 2, 0, none⟩ = some (.string { data := #[] }) := by rw [cells_of_block z2]; rfl
      have z6 : w1.cell? ⟨w.heap.size + 2, 1, none⟩ = some (.string { data := #[] }) := by rw [cells_of_block z2]; rfl
      clear cl
      go_wp2
      (try simp only [Exit.inBlock, Exit.then])
      refine bodyPost_ret (results_sp rfl _ _ (w.heap.size + 2) _ _ rfl (sp_set z2 _ _)) rfl ?_
      rw [E.out]
      exact ⟨rfl, ((hb0.trans (hbx.mono (Nat.le_add_right _ 3))).setCell (p := ⟨w.heap.size + 2, 0, none⟩) (Nat.le_add_right _ 2) _).setCell (p := ⟨w.heap.size + 2, 1, none⟩) (Nat.le_add_right _ 2) _⟩
  | true =>
    have kc := check_yes ha w0
    rw [hs0] at kc
    refine kc.mono ?_
    rintro e w1 ⟨rfl, hb1⟩
    clear kc
    have hs1 : w.heap.size + 3 ≤ w1.heap.size := by have := hb1.size; omega
    obtain ⟨⟨c0, c1, c2, c3⟩, -⟩ := cl w1 hb1
    cases hbm : may (b1, b2) with
    | false =>
      have kc := check_no hbm w1
      have E : Hid (M = (([], []), 1)) := by show _ = _; rw [HM.out]; simp [joinP, hbm]
      clear HM ha hbm
      go_wp2_with fail
      refine kc.mono ?_
      rintro e w2 ⟨rfl, hb2⟩
      have hbx := hb1.trans (hb2.mono hs1)
      clear c0 c1 c2 c3
      obtain ⟨⟨c0, c1, c2, c3⟩, z2⟩ := cl w2 hbx
      have z3 := frozen_of z2 0
      have z4 := frozen_of z2 1
      have z5 : w2.cell? ⟨w.heap.size + 2, 0, none⟩ = some (.string { data := #[] }) := by rw [cells_of_block z2]; rfl
      have z6 : w2.cell? ⟨w.heap.size + 2, 1, none⟩ = some (.string { data := #[] }) := by rw [cells_of_block z2]; rfl
      clear cl
      go_wp2
      (try simp only [Exit.inBlock, Exit.then])
      refine bodyPost_ret (results_sp rfl _ _ (w.heap.size + 2) _ _ rfl (sp_set z2 _ _)) rfl ?_
      rw [E.out]
      exact ⟨rfl, ((hb0.trans (hbx.mono (Nat.le_add_right _ 3))).setCell (p := ⟨w.heap.size + 2, 0, none⟩) (Nat.le_add_right _ 2) _).setCell (p := ⟨w.heap.size + 2, 1, none⟩) (Nat.le_add_right _ 2) _⟩
    | true =>
      have kc := check_yes hbm w1
      have HM2 : Hid (M = (if a2 ≠ b1 ∨ a2 = [] then (([], []), 10) else ((a1, b2), 0))) := by show _ = _; rw [HM.out]; simp [joinP, ha, hbm]
      clear HM ha hbm
      go_wp2_with fail
      refine kc.mono ?_
      rintro e w2 ⟨rfl, hb2⟩
      have hbx := hb1.trans (hb2.mono hs1)
      clear c0 c1 c2 c3
      obtain ⟨⟨c0, c1, c2, c3⟩, z2⟩ := cl w2 hbx
      have z3 := frozen_of z2 0
      have z4 := frozen_of z2 1
      have z5 : w2.cell? ⟨w.heap.size + 2, 0, none⟩ = some (.string { data := #[] }) := by rw [cells_of_block z2]; rfl
      have z6 : w2.cell? ⟨w.heap.size + 2, 1, none⟩ = some (.string { data := #[] }) := by rw [cells_of_block z2]; rfl
      clear cl
      by_cases h1 : a2 = b1
      · by_cases h2 : a2 = []
        · have E : Hid (M = (([], []), 10)) := by show _ = _; rw [HM2.out]; simp [h2]
          have d1 : decide (a2 = b1) = true := by simpa using h1
          have d2 : decide (a2 = []) = true := by simpa using h2
          clear HM2 h1 h2
          go_wp2
          (try simp only [Exit.inBlock, Exit.then])
          refine bodyPost_ret (results_sp rfl _ _ (w.heap.size + 2) _ _ rfl (sp_set z2 _ _)) rfl ?_
          rw [E.out]
          exact ⟨rfl, ((hb0.trans (hbx.mono (Nat.le_add_right _ 3))).setCell (p := ⟨w.heap.size + 2, 0, none⟩) (Nat.le_add_right _ 2) _).setCell (p := ⟨w.heap.size + 2, 1, none⟩) (Nat.le_add_right _ 2) _⟩
        · have E : Hid (M = ((a1, b2), 0)) := by show _ = _; rw [HM2.out, if_neg (by rintro (h | h); exact h h1; exact h2 h)]
          have d1 : decide (a2 = b1) = true := by simpa using h1
          have d2 : decide (a2 = []) = false := by simpa using h2
          clear HM2 h1 h2
          go_wp2
          (try simp only [Exit.inBlock, Exit.then])
          refine bodyPost_ret (results_sp rfl _ _ (w.heap.size + 2) _ _ rfl (sp_set z2 _ _)) rfl ?_
          rw [E.out]
          exact ⟨rfl, ((hb0.trans (hbx.mono (Nat.le_add_right _ 3))).setCell (p := ⟨w.heap.size + 2, 0, none⟩) (Nat.le_add_right _ 2) _).setCell (p := ⟨w.heap.size + 2, 1, none⟩) (Nat.le_add_right _ 2) _⟩
      · have E : Hid (M = (([], []), 10)) := by show _ = _; rw [HM2.out, if_pos (.inl h1)]
        have d1 : decide (a2 = b1) = false := by simpa using h1
        clear HM2 h1
        go_wp2
        (try simp only [Exit.inBlock, Exit.then])
        refine bodyPost_ret (results_sp rfl _ _ (w.heap.size + 2) _ _ rfl (sp_set z2 _ _)) rfl ?_
        rw [E.out]
        exact ⟨rfl, ((hb0.trans (hbx.mono (Nat.le_add_right _ 3))).setCell (p := ⟨w.heap.size + 2, 0, none⟩) (Nat.le_add_right _ 2) _).setCell (p := ⟨w.heap.size + 2, 1, none⟩) (Nat.le_add_right _ 2) _⟩

theorem results_sp2 {fn : Func} {p q u : Tmp} (h : fn.results = #[.cell p 43, .cell q 43, .tmp u]) (tmps : Array Value) (w : World) (g g' : Nat) (a b c d : Value)
    (hp : tmps.getD p undef = .pointer (some ⟨g, 0, none⟩)) (hq : tmps.getD q undef = .pointer (some ⟨g', 0, none⟩)) (hg : w.heap[g]? = some (.cells #[a, b] 43 (0, 0))) (hg' : w.heap[g']? = some (.cells #[c, d] 43 (0, 0))) :
    (results fn tmps).run Try.prog w = .ok (.tuple #[.agg #[a, b], .agg #[c, d], tmps.getD u undef]) w := by
  have hp' : tmps[p]?.getD undef = .pointer (some ⟨g, 0, none⟩) := by simpa using hp
  have hq' : tmps[q]?.getD undef = .pointer (some ⟨g', 0, none⟩) := by simpa using hq
  simp [results, h, hp', hq', asAddr, run_loadVar_row w g 43 43 #[a, b] (0, 0) _ hg Try.underlying43 rfl (by kernel_rfl), run_loadVar_row w g' 43 43 #[c, d] (0, 0) _ hg' Try.underlying43 rfl (by kernel_rfl)]
end Go.Proofs.Ytlgnnfhnkfjafaa

