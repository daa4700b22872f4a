import Derived.Test.YtiblcbcfdmnmhaaHe19
import Derived.Test.YtiblcbcfdmnmhaaHe20
/- The law's awake. -/
namespace Go.Proofs.Ytiblcbcfdmnmhaa
open Go.RowKit LeaseMath
set_option maxRecDepth 100000
set_option linter.unusedSimpArgs false
set_option linter.unusedVariables false

theorem until_one : untilM 5 10 = (15, 0) := by decide
theorem due_may : (mayB holdB [(([97] : K), 1, 15), (([98] : K), 2, 16)] && timeB 15) = true := by decide
theorem due_one : dueM [(([97] : K), 1, 15), (([98] : K), 2, 16)] 15 = [(([97] : K), 1, 15)] := by decide
theorem live_one : liveM [(([97] : K), 1, 15), (([98] : K), 2, 16)] 15 = [(([98] : K), 2, 16)] := by decide
set_option maxHeartbeats 2000000 in
theorem awake_of (w : World) : Calls Try.prog 16 #[] w fun e w' => e = .returned (.bool true) ∧ Below w.heap.size w w' := by
  have ku := until_of 5 10 w
  rw [until_one] at ku
  dsimp only at ku
  obtain ⟨q1, q2, q3⟩ := one_box w (.cells #[.string { data := #[97] }, .int .u64 1, .int .i64 15, .string { data := #[98] }, .int .u64 2, .int .i64 16] 25)
  have hR : Rd holdE (w.alloc (.cells #[.string { data := #[97] }, .int .u64 1, .int .i64 15, .string { data := #[98] }, .int .u64 2, .int .i64 16] 25)) (.slice (some ⟨w.heap.size, 0, none⟩) 2 2) [(([97] : K), 1, 15), (([98] : K), 2, 16)] := (Rk.made (E := holdE) (xs := [(([97] : K), 1, 15), (([98] : K), 2, 16)]) q2 rfl (by unfold maxLen; simp)).rd
  have kd := due_of _ _ 15 _ hR
  rw [q1] at kd
  unfold DueT at kd
  simp only [due_may, due_one, live_one, if_true] at kd
  clear hR q2
  go_enter Try.func16, Try.ntmps16
  go_wp2_with fail
  refine ku.mono ?_
  rintro e w1 ⟨rfl, hw1⟩
  subst hw1
  clear ku
  go_wp2_with fail
  refine kd.mono ?_
  rintro e w2 ⟨⟨u, v, P, Q, rfl, hP, hQ, rfl, rfl⟩, hb2⟩
  have hb3 := q3.trans (hb2.mono (Nat.le_succ _))
  obtain ⟨ua, uc, hu, -⟩ := hP.1.shape
  obtain ⟨va, vc, hv, -⟩ := hQ.1.shape
  have hvr := hQ.1.rd
  subst hu hv
  obtain ⟨b, off, rfl, cc⟩ := rdh_at hvr (i := 0) (z := (([98] : K), 2, 16)) rfl
  obtain ⟨c0, c1, c2⟩ := cc w2 (Below.refl _ _)
  rw [Nat.zero_mul, Nat.add_zero] at c0
  have c0' : w2.cell? ⟨b, off, none⟩ = some (.string { data := #[98] }) := c0
  clear kd hP hQ hvr cc c0 c1 c2 hb2 q3 q1
  go_wp2
  go_ret
  exact ⟨by first | rfl | simp, hb3⟩
end Go.Proofs.Ytiblcbcfdmnmhaa

