import Derived.Test.YtldlimakcdaoaaaHc29
/- The law's own awake. -/
namespace Go.Proofs.Ytldlimakcdaoaaa
open Go.RowKit SpanMath ChartMath
set_option maxRecDepth 100000
set_option linter.unusedSimpArgs false
set_option linter.unusedVariables false

theorem awake_split : splitM [(([], []), 1, 1)] [109] = ([(([], [109]), 1, 2), (([109], []), 1, 2)], 0) := by decide
theorem awake_move : moveM [(([], [109]), 1, 2), (([109], []), 1, 2)] [109] 2 = ([(([], [109]), 1, 2), (([109], []), 2, 3)], 0) := by decide
theorem awake_find : findM [(([], [109]), 1, 2), (([109], []), 2, 3)] [122] = some 1 := by decide
theorem awake_ver : verC [(([], [109]), 1, 2), (([109], []), 2, 3)] = 3 := by decide

set_option maxHeartbeats 4000000 in
theorem cawake_of (w : World) : Calls Try.prog 17 #[] w fun e w' => e = .returned (.bool true) ∧ Below w.heap.size w w' := by
  have kn := new_of 1 w
  have ks := fun v W (h : Rd rgE W v [(([], []), 1, 1)]) => csplit_of _ v [109] W h
  have km := fun v W (h : Rd rgE W v [(([], [109]), 1, 2), (([109], []), 1, 2)]) => cmove_of _ v [109] 2 W h
  have kf := fun v W (h : Rd rgE W v [(([], [109]), 1, 2), (([109], []), 2, 3)]) => find_of _ v [122] W h.cv
  have kv := fun v W (h : Rd rgE W v [(([], [109]), 1, 2), (([109], []), 2, 3)]) => version_of _ v W h.cv
  rw [awake_split] at ks
  rw [awake_move] at km
  rw [awake_find] at kf
  rw [awake_ver] at kv
  unfold findV at kf
  go_enter Try.func17, Try.ntmps17
  go_wp2_with fail
  refine kn.mono ?_
  rintro e w1 ⟨v1, c1, rfl, hN, hb1⟩
  unfold NewT at hN
  rw [if_pos (by decide)] at hN
  obtain ⟨rfl, hR1⟩ := hN
  have ks1 : Calls Try.prog 9 #[v1, .string { data := #[109] }] w1 _ := ks v1 w1 hR1
  clear ks kn
  go_wp2_with fail
  refine ks1.mono ?_
  rintro e w2 ⟨⟨v2, rfl, hR2⟩, hb2⟩
  have km1 : Calls Try.prog 13 #[v2, .string { data := #[109] }, .int .i64 2] w2 _ := km v2 w2 hR2
  have hb3 := hb1.trans (hb2.mono hb1.size)
  clear ks1 km
  go_wp2_with fail
  refine km1.mono ?_
  rintro e w3 ⟨⟨v3, rfl, hR3⟩, hb3'⟩
  have kf1 : Calls Try.prog 18 #[v3, .string { data := #[122] }] w3 _ := kf v3 w3 hR3
  have hb4 := hb3.trans (hb3'.mono hb3.size)
  clear km1 kf
  go_wp2_with fail
  refine kf1.mono ?_
  rintro e w4 ⟨rfl, hb4'⟩
  have hb5 := hb4.trans (hb4'.mono hb4.size)
  have hR4 := hR3.below hb4'
  have kv1 := kv v3 w4 hR4
  obtain ⟨ao, cap, e3, hF⟩ := hR4.cv
  obtain ⟨b, off, rfl, d0, d1, d2, d3⟩ := hF 1 _ rfl
  subst e3
  clear kf1 kv hF hR1 hR2 hR3 hR4
  dsimp only at d0 d1 d2 d3
  go_wp2_with fail
  refine kv1.mono ?_
  rintro e w6 ⟨rfl, hb6⟩
  go_wp2
  go_ret
  exact ⟨rfl, hb5.trans (hb6.mono hb5.size)⟩
end Go.Proofs.Ytldlimakcdaoaaa

