import Derived.Test.YtldlimakcdaoaaaHc32
/- The law ChartFinds answers true. -/
namespace Go.Proofs.Ytldlimakcdaoaaa
open Go.RowKit SpanMath ChartMath
set_option maxRecDepth 100000
set_option linter.unusedSimpArgs false
set_option linter.unusedVariables false

/-- Behind the finding. -/
def FindsEnd (w : World) (e : Ending) (w' : World) : Prop := e = .returned (.bool true) ∧ Below w.heap.size w w'
set_option maxHeartbeats 8000000 in
theorem finds_law (l : List Rg) (lv : Value) (k : K) (g : Int) (w : World) (hF : Rd rgE w lv l) (hlen : l.length * 48 ≤ 140737488355328) : Calls Try.prog 4 #[lv, .string (bk k), .int .i64 g] w (FindsEnd w) := by
  obtain ⟨ao, cap, hlv, -⟩ := id hF
  have kA := find_of l lv k w hF.cv
  have kB := fun W (h : Below w.heap.size w W) => rfind_of l lv k W (hF.below h).cv
  have kC := fun W (h : Below w.heap.size w W) => ccheck_of l lv W (hF.below h).cv
  have kM := fun W (h : Below w.heap.size w W) => rmay_of l lv W (hF.below h).cv
  have kV := fun W (h : Below w.heap.size w W) => version_of l lv W (hF.below h).cv
  have kX := fun W (h : Below w.heap.size w W) => rversion_of l lv W (hF.below h).cv (by omega)
  have kN := fun W => new_of g W
  have hfin : ∀ i, findM l k = some i → (0 : Int) ≤ (i : Int) := fun i _ => by omega
  subst hlv
  clear hlen hF
  generalize verC l = V at *
  generalize mayC l = B at *
  generalize findM l k = F at *
  cases F with
  | none =>
    unfold findV at kA
    unfold idxI at kB
    clear hfin
    cases B with
    | false =>
      simp only [Bool.false_eq_true, if_false] at kC
      by_cases g1 : g < 1
      · go_enter Try.func4, Try.ntmps4
        go_wp2_with fail
        refine kA.mono ?_
        rintro e w1 ⟨rfl, hb1⟩
        have k2 := kB w1 hb1
        clear kA kB
        go_wp2_with fail
        refine k2.mono ?_
        rintro e w2 ⟨rfl, hb2'⟩
        have hb2 := hb1.trans (hb2'.mono hb1.size)
        have k3 := kC w2 hb2
        clear k2 kC hb1 hb2'
        go_wp2_with fail
        refine k3.mono ?_
        rintro e w3 ⟨rfl, hb3'⟩
        have hb3 := hb2.trans (hb3'.mono hb2.size)
        have k4 := kM w3 hb3
        clear k3 kM hb2 hb3'
        go_wp2_with fail
        refine k4.mono ?_
        rintro e w4 ⟨rfl, hb4'⟩
        have hb4 := hb3.trans (hb4'.mono hb3.size)
        have k5 := kV w4 hb4
        clear k4 kV hb3 hb4'
        go_wp2_with fail
        refine k5.mono ?_
        rintro e w5 ⟨rfl, hb5'⟩
        have hb5 := hb4.trans (hb5'.mono hb4.size)
        have k6 := kX w5 hb5
        clear k5 kX hb4 hb5'
        go_wp2_with fail
        refine k6.mono ?_
        rintro e w6 ⟨rfl, hb6'⟩
        have hb6 := hb5.trans (hb6'.mono hb5.size)
        clear k6 hb5 hb6'
        go_wp2_with fail
        refine (kN _).mono ?_
        rintro e w7 ⟨v7, c7, rfl, hN, hb7'⟩
        have hb7 := hb6.trans (hb7'.mono hb6.size)
        unfold NewT at hN
        rw [if_neg (by simp [gOk]; omega)] at hN
        obtain ⟨rfl, rfl⟩ := hN
        have kW := cawake_of w7
        clear kN hb6 hb7'
        go_wp2_with fail
        refine kW.mono ?_
        rintro e w8 ⟨rfl, hb8⟩
        go_wp2
        go_ret
        exact ⟨rfl, hb7.trans (hb8.mono hb7.size)⟩
      · by_cases g2 : 16 < g
        · go_enter Try.func4, Try.ntmps4
          go_wp2_with fail
          refine kA.mono ?_
          rintro e w1 ⟨rfl, hb1⟩
          have k2 := kB w1 hb1
          clear kA kB
          go_wp2_with fail
          refine k2.mono ?_
          rintro e w2 ⟨rfl, hb2'⟩
          have hb2 := hb1.trans (hb2'.mono hb1.size)
          have k3 := kC w2 hb2
          clear k2 kC hb1 hb2'
          go_wp2_with fail
          refine k3.mono ?_
          rintro e w3 ⟨rfl, hb3'⟩
          have hb3 := hb2.trans (hb3'.mono hb2.size)
          have k4 := kM w3 hb3
          clear k3 kM hb2 hb3'
          go_wp2_with fail
          refine k4.mono ?_
          rintro e w4 ⟨rfl, hb4'⟩
          have hb4 := hb3.trans (hb4'.mono hb3.size)
          have k5 := kV w4 hb4
          clear k4 kV hb3 hb4'
          go_wp2_with fail
          refine k5.mono ?_
          rintro e w5 ⟨rfl, hb5'⟩
          have hb5 := hb4.trans (hb5'.mono hb4.size)
          have k6 := kX w5 hb5
          clear k5 kX hb4 hb5'
          go_wp2_with fail
          refine k6.mono ?_
          rintro e w6 ⟨rfl, hb6'⟩
          have hb6 := hb5.trans (hb6'.mono hb5.size)
          clear k6 hb5 hb6'
          go_wp2_with fail
          refine (kN _).mono ?_
          rintro e w7 ⟨v7, c7, rfl, hN, hb7'⟩
          have hb7 := hb6.trans (hb7'.mono hb6.size)
          unfold NewT at hN
          rw [if_neg (by simp [gOk]; omega)] at hN
          obtain ⟨rfl, rfl⟩ := hN
          have kW := cawake_of w7
          clear kN hb6 hb7'
          go_wp2_with fail
          refine kW.mono ?_
          rintro e w8 ⟨rfl, hb8⟩
          go_wp2
          go_ret
          exact ⟨rfl, hb7.trans (hb8.mono hb7.size)⟩
        · go_enter Try.func4, Try.ntmps4
          go_wp2_with fail
          refine kA.mono ?_
          rintro e w1 ⟨rfl, hb1⟩
          have k2 := kB w1 hb1
          clear kA kB
          go_wp2_with fail
          refine k2.mono ?_
          rintro e w2 ⟨rfl, hb2'⟩
          have hb2 := hb1.trans (hb2'.mono hb1.size)
          have k3 := kC w2 hb2
          clear k2 kC hb1 hb2'
          go_wp2_with fail
          refine k3.mono ?_
          rintro e w3 ⟨rfl, hb3'⟩
          have hb3 := hb2.trans (hb3'.mono hb2.size)
          have k4 := kM w3 hb3
          clear k3 kM hb2 hb3'
          go_wp2_with fail
          refine k4.mono ?_
          rintro e w4 ⟨rfl, hb4'⟩
          have hb4 := hb3.trans (hb4'.mono hb3.size)
          have k5 := kV w4 hb4
          clear k4 kV hb3 hb4'
          go_wp2_with fail
          refine k5.mono ?_
          rintro e w5 ⟨rfl, hb5'⟩
          have hb5 := hb4.trans (hb5'.mono hb4.size)
          have k6 := kX w5 hb5
          clear k5 kX hb4 hb5'
          go_wp2_with fail
          refine k6.mono ?_
          rintro e w6 ⟨rfl, hb6'⟩
          have hb6 := hb5.trans (hb6'.mono hb5.size)
          clear k6 hb5 hb6'
          go_wp2_with fail
          refine (kN _).mono ?_
          rintro e w7 ⟨v7, c7, rfl, hN, hb7'⟩
          have hb7 := hb6.trans (hb7'.mono hb6.size)
          unfold NewT at hN
          rw [if_pos (by simp [gOk]; omega)] at hN
          obtain ⟨rfl, hR⟩ := hN
          obtain ⟨q1, q2, q3⟩ := one_box w7 (.cells #[.string { data := #[] }, .string { data := #[] }, .int .i64 g, .int .u64 1] 42)
          have hb8 := hb7.trans (q3.mono hb7.size)
          have kS := csame_of [(([], []), g, 1)] v7 (.slice (some ⟨w7.heap.size, 0, none⟩) 1 1) _ (hR.below q3).cv (Rk.made (E := rgE) (xs := [(([], []), g, 1)]) q2 rfl (by unfold maxLen; simp)).rd.cv (by simp)
          clear kN hb6 hb7' q1 q2 q3 hR hb7
          go_wp2_with fail
          generalize (w7.alloc (.cells #[.string { data := #[] }, .string { data := #[] }, .int .i64 g, .int .u64 1] 42)) = w8 at *
          refine kS.mono ?_
          rintro e w9 ⟨rfl, hb9'⟩
          have hb9 := hb8.trans (hb9'.mono hb8.size)
          have kW := cawake_of w9
          clear kS hb8 hb9'
          go_wp2_with fail
          refine kW.mono ?_
          rintro e wA ⟨rfl, hbA⟩
          go_wp2
          go_ret
          exact ⟨rfl, hb9.trans (hbA.mono hb9.size)⟩
    | true =>
      simp only [if_true] at kC
      by_cases g1 : g < 1
      · go_enter Try.func4, Try.ntmps4
        go_wp2_with fail
        refine kA.mono ?_
        rintro e w1 ⟨rfl, hb1⟩
        have k2 := kB w1 hb1
        clear kA kB
        go_wp2_with fail
        refine k2.mono ?_
        rintro e w2 ⟨rfl, hb2'⟩
        have hb2 := hb1.trans (hb2'.mono hb1.size)
        have k3 := kC w2 hb2
        clear k2 kC hb1 hb2'
        go_wp2_with fail
        refine k3.mono ?_
        rintro e w3 ⟨rfl, hb3'⟩
        have hb3 := hb2.trans (hb3'.mono hb2.size)
        have k4 := kM w3 hb3
        clear k3 kM hb2 hb3'
        go_wp2_with fail
        refine k4.mono ?_
        rintro e w4 ⟨rfl, hb4'⟩
        have hb4 := hb3.trans (hb4'.mono hb3.size)
        have k5 := kV w4 hb4
        clear k4 kV hb3 hb4'
        go_wp2_with fail
        refine k5.mono ?_
        rintro e w5 ⟨rfl, hb5'⟩
        have hb5 := hb4.trans (hb5'.mono hb4.size)
        have k6 := kX w5 hb5
        clear k5 kX hb4 hb5'
        go_wp2_with fail
        refine k6.mono ?_
        rintro e w6 ⟨rfl, hb6'⟩
        have hb6 := hb5.trans (hb6'.mono hb5.size)
        clear k6 hb5 hb6'
        go_wp2_with fail
        refine (kN _).mono ?_
        rintro e w7 ⟨v7, c7, rfl, hN, hb7'⟩
        have hb7 := hb6.trans (hb7'.mono hb6.size)
        unfold NewT at hN
        rw [if_neg (by simp [gOk]; omega)] at hN
        obtain ⟨rfl, rfl⟩ := hN
        have kW := cawake_of w7
        clear kN hb6 hb7'
        go_wp2_with fail
        refine kW.mono ?_
        rintro e w8 ⟨rfl, hb8⟩
        go_wp2
        go_ret
        exact ⟨rfl, hb7.trans (hb8.mono hb7.size)⟩
      · by_cases g2 : 16 < g
        · go_enter Try.func4, Try.ntmps4
          go_wp2_with fail
          refine kA.mono ?_
          rintro e w1 ⟨rfl, hb1⟩
          have k2 := kB w1 hb1
          clear kA kB
          go_wp2_with fail
          refine k2.mono ?_
          rintro e w2 ⟨rfl, hb2'⟩
          have hb2 := hb1.trans (hb2'.mono hb1.size)
          have k3 := kC w2 hb2
          clear k2 kC hb1 hb2'
          go_wp2_with fail
          refine k3.mono ?_
          rintro e w3 ⟨rfl, hb3'⟩
          have hb3 := hb2.trans (hb3'.mono hb2.size)
          have k4 := kM w3 hb3
          clear k3 kM hb2 hb3'
          go_wp2_with fail
          refine k4.mono ?_
          rintro e w4 ⟨rfl, hb4'⟩
          have hb4 := hb3.trans (hb4'.mono hb3.size)
          have k5 := kV w4 hb4
          clear k4 kV hb3 hb4'
          go_wp2_with fail
          refine k5.mono ?_
          rintro e w5 ⟨rfl, hb5'⟩
          have hb5 := hb4.trans (hb5'.mono hb4.size)
          have k6 := kX w5 hb5
          clear k5 kX hb4 hb5'
          go_wp2_with fail
          refine k6.mono ?_
          rintro e w6 ⟨rfl, hb6'⟩
          have hb6 := hb5.trans (hb6'.mono hb5.size)
          clear k6 hb5 hb6'
          go_wp2_with fail
          refine (kN _).mono ?_
          rintro e w7 ⟨v7, c7, rfl, hN, hb7'⟩
          have hb7 := hb6.trans (hb7'.mono hb6.size)
          unfold NewT at hN
          rw [if_neg (by simp [gOk]; omega)] at hN
          obtain ⟨rfl, rfl⟩ := hN
          have kW := cawake_of w7
          clear kN hb6 hb7'
          go_wp2_with fail
          refine kW.mono ?_
          rintro e w8 ⟨rfl, hb8⟩
          go_wp2
          go_ret
          exact ⟨rfl, hb7.trans (hb8.mono hb7.size)⟩
        · go_enter Try.func4, Try.ntmps4
          go_wp2_with fail
          refine kA.mono ?_
          rintro e w1 ⟨rfl, hb1⟩
          have k2 := kB w1 hb1
          clear kA kB
          go_wp2_with fail
          refine k2.mono ?_
          rintro e w2 ⟨rfl, hb2'⟩
          have hb2 := hb1.trans (hb2'.mono hb1.size)
          have k3 := kC w2 hb2
          clear k2 kC hb1 hb2'
          go_wp2_with fail
          refine k3.mono ?_
          rintro e w3 ⟨rfl, hb3'⟩
          have hb3 := hb2.trans (hb3'.mono hb2.size)
          have k4 := kM w3 hb3
          clear k3 kM hb2 hb3'
          go_wp2_with fail
          refine k4.mono ?_
          rintro e w4 ⟨rfl, hb4'⟩
          have hb4 := hb3.trans (hb4'.mono hb3.size)
          have k5 := kV w4 hb4
          clear k4 kV hb3 hb4'
          go_wp2_with fail
          refine k5.mono ?_
          rintro e w5 ⟨rfl, hb5'⟩
          have hb5 := hb4.trans (hb5'.mono hb4.size)
          have k6 := kX w5 hb5
          clear k5 kX hb4 hb5'
          go_wp2_with fail
          refine k6.mono ?_
          rintro e w6 ⟨rfl, hb6'⟩
          have hb6 := hb5.trans (hb6'.mono hb5.size)
          clear k6 hb5 hb6'
          go_wp2_with fail
          refine (kN _).mono ?_
          rintro e w7 ⟨v7, c7, rfl, hN, hb7'⟩
          have hb7 := hb6.trans (hb7'.mono hb6.size)
          unfold NewT at hN
          rw [if_pos (by simp [gOk]; omega)] at hN
          obtain ⟨rfl, hR⟩ := hN
          obtain ⟨q1, q2, q3⟩ := one_box w7 (.cells #[.string { data := #[] }, .string { data := #[] }, .int .i64 g, .int .u64 1] 42)
          have hb8 := hb7.trans (q3.mono hb7.size)
          have kS := csame_of [(([], []), g, 1)] v7 (.slice (some ⟨w7.heap.size, 0, none⟩) 1 1) _ (hR.below q3).cv (Rk.made (E := rgE) (xs := [(([], []), g, 1)]) q2 rfl (by unfold maxLen; simp)).rd.cv (by simp)
          clear kN hb6 hb7' q1 q2 q3 hR hb7
          go_wp2_with fail
          generalize (w7.alloc (.cells #[.string { data := #[] }, .string { data := #[] }, .int .i64 g, .int .u64 1] 42)) = w8 at *
          refine kS.mono ?_
          rintro e w9 ⟨rfl, hb9'⟩
          have hb9 := hb8.trans (hb9'.mono hb8.size)
          have kW := cawake_of w9
          clear kS hb8 hb9'
          go_wp2_with fail
          refine kW.mono ?_
          rintro e wA ⟨rfl, hbA⟩
          go_wp2
          go_ret
          exact ⟨rfl, hb9.trans (hbA.mono hb9.size)⟩
  | some i =>
    unfold findV at kA
    unfold idxI at kB
    have hi0 : (0 : Int) ≤ (i : Int) := hfin i rfl
    have hi1 : ¬ (i : Int) < 0 := by omega
    clear hfin
    cases B with
    | false =>
      simp only [Bool.false_eq_true, if_false] at kC
      by_cases g1 : g < 1
      · go_enter Try.func4, Try.ntmps4
        go_wp2_with fail
        refine kA.mono ?_
        rintro e w1 ⟨rfl, hb1⟩
        have k2 := kB w1 hb1
        clear kA kB
        go_wp2_with fail
        refine k2.mono ?_
        rintro e w2 ⟨rfl, hb2'⟩
        have hb2 := hb1.trans (hb2'.mono hb1.size)
        have k3 := kC w2 hb2
        clear k2 kC hb1 hb2'
        go_wp2_with fail
        refine k3.mono ?_
        rintro e w3 ⟨rfl, hb3'⟩
        have hb3 := hb2.trans (hb3'.mono hb2.size)
        have k4 := kM w3 hb3
        clear k3 kM hb2 hb3'
        go_wp2_with fail
        refine k4.mono ?_
        rintro e w4 ⟨rfl, hb4'⟩
        have hb4 := hb3.trans (hb4'.mono hb3.size)
        have k5 := kV w4 hb4
        clear k4 kV hb3 hb4'
        go_wp2_with fail
        refine k5.mono ?_
        rintro e w5 ⟨rfl, hb5'⟩
        have hb5 := hb4.trans (hb5'.mono hb4.size)
        have k6 := kX w5 hb5
        clear k5 kX hb4 hb5'
        go_wp2_with fail
        refine k6.mono ?_
        rintro e w6 ⟨rfl, hb6'⟩
        have hb6 := hb5.trans (hb6'.mono hb5.size)
        clear k6 hb5 hb6'
        go_wp2_with fail
        refine (kN _).mono ?_
        rintro e w7 ⟨v7, c7, rfl, hN, hb7'⟩
        have hb7 := hb6.trans (hb7'.mono hb6.size)
        unfold NewT at hN
        rw [if_neg (by simp [gOk]; omega)] at hN
        obtain ⟨rfl, rfl⟩ := hN
        have kW := cawake_of w7
        clear kN hb6 hb7'
        go_wp2_with fail
        refine kW.mono ?_
        rintro e w8 ⟨rfl, hb8⟩
        go_wp2
        go_ret
        exact ⟨rfl, hb7.trans (hb8.mono hb7.size)⟩
      · by_cases g2 : 16 < g
        · go_enter Try.func4, Try.ntmps4
          go_wp2_with fail
          refine kA.mono ?_
          rintro e w1 ⟨rfl, hb1⟩
          have k2 := kB w1 hb1
          clear kA kB
          go_wp2_with fail
          refine k2.mono ?_
          rintro e w2 ⟨rfl, hb2'⟩
          have hb2 := hb1.trans (hb2'.mono hb1.size)
          have k3 := kC w2 hb2
          clear k2 kC hb1 hb2'
          go_wp2_with fail
          refine k3.mono ?_
          rintro e w3 ⟨rfl, hb3'⟩
          have hb3 := hb2.trans (hb3'.mono hb2.size)
          have k4 := kM w3 hb3
          clear k3 kM hb2 hb3'
          go_wp2_with fail
          refine k4.mono ?_
          rintro e w4 ⟨rfl, hb4'⟩
          have hb4 := hb3.trans (hb4'.mono hb3.size)
          have k5 := kV w4 hb4
          clear k4 kV hb3 hb4'
          go_wp2_with fail
          refine k5.mono ?_
          rintro e w5 ⟨rfl, hb5'⟩
          have hb5 := hb4.trans (hb5'.mono hb4.size)
          have k6 := kX w5 hb5
          clear k5 kX hb4 hb5'
          go_wp2_with fail
          refine k6.mono ?_
          rintro e w6 ⟨rfl, hb6'⟩
          have hb6 := hb5.trans (hb6'.mono hb5.size)
          clear k6 hb5 hb6'
          go_wp2_with fail
          refine (kN _).mono ?_
          rintro e w7 ⟨v7, c7, rfl, hN, hb7'⟩
          have hb7 := hb6.trans (hb7'.mono hb6.size)
          unfold NewT at hN
          rw [if_neg (by simp [gOk]; omega)] at hN
          obtain ⟨rfl, rfl⟩ := hN
          have kW := cawake_of w7
          clear kN hb6 hb7'
          go_wp2_with fail
          refine kW.mono ?_
          rintro e w8 ⟨rfl, hb8⟩
          go_wp2
          go_ret
          exact ⟨rfl, hb7.trans (hb8.mono hb7.size)⟩
        · go_enter Try.func4, Try.ntmps4
          go_wp2_with fail
          refine kA.mono ?_
          rintro e w1 ⟨rfl, hb1⟩
          have k2 := kB w1 hb1
          clear kA kB
          go_wp2_with fail
          refine k2.mono ?_
          rintro e w2 ⟨rfl, hb2'⟩
          have hb2 := hb1.trans (hb2'.mono hb1.size)
          have k3 := kC w2 hb2
          clear k2 kC hb1 hb2'
          go_wp2_with fail
          refine k3.mono ?_
          rintro e w3 ⟨rfl, hb3'⟩
          have hb3 := hb2.trans (hb3'.mono hb2.size)
          have k4 := kM w3 hb3
          clear k3 kM hb2 hb3'
          go_wp2_with fail
          refine k4.mono ?_
          rintro e w4 ⟨rfl, hb4'⟩
          have hb4 := hb3.trans (hb4'.mono hb3.size)
          have k5 := kV w4 hb4
          clear k4 kV hb3 hb4'
          go_wp2_with fail
          refine k5.mono ?_
          rintro e w5 ⟨rfl, hb5'⟩
          have hb5 := hb4.trans (hb5'.mono hb4.size)
          have k6 := kX w5 hb5
          clear k5 kX hb4 hb5'
          go_wp2_with fail
          refine k6.mono ?_
          rintro e w6 ⟨rfl, hb6'⟩
          have hb6 := hb5.trans (hb6'.mono hb5.size)
          clear k6 hb5 hb6'
          go_wp2_with fail
          refine (kN _).mono ?_
          rintro e w7 ⟨v7, c7, rfl, hN, hb7'⟩
          have hb7 := hb6.trans (hb7'.mono hb6.size)
          unfold NewT at hN
          rw [if_pos (by simp [gOk]; omega)] at hN
          obtain ⟨rfl, hR⟩ := hN
          obtain ⟨q1, q2, q3⟩ := one_box w7 (.cells #[.string { data := #[] }, .string { data := #[] }, .int .i64 g, .int .u64 1] 42)
          have hb8 := hb7.trans (q3.mono hb7.size)
          have kS := csame_of [(([], []), g, 1)] v7 (.slice (some ⟨w7.heap.size, 0, none⟩) 1 1) _ (hR.below q3).cv (Rk.made (E := rgE) (xs := [(([], []), g, 1)]) q2 rfl (by unfold maxLen; simp)).rd.cv (by simp)
          clear kN hb6 hb7' q1 q2 q3 hR hb7
          go_wp2_with fail
          generalize (w7.alloc (.cells #[.string { data := #[] }, .string { data := #[] }, .int .i64 g, .int .u64 1] 42)) = w8 at *
          refine kS.mono ?_
          rintro e w9 ⟨rfl, hb9'⟩
          have hb9 := hb8.trans (hb9'.mono hb8.size)
          have kW := cawake_of w9
          clear kS hb8 hb9'
          go_wp2_with fail
          refine kW.mono ?_
          rintro e wA ⟨rfl, hbA⟩
          go_wp2
          go_ret
          exact ⟨rfl, hb9.trans (hbA.mono hb9.size)⟩
    | true =>
      simp only [if_true] at kC
      by_cases g1 : g < 1
      · go_enter Try.func4, Try.ntmps4
        go_wp2_with fail
        refine kA.mono ?_
        rintro e w1 ⟨rfl, hb1⟩
        have k2 := kB w1 hb1
        clear kA kB
        go_wp2_with fail
        refine k2.mono ?_
        rintro e w2 ⟨rfl, hb2'⟩
        have hb2 := hb1.trans (hb2'.mono hb1.size)
        have k3 := kC w2 hb2
        clear k2 kC hb1 hb2'
        go_wp2_with fail
        refine k3.mono ?_
        rintro e w3 ⟨rfl, hb3'⟩
        have hb3 := hb2.trans (hb3'.mono hb2.size)
        have k4 := kM w3 hb3
        clear k3 kM hb2 hb3'
        go_wp2_with fail
        refine k4.mono ?_
        rintro e w4 ⟨rfl, hb4'⟩
        have hb4 := hb3.trans (hb4'.mono hb3.size)
        have k5 := kV w4 hb4
        clear k4 kV hb3 hb4'
        go_wp2_with fail
        refine k5.mono ?_
        rintro e w5 ⟨rfl, hb5'⟩
        have hb5 := hb4.trans (hb5'.mono hb4.size)
        have k6 := kX w5 hb5
        clear k5 kX hb4 hb5'
        go_wp2_with fail
        refine k6.mono ?_
        rintro e w6 ⟨rfl, hb6'⟩
        have hb6 := hb5.trans (hb6'.mono hb5.size)
        clear k6 hb5 hb6'
        go_wp2_with fail
        refine (kN _).mono ?_
        rintro e w7 ⟨v7, c7, rfl, hN, hb7'⟩
        have hb7 := hb6.trans (hb7'.mono hb6.size)
        unfold NewT at hN
        rw [if_neg (by simp [gOk]; omega)] at hN
        obtain ⟨rfl, rfl⟩ := hN
        have kW := cawake_of w7
        clear kN hb6 hb7'
        go_wp2_with fail
        refine kW.mono ?_
        rintro e w8 ⟨rfl, hb8⟩
        go_wp2
        go_ret
        exact ⟨rfl, hb7.trans (hb8.mono hb7.size)⟩
      · by_cases g2 : 16 < g
        · go_enter Try.func4, Try.ntmps4
          go_wp2_with fail
          refine kA.mono ?_
          rintro e w1 ⟨rfl, hb1⟩
          have k2 := kB w1 hb1
          clear kA kB
          go_wp2_with fail
          refine k2.mono ?_
          rintro e w2 ⟨rfl, hb2'⟩
          have hb2 := hb1.trans (hb2'.mono hb1.size)
          have k3 := kC w2 hb2
          clear k2 kC hb1 hb2'
          go_wp2_with fail
          refine k3.mono ?_
          rintro e w3 ⟨rfl, hb3'⟩
          have hb3 := hb2.trans (hb3'.mono hb2.size)
          have k4 := kM w3 hb3
          clear k3 kM hb2 hb3'
          go_wp2_with fail
          refine k4.mono ?_
          rintro e w4 ⟨rfl, hb4'⟩
          have hb4 := hb3.trans (hb4'.mono hb3.size)
          have k5 := kV w4 hb4
          clear k4 kV hb3 hb4'
          go_wp2_with fail
          refine k5.mono ?_
          rintro e w5 ⟨rfl, hb5'⟩
          have hb5 := hb4.trans (hb5'.mono hb4.size)
          have k6 := kX w5 hb5
          clear k5 kX hb4 hb5'
          go_wp2_with fail
          refine k6.mono ?_
          rintro e w6 ⟨rfl, hb6'⟩
          have hb6 := hb5.trans (hb6'.mono hb5.size)
          clear k6 hb5 hb6'
          go_wp2_with fail
          refine (kN _).mono ?_
          rintro e w7 ⟨v7, c7, rfl, hN, hb7'⟩
          have hb7 := hb6.trans (hb7'.mono hb6.size)
          unfold NewT at hN
          rw [if_neg (by simp [gOk]; omega)] at hN
          obtain ⟨rfl, rfl⟩ := hN
          have kW := cawake_of w7
          clear kN hb6 hb7'
          go_wp2_with fail
          refine kW.mono ?_
          rintro e w8 ⟨rfl, hb8⟩
          go_wp2
          go_ret
          exact ⟨rfl, hb7.trans (hb8.mono hb7.size)⟩
        · go_enter Try.func4, Try.ntmps4
          go_wp2_with fail
          refine kA.mono ?_
          rintro e w1 ⟨rfl, hb1⟩
          have k2 := kB w1 hb1
          clear kA kB
          go_wp2_with fail
          refine k2.mono ?_
          rintro e w2 ⟨rfl, hb2'⟩
          have hb2 := hb1.trans (hb2'.mono hb1.size)
          have k3 := kC w2 hb2
          clear k2 kC hb1 hb2'
          go_wp2_with fail
          refine k3.mono ?_
          rintro e w3 ⟨rfl, hb3'⟩
          have hb3 := hb2.trans (hb3'.mono hb2.size)
          have k4 := kM w3 hb3
          clear k3 kM hb2 hb3'
          go_wp2_with fail
          refine k4.mono ?_
          rintro e w4 ⟨rfl, hb4'⟩
          have hb4 := hb3.trans (hb4'.mono hb3.size)
          have k5 := kV w4 hb4
          clear k4 kV hb3 hb4'
          go_wp2_with fail
          refine k5.mono ?_
          rintro e w5 ⟨rfl, hb5'⟩
          have hb5 := hb4.trans (hb5'.mono hb4.size)
          have k6 := kX w5 hb5
          clear k5 kX hb4 hb5'
          go_wp2_with fail
          refine k6.mono ?_
          rintro e w6 ⟨rfl, hb6'⟩
          have hb6 := hb5.trans (hb6'.mono hb5.size)
          clear k6 hb5 hb6'
          go_wp2_with fail
          refine (kN _).mono ?_
          rintro e w7 ⟨v7, c7, rfl, hN, hb7'⟩
          have hb7 := hb6.trans (hb7'.mono hb6.size)
          unfold NewT at hN
          rw [if_pos (by simp [gOk]; omega)] at hN
          obtain ⟨rfl, hR⟩ := hN
          obtain ⟨q1, q2, q3⟩ := one_box w7 (.cells #[.string { data := #[] }, .string { data := #[] }, .int .i64 g, .int .u64 1] 42)
          have hb8 := hb7.trans (q3.mono hb7.size)
          have kS := csame_of [(([], []), g, 1)] v7 (.slice (some ⟨w7.heap.size, 0, none⟩) 1 1) _ (hR.below q3).cv (Rk.made (E := rgE) (xs := [(([], []), g, 1)]) q2 rfl (by unfold maxLen; simp)).rd.cv (by simp)
          clear kN hb6 hb7' q1 q2 q3 hR hb7
          go_wp2_with fail
          generalize (w7.alloc (.cells #[.string { data := #[] }, .string { data := #[] }, .int .i64 g, .int .u64 1] 42)) = w8 at *
          refine kS.mono ?_
          rintro e w9 ⟨rfl, hb9'⟩
          have hb9 := hb8.trans (hb9'.mono hb8.size)
          have kW := cawake_of w9
          clear kS hb8 hb9'
          go_wp2_with fail
          refine kW.mono ?_
          rintro e wA ⟨rfl, hbA⟩
          go_wp2
          go_ret
          exact ⟨rfl, hb9.trans (hbA.mono hb9.size)⟩
end Go.Proofs.Ytldlimakcdaoaaa

