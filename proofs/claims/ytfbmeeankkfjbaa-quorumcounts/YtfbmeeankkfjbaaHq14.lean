import Derived.Test.YtfbmeeankkfjbaaHq11
import Derived.Test.YtfbmeeankkfjbaaHq13
/- The law QuorumCounts. -/
namespace Go.Proofs.Ytfbmeeankkfjbaa
open Go.RowKit QuorumMath
set_option maxRecDepth 100000
set_option linter.unusedSimpArgs false
set_option linter.unusedVariables false

set_option maxHeartbeats 4000000 in
theorem counts_law (v : List Int) (vv : Value) (l : List Int) (lv : Value) (w : World) (hV : Rd intE w vv v) (hlv : v.length * 8 ≤ 140737488355328) (hF : Rd intE w lv l) (hlen : l.length * 8 ≤ 140737488355328) : Calls Try.prog 3 #[vv, lv] w fun e w' => e = .returned (.bool true) ∧ Below w.heap.size w w' := by
  have ka := fun W => awake_of W
  by_cases h1000 : 1000 < l.length
  · have h1000i : (1000 : Int) < (l.length : Int) := by omega
    obtain ⟨ao, cap, rfl, -, -⟩ := hF.shape
    obtain ⟨va, vcap, rfl, -, -⟩ := hV.shape
    clear hF hV
    go_enter Try.func3, Try.ntmps3
    go_wp2_with fail
    refine (ka _).mono ?_
    rintro e w1 ⟨rfl, hb1⟩
    go_wp2
    go_ret
    exact ⟨rfl, hb1⟩
  · have h1000i : ¬ (1000 : Int) < (l.length : Int) := by omega
    have kv := rvoters_of v vv w hV (by omega)
    have kn := fun W (hW : Below w.heap.size w W) => rcount_of v vv l lv W (hV.below hW) (hF.below hW) (by omega) (by omega)
    have kk := fun W (hW : Below w.heap.size w W) => check_of v vv W (hV.below hW) (by omega)
    have kw := fun W (hW : Below w.heap.size w W) => won_of v vv l lv W (hV.below hW) (hF.below hW) (by omega) (by omega)
    have kl := fun W (hW : Below w.heap.size w W) => lost_of v vv l lv W (hV.below hW) (hF.below hW) (by omega) (by omega)
    have hcl := cnt_le v l
    obtain ⟨ao, cap, rfl, -, -⟩ := hF.shape
    obtain ⟨va, vcap, rfl, -, -⟩ := hV.shape
    clear hF hV
    cases hm : votB v with
    | false =>
      have e1 : wonB v l = false := by unfold wonB; rw [hm]; rfl
      have e2 : lostB v l = false := by unfold lostB; rw [hm]; rfl
      rw [hm] at kv kk
      rw [e1] at kw
      rw [e2] at kl
      clear e1 e2 hm
      generalize cnt v l = c at *
      generalize v.length = n at *
      go_enter Try.func3, Try.ntmps3
      go_wp2_with fail
      refine (kv).mono ?_
      rintro e w1 ⟨rfl, hb1⟩
      have kn1 := kn w1 hb1
      have kk1 := kk w1 hb1
      have kw1 := kw w1 hb1
      have kl1 := kl w1 hb1
      clear kn kk kw kl kv
      go_wp2_with fail
      refine (kn1).mono ?_
      rintro e w2 ⟨rfl, hw2⟩
      subst hw2
      go_wp2_with fail
      refine (kk1).mono ?_
      rintro e w3 ⟨rfl, hw3⟩
      subst hw3
      go_wp2_with fail
      refine (kw1).mono ?_
      rintro e w4 ⟨rfl, hw4⟩
      subst hw4
      go_wp2_with fail
      refine (kl1).mono ?_
      rintro e w5 ⟨rfl, hw5⟩
      subst hw5
      go_wp2_with fail
      refine (ka _).mono ?_
      rintro e w6 ⟨rfl, hb6⟩
      go_wp2
      go_ret
      exact ⟨rfl, hb1.trans (hb6.mono hb1.size)⟩
    | true =>
      rw [hm] at kv kk
      by_cases h1 : v.length < 2 * cnt v l
      · have e1 : wonB v l = true := by unfold wonB; rw [hm, Bool.true_and]; simp [h1]
        have i1 : decide ((v.length : Int) < 2 * (cnt v l : Int)) = true := by simp; omega
        rw [e1] at kw
        by_cases h2 : 2 * (v.length - cnt v l) ≤ v.length
        · have e2 : lostB v l = true := by unfold lostB; rw [hm, Bool.true_and]; simp [h2]
          have i2 : decide (2 * ((v.length : Int) - (cnt v l : Int)) ≤ (v.length : Int)) = true := by simp; omega
          rw [e2] at kl
          clear e1 e2 hm
          generalize cnt v l = c at *
          generalize v.length = n at *
          go_enter Try.func3, Try.ntmps3
          go_wp2_with fail
          refine (kv).mono ?_
          rintro e w1 ⟨rfl, hb1⟩
          have kn1 := kn w1 hb1
          have kk1 := kk w1 hb1
          have kw1 := kw w1 hb1
          have kl1 := kl w1 hb1
          clear kn kk kw kl kv
          go_wp2_with fail
          refine (kn1).mono ?_
          rintro e w2 ⟨rfl, hw2⟩
          subst hw2
          go_wp2_with fail
          refine (kk1).mono ?_
          rintro e w3 ⟨rfl, hw3⟩
          subst hw3
          go_wp2_with fail
          refine (kw1).mono ?_
          rintro e w4 ⟨rfl, hw4⟩
          subst hw4
          go_wp2_with fail
          refine (kl1).mono ?_
          rintro e w5 ⟨rfl, hw5⟩
          subst hw5
          go_wp2_with fail
          refine (ka _).mono ?_
          rintro e w6 ⟨rfl, hb6⟩
          go_wp2
          go_ret
          exact ⟨rfl, hb1.trans (hb6.mono hb1.size)⟩
        · have e2 : lostB v l = false := by unfold lostB; rw [hm, Bool.true_and]; simp [h2]
          have i2 : decide (2 * ((v.length : Int) - (cnt v l : Int)) ≤ (v.length : Int)) = false := by simp; omega
          rw [e2] at kl
          clear e1 e2 hm
          generalize cnt v l = c at *
          generalize v.length = n at *
          go_enter Try.func3, Try.ntmps3
          go_wp2_with fail
          refine (kv).mono ?_
          rintro e w1 ⟨rfl, hb1⟩
          have kn1 := kn w1 hb1
          have kk1 := kk w1 hb1
          have kw1 := kw w1 hb1
          have kl1 := kl w1 hb1
          clear kn kk kw kl kv
          go_wp2_with fail
          refine (kn1).mono ?_
          rintro e w2 ⟨rfl, hw2⟩
          subst hw2
          go_wp2_with fail
          refine (kk1).mono ?_
          rintro e w3 ⟨rfl, hw3⟩
          subst hw3
          go_wp2_with fail
          refine (kw1).mono ?_
          rintro e w4 ⟨rfl, hw4⟩
          subst hw4
          go_wp2_with fail
          refine (kl1).mono ?_
          rintro e w5 ⟨rfl, hw5⟩
          subst hw5
          go_wp2_with fail
          refine (ka _).mono ?_
          rintro e w6 ⟨rfl, hb6⟩
          go_wp2
          go_ret
          exact ⟨rfl, hb1.trans (hb6.mono hb1.size)⟩
      · have e1 : wonB v l = false := by unfold wonB; rw [hm, Bool.true_and]; simp [h1]
        have i1 : decide ((v.length : Int) < 2 * (cnt v l : Int)) = false := by simp; omega
        rw [e1] at kw
        by_cases h2 : 2 * (v.length - cnt v l) ≤ v.length
        · have e2 : lostB v l = true := by unfold lostB; rw [hm, Bool.true_and]; simp [h2]
          have i2 : decide (2 * ((v.length : Int) - (cnt v l : Int)) ≤ (v.length : Int)) = true := by simp; omega
          rw [e2] at kl
          clear e1 e2 hm
          generalize cnt v l = c at *
          generalize v.length = n at *
          go_enter Try.func3, Try.ntmps3
          go_wp2_with fail
          refine (kv).mono ?_
          rintro e w1 ⟨rfl, hb1⟩
          have kn1 := kn w1 hb1
          have kk1 := kk w1 hb1
          have kw1 := kw w1 hb1
          have kl1 := kl w1 hb1
          clear kn kk kw kl kv
          go_wp2_with fail
          refine (kn1).mono ?_
          rintro e w2 ⟨rfl, hw2⟩
          subst hw2
          go_wp2_with fail
          refine (kk1).mono ?_
          rintro e w3 ⟨rfl, hw3⟩
          subst hw3
          go_wp2_with fail
          refine (kw1).mono ?_
          rintro e w4 ⟨rfl, hw4⟩
          subst hw4
          go_wp2_with fail
          refine (kl1).mono ?_
          rintro e w5 ⟨rfl, hw5⟩
          subst hw5
          go_wp2_with fail
          refine (ka _).mono ?_
          rintro e w6 ⟨rfl, hb6⟩
          go_wp2
          go_ret
          exact ⟨rfl, hb1.trans (hb6.mono hb1.size)⟩
        · have e2 : lostB v l = false := by unfold lostB; rw [hm, Bool.true_and]; simp [h2]
          have i2 : decide (2 * ((v.length : Int) - (cnt v l : Int)) ≤ (v.length : Int)) = false := by simp; omega
          rw [e2] at kl
          clear e1 e2 hm
          generalize cnt v l = c at *
          generalize v.length = n at *
          go_enter Try.func3, Try.ntmps3
          go_wp2_with fail
          refine (kv).mono ?_
          rintro e w1 ⟨rfl, hb1⟩
          have kn1 := kn w1 hb1
          have kk1 := kk w1 hb1
          have kw1 := kw w1 hb1
          have kl1 := kl w1 hb1
          clear kn kk kw kl kv
          go_wp2_with fail
          refine (kn1).mono ?_
          rintro e w2 ⟨rfl, hw2⟩
          subst hw2
          go_wp2_with fail
          refine (kk1).mono ?_
          rintro e w3 ⟨rfl, hw3⟩
          subst hw3
          go_wp2_with fail
          refine (kw1).mono ?_
          rintro e w4 ⟨rfl, hw4⟩
          subst hw4
          go_wp2_with fail
          refine (kl1).mono ?_
          rintro e w5 ⟨rfl, hw5⟩
          subst hw5
          go_wp2_with fail
          refine (ka _).mono ?_
          rintro e w6 ⟨rfl, hb6⟩
          go_wp2
          go_ret
          exact ⟨rfl, hb1.trans (hb6.mono hb1.size)⟩
end Go.Proofs.Ytfbmeeankkfjbaa

