import Derived.Test.YtfbmeeankkfjbaaHq11
import Derived.Test.YtfbmeeankkfjbaaHq22
import Derived.Test.YtfbmeeankkfjbaaHq27
/- The law QuorumNexts. -/
namespace Go.Proofs.Ytfbmeeankkfjbaa
open Go.RowKit QuorumMath
set_option maxRecDepth 100000
set_option linter.unusedSimpArgs false
set_option linter.unusedVariables false

/-- 'append([]int{}, l...)': the world in which it is made. -/
theorem copy_int {w : World} {x : Value} {ys : List Int} (hx : Rd intE w x ys) (hly : ys.length ≤ 1000000) {n : Nat} (hn : w.heap.size = n) :
    ∀ ty, ∃ v' w', (Builtin.append_ #[22, 22] ty #[.slice (some ⟨n, 0, none⟩) 0 0, x]).run Try.prog (w.alloc (.cells #[] 3)) = .ok v' w' ∧ CopyT intE 3 w ys v' w' := by
  intro ty
  subst hn
  obtain ⟨q1, q2, q3⟩ := one_box w (.cells #[] 3)
  have hO : Ow intE 3 w.heap.size (w.alloc (.cells #[] 3)) (.slice (some ⟨w.heap.size, 0, none⟩) 0 0) [] := ⟨Rk.made (xs := []) q2 rfl (by unfold maxLen; simp), fun k hk => by cases hk; exact Nat.le_refl _⟩
  obtain ⟨v', w', h1, h2⟩ := append_int hO.1 (hx.below q3) (by simp) hly ty
  obtain ⟨h3, h4⟩ := hO.push (by rw [q1]; omega) h2
  exact ⟨v', w', h1, h3, q3.trans h4⟩
theorem next_code (v : List Int) (z : Int) (inn : Bool) : (nextC v z inn).1 = 0 → safeB v (nextC v z inn).2 = true := by
  unfold nextC
  cases hv : votB v with
  | false => intro h; simp at h
  | true =>
    cases hz : nodeB z with
    | false => intro h; simp at h
    | true =>
      simp only [Bool.and_self, if_true]
      by_cases h1 : decide (z ∈ v) = inn
      · rw [if_pos h1]
        intro h
        exact absurd h (by decide)
      · rw [if_neg h1]
        by_cases h2 : (keepM v z inn).length = 0
        · rw [if_pos h2]
          intro h
          exact absurd h (by decide)
        · rw [if_neg h2]
          intro _
          exact safe_next hv hz h1 h2
theorem next_len (v : List Int) (z : Int) (inn : Bool) : (nextC v z inn).2.length ≤ 7 := by
  have h7 := (keep_ris v z inn)
  have := good_len_7 h7
  unfold nextC
  split
  · split
    · simp
    · split
      · simp
      · exact this
  · simp

set_option maxHeartbeats 8000000 in
theorem nexts_law (a : List Int) (av : Value) (b : List Int) (bv : Value) (x0 x1 : Int) (w : World) (hA : Rd intE w av a) (hla : a.length * 8 ≤ 140737488355328) (hB : Rd intE w bv b) (hlb : b.length * 8 ≤ 140737488355328) : Calls Try.prog 6 #[av, bv, .agg #[.int .i64 x0, .int .i64 x1]] w fun e w' => e = .returned (.bool true) ∧ Below w.heap.size w w' := by
  have ka := fun W => awake_of W
  obtain ⟨hs0, g0, hb0⟩ := one_box w (.cells #[.int .i64 x0, .int .i64 x1] 33)
  by_cases h1 : 100 < a.length
  · have h1i : (100 : Int) < (a.length : Int) := by omega
    obtain ⟨aa, ac, rfl, -, -⟩ := hA.shape
    obtain ⟨ba, bc, rfl, -, -⟩ := hB.shape
    clear hA hB
    go_enter Try.func6, Try.ntmps6
    go_wp2_with fail
    refine (ka _).mono ?_
    rintro e w1 ⟨rfl, hb1⟩
    go_wp2
    go_ret
    exact ⟨rfl, hb0.trans (hb1.mono hb0.size)⟩
  · have h1i : ¬ (100 : Int) < (a.length : Int) := by omega
    by_cases h2 : 100 < b.length
    · have h2i : (100 : Int) < (b.length : Int) := by omega
      obtain ⟨aa, ac, rfl, -, -⟩ := hA.shape
      obtain ⟨ba, bc, rfl, -, -⟩ := hB.shape
      clear hA hB
      go_enter Try.func6, Try.ntmps6
      go_wp2_with fail
      refine (ka _).mono ?_
      rintro e w1 ⟨rfl, hb1⟩
      go_wp2
      go_ret
      exact ⟨rfl, hb0.trans (hb1.mono hb0.size)⟩
    · have h2i : ¬ (100 : Int) < (b.length : Int) := by omega
      have hla1 : a.length ≤ 1000000 := by omega
      have hlb1 : b.length ≤ 1000000 := by omega
      obtain ⟨inn, hinn⟩ : ∃ inn, inn = (x1 == 1) := ⟨_, rfl⟩
      have hrunH : Hid _ := copy_int (hA.below hb0) hla1 hs0
      have cl : ∀ W, Below (w.heap.size + 1) (w.alloc (.cells #[.int .i64 x0, .int .i64 x1] 33)) W → W.cell? ⟨w.heap.size, 0, none⟩ = some (.int .i64 x0) ∧ W.cell? ⟨w.heap.size, 1, none⟩ = some (.int .i64 x1) := fun W hW => by
        have := (hW.block w.heap.size (Nat.lt_succ_self _)).trans g0
        exact ⟨by rw [cells_of_block this]; rfl, by rw [cells_of_block this]; rfl⟩
      have hsH : Hid _ := hs0
      have hAH : Hid (Rd intE w av a) := hA
      have hBH : Hid (Rd intE w bv b) := hB
      obtain ⟨aa, ac, rfl, -, -⟩ := hA.shape
      obtain ⟨ba, bc, rfl, -, -⟩ := hB.shape
      clear hA hB hs0 g0
      go_enter Try.func6, Try.ntmps6
      go_wp2_with (at_builtin; refine wp_by rfl _ _ _ rfl _ _ rfl rfl hrunH.out ?_)
      intro u w1 hp1
      obtain ⟨hO1, hb1⟩ := hp1
      clear hrunH
      have hb1' : Below (w.heap.size + 1) (w.alloc (.cells #[.int .i64 x0, .int .i64 x1] 33)) w1 := by have h9 := hb1; rw [hsH.out] at h9; exact h9
      obtain ⟨c0, c1⟩ := cl w1 hb1'
      have k1 := next_of a u x0 (x1 == 1) w1 hO1.1.rd (by omega)
      obtain ⟨ua, uc, rfl, -, -⟩ := hO1.1.rd.shape
      go_wp2_with fail
      refine k1.mono ?_
      rintro e w2 ⟨⟨nv, rfl, hnR⟩, hb2⟩
      have hb2' := hb1'.trans (hb2.mono (by have h9 := hb1'.size; rw [hsH.out] at h9; exact h9))
      obtain ⟨d0, d1⟩ := cl w2 hb2'
      clear k1 c0 c1 hb1
      have hb02 := hb0.trans (hb2'.mono (Nat.le_succ _))
      have k2 := rnext_of a (.slice aa a.length ac) x0 (x1 == 1) w2 (hAH.out.below hb02) (by omega)
      have hcode := next_code a x0 (x1 == 1)
      have hll := next_len a x0 (x1 == 1)
      generalize nextC a x0 (x1 == 1) = CL at *
      obtain ⟨cd, ls⟩ := CL
      dsimp only at hnR hcode hll
      obtain ⟨na, nc, rfl, -, -⟩ := hnR.shape
      go_wp2_with fail
      refine k2.mono ?_
      rintro e w3 ⟨⟨mv, rfl, hmR⟩, hb3⟩
      have hb03 := hb02.trans (hb3.mono hb02.size)
      dsimp only at hmR
      obtain ⟨ma, mc, rfl, -, -⟩ := hmR.shape
      have hnR3 := hnR.below hb3
      have hu3 := (hO1.1.rd.below hb2).below hb3
      have k3 := ints_of ls (.slice na ls.length nc) (.slice ma ls.length mc) w3 hnR3 hmR (by omega)
      clear k2 d0 d1 hnR hmR cl hO1 hb1' hb2 hb2' hb3 hsH
      go_wp2_with fail
      refine (k3).mono ?_
      rintro e w4 ⟨rfl, hb4⟩
      have hb04 := hb03.trans (hb4.mono hb03.size)
      have k4 := ints_of a (.slice ua a.length uc) (.slice aa a.length ac) w4 (hu3.below hb4) (hAH.out.below hb04) (by omega)
      have hnR4 := hnR3.below hb4
      clear k3 hnR3 hu3
      go_wp2_with fail
      refine (k4).mono ?_
      rintro e w5 ⟨rfl, hb5⟩
      have hb05 := hb04.trans (hb5.mono hb04.size)
      have hnR5 := hnR4.below hb5
      have k5 := safe_of a (.slice aa a.length ac) ls (.slice na ls.length nc) w5 (hAH.out.below hb05) hnR5 hla1 (by omega)
      have k6 := rvoters_of a (.slice aa a.length ac) w5 (hAH.out.below hb05) (by omega)
      have k7 := fun W (hW : Below w.heap.size w W) => rvoters_of b (.slice ba b.length bc) W (hBH.out.below hW) (by omega)
      have k8 := fun W (hW : Below w.heap.size w W) => differ_of a (.slice aa a.length ac) b (.slice ba b.length bc) W (hAH.out.below hW) (hBH.out.below hW) hla1 hlb1
      have k9 := fun W (hW : Below w.heap.size w W) => safe_of a (.slice aa a.length ac) b (.slice ba b.length bc) W (hAH.out.below hW) (hBH.out.below hW) hla1 hlb1
      have k10 := fun W (hW : Below w.heap.size w W) => meet_of a (.slice aa a.length ac) b (.slice ba b.length bc) W (hAH.out.below hW) (hBH.out.below hW) hla1 hlb1
      have k11 := fun W (hW : Below w.heap.size w W) => rcount_of a (.slice aa a.length ac) b (.slice ba b.length bc) W (hAH.out.below hW) (hBH.out.below hW) (by omega) (by omega)
      have hSF0 : safeB a b = (votB a && votB b && decide ((a.length : Int) + (b.length : Int) - 2 * (cnt a b : Nat) ≤ 1)) := rfl
      clear k4 hnR4 hnR5 hAH hBH hb03 hb04
      generalize (a.length : Int) + (b.length : Int) - 2 * (cnt a b : Nat) = df at *
      generalize safeB a b = SF at *
      generalize cnt a b = ct at *
      generalize votB a = VA at *
      generalize votB b = VB at *
      have HSF : Hid _ := hSF0
      clear hSF0
      by_cases hcd : cd = 0
      · have hs1 := hcode hcd
        rw [hs1] at k5
        subst hcd
        clear hcode hs1
        cases VA with
        | false =>
          have hSF : SF = false := HSF.out
          subst hSF
          go_wp2_with fail
          refine (k5).mono ?_
          rintro e w55 ⟨rfl, hw55⟩
          subst hw55
          go_wp2_with fail
          refine (k6).mono ?_
          rintro e w6 ⟨rfl, hb6⟩
          have hb06 := hb05.trans (hb6.mono hb05.size)
          clear k6
          have k91 := k9 w6 hb06
          have k101 := k10 w6 hb06
          clear k9 k10
          go_wp2_with fail
          refine (k91).mono ?_
          rintro e w9 ⟨rfl, hw9⟩
          subst hw9
          go_wp2_with fail
          refine (k101).mono ?_
          rintro e w10 ⟨rfl, hb10⟩
          have hb010 := hb06.trans (hb10.mono hb06.size)
          have k111 := k11 w10 hb010
          clear k11 k101
          go_wp2_with fail
          refine (k111).mono ?_
          rintro e w11 ⟨rfl, hw11⟩
          subst hw11
          go_wp2_with fail
          refine (ka _).mono ?_
          rintro e w12 ⟨rfl, hb12⟩
          go_wp2
          go_ret
          exact ⟨by simp, hb010.trans (hb12.mono hb010.size)⟩
        | true =>
          cases VB with
          | false =>
            have hSF : SF = false := HSF.out
            subst hSF
            go_wp2_with fail
            refine (k5).mono ?_
            rintro e w55 ⟨rfl, hw55⟩
            subst hw55
            go_wp2_with fail
            refine (k6).mono ?_
            rintro e w6 ⟨rfl, hb6⟩
            have hb06 := hb05.trans (hb6.mono hb05.size)
            clear k6
            have k71 := k7 w6 hb06
            clear k7
            go_wp2_with fail
            refine (k71).mono ?_
            rintro e w7 ⟨rfl, hb7⟩
            have hb07 := hb06.trans (hb7.mono hb06.size)
            clear k71
            have k91 := k9 w7 hb07
            have k101 := k10 w7 hb07
            clear k9 k10
            go_wp2_with fail
            refine (k91).mono ?_
            rintro e w9 ⟨rfl, hw9⟩
            subst hw9
            go_wp2_with fail
            refine (k101).mono ?_
            rintro e w10 ⟨rfl, hb10⟩
            have hb010 := hb07.trans (hb10.mono hb07.size)
            have k111 := k11 w10 hb010
            clear k11 k101
            go_wp2_with fail
            refine (k111).mono ?_
            rintro e w11 ⟨rfl, hw11⟩
            subst hw11
            go_wp2_with fail
            refine (ka _).mono ?_
            rintro e w12 ⟨rfl, hb12⟩
            go_wp2
            go_ret
            exact ⟨by simp, hb010.trans (hb12.mono hb010.size)⟩
          | true =>
            have hSF : SF = decide (df ≤ 1) := HSF.out
            subst hSF
            go_wp2_with fail
            refine (k5).mono ?_
            rintro e w55 ⟨rfl, hw55⟩
            subst hw55
            go_wp2_with fail
            refine (k6).mono ?_
            rintro e w6 ⟨rfl, hb6⟩
            have hb06 := hb05.trans (hb6.mono hb05.size)
            clear k6
            have k71 := k7 w6 hb06
            clear k7
            go_wp2_with fail
            refine (k71).mono ?_
            rintro e w7 ⟨rfl, hb7⟩
            have hb07 := hb06.trans (hb7.mono hb06.size)
            clear k71
            have k81 := k8 w7 hb07
            clear k8
            go_wp2_with fail
            refine (k81).mono ?_
            rintro e w8 ⟨rfl, hw8⟩
            subst hw8
            have k91 := k9 w8 hb07
            have k101 := k10 w8 hb07
            clear k9 k10
            go_wp2_with fail
            refine (k91).mono ?_
            rintro e w9 ⟨rfl, hw9⟩
            subst hw9
            go_wp2_with fail
            refine (k101).mono ?_
            rintro e w10 ⟨rfl, hb10⟩
            have hb010 := hb07.trans (hb10.mono hb07.size)
            have k111 := k11 w10 hb010
            clear k11 k101
            go_wp2_with fail
            refine (k111).mono ?_
            rintro e w11 ⟨rfl, hw11⟩
            subst hw11
            go_wp2_with fail
            refine (ka _).mono ?_
            rintro e w12 ⟨rfl, hb12⟩
            go_wp2
            go_ret
            exact ⟨by simp, hb010.trans (hb12.mono hb010.size)⟩
      · have hcq : (cd == 0) = false := by simpa using hcd
        clear hcode k5
        cases VA with
        | false =>
          have hSF : SF = false := HSF.out
          subst hSF
          go_wp2_with fail
          refine (k6).mono ?_
          rintro e w6 ⟨rfl, hb6⟩
          have hb06 := hb05.trans (hb6.mono hb05.size)
          clear k6
          have k91 := k9 w6 hb06
          have k101 := k10 w6 hb06
          clear k9 k10
          go_wp2_with fail
          refine (k91).mono ?_
          rintro e w9 ⟨rfl, hw9⟩
          subst hw9
          go_wp2_with fail
          refine (k101).mono ?_
          rintro e w10 ⟨rfl, hb10⟩
          have hb010 := hb06.trans (hb10.mono hb06.size)
          have k111 := k11 w10 hb010
          clear k11 k101
          go_wp2_with fail
          refine (k111).mono ?_
          rintro e w11 ⟨rfl, hw11⟩
          subst hw11
          go_wp2_with fail
          refine (ka _).mono ?_
          rintro e w12 ⟨rfl, hb12⟩
          go_wp2
          go_ret
          exact ⟨by simp, hb010.trans (hb12.mono hb010.size)⟩
        | true =>
          cases VB with
          | false =>
            have hSF : SF = false := HSF.out
            subst hSF
            go_wp2_with fail
            refine (k6).mono ?_
            rintro e w6 ⟨rfl, hb6⟩
            have hb06 := hb05.trans (hb6.mono hb05.size)
            clear k6
            have k71 := k7 w6 hb06
            clear k7
            go_wp2_with fail
            refine (k71).mono ?_
            rintro e w7 ⟨rfl, hb7⟩
            have hb07 := hb06.trans (hb7.mono hb06.size)
            clear k71
            have k91 := k9 w7 hb07
            have k101 := k10 w7 hb07
            clear k9 k10
            go_wp2_with fail
            refine (k91).mono ?_
            rintro e w9 ⟨rfl, hw9⟩
            subst hw9
            go_wp2_with fail
            refine (k101).mono ?_
            rintro e w10 ⟨rfl, hb10⟩
            have hb010 := hb07.trans (hb10.mono hb07.size)
            have k111 := k11 w10 hb010
            clear k11 k101
            go_wp2_with fail
            refine (k111).mono ?_
            rintro e w11 ⟨rfl, hw11⟩
            subst hw11
            go_wp2_with fail
            refine (ka _).mono ?_
            rintro e w12 ⟨rfl, hb12⟩
            go_wp2
            go_ret
            exact ⟨by simp, hb010.trans (hb12.mono hb010.size)⟩
          | true =>
            have hSF : SF = decide (df ≤ 1) := HSF.out
            subst hSF
            go_wp2_with fail
            refine (k6).mono ?_
            rintro e w6 ⟨rfl, hb6⟩
            have hb06 := hb05.trans (hb6.mono hb05.size)
            clear k6
            have k71 := k7 w6 hb06
            clear k7
            go_wp2_with fail
            refine (k71).mono ?_
            rintro e w7 ⟨rfl, hb7⟩
            have hb07 := hb06.trans (hb7.mono hb06.size)
            clear k71
            have k81 := k8 w7 hb07
            clear k8
            go_wp2_with fail
            refine (k81).mono ?_
            rintro e w8 ⟨rfl, hw8⟩
            subst hw8
            have k91 := k9 w8 hb07
            have k101 := k10 w8 hb07
            clear k9 k10
            go_wp2_with fail
            refine (k91).mono ?_
            rintro e w9 ⟨rfl, hw9⟩
            subst hw9
            go_wp2_with fail
            refine (k101).mono ?_
            rintro e w10 ⟨rfl, hb10⟩
            have hb010 := hb07.trans (hb10.mono hb07.size)
            have k111 := k11 w10 hb010
            clear k11 k101
            go_wp2_with fail
            refine (k111).mono ?_
            rintro e w11 ⟨rfl, hw11⟩
            subst hw11
            go_wp2_with fail
            refine (ka _).mono ?_
            rintro e w12 ⟨rfl, hb12⟩
            go_wp2
            go_ret
            exact ⟨by simp, hb010.trans (hb12.mono hb010.size)⟩
end Go.Proofs.Ytfbmeeankkfjbaa

