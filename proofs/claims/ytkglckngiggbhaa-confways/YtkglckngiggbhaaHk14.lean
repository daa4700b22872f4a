import Derived.Test.YtkglckngiggbhaaHk12
import Derived.Test.YtkglckngiggbhaaHk13
import Derived.Test.YtkglckngiggbhaaHk10
/- The contract of Next. -/
namespace Go.Proofs.Ytkglckngiggbhaa
open Go.RowKit QuorumMath
set_option maxRecDepth 100000
set_option linter.unusedSimpArgs false
set_option linter.unusedVariables false

theorem rdi_nil (w : World) : Rd intE w (.slice none 0 0) [] := ⟨none, 0, rfl, by simp, fun _ => rfl, fun i x j u hx => by simp at hx⟩
/-- What Next tells. -/
def NxT (r : Int × List Int) (e : Ending) (w' : World) : Prop := ∃ v, e = .returned (.tuple #[v, .int .i64 r.1]) ∧ Rk intE w' 3 v r.2
set_option maxHeartbeats 8000000 in
theorem next_of (v : List Int) (vv : Value) (z : Int) (inn : Bool) (w : World) (hV : Rd intE w vv v) (hlv : v.length ≤ 1000000000000000) : Calls Try.prog 26 #[vv, .int .i64 z, .bool inn] w fun e w' => NxT (nextC v z inn) e w' ∧ Below w.heap.size w w' := by
  obtain ⟨T, HT0⟩ : ∃ T, Hid (T = NxT (nextC v z inn)) := ⟨_, rfl⟩
  rw [← HT0.out]
  have kc := check_of v vv w hV hlv
  have kn := isNode_of z w
  obtain ⟨ao, cap, rfl, hcap, -⟩ := hV.shape
  cases hm : votB v with
  | false =>
    rw [hm] at kc
    have HT : Hid (T = NxT (1, [])) := by show _ = _; rw [HT0.out]; unfold nextC; rw [hm]; rfl
    have E1 : Hid (∀ W, T (.returned (.tuple #[.slice none 0 0, .int .i64 1])) W) := fun W => by rw [HT.out]; exact ⟨_, rfl, Rk.nil _ _ _⟩
    clear HT HT0 hV hm kn
    go_enter Try.func26, Try.ntmps26
    go_wp2_with fail
    refine kc.mono ?_
    rintro e w1 ⟨rfl, hw1⟩
    subst hw1
    go_wp2
    go_ret2
    exact ⟨E1.out _, Below.refl _ _⟩
  | true =>
    rw [hm] at kc
    cases hn : nodeB z with
    | false =>
      rw [hn] at kn
      have HT : Hid (T = NxT (1, [])) := by show _ = _; rw [HT0.out]; unfold nextC; rw [hm, hn]; rfl
      have E1 : Hid (∀ W, T (.returned (.tuple #[.slice none 0 0, .int .i64 1])) W) := fun W => by rw [HT.out]; exact ⟨_, rfl, Rk.nil _ _ _⟩
      clear HT HT0 hV hm hn
      go_enter Try.func26, Try.ntmps26
      go_wp2_with fail
      refine kc.mono ?_
      rintro e w1 ⟨rfl, hw1⟩
      subst hw1
      go_wp2_with fail
      refine kn.mono ?_
      rintro e w2 ⟨rfl, hw2⟩
      subst hw2
      go_wp2
      go_ret2
      exact ⟨E1.out _, Below.refl _ _⟩
    | true =>
      rw [hn] at kn
      have hv := votB_iff.1 hm
      have hR := vot_ris hv
      have hz : 1 ≤ z ∧ z ≤ 7 := by simpa [nodeB] using hn
      have hl1 := hv.1
      have hl7 := hv.2.1
      obtain ⟨K, hK⟩ := spot_ex v z (ris_le hR.2)
      have hKl := hK.1
      have ks := search_of v (.slice ao v.length cap) z K w hV (by omega) hK (ris_le hR.2)
      have hsp := spot_in hK (ris_le hR.2)
      have HT1 : Hid (T = NxT (if decide (z ∈ v) = inn then (6, []) else if (keepM v z inn).length = 0 then (4, []) else (0, keepM v z inn))) := by show _ = _; rw [HT0.out]; unfold nextC; rw [hm, hn]; rfl
      clear HT0 hm hn hv
      obtain ⟨b, off, rfl, -⟩ := rdi_at hV (List.getElem?_eq_getElem (show 0 < v.length by omega))
      cases hin : decide (z ∈ v) with
      | true =>
        rw [hin] at ks
        cases inn with
        | true =>
          have HT : Hid (T = NxT (6, [])) := by show _ = _; rw [HT1.out, hin]; rfl
          have E1 : Hid (∀ W, T (.returned (.tuple #[.slice none 0 0, .int .i64 6])) W) := fun W => by rw [HT.out]; exact ⟨_, rfl, Rk.nil _ _ _⟩
          clear HT HT1 hV hin hR hK hsp
          go_enter Try.func26, Try.ntmps26
          go_wp2_with fail
          refine kc.mono ?_
          rintro e w1 ⟨rfl, hw1⟩
          subst hw1
          go_wp2_with fail
          refine kn.mono ?_
          rintro e w2 ⟨rfl, hw2⟩
          subst hw2
          go_wp2_with fail
          refine ks.mono ?_
          rintro e w3 ⟨rfl, hw3⟩
          subst hw3
          go_wp2
          go_ret2
          exact ⟨E1.out _, Below.refl _ _⟩
        | false =>
          have hzv : z ∈ v := by simpa using hin
          have hat := hsp.1 hzv
          have hKl' := (List.getElem?_eq_some_iff.1 hat).1
          have hdel := del_eq hR hat
          have hdl : (v.take K ++ v.drop (K + 1)).length = v.length - 1 := by rw [List.length_append, List.length_take, List.length_drop]; omega
          by_cases h1 : v.length = 1
          · have HT : Hid (T = NxT (4, [])) := by show _ = _; rw [HT1.out, hin, ← hdel, if_neg (by decide), if_pos (by rw [hdl]; omega)]
            have h1i : (v.length : Int) = 1 := by omega
            have E1 : Hid (∀ W, T (.returned (.tuple #[.slice none 0 0, .int .i64 4])) W) := fun W => by rw [HT.out]; exact ⟨_, rfl, Rk.nil _ _ _⟩
            clear HT HT1 hV hin hR hK hsp hat hdel hdl hzv h1
            go_enter Try.func26, Try.ntmps26
            go_wp2_with fail
            refine kc.mono ?_
            rintro e w1 ⟨rfl, hw1⟩
            subst hw1
            go_wp2_with fail
            refine kn.mono ?_
            rintro e w2 ⟨rfl, hw2⟩
            subst hw2
            go_wp2_with fail
            refine ks.mono ?_
            rintro e w3 ⟨rfl, hw3⟩
            subst hw3
            go_wp2
            go_ret2
            exact ⟨E1.out _, Below.refl _ _⟩
          · have HT : Hid (T = NxT (0, v.take K ++ v.drop (K + 1))) := by
              show _ = _
              rw [HT1.out, hin, ← hdel, if_neg (by decide), if_neg (by rw [hdl]; omega)]
            obtain ⟨J, hJ⟩ : ∃ J, Hid (J = K + 1) := ⟨_, rfl⟩
            have hJl : J ≤ v.length := by have := hJ.out; omega
            have hJK : K < J := by have := hJ.out; omega
            have jw : IntKind.i64.wrap ((K : Int) + 1) = (J : Int) := by rw [IntWalk.i64_in _ (by omega)]; have := hJ.out; omega
            have i0 : (K : Int) ≤ (v.length : Int) := by omega
            have i1 : (K : Int) ≤ (cap : Int) := by omega
            have i2 : (J : Int) ≤ (v.length : Int) := by omega
            have i3 : (J : Int) ≤ (cap : Int) := by omega
            have hq1 : ¬ (v.length : Int) = 1 := by omega
            rw [← hJ.out] at HT hdl
            obtain ⟨AD, hAD⟩ : ∃ AD, (if cap = J then some (⟨b, off, none⟩ : Addr) else some ⟨b, off + J, none⟩) = AD := ⟨_, rfl⟩
            have kct : ∀ X, Below w.heap.size w X → Calls Try.prog 30 #[.slice (some ⟨X.heap.size, 0, none⟩) 2 2] (X.alloc (.cells #[.slice (some ⟨b, off, none⟩) K cap, .slice AD (v.length - J) (cap - J)] 22)) fun e w' => ∃ u, e = .returned u ∧ Ow intE 3 (X.heap.size + 1) w' u (v.take K ++ v.drop J) ∧ Below (X.heap.size + 1) (X.alloc (.cells #[.slice (some ⟨b, off, none⟩) K cap, .slice AD (v.length - J) (cap - J)] 22)) w' := fun X hX => by
              obtain ⟨q1, q2, q3⟩ := one_box X (.cells #[.slice (some ⟨b, off, none⟩) K cap, .slice AD (v.length - J) (cap - J)] 22)
              have hX2 := hX.trans (q3.mono hX.size)
              have hk := iconcat_of X.heap.size [.slice (some ⟨b, off, none⟩) K cap, .slice AD (v.length - J) (cap - J)] [v.take K, v.drop J] _ (fun i v hv => by
                  rw [cells_of_block q2]
                  simpa using hv) (fun m u xs hu hx => by
                  match m, hu, hx with
                  | 0, hu, hx => cases hu; cases hx; exact (hV.below hX2).front hKl
                  | 1, hu, hx =>
                    cases hu
                    cases hx
                    have h9 := (hV.below hX2).back hJl
                    rw [show intE.k = 1 from rfl, Nat.mul_one, hAD] at h9
                    exact h9
                  | m + 2, hu, hx => simp at hu) 2 (by decide) rfl rfl (by rw [show [v.take K, v.drop J].flatten = v.take K ++ v.drop J by simp, hdl]; omega) (by rw [show [v.take K, v.drop J].flatten = v.take K ++ v.drop J by simp, hdl]; omega)
              rw [q1] at hk
              simpa using hk
            clear hV hR hK hsp hat hdel hdl hzv hin HT1 hJ hKl'
            generalize v.length = n at *
            have h1e : (n == 1) = false := by simpa using h1
            have h1e' : ((n : Int) == 1) = false := by simp; omega
            go_enter Try.func26, Try.ntmps26
            go_wp2_with fail
            refine kc.mono ?_
            rintro e w1 ⟨rfl, hw1⟩
            subst hw1
            go_wp2_with fail
            refine kn.mono ?_
            rintro e w2 ⟨rfl, hw2⟩
            subst hw2
            go_wp2_with fail
            refine ks.mono ?_
            rintro e w3 ⟨rfl, hw3⟩
            subst hw3
            go_wp2_with fail
            refine wp_region_L (fun X => Below w3.heap.size w3 X) [] (by kernel_rfl) ?_
            have hbd : Below w3.heap.size w3 w3.drew := Below.refl _ _ |>.drew
            generalize w3.drew = wd at *
            have yS : (fun X => Below w3.heap.size w3 X) wd := hbd
            refine wpAnyL_take 0 rfl (by kernel_rfl) (by kernel_rfl) (by kernel_rfl) (by kernel_rfl) (fun _ _ _ h => h) (by kernel_rfl) (by intro w' hS'; obtain hz := hS'; go_simp <;> rfl) yS ?_
            try simp only [List.getElem_toArray, List.getElem_cons_succ, List.getElem_cons_zero, Act.put, List.setIfInBounds_toArray, List.set_cons_zero, List.set_cons_succ]
            refine wpAnyL_take 1 rfl (by kernel_rfl) (by kernel_rfl) (by kernel_rfl) (by kernel_rfl) (fun _ _ _ h => h) (by kernel_rfl) (by intro w' hS'; obtain hz := hS'; go_simp <;> rfl) yS ?_
            try simp only [List.getElem_toArray, List.getElem_cons_succ, List.getElem_cons_zero, Act.put, List.setIfInBounds_toArray, List.set_cons_zero, List.set_cons_succ]
            refine wpAnyL_take 2 rfl (by kernel_rfl) (by kernel_rfl) (by kernel_rfl) (by kernel_rfl) (fun _ _ _ h => h) (by kernel_rfl) (by intro w' hS'; obtain hz := hS'; go_simp <;> rfl) yS ?_
            try simp only [List.getElem_toArray, List.getElem_cons_succ, List.getElem_cons_zero, Act.put, List.setIfInBounds_toArray, List.set_cons_zero, List.set_cons_succ]
            refine wpAnyL_take 3 rfl (by kernel_rfl) (by kernel_rfl) (by kernel_rfl) (by kernel_rfl) (fun _ _ _ h => h) (by kernel_rfl) (by intro w' hS'; obtain hz := hS'; go_simp <;> rfl) yS ?_
            try simp only [List.getElem_toArray, List.getElem_cons_succ, List.getElem_cons_zero, Act.put, List.setIfInBounds_toArray, List.set_cons_zero, List.set_cons_succ]
            refine wpAnyL_take 4 rfl (by kernel_rfl) (by kernel_rfl) (by kernel_rfl) (by kernel_rfl) (fun _ _ _ h => h) (by kernel_rfl) (by intro w' hS'; obtain hz := hS'; go_simp <;> rfl) yS ?_
            try simp only [List.getElem_toArray, List.getElem_cons_succ, List.getElem_cons_zero, Act.put, List.setIfInBounds_toArray, List.set_cons_zero, List.set_cons_succ]
            refine wpAnyL_take 5 rfl (by kernel_rfl) (by kernel_rfl) (by kernel_rfl) (by kernel_rfl) (fun _ _ _ h => h) (by kernel_rfl) (by intro w' hS'; obtain hz := hS'; go_simp <;> rfl) yS ?_
            try simp only [List.getElem_toArray, List.getElem_cons_succ, List.getElem_cons_zero, Act.put, List.setIfInBounds_toArray, List.set_cons_zero, List.set_cons_succ]
            refine wpAnyL_take 6 rfl (by kernel_rfl) (by kernel_rfl) (by kernel_rfl) (by kernel_rfl) (fun _ _ _ h => h) (by kernel_rfl) (by intro w' hS'; obtain hz := hS'; go_simp <;> rfl) yS ?_
            try simp only [List.getElem_toArray, List.getElem_cons_succ, List.getElem_cons_zero, Act.put, List.setIfInBounds_toArray, List.set_cons_zero, List.set_cons_succ]
            refine wpAnyL_one 7 (by kernel_rfl) rfl (by kernel_rfl) ?_
            intro K' hK'
            go_simp
            have hbz : Below w3.heap.size w3 _ := hbd.alloc hbd.size (.cells #[.slice (some ⟨b, off, none⟩) K cap, .slice AD (n - J) (cap - J)] 22)
            have kcat := kct wd hbd
            clear kct
            generalize hwy : wd.alloc (.cells #[.slice (some ⟨b, off, none⟩) K cap, .slice AD (n - J) (cap - J)] 22) = wy at *
            clear hwy
            refine hK'.out _ _ (.inr hbz) ?_
            clear hK' K'
            try simp only [List.getElem_toArray, List.getElem_cons_succ, List.getElem_cons_zero, Act.put, List.setIfInBounds_toArray, List.set_cons_zero, List.set_cons_succ]
            refine wpAnyL_one 8 (by kernel_rfl) rfl (by kernel_rfl) ?_
            intro K' hK'
            go_simp
            go_at_call 30
            refine kcat.mono ?_
            rintro e w6 ⟨v6, rfl, hO6, hb6⟩
            have hb7 : Below w3.heap.size w3 w6 := hbz.trans (hb6.mono (Nat.le_succ_of_le hbd.size))
            refine hK'.out _ _ (.inr hb7) ?_
            clear hK' K'
            try simp only [List.getElem_toArray, List.getElem_cons_succ, List.getElem_cons_zero, Act.put, List.setIfInBounds_toArray, List.set_cons_zero, List.set_cons_succ]
            refine wpAnyL_take 9 rfl (by kernel_rfl) (by kernel_rfl) (by kernel_rfl) (by kernel_rfl) (fun _ _ _ h => h) (by kernel_rfl) (by intro w' hS'; obtain hz := hS'; go_simp <;> rfl) hb7 ?_
            try simp only [List.getElem_toArray, List.getElem_cons_succ, List.getElem_cons_zero, Act.put, List.setIfInBounds_toArray, List.set_cons_zero, List.set_cons_succ]
            refine wpAnyL_take 10 rfl (by kernel_rfl) (by kernel_rfl) (by kernel_rfl) (by kernel_rfl) (fun _ _ _ h => h) (by kernel_rfl) (by intro w' hS'; obtain hz := hS'; go_simp <;> rfl) hb7 ?_
            try simp only [List.getElem_toArray, List.getElem_cons_succ, List.getElem_cons_zero, Act.put, List.setIfInBounds_toArray, List.set_cons_zero, List.set_cons_succ]
            refine wpAnyL_done (by kernel_rfl) (NoPanic.normal ?_) _
            have E1 : Hid (T (.returned (.tuple #[v6, .int .i64 0])) w6) := by
              show T _ _
              rw [HT.out]
              exact ⟨_, rfl, hO6.1⟩
            clear HT hO6 hb6 hbz hbd yS hAD kcat
            go_wp2
            go_ret2
            exact ⟨E1.out, hb7⟩
      | false =>
        rw [hin] at ks
        cases inn with
        | false =>
          have HT : Hid (T = NxT (6, [])) := by show _ = _; rw [HT1.out, hin]; rfl
          have E1 : Hid (∀ W, T (.returned (.tuple #[.slice none 0 0, .int .i64 6])) W) := fun W => by rw [HT.out]; exact ⟨_, rfl, Rk.nil _ _ _⟩
          clear HT HT1 hV hin hR hK hsp
          go_enter Try.func26, Try.ntmps26
          go_wp2_with fail
          refine kc.mono ?_
          rintro e w1 ⟨rfl, hw1⟩
          subst hw1
          go_wp2_with fail
          refine kn.mono ?_
          rintro e w2 ⟨rfl, hw2⟩
          subst hw2
          go_wp2_with fail
          refine ks.mono ?_
          rintro e w3 ⟨rfl, hw3⟩
          subst hw3
          go_wp2
          go_ret2
          exact ⟨E1.out _, Below.refl _ _⟩
        | true =>
          have hzv : z ∉ v := by simpa using hin
          have hins := ins_eq hR hz hK hzv
          have HT : Hid (T = NxT (0, v.take K ++ ([z] ++ v.drop K))) := by
            show _ = _
            rw [HT1.out, hin, ← hins, if_neg (by decide), if_neg (by simp)]
          have hil : ([v.take K, [z], v.drop K] : List (List Int)).flatten.length = v.length + 1 := by simp; omega
          have i0 : (K : Int) ≤ (v.length : Int) := by omega
          have i1 : (K : Int) ≤ (cap : Int) := by omega
          obtain ⟨AD, hAD⟩ : ∃ AD, (if cap = K then some (⟨b, off, none⟩ : Addr) else some ⟨b, off + K, none⟩) = AD := ⟨_, rfl⟩
          have kct : ∀ (Nn : Nat) (X : World), Below w.heap.size w X → Rd intE X (.slice (some ⟨Nn, 0, none⟩) 1 1) [z] → Calls Try.prog 30 #[.slice (some ⟨X.heap.size, 0, none⟩) 3 3] (X.alloc (.cells #[.slice (some ⟨b, off, none⟩) K cap, .slice (some ⟨Nn, 0, none⟩) 1 1, .slice AD (v.length - K) (cap - K)] 22)) fun e w' => ∃ u, e = .returned u ∧ Ow intE 3 (X.heap.size + 1) w' u (v.take K ++ ([z] ++ v.drop K)) ∧ Below (X.heap.size + 1) (X.alloc (.cells #[.slice (some ⟨b, off, none⟩) K cap, .slice (some ⟨Nn, 0, none⟩) 1 1, .slice AD (v.length - K) (cap - K)] 22)) w' := fun Nn X hX hRn => by
            obtain ⟨q1, q2, q3⟩ := one_box X (.cells #[.slice (some ⟨b, off, none⟩) K cap, .slice (some ⟨Nn, 0, none⟩) 1 1, .slice AD (v.length - K) (cap - K)] 22)
            have hX2 := hX.trans (q3.mono hX.size)
            have hk := iconcat_of X.heap.size [.slice (some ⟨b, off, none⟩) K cap, .slice (some ⟨Nn, 0, none⟩) 1 1, .slice AD (v.length - K) (cap - K)] [v.take K, [z], v.drop K] _ (fun i v hv => by
                rw [cells_of_block q2]
                simpa using hv) (fun m u xs hu hx => by
                match m, hu, hx with
                | 0, hu, hx => cases hu; cases hx; exact (hV.below hX2).front hKl
                | 1, hu, hx => cases hu; cases hx; exact hRn.below q3
                | 2, hu, hx =>
                  cases hu
                  cases hx
                  have h9 := (hV.below hX2).back hKl
                  rw [show intE.k = 1 from rfl, Nat.mul_one, hAD] at h9
                  exact h9
                | m + 3, hu, hx => simp at hu) 3 (by decide) rfl rfl (by rw [hil]; omega) (by rw [hil]; omega)
            rw [q1] at hk
            simpa using hk
          clear hV hR hK hsp hins hil hzv hin HT1
          generalize v.length = n at *
          go_enter Try.func26, Try.ntmps26
          go_wp2_with fail
          refine kc.mono ?_
          rintro e w1 ⟨rfl, hw1⟩
          subst hw1
          go_wp2_with fail
          refine kn.mono ?_
          rintro e w2 ⟨rfl, hw2⟩
          subst hw2
          go_wp2_with fail
          refine ks.mono ?_
          rintro e w3 ⟨rfl, hw3⟩
          subst hw3
          go_wp2_with fail
          refine wp_region_L (fun X => Below w3.heap.size w3 X) [] (by kernel_rfl) ?_
          have hbd : Below w3.heap.size w3 w3.drew := Below.refl _ _ |>.drew
          generalize w3.drew = wd at *
          have yS : (fun X => Below w3.heap.size w3 X) wd := hbd
          refine wpAnyL_take 0 rfl (by kernel_rfl) (by kernel_rfl) (by kernel_rfl) (by kernel_rfl) (fun _ _ _ h => h) (by kernel_rfl) (by intro w' hS'; obtain hz := hS'; go_simp <;> rfl) yS ?_
          try simp only [List.getElem_toArray, List.getElem_cons_succ, List.getElem_cons_zero, Act.put, List.setIfInBounds_toArray, List.set_cons_zero, List.set_cons_succ]
          refine wpAnyL_take 1 rfl (by kernel_rfl) (by kernel_rfl) (by kernel_rfl) (by kernel_rfl) (fun _ _ _ h => h) (by kernel_rfl) (by intro w' hS'; obtain hz := hS'; go_simp <;> rfl) yS ?_
          try simp only [List.getElem_toArray, List.getElem_cons_succ, List.getElem_cons_zero, Act.put, List.setIfInBounds_toArray, List.set_cons_zero, List.set_cons_succ]
          refine wpAnyL_take 2 rfl (by kernel_rfl) (by kernel_rfl) (by kernel_rfl) (by kernel_rfl) (fun _ _ _ h => h) (by kernel_rfl) (by intro w' hS'; obtain hz := hS'; go_simp <;> rfl) yS ?_
          try simp only [List.getElem_toArray, List.getElem_cons_succ, List.getElem_cons_zero, Act.put, List.setIfInBounds_toArray, List.set_cons_zero, List.set_cons_succ]
          refine wpAnyL_take 3 rfl (by kernel_rfl) (by kernel_rfl) (by kernel_rfl) (by kernel_rfl) (fun _ _ _ h => h) (by kernel_rfl) (by intro w' hS'; obtain hz := hS'; go_simp <;> rfl) yS ?_
          try simp only [List.getElem_toArray, List.getElem_cons_succ, List.getElem_cons_zero, Act.put, List.setIfInBounds_toArray, List.set_cons_zero, List.set_cons_succ]
          refine wpAnyL_take 5 rfl (by kernel_rfl) (by kernel_rfl) (by kernel_rfl) (by kernel_rfl) (fun _ _ _ h => h) (by kernel_rfl) (by intro w' hS'; obtain hz := hS'; go_simp <;> rfl) yS ?_
          try simp only [List.getElem_toArray, List.getElem_cons_succ, List.getElem_cons_zero, Act.put, List.setIfInBounds_toArray, List.set_cons_zero, List.set_cons_succ]
          refine wpAnyL_take 6 rfl (by kernel_rfl) (by kernel_rfl) (by kernel_rfl) (by kernel_rfl) (fun _ _ _ h => h) (by kernel_rfl) (by intro w' hS'; obtain hz := hS'; go_simp <;> rfl) yS ?_
          try simp only [List.getElem_toArray, List.getElem_cons_succ, List.getElem_cons_zero, Act.put, List.setIfInBounds_toArray, List.set_cons_zero, List.set_cons_succ]
          refine wpAnyL_take 7 rfl (by kernel_rfl) (by kernel_rfl) (by kernel_rfl) (by kernel_rfl) (fun _ _ _ h => h) (by kernel_rfl) (by intro w' hS'; obtain hz := hS'; go_simp <;> rfl) yS ?_
          try simp only [List.getElem_toArray, List.getElem_cons_succ, List.getElem_cons_zero, Act.put, List.setIfInBounds_toArray, List.set_cons_zero, List.set_cons_succ]
          refine wpAnyL_one 4 (by kernel_rfl) rfl (by kernel_rfl) ?_
          intro K' hK'
          go_simp
          have hbz1 : Below w3.heap.size w3 _ := hbd.alloc hbd.size (.cells #[.int .i64 z] 3)
          have g1 := heap_alloc_new wd (.cells #[.int .i64 z] 3)
          have hNd : w3.heap.size ≤ (wd.alloc (.cells #[.int .i64 z] 3)).heap.size := hbz1.size
          generalize hwz : wd.alloc (.cells #[.int .i64 z] 3) = wz at *
          generalize wd.heap.size = Nn at *
          clear hwz hbd
          have hbd := hbz1
          have hRn : Rd intE wz (.slice (some ⟨Nn, 0, none⟩) 1 1) [z] := (Rk.made (xs := [z]) g1 rfl (by unfold maxLen; simp)).rd
          refine hK'.out _ _ (.inr hbz1) ?_
          clear hK' K'
          try simp only [List.getElem_toArray, List.getElem_cons_succ, List.getElem_cons_zero, Act.put, List.setIfInBounds_toArray, List.set_cons_zero, List.set_cons_succ]
          refine wpAnyL_one 8 (by kernel_rfl) rfl (by kernel_rfl) ?_
          intro K' hK'
          go_simp
          have hbz : Below w3.heap.size w3 _ := hbd.alloc hbd.size (.cells #[.slice (some ⟨b, off, none⟩) K cap, .slice (some ⟨Nn, 0, none⟩) 1 1, .slice AD (n - K) (cap - K)] 22)
          have kcat := kct Nn wz hbz1 hRn
          clear kct
          generalize hwy : wz.alloc (.cells #[.slice (some ⟨b, off, none⟩) K cap, .slice (some ⟨Nn, 0, none⟩) 1 1, .slice AD (n - K) (cap - K)] 22) = wy at *
          clear hwy
          refine hK'.out _ _ (.inr hbz) ?_
          clear hK' K'
          try simp only [List.getElem_toArray, List.getElem_cons_succ, List.getElem_cons_zero, Act.put, List.setIfInBounds_toArray, List.set_cons_zero, List.set_cons_succ]
          refine wpAnyL_one 9 (by kernel_rfl) rfl (by kernel_rfl) ?_
          intro K' hK'
          go_simp
          go_at_call 30
          refine kcat.mono ?_
          rintro e w6 ⟨v6, rfl, hO6, hb6⟩
          have hb7 : Below w3.heap.size w3 w6 := hbz.trans (hb6.mono (Nat.le_succ_of_le hbd.size))
          refine hK'.out _ _ (.inr hb7) ?_
          clear hK' K'
          try simp only [List.getElem_toArray, List.getElem_cons_succ, List.getElem_cons_zero, Act.put, List.setIfInBounds_toArray, List.set_cons_zero, List.set_cons_succ]
          refine wpAnyL_take 10 rfl (by kernel_rfl) (by kernel_rfl) (by kernel_rfl) (by kernel_rfl) (fun _ _ _ h => h) (by kernel_rfl) (by intro w' hS'; obtain hz := hS'; go_simp <;> rfl) hb7 ?_
          try simp only [List.getElem_toArray, List.getElem_cons_succ, List.getElem_cons_zero, Act.put, List.setIfInBounds_toArray, List.set_cons_zero, List.set_cons_succ]
          refine wpAnyL_take 11 rfl (by kernel_rfl) (by kernel_rfl) (by kernel_rfl) (by kernel_rfl) (fun _ _ _ h => h) (by kernel_rfl) (by intro w' hS'; obtain hz := hS'; go_simp <;> rfl) hb7 ?_
          try simp only [List.getElem_toArray, List.getElem_cons_succ, List.getElem_cons_zero, Act.put, List.setIfInBounds_toArray, List.set_cons_zero, List.set_cons_succ]
          refine wpAnyL_done (by kernel_rfl) (NoPanic.normal ?_) _
          have E1 : Hid (T (.returned (.tuple #[v6, .int .i64 0])) w6) := by
            show T _ _
            rw [HT.out]
            exact ⟨_, rfl, hO6.1⟩
          clear HT hO6 hb6 hbz hbd yS hAD kcat
          go_wp2
          go_ret2
          exact ⟨E1.out, hb7⟩
end Go.Proofs.Ytkglckngiggbhaa

