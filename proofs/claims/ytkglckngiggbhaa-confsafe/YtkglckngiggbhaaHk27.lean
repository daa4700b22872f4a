import Derived.Test.YtkglckngiggbhaaHk21
/- The law ConfSafe. -/
namespace Go.Proofs.Ytkglckngiggbhaa
open Go.RowKit QuorumMath
set_option maxRecDepth 100000
set_option linter.unusedSimpArgs false
set_option linter.unusedVariables false

set_option maxHeartbeats 8000000 in
theorem safe_law (f : List Int) (fv : Value) (t : List Int) (tv : Value) (w : World) (hF : Rd intE w fv f) (hlf : f.length * 8 ≤ 140737488355328) (hT : Rd intE w tv t) (hlt : t.length * 8 ≤ 140737488355328) : Calls Try.prog 4 #[fv, tv] w fun e w' => e = .returned (.bool true) ∧ Below w.heap.size w w' := by
  have ka := fun W => awake_of W
  cases hVV : (votB f && votB t) with
  | false =>
    have k1 := way_no f t fv tv w hF hT (by omega) (by omega) hVV
    obtain ⟨fa, fc, rfl, -, -⟩ := hF.shape
    obtain ⟨ta, tc, rfl, -, -⟩ := hT.shape
    clear hF hT hVV
    go_enter Try.func4, Try.ntmps4
    go_wp2_with fail
    refine k1.mono ?_
    rintro e w1 ⟨rfl, hw1⟩
    subst hw1
    clear k1
    go_wp2_with fail
    refine (ka _).mono ?_
    rintro e w2 ⟨rfl, hb2⟩
    go_wp2
    go_ret
    exact ⟨rfl, hb2⟩
  | true =>
    obtain ⟨hf, ht⟩ : votB f = true ∧ votB t = true := by simpa using hVV
    have hlf7 : f.length ≤ 7 := (votB_iff.1 hf).2.1
    have hlt7 : t.length ≤ 7 := (votB_iff.1 ht).2.1
    have k1 := way_yes f t fv tv w hF hT hf ht
    have KDF : Hid (∀ W, Below w.heap.size w W → _) := fun W (hW : Below w.heap.size w W) => differ_of f fv t tv W (hF.below hW) (hT.below hW) (by omega) (by omega)
    have HF : Hid (∀ W, Below w.heap.size w W → Rd intE W fv f) := fun W hW => hF.below hW
    have HT : Hid (∀ W, Below w.heap.size w W → Rd intE W tv t) := fun W hW => hT.below hW
    have HLEN : Hid (((wayM f t).length : Int) = 1 + DifM f t) := way_len hf ht
    have hfew := way_few hf ht
    obtain ⟨ws', hw', hch, hhd⟩ := way_ok hf ht
    have HEACH : Hid (∀ i l, (wayM f t)[i]? = some l → votB l = true) := fun i l h => way_each hf ht h
    have HLAST : Hid ((wayM f t)[(wayM f t).length - 1]? = some t) := by show _ = _; rw [hw']; simp
    have HCH : Hid (ChainW (wayM f t)) := hch
    have HHD : Hid ((wayM f t)[0]? = some f) := hhd
    have hpos : 0 < (wayM f t).length := (List.getElem?_eq_some_iff.1 hhd).1
    obtain ⟨D, HD⟩ : ∃ D, Hid (D = (f.length : Int) + (t.length : Int) - 2 * (cnt f t : Nat)) := ⟨_, rfl⟩
    rw [← HD.out] at KDF
    have HLEN2 : Hid (((wayM f t).length : Int) = 1 + D) := by show _ = _; rw [HLEN.out, HD.out]; rfl
    obtain ⟨fa, fc, rfl, -, -⟩ := hF.shape
    obtain ⟨ta, tc, rfl, -, -⟩ := hT.shape
    clear hF hT hVV hf ht hw' hch hhd HLEN HD
    generalize wayM f t = ws at *
    go_enter Try.func4, Try.ntmps4
    go_wp2_with fail
    refine k1.mono ?_
    rintro e w2 ⟨v, rfl, hW, hb2⟩
    clear k1
    obtain ⟨va, vc, rfl⟩ := hW.shape
    obtain ⟨K, HK⟩ : ∃ K, Hid (K = ws.length) := ⟨_, rfl⟩
    rw [← HK.out] at hW HLEN2 hfew hpos HLAST
    obtain ⟨J, HJ⟩ : ∃ J, Hid (J = K - 1) := ⟨_, rfl⟩
    rw [← HJ.out] at HLAST
    have hJi : (K : Int) - 1 = (J : Int) := by have := HJ.out; omega
    have hJK : (J : Int) < (K : Int) := by omega
    have hKi : (0 : Int) < (K : Int) := by omega
    obtain ⟨b, off, sa, sc, hva, -, c⟩ := hW.at hb2.size HHD.out
    subst hva
    obtain ⟨b', off', sa', sc', e1, -, c'⟩ := hW.at hb2.size HLAST.out
    cases e1
    have hD0 : 0 ≤ D := by have := HLEN2.out; omega
    have hD1 : D ≤ 14 := by have := HLEN2.out; omega
    have hKD : ((K : Int) != 1 + D) = false := by have := HLEN2.out; simp [this]
    have HW : Hid (Ways w.heap.size w2 (.slice (some ⟨b, off, none⟩) K vc) ws) := hW
    have kd := KDF.out w2 hb2
    rw [← HK.out]
    obtain ⟨c0, hR0⟩ := c w2 (Below.refl _ _)
    rw [Nat.add_zero] at c0
    have ki := ints_of f (.slice sa f.length sc) (.slice fa f.length fc) w2 hR0.rd (HF.out w2 hb2) (by omega)
    clear hW hR0 KDF HLEN2 c HHD HLAST
    go_wp2_with fail
    refine kd.mono ?_
    rintro e w3 ⟨rfl, hw3⟩
    subst hw3
    clear kd
    go_wp2_with fail
    refine ki.mono ?_
    rintro e w4 ⟨rfl, hb4⟩
    clear ki c0
    obtain ⟨c0, hR0⟩ := c' w4 hb4
    have hb04 := hb2.trans (hb4.mono hb2.size)
    have ki := ints_of t (.slice sa' t.length sc') (.slice ta t.length tc) w4 hR0.rd (HT.out w4 hb04) (by omega)
    clear hR0 c'
    go_wp2_with fail
    refine ki.mono ?_
    rintro e w5 ⟨rfl, hb5⟩
    have hb25 := hb4.trans (hb5.mono hb4.size)
    clear ki c0 hb4 hb5 hb04 HF HT hKD hJi hJK
    obtain ⟨w2', hw2'⟩ : ∃ w2', w2' = w3 := ⟨_, rfl⟩
    subst hw2'
    go_wp2
    go_loopg [7] K (fun gh s7 wr => ∃ i : Nat, i + gh = K + 1 ∧ 1 ≤ i ∧ s7 = .int .i64 (i : Int) ∧ Below w2'.heap.size w2' wr)
    case atStart => exact ⟨1, by omega, by omega, rfl, hb25⟩
    case round =>
      obtain ⟨i, hig, hi1, rfl, hb⟩ := hrel
      by_cases hlt : i < K
      · have hlti : (i : Int) < (K : Int) := by omega
        obtain ⟨j, hj⟩ : ∃ j, i = j + 1 := ⟨i - 1, by omega⟩
        have hji : (i : Int) - 1 = (j : Int) := by omega
        have hjl : (j : Int) < (K : Int) := by omega
        have hwj : IntKind.i64.wrap (j : Int) = (j : Int) := IntWalk.i64_in _ (by omega)
        have hKl := HK.out
        have hai : ws[i]? = some (ws[i]'(by omega)) := List.getElem?_eq_getElem _
        have haj : ws[j]? = some (ws[j]'(by omega)) := List.getElem?_eq_getElem _
        obtain ⟨x, hx⟩ : ∃ x, x = ws[i]'(by omega) := ⟨_, rfl⟩
        obtain ⟨y, hy⟩ : ∃ y, y = ws[j]'(by omega) := ⟨_, rfl⟩
        rw [← hx] at hai
        rw [← hy] at haj
        clear hx hy
        obtain ⟨b1, off1, xa, xc, e1, hxl, HA0⟩ := Ways.at HW.out hb2.size hai
        obtain ⟨b2, off2, ya, yc, e2, hyl, HB0⟩ := Ways.at HW.out hb2.size haj
        cases e1
        cases e2
        have HA : Hid _ := HA0
        have HBc : Hid _ := HB0
        have hvx := HEACH.out i x hai
        have hdx : (y.length : Int) + (x.length : Int) - 2 * (cnt y x : Nat) = 1 := (HCH.out j y x haj (by rw [← hj]; exact hai)).2
        have KV : Hid (∀ W, Below w2'.heap.size w2' W → _) := fun W (hW : Below w2'.heap.size w2' W) => rvoters_of x (.slice xa x.length xc) W (HA0 W hW).2.rd (by omega)
        rw [hvx] at KV
        have KD : Hid (∀ W, Below w2'.heap.size w2' W → _) := fun W (hW : Below w2'.heap.size w2' W) => differ_of y (.slice ya y.length yc) x (.slice xa x.length xc) W (HB0 W hW).2.rd (HA0 W hW).2.rd (by omega) (by omega)
        rw [hdx] at KD
        clear HA0 HB0 hvx hdx hai haj hKl hj hb25
        go_wp2_with fail
        refine wp_region_L (fun W => Below w2'.heap.size w2' W) [] (by kernel_rfl) ?_
        have hS0 : Below w2'.heap.size w2' wr.drew := hb.drew
        generalize wr.drew = wd at *
        refine wpAnyL_take 0 rfl (by kernel_rfl) (by kernel_rfl) (by kernel_rfl) (by kernel_rfl) (fun _ _ _ h => h) (by kernel_rfl) (by intro w' hS'; have hz := hS'; obtain ⟨c0, -⟩ := HA.out _ hz; obtain ⟨d0, -⟩ := HBc.out _ hz; go_simp <;> rfl) hS0 ?_
        try simp only [List.getElem_toArray, List.getElem_cons_succ, List.getElem_cons_zero, Act.put, List.setIfInBounds_toArray, List.set_cons_zero, List.set_cons_succ]
        refine wpAnyL_take 1 rfl (by kernel_rfl) (by kernel_rfl) (by kernel_rfl) (by kernel_rfl) (fun _ _ _ h => h) (by kernel_rfl) (by intro w' hS'; have hz := hS'; obtain ⟨c0, -⟩ := HA.out _ hz; obtain ⟨d0, -⟩ := HBc.out _ hz; go_simp <;> rfl) hS0 ?_
        try simp only [List.getElem_toArray, List.getElem_cons_succ, List.getElem_cons_zero, Act.put, List.setIfInBounds_toArray, List.set_cons_zero, List.set_cons_succ]
        refine wpAnyL_take 2 rfl (by kernel_rfl) (by kernel_rfl) (by kernel_rfl) (by kernel_rfl) (fun _ _ _ h => h) (by kernel_rfl) (by intro w' hS'; have hz := hS'; obtain ⟨c0, -⟩ := HA.out _ hz; obtain ⟨d0, -⟩ := HBc.out _ hz; go_simp <;> rfl) hS0 ?_
        try simp only [List.getElem_toArray, List.getElem_cons_succ, List.getElem_cons_zero, Act.put, List.setIfInBounds_toArray, List.set_cons_zero, List.set_cons_succ]
        refine wpAnyL_take 3 rfl (by kernel_rfl) (by kernel_rfl) (by kernel_rfl) (by kernel_rfl) (fun _ _ _ h => h) (by kernel_rfl) (by intro w' hS'; have hz := hS'; obtain ⟨c0, -⟩ := HA.out _ hz; obtain ⟨d0, -⟩ := HBc.out _ hz; go_simp <;> rfl) hS0 ?_
        try simp only [List.getElem_toArray, List.getElem_cons_succ, List.getElem_cons_zero, Act.put, List.setIfInBounds_toArray, List.set_cons_zero, List.set_cons_succ]
        refine wpAnyL_one 4 (by kernel_rfl) rfl (by kernel_rfl) ?_
        intro K' hK'
        go_simp
        refine (KV.out _ hS0).mono ?_
        rintro e w5 ⟨rfl, hb5⟩
        have hS5 := hS0.trans (hb5.mono hS0.size)
        refine hK'.out _ _ (.inr hS5) ?_
        clear hK' K'
        try simp only [List.getElem_toArray, List.getElem_cons_succ, List.getElem_cons_zero, Act.put, List.setIfInBounds_toArray, List.set_cons_zero, List.set_cons_succ]
        refine wpAnyL_take 5 rfl (by kernel_rfl) (by kernel_rfl) (by kernel_rfl) (by kernel_rfl) (fun _ _ _ h => h) (by kernel_rfl) (by intro w' hS'; have hz := hS'; obtain ⟨c0, -⟩ := HA.out _ hz; obtain ⟨d0, -⟩ := HBc.out _ hz; go_simp <;> rfl) hS5 ?_
        try simp only [List.getElem_toArray, List.getElem_cons_succ, List.getElem_cons_zero, Act.put, List.setIfInBounds_toArray, List.set_cons_zero, List.set_cons_succ]
        refine wpAnyL_take 6 rfl (by kernel_rfl) (by kernel_rfl) (by kernel_rfl) (by kernel_rfl) (fun _ _ _ h => h) (by kernel_rfl) (by intro w' hS'; have hz := hS'; obtain ⟨c0, -⟩ := HA.out _ hz; obtain ⟨d0, -⟩ := HBc.out _ hz; go_simp <;> rfl) hS5 ?_
        try simp only [List.getElem_toArray, List.getElem_cons_succ, List.getElem_cons_zero, Act.put, List.setIfInBounds_toArray, List.set_cons_zero, List.set_cons_succ]
        refine wpAnyL_take 7 rfl (by kernel_rfl) (by kernel_rfl) (by kernel_rfl) (by kernel_rfl) (fun _ _ _ h => h) (by kernel_rfl) (by intro w' hS'; have hz := hS'; obtain ⟨c0, -⟩ := HA.out _ hz; obtain ⟨d0, -⟩ := HBc.out _ hz; go_simp <;> rfl) hS5 ?_
        try simp only [List.getElem_toArray, List.getElem_cons_succ, List.getElem_cons_zero, Act.put, List.setIfInBounds_toArray, List.set_cons_zero, List.set_cons_succ]
        refine wpAnyL_take 8 rfl (by kernel_rfl) (by kernel_rfl) (by kernel_rfl) (by kernel_rfl) (fun _ _ _ h => h) (by kernel_rfl) (by intro w' hS'; have hz := hS'; obtain ⟨c0, -⟩ := HA.out _ hz; obtain ⟨d0, -⟩ := HBc.out _ hz; go_simp <;> rfl) hS5 ?_
        try simp only [List.getElem_toArray, List.getElem_cons_succ, List.getElem_cons_zero, Act.put, List.setIfInBounds_toArray, List.set_cons_zero, List.set_cons_succ]
        refine wpAnyL_take 9 rfl (by kernel_rfl) (by kernel_rfl) (by kernel_rfl) (by kernel_rfl) (fun _ _ _ h => h) (by kernel_rfl) (by intro w' hS'; have hz := hS'; obtain ⟨c0, -⟩ := HA.out _ hz; obtain ⟨d0, -⟩ := HBc.out _ hz; go_simp <;> rfl) hS5 ?_
        try simp only [List.getElem_toArray, List.getElem_cons_succ, List.getElem_cons_zero, Act.put, List.setIfInBounds_toArray, List.set_cons_zero, List.set_cons_succ]
        refine wpAnyL_take 10 rfl (by kernel_rfl) (by kernel_rfl) (by kernel_rfl) (by kernel_rfl) (fun _ _ _ h => h) (by kernel_rfl) (by intro w' hS'; have hz := hS'; obtain ⟨c0, -⟩ := HA.out _ hz; obtain ⟨d0, -⟩ := HBc.out _ hz; go_simp <;> rfl) hS5 ?_
        try simp only [List.getElem_toArray, List.getElem_cons_succ, List.getElem_cons_zero, Act.put, List.setIfInBounds_toArray, List.set_cons_zero, List.set_cons_succ]
        refine wpAnyL_take 11 rfl (by kernel_rfl) (by kernel_rfl) (by kernel_rfl) (by kernel_rfl) (fun _ _ _ h => h) (by kernel_rfl) (by intro w' hS'; have hz := hS'; obtain ⟨c0, -⟩ := HA.out _ hz; obtain ⟨d0, -⟩ := HBc.out _ hz; go_simp <;> rfl) hS5 ?_
        try simp only [List.getElem_toArray, List.getElem_cons_succ, List.getElem_cons_zero, Act.put, List.setIfInBounds_toArray, List.set_cons_zero, List.set_cons_succ]
        refine wpAnyL_take 12 rfl (by kernel_rfl) (by kernel_rfl) (by kernel_rfl) (by kernel_rfl) (fun _ _ _ h => h) (by kernel_rfl) (by intro w' hS'; have hz := hS'; obtain ⟨c0, -⟩ := HA.out _ hz; obtain ⟨d0, -⟩ := HBc.out _ hz; go_simp <;> rfl) hS5 ?_
        try simp only [List.getElem_toArray, List.getElem_cons_succ, List.getElem_cons_zero, Act.put, List.setIfInBounds_toArray, List.set_cons_zero, List.set_cons_succ]
        refine wpAnyL_take 13 rfl (by kernel_rfl) (by kernel_rfl) (by kernel_rfl) (by kernel_rfl) (fun _ _ _ h => h) (by kernel_rfl) (by intro w' hS'; have hz := hS'; obtain ⟨c0, -⟩ := HA.out _ hz; obtain ⟨d0, -⟩ := HBc.out _ hz; go_simp <;> rfl) hS5 ?_
        try simp only [List.getElem_toArray, List.getElem_cons_succ, List.getElem_cons_zero, Act.put, List.setIfInBounds_toArray, List.set_cons_zero, List.set_cons_succ]
        refine wpAnyL_take 14 rfl (by kernel_rfl) (by kernel_rfl) (by kernel_rfl) (by kernel_rfl) (fun _ _ _ h => h) (by kernel_rfl) (by intro w' hS'; have hz := hS'; obtain ⟨c0, -⟩ := HA.out _ hz; obtain ⟨d0, -⟩ := HBc.out _ hz; go_simp <;> rfl) hS5 ?_
        try simp only [List.getElem_toArray, List.getElem_cons_succ, List.getElem_cons_zero, Act.put, List.setIfInBounds_toArray, List.set_cons_zero, List.set_cons_succ]
        refine wpAnyL_take 15 rfl (by kernel_rfl) (by kernel_rfl) (by kernel_rfl) (by kernel_rfl) (fun _ _ _ h => h) (by kernel_rfl) (by intro w' hS'; have hz := hS'; obtain ⟨c0, -⟩ := HA.out _ hz; obtain ⟨d0, -⟩ := HBc.out _ hz; go_simp <;> rfl) hS5 ?_
        try simp only [List.getElem_toArray, List.getElem_cons_succ, List.getElem_cons_zero, Act.put, List.setIfInBounds_toArray, List.set_cons_zero, List.set_cons_succ]
        refine wpAnyL_one 16 (by kernel_rfl) rfl (by kernel_rfl) ?_
        intro K' hK'
        go_simp
        refine (KD.out _ hS5).mono ?_
        rintro e w6 ⟨rfl, hw6⟩
        subst hw6
        refine hK'.out _ _ (.inr hS5) ?_
        clear hK' K'
        try simp only [List.getElem_toArray, List.getElem_cons_succ, List.getElem_cons_zero, Act.put, List.setIfInBounds_toArray, List.set_cons_zero, List.set_cons_succ]
        refine wpAnyL_take 17 rfl (by kernel_rfl) (by kernel_rfl) (by kernel_rfl) (by kernel_rfl) (fun _ _ _ h => h) (by kernel_rfl) (by intro w' hS'; have hz := hS'; obtain ⟨c0, -⟩ := HA.out _ hz; obtain ⟨d0, -⟩ := HBc.out _ hz; go_simp <;> rfl) hS5 ?_
        try simp only [List.getElem_toArray, List.getElem_cons_succ, List.getElem_cons_zero, Act.put, List.setIfInBounds_toArray, List.set_cons_zero, List.set_cons_succ]
        refine wpAnyL_take 18 rfl (by kernel_rfl) (by kernel_rfl) (by kernel_rfl) (by kernel_rfl) (fun _ _ _ h => h) (by kernel_rfl) (by intro w' hS'; have hz := hS'; obtain ⟨c0, -⟩ := HA.out _ hz; obtain ⟨d0, -⟩ := HBc.out _ hz; go_simp <;> rfl) hS5 ?_
        try simp only [List.getElem_toArray, List.getElem_cons_succ, List.getElem_cons_zero, Act.put, List.setIfInBounds_toArray, List.set_cons_zero, List.set_cons_succ]
        refine wpAnyL_done (by kernel_rfl) (NoPanic.normal ?_) _
        clear KV KD HA HBc
        go_wp2
        go_roundg (gk - 1)
        case measure => omega
        case rel => exact ⟨i + 1, by omega, by omega, by go_num, hS5⟩
      · have hlti : ¬ (i : Int) < (K : Int) := by omega
        go_wp2_with fail
        refine (ka _).mono ?_
        rintro e w6 ⟨rfl, hb6⟩
        have hb06 := hb2.trans ((hb.trans (hb6.mono hb.size)).mono hb2.size)
        go_wp2
        go_ret
        exact ⟨rfl, hb06⟩
end Go.Proofs.Ytkglckngiggbhaa

