import Derived.Test.YtkglckngiggbhaaHk21
import Derived.Test.YtkglckngiggbhaaHk22
/- The law ConfWays. -/
namespace Go.Proofs.Ytkglckngiggbhaa
open Go.RowKit QuorumMath
set_option maxRecDepth 100000
set_option linter.unusedSimpArgs false
set_option linter.unusedVariables false

theorem lack_ris {o v : List Int} (h : votB v = true) : (lack o v).Pairwise (· < ·) := (votB_iff.1 h).2.2.2.sublist List.filter_sublist
set_option maxHeartbeats 16000000 in
theorem ways_law (f : List Int) (fv : Value) (t : List Int) (tv : Value) (w : World) (hF : Rd intE w fv f) (hlf : f.length * 8 ≤ 140737488355328) (hT : Rd intE w tv t) (hlt : t.length * 8 ≤ 140737488355328) : Calls Try.prog 3 #[fv, tv] w fun e w' => e = .returned (.bool true) ∧ Below w.heap.size w w' := by
  have ka := fun W => awake_of W
  cases hVV : (votB f && votB t) with
  | false =>
    have k1 := way_no f t fv tv w hF hT (by omega) (by omega) hVV
    have k2 := rway_no f t fv tv w hF hT (by omega) (by omega) hVV
    have k3 := fun W (hW : Below w.heap.size w W) => step_no f t fv tv W (hF.below hW) (hT.below hW) (by omega) (by omega) hVV
    have k4 := fun W (hW : Below w.heap.size w W) => learners_no f t fv tv W (hF.below hW) (hT.below hW) (by omega) (by omega) hVV
    obtain ⟨fa, fc, rfl, -, -⟩ := hF.shape
    obtain ⟨ta, tc, rfl, -, -⟩ := hT.shape
    clear hF hT hVV
    go_enter Try.func3, Try.ntmps3
    go_wp2_with fail
    refine k1.mono ?_
    rintro e w1 ⟨rfl, hw1⟩
    subst hw1
    clear k1
    go_wp2_with fail
    refine k2.mono ?_
    rintro e w2 ⟨rfl, hb2⟩
    have k3' := k3 w2 hb2
    have k4' := k4 w2 hb2
    clear k2 k3 k4
    go_wp2_with fail
    refine k3'.mono ?_
    rintro e w3 ⟨rfl, hw3⟩
    subst hw3
    clear k3'
    go_wp2_with fail
    refine k4'.mono ?_
    rintro e w4 ⟨rfl, hw4⟩
    subst hw4
    clear k4'
    go_wp2_with fail
    refine (ka _).mono ?_
    rintro e w5 ⟨rfl, hb5⟩
    have hb05 := hb2.trans (hb5.mono hb2.size)
    go_wp2
    go_ret
    exact ⟨rfl, hb05⟩
  | true =>
    obtain ⟨hf, ht⟩ : votB f = true ∧ votB t = true := by simpa using hVV
    have hlf7 : f.length ≤ 7 := (votB_iff.1 hf).2.1
    have hlt7 : t.length ≤ 7 := (votB_iff.1 ht).2.1
    have k1 := way_yes f t fv tv w hF hT hf ht
    have k2 := fun W (hW : Below w.heap.size w W) => rway_yes f t fv tv W (hF.below hW) (hT.below hW) hf ht
    have k3 := fun W (hW : Below w.heap.size w W) => step_yes f t fv tv W (hF.below hW) (hT.below hW) hf ht
    have k4 := fun W (hW : Below w.heap.size w W) => learners_yes f t fv tv W (hF.below hW) (hT.below hW) (by omega) (by omega) hVV
    have KN : Hid (∀ W, Below w.heap.size w W → _) := fun W (hW : Below w.heap.size w W) => rcount_of t tv f fv W (hT.below hW) (hF.below hW) (by omega) (by omega)
    have HKF : Hid (∀ (x : Int) W, Below w.heap.size w W → _) := fun (x : Int) W (hW : Below w.heap.size w W) => rin_of f fv x W (hF.below hW) (by omega)
    have HKT : Hid (∀ (x : Int) W, Below w.heap.size w W → _) := fun (x : Int) W (hW : Below w.heap.size w W) => rin_of t tv x W (hT.below hW) (by omega)
    have HF : Hid (∀ W, Below w.heap.size w W → Rd intE W fv f) := fun W hW => hF.below hW
    have HLC : Hid ((lack f t).length + cnt t f = t.length) := lack_cnt f t
    have HLM : Hid (∀ n ∈ lack f t, n ∈ t ∧ n ∉ f) := fun n hn => lack_mem.1 hn
    have HLR : Hid ((lack f t).Pairwise (· < ·)) := lack_ris ht
    have hfew := way_few hf ht
    obtain ⟨ws', -, -, hhd⟩ := way_ok hf ht
    have HHD : Hid ((wayM f t)[0]? = some f) := hhd
    have hpos : 0 < (wayM f t).length := (List.getElem?_eq_some_iff.1 hhd).1
    obtain ⟨fa, fc, rfl, -, -⟩ := hF.shape
    obtain ⟨ta, tc, rfl, -, -⟩ := hT.shape
    clear hF hT hVV hf ht hhd
    generalize wayM f t = ws at *
    generalize lack f t = lk at *
    generalize cnt t f = ct at *
    go_enter Try.func3, Try.ntmps3
    go_wp2_with fail
    refine k1.mono ?_
    rintro e w1 ⟨v1, rfl, hW1, hb1⟩
    clear k1
    have HW1 : Hid (Ways w.heap.size w1 v1 ws) := hW1
    obtain ⟨va, vc, rfl⟩ := hW1.shape
    have k2' := k2 w1 hb1
    clear k2 hW1
    generalize hwl : ws.length = K at *
    have HK : Hid (ws.length = K) := hwl
    clear hwl
    go_wp2_with fail
    refine k2'.mono ?_
    rintro e w2 ⟨v2, rfl, hW2, hb2⟩
    clear k2'
    have hb02 := hb1.trans (hb2.mono hb1.size)
    have HW2 : Hid (Ways w1.heap.size w2 v2 ws) := hW2
    obtain ⟨xa, xc, hv2⟩ := hW2.shape
    rw [HK.out] at hv2
    subst hv2
    have k3' := k3 w2 hb02
    clear k3 hW2
    go_wp2_with fail
    refine k3'.mono ?_
    rintro e w3 ⟨⟨sv3, sl, rfl, hsl, hSR⟩, hb3⟩
    clear k3'
    have hb03 := hb02.trans (hb3.mono hb02.size)
    have HSR : Hid (InR w2.heap.size w3 sv3 sl) := hSR
    have HSL : Hid (ws[if 1 < K then 1 else 0]? = some sl) := by show _ = _; rw [← HK.out]; exact hsl
    obtain ⟨ya, yc, rfl, -, -⟩ := hSR.rd.shape
    rw [HK.out]
    have k4' := k4 w3 hb03
    clear k4 hSR hsl
    go_wp2_with fail
    refine k4'.mono ?_
    rintro e w4 ⟨v4, rfl, hO4, hb4⟩
    clear k4'
    have hb04 := hb03.trans (hb4.mono hb03.size)
    have HO4 : Hid (Ow intE 3 w3.heap.size w4 v4 lk) := hO4
    obtain ⟨za, zc, rfl, -⟩ := hO4.1.shape
    have hll : lk.length ≤ 7 := by have := HLC.out; omega
    have HSL1 : Hid (sl.length ≤ 1000) := by
      obtain ⟨ss, hS⟩ := HW1.out
      obtain ⟨s, -, -, h⟩ := hS.get HSL.out
      exact h
    clear hO4
    have HA1 : Hid (Ways w.heap.size w4 (.slice va K vc) ws) := Ways.below (Ways.below (Ways.below HW1.out hb1.size hb2) (by have := hb02.size; omega) hb3) (by have := hb03.size; omega) hb4
    have HA2 : Hid (Ways w1.heap.size w4 (.slice xa K xc) ws) := Ways.below (Ways.below HW2.out hb2.size hb3) (by have := hb2.size; have := hb3.size; omega) hb4
    have HA3 : Hid (InR w2.heap.size w4 (.slice ya sl.length yc) sl) := HSR.out.below hb3.size hb4
    have hn1 : w.heap.size ≤ w4.heap.size := hb04.size
    have hn2 : w1.heap.size ≤ w4.heap.size := by have := hb2.size; have := hb3.size; have := hb4.size; omega
    have hn3 : w2.heap.size ≤ w4.heap.size := by have := hb3.size; have := hb4.size; omega
    clear HW1 HW2 HSR hb1 hb2 hb3 hb4 hb02 hb03
    go_wp2
    go_loopg [13] K (fun gh s13 wr => ∃ i : Nat, i + gh = K ∧ s13 = .int .i64 (i : Int) ∧ Below w4.heap.size w4 wr)
    case atStart => exact ⟨0, by omega, rfl, Below.refl _ _⟩
    case round =>
      obtain ⟨i, hig, rfl, hb⟩ := hrel
      by_cases hlt : i < K
      · have hlti : (i : Int) < (K : Int) := by omega
        have hKl := HK.out
        have hai : ws[i]? = some (ws[i]'(by omega)) := List.getElem?_eq_getElem _
        obtain ⟨x, hx⟩ : ∃ x, x = ws[i]'(by omega) := ⟨_, rfl⟩
        rw [← hx] at hai
        clear hx
        obtain ⟨b1, off1, pa, pc, e1, hxl, HA0⟩ := Ways.at HA1.out hn1 hai
        obtain ⟨b2, off2, qa, qc, e2, hyl, HB0⟩ := Ways.at HA2.out hn2 hai
        subst e1 e2
        have HA : Hid _ := HA0
        have HBc : Hid _ := HB0
        have KI : Hid (∀ W, Below w4.heap.size w4 W → _) := fun W (hW : Below w4.heap.size w4 W) => ints_of x (.slice pa x.length pc) (.slice qa x.length qc) W (HA0 W hW).2.rd (HB0 W hW).2.rd (by omega)
        clear HA0 HB0 hai hKl
        go_wp2_with fail
        refine wp_region_L (fun W => Below w4.heap.size w4 W) [] (by kernel_rfl) ?_
        have hS0 : Below w4.heap.size w4 wr.drew := hb.drew
        generalize wr.drew = wd at *
        refine wpAnyL_take 0 rfl (by kernel_rfl) (by kernel_rfl) (by kernel_rfl) (by kernel_rfl) (fun _ _ _ h => h) (by kernel_rfl) (by intro w' hS'; have hz := hS'; obtain ⟨c0, -⟩ := HA.out _ hz; obtain ⟨d0, -⟩ := HBc.out _ hz; go_simp <;> rfl) hS0 ?_
        try simp only [List.getElem_toArray, List.getElem_cons_succ, List.getElem_cons_zero, Act.put, List.setIfInBounds_toArray, List.set_cons_zero, List.set_cons_succ]
        refine wpAnyL_take 1 rfl (by kernel_rfl) (by kernel_rfl) (by kernel_rfl) (by kernel_rfl) (fun _ _ _ h => h) (by kernel_rfl) (by intro w' hS'; have hz := hS'; obtain ⟨c0, -⟩ := HA.out _ hz; obtain ⟨d0, -⟩ := HBc.out _ hz; go_simp <;> rfl) hS0 ?_
        try simp only [List.getElem_toArray, List.getElem_cons_succ, List.getElem_cons_zero, Act.put, List.setIfInBounds_toArray, List.set_cons_zero, List.set_cons_succ]
        refine wpAnyL_take 2 rfl (by kernel_rfl) (by kernel_rfl) (by kernel_rfl) (by kernel_rfl) (fun _ _ _ h => h) (by kernel_rfl) (by intro w' hS'; have hz := hS'; obtain ⟨c0, -⟩ := HA.out _ hz; obtain ⟨d0, -⟩ := HBc.out _ hz; go_simp <;> rfl) hS0 ?_
        try simp only [List.getElem_toArray, List.getElem_cons_succ, List.getElem_cons_zero, Act.put, List.setIfInBounds_toArray, List.set_cons_zero, List.set_cons_succ]
        refine wpAnyL_take 3 rfl (by kernel_rfl) (by kernel_rfl) (by kernel_rfl) (by kernel_rfl) (fun _ _ _ h => h) (by kernel_rfl) (by intro w' hS'; have hz := hS'; obtain ⟨c0, -⟩ := HA.out _ hz; obtain ⟨d0, -⟩ := HBc.out _ hz; go_simp <;> rfl) hS0 ?_
        try simp only [List.getElem_toArray, List.getElem_cons_succ, List.getElem_cons_zero, Act.put, List.setIfInBounds_toArray, List.set_cons_zero, List.set_cons_succ]
        refine wpAnyL_take 4 rfl (by kernel_rfl) (by kernel_rfl) (by kernel_rfl) (by kernel_rfl) (fun _ _ _ h => h) (by kernel_rfl) (by intro w' hS'; have hz := hS'; obtain ⟨c0, -⟩ := HA.out _ hz; obtain ⟨d0, -⟩ := HBc.out _ hz; go_simp <;> rfl) hS0 ?_
        try simp only [List.getElem_toArray, List.getElem_cons_succ, List.getElem_cons_zero, Act.put, List.setIfInBounds_toArray, List.set_cons_zero, List.set_cons_succ]
        refine wpAnyL_take 5 rfl (by kernel_rfl) (by kernel_rfl) (by kernel_rfl) (by kernel_rfl) (fun _ _ _ h => h) (by kernel_rfl) (by intro w' hS'; have hz := hS'; obtain ⟨c0, -⟩ := HA.out _ hz; obtain ⟨d0, -⟩ := HBc.out _ hz; go_simp <;> rfl) hS0 ?_
        try simp only [List.getElem_toArray, List.getElem_cons_succ, List.getElem_cons_zero, Act.put, List.setIfInBounds_toArray, List.set_cons_zero, List.set_cons_succ]
        refine wpAnyL_take 6 rfl (by kernel_rfl) (by kernel_rfl) (by kernel_rfl) (by kernel_rfl) (fun _ _ _ h => h) (by kernel_rfl) (by intro w' hS'; have hz := hS'; obtain ⟨c0, -⟩ := HA.out _ hz; obtain ⟨d0, -⟩ := HBc.out _ hz; go_simp <;> rfl) hS0 ?_
        try simp only [List.getElem_toArray, List.getElem_cons_succ, List.getElem_cons_zero, Act.put, List.setIfInBounds_toArray, List.set_cons_zero, List.set_cons_succ]
        refine wpAnyL_take 7 rfl (by kernel_rfl) (by kernel_rfl) (by kernel_rfl) (by kernel_rfl) (fun _ _ _ h => h) (by kernel_rfl) (by intro w' hS'; have hz := hS'; obtain ⟨c0, -⟩ := HA.out _ hz; obtain ⟨d0, -⟩ := HBc.out _ hz; go_simp <;> rfl) hS0 ?_
        try simp only [List.getElem_toArray, List.getElem_cons_succ, List.getElem_cons_zero, Act.put, List.setIfInBounds_toArray, List.set_cons_zero, List.set_cons_succ]
        refine wpAnyL_one 8 (by kernel_rfl) rfl (by kernel_rfl) ?_
        intro K' hK'
        go_simp
        refine (KI.out _ hS0).mono ?_
        rintro e w9 ⟨rfl, hb9⟩
        have hS9 := hS0.trans (hb9.mono hS0.size)
        refine hK'.out _ _ (.inr hS9) ?_
        clear hK' K'
        try simp only [List.getElem_toArray, List.getElem_cons_succ, List.getElem_cons_zero, Act.put, List.setIfInBounds_toArray, List.set_cons_zero, List.set_cons_succ]
        refine wpAnyL_take 9 rfl (by kernel_rfl) (by kernel_rfl) (by kernel_rfl) (by kernel_rfl) (fun _ _ _ h => h) (by kernel_rfl) (by intro w' hS'; have hz := hS'; obtain ⟨c0, -⟩ := HA.out _ hz; obtain ⟨d0, -⟩ := HBc.out _ hz; go_simp <;> rfl) hS9 ?_
        try simp only [List.getElem_toArray, List.getElem_cons_succ, List.getElem_cons_zero, Act.put, List.setIfInBounds_toArray, List.set_cons_zero, List.set_cons_succ]
        refine wpAnyL_done (by kernel_rfl) (NoPanic.normal ?_) _
        clear KI HA HBc
        go_wp2
        go_roundg (gk - 1)
        case measure => omega
        case rel => exact ⟨i + 1, by omega, by go_num, hS9⟩
      · have hlti : ¬ (i : Int) < (K : Int) := by omega
        obtain ⟨wE, hwE⟩ : ∃ wE, wE = wr := ⟨_, rfl⟩
        subst hwE
        clear hig
        go_wp2
        go_loopg [14] lk.length (fun gh s14 wr => ∃ j : Nat, j + gh = lk.length ∧ s14 = .int .i64 (j : Int) ∧ Below w4.heap.size w4 wr)
        case atStart => exact ⟨0, by omega, rfl, hb⟩
        case round =>
          obtain ⟨j, hjg, rfl, hb'⟩ := hrel
          by_cases hlj : j < lk.length
          · have hlji : (j : Int) < (lk.length : Int) := by omega
            have hx : lk[j]? = some lk[j] := List.getElem?_eq_getElem hlj
            obtain ⟨x, hxx⟩ : ∃ x, x = lk[j] := ⟨_, rfl⟩
            rw [← hxx] at hx
            clear hxx
            obtain ⟨b1, off1, rfl, c⟩ := rdi_at HO4.out.1.rd hx
            obtain ⟨hxt, hxf⟩ := HLM.out x (List.mem_of_getElem? hx)
            have HC : Hid _ := c
            have KF : Hid (∀ W, Below w4.heap.size w4 W → _) := fun W (hW : Below w4.heap.size w4 W) => HKF.out x W (hb04.trans (hW.mono hn1))
            have KT : Hid (∀ W, Below w4.heap.size w4 W → _) := fun W (hW : Below w4.heap.size w4 W) => HKT.out x W (hb04.trans (hW.mono hn1))
            rw [decide_eq_false hxf] at KF
            rw [decide_eq_true hxt] at KT
            cases j with
            | zero =>
              clear c hxt hxf hx
              rw [Nat.add_zero] at HC
              go_wp2_with fail
              refine wp_region_L (fun W => Below w4.heap.size w4 W) [] (by kernel_rfl) ?_
              have hS0 : Below w4.heap.size w4 wr.drew := hb'.drew
              generalize wr.drew = wd at *
              refine wpAnyL_take 0 rfl (by kernel_rfl) (by kernel_rfl) (by kernel_rfl) (by kernel_rfl) (fun _ _ _ h => h) (by kernel_rfl) (by intro w' hS'; have hz := hS'; obtain c0 := HC.out _ hz; go_simp <;> rfl) hS0 ?_
              try simp only [List.getElem_toArray, List.getElem_cons_succ, List.getElem_cons_zero, Act.put, List.setIfInBounds_toArray, List.set_cons_zero, List.set_cons_succ]
              refine wpAnyL_take 1 rfl (by kernel_rfl) (by kernel_rfl) (by kernel_rfl) (by kernel_rfl) (fun _ _ _ h => h) (by kernel_rfl) (by intro w' hS'; have hz := hS'; obtain c0 := HC.out _ hz; go_simp <;> rfl) hS0 ?_
              try simp only [List.getElem_toArray, List.getElem_cons_succ, List.getElem_cons_zero, Act.put, List.setIfInBounds_toArray, List.set_cons_zero, List.set_cons_succ]
              refine wpAnyL_take 2 rfl (by kernel_rfl) (by kernel_rfl) (by kernel_rfl) (by kernel_rfl) (fun _ _ _ h => h) (by kernel_rfl) (by intro w' hS'; have hz := hS'; obtain c0 := HC.out _ hz; go_simp <;> rfl) hS0 ?_
              try simp only [List.getElem_toArray, List.getElem_cons_succ, List.getElem_cons_zero, Act.put, List.setIfInBounds_toArray, List.set_cons_zero, List.set_cons_succ]
              refine wpAnyL_take 3 rfl (by kernel_rfl) (by kernel_rfl) (by kernel_rfl) (by kernel_rfl) (fun _ _ _ h => h) (by kernel_rfl) (by intro w' hS'; have hz := hS'; obtain c0 := HC.out _ hz; go_simp <;> rfl) hS0 ?_
              try simp only [List.getElem_toArray, List.getElem_cons_succ, List.getElem_cons_zero, Act.put, List.setIfInBounds_toArray, List.set_cons_zero, List.set_cons_succ]
              refine wpAnyL_take 4 rfl (by kernel_rfl) (by kernel_rfl) (by kernel_rfl) (by kernel_rfl) (fun _ _ _ h => h) (by kernel_rfl) (by intro w' hS'; have hz := hS'; obtain c0 := HC.out _ hz; go_simp <;> rfl) hS0 ?_
              try simp only [List.getElem_toArray, List.getElem_cons_succ, List.getElem_cons_zero, Act.put, List.setIfInBounds_toArray, List.set_cons_zero, List.set_cons_succ]
              refine wpAnyL_one 5 (by kernel_rfl) rfl (by kernel_rfl) ?_
              intro K' hK'
              go_simp
              refine (KF.out _ hS0).mono ?_
              rintro e w9 ⟨rfl, hw9⟩
              subst hw9
              refine hK'.out _ _ (.inr hS0) ?_
              clear hK' K'
              try simp only [List.getElem_toArray, List.getElem_cons_succ, List.getElem_cons_zero, Act.put, List.setIfInBounds_toArray, List.set_cons_zero, List.set_cons_succ]
              refine wpAnyL_take 6 rfl (by kernel_rfl) (by kernel_rfl) (by kernel_rfl) (by kernel_rfl) (fun _ _ _ h => h) (by kernel_rfl) (by intro w' hS'; have hz := hS'; obtain c0 := HC.out _ hz; go_simp <;> rfl) hS0 ?_
              try simp only [List.getElem_toArray, List.getElem_cons_succ, List.getElem_cons_zero, Act.put, List.setIfInBounds_toArray, List.set_cons_zero, List.set_cons_succ]
              refine wpAnyL_take 7 rfl (by kernel_rfl) (by kernel_rfl) (by kernel_rfl) (by kernel_rfl) (fun _ _ _ h => h) (by kernel_rfl) (by intro w' hS'; have hz := hS'; obtain c0 := HC.out _ hz; go_simp <;> rfl) hS0 ?_
              try simp only [List.getElem_toArray, List.getElem_cons_succ, List.getElem_cons_zero, Act.put, List.setIfInBounds_toArray, List.set_cons_zero, List.set_cons_succ]
              refine wpAnyL_take 8 rfl (by kernel_rfl) (by kernel_rfl) (by kernel_rfl) (by kernel_rfl) (fun _ _ _ h => h) (by kernel_rfl) (by intro w' hS'; have hz := hS'; obtain c0 := HC.out _ hz; go_simp <;> rfl) hS0 ?_
              try simp only [List.getElem_toArray, List.getElem_cons_succ, List.getElem_cons_zero, Act.put, List.setIfInBounds_toArray, List.set_cons_zero, List.set_cons_succ]
              refine wpAnyL_take 9 rfl (by kernel_rfl) (by kernel_rfl) (by kernel_rfl) (by kernel_rfl) (fun _ _ _ h => h) (by kernel_rfl) (by intro w' hS'; have hz := hS'; obtain c0 := HC.out _ hz; go_simp <;> rfl) hS0 ?_
              try simp only [List.getElem_toArray, List.getElem_cons_succ, List.getElem_cons_zero, Act.put, List.setIfInBounds_toArray, List.set_cons_zero, List.set_cons_succ]
              refine wpAnyL_take 10 rfl (by kernel_rfl) (by kernel_rfl) (by kernel_rfl) (by kernel_rfl) (fun _ _ _ h => h) (by kernel_rfl) (by intro w' hS'; have hz := hS'; obtain c0 := HC.out _ hz; go_simp <;> rfl) hS0 ?_
              try simp only [List.getElem_toArray, List.getElem_cons_succ, List.getElem_cons_zero, Act.put, List.setIfInBounds_toArray, List.set_cons_zero, List.set_cons_succ]
              refine wpAnyL_take 11 rfl (by kernel_rfl) (by kernel_rfl) (by kernel_rfl) (by kernel_rfl) (fun _ _ _ h => h) (by kernel_rfl) (by intro w' hS'; have hz := hS'; obtain c0 := HC.out _ hz; go_simp <;> rfl) hS0 ?_
              try simp only [List.getElem_toArray, List.getElem_cons_succ, List.getElem_cons_zero, Act.put, List.setIfInBounds_toArray, List.set_cons_zero, List.set_cons_succ]
              refine wpAnyL_one 12 (by kernel_rfl) rfl (by kernel_rfl) ?_
              intro K' hK'
              go_simp
              refine (KT.out _ hS0).mono ?_
              rintro e w9 ⟨rfl, hw9⟩
              subst hw9
              refine hK'.out _ _ (.inr hS0) ?_
              clear hK' K'
              try simp only [List.getElem_toArray, List.getElem_cons_succ, List.getElem_cons_zero, Act.put, List.setIfInBounds_toArray, List.set_cons_zero, List.set_cons_succ]
              refine wpAnyL_take 13 rfl (by kernel_rfl) (by kernel_rfl) (by kernel_rfl) (by kernel_rfl) (fun _ _ _ h => h) (by kernel_rfl) (by intro w' hS'; have hz := hS'; obtain c0 := HC.out _ hz; go_simp <;> rfl) hS0 ?_
              try simp only [List.getElem_toArray, List.getElem_cons_succ, List.getElem_cons_zero, Act.put, List.setIfInBounds_toArray, List.set_cons_zero, List.set_cons_succ]
              refine wpAnyL_take 14 rfl (by kernel_rfl) (by kernel_rfl) (by kernel_rfl) (by kernel_rfl) (fun _ _ _ h => h) (by kernel_rfl) (by intro w' hS'; have hz := hS'; obtain c0 := HC.out _ hz; go_simp <;> rfl) hS0 ?_
              try simp only [List.getElem_toArray, List.getElem_cons_succ, List.getElem_cons_zero, Act.put, List.setIfInBounds_toArray, List.set_cons_zero, List.set_cons_succ]
              refine wpAnyL_take 15 rfl (by kernel_rfl) (by kernel_rfl) (by kernel_rfl) (by kernel_rfl) (fun _ _ _ h => h) (by kernel_rfl) (by intro w' hS'; have hz := hS'; obtain c0 := HC.out _ hz; go_simp <;> rfl) hS0 ?_
              try simp only [List.getElem_toArray, List.getElem_cons_succ, List.getElem_cons_zero, Act.put, List.setIfInBounds_toArray, List.set_cons_zero, List.set_cons_succ]
              refine wpAnyL_take 16 rfl (by kernel_rfl) (by kernel_rfl) (by kernel_rfl) (by kernel_rfl) (fun _ _ _ h => h) (by kernel_rfl) (by intro w' hS'; have hz := hS'; obtain c0 := HC.out _ hz; go_simp <;> rfl) hS0 ?_
              try simp only [List.getElem_toArray, List.getElem_cons_succ, List.getElem_cons_zero, Act.put, List.setIfInBounds_toArray, List.set_cons_zero, List.set_cons_succ]
              refine wpAnyL_take 17 rfl (by kernel_rfl) (by kernel_rfl) (by kernel_rfl) (by kernel_rfl) (fun _ _ _ h => h) (by kernel_rfl) (by intro w' hS'; have hz := hS'; obtain c0 := HC.out _ hz; go_simp <;> rfl) hS0 ?_
              try simp only [List.getElem_toArray, List.getElem_cons_succ, List.getElem_cons_zero, Act.put, List.setIfInBounds_toArray, List.set_cons_zero, List.set_cons_succ]
              refine wpAnyL_take 18 rfl (by kernel_rfl) (by kernel_rfl) (by kernel_rfl) (by kernel_rfl) (fun _ _ _ h => h) (by kernel_rfl) (by intro w' hS'; have hz := hS'; obtain c0 := HC.out _ hz; go_simp <;> rfl) hS0 ?_
              try simp only [List.getElem_toArray, List.getElem_cons_succ, List.getElem_cons_zero, Act.put, List.setIfInBounds_toArray, List.set_cons_zero, List.set_cons_succ]
              refine wpAnyL_skip 19 rfl (by kernel_rfl) (by kernel_rfl) (by kernel_rfl) (by kernel_rfl) (fun _ _ _ h => h) (by kernel_rfl) hS0 ?_
              try simp only [List.getElem_toArray, List.getElem_cons_succ, List.getElem_cons_zero, Act.put, List.setIfInBounds_toArray, List.set_cons_zero, List.set_cons_succ]
              refine wpAnyL_skip 20 rfl (by kernel_rfl) (by kernel_rfl) (by kernel_rfl) (by kernel_rfl) (fun _ _ _ h => h) (by kernel_rfl) hS0 ?_
              try simp only [List.getElem_toArray, List.getElem_cons_succ, List.getElem_cons_zero, Act.put, List.setIfInBounds_toArray, List.set_cons_zero, List.set_cons_succ]
              refine wpAnyL_skip 21 rfl (by kernel_rfl) (by kernel_rfl) (by kernel_rfl) (by kernel_rfl) (fun _ _ _ h => h) (by kernel_rfl) hS0 ?_
              try simp only [List.getElem_toArray, List.getElem_cons_succ, List.getElem_cons_zero, Act.put, List.setIfInBounds_toArray, List.set_cons_zero, List.set_cons_succ]
              refine wpAnyL_skip 22 rfl (by kernel_rfl) (by kernel_rfl) (by kernel_rfl) (by kernel_rfl) (fun _ _ _ h => h) (by kernel_rfl) hS0 ?_
              try simp only [List.getElem_toArray, List.getElem_cons_succ, List.getElem_cons_zero, Act.put, List.setIfInBounds_toArray, List.set_cons_zero, List.set_cons_succ]
              refine wpAnyL_skip 23 rfl (by kernel_rfl) (by kernel_rfl) (by kernel_rfl) (by kernel_rfl) (fun _ _ _ h => h) (by kernel_rfl) hS0 ?_
              try simp only [List.getElem_toArray, List.getElem_cons_succ, List.getElem_cons_zero, Act.put, List.setIfInBounds_toArray, List.set_cons_zero, List.set_cons_succ]
              refine wpAnyL_skip 24 rfl (by kernel_rfl) (by kernel_rfl) (by kernel_rfl) (by kernel_rfl) (fun _ _ _ h => h) (by kernel_rfl) hS0 ?_
              try simp only [List.getElem_toArray, List.getElem_cons_succ, List.getElem_cons_zero, Act.put, List.setIfInBounds_toArray, List.set_cons_zero, List.set_cons_succ]
              refine wpAnyL_skip 25 rfl (by kernel_rfl) (by kernel_rfl) (by kernel_rfl) (by kernel_rfl) (fun _ _ _ h => h) (by kernel_rfl) hS0 ?_
              try simp only [List.getElem_toArray, List.getElem_cons_succ, List.getElem_cons_zero, Act.put, List.setIfInBounds_toArray, List.set_cons_zero, List.set_cons_succ]
              refine wpAnyL_skip 26 rfl (by kernel_rfl) (by kernel_rfl) (by kernel_rfl) (by kernel_rfl) (fun _ _ _ h => h) (by kernel_rfl) hS0 ?_
              try simp only [List.getElem_toArray, List.getElem_cons_succ, List.getElem_cons_zero, Act.put, List.setIfInBounds_toArray, List.set_cons_zero, List.set_cons_succ]
              refine wpAnyL_skip 27 rfl (by kernel_rfl) (by kernel_rfl) (by kernel_rfl) (by kernel_rfl) (fun _ _ _ h => h) (by kernel_rfl) hS0 ?_
              try simp only [List.getElem_toArray, List.getElem_cons_succ, List.getElem_cons_zero, Act.put, List.setIfInBounds_toArray, List.set_cons_zero, List.set_cons_succ]
              refine wpAnyL_skip 28 rfl (by kernel_rfl) (by kernel_rfl) (by kernel_rfl) (by kernel_rfl) (fun _ _ _ h => h) (by kernel_rfl) hS0 ?_
              try simp only [List.getElem_toArray, List.getElem_cons_succ, List.getElem_cons_zero, Act.put, List.setIfInBounds_toArray, List.set_cons_zero, List.set_cons_succ]
              refine wpAnyL_take 29 rfl (by kernel_rfl) (by kernel_rfl) (by kernel_rfl) (by kernel_rfl) (fun _ _ _ h => h) (by kernel_rfl) (by intro w' hS'; have hz := hS'; obtain c0 := HC.out _ hz; go_simp <;> rfl) hS0 ?_
              try simp only [List.getElem_toArray, List.getElem_cons_succ, List.getElem_cons_zero, Act.put, List.setIfInBounds_toArray, List.set_cons_zero, List.set_cons_succ]
              refine wpAnyL_take 30 rfl (by kernel_rfl) (by kernel_rfl) (by kernel_rfl) (by kernel_rfl) (fun _ _ _ h => h) (by kernel_rfl) (by intro w' hS'; have hz := hS'; obtain c0 := HC.out _ hz; go_simp <;> rfl) hS0 ?_
              try simp only [List.getElem_toArray, List.getElem_cons_succ, List.getElem_cons_zero, Act.put, List.setIfInBounds_toArray, List.set_cons_zero, List.set_cons_succ]
              refine wpAnyL_done (by kernel_rfl) (NoPanic.normal ?_) _
              clear KF KT HC
              go_wp2
              go_roundg (gk - 1)
              case measure => omega
              case rel => exact ⟨1, by omega, by go_num, hS0⟩
            | succ m =>
              have hmj : m < lk.length := by omega
              obtain ⟨J, hJ⟩ : ∃ J : Nat, J = m + 1 := ⟨_, rfl⟩
              have hxm : lk[m]? = some lk[m] := List.getElem?_eq_getElem hmj
              obtain ⟨y, hyy⟩ : ∃ y, y = lk[m] := ⟨_, rfl⟩
              rw [← hyy] at hxm
              clear hyy
              obtain ⟨b2, off2, e2, d⟩ := rdi_at HO4.out.1.rd hxm
              cases e2
              have HD : Hid _ := d
              have hyx : y < x := by
                obtain ⟨h1, rfl⟩ := List.getElem?_eq_some_iff.1 hx
                obtain ⟨h2, rfl⟩ := List.getElem?_eq_some_iff.1 hxm
                exact List.pairwise_iff_getElem.1 HLR.out m (m + 1) h2 h1 (by omega)
              have hle : decide (x ≤ y) = false := by simp; omega
              rw [← hJ] at HC hlji hjg hlj ⊢
              have hmi : (J : Int) - 1 = (m : Int) := by omega
              have hwm : IntKind.i64.wrap (m : Int) = (m : Int) := IntWalk.i64_in _ (by omega)
              have hmi2 : (m : Int) < (lk.length : Int) := by omega
              have hJ0 : (0 : Int) < (J : Int) := by omega
              have hJ0n : 0 < J := by omega
              clear c d hxt hxf hx hxm hyx hJ hmj
              go_wp2_with fail
              refine wp_region_L (fun W => Below w4.heap.size w4 W) [] (by kernel_rfl) ?_
              have hS0 : Below w4.heap.size w4 wr.drew := hb'.drew
              generalize wr.drew = wd at *
              refine wpAnyL_take 0 rfl (by kernel_rfl) (by kernel_rfl) (by kernel_rfl) (by kernel_rfl) (fun _ _ _ h => h) (by kernel_rfl) (by intro w' hS'; have hz := hS'; obtain c0 := HC.out _ hz; obtain d0 := HD.out _ hz; go_simp <;> rfl) hS0 ?_
              try simp only [List.getElem_toArray, List.getElem_cons_succ, List.getElem_cons_zero, Act.put, List.setIfInBounds_toArray, List.set_cons_zero, List.set_cons_succ]
              refine wpAnyL_take 1 rfl (by kernel_rfl) (by kernel_rfl) (by kernel_rfl) (by kernel_rfl) (fun _ _ _ h => h) (by kernel_rfl) (by intro w' hS'; have hz := hS'; obtain c0 := HC.out _ hz; obtain d0 := HD.out _ hz; go_simp <;> rfl) hS0 ?_
              try simp only [List.getElem_toArray, List.getElem_cons_succ, List.getElem_cons_zero, Act.put, List.setIfInBounds_toArray, List.set_cons_zero, List.set_cons_succ]
              refine wpAnyL_take 2 rfl (by kernel_rfl) (by kernel_rfl) (by kernel_rfl) (by kernel_rfl) (fun _ _ _ h => h) (by kernel_rfl) (by intro w' hS'; have hz := hS'; obtain c0 := HC.out _ hz; obtain d0 := HD.out _ hz; go_simp <;> rfl) hS0 ?_
              try simp only [List.getElem_toArray, List.getElem_cons_succ, List.getElem_cons_zero, Act.put, List.setIfInBounds_toArray, List.set_cons_zero, List.set_cons_succ]
              refine wpAnyL_take 3 rfl (by kernel_rfl) (by kernel_rfl) (by kernel_rfl) (by kernel_rfl) (fun _ _ _ h => h) (by kernel_rfl) (by intro w' hS'; have hz := hS'; obtain c0 := HC.out _ hz; obtain d0 := HD.out _ hz; go_simp <;> rfl) hS0 ?_
              try simp only [List.getElem_toArray, List.getElem_cons_succ, List.getElem_cons_zero, Act.put, List.setIfInBounds_toArray, List.set_cons_zero, List.set_cons_succ]
              refine wpAnyL_take 4 rfl (by kernel_rfl) (by kernel_rfl) (by kernel_rfl) (by kernel_rfl) (fun _ _ _ h => h) (by kernel_rfl) (by intro w' hS'; have hz := hS'; obtain c0 := HC.out _ hz; obtain d0 := HD.out _ hz; go_simp <;> rfl) hS0 ?_
              try simp only [List.getElem_toArray, List.getElem_cons_succ, List.getElem_cons_zero, Act.put, List.setIfInBounds_toArray, List.set_cons_zero, List.set_cons_succ]
              refine wpAnyL_one 5 (by kernel_rfl) rfl (by kernel_rfl) ?_
              intro K' hK'
              go_simp
              refine (KF.out _ hS0).mono ?_
              rintro e w9 ⟨rfl, hw9⟩
              subst hw9
              refine hK'.out _ _ (.inr hS0) ?_
              clear hK' K'
              try simp only [List.getElem_toArray, List.getElem_cons_succ, List.getElem_cons_zero, Act.put, List.setIfInBounds_toArray, List.set_cons_zero, List.set_cons_succ]
              refine wpAnyL_take 6 rfl (by kernel_rfl) (by kernel_rfl) (by kernel_rfl) (by kernel_rfl) (fun _ _ _ h => h) (by kernel_rfl) (by intro w' hS'; have hz := hS'; obtain c0 := HC.out _ hz; obtain d0 := HD.out _ hz; go_simp <;> rfl) hS0 ?_
              try simp only [List.getElem_toArray, List.getElem_cons_succ, List.getElem_cons_zero, Act.put, List.setIfInBounds_toArray, List.set_cons_zero, List.set_cons_succ]
              refine wpAnyL_take 7 rfl (by kernel_rfl) (by kernel_rfl) (by kernel_rfl) (by kernel_rfl) (fun _ _ _ h => h) (by kernel_rfl) (by intro w' hS'; have hz := hS'; obtain c0 := HC.out _ hz; obtain d0 := HD.out _ hz; go_simp <;> rfl) hS0 ?_
              try simp only [List.getElem_toArray, List.getElem_cons_succ, List.getElem_cons_zero, Act.put, List.setIfInBounds_toArray, List.set_cons_zero, List.set_cons_succ]
              refine wpAnyL_take 8 rfl (by kernel_rfl) (by kernel_rfl) (by kernel_rfl) (by kernel_rfl) (fun _ _ _ h => h) (by kernel_rfl) (by intro w' hS'; have hz := hS'; obtain c0 := HC.out _ hz; obtain d0 := HD.out _ hz; go_simp <;> rfl) hS0 ?_
              try simp only [List.getElem_toArray, List.getElem_cons_succ, List.getElem_cons_zero, Act.put, List.setIfInBounds_toArray, List.set_cons_zero, List.set_cons_succ]
              refine wpAnyL_take 9 rfl (by kernel_rfl) (by kernel_rfl) (by kernel_rfl) (by kernel_rfl) (fun _ _ _ h => h) (by kernel_rfl) (by intro w' hS'; have hz := hS'; obtain c0 := HC.out _ hz; obtain d0 := HD.out _ hz; go_simp <;> rfl) hS0 ?_
              try simp only [List.getElem_toArray, List.getElem_cons_succ, List.getElem_cons_zero, Act.put, List.setIfInBounds_toArray, List.set_cons_zero, List.set_cons_succ]
              refine wpAnyL_take 10 rfl (by kernel_rfl) (by kernel_rfl) (by kernel_rfl) (by kernel_rfl) (fun _ _ _ h => h) (by kernel_rfl) (by intro w' hS'; have hz := hS'; obtain c0 := HC.out _ hz; obtain d0 := HD.out _ hz; go_simp <;> rfl) hS0 ?_
              try simp only [List.getElem_toArray, List.getElem_cons_succ, List.getElem_cons_zero, Act.put, List.setIfInBounds_toArray, List.set_cons_zero, List.set_cons_succ]
              refine wpAnyL_take 11 rfl (by kernel_rfl) (by kernel_rfl) (by kernel_rfl) (by kernel_rfl) (fun _ _ _ h => h) (by kernel_rfl) (by intro w' hS'; have hz := hS'; obtain c0 := HC.out _ hz; obtain d0 := HD.out _ hz; go_simp <;> rfl) hS0 ?_
              try simp only [List.getElem_toArray, List.getElem_cons_succ, List.getElem_cons_zero, Act.put, List.setIfInBounds_toArray, List.set_cons_zero, List.set_cons_succ]
              refine wpAnyL_one 12 (by kernel_rfl) rfl (by kernel_rfl) ?_
              intro K' hK'
              go_simp
              refine (KT.out _ hS0).mono ?_
              rintro e w9 ⟨rfl, hw9⟩
              subst hw9
              refine hK'.out _ _ (.inr hS0) ?_
              clear hK' K'
              try simp only [List.getElem_toArray, List.getElem_cons_succ, List.getElem_cons_zero, Act.put, List.setIfInBounds_toArray, List.set_cons_zero, List.set_cons_succ]
              refine wpAnyL_take 13 rfl (by kernel_rfl) (by kernel_rfl) (by kernel_rfl) (by kernel_rfl) (fun _ _ _ h => h) (by kernel_rfl) (by intro w' hS'; have hz := hS'; obtain c0 := HC.out _ hz; obtain d0 := HD.out _ hz; go_simp <;> rfl) hS0 ?_
              try simp only [List.getElem_toArray, List.getElem_cons_succ, List.getElem_cons_zero, Act.put, List.setIfInBounds_toArray, List.set_cons_zero, List.set_cons_succ]
              refine wpAnyL_take 14 rfl (by kernel_rfl) (by kernel_rfl) (by kernel_rfl) (by kernel_rfl) (fun _ _ _ h => h) (by kernel_rfl) (by intro w' hS'; have hz := hS'; obtain c0 := HC.out _ hz; obtain d0 := HD.out _ hz; go_simp <;> rfl) hS0 ?_
              try simp only [List.getElem_toArray, List.getElem_cons_succ, List.getElem_cons_zero, Act.put, List.setIfInBounds_toArray, List.set_cons_zero, List.set_cons_succ]
              refine wpAnyL_take 15 rfl (by kernel_rfl) (by kernel_rfl) (by kernel_rfl) (by kernel_rfl) (fun _ _ _ h => h) (by kernel_rfl) (by intro w' hS'; have hz := hS'; obtain c0 := HC.out _ hz; obtain d0 := HD.out _ hz; go_simp <;> rfl) hS0 ?_
              try simp only [List.getElem_toArray, List.getElem_cons_succ, List.getElem_cons_zero, Act.put, List.setIfInBounds_toArray, List.set_cons_zero, List.set_cons_succ]
              refine wpAnyL_take 16 rfl (by kernel_rfl) (by kernel_rfl) (by kernel_rfl) (by kernel_rfl) (fun _ _ _ h => h) (by kernel_rfl) (by intro w' hS'; have hz := hS'; obtain c0 := HC.out _ hz; obtain d0 := HD.out _ hz; go_simp <;> rfl) hS0 ?_
              try simp only [List.getElem_toArray, List.getElem_cons_succ, List.getElem_cons_zero, Act.put, List.setIfInBounds_toArray, List.set_cons_zero, List.set_cons_succ]
              refine wpAnyL_take 17 rfl (by kernel_rfl) (by kernel_rfl) (by kernel_rfl) (by kernel_rfl) (fun _ _ _ h => h) (by kernel_rfl) (by intro w' hS'; have hz := hS'; obtain c0 := HC.out _ hz; obtain d0 := HD.out _ hz; go_simp <;> rfl) hS0 ?_
              try simp only [List.getElem_toArray, List.getElem_cons_succ, List.getElem_cons_zero, Act.put, List.setIfInBounds_toArray, List.set_cons_zero, List.set_cons_succ]
              refine wpAnyL_take 18 rfl (by kernel_rfl) (by kernel_rfl) (by kernel_rfl) (by kernel_rfl) (fun _ _ _ h => h) (by kernel_rfl) (by intro w' hS'; have hz := hS'; obtain c0 := HC.out _ hz; obtain d0 := HD.out _ hz; go_simp <;> rfl) hS0 ?_
              try simp only [List.getElem_toArray, List.getElem_cons_succ, List.getElem_cons_zero, Act.put, List.setIfInBounds_toArray, List.set_cons_zero, List.set_cons_succ]
              refine wpAnyL_take 19 rfl (by kernel_rfl) (by kernel_rfl) (by kernel_rfl) (by kernel_rfl) (fun _ _ _ h => h) (by kernel_rfl) (by intro w' hS'; have hz := hS'; obtain c0 := HC.out _ hz; obtain d0 := HD.out _ hz; go_simp <;> rfl) hS0 ?_
              try simp only [List.getElem_toArray, List.getElem_cons_succ, List.getElem_cons_zero, Act.put, List.setIfInBounds_toArray, List.set_cons_zero, List.set_cons_succ]
              refine wpAnyL_take 20 rfl (by kernel_rfl) (by kernel_rfl) (by kernel_rfl) (by kernel_rfl) (fun _ _ _ h => h) (by kernel_rfl) (by intro w' hS'; have hz := hS'; obtain c0 := HC.out _ hz; obtain d0 := HD.out _ hz; go_simp <;> rfl) hS0 ?_
              try simp only [List.getElem_toArray, List.getElem_cons_succ, List.getElem_cons_zero, Act.put, List.setIfInBounds_toArray, List.set_cons_zero, List.set_cons_succ]
              refine wpAnyL_take 21 rfl (by kernel_rfl) (by kernel_rfl) (by kernel_rfl) (by kernel_rfl) (fun _ _ _ h => h) (by kernel_rfl) (by intro w' hS'; have hz := hS'; obtain c0 := HC.out _ hz; obtain d0 := HD.out _ hz; go_simp <;> rfl) hS0 ?_
              try simp only [List.getElem_toArray, List.getElem_cons_succ, List.getElem_cons_zero, Act.put, List.setIfInBounds_toArray, List.set_cons_zero, List.set_cons_succ]
              refine wpAnyL_take 22 rfl (by kernel_rfl) (by kernel_rfl) (by kernel_rfl) (by kernel_rfl) (fun _ _ _ h => h) (by kernel_rfl) (by intro w' hS'; have hz := hS'; obtain c0 := HC.out _ hz; obtain d0 := HD.out _ hz; go_simp <;> rfl) hS0 ?_
              try simp only [List.getElem_toArray, List.getElem_cons_succ, List.getElem_cons_zero, Act.put, List.setIfInBounds_toArray, List.set_cons_zero, List.set_cons_succ]
              refine wpAnyL_take 23 rfl (by kernel_rfl) (by kernel_rfl) (by kernel_rfl) (by kernel_rfl) (fun _ _ _ h => h) (by kernel_rfl) (by intro w' hS'; have hz := hS'; obtain c0 := HC.out _ hz; obtain d0 := HD.out _ hz; go_simp <;> rfl) hS0 ?_
              try simp only [List.getElem_toArray, List.getElem_cons_succ, List.getElem_cons_zero, Act.put, List.setIfInBounds_toArray, List.set_cons_zero, List.set_cons_succ]
              refine wpAnyL_take 24 rfl (by kernel_rfl) (by kernel_rfl) (by kernel_rfl) (by kernel_rfl) (fun _ _ _ h => h) (by kernel_rfl) (by intro w' hS'; have hz := hS'; obtain c0 := HC.out _ hz; obtain d0 := HD.out _ hz; go_simp <;> rfl) hS0 ?_
              try simp only [List.getElem_toArray, List.getElem_cons_succ, List.getElem_cons_zero, Act.put, List.setIfInBounds_toArray, List.set_cons_zero, List.set_cons_succ]
              refine wpAnyL_take 25 rfl (by kernel_rfl) (by kernel_rfl) (by kernel_rfl) (by kernel_rfl) (fun _ _ _ h => h) (by kernel_rfl) (by intro w' hS'; have hz := hS'; obtain c0 := HC.out _ hz; obtain d0 := HD.out _ hz; go_simp <;> rfl) hS0 ?_
              try simp only [List.getElem_toArray, List.getElem_cons_succ, List.getElem_cons_zero, Act.put, List.setIfInBounds_toArray, List.set_cons_zero, List.set_cons_succ]
              refine wpAnyL_take 26 rfl (by kernel_rfl) (by kernel_rfl) (by kernel_rfl) (by kernel_rfl) (fun _ _ _ h => h) (by kernel_rfl) (by intro w' hS'; have hz := hS'; obtain c0 := HC.out _ hz; obtain d0 := HD.out _ hz; go_simp <;> rfl) hS0 ?_
              try simp only [List.getElem_toArray, List.getElem_cons_succ, List.getElem_cons_zero, Act.put, List.setIfInBounds_toArray, List.set_cons_zero, List.set_cons_succ]
              refine wpAnyL_take 27 rfl (by kernel_rfl) (by kernel_rfl) (by kernel_rfl) (by kernel_rfl) (fun _ _ _ h => h) (by kernel_rfl) (by intro w' hS'; have hz := hS'; obtain c0 := HC.out _ hz; obtain d0 := HD.out _ hz; go_simp <;> rfl) hS0 ?_
              try simp only [List.getElem_toArray, List.getElem_cons_succ, List.getElem_cons_zero, Act.put, List.setIfInBounds_toArray, List.set_cons_zero, List.set_cons_succ]
              refine wpAnyL_take 28 rfl (by kernel_rfl) (by kernel_rfl) (by kernel_rfl) (by kernel_rfl) (fun _ _ _ h => h) (by kernel_rfl) (by intro w' hS'; have hz := hS'; obtain c0 := HC.out _ hz; obtain d0 := HD.out _ hz; go_simp <;> rfl) hS0 ?_
              try simp only [List.getElem_toArray, List.getElem_cons_succ, List.getElem_cons_zero, Act.put, List.setIfInBounds_toArray, List.set_cons_zero, List.set_cons_succ]
              refine wpAnyL_take 29 rfl (by kernel_rfl) (by kernel_rfl) (by kernel_rfl) (by kernel_rfl) (fun _ _ _ h => h) (by kernel_rfl) (by intro w' hS'; have hz := hS'; obtain c0 := HC.out _ hz; obtain d0 := HD.out _ hz; go_simp <;> rfl) hS0 ?_
              try simp only [List.getElem_toArray, List.getElem_cons_succ, List.getElem_cons_zero, Act.put, List.setIfInBounds_toArray, List.set_cons_zero, List.set_cons_succ]
              refine wpAnyL_take 30 rfl (by kernel_rfl) (by kernel_rfl) (by kernel_rfl) (by kernel_rfl) (fun _ _ _ h => h) (by kernel_rfl) (by intro w' hS'; have hz := hS'; obtain c0 := HC.out _ hz; obtain d0 := HD.out _ hz; go_simp <;> rfl) hS0 ?_
              try simp only [List.getElem_toArray, List.getElem_cons_succ, List.getElem_cons_zero, Act.put, List.setIfInBounds_toArray, List.set_cons_zero, List.set_cons_succ]
              refine wpAnyL_done (by kernel_rfl) (NoPanic.normal ?_) _
              clear KF KT HC HD
              go_wp2
              go_roundg (gk - 1)
              case measure => omega
              case rel => exact ⟨J + 1, by omega, by go_num, hS0⟩
          · have hlji : ¬ (j : Int) < (lk.length : Int) := by omega
            have kn := KN.out wr (hb04.trans (hb'.mono hn1))
            have hctl : (lk.length : Int) = (t.length : Int) - (ct : Int) := by have := HLC.out; omega
            have hct : ((lk.length : Int) != (t.length : Int) - (ct : Int)) = false := by rw [hctl]; simp
            have hct0 : (ct : Int) ≤ (t.length : Int) := by have := HLC.out; omega
            have HR3 := HA3.out.below hn3 hb'
            clear hctl HLC HLM HLR KN HKF HKT
            generalize lk.length = LK at *
            by_cases h1 : 1 < K
            · have h1i : (1 : Int) < (K : Int) := by omega
              have hd1 : decide (1 < K) = true := by simp [h1]
              have hd2 : decide ((1 : Int) < (K : Int)) = true := decide_eq_true h1i
              have HSL2 := HSL.out
              rw [if_pos h1] at HSL2
              obtain ⟨b2, off2, qa, qc, e2, hyl, c⟩ := Ways.at HA2.out hn2 HSL2
              subst e2
              obtain ⟨c0, -⟩ := c wr hb'
              rw [hd1]
              have ki := fun W (hW : Below w4.heap.size w4 W) => ints_of sl (.slice ya sl.length yc) (.slice qa sl.length qc) W (HA3.out.below hn3 hW).rd (c W hW).2.rd (by omega)
              have ki1 := ki wr hb'
              clear c HSL2 ki HR3 hd1
              go_wp2_with fail
              refine kn.mono ?_
              rintro e w6 ⟨rfl, hw6⟩
              subst hw6
              clear kn
              go_wp2_with fail
              refine ki1.mono ?_
              rintro e w7 ⟨rfl, hb7⟩
              have hb07 := hb'.trans (hb7.mono hb'.size)
              clear ki1 c0
              go_wp2_with fail
              refine (ka _).mono ?_
              rintro e w8 ⟨rfl, hb8⟩
              have hb08 := hb04.trans ((hb07.trans (hb8.mono hb07.size)).mono hn1)
              go_wp2
              go_ret
              exact ⟨rfl, hb08⟩
            · have h1i : ¬ (1 : Int) < (K : Int) := by omega
              have hd1 : decide (1 < K) = false := by simp [h1]
              have hd2 : decide ((1 : Int) < (K : Int)) = false := decide_eq_false h1i
              have HSL2 := HSL.out
              rw [if_neg h1, HHD.out] at HSL2
              cases HSL2
              rw [hd1]
              have ki1 := ints_of f (.slice ya f.length yc) (.slice fa f.length fc) wr HR3.rd (HF.out wr (hb04.trans (hb'.mono hn1))) (by omega)
              clear HR3 hd1
              go_wp2_with fail
              refine kn.mono ?_
              rintro e w6 ⟨rfl, hw6⟩
              subst hw6
              clear kn
              go_wp2_with fail
              refine ki1.mono ?_
              rintro e w7 ⟨rfl, hb7⟩
              have hb07 := hb'.trans (hb7.mono hb'.size)
              clear ki1
              go_wp2_with fail
              refine (ka _).mono ?_
              rintro e w8 ⟨rfl, hb8⟩
              have hb08 := hb04.trans ((hb07.trans (hb8.mono hb07.size)).mono hn1)
              go_wp2
              go_ret
              exact ⟨rfl, hb08⟩
end Go.Proofs.Ytkglckngiggbhaa

