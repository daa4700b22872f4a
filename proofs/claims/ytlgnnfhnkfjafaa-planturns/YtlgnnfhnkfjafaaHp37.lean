import Derived.Test.YtlgnnfhnkfjafaaHp36
import Derived.Test.YtlgnnfhnkfjafaaHp09
/- The document's Split of plan. -/
namespace Go.Proofs.Ytlgnnfhnkfjafaa
open Go.RowKit SpanMath ChartMath PlanMath
set_option maxRecDepth 100000
set_option linter.unusedSimpArgs false
set_option linter.unusedVariables false

theorem wanted_none {o : Oper} {y : Nat → Option Bool} (h : o.guard = none) : Region.wanted o y = true := by
  unfold Region.wanted
  rw [h]
theorem put_err {l : List Rg} {i j : Nat} {ws : List (Sp × Int)} (h : (putM l i j ws).2 ≠ 0) : (putM l i j ws).1 = [] := by
  unfold putM at *
  split
  · rfl
  · rename_i hc
    rw [if_neg hc] at h
    exact absurd rfl h
theorem split_err {l : List Rg} {k : K} (h : (splitM l k).2 ≠ 0) : (splitM l k).1 = [] := by
  unfold splitM at *
  split
  · rfl
  · split
    · rfl
    · split
      · rfl
      · rename_i i hi _ r hr hne
        rw [hi] at h
        simp only [hr] at h
        rw [if_neg hne] at h
        exact put_err h
theorem split_find {l m : List Rg} {k : K} (h : splitM l k = (m, 0)) : ∃ i r, findM l k = some i ∧ l[i]? = some r := by
  unfold splitM at h
  cases hf : findM l k with
  | none => rw [hf] at h; simp at h
  | some i =>
    obtain ⟨-, -, r, hr, -⟩ := findM_some hf
    exact ⟨i, r, rfl, hr⟩
set_option maxHeartbeats 8000000 in
theorem rsplitQ_of (l : List Rg) (ps : List Pl) (lv v : Value) (k : K) (w : World) (hF : Rd rgE w lv l) (hP : Rd plE w v ps) (hlen : l.length ≤ 1000000) (hpl : ps.length ≤ 1000000) : Calls Try.prog 16 #[lv, v, .string (bk k)] w fun e w' => TurnT (splitQ l ps k) e w' ∧ Below w.heap.size w w' := by
  obtain ⟨T, HT⟩ : ∃ T, Hid (T = TurnT (splitQ l ps k)) := ⟨_, rfl⟩
  rw [← HT.out]
  have k1 := rplmay_of l ps lv v w hF.cv hP hlen hpl
  have ks : Hid (∀ W, Below w.heap.size w W → _) := fun W hW => rsplit_of l lv k W (hF.below hW)
  have kf : Hid (∀ W, Below w.heap.size w W → _) := fun W hW => rfind_of l lv k W (hF.cv.below hW)
  have HF : Hid (Rd rgE w lv l) := hF
  have HPP : Hid (Rd plE w v ps) := hP
  obtain ⟨ao, cap, rfl, -⟩ := id hF
  obtain ⟨po, pcap, rfl, -⟩ := id hP
  unfold splitQ at HT
  clear hF hP
  cases hB : planB l ps with
  | false =>
    rw [hB] at k1 HT
    have E : Hid (T = TurnT ([], 1)) := by show _ = _; rw [HT.out]; rfl
    clear HT hB ks kf HF HPP
    go_enter Try.func16, Try.ntmps16
    go_wp2_with fail
    refine k1.mono ?_
    rintro e w1 ⟨rfl, hb1⟩
    go_wp2
    go_ret2
    exact ⟨by rw [E.out]; exact ⟨_, rfl, rg_nil _⟩, hb1⟩
  | true =>
    rw [hB] at k1 HT
    replace HT : Hid (T = TurnT (metM (splitM l k) ps)) := by show _ = _; rw [HT.out]; rfl
    have HER : Hid ((splitM l k).2 ≠ 0 → (splitM l k).1 = []) := split_err
    have HSP : Hid (∀ m, splitM l k = (m, 0) → ∃ i r, findM l k = some i ∧ l[i]? = some r) := fun m h => split_find h
    have HOK : Hid (∀ m, splitM l k = (m, 0) → mayC m = true) := fun m h => mayC_iff.2 (split_ok h).1
    have HPL : Hid (∀ m p i r, ps = [p] → splitM l k = (m, 0) → findM l k = some i → l[i]? = some r → planB m [p] = decide (r.1 ≠ p.2.1)) := fun m p i r h1 h2 h3 h4 => split_plan (by rw [← h1]; exact hB) h2 h3 h4
    have hple : ps.length ≤ 1 := by
      unfold planB at hB
      simp only [Bool.and_eq_true, decide_eq_true_eq] at hB
      exact hB.1.2
    unfold TurnT at ks
    generalize hM : splitM l k = M at *
    obtain ⟨m, c⟩ := M
    dsimp only at ks HER
    unfold metM at HT
    dsimp only at HT
    clear hB hM
    by_cases hc : c = 0
    · subst hc
      rw [if_neg (by simp)] at HT
      obtain ⟨i, r, hf, hr⟩ := HSP.out m rfl
      cases hps : ps with
      | nil =>
        subst hps
        have E : Hid (T = TurnT (m, 0)) := by show _ = _; rw [HT.out, plan_nil, HOK.out m rfl]; rfl
        clear HT HER HSP HOK HPL hple kf hf hr HF HPP hpl
        rw [show ([] : List Pl).length = 0 from rfl] at *
        go_enter Try.func16, Try.ntmps16
        go_wp2_with fail
        refine k1.mono ?_
        rintro e w1 ⟨rfl, hb1⟩
        have k2 := ks.out w1 hb1
        go_wp2_with fail
        refine k2.mono ?_
        rintro e w2 ⟨⟨tv, rfl, hr⟩, hbc⟩
        obtain ⟨ta, tc, rfl, -⟩ := id hr
        have hb2 := hb1.trans (hbc.mono hb1.size)
        have hrH : Hid (Rd rgE w2 (.slice ta m.length tc) m) := hr
        clear k2 hbc hr
        go_wp2_with fail
        refine wp_region_L (fun W : World => Below w.heap.size w W) [] (by kernel_rfl) ?_
        have hbd := hb2.drew
        have hrD : Hid (Rd rgE w2.drew (.slice ta m.length tc) m) := Rd.below hrH.out ((Below.refl _ w2).drew)
        clear hb2 hrH
        generalize w2.drew = wd at *
        have yS0 : (fun W : World => Below w.heap.size w W) wd := hbd
        refine wpAnyL_take 0 rfl (by kernel_rfl) (by kernel_rfl) (by kernel_rfl) (by kernel_rfl) (fun _ _ _ h => h) (wanted_none rfl) (by intro w' hS'; go_simp <;> rfl) yS0 ?_
        try simp only [List.getElem_toArray, List.getElem_cons_succ, List.getElem_cons_zero, Act.put, List.setIfInBounds_toArray, List.set_cons_zero, List.set_cons_succ]
        refine wpAnyL_take 1 rfl (by kernel_rfl) (by kernel_rfl) (by kernel_rfl) (by kernel_rfl) (fun _ _ _ h => h) (wanted_none rfl) (by intro w' hS'; go_simp <;> rfl) yS0 ?_
        try simp only [List.getElem_toArray, List.getElem_cons_succ, List.getElem_cons_zero, Act.put, List.setIfInBounds_toArray, List.set_cons_zero, List.set_cons_succ]
        refine wpAnyL_take 2 rfl (by kernel_rfl) (by kernel_rfl) (by kernel_rfl) (by kernel_rfl) (fun _ _ _ h => h) (wanted_none rfl) (by intro w' hS'; go_simp <;> rfl) yS0 ?_
        try simp only [List.getElem_toArray, List.getElem_cons_succ, List.getElem_cons_zero, Act.put, List.setIfInBounds_toArray, List.set_cons_zero, List.set_cons_succ]
        refine wpAnyL_take 3 rfl (by kernel_rfl) (by kernel_rfl) (by kernel_rfl) (by kernel_rfl) (fun _ _ _ h => h) (by kernel_rfl) (by intro w' hS'; go_simp <;> rfl) yS0 ?_
        try simp only [List.getElem_toArray, List.getElem_cons_succ, List.getElem_cons_zero, Act.put, List.setIfInBounds_toArray, List.set_cons_zero, List.set_cons_succ]
        refine wpAnyL_take 4 rfl (by kernel_rfl) (by kernel_rfl) (by kernel_rfl) (by kernel_rfl) (fun _ _ _ h => h) (by kernel_rfl) (by intro w' hS'; go_simp <;> rfl) yS0 ?_
        try simp only [List.getElem_toArray, List.getElem_cons_succ, List.getElem_cons_zero, Act.put, List.setIfInBounds_toArray, List.set_cons_zero, List.set_cons_succ]
        refine wpAnyL_take 5 rfl (by kernel_rfl) (by kernel_rfl) (by kernel_rfl) (by kernel_rfl) (fun _ _ _ h => h) (by kernel_rfl) (by intro w' hS'; go_simp <;> rfl) yS0 ?_
        try simp only [List.getElem_toArray, List.getElem_cons_succ, List.getElem_cons_zero, Act.put, List.setIfInBounds_toArray, List.set_cons_zero, List.set_cons_succ]
        refine wpAnyL_take 6 rfl (by kernel_rfl) (by kernel_rfl) (by kernel_rfl) (by kernel_rfl) (fun _ _ _ h => h) (wanted_none rfl) (by intro w' hS'; go_simp <;> rfl) yS0 ?_
        try simp only [List.getElem_toArray, List.getElem_cons_succ, List.getElem_cons_zero, Act.put, List.setIfInBounds_toArray, List.set_cons_zero, List.set_cons_succ]
        refine wpAnyL_take 7 rfl (by kernel_rfl) (by kernel_rfl) (by kernel_rfl) (by kernel_rfl) (fun _ _ _ h => h) (wanted_none rfl) (by intro w' hS'; go_simp <;> rfl) yS0 ?_
        try simp only [List.getElem_toArray, List.getElem_cons_succ, List.getElem_cons_zero, Act.put, List.setIfInBounds_toArray, List.set_cons_zero, List.set_cons_succ]
        refine wpAnyL_skip 8 rfl (by kernel_rfl) (by kernel_rfl) (by kernel_rfl) (by kernel_rfl) (fun _ _ _ h => h) (by kernel_rfl) yS0 ?_
        try simp only [List.getElem_toArray, List.getElem_cons_succ, List.getElem_cons_zero, Act.put, List.setIfInBounds_toArray, List.set_cons_zero, List.set_cons_succ]
        refine wpAnyL_skip 9 rfl (by kernel_rfl) (by kernel_rfl) (by kernel_rfl) (by kernel_rfl) (fun _ _ _ h => h) (by kernel_rfl) yS0 ?_
        try simp only [List.getElem_toArray, List.getElem_cons_succ, List.getElem_cons_zero, Act.put, List.setIfInBounds_toArray, List.set_cons_zero, List.set_cons_succ]
        refine wpAnyL_skip 10 rfl (by kernel_rfl) (by kernel_rfl) (by kernel_rfl) (by kernel_rfl) (fun _ _ _ h => h) (by kernel_rfl) yS0 ?_
        try simp only [List.getElem_toArray, List.getElem_cons_succ, List.getElem_cons_zero, Act.put, List.setIfInBounds_toArray, List.set_cons_zero, List.set_cons_succ]
        refine wpAnyL_skip 11 rfl (by kernel_rfl) (by kernel_rfl) (by kernel_rfl) (by kernel_rfl) (fun _ _ _ h => h) (by kernel_rfl) yS0 ?_
        try simp only [List.getElem_toArray, List.getElem_cons_succ, List.getElem_cons_zero, Act.put, List.setIfInBounds_toArray, List.set_cons_zero, List.set_cons_succ]
        refine wpAnyL_skip 12 rfl (by kernel_rfl) (by kernel_rfl) (by kernel_rfl) (by kernel_rfl) (fun _ _ _ h => h) (by kernel_rfl) yS0 ?_
        try simp only [List.getElem_toArray, List.getElem_cons_succ, List.getElem_cons_zero, Act.put, List.setIfInBounds_toArray, List.set_cons_zero, List.set_cons_succ]
        refine wpAnyL_skip 13 rfl (by kernel_rfl) (by kernel_rfl) (by kernel_rfl) (by kernel_rfl) (fun _ _ _ h => h) (by kernel_rfl) yS0 ?_
        try simp only [List.getElem_toArray, List.getElem_cons_succ, List.getElem_cons_zero, Act.put, List.setIfInBounds_toArray, List.set_cons_zero, List.set_cons_succ]
        refine wpAnyL_skip 14 rfl (by kernel_rfl) (by kernel_rfl) (by kernel_rfl) (by kernel_rfl) (fun _ _ _ h => h) (by kernel_rfl) yS0 ?_
        try simp only [List.getElem_toArray, List.getElem_cons_succ, List.getElem_cons_zero, Act.put, List.setIfInBounds_toArray, List.set_cons_zero, List.set_cons_succ]
        refine wpAnyL_skip 15 rfl (by kernel_rfl) (by kernel_rfl) (by kernel_rfl) (by kernel_rfl) (fun _ _ _ h => h) (by kernel_rfl) yS0 ?_
        try simp only [List.getElem_toArray, List.getElem_cons_succ, List.getElem_cons_zero, Act.put, List.setIfInBounds_toArray, List.set_cons_zero, List.set_cons_succ]
        refine wpAnyL_skip 16 rfl (by kernel_rfl) (by kernel_rfl) (by kernel_rfl) (by kernel_rfl) (fun _ _ _ h => h) (by kernel_rfl) yS0 ?_
        try simp only [List.getElem_toArray, List.getElem_cons_succ, List.getElem_cons_zero, Act.put, List.setIfInBounds_toArray, List.set_cons_zero, List.set_cons_succ]
        refine wpAnyL_skip 17 rfl (by kernel_rfl) (by kernel_rfl) (by kernel_rfl) (by kernel_rfl) (fun _ _ _ h => h) (by kernel_rfl) yS0 ?_
        try simp only [List.getElem_toArray, List.getElem_cons_succ, List.getElem_cons_zero, Act.put, List.setIfInBounds_toArray, List.set_cons_zero, List.set_cons_succ]
        refine wpAnyL_skip 18 rfl (by kernel_rfl) (by kernel_rfl) (by kernel_rfl) (by kernel_rfl) (fun _ _ _ h => h) (by kernel_rfl) yS0 ?_
        try simp only [List.getElem_toArray, List.getElem_cons_succ, List.getElem_cons_zero, Act.put, List.setIfInBounds_toArray, List.set_cons_zero, List.set_cons_succ]
        refine wpAnyL_skip 19 rfl (by kernel_rfl) (by kernel_rfl) (by kernel_rfl) (by kernel_rfl) (fun _ _ _ h => h) (by kernel_rfl) yS0 ?_
        try simp only [List.getElem_toArray, List.getElem_cons_succ, List.getElem_cons_zero, Act.put, List.setIfInBounds_toArray, List.set_cons_zero, List.set_cons_succ]
        refine wpAnyL_take 20 rfl (by kernel_rfl) (by kernel_rfl) (by kernel_rfl) (by kernel_rfl) (fun _ _ _ h => h) (wanted_none rfl) (by intro w' hS'; go_simp <;> rfl) yS0 ?_
        try simp only [List.getElem_toArray, List.getElem_cons_succ, List.getElem_cons_zero, Act.put, List.setIfInBounds_toArray, List.set_cons_zero, List.set_cons_succ]
        refine wpAnyL_done (by kernel_rfl) (NoPanic.normal ?_) _
        have hbE : Hid (Below w.heap.size w wd) := hbd
        go_wp2
        go_ret2
        exact ⟨by rw [E.out]; exact ⟨_, rfl, hrD.out⟩, hbE.out⟩
      | cons p qs =>
        have hqs : qs = [] := by
          rw [hps, List.length_cons] at hple
          exact List.eq_nil_of_length_eq_zero (by omega)
        subst hqs
        subst hps
        have hpb := HPL.out m p i r rfl rfl hf hr
        obtain ⟨cb, coff, rfl, hc0⟩ := cv_at HF.out.cv hr
        obtain ⟨pb, poff, rfl, hp0⟩ := pl_at HPP.out (i := 0) (x := p) rfl
        have HL : Hid (∀ W, Below w.heap.size w W → W.cell? ⟨cb, coff + i * 4, none⟩ = some (.string (bk r.1.1)) ∧ W.cell? ⟨cb, coff + i * 4 + 1, none⟩ = some (.string (bk r.1.2))) := fun W hW => ⟨(hc0 W hW).1, (hc0 W hW).2.1⟩
        have HPl : Hid (∀ W, Below w.heap.size w W → W.cell? ⟨pb, poff + 1, none⟩ = some (.string (bk p.2.1.1)) ∧ W.cell? ⟨pb, poff + 2, none⟩ = some (.string (bk p.2.1.2))) := fun W hW => by
          have h0 := hp0 W hW
          rw [Nat.zero_mul, Nat.add_zero] at h0
          exact ⟨h0.2.1, h0.2.2.1⟩
        have hil : i < l.length := (List.getElem?_eq_some_iff.1 hr).1
        have hili : (i : Int) < (l.length : Int) := by omega
        have j1 : (0 : Int) ≤ (i : Int) := by omega
        rw [hf] at kf
        simp only [idxI] at kf
        rw [show ([p] : List Pl).length = 1 from rfl] at *
        obtain ⟨⟨r1, r2⟩, rg, re⟩ := r
        obtain ⟨pi, ⟨s1, s2⟩, pf, pt, pst⟩ := p
        dsimp only at HL HPl hpb
        clear HER HSP HOK HPL hple hf hr HF HPP hpl hc0 hp0 hil
        cases hsq : (decide (r1 = s1) && decide (r2 = s2)) with
        | false =>
          have hne : ((r1, r2) : Sp) ≠ (s1, s2) := by
            intro e
            cases e
            simp at hsq
          have E : Hid (T = TurnT (m, 0)) := by show _ = _; rw [HT.out, hpb, decide_eq_true hne]; rfl
          clear HT hpb hne
          go_enter Try.func16, Try.ntmps16
          go_wp2_with fail
          refine k1.mono ?_
          rintro e w1 ⟨rfl, hb1⟩
          have k2 := ks.out w1 hb1
          go_wp2_with fail
          refine k2.mono ?_
          rintro e w2 ⟨⟨tv, rfl, hr⟩, hbc⟩
          obtain ⟨ta, tc, rfl, -⟩ := id hr
          have hb2 := hb1.trans (hbc.mono hb1.size)
          have hrH : Hid (Rd rgE w2 (.slice ta m.length tc) m) := hr
          clear k2 hbc hr
          go_wp2_with fail
          refine wp_region_L (fun W : World => Below w.heap.size w W) [] (by kernel_rfl) ?_
          have hbd := hb2.drew
          have hrD : Hid (Rd rgE w2.drew (.slice ta m.length tc) m) := Rd.below hrH.out ((Below.refl _ w2).drew)
          clear hb2 hrH
          generalize w2.drew = wd at *
          have yS0 : (fun W : World => Below w.heap.size w W) wd := hbd
          refine wpAnyL_take 0 rfl (by kernel_rfl) (by kernel_rfl) (by kernel_rfl) (by kernel_rfl) (fun _ _ _ h => h) (wanted_none rfl) (by intro w' hS'; obtain ⟨l0, l1⟩ := HL.out _ hS'; obtain ⟨p1, p2⟩ := HPl.out _ hS'; go_simp <;> rfl) yS0 ?_
          try simp only [List.getElem_toArray, List.getElem_cons_succ, List.getElem_cons_zero, Act.put, List.setIfInBounds_toArray, List.set_cons_zero, List.set_cons_succ]
          refine wpAnyL_take 1 rfl (by kernel_rfl) (by kernel_rfl) (by kernel_rfl) (by kernel_rfl) (fun _ _ _ h => h) (wanted_none rfl) (by intro w' hS'; obtain ⟨l0, l1⟩ := HL.out _ hS'; obtain ⟨p1, p2⟩ := HPl.out _ hS'; go_simp <;> rfl) yS0 ?_
          try simp only [List.getElem_toArray, List.getElem_cons_succ, List.getElem_cons_zero, Act.put, List.setIfInBounds_toArray, List.set_cons_zero, List.set_cons_succ]
          refine wpAnyL_take 2 rfl (by kernel_rfl) (by kernel_rfl) (by kernel_rfl) (by kernel_rfl) (fun _ _ _ h => h) (wanted_none rfl) (by intro w' hS'; obtain ⟨l0, l1⟩ := HL.out _ hS'; obtain ⟨p1, p2⟩ := HPl.out _ hS'; go_simp <;> rfl) yS0 ?_
          try simp only [List.getElem_toArray, List.getElem_cons_succ, List.getElem_cons_zero, Act.put, List.setIfInBounds_toArray, List.set_cons_zero, List.set_cons_succ]
          refine wpAnyL_take 3 rfl (by kernel_rfl) (by kernel_rfl) (by kernel_rfl) (by kernel_rfl) (fun _ _ _ h => h) (by kernel_rfl) (by intro w' hS'; obtain ⟨l0, l1⟩ := HL.out _ hS'; obtain ⟨p1, p2⟩ := HPl.out _ hS'; go_simp <;> rfl) yS0 ?_
          try simp only [List.getElem_toArray, List.getElem_cons_succ, List.getElem_cons_zero, Act.put, List.setIfInBounds_toArray, List.set_cons_zero, List.set_cons_succ]
          refine wpAnyL_take 4 rfl (by kernel_rfl) (by kernel_rfl) (by kernel_rfl) (by kernel_rfl) (fun _ _ _ h => h) (by kernel_rfl) (by intro w' hS'; obtain ⟨l0, l1⟩ := HL.out _ hS'; obtain ⟨p1, p2⟩ := HPl.out _ hS'; go_simp <;> rfl) yS0 ?_
          try simp only [List.getElem_toArray, List.getElem_cons_succ, List.getElem_cons_zero, Act.put, List.setIfInBounds_toArray, List.set_cons_zero, List.set_cons_succ]
          refine wpAnyL_take 5 rfl (by kernel_rfl) (by kernel_rfl) (by kernel_rfl) (by kernel_rfl) (fun _ _ _ h => h) (by kernel_rfl) (by intro w' hS'; obtain ⟨l0, l1⟩ := HL.out _ hS'; obtain ⟨p1, p2⟩ := HPl.out _ hS'; go_simp <;> rfl) yS0 ?_
          try simp only [List.getElem_toArray, List.getElem_cons_succ, List.getElem_cons_zero, Act.put, List.setIfInBounds_toArray, List.set_cons_zero, List.set_cons_succ]
          refine wpAnyL_take 6 rfl (by kernel_rfl) (by kernel_rfl) (by kernel_rfl) (by kernel_rfl) (fun _ _ _ h => h) (wanted_none rfl) (by intro w' hS'; obtain ⟨l0, l1⟩ := HL.out _ hS'; obtain ⟨p1, p2⟩ := HPl.out _ hS'; go_simp <;> rfl) yS0 ?_
          try simp only [List.getElem_toArray, List.getElem_cons_succ, List.getElem_cons_zero, Act.put, List.setIfInBounds_toArray, List.set_cons_zero, List.set_cons_succ]
          refine wpAnyL_take 7 rfl (by kernel_rfl) (by kernel_rfl) (by kernel_rfl) (by kernel_rfl) (fun _ _ _ h => h) (wanted_none rfl) (by intro w' hS'; obtain ⟨l0, l1⟩ := HL.out _ hS'; obtain ⟨p1, p2⟩ := HPl.out _ hS'; go_simp <;> rfl) yS0 ?_
          try simp only [List.getElem_toArray, List.getElem_cons_succ, List.getElem_cons_zero, Act.put, List.setIfInBounds_toArray, List.set_cons_zero, List.set_cons_succ]
          refine wpAnyL_take 8 rfl (by kernel_rfl) (by kernel_rfl) (by kernel_rfl) (by kernel_rfl) (fun _ _ _ h => h) (by kernel_rfl) (by intro w' hS'; obtain ⟨l0, l1⟩ := HL.out _ hS'; obtain ⟨p1, p2⟩ := HPl.out _ hS'; go_simp <;> rfl) yS0 ?_
          try simp only [List.getElem_toArray, List.getElem_cons_succ, List.getElem_cons_zero, Act.put, List.setIfInBounds_toArray, List.set_cons_zero, List.set_cons_succ]
          refine wpAnyL_take 9 rfl (by kernel_rfl) (by kernel_rfl) (by kernel_rfl) (by kernel_rfl) (fun _ _ _ h => h) (by kernel_rfl) (by intro w' hS'; obtain ⟨l0, l1⟩ := HL.out _ hS'; obtain ⟨p1, p2⟩ := HPl.out _ hS'; go_simp <;> rfl) yS0 ?_
          try simp only [List.getElem_toArray, List.getElem_cons_succ, List.getElem_cons_zero, Act.put, List.setIfInBounds_toArray, List.set_cons_zero, List.set_cons_succ]
          refine wpAnyL_take 10 rfl (by kernel_rfl) (by kernel_rfl) (by kernel_rfl) (by kernel_rfl) (fun _ _ _ h => h) (by kernel_rfl) (by intro w' hS'; obtain ⟨l0, l1⟩ := HL.out _ hS'; obtain ⟨p1, p2⟩ := HPl.out _ hS'; go_simp <;> rfl) yS0 ?_
          try simp only [List.getElem_toArray, List.getElem_cons_succ, List.getElem_cons_zero, Act.put, List.setIfInBounds_toArray, List.set_cons_zero, List.set_cons_succ]
          refine wpAnyL_take 15 rfl (by kernel_rfl) (by kernel_rfl) (by kernel_rfl) (by kernel_rfl) (fun _ _ _ h => h) (by kernel_rfl) (by intro w' hS'; obtain ⟨l0, l1⟩ := HL.out _ hS'; obtain ⟨p1, p2⟩ := HPl.out _ hS'; go_simp <;> rfl) yS0 ?_
          try simp only [List.getElem_toArray, List.getElem_cons_succ, List.getElem_cons_zero, Act.put, List.setIfInBounds_toArray, List.set_cons_zero, List.set_cons_succ]
          refine wpAnyL_take 16 rfl (by kernel_rfl) (by kernel_rfl) (by kernel_rfl) (by kernel_rfl) (fun _ _ _ h => h) (by kernel_rfl) (by intro w' hS'; obtain ⟨l0, l1⟩ := HL.out _ hS'; obtain ⟨p1, p2⟩ := HPl.out _ hS'; go_simp <;> rfl) yS0 ?_
          try simp only [List.getElem_toArray, List.getElem_cons_succ, List.getElem_cons_zero, Act.put, List.setIfInBounds_toArray, List.set_cons_zero, List.set_cons_succ]
          refine wpAnyL_take 17 rfl (by kernel_rfl) (by kernel_rfl) (by kernel_rfl) (by kernel_rfl) (fun _ _ _ h => h) (by kernel_rfl) (by intro w' hS'; obtain ⟨l0, l1⟩ := HL.out _ hS'; obtain ⟨p1, p2⟩ := HPl.out _ hS'; go_simp <;> rfl) yS0 ?_
          try simp only [List.getElem_toArray, List.getElem_cons_succ, List.getElem_cons_zero, Act.put, List.setIfInBounds_toArray, List.set_cons_zero, List.set_cons_succ]
          refine wpAnyL_take 18 rfl (by kernel_rfl) (by kernel_rfl) (by kernel_rfl) (by kernel_rfl) (fun _ _ _ h => h) (by kernel_rfl) (by intro w' hS'; obtain ⟨l0, l1⟩ := HL.out _ hS'; obtain ⟨p1, p2⟩ := HPl.out _ hS'; go_simp <;> rfl) yS0 ?_
          try simp only [List.getElem_toArray, List.getElem_cons_succ, List.getElem_cons_zero, Act.put, List.setIfInBounds_toArray, List.set_cons_zero, List.set_cons_succ]
          refine wpAnyL_one 11 (by kernel_rfl) rfl (by kernel_rfl) ?_
          intro K' hK'
          go_simp
          go_at_call 20
          refine (kf.out _ hbd).mono ?_
          rintro e w3 ⟨rfl, hbc⟩
          have yS1 : (fun W : World => Below w.heap.size w W) w3 := hbd.trans (hbc.mono hbd.size)
          have hbcH : Hid (Below wd.heap.size wd w3) := hbc
          clear hbc kf
          refine hK'.out _ _ (.inr yS1) ?_
          clear hK' K'
          try simp only [List.getElem_toArray, List.getElem_cons_succ, List.getElem_cons_zero, Act.put, List.setIfInBounds_toArray, List.set_cons_zero, List.set_cons_succ]
          refine wpAnyL_take 12 rfl (by kernel_rfl) (by kernel_rfl) (by kernel_rfl) (by kernel_rfl) (fun _ _ _ h => h) (by kernel_rfl) (by intro w' hS'; obtain ⟨l0, l1⟩ := HL.out _ hS'; obtain ⟨p1, p2⟩ := HPl.out _ hS'; go_simp <;> rfl) yS1 ?_
          try simp only [List.getElem_toArray, List.getElem_cons_succ, List.getElem_cons_zero, Act.put, List.setIfInBounds_toArray, List.set_cons_zero, List.set_cons_succ]
          refine wpAnyL_take 13 rfl (by kernel_rfl) (by kernel_rfl) (by kernel_rfl) (by kernel_rfl) (fun _ _ _ h => h) (by kernel_rfl) (by intro w' hS'; obtain ⟨l0, l1⟩ := HL.out _ hS'; obtain ⟨p1, p2⟩ := HPl.out _ hS'; go_simp <;> rfl) yS1 ?_
          try simp only [List.getElem_toArray, List.getElem_cons_succ, List.getElem_cons_zero, Act.put, List.setIfInBounds_toArray, List.set_cons_zero, List.set_cons_succ]
          refine wpAnyL_take 14 rfl (by kernel_rfl) (by kernel_rfl) (by kernel_rfl) (by kernel_rfl) (fun _ _ _ h => h) (by kernel_rfl) (by intro w' hS'; obtain ⟨l0, l1⟩ := HL.out _ hS'; obtain ⟨p1, p2⟩ := HPl.out _ hS'; go_simp <;> rfl) yS1 ?_
          try simp only [List.getElem_toArray, List.getElem_cons_succ, List.getElem_cons_zero, Act.put, List.setIfInBounds_toArray, List.set_cons_zero, List.set_cons_succ]
          refine wpAnyL_take 19 rfl (by kernel_rfl) (by kernel_rfl) (by kernel_rfl) (by kernel_rfl) (fun _ _ _ h => h) (by kernel_rfl) (by intro w' hS'; obtain ⟨l0, l1⟩ := HL.out _ hS'; obtain ⟨p1, p2⟩ := HPl.out _ hS'; go_simp <;> rfl) yS1 ?_
          try simp only [List.getElem_toArray, List.getElem_cons_succ, List.getElem_cons_zero, Act.put, List.setIfInBounds_toArray, List.set_cons_zero, List.set_cons_succ]
          refine wpAnyL_take 20 rfl (by kernel_rfl) (by kernel_rfl) (by kernel_rfl) (by kernel_rfl) (fun _ _ _ h => h) (wanted_none rfl) (by intro w' hS'; obtain ⟨l0, l1⟩ := HL.out _ hS'; obtain ⟨p1, p2⟩ := HPl.out _ hS'; go_simp <;> rfl) yS1 ?_
          try simp only [List.getElem_toArray, List.getElem_cons_succ, List.getElem_cons_zero, Act.put, List.setIfInBounds_toArray, List.set_cons_zero, List.set_cons_succ]
          refine wpAnyL_done (by kernel_rfl) (NoPanic.normal ?_) _
          have hbE : Hid (Below w.heap.size w w3) := yS1
          have hrE : Hid (Rd rgE w3 (.slice ta m.length tc) m) := Rd.below hrD.out hbcH.out
          go_wp2
          go_ret2
          exact ⟨by rw [E.out]; exact ⟨_, rfl, hrE.out⟩, hbE.out⟩
        | true =>
          have heq : ((r1, r2) : Sp) = (s1, s2) := by
            simp only [Bool.and_eq_true, decide_eq_true_eq] at hsq
            rw [hsq.1, hsq.2]
          have E : Hid (T = TurnT ([], 9)) := by show _ = _; rw [HT.out, hpb, decide_eq_false (fun h => h heq)]; rfl
          clear HT hpb heq
          go_enter Try.func16, Try.ntmps16
          go_wp2_with fail
          refine k1.mono ?_
          rintro e w1 ⟨rfl, hb1⟩
          have k2 := ks.out w1 hb1
          go_wp2_with fail
          refine k2.mono ?_
          rintro e w2 ⟨⟨tv, rfl, hr⟩, hbc⟩
          obtain ⟨ta, tc, rfl, -⟩ := id hr
          have hb2 := hb1.trans (hbc.mono hb1.size)
          have hrH : Hid (Rd rgE w2 (.slice ta m.length tc) m) := hr
          clear k2 hbc hr
          go_wp2_with fail
          refine wp_region_L (fun W : World => Below w.heap.size w W) [] (by kernel_rfl) ?_
          have hbd := hb2.drew
          have hrD : Hid (Rd rgE w2.drew (.slice ta m.length tc) m) := Rd.below hrH.out ((Below.refl _ w2).drew)
          clear hb2 hrH
          generalize w2.drew = wd at *
          have yS0 : (fun W : World => Below w.heap.size w W) wd := hbd
          refine wpAnyL_take 0 rfl (by kernel_rfl) (by kernel_rfl) (by kernel_rfl) (by kernel_rfl) (fun _ _ _ h => h) (wanted_none rfl) (by intro w' hS'; obtain ⟨l0, l1⟩ := HL.out _ hS'; obtain ⟨p1, p2⟩ := HPl.out _ hS'; go_simp <;> rfl) yS0 ?_
          try simp only [List.getElem_toArray, List.getElem_cons_succ, List.getElem_cons_zero, Act.put, List.setIfInBounds_toArray, List.set_cons_zero, List.set_cons_succ]
          refine wpAnyL_take 1 rfl (by kernel_rfl) (by kernel_rfl) (by kernel_rfl) (by kernel_rfl) (fun _ _ _ h => h) (wanted_none rfl) (by intro w' hS'; obtain ⟨l0, l1⟩ := HL.out _ hS'; obtain ⟨p1, p2⟩ := HPl.out _ hS'; go_simp <;> rfl) yS0 ?_
          try simp only [List.getElem_toArray, List.getElem_cons_succ, List.getElem_cons_zero, Act.put, List.setIfInBounds_toArray, List.set_cons_zero, List.set_cons_succ]
          refine wpAnyL_take 2 rfl (by kernel_rfl) (by kernel_rfl) (by kernel_rfl) (by kernel_rfl) (fun _ _ _ h => h) (wanted_none rfl) (by intro w' hS'; obtain ⟨l0, l1⟩ := HL.out _ hS'; obtain ⟨p1, p2⟩ := HPl.out _ hS'; go_simp <;> rfl) yS0 ?_
          try simp only [List.getElem_toArray, List.getElem_cons_succ, List.getElem_cons_zero, Act.put, List.setIfInBounds_toArray, List.set_cons_zero, List.set_cons_succ]
          refine wpAnyL_take 3 rfl (by kernel_rfl) (by kernel_rfl) (by kernel_rfl) (by kernel_rfl) (fun _ _ _ h => h) (by kernel_rfl) (by intro w' hS'; obtain ⟨l0, l1⟩ := HL.out _ hS'; obtain ⟨p1, p2⟩ := HPl.out _ hS'; go_simp <;> rfl) yS0 ?_
          try simp only [List.getElem_toArray, List.getElem_cons_succ, List.getElem_cons_zero, Act.put, List.setIfInBounds_toArray, List.set_cons_zero, List.set_cons_succ]
          refine wpAnyL_take 4 rfl (by kernel_rfl) (by kernel_rfl) (by kernel_rfl) (by kernel_rfl) (fun _ _ _ h => h) (by kernel_rfl) (by intro w' hS'; obtain ⟨l0, l1⟩ := HL.out _ hS'; obtain ⟨p1, p2⟩ := HPl.out _ hS'; go_simp <;> rfl) yS0 ?_
          try simp only [List.getElem_toArray, List.getElem_cons_succ, List.getElem_cons_zero, Act.put, List.setIfInBounds_toArray, List.set_cons_zero, List.set_cons_succ]
          refine wpAnyL_take 5 rfl (by kernel_rfl) (by kernel_rfl) (by kernel_rfl) (by kernel_rfl) (fun _ _ _ h => h) (by kernel_rfl) (by intro w' hS'; obtain ⟨l0, l1⟩ := HL.out _ hS'; obtain ⟨p1, p2⟩ := HPl.out _ hS'; go_simp <;> rfl) yS0 ?_
          try simp only [List.getElem_toArray, List.getElem_cons_succ, List.getElem_cons_zero, Act.put, List.setIfInBounds_toArray, List.set_cons_zero, List.set_cons_succ]
          refine wpAnyL_take 6 rfl (by kernel_rfl) (by kernel_rfl) (by kernel_rfl) (by kernel_rfl) (fun _ _ _ h => h) (wanted_none rfl) (by intro w' hS'; obtain ⟨l0, l1⟩ := HL.out _ hS'; obtain ⟨p1, p2⟩ := HPl.out _ hS'; go_simp <;> rfl) yS0 ?_
          try simp only [List.getElem_toArray, List.getElem_cons_succ, List.getElem_cons_zero, Act.put, List.setIfInBounds_toArray, List.set_cons_zero, List.set_cons_succ]
          refine wpAnyL_take 7 rfl (by kernel_rfl) (by kernel_rfl) (by kernel_rfl) (by kernel_rfl) (fun _ _ _ h => h) (wanted_none rfl) (by intro w' hS'; obtain ⟨l0, l1⟩ := HL.out _ hS'; obtain ⟨p1, p2⟩ := HPl.out _ hS'; go_simp <;> rfl) yS0 ?_
          try simp only [List.getElem_toArray, List.getElem_cons_succ, List.getElem_cons_zero, Act.put, List.setIfInBounds_toArray, List.set_cons_zero, List.set_cons_succ]
          refine wpAnyL_take 8 rfl (by kernel_rfl) (by kernel_rfl) (by kernel_rfl) (by kernel_rfl) (fun _ _ _ h => h) (by kernel_rfl) (by intro w' hS'; obtain ⟨l0, l1⟩ := HL.out _ hS'; obtain ⟨p1, p2⟩ := HPl.out _ hS'; go_simp <;> rfl) yS0 ?_
          try simp only [List.getElem_toArray, List.getElem_cons_succ, List.getElem_cons_zero, Act.put, List.setIfInBounds_toArray, List.set_cons_zero, List.set_cons_succ]
          refine wpAnyL_take 9 rfl (by kernel_rfl) (by kernel_rfl) (by kernel_rfl) (by kernel_rfl) (fun _ _ _ h => h) (by kernel_rfl) (by intro w' hS'; obtain ⟨l0, l1⟩ := HL.out _ hS'; obtain ⟨p1, p2⟩ := HPl.out _ hS'; go_simp <;> rfl) yS0 ?_
          try simp only [List.getElem_toArray, List.getElem_cons_succ, List.getElem_cons_zero, Act.put, List.setIfInBounds_toArray, List.set_cons_zero, List.set_cons_succ]
          refine wpAnyL_take 10 rfl (by kernel_rfl) (by kernel_rfl) (by kernel_rfl) (by kernel_rfl) (fun _ _ _ h => h) (by kernel_rfl) (by intro w' hS'; obtain ⟨l0, l1⟩ := HL.out _ hS'; obtain ⟨p1, p2⟩ := HPl.out _ hS'; go_simp <;> rfl) yS0 ?_
          try simp only [List.getElem_toArray, List.getElem_cons_succ, List.getElem_cons_zero, Act.put, List.setIfInBounds_toArray, List.set_cons_zero, List.set_cons_succ]
          refine wpAnyL_take 15 rfl (by kernel_rfl) (by kernel_rfl) (by kernel_rfl) (by kernel_rfl) (fun _ _ _ h => h) (by kernel_rfl) (by intro w' hS'; obtain ⟨l0, l1⟩ := HL.out _ hS'; obtain ⟨p1, p2⟩ := HPl.out _ hS'; go_simp <;> rfl) yS0 ?_
          try simp only [List.getElem_toArray, List.getElem_cons_succ, List.getElem_cons_zero, Act.put, List.setIfInBounds_toArray, List.set_cons_zero, List.set_cons_succ]
          refine wpAnyL_take 16 rfl (by kernel_rfl) (by kernel_rfl) (by kernel_rfl) (by kernel_rfl) (fun _ _ _ h => h) (by kernel_rfl) (by intro w' hS'; obtain ⟨l0, l1⟩ := HL.out _ hS'; obtain ⟨p1, p2⟩ := HPl.out _ hS'; go_simp <;> rfl) yS0 ?_
          try simp only [List.getElem_toArray, List.getElem_cons_succ, List.getElem_cons_zero, Act.put, List.setIfInBounds_toArray, List.set_cons_zero, List.set_cons_succ]
          refine wpAnyL_take 17 rfl (by kernel_rfl) (by kernel_rfl) (by kernel_rfl) (by kernel_rfl) (fun _ _ _ h => h) (by kernel_rfl) (by intro w' hS'; obtain ⟨l0, l1⟩ := HL.out _ hS'; obtain ⟨p1, p2⟩ := HPl.out _ hS'; go_simp <;> rfl) yS0 ?_
          try simp only [List.getElem_toArray, List.getElem_cons_succ, List.getElem_cons_zero, Act.put, List.setIfInBounds_toArray, List.set_cons_zero, List.set_cons_succ]
          refine wpAnyL_take 18 rfl (by kernel_rfl) (by kernel_rfl) (by kernel_rfl) (by kernel_rfl) (fun _ _ _ h => h) (by kernel_rfl) (by intro w' hS'; obtain ⟨l0, l1⟩ := HL.out _ hS'; obtain ⟨p1, p2⟩ := HPl.out _ hS'; go_simp <;> rfl) yS0 ?_
          try simp only [List.getElem_toArray, List.getElem_cons_succ, List.getElem_cons_zero, Act.put, List.setIfInBounds_toArray, List.set_cons_zero, List.set_cons_succ]
          refine wpAnyL_one 11 (by kernel_rfl) rfl (by kernel_rfl) ?_
          intro K' hK'
          go_simp
          go_at_call 20
          refine (kf.out _ hbd).mono ?_
          rintro e w3 ⟨rfl, hbc⟩
          have yS1 : (fun W : World => Below w.heap.size w W) w3 := hbd.trans (hbc.mono hbd.size)
          have hbcH : Hid (Below wd.heap.size wd w3) := hbc
          clear hbc kf
          refine hK'.out _ _ (.inr yS1) ?_
          clear hK' K'
          try simp only [List.getElem_toArray, List.getElem_cons_succ, List.getElem_cons_zero, Act.put, List.setIfInBounds_toArray, List.set_cons_zero, List.set_cons_succ]
          refine wpAnyL_take 12 rfl (by kernel_rfl) (by kernel_rfl) (by kernel_rfl) (by kernel_rfl) (fun _ _ _ h => h) (by kernel_rfl) (by intro w' hS'; obtain ⟨l0, l1⟩ := HL.out _ hS'; obtain ⟨p1, p2⟩ := HPl.out _ hS'; go_simp <;> rfl) yS1 ?_
          try simp only [List.getElem_toArray, List.getElem_cons_succ, List.getElem_cons_zero, Act.put, List.setIfInBounds_toArray, List.set_cons_zero, List.set_cons_succ]
          refine wpAnyL_take 13 rfl (by kernel_rfl) (by kernel_rfl) (by kernel_rfl) (by kernel_rfl) (fun _ _ _ h => h) (by kernel_rfl) (by intro w' hS'; obtain ⟨l0, l1⟩ := HL.out _ hS'; obtain ⟨p1, p2⟩ := HPl.out _ hS'; go_simp <;> rfl) yS1 ?_
          try simp only [List.getElem_toArray, List.getElem_cons_succ, List.getElem_cons_zero, Act.put, List.setIfInBounds_toArray, List.set_cons_zero, List.set_cons_succ]
          refine wpAnyL_take 14 rfl (by kernel_rfl) (by kernel_rfl) (by kernel_rfl) (by kernel_rfl) (fun _ _ _ h => h) (by kernel_rfl) (by intro w' hS'; obtain ⟨l0, l1⟩ := HL.out _ hS'; obtain ⟨p1, p2⟩ := HPl.out _ hS'; go_simp <;> rfl) yS1 ?_
          try simp only [List.getElem_toArray, List.getElem_cons_succ, List.getElem_cons_zero, Act.put, List.setIfInBounds_toArray, List.set_cons_zero, List.set_cons_succ]
          refine wpAnyL_take 19 rfl (by kernel_rfl) (by kernel_rfl) (by kernel_rfl) (by kernel_rfl) (fun _ _ _ h => h) (by kernel_rfl) (by intro w' hS'; obtain ⟨l0, l1⟩ := HL.out _ hS'; obtain ⟨p1, p2⟩ := HPl.out _ hS'; go_simp <;> rfl) yS1 ?_
          try simp only [List.getElem_toArray, List.getElem_cons_succ, List.getElem_cons_zero, Act.put, List.setIfInBounds_toArray, List.set_cons_zero, List.set_cons_succ]
          refine wpAnyL_take 20 rfl (by kernel_rfl) (by kernel_rfl) (by kernel_rfl) (by kernel_rfl) (fun _ _ _ h => h) (wanted_none rfl) (by intro w' hS'; obtain ⟨l0, l1⟩ := HL.out _ hS'; obtain ⟨p1, p2⟩ := HPl.out _ hS'; go_simp <;> rfl) yS1 ?_
          try simp only [List.getElem_toArray, List.getElem_cons_succ, List.getElem_cons_zero, Act.put, List.setIfInBounds_toArray, List.set_cons_zero, List.set_cons_succ]
          refine wpAnyL_done (by kernel_rfl) (NoPanic.normal ?_) _
          have hbE : Hid (Below w.heap.size w w3) := yS1
          go_wp2
          go_ret2
          exact ⟨by rw [E.out]; exact ⟨_, rfl, rg_nil _⟩, hbE.out⟩
    · have hcd : (c == 0) = false := by simpa using hc
      have hm0 := HER.out hc
      subst hm0
      rw [if_pos hc] at HT
      clear HER HSP HOK HPL hple kf HF HPP hpl hc
      go_enter Try.func16, Try.ntmps16
      go_wp2_with fail
      refine k1.mono ?_
      rintro e w1 ⟨rfl, hb1⟩
      have k2 := ks.out w1 hb1
      go_wp2_with fail
      refine k2.mono ?_
      rintro e w2 ⟨⟨tv, rfl, hr⟩, hbc⟩
      obtain ⟨ta, tc, rfl, -⟩ := id hr
      have hb2 := hb1.trans (hbc.mono hb1.size)
      have hrH : Hid (Rd rgE w2 (.slice ta ([] : List Rg).length tc) []) := hr
      clear k2 hbc hr
      go_wp2_with fail
      refine wp_region_L (fun W : World => Below w.heap.size w W) [] (by kernel_rfl) ?_
      have hbd := hb2.drew
      have hrD : Hid (Rd rgE w2.drew (.slice ta ([] : List Rg).length tc) []) := Rd.below hrH.out ((Below.refl _ w2).drew)
      clear hb2 hrH
      generalize w2.drew = wd at *
      have yS0 : (fun W : World => Below w.heap.size w W) wd := hbd
      refine wpAnyL_take 0 rfl (by kernel_rfl) (by kernel_rfl) (by kernel_rfl) (by kernel_rfl) (fun _ _ _ h => h) (wanted_none rfl) (by intro w' hS'; go_simp <;> rfl) yS0 ?_
      try simp only [List.getElem_toArray, List.getElem_cons_succ, List.getElem_cons_zero, Act.put, List.setIfInBounds_toArray, List.set_cons_zero, List.set_cons_succ]
      refine wpAnyL_take 1 rfl (by kernel_rfl) (by kernel_rfl) (by kernel_rfl) (by kernel_rfl) (fun _ _ _ h => h) (wanted_none rfl) (by intro w' hS'; go_simp <;> rfl) yS0 ?_
      try simp only [List.getElem_toArray, List.getElem_cons_succ, List.getElem_cons_zero, Act.put, List.setIfInBounds_toArray, List.set_cons_zero, List.set_cons_succ]
      refine wpAnyL_take 2 rfl (by kernel_rfl) (by kernel_rfl) (by kernel_rfl) (by kernel_rfl) (fun _ _ _ h => h) (wanted_none rfl) (by intro w' hS'; go_simp <;> rfl) yS0 ?_
      try simp only [List.getElem_toArray, List.getElem_cons_succ, List.getElem_cons_zero, Act.put, List.setIfInBounds_toArray, List.set_cons_zero, List.set_cons_succ]
      refine wpAnyL_skip 3 rfl (by kernel_rfl) (by kernel_rfl) (by kernel_rfl) (by kernel_rfl) (fun _ _ _ h => h) (by kernel_rfl) yS0 ?_
      try simp only [List.getElem_toArray, List.getElem_cons_succ, List.getElem_cons_zero, Act.put, List.setIfInBounds_toArray, List.set_cons_zero, List.set_cons_succ]
      refine wpAnyL_skip 4 rfl (by kernel_rfl) (by kernel_rfl) (by kernel_rfl) (by kernel_rfl) (fun _ _ _ h => h) (by kernel_rfl) yS0 ?_
      try simp only [List.getElem_toArray, List.getElem_cons_succ, List.getElem_cons_zero, Act.put, List.setIfInBounds_toArray, List.set_cons_zero, List.set_cons_succ]
      refine wpAnyL_skip 5 rfl (by kernel_rfl) (by kernel_rfl) (by kernel_rfl) (by kernel_rfl) (fun _ _ _ h => h) (by kernel_rfl) yS0 ?_
      try simp only [List.getElem_toArray, List.getElem_cons_succ, List.getElem_cons_zero, Act.put, List.setIfInBounds_toArray, List.set_cons_zero, List.set_cons_succ]
      refine wpAnyL_take 6 rfl (by kernel_rfl) (by kernel_rfl) (by kernel_rfl) (by kernel_rfl) (fun _ _ _ h => h) (wanted_none rfl) (by intro w' hS'; go_simp <;> rfl) yS0 ?_
      try simp only [List.getElem_toArray, List.getElem_cons_succ, List.getElem_cons_zero, Act.put, List.setIfInBounds_toArray, List.set_cons_zero, List.set_cons_succ]
      refine wpAnyL_take 7 rfl (by kernel_rfl) (by kernel_rfl) (by kernel_rfl) (by kernel_rfl) (fun _ _ _ h => h) (wanted_none rfl) (by intro w' hS'; go_simp <;> rfl) yS0 ?_
      try simp only [List.getElem_toArray, List.getElem_cons_succ, List.getElem_cons_zero, Act.put, List.setIfInBounds_toArray, List.set_cons_zero, List.set_cons_succ]
      refine wpAnyL_skip 8 rfl (by kernel_rfl) (by kernel_rfl) (by kernel_rfl) (by kernel_rfl) (fun _ _ _ h => h) (by kernel_rfl) yS0 ?_
      try simp only [List.getElem_toArray, List.getElem_cons_succ, List.getElem_cons_zero, Act.put, List.setIfInBounds_toArray, List.set_cons_zero, List.set_cons_succ]
      refine wpAnyL_skip 9 rfl (by kernel_rfl) (by kernel_rfl) (by kernel_rfl) (by kernel_rfl) (fun _ _ _ h => h) (by kernel_rfl) yS0 ?_
      try simp only [List.getElem_toArray, List.getElem_cons_succ, List.getElem_cons_zero, Act.put, List.setIfInBounds_toArray, List.set_cons_zero, List.set_cons_succ]
      refine wpAnyL_skip 10 rfl (by kernel_rfl) (by kernel_rfl) (by kernel_rfl) (by kernel_rfl) (fun _ _ _ h => h) (by kernel_rfl) yS0 ?_
      try simp only [List.getElem_toArray, List.getElem_cons_succ, List.getElem_cons_zero, Act.put, List.setIfInBounds_toArray, List.set_cons_zero, List.set_cons_succ]
      refine wpAnyL_skip 11 rfl (by kernel_rfl) (by kernel_rfl) (by kernel_rfl) (by kernel_rfl) (fun _ _ _ h => h) (by kernel_rfl) yS0 ?_
      try simp only [List.getElem_toArray, List.getElem_cons_succ, List.getElem_cons_zero, Act.put, List.setIfInBounds_toArray, List.set_cons_zero, List.set_cons_succ]
      refine wpAnyL_skip 12 rfl (by kernel_rfl) (by kernel_rfl) (by kernel_rfl) (by kernel_rfl) (fun _ _ _ h => h) (by kernel_rfl) yS0 ?_
      try simp only [List.getElem_toArray, List.getElem_cons_succ, List.getElem_cons_zero, Act.put, List.setIfInBounds_toArray, List.set_cons_zero, List.set_cons_succ]
      refine wpAnyL_skip 13 rfl (by kernel_rfl) (by kernel_rfl) (by kernel_rfl) (by kernel_rfl) (fun _ _ _ h => h) (by kernel_rfl) yS0 ?_
      try simp only [List.getElem_toArray, List.getElem_cons_succ, List.getElem_cons_zero, Act.put, List.setIfInBounds_toArray, List.set_cons_zero, List.set_cons_succ]
      refine wpAnyL_skip 14 rfl (by kernel_rfl) (by kernel_rfl) (by kernel_rfl) (by kernel_rfl) (fun _ _ _ h => h) (by kernel_rfl) yS0 ?_
      try simp only [List.getElem_toArray, List.getElem_cons_succ, List.getElem_cons_zero, Act.put, List.setIfInBounds_toArray, List.set_cons_zero, List.set_cons_succ]
      refine wpAnyL_skip 15 rfl (by kernel_rfl) (by kernel_rfl) (by kernel_rfl) (by kernel_rfl) (fun _ _ _ h => h) (by kernel_rfl) yS0 ?_
      try simp only [List.getElem_toArray, List.getElem_cons_succ, List.getElem_cons_zero, Act.put, List.setIfInBounds_toArray, List.set_cons_zero, List.set_cons_succ]
      refine wpAnyL_skip 16 rfl (by kernel_rfl) (by kernel_rfl) (by kernel_rfl) (by kernel_rfl) (fun _ _ _ h => h) (by kernel_rfl) yS0 ?_
      try simp only [List.getElem_toArray, List.getElem_cons_succ, List.getElem_cons_zero, Act.put, List.setIfInBounds_toArray, List.set_cons_zero, List.set_cons_succ]
      refine wpAnyL_skip 17 rfl (by kernel_rfl) (by kernel_rfl) (by kernel_rfl) (by kernel_rfl) (fun _ _ _ h => h) (by kernel_rfl) yS0 ?_
      try simp only [List.getElem_toArray, List.getElem_cons_succ, List.getElem_cons_zero, Act.put, List.setIfInBounds_toArray, List.set_cons_zero, List.set_cons_succ]
      refine wpAnyL_skip 18 rfl (by kernel_rfl) (by kernel_rfl) (by kernel_rfl) (by kernel_rfl) (fun _ _ _ h => h) (by kernel_rfl) yS0 ?_
      try simp only [List.getElem_toArray, List.getElem_cons_succ, List.getElem_cons_zero, Act.put, List.setIfInBounds_toArray, List.set_cons_zero, List.set_cons_succ]
      refine wpAnyL_skip 19 rfl (by kernel_rfl) (by kernel_rfl) (by kernel_rfl) (by kernel_rfl) (fun _ _ _ h => h) (by kernel_rfl) yS0 ?_
      try simp only [List.getElem_toArray, List.getElem_cons_succ, List.getElem_cons_zero, Act.put, List.setIfInBounds_toArray, List.set_cons_zero, List.set_cons_succ]
      refine wpAnyL_take 20 rfl (by kernel_rfl) (by kernel_rfl) (by kernel_rfl) (by kernel_rfl) (fun _ _ _ h => h) (wanted_none rfl) (by intro w' hS'; go_simp <;> rfl) yS0 ?_
      try simp only [List.getElem_toArray, List.getElem_cons_succ, List.getElem_cons_zero, Act.put, List.setIfInBounds_toArray, List.set_cons_zero, List.set_cons_succ]
      refine wpAnyL_done (by kernel_rfl) (NoPanic.normal ?_) _
      have hbE : Hid (Below w.heap.size w wd) := hbd
      go_wp2
      go_ret2
      exact ⟨by rw [HT.out]; exact ⟨_, rfl, hrD.out⟩, hbE.out⟩
end Go.Proofs.Ytlgnnfhnkfjafaa

