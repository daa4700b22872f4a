import Derived.Test.YtlgnnfhnkfjafaaHp37
/- The document's Merge of plan. -/
namespace Go.Proofs.Ytlgnnfhnkfjafaa
open Go.RowKit SpanMath ChartMath PlanMath
set_option maxRecDepth 100000
set_option linter.unusedSimpArgs false
set_option linter.unusedVariables false

theorem merge_err {l : List Rg} {k : K} (h : (mergeM l k).2 ≠ 0) : (mergeM l k).1 = [] := by
  unfold mergeM at *
  split
  · rfl
  · rename_i i hi
    rw [hi] at h
    dsimp only at h
    split
    · rename_i q r hq hr
      rw [hq, hr] at h
      dsimp only at h
      split
      · rfl
      · rename_i h1
        rw [if_neg h1] at h
        split
        · rfl
        · rename_i h2
          rw [if_neg h2] at h
          exact put_err h
    · rfl
theorem merge_find {l m : List Rg} {k : K} (h : mergeM l k = (m, 0)) : ∃ i q r, findM l k = some i ∧ l[i - 1]? = some q ∧ l[i]? = some r ∧ 0 < i ∧ putM l (i - 1) (i + 1) [((q.1.1, r.1.2), q.2.1)] = (m, 0) := by
  unfold mergeM at h
  cases hf : findM l k with
  | none => rw [hf] at h; simp at h
  | some i =>
    obtain ⟨-, -, r, hr, -⟩ := findM_some hf
    have hil := (List.getElem?_eq_some_iff.1 hr).1
    have hq : l[i - 1]? = some (l[i - 1]'(by omega)) := List.getElem?_eq_getElem _
    rw [hf] at h
    dsimp only at h
    rw [hq, hr] at h
    dsimp only at h
    split at h
    · simp at h
    · rename_i h1
      split at h
      · simp at h
      · exact ⟨i, _, r, rfl, hq, hr, by omega, h⟩
theorem merge_plan {l m : List Rg} {p : Pl} {k : K} {i : Nat} {q r : Rg} (hp : planB l [p] = true) (hs : mergeM l k = (m, 0)) (hq : l[i - 1]? = some q) (hr : l[i]? = some r) (h0 : 0 < i) (hput : putM l (i - 1) (i + 1) [((q.1.1, r.1.2), q.2.1)] = (m, 0)) : planB m [p] = decide (r.1 ≠ p.2.1 ∧ q.1 ≠ p.2.1) := by
  obtain ⟨h1, h2, h3⟩ := plan_iff.1 hp
  have hC := mayC_iff.1 h1
  have hm := (merge_ok' hs).1
  obtain ⟨hlk, hlk2⟩ := chart_link hC h0 hq hr
  have hmq := chart_may hC (List.mem_of_getElem? hq)
  have hmr := chart_may hC (List.mem_of_getElem? hr)
  obtain rfl := put_zero hput
  have hw : ∀ y ∈ [((q.1.1, r.1.2), q.2.1)], ∀ k' s, i - 1 ≤ k' → k' < i + 1 → l[k']? = some s → y.1 ≠ s.1 := by
    intro y hy k' s h4 h5 h6 h7
    obtain rfl := List.mem_singleton.1 hy
    dsimp only at h7
    have e1 : q.1.1 = s.1.1 := by rw [← h7]
    have e2 : r.1.2 = s.1.2 := by rw [← h7]
    by_cases hk : k' = i
    · subst hk
      rw [hr] at h6
      cases h6
      rcases span_ne hmq with h8 | h8
      · exact h8 (e1.trans hlk.symm)
      · exact hlk2 h8
    · obtain rfl : k' = i - 1 := by omega
      rw [hq] at h6
      cases h6
      rcases span_ne hmr with h8 | h8
      · exact h8 (hlk.symm.trans e2.symm)
      · exact hlk2 (e2.symm.trans h8)
  rw [Bool.eq_iff_iff, decide_eq_true_eq, plan_iff, goes_spliced hC (by omega : i - 1 ≤ i + 1) h3 hw]
  constructor
  · rintro ⟨-, -, h4⟩
    exact ⟨h4 i r (by omega) (by omega) hr, h4 (i - 1) q (Nat.le_refl _) (by omega) hq⟩
  · rintro ⟨h4, h4'⟩
    refine ⟨mayC_iff.2 hm, h2, fun k' s h5 h6 h7 => ?_⟩
    by_cases hk : k' = i
    · subst hk
      rw [hr] at h7
      cases h7
      exact h4
    · obtain rfl : k' = i - 1 := by omega
      rw [hq] at h7
      cases h7
      exact h4'
set_option maxHeartbeats 8000000 in
theorem rmergeQ_of (l : List Rg) (ps : List Pl) (lv v : Value) (k : K) (w : World) (hF : Rd rgE w lv l) (hP : Rd plE w v ps) (hlen : l.length ≤ 1000000) (hpl : ps.length ≤ 1000000) : Calls Try.prog 18 #[lv, v, .string (bk k)] w fun e w' => TurnT (mergeQ l ps k) e w' ∧ Below w.heap.size w w' := by
  obtain ⟨T, HT⟩ : ∃ T, Hid (T = TurnT (mergeQ l ps k)) := ⟨_, rfl⟩
  rw [← HT.out]
  have k1 := rplmay_of l ps lv v w hF.cv hP hlen hpl
  have ks : Hid (∀ W, Below w.heap.size w W → _) := fun W hW => rmerge_of l lv k W (hF.below hW)
  have kf : Hid (∀ W, Below w.heap.size w W → _) := fun W hW => rfind_of l lv k W (hF.cv.below hW)
  have HF : Hid (Rd rgE w lv l) := hF
  have HPP : Hid (Rd plE w v ps) := hP
  obtain ⟨ao, cap, rfl, -⟩ := id hF
  obtain ⟨po, pcap, rfl, -⟩ := id hP
  unfold mergeQ at HT
  clear hF hP
  cases hB : planB l ps with
  | false =>
    rw [hB] at k1 HT
    have E : Hid (T = TurnT ([], 1)) := by show _ = _; rw [HT.out]; rfl
    clear HT hB ks kf HF HPP
    go_enter Try.func18, Try.ntmps18
    go_wp2_with fail
    refine k1.mono ?_
    rintro e w1 ⟨rfl, hb1⟩
    go_wp2
    go_ret2
    exact ⟨by rw [E.out]; exact ⟨_, rfl, rg_nil _⟩, hb1⟩
  | true =>
    rw [hB] at k1 HT
    replace HT : Hid (T = TurnT (metM (mergeM l k) ps)) := by show _ = _; rw [HT.out]; rfl
    have HER : Hid ((mergeM l k).2 ≠ 0 → (mergeM l k).1 = []) := merge_err
    have HSP : Hid (∀ m, mergeM l k = (m, 0) → ∃ i q r, findM l k = some i ∧ l[i - 1]? = some q ∧ l[i]? = some r ∧ 0 < i ∧ (∀ p, ps = [p] → planB m [p] = decide (r.1 ≠ p.2.1 ∧ q.1 ≠ p.2.1))) := fun m h => by
      obtain ⟨i, q, r, h1, h2, h3, h4, h5⟩ := merge_find h
      exact ⟨i, q, r, h1, h2, h3, h4, fun p hps => merge_plan (by rw [← hps]; exact hB) h h2 h3 h4 h5⟩
    have HOK : Hid (∀ m, mergeM l k = (m, 0) → mayC m = true) := fun m h => mayC_iff.2 (merge_ok' h).1
    have hple : ps.length ≤ 1 := by
      unfold planB at hB
      simp only [Bool.and_eq_true, decide_eq_true_eq] at hB
      exact hB.1.2
    unfold TurnT at ks
    generalize hM : mergeM l k = M at *
    obtain ⟨m, c⟩ := M
    dsimp only at ks HER
    unfold metM at HT
    dsimp only at HT
    clear hB hM
    by_cases hc : c = 0
    · subst hc
      rw [if_neg (by simp)] at HT
      obtain ⟨i, q, r, hf, hq, hr, hi0, hpb0⟩ := HSP.out m rfl
      cases hps : ps with
      | nil =>
        subst hps
        have E : Hid (T = TurnT (m, 0)) := by show _ = _; rw [HT.out, plan_nil, HOK.out m rfl]; rfl
        clear HT HER HSP HOK hple kf hf hr hq hi0 hpb0 HF HPP hpl
        rw [show ([] : List Pl).length = 0 from rfl] at *
        go_enter Try.func18, Try.ntmps18
        go_wp2_with fail
        refine k1.mono ?_
        rintro e w1 ⟨rfl, hb1⟩
        have k2 := ks.out w1 hb1
        go_wp2_with fail
        refine k2.mono ?_
        rintro e w2 ⟨⟨tv, rfl, hr⟩, hbc⟩
        obtain ⟨ta, tc, rfl, -⟩ := id hr
        have hb2 := hb1.trans (hbc.mono hb1.size)
        have hrH : Hid (Rd rgE w2 (.slice ta m.length tc) m) := hr
        clear k2 hbc hr
        have hbE : Hid (Below w.heap.size w w2) := hb2
        go_wp2
        go_ret2
        exact ⟨by rw [E.out]; exact ⟨_, rfl, hrH.out⟩, hbE.out⟩
      | cons p qs =>
        have hqs : qs = [] := by
          rw [hps, List.length_cons] at hple
          exact List.eq_nil_of_length_eq_zero (by omega)
        subst hqs
        subst hps
        have hpb := hpb0 p rfl
        obtain ⟨cb, coff, rfl, hc0⟩ := cv_at HF.out.cv hr
        obtain ⟨cb', coff', e', hc1⟩ := cv_at HF.out.cv hq
        cases e'
        obtain ⟨pb, poff, rfl, hp0⟩ := pl_at HPP.out (i := 0) (x := p) rfl
        have HL : Hid (∀ W, Below w.heap.size w W → W.cell? ⟨cb, coff + i * 4, none⟩ = some (.string (bk r.1.1)) ∧ W.cell? ⟨cb, coff + i * 4 + 1, none⟩ = some (.string (bk r.1.2))) := fun W hW => ⟨(hc0 W hW).1, (hc0 W hW).2.1⟩
        have HQ : Hid (∀ W, Below w.heap.size w W → W.cell? ⟨cb, coff + (i - 1) * 4, none⟩ = some (.string (bk q.1.1)) ∧ W.cell? ⟨cb, coff + (i - 1) * 4 + 1, none⟩ = some (.string (bk q.1.2))) := fun W hW => ⟨(hc1 W hW).1, (hc1 W hW).2.1⟩
        have HPl : Hid (∀ W, Below w.heap.size w W → W.cell? ⟨pb, poff + 1, none⟩ = some (.string (bk p.2.1.1)) ∧ W.cell? ⟨pb, poff + 2, none⟩ = some (.string (bk p.2.1.2))) := fun W hW => by
          have h0 := hp0 W hW
          rw [Nat.zero_mul, Nat.add_zero] at h0
          exact ⟨h0.2.1, h0.2.2.1⟩
        have hil : i < l.length := (List.getElem?_eq_some_iff.1 hr).1
        have hili : (i : Int) < (l.length : Int) := by omega
        have j1 : (0 : Int) ≤ (i : Int) := by omega
        have j2 : IntKind.i64.wrap ((i : Int) - 1) = (i : Int) - 1 := IntWalk.i64_in _ (by omega)
        have j3 : (0 : Int) ≤ (i : Int) - 1 := by omega
        have j4 : (i : Int) - 1 < (l.length : Int) := by omega
        have j5 : ((i : Int) - 1).toNat = i - 1 := by omega
        rw [hf] at kf
        simp only [idxI] at kf
        rw [show ([p] : List Pl).length = 1 from rfl] at *
        obtain ⟨⟨r1, r2⟩, rg, re⟩ := r
        obtain ⟨⟨t1, t2⟩, qg, qe⟩ := q
        obtain ⟨pi, ⟨s1, s2⟩, pf, pt, pst⟩ := p
        dsimp only at HL HQ HPl hpb
        clear HER HSP HOK hple hf hr hq hi0 hpb0 HF HPP hpl hc0 hc1 hp0 hil
        have hdec : ∀ (a b c d : K), decide (((a, b) : Sp) = (c, d)) = (decide (a = c) && decide (b = d)) := fun a b c d => by simp [Prod.ext_iff]
        have hpb2 : planB m [(pi, (s1, s2), pf, pt, pst)] = (!(decide (r1 = s1) && decide (r2 = s2)) && !(decide (t1 = s1) && decide (t2 = s2))) := by
          rw [hpb, ← hdec, ← hdec, Bool.eq_iff_iff]
          simp
        rw [hpb2] at HT
        clear hpb hpb2 hdec
        cases hsq : (decide (r1 = s1) && decide (r2 = s2)) with
        | true =>
          rw [hsq] at HT
          have E : Hid (T = TurnT ([], 9)) := by show _ = _; rw [HT.out]; rfl
          clear HT
          go_enter Try.func18, Try.ntmps18
          go_wp2_with fail
          refine k1.mono ?_
          rintro e w1 ⟨rfl, hb1⟩
          have k2 := ks.out w1 hb1
          go_wp2_with fail
          refine k2.mono ?_
          rintro e w2 ⟨⟨tv, rfl, hr⟩, hbc⟩
          obtain ⟨ta, tc, rfl, -⟩ := id hr
          have hb2 := hb1.trans (hbc.mono hb1.size)
          have hrH : Hid (Rd rgE w2 (.slice ta m.length tc) m) := hr
          clear k2 hbc hr
          have k3 := kf.out w2 hb2
          go_wp2_with fail
          refine k3.mono ?_
          rintro e w3 ⟨rfl, hbc⟩
          have hb3 := hb2.trans (hbc.mono hb2.size)
          have hr3 : Hid (Rd rgE w3 (.slice ta m.length tc) m) := Rd.below hrH.out hbc
          obtain ⟨l0, l1⟩ := HL.out _ hb3
          obtain ⟨m0, m1⟩ := HQ.out _ hb3
          obtain ⟨p1, p2⟩ := HPl.out _ hb3
          clear k3 hbc kf hb2 hrH
          go_wp2
          go_quiet (fail)
          go_wp2
          go_ret2
          exact ⟨by rw [E.out]; exact ⟨_, rfl, rg_nil _⟩, by first | exact below_drewN hb3 _ | exact hb3⟩
        | false =>
          cases hst : (decide (t1 = s1) && decide (t2 = s2)) with
          | true =>
            rw [hsq, hst] at HT
            have E : Hid (T = TurnT ([], 9)) := by show _ = _; rw [HT.out]; rfl
            clear HT
            go_enter Try.func18, Try.ntmps18
            go_wp2_with fail
            refine k1.mono ?_
            rintro e w1 ⟨rfl, hb1⟩
            have k2 := ks.out w1 hb1
            go_wp2_with fail
            refine k2.mono ?_
            rintro e w2 ⟨⟨tv, rfl, hr⟩, hbc⟩
            obtain ⟨ta, tc, rfl, -⟩ := id hr
            have hb2 := hb1.trans (hbc.mono hb1.size)
            have hrH : Hid (Rd rgE w2 (.slice ta m.length tc) m) := hr
            clear k2 hbc hr
            have k3 := kf.out w2 hb2
            go_wp2_with fail
            refine k3.mono ?_
            rintro e w3 ⟨rfl, hbc⟩
            have hb3 := hb2.trans (hbc.mono hb2.size)
            have hr3 : Hid (Rd rgE w3 (.slice ta m.length tc) m) := Rd.below hrH.out hbc
            obtain ⟨l0, l1⟩ := HL.out _ hb3
            obtain ⟨m0, m1⟩ := HQ.out _ hb3
            obtain ⟨p1, p2⟩ := HPl.out _ hb3
            clear k3 hbc kf hb2 hrH
            go_wp2
            go_quiet (fail)
            go_wp2
            go_ret2
            exact ⟨by rw [E.out]; exact ⟨_, rfl, rg_nil _⟩, by first | exact below_drewN hb3 _ | exact hb3⟩
          | false =>
            rw [hsq, hst] at HT
            have E : Hid (T = TurnT (m, 0)) := by show _ = _; rw [HT.out]; rfl
            clear HT
            go_enter Try.func18, Try.ntmps18
            go_wp2_with fail
            refine k1.mono ?_
            rintro e w1 ⟨rfl, hb1⟩
            have k2 := ks.out w1 hb1
            go_wp2_with fail
            refine k2.mono ?_
            rintro e w2 ⟨⟨tv, rfl, hr⟩, hbc⟩
            obtain ⟨ta, tc, rfl, -⟩ := id hr
            have hb2 := hb1.trans (hbc.mono hb1.size)
            have hrH : Hid (Rd rgE w2 (.slice ta m.length tc) m) := hr
            clear k2 hbc hr
            have k3 := kf.out w2 hb2
            go_wp2_with fail
            refine k3.mono ?_
            rintro e w3 ⟨rfl, hbc⟩
            have hb3 := hb2.trans (hbc.mono hb2.size)
            have hr3 : Hid (Rd rgE w3 (.slice ta m.length tc) m) := Rd.below hrH.out hbc
            obtain ⟨l0, l1⟩ := HL.out _ hb3
            obtain ⟨m0, m1⟩ := HQ.out _ hb3
            obtain ⟨p1, p2⟩ := HPl.out _ hb3
            clear k3 hbc kf hb2 hrH
            go_wp2
            go_quiet (fail)
            go_wp2
            go_ret2
            exact ⟨by rw [E.out]; exact ⟨_, rfl, Rd.below hr3.out (below_drewN (Below.refl _ _) _)⟩, by first | exact below_drewN hb3 _ | exact hb3⟩
    · have hcd : (c == 0) = false := by simpa using hc
      have hm0 := HER.out hc
      subst hm0
      rw [if_pos hc] at HT
      clear HER HSP HOK hple kf HF HPP hpl hc
      go_enter Try.func18, Try.ntmps18
      go_wp2_with fail
      refine k1.mono ?_
      rintro e w1 ⟨rfl, hb1⟩
      have k2 := ks.out w1 hb1
      go_wp2_with fail
      refine k2.mono ?_
      rintro e w2 ⟨⟨tv, rfl, hr⟩, hbc⟩
      obtain ⟨ta, tc, rfl, -⟩ := id hr
      have hb2 := hb1.trans (hbc.mono hb1.size)
      have hrH : Hid (Rd rgE w2 (.slice ta ([] : List Rg).length tc) []) := hr
      clear k2 hbc hr
      have hbE : Hid (Below w.heap.size w w2) := hb2
      go_wp2
      go_ret2
      exact ⟨by rw [HT.out]; exact ⟨_, rfl, hrH.out⟩, hbE.out⟩
end Go.Proofs.Ytlgnnfhnkfjafaa

