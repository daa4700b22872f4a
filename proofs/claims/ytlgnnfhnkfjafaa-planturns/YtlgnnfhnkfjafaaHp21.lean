import Derived.Test.YtlgnnfhnkfjafaaHp19
/- The contract of the document's own May. -/
namespace Go.Proofs.Ytlgnnfhnkfjafaa
open Go.RowKit SpanMath ChartMath
set_option maxRecDepth 100000
set_option linter.unusedSimpArgs false
set_option linter.unusedVariables false

set_option maxHeartbeats 4000000 in
theorem rmay_of (l : List Rg) (lv : Value) (w : World) (hF : Cv w lv l) : Calls Try.prog 19 #[lv] w fun e w' => e = .returned (.bool (mayC l)) ∧ Below w.heap.size w w' := by
  obtain ⟨ao, cap, rfl, h2⟩ := id hF
  obtain ⟨B, HB⟩ : ∃ B, Hid (B = mayC l) := ⟨_, rfl⟩
  rw [← HB.out]
  by_cases h0 : l.length = 0
  · have E : Hid (B = false) := by show _ = _; rw [HB.out]; simp [mayC, h0]
    have hi : (l.length : Int) < 1 := by omega
    clear HB h2 hF h0
    go_enter Try.func19, Try.ntmps19
    go_wp2
    go_ret
    exact ⟨by rw [E.out]; rfl, Below.refl _ _⟩
  · have hi0 : ¬ (l.length : Int) < 1 := by omega
    by_cases h64 : 64 < l.length
    · have E : Hid (B = false) := by
        show _ = _
        rw [HB.out, Bool.eq_false_iff]
        intro h
        simp only [mayC, Bool.and_eq_true, decide_eq_true_eq] at h
        omega
      have hi : (64 : Int) < (l.length : Int) := by omega
      clear HB h2 hF h0 h64
      go_enter Try.func19, Try.ntmps19
      go_wp2
      go_ret
      exact ⟨by rw [E.out]; rfl, Below.refl _ _⟩
    · have hi64 : ¬ (64 : Int) < (l.length : Int) := by omega
      have hpos : 0 < l.length := by omega
      obtain ⟨⟨⟨f1, f2⟩, fg, fe⟩, hf⟩ : ∃ r, l[0]? = some r := ⟨l[0], List.getElem?_eq_getElem hpos⟩
      obtain ⟨⟨⟨t1, t2⟩, tg, te⟩, ht⟩ : ∃ r, l[l.length - 1]? = some r := ⟨l[l.length - 1], List.getElem?_eq_getElem (by omega)⟩
      obtain ⟨b, off, rfl, d0, -, -, -⟩ := h2 0 _ hf
      obtain ⟨b', off', e', -, d1, -, -⟩ := h2 (l.length - 1) _ ht
      cases e'
      have hends : endsOk l = (decide (f1 = []) && decide (t2 = [])) := by
        unfold endsOk
        rw [List.head?_eq_getElem?, hf, List.getLast?_eq_getElem?, ht]
        simp
      simp only [Nat.zero_mul, Nat.add_zero] at d0
      dsimp only at d0 d1
      have i1 : IntKind.i64.wrap ((l.length : Int) - 1) = (l.length : Int) - 1 := IntWalk.i64_in _ (by omega)
      have i2 : (0 : Int) ≤ (l.length : Int) - 1 := by omega
      have i3 : (l.length : Int) - 1 < (l.length : Int) := by omega
      have i4 : ((l.length : Int) - 1).toNat = l.length - 1 := by omega
      have i5 : (0 : Int) < (l.length : Int) := by omega
      by_cases hf0 : f1 = []
      · by_cases ht0 : t2 = []
        · have HB2 : Hid (B = walk none l) := by
            show _ = _
            rw [HB.out]
            have : mayC l = walk none l := by
              unfold mayC
              rw [hends, hf0, ht0, decide_eq_true (show 1 ≤ l.length by omega), decide_eq_true (show l.length ≤ 64 by omega)]
              simp
            rw [this]
          clear HB hends hf ht
          go_enter Try.func19, Try.ntmps19
          go_wp2
          go_loopg [3] l.length (fun g s34 wr => ∃ i : Nat, i + g = l.length ∧ s34 = .int .i64 (i : Int) ∧ Below w.heap.size w wr ∧ Hid (B = walk (prev l i) (l.drop i)))
          case atStart => exact ⟨0, by simp, rfl, Below.refl _ _, HB2⟩
          case round =>
            obtain ⟨i, hig, rfl, hb, HP⟩ := hrel
            clear d0 d1
            by_cases hlt : i < l.length
            · have hlti : (i : Int) < (l.length : Int) := by omega
              have hx : l[i]? = some l[i] := List.getElem?_eq_getElem hlt
              obtain ⟨b', off', e', c0, c1, c2, c3⟩ := h2 i l[i] hx
              cases e'
              obtain ⟨s, hs⟩ : ∃ s, s = l[i] := ⟨_, rfl⟩
              rw [← hs] at hx c0 c1 c2 c3
              have hxH : Hid (l[i]? = some s) := hx
              have hlb := World.block_lt_of_cell? w _ c0
              replace c0 := (hb.cell (p := ⟨b, off + i * 4, none⟩) hlb).trans c0
              replace c1 := (hb.cell (p := ⟨b, off + i * 4 + 1, none⟩) hlb).trans c1
              replace c2 := (hb.cell (p := ⟨b, off + i * 4 + 2, none⟩) hlb).trans c2
              replace c3 := (hb.cell (p := ⟨b, off + i * 4 + 3, none⟩) hlb).trans c3
              obtain ⟨⟨s1, s2⟩, sg, se⟩ := s
              clear hx hs
              obtain ⟨hsz, hn0, hbb⟩ := one_box wr (.cells #[.string (bk s1), .string (bk s2), .int .i64 sg, .int .u64 se] 47)
              have hbw : ∀ W, Below (wr.heap.size + 1) (wr.alloc (.cells #[.string (bk s1), .string (bk s2), .int .i64 sg, .int .u64 se] 47)) W → Below w.heap.size w W := fun W hW => hb.trans ((hbb.trans (hW.mono (Nat.le_succ _))).mono hb.size)
              have cl : ∀ W, Below (wr.heap.size + 1) (wr.alloc (.cells #[.string (bk s1), .string (bk s2), .int .i64 sg, .int .u64 se] 47)) W → W.cell? ⟨wr.heap.size, 0, none⟩ = some (.string (bk s1)) ∧ W.cell? ⟨wr.heap.size, 1, none⟩ = some (.string (bk s2)) ∧ W.cell? ⟨wr.heap.size, 2, none⟩ = some (.int .i64 sg) ∧ W.cell? ⟨wr.heap.size, 3, none⟩ = some (.int .u64 se) := fun W hW => by
                have := (hW.block wr.heap.size (Nat.lt_succ_self _)).trans hn0
                exact ⟨by rw [cells_of_block this]; rfl, by rw [cells_of_block this]; rfl, by rw [cells_of_block this]; rfl, by rw [cells_of_block this]; rfl⟩
              have kc : Calls Try.prog 35 #[.agg #[.string (bk s1), .string (bk s2)]] _ _ := may_of (s1, s2) (wr.alloc (.cells #[.string (bk s1), .string (bk s2), .int .i64 sg, .int .u64 se] 47))
              rw [hsz] at kc
              clear hn0 hbb hsz
              cases hm : may (s1, s2) with
              | false =>
                rw [hm] at kc
                have E : Hid (B = false) := by show _ = _; rw [HP.out, walk_at hxH.out]; simp [rOk, hm]
                clear HP HB2 hm hxH h2 hF
                go_wp2_with fail
                refine kc.mono ?_
                rintro e w1 ⟨rfl, hb1⟩
                obtain ⟨x0, x1, x2, x3⟩ := cl w1 hb1
                have hbw1 := hbw w1 hb1
                clear cl kc hbw
                go_wp2
                go_ret
                exact ⟨by rw [E.out]; rfl, hbw1⟩
              | true =>
                rw [hm] at kc
                by_cases h1 : sg < 1
                · have E : Hid (B = false) := by show _ = _; rw [HP.out, walk_at hxH.out]; simp [rOk, gOk, show ¬ 1 ≤ sg by omega]
                  clear HP HB2 hm hxH h2 hF
                  go_wp2_with fail
                  refine kc.mono ?_
                  rintro e w1 ⟨rfl, hb1⟩
                  obtain ⟨x0, x1, x2, x3⟩ := cl w1 hb1
                  have hbw1 := hbw w1 hb1
                  clear cl kc hbw
                  go_wp2
                  go_ret
                  exact ⟨by rw [E.out]; rfl, hbw1⟩
                · by_cases h3 : 16 < sg
                  · have E : Hid (B = false) := by show _ = _; rw [HP.out, walk_at hxH.out]; simp [rOk, gOk, show ¬ sg ≤ 16 by omega]
                    clear HP HB2 hm hxH h2 hF
                    go_wp2_with fail
                    refine kc.mono ?_
                    rintro e w1 ⟨rfl, hb1⟩
                    obtain ⟨x0, x1, x2, x3⟩ := cl w1 hb1
                    have hbw1 := hbw w1 hb1
                    clear cl kc hbw
                    go_wp2
                    go_ret
                    exact ⟨by rw [E.out]; rfl, hbw1⟩
                  · by_cases h4 : se < 1
                    · have E : Hid (B = false) := by show _ = _; rw [HP.out, walk_at hxH.out]; simp [rOk, eOk, show ¬ 1 ≤ se by omega]
                      clear HP HB2 hm hxH h2 hF
                      go_wp2_with fail
                      refine kc.mono ?_
                      rintro e w1 ⟨rfl, hb1⟩
                      obtain ⟨x0, x1, x2, x3⟩ := cl w1 hb1
                      have hbw1 := hbw w1 hb1
                      clear cl kc hbw
                      go_wp2
                      go_ret
                      exact ⟨by rw [E.out]; rfl, hbw1⟩
                    · by_cases h5 : 4611686018427387904 < se
                      · have E : Hid (B = false) := by show _ = _; rw [HP.out, walk_at hxH.out]; simp [rOk, eOk, show ¬ se ≤ 4611686018427387904 by omega]
                        clear HP HB2 hm hxH h2 hF
                        go_wp2_with fail
                        refine kc.mono ?_
                        rintro e w1 ⟨rfl, hb1⟩
                        obtain ⟨x0, x1, x2, x3⟩ := cl w1 hb1
                        have hbw1 := hbw w1 hb1
                        clear cl kc hbw
                        go_wp2
                        go_ret
                        exact ⟨by rw [E.out]; rfl, hbw1⟩
                      · have hrok : rOk ((s1, s2), sg, se) = true := by
                          have a1 : 1 ≤ sg := by omega
                          have a2 : sg ≤ 16 := by omega
                          have a3 : 1 ≤ se := by omega
                          have a4 : se ≤ 4611686018427387904 := by omega
                          simp [rOk, gOk, eOk, hm, a1, a2, a3, a4]
                        by_cases hi0 : i = 0
                        · subst hi0
                          simp only [Nat.zero_mul, Nat.add_zero] at c0 c1 c2 c3
                          have HN : Hid (B = walk (prev l (0 + 1)) (l.drop (0 + 1))) := by show _ = _; rw [HP.out, walk_at hxH.out, hrok, prev_succ hxH.out]; simp [prev, lnkO]
                          clear hrok
                          clear HP HB2 hm hxH h2 hF
                          go_wp2_with fail
                          refine kc.mono ?_
                          rintro e w1 ⟨rfl, hb1⟩
                          obtain ⟨x0, x1, x2, x3⟩ := cl w1 hb1
                          have hbw1 := hbw w1 hb1
                          clear cl kc hbw
                          go_wp2
                          go_quiet (fail)
                          go_wp2
                          go_roundg (gk - 1)
                          case measure => omega
                          case rel => exact ⟨0 + 1, by omega, by go_num, below_drewN hbw1 nq, HN⟩
                        · have hi0i : (0 : Int) < (i : Int) := by omega
                          have hi0n : 0 < i := by omega
                          have hi1 : (1 : Int) ≤ (i : Int) := by omega
                          have hr : l[i - 1]? = some l[i - 1] := List.getElem?_eq_getElem (by omega)
                          obtain ⟨b', off', e', q0, q1, q2, q3⟩ := h2 (i - 1) l[i - 1] hr
                          cases e'
                          obtain ⟨r, hr'⟩ : ∃ r, r = l[i - 1] := ⟨_, rfl⟩
                          rw [← hr'] at hr q0 q1 q2 q3
                          obtain ⟨⟨r1, r2⟩, rg, re⟩ := r
                          have hpv : Hid (prev l i = some ((r1, r2), rg, re)) := by show _ = _; unfold prev; rw [if_neg hi0]; exact hr
                          clear hr hr'
                          have cl2 : ∀ W, Below w.heap.size w W → W.cell? ⟨b, off + (i - 1) * 4 + 1, none⟩ = some (.string (bk r2)) := fun W hW => (hW.cell (p := ⟨b, off + (i - 1) * 4 + 1, none⟩) (World.block_lt_of_cell? w _ q1)).trans q1
                          have j1 : IntKind.i64.wrap ((i : Int) - 1) = (i : Int) - 1 := IntWalk.i64_in _ (by omega)
                          have j2 : (0 : Int) ≤ (i : Int) - 1 := by omega
                          have j3 : (i : Int) - 1 < (l.length : Int) := by omega
                          have j4 : ((i : Int) - 1).toNat = i - 1 := by omega
                          clear q0 q1 q2 q3
                          by_cases h6 : s1 = []
                          · have E : Hid (B = false) := by show _ = _; rw [HP.out, walk_at hxH.out, hpv.out]; simp [lnkO, lnk, h6]
                            clear hrok hpv
                            have d6 : decide (s1 = []) = true := decide_eq_true h6
                            clear h6
                            clear HP HB2 hm hxH h2 hF
                            go_wp2_with fail
                            refine kc.mono ?_
                            rintro e w1 ⟨rfl, hb1⟩
                            obtain ⟨x0, x1, x2, x3⟩ := cl w1 hb1
                            have hbw1 := hbw w1 hb1
                            clear cl kc hbw
                            have y1 := cl2 w1 hbw1
                            go_wp2
                            go_quiet (fail)
                            go_wp2
                            go_ret
                            exact ⟨by rw [E.out]; rfl, below_drewN hbw1 nq⟩
                          · by_cases h7 : s1 = r2
                            · have HN : Hid (B = walk (prev l (i + 1)) (l.drop (i + 1))) := by show _ = _; rw [HP.out, walk_at hxH.out, hrok, hpv.out, prev_succ hxH.out]; simp [lnkO, lnk, h6, h7.symm]
                              clear hrok hpv
                              have d6 : decide (s1 = []) = false := decide_eq_false h6
                              have d7 : decide (s1 = r2) = true := decide_eq_true h7
                              clear h6 h7
                              clear HP HB2 hm hxH h2 hF
                              go_wp2_with fail
                              refine kc.mono ?_
                              rintro e w1 ⟨rfl, hb1⟩
                              obtain ⟨x0, x1, x2, x3⟩ := cl w1 hb1
                              have hbw1 := hbw w1 hb1
                              clear cl kc hbw
                              have y1 := cl2 w1 hbw1
                              go_wp2
                              go_quiet (fail)
                              go_wp2
                              go_roundg (gk - 1)
                              case measure => omega
                              case rel => exact ⟨i + 1, by omega, by go_num, below_drewN hbw1 nq, HN⟩
                            · have h7' : ¬ r2 = s1 := fun h => h7 h.symm
                              have E : Hid (B = false) := by show _ = _; rw [HP.out, walk_at hxH.out, hpv.out]; simp [lnkO, lnk, h7']
                              clear hrok hpv h7'
                              have d6 : decide (s1 = []) = false := decide_eq_false h6
                              have d7 : decide (s1 = r2) = false := decide_eq_false h7
                              clear h6 h7
                              clear HP HB2 hm hxH h2 hF
                              go_wp2_with fail
                              refine kc.mono ?_
                              rintro e w1 ⟨rfl, hb1⟩
                              obtain ⟨x0, x1, x2, x3⟩ := cl w1 hb1
                              have hbw1 := hbw w1 hb1
                              clear cl kc hbw
                              have y1 := cl2 w1 hbw1
                              go_wp2
                              go_quiet (fail)
                              go_wp2
                              go_ret
                              exact ⟨by rw [E.out]; rfl, below_drewN hbw1 nq⟩
            · have hlti : ¬ (i : Int) < (l.length : Int) := by omega
              have E : Hid (B = true) := by show _ = _; rw [HP.out, List.drop_eq_nil_of_le (by omega)]; simp [walk]
              clear h2 HP hF HB2
              go_wp2
              go_ret
              exact ⟨by rw [E.out]; rfl, hb⟩
        · have E : Hid (B = false) := by
            show _ = _
            rw [HB.out, Bool.eq_false_iff]
            intro h
            simp only [mayC, hends, ht0, Bool.and_eq_true, decide_eq_true_eq] at h
            simp at h
          clear HB h2 hF h0 hf ht hends
          go_enter Try.func19, Try.ntmps19
          go_wp2
          go_ret
          exact ⟨by rw [E.out]; rfl, Below.refl _ _⟩
      · have E : Hid (B = false) := by
          show _ = _
          rw [HB.out, Bool.eq_false_iff]
          intro h
          simp only [mayC, hends, hf0, Bool.and_eq_true, decide_eq_true_eq] at h
          simp at h
        clear HB h2 hF h0 hf ht hends
        go_enter Try.func19, Try.ntmps19
        go_wp2
        go_ret
        exact ⟨by rw [E.out]; rfl, Below.refl _ _⟩
end Go.Proofs.Ytlgnnfhnkfjafaa

