import Derived.Test.YtlgnnfhnkfjafaaHp33
/- The document's May of plans. -/
namespace Go.Proofs.Ytlgnnfhnkfjafaa
open Go.RowKit SpanMath ChartMath PlanMath
set_option maxRecDepth 100000
set_option linter.unusedSimpArgs false
set_option linter.unusedVariables false

set_option maxHeartbeats 16000000 in
theorem rplmay_of (l : List Rg) (ps : List Pl) (lv v : Value) (w : World) (hF : Cv w lv l) (hP : Rd plE w v ps) (hlen : l.length ≤ 1000000) (hpl : ps.length ≤ 1000000) : Calls Try.prog 10 #[lv, v] w fun e w' => e = .returned (.bool (planB l ps)) ∧ Below w.heap.size w w' := by
  obtain ⟨B, HB⟩ : ∃ B, Hid (B = planB l ps) := ⟨_, rfl⟩
  rw [← HB.out]
  have kc := rmay_of l lv w hF
  have HF : Hid (Cv w lv l) := hF
  have HP : Hid (Rd plE w v ps) := hP
  obtain ⟨po, pcap, rfl, -⟩ := id hP
  obtain ⟨ao, cap, rfl, h2⟩ := id hF
  have h2 : Hid _ := h2
  clear hP hF
  unfold planB at HB
  cases hm : mayC l with
  | false =>
    rw [hm] at kc HB
    have E : Hid (B = false) := by show _ = _; rw [HB.out]; simp
    clear HB hm HP HF h2
    go_enter Try.func10, Try.ntmps10
    go_wp2_with fail
    refine kc.mono ?_
    rintro e w1 ⟨rfl, hb1⟩
    go_wp2
    go_ret
    exact ⟨by first | (rw [E.out]; done) | (rw [E.out]; rfl), hb1⟩
  | true =>
    have HC : Hid (Chart l) := mayC_iff.1 hm
    rw [hm] at kc HB
    clear hm
    by_cases h1 : 1 < ps.length
    · have h1i : (1 : Int) < (ps.length : Int) := by omega
      have h1d : decide ((1 : Int) < (ps.length : Int)) = true := decide_eq_true h1i
      have E : Hid (B = false) := by show _ = _; rw [HB.out, decide_eq_false (by omega : ¬ ps.length ≤ 1)]; simp
      clear HB HP HF h2 h1
      go_enter Try.func10, Try.ntmps10
      go_wp2_with fail
      refine kc.mono ?_
      rintro e w1 ⟨rfl, hb1⟩
      go_wp2
      go_ret
      exact ⟨by first | (rw [E.out]; done) | (rw [E.out]; rfl), hb1⟩
    · have h1i : ¬ (1 : Int) < (ps.length : Int) := by omega
      have h1d : decide ((1 : Int) < (ps.length : Int)) = false := decide_eq_false h1i
      cases hps : ps with
      | nil =>
        subst hps
        have E : Hid (B = true) := by show _ = _; rw [HB.out]; simp
        clear HB HP HF h2 h1 h1i h1d hpl
        rw [show ([] : List Pl).length = 0 from rfl]
        go_enter Try.func10, Try.ntmps10
        go_wp2_with fail
        refine kc.mono ?_
        rintro e w1 ⟨rfl, hb1⟩
        go_wp2
        go_ret
        exact ⟨by first | (rw [E.out]; done) | (rw [E.out]; rfl), hb1⟩
      | cons p qs =>
        have hqs : qs = [] := by
          rw [hps, List.length_cons] at h1
          exact List.eq_nil_of_length_eq_zero (by omega)
        subst hqs
        subst hps
        obtain ⟨b, off, rfl, hc⟩ := pl_at HP.out (i := 0) (x := p) rfl
        have hcH : Hid (∀ W, Below w.heap.size w W → W.cell? ⟨b, off, none⟩ = some (.int .u64 (p.1 : Int)) ∧ W.cell? ⟨b, off + 1, none⟩ = some (.string (bk p.2.1.1)) ∧ W.cell? ⟨b, off + 2, none⟩ = some (.string (bk p.2.1.2)) ∧ W.cell? ⟨b, off + 3, none⟩ = some (.int .i64 p.2.2.1) ∧ W.cell? ⟨b, off + 4, none⟩ = some (.int .i64 p.2.2.2.1) ∧ W.cell? ⟨b, off + 5, none⟩ = some (.int .i64 p.2.2.2.2)) := fun W hW => by
          have h0 := hc W hW
          rw [Nat.zero_mul, Nat.add_zero] at h0
          exact h0
        replace HB : Hid (B = (okP p && goesB l p)) := by show _ = _; rw [HB.out]; simp
        clear hc HP h1 h1i h1d hpl
        rw [show ([p] : List Pl).length = 1 from rfl]
        have HG : Hid (∀ {i : Nat} {r : Rg}, l[i]? = some r → r.1 = p.2.1 → goesB l p = decide (r.2.1 = keeper p)) := fun h1 h2 => goes_at HC.out h1 h2
        have HN : Hid ((∀ k r, k < l.length → l[k]? = some r → r.1 ≠ p.2.1) → goesB l p = false) := fun h => by
          cases hg : goesB l p with
          | false => rfl
          | true =>
            obtain ⟨r, hr, h3, -⟩ := goes_iff.1 hg
            obtain ⟨k, hk⟩ := List.mem_iff_getElem?.1 hr
            exact absurd h3 (h k r (List.getElem?_eq_some_iff.1 hk).1 hk)
        obtain ⟨pi, ⟨s1, s2⟩, f, t, s⟩ := p
        dsimp only at hcH
        unfold okP at HB
        dsimp only at HB
        by_cases h : pi = 0
        · have d0 : ((pi : Int) == 0) = true := by simp [h]
          have E : Hid (B = false) := by show _ = _; rw [HB.out]; simp [h]
          clear HB HF h2 HC HG HN h
          go_enter Try.func10, Try.ntmps10
          go_wp2_with fail
          refine kc.mono ?_
          rintro e w1 ⟨rfl, hb1⟩
          obtain ⟨x0, x1, x2, x3, x4, x5⟩ := hcH.out w1 hb1
          obtain ⟨q1, q2, q3⟩ := one_box w1 (.cells #[.int .u64 (pi : Int), .string (bk s1), .string (bk s2), .int .i64 f, .int .i64 t, .int .i64 s] 45)
          obtain ⟨c0, c1, c2, c3, c4, c5⟩ := cells6p q2
          have hb2 : Hid (Below w.heap.size w (w1.alloc (.cells #[.int .u64 (pi : Int), .string (bk s1), .string (bk s2), .int .i64 f, .int .i64 t, .int .i64 s] 45))) := hb1.trans (q3.mono hb1.size)
          clear kc hb1 q1 q2 q3 hcH
          go_wp2
          go_ret
          exact ⟨by first | (rw [E.out]; done) | (rw [E.out]; rfl), hb2.out⟩
        · have d0 : ((pi : Int) == 0) = false := by simpa using h
          have n0 : Hid (¬ (pi = 0)) := h
          clear h
          by_cases h : f < 1
          · have d1 : decide (f < 1) = true := decide_eq_true h
            have E : Hid (B = false) := by show _ = _; rw [HB.out]; simp [gOk, decide_eq_false (by omega : ¬ 1 ≤ f)]
            clear HB HF h2 HC HG HN h
            go_enter Try.func10, Try.ntmps10
            go_wp2_with fail
            refine kc.mono ?_
            rintro e w1 ⟨rfl, hb1⟩
            obtain ⟨x0, x1, x2, x3, x4, x5⟩ := hcH.out w1 hb1
            obtain ⟨q1, q2, q3⟩ := one_box w1 (.cells #[.int .u64 (pi : Int), .string (bk s1), .string (bk s2), .int .i64 f, .int .i64 t, .int .i64 s] 45)
            obtain ⟨c0, c1, c2, c3, c4, c5⟩ := cells6p q2
            have hb2 : Hid (Below w.heap.size w (w1.alloc (.cells #[.int .u64 (pi : Int), .string (bk s1), .string (bk s2), .int .i64 f, .int .i64 t, .int .i64 s] 45))) := hb1.trans (q3.mono hb1.size)
            clear kc hb1 q1 q2 q3 hcH
            go_wp2
            go_ret
            exact ⟨by first | (rw [E.out]; done) | (rw [E.out]; rfl), hb2.out⟩
          · have d1 : decide (f < 1) = false := decide_eq_false h
            have n1 : Hid (¬ (f < 1)) := h
            clear h
            by_cases h : 16 < f
            · have d2 : decide (16 < f) = true := decide_eq_true h
              have E : Hid (B = false) := by show _ = _; rw [HB.out]; simp [gOk, decide_eq_false (by omega : ¬ f ≤ 16)]
              clear HB HF h2 HC HG HN h
              go_enter Try.func10, Try.ntmps10
              go_wp2_with fail
              refine kc.mono ?_
              rintro e w1 ⟨rfl, hb1⟩
              obtain ⟨x0, x1, x2, x3, x4, x5⟩ := hcH.out w1 hb1
              obtain ⟨q1, q2, q3⟩ := one_box w1 (.cells #[.int .u64 (pi : Int), .string (bk s1), .string (bk s2), .int .i64 f, .int .i64 t, .int .i64 s] 45)
              obtain ⟨c0, c1, c2, c3, c4, c5⟩ := cells6p q2
              have hb2 : Hid (Below w.heap.size w (w1.alloc (.cells #[.int .u64 (pi : Int), .string (bk s1), .string (bk s2), .int .i64 f, .int .i64 t, .int .i64 s] 45))) := hb1.trans (q3.mono hb1.size)
              clear kc hb1 q1 q2 q3 hcH
              go_wp2
              go_ret
              exact ⟨by first | (rw [E.out]; done) | (rw [E.out]; rfl), hb2.out⟩
            · have d2 : decide (16 < f) = false := decide_eq_false h
              have n2 : Hid (¬ (16 < f)) := h
              clear h
              by_cases h : t < 1
              · have d3 : decide (t < 1) = true := decide_eq_true h
                have E : Hid (B = false) := by show _ = _; rw [HB.out]; simp [gOk, decide_eq_false (by omega : ¬ 1 ≤ t)]
                clear HB HF h2 HC HG HN h
                go_enter Try.func10, Try.ntmps10
                go_wp2_with fail
                refine kc.mono ?_
                rintro e w1 ⟨rfl, hb1⟩
                obtain ⟨x0, x1, x2, x3, x4, x5⟩ := hcH.out w1 hb1
                obtain ⟨q1, q2, q3⟩ := one_box w1 (.cells #[.int .u64 (pi : Int), .string (bk s1), .string (bk s2), .int .i64 f, .int .i64 t, .int .i64 s] 45)
                obtain ⟨c0, c1, c2, c3, c4, c5⟩ := cells6p q2
                have hb2 : Hid (Below w.heap.size w (w1.alloc (.cells #[.int .u64 (pi : Int), .string (bk s1), .string (bk s2), .int .i64 f, .int .i64 t, .int .i64 s] 45))) := hb1.trans (q3.mono hb1.size)
                clear kc hb1 q1 q2 q3 hcH
                go_wp2
                go_ret
                exact ⟨by first | (rw [E.out]; done) | (rw [E.out]; rfl), hb2.out⟩
              · have d3 : decide (t < 1) = false := decide_eq_false h
                have n3 : Hid (¬ (t < 1)) := h
                clear h
                by_cases h : 16 < t
                · have d4 : decide (16 < t) = true := decide_eq_true h
                  have E : Hid (B = false) := by show _ = _; rw [HB.out]; simp [gOk, decide_eq_false (by omega : ¬ t ≤ 16)]
                  clear HB HF h2 HC HG HN h
                  go_enter Try.func10, Try.ntmps10
                  go_wp2_with fail
                  refine kc.mono ?_
                  rintro e w1 ⟨rfl, hb1⟩
                  obtain ⟨x0, x1, x2, x3, x4, x5⟩ := hcH.out w1 hb1
                  obtain ⟨q1, q2, q3⟩ := one_box w1 (.cells #[.int .u64 (pi : Int), .string (bk s1), .string (bk s2), .int .i64 f, .int .i64 t, .int .i64 s] 45)
                  obtain ⟨c0, c1, c2, c3, c4, c5⟩ := cells6p q2
                  have hb2 : Hid (Below w.heap.size w (w1.alloc (.cells #[.int .u64 (pi : Int), .string (bk s1), .string (bk s2), .int .i64 f, .int .i64 t, .int .i64 s] 45))) := hb1.trans (q3.mono hb1.size)
                  clear kc hb1 q1 q2 q3 hcH
                  go_wp2
                  go_ret
                  exact ⟨by first | (rw [E.out]; done) | (rw [E.out]; rfl), hb2.out⟩
                · have d4 : decide (16 < t) = false := decide_eq_false h
                  have n4 : Hid (¬ (16 < t)) := h
                  clear h
                  by_cases h : f = t
                  · have d5 : (f == t) = true := by simp [h]
                    have E : Hid (B = false) := by show _ = _; rw [HB.out]; simp [h]
                    clear HB HF h2 HC HG HN h
                    go_enter Try.func10, Try.ntmps10
                    go_wp2_with fail
                    refine kc.mono ?_
                    rintro e w1 ⟨rfl, hb1⟩
                    obtain ⟨x0, x1, x2, x3, x4, x5⟩ := hcH.out w1 hb1
                    obtain ⟨q1, q2, q3⟩ := one_box w1 (.cells #[.int .u64 (pi : Int), .string (bk s1), .string (bk s2), .int .i64 f, .int .i64 t, .int .i64 s] 45)
                    obtain ⟨c0, c1, c2, c3, c4, c5⟩ := cells6p q2
                    have hb2 : Hid (Below w.heap.size w (w1.alloc (.cells #[.int .u64 (pi : Int), .string (bk s1), .string (bk s2), .int .i64 f, .int .i64 t, .int .i64 s] 45))) := hb1.trans (q3.mono hb1.size)
                    clear kc hb1 q1 q2 q3 hcH
                    go_wp2
                    go_ret
                    exact ⟨by first | (rw [E.out]; done) | (rw [E.out]; rfl), hb2.out⟩
                  · have d5 : (f == t) = false := by simpa using h
                    have n5 : Hid (¬ (f = t)) := h
                    clear h
                    by_cases h : s < 1
                    · have d6 : decide (s < 1) = true := decide_eq_true h
                      have E : Hid (B = false) := by show _ = _; rw [HB.out]; simp [decide_eq_false (by omega : ¬ 1 ≤ s)]
                      clear HB HF h2 HC HG HN h
                      go_enter Try.func10, Try.ntmps10
                      go_wp2_with fail
                      refine kc.mono ?_
                      rintro e w1 ⟨rfl, hb1⟩
                      obtain ⟨x0, x1, x2, x3, x4, x5⟩ := hcH.out w1 hb1
                      obtain ⟨q1, q2, q3⟩ := one_box w1 (.cells #[.int .u64 (pi : Int), .string (bk s1), .string (bk s2), .int .i64 f, .int .i64 t, .int .i64 s] 45)
                      obtain ⟨c0, c1, c2, c3, c4, c5⟩ := cells6p q2
                      have hb2 : Hid (Below w.heap.size w (w1.alloc (.cells #[.int .u64 (pi : Int), .string (bk s1), .string (bk s2), .int .i64 f, .int .i64 t, .int .i64 s] 45))) := hb1.trans (q3.mono hb1.size)
                      clear kc hb1 q1 q2 q3 hcH
                      go_wp2
                      go_ret
                      exact ⟨by first | (rw [E.out]; done) | (rw [E.out]; rfl), hb2.out⟩
                    · have d6 : decide (s < 1) = false := decide_eq_false h
                      have n6 : Hid (¬ (s < 1)) := h
                      clear h
                      by_cases h : 5 < s
                      · have d7 : decide (5 < s) = true := decide_eq_true h
                        have E : Hid (B = false) := by show _ = _; rw [HB.out]; simp [decide_eq_false (by omega : ¬ s ≤ 5)]
                        clear HB HF h2 HC HG HN h
                        go_enter Try.func10, Try.ntmps10
                        go_wp2_with fail
                        refine kc.mono ?_
                        rintro e w1 ⟨rfl, hb1⟩
                        obtain ⟨x0, x1, x2, x3, x4, x5⟩ := hcH.out w1 hb1
                        obtain ⟨q1, q2, q3⟩ := one_box w1 (.cells #[.int .u64 (pi : Int), .string (bk s1), .string (bk s2), .int .i64 f, .int .i64 t, .int .i64 s] 45)
                        obtain ⟨c0, c1, c2, c3, c4, c5⟩ := cells6p q2
                        have hb2 : Hid (Below w.heap.size w (w1.alloc (.cells #[.int .u64 (pi : Int), .string (bk s1), .string (bk s2), .int .i64 f, .int .i64 t, .int .i64 s] 45))) := hb1.trans (q3.mono hb1.size)
                        clear kc hb1 q1 q2 q3 hcH
                        go_wp2
                        go_ret
                        exact ⟨by first | (rw [E.out]; done) | (rw [E.out]; rfl), hb2.out⟩
                      · have d7 : decide (5 < s) = false := decide_eq_false h
                        have n7 : Hid (¬ (5 < s)) := h
                        clear h
                        replace HB : Hid (B = goesB l (pi, (s1, s2), f, t, s)) := by
                          show _ = _
                          have a0 := n0.out
                          have a1 := n1.out
                          have a2 := n2.out
                          have a3 := n3.out
                          have a4 := n4.out
                          have a5 := n5.out
                          have a6 := n6.out
                          have a7 := n7.out
                          have e1 : gOk f = true := by simp [gOk]; omega
                          have e2 : gOk t = true := by simp [gOk]; omega
                          rw [HB.out, e1, e2, decide_eq_true a0, decide_eq_true a5, decide_eq_true (by omega : 1 ≤ s), decide_eq_true (by omega : s ≤ 5)]
                          simp
                        generalize goesB l (pi, (s1, s2), f, t, s) = G at *
                        clear n0 n1 n2 n3 n4 n5 n6 n7 HC
                        go_enter Try.func10, Try.ntmps10
                        go_wp2_with fail
                        refine kc.mono ?_
                        rintro e w1 ⟨rfl, hb1⟩
                        obtain ⟨x0, x1, x2, x3, x4, x5⟩ := hcH.out w1 hb1
                        obtain ⟨q1, q2, q3⟩ := one_box w1 (.cells #[.int .u64 (pi : Int), .string (bk s1), .string (bk s2), .int .i64 f, .int .i64 t, .int .i64 s] 45)
                        obtain ⟨c0, c1, c2, c3, c4, c5⟩ := cells6p q2
                        have hb2 : Below w.heap.size w (w1.alloc (.cells #[.int .u64 (pi : Int), .string (bk s1), .string (bk s2), .int .i64 f, .int .i64 t, .int .i64 s] 45)) := hb1.trans (q3.mono hb1.size)
                        have q2H : Hid ((w1.alloc (.cells #[.int .u64 (pi : Int), .string (bk s1), .string (bk s2), .int .i64 f, .int .i64 t, .int .i64 s] 45)).heap[w1.heap.size]? = some (.cells #[.int .u64 (pi : Int), .string (bk s1), .string (bk s2), .int .i64 f, .int .i64 t, .int .i64 s] 45 (0, 0))) := q2
                        have hb2H : Hid (Below w.heap.size w (w1.alloc (.cells #[.int .u64 (pi : Int), .string (bk s1), .string (bk s2), .int .i64 f, .int .i64 t, .int .i64 s] 45))) := hb2
                        have hb1H : Hid (Below w.heap.size w w1) := hb1
                        clear kc hb1 q1 q2 q3 hcH hb2
                        go_wp2
                        go_loopg [6] (l.length + 1) (fun g s6 wr => ∃ i : Nat, i + g = l.length + 1 ∧ s6 = .int .i64 (i : Int) ∧ Below (w1.alloc (.cells #[.int .u64 (pi : Int), .string (bk s1), .string (bk s2), .int .i64 f, .int .i64 t, .int .i64 s] 45)).heap.size (w1.alloc (.cells #[.int .u64 (pi : Int), .string (bk s1), .string (bk s2), .int .i64 f, .int .i64 t, .int .i64 s] 45)) wr ∧ Hid (∀ k r, k < i → l[k]? = some r → r.1 ≠ (s1, s2)))
                        case atStart => exact ⟨0, by simp, rfl, Below.refl _ _, fun k r h => absurd h (Nat.not_lt_zero _)⟩
                        case round =>
                          clear x0 x1 x2 x3 x4 x5 c0 c1 c2 c3 c4 c5
                          obtain ⟨i, hig, rfl, hb, HD⟩ := hrel
                          have hbw : Hid (Below w.heap.size w wr) := hb2H.out.trans (hb.mono hb2H.out.size)
                          obtain ⟨c0, c1, c2, c3, c4, c5⟩ := cells6p ((hb.block _ (Array.getElem?_eq_some_iff.1 q2H.out).1).trans q2H.out)
                          by_cases hlt : i < l.length
                          · have hlti : (i : Int) < (l.length : Int) := by omega
                            have hltd : decide ((i : Int) < (l.length : Int)) = true := decide_eq_true hlti
                            have j1 : (0 : Int) ≤ (i : Int) := by omega
                            have hx : l[i]? = some l[i] := List.getElem?_eq_getElem hlt
                            obtain ⟨b', off', rfl, u0, u1, u2, u3⟩ := h2.out i l[i] hx
                            obtain ⟨r, hr⟩ : ∃ s, s = l[i] := ⟨_, rfl⟩
                            rw [← hr] at hx u0 u1 u2 u3
                            have HIG : Hid (i + gk = l.length + 1 ∧ i < l.length) := ⟨hig, hlt⟩
                            have hlb := World.block_lt_of_cell? w _ u0
                            have y0 := (hbw.out.cell (p := ⟨b', off' + i * 4, none⟩) hlb).trans u0
                            have y1 := (hbw.out.cell (p := ⟨b', off' + i * 4 + 1, none⟩) hlb).trans u1
                            have y2 := (hbw.out.cell (p := ⟨b', off' + i * 4 + 2, none⟩) hlb).trans u2
                            have HX : Hid (r.1 = (s1, s2) → G = decide (r.2.1 = keeper (pi, (s1, s2), f, t, s))) := fun h => HG.out hx h
                            have HXN : Hid (r.1 ≠ (s1, s2) → ∀ k r, k < i + 1 → l[k]? = some r → r.1 ≠ (s1, s2)) := fun h k r' hk hr' => by
                              by_cases he : k = i
                              · subst he
                                rw [hx] at hr'
                                cases hr'
                                exact h
                              · exact HD.out k r' (by omega) hr'
                            obtain ⟨⟨r1, r2⟩, gr, ep⟩ := r
                            dsimp only at y0 y1 y2 HX HXN
                            clear hx hr u0 u1 u2 u3 hlb HD HG HN HF h2 hig hlt
                            cases hsq : (decide (r1 = s1) && decide (r2 = s2)) with
                            | false =>
                              have hne : ((r1, r2) : Sp) ≠ (s1, s2) := by
                                intro e
                                cases e
                                simp at hsq
                              have HY : Hid _ := HXN.out hne
                              clear HX HXN hne
                              go_wp2
                              go_quiet (fail)
                              go_wp2
                              go_roundg (gk - 1)
                              case measure => have := HIG.out; omega
                              case rel => exact ⟨i + 1, by have := HIG.out; omega, by have := HIG.out; go_num, (by first | exact hb | exact below_drewN hb _), HY⟩
                            | true =>
                              have heq : ((r1, r2) : Sp) = (s1, s2) := by
                                simp only [Bool.and_eq_true, decide_eq_true_eq] at hsq
                                rw [hsq.1, hsq.2]
                              have E := HX.out heq
                              unfold keeper at E
                              dsimp only at E
                              by_cases h3 : 3 < s
                              · have d8 : decide (s ≤ 3) = false := decide_eq_false (by omega)
                                rw [if_pos h3] at E
                                have E : Hid (B = decide (gr = t)) := by show _ = _; rw [HB.out, E]
                                clear HX HXN heq HB h3
                                by_cases hg : gr = t
                                · have hgd : (gr == t) = true := by simp [hg]
                                  have E2 : Hid (B = true) := by show _ = _; rw [E.out]; simp [hg]
                                  clear E hg
                                  go_wp2
                                  go_quiet (fail)
                                  go_wp2
                                  go_quiet (fail)
                                  go_wp2
                                  go_ret
                                  exact ⟨by first | (rw [E2.out]; done) | (rw [E2.out]; rfl), (by first | exact hbw.out | exact below_drewN (below_drewN hbw.out _) _ | exact below_drewN hbw.out _)⟩
                                · have hgd : (gr == t) = false := by simpa using hg
                                  have E2 : Hid (B = false) := by show _ = _; rw [E.out]; simp [hg]
                                  clear E hg
                                  go_wp2
                                  go_quiet (fail)
                                  go_wp2
                                  go_quiet (fail)
                                  go_wp2
                                  go_ret
                                  exact ⟨by first | (rw [E2.out]; done) | (rw [E2.out]; rfl), (by first | exact hbw.out | exact below_drewN (below_drewN hbw.out _) _ | exact below_drewN hbw.out _)⟩
                              · have d8 : decide (s ≤ 3) = true := decide_eq_true (by omega)
                                rw [if_neg h3] at E
                                have E : Hid (B = decide (gr = f)) := by show _ = _; rw [HB.out, E]
                                clear HX HXN heq HB h3
                                by_cases hg : gr = f
                                · have hgd : (gr == f) = true := by simp [hg]
                                  have E2 : Hid (B = true) := by show _ = _; rw [E.out]; simp [hg]
                                  clear E hg
                                  go_wp2
                                  go_quiet (fail)
                                  go_wp2
                                  go_quiet (fail)
                                  go_wp2
                                  go_ret
                                  exact ⟨by first | (rw [E2.out]; done) | (rw [E2.out]; rfl), (by first | exact hbw.out | exact below_drewN (below_drewN hbw.out _) _ | exact below_drewN hbw.out _)⟩
                                · have hgd : (gr == f) = false := by simpa using hg
                                  have E2 : Hid (B = false) := by show _ = _; rw [E.out]; simp [hg]
                                  clear E hg
                                  go_wp2
                                  go_quiet (fail)
                                  go_wp2
                                  go_quiet (fail)
                                  go_wp2
                                  go_ret
                                  exact ⟨by first | (rw [E2.out]; done) | (rw [E2.out]; rfl), (by first | exact hbw.out | exact below_drewN (below_drewN hbw.out _) _ | exact below_drewN hbw.out _)⟩
                          · have hlti : ¬ (i : Int) < (l.length : Int) := by omega
                            have hltd : decide ((i : Int) < (l.length : Int)) = false := decide_eq_false hlti
                            have E : Hid (B = false) := by show _ = _; rw [HB.out]; exact HN.out fun k r hk hr => HD.out k r (by omega) hr
                            clear HB HD HG HN HF h2 hb
                            go_wp2
                            go_ret
                            exact ⟨by first | (rw [E.out]; done) | (rw [E.out]; rfl), hbw.out⟩
end Go.Proofs.Ytlgnnfhnkfjafaa

