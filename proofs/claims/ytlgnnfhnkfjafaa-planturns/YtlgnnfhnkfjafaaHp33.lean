import Derived.Test.YtlgnnfhnkfjafaaHp32
/- goesWith, Check of plan. -/
namespace Go.Proofs.Ytlgnnfhnkfjafaa
open Go.RowKit SpanMath ChartMath PlanMath
set_option maxRecDepth 100000
set_option linter.unusedSimpArgs false
set_option linter.unusedVariables false

set_option maxHeartbeats 4000000 in
theorem goesWith_of (l : List Rg) (lv : Value) (p : Pl) (w : World) (hF : Cv w lv l) (hlen : l.length ≤ 1000000) : Calls Try.prog 27 #[lv, pv p] w fun e w' => e = .returned (.bool (goesB l p)) ∧ Below w.heap.size w w' := by
  have KG : Hid (∀ {a b : Nat} {q : Int} W, Below w.heap.size w W → W.heap[a]? = some (.cells (pcs p) 45 (0, 0)) → W.heap[b]? = some (.cells #[.int .i64 q] 3 (0, 0)) → _) := fun {a b q} W hW ha hb => gcontains_of (hF.below hW) ha hb hlen
  rw [show goesB l p = l.any (goP p (keeper p)) from rfl]
  unfold keeper
  obtain ⟨i, ⟨s1, s2⟩, f, t, s⟩ := p
  dsimp only [pv, pcs] at *
  obtain ⟨ao, cap, rfl, -⟩ := id hF
  obtain ⟨q1, q2, q3⟩ := one_box w (.cells #[.int .u64 (i : Int), .string (bk s1), .string (bk s2), .int .i64 f, .int .i64 t, .int .i64 s] 45)
  obtain ⟨w0, hw0⟩ : ∃ W, w.alloc (.cells #[.int .u64 (i : Int), .string (bk s1), .string (bk s2), .int .i64 f, .int .i64 t, .int .i64 s] 45) = W := ⟨_, rfl⟩
  rw [hw0] at q1 q2 q3
  obtain ⟨c0, c1, c2, c3, c4, c5⟩ := cells6p q2
  obtain ⟨r1, r2, r3⟩ := one_box w0 (.cells #[.int .i64 f] 3)
  have x2 := (r3.block w.heap.size (by omega)).trans q2
  obtain ⟨d0, d1, d2, d3, d4, d5⟩ := cells6p x2
  have e0 : (w0.alloc (.cells #[.int .i64 f] 3)).cell? ⟨w0.heap.size, 0, none⟩ = some (.int .i64 f) := by rw [cells_of_block r2]; rfl
  have g0 : (w0.alloc (.cells #[.int .i64 f] 3)).frozen? ⟨w0.heap.size, 0, none⟩ = false := frozen_of r2 0
  by_cases h : 3 < s
  · have hd : decide (3 < s) = true := decide_eq_true h
    rw [if_pos h]
    obtain ⟨t1, t2, t3⟩ := one_box w0 (.cells #[.int .i64 t] 3)
    have y2 := (t3.block w.heap.size (by omega)).trans q2
    have hB := q3.trans (t3.mono (by omega))
    have k1 := KG.out _ hB y2 t2
    have hn : Hid (w.heap.size ≤ (w0.alloc (.cells #[.int .i64 t] 3)).heap.size) := hB.size
    clear KG hF q1 q2 q3 r1 r2 r3 x2 t1 t2 t3 y2
    go_enter Try.func27, Try.ntmps27
    go_wp2_with fail
    refine k1.mono ?_
    rintro e w1 ⟨rfl, hbc⟩
    go_wp2
    go_ret
    exact ⟨rfl, hB.trans (hbc.mono hn.out)⟩
  · have hd : decide (3 < s) = false := decide_eq_false h
    rw [if_neg h]
    have hB := q3.trans (r3.mono (by omega))
    have k1 := KG.out _ hB x2 r2
    have hn : Hid (w.heap.size ≤ (w0.alloc (.cells #[.int .i64 f] 3)).heap.size) := hB.size
    clear KG hF q1 q2 q3 r1 r2 r3 x2
    go_enter Try.func27, Try.ntmps27
    go_wp2_with fail
    refine k1.mono ?_
    rintro e w1 ⟨rfl, hbc⟩
    go_wp2
    go_ret
    exact ⟨rfl, hB.trans (hbc.mono hn.out)⟩
theorem pl_at {w : World} {ao : Option Addr} {n cap : Nat} {xs : List Pl} (h : Rd plE w (.slice ao n cap) xs) {i : Nat} {x : Pl} (hx : xs[i]? = some x) : ∃ b off, ao = some ⟨b, off, none⟩ ∧ ∀ W, Below w.heap.size w W → W.cell? ⟨b, off + i * 6, none⟩ = some (.int .u64 (x.1 : Int)) ∧ W.cell? ⟨b, off + i * 6 + 1, none⟩ = some (.string (bk x.2.1.1)) ∧ W.cell? ⟨b, off + i * 6 + 2, none⟩ = some (.string (bk x.2.1.2)) ∧ W.cell? ⟨b, off + i * 6 + 3, none⟩ = some (.int .i64 x.2.2.1) ∧ W.cell? ⟨b, off + i * 6 + 4, none⟩ = some (.int .i64 x.2.2.2.1) ∧ W.cell? ⟨b, off + i * 6 + 5, none⟩ = some (.int .i64 x.2.2.2.2) := by
  obtain ⟨ao', cap', e, _, _, h2⟩ := h
  cases e
  obtain ⟨b, off, r1, a0⟩ := h2 i x 0 _ hx rfl
  have get : ∀ j u, (plE.enc x)[j]? = some u → w.cell? ⟨b, off + (i * 6 + j), none⟩ = some u := fun j u hu => by
    obtain ⟨b', off', r3, r4⟩ := h2 i x j u hx hu
    cases r1.symm.trans r3
    exact r4
  have up : ∀ W, Below w.heap.size w W → ∀ j u, (plE.enc x)[j]? = some u → W.cell? ⟨b, off + (i * 6 + j), none⟩ = some u := fun W hW j u hu => (hW.cell (p := ⟨b, off + (i * 6 + j), none⟩) (World.block_lt_of_cell? w _ (get j u hu))).trans (get j u hu)
  exact ⟨b, off, r1, fun W hW => ⟨up W hW 0 _ rfl, up W hW 1 _ rfl, up W hW 2 _ rfl, up W hW 3 _ rfl, up W hW 4 _ rfl, up W hW 5 _ rfl⟩⟩
set_option maxHeartbeats 8000000 in
theorem plcheck_of (l : List Rg) (ps : List Pl) (lv v : Value) (w : World) (hF : Cv w lv l) (hP : Rd plE w v ps) (hlen : l.length ≤ 1000000) (hpl : ps.length ≤ 1000000) : Calls Try.prog 9 #[lv, v] w fun e w' => e = .returned (.int .i64 (if planB l ps then 0 else 1)) ∧ Below w.heap.size w w' := by
  obtain ⟨B, HB⟩ : ∃ B : Int, Hid (B = if planB l ps then 0 else 1) := ⟨_, rfl⟩
  rw [← HB.out]
  have kc := ccheck_of l lv w hF
  have km : Hid (∀ p W, _) := fun p W => pmay_of p W
  have kg : Hid (∀ p W, Below w.heap.size w W → _) := fun p W hW => goesWith_of l lv p W (hF.below hW) hlen
  have HP : Hid (Rd plE w v ps) := hP
  obtain ⟨po, pcap, rfl, -⟩ := id hP
  obtain ⟨ao, cap, rfl, -⟩ := id hF
  clear hP hF
  unfold planB at HB
  cases hm : mayC l with
  | false =>
    rw [hm] at kc HB
    have E : Hid (B = 1) := by show _ = _; rw [HB.out]; simp
    simp only [Bool.false_eq_true, if_false] at kc
    clear HB hm km kg HP
    go_enter Try.func9, Try.ntmps9
    go_wp2_with fail
    refine kc.mono ?_
    rintro e w1 ⟨rfl, hb1⟩
    go_wp2
    go_ret
    exact ⟨by first | (rw [E.out]; done) | (rw [E.out]; rfl), hb1⟩
  | true =>
    rw [hm] at kc HB
    simp only [if_true] at kc
    clear hm
    by_cases h1 : 1 < ps.length
    · have h1i : (1 : Int) < (ps.length : Int) := by omega
      have h1d : decide ((1 : Int) < (ps.length : Int)) = true := decide_eq_true h1i
      have E : Hid (B = 1) := by show _ = _; rw [HB.out, decide_eq_false (by omega : ¬ ps.length ≤ 1)]; simp
      clear HB km kg HP h1 hpl
      go_enter Try.func9, Try.ntmps9
      go_wp2_with fail
      refine kc.mono ?_
      rintro e w1 ⟨rfl, hb1⟩
      go_wp2
      go_ret
      exact ⟨by first | (rw [E.out]; done) | (rw [E.out]; rfl), hb1⟩
    · have h1i : ¬ (1 : Int) < (ps.length : Int) := by omega
      have h1d : decide ((1 : Int) < (ps.length : Int)) = false := decide_eq_false h1i
      rw [decide_eq_true (by omega : ps.length ≤ 1), Bool.and_true, Bool.true_and] at HB
      replace HB : Hid (B = if (ps.all fun p => okP p && goesB l p) = true then 0 else 1) := HB
      clear h1 h1i
      go_enter Try.func9, Try.ntmps9
      go_wp2_with fail
      refine kc.mono ?_
      rintro e w1 ⟨rfl, hb1⟩
      clear kc
      go_wp2
      go_loopg [17] ps.length (fun g s17 wr => ∃ i : Nat, i + g = ps.length ∧ s17 = .int .i64 (i : Int) ∧ Below w.heap.size w wr ∧ Hid (((ps.drop i).all fun p => okP p && goesB l p) = ps.all fun p => okP p && goesB l p))
      case atStart => exact ⟨0, by simp, rfl, hb1, rfl⟩
      case round =>
        clear h1d hb1
        obtain ⟨i, hig, rfl, hb, HD⟩ := hrel
        by_cases hlt : i < ps.length
        · have hlti : (i : Int) < (ps.length : Int) := by omega
          have hx : ps[i]? = some ps[i] := List.getElem?_eq_getElem hlt
          obtain ⟨p, hp⟩ : ∃ s, s = ps[i] := ⟨_, rfl⟩
          rw [← hp] at hx
          obtain ⟨b, off, rfl, hc⟩ := pl_at HP.out hx
          obtain ⟨x0, x1, x2, x3, x4, x5⟩ := hc wr hb
          have HD2 : Hid ((okP p && goesB l p && (ps.drop (i + 1)).all fun p => okP p && goesB l p) = ps.all fun p => okP p && goesB l p) := by
            show _ = _
            rw [← HD.out, List.drop_eq_getElem_cons hlt, List.all_cons, ← hp]
          have HIG : Hid (i + gk = ps.length ∧ i < ps.length ∧ ps.length ≤ 1000000) := ⟨hig, hlt, hpl⟩
          have k1 := km.out p
          have k2 := kg.out p
          obtain ⟨q1, q2, q3⟩ := one_box wr (.cells (pcs p) 45)
          have hb2 := hb.trans (q3.mono hb.size)
          have hbH : Hid (Below w.heap.size w (wr.alloc (.cells (pcs p) 45))) := hb2
          generalize okP p = o at *
          generalize goesB l p = z at *
          obtain ⟨pi, ⟨s1, s2⟩, f, t, s⟩ := p
          dsimp only [pcs, pv] at *
          obtain ⟨c0, c1, c2, c3, c4, c5⟩ := cells6p q2
          have q2H : Hid _ := q2
          clear hp hx hc HD hlt hig q1 q2 q3 hb2
          cases o with
          | false =>
            have E : Hid (B = 1) := by show _ = _; rw [HB.out, ← HD2.out]; simp
            clear k2 HB HD2
            go_wp2_with fail
            refine (k1 _).mono ?_
            rintro e w2 ⟨rfl, hbc⟩
            clear k1
            go_wp2
            go_ret
            exact ⟨by first | (rw [E.out]; done) | (rw [E.out]; rfl), hbH.out.trans (hbc.mono hbH.out.size)⟩
          | true =>
            go_wp2_with fail
            refine (k1 _).mono ?_
            rintro e w2 ⟨rfl, hbc⟩
            have P2 := (hbc.block wr.heap.size (Array.getElem?_eq_some_iff.1 q2H.out).1).trans q2H.out
            have hb3 := hbH.out.trans (hbc.mono hbH.out.size)
            obtain ⟨c0, c1, c2, c3, c4, c5⟩ := cells6p P2
            have k3 := k2 w2 hb3
            clear k1 k2 hbc P2 q2H
            cases z with
            | false =>
              have E : Hid (B = 1) := by show _ = _; rw [HB.out, ← HD2.out]; simp
              clear HB HD2
              go_wp2_with fail
              refine k3.mono ?_
              rintro e w3 ⟨rfl, hbc⟩
              go_wp2
              go_ret
              exact ⟨by first | (rw [E.out]; done) | (rw [E.out]; rfl), hb3.trans (hbc.mono hb3.size)⟩
            | true =>
              go_wp2_with fail
              refine k3.mono ?_
              rintro e w3 ⟨rfl, hbc⟩
              have hb4 := hb3.trans (hbc.mono hb3.size)
              clear k3 hbc hb3
              go_wp2
              go_roundg (gk - 1)
              case measure => have := HIG.out; omega
              case rel => exact ⟨i + 1, by have := HIG.out; omega, by have := HIG.out; go_num, hb4, by show _ = _; rw [← HD2.out]; simp⟩
        · have hlti : ¬ (i : Int) < (ps.length : Int) := by omega
          have E : Hid (B = 0) := by show _ = _; rw [HB.out, ← HD.out, List.drop_eq_nil_of_le (by omega)]; simp
          clear HD HB HP km kg
          go_wp2
          go_ret
          exact ⟨by first | (rw [E.out]; done) | (rw [E.out]; rfl), hb⟩
end Go.Proofs.Ytlgnnfhnkfjafaa

