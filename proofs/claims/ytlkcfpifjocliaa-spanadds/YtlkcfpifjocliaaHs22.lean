import Derived.Test.YtlkcfpifjocliaaHs21
/- The document's own places and Same; the law's told. -/
namespace Go.Proofs.Ytlkcfpifjocliaa
open Go.RowKit SpanMath
set_option maxRecDepth 100000
set_option linter.unusedSimpArgs false
set_option linter.unusedVariables false

theorem ins_len (s : K) : ∀ l : List K, (ins l s).length ≤ l.length + 1 ∧ 0 < (ins l s).length
  | [] => by simp [ins]
  | x :: l => by
    have := ins_len s l
    unfold ins
    split
    · simp; omega
    · split <;> simp
theorem plc_take {l : List Sp} {i : Nat} {x : Sp} (h : l[i]? = some x) : plc (l.take (i + 1)) = ins (ins (plc (l.take i)) x.1) x.2 := by
  rw [take_succ_get h]
  simp [plc, List.foldl_append]
theorem plc_len : ∀ (l : List Sp), (plc l).length ≤ 1 + 2 * l.length ∧ 0 < (plc l).length := by
  have main : ∀ (l : List Sp) (p : List K), 0 < p.length → (l.foldl (fun p s => ins (ins p s.1) s.2) p).length ≤ p.length + 2 * l.length ∧ 0 < (l.foldl (fun p s => ins (ins p s.1) s.2) p).length := by
    intro l
    induction l with
    | nil => intro p hp; simp; exact hp
    | cons x l ih =>
      intro p hp
      have h1 := ins_len x.1 p
      have h2 := ins_len x.2 (ins p x.1)
      have h3 := ih (ins (ins p x.1) x.2) h2.2
      rw [List.foldl_cons, List.length_cons]
      omega
  intro l
  exact main l [[]] (by simp)

set_option maxHeartbeats 4000000 in
theorem places_of (l : List Sp) (lv : Value) (w : World) (hF : Sv w lv l) (hlen : l.length ≤ 200) : Calls Try.prog 29 #[lv] w fun e w' => ∃ v, e = .returned v ∧ Rd strE w' v (plc l) ∧ Below w.heap.size w w' := by
  obtain ⟨ao, cap, rfl, h2⟩ := id hF
  obtain ⟨P, HP⟩ : ∃ P, Hid (P = plc l) := ⟨_, rfl⟩
  rw [← HP.out]
  obtain ⟨hs0, g0, hb0⟩ := one_box w (.cells #[.string { data := #[] }] 9)
  have hR0 : Rd strE (w.alloc (.cells #[.string { data := #[] }] 9)) (.slice (some ⟨w.heap.size, 0, none⟩) 1 1) [[]] := (Rk.made (E := strE) (xs := [[]]) g0 rfl (by unfold maxLen; simp)).rd
  go_enter Try.func29, Try.ntmps29
  go_wp2
  go_loopg [3, 4] l.length (fun g s3 s4 wr => ∃ (i : Nat) (pv : Value), i + g = l.length ∧ s4 = .int .i64 (i : Int) ∧ pv = s3 ∧ Rd strE wr pv (plc (l.take i)) ∧ Below w.heap.size w wr)
  case atStart => exact ⟨0, _, by simp, rfl, rfl, hR0, hb0⟩
  case round =>
    obtain ⟨i, pv, hig, rfl, rfl, hR, hb⟩ := hrel
    clear hR0 hb0 g0 hs0
    by_cases hlt : i < l.length
    · have hlti : (i : Int) < (l.length : Int) := by omega
      have hx : l[i]? = some l[i] := List.getElem?_eq_getElem hlt
      obtain ⟨b, off, rfl, d0, d1⟩ := h2 i l[i] hx
      obtain ⟨x, hs⟩ : ∃ s, s = l[i] := ⟨_, rfl⟩
      rw [← hs] at hx d0 d1
      have HT : Hid (plc (l.take (i + 1)) = ins (ins (plc (l.take i)) x.1) x.2) := plc_take hx
      obtain ⟨x1, x2⟩ := x
      have c0 := (hb.cell (p := ⟨b, off + i * 2, none⟩) (World.block_lt_of_cell? w _ d0)).trans d0
      have cl1 : ∀ W, Below w.heap.size w W → W.cell? ⟨b, off + i * 2 + 1, none⟩ = some (.string (bk x2)) := fun W hW => (hW.cell (p := ⟨b, off + i * 2 + 1, none⟩) (World.block_lt_of_cell? w _ d1)).trans d1
      obtain ⟨hl1, hl2⟩ := plc_len (l.take i)
      rw [List.length_take] at hl1
      obtain ⟨hl3, hl4⟩ := ins_len x1 (plc (l.take i))
      have k1 := insert_of (plc (l.take i)) pv x1 wr hR hl2 (by omega)
      have k2 := fun W v (h : Rd strE W v (ins (plc (l.take i)) x1)) => insert_of (ins (plc (l.take i)) x1) v x2 W h hl4 (by omega)
      obtain ⟨ap, cp, hpv, -⟩ := id hR
      generalize plc (l.take i) = A at *
      clear hx hs d0 d1 hR hl1 hl3 h2 hF
      generalize ins A x1 = A1 at *
      subst hpv
      go_wp2_with fail
      refine k1.mono ?_
      rintro e w1 ⟨v1, rfl, hR1, hb1⟩
      have hbw1 := hb.trans (hb1.mono hb.size)
      have c1 := cl1 w1 hbw1
      have k3 := k2 w1 v1 hR1
      obtain ⟨a1, p1, hv1, -⟩ := id hR1
      subst hv1
      clear k1 k2 c0 hR1
      go_wp2_with fail
      refine k3.mono ?_
      rintro e w2 ⟨v2, rfl, hR2, hb2⟩
      clear k3 c1
      go_wp2
      go_roundg (gk - 1)
      case measure => omega
      case rel => exact ⟨i + 1, v2, by omega, by go_num, rfl, by rw [HT.out]; exact hR2, hbw1.trans (hb2.mono hbw1.size)⟩
    · have hlti : ¬ (i : Int) < (l.length : Int) := by omega
      obtain rfl : i = l.length := by omega
      rw [List.take_length, ← HP.out] at hR
      clear HP h2 hF
      go_wp2
      go_ret
      exact ⟨_, rfl, hR, hb⟩

set_option maxHeartbeats 4000000 in
theorem same_of (l m : List Sp) (lv mv : Value) (w : World) (hF : Sv w lv l) (hG : Sv w mv m) (hlen : l.length ≤ 1000000) : Calls Try.prog 35 #[lv, mv] w fun e w' => e = .returned (.bool (decide (l = m))) ∧ Below w.heap.size w w' := by
  obtain ⟨ao, cap, rfl, h2⟩ := id hF
  obtain ⟨am, cm, rfl, h3⟩ := id hG
  obtain ⟨B, HB⟩ : ∃ B, Hid (B = decide (l = m)) := ⟨_, rfl⟩
  rw [← HB.out]
  by_cases hl : l.length = m.length
  · have HL : Hid (l.length = m.length) := hl
    rw [← HL.out]
    clear hl
    go_enter Try.func35, Try.ntmps35
    go_wp2
    go_loopg [5] l.length (fun g s5 wr => ∃ i : Nat, i + g = l.length ∧ s5 = .int .i64 (i : Int) ∧ Hid (l.take i = m.take i) ∧ Below w.heap.size w wr)
    case atStart => exact ⟨0, by simp, rfl, by show _ = _; simp, Below.refl _ _⟩
    case round =>
      obtain ⟨i, hig, rfl, HP, hb⟩ := hrel
      by_cases hlt : i < l.length
      · have hlti : (i : Int) < (l.length : Int) := by omega
        have hx : l[i]? = some l[i] := List.getElem?_eq_getElem hlt
        have hy : m[i]? = some (m[i]'(by rw [← HL.out]; exact hlt)) := List.getElem?_eq_getElem _
        obtain ⟨b, off, rfl, d0, d1⟩ := h2 i _ hx
        obtain ⟨b', off', rfl, f0, f1⟩ := h3 i _ hy
        obtain ⟨x, hs⟩ : ∃ s, s = l[i] := ⟨_, rfl⟩
        rw [← hs] at hx d0 d1
        obtain ⟨y, hs'⟩ : ∃ s, s = m[i]'(by rw [← HL.out]; exact hlt) := ⟨_, rfl⟩
        rw [← hs'] at hy f0 f1
        obtain ⟨x1, x2⟩ := x
        obtain ⟨y1, y2⟩ := y
        have c0 := (hb.cell (p := ⟨b, off + i * 2, none⟩) (World.block_lt_of_cell? w _ d0)).trans d0
        have c1 := (hb.cell (p := ⟨b, off + i * 2 + 1, none⟩) (World.block_lt_of_cell? w _ d1)).trans d1
        have c2 := (hb.cell (p := ⟨b', off' + i * 2, none⟩) (World.block_lt_of_cell? w _ f0)).trans f0
        have c3 := (hb.cell (p := ⟨b', off' + i * 2 + 1, none⟩) (World.block_lt_of_cell? w _ f1)).trans f1
        by_cases he : ((x1, x2) : Sp) = (y1, y2)
        · have HN : Hid (l.take (i + 1) = m.take (i + 1)) := by show _ = _; rw [take_succ_get hx, take_succ_get hy, HP.out, he]
          have e1 : decide (x1 = y1) = true := by cases he; simp
          have e2 : decide (x2 = y2) = true := by cases he; simp
          clear hx hy hs hs' d0 d1 f0 f1 h2 h3 hF hG HP he HB
          go_wp2
          go_quiet (fail)
          go_wp2
          go_roundg (gk - 1)
          case measure => omega
          case rel => exact ⟨i + 1, by omega, by go_num, HN, below_drewN hb nq⟩
        · have E : Hid (B = false) := by
            show _ = _
            rw [HB.out]
            refine decide_eq_false fun e => he ?_
            rw [e, hy] at hx
            exact (Option.some.inj hx).symm
          have e12 : (decide (x1 = y1) && decide (x2 = y2)) = false := by
            rw [Bool.eq_false_iff]
            intro h
            simp only [Bool.and_eq_true, decide_eq_true_eq] at h
            exact he (by rw [h.1, h.2])
          clear hx hy hs hs' d0 d1 f0 f1 h2 h3 hF hG HP he HB
          by_cases e1 : x1 = y1
          · have d1 : decide (x1 = y1) = true := by simpa using e1
            rw [d1, Bool.true_and] at e12
            clear e1
            go_wp2
            go_quiet (fail)
            go_wp2
            go_ret
            exact ⟨by rw [E.out]; rfl, below_drewN hb nq⟩
          · have d1 : decide (x1 = y1) = false := by simpa using e1
            clear e1 e12
            go_wp2
            go_quiet (fail)
            go_wp2
            go_ret
            exact ⟨by rw [E.out]; rfl, below_drewN hb nq⟩
      · have hlti : ¬ (i : Int) < (l.length : Int) := by omega
        obtain rfl : i = l.length := by omega
        have E : Hid (B = true) := by
          show _ = _
          rw [HB.out]
          refine decide_eq_true ?_
          have := HP.out
          rw [List.take_length, List.take_of_length_le (by rw [HL.out]; exact Nat.le_refl _)] at this
          exact this
        clear HB h2 h3 hF hG HP
        go_wp2
        go_ret
        exact ⟨by rw [E.out]; rfl, hb⟩
  · have E : Hid (B = false) := by show _ = _; rw [HB.out]; exact decide_eq_false fun e => hl (by rw [e])
    have hlib : ((l.length : Int) == (m.length : Int)) = false := by simpa using fun h => hl (by omega)
    have hli : ¬ (l.length : Int) = (m.length : Int) := by omega
    clear HB h2 h3 hF hG
    go_enter Try.func35, Try.ntmps35
    go_wp2
    go_ret
    exact ⟨by rw [E.out]; rfl, Below.refl _ _⟩

set_option maxHeartbeats 2000000 in
/-- told says yes to what Add and Less tell. -/
theorem told_of {m : List Sp} {v mv : Value} {c : Int} {w : World} (hR : ResT true m v c w) (hG : Rd spE w mv m) (hlen : m.length ≤ 1000) : Calls Try.prog 21 #[v, .int .i64 c, mv] w fun e w' => e = .returned (.bool true) ∧ Below w.heap.size w w' := by
  unfold ResT at hR
  rw [if_neg (by decide)] at hR
  obtain ⟨am, cm, rfl, -⟩ := id hG
  by_cases h64 : 64 < m.length
  · rw [if_pos h64] at hR
    obtain ⟨rfl, rfl⟩ := hR
    have hi : (64 : Int) < (m.length : Int) := by omega
    clear hG
    go_enter Try.func21, Try.ntmps21
    go_wp2
    go_ret
    exact ⟨rfl, Below.refl _ _⟩
  · rw [if_neg h64] at hR
    obtain ⟨rfl, hRd⟩ := hR
    have hi : ¬ (64 : Int) < (m.length : Int) := by omega
    have ks := same_of m m v _ w hRd.sv hG.sv (by omega)
    rw [decide_eq_true rfl] at ks
    obtain ⟨a, c, rfl, -⟩ := id hRd
    clear hG hRd
    go_enter Try.func21, Try.ntmps21
    go_wp2_with fail
    refine ks.mono ?_
    rintro e w1 ⟨rfl, hb1⟩
    go_wp2
    go_ret
    exact ⟨rfl, hb1⟩
end Go.Proofs.Ytlkcfpifjocliaa

