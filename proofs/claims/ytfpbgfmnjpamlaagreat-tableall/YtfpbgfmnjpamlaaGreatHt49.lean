import Derived.Test.YtfpbgfmnjpamlaaGreatHt48
/- The document's own places and Same; the law's told. -/
namespace Go.Proofs.YtfpbgfmnjpamlaaGreat
open Go.RowKit SpanMath
set_option maxRecDepth 100000
set_option linter.unusedSimpArgs false
set_option linter.unusedVariables false

set_option maxHeartbeats 4000000 in
theorem same_of (l m : List Sp) (lv mv : Value) (w : World) (hF : Sv w lv l) (hG : Sv w mv m) (hlen : l.length ≤ 1000000) : Calls Tryz.prog 91 #[lv, mv] w fun e w' => e = .returned (.bool (decide (l = m))) ∧ Below w.heap.size w w' := by
  obtain ⟨ao, cap, rfl, h2⟩ := id hF
  obtain ⟨am, cm, rfl, h3⟩ := id hG
  obtain ⟨B, HB⟩ : ∃ B, Hid (B = decide (l = m)) := ⟨_, rfl⟩
  rw [← HB.out]
  by_cases hl : l.length = m.length
  · have HL : Hid (l.length = m.length) := hl
    rw [← HL.out]
    clear hl
    go_enter Tryz.func91, Tryz.ntmps91
    go_wp2
    go_loopg [5] l.length (fun g s5 wr => ∃ i : Nat, i + g = l.length ∧ s5 = .int .i64 (i : Int) ∧ Hid (l.take i = m.take i) ∧ Below w.heap.size w wr)
    case atStart => exact ⟨0, by simp, rfl, by show _ = _; simp, Below.refl _ _⟩
    case round =>
      obtain ⟨i, hig, rfl, HP, hb⟩ := hrel
      by_cases hlt : i < l.length
      · have hlti : (i : Int) < (l.length : Int) := by omega
        have hx : l[i]? = some l[i] := List.getElem?_eq_getElem hlt
        have hy : m[i]? = some (m[i]'(by rw [← HL.out]; exact hlt)) := List.getElem?_eq_getElem _
        obtain ⟨b, off, rfl, d0, d1⟩ := h2 i _ hx
        obtain ⟨b', off', rfl, f0, f1⟩ := h3 i _ hy
        obtain ⟨x, hs⟩ : ∃ s, s = l[i] := ⟨_, rfl⟩
        rw [← hs] at hx d0 d1
        obtain ⟨y, hs'⟩ : ∃ s, s = m[i]'(by rw [← HL.out]; exact hlt) := ⟨_, rfl⟩
        rw [← hs'] at hy f0 f1
        obtain ⟨x1, x2⟩ := x
        obtain ⟨y1, y2⟩ := y
        have c0 := (hb.cell (p := ⟨b, off + i * 2, none⟩) (World.block_lt_of_cell? w _ d0)).trans d0
        have c1 := (hb.cell (p := ⟨b, off + i * 2 + 1, none⟩) (World.block_lt_of_cell? w _ d1)).trans d1
        have c2 := (hb.cell (p := ⟨b', off' + i * 2, none⟩) (World.block_lt_of_cell? w _ f0)).trans f0
        have c3 := (hb.cell (p := ⟨b', off' + i * 2 + 1, none⟩) (World.block_lt_of_cell? w _ f1)).trans f1
        by_cases he : ((x1, x2) : Sp) = (y1, y2)
        · have HN : Hid (l.take (i + 1) = m.take (i + 1)) := by show _ = _; rw [take_succ_get hx, take_succ_get hy, HP.out, he]
          have e1 : decide (x1 = y1) = true := by cases he; simp
          have e2 : decide (x2 = y2) = true := by cases he; simp
          clear hx hy hs hs' d0 d1 f0 f1 h2 h3 hF hG HP he HB
          go_wp2
          go_quiet (fail)
          go_wp2
          go_roundg (gk - 1)
          case measure => omega
          case rel => exact ⟨i + 1, by omega, by go_num, HN, below_drewN hb nq⟩
        · have E : Hid (B = false) := by
            show _ = _
            rw [HB.out]
            refine decide_eq_false fun e => he ?_
            rw [e, hy] at hx
            exact (Option.some.inj hx).symm
          have e12 : (decide (x1 = y1) && decide (x2 = y2)) = false := by
            rw [Bool.eq_false_iff]
            intro h
            simp only [Bool.and_eq_true, decide_eq_true_eq] at h
            exact he (by rw [h.1, h.2])
          clear hx hy hs hs' d0 d1 f0 f1 h2 h3 hF hG HP he HB
          by_cases e1 : x1 = y1
          · have d1 : decide (x1 = y1) = true := by simpa using e1
            rw [d1, Bool.true_and] at e12
            clear e1
            go_wp2
            go_quiet (fail)
            go_wp2
            go_ret
            exact ⟨by rw [E.out]; rfl, below_drewN hb nq⟩
          · have d1 : decide (x1 = y1) = false := by simpa using e1
            clear e1 e12
            go_wp2
            go_quiet (fail)
            go_wp2
            go_ret
            exact ⟨by rw [E.out]; rfl, below_drewN hb nq⟩
      · have hlti : ¬ (i : Int) < (l.length : Int) := by omega
        obtain rfl : i = l.length := by omega
        have E : Hid (B = true) := by
          show _ = _
          rw [HB.out]
          refine decide_eq_true ?_
          have := HP.out
          rw [List.take_length, List.take_of_length_le (by rw [HL.out]; exact Nat.le_refl _)] at this
          exact this
        clear HB h2 h3 hF hG HP
        go_wp2
        go_ret
        exact ⟨by rw [E.out]; rfl, hb⟩
  · have E : Hid (B = false) := by show _ = _; rw [HB.out]; exact decide_eq_false fun e => hl (by rw [e])
    have hlib : ((l.length : Int) == (m.length : Int)) = false := by simpa using fun h => hl (by omega)
    have hli : ¬ (l.length : Int) = (m.length : Int) := by omega
    clear HB h2 h3 hF hG
    go_enter Tryz.func91, Tryz.ntmps91
    go_wp2
    go_ret
    exact ⟨by rw [E.out]; rfl, Below.refl _ _⟩

end Go.Proofs.YtfpbgfmnjpamlaaGreat

