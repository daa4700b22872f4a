import Derived.Test.YtlgnnfhnkfjafaaHp22
/- The contracts of Version, New; of the document's own Version, Same; told. -/
namespace Go.Proofs.Ytlgnnfhnkfjafaa
open Go.RowKit SpanMath ChartMath
set_option maxRecDepth 100000
set_option linter.unusedSimpArgs false
set_option linter.unusedVariables false

theorem ver_take {l : List Rg} {i : Nat} {r : Rg} (h : l[i]? = some r) : ver (l.take (i + 1)) = max (ver (l.take i)) r.2.2 := by
  unfold ver
  rw [take_succ_get h, List.foldl_append]
  rfl
set_option maxHeartbeats 2000000 in
theorem version_of (l : List Rg) (lv : Value) (w : World) (hF : Cv w lv l) : Calls Try.prog 54 #[lv] w fun e w' => e = .returned (.int .u64 (verC l)) ∧ Below w.heap.size w w' := by
  obtain ⟨B, HB⟩ : ∃ B, Hid (B = verC l) := ⟨_, rfl⟩
  rw [← HB.out]
  have kc := ccheck_of l lv w hF
  obtain ⟨ao, cap, rfl, h2⟩ := id hF
  cases hm : mayC l with
  | false =>
    rw [hm] at kc
    simp only [Bool.false_eq_true, if_false] at kc
    have E : Hid (B = 0) := by show _ = _; rw [HB.out]; unfold verC; rw [hm]; rfl
    clear HB hm hF h2
    go_enter Try.func54, Try.ntmps54
    go_wp2_with fail
    refine kc.mono ?_
    rintro e w1 ⟨rfl, hb1⟩
    go_wp2
    go_ret
    exact ⟨by rw [E.out]; rfl, hb1⟩
  | true =>
    rw [hm] at kc
    simp only [if_true] at kc
    have HE : Hid (B = ver (l.take l.length)) := by show _ = _; rw [HB.out, List.take_length]; unfold verC; rw [hm]; rfl
    have hl64 := (mayC_iff.1 hm).len
    clear HB hm
    go_enter Try.func54, Try.ntmps54
    go_wp2_with fail
    refine kc.mono ?_
    rintro e w1 ⟨rfl, hb1⟩
    clear kc
    go_wp2

    go_loopg [3, 11] l.length (fun g s3 s10 wr => ∃ (i : Nat) (n : Int), i + g = l.length ∧ s10 = .int .i64 (i : Int) ∧ s3 = .int .u64 n ∧ Below w.heap.size w wr ∧ Hid (n = ver (l.take i)))
    case atStart => exact ⟨0, 0, by simp, rfl, rfl, hb1, rfl⟩
    case round =>
      obtain ⟨i, n, hig, rfl, rfl, hb, HP⟩ := hrel
      clear hb1
      by_cases hlt : i < l.length
      · have hlti : (i : Int) < (l.length : Int) := by omega
        have hx : l[i]? = some l[i] := List.getElem?_eq_getElem hlt
        obtain ⟨b, off, rfl, d0, d1, d2, d3⟩ := h2 i l[i] hx
        obtain ⟨s, hs⟩ : ∃ s, s = l[i] := ⟨_, rfl⟩
        rw [← hs] at hx d0 d1 d2 d3
        obtain ⟨⟨s1, s2⟩, sg, se⟩ := s
        have hlb := World.block_lt_of_cell? w _ d0
        have c0 := (hb.cell (p := ⟨b, off + i * 4, none⟩) hlb).trans d0
        have c1 := (hb.cell (p := ⟨b, off + i * 4 + 1, none⟩) hlb).trans d1
        have c2 := (hb.cell (p := ⟨b, off + i * 4 + 2, none⟩) hlb).trans d2
        have c3 := (hb.cell (p := ⟨b, off + i * 4 + 3, none⟩) hlb).trans d3
        have HN : Hid (max n se = ver (l.take (i + 1))) := by show _ = _; rw [ver_take hx, HP.out]
        have hbn := hb.trans ((Below.refl wr.heap.size wr).alloc (Nat.le_refl _) (.cells #[.string (bk s1), .string (bk s2), .int .i64 sg, .int .u64 se] 47) |>.mono hb.size)
        clear hs d0 d1 d2 d3 h2 hF HP hx
        go_wp2

        go_roundg (gk - 1)
        case measure => omega
        case rel => exact ⟨i + 1, _, by omega, by go_num, rfl, hbn, HN⟩
      · have hlti : ¬ (i : Int) < (l.length : Int) := by omega
        obtain rfl : i = l.length := by omega
        have E : Hid (B = n) := by show _ = _; rw [HE.out, HP.out]
        clear HE HP h2 hF
        go_wp2
        go_ret
        exact ⟨by rw [E.out]; rfl, hb⟩

set_option maxHeartbeats 2000000 in
theorem rversion_of (l : List Rg) (lv : Value) (w : World) (hF : Cv w lv l) (hlen : l.length ≤ 10000000000000) : Calls Try.prog 22 #[lv] w fun e w' => e = .returned (.int .u64 (verC l)) ∧ Below w.heap.size w w' := by
  obtain ⟨B, HB⟩ : ∃ B, Hid (B = verC l) := ⟨_, rfl⟩
  rw [← HB.out]
  have kc := fun W (hW : Below w.heap.size w W) => rmay_of l lv W (hF.below hW)
  obtain ⟨ao, cap, rfl, h2⟩ := id hF
  go_enter Try.func22, Try.ntmps22
  go_wp2

  go_loopg [3, 4] l.length (fun g s3 s4 wr => ∃ (i : Nat) (n : Int), i + g = l.length ∧ s4 = .int .i64 (i : Int) ∧ s3 = .int .u64 n ∧ Below w.heap.size w wr ∧ Hid (n = ver (l.take i)) ∧ Hid (0 < i → mayC l = true))
  case atStart => exact ⟨0, 0, by simp, rfl, rfl, Below.refl _ _, rfl, fun h => by omega⟩
  case round =>
    obtain ⟨i, n, hig, rfl, rfl, hb, HP, HM⟩ := hrel
    by_cases hlt : i < l.length
    · have hlti : (i : Int) < (l.length : Int) := by omega
      have kc1 := kc wr hb
      cases hm : mayC l with
      | false =>
        rw [hm] at kc1
        have hi0 : i = 0 := by
          rcases Nat.eq_zero_or_pos i with h | h
          · exact h
          · have := HM.out h
            rw [hm] at this
            cases this
        have E : Hid (B = n) := by show _ = _; rw [HB.out, HP.out, hi0]; unfold verC; rw [hm]; rfl
        clear HB HM HP hm h2 hF kc hi0
        go_wp2_with fail
        refine kc1.mono ?_
        rintro e w1 ⟨rfl, hb1⟩
        go_wp2
        go_ret
        exact ⟨by rw [E.out]; rfl, hb.trans (hb1.mono hb.size)⟩
      | true =>
        rw [hm] at kc1
        have hx : l[i]? = some l[i] := List.getElem?_eq_getElem hlt
        obtain ⟨b, off, rfl, -, -, -, d3⟩ := h2 i l[i] hx
        obtain ⟨s, hs⟩ : ∃ s, s = l[i] := ⟨_, rfl⟩
        rw [← hs] at hx d3
        obtain ⟨⟨s1, s2⟩, sg, se⟩ := s
        have hlb := World.block_lt_of_cell? w _ d3
        have c3 : ∀ W, Below w.heap.size w W → W.cell? ⟨b, off + i * 4 + 3, none⟩ = some (.int .u64 se) := fun W hW => (hW.cell (p := ⟨b, off + i * 4 + 3, none⟩) hlb).trans d3
        have HM2 : Hid (0 < i + 1 → mayC l = true) := fun _ => hm
        have HX : Hid (ver (l.take (i + 1)) = max n se) := by show _ = _; rw [ver_take hx, HP.out]
        clear HM HP hm h2 hF kc hs hx d3
        go_wp2_with fail
        refine kc1.mono ?_
        rintro e w1 ⟨rfl, hb1⟩
        have hbw := hb.trans (hb1.mono hb.size)
        have y3 := c3 w1 hbw
        clear c3 kc1
        by_cases hgt : n < se
        · have HN : Hid (se = ver (l.take (i + 1))) := by show _ = _; rw [HX.out]; omega
          clear HX
          go_wp2
          go_roundg (gk - 1)
          case measure => omega
          case rel => exact ⟨i + 1, _, by omega, by go_num, rfl, hbw, HN, HM2⟩
        · have HN : Hid (n = ver (l.take (i + 1))) := by show _ = _; rw [HX.out]; omega
          clear HX
          go_wp2
          go_roundg (gk - 1)
          case measure => omega
          case rel => exact ⟨i + 1, _, by omega, by go_num, rfl, hbw, HN, HM2⟩
    · have hlti : ¬ (i : Int) < (l.length : Int) := by omega
      obtain rfl : i = l.length := by omega
      have E : Hid (B = n) := by
        show _ = _
        rw [HB.out, HP.out, List.take_length]
        unfold verC
        cases hm : mayC l with
        | true => rfl
        | false =>
          have : l = [] := by
            rcases Nat.eq_zero_or_pos l.length with h | h
            · exact List.eq_nil_of_length_eq_zero h
            · have := HM.out h
              rw [hm] at this
              cases this
          rw [this]
          rfl
      clear HB HP HM h2 hF kc
      go_wp2
      go_ret
      exact ⟨by rw [E.out]; rfl, hb⟩

end Go.Proofs.Ytlgnnfhnkfjafaa

