import Derived.Test.YtlkcfpifjocliaaHs16
/- The law's own awake and light. -/
namespace Go.Proofs.Ytlkcfpifjocliaa
open Go.RowKit SpanMath
set_option maxRecDepth 100000
set_option linter.unusedSimpArgs false
set_option linter.unusedVariables false

theorem awake_add : addM [([97], [99])] ([99], [101]) = [([97], [101])] := by decide
theorem awake_form : (formB [([97], [99])] && may ([99], [101])) = true := by decide
theorem awake_in : inP [([97], [101])] [100] = true := by decide
theorem awake_may : may ([98], [97]) = false := by decide

set_option maxHeartbeats 2000000 in
theorem awake_of (w : World) : Calls Try.prog 11 #[] w fun e w' => e = .returned (.bool true) ∧ Below w.heap.size w w' := by
  obtain ⟨hs0, g0, hb0⟩ := one_box w (.cells #[.string { data := #[97] }, .string { data := #[99] }] 23)
  have hSv : Sv (w.alloc (.cells #[.string { data := #[97] }, .string { data := #[99] }] 23)) (.slice (some ⟨w.heap.size, 0, none⟩) 1 1) [([97], [99])] := (Rk.made (E := spE) (xs := [([97], [99])]) g0 rfl (by unfold maxLen; simp)).rd.sv
  have ka : Calls Try.prog 17 #[.slice (some ⟨w.heap.size, 0, none⟩) 1 1, .agg #[.string { data := #[99] }, .string { data := #[101] }]] _ _ := add_of _ _ ([99], [101]) _ hSv
  rw [awake_form, awake_add] at ka
  have ki := fun v W (h : Sv W v [([97], [101])]) => in_of [([97], [101])] v [100] W h
  have kc := fun W => check_no awake_may W
  rw [awake_in] at ki
  go_enter Try.func11, Try.ntmps11
  go_wp2_with fail
  generalize w.alloc (.cells #[.string { data := #[97] }, .string { data := #[99] }] 23) = w0 at *
  refine ka.mono ?_
  rintro e w1 ⟨v, c, rfl, hR, hb1⟩
  unfold ResT at hR
  rw [if_neg (by decide), if_neg (by simp)] at hR
  obtain ⟨rfl, hRd⟩ := hR
  have ki1 : Calls Try.prog 22 #[v, .string { data := #[100] }] w1 _ := ki v w1 hRd.sv
  have hbw := hb0.trans (hb1.mono hb0.size)
  obtain ⟨ao, cap, rfl, -, -, h2⟩ := id hRd
  obtain ⟨b, off, rfl, c0⟩ := h2 0 ([97], [101]) 0 _ rfl rfl
  obtain ⟨b', off', e', c1⟩ := h2 0 ([97], [101]) 1 _ rfl rfl
  cases e'
  have c0' : w1.cell? ⟨b, off, none⟩ = some (.string (bk [97])) := by simpa using c0
  have c1' : w1.cell? ⟨b, off + 1, none⟩ = some (.string (bk [101])) := by simpa using c1
  have e1 : (Op.equalIn 10000 23 (.agg #[.string (bk [97]), .string (bk [101])]) (.agg #[.string { data := #[97] }, .string { data := #[101] }])).run Try.prog w1 = .ok true w1 := eqIn_sp w1 [97] [101] [97] [101]
  have t1 : (bk [97]).toList = [97] := bk_toList _
  have t2 : (bk [101]).toList = [101] := bk_toList _
  clear c0 c1 h2 hRd ka ki hSv g0
  go_wp2_with fail
  refine ki1.mono ?_
  rintro e w2 ⟨rfl, hb2⟩
  have hbw2 := hbw.trans (hb2.mono hbw.size)
  have kc1 : Calls Try.prog 10 #[.agg #[.string { data := #[98] }, .string { data := #[97] }]] w2 _ := kc w2
  clear ki1 kc
  go_wp2_with fail
  refine kc1.mono ?_
  rintro e w3 ⟨rfl, hb3⟩
  go_wp2
  go_ret
  exact ⟨rfl, hbw2.trans (hb3.mono hbw2.size)⟩

/-- What light tells: something. -/
def LightT (w : World) (e : Ending) (w' : World) : Prop := ∃ B, e = .returned (.bool B) ∧ Below w.heap.size w w'
set_option maxHeartbeats 4000000 in
theorem light_of (l : List Sp) (lv : Value) (s : Sp) (w : World) (hF : Sv w lv l) : Calls Try.prog 16 #[lv, sv s] w (LightT w) := by
  obtain ⟨s1, s2⟩ := s
  obtain ⟨hs0, g0, hb0⟩ := one_box w (.cells #[.string (bk s1), .string (bk s2)] 23)
  have hFW : ∀ W, Below w.heap.size w W → Sv W lv l := fun W hW => hF.below hW
  obtain ⟨ao, cap, rfl, h2⟩ := id hF
  go_enter Try.func16, Try.ntmps16
  go_wp2
  go_loopg [5, 6] 70 (fun g s5 s6 wr => ∃ (i : Nat) (z : Int), i + g = 70 ∧ s6 = .int .i64 (i : Int) ∧ s5 = .int .i64 z ∧ Below w.heap.size w wr)
  case atStart => exact ⟨0, _, by simp, rfl, rfl, hb0⟩
  case round =>
    obtain ⟨i, z, hig, rfl, rfl, hb⟩ := hrel
    clear hb0 g0 hs0
    by_cases hlt : i < l.length
    · have hlti : (i : Int) < (l.length : Int) := by omega
      by_cases h70 : i < 70
      · have h70i : (i : Int) < 70 := by omega
        have hx : l[i]? = some l[i] := List.getElem?_eq_getElem hlt
        obtain ⟨b, off, rfl, d0, d1⟩ := h2 i l[i] hx
        obtain ⟨x, hs⟩ : ∃ s, s = l[i] := ⟨_, rfl⟩
        rw [← hs] at hx d0 d1
        obtain ⟨x1, x2⟩ := x
        have c0 := (hb.cell (p := ⟨b, off + i * 2, none⟩) (World.block_lt_of_cell? w _ d0)).trans d0
        have c1 := (hb.cell (p := ⟨b, off + i * 2 + 1, none⟩) (World.block_lt_of_cell? w _ d1)).trans d1
        clear hx hs d0 d1 hFW hF h2
        go_wp2
        go_quiet (fail)
        go_wp2
        go_roundg (gk - 1)
        case measure => omega
        case rel => exact ⟨i + 1, _, by omega, by go_num, rfl, below_drewN hb nq⟩
      · have h70i : ¬ (i : Int) < 70 := by omega
        clear hFW hF h2
        go_wp2
        go_ret
        exact ⟨_, rfl, hb⟩
    · have hlti : ¬ (i : Int) < (l.length : Int) := by omega
      clear hFW hF h2
      go_wp2
      go_ret
      exact ⟨_, rfl, hb⟩
end Go.Proofs.Ytlkcfpifjocliaa

