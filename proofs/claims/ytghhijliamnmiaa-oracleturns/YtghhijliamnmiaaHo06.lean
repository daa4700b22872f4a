import Derived.Test.YtghhijliamnmiaaHo05
/- Which windows may be: the program's Check, the document's May. -/
namespace Go.Proofs.Ytghhijliamnmiaa
open Go.RowKit OracleMath
set_option maxRecDepth 100000
set_option linter.unusedSimpArgs false
set_option linter.unusedVariables false

theorem sub_one {n : Nat} (h : n ≠ 0) (hn : n < 18446744073709551616) : ∃ p : Nat, Hid (n = p + 1) ∧ IntKind.u64.wrap ((n : Int) - 1) = (p : Int) := ⟨n - 1, by show _ = _; omega, by rw [show ((n : Int) - 1) = ((n - 1 : Nat) : Int) by omega]; exact IntWalk.u64_in _ (by omega)⟩
set_option maxHeartbeats 4000000 in
theorem check_of (x : Wn) (w : World) (hok : OkW x) : Calls Try.prog 13 #[wv x] w fun e w' => e = .returned (.int .i64 (if mayB x then 0 else 1)) ∧ Below w.heap.size w w' := by
  obtain ⟨C, HC⟩ : ∃ C : Int, Hid (C = if mayB x then 0 else 1) := ⟨_, rfl⟩
  rw [← HC.out]
  obtain ⟨hs, hb, cl⟩ := wn_box w x
  obtain ⟨c0, c1, c2⟩ := cl _ (Below.refl _ _)
  obtain ⟨n, l, s⟩ := x
  have hn : Hid (n < 18446744073709551616) := hok.1
  have hl : Hid (l < 18446744073709551616) := hok.2
  dsimp only [wv, wc] at *
  clear cl hok
  go_enter Try.func13, Try.ntmps13
  by_cases h0 : n = 0
  · have E : Hid (C = 1) := by show _ = _; rw [HC.out, h0]; rfl
    clear HC
    subst h0
    go_wp2
    go_ret
    exact ⟨by rw [E.out]; rfl, hb⟩
  · have d0 : ((n : Int) == 0) = false := by simp [h0]
    obtain ⟨p, hp, hw⟩ := sub_one h0 hn.out
    by_cases h1 : l < p
    · have E : Hid (C = 1) := by show _ = _; rw [HC.out, if_neg (by rw [may_iff]; have := hp.out; dsimp only; omega)]
      clear HC
      have d1 : decide ((l : Int) < (p : Int)) = true := by simp [h1]
      go_wp2
      go_ret
      exact ⟨by rw [E.out]; rfl, hb⟩
    · have d1 : decide ((l : Int) < (p : Int)) = false := by simp; omega
      cases s with
      | false =>
        have E : Hid (C = 0) := by show _ = _; rw [HC.out, if_pos (by rw [may_iff]; have := hp.out; dsimp only; exact ⟨h0, by omega, fun h => by cases h⟩)]
        clear HC
        go_wp2
        go_ret
        exact ⟨by rw [E.out]; rfl, hb⟩
      | true =>
        by_cases h2 : n = 18446744073709551615
        · subst h2
          obtain rfl : p = 18446744073709551614 := by have := hp.out; omega
          clear hw hp hn d0 h0
          by_cases h3 : l = 18446744073709551615
          · have E : Hid (C = 0) := by show _ = _; rw [HC.out, if_pos (by rw [may_iff]; dsimp only [topN]; exact ⟨by decide, by omega, fun _ => ⟨rfl, h3⟩⟩)]
            clear HC
            subst h3
            go_wp2
            go_ret
            exact ⟨by rw [E.out]; rfl, hb⟩
          · have E : Hid (C = 1) := by show _ = _; rw [HC.out, if_neg (by rw [may_iff]; dsimp only [topN]; exact fun h => h3 (h.2.2 rfl).2)]
            clear HC
            obtain rfl : l = 18446744073709551614 := by have := hl.out; omega
            clear hl h1 h3 d1
            go_wp2
            go_ret
            exact ⟨by rw [E.out]; rfl, hb⟩
        · have d2 : ((n : Int) == 18446744073709551615) = false := by simp; omega
          have E : Hid (C = 1) := by show _ = _; rw [HC.out, if_neg (by rw [may_iff]; dsimp only [topN]; exact fun h => h2 (h.2.2 rfl).1)]
          clear HC h2
          go_wp2
          go_ret
          exact ⟨by rw [E.out]; rfl, hb⟩

set_option maxHeartbeats 4000000 in
theorem rmay_of (x : Wn) (w : World) (hok : OkW x) : Calls Try.prog 14 #[wv x] w fun e w' => e = .returned (.bool (mayB x)) ∧ Below w.heap.size w w' := by
  obtain ⟨C, HC⟩ : ∃ C : Bool, Hid (C = mayB x) := ⟨_, rfl⟩
  rw [← HC.out]
  obtain ⟨hs, hb, cl⟩ := wn_box w x
  obtain ⟨c0, c1, c2⟩ := cl _ (Below.refl _ _)
  obtain ⟨n, l, s⟩ := x
  have hn : Hid (n < 18446744073709551616) := hok.1
  have hl : Hid (l < 18446744073709551616) := hok.2
  have hT : mayB (n, l, s) = true → Hid (C = true) := fun h => by show _ = _; rw [HC.out, h]
  have hF : ¬ (mayB (n, l, s) = true) → Hid (C = false) := fun h => by show _ = _; rw [HC.out]; simpa using h
  dsimp only [wv, wc] at *
  clear cl hok HC
  go_enter Try.func14, Try.ntmps14
  by_cases h0 : n = 0
  · have E := hF (by rw [may_iff]; dsimp only; omega)
    clear hT hF
    subst h0
    go_wp2
    go_ret
    exact ⟨by rw [E.out]; rfl, hb⟩
  · have d0 : ((n : Int) == 0) = false := by simp [h0]
    obtain ⟨p, hp, hw⟩ := sub_one h0 hn.out
    by_cases h1 : l < p
    · have E := hF (by rw [may_iff]; have := hp.out; dsimp only; omega)
      clear hT hF
      have d1 : decide ((l : Int) < (p : Int)) = true := by simp [h1]
      go_wp2
      go_ret
      exact ⟨by rw [E.out]; rfl, hb⟩
    · have d1 : decide ((l : Int) < (p : Int)) = false := by simp; omega
      cases s with
      | false =>
        have E := hT (by rw [may_iff]; have := hp.out; dsimp only; exact ⟨h0, by omega, fun h => by cases h⟩)
        clear hT hF
        go_wp2
        go_ret
        exact ⟨by rw [E.out]; rfl, hb⟩
      | true =>
        by_cases h2 : n = 18446744073709551615
        · subst h2
          obtain rfl : p = 18446744073709551614 := by have := hp.out; omega
          clear hw hp hn d0 h0
          by_cases h3 : l = 18446744073709551615
          · have E := hT (by rw [may_iff]; dsimp only [topN]; exact ⟨by decide, by omega, fun _ => ⟨rfl, h3⟩⟩)
            clear hT hF
            subst h3
            go_wp2
            go_ret
            exact ⟨by rw [E.out]; rfl, hb⟩
          · have E := hF (by rw [may_iff]; dsimp only [topN]; exact fun h => h3 (h.2.2 rfl).2)
            clear hT hF
            obtain rfl : l = 18446744073709551614 := by have := hl.out; omega
            clear hl h1 h3 d1
            go_wp2
            go_ret
            exact ⟨by rw [E.out]; rfl, hb⟩
        · have d2 : ((n : Int) == 18446744073709551615) = false := by simp; omega
          have E := hF (by rw [may_iff]; dsimp only [topN]; exact fun h => h2 (h.2.2 rfl).1)
          clear hT hF h2
          go_wp2
          go_ret
          exact ⟨by rw [E.out]; rfl, hb⟩
end Go.Proofs.Ytghhijliamnmiaa

