import Derived.Test.YtlgnnfhnkfjafaaHp19
/- The contract of Check. -/
namespace Go.Proofs.Ytlgnnfhnkfjafaa
open Go.RowKit SpanMath ChartMath
set_option maxRecDepth 100000
set_option linter.unusedSimpArgs false
set_option linter.unusedVariables false

set_option maxHeartbeats 4000000 in
theorem ccheck_of (l : List Rg) (lv : Value) (w : World) (hF : Cv w lv l) : Calls Try.prog 25 #[lv] w fun e w' => e = .returned (.int .i64 (if mayC l then 0 else 1)) ∧ Below w.heap.size w w' := by
  obtain ⟨ao, cap, rfl, h2⟩ := id hF
  obtain ⟨B, HB⟩ : ∃ B : Int, Hid (B = if mayC l then 0 else 1) := ⟨_, rfl⟩
  rw [← HB.out]
  by_cases h0 : l.length = 0
  · have E : Hid (B = 1) := by show _ = _; rw [HB.out, if_neg]; simp [mayC, h0]
    have hi : (l.length : Int) < 1 := by omega
    clear HB h2 hF h0
    go_enter Try.func25, Try.ntmps25
    go_wp2
    go_ret
    exact ⟨by rw [E.out]; rfl, Below.refl _ _⟩
  · have hi0 : ¬ (l.length : Int) < 1 := by omega
    by_cases h64 : 64 < l.length
    · have E : Hid (B = 1) := by
        show _ = _
        rw [HB.out, if_neg]
        intro h
        simp only [mayC, Bool.and_eq_true, decide_eq_true_eq] at h
        omega
      have hi : (64 : Int) < (l.length : Int) := by omega
      clear HB h2 hF h0 h64
      go_enter Try.func25, Try.ntmps25
      go_wp2
      go_ret
      exact ⟨by rw [E.out]; rfl, Below.refl _ _⟩
    · have hi64 : ¬ (64 : Int) < (l.length : Int) := by omega
      have hpos : 0 < l.length := by omega
      obtain ⟨⟨⟨f1, f2⟩, fg, fe⟩, hf⟩ : ∃ r, l[0]? = some r := ⟨l[0], List.getElem?_eq_getElem hpos⟩
      obtain ⟨⟨⟨t1, t2⟩, tg, te⟩, ht⟩ : ∃ r, l[l.length - 1]? = some r := ⟨l[l.length - 1], List.getElem?_eq_getElem (by omega)⟩
      obtain ⟨b, off, rfl, d0, -, -, -⟩ := h2 0 _ hf
      obtain ⟨b', off', e', -, d1, -, -⟩ := h2 (l.length - 1) _ ht
      cases e'
      have hends : endsOk l = (decide (f1 = []) && decide (t2 = [])) := by
        unfold endsOk
        rw [List.head?_eq_getElem?, hf, List.getLast?_eq_getElem?, ht]
        simp
      simp only [Nat.zero_mul, Nat.add_zero] at d0
      dsimp only at d0 d1
      have i1 : IntKind.i64.wrap ((l.length : Int) - 1) = (l.length : Int) - 1 := IntWalk.i64_in _ (by omega)
      have i2 : (0 : Int) ≤ (l.length : Int) - 1 := by omega
      have i3 : (l.length : Int) - 1 < (l.length : Int) := by omega
      have i4 : ((l.length : Int) - 1).toNat = l.length - 1 := by omega
      have i5 : (0 : Int) < (l.length : Int) := by omega
      by_cases hf0 : f1 = []
      · by_cases ht0 : t2 = []
        · have HB2 : Hid (B = if walk none l then 0 else 1) := by
            show _ = _
            rw [HB.out]
            have : mayC l = walk none l := by
              unfold mayC
              rw [hends, hf0, ht0, decide_eq_true (show 1 ≤ l.length by omega), decide_eq_true (show l.length ≤ 64 by omega)]
              simp
            rw [this]
          clear HB hends hf ht
          go_enter Try.func25, Try.ntmps25
          go_wp2
          go_loopg [34] l.length (fun g s34 wr => ∃ i : Nat, i + g = l.length ∧ s34 = .int .i64 (i : Int) ∧ Below w.heap.size w wr ∧ Hid (B = if walk (prev l i) (l.drop i) then 0 else 1) ∧ Hid (∀ r, prev l i = some r → rOk r = true))
          case atStart => exact ⟨0, by simp, rfl, Below.refl _ _, HB2, fun r hr => by cases hr⟩
          case round =>
            obtain ⟨i, hig, rfl, hb, HP, HK⟩ := hrel
            clear d0 d1
            by_cases hlt : i < l.length
            · have hlti : (i : Int) < (l.length : Int) := by omega
              have hx : l[i]? = some l[i] := List.getElem?_eq_getElem hlt
              obtain ⟨b', off', e', c0, c1, c2, c3⟩ := h2 i l[i] hx
              cases e'
              obtain ⟨s, hs⟩ : ∃ s, s = l[i] := ⟨_, rfl⟩
              rw [← hs] at hx c0 c1 c2 c3
              have hxH : Hid (l[i]? = some s) := hx
              have hlb := World.block_lt_of_cell? w _ c0
              replace c0 := (hb.cell (p := ⟨b, off + i * 4, none⟩) hlb).trans c0
              replace c1 := (hb.cell (p := ⟨b, off + i * 4 + 1, none⟩) hlb).trans c1
              replace c2 := (hb.cell (p := ⟨b, off + i * 4 + 2, none⟩) hlb).trans c2
              replace c3 := (hb.cell (p := ⟨b, off + i * 4 + 3, none⟩) hlb).trans c3
              obtain ⟨⟨s1, s2⟩, sg, se⟩ := s
              clear hx hs
              have hn0 := heap_alloc_new wr (.cells #[.string (bk s1), .string (bk s2), .int .i64 sg, .int .u64 se] 47)
              have hsz : (wr.alloc (.cells #[.string (bk s1), .string (bk s2), .int .i64 sg, .int .u64 se] 47)).heap.size = wr.heap.size + 1 := by simp
              have hbb : Below wr.heap.size wr (wr.alloc (.cells #[.string (bk s1), .string (bk s2), .int .i64 sg, .int .u64 se] 47)) := (Below.refl _ _).alloc (Nat.le_refl _) _
              go_wp2
              generalize hwb : wr.alloc (.cells #[.string (bk s1), .string (bk s2), .int .i64 sg, .int .u64 se] 47) = wb at *
              clear hwb
              have hbw : ∀ W, Below (wr.heap.size + 1) wb W → Below w.heap.size w W := fun W hW => hb.trans ((hbb.trans (hW.mono (Nat.le_succ _))).mono hb.size)
              have cl : ∀ W, Below (wr.heap.size + 1) wb W → W.cell? ⟨wr.heap.size, 0, none⟩ = some (.string (bk s1)) ∧ W.cell? ⟨wr.heap.size, 1, none⟩ = some (.string (bk s2)) ∧ W.cell? ⟨wr.heap.size, 2, none⟩ = some (.int .i64 sg) ∧ W.cell? ⟨wr.heap.size, 3, none⟩ = some (.int .u64 se) := fun W hW => by
                have := (hW.block wr.heap.size (Nat.lt_succ_self _)).trans hn0
                exact ⟨by rw [cells_of_block this]; rfl, by rw [cells_of_block this]; rfl, by rw [cells_of_block this]; rfl, by rw [cells_of_block this]; rfl⟩
              have kst : ∀ W w', Below (wr.heap.size + 1) wb W → Below W.heap.size W w' → Below (wr.heap.size + 1) wb w' := fun W w' h1 h2 => keep_step h1 (Nat.le_of_eq hsz.symm) h2
              clear c0 c1 c2 c3 hn0
              cases hm : rOk ((s1, s2), sg, se) with
              | false =>
                have E : Hid (B = 1) := by show _ = _; rw [HP.out, walk_at hxH.out, hm]; simp
                have kc : ∀ W, (fun W => (W.cell? ⟨wr.heap.size, 0, none⟩ = some (.string (bk s1)) ∧ W.cell? ⟨wr.heap.size, 1, none⟩ = some (.string (bk s2)) ∧ W.cell? ⟨wr.heap.size, 2, none⟩ = some (.int .i64 sg) ∧ W.cell? ⟨wr.heap.size, 3, none⟩ = some (.int .u64 se)) ∧ Below (wr.heap.size + 1) wb W) W → Calls Try.prog 38 #[.agg #[.string (bk s1), .string (bk s2), .int .i64 sg, .int .u64 se]] W fun e w' => e = .returned (.bool false) ∧ (fun W => (W.cell? ⟨wr.heap.size, 0, none⟩ = some (.string (bk s1)) ∧ W.cell? ⟨wr.heap.size, 1, none⟩ = some (.string (bk s2)) ∧ W.cell? ⟨wr.heap.size, 2, none⟩ = some (.int .i64 sg) ∧ W.cell? ⟨wr.heap.size, 3, none⟩ = some (.int .u64 se)) ∧ Below (wr.heap.size + 1) wb W) w' := fun W hW => by
                  refine (mayBe_of ((s1, s2), sg, se) W).mono ?_
                  rintro e w' ⟨rfl, hb'⟩
                  exact ⟨by rw [hm], cl w' (kst W w' hW.2 hb'), kst W w' hW.2 hb'⟩
                have hS0 : (fun W => (W.cell? ⟨wr.heap.size, 0, none⟩ = some (.string (bk s1)) ∧ W.cell? ⟨wr.heap.size, 1, none⟩ = some (.string (bk s2)) ∧ W.cell? ⟨wr.heap.size, 2, none⟩ = some (.int .i64 sg) ∧ W.cell? ⟨wr.heap.size, 3, none⟩ = some (.int .u64 se)) ∧ Below (wr.heap.size + 1) wb W) wb.drew := ⟨cl _ (Below.refl _ wb).drew, (Below.refl _ wb).drew⟩
                clear HB2 HP HK hm kst cl hxH h2 hF hsz hbb
                refine wp_region_L (fun W => (W.cell? ⟨wr.heap.size, 0, none⟩ = some (.string (bk s1)) ∧ W.cell? ⟨wr.heap.size, 1, none⟩ = some (.string (bk s2)) ∧ W.cell? ⟨wr.heap.size, 2, none⟩ = some (.int .i64 sg) ∧ W.cell? ⟨wr.heap.size, 3, none⟩ = some (.int .u64 se)) ∧ Below (wr.heap.size + 1) wb W) [] (by kernel_rfl) ?_
                have yS : (fun W => (W.cell? ⟨wr.heap.size, 0, none⟩ = some (.string (bk s1)) ∧ W.cell? ⟨wr.heap.size, 1, none⟩ = some (.string (bk s2)) ∧ W.cell? ⟨wr.heap.size, 2, none⟩ = some (.int .i64 sg) ∧ W.cell? ⟨wr.heap.size, 3, none⟩ = some (.int .u64 se)) ∧ Below (wr.heap.size + 1) wb W) wb.drew := hS0
                refine wpAnyL_take 0 rfl (by kernel_rfl) (by kernel_rfl) (by kernel_rfl) (by kernel_rfl) (fun _ _ _ h => h) (by kernel_rfl) (by intro w' hS'; obtain ⟨⟨x0, x1, x2, x3⟩, xb⟩ := hS'; go_simp <;> rfl) yS ?_
                try simp only [List.getElem_toArray, List.getElem_cons_succ, List.getElem_cons_zero, Act.put, List.setIfInBounds_toArray, List.set_cons_zero, List.set_cons_succ]
                refine wpAnyL_one 1 (by kernel_rfl) rfl (by kernel_rfl) ?_
                intro K' hK'
                go_simp
                go_at_call 38
                refine (kc _ yS).mono ?_
                rintro e W1 ⟨rfl, hS1⟩
                refine hK'.out _ _ (.inr hS1) ?_
                clear hK' K'
                try simp only [List.getElem_toArray, List.getElem_cons_succ, List.getElem_cons_zero, Act.put, List.setIfInBounds_toArray, List.set_cons_zero, List.set_cons_succ]
                refine wpAnyL_take 2 rfl (by kernel_rfl) (by kernel_rfl) (by kernel_rfl) (by kernel_rfl) (fun _ _ _ h => h) (by kernel_rfl) (by intro w' hS'; obtain ⟨⟨x0, x1, x2, x3⟩, xb⟩ := hS'; go_simp <;> rfl) hS1 ?_
                try simp only [List.getElem_toArray, List.getElem_cons_succ, List.getElem_cons_zero, Act.put, List.setIfInBounds_toArray, List.set_cons_zero, List.set_cons_succ]
                refine wpAnyL_take 3 rfl (by kernel_rfl) (by kernel_rfl) (by kernel_rfl) (by kernel_rfl) (fun _ _ _ h => h) (by kernel_rfl) (by intro w' hS'; obtain ⟨⟨x0, x1, x2, x3⟩, xb⟩ := hS'; go_simp <;> rfl) hS1 ?_
                try simp only [List.getElem_toArray, List.getElem_cons_succ, List.getElem_cons_zero, Act.put, List.setIfInBounds_toArray, List.set_cons_zero, List.set_cons_succ]
                refine wpAnyL_skip 4 rfl (by kernel_rfl) (by kernel_rfl) (by kernel_rfl) (by kernel_rfl) (fun _ _ _ h => h) (by kernel_rfl) hS1 ?_
                try simp only [List.getElem_toArray, List.getElem_cons_succ, List.getElem_cons_zero, Act.put, List.setIfInBounds_toArray, List.set_cons_zero, List.set_cons_succ]
                refine wpAnyL_skip 5 rfl (by kernel_rfl) (by kernel_rfl) (by kernel_rfl) (by kernel_rfl) (fun _ _ _ h => h) (by kernel_rfl) hS1 ?_
                try simp only [List.getElem_toArray, List.getElem_cons_succ, List.getElem_cons_zero, Act.put, List.setIfInBounds_toArray, List.set_cons_zero, List.set_cons_succ]
                refine wpAnyL_skip 6 rfl (by kernel_rfl) (by kernel_rfl) (by kernel_rfl) (by kernel_rfl) (fun _ _ _ h => h) (by kernel_rfl) hS1 ?_
                try simp only [List.getElem_toArray, List.getElem_cons_succ, List.getElem_cons_zero, Act.put, List.setIfInBounds_toArray, List.set_cons_zero, List.set_cons_succ]
                refine wpAnyL_skip 7 rfl (by kernel_rfl) (by kernel_rfl) (by kernel_rfl) (by kernel_rfl) (fun _ _ _ h => h) (by kernel_rfl) hS1 ?_
                try simp only [List.getElem_toArray, List.getElem_cons_succ, List.getElem_cons_zero, Act.put, List.setIfInBounds_toArray, List.set_cons_zero, List.set_cons_succ]
                refine wpAnyL_skip 8 rfl (by kernel_rfl) (by kernel_rfl) (by kernel_rfl) (by kernel_rfl) (fun _ _ _ h => h) (by kernel_rfl) hS1 ?_
                try simp only [List.getElem_toArray, List.getElem_cons_succ, List.getElem_cons_zero, Act.put, List.setIfInBounds_toArray, List.set_cons_zero, List.set_cons_succ]
                refine wpAnyL_skip 9 rfl (by kernel_rfl) (by kernel_rfl) (by kernel_rfl) (by kernel_rfl) (fun _ _ _ h => h) (by kernel_rfl) hS1 ?_
                try simp only [List.getElem_toArray, List.getElem_cons_succ, List.getElem_cons_zero, Act.put, List.setIfInBounds_toArray, List.set_cons_zero, List.set_cons_succ]
                refine wpAnyL_skip 10 rfl (by kernel_rfl) (by kernel_rfl) (by kernel_rfl) (by kernel_rfl) (fun _ _ _ h => h) (by kernel_rfl) hS1 ?_
                try simp only [List.getElem_toArray, List.getElem_cons_succ, List.getElem_cons_zero, Act.put, List.setIfInBounds_toArray, List.set_cons_zero, List.set_cons_succ]
                refine wpAnyL_skip 11 rfl (by kernel_rfl) (by kernel_rfl) (by kernel_rfl) (by kernel_rfl) (fun _ _ _ h => h) (by kernel_rfl) hS1 ?_
                try simp only [List.getElem_toArray, List.getElem_cons_succ, List.getElem_cons_zero, Act.put, List.setIfInBounds_toArray, List.set_cons_zero, List.set_cons_succ]
                refine wpAnyL_skip 12 rfl (by kernel_rfl) (by kernel_rfl) (by kernel_rfl) (by kernel_rfl) (fun _ _ _ h => h) (by kernel_rfl) hS1 ?_
                try simp only [List.getElem_toArray, List.getElem_cons_succ, List.getElem_cons_zero, Act.put, List.setIfInBounds_toArray, List.set_cons_zero, List.set_cons_succ]
                refine wpAnyL_skip 13 rfl (by kernel_rfl) (by kernel_rfl) (by kernel_rfl) (by kernel_rfl) (fun _ _ _ h => h) (by kernel_rfl) hS1 ?_
                try simp only [List.getElem_toArray, List.getElem_cons_succ, List.getElem_cons_zero, Act.put, List.setIfInBounds_toArray, List.set_cons_zero, List.set_cons_succ]
                refine wpAnyL_skip 14 rfl (by kernel_rfl) (by kernel_rfl) (by kernel_rfl) (by kernel_rfl) (fun _ _ _ h => h) (by kernel_rfl) hS1 ?_
                try simp only [List.getElem_toArray, List.getElem_cons_succ, List.getElem_cons_zero, Act.put, List.setIfInBounds_toArray, List.set_cons_zero, List.set_cons_succ]
                refine wpAnyL_skip 15 rfl (by kernel_rfl) (by kernel_rfl) (by kernel_rfl) (by kernel_rfl) (fun _ _ _ h => h) (by kernel_rfl) hS1 ?_
                try simp only [List.getElem_toArray, List.getElem_cons_succ, List.getElem_cons_zero, Act.put, List.setIfInBounds_toArray, List.set_cons_zero, List.set_cons_succ]
                refine wpAnyL_take 16 rfl (by kernel_rfl) (by kernel_rfl) (by kernel_rfl) (by kernel_rfl) (fun _ _ _ h => h) (by kernel_rfl) (by intro w' hS'; obtain ⟨⟨x0, x1, x2, x3⟩, xb⟩ := hS'; go_simp <;> rfl) hS1 ?_
                try simp only [List.getElem_toArray, List.getElem_cons_succ, List.getElem_cons_zero, Act.put, List.setIfInBounds_toArray, List.set_cons_zero, List.set_cons_succ]
                refine wpAnyL_done (by kernel_rfl) (NoPanic.normal ?_) _
                go_wp2
                go_ret
                exact ⟨by rw [E.out]; rfl, hbw _ hS1.2⟩
              | true =>
                have HP2 : Hid (∀ r, prev l (i + 1) = some r → rOk r = true) := fun r hr => by rw [prev_succ hxH.out] at hr; cases hr; exact hm
                by_cases hi0 : i = 0
                · subst hi0
                  have HN : Hid (B = if walk (prev l (0 + 1)) (l.drop (0 + 1)) then 0 else 1) := by show _ = _; rw [HP.out, walk_at hxH.out, hm, prev_succ hxH.out]; simp [prev, lnkO]
                  have hb1 := hb
                  have kc : ∀ W, (fun W => (W.cell? ⟨wr.heap.size, 0, none⟩ = some (.string (bk s1)) ∧ W.cell? ⟨wr.heap.size, 1, none⟩ = some (.string (bk s2)) ∧ W.cell? ⟨wr.heap.size, 2, none⟩ = some (.int .i64 sg) ∧ W.cell? ⟨wr.heap.size, 3, none⟩ = some (.int .u64 se)) ∧ Below (wr.heap.size + 1) wb W) W → Calls Try.prog 38 #[.agg #[.string (bk s1), .string (bk s2), .int .i64 sg, .int .u64 se]] W fun e w' => e = .returned (.bool true) ∧ (fun W => (W.cell? ⟨wr.heap.size, 0, none⟩ = some (.string (bk s1)) ∧ W.cell? ⟨wr.heap.size, 1, none⟩ = some (.string (bk s2)) ∧ W.cell? ⟨wr.heap.size, 2, none⟩ = some (.int .i64 sg) ∧ W.cell? ⟨wr.heap.size, 3, none⟩ = some (.int .u64 se)) ∧ Below (wr.heap.size + 1) wb W) w' := fun W hW => by
                    refine (mayBe_of ((s1, s2), sg, se) W).mono ?_
                    rintro e w' ⟨rfl, hb'⟩
                    exact ⟨by rw [hm], cl w' (kst W w' hW.2 hb'), kst W w' hW.2 hb'⟩
                  have hS0 : (fun W => (W.cell? ⟨wr.heap.size, 0, none⟩ = some (.string (bk s1)) ∧ W.cell? ⟨wr.heap.size, 1, none⟩ = some (.string (bk s2)) ∧ W.cell? ⟨wr.heap.size, 2, none⟩ = some (.int .i64 sg) ∧ W.cell? ⟨wr.heap.size, 3, none⟩ = some (.int .u64 se)) ∧ Below (wr.heap.size + 1) wb W) wb.drew := ⟨cl _ (Below.refl _ wb).drew, (Below.refl _ wb).drew⟩
                  clear HB2 HP HK hm kst cl hxH h2 hF hsz hbb
                  refine wp_region_L (fun W => (W.cell? ⟨wr.heap.size, 0, none⟩ = some (.string (bk s1)) ∧ W.cell? ⟨wr.heap.size, 1, none⟩ = some (.string (bk s2)) ∧ W.cell? ⟨wr.heap.size, 2, none⟩ = some (.int .i64 sg) ∧ W.cell? ⟨wr.heap.size, 3, none⟩ = some (.int .u64 se)) ∧ Below (wr.heap.size + 1) wb W) [] (by kernel_rfl) ?_
                  have yS : (fun W => (W.cell? ⟨wr.heap.size, 0, none⟩ = some (.string (bk s1)) ∧ W.cell? ⟨wr.heap.size, 1, none⟩ = some (.string (bk s2)) ∧ W.cell? ⟨wr.heap.size, 2, none⟩ = some (.int .i64 sg) ∧ W.cell? ⟨wr.heap.size, 3, none⟩ = some (.int .u64 se)) ∧ Below (wr.heap.size + 1) wb W) wb.drew := hS0
                  refine wpAnyL_take 0 rfl (by kernel_rfl) (by kernel_rfl) (by kernel_rfl) (by kernel_rfl) (fun _ _ _ h => h) (by kernel_rfl) (by intro w' hS'; obtain ⟨⟨x0, x1, x2, x3⟩, xb⟩ := hS'; go_simp <;> rfl) yS ?_
                  try simp only [List.getElem_toArray, List.getElem_cons_succ, List.getElem_cons_zero, Act.put, List.setIfInBounds_toArray, List.set_cons_zero, List.set_cons_succ]
                  refine wpAnyL_one 1 (by kernel_rfl) rfl (by kernel_rfl) ?_
                  intro K' hK'
                  go_simp
                  go_at_call 38
                  refine (kc _ yS).mono ?_
                  rintro e W1 ⟨rfl, hS1⟩
                  refine hK'.out _ _ (.inr hS1) ?_
                  clear hK' K'
                  try simp only [List.getElem_toArray, List.getElem_cons_succ, List.getElem_cons_zero, Act.put, List.setIfInBounds_toArray, List.set_cons_zero, List.set_cons_succ]
                  refine wpAnyL_take 2 rfl (by kernel_rfl) (by kernel_rfl) (by kernel_rfl) (by kernel_rfl) (fun _ _ _ h => h) (by kernel_rfl) (by intro w' hS'; obtain ⟨⟨x0, x1, x2, x3⟩, xb⟩ := hS'; go_simp <;> rfl) hS1 ?_
                  try simp only [List.getElem_toArray, List.getElem_cons_succ, List.getElem_cons_zero, Act.put, List.setIfInBounds_toArray, List.set_cons_zero, List.set_cons_succ]
                  refine wpAnyL_take 3 rfl (by kernel_rfl) (by kernel_rfl) (by kernel_rfl) (by kernel_rfl) (fun _ _ _ h => h) (by kernel_rfl) (by intro w' hS'; obtain ⟨⟨x0, x1, x2, x3⟩, xb⟩ := hS'; go_simp <;> rfl) hS1 ?_
                  try simp only [List.getElem_toArray, List.getElem_cons_succ, List.getElem_cons_zero, Act.put, List.setIfInBounds_toArray, List.set_cons_zero, List.set_cons_succ]
                  refine wpAnyL_take 4 rfl (by kernel_rfl) (by kernel_rfl) (by kernel_rfl) (by kernel_rfl) (fun _ _ _ h => h) (by kernel_rfl) (by intro w' hS'; obtain ⟨⟨x0, x1, x2, x3⟩, xb⟩ := hS'; go_simp <;> rfl) hS1 ?_
                  try simp only [List.getElem_toArray, List.getElem_cons_succ, List.getElem_cons_zero, Act.put, List.setIfInBounds_toArray, List.set_cons_zero, List.set_cons_succ]
                  refine wpAnyL_take 5 rfl (by kernel_rfl) (by kernel_rfl) (by kernel_rfl) (by kernel_rfl) (fun _ _ _ h => h) (by kernel_rfl) (by intro w' hS'; obtain ⟨⟨x0, x1, x2, x3⟩, xb⟩ := hS'; go_simp <;> rfl) hS1 ?_
                  try simp only [List.getElem_toArray, List.getElem_cons_succ, List.getElem_cons_zero, Act.put, List.setIfInBounds_toArray, List.set_cons_zero, List.set_cons_succ]
                  refine wpAnyL_take 6 rfl (by kernel_rfl) (by kernel_rfl) (by kernel_rfl) (by kernel_rfl) (fun _ _ _ h => h) (by kernel_rfl) (by intro w' hS'; obtain ⟨⟨x0, x1, x2, x3⟩, xb⟩ := hS'; go_simp <;> rfl) hS1 ?_
                  try simp only [List.getElem_toArray, List.getElem_cons_succ, List.getElem_cons_zero, Act.put, List.setIfInBounds_toArray, List.set_cons_zero, List.set_cons_succ]
                  refine wpAnyL_skip 7 rfl (by kernel_rfl) (by kernel_rfl) (by kernel_rfl) (by kernel_rfl) (fun _ _ _ h => h) (by kernel_rfl) hS1 ?_
                  try simp only [List.getElem_toArray, List.getElem_cons_succ, List.getElem_cons_zero, Act.put, List.setIfInBounds_toArray, List.set_cons_zero, List.set_cons_succ]
                  refine wpAnyL_skip 8 rfl (by kernel_rfl) (by kernel_rfl) (by kernel_rfl) (by kernel_rfl) (fun _ _ _ h => h) (by kernel_rfl) hS1 ?_
                  try simp only [List.getElem_toArray, List.getElem_cons_succ, List.getElem_cons_zero, Act.put, List.setIfInBounds_toArray, List.set_cons_zero, List.set_cons_succ]
                  refine wpAnyL_skip 9 rfl (by kernel_rfl) (by kernel_rfl) (by kernel_rfl) (by kernel_rfl) (fun _ _ _ h => h) (by kernel_rfl) hS1 ?_
                  try simp only [List.getElem_toArray, List.getElem_cons_succ, List.getElem_cons_zero, Act.put, List.setIfInBounds_toArray, List.set_cons_zero, List.set_cons_succ]
                  refine wpAnyL_skip 10 rfl (by kernel_rfl) (by kernel_rfl) (by kernel_rfl) (by kernel_rfl) (fun _ _ _ h => h) (by kernel_rfl) hS1 ?_
                  try simp only [List.getElem_toArray, List.getElem_cons_succ, List.getElem_cons_zero, Act.put, List.setIfInBounds_toArray, List.set_cons_zero, List.set_cons_succ]
                  refine wpAnyL_skip 11 rfl (by kernel_rfl) (by kernel_rfl) (by kernel_rfl) (by kernel_rfl) (fun _ _ _ h => h) (by kernel_rfl) hS1 ?_
                  try simp only [List.getElem_toArray, List.getElem_cons_succ, List.getElem_cons_zero, Act.put, List.setIfInBounds_toArray, List.set_cons_zero, List.set_cons_succ]
                  refine wpAnyL_skip 12 rfl (by kernel_rfl) (by kernel_rfl) (by kernel_rfl) (by kernel_rfl) (fun _ _ _ h => h) (by kernel_rfl) hS1 ?_
                  try simp only [List.getElem_toArray, List.getElem_cons_succ, List.getElem_cons_zero, Act.put, List.setIfInBounds_toArray, List.set_cons_zero, List.set_cons_succ]
                  refine wpAnyL_skip 13 rfl (by kernel_rfl) (by kernel_rfl) (by kernel_rfl) (by kernel_rfl) (fun _ _ _ h => h) (by kernel_rfl) hS1 ?_
                  try simp only [List.getElem_toArray, List.getElem_cons_succ, List.getElem_cons_zero, Act.put, List.setIfInBounds_toArray, List.set_cons_zero, List.set_cons_succ]
                  refine wpAnyL_skip 14 rfl (by kernel_rfl) (by kernel_rfl) (by kernel_rfl) (by kernel_rfl) (fun _ _ _ h => h) (by kernel_rfl) hS1 ?_
                  try simp only [List.getElem_toArray, List.getElem_cons_succ, List.getElem_cons_zero, Act.put, List.setIfInBounds_toArray, List.set_cons_zero, List.set_cons_succ]
                  refine wpAnyL_take 15 rfl (by kernel_rfl) (by kernel_rfl) (by kernel_rfl) (by kernel_rfl) (fun _ _ _ h => h) (by kernel_rfl) (by intro w' hS'; obtain ⟨⟨x0, x1, x2, x3⟩, xb⟩ := hS'; go_simp <;> rfl) hS1 ?_
                  try simp only [List.getElem_toArray, List.getElem_cons_succ, List.getElem_cons_zero, Act.put, List.setIfInBounds_toArray, List.set_cons_zero, List.set_cons_succ]
                  refine wpAnyL_take 16 rfl (by kernel_rfl) (by kernel_rfl) (by kernel_rfl) (by kernel_rfl) (fun _ _ _ h => h) (by kernel_rfl) (by intro w' hS'; obtain ⟨⟨x0, x1, x2, x3⟩, xb⟩ := hS'; go_simp <;> rfl) hS1 ?_
                  try simp only [List.getElem_toArray, List.getElem_cons_succ, List.getElem_cons_zero, Act.put, List.setIfInBounds_toArray, List.set_cons_zero, List.set_cons_succ]
                  refine wpAnyL_done (by kernel_rfl) (NoPanic.normal ?_) _
                  go_wp2
                  go_roundg (gk - 1)
                  case measure => omega
                  case rel => exact ⟨0 + 1, by omega, by go_num, hbw _ hS1.2, HN, HP2⟩
                · have hi0i : (0 : Int) < (i : Int) := by omega
                  have hi0n : 0 < i := by omega
                  have hi1 : (1 : Int) ≤ (i : Int) := by omega
                  have hi1n : 1 ≤ i := by omega
                  have hr : l[i - 1]? = some l[i - 1] := List.getElem?_eq_getElem (by omega)
                  obtain ⟨b', off', e', d0, d1, d2, d3⟩ := h2 (i - 1) l[i - 1] hr
                  cases e'
                  obtain ⟨r, hr'⟩ : ∃ r, r = l[i - 1] := ⟨_, rfl⟩
                  rw [← hr'] at hr d0 d1 d2 d3
                  obtain ⟨⟨r1, r2⟩, rg, re⟩ := r
                  have hpv : Hid (prev l i = some ((r1, r2), rg, re)) := by show _ = _; unfold prev; rw [if_neg hi0]; exact hr
                  have hrk := HK.out _ hpv.out
                  clear hr hr'
                  have cl2 : ∀ W, Below (wr.heap.size + 1) wb W → W.cell? ⟨b, off + (i - 1) * 4, none⟩ = some (.string (bk r1)) ∧ W.cell? ⟨b, off + (i - 1) * 4 + 1, none⟩ = some (.string (bk r2)) ∧ W.cell? ⟨b, off + (i - 1) * 4 + 2, none⟩ = some (.int .i64 rg) ∧ W.cell? ⟨b, off + (i - 1) * 4 + 3, none⟩ = some (.int .u64 re) := fun W hW =>
                    have hlb' := World.block_lt_of_cell? w _ d0
                    ⟨((hbw W hW).cell (p := ⟨b, off + (i - 1) * 4, none⟩) hlb').trans d0, ((hbw W hW).cell (p := ⟨b, off + (i - 1) * 4 + 1, none⟩) hlb').trans d1, ((hbw W hW).cell (p := ⟨b, off + (i - 1) * 4 + 2, none⟩) hlb').trans d2, ((hbw W hW).cell (p := ⟨b, off + (i - 1) * 4 + 3, none⟩) hlb').trans d3⟩
                  replace cl : ∀ W, Below (wr.heap.size + 1) wb W → W.cell? ⟨wr.heap.size, 0, none⟩ = some (.string (bk s1)) ∧ W.cell? ⟨wr.heap.size, 1, none⟩ = some (.string (bk s2)) ∧ W.cell? ⟨wr.heap.size, 2, none⟩ = some (.int .i64 sg) ∧ W.cell? ⟨wr.heap.size, 3, none⟩ = some (.int .u64 se) ∧ W.cell? ⟨b, off + (i - 1) * 4, none⟩ = some (.string (bk r1)) ∧ W.cell? ⟨b, off + (i - 1) * 4 + 1, none⟩ = some (.string (bk r2)) ∧ W.cell? ⟨b, off + (i - 1) * 4 + 2, none⟩ = some (.int .i64 rg) ∧ W.cell? ⟨b, off + (i - 1) * 4 + 3, none⟩ = some (.int .u64 re) := fun W hW => ⟨(cl W hW).1, (cl W hW).2.1, (cl W hW).2.2.1, (cl W hW).2.2.2, cl2 W hW⟩
                  have j1 : IntKind.i64.wrap ((i : Int) - 1) = (i : Int) - 1 := IntWalk.i64_in _ (by omega)
                  have j2 : (0 : Int) ≤ (i : Int) - 1 := by omega
                  have j3 : (i : Int) - 1 < (l.length : Int) := by omega
                  have j4 : ((i : Int) - 1).toNat = i - 1 := by omega
                  clear cl2 d0 d1 d2 d3
                  have hfe : folB ((r1, r2), rg, re) ((s1, s2), sg, se) = lnk ((r1, r2), rg, re) ((s1, s2), sg, se) := folB_eq (by
                      simp only [rOk, Bool.and_eq_true] at hrk
                      exact hrk.1.1) (by
                      simp only [rOk, Bool.and_eq_true] at hm
                      exact hm.1.1)
                  cases hap : folB ((r1, r2), rg, re) ((s1, s2), sg, se) with
                  | false =>
                    have E : Hid (B = 1) := by show _ = _; rw [HP.out, walk_at hxH.out, hm, hpv.out, lnkO, ← hfe, hap]; simp
                    have kc : ∀ W, (fun W => (W.cell? ⟨wr.heap.size, 0, none⟩ = some (.string (bk s1)) ∧ W.cell? ⟨wr.heap.size, 1, none⟩ = some (.string (bk s2)) ∧ W.cell? ⟨wr.heap.size, 2, none⟩ = some (.int .i64 sg) ∧ W.cell? ⟨wr.heap.size, 3, none⟩ = some (.int .u64 se) ∧ W.cell? ⟨b, off + (i - 1) * 4, none⟩ = some (.string (bk r1)) ∧ W.cell? ⟨b, off + (i - 1) * 4 + 1, none⟩ = some (.string (bk r2)) ∧ W.cell? ⟨b, off + (i - 1) * 4 + 2, none⟩ = some (.int .i64 rg) ∧ W.cell? ⟨b, off + (i - 1) * 4 + 3, none⟩ = some (.int .u64 re)) ∧ Below (wr.heap.size + 1) wb W) W → Calls Try.prog 38 #[.agg #[.string (bk s1), .string (bk s2), .int .i64 sg, .int .u64 se]] W fun e w' => e = .returned (.bool true) ∧ (fun W => (W.cell? ⟨wr.heap.size, 0, none⟩ = some (.string (bk s1)) ∧ W.cell? ⟨wr.heap.size, 1, none⟩ = some (.string (bk s2)) ∧ W.cell? ⟨wr.heap.size, 2, none⟩ = some (.int .i64 sg) ∧ W.cell? ⟨wr.heap.size, 3, none⟩ = some (.int .u64 se) ∧ W.cell? ⟨b, off + (i - 1) * 4, none⟩ = some (.string (bk r1)) ∧ W.cell? ⟨b, off + (i - 1) * 4 + 1, none⟩ = some (.string (bk r2)) ∧ W.cell? ⟨b, off + (i - 1) * 4 + 2, none⟩ = some (.int .i64 rg) ∧ W.cell? ⟨b, off + (i - 1) * 4 + 3, none⟩ = some (.int .u64 re)) ∧ Below (wr.heap.size + 1) wb W) w' := fun W hW => by
                      refine (mayBe_of ((s1, s2), sg, se) W).mono ?_
                      rintro e w' ⟨rfl, hb'⟩
                      exact ⟨by rw [hm], cl w' (kst W w' hW.2 hb'), kst W w' hW.2 hb'⟩
                    have ka : ∀ W, (fun W => (W.cell? ⟨wr.heap.size, 0, none⟩ = some (.string (bk s1)) ∧ W.cell? ⟨wr.heap.size, 1, none⟩ = some (.string (bk s2)) ∧ W.cell? ⟨wr.heap.size, 2, none⟩ = some (.int .i64 sg) ∧ W.cell? ⟨wr.heap.size, 3, none⟩ = some (.int .u64 se) ∧ W.cell? ⟨b, off + (i - 1) * 4, none⟩ = some (.string (bk r1)) ∧ W.cell? ⟨b, off + (i - 1) * 4 + 1, none⟩ = some (.string (bk r2)) ∧ W.cell? ⟨b, off + (i - 1) * 4 + 2, none⟩ = some (.int .i64 rg) ∧ W.cell? ⟨b, off + (i - 1) * 4 + 3, none⟩ = some (.int .u64 re)) ∧ Below (wr.heap.size + 1) wb W) W → Calls Try.prog 39 #[.agg #[.string (bk r1), .string (bk r2), .int .i64 rg, .int .u64 re], .agg #[.string (bk s1), .string (bk s2), .int .i64 sg, .int .u64 se]] W fun e w' => e = .returned (.bool false) ∧ (fun W => (W.cell? ⟨wr.heap.size, 0, none⟩ = some (.string (bk s1)) ∧ W.cell? ⟨wr.heap.size, 1, none⟩ = some (.string (bk s2)) ∧ W.cell? ⟨wr.heap.size, 2, none⟩ = some (.int .i64 sg) ∧ W.cell? ⟨wr.heap.size, 3, none⟩ = some (.int .u64 se) ∧ W.cell? ⟨b, off + (i - 1) * 4, none⟩ = some (.string (bk r1)) ∧ W.cell? ⟨b, off + (i - 1) * 4 + 1, none⟩ = some (.string (bk r2)) ∧ W.cell? ⟨b, off + (i - 1) * 4 + 2, none⟩ = some (.int .i64 rg) ∧ W.cell? ⟨b, off + (i - 1) * 4 + 3, none⟩ = some (.int .u64 re)) ∧ Below (wr.heap.size + 1) wb W) w' := fun W hW => by
                      refine (follows_of ((r1, r2), rg, re) ((s1, s2), sg, se) W).mono ?_
                      rintro e w' ⟨rfl, hb'⟩
                      exact ⟨by rw [hap], cl w' (kst W w' hW.2 hb'), kst W w' hW.2 hb'⟩
                    have hS0 : (fun W => (W.cell? ⟨wr.heap.size, 0, none⟩ = some (.string (bk s1)) ∧ W.cell? ⟨wr.heap.size, 1, none⟩ = some (.string (bk s2)) ∧ W.cell? ⟨wr.heap.size, 2, none⟩ = some (.int .i64 sg) ∧ W.cell? ⟨wr.heap.size, 3, none⟩ = some (.int .u64 se) ∧ W.cell? ⟨b, off + (i - 1) * 4, none⟩ = some (.string (bk r1)) ∧ W.cell? ⟨b, off + (i - 1) * 4 + 1, none⟩ = some (.string (bk r2)) ∧ W.cell? ⟨b, off + (i - 1) * 4 + 2, none⟩ = some (.int .i64 rg) ∧ W.cell? ⟨b, off + (i - 1) * 4 + 3, none⟩ = some (.int .u64 re)) ∧ Below (wr.heap.size + 1) wb W) wb.drew := ⟨cl _ (Below.refl _ wb).drew, (Below.refl _ wb).drew⟩
                    clear hfe hrk hap hpv hi0
                    clear HB2 HP HK hm kst cl hxH h2 hF hsz hbb
                    refine wp_region_L (fun W => (W.cell? ⟨wr.heap.size, 0, none⟩ = some (.string (bk s1)) ∧ W.cell? ⟨wr.heap.size, 1, none⟩ = some (.string (bk s2)) ∧ W.cell? ⟨wr.heap.size, 2, none⟩ = some (.int .i64 sg) ∧ W.cell? ⟨wr.heap.size, 3, none⟩ = some (.int .u64 se) ∧ W.cell? ⟨b, off + (i - 1) * 4, none⟩ = some (.string (bk r1)) ∧ W.cell? ⟨b, off + (i - 1) * 4 + 1, none⟩ = some (.string (bk r2)) ∧ W.cell? ⟨b, off + (i - 1) * 4 + 2, none⟩ = some (.int .i64 rg) ∧ W.cell? ⟨b, off + (i - 1) * 4 + 3, none⟩ = some (.int .u64 re)) ∧ Below (wr.heap.size + 1) wb W) [] (by kernel_rfl) ?_
                    have yS : (fun W => (W.cell? ⟨wr.heap.size, 0, none⟩ = some (.string (bk s1)) ∧ W.cell? ⟨wr.heap.size, 1, none⟩ = some (.string (bk s2)) ∧ W.cell? ⟨wr.heap.size, 2, none⟩ = some (.int .i64 sg) ∧ W.cell? ⟨wr.heap.size, 3, none⟩ = some (.int .u64 se) ∧ W.cell? ⟨b, off + (i - 1) * 4, none⟩ = some (.string (bk r1)) ∧ W.cell? ⟨b, off + (i - 1) * 4 + 1, none⟩ = some (.string (bk r2)) ∧ W.cell? ⟨b, off + (i - 1) * 4 + 2, none⟩ = some (.int .i64 rg) ∧ W.cell? ⟨b, off + (i - 1) * 4 + 3, none⟩ = some (.int .u64 re)) ∧ Below (wr.heap.size + 1) wb W) wb.drew := hS0
                    refine wpAnyL_take 0 rfl (by kernel_rfl) (by kernel_rfl) (by kernel_rfl) (by kernel_rfl) (fun _ _ _ h => h) (by kernel_rfl) (by intro w' hS'; obtain ⟨⟨x0, x1, x2, x3, y0, y1, y2, y3⟩, xb⟩ := hS'; go_simp <;> rfl) yS ?_
                    try simp only [List.getElem_toArray, List.getElem_cons_succ, List.getElem_cons_zero, Act.put, List.setIfInBounds_toArray, List.set_cons_zero, List.set_cons_succ]
                    refine wpAnyL_one 1 (by kernel_rfl) rfl (by kernel_rfl) ?_
                    intro K' hK'
                    go_simp
                    go_at_call 38
                    refine (kc _ yS).mono ?_
                    rintro e W1 ⟨rfl, hS1⟩
                    refine hK'.out _ _ (.inr hS1) ?_
                    clear hK' K'
                    try simp only [List.getElem_toArray, List.getElem_cons_succ, List.getElem_cons_zero, Act.put, List.setIfInBounds_toArray, List.set_cons_zero, List.set_cons_succ]
                    refine wpAnyL_take 2 rfl (by kernel_rfl) (by kernel_rfl) (by kernel_rfl) (by kernel_rfl) (fun _ _ _ h => h) (by kernel_rfl) (by intro w' hS'; obtain ⟨⟨x0, x1, x2, x3, y0, y1, y2, y3⟩, xb⟩ := hS'; go_simp <;> rfl) hS1 ?_
                    try simp only [List.getElem_toArray, List.getElem_cons_succ, List.getElem_cons_zero, Act.put, List.setIfInBounds_toArray, List.set_cons_zero, List.set_cons_succ]
                    refine wpAnyL_take 3 rfl (by kernel_rfl) (by kernel_rfl) (by kernel_rfl) (by kernel_rfl) (fun _ _ _ h => h) (by kernel_rfl) (by intro w' hS'; obtain ⟨⟨x0, x1, x2, x3, y0, y1, y2, y3⟩, xb⟩ := hS'; go_simp <;> rfl) hS1 ?_
                    try simp only [List.getElem_toArray, List.getElem_cons_succ, List.getElem_cons_zero, Act.put, List.setIfInBounds_toArray, List.set_cons_zero, List.set_cons_succ]
                    refine wpAnyL_take 4 rfl (by kernel_rfl) (by kernel_rfl) (by kernel_rfl) (by kernel_rfl) (fun _ _ _ h => h) (by kernel_rfl) (by intro w' hS'; obtain ⟨⟨x0, x1, x2, x3, y0, y1, y2, y3⟩, xb⟩ := hS'; go_simp <;> rfl) hS1 ?_
                    try simp only [List.getElem_toArray, List.getElem_cons_succ, List.getElem_cons_zero, Act.put, List.setIfInBounds_toArray, List.set_cons_zero, List.set_cons_succ]
                    refine wpAnyL_take 5 rfl (by kernel_rfl) (by kernel_rfl) (by kernel_rfl) (by kernel_rfl) (fun _ _ _ h => h) (by kernel_rfl) (by intro w' hS'; obtain ⟨⟨x0, x1, x2, x3, y0, y1, y2, y3⟩, xb⟩ := hS'; go_simp <;> rfl) hS1 ?_
                    try simp only [List.getElem_toArray, List.getElem_cons_succ, List.getElem_cons_zero, Act.put, List.setIfInBounds_toArray, List.set_cons_zero, List.set_cons_succ]
                    refine wpAnyL_take 6 rfl (by kernel_rfl) (by kernel_rfl) (by kernel_rfl) (by kernel_rfl) (fun _ _ _ h => h) (by kernel_rfl) (by intro w' hS'; obtain ⟨⟨x0, x1, x2, x3, y0, y1, y2, y3⟩, xb⟩ := hS'; go_simp <;> rfl) hS1 ?_
                    try simp only [List.getElem_toArray, List.getElem_cons_succ, List.getElem_cons_zero, Act.put, List.setIfInBounds_toArray, List.set_cons_zero, List.set_cons_succ]
                    refine wpAnyL_take 7 rfl (by kernel_rfl) (by kernel_rfl) (by kernel_rfl) (by kernel_rfl) (fun _ _ _ h => h) (by kernel_rfl) (by intro w' hS'; obtain ⟨⟨x0, x1, x2, x3, y0, y1, y2, y3⟩, xb⟩ := hS'; go_simp <;> rfl) hS1 ?_
                    try simp only [List.getElem_toArray, List.getElem_cons_succ, List.getElem_cons_zero, Act.put, List.setIfInBounds_toArray, List.set_cons_zero, List.set_cons_succ]
                    refine wpAnyL_take 8 rfl (by kernel_rfl) (by kernel_rfl) (by kernel_rfl) (by kernel_rfl) (fun _ _ _ h => h) (by kernel_rfl) (by intro w' hS'; obtain ⟨⟨x0, x1, x2, x3, y0, y1, y2, y3⟩, xb⟩ := hS'; go_simp <;> rfl) hS1 ?_
                    try simp only [List.getElem_toArray, List.getElem_cons_succ, List.getElem_cons_zero, Act.put, List.setIfInBounds_toArray, List.set_cons_zero, List.set_cons_succ]
                    refine wpAnyL_take 9 rfl (by kernel_rfl) (by kernel_rfl) (by kernel_rfl) (by kernel_rfl) (fun _ _ _ h => h) (by kernel_rfl) (by intro w' hS'; obtain ⟨⟨x0, x1, x2, x3, y0, y1, y2, y3⟩, xb⟩ := hS'; go_simp <;> rfl) hS1 ?_
                    try simp only [List.getElem_toArray, List.getElem_cons_succ, List.getElem_cons_zero, Act.put, List.setIfInBounds_toArray, List.set_cons_zero, List.set_cons_succ]
                    refine wpAnyL_take 10 rfl (by kernel_rfl) (by kernel_rfl) (by kernel_rfl) (by kernel_rfl) (fun _ _ _ h => h) (by kernel_rfl) (by intro w' hS'; obtain ⟨⟨x0, x1, x2, x3, y0, y1, y2, y3⟩, xb⟩ := hS'; go_simp <;> rfl) hS1 ?_
                    try simp only [List.getElem_toArray, List.getElem_cons_succ, List.getElem_cons_zero, Act.put, List.setIfInBounds_toArray, List.set_cons_zero, List.set_cons_succ]
                    refine wpAnyL_take 11 rfl (by kernel_rfl) (by kernel_rfl) (by kernel_rfl) (by kernel_rfl) (fun _ _ _ h => h) (by kernel_rfl) (by intro w' hS'; obtain ⟨⟨x0, x1, x2, x3, y0, y1, y2, y3⟩, xb⟩ := hS'; go_simp <;> rfl) hS1 ?_
                    try simp only [List.getElem_toArray, List.getElem_cons_succ, List.getElem_cons_zero, Act.put, List.setIfInBounds_toArray, List.set_cons_zero, List.set_cons_succ]
                    refine wpAnyL_take 12 rfl (by kernel_rfl) (by kernel_rfl) (by kernel_rfl) (by kernel_rfl) (fun _ _ _ h => h) (by kernel_rfl) (by intro w' hS'; obtain ⟨⟨x0, x1, x2, x3, y0, y1, y2, y3⟩, xb⟩ := hS'; go_simp <;> rfl) hS1 ?_
                    try simp only [List.getElem_toArray, List.getElem_cons_succ, List.getElem_cons_zero, Act.put, List.setIfInBounds_toArray, List.set_cons_zero, List.set_cons_succ]
                    refine wpAnyL_one 13 (by kernel_rfl) rfl (by kernel_rfl) ?_
                    intro K' hK'
                    go_simp
                    go_at_call 39
                    refine (ka _ hS1).mono ?_
                    rintro e W2 ⟨rfl, hS2⟩
                    refine hK'.out _ _ (.inr hS2) ?_
                    clear hK' K'
                    try simp only [List.getElem_toArray, List.getElem_cons_succ, List.getElem_cons_zero, Act.put, List.setIfInBounds_toArray, List.set_cons_zero, List.set_cons_succ]
                    refine wpAnyL_take 14 rfl (by kernel_rfl) (by kernel_rfl) (by kernel_rfl) (by kernel_rfl) (fun _ _ _ h => h) (by kernel_rfl) (by intro w' hS'; obtain ⟨⟨x0, x1, x2, x3, y0, y1, y2, y3⟩, xb⟩ := hS'; go_simp <;> rfl) hS2 ?_
                    try simp only [List.getElem_toArray, List.getElem_cons_succ, List.getElem_cons_zero, Act.put, List.setIfInBounds_toArray, List.set_cons_zero, List.set_cons_succ]
                    refine wpAnyL_take 15 rfl (by kernel_rfl) (by kernel_rfl) (by kernel_rfl) (by kernel_rfl) (fun _ _ _ h => h) (by kernel_rfl) (by intro w' hS'; obtain ⟨⟨x0, x1, x2, x3, y0, y1, y2, y3⟩, xb⟩ := hS'; go_simp <;> rfl) hS2 ?_
                    try simp only [List.getElem_toArray, List.getElem_cons_succ, List.getElem_cons_zero, Act.put, List.setIfInBounds_toArray, List.set_cons_zero, List.set_cons_succ]
                    refine wpAnyL_take 16 rfl (by kernel_rfl) (by kernel_rfl) (by kernel_rfl) (by kernel_rfl) (fun _ _ _ h => h) (by kernel_rfl) (by intro w' hS'; obtain ⟨⟨x0, x1, x2, x3, y0, y1, y2, y3⟩, xb⟩ := hS'; go_simp <;> rfl) hS2 ?_
                    try simp only [List.getElem_toArray, List.getElem_cons_succ, List.getElem_cons_zero, Act.put, List.setIfInBounds_toArray, List.set_cons_zero, List.set_cons_succ]
                    refine wpAnyL_done (by kernel_rfl) (NoPanic.normal ?_) _
                    go_wp2
                    go_ret
                    exact ⟨by rw [E.out]; rfl, hbw _ hS2.2⟩
                  | true =>
                    have HN : Hid (B = if walk (prev l (i + 1)) (l.drop (i + 1)) then 0 else 1) := by show _ = _; rw [HP.out, walk_at hxH.out, hm, hpv.out, lnkO, ← hfe, hap, prev_succ hxH.out]; simp
                    have kc : ∀ W, (fun W => (W.cell? ⟨wr.heap.size, 0, none⟩ = some (.string (bk s1)) ∧ W.cell? ⟨wr.heap.size, 1, none⟩ = some (.string (bk s2)) ∧ W.cell? ⟨wr.heap.size, 2, none⟩ = some (.int .i64 sg) ∧ W.cell? ⟨wr.heap.size, 3, none⟩ = some (.int .u64 se) ∧ W.cell? ⟨b, off + (i - 1) * 4, none⟩ = some (.string (bk r1)) ∧ W.cell? ⟨b, off + (i - 1) * 4 + 1, none⟩ = some (.string (bk r2)) ∧ W.cell? ⟨b, off + (i - 1) * 4 + 2, none⟩ = some (.int .i64 rg) ∧ W.cell? ⟨b, off + (i - 1) * 4 + 3, none⟩ = some (.int .u64 re)) ∧ Below (wr.heap.size + 1) wb W) W → Calls Try.prog 38 #[.agg #[.string (bk s1), .string (bk s2), .int .i64 sg, .int .u64 se]] W fun e w' => e = .returned (.bool true) ∧ (fun W => (W.cell? ⟨wr.heap.size, 0, none⟩ = some (.string (bk s1)) ∧ W.cell? ⟨wr.heap.size, 1, none⟩ = some (.string (bk s2)) ∧ W.cell? ⟨wr.heap.size, 2, none⟩ = some (.int .i64 sg) ∧ W.cell? ⟨wr.heap.size, 3, none⟩ = some (.int .u64 se) ∧ W.cell? ⟨b, off + (i - 1) * 4, none⟩ = some (.string (bk r1)) ∧ W.cell? ⟨b, off + (i - 1) * 4 + 1, none⟩ = some (.string (bk r2)) ∧ W.cell? ⟨b, off + (i - 1) * 4 + 2, none⟩ = some (.int .i64 rg) ∧ W.cell? ⟨b, off + (i - 1) * 4 + 3, none⟩ = some (.int .u64 re)) ∧ Below (wr.heap.size + 1) wb W) w' := fun W hW => by
                      refine (mayBe_of ((s1, s2), sg, se) W).mono ?_
                      rintro e w' ⟨rfl, hb'⟩
                      exact ⟨by rw [hm], cl w' (kst W w' hW.2 hb'), kst W w' hW.2 hb'⟩
                    have ka : ∀ W, (fun W => (W.cell? ⟨wr.heap.size, 0, none⟩ = some (.string (bk s1)) ∧ W.cell? ⟨wr.heap.size, 1, none⟩ = some (.string (bk s2)) ∧ W.cell? ⟨wr.heap.size, 2, none⟩ = some (.int .i64 sg) ∧ W.cell? ⟨wr.heap.size, 3, none⟩ = some (.int .u64 se) ∧ W.cell? ⟨b, off + (i - 1) * 4, none⟩ = some (.string (bk r1)) ∧ W.cell? ⟨b, off + (i - 1) * 4 + 1, none⟩ = some (.string (bk r2)) ∧ W.cell? ⟨b, off + (i - 1) * 4 + 2, none⟩ = some (.int .i64 rg) ∧ W.cell? ⟨b, off + (i - 1) * 4 + 3, none⟩ = some (.int .u64 re)) ∧ Below (wr.heap.size + 1) wb W) W → Calls Try.prog 39 #[.agg #[.string (bk r1), .string (bk r2), .int .i64 rg, .int .u64 re], .agg #[.string (bk s1), .string (bk s2), .int .i64 sg, .int .u64 se]] W fun e w' => e = .returned (.bool true) ∧ (fun W => (W.cell? ⟨wr.heap.size, 0, none⟩ = some (.string (bk s1)) ∧ W.cell? ⟨wr.heap.size, 1, none⟩ = some (.string (bk s2)) ∧ W.cell? ⟨wr.heap.size, 2, none⟩ = some (.int .i64 sg) ∧ W.cell? ⟨wr.heap.size, 3, none⟩ = some (.int .u64 se) ∧ W.cell? ⟨b, off + (i - 1) * 4, none⟩ = some (.string (bk r1)) ∧ W.cell? ⟨b, off + (i - 1) * 4 + 1, none⟩ = some (.string (bk r2)) ∧ W.cell? ⟨b, off + (i - 1) * 4 + 2, none⟩ = some (.int .i64 rg) ∧ W.cell? ⟨b, off + (i - 1) * 4 + 3, none⟩ = some (.int .u64 re)) ∧ Below (wr.heap.size + 1) wb W) w' := fun W hW => by
                      refine (follows_of ((r1, r2), rg, re) ((s1, s2), sg, se) W).mono ?_
                      rintro e w' ⟨rfl, hb'⟩
                      exact ⟨by rw [hap], cl w' (kst W w' hW.2 hb'), kst W w' hW.2 hb'⟩
                    have hS0 : (fun W => (W.cell? ⟨wr.heap.size, 0, none⟩ = some (.string (bk s1)) ∧ W.cell? ⟨wr.heap.size, 1, none⟩ = some (.string (bk s2)) ∧ W.cell? ⟨wr.heap.size, 2, none⟩ = some (.int .i64 sg) ∧ W.cell? ⟨wr.heap.size, 3, none⟩ = some (.int .u64 se) ∧ W.cell? ⟨b, off + (i - 1) * 4, none⟩ = some (.string (bk r1)) ∧ W.cell? ⟨b, off + (i - 1) * 4 + 1, none⟩ = some (.string (bk r2)) ∧ W.cell? ⟨b, off + (i - 1) * 4 + 2, none⟩ = some (.int .i64 rg) ∧ W.cell? ⟨b, off + (i - 1) * 4 + 3, none⟩ = some (.int .u64 re)) ∧ Below (wr.heap.size + 1) wb W) wb.drew := ⟨cl _ (Below.refl _ wb).drew, (Below.refl _ wb).drew⟩
                    clear hfe hrk hap hpv hi0
                    clear HB2 HP HK hm kst cl hxH h2 hF hsz hbb
                    refine wp_region_L (fun W => (W.cell? ⟨wr.heap.size, 0, none⟩ = some (.string (bk s1)) ∧ W.cell? ⟨wr.heap.size, 1, none⟩ = some (.string (bk s2)) ∧ W.cell? ⟨wr.heap.size, 2, none⟩ = some (.int .i64 sg) ∧ W.cell? ⟨wr.heap.size, 3, none⟩ = some (.int .u64 se) ∧ W.cell? ⟨b, off + (i - 1) * 4, none⟩ = some (.string (bk r1)) ∧ W.cell? ⟨b, off + (i - 1) * 4 + 1, none⟩ = some (.string (bk r2)) ∧ W.cell? ⟨b, off + (i - 1) * 4 + 2, none⟩ = some (.int .i64 rg) ∧ W.cell? ⟨b, off + (i - 1) * 4 + 3, none⟩ = some (.int .u64 re)) ∧ Below (wr.heap.size + 1) wb W) [] (by kernel_rfl) ?_
                    have yS : (fun W => (W.cell? ⟨wr.heap.size, 0, none⟩ = some (.string (bk s1)) ∧ W.cell? ⟨wr.heap.size, 1, none⟩ = some (.string (bk s2)) ∧ W.cell? ⟨wr.heap.size, 2, none⟩ = some (.int .i64 sg) ∧ W.cell? ⟨wr.heap.size, 3, none⟩ = some (.int .u64 se) ∧ W.cell? ⟨b, off + (i - 1) * 4, none⟩ = some (.string (bk r1)) ∧ W.cell? ⟨b, off + (i - 1) * 4 + 1, none⟩ = some (.string (bk r2)) ∧ W.cell? ⟨b, off + (i - 1) * 4 + 2, none⟩ = some (.int .i64 rg) ∧ W.cell? ⟨b, off + (i - 1) * 4 + 3, none⟩ = some (.int .u64 re)) ∧ Below (wr.heap.size + 1) wb W) wb.drew := hS0
                    refine wpAnyL_take 0 rfl (by kernel_rfl) (by kernel_rfl) (by kernel_rfl) (by kernel_rfl) (fun _ _ _ h => h) (by kernel_rfl) (by intro w' hS'; obtain ⟨⟨x0, x1, x2, x3, y0, y1, y2, y3⟩, xb⟩ := hS'; go_simp <;> rfl) yS ?_
                    try simp only [List.getElem_toArray, List.getElem_cons_succ, List.getElem_cons_zero, Act.put, List.setIfInBounds_toArray, List.set_cons_zero, List.set_cons_succ]
                    refine wpAnyL_one 1 (by kernel_rfl) rfl (by kernel_rfl) ?_
                    intro K' hK'
                    go_simp
                    go_at_call 38
                    refine (kc _ yS).mono ?_
                    rintro e W1 ⟨rfl, hS1⟩
                    refine hK'.out _ _ (.inr hS1) ?_
                    clear hK' K'
                    try simp only [List.getElem_toArray, List.getElem_cons_succ, List.getElem_cons_zero, Act.put, List.setIfInBounds_toArray, List.set_cons_zero, List.set_cons_succ]
                    refine wpAnyL_take 2 rfl (by kernel_rfl) (by kernel_rfl) (by kernel_rfl) (by kernel_rfl) (fun _ _ _ h => h) (by kernel_rfl) (by intro w' hS'; obtain ⟨⟨x0, x1, x2, x3, y0, y1, y2, y3⟩, xb⟩ := hS'; go_simp <;> rfl) hS1 ?_
                    try simp only [List.getElem_toArray, List.getElem_cons_succ, List.getElem_cons_zero, Act.put, List.setIfInBounds_toArray, List.set_cons_zero, List.set_cons_succ]
                    refine wpAnyL_take 3 rfl (by kernel_rfl) (by kernel_rfl) (by kernel_rfl) (by kernel_rfl) (fun _ _ _ h => h) (by kernel_rfl) (by intro w' hS'; obtain ⟨⟨x0, x1, x2, x3, y0, y1, y2, y3⟩, xb⟩ := hS'; go_simp <;> rfl) hS1 ?_
                    try simp only [List.getElem_toArray, List.getElem_cons_succ, List.getElem_cons_zero, Act.put, List.setIfInBounds_toArray, List.set_cons_zero, List.set_cons_succ]
                    refine wpAnyL_take 4 rfl (by kernel_rfl) (by kernel_rfl) (by kernel_rfl) (by kernel_rfl) (fun _ _ _ h => h) (by kernel_rfl) (by intro w' hS'; obtain ⟨⟨x0, x1, x2, x3, y0, y1, y2, y3⟩, xb⟩ := hS'; go_simp <;> rfl) hS1 ?_
                    try simp only [List.getElem_toArray, List.getElem_cons_succ, List.getElem_cons_zero, Act.put, List.setIfInBounds_toArray, List.set_cons_zero, List.set_cons_succ]
                    refine wpAnyL_take 5 rfl (by kernel_rfl) (by kernel_rfl) (by kernel_rfl) (by kernel_rfl) (fun _ _ _ h => h) (by kernel_rfl) (by intro w' hS'; obtain ⟨⟨x0, x1, x2, x3, y0, y1, y2, y3⟩, xb⟩ := hS'; go_simp <;> rfl) hS1 ?_
                    try simp only [List.getElem_toArray, List.getElem_cons_succ, List.getElem_cons_zero, Act.put, List.setIfInBounds_toArray, List.set_cons_zero, List.set_cons_succ]
                    refine wpAnyL_take 6 rfl (by kernel_rfl) (by kernel_rfl) (by kernel_rfl) (by kernel_rfl) (fun _ _ _ h => h) (by kernel_rfl) (by intro w' hS'; obtain ⟨⟨x0, x1, x2, x3, y0, y1, y2, y3⟩, xb⟩ := hS'; go_simp <;> rfl) hS1 ?_
                    try simp only [List.getElem_toArray, List.getElem_cons_succ, List.getElem_cons_zero, Act.put, List.setIfInBounds_toArray, List.set_cons_zero, List.set_cons_succ]
                    refine wpAnyL_take 7 rfl (by kernel_rfl) (by kernel_rfl) (by kernel_rfl) (by kernel_rfl) (fun _ _ _ h => h) (by kernel_rfl) (by intro w' hS'; obtain ⟨⟨x0, x1, x2, x3, y0, y1, y2, y3⟩, xb⟩ := hS'; go_simp <;> rfl) hS1 ?_
                    try simp only [List.getElem_toArray, List.getElem_cons_succ, List.getElem_cons_zero, Act.put, List.setIfInBounds_toArray, List.set_cons_zero, List.set_cons_succ]
                    refine wpAnyL_take 8 rfl (by kernel_rfl) (by kernel_rfl) (by kernel_rfl) (by kernel_rfl) (fun _ _ _ h => h) (by kernel_rfl) (by intro w' hS'; obtain ⟨⟨x0, x1, x2, x3, y0, y1, y2, y3⟩, xb⟩ := hS'; go_simp <;> rfl) hS1 ?_
                    try simp only [List.getElem_toArray, List.getElem_cons_succ, List.getElem_cons_zero, Act.put, List.setIfInBounds_toArray, List.set_cons_zero, List.set_cons_succ]
                    refine wpAnyL_take 9 rfl (by kernel_rfl) (by kernel_rfl) (by kernel_rfl) (by kernel_rfl) (fun _ _ _ h => h) (by kernel_rfl) (by intro w' hS'; obtain ⟨⟨x0, x1, x2, x3, y0, y1, y2, y3⟩, xb⟩ := hS'; go_simp <;> rfl) hS1 ?_
                    try simp only [List.getElem_toArray, List.getElem_cons_succ, List.getElem_cons_zero, Act.put, List.setIfInBounds_toArray, List.set_cons_zero, List.set_cons_succ]
                    refine wpAnyL_take 10 rfl (by kernel_rfl) (by kernel_rfl) (by kernel_rfl) (by kernel_rfl) (fun _ _ _ h => h) (by kernel_rfl) (by intro w' hS'; obtain ⟨⟨x0, x1, x2, x3, y0, y1, y2, y3⟩, xb⟩ := hS'; go_simp <;> rfl) hS1 ?_
                    try simp only [List.getElem_toArray, List.getElem_cons_succ, List.getElem_cons_zero, Act.put, List.setIfInBounds_toArray, List.set_cons_zero, List.set_cons_succ]
                    refine wpAnyL_take 11 rfl (by kernel_rfl) (by kernel_rfl) (by kernel_rfl) (by kernel_rfl) (fun _ _ _ h => h) (by kernel_rfl) (by intro w' hS'; obtain ⟨⟨x0, x1, x2, x3, y0, y1, y2, y3⟩, xb⟩ := hS'; go_simp <;> rfl) hS1 ?_
                    try simp only [List.getElem_toArray, List.getElem_cons_succ, List.getElem_cons_zero, Act.put, List.setIfInBounds_toArray, List.set_cons_zero, List.set_cons_succ]
                    refine wpAnyL_take 12 rfl (by kernel_rfl) (by kernel_rfl) (by kernel_rfl) (by kernel_rfl) (fun _ _ _ h => h) (by kernel_rfl) (by intro w' hS'; obtain ⟨⟨x0, x1, x2, x3, y0, y1, y2, y3⟩, xb⟩ := hS'; go_simp <;> rfl) hS1 ?_
                    try simp only [List.getElem_toArray, List.getElem_cons_succ, List.getElem_cons_zero, Act.put, List.setIfInBounds_toArray, List.set_cons_zero, List.set_cons_succ]
                    refine wpAnyL_one 13 (by kernel_rfl) rfl (by kernel_rfl) ?_
                    intro K' hK'
                    go_simp
                    go_at_call 39
                    refine (ka _ hS1).mono ?_
                    rintro e W2 ⟨rfl, hS2⟩
                    refine hK'.out _ _ (.inr hS2) ?_
                    clear hK' K'
                    try simp only [List.getElem_toArray, List.getElem_cons_succ, List.getElem_cons_zero, Act.put, List.setIfInBounds_toArray, List.set_cons_zero, List.set_cons_succ]
                    refine wpAnyL_take 14 rfl (by kernel_rfl) (by kernel_rfl) (by kernel_rfl) (by kernel_rfl) (fun _ _ _ h => h) (by kernel_rfl) (by intro w' hS'; obtain ⟨⟨x0, x1, x2, x3, y0, y1, y2, y3⟩, xb⟩ := hS'; go_simp <;> rfl) hS2 ?_
                    try simp only [List.getElem_toArray, List.getElem_cons_succ, List.getElem_cons_zero, Act.put, List.setIfInBounds_toArray, List.set_cons_zero, List.set_cons_succ]
                    refine wpAnyL_take 15 rfl (by kernel_rfl) (by kernel_rfl) (by kernel_rfl) (by kernel_rfl) (fun _ _ _ h => h) (by kernel_rfl) (by intro w' hS'; obtain ⟨⟨x0, x1, x2, x3, y0, y1, y2, y3⟩, xb⟩ := hS'; go_simp <;> rfl) hS2 ?_
                    try simp only [List.getElem_toArray, List.getElem_cons_succ, List.getElem_cons_zero, Act.put, List.setIfInBounds_toArray, List.set_cons_zero, List.set_cons_succ]
                    refine wpAnyL_take 16 rfl (by kernel_rfl) (by kernel_rfl) (by kernel_rfl) (by kernel_rfl) (fun _ _ _ h => h) (by kernel_rfl) (by intro w' hS'; obtain ⟨⟨x0, x1, x2, x3, y0, y1, y2, y3⟩, xb⟩ := hS'; go_simp <;> rfl) hS2 ?_
                    try simp only [List.getElem_toArray, List.getElem_cons_succ, List.getElem_cons_zero, Act.put, List.setIfInBounds_toArray, List.set_cons_zero, List.set_cons_succ]
                    refine wpAnyL_done (by kernel_rfl) (NoPanic.normal ?_) _
                    go_wp2
                    go_roundg (gk - 1)
                    case measure => omega
                    case rel => exact ⟨i + 1, by omega, by go_num, hbw _ hS2.2, HN, HP2⟩
            · have hlti : ¬ (i : Int) < (l.length : Int) := by omega
              have E : Hid (B = 0) := by show _ = _; rw [HP.out, List.drop_eq_nil_of_le (by omega)]; simp [walk]
              clear h2 HP HK hF HB2
              go_wp2
              go_ret
              exact ⟨by rw [E.out]; rfl, hb⟩
        · have E : Hid (B = 1) := by
            show _ = _
            rw [HB.out, if_neg]
            intro h
            simp only [mayC, hends, ht0, Bool.and_eq_true, decide_eq_true_eq] at h
            simp at h
          clear HB h2 hF h0 hf ht hends
          go_enter Try.func25, Try.ntmps25
          go_wp2
          go_ret
          exact ⟨by rw [E.out]; rfl, Below.refl _ _⟩
      · have E : Hid (B = 1) := by
          show _ = _
          rw [HB.out, if_neg]
          intro h
          simp only [mayC, hends, hf0, Bool.and_eq_true, decide_eq_true_eq] at h
          simp at h
        clear HB h2 hF h0 hf ht hends
        go_enter Try.func25, Try.ntmps25
        go_wp2
        go_ret
        exact ⟨by rw [E.out]; rfl, Below.refl _ _⟩
end Go.Proofs.Ytlgnnfhnkfjafaa

