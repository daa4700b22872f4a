import Derived.Test.YtghhijliamnmiaaHo38
/- The law OracleCodes answers true. -/
namespace Go.Proofs.Ytghhijliamnmiaa
open Go.RowKit OracleMath WireMath
set_option maxRecDepth 100000
set_option linter.unusedSimpArgs false
set_option linter.unusedVariables false

set_option maxHeartbeats 8000000 in
theorem codes_law (x : Wn) (w : World) (hok : OkW x) : Calls Try.prog 4 #[wv x] w fun e w' => e = .returned (.bool true) ∧ Below w.heap.size w w' := by
  have kE0 : Hid (∀ W, _) := fun W => enc_of x W hok
  have kM0 : Hid (∀ W, _) := fun W => rmay_of x W hok
  cases hm : mayB x with
  | false =>
    rw [hm] at kE0 kM0
    obtain ⟨n, l, s⟩ := x
    dsimp only [wv] at *
    obtain ⟨t0, n0, B0⟩ := one_box w (.cells #[.int .u64 (n : Int), .int .u64 (l : Int), .bool s] 24)
    obtain ⟨-, c0, c1, c2⟩ := h_cells n0
    have k1 := kE0.out (w.alloc (.cells #[.int .u64 (n : Int), .int .u64 (l : Int), .bool s] 24))
    obtain ⟨g, hg⟩ : ∃ g, g = w.heap.size := ⟨_, rfl⟩
    rw [← hg] at n0 c0 c1 c2
    clear hm hok t0
    go_enter Try.func4, Try.ntmps4
    go_wp2_with fail
    rw [← hg]
    clear hg
    generalize w.alloc (.cells #[.int .u64 (n : Int), .int .u64 (l : Int), .bool s] 24) = W0 at *
    refine k1.mono ?_
    rintro e w1 ⟨⟨v1, cd1, rfl, hE⟩, hb1⟩
    rw [if_neg (by decide)] at hE
    obtain ⟨rfl, rfl⟩ := hE
    have n1 := (hb1.block g (Array.getElem?_eq_some_iff.1 n0).1).trans n0
    have hb2 := keep_step B0 (Nat.le_refl _) hb1
    clear c0 c1 c2 B0 n0 k1 hb1 kE0
    obtain ⟨-, c0, c1, c2⟩ := h_cells n1
    have k2 := kM0.out w1
    go_wp2_with fail
    refine k2.mono ?_
    rintro e w2 ⟨rfl, hb3⟩
    have hb4 := keep_step hb2 (Nat.le_refl _) hb3
    have kW := awake_of w2
    clear k2 hb2 hb3 n1 c0 c1 c2 kM0
    go_wp2_with fail
    refine kW.mono ?_
    rintro e w3 ⟨rfl, hb5⟩
    have hb6 := keep_step hb4 (Nat.le_refl _) hb5
    go_wp2
    go_ret
    exact ⟨rfl, hb6⟩
  | true =>
    rw [hm] at kE0 kM0
    have hEl : ∀ c ∈ encB x, c < 256 := fun c hc => enc_lt hc
    have hElen : (encB x).length ≤ 140737488355328 := by have := enc_len hok; omega
    have hdec := dec_back hok
    have hdok : decOk (encB x) = true := by
      simp only [decOk, Bool.and_eq_true, decide_eq_true_eq, Bool.not_eq_true', decide_eq_false_iff_not]
      rw [hdec.1, hdec.2.1, hdec.2.2]
      exact ⟨rfl, by omega, hm⟩
    have hdv : decV (encB x) = x := by unfold decV; rw [hdok, if_pos rfl, hdec.1]
    have kD : Hid (∀ v W, Bn W v (encB x) → Calls Try.prog 19 #[v] W fun e w' => e = .returned (.tuple #[wv x, .int .i64 0]) ∧ Below W.heap.size W w') := fun v W h => by have h9 := dec_of _ v W h hEl hElen; rw [hdv, hdok] at h9; exact h9
    have kE : Hid (∀ W, Calls Try.prog 20 #[wv x] W fun e w' => ∃ v, e = .returned v ∧ Bn w' v (encB x) ∧ Below W.heap.size W w') := fun W => renc_of x W hok
    have HSE : Hid (∀ v W, Bn W v (encB x) → (convert 37 9 v).run Try.prog W = .ok (.string (Wi.str (encB x))) W) := fun v W hv => Wi.str_of hv hEl
    obtain ⟨EB, hEB⟩ : ∃ EB, EB = encB x := ⟨_, rfl⟩
    obtain ⟨SB, hSB⟩ : ∃ S, S = Wi.str (encB x) := ⟨_, rfl⟩
    rw [← hSB] at HSE
    rw [← hEB] at kD kE HSE kE0
    obtain ⟨n, l, s⟩ := x
    dsimp only [wv] at *
    obtain ⟨t0, n0, B0⟩ := one_box w (.cells #[.int .u64 (n : Int), .int .u64 (l : Int), .bool s] 24)
    obtain ⟨-, c0, c1, c2⟩ := h_cells n0
    have k1 := kE0.out (w.alloc (.cells #[.int .u64 (n : Int), .int .u64 (l : Int), .bool s] 24))
    obtain ⟨g, hg⟩ : ∃ g, g = w.heap.size := ⟨_, rfl⟩
    rw [← hg] at n0 c0 c1 c2
    clear hm hok t0 hEB hSB hEl hElen hdec hdok hdv
    go_enter Try.func4, Try.ntmps4
    go_wp2_with fail
    rw [← hg]
    clear hg
    generalize w.alloc (.cells #[.int .u64 (n : Int), .int .u64 (l : Int), .bool s] 24) = W0 at *
    refine k1.mono ?_
    rintro e w1 ⟨⟨v1, cd1, rfl, hE⟩, hb1⟩
    rw [if_pos rfl] at hE
    obtain ⟨rfl, hB1⟩ := hE
    have n1 := (hb1.block g (Array.getElem?_eq_some_iff.1 n0).1).trans n0
    have hb2 := keep_step B0 (Nat.le_refl _) hb1
    clear c0 c1 c2 B0 n0 k1 hb1 kE0
    obtain ⟨-, c0, c1, c2⟩ := h_cells n1
    have k2 := kM0.out w1
    go_wp2_with fail
    refine k2.mono ?_
    rintro e w2 ⟨rfl, hb3⟩
    have hb4 := keep_step hb2 (Nat.le_refl _) hb3
    have hB2 := bn_below hB1 hb3
    have n2 := (hb3.block g (Array.getElem?_eq_some_iff.1 n1).1).trans n1
    have k3 := kD.out v1 w2 hB2
    clear k2 hb2 hb3 n1 c0 c1 c2 kM0 hB1 kD
    go_wp2_with fail
    refine k3.mono ?_
    rintro e w3 ⟨rfl, hb5⟩
    have hb6 := keep_step hb4 (Nat.le_refl _) hb5
    have hB3 := bn_below hB2 hb5
    have n3 := (hb5.block g (Array.getElem?_eq_some_iff.1 n2).1).trans n2
    obtain ⟨t4, n4, B4⟩ := one_box w3 (.cells #[.int .u64 (n : Int), .int .u64 (l : Int), .bool s] 24)
    have hb7 := keep_step hb6 (Nat.le_refl _) B4
    have hB4 := bn_below hB3 B4
    have n5 := (B4.block g (Array.getElem?_eq_some_iff.1 n3).1).trans n3
    have HCVB : Hid (∀ W, Below (w3.alloc (.cells #[.int .u64 (n : Int), .int .u64 (l : Int), .bool s] 24)).heap.size (w3.alloc (.cells #[.int .u64 (n : Int), .int .u64 (l : Int), .bool s] 24)) W → (convert 37 9 v1).run Try.prog W = .ok (.string SB) W) := fun W hW => HSE.out _ _ (bn_below hB4 hW)
    obtain ⟨ba, bn, bc, rfl⟩ : ∃ a k c, v1 = .slice a k c := by obtain ⟨a, c, h9, _⟩ := hB4; exact ⟨a, _, c, h9⟩
    obtain ⟨h, hh⟩ : ∃ h, h = w3.heap.size := ⟨_, rfl⟩
    rw [← hh] at n4
    clear k3 hb4 hb5 hb6 hB2 hB3 n2 n3 B4 t4 hB4
    go_wp2
    rw [← hh]
    clear hh
    generalize w3.alloc (.cells #[.int .u64 (n : Int), .int .u64 (l : Int), .bool s] 24) = w5 at *
    have HB5 : Hid (Below w.heap.size w w5) := hb7
    clear hb7
    refine wp_region_L (fun W => (convert 37 9 (.slice ba bn bc)).run Try.prog W = .ok (.string SB) W ∧ W.heap[g]? = some (.cells #[.int .u64 (n : Int), .int .u64 (l : Int), .bool s] 24 (0, 0)) ∧ W.heap[h]? = some (.cells #[.int .u64 (n : Int), .int .u64 (l : Int), .bool s] 24 (0, 0)) ∧ Below w5.heap.size w5 W) [] (by kernel_rfl) ?_
    have yS : (fun W => (convert 37 9 (.slice ba bn bc)).run Try.prog W = .ok (.string SB) W ∧ W.heap[g]? = some (.cells #[.int .u64 (n : Int), .int .u64 (l : Int), .bool s] 24 (0, 0)) ∧ W.heap[h]? = some (.cells #[.int .u64 (n : Int), .int .u64 (l : Int), .bool s] 24 (0, 0)) ∧ Below w5.heap.size w5 W) w5.drew := ⟨HCVB.out _ (Below.refl _ w5).drew, n5, n4, (Below.refl _ w5).drew⟩
    refine wpAnyL_take 0 rfl (by kernel_rfl) (by kernel_rfl) (by kernel_rfl) (by kernel_rfl) (fun _ _ _ h => h) (by kernel_rfl) (by intro w' hS'; obtain ⟨x0, xg, xh, xb⟩ := hS'; obtain ⟨-, c0, c1, c2⟩ := h_cells xg; obtain ⟨-, d0, d1, d2⟩ := h_cells xh; go_simp <;> rfl) yS ?_
    try simp only [List.getElem_toArray, List.getElem_cons_succ, List.getElem_cons_zero, Act.put, List.setIfInBounds_toArray, List.set_cons_zero, List.set_cons_succ]
    refine wpAnyL_take 1 rfl (by kernel_rfl) (by kernel_rfl) (by kernel_rfl) (by kernel_rfl) (fun _ _ _ h => h) (by kernel_rfl) (by intro w' hS'; obtain ⟨x0, xg, xh, xb⟩ := hS'; obtain ⟨-, c0, c1, c2⟩ := h_cells xg; obtain ⟨-, d0, d1, d2⟩ := h_cells xh; go_simp <;> rfl) yS ?_
    try simp only [List.getElem_toArray, List.getElem_cons_succ, List.getElem_cons_zero, Act.put, List.setIfInBounds_toArray, List.set_cons_zero, List.set_cons_succ]
    refine wpAnyL_take 2 rfl (by kernel_rfl) (by kernel_rfl) (by kernel_rfl) (by kernel_rfl) (fun _ _ _ h => h) (by kernel_rfl) (by intro w' hS'; obtain ⟨x0, xg, xh, xb⟩ := hS'; obtain ⟨-, c0, c1, c2⟩ := h_cells xg; obtain ⟨-, d0, d1, d2⟩ := h_cells xh; go_simp <;> rfl) yS ?_
    try simp only [List.getElem_toArray, List.getElem_cons_succ, List.getElem_cons_zero, Act.put, List.setIfInBounds_toArray, List.set_cons_zero, List.set_cons_succ]
    refine wpAnyL_take 3 rfl (by kernel_rfl) (by kernel_rfl) (by kernel_rfl) (by kernel_rfl) (fun _ _ _ h => h) (by kernel_rfl) (by intro w' hS'; obtain ⟨x0, xg, xh, xb⟩ := hS'; obtain ⟨-, c0, c1, c2⟩ := h_cells xg; obtain ⟨-, d0, d1, d2⟩ := h_cells xh; go_simp <;> rfl) yS ?_
    try simp only [List.getElem_toArray, List.getElem_cons_succ, List.getElem_cons_zero, Act.put, List.setIfInBounds_toArray, List.set_cons_zero, List.set_cons_succ]
    refine wpAnyL_take 4 rfl (by kernel_rfl) (by kernel_rfl) (by kernel_rfl) (by kernel_rfl) (fun _ _ _ h => h) (by kernel_rfl) (by intro w' hS'; obtain ⟨x0, xg, xh, xb⟩ := hS'; obtain ⟨-, c0, c1, c2⟩ := h_cells xg; obtain ⟨-, d0, d1, d2⟩ := h_cells xh; go_simp <;> rfl) yS ?_
    try simp only [List.getElem_toArray, List.getElem_cons_succ, List.getElem_cons_zero, Act.put, List.setIfInBounds_toArray, List.set_cons_zero, List.set_cons_succ]
    refine wpAnyL_take 5 rfl (by kernel_rfl) (by kernel_rfl) (by kernel_rfl) (by kernel_rfl) (fun _ _ _ h => h) (by kernel_rfl) (by intro w' hS'; obtain ⟨x0, xg, xh, xb⟩ := hS'; obtain ⟨-, c0, c1, c2⟩ := h_cells xg; obtain ⟨-, d0, d1, d2⟩ := h_cells xh; go_simp <;> rfl) yS ?_
    try simp only [List.getElem_toArray, List.getElem_cons_succ, List.getElem_cons_zero, Act.put, List.setIfInBounds_toArray, List.set_cons_zero, List.set_cons_succ]
    refine wpAnyL_one 6 (by kernel_rfl) rfl (by kernel_rfl) ?_
    intro K' hK'
    go_simp
    go_at_call 20
    refine (kE.out _).mono ?_
    rintro e W6 ⟨v6, rfl, hB6, hq⟩
    have hS6 : (fun W => (convert 37 9 (.slice ba bn bc)).run Try.prog W = .ok (.string SB) W ∧ W.heap[g]? = some (.cells #[.int .u64 (n : Int), .int .u64 (l : Int), .bool s] 24 (0, 0)) ∧ W.heap[h]? = some (.cells #[.int .u64 (n : Int), .int .u64 (l : Int), .bool s] 24 (0, 0)) ∧ Below w5.heap.size w5 W) W6 := ⟨HCVB.out _ (yS.2.2.2.trans (hq.mono yS.2.2.2.size)), (hq.block g (Array.getElem?_eq_some_iff.1 yS.2.1).1).trans yS.2.1, (hq.block h (Array.getElem?_eq_some_iff.1 yS.2.2.1).1).trans yS.2.2.1, yS.2.2.2.trans (hq.mono yS.2.2.2.size)⟩
    have hcv6 : (convert 37 9 v6).run Try.prog W6 = .ok (.string SB) W6 := HSE.out _ _ hB6
    clear hq
    refine hK'.out _ _ (.inr hS6) ?_
    clear hK' K'
    try simp only [List.getElem_toArray, List.getElem_cons_succ, List.getElem_cons_zero, Act.put, List.setIfInBounds_toArray, List.set_cons_zero, List.set_cons_succ]
    refine wpAnyL_one 7 (by kernel_rfl) rfl (by kernel_rfl) ?_
    intro K' hK'
    go_simp
    refine hK'.out _ _ (.inr hS6) ?_
    clear hK' K'
    try simp only [List.getElem_toArray, List.getElem_cons_succ, List.getElem_cons_zero, Act.put, List.setIfInBounds_toArray, List.set_cons_zero, List.set_cons_succ]
    refine wpAnyL_take 8 rfl (by kernel_rfl) (by kernel_rfl) (by kernel_rfl) (by kernel_rfl) (fun _ _ _ h => h) (by kernel_rfl) (by intro w' hS'; obtain ⟨x0, xg, xh, xb⟩ := hS'; obtain ⟨-, c0, c1, c2⟩ := h_cells xg; obtain ⟨-, d0, d1, d2⟩ := h_cells xh; go_simp <;> rfl) hS6 ?_
    try simp only [List.getElem_toArray, List.getElem_cons_succ, List.getElem_cons_zero, Act.put, List.setIfInBounds_toArray, List.set_cons_zero, List.set_cons_succ]
    refine wpAnyL_take 9 rfl (by kernel_rfl) (by kernel_rfl) (by kernel_rfl) (by kernel_rfl) (fun _ _ _ h => h) (by kernel_rfl) (by intro w' hS'; obtain ⟨x0, xg, xh, xb⟩ := hS'; obtain ⟨-, c0, c1, c2⟩ := h_cells xg; obtain ⟨-, d0, d1, d2⟩ := h_cells xh; go_simp <;> rfl) hS6 ?_
    try simp only [List.getElem_toArray, List.getElem_cons_succ, List.getElem_cons_zero, Act.put, List.setIfInBounds_toArray, List.set_cons_zero, List.set_cons_succ]
    refine wpAnyL_take 10 rfl (by kernel_rfl) (by kernel_rfl) (by kernel_rfl) (by kernel_rfl) (fun _ _ _ h => h) (by kernel_rfl) (by intro w' hS'; obtain ⟨x0, xg, xh, xb⟩ := hS'; obtain ⟨-, c0, c1, c2⟩ := h_cells xg; obtain ⟨-, d0, d1, d2⟩ := h_cells xh; go_simp <;> rfl) hS6 ?_
    try simp only [List.getElem_toArray, List.getElem_cons_succ, List.getElem_cons_zero, Act.put, List.setIfInBounds_toArray, List.set_cons_zero, List.set_cons_succ]
    refine wpAnyL_take 11 rfl (by kernel_rfl) (by kernel_rfl) (by kernel_rfl) (by kernel_rfl) (fun _ _ _ h => h) (by kernel_rfl) (by intro w' hS'; obtain ⟨x0, xg, xh, xb⟩ := hS'; obtain ⟨-, c0, c1, c2⟩ := h_cells xg; obtain ⟨-, d0, d1, d2⟩ := h_cells xh; go_simp <;> rfl) hS6 ?_
    try simp only [List.getElem_toArray, List.getElem_cons_succ, List.getElem_cons_zero, Act.put, List.setIfInBounds_toArray, List.set_cons_zero, List.set_cons_succ]
    refine wpAnyL_take 12 rfl (by kernel_rfl) (by kernel_rfl) (by kernel_rfl) (by kernel_rfl) (fun _ _ _ h => h) (by kernel_rfl) (by intro w' hS'; obtain ⟨x0, xg, xh, xb⟩ := hS'; obtain ⟨-, c0, c1, c2⟩ := h_cells xg; obtain ⟨-, d0, d1, d2⟩ := h_cells xh; go_simp <;> rfl) hS6 ?_
    try simp only [List.getElem_toArray, List.getElem_cons_succ, List.getElem_cons_zero, Act.put, List.setIfInBounds_toArray, List.set_cons_zero, List.set_cons_succ]
    refine wpAnyL_take 13 rfl (by kernel_rfl) (by kernel_rfl) (by kernel_rfl) (by kernel_rfl) (fun _ _ _ h => h) (by kernel_rfl) (by intro w' hS'; obtain ⟨x0, xg, xh, xb⟩ := hS'; obtain ⟨-, c0, c1, c2⟩ := h_cells xg; obtain ⟨-, d0, d1, d2⟩ := h_cells xh; go_simp <;> rfl) hS6 ?_
    try simp only [List.getElem_toArray, List.getElem_cons_succ, List.getElem_cons_zero, Act.put, List.setIfInBounds_toArray, List.set_cons_zero, List.set_cons_succ]
    refine wpAnyL_take 14 rfl (by kernel_rfl) (by kernel_rfl) (by kernel_rfl) (by kernel_rfl) (fun _ _ _ h => h) (by kernel_rfl) (by intro w' hS'; obtain ⟨x0, xg, xh, xb⟩ := hS'; obtain ⟨-, c0, c1, c2⟩ := h_cells xg; obtain ⟨-, d0, d1, d2⟩ := h_cells xh; go_simp <;> rfl) hS6 ?_
    try simp only [List.getElem_toArray, List.getElem_cons_succ, List.getElem_cons_zero, Act.put, List.setIfInBounds_toArray, List.set_cons_zero, List.set_cons_succ]
    refine wpAnyL_take 15 rfl (by kernel_rfl) (by kernel_rfl) (by kernel_rfl) (by kernel_rfl) (fun _ _ _ h => h) (by kernel_rfl) (by intro w' hS'; obtain ⟨x0, xg, xh, xb⟩ := hS'; obtain ⟨-, c0, c1, c2⟩ := h_cells xg; obtain ⟨-, d0, d1, d2⟩ := h_cells xh; go_simp <;> rfl) hS6 ?_
    try simp only [List.getElem_toArray, List.getElem_cons_succ, List.getElem_cons_zero, Act.put, List.setIfInBounds_toArray, List.set_cons_zero, List.set_cons_succ]
    refine wpAnyL_take 16 rfl (by kernel_rfl) (by kernel_rfl) (by kernel_rfl) (by kernel_rfl) (fun _ _ _ h => h) (by kernel_rfl) (by intro w' hS'; obtain ⟨x0, xg, xh, xb⟩ := hS'; obtain ⟨-, c0, c1, c2⟩ := h_cells xg; obtain ⟨-, d0, d1, d2⟩ := h_cells xh; go_simp <;> rfl) hS6 ?_
    try simp only [List.getElem_toArray, List.getElem_cons_succ, List.getElem_cons_zero, Act.put, List.setIfInBounds_toArray, List.set_cons_zero, List.set_cons_succ]
    refine wpAnyL_take 17 rfl (by kernel_rfl) (by kernel_rfl) (by kernel_rfl) (by kernel_rfl) (fun _ _ _ h => h) (by kernel_rfl) (by intro w' hS'; obtain ⟨x0, xg, xh, xb⟩ := hS'; obtain ⟨-, c0, c1, c2⟩ := h_cells xg; obtain ⟨-, d0, d1, d2⟩ := h_cells xh; go_simp <;> rfl) hS6 ?_
    try simp only [List.getElem_toArray, List.getElem_cons_succ, List.getElem_cons_zero, Act.put, List.setIfInBounds_toArray, List.set_cons_zero, List.set_cons_succ]
    refine wpAnyL_take 18 rfl (by kernel_rfl) (by kernel_rfl) (by kernel_rfl) (by kernel_rfl) (fun _ _ _ h => h) (by kernel_rfl) (by intro w' hS'; obtain ⟨x0, xg, xh, xb⟩ := hS'; obtain ⟨-, c0, c1, c2⟩ := h_cells xg; obtain ⟨-, d0, d1, d2⟩ := h_cells xh; go_simp <;> rfl) hS6 ?_
    try simp only [List.getElem_toArray, List.getElem_cons_succ, List.getElem_cons_zero, Act.put, List.setIfInBounds_toArray, List.set_cons_zero, List.set_cons_succ]
    refine wpAnyL_take 19 rfl (by kernel_rfl) (by kernel_rfl) (by kernel_rfl) (by kernel_rfl) (fun _ _ _ h => h) (by kernel_rfl) (by intro w' hS'; obtain ⟨x0, xg, xh, xb⟩ := hS'; obtain ⟨-, c0, c1, c2⟩ := h_cells xg; obtain ⟨-, d0, d1, d2⟩ := h_cells xh; go_simp <;> rfl) hS6 ?_
    try simp only [List.getElem_toArray, List.getElem_cons_succ, List.getElem_cons_zero, Act.put, List.setIfInBounds_toArray, List.set_cons_zero, List.set_cons_succ]
    refine wpAnyL_one 20 (by kernel_rfl) rfl (by kernel_rfl) ?_
    intro K' hK'
    go_simp
    go_at_call 17
    refine (awake_of _).mono ?_
    rintro e W8 ⟨rfl, hq⟩
    have hS8 : (fun W => (convert 37 9 (.slice ba bn bc)).run Try.prog W = .ok (.string SB) W ∧ W.heap[g]? = some (.cells #[.int .u64 (n : Int), .int .u64 (l : Int), .bool s] 24 (0, 0)) ∧ W.heap[h]? = some (.cells #[.int .u64 (n : Int), .int .u64 (l : Int), .bool s] 24 (0, 0)) ∧ Below w5.heap.size w5 W) W8 := ⟨HCVB.out _ (hS6.2.2.2.trans (hq.mono hS6.2.2.2.size)), (hq.block g (Array.getElem?_eq_some_iff.1 hS6.2.1).1).trans hS6.2.1, (hq.block h (Array.getElem?_eq_some_iff.1 hS6.2.2.1).1).trans hS6.2.2.1, hS6.2.2.2.trans (hq.mono hS6.2.2.2.size)⟩
    clear hq
    refine hK'.out _ _ (.inr hS8) ?_
    clear hK' K'
    try simp only [List.getElem_toArray, List.getElem_cons_succ, List.getElem_cons_zero, Act.put, List.setIfInBounds_toArray, List.set_cons_zero, List.set_cons_succ]
    refine wpAnyL_take 21 rfl (by kernel_rfl) (by kernel_rfl) (by kernel_rfl) (by kernel_rfl) (fun _ _ _ h => h) (by kernel_rfl) (by intro w' hS'; obtain ⟨x0, xg, xh, xb⟩ := hS'; obtain ⟨-, c0, c1, c2⟩ := h_cells xg; obtain ⟨-, d0, d1, d2⟩ := h_cells xh; go_simp <;> rfl) hS8 ?_
    try simp only [List.getElem_toArray, List.getElem_cons_succ, List.getElem_cons_zero, Act.put, List.setIfInBounds_toArray, List.set_cons_zero, List.set_cons_succ]
    refine wpAnyL_take 22 rfl (by kernel_rfl) (by kernel_rfl) (by kernel_rfl) (by kernel_rfl) (fun _ _ _ h => h) (by kernel_rfl) (by intro w' hS'; obtain ⟨x0, xg, xh, xb⟩ := hS'; obtain ⟨-, c0, c1, c2⟩ := h_cells xg; obtain ⟨-, d0, d1, d2⟩ := h_cells xh; go_simp <;> rfl) hS8 ?_
    try simp only [List.getElem_toArray, List.getElem_cons_succ, List.getElem_cons_zero, Act.put, List.setIfInBounds_toArray, List.set_cons_zero, List.set_cons_succ]
    refine wpAnyL_done (by kernel_rfl) (NoPanic.normal ?_) _
    go_wp2
    go_ret
    exact ⟨rfl, keep_step HB5.out (Nat.le_refl _) hS8.2.2.2⟩
end Go.Proofs.Ytghhijliamnmiaa

