import Derived.Test.YtebkfkijlopmoaaHs43
/- The law SessionCodes answers true. -/
namespace Go.Proofs.Ytebkfkijlopmoaa
open Go.RowKit SessionMath WireMath
set_option maxRecDepth 100000
set_option linter.unusedSimpArgs false
set_option linter.unusedVariables false

set_option maxHeartbeats 8000000 in
theorem codes_law (zs : List Sz) (lv : Value) (w : World) (hL : SeatsV w lv zs) (hok : ∀ z ∈ zs, SzOk z) : Calls Try.prog 4 #[lv] w fun e w' => e = .returned (.bool true) ∧ Below w.heap.size w w' := by
  have kL := light_of zs lv w hL
  have HL : Hid (SeatsV w lv zs) := hL
  have HOK : Hid (∀ z ∈ zs, SzOk z) := hok
  obtain ⟨ao, cap, rfl, -, -⟩ := hL.1.shape
  clear hL hok
  go_enter Try.func4, Try.ntmps4
  go_wp2_with fail
  refine kL.mono ?_
  rintro e w1 ⟨⟨B, rfl, hB⟩, hw1⟩
  have hb01 : Below w.heap.size w w1 := by rw [hw1]; exact Below.refl _ _
  clear kL hw1
  cases B with
  | false =>
    have kW := awake_of w1
    clear hB HL HOK
    go_wp2_with fail
    refine kW.mono ?_
    rintro e w2 ⟨rfl, hb2⟩
    go_wp2
    go_ret
    exact ⟨rfl, keep_step hb01 (Nat.le_refl _) hb2⟩
  | true =>
    have hl20 := hB rfl
    have hlen : zs.length ≤ 1000000 := by omega
    clear hB
    have k1 := enc_of zs (.slice ao zs.length cap) w1 (HL.out.below hb01) hlen
    have km : ∀ W, Below w.heap.size w W → _ := fun W hW => rmay_of zs (.slice ao zs.length cap) W (HL.out.below hW) hlen
    cases hm : mayB (mes zs) with
    | false =>
      rw [hm] at k1 km
      clear HL HOK hm
      go_wp2_with fail
      refine k1.mono ?_
      rintro e w2 ⟨⟨v2, c2, rfl, hE⟩, hb2⟩
      rw [if_neg (by decide)] at hE
      obtain ⟨rfl, rfl⟩ := hE
      have hb02 := keep_step hb01 (Nat.le_refl _) hb2
      have k2 := km w2 hb02
      clear k1 km hb01 hb2
      go_wp2_with fail
      refine k2.mono ?_
      rintro e w3 ⟨rfl, hb3⟩
      have hb03 := keep_step hb02 (Nat.le_refl _) hb3
      have kW := awake_of w3
      clear k2 hb02 hb3
      go_wp2_with fail
      refine kW.mono ?_
      rintro e w4 ⟨rfl, hb4⟩
      have hb04 := keep_step hb03 (Nat.le_refl _) hb4
      go_wp2
      go_ret
      exact ⟨rfl, hb04⟩
    | true =>
      rw [hm] at k1 km
      have hoS : ∀ m ∈ mes zs, OkS m := fun m hmm => by
        obtain ⟨z, hz, rfl⟩ := List.mem_map.1 hmm
        exact HOK.out z hz
      have hsO : ∀ m ∈ mes zs, m.sq < 18446744073709551616 ∧ (∀ c ∈ m.rp, c < 256) ∧ m.rp.length ≤ 4096 := fun m hmm => ⟨(hoS m hmm).1, (hoS m hmm).2, (seat_iff.1 ((may_iff.1 hm).1 m hmm)).2.2.2.2⟩
      have hEl : ∀ c ∈ encB (mes zs), c < 256 := fun c hc => enc_lt hsO hc
      have hElen : (encB (mes zs)).length ≤ 40000 := by
        unfold encB
        rw [List.length_append, List.length_map]
        have h1 := flat_len (l := mes zs) (may_iff.1 hm).1
        have h2 := uv_len10 (n := zs.length) (by omega)
        have h3 := may_len hm
        rw [List.length_map] at h1 h3
        omega
      have hdec : decX 7 (encB (mes zs)) = (mes zs, (encB (mes zs)).length, 0) := dec_back (by decide) hm
      have hdok : decOk (encB (mes zs)) = true := by
        simp only [decOk, doneB, Bool.and_eq_true, decide_eq_true_eq, Bool.not_eq_true', decide_eq_false_iff_not]
        rw [hdec]
        exact ⟨⟨rfl, by simp⟩, hm⟩
      have kD : Hid (∀ v W, Bn W v (encB (mes zs)) → Calls Try.prog 17 #[v] W fun e w' => (∃ v' zs', e = .returned (.tuple #[v', .int .i64 0]) ∧ SeatsV w' v' zs' ∧ mes zs' = mes zs) ∧ Below W.heap.size W w') := fun v W hv => by
        refine (dec_of _ v W hv hEl (by omega)).mono ?_
        rintro e w' ⟨⟨v', c, zs', rfl, hS, hT⟩, hb⟩
        rw [hdok, if_pos rfl, hdec] at hT
        obtain ⟨rfl, hR⟩ := hT
        exact ⟨⟨v', zs', rfl, hS, hR⟩, hb⟩
      have KE : Hid (∀ W, Below w.heap.size w W → _) := fun W hW => renc_of zs (.slice ao zs.length cap) W (HL.out.below hW) hm
      have HSE : Hid (∀ v W, Bn W v (encB (mes zs)) → (convert 26 9 v).run Try.prog W = .ok (.string (Wi.str (encB (mes zs)))) W) := fun v W hv => Wi.str_of hv hEl
      have HSM : Hid (∀ zs' v' W, SeatsV W v' zs' → mes zs' = mes zs → Below w.heap.size w W → _) := fun zs' v' W hS he hW => same_of zs' zs v' (.slice ao zs.length cap) W hS (HL.out.below hW) he (szok_of he hoS) (by rw [mes_len he, List.length_map]; exact hlen)
      obtain ⟨EB, hEB⟩ : ∃ EB, EB = encB (mes zs) := ⟨_, rfl⟩
      obtain ⟨SB2, hSB2⟩ : ∃ S, S = Wi.str (encB (mes zs)) := ⟨_, rfl⟩
      rw [← hSB2] at HSE
      rw [← hEB] at kD KE HSE k1
      clear hoS hsO hEl hElen hdec hdok hEB hSB2 hm HL HOK
      go_wp2_with fail
      refine k1.mono ?_
      rintro e w2 ⟨⟨v2, c2, rfl, hE⟩, hb2⟩
      rw [if_pos rfl] at hE
      obtain ⟨rfl, hB2⟩ := hE
      have hb02 := keep_step hb01 (Nat.le_refl _) hb2
      have k2 := km w2 hb02
      obtain ⟨ba, bc, hv2⟩ := hB2.shape
      generalize EB.length = bn at hv2
      subst hv2
      clear k1 km hb01 hb2
      go_wp2_with fail
      refine k2.mono ?_
      rintro e w3 ⟨rfl, hb3⟩
      have hb03 := keep_step hb02 (Nat.le_refl _) hb3
      have hB3 := hB2.below hb3
      have k3 := kD.out _ w3 hB3
      clear k2 hb02 hb3 hB2 kD
      go_wp2_with fail
      refine k3.mono ?_
      rintro e w5 ⟨⟨v5, zs5, rfl, hS5, hm5⟩, hb5⟩
      have hb05 := keep_step hb03 (Nat.le_refl _) hb5
      have hB5 := hB3.below hb5
      have hcvB : ∀ W, Below w5.heap.size w5 W → (convert 26 9 (.slice ba bn bc)).run Try.prog W = .ok (.string SB2) W := fun W hW => HSE.out _ _ (hB5.below hW)
      have kE : ∀ W, Below w5.heap.size w5 W → _ := fun W hW => KE.out W (keep_step hb05 (Nat.le_refl _) hW)
      have kS : ∀ W, Below w5.heap.size w5 W → _ := fun W hW => HSM.out zs5 v5 W (hS5.below hW) hm5 (keep_step hb05 (Nat.le_refl _) hW)
      obtain ⟨a5, c5, hv5, -, -⟩ := hS5.1.shape
      clear k3 hb03 hb5 hB3 hB5 hS5 hm5 KE HSM
      subst hv5
      go_wp2
      refine wp_region_L (fun W => (convert 26 9 (.slice ba bn bc)).run Try.prog W = .ok (.string SB2) W ∧ Below w5.heap.size w5 W) [] (by kernel_rfl) ?_
      have yS : (fun W => (convert 26 9 (.slice ba bn bc)).run Try.prog W = .ok (.string SB2) W ∧ Below w5.heap.size w5 W) w5.drew := ⟨hcvB _ (Below.refl _ w5).drew, (Below.refl _ w5).drew⟩
      refine wpAnyL_take 0 rfl (by kernel_rfl) (by kernel_rfl) (by kernel_rfl) (by kernel_rfl) (fun _ _ _ h => h) (by kernel_rfl) (by intro w' hS'; obtain ⟨x0, xb⟩ := hS'; go_simp <;> rfl) yS ?_
      try simp only [List.getElem_toArray, List.getElem_cons_succ, List.getElem_cons_zero, Act.put, List.setIfInBounds_toArray, List.set_cons_zero, List.set_cons_succ]
      refine wpAnyL_take 1 rfl (by kernel_rfl) (by kernel_rfl) (by kernel_rfl) (by kernel_rfl) (fun _ _ _ h => h) (by kernel_rfl) (by intro w' hS'; obtain ⟨x0, xb⟩ := hS'; go_simp <;> rfl) yS ?_
      try simp only [List.getElem_toArray, List.getElem_cons_succ, List.getElem_cons_zero, Act.put, List.setIfInBounds_toArray, List.set_cons_zero, List.set_cons_succ]
      refine wpAnyL_take 2 rfl (by kernel_rfl) (by kernel_rfl) (by kernel_rfl) (by kernel_rfl) (fun _ _ _ h => h) (by kernel_rfl) (by intro w' hS'; obtain ⟨x0, xb⟩ := hS'; go_simp <;> rfl) yS ?_
      try simp only [List.getElem_toArray, List.getElem_cons_succ, List.getElem_cons_zero, Act.put, List.setIfInBounds_toArray, List.set_cons_zero, List.set_cons_succ]
      refine wpAnyL_take 3 rfl (by kernel_rfl) (by kernel_rfl) (by kernel_rfl) (by kernel_rfl) (fun _ _ _ h => h) (by kernel_rfl) (by intro w' hS'; obtain ⟨x0, xb⟩ := hS'; go_simp <;> rfl) yS ?_
      try simp only [List.getElem_toArray, List.getElem_cons_succ, List.getElem_cons_zero, Act.put, List.setIfInBounds_toArray, List.set_cons_zero, List.set_cons_succ]
      refine wpAnyL_take 4 rfl (by kernel_rfl) (by kernel_rfl) (by kernel_rfl) (by kernel_rfl) (fun _ _ _ h => h) (by kernel_rfl) (by intro w' hS'; obtain ⟨x0, xb⟩ := hS'; go_simp <;> rfl) yS ?_
      try simp only [List.getElem_toArray, List.getElem_cons_succ, List.getElem_cons_zero, Act.put, List.setIfInBounds_toArray, List.set_cons_zero, List.set_cons_succ]
      refine wpAnyL_take 5 rfl (by kernel_rfl) (by kernel_rfl) (by kernel_rfl) (by kernel_rfl) (fun _ _ _ h => h) (by kernel_rfl) (by intro w' hS'; obtain ⟨x0, xb⟩ := hS'; go_simp <;> rfl) yS ?_
      try simp only [List.getElem_toArray, List.getElem_cons_succ, List.getElem_cons_zero, Act.put, List.setIfInBounds_toArray, List.set_cons_zero, List.set_cons_succ]
      refine wpAnyL_one 6 (by kernel_rfl) rfl (by kernel_rfl) ?_
      intro K' hK'
      go_simp
      go_at_call 18
      refine (kE _ yS.2).mono ?_
      rintro e W6 ⟨v6, rfl, hB6, hb6⟩
      have hS6 : (fun W => (convert 26 9 (.slice ba bn bc)).run Try.prog W = .ok (.string SB2) W ∧ Below w5.heap.size w5 W) W6 := ⟨hcvB _ (keep_step yS.2 (Nat.le_refl _) hb6), keep_step yS.2 (Nat.le_refl _) hb6⟩
      have hcv6 : (convert 26 9 v6).run Try.prog W6 = .ok (.string SB2) W6 := HSE.out _ _ hB6
      refine hK'.out _ _ (.inr hS6) ?_
      clear hK' K'
      try simp only [List.getElem_toArray, List.getElem_cons_succ, List.getElem_cons_zero, Act.put, List.setIfInBounds_toArray, List.set_cons_zero, List.set_cons_succ]
      refine wpAnyL_one 7 (by kernel_rfl) rfl (by kernel_rfl) ?_
      intro K' hK'
      go_simp
      refine hK'.out _ _ (.inr hS6) ?_
      clear hK' K'
      try simp only [List.getElem_toArray, List.getElem_cons_succ, List.getElem_cons_zero, Act.put, List.setIfInBounds_toArray, List.set_cons_zero, List.set_cons_succ]
      refine wpAnyL_take 8 rfl (by kernel_rfl) (by kernel_rfl) (by kernel_rfl) (by kernel_rfl) (fun _ _ _ h => h) (by kernel_rfl) (by intro w' hS'; obtain ⟨x0, xb⟩ := hS'; go_simp <;> rfl) hS6 ?_
      try simp only [List.getElem_toArray, List.getElem_cons_succ, List.getElem_cons_zero, Act.put, List.setIfInBounds_toArray, List.set_cons_zero, List.set_cons_succ]
      refine wpAnyL_take 9 rfl (by kernel_rfl) (by kernel_rfl) (by kernel_rfl) (by kernel_rfl) (fun _ _ _ h => h) (by kernel_rfl) (by intro w' hS'; obtain ⟨x0, xb⟩ := hS'; go_simp <;> rfl) hS6 ?_
      try simp only [List.getElem_toArray, List.getElem_cons_succ, List.getElem_cons_zero, Act.put, List.setIfInBounds_toArray, List.set_cons_zero, List.set_cons_succ]
      refine wpAnyL_take 10 rfl (by kernel_rfl) (by kernel_rfl) (by kernel_rfl) (by kernel_rfl) (fun _ _ _ h => h) (by kernel_rfl) (by intro w' hS'; obtain ⟨x0, xb⟩ := hS'; go_simp <;> rfl) hS6 ?_
      try simp only [List.getElem_toArray, List.getElem_cons_succ, List.getElem_cons_zero, Act.put, List.setIfInBounds_toArray, List.set_cons_zero, List.set_cons_succ]
      refine wpAnyL_take 11 rfl (by kernel_rfl) (by kernel_rfl) (by kernel_rfl) (by kernel_rfl) (fun _ _ _ h => h) (by kernel_rfl) (by intro w' hS'; obtain ⟨x0, xb⟩ := hS'; go_simp <;> rfl) hS6 ?_
      try simp only [List.getElem_toArray, List.getElem_cons_succ, List.getElem_cons_zero, Act.put, List.setIfInBounds_toArray, List.set_cons_zero, List.set_cons_succ]
      refine wpAnyL_take 12 rfl (by kernel_rfl) (by kernel_rfl) (by kernel_rfl) (by kernel_rfl) (fun _ _ _ h => h) (by kernel_rfl) (by intro w' hS'; obtain ⟨x0, xb⟩ := hS'; go_simp <;> rfl) hS6 ?_
      try simp only [List.getElem_toArray, List.getElem_cons_succ, List.getElem_cons_zero, Act.put, List.setIfInBounds_toArray, List.set_cons_zero, List.set_cons_succ]
      refine wpAnyL_take 13 rfl (by kernel_rfl) (by kernel_rfl) (by kernel_rfl) (by kernel_rfl) (fun _ _ _ h => h) (by kernel_rfl) (by intro w' hS'; obtain ⟨x0, xb⟩ := hS'; go_simp <;> rfl) hS6 ?_
      try simp only [List.getElem_toArray, List.getElem_cons_succ, List.getElem_cons_zero, Act.put, List.setIfInBounds_toArray, List.set_cons_zero, List.set_cons_succ]
      refine wpAnyL_take 14 rfl (by kernel_rfl) (by kernel_rfl) (by kernel_rfl) (by kernel_rfl) (fun _ _ _ h => h) (by kernel_rfl) (by intro w' hS'; obtain ⟨x0, xb⟩ := hS'; go_simp <;> rfl) hS6 ?_
      try simp only [List.getElem_toArray, List.getElem_cons_succ, List.getElem_cons_zero, Act.put, List.setIfInBounds_toArray, List.set_cons_zero, List.set_cons_succ]
      refine wpAnyL_take 15 rfl (by kernel_rfl) (by kernel_rfl) (by kernel_rfl) (by kernel_rfl) (fun _ _ _ h => h) (by kernel_rfl) (by intro w' hS'; obtain ⟨x0, xb⟩ := hS'; go_simp <;> rfl) hS6 ?_
      try simp only [List.getElem_toArray, List.getElem_cons_succ, List.getElem_cons_zero, Act.put, List.setIfInBounds_toArray, List.set_cons_zero, List.set_cons_succ]
      refine wpAnyL_take 16 rfl (by kernel_rfl) (by kernel_rfl) (by kernel_rfl) (by kernel_rfl) (fun _ _ _ h => h) (by kernel_rfl) (by intro w' hS'; obtain ⟨x0, xb⟩ := hS'; go_simp <;> rfl) hS6 ?_
      try simp only [List.getElem_toArray, List.getElem_cons_succ, List.getElem_cons_zero, Act.put, List.setIfInBounds_toArray, List.set_cons_zero, List.set_cons_succ]
      refine wpAnyL_one 17 (by kernel_rfl) rfl (by kernel_rfl) ?_
      intro K' hK'
      go_simp
      go_at_call 15
      refine (kS _ hS6.2).mono ?_
      rintro e W7 ⟨rfl, hb7⟩
      have hS7 : (fun W => (convert 26 9 (.slice ba bn bc)).run Try.prog W = .ok (.string SB2) W ∧ Below w5.heap.size w5 W) W7 := ⟨hcvB _ (keep_step hS6.2 (Nat.le_refl _) hb7), keep_step hS6.2 (Nat.le_refl _) hb7⟩
      refine hK'.out _ _ (.inr hS7) ?_
      clear hK' K'
      try simp only [List.getElem_toArray, List.getElem_cons_succ, List.getElem_cons_zero, Act.put, List.setIfInBounds_toArray, List.set_cons_zero, List.set_cons_succ]
      refine wpAnyL_take 18 rfl (by kernel_rfl) (by kernel_rfl) (by kernel_rfl) (by kernel_rfl) (fun _ _ _ h => h) (by kernel_rfl) (by intro w' hS'; obtain ⟨x0, xb⟩ := hS'; go_simp <;> rfl) hS7 ?_
      try simp only [List.getElem_toArray, List.getElem_cons_succ, List.getElem_cons_zero, Act.put, List.setIfInBounds_toArray, List.set_cons_zero, List.set_cons_succ]
      refine wpAnyL_take 19 rfl (by kernel_rfl) (by kernel_rfl) (by kernel_rfl) (by kernel_rfl) (fun _ _ _ h => h) (by kernel_rfl) (by intro w' hS'; obtain ⟨x0, xb⟩ := hS'; go_simp <;> rfl) hS7 ?_
      try simp only [List.getElem_toArray, List.getElem_cons_succ, List.getElem_cons_zero, Act.put, List.setIfInBounds_toArray, List.set_cons_zero, List.set_cons_succ]
      refine wpAnyL_one 20 (by kernel_rfl) rfl (by kernel_rfl) ?_
      intro K' hK'
      go_simp
      go_at_call 8
      refine (awake_of _).mono ?_
      rintro e W8 ⟨rfl, hb8⟩
      have hS8 : (fun W => (convert 26 9 (.slice ba bn bc)).run Try.prog W = .ok (.string SB2) W ∧ Below w5.heap.size w5 W) W8 := ⟨hcvB _ (keep_step hS7.2 (Nat.le_refl _) hb8), keep_step hS7.2 (Nat.le_refl _) hb8⟩
      refine hK'.out _ _ (.inr hS8) ?_
      clear hK' K'
      try simp only [List.getElem_toArray, List.getElem_cons_succ, List.getElem_cons_zero, Act.put, List.setIfInBounds_toArray, List.set_cons_zero, List.set_cons_succ]
      refine wpAnyL_take 21 rfl (by kernel_rfl) (by kernel_rfl) (by kernel_rfl) (by kernel_rfl) (fun _ _ _ h => h) (by kernel_rfl) (by intro w' hS'; obtain ⟨x0, xb⟩ := hS'; go_simp <;> rfl) hS8 ?_
      try simp only [List.getElem_toArray, List.getElem_cons_succ, List.getElem_cons_zero, Act.put, List.setIfInBounds_toArray, List.set_cons_zero, List.set_cons_succ]
      refine wpAnyL_take 22 rfl (by kernel_rfl) (by kernel_rfl) (by kernel_rfl) (by kernel_rfl) (fun _ _ _ h => h) (by kernel_rfl) (by intro w' hS'; obtain ⟨x0, xb⟩ := hS'; go_simp <;> rfl) hS8 ?_
      try simp only [List.getElem_toArray, List.getElem_cons_succ, List.getElem_cons_zero, Act.put, List.setIfInBounds_toArray, List.set_cons_zero, List.set_cons_succ]
      refine wpAnyL_done (by kernel_rfl) (NoPanic.normal ?_) _
      go_wp2
      go_ret
      exact ⟨rfl, keep_step hb05 (Nat.le_refl _) hS8.2⟩
end Go.Proofs.Ytebkfkijlopmoaa

