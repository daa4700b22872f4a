import Derived.Test.YtldlimakcdaoaaaHd50
/- The law ChartCodes answers true. -/
namespace Go.Proofs.Ytldlimakcdaoaaa
open Go.RowKit SpanMath ChartMath WireMath
set_option maxRecDepth 100000
set_option linter.unusedSimpArgs false
set_option linter.unusedVariables false

theorem encB_lt (l : List Rg) : ∀ c ∈ encB l, c < 256 := by
  intro c hc
  unfold encB at hc
  rcases List.mem_append.1 hc with h | h
  · exact uv_bytes _ c h
  · obtain ⟨r, _, hr⟩ := List.mem_flatMap.1 h
    unfold rB sB at hr
    simp only [List.mem_append] at hr
    rcases hr with (((h | h) | (h | h)) | h) | h
    · exact uv_bytes _ c h
    · exact kb_lt _ c h
    · exact uv_bytes _ c h
    · exact kb_lt _ c h
    · exact uv_bytes _ c h
    · exact uv_bytes _ c h
theorem dec_enc {l : List Rg} (hC : Chart l) : decOk (encB l) = true ∧ (decX (encB l)).1 = l := by
  have h := dec_back hC
  refine ⟨?_, by rw [h]⟩
  unfold decOk doneB
  rw [h]
  simp [mayC_iff.2 hC]

set_option maxHeartbeats 8000000 in
theorem codes_law (l : List Rg) (lv : Value) (w : World) (hF : Rd rgE w lv l) (hlen : l.length * 48 ≤ 140737488355328) : Calls Try.prog 7 #[lv] w fun e w' => e = .returned (.bool true) ∧ Below w.heap.size w w' := by
  have kE0 := enc_of l lv w hF.cv
  have kM := fun W (hW : Below w.heap.size w W) => rmay_of l lv W (hF.below hW).cv
  obtain ⟨ao, cap, rfl, -⟩ := id hF
  cases hm : mayC l with
  | false =>
    rw [hm] at kE0 kM
    clear hm hF hlen
    go_enter Try.func7, Try.ntmps7
    go_wp2_with fail
    refine kE0.mono ?_
    rintro e w1 ⟨⟨v1, c1, rfl, hT⟩, hb1⟩
    rw [if_neg (by decide)] at hT
    obtain ⟨rfl, rfl⟩ := hT
    have k2 := kM w1 hb1
    clear kE0 kM
    go_wp2_with fail
    refine k2.mono ?_
    rintro e w2 ⟨rfl, hb2'⟩
    have hb2 := hb1.trans (hb2'.mono hb1.size)
    have kW := cawake_of w2
    clear k2 hb1 hb2'
    go_wp2_with fail
    refine kW.mono ?_
    rintro e w3 ⟨rfl, hb3⟩
    go_wp2
    go_ret
    exact ⟨rfl, hb2.trans (hb3.mono hb2.size)⟩
  | true =>
    rw [hm] at kE0 kM
    have hC := mayC_iff.1 hm
    have hl64 := hC.len
    obtain ⟨hdo, hdl⟩ := dec_enc hC
    have hlt := encB_lt l
    have hel : (encB l).length ≤ 20000 := by
      unfold encB
      rw [List.length_append]
      have a1 := uv_len10 (n := l.length) (by omega)
      have a2 := flat_len hC.ok
      omega
    have kD := fun bv W (h : Bn W bv (encB l)) => dec_of (encB l) bv W h hlt (by omega)
    have kD2 : ∀ bv W, Bn W bv (encB l) → Calls Try.prog 33 #[bv] W fun e w' => (∃ v, e = .returned (.tuple #[v, .int .i64 0]) ∧ Rd rgE w' v l) ∧ Below W.heap.size W w' := fun bv W h => by
      refine (kD bv W h).mono ?_
      rintro e w' ⟨⟨v, c, rfl, hT⟩, hb⟩
      rw [hdo, if_pos rfl, hdl] at hT
      obtain ⟨rfl, hR⟩ := hT
      exact ⟨⟨v, rfl, hR⟩, hb⟩
    obtain ⟨X, hX⟩ : ∃ X, Wi.str (encB l) = X := ⟨_, rfl⟩
    clear hm kD hdo hdl hlen hel
    go_enter Try.func7, Try.ntmps7
    go_wp2_with fail
    refine kE0.mono ?_
    rintro e w1 ⟨⟨b1, c1, rfl, hT⟩, hb1⟩
    rw [if_pos rfl] at hT
    obtain ⟨rfl, hB1⟩ := hT
    have k2 := kM w1 hb1
    clear kE0 kM
    go_wp2_with fail
    refine k2.mono ?_
    rintro e wm ⟨rfl, hbm'⟩
    have hbm := hb1.trans (hbm'.mono hb1.size)
    have k3 := kD2 b1 wm (hB1.below hbm')
    have hBm := hB1.below hbm'
    clear k2 hb1 hbm' kD2 hB1
    go_wp2_with fail
    refine k3.mono ?_
    rintro e w2 ⟨⟨v2, rfl, hR2⟩, hb2'⟩
    have hb2 := hbm.trans (hb2'.mono hbm.size)
    have hBw := hBm.below hb2'
    clear k3 hbm hb2' hBm
    go_wp2_with fail
    refine wp_region_L (fun W => (convert 58 9 b1).run Try.prog W = .ok (.string X) W) [] (by kernel_rfl) ?_
    have hbd : Below w.heap.size w w2.drew := hb2.drew
    have hBd := hBw.below (Below.refl _ w2).drew
    have hRk := hR2.below (Below.refl _ w2).drew
    generalize w2.drew = wd at *
    have kE := renc_of l _ wd (hF.below hbd).cv hC
    have yS : (fun W => (convert 58 9 b1).run Try.prog W = .ok (.string X) W) wd := by rw [← hX]; exact Wi.str_of hBd hlt
    refine wpAnyL_take 0 rfl (by kernel_rfl) (by kernel_rfl) (by kernel_rfl) (by kernel_rfl) (fun _ _ _ h => h) (by kernel_rfl) (by intro w' hS'; obtain a0 := hS'; go_simp <;> rfl) yS ?_
    try simp only [List.getElem_toArray, List.getElem_cons_succ, List.getElem_cons_zero, Act.put, List.setIfInBounds_toArray, List.set_cons_zero, List.set_cons_succ]
    refine wpAnyL_take 1 rfl (by kernel_rfl) (by kernel_rfl) (by kernel_rfl) (by kernel_rfl) (fun _ _ _ h => h) (by kernel_rfl) (by intro w' hS'; obtain a0 := hS'; go_simp <;> rfl) yS ?_
    try simp only [List.getElem_toArray, List.getElem_cons_succ, List.getElem_cons_zero, Act.put, List.setIfInBounds_toArray, List.set_cons_zero, List.set_cons_succ]
    refine wpAnyL_take 2 rfl (by kernel_rfl) (by kernel_rfl) (by kernel_rfl) (by kernel_rfl) (fun _ _ _ h => h) (by kernel_rfl) (by intro w' hS'; obtain a0 := hS'; go_simp <;> rfl) yS ?_
    try simp only [List.getElem_toArray, List.getElem_cons_succ, List.getElem_cons_zero, Act.put, List.setIfInBounds_toArray, List.set_cons_zero, List.set_cons_succ]
    refine wpAnyL_take 3 rfl (by kernel_rfl) (by kernel_rfl) (by kernel_rfl) (by kernel_rfl) (fun _ _ _ h => h) (by kernel_rfl) (by intro w' hS'; obtain a0 := hS'; go_simp <;> rfl) yS ?_
    try simp only [List.getElem_toArray, List.getElem_cons_succ, List.getElem_cons_zero, Act.put, List.setIfInBounds_toArray, List.set_cons_zero, List.set_cons_succ]
    refine wpAnyL_take 4 rfl (by kernel_rfl) (by kernel_rfl) (by kernel_rfl) (by kernel_rfl) (fun _ _ _ h => h) (by kernel_rfl) (by intro w' hS'; obtain a0 := hS'; go_simp <;> rfl) yS ?_
    try simp only [List.getElem_toArray, List.getElem_cons_succ, List.getElem_cons_zero, Act.put, List.setIfInBounds_toArray, List.set_cons_zero, List.set_cons_succ]
    refine wpAnyL_take 5 rfl (by kernel_rfl) (by kernel_rfl) (by kernel_rfl) (by kernel_rfl) (fun _ _ _ h => h) (by kernel_rfl) (by intro w' hS'; obtain a0 := hS'; go_simp <;> rfl) yS ?_
    try simp only [List.getElem_toArray, List.getElem_cons_succ, List.getElem_cons_zero, Act.put, List.setIfInBounds_toArray, List.set_cons_zero, List.set_cons_succ]
    refine wpAnyL_one 6 (by kernel_rfl) rfl (by kernel_rfl) ?_
    intro K' hK'
    go_simp
    go_at_call 34
    refine kE.mono ?_
    rintro e w3 ⟨r3, rfl, hB3, hb3'⟩
    have hb3 := hbd.trans (hb3'.mono hbd.size)
    have yS3 : (fun W => (convert 58 9 b1).run Try.prog W = .ok (.string X) W) w3 := by rw [← hX]; exact Wi.str_of (hBd.below hb3') hlt
    have hcr : (convert 58 9 r3).run Try.prog w3 = .ok (.string X) w3 := by rw [← hX]; exact Wi.str_of hB3 hlt
    have kS := csame_of l v2 (.slice ao l.length cap) w3 (hRk.below hb3').cv (hF.below hb3).cv (by omega)
    refine hK'.out _ _ (.inr yS3) ?_
    clear hK' K'
    try simp only [List.getElem_toArray, List.getElem_cons_succ, List.getElem_cons_zero, Act.put, List.setIfInBounds_toArray, List.set_cons_zero, List.set_cons_succ]
    refine wpAnyL_one 7 (by kernel_rfl) rfl (by kernel_rfl) ?_
    intro K' hK'
    go_simp
    refine hK'.out _ _ (.inr yS3) ?_
    clear hK' K'
    try simp only [List.getElem_toArray, List.getElem_cons_succ, List.getElem_cons_zero, Act.put, List.setIfInBounds_toArray, List.set_cons_zero, List.set_cons_succ]
    refine wpAnyL_take 8 rfl (by kernel_rfl) (by kernel_rfl) (by kernel_rfl) (by kernel_rfl) (fun _ _ _ h => h) (by kernel_rfl) (by intro w' hS'; obtain a0 := hS'; go_simp <;> rfl) yS3 ?_
    try simp only [List.getElem_toArray, List.getElem_cons_succ, List.getElem_cons_zero, Act.put, List.setIfInBounds_toArray, List.set_cons_zero, List.set_cons_succ]
    refine wpAnyL_take 9 rfl (by kernel_rfl) (by kernel_rfl) (by kernel_rfl) (by kernel_rfl) (fun _ _ _ h => h) (by kernel_rfl) (by intro w' hS'; obtain a0 := hS'; go_simp <;> rfl) yS3 ?_
    try simp only [List.getElem_toArray, List.getElem_cons_succ, List.getElem_cons_zero, Act.put, List.setIfInBounds_toArray, List.set_cons_zero, List.set_cons_succ]
    refine wpAnyL_take 10 rfl (by kernel_rfl) (by kernel_rfl) (by kernel_rfl) (by kernel_rfl) (fun _ _ _ h => h) (by kernel_rfl) (by intro w' hS'; obtain a0 := hS'; go_simp <;> rfl) yS3 ?_
    try simp only [List.getElem_toArray, List.getElem_cons_succ, List.getElem_cons_zero, Act.put, List.setIfInBounds_toArray, List.set_cons_zero, List.set_cons_succ]
    refine wpAnyL_take 11 rfl (by kernel_rfl) (by kernel_rfl) (by kernel_rfl) (by kernel_rfl) (fun _ _ _ h => h) (by kernel_rfl) (by intro w' hS'; obtain a0 := hS'; go_simp <;> rfl) yS3 ?_
    try simp only [List.getElem_toArray, List.getElem_cons_succ, List.getElem_cons_zero, Act.put, List.setIfInBounds_toArray, List.set_cons_zero, List.set_cons_succ]
    refine wpAnyL_take 12 rfl (by kernel_rfl) (by kernel_rfl) (by kernel_rfl) (by kernel_rfl) (fun _ _ _ h => h) (by kernel_rfl) (by intro w' hS'; obtain a0 := hS'; go_simp <;> rfl) yS3 ?_
    try simp only [List.getElem_toArray, List.getElem_cons_succ, List.getElem_cons_zero, Act.put, List.setIfInBounds_toArray, List.set_cons_zero, List.set_cons_succ]
    refine wpAnyL_take 13 rfl (by kernel_rfl) (by kernel_rfl) (by kernel_rfl) (by kernel_rfl) (fun _ _ _ h => h) (by kernel_rfl) (by intro w' hS'; obtain a0 := hS'; go_simp <;> rfl) yS3 ?_
    try simp only [List.getElem_toArray, List.getElem_cons_succ, List.getElem_cons_zero, Act.put, List.setIfInBounds_toArray, List.set_cons_zero, List.set_cons_succ]
    refine wpAnyL_take 14 rfl (by kernel_rfl) (by kernel_rfl) (by kernel_rfl) (by kernel_rfl) (fun _ _ _ h => h) (by kernel_rfl) (by intro w' hS'; obtain a0 := hS'; go_simp <;> rfl) yS3 ?_
    try simp only [List.getElem_toArray, List.getElem_cons_succ, List.getElem_cons_zero, Act.put, List.setIfInBounds_toArray, List.set_cons_zero, List.set_cons_succ]
    refine wpAnyL_take 15 rfl (by kernel_rfl) (by kernel_rfl) (by kernel_rfl) (by kernel_rfl) (fun _ _ _ h => h) (by kernel_rfl) (by intro w' hS'; obtain a0 := hS'; go_simp <;> rfl) yS3 ?_
    try simp only [List.getElem_toArray, List.getElem_cons_succ, List.getElem_cons_zero, Act.put, List.setIfInBounds_toArray, List.set_cons_zero, List.set_cons_succ]
    refine wpAnyL_take 16 rfl (by kernel_rfl) (by kernel_rfl) (by kernel_rfl) (by kernel_rfl) (fun _ _ _ h => h) (by kernel_rfl) (by intro w' hS'; obtain a0 := hS'; go_simp <;> rfl) yS3 ?_
    try simp only [List.getElem_toArray, List.getElem_cons_succ, List.getElem_cons_zero, Act.put, List.setIfInBounds_toArray, List.set_cons_zero, List.set_cons_succ]
    refine wpAnyL_one 17 (by kernel_rfl) rfl (by kernel_rfl) ?_
    intro K' hK'
    go_simp
    go_at_call 16
    refine kS.mono ?_
    rintro e w4 ⟨rfl, hb4'⟩
    have hb4 := hb3.trans (hb4'.mono hb3.size)
    have yS4 : (fun W => (convert 58 9 b1).run Try.prog W = .ok (.string X) W) w4 := by rw [← hX]; exact Wi.str_of ((hBd.below hb3').below hb4') hlt
    have kW := cawake_of w4
    refine hK'.out _ _ (.inr yS4) ?_
    clear hK' K'
    try simp only [List.getElem_toArray, List.getElem_cons_succ, List.getElem_cons_zero, Act.put, List.setIfInBounds_toArray, List.set_cons_zero, List.set_cons_succ]
    refine wpAnyL_take 18 rfl (by kernel_rfl) (by kernel_rfl) (by kernel_rfl) (by kernel_rfl) (fun _ _ _ h => h) (by kernel_rfl) (by intro w' hS'; obtain a0 := hS'; go_simp <;> rfl) yS4 ?_
    try simp only [List.getElem_toArray, List.getElem_cons_succ, List.getElem_cons_zero, Act.put, List.setIfInBounds_toArray, List.set_cons_zero, List.set_cons_succ]
    refine wpAnyL_take 19 rfl (by kernel_rfl) (by kernel_rfl) (by kernel_rfl) (by kernel_rfl) (fun _ _ _ h => h) (by kernel_rfl) (by intro w' hS'; obtain a0 := hS'; go_simp <;> rfl) yS4 ?_
    try simp only [List.getElem_toArray, List.getElem_cons_succ, List.getElem_cons_zero, Act.put, List.setIfInBounds_toArray, List.set_cons_zero, List.set_cons_succ]
    refine wpAnyL_one 20 (by kernel_rfl) rfl (by kernel_rfl) ?_
    intro K' hK'
    go_simp
    go_at_call 17
    refine kW.mono ?_
    rintro e w5 ⟨rfl, hb5'⟩
    have hb5 := hb4.trans (hb5'.mono hb4.size)
    have yS5 : (fun W => (convert 58 9 b1).run Try.prog W = .ok (.string X) W) w5 := by rw [← hX]; exact Wi.str_of (((hBd.below hb3').below hb4').below hb5') hlt
    refine hK'.out _ _ (.inr yS5) ?_
    clear hK' K'
    try simp only [List.getElem_toArray, List.getElem_cons_succ, List.getElem_cons_zero, Act.put, List.setIfInBounds_toArray, List.set_cons_zero, List.set_cons_succ]
    refine wpAnyL_take 21 rfl (by kernel_rfl) (by kernel_rfl) (by kernel_rfl) (by kernel_rfl) (fun _ _ _ h => h) (by kernel_rfl) (by intro w' hS'; obtain a0 := hS'; go_simp <;> rfl) yS5 ?_
    try simp only [List.getElem_toArray, List.getElem_cons_succ, List.getElem_cons_zero, Act.put, List.setIfInBounds_toArray, List.set_cons_zero, List.set_cons_succ]
    refine wpAnyL_take 22 rfl (by kernel_rfl) (by kernel_rfl) (by kernel_rfl) (by kernel_rfl) (fun _ _ _ h => h) (by kernel_rfl) (by intro w' hS'; obtain a0 := hS'; go_simp <;> rfl) yS5 ?_
    try simp only [List.getElem_toArray, List.getElem_cons_succ, List.getElem_cons_zero, Act.put, List.setIfInBounds_toArray, List.set_cons_zero, List.set_cons_succ]
    refine wpAnyL_done (by kernel_rfl) (NoPanic.normal ?_) _
    go_wp2
    go_ret
    exact ⟨rfl, hb5⟩
end Go.Proofs.Ytldlimakcdaoaaa

