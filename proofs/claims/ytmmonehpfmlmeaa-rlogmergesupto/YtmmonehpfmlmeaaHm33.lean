import Derived.Test.YtmmonehpfmlmeaaHm32
/- The law's awake. -/
namespace Go.Proofs.Ytmmonehpfmlmeaa
open Go.RowKit QuorumMath RlogMath
set_option maxRecDepth 100000
set_option linter.unusedSimpArgs false
set_option linter.unusedVariables false

set_option maxHeartbeats 400000 in
theorem awake_of (w : World) : Calls Try.prog 13 #[] w fun e w' => e = .returned (.bool true) ∧ Below w.heap.size w w' := by
  have ks := small_of w
  go_enter Try.func13, Try.ntmps13
  go_wp2_with fail
  refine ks.mono ?_
  rintro e w1 ⟨v1, rfl, ⟨s1, zs1, lv1, rfl, hD1, hE1, hm1⟩, hb1⟩
  obtain rfl : zs1 = [] := by simpa [mes] using hm1
  obtain ⟨l1a, l1c, rfl, -, -⟩ := hE1.1.shape
  dsimp only [lgv, smM]
  clear ks hm1
  obtain ⟨q1, q2, q3⟩ := one_box w1 (.cells #[.int .u8 7] 5)
  have hb2 := hb1.trans (q3.mono hb1.size)
  have hD7 : Rd byteE (w1.alloc (.cells #[.int .u8 7] 5)) (.slice (some ⟨w1.heap.size, 0, none⟩) 1 1) [7] := (Rk.made (E := byteE) (xs := [7]) q2 rfl (by unfold maxLen; simp)).rd
  have ka := papp_of (smM, s1) [] (.slice l1a ([] : List Ez).length l1c) 3 1 [7] (some ⟨w1.heap.size, 0, none⟩, 1, 1) _ (hD1.below q3) (hE1.below q3) (sm_ok s1) (by simp) hD7 (by decide) (by simp) (show [1].length ≤ 1000000000 by decide) (by simp) (by decide)
  rw [show appM (smM, s1).1 (mes []) 3 1 [7] = (0, smM, [⟨1, 3, 1, [7]⟩]) from sm_app] at ka
  obtain ⟨sa, sn, sc⟩ := s1
  dsimp only [lgv, smM] at ka
  clear q1 q2 q3 hD7 hD1 hb1 hE1
  go_wp2_with fail
  refine ka.mono ?_
  rintro e w3 ⟨⟨v3, rfl, s3, zs3, lv3, rfl, hD3, hE3, hm3⟩, hb3⟩
  have hb03 := hb2.trans (hb3.mono hb2.size)
  obtain ⟨z3, rfl⟩ : ∃ z, zs3 = [z] := by
    have hl3 : zs3.length = 1 := by have := congrArg List.length hm3; simpa [mes] using this
    match zs3, hl3 with
    | [z], _ => exact ⟨z, rfl⟩
  have hok3 : ∀ z ∈ [z3], EzOk z ∧ z.1.data.length ≤ 1000000000 := fun z hz => by
    have : z.1 ∈ mes [z3] := List.mem_map.2 ⟨z, hz, rfl⟩
    rw [hm3] at this
    simp only [List.mem_singleton] at this
    unfold EzOk
    rw [this]
    decide
  dsimp only at hm3
  have HLB : Hid _ := lg_box w3 (smM, s3) lv3
  have hbl := HLB.out.2.1
  have kl := plast_of (smM, s3) [z3] lv3 _ (hE3.below hbl) (by simp)
  have kvH : Hid (∀ W, Below w3.heap.size w3 W → _) := fun W hW => pvot_of (smM, s3) [z3] lv3 W (hD3.below hW) (hE3.below hW) (sm_ok s3) (fun z hz => (hok3 z hz).1) (by simp) (show [1].length ≤ 1000000000 by decide) (fun z hz => (hok3 z hz).2)
  have kcH : Hid (∀ W, _) := fun W => pcheck_of (zeroMe, (none, 0, 0)) [] (.slice none 0 0) W (rdb_nil W) (ents_nil W) ⟨by decide, by decide, by decide⟩ (by simp) (by simp) (by decide)
  rw [show lastM (smM, s3).1 (mes [z3]) = (1, 3) by rw [hm3]; rfl] at kl
  obtain ⟨la3, lc3, rfl, -, -⟩ := hE3.1.shape
  have HVL : Hid ((votM (smM, s3).1 (mes [z3])).length = 1) := by show _ = _; rw [hm3]; rfl
  obtain ⟨ta, tn, tc⟩ := s3
  clear ka hm3 hok3 hD3 hE3
  dsimp only [lgv, smM, lgc, lastV] at *
  obtain ⟨hs, -, cl⟩ := HLB.out
  obtain ⟨c0, c1, c2, c3, c4⟩ := cl _ (Below.refl _ _)
  have hb04 := hb03.trans (hbl.mono hb03.size)
  clear HLB
  go_wp2_with fail
  refine kl.mono ?_
  rintro e w5 ⟨rfl, hb5⟩
  rw [hs] at hb5
  obtain ⟨c0, c1, c2, c3, c4⟩ := cl w5 hb5
  have hb35 := hbl.trans (hb5.mono (Nat.le_succ _))
  have hb05 := hb03.trans (hb35.mono hb03.size)
  have kv := kvH.out w5 hb35
  clear kl cl hs kvH
  go_wp2_with fail
  refine kv.mono ?_
  rintro e w6 ⟨v6, rfl, hR6, hb6⟩
  obtain ⟨va, vc, rfl, -, -⟩ := hR6.shape
  have hvn := HVL.out
  have kc := kcH.out w6
  rw [show mayB (zeroMe, ((none, 0, 0) : Sl)).1 (mes []) = false from zero_may] at kc
  have hb06 := hb05.trans (hb6.mono hb05.size)
  dsimp only [smM, zeroMe, lgv, codeB] at *
  rw [hvn]
  clear kv hR6 HVL kcH hvn
  go_wp2_with fail
  refine kc.mono ?_
  rintro e w7 ⟨rfl, hb7⟩
  go_wp2
  go_ret
  exact ⟨rfl, hb06.trans (hb7.mono hb06.size)⟩
end Go.Proofs.Ytmmonehpfmlmeaa

