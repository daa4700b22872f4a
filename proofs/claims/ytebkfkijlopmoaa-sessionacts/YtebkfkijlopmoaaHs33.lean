import Derived.Test.YtebkfkijlopmoaaHs32
/- The law SessionActs answers true. -/
namespace Go.Proofs.Ytebkfkijlopmoaa
open Go.RowKit SessionMath
set_option maxRecDepth 100000
set_option linter.unusedSimpArgs false
set_option linter.unusedVariables false

def AppB (n : Nat) (w : World) (L : List Nat) (v' : Value) (w' : World) : Prop := Wi.Own n w' v' L ∧ Below n w w'
theorem app_run {n n₁ : Nat} {w : World} {v xv : Value} {l r : List Nat} (h : Wi.Own n w v l) (hn : n ≤ w.heap.size) (hB : Wi.Bs n₁ w xv r) (hlen : l.length + r.length ≤ 140737488355328) :
    ∀ ty, ∃ v' w', (Builtin.append_ #[26, 26] ty #[v, xv]).run Try.prog w = .ok v' w' ∧ AppB n w (l ++ r) v' w' := fun ty => by
  obtain ⟨v', w', h1, h2, h3, _⟩ := Wi.run_append_bs w ty n v l h hn n₁ xv r hB hlen
  exact ⟨v', w', h1, h2, h3⟩

set_option maxHeartbeats 8000000 in
theorem acts_law (zs : List Sz) (lv rv : Value) (c : Int) (q : Nat) (r : List Nat) (w : World) (hL : SeatsV w lv zs) (hR : Bn w rv r) (hok : ∀ z ∈ zs, SzOk z) (hq : q < 18446744073709551616) (hrb : ∀ b ∈ r, b < 256) : Calls Try.prog 3 #[lv, .agg #[.int .i64 c, .int .u64 (q : Int)], rv] w fun e w' => e = .returned (.bool true) ∧ Below w.heap.size w w' := by
  obtain ⟨hsz, hb0, cl⟩ := id_box w c q
  obtain ⟨ra, rc, rfl⟩ := hR.shape
  have kL := light_of zs lv (w.alloc (.cells #[.int .i64 c, .int .u64 (q : Int)] 25)) (hL.below hb0)
  have HL : Hid (SeatsV w lv zs) := hL
  have HR : Hid (Bn w (.slice ra r.length rc) r) := hR
  have HOK : Hid (∀ z ∈ zs, SzOk z) := hok
  obtain ⟨ao, cap, rfl, -, -⟩ := hL.1.shape
  clear hL hR hok
  have hbw : ∀ W, Below (w.heap.size + 1) (w.alloc (.cells #[.int .i64 c, .int .u64 (q : Int)] 25)) W → Below w.heap.size w W := fun W hW => hb0.trans (hW.mono (Nat.le_succ _))
  have hszr : Hid (w.heap.size + 1 ≤ (w.alloc (.cells #[.int .i64 c, .int .u64 (q : Int)] 25)).heap.size) := by show _ ≤ _; omega
  go_enter Try.func3, Try.ntmps3
  go_wp2_with fail
  refine kL.mono ?_
  rintro e w1 ⟨⟨B, rfl, hB⟩, hw1⟩
  have hb01 : Below (w.heap.size + 1) (w.alloc (.cells #[.int .i64 c, .int .u64 (q : Int)] 25)) w1 := by rw [hw1]; exact Below.refl _ _
  clear kL hw1
  cases B with
  | false =>
    have kW := awake_of w1
    clear hB HL HR HOK
    go_wp2_with fail
    refine kW.mono ?_
    rintro e w2 ⟨rfl, hb2⟩
    go_wp2
    go_ret
    exact ⟨rfl, hbw _ (keep_step hb01 hszr.out hb2)⟩
  | true =>
    have hl20 := hB rfl
    clear hB
    by_cases hr5 : 5000 < r.length
    · have hr5i : (5000 : Int) < (r.length : Int) := by omega
      have kW := awake_of w1
      clear HL HR HOK
      go_wp2_with fail
      refine kW.mono ?_
      rintro e w2 ⟨rfl, hb2⟩
      go_wp2
      go_ret
      exact ⟨rfl, hbw _ (keep_step hb01 hszr.out hb2)⟩
    · have hr5i : ¬ (5000 : Int) < (r.length : Int) := by omega
      have hlen : zs.length ≤ 1000000 := by omega
      have hoS : ∀ m ∈ mes zs, OkS m := fun m hm => by
        obtain ⟨z, hz, rfl⟩ := List.mem_map.1 hm
        exact HOK.out z hz
      have kl1 : Hid (∀ W, Below w.heap.size w W → _) := fun W hW => look_of zs (.slice ao zs.length cap) c q W (HL.out.below hW) HOK.out hlen hq
      have kl2 : Hid (∀ W, Below w.heap.size w W → _) := fun W hW => rlook_of zs (.slice ao zs.length cap) c q W (HL.out.below hW) HOK.out hlen hq
      have kc : Hid (∀ W, Below w.heap.size w W → _) := fun W hW => check_of zs (.slice ao zs.length cap) W (HL.out.below hW) hlen
      have km : Hid (∀ W, Below w.heap.size w W → _) := fun W hW => rmay_of zs (.slice ao zs.length cap) W (HL.out.below hW) hlen
      have kp : Hid (∀ W v, Below w.heap.size w W → Bn W v r → Calls Try.prog 13 #[.slice ao zs.length cap, .agg #[.int .i64 c, .int .u64 (q : Int)], v] W fun e w' => PutT (putM (mes zs) ⟨c, q, r⟩) e w' ∧ Below W.heap.size W w') := fun W v hW hv => put_of zs (.slice ao zs.length cap) v c q r W (HL.out.below hW) hv HOK.out hlen hq (by omega)
      have kp2 : Hid (∀ W, Below w.heap.size w W → _) := fun W hW => rput_of zs (.slice ao zs.length cap) (.slice ra r.length rc) c q r W (HL.out.below hW) (HR.out.below hW) HOK.out hlen hq (by omega)
      have HLB : Hid (∀ b ∈ (lookM (mes zs) c q).1, b < 256) := oks_look hoS
      have HPO : Hid (∀ m ∈ (putM (mes zs) ⟨c, q, r⟩).1, OkS m) := oks_put hoS ⟨hq, hrb⟩
      have HPL : Hid ((putM (mes zs) ⟨c, q, r⟩).1.length ≤ 1000000) := by
        show _ ≤ _
        have := put_len (l := mes zs) (s := ⟨c, q, r⟩)
        rw [List.length_map] at this
        omega
      obtain ⟨⟨LB, LD, LC⟩, hLM⟩ : ∃ m, m = lookM (mes zs) c q := ⟨_, rfl⟩
      obtain ⟨⟨PL, PC⟩, hPM⟩ : ∃ m, m = putM (mes zs) ⟨c, q, r⟩ := ⟨_, rfl⟩
      obtain ⟨M, hM⟩ : ∃ M, M = mayB (mes zs) := ⟨_, rfl⟩
      rw [← hLM] at kl1 kl2 HLB
      rw [← hPM] at kp kp2 HPO HPL
      rw [← hM] at kc km
      obtain ⟨CI, hCIH, hCI⟩ : ∃ CI : Int, Hid (CI = if M = true then 0 else 1) ∧ (CI == 0) = M := ⟨_, rfl, by cases M <;> rfl⟩
      rw [← hCIH.out] at kc
      have hMM : (M != M) = false := by simp
      clear hCIH
      dsimp only at HLB HPO HPL
      clear hoS HL HOK hLM hPM hM hrb
      obtain ⟨d0, d1⟩ := cl _ hb01
      have k1 := kl1.out w1 (hbw _ hb01)
      clear kl1
      go_wp2_with fail
      refine k1.mono ?_
      rintro e w2 ⟨⟨v2, rfl, hB2⟩, hb2⟩
      have hb02 := keep_step hb01 hszr.out hb2
      clear k1 d0 d1 hb01 hb2
      obtain ⟨d0, d1⟩ := cl _ hb02
      have k2 := kl2.out w2 (hbw _ hb02)
      dsimp only at hB2
      obtain ⟨a2, c2, hv2⟩ := hB2.shape
      clear kl2
      go_wp2_with fail
      refine k2.mono ?_
      rintro e w3 ⟨⟨v3, rfl, hB3⟩, hb3⟩
      have hb03 := keep_step hb02 hszr.out hb3
      dsimp only at hB3
      have hB23 := hB2.below hb3
      have k3 := kc.out w3 (hbw _ hb03)
      clear k2 d0 d1 hb02 hb3 hB2 kc
      go_wp2_with fail
      refine k3.mono ?_
      rintro e w4 ⟨rfl, hb4⟩
      have hb04 := keep_step hb03 hszr.out hb4
      have hB24 := hB23.below hb4
      have hB34 := hB3.below hb4
      have k4 := km.out w4 (hbw _ hb04)
      clear k3 hb03 hb4 hB23 hB3 km
      go_wp2_with fail
      refine k4.mono ?_
      rintro e w5 ⟨rfl, hb5⟩
      have hb05 := keep_step hb04 hszr.out hb5
      have e1 := Wi.str_of (hB24.below hb5) HLB.out
      have e2 := Wi.str_of (hB34.below hb5) HLB.out
      obtain ⟨a3, c3, hv3⟩ := hB34.shape
      subst hv2
      subst hv3
      generalize Wi.str LB = S at *
      generalize LB.length = LN at *
      clear k4 hb04 hb5 hB24 hB34 HLB
      obtain ⟨w6, hw6⟩ : ∃ w6, w6 = w5 := ⟨_, rfl⟩
      have hb06 : Below (w.heap.size + 1) (w.alloc (.cells #[.int .i64 c, .int .u64 (q : Int)] 25)) w6 := by rw [hw6]; exact hb05
      rw [← hw6] at e1 e2 ⊢
      clear hw6 hb05
      go_wp2
      refine wp_region_L (fun W => (W.cell? ⟨w.heap.size, 0, none⟩ = some (.int .i64 c) ∧ W.cell? ⟨w.heap.size, 1, none⟩ = some (.int .u64 (q : Int))) ∧ Below (w.heap.size + 1) (w.alloc (.cells #[.int .i64 c, .int .u64 (q : Int)] 25)) W) [] (by kernel_rfl) ?_
      have hbd := hb06.drew
      clear hb06
      generalize w6.drew = wd at *
      have yS : (fun W => (W.cell? ⟨w.heap.size, 0, none⟩ = some (.int .i64 c) ∧ W.cell? ⟨w.heap.size, 1, none⟩ = some (.int .u64 (q : Int))) ∧ Below (w.heap.size + 1) (w.alloc (.cells #[.int .i64 c, .int .u64 (q : Int)] 25)) W) wd := ⟨cl _ hbd, hbd⟩
      refine wpAnyL_take 0 rfl (by kernel_rfl) (by kernel_rfl) (by kernel_rfl) (by kernel_rfl) (fun _ _ _ h => h) (wanted_none rfl) (by intro w' hS'; obtain ⟨⟨x0, x1⟩, xb⟩ := hS'; go_simp <;> rfl) yS ?_
      try simp only [List.getElem_toArray, List.getElem_cons_succ, List.getElem_cons_zero, Act.put, List.setIfInBounds_toArray, List.set_cons_zero, List.set_cons_succ]
      refine wpAnyL_take 1 rfl (by kernel_rfl) (by kernel_rfl) (by kernel_rfl) (by kernel_rfl) (fun _ _ _ h => h) (wanted_none rfl) (by intro w' hS'; obtain ⟨⟨x0, x1⟩, xb⟩ := hS'; go_simp <;> rfl) yS ?_
      try simp only [List.getElem_toArray, List.getElem_cons_succ, List.getElem_cons_zero, Act.put, List.setIfInBounds_toArray, List.set_cons_zero, List.set_cons_succ]
      refine wpAnyL_take 3 rfl (by kernel_rfl) (by kernel_rfl) (by kernel_rfl) (by kernel_rfl) (fun _ _ _ h => h) (wanted_none rfl) (by intro w' hS'; obtain ⟨⟨x0, x1⟩, xb⟩ := hS'; go_simp <;> rfl) yS ?_
      try simp only [List.getElem_toArray, List.getElem_cons_succ, List.getElem_cons_zero, Act.put, List.setIfInBounds_toArray, List.set_cons_zero, List.set_cons_succ]
      refine wpAnyL_one 2 (by kernel_rfl) rfl (wanted_none rfl) ?_
      intro K' hK'
      go_simp
      obtain ⟨z1, z2, z3⟩ := one_box wd (.cells #[] 5)
      have hbe := keep_step hbd hszr.out z3
      have HND : Hid (w.heap.size + 1 ≤ wd.heap.size) := Nat.le_trans hszr.out hbd.size
      have hO0 : Wi.Own wd.heap.size (wd.alloc (.cells #[] 5)) (.slice (some ⟨wd.heap.size, 0, none⟩) 0 0) [] := ⟨by simp [Wi.bc], .inr ⟨wd.heap.size, 0, #[], rfl, Nat.le_refl _, z2, Nat.le_refl _, by unfold maxLen; omega, rfl, by simp [Wi.bc]⟩⟩
      have hrun : Hid _ := app_run hO0 z3.size (HR.out.below (hbw _ hbe)) (by simp; omega)
      have yS2 : (fun W => (W.cell? ⟨w.heap.size, 0, none⟩ = some (.int .i64 c) ∧ W.cell? ⟨w.heap.size, 1, none⟩ = some (.int .u64 (q : Int))) ∧ Below (w.heap.size + 1) (w.alloc (.cells #[.int .i64 c, .int .u64 (q : Int)] 25)) W) (wd.alloc (.cells #[] 5)) := ⟨cl _ hbe, hbe⟩
      refine hK'.out _ _ (.inr yS2) ?_
      clear hK' K'
      try simp only [List.getElem_toArray, List.getElem_cons_succ, List.getElem_cons_zero, Act.put, List.setIfInBounds_toArray, List.set_cons_zero, List.set_cons_succ]
      generalize wd.alloc (.cells #[] 5) = we at *
      generalize wd.heap.size = nd at *
      refine wpAnyL_one 4 (by kernel_rfl) rfl (wanted_none rfl) ?_
      intro K' hK'
      refine op_by _ _ _ rfl _ _ rfl rfl hrun.out ?_
      intro v7 w7 hp7
      obtain ⟨hO7, hb7⟩ := hp7
      have hB7 : Bn w7 v7 r := hO7.bs
      have hbnd : Hid (w.heap.size + 1 ≤ nd) := HND.out
      have hb07 : Below (w.heap.size + 1) _ w7 := hbe.trans (hb7.mono HND.out)
      have yS7 : (fun W => (W.cell? ⟨w.heap.size, 0, none⟩ = some (.int .i64 c) ∧ W.cell? ⟨w.heap.size, 1, none⟩ = some (.int .u64 (q : Int))) ∧ Below (w.heap.size + 1) (w.alloc (.cells #[.int .i64 c, .int .u64 (q : Int)] 25)) W) w7 := ⟨cl _ hb07, hb07⟩
      obtain ⟨a7, n7, hv7⟩ := hB7.shape
      subst hv7
      have kp7 := kp.out w7 _ (hbw _ hb07) hB7
      refine hK'.out _ _ (.inr yS7) ?_
      clear hK' K'
      try simp only [List.getElem_toArray, List.getElem_cons_succ, List.getElem_cons_zero, Act.put, List.setIfInBounds_toArray, List.set_cons_zero, List.set_cons_succ]
      refine wpAnyL_one 5 (by kernel_rfl) rfl (wanted_none rfl) ?_
      intro K' hK'
      go_simp
      go_at_call 13
      refine kp7.mono ?_
      rintro e w8 ⟨⟨v8, zs8, rfl, hS8, hm8⟩, hb8⟩
      have hb08 := keep_step hb07 hszr.out hb8
      have yS8 : (fun W => (W.cell? ⟨w.heap.size, 0, none⟩ = some (.int .i64 c) ∧ W.cell? ⟨w.heap.size, 1, none⟩ = some (.int .u64 (q : Int))) ∧ Below (w.heap.size + 1) (w.alloc (.cells #[.int .i64 c, .int .u64 (q : Int)] 25)) W) w8 := ⟨cl _ hb08, hb08⟩
      obtain ⟨a8, c8, hv8, -, -⟩ := hS8.1.shape
      refine hK'.out _ _ (.inr yS8) ?_
      clear hK' K'
      try simp only [List.getElem_toArray, List.getElem_cons_succ, List.getElem_cons_zero, Act.put, List.setIfInBounds_toArray, List.set_cons_zero, List.set_cons_succ]
      refine wpAnyL_take 6 rfl (by kernel_rfl) (by kernel_rfl) (by kernel_rfl) (by kernel_rfl) (fun _ _ _ h => h) (wanted_none rfl) (by intro w' hS'; obtain ⟨⟨x0, x1⟩, xb⟩ := hS'; go_simp <;> rfl) yS8 ?_
      try simp only [List.getElem_toArray, List.getElem_cons_succ, List.getElem_cons_zero, Act.put, List.setIfInBounds_toArray, List.set_cons_zero, List.set_cons_succ]
      refine wpAnyL_take 7 rfl (by kernel_rfl) (by kernel_rfl) (by kernel_rfl) (by kernel_rfl) (fun _ _ _ h => h) (wanted_none rfl) (by intro w' hS'; obtain ⟨⟨x0, x1⟩, xb⟩ := hS'; go_simp <;> rfl) yS8 ?_
      try simp only [List.getElem_toArray, List.getElem_cons_succ, List.getElem_cons_zero, Act.put, List.setIfInBounds_toArray, List.set_cons_zero, List.set_cons_succ]
      refine wpAnyL_take 8 rfl (by kernel_rfl) (by kernel_rfl) (by kernel_rfl) (by kernel_rfl) (fun _ _ _ h => h) (wanted_none rfl) (by intro w' hS'; obtain ⟨⟨x0, x1⟩, xb⟩ := hS'; go_simp <;> rfl) yS8 ?_
      try simp only [List.getElem_toArray, List.getElem_cons_succ, List.getElem_cons_zero, Act.put, List.setIfInBounds_toArray, List.set_cons_zero, List.set_cons_succ]
      refine wpAnyL_take 9 rfl (by kernel_rfl) (by kernel_rfl) (by kernel_rfl) (by kernel_rfl) (fun _ _ _ h => h) (wanted_none rfl) (by intro w' hS'; obtain ⟨⟨x0, x1⟩, xb⟩ := hS'; go_simp <;> rfl) yS8 ?_
      try simp only [List.getElem_toArray, List.getElem_cons_succ, List.getElem_cons_zero, Act.put, List.setIfInBounds_toArray, List.set_cons_zero, List.set_cons_succ]
      refine wpAnyL_take 10 rfl (by kernel_rfl) (by kernel_rfl) (by kernel_rfl) (by kernel_rfl) (fun _ _ _ h => h) (wanted_none rfl) (by intro w' hS'; obtain ⟨⟨x0, x1⟩, xb⟩ := hS'; go_simp <;> rfl) yS8 ?_
      try simp only [List.getElem_toArray, List.getElem_cons_succ, List.getElem_cons_zero, Act.put, List.setIfInBounds_toArray, List.set_cons_zero, List.set_cons_succ]
      refine wpAnyL_done (by kernel_rfl) (NoPanic.normal ?_) _
      obtain ⟨d0, d1⟩ := cl _ hb08
      have k9 := kp2.out w8 (hbw _ hb08)
      dsimp only at hm8
      subst hv8
      clear kp7 hrun hO0 hO7 hB7 yS yS2 yS7 yS8 hbd hbe hb07 hb7 hb8 kp kp2 z1 z2 z3 hbnd HND e1 e2
      go_wp2_with fail
      refine k9.mono ?_
      rintro e w9 ⟨⟨v9, zs9, rfl, hS9, hm9⟩, hb9⟩
      have hb09 := keep_step hb08 hszr.out hb9
      dsimp only at hm9
      have kS := same_of zs8 zs9 _ v9 w9 (hS8.below hb9) hS9 (hm8.trans hm9.symm) (szok_of hm8 HPO.out) (by rw [mes_len hm8]; exact HPL.out)
      obtain ⟨a9, c9, hv9, -, -⟩ := hS9.1.shape
      subst hv9
      have hPCb : (PC == PC) = true := by simp
      clear k9 d0 d1 hb08 hb9 hS8 hS9 hm8 hm9
      go_wp2_with fail
      refine kS.mono ?_
      rintro e w10 ⟨rfl, hb10⟩
      have hb010 := keep_step hb09 hszr.out hb10
      have kW := awake_of w10
      clear kS hb09 hb10
      go_wp2_with fail
      refine kW.mono ?_
      rintro e w11 ⟨rfl, hb11⟩
      have hb011 := keep_step hb010 hszr.out hb11
      clear kW hb010 hb11
      go_wp2
      go_ret
      exact ⟨rfl, hbw _ hb011⟩
end Go.Proofs.Ytebkfkijlopmoaa

