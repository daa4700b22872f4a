import Derived.Test.YtebkfkijlopmoaaHs42
import Derived.Test.YtebkfkijlopmoaaHs32
/- The law SessionDecodes answers true. -/
namespace Go.Proofs.Ytebkfkijlopmoaa
open Go.RowKit SessionMath WireMath
set_option maxRecDepth 100000
set_option linter.unusedSimpArgs false
set_option linter.unusedVariables false

theorem okb {b : List Nat} (hl : ∀ c ∈ b, c < 256) : ∀ m ∈ (decX 7 b).1, OkS m := fun m hm => by
  have h := rdL_ok (m := 7) hl (Wi.nuN b 0 0 8) (Wi.nuA b 0 0 8) (Wi.nuE b 0 0 8) m hm
  exact ⟨h.1, h.2.1⟩
theorem decX_len (b : List Nat) : (decX 7 b).1.length ≤ 8 := by
  unfold decX
  rw [rdL_len]
  exact nuN_most (m := 8)
set_option maxHeartbeats 8000000 in
theorem decodes_law (b : List Nat) (bv : Value) (w : World) (hB : Bn w bv b) (hl : ∀ c ∈ b, c < 256) : Calls Try.prog 5 #[bv] w fun e w' => e = .returned (.bool true) ∧ Below w.heap.size w w' := by
  obtain ⟨bp, bc, rfl⟩ := hB.shape
  by_cases hbig : 40000 < b.length
  · have hi : (40000 : Int) < (b.length : Int) := by omega
    have kW := awake_of w
    clear hB hl hbig
    go_enter Try.func5, Try.ntmps5
    go_wp2_with fail
    refine kW.mono ?_
    rintro e w1 ⟨rfl, hb1⟩
    go_wp2
    go_ret
    exact ⟨rfl, hb1⟩
  · have hi : ¬ (40000 : Int) < (b.length : Int) := by omega
    have hlen : b.length ≤ 140737488355328 := by omega
    obtain ⟨q1, q2, q3⟩ := one_box w (.cells #[] 5)
    have hO0 : Wi.Own w.heap.size (w.alloc (.cells #[] 5)) (.slice (some ⟨w.heap.size, 0, none⟩) 0 0) [] := ⟨by simp [Wi.bc], .inr ⟨w.heap.size, 0, #[], rfl, Nat.le_refl _, q2, Nat.le_refl _, by unfold maxLen; omega, rfl, by simp [Wi.bc]⟩⟩
    have hrun : Hid _ := app_run hO0 q3.size (hB.below q3) (by simp; omega)
    obtain ⟨C, O, L, hCO, HLO, HLL, kD, kR⟩ : ∃ (C : Int) (O : Bool) (L : List Ms), ((C = 0 ∧ O = true) ∨ (C = 5 ∧ O = false)) ∧ Hid (∀ m ∈ L, OkS m) ∧ Hid (L.length ≤ 1000000) ∧
        (∀ v W, Bn W v b → Calls Try.prog 17 #[v] W fun e w' => (∃ v' zs', e = .returned (.tuple #[v', .int .i64 C]) ∧ SeatsV w' v' zs' ∧ mes zs' = L) ∧ Below W.heap.size W w') ∧
        (∀ W, Below w.heap.size w W → Calls Try.prog 19 #[.slice bp b.length bc] W fun e w' => (∃ v' zs', e = .returned (.tuple #[v', .bool O]) ∧ SeatsV w' v' zs' ∧ mes zs' = L) ∧ Below W.heap.size W w') := by
      cases hd : decOk b with
      | true =>
        refine ⟨0, true, (decX 7 b).1, .inl ⟨rfl, rfl⟩, okb hl, (by have := decX_len b; show _ ≤ _; omega), fun v W h => (dec_of b v W h hl hlen).mono ?_, fun W hW => (rdec_of b _ W (hB.below hW) hl hlen).mono ?_⟩
        · rintro e w' ⟨⟨v', c, zs', rfl, hS, hT⟩, hb⟩
          rw [hd, if_pos rfl] at hT
          obtain ⟨rfl, hR⟩ := hT
          exact ⟨⟨v', zs', rfl, hS, hR⟩, hb⟩
        · rintro e w' ⟨⟨v', zs', rfl, hS, hT⟩, hb⟩
          rw [hd, if_pos rfl] at hT
          rw [hd]
          exact ⟨⟨v', zs', rfl, hS, hT⟩, hb⟩
      | false =>
        refine ⟨5, false, [], .inr ⟨rfl, rfl⟩, (fun m hm => by cases hm), (by show _ ≤ _; simp), fun v W h => (dec_of b v W h hl hlen).mono ?_, fun W hW => (rdec_of b _ W (hB.below hW) hl hlen).mono ?_⟩
        · rintro e w' ⟨⟨v', c, zs', rfl, hS, hT⟩, hb⟩
          rw [hd, if_neg (by decide)] at hT
          obtain ⟨rfl, rfl⟩ := hT
          exact ⟨⟨_, [], rfl, hS, rfl⟩, hb⟩
        · rintro e w' ⟨⟨v', zs', rfl, hS, hT⟩, hb⟩
          rw [hd, if_neg (by decide)] at hT
          rw [hd]
          subst hT
          exact ⟨⟨_, [], rfl, hS, rfl⟩, hb⟩
    clear q1 q2 hO0 hlen hbig hB hl
    rcases hCO with ⟨rfl, rfl⟩ | ⟨rfl, rfl⟩
    · go_enter Try.func5, Try.ntmps5
      go_wp2_with (at_builtin; refine wp_by rfl _ _ _ rfl _ _ rfl rfl hrun.out ?_)
      intro v1 w1 hp1
      obtain ⟨hO1, hb1'⟩ := hp1
      have hb1 := q3.trans hb1'
      have hB1 : Bn w1 v1 b := hO1.bs
      have k1 := kD v1 w1 hB1
      clear hrun kD hO1 hB1 q3 hb1'
      go_wp2_with fail
      refine k1.mono ?_
      rintro e w2 ⟨⟨v2, zs2, rfl, hS2, hm2⟩, hb2'⟩
      have hb2 := keep_step hb1 (Nat.le_refl _) hb2'
      have k2 := kR w2 hb2
      clear k1 kR hb1 hb2'
      go_wp2_with fail
      refine k2.mono ?_
      rintro e w3 ⟨⟨v3, zs3, rfl, hS3, hm3⟩, hb3'⟩
      have hb3 := keep_step hb2 (Nat.le_refl _) hb3'
      have kS := same_of zs2 zs3 v2 v3 w3 (hS2.below hb3') hS3 (hm2.trans hm3.symm) (szok_of hm2 HLO.out) (by rw [mes_len hm2]; exact HLL.out)
      obtain ⟨a2, c2, hv2, -, -⟩ := hS2.1.shape
      obtain ⟨a3, c3, hv3, -, -⟩ := hS3.1.shape
      subst hv2
      subst hv3
      clear k2 hS2 hS3 hb2 hb3' hm2 hm3 HLO HLL
      go_wp2_with fail
      refine kS.mono ?_
      rintro e w4 ⟨rfl, hb4'⟩
      have hb4 := keep_step hb3 (Nat.le_refl _) hb4'
      have kW := awake_of w4
      clear kS hb3 hb4'
      go_wp2_with fail
      refine kW.mono ?_
      rintro e w5 ⟨rfl, hb5⟩
      have hb05 := keep_step hb4 (Nat.le_refl _) hb5
      go_wp2
      go_ret
      exact ⟨rfl, hb05⟩
    · go_enter Try.func5, Try.ntmps5
      go_wp2_with (at_builtin; refine wp_by rfl _ _ _ rfl _ _ rfl rfl hrun.out ?_)
      intro v1 w1 hp1
      obtain ⟨hO1, hb1'⟩ := hp1
      have hb1 := q3.trans hb1'
      have hB1 : Bn w1 v1 b := hO1.bs
      have k1 := kD v1 w1 hB1
      clear hrun kD hO1 hB1 q3 hb1'
      go_wp2_with fail
      refine k1.mono ?_
      rintro e w2 ⟨⟨v2, zs2, rfl, hS2, hm2⟩, hb2'⟩
      have hb2 := keep_step hb1 (Nat.le_refl _) hb2'
      have k2 := kR w2 hb2
      clear k1 kR hb1 hb2'
      go_wp2_with fail
      refine k2.mono ?_
      rintro e w3 ⟨⟨v3, zs3, rfl, hS3, hm3⟩, hb3'⟩
      have hb3 := keep_step hb2 (Nat.le_refl _) hb3'
      have kS := same_of zs2 zs3 v2 v3 w3 (hS2.below hb3') hS3 (hm2.trans hm3.symm) (szok_of hm2 HLO.out) (by rw [mes_len hm2]; exact HLL.out)
      obtain ⟨a2, c2, hv2, -, -⟩ := hS2.1.shape
      obtain ⟨a3, c3, hv3, -, -⟩ := hS3.1.shape
      subst hv2
      subst hv3
      clear k2 hS2 hS3 hb2 hb3' hm2 hm3 HLO HLL
      go_wp2_with fail
      refine kS.mono ?_
      rintro e w4 ⟨rfl, hb4'⟩
      have hb4 := keep_step hb3 (Nat.le_refl _) hb4'
      have kW := awake_of w4
      clear kS hb3 hb4'
      go_wp2_with fail
      refine kW.mono ?_
      rintro e w5 ⟨rfl, hb5⟩
      have hb05 := keep_step hb4 (Nat.le_refl _) hb5
      go_wp2
      go_ret
      exact ⟨rfl, hb05⟩
end Go.Proofs.Ytebkfkijlopmoaa

