import Derived.Test.YtldlimakcdaoaaaHd53
import Derived.Deep.SlicePairs
import Derived.Lib.SmallJoins
/- The law ChartDecodes answers true. -/
namespace Go.Proofs.Ytldlimakcdaoaaa
open Go.ChangeShapes Go.WideShapes Go.RowKit SpanMath ChartMath WireMath
set_option maxRecDepth 100000
set_option linter.unusedSimpArgs false
set_option linter.unusedVariables false

theorem cells_byte : Try.prog.cellsOf 5 = 1 := by kernel_rfl
/-- Bytes that came in. -/
theorem bytes_arg {H : Type} {enc : TypeId × Value → H} {W : World} {fuel : Nat} {sv : Value} {x : DataW H × List MemPlace}
    (h : DataW.trod enc Try.prog W 0 (fun _ => true) true fuel 58 [sv] = some x) : ∃ s, Bn W sv s ∧ ∀ c ∈ s, c < 256 := by
  rcases Deep.open_slice1 Try.underlying58 cells_byte h with ⟨hcs, hx⟩ | ⟨a, len, cap, m, n, V, D, Pl, hcs, _, hl, hm, hmm, hx, hc⟩
  · obtain rfl : sv = .slice none 0 0 := by simpa using hcs
    exact ⟨[], Wi.Bs.nil _ _, by simp⟩
  · obtain rfl : sv = .slice (some a) len cap := by simpa using hcs
    have hmc : m = cap := by rw [hmm]; rfl
    subst hmc
    have each : ∀ i, i < len → ∃ c : Nat, W.cell? (a.add i) = some (.int .u8 (c : Int)) ∧ c < 256 := by
      intro i hi
      obtain ⟨h1, h2⟩ := hc i (by omega)
      obtain ⟨k, g1, g2, g3⟩ := DataW.trod_int Try.underlying5 h2
      simp only [List.cons.injEq, and_true] at g1
      have hk : 0 ≤ k ∧ k ≤ 255 := by
        have g4 : IntKind.u8.min ≤ k ∧ k ≤ IntKind.u8.max := by simpa [Lit.wf] using g3
        exact g4
      exact ⟨k.toNat, by rw [h1, g1, Int.toNat_of_nonneg hk.1], by omega⟩
    obtain ⟨Q, hQ⟩ := Deep.choose_lt (α := Nat) each
    have hzl : ((List.range len).map Q).length = len := by simp
    refine ⟨(List.range len).map Q, ⟨some a, m, by rw [hzl], by rw [hzl]; exact hl, hm, (fun h => by cases h), fun hne => ?_⟩, ?_⟩
    · have h0 : 0 < len := by
        rcases Nat.eq_zero_or_pos len with h0 | h0
        · subst h0; simp at hne
        · exact h0
      have hc0 := (hQ 0 h0).1
      obtain ⟨b, off, spot⟩ := a
      have hspot : spot = none := by simpa [Addr.add] using World.cell?_spot hc0
      subst hspot
      refine ⟨b, off, rfl, World.block_lt_of_cell? W _ hc0, fun j c hj => ?_⟩
      have hj' : j < len := by
        have := (List.getElem?_eq_some_iff.1 hj).1
        simpa using this
      have e : Q j = c := by simpa [hj'] using hj
      have := (hQ j hj').1
      rw [e, Addr.add_lit] at this
      exact this
    · intro c hc
      obtain ⟨i, hi, rfl⟩ := List.mem_map.1 hc
      exact (hQ i (by simpa using hi)).2

set_option maxHeartbeats 8000000 in
theorem decodes_law (b : List Nat) (bv : Value) (w : World) (hB : Bn w bv b) (hl : ∀ c ∈ b, c < 256) : Calls Try.prog 8 #[bv] w fun e w' => e = .returned (.bool true) ∧ Below w.heap.size w w' := by
  obtain ⟨bp, bc, rfl, -⟩ := id hB
  by_cases hbig : 20000 < b.length
  · have hi : (20000 : Int) < (b.length : Int) := by omega
    have kW := cawake_of w
    clear hB hl hbig
    go_enter Try.func8, Try.ntmps8
    go_wp2_with fail
    refine kW.mono ?_
    rintro e w1 ⟨rfl, hb1⟩
    go_wp2
    go_ret
    exact ⟨rfl, hb1⟩
  · have hi : ¬ (20000 : Int) < (b.length : Int) := by omega
    have hlen : b.length ≤ 140737488355328 := by omega
    obtain ⟨q1, q2, q3⟩ := one_box w (.cells #[] 5)
    have hO0 : Wi.Own w.heap.size (w.alloc (.cells #[] 5)) (.slice (some ⟨w.heap.size, 0, none⟩) 0 0) [] := ⟨by simp [Wi.bc], .inr ⟨w.heap.size, 0, #[], rfl, Nat.le_refl _, q2, Nat.le_refl _, by unfold maxLen; omega, rfl, by simp [Wi.bc]⟩⟩
    have hrun : Hid _ := app_run hO0 q3.size (hB.below q3) (by simp; omega)
    have hL0 : (decX b).1.length ≤ 1000000 := by
      have : (decX b).1.length ≤ 64 := by unfold decX; rw [rdL_len]; exact nuN_most (m := 64)
      omega
    obtain ⟨C, O, L, hCO, hL, kD, kR⟩ : ∃ (C : Int) (O : Bool) (L : List Rg), ((C = 0 ∧ O = true) ∨ (C = 5 ∧ O = false)) ∧ L.length ≤ 1000000 ∧
        (∀ v W, Bn W v b → Calls Try.prog 33 #[v] W fun e w' => (∃ v', e = .returned (.tuple #[v', .int .i64 C]) ∧ Rd rgE w' v' L) ∧ Below W.heap.size W w') ∧
        (∀ W, Below w.heap.size w W → Calls Try.prog 35 #[.slice bp b.length bc] W fun e w' => (∃ v', e = .returned (.tuple #[v', .bool O]) ∧ Rd rgE w' v' L) ∧ Below W.heap.size W w') := by
      cases hd : decOk b with
      | true =>
        refine ⟨0, true, (decX b).1, .inl ⟨rfl, rfl⟩, hL0, fun v W h => (dec_of b v W h hl hlen).mono ?_, fun W hW => (rdec_of b _ W (hB.below hW) hl hlen).mono ?_⟩
        · rintro e w' ⟨⟨v', c, rfl, hT⟩, hb⟩
          rw [hd, if_pos rfl] at hT
          obtain ⟨rfl, hR⟩ := hT
          exact ⟨⟨v', rfl, hR⟩, hb⟩
        · rintro e w' ⟨⟨v', rfl, hT⟩, hb⟩
          rw [hd, if_pos rfl] at hT
          rw [hd]
          exact ⟨⟨v', rfl, hT⟩, hb⟩
      | false =>
        refine ⟨5, false, [], .inr ⟨rfl, rfl⟩, by simp, fun v W h => (dec_of b v W h hl hlen).mono ?_, fun W hW => (rdec_of b _ W (hB.below hW) hl hlen).mono ?_⟩
        · rintro e w' ⟨⟨v', c, rfl, hT⟩, hb⟩
          rw [hd, if_neg (by decide)] at hT
          obtain ⟨rfl, rfl⟩ := hT
          exact ⟨⟨_, rfl, rd_nil _⟩, hb⟩
        · rintro e w' ⟨⟨v', rfl, hT⟩, hb⟩
          rw [hd, if_neg (by decide)] at hT
          rw [hd]
          subst hT
          exact ⟨⟨_, rfl, rd_nil _⟩, hb⟩
    clear q1 q2 hO0 hlen hbig hB hL0 hl
    rcases hCO with ⟨rfl, rfl⟩ | ⟨rfl, rfl⟩
    · go_enter Try.func8, Try.ntmps8
      go_wp2_with (at_builtin; refine wp_by rfl _ _ _ rfl _ _ rfl rfl hrun.out ?_)
      intro v1 w1 hp1
      obtain ⟨hO1, hb1'⟩ := hp1
      have hb1 := q3.trans hb1'
      have hB1 : Bn w1 v1 b := hO1.bs
      have k1 := kD v1 w1 hB1
      clear hrun kD hO1 hB1 q3 hb1'
      go_wp2_with fail
      refine k1.mono ?_
      rintro e w2 ⟨⟨v2, rfl, hR2⟩, hb2'⟩
      have hb2 := hb1.trans (hb2'.mono hb1.size)
      have k2 := kR w2 hb2
      clear k1 kR hb1 hb2'
      go_wp2_with fail
      refine k2.mono ?_
      rintro e w3 ⟨⟨v3, rfl, hR3⟩, hb3'⟩
      have hb3 := hb2.trans (hb3'.mono hb2.size)
      have kS := csame_of L v2 v3 w3 (hR2.below hb3').cv hR3.cv (by omega)
      clear k2 hR2 hR3 hb2 hb3' hL
      go_wp2_with fail
      refine kS.mono ?_
      rintro e w4 ⟨rfl, hb4'⟩
      have hb4 := hb3.trans (hb4'.mono hb3.size)
      have kW := cawake_of w4
      clear kS hb3 hb4'
      go_wp2_with fail
      refine kW.mono ?_
      rintro e w5 ⟨rfl, hb5⟩
      go_wp2
      go_ret
      exact ⟨rfl, hb4.trans (hb5.mono hb4.size)⟩
    · go_enter Try.func8, Try.ntmps8
      go_wp2_with (at_builtin; refine wp_by rfl _ _ _ rfl _ _ rfl rfl hrun.out ?_)
      intro v1 w1 hp1
      obtain ⟨hO1, hb1'⟩ := hp1
      have hb1 := q3.trans hb1'
      have hB1 : Bn w1 v1 b := hO1.bs
      have k1 := kD v1 w1 hB1
      clear hrun kD hO1 hB1 q3 hb1'
      go_wp2_with fail
      refine k1.mono ?_
      rintro e w2 ⟨⟨v2, rfl, hR2⟩, hb2'⟩
      have hb2 := hb1.trans (hb2'.mono hb1.size)
      have k2 := kR w2 hb2
      clear k1 kR hb1 hb2'
      go_wp2_with fail
      refine k2.mono ?_
      rintro e w3 ⟨⟨v3, rfl, hR3⟩, hb3'⟩
      have hb3 := hb2.trans (hb3'.mono hb2.size)
      have kS := csame_of L v2 v3 w3 (hR2.below hb3').cv hR3.cv (by omega)
      clear k2 hR2 hR3 hb2 hb3' hL
      go_wp2_with fail
      refine kS.mono ?_
      rintro e w4 ⟨rfl, hb4'⟩
      have hb4 := hb3.trans (hb4'.mono hb3.size)
      have kW := cawake_of w4
      clear kS hb3 hb4'
      go_wp2_with fail
      refine kW.mono ?_
      rintro e w5 ⟨rfl, hb5⟩
      go_wp2
      go_ret
      exact ⟨rfl, hb4.trans (hb5.mono hb4.size)⟩
end Go.Proofs.Ytldlimakcdaoaaa

