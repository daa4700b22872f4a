import Derived.Test.YtmmonehpfmlmeaaHm12
/- The contract of the document's May. -/
namespace Go.Proofs.Ytmmonehpfmlmeaa
open Go.RowKit QuorumMath RlogMath
set_option maxRecDepth 100000
set_option linter.unusedSimpArgs false
set_option linter.unusedVariables false

set_option maxHeartbeats 4000000 in
theorem may_of (b : Ez) (zs : List Ez) (lv : Value) (w : World) (hD : DataV w b) (hL : EntsV w lv zs) (hbo : EzOk b) (hok : ∀ z ∈ zs, EzOk z) (hlen : zs.length ≤ 1000000000000) (hdl : b.1.data.length ≤ 1000000000) : Calls Try.prog 9 #[lgv b lv] w fun e w' => e = .returned (.bool (mayB b.1 (mes zs))) ∧ Below w.heap.size w w' := by
  obtain ⟨B, HB⟩ : ∃ B, Hid (B = mayB b.1 (mes zs)) := ⟨_, rfl⟩
  rw [← HB.out]
  obtain ⟨hs, hb0, cl⟩ := lg_box w b lv
  have kn := nodes_of b.1.data _ (w.alloc (lgc b lv)) (hD.below hb0) hdl hbo.2.2
  have kb := fun W (hW : Below w.heap.size w W) => behind_of b.1.idx b.1.term zs lv W (hL.below hW) hbo.1 hok hlen
  have hln := hD.len
  obtain ⟨la, lc, rfl, -, -⟩ := hL.1.shape
  obtain ⟨⟨ix, tm, kd, dt⟩, sa, sn, sc⟩ := b
  dsimp only [lgc] at *
  subst hln
  obtain ⟨c0, c1, c2, c3, c4⟩ := cl _ (Below.refl _ _)
  clear hD hL hbo hok
  by_cases h1 : kd = 0
  · subst h1
    have HB1 : Hid (B = (votB (nodesI dt) && decide (ix ≤ 4611686018427387904) && decide (zs.length ≤ 4096) && behB ix tm (mes zs))) := by show _ = _; rw [HB.out]; unfold mayB; simp [mes]
    clear HB
    go_enter Try.func9, Try.ntmps9
    go_wp2_with fail
    refine kn.mono ?_
    rintro e w1 ⟨u, rfl, hO, hb1⟩
    rw [hs] at hb1
    have hb01 := hb0.trans (hb1.mono (Nat.le_succ _))
    have kv := rvoters_of (nodesI dt) u w1 hO.1.rd (by rw [nodesI_len]; omega)
    obtain ⟨ua, uc, rfl, -, -⟩ := hO.1.rd.shape
    clear kn hO
    go_wp2_with fail
    refine kv.mono ?_
    rintro e w2 ⟨rfl, hb2⟩
    have hb12 : Below (w.heap.size + 1) (w.alloc (.cells #[.int .u64 (ix : Int), .int .u64 (tm : Int), .int .i64 0, .slice sa dt.length sc, .slice la zs.length lc] 28)) w2 := hb1.trans (hb2.mono (by have := hb1.size; omega))
    have hb02 := hb0.trans (hb12.mono (Nat.le_succ _))
    obtain ⟨d0, d1, d2, d3, d4⟩ := cl w2 hb12
    have kb1 := kb w2 hb02
    clear kv kb cl c0 c1 c2 c3 c4 hb1 hb2 hb01
    cases hv : votB (nodesI dt) with
    | false =>
      have E : Hid (B = false) := by show _ = _; rw [HB1.out, hv]; rfl
      clear HB1 hv kb1
      go_wp2
      go_ret
      exact ⟨by rw [E.out]; rfl, hb02⟩
    | true =>
      by_cases h2 : 4611686018427387904 < ix
      · have h2d : decide ((4611686018427387904 : Int) < (ix : Int)) = true := by simp; omega
        have E : Hid (B = false) := by show _ = _; rw [HB1.out, decide_eq_false (by omega : ¬ ix ≤ 4611686018427387904), Bool.and_false]; rfl
        clear HB1 hv kb1 h2
        go_wp2
        go_ret
        exact ⟨by rw [E.out]; rfl, hb02⟩
      · have h2d : decide ((4611686018427387904 : Int) < (ix : Int)) = false := by simp; omega
        by_cases h3 : 4096 < zs.length
        · have h3i : (4096 : Int) < (zs.length : Int) := by omega
          have E : Hid (B = false) := by show _ = _; rw [HB1.out, decide_eq_false (by omega : ¬ zs.length ≤ 4096), Bool.and_false]; rfl
          clear HB1 hv kb1 h2
          go_wp2
          go_ret
          exact ⟨by rw [E.out]; rfl, hb02⟩
        · have h3i : ¬ (4096 : Int) < (zs.length : Int) := by omega
          have E : Hid (B = behB ix tm (mes zs)) := by show _ = _; rw [HB1.out, hv, decide_eq_true (by omega : ix ≤ 4611686018427387904), decide_eq_true (by omega : zs.length ≤ 4096)]; rfl
          rw [← E.out] at kb1
          clear HB1 hv h2 E
          go_wp2_with fail
          refine kb1.mono ?_
          rintro e w3 ⟨rfl, hb3⟩
          go_wp2
          go_ret
          exact ⟨rfl, hb02.trans (hb3.mono hb02.size)⟩
  · have h1b : (kd != 0) = true := by simpa using h1
    have E : Hid (B = false) := by show _ = _; rw [HB.out]; unfold mayB; rw [decide_eq_false h1]; rfl
    clear HB cl kn kb
    go_enter Try.func9, Try.ntmps9
    go_wp2
    go_ret
    exact ⟨by rw [E.out]; rfl, hb0⟩
end Go.Proofs.Ytmmonehpfmlmeaa

