import Derived.Test.YtmmonehpfmlmeaaHm14
/- The program's follow and Check. -/
namespace Go.Proofs.Ytmmonehpfmlmeaa
open Go.RowKit QuorumMath RlogMath
set_option maxRecDepth 100000
set_option linter.unusedSimpArgs false
set_option linter.unusedVariables false

set_option maxHeartbeats 4000000 in
theorem follow_of (x t : Nat) (zs : List Ez) (lv : Value) (w : World) (hL : EntsV w lv zs) (hx : x < 18446744073709551616) (hok : ∀ z ∈ zs, EzOk z) (hlen : zs.length ≤ 1000000000000) : Calls Try.prog 39 #[lv, .int .u64 (x : Int), .int .u64 (t : Int)] w fun e w' => e = .returned (.bool (behB x t (mes zs))) ∧ Below w.heap.size w w' := by
  obtain ⟨B, HB⟩ : ∃ B, Hid (B = behB x t (mes zs)) := ⟨_, rfl⟩
  rw [← HB.out]
  obtain ⟨ao, cap, rfl, -, -⟩ := hL.1.shape
  have HX : Hid (x < 18446744073709551616) := hx
  have HOK : Hid (∀ z ∈ zs, EzOk z) := hok
  clear hx hok
  go_enter Try.func39, Try.ntmps39
  go_wp2
  go_loopg [1, 2, 11] zs.length (fun gh s0 s1 s7 wr => ∃ (k X T : Nat), k + gh = zs.length ∧ s7 = .int .i64 (k : Int) ∧ s0 = .int .u64 (X : Int) ∧ s1 = .int .u64 (T : Int) ∧ Hid (X < 18446744073709551616) ∧ Below w.heap.size w wr ∧ Hid (B = behB X T ((mes zs).drop k)))
  case atStart => exact ⟨0, x, t, by simp, rfl, rfl, rfl, HX, Below.refl _ _, by rw [List.drop_zero]; exact HB⟩
  case round =>
    obtain ⟨k, X, T, hkg, rfl, rfl, rfl, HXX, hb, HBB⟩ := hrel
    clear HX HB
    by_cases hlt : k < zs.length
    · have hlti : (k : Int) < (zs.length : Int) := by omega
      have hz : zs[k]? = some zs[k] := List.getElem?_eq_getElem hlt
      obtain ⟨z, hzz⟩ : ∃ z, z = zs[k] := ⟨_, rfl⟩
      rw [← hzz] at hz
      clear hzz
      obtain ⟨b, off, rfl, c⟩ := rde_at hL.1 hz
      obtain ⟨c0, c1, c2, c3⟩ := c wr hb
      have hzm := List.mem_of_getElem? hz
      have hzo := HOK.out z hzm
      have HZ : Hid (z.1.idx < 18446744073709551616) := hzo.1
      have HBZ := HBB.out
      rw [beh_at (mes_at hz)] at HBZ
      have hDz := hL.2 z hzm
      have hzc := hzo.2.2
      obtain ⟨⟨ix, tm, kd, dt⟩, sa, sn, sc⟩ := z
      dsimp only at c0 c1 c2 c3 HBZ HZ hzc
      obtain ⟨x1, x2, x3⟩ := one_box wr (.cells #[.int .u64 (ix : Int), .int .u64 (tm : Int), .int .i64 kd, .slice sa sn sc] 25)
      have hb3 := hb.trans (x3.mono hb.size)
      have ke := pentry_of ix tm kd dt sa sn sc (wr.alloc (.cells #[.int .u64 (ix : Int), .int .u64 (tm : Int), .int .i64 kd, .slice sa sn sc] 25)) (hDz.below hb3) hzc
      have HC : Hid (∀ W, Below (wr.heap.size + 1) (wr.alloc (.cells #[.int .u64 (ix : Int), .int .u64 (tm : Int), .int .i64 kd, .slice sa sn sc] 25)) W → W.cell? ⟨wr.heap.size, 0, none⟩ = some (.int .u64 (ix : Int)) ∧ W.cell? ⟨wr.heap.size, 1, none⟩ = some (.int .u64 (tm : Int))) := fun W hW => by
        have := (hW.block wr.heap.size (Nat.lt_succ_self _)).trans x2
        exact ⟨by rw [cells_of_block this]; rfl, by rw [cells_of_block this]; rfl⟩
      clear x2 hDz hzc hzm hzo hz HBB HOK hL c
      by_cases h0 : ix = 0
      · have E : Hid (B = false) := by show _ = _; rw [HBZ, decide_eq_false (show ¬ ix = X + 1 by omega)]; simp
        subst h0
        clear HBZ HXX ke HZ HC
        go_wp2
        go_ret
        exact ⟨by rw [E.out]; rfl, hb3⟩
      · have h0b : ((ix : Int) == 0) = false := by simp; omega
        have h0i : ¬ (ix : Int) = 0 := by omega
        obtain ⟨Y, hY⟩ : ∃ Y, Hid (ix = Y + 1) := ⟨ix - 1, by show _ = _; omega⟩
        have hwr : IntKind.u64.wrap ((ix : Int) - 1) = (Y : Int) := by
          have h9 := HZ.out
          have h8 := hY.out
          rw [show (ix : Int) - 1 = (Y : Int) by omega]
          exact IntWalk.u64_in _ (by omega)
        have hwi : IntKind.u64.wrap (Y : Int) = (Y : Int) := by have h8 := hY.out; have h9 := HZ.out; exact IntWalk.u64_in _ (by omega)
        by_cases h2 : Y = X
        · have h8 := hY.out
          have h9 := HZ.out
          rw [decide_eq_true (show X ≠ 18446744073709551615 by omega), decide_eq_true (show ix = X + 1 by omega), Bool.true_and, Bool.true_and] at HBZ
          clear h8 h9
          subst h2
          by_cases h3 : tm < T
          · have h3i : (tm : Int) < (T : Int) := by omega
            have E : Hid (B = false) := by show _ = _; rw [HBZ, decide_eq_false (by omega : ¬ T ≤ tm)]; rfl
            clear HBZ HXX hY ke HZ HC
            go_wp2
            go_ret
            exact ⟨by rw [E.out]; rfl, hb3⟩
          · have h3i : ¬ (tm : Int) < (T : Int) := by omega
            rw [decide_eq_true (by omega : T ≤ tm), Bool.true_and] at HBZ
            cases he : entB ⟨ix, tm, kd, dt⟩ with
            | false =>
              rw [he] at ke HBZ
              have E : Hid (B = false) := by show _ = _; rw [HBZ]; rfl
              clear HBZ HXX hY HZ he HC
              go_wp2_with fail
              refine ke.mono ?_
              rintro e w1 ⟨rfl, hb1⟩
              go_wp2
              go_ret
              exact ⟨by rw [E.out]; rfl, hb3.trans (hb1.mono hb3.size)⟩
            | true =>
              rw [he] at ke HBZ
              have E : Hid (B = behB ix tm ((mes zs).drop (k + 1))) := by show _ = _; rw [HBZ]; rfl
              clear HBZ HXX hY he
              go_wp2_with fail
              refine ke.mono ?_
              rintro e w1 ⟨rfl, hb1⟩
              rw [x1] at hb1
              obtain ⟨e0, e1⟩ := HC.out w1 hb1
              have hb4 := hb3.trans (hb1.mono (by have := hb.size; omega))
              clear c0 c1 c2 c3 ke HC x1 x3 hb hb3 hb1
              go_wp2
              go_quiet (fail)
              go_wp2
              go_roundg (gk - 1)
              case measure => omega
              case rel => exact ⟨k + 1, ix, tm, by omega, by go_num, rfl, rfl, HZ, below_dN hb4 nq, E⟩
        · have h2i : ¬ (Y : Int) = (X : Int) := by omega
          have h2b : ((Y : Int) != (X : Int)) = true := by simp; omega
          have E : Hid (B = false) := by show _ = _; rw [HBZ, decide_eq_false (show ¬ ix = X + 1 by have := hY.out; omega)]; simp
          clear HBZ HXX hY ke HZ h2 HC
          go_wp2
          go_ret
          exact ⟨by rw [E.out]; rfl, hb3⟩
    · have hlti : ¬ (k : Int) < (zs.length : Int) := by omega
      have E : Hid (B = true) := by show _ = _; rw [HBB.out, List.drop_eq_nil_of_le (by simp; omega)]; rfl
      clear HBB HOK hL HXX
      go_wp2
      go_ret
      exact ⟨by rw [E.out]; rfl, hb⟩

theorem may_split (b : Me) (l : List Me) : mayB b l = (baseB b && decide (l.length ≤ 4096) && behB b.idx b.term l) := rfl
/-- The code that Check tells. -/
def codeB (B : Bool) : Int := if B then 0 else 1
set_option maxHeartbeats 4000000 in
theorem pcheck_of (b : Ez) (zs : List Ez) (lv : Value) (w : World) (hD : DataV w b) (hL : EntsV w lv zs) (hbo : EzOk b) (hok : ∀ z ∈ zs, EzOk z) (hlen : zs.length ≤ 1000000000000) (hdl : b.1.data.length ≤ 1000000000) : Calls Try.prog 10 #[lgv b lv] w fun e w' => e = .returned (.int .i64 (codeB (mayB b.1 (mes zs)))) ∧ Below w.heap.size w w' := by
  obtain ⟨B, HB⟩ : ∃ B, Hid (B = mayB b.1 (mes zs)) := ⟨_, rfl⟩
  rw [← HB.out]
  obtain ⟨hs, hb0, cl⟩ := lg_box w b lv
  have kn := pbase_of b (w.alloc (lgc b lv)) (hD.below hb0) hbo hdl
  have kb := fun W (hW : Below w.heap.size w W) => follow_of b.1.idx b.1.term zs lv W (hL.below hW) hbo.1 hok hlen
  have HB1 : Hid (B = (baseB b.1 && decide (zs.length ≤ 4096) && behB b.1.idx b.1.term (mes zs))) := by show _ = _; rw [HB.out, may_split]; simp [mes]
  obtain ⟨la, lc, rfl, -, -⟩ := hL.1.shape
  obtain ⟨⟨ix, tm, kd, dt⟩, sa, sn, sc⟩ := b
  dsimp only [lgc, ev] at *
  obtain ⟨c0, c1, c2, c3, c4⟩ := cl _ (Below.refl _ _)
  clear hD hL hbo hok HB
  go_enter Try.func10, Try.ntmps10
  go_wp2_with fail
  refine kn.mono ?_
  rintro e w1 ⟨rfl, hb1⟩
  rw [hs] at hb1
  have hb01 := hb0.trans (hb1.mono (Nat.le_succ _))
  obtain ⟨d0, d1, d2, d3, d4⟩ := cl w1 hb1
  have kb1 := kb w1 hb01
  clear kn kb cl c0 c1 c2 c3 c4
  cases hv : baseB ⟨ix, tm, kd, dt⟩ with
  | false =>
    have E : Hid (B = false) := by show _ = _; rw [HB1.out, hv]; rfl
    clear HB1 hv kb1
    go_wp2
    go_ret
    exact ⟨by rw [E.out]; rfl, hb01⟩
  | true =>
    by_cases h3 : 4096 < zs.length
    · have h3i : (4096 : Int) < (zs.length : Int) := by omega
      have E : Hid (B = false) := by show _ = _; rw [HB1.out, decide_eq_false (by omega : ¬ zs.length ≤ 4096), Bool.and_false]; rfl
      clear HB1 hv kb1
      go_wp2
      go_ret
      exact ⟨by rw [E.out]; rfl, hb01⟩
    · have h3i : ¬ (4096 : Int) < (zs.length : Int) := by omega
      have E : Hid (B = behB ix tm (mes zs)) := by show _ = _; rw [HB1.out, hv, decide_eq_true (by omega : zs.length ≤ 4096)]; rfl
      rw [← E.out] at kb1
      clear HB1 hv E
      go_wp2_with fail
      refine kb1.mono ?_
      rintro e w2 ⟨rfl, hb2⟩
      cases B with
      | false =>
        go_wp2
        go_ret
        exact ⟨rfl, hb01.trans (hb2.mono hb01.size)⟩
      | true =>
        go_wp2
        go_ret
        exact ⟨rfl, hb01.trans (hb2.mono hb01.size)⟩
end Go.Proofs.Ytmmonehpfmlmeaa

