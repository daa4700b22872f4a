import Derived.Test.YthaokigkagckgaaGreatHr06
import Derived.Test.YthaokigkagckgaaGreatHr03
/- The program's nodesOf, mayBeBase, mayBeEntry. -/
namespace Go.Proofs.YthaokigkagckgaaGreat
open Go.RowKit QuorumMath RlogMath
set_option maxRecDepth 100000
set_option linter.unusedSimpArgs false
set_option linter.unusedVariables false

set_option maxHeartbeats 2000000 in
theorem pnodes_of (d : List Nat) (dv : Value) (w : World) (hD : Rd byteE w dv d) (hlen : d.length ≤ 1000000000) (hc : ∀ c ∈ d, c < 256) : Calls Tryz.prog 137 #[dv] w fun e w' => ∃ v, e = .returned v ∧ Ow intE 3 w.heap.size w' v (nodesI d) ∧ Below w.heap.size w w' := by
  obtain ⟨R, HR⟩ : ∃ R, Hid (R = nodesI d) := ⟨_, rfl⟩
  rw [← HR.out]
  obtain ⟨ao, cap, rfl, -, -⟩ := hD.shape
  have hO0 : Ow intE 3 w.heap.size w (.slice none 0 0) (nodesI (d.take 0)) := Ow.nil _ _ _ _
  go_enter Tryz.func137, Tryz.ntmps137
  go_wp2
  go_loopg [3, 8] d.length (fun gh s3 s8 wr => ∃ (i : Nat) (st : Value), i + gh = d.length ∧ s8 = .int .i64 (i : Int) ∧ st = s3 ∧ Ow intE 3 w.heap.size wr st (nodesI (d.take i)) ∧ Below w.heap.size w wr)
  case atStart => exact ⟨0, _, by simp, rfl, rfl, hO0, Below.refl _ _⟩
  case round =>
    obtain ⟨i, st, hig, rfl, rfl, hO, hb⟩ := hrel
    clear hO0
    by_cases hlt : i < d.length
    · have hlti : (i : Int) < (d.length : Int) := by omega
      have hx : d[i]? = some d[i] := List.getElem?_eq_getElem hlt
      obtain ⟨x, hxx⟩ : ∃ x, x = d[i] := ⟨_, rfl⟩
      rw [← hxx] at hx
      clear hxx
      obtain ⟨b, off, rfl, c⟩ := rdb_at hD hx
      have c0 := c wr hb
      have hx8 := hc x (List.mem_of_getElem? hx)
      have HS : Hid (nodesI (d.take (i + 1)) = nodesI (d.take i) ++ [(x : Int)]) := by show _ = _; unfold nodesI; rw [take_succ_get hx, List.map_append]; rfl
      have hml : (nodesI (d.take i)).length ≤ 10000000000 := by rw [nodesI_len, List.length_take]; omega
      have hrunH : Hid _ := push_int (x : Int) hO.1 hml
      obtain ⟨sa, sc, hst, -⟩ := hO.1.shape
      generalize nodesI (d.take i) = L at *
      subst hst
      clear c hx hD hc HR
      go_wp2_with (at_builtin; refine wp_by rfl _ _ _ rfl _ _ rfl rfl hrunH.out ?_)
      intro v6 w6 hp6
      obtain ⟨hO2, hb2⟩ := hO.push hb.size hp6
      rw [← HS.out] at hO2
      clear hO hrunH hp6 HS
      go_wp2
      go_roundg (gk - 1)
      case measure => omega
      case rel => exact ⟨i + 1, v6, by omega, by go_num, rfl, hO2, hb.trans hb2⟩
    · have hlti : ¬ (i : Int) < (d.length : Int) := by omega
      obtain rfl : d.length = i := by omega
      rw [List.take_length, ← HR.out] at hO
      clear hD hc HR
      go_wp2
      go_ret
      exact ⟨_, rfl, hO, hb⟩

set_option maxHeartbeats 2000000 in
theorem pentry_of (i t : Nat) (kd : Int) (dt : List Nat) (sa : Option Addr) (sn sc : Nat) (w : World) (hD : Rd byteE w (.slice sa sn sc) dt) (hc : ∀ c ∈ dt, c < 256) : Calls Tryz.prog 134 #[.int .i64 kd, .slice sa sn sc] w fun e w' => e = .returned (.bool (entB ⟨i, t, kd, dt⟩)) ∧ Below w.heap.size w w' := by
  obtain ⟨B, HB⟩ : ∃ B, Hid (B = entB ⟨i, t, kd, dt⟩) := ⟨_, rfl⟩
  rw [← HB.out]
  obtain rfl : sn = dt.length := by
    obtain ⟨ao, cap, e, _⟩ := hD
    exact (Value.slice.inj e).2.1
  by_cases k0 : kd < 0
  · have E : Hid (B = false) := by show _ = _; rw [HB.out]; exact ent_neg k0
    clear HB hD
    go_enter Tryz.func134, Tryz.ntmps134
    go_wp2
    go_ret
    exact ⟨by rw [E.out]; rfl, Below.refl _ _⟩
  · by_cases k3 : 3 ≤ kd
    · have E : Hid (B = false) := by show _ = _; rw [HB.out]; exact ent_big k3
      clear HB hD
      go_enter Tryz.func134, Tryz.ntmps134
      go_wp2
      go_ret
      exact ⟨by rw [E.out]; rfl, Below.refl _ _⟩
    · by_cases hl : 4096 < dt.length
      · have hli : (4096 : Int) < (dt.length : Int) := by omega
        have E : Hid (B = false) := by show _ = _; rw [HB.out]; exact ent_long hl
        clear HB hD
        go_enter Tryz.func134, Tryz.ntmps134
        go_wp2
        go_ret
        exact ⟨by rw [E.out]; rfl, Below.refl _ _⟩
      · have hli : ¬ (4096 : Int) < (dt.length : Int) := by omega
        have E0 : Hid (B = (!decide (kd = 2) || votB (nodesI dt))) := by
          show _ = _
          rw [HB.out]
          exact ent_in k0 k3 hl
        clear HB
        by_cases k2 : kd = 2
        · have E : Hid (B = votB (nodesI dt)) := by show _ = _; rw [E0.out, decide_eq_true k2]; rfl
          have kn := pnodes_of dt (.slice sa dt.length sc) w hD (by omega) hc
          subst k2
          clear E0 hD hc
          go_enter Tryz.func134, Tryz.ntmps134
          go_wp2_with fail
          refine kn.mono ?_
          rintro e w1 ⟨u, rfl, hO, hb1⟩
          have kv := check_of (nodesI dt) u w1 hO.1.rd (by rw [nodesI_len]; omega)
          rw [← E.out] at kv
          obtain ⟨ua, uc, rfl, -, -⟩ := hO.1.rd.shape
          clear kn hO E
          go_wp2_with fail
          refine kv.mono ?_
          rintro e w2 ⟨rfl, hw2⟩
          subst hw2
          go_wp2
          go_ret
          exact ⟨rfl, hb1⟩
        · have E : Hid (B = true) := by show _ = _; rw [E0.out, decide_eq_false k2]; rfl
          clear E0 hD hc
          go_enter Tryz.func134, Tryz.ntmps134
          go_wp2
          go_ret
          exact ⟨by rw [E.out]; rfl, Below.refl _ _⟩

/-- May a log stand behind such an entry? -/
def baseB (b : Me) : Bool := decide (b.kind = 0) && votB (nodesI b.data) && decide (b.idx ≤ 4611686018427387904)
set_option maxHeartbeats 2000000 in
theorem pbase_of (b : Ez) (w : World) (hD : DataV w b) (hbo : EzOk b) (hdl : b.1.data.length ≤ 1000000000) : Calls Tryz.prog 113 #[ev b] w fun e w' => e = .returned (.bool (baseB b.1)) ∧ Below w.heap.size w w' := by
  obtain ⟨B, HB⟩ : ∃ B, Hid (B = baseB b.1) := ⟨_, rfl⟩
  rw [← HB.out]
  have hl := hD.len
  obtain ⟨⟨ix, tm, kd, dt⟩, sa, sn, sc⟩ := b
  have hc := hbo.2.2
  dsimp only [ev] at *
  subst hl
  have hDR : Rd byteE w (.slice sa dt.length sc) dt := hD
  obtain ⟨h1, h2, h3⟩ := one_box w (.cells #[.int .u64 (ix : Int), .int .u64 (tm : Int), .int .i64 kd, .slice sa dt.length sc] 25)
  have kn := pnodes_of dt (.slice sa dt.length sc) (w.alloc (.cells #[.int .u64 (ix : Int), .int .u64 (tm : Int), .int .i64 kd, .slice sa dt.length sc] 25)) (hDR.below h3) hdl hc
  clear hD hbo hDR h2
  by_cases h0 : kd = 0
  · by_cases hi : ix ≤ 4611686018427387904
    · have hii : (ix : Int) ≤ 4611686018427387904 := by omega
      have E : Hid (B = votB (nodesI dt)) := by show _ = _; rw [HB.out]; unfold baseB; rw [decide_eq_true h0, decide_eq_true hi, Bool.and_true]; rfl
      subst h0
      clear HB hc
      go_enter Tryz.func113, Tryz.ntmps113
      go_wp2_with fail
      refine kn.mono ?_
      rintro e w1 ⟨u, rfl, hO, hb1⟩
      have kv := check_of (nodesI dt) u w1 hO.1.rd (by rw [nodesI_len]; omega)
      rw [← E.out] at kv
      obtain ⟨ua, uc, rfl, -, -⟩ := hO.1.rd.shape
      clear kn hO E
      go_wp2_with fail
      refine kv.mono ?_
      rintro e w2 ⟨rfl, hw2⟩
      subst hw2
      go_wp2
      go_ret
      exact ⟨rfl, h3.trans (hb1.mono (by omega))⟩
    · have hii : decide ((ix : Int) ≤ 4611686018427387904) = false := by simp; omega
      have E : Hid (B = false) := by show _ = _; rw [HB.out]; unfold baseB; rw [decide_eq_false hi, Bool.and_false]
      subst h0
      clear HB hc kn
      go_enter Tryz.func113, Tryz.ntmps113
      go_wp2
      go_ret
      exact ⟨by rw [E.out]; simp, h3⟩
  · have h0b : (kd == 0) = false := by simpa using h0
    have E : Hid (B = false) := by show _ = _; rw [HB.out]; unfold baseB; rw [decide_eq_false h0]; rfl
    clear HB hc kn
    go_enter Tryz.func113, Tryz.ntmps113
    go_wp2
    go_ret
    exact ⟨by rw [E.out]; simp, h3⟩
end Go.Proofs.YthaokigkagckgaaGreat

/- The program's follow and Check. -/
namespace Go.Proofs.YthaokigkagckgaaGreat
open Go.RowKit QuorumMath RlogMath
set_option maxRecDepth 100000
set_option linter.unusedSimpArgs false
set_option linter.unusedVariables false

set_option maxHeartbeats 4000000 in
theorem follow_of (x t : Nat) (zs : List Ez) (lv : Value) (w : World) (hL : EntsV w lv zs) (hx : x < 18446744073709551616) (hok : ∀ z ∈ zs, EzOk z) (hlen : zs.length ≤ 1000000000000) : Calls Tryz.prog 114 #[lv, .int .u64 (x : Int), .int .u64 (t : Int)] w fun e w' => e = .returned (.bool (behB x t (mes zs))) ∧ Below w.heap.size w w' := by
  obtain ⟨B, HB⟩ : ∃ B, Hid (B = behB x t (mes zs)) := ⟨_, rfl⟩
  rw [← HB.out]
  obtain ⟨ao, cap, rfl, -, -⟩ := hL.1.shape
  have HX : Hid (x < 18446744073709551616) := hx
  have HOK : Hid (∀ z ∈ zs, EzOk z) := hok
  clear hx hok
  go_enter Tryz.func114, Tryz.ntmps114
  go_wp2
  go_loopg [1, 2, 11] zs.length (fun gh s0 s1 s7 wr => ∃ (k X T : Nat), k + gh = zs.length ∧ s7 = .int .i64 (k : Int) ∧ s0 = .int .u64 (X : Int) ∧ s1 = .int .u64 (T : Int) ∧ Hid (X < 18446744073709551616) ∧ Below w.heap.size w wr ∧ Hid (B = behB X T ((mes zs).drop k)))
  case atStart => exact ⟨0, x, t, by simp, rfl, rfl, rfl, HX, Below.refl _ _, by rw [List.drop_zero]; exact HB⟩
  case round =>
    obtain ⟨k, X, T, hkg, rfl, rfl, rfl, HXX, hb, HBB⟩ := hrel
    clear HX HB
    by_cases hlt : k < zs.length
    · have hlti : (k : Int) < (zs.length : Int) := by omega
      have hz : zs[k]? = some zs[k] := List.getElem?_eq_getElem hlt
      obtain ⟨z, hzz⟩ : ∃ z, z = zs[k] := ⟨_, rfl⟩
      rw [← hzz] at hz
      clear hzz
      obtain ⟨b, off, rfl, c⟩ := rde_at hL.1 hz
      obtain ⟨c0, c1, c2, c3⟩ := c wr hb
      have hzm := List.mem_of_getElem? hz
      have hzo := HOK.out z hzm
      have HZ : Hid (z.1.idx < 18446744073709551616) := hzo.1
      have HBZ := HBB.out
      rw [beh_at (mes_at hz)] at HBZ
      have hDz := hL.2 z hzm
      have hzc := hzo.2.2
      obtain ⟨⟨ix, tm, kd, dt⟩, sa, sn, sc⟩ := z
      dsimp only at c0 c1 c2 c3 HBZ HZ hzc
      obtain ⟨x1, x2, x3⟩ := one_box wr (.cells #[.int .u64 (ix : Int), .int .u64 (tm : Int), .int .i64 kd, .slice sa sn sc] 25)
      have hb3 := hb.trans (x3.mono hb.size)
      have ke := pentry_of ix tm kd dt sa sn sc (wr.alloc (.cells #[.int .u64 (ix : Int), .int .u64 (tm : Int), .int .i64 kd, .slice sa sn sc] 25)) (hDz.below hb3) hzc
      have HC : Hid (∀ W, Below (wr.heap.size + 1) (wr.alloc (.cells #[.int .u64 (ix : Int), .int .u64 (tm : Int), .int .i64 kd, .slice sa sn sc] 25)) W → W.cell? ⟨wr.heap.size, 0, none⟩ = some (.int .u64 (ix : Int)) ∧ W.cell? ⟨wr.heap.size, 1, none⟩ = some (.int .u64 (tm : Int))) := fun W hW => by
        have := (hW.block wr.heap.size (Nat.lt_succ_self _)).trans x2
        exact ⟨by rw [cells_of_block this]; rfl, by rw [cells_of_block this]; rfl⟩
      clear x2 hDz hzc hzm hzo hz HBB HOK hL c
      by_cases h0 : ix = 0
      · have E : Hid (B = false) := by show _ = _; rw [HBZ, decide_eq_false (show ¬ ix = X + 1 by omega)]; simp
        subst h0
        clear HBZ HXX ke HZ HC
        go_wp2
        go_ret
        exact ⟨by rw [E.out]; rfl, hb3⟩
      · have h0b : ((ix : Int) == 0) = false := by simp; omega
        have h0i : ¬ (ix : Int) = 0 := by omega
        obtain ⟨Y, hY⟩ : ∃ Y, Hid (ix = Y + 1) := ⟨ix - 1, by show _ = _; omega⟩
        have hwr : IntKind.u64.wrap ((ix : Int) - 1) = (Y : Int) := by
          have h9 := HZ.out
          have h8 := hY.out
          rw [show (ix : Int) - 1 = (Y : Int) by omega]
          exact IntWalk.u64_in _ (by omega)
        have hwi : IntKind.u64.wrap (Y : Int) = (Y : Int) := by have h8 := hY.out; have h9 := HZ.out; exact IntWalk.u64_in _ (by omega)
        by_cases h2 : Y = X
        · have h8 := hY.out
          have h9 := HZ.out
          rw [decide_eq_true (show X ≠ 18446744073709551615 by omega), decide_eq_true (show ix = X + 1 by omega), Bool.true_and, Bool.true_and] at HBZ
          clear h8 h9
          subst h2
          by_cases h3 : tm < T
          · have h3i : (tm : Int) < (T : Int) := by omega
            have E : Hid (B = false) := by show _ = _; rw [HBZ, decide_eq_false (by omega : ¬ T ≤ tm)]; rfl
            clear HBZ HXX hY ke HZ HC
            go_wp2
            go_ret
            exact ⟨by rw [E.out]; rfl, hb3⟩
          · have h3i : ¬ (tm : Int) < (T : Int) := by omega
            rw [decide_eq_true (by omega : T ≤ tm), Bool.true_and] at HBZ
            cases he : entB ⟨ix, tm, kd, dt⟩ with
            | false =>
              rw [he] at ke HBZ
              have E : Hid (B = false) := by show _ = _; rw [HBZ]; rfl
              clear HBZ HXX hY HZ he HC
              go_wp2_with fail
              refine ke.mono ?_
              rintro e w1 ⟨rfl, hb1⟩
              go_wp2
              go_ret
              exact ⟨by rw [E.out]; rfl, hb3.trans (hb1.mono hb3.size)⟩
            | true =>
              rw [he] at ke HBZ
              have E : Hid (B = behB ix tm ((mes zs).drop (k + 1))) := by show _ = _; rw [HBZ]; rfl
              clear HBZ HXX hY he
              go_wp2_with fail
              refine ke.mono ?_
              rintro e w1 ⟨rfl, hb1⟩
              rw [x1] at hb1
              obtain ⟨e0, e1⟩ := HC.out w1 hb1
              have hb4 := hb3.trans (hb1.mono (by have := hb.size; omega))
              clear c0 c1 c2 c3 ke HC x1 x3 hb hb3 hb1
              go_wp2
              go_quiet (fail)
              go_wp2
              go_roundg (gk - 1)
              case measure => omega
              case rel => exact ⟨k + 1, ix, tm, by omega, by go_num, rfl, rfl, HZ, below_dN hb4 nq, E⟩
        · have h2i : ¬ (Y : Int) = (X : Int) := by omega
          have h2b : ((Y : Int) != (X : Int)) = true := by simp; omega
          have E : Hid (B = false) := by show _ = _; rw [HBZ, decide_eq_false (show ¬ ix = X + 1 by have := hY.out; omega)]; simp
          clear HBZ HXX hY ke HZ h2 HC
          go_wp2
          go_ret
          exact ⟨by rw [E.out]; rfl, hb3⟩
    · have hlti : ¬ (k : Int) < (zs.length : Int) := by omega
      have E : Hid (B = true) := by show _ = _; rw [HBB.out, List.drop_eq_nil_of_le (by simp; omega)]; rfl
      clear HBB HOK hL HXX
      go_wp2
      go_ret
      exact ⟨by rw [E.out]; rfl, hb⟩

theorem may_split (b : Me) (l : List Me) : mayB b l = (baseB b && decide (l.length ≤ 4096) && behB b.idx b.term l) := rfl
/-- The code that Check tells. -/
def codeB (B : Bool) : Int := if B then 0 else 1
set_option maxHeartbeats 4000000 in
theorem pcheck_of (b : Ez) (zs : List Ez) (lv : Value) (w : World) (hD : DataV w b) (hL : EntsV w lv zs) (hbo : EzOk b) (hok : ∀ z ∈ zs, EzOk z) (hlen : zs.length ≤ 1000000000000) (hdl : b.1.data.length ≤ 1000000000) : Calls Tryz.prog 81 #[lgv b lv] w fun e w' => e = .returned (.int .i64 (codeB (mayB b.1 (mes zs)))) ∧ Below w.heap.size w w' := by
  obtain ⟨B, HB⟩ : ∃ B, Hid (B = mayB b.1 (mes zs)) := ⟨_, rfl⟩
  rw [← HB.out]
  obtain ⟨hs, hb0, cl⟩ := lg_box w b lv
  have kn := pbase_of b (w.alloc (lgc b lv)) (hD.below hb0) hbo hdl
  have kb := fun W (hW : Below w.heap.size w W) => follow_of b.1.idx b.1.term zs lv W (hL.below hW) hbo.1 hok hlen
  have HB1 : Hid (B = (baseB b.1 && decide (zs.length ≤ 4096) && behB b.1.idx b.1.term (mes zs))) := by show _ = _; rw [HB.out, may_split]; simp [mes]
  obtain ⟨la, lc, rfl, -, -⟩ := hL.1.shape
  obtain ⟨⟨ix, tm, kd, dt⟩, sa, sn, sc⟩ := b
  dsimp only [lgc, ev] at *
  obtain ⟨c0, c1, c2, c3, c4⟩ := cl _ (Below.refl _ _)
  clear hD hL hbo hok HB
  go_enter Tryz.func81, Tryz.ntmps81
  go_wp2_with fail
  refine kn.mono ?_
  rintro e w1 ⟨rfl, hb1⟩
  rw [hs] at hb1
  have hb01 := hb0.trans (hb1.mono (Nat.le_succ _))
  obtain ⟨d0, d1, d2, d3, d4⟩ := cl w1 hb1
  have kb1 := kb w1 hb01
  clear kn kb cl c0 c1 c2 c3 c4
  cases hv : baseB ⟨ix, tm, kd, dt⟩ with
  | false =>
    have E : Hid (B = false) := by show _ = _; rw [HB1.out, hv]; rfl
    clear HB1 hv kb1
    go_wp2
    go_ret
    exact ⟨by rw [E.out]; rfl, hb01⟩
  | true =>
    by_cases h3 : 4096 < zs.length
    · have h3i : (4096 : Int) < (zs.length : Int) := by omega
      have E : Hid (B = false) := by show _ = _; rw [HB1.out, decide_eq_false (by omega : ¬ zs.length ≤ 4096), Bool.and_false]; rfl
      clear HB1 hv kb1
      go_wp2
      go_ret
      exact ⟨by rw [E.out]; rfl, hb01⟩
    · have h3i : ¬ (4096 : Int) < (zs.length : Int) := by omega
      have E : Hid (B = behB ix tm (mes zs)) := by show _ = _; rw [HB1.out, hv, decide_eq_true (by omega : zs.length ≤ 4096)]; rfl
      rw [← E.out] at kb1
      clear HB1 hv E
      go_wp2_with fail
      refine kb1.mono ?_
      rintro e w2 ⟨rfl, hb2⟩
      cases B with
      | false =>
        go_wp2
        go_ret
        exact ⟨rfl, hb01.trans (hb2.mono hb01.size)⟩
      | true =>
        go_wp2
        go_ret
        exact ⟨rfl, hb01.trans (hb2.mono hb01.size)⟩
end Go.Proofs.YthaokigkagckgaaGreat

