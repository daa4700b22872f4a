import Derived.Test.YtncoandnelgkeaaGreatHc06
import Derived.Test.YtncoandnelgkeaaGreatHc03
/- The program's nodesOf, mayBeBase, mayBeEntry. -/
namespace Go.Proofs.YtncoandnelgkeaaGreat
open Go.RowKit QuorumMath RlogMath
set_option maxRecDepth 100000
set_option linter.unusedSimpArgs false
set_option linter.unusedVariables false

set_option maxHeartbeats 2000000 in
theorem pnodes_of (d : List Nat) (dv : Value) (w : World) (hD : Rd byteE w dv d) (hlen : d.length ≤ 1000000000) (hc : ∀ c ∈ d, c < 256) : Calls Tryz.prog 137 #[dv] w fun e w' => ∃ v, e = .returned v ∧ Ow intE 3 w.heap.size w' v (nodesI d) ∧ Below w.heap.size w w' := by
  obtain ⟨R, HR⟩ : ∃ R, Hid (R = nodesI d) := ⟨_, rfl⟩
  rw [← HR.out]
  obtain ⟨ao, cap, rfl, -, -⟩ := hD.shape
  have hO0 : Ow intE 3 w.heap.size w (.slice none 0 0) (nodesI (d.take 0)) := Ow.nil _ _ _ _
  go_enter Tryz.func137, Tryz.ntmps137
  go_wp2
  go_loopg [3, 8] d.length (fun gh s3 s8 wr => ∃ (i : Nat) (st : Value), i + gh = d.length ∧ s8 = .int .i64 (i : Int) ∧ st = s3 ∧ Ow intE 3 w.heap.size wr st (nodesI (d.take i)) ∧ Below w.heap.size w wr)
  case atStart => exact ⟨0, _, by simp, rfl, rfl, hO0, Below.refl _ _⟩
  case round =>
    obtain ⟨i, st, hig, rfl, rfl, hO, hb⟩ := hrel
    clear hO0
    by_cases hlt : i < d.length
    · have hlti : (i : Int) < (d.length : Int) := by omega
      have hx : d[i]? = some d[i] := List.getElem?_eq_getElem hlt
      obtain ⟨x, hxx⟩ : ∃ x, x = d[i] := ⟨_, rfl⟩
      rw [← hxx] at hx
      clear hxx
      obtain ⟨b, off, rfl, c⟩ := rdb_at hD hx
      have c0 := c wr hb
      have hx8 := hc x (List.mem_of_getElem? hx)
      have HS : Hid (nodesI (d.take (i + 1)) = nodesI (d.take i) ++ [(x : Int)]) := by show _ = _; unfold nodesI; rw [take_succ_get hx, List.map_append]; rfl
      have hml : (nodesI (d.take i)).length ≤ 10000000000 := by rw [nodesI_len, List.length_take]; omega
      have hrunH : Hid _ := push_int (x : Int) hO.1 hml
      obtain ⟨sa, sc, hst, -⟩ := hO.1.shape
      generalize nodesI (d.take i) = L at *
      subst hst
      clear c hx hD hc HR
      go_wp2_with (at_builtin; refine wp_by rfl _ _ _ rfl _ _ rfl rfl hrunH.out ?_)
      intro v6 w6 hp6
      obtain ⟨hO2, hb2⟩ := hO.push hb.size hp6
      rw [← HS.out] at hO2
      clear hO hrunH hp6 HS
      go_wp2
      go_roundg (gk - 1)
      case measure => omega
      case rel => exact ⟨i + 1, v6, by omega, by go_num, rfl, hO2, hb.trans hb2⟩
    · have hlti : ¬ (i : Int) < (d.length : Int) := by omega
      obtain rfl : d.length = i := by omega
      rw [List.take_length, ← HR.out] at hO
      clear hD hc HR
      go_wp2
      go_ret
      exact ⟨_, rfl, hO, hb⟩

set_option maxHeartbeats 2000000 in
theorem pentry_of (i t : Nat) (kd : Int) (dt : List Nat) (sa : Option Addr) (sn sc : Nat) (w : World) (hD : Rd byteE w (.slice sa sn sc) dt) (hc : ∀ c ∈ dt, c < 256) : Calls Tryz.prog 134 #[.int .i64 kd, .slice sa sn sc] w fun e w' => e = .returned (.bool (entB ⟨i, t, kd, dt⟩)) ∧ Below w.heap.size w w' := by
  obtain ⟨B, HB⟩ : ∃ B, Hid (B = entB ⟨i, t, kd, dt⟩) := ⟨_, rfl⟩
  rw [← HB.out]
  obtain rfl : sn = dt.length := by
    obtain ⟨ao, cap, e, _⟩ := hD
    exact (Value.slice.inj e).2.1
  by_cases k0 : kd < 0
  · have E : Hid (B = false) := by show _ = _; rw [HB.out]; exact ent_neg k0
    clear HB hD
    go_enter Tryz.func134, Tryz.ntmps134
    go_wp2
    go_ret
    exact ⟨by rw [E.out]; rfl, Below.refl _ _⟩
  · by_cases k3 : 3 ≤ kd
    · have E : Hid (B = false) := by show _ = _; rw [HB.out]; exact ent_big k3
      clear HB hD
      go_enter Tryz.func134, Tryz.ntmps134
      go_wp2
      go_ret
      exact ⟨by rw [E.out]; rfl, Below.refl _ _⟩
    · by_cases hl : 4096 < dt.length
      · have hli : (4096 : Int) < (dt.length : Int) := by omega
        have E : Hid (B = false) := by show _ = _; rw [HB.out]; exact ent_long hl
        clear HB hD
        go_enter Tryz.func134, Tryz.ntmps134
        go_wp2
        go_ret
        exact ⟨by rw [E.out]; rfl, Below.refl _ _⟩
      · have hli : ¬ (4096 : Int) < (dt.length : Int) := by omega
        have E0 : Hid (B = (!decide (kd = 2) || votB (nodesI dt))) := by
          show _ = _
          rw [HB.out]
          exact ent_in k0 k3 hl
        clear HB
        by_cases k2 : kd = 2
        · have E : Hid (B = votB (nodesI dt)) := by show _ = _; rw [E0.out, decide_eq_true k2]; rfl
          have kn := pnodes_of dt (.slice sa dt.length sc) w hD (by omega) hc
          subst k2
          clear E0 hD hc
          go_enter Tryz.func134, Tryz.ntmps134
          go_wp2_with fail
          refine kn.mono ?_
          rintro e w1 ⟨u, rfl, hO, hb1⟩
          have kv := check_of (nodesI dt) u w1 hO.1.rd (by rw [nodesI_len]; omega)
          rw [← E.out] at kv
          obtain ⟨ua, uc, rfl, -, -⟩ := hO.1.rd.shape
          clear kn hO E
          go_wp2_with fail
          refine kv.mono ?_
          rintro e w2 ⟨rfl, hw2⟩
          subst hw2
          go_wp2
          go_ret
          exact ⟨rfl, hb1⟩
        · have E : Hid (B = true) := by show _ = _; rw [E0.out, decide_eq_false k2]; rfl
          clear E0 hD hc
          go_enter Tryz.func134, Tryz.ntmps134
          go_wp2
          go_ret
          exact ⟨by rw [E.out]; rfl, Below.refl _ _⟩

/-- May a log stand behind such an entry? -/
def baseB (b : Me) : Bool := decide (b.kind = 0) && votB (nodesI b.data) && decide (b.idx ≤ 4611686018427387904)
set_option maxHeartbeats 2000000 in
theorem pbase_of (b : Ez) (w : World) (hD : DataV w b) (hbo : EzOk b) (hdl : b.1.data.length ≤ 1000000000) : Calls Tryz.prog 113 #[ev b] w fun e w' => e = .returned (.bool (baseB b.1)) ∧ Below w.heap.size w w' := by
  obtain ⟨B, HB⟩ : ∃ B, Hid (B = baseB b.1) := ⟨_, rfl⟩
  rw [← HB.out]
  have hl := hD.len
  obtain ⟨⟨ix, tm, kd, dt⟩, sa, sn, sc⟩ := b
  have hc := hbo.2.2
  dsimp only [ev] at *
  subst hl
  have hDR : Rd byteE w (.slice sa dt.length sc) dt := hD
  obtain ⟨h1, h2, h3⟩ := one_box w (.cells #[.int .u64 (ix : Int), .int .u64 (tm : Int), .int .i64 kd, .slice sa dt.length sc] 25)
  have kn := pnodes_of dt (.slice sa dt.length sc) (w.alloc (.cells #[.int .u64 (ix : Int), .int .u64 (tm : Int), .int .i64 kd, .slice sa dt.length sc] 25)) (hDR.below h3) hdl hc
  clear hD hbo hDR h2
  by_cases h0 : kd = 0
  · by_cases hi : ix ≤ 4611686018427387904
    · have hii : (ix : Int) ≤ 4611686018427387904 := by omega
      have E : Hid (B = votB (nodesI dt)) := by show _ = _; rw [HB.out]; unfold baseB; rw [decide_eq_true h0, decide_eq_true hi, Bool.and_true]; rfl
      subst h0
      clear HB hc
      go_enter Tryz.func113, Tryz.ntmps113
      go_wp2_with fail
      refine kn.mono ?_
      rintro e w1 ⟨u, rfl, hO, hb1⟩
      have kv := check_of (nodesI dt) u w1 hO.1.rd (by rw [nodesI_len]; omega)
      rw [← E.out] at kv
      obtain ⟨ua, uc, rfl, -, -⟩ := hO.1.rd.shape
      clear kn hO E
      go_wp2_with fail
      refine kv.mono ?_
      rintro e w2 ⟨rfl, hw2⟩
      subst hw2
      go_wp2
      go_ret
      exact ⟨rfl, h3.trans (hb1.mono (by omega))⟩
    · have hii : decide ((ix : Int) ≤ 4611686018427387904) = false := by simp; omega
      have E : Hid (B = false) := by show _ = _; rw [HB.out]; unfold baseB; rw [decide_eq_false hi, Bool.and_false]
      subst h0
      clear HB hc kn
      go_enter Tryz.func113, Tryz.ntmps113
      go_wp2
      go_ret
      exact ⟨by rw [E.out]; simp, h3⟩
  · have h0b : (kd == 0) = false := by simpa using h0
    have E : Hid (B = false) := by show _ = _; rw [HB.out]; unfold baseB; rw [decide_eq_false h0]; rfl
    clear HB hc kn
    go_enter Tryz.func113, Tryz.ntmps113
    go_wp2
    go_ret
    exact ⟨by rw [E.out]; simp, h3⟩
end Go.Proofs.YtncoandnelgkeaaGreat

/- The program's follow and Check. -/
namespace Go.Proofs.YtncoandnelgkeaaGreat
open Go.RowKit QuorumMath RlogMath
set_option maxRecDepth 100000
set_option linter.unusedSimpArgs false
set_option linter.unusedVariables false

set_option maxHeartbeats 4000000 in
theorem follow_of (x t : Nat) (zs : List Ez) (lv : Value) (w : World) (hL : EntsV w lv zs) (hx : x < 18446744073709551616) (hok : ∀ z ∈ zs, EzOk z) (hlen : zs.length ≤ 1000000000000) : Calls Tryz.prog 114 #[lv, .int .u64 (x : Int), .int .u64 (t : Int)] w fun e w' => e = .returned (.bool (behB x t (mes zs))) ∧ Below w.heap.size w w' := by
  obtain ⟨B, HB⟩ : ∃ B, Hid (B = behB x t (mes zs)) := ⟨_, rfl⟩
  rw [← HB.out]
  obtain ⟨ao, cap, rfl, -, -⟩ := hL.1.shape
  have HX : Hid (x < 18446744073709551616) := hx
  have HOK : Hid (∀ z ∈ zs, EzOk z) := hok
  clear hx hok
  go_enter Tryz.func114, Tryz.ntmps114
  go_wp2
  go_loopg [1, 2, 11] zs.length (fun gh s0 s1 s7 wr => ∃ (k X T : Nat), k + gh = zs.length ∧ s7 = .int .i64 (k : Int) ∧ s0 = .int .u64 (X : Int) ∧ s1 = .int .u64 (T : Int) ∧ Hid (X < 18446744073709551616) ∧ Below w.heap.size w wr ∧ Hid (B = behB X T ((mes zs).drop k)))
  case atStart => exact ⟨0, x, t, by simp, rfl, rfl, rfl, HX, Below.refl _ _, by rw [List.drop_zero]; exact HB⟩
  case round =>
    obtain ⟨k, X, T, hkg, rfl, rfl, rfl, HXX, hb, HBB⟩ := hrel
    clear HX HB
    by_cases hlt : k < zs.length
    · have hlti : (k : Int) < (zs.length : Int) := by omega
      have hz : zs[k]? = some zs[k] := List.getElem?_eq_getElem hlt
      obtain ⟨z, hzz⟩ : ∃ z, z = zs[k] := ⟨_, rfl⟩
      rw [← hzz] at hz
      clear hzz
      obtain ⟨b, off, rfl, c⟩ := rde_at hL.1 hz
      obtain ⟨c0, c1, c2, c3⟩ := c wr hb
      have hzm := List.mem_of_getElem? hz
      have hzo := HOK.out z hzm
      have HZ : Hid (z.1.idx < 18446744073709551616) := hzo.1
      have HBZ := HBB.out
      rw [beh_at (mes_at hz)] at HBZ
      have hDz := hL.2 z hzm
      have hzc := hzo.2.2
      obtain ⟨⟨ix, tm, kd, dt⟩, sa, sn, sc⟩ := z
      dsimp only at c0 c1 c2 c3 HBZ HZ hzc
      obtain ⟨x1, x2, x3⟩ := one_box wr (.cells #[.int .u64 (ix : Int), .int .u64 (tm : Int), .int .i64 kd, .slice sa sn sc] 25)
      have hb3 := hb.trans (x3.mono hb.size)
      have ke := pentry_of ix tm kd dt sa sn sc (wr.alloc (.cells #[.int .u64 (ix : Int), .int .u64 (tm : Int), .int .i64 kd, .slice sa sn sc] 25)) (hDz.below hb3) hzc
      have HC : Hid (∀ W, Below (wr.heap.size + 1) (wr.alloc (.cells #[.int .u64 (ix : Int), .int .u64 (tm : Int), .int .i64 kd, .slice sa sn sc] 25)) W → W.cell? ⟨wr.heap.size, 0, none⟩ = some (.int .u64 (ix : Int)) ∧ W.cell? ⟨wr.heap.size, 1, none⟩ = some (.int .u64 (tm : Int))) := fun W hW => by
        have := (hW.block wr.heap.size (Nat.lt_succ_self _)).trans x2
        exact ⟨by rw [cells_of_block this]; rfl, by rw [cells_of_block this]; rfl⟩
      clear x2 hDz hzc hzm hzo hz HBB HOK hL c
      by_cases h0 : ix = 0
      · have E : Hid (B = false) := by show _ = _; rw [HBZ, decide_eq_false (show ¬ ix = X + 1 by omega)]; simp
        subst h0
        clear HBZ HXX ke HZ HC
        go_wp2
        go_ret
        exact ⟨by rw [E.out]; rfl, hb3⟩
      · have h0b : ((ix : Int) == 0) = false := by simp; omega
        have h0i : ¬ (ix : Int) = 0 := by omega
        obtain ⟨Y, hY⟩ : ∃ Y, Hid (ix = Y + 1) := ⟨ix - 1, by show _ = _; omega⟩
        have hwr : IntKind.u64.wrap ((ix : Int) - 1) = (Y : Int) := by
          have h9 := HZ.out
          have h8 := hY.out
          rw [show (ix : Int) - 1 = (Y : Int) by omega]
          exact IntWalk.u64_in _ (by omega)
        have hwi : IntKind.u64.wrap (Y : Int) = (Y : Int) := by have h8 := hY.out; have h9 := HZ.out; exact IntWalk.u64_in _ (by omega)
        by_cases h2 : Y = X
        · have h8 := hY.out
          have h9 := HZ.out
          rw [decide_eq_true (show X ≠ 18446744073709551615 by omega), decide_eq_true (show ix = X + 1 by omega), Bool.true_and, Bool.true_and] at HBZ
          clear h8 h9
          subst h2
          by_cases h3 : tm < T
          · have h3i : (tm : Int) < (T : Int) := by omega
            have E : Hid (B = false) := by show _ = _; rw [HBZ, decide_eq_false (by omega : ¬ T ≤ tm)]; rfl
            clear HBZ HXX hY ke HZ HC
            go_wp2
            go_ret
            exact ⟨by rw [E.out]; rfl, hb3⟩
          · have h3i : ¬ (tm : Int) < (T : Int) := by omega
            rw [decide_eq_true (by omega : T ≤ tm), Bool.true_and] at HBZ
            cases he : entB ⟨ix, tm, kd, dt⟩ with
            | false =>
              rw [he] at ke HBZ
              have E : Hid (B = false) := by show _ = _; rw [HBZ]; rfl
              clear HBZ HXX hY HZ he HC
              go_wp2_with fail
              refine ke.mono ?_
              rintro e w1 ⟨rfl, hb1⟩
              go_wp2
              go_ret
              exact ⟨by rw [E.out]; rfl, hb3.trans (hb1.mono hb3.size)⟩
            | true =>
              rw [he] at ke HBZ
              have E : Hid (B = behB ix tm ((mes zs).drop (k + 1))) := by show _ = _; rw [HBZ]; rfl
              clear HBZ HXX hY he
              go_wp2_with fail
              refine ke.mono ?_
              rintro e w1 ⟨rfl, hb1⟩
              rw [x1] at hb1
              obtain ⟨e0, e1⟩ := HC.out w1 hb1
              have hb4 := hb3.trans (hb1.mono (by have := hb.size; omega))
              clear c0 c1 c2 c3 ke HC x1 x3 hb hb3 hb1
              go_wp2
              go_quiet (fail)
              go_wp2
              go_roundg (gk - 1)
              case measure => omega
              case rel => exact ⟨k + 1, ix, tm, by omega, by go_num, rfl, rfl, HZ, below_dN hb4 nq, E⟩
        · have h2i : ¬ (Y : Int) = (X : Int) := by omega
          have h2b : ((Y : Int) != (X : Int)) = true := by simp; omega
          have E : Hid (B = false) := by show _ = _; rw [HBZ, decide_eq_false (show ¬ ix = X + 1 by have := hY.out; omega)]; simp
          clear HBZ HXX hY ke HZ h2 HC
          go_wp2
          go_ret
          exact ⟨by rw [E.out]; rfl, hb3⟩
    · have hlti : ¬ (k : Int) < (zs.length : Int) := by omega
      have E : Hid (B = true) := by show _ = _; rw [HBB.out, List.drop_eq_nil_of_le (by simp; omega)]; rfl
      clear HBB HOK hL HXX
      go_wp2
      go_ret
      exact ⟨by rw [E.out]; rfl, hb⟩

theorem may_split (b : Me) (l : List Me) : mayB b l = (baseB b && decide (l.length ≤ 4096) && behB b.idx b.term l) := rfl
/-- The code that Check tells. -/
def codeB (B : Bool) : Int := if B then 0 else 1
set_option maxHeartbeats 4000000 in
theorem pcheck_of (b : Ez) (zs : List Ez) (lv : Value) (w : World) (hD : DataV w b) (hL : EntsV w lv zs) (hbo : EzOk b) (hok : ∀ z ∈ zs, EzOk z) (hlen : zs.length ≤ 1000000000000) (hdl : b.1.data.length ≤ 1000000000) : Calls Tryz.prog 81 #[lgv b lv] w fun e w' => e = .returned (.int .i64 (codeB (mayB b.1 (mes zs)))) ∧ Below w.heap.size w w' := by
  obtain ⟨B, HB⟩ : ∃ B, Hid (B = mayB b.1 (mes zs)) := ⟨_, rfl⟩
  rw [← HB.out]
  obtain ⟨hs, hb0, cl⟩ := lg_box w b lv
  have kn := pbase_of b (w.alloc (lgc b lv)) (hD.below hb0) hbo hdl
  have kb := fun W (hW : Below w.heap.size w W) => follow_of b.1.idx b.1.term zs lv W (hL.below hW) hbo.1 hok hlen
  have HB1 : Hid (B = (baseB b.1 && decide (zs.length ≤ 4096) && behB b.1.idx b.1.term (mes zs))) := by show _ = _; rw [HB.out, may_split]; simp [mes]
  obtain ⟨la, lc, rfl, -, -⟩ := hL.1.shape
  obtain ⟨⟨ix, tm, kd, dt⟩, sa, sn, sc⟩ := b
  dsimp only [lgc, ev] at *
  obtain ⟨c0, c1, c2, c3, c4⟩ := cl _ (Below.refl _ _)
  clear hD hL hbo hok HB
  go_enter Tryz.func81, Tryz.ntmps81
  go_wp2_with fail
  refine kn.mono ?_
  rintro e w1 ⟨rfl, hb1⟩
  rw [hs] at hb1
  have hb01 := hb0.trans (hb1.mono (Nat.le_succ _))
  obtain ⟨d0, d1, d2, d3, d4⟩ := cl w1 hb1
  have kb1 := kb w1 hb01
  clear kn kb cl c0 c1 c2 c3 c4
  cases hv : baseB ⟨ix, tm, kd, dt⟩ with
  | false =>
    have E : Hid (B = false) := by show _ = _; rw [HB1.out, hv]; rfl
    clear HB1 hv kb1
    go_wp2
    go_ret
    exact ⟨by rw [E.out]; rfl, hb01⟩
  | true =>
    by_cases h3 : 4096 < zs.length
    · have h3i : (4096 : Int) < (zs.length : Int) := by omega
      have E : Hid (B = false) := by show _ = _; rw [HB1.out, decide_eq_false (by omega : ¬ zs.length ≤ 4096), Bool.and_false]; rfl
      clear HB1 hv kb1
      go_wp2
      go_ret
      exact ⟨by rw [E.out]; rfl, hb01⟩
    · have h3i : ¬ (4096 : Int) < (zs.length : Int) := by omega
      have E : Hid (B = behB ix tm (mes zs)) := by show _ = _; rw [HB1.out, hv, decide_eq_true (by omega : zs.length ≤ 4096)]; rfl
      rw [← E.out] at kb1
      clear HB1 hv E
      go_wp2_with fail
      refine kb1.mono ?_
      rintro e w2 ⟨rfl, hb2⟩
      cases B with
      | false =>
        go_wp2
        go_ret
        exact ⟨rfl, hb01.trans (hb2.mono hb01.size)⟩
      | true =>
        go_wp2
        go_ret
        exact ⟨rfl, hb01.trans (hb2.mono hb01.size)⟩
end Go.Proofs.YtncoandnelgkeaaGreat

/- The program's Last, Term, Fresh. -/
namespace RlogMath
open QuorumMath
/-- Entries are numbered. -/
theorem beh_num : ∀ (l : List Me) (i t : Nat), behB i t l = true → ∀ (k : Nat) (e : Me), l[k]? = some e → e.idx = i + 1 + k
  | [], i, t, _, k, e, he => by simp at he
  | a :: l, i, t, h, k, e, he => by
    rw [behB, Bool.and_eq_true, Bool.and_eq_true, Bool.and_eq_true, Bool.and_eq_true] at h
    obtain ⟨⟨⟨⟨_, h2⟩, _⟩, _⟩, h5⟩ := h
    have h2' : a.idx = i + 1 := by simpa using h2
    cases k with
    | zero => simp at he; subst he; omega
    | succ k =>
      have := beh_num l a.idx a.term h5 k e (by simpa using he)
      omega
theorem termF_none {x : Nat} : ∀ {l : List Me}, (∀ e ∈ l, e.idx ≠ x) → termF l x = none
  | [], _ => rfl
  | a :: l, h => by
    rw [termF, if_neg (h a List.mem_cons_self)]
    exact termF_none fun e he => h e (List.mem_cons_of_mem _ he)
theorem may_beh {b : Me} {l : List Me} (h : mayB b l = true) : behB b.idx b.term l = true := by
  unfold mayB at h
  simp only [Bool.and_eq_true, decide_eq_true_eq] at h
  exact h.2
theorem may_num {b : Me} {l : List Me} (h : mayB b l = true) {k : Nat} {e : Me} (he : l[k]? = some e) : e.idx = b.idx + 1 + k := beh_num l _ _ (may_beh h) k e he
/-- The term at an index, as the program looks for it. -/
def ptermM (b : Me) (l : List Me) (x : Nat) : Option Nat := if x < b.idx ∨ (lastM b l).1 < x then none else if x = b.idx then some b.term else termF l x
theorem pterm_may {b : Me} {l : List Me} (h : mayB b l = true) (x : Nat) : ptermM b l x = termM b l x := by
  have hl := (may_last h).1
  unfold ptermM termM
  by_cases h1 : x < b.idx ∨ (lastM b l).1 < x
  · rw [if_pos h1, if_neg (by omega), termF_none]
    intro e he
    obtain ⟨k, hk⟩ := List.getElem?_of_mem he
    have h2 := may_num h hk
    have h3 : k < l.length := (List.getElem?_eq_some_iff.1 hk).1
    omega
  · rw [if_neg h1]
end RlogMath
namespace Go.Proofs.YtncoandnelgkeaaGreat
open Go.RowKit QuorumMath RlogMath
set_option maxRecDepth 100000
set_option linter.unusedSimpArgs false
set_option linter.unusedVariables false

set_option maxHeartbeats 4000000 in
theorem plast_of (b : Ez) (zs : List Ez) (lv : Value) (w : World) (hL : EntsV w lv zs) (hlen : zs.length ≤ 1000000000000) : Calls Tryz.prog 68 #[lgv b lv] w fun e w' => e = .returned (lastV (lastM b.1 (mes zs))) ∧ Below w.heap.size w w' := by
  obtain ⟨R, HR⟩ : ∃ R, Hid (R = lastM b.1 (mes zs)) := ⟨_, rfl⟩
  rw [← HR.out]
  obtain ⟨hs, hb0, cl⟩ := lg_box w b lv
  obtain ⟨la, lc, rfl, -, -⟩ := hL.1.shape
  obtain ⟨q1, q2, q3⟩ := one_box (w.alloc (lgc b (.slice la zs.length lc))) (.cells #[.int .u64 (b.1.idx : Int), .int .u64 (b.1.term : Int), .int .i64 b.1.kind, .slice b.2.1 b.2.2.1 b.2.2.2] 25)
  rw [hs] at q1 q2 q3
  have hb2 := hb0.trans (q3.mono (Nat.le_succ _))
  obtain ⟨c0, c1, c2, c3, c4⟩ := cl _ q3
  obtain ⟨a0, a1, a2, a3, a4⟩ := cl _ (Below.refl _ _)
  by_cases h0 : zs.length = 0
  · have E : Hid (R = (b.1.idx, b.1.term)) := by
      show _ = _
      rw [HR.out, List.eq_nil_of_length_eq_zero h0]
      rfl
    obtain ⟨R1, R2⟩ := R
    obtain ⟨⟨ix, tm, kd, dt⟩, sa, sn, sc⟩ := b
    dsimp only [lgc] at *
    clear HR hL cl
    rw [h0] at *
    go_enter Tryz.func68, Tryz.ntmps68
    go_wp2
    go_quiet (fail)
    go_wp2
    go_ret2
    exact ⟨by cases E.out; rfl, below_dN hb2 nq⟩
  · obtain ⟨j, hj⟩ : ∃ j, Hid (j + 1 = zs.length) := ⟨zs.length - 1, by show _ = _; omega⟩
    have hjl : j < zs.length := by have := hj.out; omega
    have hz : zs[j]? = some zs[j] := List.getElem?_eq_getElem hjl
    obtain ⟨z, hzz⟩ : ∃ z, z = zs[j] := ⟨_, rfl⟩
    rw [← hzz] at hz
    clear hzz
    obtain ⟨p, off, rfl, c⟩ := rde_at hL.1 hz
    obtain ⟨d0, d1, d2, d3⟩ := c _ hb2
    have E : Hid (R = (z.1.idx, z.1.term)) := by show _ = _; rw [HR.out, lastM_at hz hj.out]
    obtain ⟨R1, R2⟩ := R
    obtain ⟨⟨ix, tm, kd, dt⟩, sa, sn, sc⟩ := b
    obtain ⟨⟨ix2, tm2, kd2, dt2⟩, sa2, sn2, sc2⟩ := z
    dsimp only [lgc] at *
    have HJ : Hid (j + 1 = zs.length) := hj
    clear hj hL hz c cl HR
    generalize zs.length = n at *
    have hj := HJ
    have h0i : (0 : Int) < (n : Int) := by omega
    have q5 : IntKind.i64.wrap ((n : Int) - 1) = (j : Int) := by have := hj.out; rw [show (n : Int) - 1 = (j : Int) by omega]; exact IntWalk.i64_in _ (by omega)
    have q4 : (n : Int) - 1 = (j : Int) := by have := hj.out; omega
    have q6 : (j : Int) < (n : Int) := by omega
    clear hj HJ
    go_enter Tryz.func68, Tryz.ntmps68
    go_wp2
    go_quiet (fail)
    go_wp2
    go_ret2
    refine ⟨by cases E.out; rfl, below_dN ?_ nq⟩
    exact hb0.alloc hb0.size _

set_option maxHeartbeats 4000000 in
theorem pterm0_of (b : Ez) (zs : List Ez) (lv : Value) (x : Nat) (w : World) (hL : EntsV w lv zs) (hlen : zs.length ≤ 1000000000000) : Calls Tryz.prog 107 #[lgv b lv, .int .u64 (x : Int)] w fun e w' => e = .returned (termV (ptermM b.1 (mes zs) x)) ∧ Below w.heap.size w w' := by
  obtain ⟨R, HR⟩ : ∃ R, Hid (R = ptermM b.1 (mes zs) x) := ⟨_, rfl⟩
  rw [← HR.out]
  obtain ⟨hs, hb0, cl⟩ := lg_box w b lv
  have kl := plast_of b zs lv (w.alloc (lgc b lv)) (hL.below hb0) hlen
  rw [hs] at kl
  have hR := HR.out
  unfold ptermM at hR
  generalize lastM b.1 (mes zs) = p at *
  obtain ⟨p1, p2⟩ := p
  dsimp only at hR
  obtain ⟨la, lc, rfl, -, -⟩ := hL.1.shape
  obtain ⟨c0, c1, c2, c3, c4⟩ := cl _ (Below.refl _ _)
  obtain ⟨⟨ix, tm, kd, dt⟩, sa, sn, sc⟩ := b
  dsimp only [lgc] at *
  clear HR
  go_enter Tryz.func107, Tryz.ntmps107
  go_wp2_with fail
  refine kl.mono ?_
  rintro e w1 ⟨rfl, hb1⟩
  obtain ⟨d0, d1, d2, d3, d4⟩ := cl w1 hb1
  have hb01 := hb0.trans (hb1.mono (Nat.le_succ _))
  clear kl c0 c1 c2 c3 c4 cl hb1 hb0
  by_cases h1 : x < ix
  · have h1i : (x : Int) < (ix : Int) := by omega
    have E : Hid (R = none) := by show _ = _; rw [hR, if_pos (.inl h1)]
    clear hR hL
    go_wp2
    go_ret2
    exact ⟨by rw [E.out]; rfl, hb01⟩
  · have h1i : ¬ (x : Int) < (ix : Int) := by omega
    by_cases h2 : p1 < x
    · have h2i : (p1 : Int) < (x : Int) := by omega
      have E : Hid (R = none) := by show _ = _; rw [hR, if_pos (.inr h2)]
      clear hR hL
      go_wp2
      go_ret2
      exact ⟨by rw [E.out]; rfl, hb01⟩
    · have h2i : ¬ (p1 : Int) < (x : Int) := by omega
      rw [if_neg (by omega)] at hR
      by_cases h0 : x = ix
      · have E : Hid (R = some tm) := by show _ = _; rw [hR, if_pos h0]
        subst h0
        clear hR hL
        go_wp2
        go_ret2
        exact ⟨by rw [E.out]; rfl, hb01⟩
      · have E : Hid (R = termF (mes zs) x) := by show _ = _; rw [hR, if_neg h0]
        have h0b : ((x : Int) == (ix : Int)) = false := by simp; omega
        have h0i : ¬ (x : Int) = (ix : Int) := by omega
        clear hR
        go_wp2
        go_loopg [36] zs.length (fun gh s6 wr => ∃ k : Nat, k + gh = zs.length ∧ s6 = .int .i64 (k : Int) ∧ Below w.heap.size w wr ∧ Hid (R = termF ((mes zs).drop k) x))
        case atStart => exact ⟨0, by simp, rfl, hb01, by rw [List.drop_zero]; exact E⟩
        case round =>
          obtain ⟨k, hkg, rfl, hbr, HK⟩ := hrel
          clear E hb01 d0 d1 d2 d3 d4
          by_cases hlt : k < zs.length
          · have hlti : (k : Int) < (zs.length : Int) := by omega
            have hz : zs[k]? = some zs[k] := List.getElem?_eq_getElem hlt
            obtain ⟨z, hzz⟩ : ∃ z, z = zs[k] := ⟨_, rfl⟩
            rw [← hzz] at hz
            clear hzz
            obtain ⟨p, off, rfl, c⟩ := rde_at hL.1 hz
            obtain ⟨d0, d1, d2, d3⟩ := c _ hbr
            have hK := HK.out
            rw [termF_at (mes_at hz)] at hK
            obtain ⟨⟨ix2, tm2, kd2, dt2⟩, sa2, sn2, sc2⟩ := z
            dsimp only at d0 d1 d2 d3 hK
            by_cases hx : ix2 = x
            · have E : Hid (R = some tm2) := by show _ = _; rw [hK, if_pos hx]
              subst hx
              clear hK HK hz c hL
              go_wp2
              go_ret2
              exact ⟨by rw [E.out]; rfl, hbr.alloc hbr.size _⟩
            · have E : Hid (R = termF ((mes zs).drop (k + 1)) x) := by show _ = _; rw [hK, if_neg hx]
              have hxb : ((ix2 : Int) == (x : Int)) = false := by simp; omega
              have hxi : ¬ (ix2 : Int) = (x : Int) := by omega
              clear hK HK hz c hL
              go_wp2
              go_roundg (gk - 1)
              case measure => omega
              case rel => exact ⟨k + 1, by omega, by go_num, hbr.alloc hbr.size _, E⟩
          · have hlti : ¬ (k : Int) < (zs.length : Int) := by omega
            have E : Hid (R = none) := by show _ = _; rw [HK.out, List.drop_eq_nil_of_le (by simp; omega)]; rfl
            clear HK hL
            go_wp2
            go_ret2
            exact ⟨by rw [E.out]; rfl, hbr⟩
/-- Of a log that may be. -/
theorem pterm_of (b : Ez) (zs : List Ez) (lv : Value) (x : Nat) (w : World) (hL : EntsV w lv zs) (hlen : zs.length ≤ 1000000000000) (hm : mayB b.1 (mes zs) = true) : Calls Tryz.prog 107 #[lgv b lv, .int .u64 (x : Int)] w fun e w' => e = .returned (termV (termM b.1 (mes zs) x)) ∧ Below w.heap.size w w' := by
  have := pterm0_of b zs lv x w hL hlen
  rw [pterm_may hm] at this
  exact this

end Go.Proofs.YtncoandnelgkeaaGreat

