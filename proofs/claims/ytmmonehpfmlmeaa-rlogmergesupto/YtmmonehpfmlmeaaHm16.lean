import Derived.Test.YtmmonehpfmlmeaaHm13
/- The contracts of the document's Last, Term, Fresh, Voters. -/
namespace Go.Proofs.Ytmmonehpfmlmeaa
open Go.RowKit QuorumMath RlogMath
set_option maxRecDepth 100000
set_option linter.unusedSimpArgs false
set_option linter.unusedVariables false

theorem lastM_nil (b : Me) : lastM b [] = (b.idx, b.term) := rfl
theorem lastM_at {b : Me} {zs : List Ez} {j : Nat} {z : Ez} (hz : zs[j]? = some z) (hj : j + 1 = zs.length) : lastM b (mes zs) = (z.1.idx, z.1.term) := by
  unfold lastM
  rw [List.getLast?_eq_getElem?, mes_at (i := (mes zs).length - 1) (z := z) (by rw [show (mes zs).length - 1 = j by simp; omega]; exact hz)]

/-- What Last tells. -/
@[reducible] def lastV (p : Nat × Nat) : Value := .tuple #[.int .u64 (p.1 : Int), .int .u64 (p.2 : Int)]
set_option maxHeartbeats 4000000 in
theorem rlast_of (b : Ez) (zs : List Ez) (lv : Value) (w : World) (hL : EntsV w lv zs) (hlen : zs.length ≤ 1000000000000) : Calls Try.prog 15 #[lgv b lv] w fun e w' => e = .returned (lastV (lastM b.1 (mes zs))) ∧ Below w.heap.size w w' := by
  obtain ⟨R, HR⟩ : ∃ R, Hid (R = lastM b.1 (mes zs)) := ⟨_, rfl⟩
  rw [← HR.out]
  obtain ⟨hs, hb0, cl⟩ := lg_box w b lv
  obtain ⟨la, lc, rfl, -, -⟩ := hL.1.shape
  obtain ⟨c0, c1, c2, c3, c4⟩ := cl _ (Below.refl _ _)
  by_cases h0 : zs.length = 0
  · have E : Hid (R = (b.1.idx, b.1.term)) := by
      show _ = _
      rw [HR.out, List.eq_nil_of_length_eq_zero h0]
      rfl
    obtain ⟨R1, R2⟩ := R
    obtain ⟨⟨ix, tm, kd, dt⟩, sa, sn, sc⟩ := b
    dsimp only [lgc] at *
    clear HR hL cl
    rw [h0] at hb0 c4 c0 c1
    rw [h0] at *
    go_enter Try.func15, Try.ntmps15
    go_wp2
    go_quiet (fail)
    go_wp2
    go_ret2
    exact ⟨by cases E.out; rfl, below_dN hb0 nq⟩
  · obtain ⟨j, hj⟩ : ∃ j, Hid (j + 1 = zs.length) := ⟨zs.length - 1, by show _ = _; omega⟩
    have hjl : j < zs.length := by have := hj.out; omega
    have hz : zs[j]? = some zs[j] := List.getElem?_eq_getElem hjl
    obtain ⟨z, hzz⟩ : ∃ z, z = zs[j] := ⟨_, rfl⟩
    rw [← hzz] at hz
    clear hzz
    obtain ⟨p, off, rfl, c⟩ := rde_at hL.1 hz
    obtain ⟨d0, d1, d2, d3⟩ := c _ hb0
    have E : Hid (R = (z.1.idx, z.1.term)) := by show _ = _; rw [HR.out, lastM_at hz hj.out]
    obtain ⟨R1, R2⟩ := R
    obtain ⟨⟨ix, tm, kd, dt⟩, sa, sn, sc⟩ := b
    obtain ⟨⟨ix2, tm2, kd2, dt2⟩, sa2, sn2, sc2⟩ := z
    dsimp only [lgc] at *
    have HJ : Hid (j + 1 = zs.length) := hj
    clear hj hL hz c cl HR
    generalize zs.length = n at *
    have hj := HJ
    have h0i : ¬ (n : Int) = 0 := by omega
    have q1 : IntKind.i64.wrap ((n : Int) - 1) = (j : Int) := by have := hj.out; rw [show (n : Int) - 1 = (j : Int) by omega]; exact IntWalk.i64_in _ (by omega)
    have q2 : (n : Int) - 1 = (j : Int) := by have := hj.out; omega
    have q3 : (j : Int) < (n : Int) := by omega
    clear hj HJ
    go_enter Try.func15, Try.ntmps15
    go_wp2
    go_quiet (fail)
    go_wp2
    go_ret2
    exact ⟨by cases E.out; rfl, below_dN (hb0.alloc hb0.size _) nq⟩

/-- What Term tells. -/
@[reducible] def termV : Option Nat → Value
  | none => .tuple #[.int .u64 0, .bool false]
  | some t => .tuple #[.int .u64 (t : Int), .bool true]
set_option maxHeartbeats 4000000 in
theorem rterm_of (b : Ez) (zs : List Ez) (lv : Value) (x : Nat) (w : World) (hL : EntsV w lv zs) (hlen : zs.length ≤ 1000000000000) : Calls Try.prog 17 #[lgv b lv, .int .u64 (x : Int)] w fun e w' => e = .returned (termV (termM b.1 (mes zs) x)) ∧ Below w.heap.size w w' := by
  obtain ⟨R, HR⟩ : ∃ R, Hid (R = termM b.1 (mes zs) x) := ⟨_, rfl⟩
  rw [← HR.out]
  obtain ⟨hs, hb0, cl⟩ := lg_box w b lv
  obtain ⟨la, lc, rfl, -, -⟩ := hL.1.shape
  obtain ⟨c0, c1, c2, c3, c4⟩ := cl _ (Below.refl _ _)
  by_cases h0 : x = b.1.idx
  · have E : Hid (R = some b.1.term) := by show _ = _; rw [HR.out]; unfold termM; rw [if_pos h0]
    obtain ⟨⟨ix, tm, kd, dt⟩, sa, sn, sc⟩ := b
    dsimp only [lgc] at *
    subst h0
    clear HR hL cl
    go_enter Try.func17, Try.ntmps17
    go_wp2
    go_ret2
    exact ⟨by rw [E.out]; rfl, hb0⟩
  · have E : Hid (R = termF (mes zs) x) := by show _ = _; rw [HR.out]; unfold termM; rw [if_neg h0]
    obtain ⟨⟨ix, tm, kd, dt⟩, sa, sn, sc⟩ := b
    dsimp only [lgc] at *
    have h0b : ((x : Int) == (ix : Int)) = false := by simp; omega
    have h0i : ¬ (x : Int) = (ix : Int) := by omega
    clear HR
    go_enter Try.func17, Try.ntmps17
    go_wp2
    go_loopg [6] zs.length (fun gh s6 wr => ∃ k : Nat, k + gh = zs.length ∧ s6 = .int .i64 (k : Int) ∧ wr = w.alloc (.cells #[.int .u64 (ix : Int), .int .u64 (tm : Int), .int .i64 kd, .slice sa sn sc, .slice la zs.length lc] 28) ∧ Hid (R = termF ((mes zs).drop k) x))
    case atStart => exact ⟨0, by simp, rfl, rfl, by rw [List.drop_zero]; exact E⟩
    case round =>
      obtain ⟨k, hkg, rfl, hwr, HK⟩ := hrel
      have HW : Hid (wr = _) := hwr
      rw [← hwr] at c0 c1 c2 c3 c4 hb0
      clear hwr E cl
      by_cases hlt : k < zs.length
      · have hlti : (k : Int) < (zs.length : Int) := by omega
        have hz : zs[k]? = some zs[k] := List.getElem?_eq_getElem hlt
        obtain ⟨z, hzz⟩ : ∃ z, z = zs[k] := ⟨_, rfl⟩
        rw [← hzz] at hz
        clear hzz
        obtain ⟨p, off, rfl, c⟩ := rde_at hL.1 hz
        obtain ⟨d0, d1, d2, d3⟩ := c _ hb0
        have hK := HK.out
        rw [termF_at (mes_at hz)] at hK
        obtain ⟨⟨ix2, tm2, kd2, dt2⟩, sa2, sn2, sc2⟩ := z
        dsimp only at d0 d1 d2 d3 hK
        by_cases hx : ix2 = x
        · have E : Hid (R = some tm2) := by show _ = _; rw [hK, if_pos hx]
          subst hx
          clear hK HK hz c hL
          go_wp2
          go_ret2
          exact ⟨by rw [E.out]; rfl, hb0⟩
        · have E : Hid (R = termF ((mes zs).drop (k + 1)) x) := by show _ = _; rw [hK, if_neg hx]
          have hxb : ((ix2 : Int) == (x : Int)) = false := by simp; omega
          have hxi : ¬ (ix2 : Int) = (x : Int) := by omega
          clear hK HK hz c hL
          go_wp2
          go_roundg (gk - 1)
          case measure => omega
          case rel => exact ⟨k + 1, by omega, by go_num, HW.out, E⟩
      · have hlti : ¬ (k : Int) < (zs.length : Int) := by omega
        have E : Hid (R = none) := by show _ = _; rw [HK.out, List.drop_eq_nil_of_le (by simp; omega)]; rfl
        clear HK hL
        go_wp2
        go_ret2
        exact ⟨by rw [E.out]; rfl, hb0⟩

set_option maxHeartbeats 2000000 in
theorem rfresh_of (b : Ez) (zs : List Ez) (lv : Value) (x t : Nat) (w : World) (hL : EntsV w lv zs) (hlen : zs.length ≤ 1000000000000) : Calls Try.prog 25 #[lgv b lv, .int .u64 (x : Int), .int .u64 (t : Int)] w fun e w' => e = .returned (.bool (freshM b.1 (mes zs) x t)) ∧ Below w.heap.size w w' := by
  obtain ⟨R, HR⟩ : ∃ R, Hid (R = freshM b.1 (mes zs) x t) := ⟨_, rfl⟩
  rw [← HR.out]
  obtain ⟨hs, hb0, -⟩ := lg_box w b lv
  have kl := rlast_of b zs lv (w.alloc (lgc b lv)) (hL.below hb0) hlen
  rw [hs] at kl
  have hR := HR.out
  unfold freshM at hR
  generalize lastM b.1 (mes zs) = p at *
  obtain ⟨p1, p2⟩ := p
  dsimp only at hR
  obtain ⟨la, lc, rfl, -, -⟩ := hL.1.shape
  clear HR hL
  by_cases ht : t = p2
  · have E : Hid (R = decide (p1 ≤ x)) := by show _ = _; rw [hR, if_pos ht]
    subst ht
    by_cases hp : p1 ≤ x
    · have E2 : Hid (R = true) := by show _ = _; rw [E.out, decide_eq_true hp]
      have hpi : (p1 : Int) ≤ (x : Int) := by omega
      clear hR E
      go_enter Try.func25, Try.ntmps25
      go_wp2_with fail
      refine kl.mono ?_
      rintro e w1 ⟨rfl, hb1⟩
      go_wp2
      go_ret
      exact ⟨by rw [E2.out]; rfl, hb0.trans (hb1.mono (Nat.le_succ _))⟩
    · have E2 : Hid (R = false) := by show _ = _; rw [E.out, decide_eq_false hp]
      have hpi : decide ((p1 : Int) ≤ (x : Int)) = false := by simp; omega
      clear hR E
      go_enter Try.func25, Try.ntmps25
      go_wp2_with fail
      refine kl.mono ?_
      rintro e w1 ⟨rfl, hb1⟩
      go_wp2
      go_ret
      exact ⟨by rw [E2.out]; simp, hb0.trans (hb1.mono (Nat.le_succ _))⟩
  · have E : Hid (R = decide (p2 < t)) := by show _ = _; rw [hR, if_neg ht]
    have htb : ((t : Int) != (p2 : Int)) = true := by simp; omega
    have hti : ¬ (t : Int) = (p2 : Int) := by omega
    clear hR
    go_enter Try.func25, Try.ntmps25
    go_wp2_with fail
    refine kl.mono ?_
    rintro e w1 ⟨rfl, hb1⟩
    go_wp2
    go_ret
    exact ⟨by rw [E.out]; simp, hb0.trans (hb1.mono (Nat.le_succ _))⟩

set_option maxHeartbeats 4000000 in
theorem rvot_of (b : Ez) (zs : List Ez) (lv : Value) (w : World) (hD : DataV w b) (hL : EntsV w lv zs) (hbo : EzOk b) (hok : ∀ z ∈ zs, EzOk z) (hlen : zs.length ≤ 1000000000000) (hdl : b.1.data.length ≤ 1000000000) (hdz : ∀ z ∈ zs, z.1.data.length ≤ 1000000000) : Calls Try.prog 23 #[lgv b lv] w fun e w' => ∃ v, e = .returned v ∧ Rd intE w' v (votM b.1 (mes zs)) ∧ Below w.heap.size w w' := by
  obtain ⟨R, HR⟩ : ∃ R, Hid (R = votM b.1 (mes zs)) := ⟨_, rfl⟩
  rw [← HR.out]
  obtain ⟨hs, hb0, cl⟩ := lg_box w b lv
  have kn := nodes_of b.1.data _ (w.alloc (lgc b lv)) (hD.below hb0) hdl hbo.2.2
  have kz := fun z (hz : z ∈ zs) W (hW : Below w.heap.size w W) => nodes_of z.1.data _ W ((hL.2 z hz).below hW) (hdz z hz) (hok z hz).2.2
  have hln := hD.len
  obtain ⟨la, lc, rfl, -, -⟩ := hL.1.shape
  obtain ⟨⟨ix, tm, kd, dt⟩, sa, sn, sc⟩ := b
  dsimp only [lgc] at *
  subst hln
  obtain ⟨c0, c1, c2, c3, c4⟩ := cl _ (Below.refl _ _)
  clear hD hbo hok hdl
  go_enter Try.func23, Try.ntmps23
  go_wp2_with fail
  refine kn.mono ?_
  rintro e w1 ⟨u, rfl, hO, hb1⟩
  rw [hs] at hb1
  have hRd := hO.1.rd
  clear kn hO c0 c1 c2 c3 c4
  go_wp2
  go_loopg [3, 4] zs.length (fun gh s3 s4 wr => ∃ (k : Nat) (d : List Nat) (st : Value), k + gh = zs.length ∧ s4 = .int .i64 (k : Int) ∧ st = s3 ∧ Rd intE wr st (nodesI d) ∧ Below (w.heap.size + 1) (w.alloc (.cells #[.int .u64 (ix : Int), .int .u64 (tm : Int), .int .i64 kd, .slice sa dt.length sc, .slice la zs.length lc] 28)) wr ∧ Hid (R = nodesI (votF d ((mes zs).drop k))))
  case atStart => exact ⟨0, dt, _, by simp, rfl, rfl, hRd, hb1, by rw [List.drop_zero]; exact HR⟩
  case round =>
    obtain ⟨k, d, st, hkg, rfl, rfl, hRs, hb2, HK⟩ := hrel
    have hb02 := hb0.trans (hb2.mono (Nat.le_succ _))
    obtain ⟨c0, c1, c2, c3, c4⟩ := cl wr hb2
    clear HR hRd hb1
    by_cases hlt : k < zs.length
    · have hlti : (k : Int) < (zs.length : Int) := by omega
      have hz : zs[k]? = some zs[k] := List.getElem?_eq_getElem hlt
      obtain ⟨z, hzz⟩ : ∃ z, z = zs[k] := ⟨_, rfl⟩
      rw [← hzz] at hz
      clear hzz
      obtain ⟨p, off, rfl, c⟩ := rde_at hL.1 hz
      obtain ⟨d0, d1, d2, d3⟩ := c _ hb02
      have hK := HK.out
      rw [votF_at (mes_at hz)] at hK
      have kz1 := kz z (List.mem_of_getElem? hz) wr hb02
      have hzl := (hL.2 z (List.mem_of_getElem? hz)).len
      obtain ⟨⟨ix2, tm2, kd2, dt2⟩, sa2, sn2, sc2⟩ := z
      dsimp only at d0 d1 d2 d3 hK kz1 hzl
      subst hzl
      by_cases hx : kd2 = 2
      · have E : Hid (R = nodesI (votF dt2 ((mes zs).drop (k + 1)))) := by show _ = _; rw [hK, if_pos hx]
        subst hx
        have hws : w.heap.size + 1 ≤ wr.heap.size := by have := hb2.size; omega
        clear hK HK hz c hL kz cl hdz
        go_wp2_with fail
        refine kz1.mono ?_
        rintro e w5 ⟨u5, rfl, hO5, hb5⟩
        have hb25 := hb2.trans (hb5.mono hws)
        have hR5 := hO5.1.rd
        clear kz1 hO5
        go_wp2
        go_roundg (gk - 1)
        case measure => omega
        case rel => exact ⟨k + 1, dt2, u5, by omega, by go_num, rfl, hR5, hb25, E⟩
      · have E : Hid (R = nodesI (votF d ((mes zs).drop (k + 1)))) := by show _ = _; rw [hK, if_neg hx]
        have hxb : (kd2 == 2) = false := by simpa using hx
        clear hK HK hz c hL kz cl hdz kz1
        go_wp2
        go_roundg (gk - 1)
        case measure => omega
        case rel => exact ⟨k + 1, d, _, by omega, by go_num, rfl, hRs, hb2, E⟩
    · have hlti : ¬ (k : Int) < (zs.length : Int) := by omega
      have E : Hid (R = nodesI d) := by show _ = _; rw [HK.out, List.drop_eq_nil_of_le (by simp; omega)]; rfl
      rw [← E.out] at hRs
      clear HK hL cl kz hdz
      go_wp2
      go_ret
      exact ⟨_, rfl, hRs, hb02⟩
end Go.Proofs.Ytmmonehpfmlmeaa

