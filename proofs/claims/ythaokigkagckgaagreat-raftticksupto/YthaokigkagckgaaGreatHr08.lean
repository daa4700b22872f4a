import Derived.Test.YthaokigkagckgaaGreatHr06
/- The contracts of the document's Last, Term, Fresh, Voters. -/
namespace Go.Proofs.YthaokigkagckgaaGreat
open Go.RowKit QuorumMath RlogMath
set_option maxRecDepth 100000
set_option linter.unusedSimpArgs false
set_option linter.unusedVariables false

theorem lastM_nil (b : Me) : lastM b [] = (b.idx, b.term) := rfl
theorem lastM_at {b : Me} {zs : List Ez} {j : Nat} {z : Ez} (hz : zs[j]? = some z) (hj : j + 1 = zs.length) : lastM b (mes zs) = (z.1.idx, z.1.term) := by
  unfold lastM
  rw [List.getLast?_eq_getElem?, mes_at (i := (mes zs).length - 1) (z := z) (by rw [show (mes zs).length - 1 = j by simp; omega]; exact hz)]

/-- What Last tells. -/
@[reducible] def lastV (p : Nat × Nat) : Value := .tuple #[.int .u64 (p.1 : Int), .int .u64 (p.2 : Int)]
set_option maxHeartbeats 4000000 in
theorem rlast_of (b : Ez) (zs : List Ez) (lv : Value) (w : World) (hL : EntsV w lv zs) (hlen : zs.length ≤ 1000000000000) : Calls Tryz.prog 33 #[lgv b lv] w fun e w' => e = .returned (lastV (lastM b.1 (mes zs))) ∧ Below w.heap.size w w' := by
  obtain ⟨R, HR⟩ : ∃ R, Hid (R = lastM b.1 (mes zs)) := ⟨_, rfl⟩
  rw [← HR.out]
  obtain ⟨hs, hb0, cl⟩ := lg_box w b lv
  obtain ⟨la, lc, rfl, -, -⟩ := hL.1.shape
  obtain ⟨c0, c1, c2, c3, c4⟩ := cl _ (Below.refl _ _)
  by_cases h0 : zs.length = 0
  · have E : Hid (R = (b.1.idx, b.1.term)) := by
      show _ = _
      rw [HR.out, List.eq_nil_of_length_eq_zero h0]
      rfl
    obtain ⟨R1, R2⟩ := R
    obtain ⟨⟨ix, tm, kd, dt⟩, sa, sn, sc⟩ := b
    dsimp only [lgc] at *
    clear HR hL cl
    rw [h0] at hb0 c4 c0 c1
    rw [h0] at *
    go_enter Tryz.func33, Tryz.ntmps33
    go_wp2
    go_quiet (fail)
    go_wp2
    go_ret2
    exact ⟨by cases E.out; rfl, below_dN hb0 nq⟩
  · obtain ⟨j, hj⟩ : ∃ j, Hid (j + 1 = zs.length) := ⟨zs.length - 1, by show _ = _; omega⟩
    have hjl : j < zs.length := by have := hj.out; omega
    have hz : zs[j]? = some zs[j] := List.getElem?_eq_getElem hjl
    obtain ⟨z, hzz⟩ : ∃ z, z = zs[j] := ⟨_, rfl⟩
    rw [← hzz] at hz
    clear hzz
    obtain ⟨p, off, rfl, c⟩ := rde_at hL.1 hz
    obtain ⟨d0, d1, d2, d3⟩ := c _ hb0
    have E : Hid (R = (z.1.idx, z.1.term)) := by show _ = _; rw [HR.out, lastM_at hz hj.out]
    obtain ⟨R1, R2⟩ := R
    obtain ⟨⟨ix, tm, kd, dt⟩, sa, sn, sc⟩ := b
    obtain ⟨⟨ix2, tm2, kd2, dt2⟩, sa2, sn2, sc2⟩ := z
    dsimp only [lgc] at *
    have HJ : Hid (j + 1 = zs.length) := hj
    clear hj hL hz c cl HR
    generalize zs.length = n at *
    have hj := HJ
    have h0i : ¬ (n : Int) = 0 := by omega
    have q1 : IntKind.i64.wrap ((n : Int) - 1) = (j : Int) := by have := hj.out; rw [show (n : Int) - 1 = (j : Int) by omega]; exact IntWalk.i64_in _ (by omega)
    have q2 : (n : Int) - 1 = (j : Int) := by have := hj.out; omega
    have q3 : (j : Int) < (n : Int) := by omega
    clear hj HJ
    go_enter Tryz.func33, Tryz.ntmps33
    go_wp2
    go_quiet (fail)
    go_wp2
    go_ret2
    exact ⟨by cases E.out; rfl, below_dN (hb0.alloc hb0.size _) nq⟩

/-- What Term tells. -/
@[reducible] def termV : Option Nat → Value
  | none => .tuple #[.int .u64 0, .bool false]
  | some t => .tuple #[.int .u64 (t : Int), .bool true]
set_option maxHeartbeats 4000000 in
theorem rterm_of (b : Ez) (zs : List Ez) (lv : Value) (x : Nat) (w : World) (hL : EntsV w lv zs) (hlen : zs.length ≤ 1000000000000) : Calls Tryz.prog 73 #[lgv b lv, .int .u64 (x : Int)] w fun e w' => e = .returned (termV (termM b.1 (mes zs) x)) ∧ Below w.heap.size w w' := by
  obtain ⟨R, HR⟩ : ∃ R, Hid (R = termM b.1 (mes zs) x) := ⟨_, rfl⟩
  rw [← HR.out]
  obtain ⟨hs, hb0, cl⟩ := lg_box w b lv
  obtain ⟨la, lc, rfl, -, -⟩ := hL.1.shape
  obtain ⟨c0, c1, c2, c3, c4⟩ := cl _ (Below.refl _ _)
  by_cases h0 : x = b.1.idx
  · have E : Hid (R = some b.1.term) := by show _ = _; rw [HR.out]; unfold termM; rw [if_pos h0]
    obtain ⟨⟨ix, tm, kd, dt⟩, sa, sn, sc⟩ := b
    dsimp only [lgc] at *
    subst h0
    clear HR hL cl
    go_enter Tryz.func73, Tryz.ntmps73
    go_wp2
    go_ret2
    exact ⟨by rw [E.out]; rfl, hb0⟩
  · have E : Hid (R = termF (mes zs) x) := by show _ = _; rw [HR.out]; unfold termM; rw [if_neg h0]
    obtain ⟨⟨ix, tm, kd, dt⟩, sa, sn, sc⟩ := b
    dsimp only [lgc] at *
    have h0b : ((x : Int) == (ix : Int)) = false := by simp; omega
    have h0i : ¬ (x : Int) = (ix : Int) := by omega
    clear HR
    go_enter Tryz.func73, Tryz.ntmps73
    go_wp2
    go_loopg [6] zs.length (fun gh s6 wr => ∃ k : Nat, k + gh = zs.length ∧ s6 = .int .i64 (k : Int) ∧ wr = w.alloc (.cells #[.int .u64 (ix : Int), .int .u64 (tm : Int), .int .i64 kd, .slice sa sn sc, .slice la zs.length lc] 28) ∧ Hid (R = termF ((mes zs).drop k) x))
    case atStart => exact ⟨0, by simp, rfl, rfl, by rw [List.drop_zero]; exact E⟩
    case round =>
      obtain ⟨k, hkg, rfl, hwr, HK⟩ := hrel
      have HW : Hid (wr = _) := hwr
      rw [← hwr] at c0 c1 c2 c3 c4 hb0
      clear hwr E cl
      by_cases hlt : k < zs.length
      · have hlti : (k : Int) < (zs.length : Int) := by omega
        have hz : zs[k]? = some zs[k] := List.getElem?_eq_getElem hlt
        obtain ⟨z, hzz⟩ : ∃ z, z = zs[k] := ⟨_, rfl⟩
        rw [← hzz] at hz
        clear hzz
        obtain ⟨p, off, rfl, c⟩ := rde_at hL.1 hz
        obtain ⟨d0, d1, d2, d3⟩ := c _ hb0
        have hK := HK.out
        rw [termF_at (mes_at hz)] at hK
        obtain ⟨⟨ix2, tm2, kd2, dt2⟩, sa2, sn2, sc2⟩ := z
        dsimp only at d0 d1 d2 d3 hK
        by_cases hx : ix2 = x
        · have E : Hid (R = some tm2) := by show _ = _; rw [hK, if_pos hx]
          subst hx
          clear hK HK hz c hL
          go_wp2
          go_ret2
          exact ⟨by rw [E.out]; rfl, hb0⟩
        · have E : Hid (R = termF ((mes zs).drop (k + 1)) x) := by show _ = _; rw [hK, if_neg hx]
          have hxb : ((ix2 : Int) == (x : Int)) = false := by simp; omega
          have hxi : ¬ (ix2 : Int) = (x : Int) := by omega
          clear hK HK hz c hL
          go_wp2
          go_roundg (gk - 1)
          case measure => omega
          case rel => exact ⟨k + 1, by omega, by go_num, HW.out, E⟩
      · have hlti : ¬ (k : Int) < (zs.length : Int) := by omega
        have E : Hid (R = none) := by show _ = _; rw [HK.out, List.drop_eq_nil_of_le (by simp; omega)]; rfl
        clear HK hL
        go_wp2
        go_ret2
        exact ⟨by rw [E.out]; rfl, hb0⟩

set_option maxHeartbeats 2000000 in
theorem rfresh_of (b : Ez) (zs : List Ez) (lv : Value) (x t : Nat) (w : World) (hL : EntsV w lv zs) (hlen : zs.length ≤ 1000000000000) : Calls Tryz.prog 61 #[lgv b lv, .int .u64 (x : Int), .int .u64 (t : Int)] w fun e w' => e = .returned (.bool (freshM b.1 (mes zs) x t)) ∧ Below w.heap.size w w' := by
  obtain ⟨R, HR⟩ : ∃ R, Hid (R = freshM b.1 (mes zs) x t) := ⟨_, rfl⟩
  rw [← HR.out]
  obtain ⟨hs, hb0, -⟩ := lg_box w b lv
  have kl := rlast_of b zs lv (w.alloc (lgc b lv)) (hL.below hb0) hlen
  rw [hs] at kl
  have hR := HR.out
  unfold freshM at hR
  generalize lastM b.1 (mes zs) = p at *
  obtain ⟨p1, p2⟩ := p
  dsimp only at hR
  obtain ⟨la, lc, rfl, -, -⟩ := hL.1.shape
  clear HR hL
  by_cases ht : t = p2
  · have E : Hid (R = decide (p1 ≤ x)) := by show _ = _; rw [hR, if_pos ht]
    subst ht
    by_cases hp : p1 ≤ x
    · have E2 : Hid (R = true) := by show _ = _; rw [E.out, decide_eq_true hp]
      have hpi : (p1 : Int) ≤ (x : Int) := by omega
      clear hR E
      go_enter Tryz.func61, Tryz.ntmps61
      go_wp2_with fail
      refine kl.mono ?_
      rintro e w1 ⟨rfl, hb1⟩
      go_wp2
      go_ret
      exact ⟨by rw [E2.out]; rfl, hb0.trans (hb1.mono (Nat.le_succ _))⟩
    · have E2 : Hid (R = false) := by show _ = _; rw [E.out, decide_eq_false hp]
      have hpi : decide ((p1 : Int) ≤ (x : Int)) = false := by simp; omega
      clear hR E
      go_enter Tryz.func61, Tryz.ntmps61
      go_wp2_with fail
      refine kl.mono ?_
      rintro e w1 ⟨rfl, hb1⟩
      go_wp2
      go_ret
      exact ⟨by rw [E2.out]; simp, hb0.trans (hb1.mono (Nat.le_succ _))⟩
  · have E : Hid (R = decide (p2 < t)) := by show _ = _; rw [hR, if_neg ht]
    have htb : ((t : Int) != (p2 : Int)) = true := by simp; omega
    have hti : ¬ (t : Int) = (p2 : Int) := by omega
    clear hR
    go_enter Tryz.func61, Tryz.ntmps61
    go_wp2_with fail
    refine kl.mono ?_
    rintro e w1 ⟨rfl, hb1⟩
    go_wp2
    go_ret
    exact ⟨by rw [E.out]; simp, hb0.trans (hb1.mono (Nat.le_succ _))⟩

set_option maxHeartbeats 4000000 in
theorem rvot_of (b : Ez) (zs : List Ez) (lv : Value) (w : World) (hD : DataV w b) (hL : EntsV w lv zs) (hbo : EzOk b) (hok : ∀ z ∈ zs, EzOk z) (hlen : zs.length ≤ 1000000000000) (hdl : b.1.data.length ≤ 1000000000) (hdz : ∀ z ∈ zs, z.1.data.length ≤ 1000000000) : Calls Tryz.prog 21 #[lgv b lv] w fun e w' => ∃ v, e = .returned v ∧ Rd intE w' v (votM b.1 (mes zs)) ∧ Below w.heap.size w w' := by
  obtain ⟨R, HR⟩ : ∃ R, Hid (R = votM b.1 (mes zs)) := ⟨_, rfl⟩
  rw [← HR.out]
  obtain ⟨hs, hb0, cl⟩ := lg_box w b lv
  have kn := nodes_of b.1.data _ (w.alloc (lgc b lv)) (hD.below hb0) hdl hbo.2.2
  have kz := fun z (hz : z ∈ zs) W (hW : Below w.heap.size w W) => nodes_of z.1.data _ W ((hL.2 z hz).below hW) (hdz z hz) (hok z hz).2.2
  have hln := hD.len
  obtain ⟨la, lc, rfl, -, -⟩ := hL.1.shape
  obtain ⟨⟨ix, tm, kd, dt⟩, sa, sn, sc⟩ := b
  dsimp only [lgc] at *
  subst hln
  obtain ⟨c0, c1, c2, c3, c4⟩ := cl _ (Below.refl _ _)
  clear hD hbo hok hdl
  go_enter Tryz.func21, Tryz.ntmps21
  go_wp2_with fail
  refine kn.mono ?_
  rintro e w1 ⟨u, rfl, hO, hb1⟩
  rw [hs] at hb1
  have hRd := hO.1.rd
  clear kn hO c0 c1 c2 c3 c4
  go_wp2
  go_loopg [3, 4] zs.length (fun gh s3 s4 wr => ∃ (k : Nat) (d : List Nat) (st : Value), k + gh = zs.length ∧ s4 = .int .i64 (k : Int) ∧ st = s3 ∧ Rd intE wr st (nodesI d) ∧ Below (w.heap.size + 1) (w.alloc (.cells #[.int .u64 (ix : Int), .int .u64 (tm : Int), .int .i64 kd, .slice sa dt.length sc, .slice la zs.length lc] 28)) wr ∧ Hid (R = nodesI (votF d ((mes zs).drop k))))
  case atStart => exact ⟨0, dt, _, by simp, rfl, rfl, hRd, hb1, by rw [List.drop_zero]; exact HR⟩
  case round =>
    obtain ⟨k, d, st, hkg, rfl, rfl, hRs, hb2, HK⟩ := hrel
    have hb02 := hb0.trans (hb2.mono (Nat.le_succ _))
    obtain ⟨c0, c1, c2, c3, c4⟩ := cl wr hb2
    clear HR hRd hb1
    by_cases hlt : k < zs.length
    · have hlti : (k : Int) < (zs.length : Int) := by omega
      have hz : zs[k]? = some zs[k] := List.getElem?_eq_getElem hlt
      obtain ⟨z, hzz⟩ : ∃ z, z = zs[k] := ⟨_, rfl⟩
      rw [← hzz] at hz
      clear hzz
      obtain ⟨p, off, rfl, c⟩ := rde_at hL.1 hz
      obtain ⟨d0, d1, d2, d3⟩ := c _ hb02
      have hK := HK.out
      rw [votF_at (mes_at hz)] at hK
      have kz1 := kz z (List.mem_of_getElem? hz) wr hb02
      have hzl := (hL.2 z (List.mem_of_getElem? hz)).len
      obtain ⟨⟨ix2, tm2, kd2, dt2⟩, sa2, sn2, sc2⟩ := z
      dsimp only at d0 d1 d2 d3 hK kz1 hzl
      subst hzl
      by_cases hx : kd2 = 2
      · have E : Hid (R = nodesI (votF dt2 ((mes zs).drop (k + 1)))) := by show _ = _; rw [hK, if_pos hx]
        subst hx
        have hws : w.heap.size + 1 ≤ wr.heap.size := by have := hb2.size; omega
        clear hK HK hz c hL kz cl hdz
        go_wp2_with fail
        refine kz1.mono ?_
        rintro e w5 ⟨u5, rfl, hO5, hb5⟩
        have hb25 := hb2.trans (hb5.mono hws)
        have hR5 := hO5.1.rd
        clear kz1 hO5
        go_wp2
        go_roundg (gk - 1)
        case measure => omega
        case rel => exact ⟨k + 1, dt2, u5, by omega, by go_num, rfl, hR5, hb25, E⟩
      · have E : Hid (R = nodesI (votF d ((mes zs).drop (k + 1)))) := by show _ = _; rw [hK, if_neg hx]
        have hxb : (kd2 == 2) = false := by simpa using hx
        clear hK HK hz c hL kz cl hdz kz1
        go_wp2
        go_roundg (gk - 1)
        case measure => omega
        case rel => exact ⟨k + 1, d, _, by omega, by go_num, rfl, hRs, hb2, E⟩
    · have hlti : ¬ (k : Int) < (zs.length : Int) := by omega
      have E : Hid (R = nodesI d) := by show _ = _; rw [HK.out, List.drop_eq_nil_of_le (by simp; omega)]; rfl
      rw [← E.out] at hRs
      clear HK hL cl kz hdz
      go_wp2
      go_ret
      exact ⟨_, rfl, hRs, hb02⟩
end Go.Proofs.YthaokigkagckgaaGreat

/- The contracts of the document's SameEntry, SameEntries, Same, where both are alike. -/
namespace Go.Proofs.YthaokigkagckgaaGreat
open Go.RowKit QuorumMath RlogMath
set_option maxRecDepth 100000
set_option linter.unusedSimpArgs false
set_option linter.unusedVariables false

/-- Bytes as a text. -/
def str (l : List Nat) : ByteArray := ⟨(l.map UInt8.ofNat).toArray⟩
theorem str_nil (w : World) : (convert 23 9 (.slice none 0 0)).run Tryz.prog w = .ok (.string (str [])) w := by kernel_rfl
theorem str_of {w : World} {v : Value} {l : List Nat} (h : Rd byteE w v l) (hl : ∀ c ∈ l, c < 256) : (convert 23 9 v).run Tryz.prog w = .ok (.string (str l)) w := by
  obtain ⟨ao, cap, e, h2, h3, -⟩ := id h
  cases ao with
  | none =>
    have := h3 rfl
    subst this
    obtain rfl : l = [] := List.eq_nil_of_length_eq_zero (by omega)
    rw [e]
    exact str_nil w
  | some ad =>
    subst e
    have e := run_convert_bytes_back (P := Tryz.prog) w 23 9 5 ad cap (l.map UInt8.ofNat) Tryz.underlying23 Tryz.underlying5 Tryz.underlying9 ?_
    · rw [List.length_map] at e
      exact e
    · intro j hj
      rw [List.length_map] at hj
      obtain ⟨b, off, e1, c⟩ := rdb_at h (List.getElem?_eq_getElem hj)
      obtain rfl := Option.some.inj e1
      have hc := hl l[j] (List.getElem_mem hj)
      rw [Addr.add_lit, c w (Below.refl _ _)]
      simp only [List.getElem_map, UInt8.toNat_ofNat']
      rw [Nat.mod_eq_of_lt (by omega)]

set_option maxHeartbeats 2000000 in
theorem sameE_of (m : Me) (s u : Sl) (w : World) (hS : DataV w (m, s)) (hU : DataV w (m, u)) (hc : ∀ c ∈ m.data, c < 256) : Calls Tryz.prog 45 #[ev (m, s), ev (m, u)] w fun e w' => e = .returned (.bool true) ∧ Below w.heap.size w w' := by
  have hl1 := hS.len
  have hl2 := hU.len
  obtain ⟨ix, tm, kd, dt⟩ := m
  obtain ⟨sa, sn, sc⟩ := s
  obtain ⟨ua, un, uc⟩ := u
  dsimp only [ev] at *
  subst hl1
  subst hl2
  have hS' : Rd byteE w (.slice sa dt.length sc) dt := hS
  have hU' : Rd byteE w (.slice ua dt.length uc) dt := hU
  have hb : Below w.heap.size w ((w.alloc (.cells #[.int .u64 (ix : Int), .int .u64 (tm : Int), .int .i64 kd, .slice sa dt.length sc] 25)).alloc (.cells #[.int .u64 (ix : Int), .int .u64 (tm : Int), .int .i64 kd, .slice ua dt.length uc] 25)) := ((Below.refl _ _).alloc (Nat.le_refl _) _).alloc (by simp) _
  have e1 := str_of (hS'.below hb) hc
  have e2 := str_of (hU'.below hb) hc
  generalize str dt = S at *
  clear hS hU hS' hU' hc
  go_enter Tryz.func45, Tryz.ntmps45
  go_wp2
  go_ret
  exact ⟨by simp, hb⟩

theorem keep_on {n : Nat} {w w1 w2 : World} (h : Below n w w1) (h2 : Below w1.heap.size w1 w2) (hn : n ≤ w.heap.size := by exact Nat.le_refl _) : Below n w w2 := h.trans (h2.mono (Nat.le_trans hn h.size))
set_option maxHeartbeats 2000000 in
theorem sameEs_of (zs ys : List Ez) (zv yv : Value) (w : World) (hZ : EntsV w zv zs) (hY : EntsV w yv ys) (he : mes zs = mes ys) (hok : ∀ z ∈ zs, EzOk z) (hlen : zs.length ≤ 1000000000000) : Calls Tryz.prog 88 #[zv, yv] w fun e w' => e = .returned (.bool true) ∧ Below w.heap.size w w' := by
  have hl : ys.length = zs.length := by have := congrArg List.length he; simpa using this.symm
  obtain ⟨za, zc, rfl, -, -⟩ := hZ.1.shape
  obtain ⟨ya, yc, rfl, -, -⟩ := hY.1.shape
  have HE : Hid (mes zs = mes ys) := he
  have HL : Hid (ys.length = zs.length) := hl
  have HZ : Hid (EntsV w (.slice za zs.length zc) zs) := hZ
  have HY : Hid (EntsV w (.slice ya zs.length yc) ys) := by show EntsV _ _ _; rw [← hl]; exact hY
  rw [hl]
  clear he hl hZ hY
  generalize hn : zs.length = n at *
  have HN : Hid (zs.length = n) := hn
  clear hn
  go_enter Tryz.func88, Tryz.ntmps88
  go_wp2
  go_loopg [5] n (fun gh s5 wr => ∃ k : Nat, k + gh = n ∧ s5 = .int .i64 (k : Int) ∧ Below w.heap.size w wr)
  case atStart => exact ⟨0, by simp, rfl, Below.refl _ _⟩
  case round =>
    obtain ⟨k, hkg, rfl, hb⟩ := hrel
    by_cases hlt : k < n
    · have hlti : (k : Int) < (n : Int) := by omega
      have hz : zs[k]? = some (zs[k]'(by have := HN.out; omega)) := List.getElem?_eq_getElem _
      have hy : ys[k]? = some (ys[k]'(by have := HN.out; have := HL.out; omega)) := List.getElem?_eq_getElem _
      obtain ⟨z, hzz⟩ : ∃ z, z = zs[k]'(by have := HN.out; omega) := ⟨_, rfl⟩
      obtain ⟨y, hyy⟩ : ∃ y, y = ys[k]'(by have := HN.out; have := HL.out; omega) := ⟨_, rfl⟩
      rw [← hzz] at hz
      rw [← hyy] at hy
      have hm : y.1 = z.1 := by
        have h1 := mes_at hz
        have h2 := mes_at hy
        rw [HE.out, h2] at h1
        exact Option.some.inj h1
      clear hzz hyy
      obtain ⟨zm, zsl⟩ := z
      obtain ⟨ym, ysl⟩ := y
      dsimp only at hm
      subst hm
      obtain ⟨pb, po, rfl, cz⟩ := rde_at HZ.out.1 hz
      obtain ⟨qb, qo, rfl, cy⟩ := rde_at HY.out.1 hy
      have ks := fun W (hW : Below w.heap.size w W) => sameE_of ym zsl ysl W ((HZ.out.2 _ (List.mem_of_getElem? hz)).below hW) ((HY.out.2 _ (List.mem_of_getElem? hy)).below hW) (hok _ (List.mem_of_getElem? hz)).2.2
      obtain ⟨ix, tm, kd, dt⟩ := ym
      obtain ⟨sa, sn, sc⟩ := zsl
      obtain ⟨ua, un, uc⟩ := ysl
      dsimp only [ev] at cz cy ks
      have czw := fun W (hW : Below wr.heap.size wr W) => cz W (hb.trans (hW.mono hb.size))
      have cyw := fun W (hW : Below wr.heap.size wr W) => cy W (hb.trans (hW.mono hb.size))
      have ksw := fun W (hW : Below wr.heap.size wr W) => ks W (hb.trans (hW.mono hb.size))
      clear cz cy ks hz hy HZ HY HE HL HN hok
      go_wp2
      refine wp_region_L (fun W => Below wr.heap.size wr W) [] (by kernel_rfl) ?_
      have yS : (fun W => Below wr.heap.size wr W) wr.drew := (Below.refl _ wr).drew
      refine wpAnyL_take 0 rfl (by kernel_rfl) (by kernel_rfl) (by kernel_rfl) (by kernel_rfl) (fun _ _ _ h => h) (by kernel_rfl) (by intro w' hS'; have hz := hS'; obtain ⟨x0, x1, x2, x3⟩ := czw _ hz; obtain ⟨y0, y1, y2, y3⟩ := cyw _ hz; go_simp <;> rfl) yS ?_
      try simp only [List.getElem_toArray, List.getElem_cons_succ, List.getElem_cons_zero, Act.put, List.setIfInBounds_toArray, List.set_cons_zero, List.set_cons_succ]
      refine wpAnyL_take 1 rfl (by kernel_rfl) (by kernel_rfl) (by kernel_rfl) (by kernel_rfl) (fun _ _ _ h => h) (by kernel_rfl) (by intro w' hS'; have hz := hS'; obtain ⟨x0, x1, x2, x3⟩ := czw _ hz; obtain ⟨y0, y1, y2, y3⟩ := cyw _ hz; go_simp <;> rfl) yS ?_
      try simp only [List.getElem_toArray, List.getElem_cons_succ, List.getElem_cons_zero, Act.put, List.setIfInBounds_toArray, List.set_cons_zero, List.set_cons_succ]
      refine wpAnyL_take 2 rfl (by kernel_rfl) (by kernel_rfl) (by kernel_rfl) (by kernel_rfl) (fun _ _ _ h => h) (by kernel_rfl) (by intro w' hS'; have hz := hS'; obtain ⟨x0, x1, x2, x3⟩ := czw _ hz; obtain ⟨y0, y1, y2, y3⟩ := cyw _ hz; go_simp <;> rfl) yS ?_
      try simp only [List.getElem_toArray, List.getElem_cons_succ, List.getElem_cons_zero, Act.put, List.setIfInBounds_toArray, List.set_cons_zero, List.set_cons_succ]
      refine wpAnyL_take 3 rfl (by kernel_rfl) (by kernel_rfl) (by kernel_rfl) (by kernel_rfl) (fun _ _ _ h => h) (by kernel_rfl) (by intro w' hS'; have hz := hS'; obtain ⟨x0, x1, x2, x3⟩ := czw _ hz; obtain ⟨y0, y1, y2, y3⟩ := cyw _ hz; go_simp <;> rfl) yS ?_
      try simp only [List.getElem_toArray, List.getElem_cons_succ, List.getElem_cons_zero, Act.put, List.setIfInBounds_toArray, List.set_cons_zero, List.set_cons_succ]
      refine wpAnyL_take 4 rfl (by kernel_rfl) (by kernel_rfl) (by kernel_rfl) (by kernel_rfl) (fun _ _ _ h => h) (by kernel_rfl) (by intro w' hS'; have hz := hS'; obtain ⟨x0, x1, x2, x3⟩ := czw _ hz; obtain ⟨y0, y1, y2, y3⟩ := cyw _ hz; go_simp <;> rfl) yS ?_
      try simp only [List.getElem_toArray, List.getElem_cons_succ, List.getElem_cons_zero, Act.put, List.setIfInBounds_toArray, List.set_cons_zero, List.set_cons_succ]
      refine wpAnyL_take 5 rfl (by kernel_rfl) (by kernel_rfl) (by kernel_rfl) (by kernel_rfl) (fun _ _ _ h => h) (by kernel_rfl) (by intro w' hS'; have hz := hS'; obtain ⟨x0, x1, x2, x3⟩ := czw _ hz; obtain ⟨y0, y1, y2, y3⟩ := cyw _ hz; go_simp <;> rfl) yS ?_
      try simp only [List.getElem_toArray, List.getElem_cons_succ, List.getElem_cons_zero, Act.put, List.setIfInBounds_toArray, List.set_cons_zero, List.set_cons_succ]
      refine wpAnyL_take 6 rfl (by kernel_rfl) (by kernel_rfl) (by kernel_rfl) (by kernel_rfl) (fun _ _ _ h => h) (by kernel_rfl) (by intro w' hS'; have hz := hS'; obtain ⟨x0, x1, x2, x3⟩ := czw _ hz; obtain ⟨y0, y1, y2, y3⟩ := cyw _ hz; go_simp <;> rfl) yS ?_
      try simp only [List.getElem_toArray, List.getElem_cons_succ, List.getElem_cons_zero, Act.put, List.setIfInBounds_toArray, List.set_cons_zero, List.set_cons_succ]
      refine wpAnyL_take 7 rfl (by kernel_rfl) (by kernel_rfl) (by kernel_rfl) (by kernel_rfl) (fun _ _ _ h => h) (by kernel_rfl) (by intro w' hS'; have hz := hS'; obtain ⟨x0, x1, x2, x3⟩ := czw _ hz; obtain ⟨y0, y1, y2, y3⟩ := cyw _ hz; go_simp <;> rfl) yS ?_
      try simp only [List.getElem_toArray, List.getElem_cons_succ, List.getElem_cons_zero, Act.put, List.setIfInBounds_toArray, List.set_cons_zero, List.set_cons_succ]
      refine wpAnyL_one 8 (by kernel_rfl) rfl (by kernel_rfl) ?_
      intro K' hK'
      go_simp
      go_at_call 45
      refine (ksw _ yS).mono ?_
      rintro e W1 ⟨rfl, hS0⟩
      have hS1 : Below wr.heap.size wr W1 := keep_on yS hS0
      refine hK'.out _ _ (.inr hS1) ?_
      clear hK' K'
      try simp only [List.getElem_toArray, List.getElem_cons_succ, List.getElem_cons_zero, Act.put, List.setIfInBounds_toArray, List.set_cons_zero, List.set_cons_succ]
      refine wpAnyL_take 9 rfl (by kernel_rfl) (by kernel_rfl) (by kernel_rfl) (by kernel_rfl) (fun _ _ _ h => h) (by kernel_rfl) (by intro w' hS'; have hz := hS'; obtain ⟨x0, x1, x2, x3⟩ := czw _ hz; obtain ⟨y0, y1, y2, y3⟩ := cyw _ hz; go_simp <;> rfl) hS1 ?_
      try simp only [List.getElem_toArray, List.getElem_cons_succ, List.getElem_cons_zero, Act.put, List.setIfInBounds_toArray, List.set_cons_zero, List.set_cons_succ]
      refine wpAnyL_done (by kernel_rfl) (NoPanic.normal ?_) _
      go_wp2
      go_roundg (gk - 1)
      case measure => omega
      case rel => exact ⟨k + 1, by omega, by go_num, hb.trans (hS1.mono hb.size)⟩
    · have hlti : ¬ (k : Int) < (n : Int) := by omega
      clear HZ HY HE HL HN hok
      go_wp2
      go_ret
      exact ⟨rfl, hb⟩

set_option maxHeartbeats 2000000 in
theorem same_of (m : Me) (s u : Sl) (zs ys : List Ez) (zv yv : Value) (w : World) (hS : DataV w (m, s)) (hU : DataV w (m, u)) (hc : ∀ c ∈ m.data, c < 256) (hZ : EntsV w zv zs) (hY : EntsV w yv ys) (he : mes zs = mes ys) (hok : ∀ z ∈ zs, EzOk z) (hlen : zs.length ≤ 1000000000000) : Calls Tryz.prog 50 #[lgv (m, s) zv, lgv (m, u) yv] w fun e w' => e = .returned (.bool true) ∧ Below w.heap.size w w' := by
  obtain ⟨hs0, hb0, cl⟩ := lg_box w (m, s) zv
  obtain ⟨hs1, hb1, cl1⟩ := lg_box (w.alloc (lgc (m, s) zv)) (m, u) yv
  have hb01 := hb0.trans (hb1.mono hb0.size)
  rw [hs0] at hs1 hb1 cl1
  have hb1' : Below (w.heap.size + 1) (w.alloc (lgc (m, s) zv)) ((w.alloc (lgc (m, s) zv)).alloc (lgc (m, u) yv)) := hb1
  obtain ⟨c0, c1, c2, c3, c4⟩ := cl _ hb1'
  obtain ⟨d0, d1, d2, d3, d4⟩ := cl1 _ (Below.refl _ _)
  have k1 := sameE_of m s u ((w.alloc (lgc (m, s) zv)).alloc (lgc (m, u) yv)) (hS.below hb01) (hU.below hb01) hc
  have k2 := fun W (hW : Below w.heap.size w W) => sameEs_of zs ys zv yv W (hZ.below hW) (hY.below hW) he hok hlen
  rw [hs1] at k1
  obtain ⟨za, zc, rfl, -, -⟩ := hZ.1.shape
  obtain ⟨ya, yc, rfl, -, -⟩ := hY.1.shape
  obtain ⟨ix, tm, kd, dt⟩ := m
  obtain ⟨sa, sn, sc⟩ := s
  obtain ⟨ua, un, uc⟩ := u
  dsimp only [lgc, ev] at *
  have clW := fun W hW => (cl W (hb1'.trans hW)).2.2.2.2
  have clW1 := fun W hW => (cl1 W hW).2.2.2.2
  have hws : ∀ W, Below (w.heap.size + 1 + 1) ((w.alloc (.cells #[.int .u64 (ix : Int), .int .u64 (tm : Int), .int .i64 kd, .slice sa sn sc, .slice za zs.length zc] 28)).alloc (.cells #[.int .u64 (ix : Int), .int .u64 (tm : Int), .int .i64 kd, .slice ua un uc, .slice ya ys.length yc] 28)) W → W.cell? ⟨w.heap.size, 4, none⟩ = some (.slice za zs.length zc) ∧ W.cell? ⟨w.heap.size + 1, 4, none⟩ = some (.slice ya ys.length yc) := fun W hW => ⟨clW W (hW.mono (Nat.le_succ _)), clW1 W hW⟩
  clear cl cl1 hS hU hZ hY hc he hok clW clW1
  go_enter Tryz.func50, Tryz.ntmps50
  go_wp2_with fail
  refine k1.mono ?_
  rintro e w1 ⟨rfl, hb2⟩
  obtain ⟨e4, f4⟩ := hws w1 hb2
  have hb02 := hb01.trans (hb2.mono (by omega))
  have k21 := k2 w1 hb02
  clear k1 k2 hws c0 c1 c2 c3 c4 d0 d1 d2 d3 d4
  go_wp2_with fail
  refine k21.mono ?_
  rintro e w2 ⟨rfl, hb3⟩
  go_wp2
  go_ret
  exact ⟨rfl, hb02.trans (hb3.mono hb02.size)⟩
end Go.Proofs.YthaokigkagckgaaGreat

/- The contracts of the document's Slice and of the law's light. -/
namespace Go.Proofs.YthaokigkagckgaaGreat
open Go.RowKit QuorumMath RlogMath
set_option maxRecDepth 100000
set_option linter.unusedSimpArgs false
set_option linter.unusedVariables false

theorem infoEnt : (Tryz.prog.info? 25).map (fun i => (i.zero, i.size, i.bytes)) = some (some (.agg #[.int .u64 0, .int .u64 0, .int .i64 0, .slice none 0 0]), 4, 48) := by kernel_rfl
theorem push_ent {w : World} {v : Value} {xs : List Ez} (z : Ez) (h : Rk entE w 25 v xs) (hlen : xs.length ≤ 10000000000) :
    ∀ ty, ∃ v' w', (Builtin.append_ #[26, 26] ty #[v, .slice (some ⟨w.heap.size, 0, none⟩) 1 1]).run Tryz.prog (w.alloc (.cells #[.int .u64 (z.1.idx : Int), .int .u64 (z.1.term : Int), .int .i64 z.1.kind, .slice z.2.1 z.2.2.1 z.2.2.2] 25)) = .ok v' w' ∧ PushT entE 25 w v (xs ++ [z]) v' w' :=
  push_el entE Tryz.underlying26 infoEnt rfl (by decide) z h hlen

/-- What Slice picks. -/
def pickZ (x : Nat) (most : Int) (zs : List Ez) : List Ez := (zs.filter fun z => decide (x ≤ z.1.idx)).take most.toNat
def sliceZ (b : Ez) (zs : List Ez) (x : Nat) (most : Int) : List Ez := if b.1.idx < x then pickZ x most zs else []
theorem pick_nil (x : Nat) (most : Int) : pickZ x most [] = [] := by simp [pickZ]
theorem pick_no {x : Nat} {most : Int} {zs : List Ez} {k : Nat} {z : Ez} (hz : zs[k]? = some z) (h : ¬ (x ≤ z.1.idx ∧ ((pickZ x most (zs.take k)).length : Int) < most)) : pickZ x most (zs.take (k + 1)) = pickZ x most (zs.take k) := by
  unfold pickZ at *
  rw [take_succ_get hz, List.filter_append]
  by_cases hx : x ≤ z.1.idx
  · have h1 : ¬ (((List.filter (fun z => decide (x ≤ z.1.idx)) (zs.take k)).take most.toNat).length : Int) < most := fun hh => h ⟨hx, hh⟩
    rw [List.length_take] at h1
    rw [List.take_append_of_le_length (by omega)]
  · simp [hx]
theorem pick_yes {x : Nat} {most : Int} {zs : List Ez} {k : Nat} {z : Ez} (hz : zs[k]? = some z) (hx : x ≤ z.1.idx) (h : ((pickZ x most (zs.take k)).length : Int) < most) : pickZ x most (zs.take (k + 1)) = pickZ x most (zs.take k) ++ [z] := by
  unfold pickZ at *
  rw [take_succ_get hz, List.filter_append]
  rw [List.length_take] at h
  have e : List.filter (fun z => decide (x ≤ z.1.idx)) [z] = [z] := by simp [hx]
  rw [e, List.take_append, List.take_of_length_le (by omega)]
  congr 1
  rw [List.take_of_length_le (by simp; omega)]
theorem pick_sub (x : Nat) (most : Int) (zs : List Ez) : ∀ z ∈ pickZ x most zs, z ∈ zs := fun z hz => (List.mem_filter.1 (List.mem_of_mem_take hz)).1
theorem pick_len (x : Nat) (most : Int) (zs : List Ez) : (pickZ x most zs).length ≤ zs.length := by
  unfold pickZ
  rw [List.length_take]
  exact Nat.le_trans (Nat.min_le_right _ _) (List.length_filter_le _ _)

set_option maxHeartbeats 4000000 in
theorem rslice_of (b : Ez) (zs : List Ez) (lv : Value) (x : Nat) (most : Int) (w : World) (hL : EntsV w lv zs) (hlen : zs.length ≤ 1000000000) : Calls Tryz.prog 125 #[lgv b lv, .int .u64 (x : Int), .int .i64 most] w fun e w' => ∃ v, e = .returned v ∧ EntsV w' v (sliceZ b zs x most) ∧ Below w.heap.size w w' := by
  obtain ⟨R, HR⟩ : ∃ R, Hid (R = sliceZ b zs x most) := ⟨_, rfl⟩
  rw [← HR.out]
  obtain ⟨hs, hb0, cl⟩ := lg_box w b lv
  have HD : Hid (∀ z ∈ zs, ∀ W, Below w.heap.size w W → DataV W z) := fun z hz W hW => (hL.2 z hz).below hW
  have HL : Hid (Rd entE w lv zs) := hL.1
  obtain ⟨la, lc, rfl, -, -⟩ := hL.1.shape
  obtain ⟨q1, q2, q3⟩ := one_box (w.alloc (lgc b (.slice la zs.length lc))) (.cells #[] 25)
  rw [hs] at q1 q2 q3
  have hb2 := hb0.trans (q3.mono (Nat.le_succ _))
  have hO0 : Ow entE 25 (w.heap.size + 1) ((w.alloc (lgc b (.slice la zs.length lc))).alloc (.cells #[] 25)) (.slice (some ⟨w.heap.size + 1, 0, none⟩) 0 0) (pickZ x most (zs.take 0)) := ⟨by rw [List.take_zero, pick_nil]; exact Rk.made (xs := []) q2 rfl (by unfold maxLen; simp), fun k hk => by cases hk; exact Nat.le_refl _⟩
  have HB : Hid (b.1.idx < x → R = pickZ x most zs) := fun h => by rw [HR.out]; unfold sliceZ; rw [if_pos h]
  have HB2 : Hid (¬ b.1.idx < x → R = []) := fun h => by rw [HR.out]; unfold sliceZ; rw [if_neg h]
  obtain ⟨⟨ix, tm, kd, dt⟩, sa, sn, sc⟩ := b
  dsimp only [lgc] at *
  clear hL HR
  go_enter Tryz.func125, Tryz.ntmps125
  go_wp2
  go_loopg [7, 8] zs.length (fun gh s7 s8 wr => ∃ (k : Nat) (st : Value), k + gh = zs.length ∧ s8 = .int .i64 (k : Int) ∧ st = s7 ∧ Ow entE 25 (w.heap.size + 1) wr st (pickZ x most (zs.take k)) ∧ Below (w.heap.size + 1) (w.alloc (.cells #[.int .u64 (ix : Int), .int .u64 (tm : Int), .int .i64 kd, .slice sa sn sc, .slice la zs.length lc] 28)) wr ∧ Hid (¬ ix < x → k = 0))
  case atStart => exact ⟨0, _, by simp, rfl, rfl, hO0, q3, fun _ => rfl⟩
  case round =>
    obtain ⟨k, st, hkg, rfl, rfl, hO, hb3, HK0⟩ := hrel
    have hb03 := hb0.trans (hb3.mono (Nat.le_succ _))
    obtain ⟨c0, c1, c2, c3, c4⟩ := cl wr hb3
    obtain ⟨ta, tc, hst, -⟩ := hO.1.shape
    have hpl := pick_len x most (zs.take k)
    have hpl2 : (zs.take k).length ≤ zs.length := by rw [List.length_take]; omega
    clear hO0 q1 q2 q3 hb2
    by_cases hlt : k < zs.length
    · have hlti : (k : Int) < (zs.length : Int) := by omega
      by_cases hx : ix < x
      · have hxi : (ix : Int) < (x : Int) := by omega
        have hz : zs[k]? = some zs[k] := List.getElem?_eq_getElem hlt
        obtain ⟨z, hzz⟩ : ∃ z, z = zs[k] := ⟨_, rfl⟩
        rw [← hzz] at hz
        clear hzz
        obtain ⟨p, off, rfl, c⟩ := rde_at HL.out hz
        obtain ⟨d0, d1, d2, d3⟩ := c _ hb03
        have HNO : Hid (¬ (x ≤ z.1.idx ∧ ((pickZ x most (zs.take k)).length : Int) < most) → pickZ x most (zs.take (k + 1)) = pickZ x most (zs.take k)) := pick_no hz
        have HYES : Hid (x ≤ z.1.idx → ((pickZ x most (zs.take k)).length : Int) < most → pickZ x most (zs.take (k + 1)) = pickZ x most (zs.take k) ++ [z]) := pick_yes hz
        have hrunH : Hid _ := push_ent z hO.1 (by omega)
        obtain ⟨⟨ix2, tm2, kd2, dt2⟩, sa2, sn2, sc2⟩ := z
        dsimp only at d0 d1 d2 d3 HNO HYES hrunH
        generalize pickZ x most (zs.take k) = L at *
        subst hst
        clear hz c HB HB2 HD HL cl
        by_cases h1 : x ≤ ix2
        · have h1i : (x : Int) ≤ (ix2 : Int) := by omega
          by_cases h2 : (L.length : Int) < most
          · have E : Hid (_ = _) := HYES.out h1 h2
            clear HNO HYES
            go_wp2_with (at_builtin; refine wp_by rfl _ _ _ rfl _ _ rfl rfl hrunH.out ?_)
            intro v6 w6 hp6
            obtain ⟨hO2, hb6⟩ := hO.push (by have := hb3.size; simp at this; omega) hp6
            rw [← E.out] at hO2
            clear hO hrunH hp6 E
            go_wp2
            go_roundg (gk - 1)
            case measure => omega
            case rel => exact ⟨k + 1, v6, by omega, by go_num, rfl, hO2, hb3.trans hb6, fun h => absurd hx h⟩
          · have E : Hid (_ = _) := HNO.out (fun h => h2 h.2)
            have h2i : decide ((L.length : Int) < most) = false := by simpa using h2
            clear HNO HYES hrunH
            go_wp2
            go_roundg (gk - 1)
            case measure => omega
            case rel => exact ⟨k + 1, _, by omega, by go_num, rfl, by rw [E.out]; exact hO, hb3, fun h => absurd hx h⟩
        · have h1i : ¬ (x : Int) ≤ (ix2 : Int) := by omega
          have E : Hid (_ = _) := HNO.out (fun h => h1 h.1)
          clear HNO HYES hrunH
          go_wp2
          go_roundg (gk - 1)
          case measure => omega
          case rel => exact ⟨k + 1, _, by omega, by go_num, rfl, by rw [E.out]; exact hO, hb3, fun h => absurd hx h⟩
      · have hxi : ¬ (ix : Int) < (x : Int) := by omega
        have HE : Hid (R = pickZ x most (zs.take k)) := by show _ = _; rw [HB2.out hx, HK0.out hx, List.take_zero, pick_nil]
        have hfin : Hid (EntsV wr st R) := by
          show EntsV _ _ _
          refine ⟨by rw [HE.out]; exact hO.1.rd, fun z hz => ?_⟩
          rw [HE.out] at hz
          exact HD.out z (List.mem_of_mem_take (pick_sub _ _ _ z hz)) wr hb03
        subst hst
        clear HE HB HB2 HD HL cl hO HK0
        go_wp2
        go_ret
        exact ⟨_, rfl, hfin.out, hb03⟩
    · have hlti : ¬ (k : Int) < (zs.length : Int) := by omega
      have HE : Hid (R = pickZ x most (zs.take k)) := by
        show _ = _
        by_cases hx : ix < x
        · rw [HB.out hx, List.take_of_length_le (by omega)]
        · rw [HB2.out hx, HK0.out hx, List.take_zero, pick_nil]
      have hfin : Hid (EntsV wr st R) := by
        show EntsV _ _ _
        refine ⟨by rw [HE.out]; exact hO.1.rd, fun z hz => ?_⟩
        rw [HE.out] at hz
        exact HD.out z (List.mem_of_mem_take (pick_sub _ _ _ z hz)) wr hb03
      subst hst
      clear HE HB HB2 HD HL cl hO HK0
      go_wp2
      go_ret
      exact ⟨_, rfl, hfin.out, hb03⟩

/-- What light tells: of a log that is light, how long it is. -/
def LightT (zs : List Ez) (w : World) (e : Ending) (w' : World) : Prop := ∃ B, e = .returned (.bool B) ∧ (B = true → zs.length ≤ 300 ∧ ∀ z ∈ zs, z.1.data.length ≤ 20000) ∧ Below w.heap.size w w'
end Go.Proofs.YthaokigkagckgaaGreat

/- Logs as results. -/
namespace Go.Proofs.YthaokigkagckgaaGreat
open Go.RowKit QuorumMath RlogMath
set_option maxRecDepth 100000
set_option linter.unusedSimpArgs false
set_option linter.unusedVariables false

theorem results_lg {fn : Func} {p u : Tmp} (h : fn.results = #[.cell p 28, .tmp u]) (tmps : Array Value) (w : World) (g : Nat) (a b c d e : Value)
    (hp : tmps.getD p undef = .pointer (some ⟨g, 0, none⟩)) (hg : w.heap[g]? = some (.cells #[a, b, c, d, e] 28 (0, 0))) :
    (results fn tmps).run Tryz.prog w = .ok (.tuple #[.agg #[a, b, c, d, e], tmps.getD u undef]) w := by
  have hp' : tmps[p]?.getD undef = .pointer (some ⟨g, 0, none⟩) := by simpa using hp
  simp [results, h, hp', asAddr, run_loadVar_row w g 28 28 #[a, b, c, d, e] (0, 0) _ hg Tryz.underlying28 rfl (by kernel_rfl)]
theorem results_lg3 {fn : Func} {p u x : Tmp} (h : fn.results = #[.cell p 28, .tmp u, .tmp x]) (tmps : Array Value) (w : World) (g : Nat) (a b c d e : Value)
    (hp : tmps.getD p undef = .pointer (some ⟨g, 0, none⟩)) (hg : w.heap[g]? = some (.cells #[a, b, c, d, e] 28 (0, 0))) :
    (results fn tmps).run Tryz.prog w = .ok (.tuple #[.agg #[a, b, c, d, e], tmps.getD u undef, tmps.getD x undef]) w := by
  have hp' : tmps[p]?.getD undef = .pointer (some ⟨g, 0, none⟩) := by simpa using hp
  simp [results, h, hp', asAddr, run_loadVar_row w g 28 28 #[a, b, c, d, e] (0, 0) _ hg Tryz.underlying28 rfl (by kernel_rfl)]
theorem lg_set {w : World} {g : Nat} {a b c d e : Value} {t : TypeId} (h : w.heap[g]? = some (.cells #[a, b, c, d, e] t (0, 0))) (x0 x1 x2 x3 x4 : Value) : (((((w.setCell ⟨g, 0, none⟩ x0).setCell ⟨g, 1, none⟩ x1).setCell ⟨g, 2, none⟩ x2).setCell ⟨g, 3, none⟩ x3).setCell ⟨g, 4, none⟩ x4).heap[g]? = some (.cells #[x0, x1, x2, x3, x4] t (0, 0)) := by
  simp [World.setCell, Array.getElem?_modify, h]
theorem lg_set_below {n : Nat} {w w' : World} (h : Below n w w') {g : Nat} (hg : n ≤ g) (x0 x1 x2 x3 x4 : Value) : Below n w (((((w'.setCell ⟨g, 0, none⟩ x0).setCell ⟨g, 1, none⟩ x1).setCell ⟨g, 2, none⟩ x2).setCell ⟨g, 3, none⟩ x3).setCell ⟨g, 4, none⟩ x4) :=
  ((((h.setCell (p := ⟨g, 0, none⟩) hg _).setCell (p := ⟨g, 1, none⟩) hg _).setCell (p := ⟨g, 2, none⟩) hg _).setCell (p := ⟨g, 3, none⟩) hg _).setCell (p := ⟨g, 4, none⟩) hg _
/-- A log's value, by what it says. -/
def LogM (w : World) (v : Value) (b : Me) (l : List Me) : Prop := ∃ (s : Sl) (zs : List Ez) (lv : Value), v = lgv (b, s) lv ∧ DataV w (b, s) ∧ EntsV w lv zs ∧ mes zs = l
theorem LogM.below {w w' : World} {v : Value} {b : Me} {l : List Me} (h : LogM w v b l) (hb : Below w.heap.size w w') : LogM w' v b l := by
  obtain ⟨s, zs, lv, h1, h2, h3, h4⟩ := h
  exact ⟨s, zs, lv, h1, h2.below hb, h3.below hb, h4⟩
theorem rdb_nil (w : World) : Rd byteE w (.slice none 0 0) [] := ⟨none, 0, rfl, by simp, fun _ => rfl, fun i x j u hx => by simp at hx⟩
theorem ents_nil (w : World) : EntsV w (.slice none 0 0) [] := ⟨⟨none, 0, rfl, by simp, fun _ => rfl, fun i x j u hx => by simp at hx⟩, fun z hz => by simp at hz⟩
theorem log_zero (w : World) : LogM w (.agg #[.int .u64 0, .int .u64 0, .int .i64 0, .slice none 0 0, .slice none 0 0]) zeroMe [] := ⟨(none, 0, 0), [], .slice none 0 0, rfl, rdb_nil w, ents_nil w, rfl⟩
/-- What Append tells. -/
def LgT (r : Int × Me × List Me) (e : Ending) (w' : World) : Prop := ∃ v, e = .returned (.tuple #[v, .int .i64 r.1]) ∧ LogM w' v r.2.1 r.2.2
end Go.Proofs.YthaokigkagckgaaGreat

