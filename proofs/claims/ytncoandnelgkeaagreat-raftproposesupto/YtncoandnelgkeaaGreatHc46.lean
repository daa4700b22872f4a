import Derived.Test.YtncoandnelgkeaaGreatHc44
import Derived.Test.YtncoandnelgkeaaGreatHc45
/- The program's mustWait. -/
namespace Go.Proofs.YtncoandnelgkeaaGreat
open Go.RowKit QuorumMath RlogMath RaftMath
set_option maxRecDepth 100000
set_option linter.unusedSimpArgs false
set_option linter.unusedVariables false

theorem wait1_of {w : World} {q c : Nat} (hq : w.cell? ⟨q, 8, none⟩ = some (.int .u64 (c : Int))) (z : Ez) : Calls Tryz.prog 135 #[ev z, .pointer (some ⟨q, 0, none⟩)] w fun e w' => e = .returned (.bool (decide (z.1.kind = 2) && decide (c < z.1.idx))) ∧ Below w.heap.size w w' := by
  obtain ⟨⟨ix, tm, kd, dt⟩, sa, sn, sc⟩ := z
  have hql := World.block_lt_of_cell? w _ hq
  dsimp only at hql
  have hne : q ≠ w.heap.size := Nat.ne_of_lt hql
  obtain ⟨z1, B1, hb1⟩ := one_box w (.cells #[.int .u64 (ix : Int), .int .u64 (tm : Int), .int .i64 kd, .slice sa sn sc] 25)
  dsimp only [ev]
  obtain ⟨B, HB⟩ : ∃ B, Hid (B = (decide (kd = 2) && decide (c < ix))) := ⟨_, rfl⟩
  rw [← HB.out]
  by_cases hk : kd = 2
  · by_cases h : c < ix
    · have h1 : decide ((c : Int) < (ix : Int)) = true := by simp; omega
      have h2 : decide (c < ix) = true := decide_eq_true h
      have hkb : (kd == 2) = true := by simpa using hk
      have E0 : Hid (B = true) := by show _ = _; rw [HB.out]; simp [hk, h]
      clear HB hk h B1 z1
      go_enter Tryz.func135, Tryz.ntmps135
      go_wp2
      go_ret
      exact ⟨by rw [E0.out]; rfl, hb1⟩
    · have h1 : decide ((c : Int) < (ix : Int)) = false := by simp; omega
      have h2 : decide (c < ix) = false := decide_eq_false h
      have hkb : (kd == 2) = true := by simpa using hk
      have E0 : Hid (B = false) := by show _ = _; rw [HB.out]; simp [h]
      clear HB hk h B1 z1
      go_enter Tryz.func135, Tryz.ntmps135
      go_wp2
      go_ret
      exact ⟨by rw [E0.out]; rfl, hb1⟩
  · have hkb : (kd == 2) = false := by simpa using hk
    have E0 : Hid (B = false) := by show _ = _; rw [HB.out]; simp [hk]
    clear HB hk B1 z1
    go_enter Tryz.func135, Tryz.ntmps135
    go_wp2
    go_ret
    exact ⟨by rw [E0.out]; rfl, hb1⟩
set_option maxHeartbeats 2000000 in
theorem wait_idx (zs : List Ez) (lv : Value) (q : Value) (p : Ez → Bool) (w : World) (hL : Rd entE w lv zs) (hlen : zs.length ≤ 1000000000) (hK : ∀ z ∈ zs, ∀ W, Below w.heap.size w W → Calls Tryz.prog 135 #[ev z, q] W fun e w' => e = .returned (.bool (p z)) ∧ Below W.heap.size W w') : Calls Tryz.prog 117 #[lv, .func (.func 135) #[] #[q]] w fun e w' => AnyT zs p e ∧ Below w.heap.size w w' := by
  have HL : Hid (Rd entE w lv zs) := hL
  have HK : Hid _ := hK
  obtain ⟨T, HT⟩ : ∃ T, Hid (T = AnyT zs p) := ⟨_, rfl⟩
  rw [← HT.out]
  obtain ⟨ao, cap, rfl, -, -⟩ := hL.shape
  clear hL hK
  go_enter Tryz.func117, Tryz.ntmps117
  go_wp2
  go_loopg [8] zs.length (fun g s8 wr => ∃ i : Nat, i + g = zs.length ∧ s8 = .int .i64 (i : Int) ∧ Below w.heap.size w wr ∧ Hid (∀ z ∈ zs.take i, p z = false))
  case atStart => exact ⟨0, by simp, rfl, Below.refl _ _, fun z hz => by simp at hz⟩
  case round =>
    obtain ⟨i, hig, rfl, hb, HN⟩ := hrel
    by_cases hlt : i < zs.length
    · have hlti : (i : Int) < (zs.length : Int) := by omega
      have hz : zs[i]? = some zs[i] := List.getElem?_eq_getElem hlt
      obtain ⟨z, hzz⟩ : ∃ z, z = zs[i] := ⟨_, rfl⟩
      rw [← hzz] at hz
      clear hzz
      obtain ⟨b, off, rfl, c⟩ := rde_at HL.out hz
      obtain ⟨c0, c1, c2, c3⟩ := c wr hb
      have kc := HK.out z (List.mem_of_getElem? hz) wr hb
      have HY : Hid (p z = true → T (.returned (.int .i64 (i : Int)))) := fun h => by
        rw [HT.out]
        exact ⟨_, rfl, ⟨fun _ => List.any_eq_true.2 ⟨z, List.mem_of_getElem? hz, h⟩, fun _ => by omega⟩⟩
      have HN2 : Hid (p z = false → ∀ y ∈ zs.take (i + 1), p y = false) := fun h y hy => by
        rw [take_succ_get hz, List.mem_append, List.mem_singleton] at hy
        rcases hy with hy | rfl
        · exact HN.out y hy
        · exact h
      generalize p z = P at *
      obtain ⟨⟨ix, tm, kd, dt⟩, sa, sn, sc⟩ := z
      dsimp only [ev] at *
      clear hz c HN
      cases P with
      | true =>
        have E0 : Hid _ := HY.out rfl
        clear HY HN2
        go_wp2_with fail
        refine kc.mono ?_
        rintro e w2 ⟨rfl, hb2⟩
        have hb02 := hb.trans (hb2.mono hb.size)
        clear kc
        go_wp2
        go_ret
        exact ⟨E0.out, hb02⟩
      | false =>
        have HN3 : Hid _ := HN2.out rfl
        clear HY HN2
        go_wp2_with fail
        refine kc.mono ?_
        rintro e w2 ⟨rfl, hb2⟩
        have hb02 := hb.trans (hb2.mono hb.size)
        clear kc
        go_wp2
        go_roundg (gk - 1)
        case measure => omega
        case rel => exact ⟨i + 1, by omega, by go_num, hb02, HN3⟩
    · have hlti : ¬ (i : Int) < (zs.length : Int) := by omega
      have E0 : Hid (T (.returned (.int .i64 (-1)))) := by
        show T _
        rw [HT.out]
        refine ⟨_, rfl, ⟨fun h => by omega, fun h => ?_⟩⟩
        obtain ⟨z, hz, h1⟩ := List.any_eq_true.1 h
        have := HN.out z (by rw [List.take_of_length_le (by omega)]; exact hz)
        rw [this] at h1
        cases h1
      clear HN HL HK
      go_wp2
      go_ret
      exact ⟨E0.out, hb⟩
theorem wait_any (zs : List Ez) (lv : Value) (q : Value) (p : Ez → Bool) (w : World) (hL : Rd entE w lv zs) (hlen : zs.length ≤ 1000000000) (hK : ∀ z ∈ zs, ∀ W, Below w.heap.size w W → Calls Tryz.prog 135 #[ev z, q] W fun e w' => e = .returned (.bool (p z)) ∧ Below W.heap.size W w') : Calls Tryz.prog 83 #[lv, .func (.func 135) #[] #[q]] w fun e w' => e = .returned (.bool (zs.any p)) ∧ Below w.heap.size w w' := by
  have k1 := wait_idx zs lv q p w hL hlen hK
  obtain ⟨ao, cap, rfl, -, -⟩ := hL.shape
  obtain ⟨B, HB⟩ : ∃ B, Hid (B = zs.any p) := ⟨_, rfl⟩
  rw [← HB.out]
  clear hL hK
  go_enter Tryz.func83, Tryz.ntmps83
  go_wp2_with fail
  refine k1.mono ?_
  rintro e w1 ⟨⟨x, rfl, hx⟩, hb1⟩
  have E : Hid (B = decide (0 ≤ x)) := by
    show _ = _
    rw [HB.out]
    cases h : zs.any p with
    | true => rw [decide_eq_true (hx.2 h)]
    | false => rw [decide_eq_false (fun h0 => by rw [hx.1 h0] at h; cases h)]
  clear HB hx k1
  go_wp2
  go_ret
  exact ⟨by rw [E.out]; rfl, hb1⟩
/-- Must a change of voters wait? -/
def mustB (r : Mr) : Bool := !decide ((termM r.base r.log r.commit).getD 0 = r.term) || r.log.any fun e => decide (e.kind = 2) && decide (r.commit < e.idx)
theorem any_mesB {es : List Ez} {ents : List Me} (h : mes es = ents) (f : Me → Bool) : (es.any fun z => f z.1) = ents.any f := by
  rw [← h]
  unfold mes
  rw [List.any_map]
  rfl
set_option maxHeartbeats 8000000 in
theorem mustWait_of (n : Nat) (r : Mr) (v : Value) (w : World) (hS : RsV n w v r) (hm : mayB r.base r.log = true) (hlg : r.log.length ≤ 1000000) : Calls Tryz.prog 101 #[v] w fun e w' => e = .returned (.bool (mustB r)) ∧ Below w.heap.size w w' := by
  obtain ⟨B, HB⟩ : ∃ B, Hid (B = mustB r) := ⟨_, rfl⟩
  rw [← HB.out]
  obtain ⟨z, rfl, hz, hR⟩ := hS
  obtain ⟨r', zs, ⟨ba, bn, bc⟩, ⟨la, ln, lc⟩, ⟨va, vn, vc⟩, ⟨pa, pn, pc⟩⟩ := z
  obtain rfl : r' = r := hz
  have hml : mes zs = r'.log := hR.2.2.1
  have hzl : zs.length ≤ 1000000 := by have := congrArg List.length hml; rw [List.length_map] at this; omega
  have HKT : Hid (∀ W, Below w.heap.size w W → _) := fun W hW => pterm_of (r'.base, ba, bn, bc) zs (.slice la ln lc) r'.commit W (hR.2.1.below hW).v (by omega) (by rw [hml]; exact hm)
  have HKA : Hid (∀ W, Below w.heap.size w W → W.cell? ⟨w.heap.size, 8, none⟩ = some (.int .u64 (r'.commit : Int)) → _) := fun W hW hc => wait_any zs (.slice la ln lc) (.pointer (some ⟨w.heap.size, 0, none⟩)) (fun z => decide (z.1.kind = 2) && decide (r'.commit < z.1.idx)) W (hR.2.1.1.rd.below hW) (by omega) (fun z _ W' hW' => wait1_of ((hW'.cell (p := ⟨w.heap.size, 8, none⟩) (World.block_lt_of_cell? W _ hc)).trans hc) z)
  rw [any_mesB hml (fun e => decide (e.kind = 2) && decide (r'.commit < e.idx))] at HKA
  rw [hml] at HKT
  have HB2 : Hid (B = (!decide ((termM r'.base r'.log r'.commit).getD 0 = r'.term) || r'.log.any fun e => decide (e.kind = 2) && decide (r'.commit < e.idx))) := HB
  generalize (r'.log.any fun e => decide (e.kind = 2) && decide (r'.commit < e.idx)) = AN at *
  obtain ⟨nd, tm, vo, ⟨bi, bt, bk, bd⟩, lg, cm, ro, le, el, vt, pe⟩ := r'
  dsimp only [rv] at *
  generalize termM ⟨bi, bt, bk, bd⟩ lg cm = TM at *
  obtain ⟨z1, B1, hb1⟩ := one_box w (.cells #[.int .i64 nd, .int .u64 (tm : Int), .int .i64 vo, .int .u64 (bi : Int), .int .u64 (bt : Int), .int .i64 bk, .slice ba bn bc, .slice la ln lc, .int .u64 (cm : Int), .int .i64 ro, .int .i64 le, .int .i64 el, .slice va vn vc, .slice pa pn pc] 32)
  have k1 := HKT.out _ hb1
  dsimp only [lgv] at k1
  clear hR hml hzl hm hlg HKT HB
  obtain ⟨tt, tb, hTT, hTV⟩ : ∃ (tt : Nat) (tb : Bool), Hid (TM.getD 0 = tt) ∧ termV TM = .tuple #[.int .u64 (tt : Int), .bool tb] := by
    cases TM with
    | none => exact ⟨0, false, rfl, rfl⟩
    | some x => exact ⟨x, true, rfl, rfl⟩
  rw [hTV] at k1
  rw [hTT.out] at HB2
  clear hTV hTT
  go_enter Tryz.func101, Tryz.ntmps101
  obtain ⟨-, o0, o1, o2, o3, o4, o5, o6, o7, o8, o9, o10, o11, o12, o13⟩ := r14_cells B1
  go_wp2_with fail
  refine k1.mono ?_
  rintro e w2 ⟨rfl, hb2⟩
  have B2 := (hb2.block w.heap.size (by omega)).trans B1
  have hb02 := hb1.trans (hb2.mono (by omega))
  clear k1 hb2 B1 hb1 z1 o0 o1 o2 o3 o4 o5 o6 o7 o8 o9 o10 o11 o12 o13
  obtain ⟨-, o0, o1, o2, o3, o4, o5, o6, o7, o8, o9, o10, o11, o12, o13⟩ := r14_cells B2
  by_cases ht : tt = tm
  · have htb : ((tt : Int) != (tm : Int)) = false := by simp; omega
    rw [decide_eq_true ht] at HB2
    have E0 : Hid (B = AN) := by show _ = _; rw [HB2.out]; rfl
    have k2 := HKA.out w2 hb02 o8
    clear HB2 HKA ht
    go_wp2_with fail
    refine k2.mono ?_
    rintro e w3 ⟨rfl, hb3⟩
    have hb03 := hb02.trans (hb3.mono hb02.size)
    clear k2 o0 o1 o2 o3 o4 o5 o6 o7 o8 o9 o10 o11 o12 o13
    go_wp2
    go_ret
    exact ⟨by rw [E0.out]; rfl, hb03⟩
  · have htb : ((tt : Int) != (tm : Int)) = true := by simp; omega
    rw [decide_eq_false ht] at HB2
    have E0 : Hid (B = true) := by show _ = _; rw [HB2.out]; rfl
    clear HB2 HKA ht
    go_wp2
    go_ret
    exact ⟨by rw [E0.out]; rfl, hb02⟩
end Go.Proofs.YtncoandnelgkeaaGreat

