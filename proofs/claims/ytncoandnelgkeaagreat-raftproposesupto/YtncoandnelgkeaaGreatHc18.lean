import Derived.Test.YtncoandnelgkeaaGreatHc16
/- The program's Slice: copies. -/
namespace Go.Proofs.YtncoandnelgkeaaGreat
open Go.RowKit QuorumMath RlogMath
set_option maxRecDepth 100000
set_option linter.unusedSimpArgs false
set_option linter.unusedVariables false

set_option maxHeartbeats 4000000 in
theorem pslice_c (b : Ez) (zs : List Ez) (lv : Value) (x : Nat) (most : Int) (w : World) (hL : EntsV w lv zs) (hlen : zs.length ≤ 1000000000) (hdz : ∀ z ∈ zs, z.1.data.length ≤ 1000000000) : Calls Tryz.prog 78 #[lgv b lv, .int .u64 (x : Int), .int .i64 most] w fun e w' => ∃ ys v, e = .returned v ∧ Cps w.heap.size w' v (mes (sliceZ b zs x most)) ys ∧ Below w.heap.size w w' := by
  obtain ⟨R, HR⟩ : ∃ R, Hid (R = sliceZ b zs x most) := ⟨_, rfl⟩
  rw [← HR.out]
  obtain ⟨hs, hb0, cl⟩ := lg_box w b lv
  have HK : Hid (∀ z ∈ zs, ∀ W, Below w.heap.size w W → Calls Tryz.prog 112 #[ev z] W fun e w' => ∃ s : Sl, e = .returned (ev (z.1, s)) ∧ CpD w' (z.1, s) ∧ Below W.heap.size W w') := fun z hz W hW => copy_of z W ((hL.2 z hz).below hW) (hdz z hz)
  have HL : Hid (Rd entE w lv zs) := hL.1
  obtain ⟨la, lc, rfl, -, -⟩ := hL.1.shape
  have HB : Hid (b.1.idx < x → R = pickZ x most zs) := fun h => by rw [HR.out]; unfold sliceZ; rw [if_pos h]
  have HB2 : Hid (¬ b.1.idx < x → R = []) := fun h => by rw [HR.out]; unfold sliceZ; rw [if_neg h]
  obtain ⟨c0, c1, c2, c3, c4⟩ := cl _ (Below.refl _ _)
  obtain ⟨⟨ix, tm, kd, dt⟩, sa, sn, sc⟩ := b
  dsimp only [lgc] at *
  clear hL HR hdz
  by_cases hx : ix < x
  · have hxi : ¬ (x : Int) ≤ (ix : Int) := by omega
    have HX : Hid (R = pickZ x most zs) := HB.out hx
    clear HB HB2
    go_enter Tryz.func78, Tryz.ntmps78
    go_wp2
    generalize hw9 : w.alloc (.cells #[.int .u64 (ix : Int), .int .u64 (tm : Int), .int .i64 kd, .slice sa sn sc, .slice la zs.length lc] 28) = w9 at *
    clear hw9 cl c0 c1 c2 c3 c4 hs
    go_loopg [7, 18] zs.length (fun gh s7 s8 wr => ∃ (k : Nat) (st : Value) (cur : List Ez), k + gh = zs.length ∧ s8 = .int .i64 (k : Int) ∧ st = s7 ∧ Cps w.heap.size wr st (mes (pickZ x most (zs.take k))) cur ∧ Below w.heap.size w wr)
    case atStart => exact ⟨0, _, [], by simp, rfl, rfl, by rw [List.take_zero, pick_nil]; exact Cps.nil _ _, hb0⟩
    case round =>
      obtain ⟨k, st, cur, hkg, rfl, rfl, hC, hb3⟩ := hrel
      clear hb0
      have HCL : Hid (cur.length = (pickZ x most (zs.take k)).length) := by show _ = _; have := congrArg List.length hC.2.1; simpa [mes] using this
      have hpl := pick_len x most (zs.take k)
      have hpl2 : (zs.take k).length ≤ zs.length := by rw [List.length_take]; omega
      obtain ⟨ta, tc, hst, -⟩ := hC.1.1.shape
      by_cases hlt : k < zs.length
      · have hlti : (k : Int) < (zs.length : Int) := by omega
        have hz : zs[k]? = some zs[k] := List.getElem?_eq_getElem hlt
        obtain ⟨z, hzz⟩ : ∃ z, z = zs[k] := ⟨_, rfl⟩
        rw [← hzz] at hz
        clear hzz
        obtain ⟨p, off, rfl, c⟩ := rde_at HL.out hz
        obtain ⟨d0, d1, d2, d3⟩ := c _ hb3
        have HNO : Hid (¬ (x ≤ z.1.idx ∧ ((pickZ x most (zs.take k)).length : Int) < most) → pickZ x most (zs.take (k + 1)) = pickZ x most (zs.take k)) := pick_no hz
        have HYES : Hid (x ≤ z.1.idx → ((pickZ x most (zs.take k)).length : Int) < most → pickZ x most (zs.take (k + 1)) = pickZ x most (zs.take k) ++ [z]) := pick_yes hz
        have hb4 := hb3.alloc hb3.size (.cells #[.int .u64 (z.1.idx : Int), .int .u64 (z.1.term : Int), .int .i64 z.1.kind, .slice z.2.1 z.2.2.1 z.2.2.2] 25)
        have kc := HK.out z (List.mem_of_getElem? hz) _ hb4
        have hC4 := hC.below ((Below.refl _ wr).alloc (Nat.le_refl _) (.cells #[.int .u64 (z.1.idx : Int), .int .u64 (z.1.term : Int), .int .i64 z.1.kind, .slice z.2.1 z.2.2.1 z.2.2.2] 25))
        obtain ⟨⟨ix2, tm2, kd2, dt2⟩, sa2, sn2, sc2⟩ := z
        dsimp only [ev] at d0 d1 d2 d3 HNO HYES kc hb4 hC4
        rw [← HCL.out] at HNO HYES
        have hcl5 : cur.length ≤ 1000000000 := by have := HCL.out; omega
        clear HCL hpl
        generalize hP : pickZ x most (zs.take k) = L at *
        clear hP
        subst hst
        clear hz c HX HL HK hC
        by_cases h1 : x ≤ ix2
        · have h1i : (x : Int) ≤ (ix2 : Int) := by omega
          by_cases h2 : (cur.length : Int) < most
          · have E : Hid (_ = _) := HYES.out h1 h2
            clear HNO HYES
            go_wp2_with fail
            refine kc.mono ?_
            rintro e w5 ⟨⟨ca, cn, cc⟩, rfl, hCp, hb5⟩
            dsimp only [ev]
            have hC5 := hC4.below hb5
            have hb45 := hb4.trans (hb5.mono hb4.size)
            have hrunH : Hid _ := push_ent (⟨ix2, tm2, kd2, dt2⟩, ca, cn, cc) hC5.1.1 (by omega)
            dsimp only at hrunH
            clear kc hC4 hb5 d0 d1 d2 d3
            go_wp2_with (at_builtin; refine wp_by rfl _ _ _ rfl _ _ rfl rfl hrunH.out ?_)
            intro v6 w6 hp6
            obtain ⟨hC6, hb6⟩ := hC5.push hCp hb45.size hp6
            have hC7 : Cps w.heap.size w6 v6 (mes (pickZ x most (zs.take (k + 1)))) (cur ++ [(⟨ix2, tm2, kd2, dt2⟩, ca, cn, cc)]) := by rw [E.out]; show Cps _ _ _ (List.map _ _) _; rw [List.map_append]; exact hC6
            clear hC5 hC6 hrunH hp6 E
            go_wp2
            go_roundg (gk - 1)
            case measure => omega
            case rel => exact ⟨k + 1, v6, _, by omega, by go_num, rfl, hC7, hb45.trans hb6⟩
          · have E : Hid (_ = _) := HNO.out (fun h => h2 h.2)
            have h2i : decide ((cur.length : Int) < most) = false := by simpa using h2
            clear HNO HYES kc
            go_wp2
            go_roundg (gk - 1)
            case measure => omega
            case rel => exact ⟨k + 1, _, cur, by omega, by go_num, rfl, by rw [E.out]; exact hC4, hb4⟩
        · have h1i : ¬ (x : Int) ≤ (ix2 : Int) := by omega
          have E : Hid (_ = _) := HNO.out (fun h => h1 h.1)
          clear HNO HYES kc
          go_wp2
          go_roundg (gk - 1)
          case measure => omega
          case rel => exact ⟨k + 1, _, cur, by omega, by go_num, rfl, by rw [E.out]; exact hC4, hb4⟩
      · have hlti : ¬ (k : Int) < (zs.length : Int) := by omega
        have HM : Hid (mes cur = mes R) := by
          show _ = _
          rw [HX.out, hC.2.1, List.take_of_length_le (by omega)]
        have hfin : Hid (Cps w.heap.size wr st (mes R) cur) := by
          show Cps _ _ _ _ _
          exact ⟨hC.1, HM.out, hC.2.2⟩
        subst hst
        clear HX HL HK hC HCL hpl
        go_wp2
        go_ret
        exact ⟨cur, _, rfl, hfin.out, hb3⟩
  · have hxi : (x : Int) ≤ (ix : Int) := by omega
    have HX : Hid (R = []) := HB2.out hx
    clear HB HB2 HK HL cl
    go_enter Tryz.func78, Tryz.ntmps78
    go_wp2
    go_ret
    exact ⟨[], _, rfl, by rw [HX.out]; exact Cps.nil _ _, hb0⟩
end Go.Proofs.YtncoandnelgkeaaGreat

/- The program's copyOfEntry, nodesOf. -/
namespace Go.Proofs.YtncoandnelgkeaaGreat
open Go.RowKit QuorumMath RlogMath
set_option maxRecDepth 100000
set_option linter.unusedSimpArgs false
set_option linter.unusedVariables false

set_option maxHeartbeats 4000000 in
theorem copyE_of (z : Ez) (w : World) (hD : DataV w z) (hlen : z.1.data.length ≤ 1000000000) : Calls Tryz.prog 77 #[ev z] w fun e w' => ∃ s : Sl, e = .returned (ev (z.1, s)) ∧ CpD w' (z.1, s) ∧ Below w.heap.size w w' := by
  have hl := hD.len
  obtain ⟨⟨ix, tm, kd, dt⟩, sa, sn, sc⟩ := z
  dsimp only [ev] at *
  subst hl
  obtain ⟨h1, h2, h3⟩ := one_box w (.cells #[.int .u64 (ix : Int), .int .u64 (tm : Int), .int .i64 kd, .slice sa dt.length sc] 25)
  obtain ⟨q1, q2, q3⟩ := one_box (w.alloc (.cells #[.int .u64 (ix : Int), .int .u64 (tm : Int), .int .i64 kd, .slice sa dt.length sc] 25)) (.cells #[.int .u64 0, .int .u64 0, .int .i64 0, .slice none 0 0] 25)
  rw [h1] at q1 q2 q3
  have hb2 := h3.trans (q3.mono (Nat.le_succ _))
  have kc := clone_of dt (.slice sa dt.length sc) ((w.alloc (.cells #[.int .u64 (ix : Int), .int .u64 (tm : Int), .int .i64 kd, .slice sa dt.length sc] 25)).alloc (.cells #[.int .u64 0, .int .u64 0, .int .i64 0, .slice none 0 0] 25)) (Rd.below hD hb2) hlen
  have h22 := (q3.block w.heap.size (Nat.lt_succ_self _)).trans h2
  obtain ⟨-, c0, c1, c2, c3⟩ := en_cells h22
  clear hD h2 hlen
  go_enter Tryz.func77, Tryz.ntmps77
  go_wp2_with fail
  refine kc.mono ?_
  rintro e w1 ⟨a, n, c, rfl, hR, hb1⟩
  rw [q1] at hb1
  have g1 := (hb1.block w.heap.size (by omega)).trans h22
  have g2 := (hb1.block (w.heap.size + 1) (by omega)).trans q2
  have hb01 := hb2.trans (hb1.mono (by omega))
  obtain ⟨⟨f0, f1, f2, f3⟩, d0, d1, d2, d3⟩ := en_cells g1
  clear kc c0 c1 c2 c3 h22 q2 hb2
  have g1' := en_set3 g1 (.slice a n c)
  obtain ⟨-, e0, e1, e2, e3⟩ := en_cells g1'
  have g2' : (w1.setCell ⟨w.heap.size, 3, none⟩ (.slice a n c)).heap[w.heap.size + 1]? = _ := (set_far (by omega) _).trans g2
  obtain ⟨⟨f0', f1', f2', f3'⟩, o0, o1, o2, o3⟩ := en_cells g2'
  have hbf : Below w.heap.size w _ := ((((hb01.setCell (p := ⟨w.heap.size, 3, none⟩) (Nat.le_refl _) (.slice a n c)).setCell (p := ⟨w.heap.size + 1, 0, none⟩) (by simp) (.int .u64 (ix : Int))).setCell (p := ⟨w.heap.size + 1, 1, none⟩) (by simp) (.int .u64 (tm : Int))).setCell (p := ⟨w.heap.size + 1, 2, none⟩) (by simp) (.int .i64 kd)).setCell (p := ⟨w.heap.size + 1, 3, none⟩) (by simp) (.slice a n c)
  have hRH : Hid (CpD (((((w1.setCell ⟨w.heap.size, 3, none⟩ (.slice a n c)).setCell ⟨w.heap.size + 1, 0, none⟩ (.int .u64 (ix : Int))).setCell ⟨w.heap.size + 1, 1, none⟩ (.int .u64 (tm : Int))).setCell ⟨w.heap.size + 1, 2, none⟩ (.int .i64 kd)).setCell ⟨w.heap.size + 1, 3, none⟩ (.slice a n c)) (⟨ix, tm, kd, dt⟩, a, n, c)) := by
    refine Rk.same hR fun k hk => ?_
    obtain ⟨cs, hcs⟩ := hR.block hk
    have k1 : w.heap.size ≠ k := fun e => by rw [← e, g1] at hcs; simp at hcs
    have k2 : w.heap.size + 1 ≠ k := fun e => by rw [← e, g2] at hcs; simp at hcs
    rw [set_far k2, set_far k2, set_far k2, set_far k2, set_far k1]
  have HF := en_set g2' (.int .u64 (ix : Int)) (.int .u64 (tm : Int)) (.int .i64 kd) (.slice a n c)
  clear hR hb1 g1 g1' g2 hb01 q3 h3
  go_wp2
  (try simp only [Exit.inBlock, Exit.then])
  refine bodyPost_ret (results_ent rfl _ _ (w.heap.size + 1) _ _ _ _ rfl HF) rfl ?_
  exact ⟨(a, n, c), rfl, hRH.out, hbf⟩

set_option maxHeartbeats 2000000 in
theorem rnodes_of (d : List Nat) (dv : Value) (w : World) (hD : Rd byteE w dv d) (hlen : d.length ≤ 1000000000) (hc : ∀ c ∈ d, c < 256) : Calls Tryz.prog 104 #[dv] w fun e w' => ∃ v, e = .returned v ∧ Ow intE 3 w.heap.size w' v (nodesI d) ∧ Below w.heap.size w w' := by
  obtain ⟨R, HR⟩ : ∃ R, Hid (R = nodesI d) := ⟨_, rfl⟩
  rw [← HR.out]
  obtain ⟨ao, cap, rfl, -, -⟩ := hD.shape
  have hO0 : Ow intE 3 w.heap.size w (.slice none 0 0) (nodesI (d.take 0)) := Ow.nil _ _ _ _
  go_enter Tryz.func104, Tryz.ntmps104
  go_wp2
  go_loopg [3, 8] d.length (fun gh s3 s8 wr => ∃ (i : Nat) (st : Value), i + gh = d.length ∧ s8 = .int .i64 (i : Int) ∧ st = s3 ∧ Ow intE 3 w.heap.size wr st (nodesI (d.take i)) ∧ Below w.heap.size w wr)
  case atStart => exact ⟨0, _, by simp, rfl, rfl, hO0, Below.refl _ _⟩
  case round =>
    obtain ⟨i, st, hig, rfl, rfl, hO, hb⟩ := hrel
    clear hO0
    by_cases hlt : i < d.length
    · have hlti : (i : Int) < (d.length : Int) := by omega
      have hx : d[i]? = some d[i] := List.getElem?_eq_getElem hlt
      obtain ⟨x, hxx⟩ : ∃ x, x = d[i] := ⟨_, rfl⟩
      rw [← hxx] at hx
      clear hxx
      obtain ⟨b, off, rfl, c⟩ := rdb_at hD hx
      have c0 := c wr hb
      have hx8 := hc x (List.mem_of_getElem? hx)
      have HS : Hid (nodesI (d.take (i + 1)) = nodesI (d.take i) ++ [(x : Int)]) := by show _ = _; unfold nodesI; rw [take_succ_get hx, List.map_append]; rfl
      have hml : (nodesI (d.take i)).length ≤ 10000000000 := by rw [nodesI_len, List.length_take]; omega
      have hrunH : Hid _ := push_int (x : Int) hO.1 hml
      obtain ⟨sa, sc, hst, -⟩ := hO.1.shape
      generalize nodesI (d.take i) = L at *
      subst hst
      clear c hx hD hc HR
      go_wp2_with (at_builtin; refine wp_by rfl _ _ _ rfl _ _ rfl rfl hrunH.out ?_)
      intro v6 w6 hp6
      obtain ⟨hO2, hb2⟩ := hO.push hb.size hp6
      rw [← HS.out] at hO2
      clear hO hrunH hp6 HS
      go_wp2
      go_roundg (gk - 1)
      case measure => omega
      case rel => exact ⟨i + 1, v6, by omega, by go_num, rfl, hO2, hb.trans hb2⟩
    · have hlti : ¬ (i : Int) < (d.length : Int) := by omega
      obtain rfl : d.length = i := by omega
      rw [List.take_length, ← HR.out] at hO
      clear hD hc HR
      go_wp2
      go_ret
      exact ⟨_, rfl, hO, hb⟩
end Go.Proofs.YtncoandnelgkeaaGreat

