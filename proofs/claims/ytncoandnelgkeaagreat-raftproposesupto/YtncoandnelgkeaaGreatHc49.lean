import Derived.Test.YtncoandnelgkeaaGreatHc16
/- The document's Compact, with where its rows lie. -/
namespace Go.Proofs.YtncoandnelgkeaaGreat
open Go.RowKit QuorumMath RlogMath
set_option maxRecDepth 100000
set_option linter.unusedSimpArgs false
set_option linter.unusedVariables false

set_option maxHeartbeats 4000000 in
theorem rcomp_n (n : Nat) (b : Ez) (zs : List Ez) (lv : Value) (x : Nat) (w : World) (hD : DataN n w b) (hL : EntsN n w lv zs) (hbo : EzOk b) (hok : ∀ z ∈ zs, EzOk z) (hlen : zs.length ≤ 1000000000) (hdl : b.1.data.length ≤ 1000000000) : Calls Tryz.prog 76 #[lgv b lv, .int .u64 (x : Int)] w fun e w' => LgN n (compM b.1 (mes zs) x) e w' ∧ Below w.heap.size w w' := by
  obtain ⟨R, HR⟩ : ∃ R, Hid (R = compM b.1 (mes zs) x) := ⟨_, rfl⟩
  rw [← HR.out]
  obtain ⟨hs, hb0, cl⟩ := lg_box w b lv
  have kmH : Hid (∀ W, Below w.heap.size w W → _) := fun W hW => may_of b zs lv W (hD.below hW).v (hL.below hW).v hbo hok (by omega) hdl
  have ktH : Hid (∀ W, Below w.heap.size w W → _) := fun W hW => rterm_of b zs lv x W (hL.below hW).v (by omega)
  have HD : Hid (∀ z ∈ zs, ∀ W, Below w.heap.size w W → DataN n W z) := fun z hz W hW => (hL.2 z hz).below hW
  have HDB : Hid (∀ W, Below w.heap.size w W → DataN n W b) := fun W hW => hD.below hW
  have HL : Hid (Rd entE w lv zs) := hL.1.rd
  obtain ⟨la, lc, rfl, -, -⟩ := hL.1.rd.shape
  obtain ⟨q1, q2, q3⟩ := one_box (w.alloc (lgc b (.slice la zs.length lc))) (.cells #[.int .u64 0, .int .u64 0, .int .i64 0, .slice none 0 0, .slice none 0 0] 28)
  rw [hs] at q1 q2 q3
  have hb2 := hb0.trans (q3.mono (Nat.le_succ _))
  have km := kmH.out _ hb2
  have HN : Hid (mayB b.1 (mes zs) = false → R = _) := fun h => HR.out.trans (comp_no h)
  have HO : Hid (mayB b.1 (mes zs) = true → x ≤ b.1.idx → R = _) := fun h h2 => HR.out.trans (comp_old h h2)
  have HG : Hid (mayB b.1 (mes zs) = true → ¬ x ≤ b.1.idx → termM b.1 (mes zs) x = none → R = _) := fun h h2 h3 => HR.out.trans (comp_gap h h2 h3)
  have HY : Hid (∀ t, mayB b.1 (mes zs) = true → ¬ x ≤ b.1.idx → termM b.1 (mes zs) x = some t → R = (0, ⟨x, t, 0, (cutZ (b.1.data, b.2) x zs).1⟩, mes (behZ x zs))) := fun t h h2 h3 => by rw [HR.out, comp_ok h h2 h3, cutZ_M, behZ_M]
  clear hD hL hok hbo HR kmH
  generalize mayB b.1 (mes zs) = B at *
  generalize termM b.1 (mes zs) x = T at *
  obtain ⟨⟨ix, tm, kd, dt⟩, sa, sn, sc⟩ := b
  dsimp only [lgc] at *
  obtain ⟨c0, c1, c2, c3, c4⟩ := cl _ q3
  have km' : Calls Tryz.prog 32 #[.agg #[.int .u64 (ix : Int), .int .u64 (tm : Int), .int .i64 kd, .slice sa sn sc, .slice la zs.length lc]] ((w.alloc (.cells #[.int .u64 (ix : Int), .int .u64 (tm : Int), .int .i64 kd, .slice sa sn sc, .slice la zs.length lc] 28)).alloc (.cells #[.int .u64 0, .int .u64 0, .int .i64 0, .slice none 0 0, .slice none 0 0] 28)) fun e w' => e = .returned (.bool B) ∧ Below ((w.alloc (.cells #[.int .u64 (ix : Int), .int .u64 (tm : Int), .int .i64 kd, .slice sa sn sc, .slice la zs.length lc] 28)).alloc (.cells #[.int .u64 0, .int .u64 0, .int .i64 0, .slice none 0 0, .slice none 0 0] 28)).heap.size ((w.alloc (.cells #[.int .u64 (ix : Int), .int .u64 (tm : Int), .int .i64 kd, .slice sa sn sc, .slice la zs.length lc] 28)).alloc (.cells #[.int .u64 0, .int .u64 0, .int .i64 0, .slice none 0 0, .slice none 0 0] 28)) w' := km
  have ktH' : Hid (∀ W, Below w.heap.size w W → Calls Tryz.prog 73 #[.agg #[.int .u64 (ix : Int), .int .u64 (tm : Int), .int .i64 kd, .slice sa sn sc, .slice la zs.length lc], .int .u64 (x : Int)] W fun e w' => e = .returned (termV T) ∧ Below W.heap.size W w') := ktH.out
  clear km ktH
  go_enter Tryz.func76, Tryz.ntmps76
  go_wp2_with fail
  refine km'.mono ?_
  rintro e w2 ⟨rfl, hb21⟩
  rw [q1] at hb21
  have q22 := (hb21.block (w.heap.size + 1) (by omega)).trans q2
  have hA2 := q3.trans (hb21.mono (by omega))
  have hbw2 := hb2.trans (hb21.mono (by omega))
  obtain ⟨c0, c1, c2, c3, c4⟩ := cl w2 hA2
  have hsz2 : w.heap.size + 2 ≤ w2.heap.size := by have := hb21.size; omega
  clear km' q1 q2 q3 hb2 hb21
  cases B with
  | false =>
    have E : Hid (_ = _) := HN.out rfl
    clear HN HO HG HY HD HDB HL ktH' cl
    obtain ⟨⟨f0, f1, f2, f3, f4⟩, o0, o1, o2, o3, o4⟩ := lg_cells q22
    go_wp2
    (try simp only [Exit.inBlock, Exit.then])
    refine bodyPost_ret (results_lg rfl _ _ (w.heap.size + 1) _ _ _ _ _ rfl (lg_set q22 _ _ _ _ _)) rfl ?_
    exact ⟨lgN_none _ E.out, lg_set_below hbw2 (by omega) _ _ _ _ _⟩
  | true =>
    by_cases hx : x ≤ ix
    · have E : Hid (_ = _) := HO.out rfl hx
      have hxi : (x : Int) ≤ (ix : Int) := by omega
      clear HN HO HG HY HD HDB HL ktH' cl
      obtain ⟨⟨f0, f1, f2, f3, f4⟩, o0, o1, o2, o3, o4⟩ := lg_cells q22
      go_wp2
      (try simp only [Exit.inBlock, Exit.then])
      refine bodyPost_ret (results_lg rfl _ _ (w.heap.size + 1) _ _ _ _ _ rfl (lg_set q22 _ _ _ _ _)) rfl ?_
      exact ⟨lgN_none _ E.out, lg_set_below hbw2 (by omega) _ _ _ _ _⟩
    · have hxi : ¬ (x : Int) ≤ (ix : Int) := by omega
      have kt := ktH'.out w2 hbw2
      cases T with
      | none =>
        have E : Hid (_ = _) := HG.out rfl hx rfl
        clear HN HO HG HY HD HDB HL ktH' cl
        go_wp2_with fail
        refine kt.mono ?_
        rintro e w3 ⟨rfl, hb32⟩
        have q33 := (hb32.block (w.heap.size + 1) (by omega)).trans q22
        have hbw3 := hbw2.trans (hb32.mono hbw2.size)
        clear kt
        obtain ⟨⟨f0, f1, f2, f3, f4⟩, o0, o1, o2, o3, o4⟩ := lg_cells q33
        go_wp2
        (try simp only [Exit.inBlock, Exit.then])
        refine bodyPost_ret (results_lg rfl _ _ (w.heap.size + 1) _ _ _ _ _ rfl (lg_set q33 _ _ _ _ _)) rfl ?_
        exact ⟨lgN_none _ E.out, lg_set_below hbw3 (by omega) _ _ _ _ _⟩
      | some t =>
        have E : Hid (_ = _) := HY.out t rfl hx rfl
        clear HN HO HG HY ktH'
        go_wp2_with fail
        refine kt.mono ?_
        rintro e w3 ⟨rfl, hb32⟩
        have q33 := (hb32.block (w.heap.size + 1) (by omega)).trans q22
        have hbw3 := hbw2.trans (hb32.mono hbw2.size)
        have hA3 := hA2.trans (hb32.mono (by omega))
        have hsz3 : w.heap.size + 2 ≤ w3.heap.size := by have := hb32.size; omega
        obtain ⟨c0, c1, c2, c3, c4⟩ := cl w3 hA3
        clear kt hb32 hbw2 hA2 q22 hsz2
        go_wp2
        go_loopg [9] zs.length (fun gh s9 wr => ∃ (k : Nat) (st : Value) (cp : List Nat × Sl), k + gh = zs.length ∧ s9 = .int .i64 (k : Int) ∧ Hid (cp = cutZ (dt, sa, sn, sc) x (zs.take k)) ∧ wr.heap[w3.heap.size]? = some (.cells #[.int .u64 (x : Int), .int .u64 (t : Int), .int .i64 0, .slice cp.2.1 cp.2.2.1 cp.2.2.2, st] 28 (0, 0)) ∧ Ow entE 25 (w3.heap.size + 1) wr st (behZ x (zs.take k)) ∧ Below w3.heap.size w3 wr)
        case atStart => exact ⟨0, .slice none 0 0, (dt, sa, sn, sc), by simp, rfl, rfl, heap_alloc_new _ _, Ow.nil _ _ _ _, (Below.refl _ _).alloc (Nat.le_refl _) _⟩
        case round =>
          obtain ⟨k, st, cp, hkg, rfl, HC, hG, hO, hb3⟩ := hrel
          clear c0 c1 c2 c3 c4
          have hbw := hbw3.trans (hb3.mono hbw3.size)
          have hAr := hA3.trans (hb3.mono (by omega))
          have qr := (hb3.block (w.heap.size + 1) (by omega)).trans q33
          obtain ⟨c0, c1, c2, c3, c4⟩ := cl wr hAr
          obtain ⟨ta, tc, hst, -⟩ := hO.1.shape
          have hpl := behZ_len x (zs.take k)
          have hpl2 : (zs.take k).length ≤ zs.length := by rw [List.length_take]; omega
          have hszr : w3.heap.size + 1 ≤ wr.heap.size := by
            have := (Array.getElem?_eq_some_iff.1 hG).1
            omega
          by_cases hlt : k < zs.length
          · have hlti : (k : Int) < (zs.length : Int) := by omega
            have hz : zs[k]? = some zs[k] := List.getElem?_eq_getElem hlt
            obtain ⟨z, hzz⟩ : ∃ z, z = zs[k] := ⟨_, rfl⟩
            rw [← hzz] at hz
            clear hzz
            obtain ⟨p, off, rfl, c⟩ := rde_at HL.out hz
            obtain ⟨d0, d1, d2, d3⟩ := c _ hbw
            have HC2 := cutZ_at hz (dt, sa, sn, sc) x
            have HB2 := behZ_at hz x
            have HSH : Hid _ := fun W (hW : Below (w3.heap.size + 1) wr W) => c W (hbw.trans (hW.mono (by omega)))
            have HCL : Hid _ := fun W (hW : Below (w3.heap.size + 1) wr W) => cl W (hAr.trans (hW.mono (by omega)))
            rw [← HC.out] at HC2
            obtain ⟨⟨ix2, tm2, kd2, dt2⟩, sa2, sn2, sc2⟩ := z
            dsimp only at d0 d1 d2 d3 HC2 HB2
            obtain ⟨⟨f0, f1, f2, f3, f4⟩, o0, o1, o2, o3, o4⟩ := lg_cells hG
            by_cases h1 : x < ix2
            · have h1i : (x : Int) < (ix2 : Int) := by omega
              rw [if_neg (by omega)] at HC2
              rw [if_pos h1] at HB2
              have HC3 : Hid (_ = _) := HC2
              have HB3 : Hid (_ = _) := HB2
              clear HC2 HB2 E c
              subst hst
              go_wp2
              refine wp_region_L (fun W => Below (w3.heap.size + 1) wr W) [10] (by kernel_rfl) ?_
              have hbd : Below (w3.heap.size + 1) wr wr.drew := (Below.refl _ wr).drew
              have hOd := hO.below (Below.refl _ wr).drew
              have hrunH : Hid _ := push_ent (⟨ix2, tm2, kd2, dt2⟩, sa2, sn2, sc2) hOd.1 (by omega)
              dsimp only at hrunH
              generalize wr.drew = wd at *
              have yS : (fun W => Below (w3.heap.size + 1) wr W) wd := hbd
              refine wpAnyL_take 0 rfl (by kernel_rfl) (by kernel_rfl) (by kernel_rfl) (by kernel_rfl) (fun _ _ _ h => h) (by kernel_rfl) (by intro w' hS'; have hz := hS'; obtain ⟨d0, d1, d2, d3⟩ := HSH.out _ hz; obtain ⟨c0, c1, c2, c3, c4⟩ := HCL.out _ hz; obtain ⟨-, o0, o1, o2, o3, o4⟩ := lg_cells ((hz.block w3.heap.size (Nat.lt_succ_self _)).trans hG); go_simp <;> rfl) yS ?_
              try simp only [List.getElem_toArray, List.getElem_cons_succ, List.getElem_cons_zero, Act.put, List.setIfInBounds_toArray, List.set_cons_zero, List.set_cons_succ]
              refine wpAnyL_take 1 rfl (by kernel_rfl) (by kernel_rfl) (by kernel_rfl) (by kernel_rfl) (fun _ _ _ h => h) (by kernel_rfl) (by intro w' hS'; have hz := hS'; obtain ⟨d0, d1, d2, d3⟩ := HSH.out _ hz; obtain ⟨c0, c1, c2, c3, c4⟩ := HCL.out _ hz; obtain ⟨-, o0, o1, o2, o3, o4⟩ := lg_cells ((hz.block w3.heap.size (Nat.lt_succ_self _)).trans hG); go_simp <;> rfl) yS ?_
              try simp only [List.getElem_toArray, List.getElem_cons_succ, List.getElem_cons_zero, Act.put, List.setIfInBounds_toArray, List.set_cons_zero, List.set_cons_succ]
              refine wpAnyL_take 2 rfl (by kernel_rfl) (by kernel_rfl) (by kernel_rfl) (by kernel_rfl) (fun _ _ _ h => h) (by kernel_rfl) (by intro w' hS'; have hz := hS'; obtain ⟨d0, d1, d2, d3⟩ := HSH.out _ hz; obtain ⟨c0, c1, c2, c3, c4⟩ := HCL.out _ hz; obtain ⟨-, o0, o1, o2, o3, o4⟩ := lg_cells ((hz.block w3.heap.size (Nat.lt_succ_self _)).trans hG); go_simp <;> rfl) yS ?_
              try simp only [List.getElem_toArray, List.getElem_cons_succ, List.getElem_cons_zero, Act.put, List.setIfInBounds_toArray, List.set_cons_zero, List.set_cons_succ]
              refine wpAnyL_take 3 rfl (by kernel_rfl) (by kernel_rfl) (by kernel_rfl) (by kernel_rfl) (fun _ _ _ h => h) (by kernel_rfl) (by intro w' hS'; have hz := hS'; obtain ⟨d0, d1, d2, d3⟩ := HSH.out _ hz; obtain ⟨c0, c1, c2, c3, c4⟩ := HCL.out _ hz; obtain ⟨-, o0, o1, o2, o3, o4⟩ := lg_cells ((hz.block w3.heap.size (Nat.lt_succ_self _)).trans hG); go_simp <;> rfl) yS ?_
              try simp only [List.getElem_toArray, List.getElem_cons_succ, List.getElem_cons_zero, Act.put, List.setIfInBounds_toArray, List.set_cons_zero, List.set_cons_succ]
              refine wpAnyL_take 4 rfl (by kernel_rfl) (by kernel_rfl) (by kernel_rfl) (by kernel_rfl) (fun _ _ _ h => h) (by kernel_rfl) (by intro w' hS'; have hz := hS'; obtain ⟨d0, d1, d2, d3⟩ := HSH.out _ hz; obtain ⟨c0, c1, c2, c3, c4⟩ := HCL.out _ hz; obtain ⟨-, o0, o1, o2, o3, o4⟩ := lg_cells ((hz.block w3.heap.size (Nat.lt_succ_self _)).trans hG); go_simp <;> rfl) yS ?_
              try simp only [List.getElem_toArray, List.getElem_cons_succ, List.getElem_cons_zero, Act.put, List.setIfInBounds_toArray, List.set_cons_zero, List.set_cons_succ]
              refine wpAnyL_take 5 rfl (by kernel_rfl) (by kernel_rfl) (by kernel_rfl) (by kernel_rfl) (fun _ _ _ h => h) (by kernel_rfl) (by intro w' hS'; have hz := hS'; obtain ⟨d0, d1, d2, d3⟩ := HSH.out _ hz; obtain ⟨c0, c1, c2, c3, c4⟩ := HCL.out _ hz; obtain ⟨-, o0, o1, o2, o3, o4⟩ := lg_cells ((hz.block w3.heap.size (Nat.lt_succ_self _)).trans hG); go_simp <;> rfl) yS ?_
              try simp only [List.getElem_toArray, List.getElem_cons_succ, List.getElem_cons_zero, Act.put, List.setIfInBounds_toArray, List.set_cons_zero, List.set_cons_succ]
              refine wpAnyL_take 6 rfl (by kernel_rfl) (by kernel_rfl) (by kernel_rfl) (by kernel_rfl) (fun _ _ _ h => h) (by kernel_rfl) (by intro w' hS'; have hz := hS'; obtain ⟨d0, d1, d2, d3⟩ := HSH.out _ hz; obtain ⟨c0, c1, c2, c3, c4⟩ := HCL.out _ hz; obtain ⟨-, o0, o1, o2, o3, o4⟩ := lg_cells ((hz.block w3.heap.size (Nat.lt_succ_self _)).trans hG); go_simp <;> rfl) yS ?_
              try simp only [List.getElem_toArray, List.getElem_cons_succ, List.getElem_cons_zero, Act.put, List.setIfInBounds_toArray, List.set_cons_zero, List.set_cons_succ]
              refine wpAnyL_one 7 (by kernel_rfl) rfl (by kernel_rfl) ?_
              intro K' hK'
              go_simp
              have hbz : (fun W => Below (w3.heap.size + 1) wr W) _ := hbd.alloc (Nat.le_trans hszr hbd.size) (.cells #[.int .u64 (ix2 : Int), .int .u64 (tm2 : Int), .int .i64 kd2, .slice sa2 sn2 sc2] 25)
              refine hK'.out _ _ (.inr hbz) ?_
              clear hK' K'
              try simp only [List.getElem_toArray, List.getElem_cons_succ, List.getElem_cons_zero, Act.put, List.setIfInBounds_toArray, List.set_cons_zero, List.set_cons_succ]
              refine wpAnyL_one 8 (by kernel_rfl) rfl (by kernel_rfl) ?_
              intro K' hK'
              refine op_by _ _ _ rfl _ _ rfl rfl hrunH.out ?_
              intro v6 w6 hp6
              obtain ⟨hO6, hb6⟩ := hOd.push (Nat.le_trans hszr hbd.size) hp6
              rw [← HB3.out] at hO6
              have hb6r : Below (w3.heap.size + 1) wr w6 := hbd.trans hb6
              have hG6 := (hb6r.block w3.heap.size (Nat.lt_succ_self _)).trans hG
              obtain ⟨⟨f0', f1', f2', f3', f4'⟩, o0', o1', o2', o3', o4'⟩ := lg_cells hG6
              clear hp6 hrunH hO hOd
              obtain ⟨va6, vc6, rfl, -⟩ := hO6.1.shape
              refine hK'.out _ _ (.inr hb6r) ?_
              clear hK' K'
              try simp only [List.getElem_toArray, List.getElem_cons_succ, List.getElem_cons_zero, Act.put, List.setIfInBounds_toArray, List.set_cons_zero, List.set_cons_succ]
              refine wpAnyL_take 9 rfl (by kernel_rfl) (by kernel_rfl) (by kernel_rfl) (by kernel_rfl) (fun _ _ _ h => h) (by kernel_rfl) (by intro w' hS'; have hz := hS'; obtain ⟨d0, d1, d2, d3⟩ := HSH.out _ hz; obtain ⟨c0, c1, c2, c3, c4⟩ := HCL.out _ hz; obtain ⟨-, o0, o1, o2, o3, o4⟩ := lg_cells ((hz.block w3.heap.size (Nat.lt_succ_self _)).trans hG); go_simp <;> rfl) hb6r ?_
              try simp only [List.getElem_toArray, List.getElem_cons_succ, List.getElem_cons_zero, Act.put, List.setIfInBounds_toArray, List.set_cons_zero, List.set_cons_succ]
              refine wpAnyL_one 10 (by kernel_rfl) rfl (by kernel_rfl) ?_
              intro K' hK'
              go_simp
              refine hK'.out _ _ (.inl (by decide)) ?_
              clear hK' K'
              try simp only [List.getElem_toArray, List.getElem_cons_succ, List.getElem_cons_zero, Act.put, List.setIfInBounds_toArray, List.set_cons_zero, List.set_cons_succ]
              refine wpAnyL_done (by kernel_rfl) (NoPanic.normal ?_) _
              go_wp2
              go_roundg (gk - 1)
              case measure => omega
              case rel => exact ⟨k + 1, _, cp, by omega, by go_num, HC3.out.symm, lg_set4 hG6 _, hO6.far (Nat.lt_succ_self _) _, (hb3.trans (hb6r.mono (Nat.le_succ _))).setCell (p := ⟨w3.heap.size, 4, none⟩) (Nat.le_refl _) _⟩
            · have h1i : ¬ (x : Int) < (ix2 : Int) := by omega
              rw [if_neg h1] at HB2
              by_cases h2 : kd2 = 2
              · subst h2
                rw [if_pos ⟨by omega, rfl⟩] at HC2
                have HC3 : Hid (_ = _) := HC2
                have HB3 : Hid (_ = _) := HB2
                clear HC2 HB2 HSH HCL c cl HD HDB HL E hst
                go_wp2
                go_roundg (gk - 1)
                case measure => omega
                case rel => exact ⟨k + 1, st, (dt2, sa2, sn2, sc2), by omega, by go_num, HC3.out.symm, lg_set3 hG _, by rw [HB3.out]; exact hO.far (Nat.lt_succ_self _) _, hb3.setCell (p := ⟨w3.heap.size, 3, none⟩) (Nat.le_refl _) _⟩
              · have h2b : (kd2 == 2) = false := by simpa using h2
                rw [if_neg (fun h => h2 h.2)] at HC2
                have HC3 : Hid (_ = _) := HC2
                have HB3 : Hid (_ = _) := HB2
                clear HC2 HB2 HSH HCL c cl HD HDB HL E hst
                go_wp2
                go_roundg (gk - 1)
                case measure => omega
                case rel => exact ⟨k + 1, st, cp, by omega, by go_num, HC3.out.symm, hG, by rw [HB3.out]; exact hO, hb3⟩
          · have hlti : ¬ (k : Int) < (zs.length : Int) := by omega
            obtain rfl : k = zs.length := by omega
            rw [List.take_length] at hO hst
            have HC2 := HC.out
            rw [List.take_length] at HC2
            have hdat : Hid (∀ W, Below w.heap.size w W → DataN n W (⟨x, t, 0, cp.1⟩, cp.2)) := by
              intro W hW
              rw [HC2]
              rcases cutZ_mem x zs (dt, sa, sn, sc) with h | ⟨y, hy, h⟩
              · rw [h]; exact HDB.out W hW
              · rw [h]; exact HD.out y hy W hW
            have hdz : Hid (∀ W, Below w.heap.size w W → ∀ z ∈ behZ x zs, DataN n W z) := fun W hW z hz => HD.out z (List.mem_filter.1 hz).1 W hW
            have E2 : Hid (R = (0, ⟨x, t, 0, cp.1⟩, mes (behZ x zs))) := by
              show _ = _
              rw [E.out, HC2]
            have hOH : Hid (Ow entE 25 (w3.heap.size + 1) wr st (behZ x zs)) := hO
            obtain ⟨⟨f0, f1, f2, f3, f4⟩, o0, o1, o2, o3, o4⟩ := lg_cells qr
            obtain ⟨⟨f0', f1', f2', f3', f4'⟩, o0', o1', o2', o3', o4'⟩ := lg_cells hG
            have HC3 : Hid (_ = _) := HC2
            clear HC2 HC3 HC HD HDB HL cl hO E
            subst hst
            go_wp2
            (try simp only [Exit.inBlock, Exit.then])
            refine bodyPost_ret (results_lg rfl _ _ (w.heap.size + 1) _ _ _ _ _ rfl (lg_set qr _ _ _ _ _)) rfl ?_
            have hbf := lg_set_below hbw (g := w.heap.size + 1) (by omega) (.int .u64 (x : Int)) (.int .u64 (t : Int)) (.int .i64 0) (.slice cp.2.1 cp.2.2.1 cp.2.2.2) (.slice ta (behZ x zs).length tc)
            refine ⟨?_, hbf⟩
            rw [E2.out]
            have hO5 : Ow entE 25 (w3.heap.size + 1) wr (.slice ta (behZ x zs).length tc) (behZ x zs) := hOH.out
            exact ⟨_, rfl, cp.2, behZ x zs, (ta, (behZ x zs).length, tc), rfl, hdat.out _ hbf, ⟨(((((hO5.far (by omega) _).far (by omega) _).far (by omega) _).far (by omega) _).far (by omega) _).1.toN n, hdz.out _ hbf⟩, rfl⟩
end Go.Proofs.YtncoandnelgkeaaGreat

