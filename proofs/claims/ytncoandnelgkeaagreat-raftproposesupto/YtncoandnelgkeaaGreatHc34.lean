import Derived.Test.YtncoandnelgkeaaGreatHc22
import Derived.Test.YtncoandnelgkeaaGreatHc16
/- The document's Append, with where its rows lie. -/
namespace Go.Proofs.YtncoandnelgkeaaGreat
open Go.RowKit QuorumMath RlogMath
set_option maxRecDepth 100000
set_option linter.unusedSimpArgs false
set_option linter.unusedVariables false

set_option maxHeartbeats 8000000 in
theorem rapp_n (n : Nat) (b : Ez) (zs : List Ez) (lv : Value) (tt : Nat) (kk : Int) (dd : List Nat) (ds : Sl) (w : World) (hD : DataN n w b) (hL : EntsN n w lv zs) (hbo : EzOk b) (hok : ∀ z ∈ zs, EzOk z) (hdd : RdN byteE 5 n w (.slice ds.1 ds.2.1 ds.2.2) dd) (hdc : ∀ c ∈ dd, c < 256) (hlen : zs.length ≤ 1000000000) (hdl : b.1.data.length ≤ 1000000000) : Calls Tryz.prog 72 #[lgv b lv, .int .u64 (tt : Int), .int .i64 kk, .slice ds.1 ds.2.1 ds.2.2] w fun e w' => LgN n (appM b.1 (mes zs) tt kk dd) e w' ∧ Below w.heap.size w w' := by
  obtain ⟨R, HR⟩ : ∃ R, Hid (R = appM b.1 (mes zs) tt kk dd) := ⟨_, rfl⟩
  rw [← HR.out]
  obtain ⟨hs, hb0, cl⟩ := lg_box w b lv
  have kmH : Hid (∀ W, Below w.heap.size w W → _) := fun W hW => may_of b zs lv W (hD.below hW).v (hL.below hW).v hbo hok (by omega) hdl
  have klH : Hid (∀ W, Below w.heap.size w W → _) := fun W hW => rlast_of b zs lv W (hL.below hW).v (by omega)
  have keH : Hid (∀ (i : Nat) W, Below w.heap.size w W → _) := fun i W hW => entry_of (⟨i, tt, kk, dd⟩, ds) W (RdN.below hdd hW).rd hdc
  have HDB : Hid (∀ W, Below w.heap.size w W → DataN n W b) := fun W hW => hD.below hW
  have HDD : Hid (∀ (i : Nat) W, Below w.heap.size w W → DataN n W (⟨i, tt, kk, dd⟩, ds)) := fun i W hW => RdN.below hdd hW
  have HL : Hid (∀ W, Below w.heap.size w W → EntsN n W lv zs) := fun W hW => hL.below hW
  obtain ⟨la, lc, rfl, -, -⟩ := hL.1.rd.shape
  obtain ⟨q1, q2, q3⟩ := one_box (w.alloc (lgc b (.slice la zs.length lc))) (.cells #[.int .u64 0, .int .u64 0, .int .i64 0, .slice none 0 0, .slice none 0 0] 28)
  rw [hs] at q1 q2 q3
  have hb2 := hb0.trans (q3.mono (Nat.le_succ _))
  have km := kmH.out _ hb2
  have HN : Hid (mayB b.1 (mes zs) = false → R = _) := fun h => HR.out.trans (app_no h)
  have HO : Hid (tt < (lastM b.1 (mes zs)).2 → R = _) := fun h => HR.out.trans (app_low h)
  have HBd : Hid (entB ⟨(lastM b.1 (mes zs)).1 + 1, tt, kk, dd⟩ = false → R = _) := fun h => HR.out.trans (app_bad h)
  have HF : Hid (mayB b.1 (mes zs) = true → ¬ tt < (lastM b.1 (mes zs)).2 → entB ⟨(lastM b.1 (mes zs)).1 + 1, tt, kk, dd⟩ = true → ((mes zs).length = 4096 ∨ 4611686018427387904 ≤ (lastM b.1 (mes zs)).1) → R = _) := fun h h2 h3 h4 => HR.out.trans (app_full h h2 h3 h4)
  have HY : Hid (mayB b.1 (mes zs) = true → ¬ tt < (lastM b.1 (mes zs)).2 → entB ⟨(lastM b.1 (mes zs)).1 + 1, tt, kk, dd⟩ = true → ¬ ((mes zs).length = 4096 ∨ 4611686018427387904 ≤ (lastM b.1 (mes zs)).1) → R = _) := fun h h2 h3 h4 => HR.out.trans (app_ok h h2 h3 h4)
  have HLA : mayB b.1 (mes zs) = true → (lastM b.1 (mes zs)).1 ≤ 4611686018427392000 := fun h => by have := may_last h; omega
  have hml : (mes zs).length = zs.length := by simp [mes]
  rw [hml] at HF HY
  clear hD hL hok hbo HR kmH hdd hdc hml
  generalize mayB b.1 (mes zs) = B at *
  generalize lastM b.1 (mes zs) = LA at *
  obtain ⟨li, lt⟩ := LA
  obtain ⟨⟨ix, tm, kd, dt⟩, sa, sn, sc⟩ := b
  obtain ⟨da, dn, dc⟩ := ds
  dsimp only [lgc] at *
  obtain ⟨c0, c1, c2, c3, c4⟩ := cl _ q3
  have km' : Calls Tryz.prog 32 #[.agg #[.int .u64 (ix : Int), .int .u64 (tm : Int), .int .i64 kd, .slice sa sn sc, .slice la zs.length lc]] ((w.alloc (.cells #[.int .u64 (ix : Int), .int .u64 (tm : Int), .int .i64 kd, .slice sa sn sc, .slice la zs.length lc] 28)).alloc (.cells #[.int .u64 0, .int .u64 0, .int .i64 0, .slice none 0 0, .slice none 0 0] 28)) fun e w' => e = .returned (.bool B) ∧ Below ((w.alloc (.cells #[.int .u64 (ix : Int), .int .u64 (tm : Int), .int .i64 kd, .slice sa sn sc, .slice la zs.length lc] 28)).alloc (.cells #[.int .u64 0, .int .u64 0, .int .i64 0, .slice none 0 0, .slice none 0 0] 28)).heap.size ((w.alloc (.cells #[.int .u64 (ix : Int), .int .u64 (tm : Int), .int .i64 kd, .slice sa sn sc, .slice la zs.length lc] 28)).alloc (.cells #[.int .u64 0, .int .u64 0, .int .i64 0, .slice none 0 0, .slice none 0 0] 28)) w' := km
  have klH' : Hid (∀ W, Below w.heap.size w W → Calls Tryz.prog 33 #[.agg #[.int .u64 (ix : Int), .int .u64 (tm : Int), .int .i64 kd, .slice sa sn sc, .slice la zs.length lc]] W fun e w' => e = .returned (.tuple #[.int .u64 (li : Int), .int .u64 (lt : Int)]) ∧ Below W.heap.size W w') := klH.out
  have keH' : Hid (∀ (i : Nat) W, Below w.heap.size w W → Calls Tryz.prog 85 #[.agg #[.int .u64 (i : Int), .int .u64 (tt : Int), .int .i64 kk, .slice da dn dc]] W fun e w' => e = .returned (.bool (entB ⟨i, tt, kk, dd⟩)) ∧ Below W.heap.size W w') := keH.out
  clear km klH keH
  go_enter Tryz.func72, Tryz.ntmps72
  go_wp2_with fail
  refine km'.mono ?_
  rintro e w2 ⟨rfl, hb21⟩
  rw [q1] at hb21
  have q22 := (hb21.block (w.heap.size + 1) (by omega)).trans q2
  have hA2 := q3.trans (hb21.mono (by omega))
  have hbw2 := hb2.trans (hb21.mono (by omega))
  obtain ⟨c0, c1, c2, c3, c4⟩ := cl w2 hA2
  have hsz2 : w.heap.size + 2 ≤ w2.heap.size := by have := hb21.size; omega
  clear km' q1 q2 q3 hb2 hb21
  cases B with
  | false =>
    have E : Hid (_ = _) := HN.out rfl
    clear HN HO HBd HF HY HDB HDD HL klH' keH' cl HLA
    obtain ⟨⟨f0, f1, f2, f3, f4⟩, o0, o1, o2, o3, o4⟩ := lg_cells q22
    go_wp2
    (try simp only [Exit.inBlock, Exit.then])
    refine bodyPost_ret (results_lg rfl _ _ (w.heap.size + 1) _ _ _ _ _ rfl (lg_set q22 _ _ _ _ _)) rfl ?_
    exact ⟨lgN_none _ E.out, lg_set_below hbw2 (by omega) _ _ _ _ _⟩
  | true =>
    have hli := HLA rfl
    obtain ⟨lj, hlj⟩ : ∃ lj, lj = li + 1 := ⟨_, rfl⟩
    have hwr : IntKind.u64.wrap ((li : Int) + 1) = (lj : Int) := by rw [IntWalk.u64_in _ (by omega)]; omega
    rw [← hlj] at HBd HF HY
    clear hlj
    have kt := klH'.out w2 hbw2
    clear HLA HN klH'
    go_wp2_with fail
    refine kt.mono ?_
    rintro e w3 ⟨rfl, hb32⟩
    have q33 := (hb32.block (w.heap.size + 1) (by omega)).trans q22
    have hbw3 := hbw2.trans (hb32.mono hbw2.size)
    have hA3 := hA2.trans (hb32.mono (by omega))
    have hsz3 : w.heap.size + 2 ≤ w3.heap.size := by have := hb32.size; omega
    clear kt hb32 hbw2 hA2 q22 hsz2 c0 c1 c2 c3 c4
    obtain ⟨x1, x2, x3⟩ := one_box w3 (.cells #[.int .u64 (lj : Int), .int .u64 (tt : Int), .int .i64 kk, .slice da dn dc] 25)
    have q44 := (x3.block (w.heap.size + 1) (by omega)).trans q33
    have hbw4 := hbw3.trans (x3.mono hbw3.size)
    have hA4 := hA3.trans (x3.mono (by omega))
    obtain ⟨c0, c1, c2, c3, c4⟩ := cl _ hA4
    have c5 : (w3.alloc (.cells #[.int .u64 (lj : Int), .int .u64 (tt : Int), .int .i64 kk, .slice da dn dc] 25)).cell? ⟨w3.heap.size, 0, none⟩ = some (.int .u64 (lj : Int)) := by rw [cells_of_block x2]; rfl
    have c6 : (w3.alloc (.cells #[.int .u64 (lj : Int), .int .u64 (tt : Int), .int .i64 kk, .slice da dn dc] 25)).cell? ⟨w3.heap.size, 1, none⟩ = some (.int .u64 (tt : Int)) := by rw [cells_of_block x2]; rfl
    have c7 : (w3.alloc (.cells #[.int .u64 (lj : Int), .int .u64 (tt : Int), .int .i64 kk, .slice da dn dc] 25)).cell? ⟨w3.heap.size, 2, none⟩ = some (.int .i64 kk) := by rw [cells_of_block x2]; rfl
    have c8 : (w3.alloc (.cells #[.int .u64 (lj : Int), .int .u64 (tt : Int), .int .i64 kk, .slice da dn dc] 25)).cell? ⟨w3.heap.size, 3, none⟩ = some (.slice da dn dc) := by rw [cells_of_block x2]; rfl
    clear q33 hbw3
    by_cases hlow : tt < lt
    · have hlowi : (tt : Int) < (lt : Int) := by omega
      have E : Hid (_ = _) := HO.out hlow
      clear HO HBd HF HY HDB HDD HL keH' cl c5 c6 c7 c8 c0 c1 c2 c3 c4 x1 x2 x3
      obtain ⟨⟨f0, f1, f2, f3, f4⟩, o0, o1, o2, o3, o4⟩ := lg_cells q44
      go_wp2
      (try simp only [Exit.inBlock, Exit.then])
      refine bodyPost_ret (results_lg rfl _ _ (w.heap.size + 1) _ _ _ _ _ rfl (lg_set q44 _ _ _ _ _)) rfl ?_
      exact ⟨lgN_none _ E.out, lg_set_below hbw4 (by omega) _ _ _ _ _⟩
    · have hlowi : ¬ (tt : Int) < (lt : Int) := by omega
      have kt := keH'.out lj _ hbw4
      clear keH' HO
      go_wp2_with fail
      refine kt.mono ?_
      rintro e w5 ⟨rfl, hb54⟩
      rw [x1] at hb54
      have q55 := (hb54.block (w.heap.size + 1) (by omega)).trans q44
      have x5 := (hb54.block w3.heap.size (by omega)).trans x2
      have hbw5 := hbw4.trans (hb54.mono (by omega))
      have hA5 := hA4.trans (hb54.mono (by omega))
      have hsz5 : w3.heap.size + 1 ≤ w5.heap.size := hb54.size |> fun h => by omega
      obtain ⟨c0, c1, c2, c3, c4⟩ := cl _ hA5
      clear kt hb54 q44 hbw4 hA4 c5 c6 c7 c8 x1 x2 x3
      cases hEB : entB ⟨lj, tt, kk, dd⟩ with
      | false =>
        have E : Hid (_ = _) := HBd.out hEB
        clear HBd HF HY HDB HDD HL cl hEB
        obtain ⟨⟨f0, f1, f2, f3, f4⟩, o0, o1, o2, o3, o4⟩ := lg_cells q55
        go_wp2
        (try simp only [Exit.inBlock, Exit.then])
        refine bodyPost_ret (results_lg rfl _ _ (w.heap.size + 1) _ _ _ _ _ rfl (lg_set q55 _ _ _ _ _)) rfl ?_
        exact ⟨lgN_none _ E.out, lg_set_below hbw5 (by omega) _ _ _ _ _⟩
      | true =>
        by_cases hfu : zs.length = 4096 ∨ 4611686018427387904 ≤ li
        · have E : Hid (_ = _) := HF.out trivial hlow hEB hfu
          clear HBd HF HY HDB HDD HL cl hEB
          by_cases h4 : zs.length = 4096
          · have h4b : ((zs.length : Int) == 4096) = true := by simp; omega
            obtain ⟨⟨f0, f1, f2, f3, f4⟩, o0, o1, o2, o3, o4⟩ := lg_cells q55
            go_wp2
            (try simp only [Exit.inBlock, Exit.then])
            refine bodyPost_ret (results_lg rfl _ _ (w.heap.size + 1) _ _ _ _ _ rfl (lg_set q55 _ _ _ _ _)) rfl ?_
            exact ⟨lgN_none _ E.out, lg_set_below hbw5 (by omega) _ _ _ _ _⟩
          · have h4b : ((zs.length : Int) == 4096) = false := by simp; omega
            have h4i : ¬ (zs.length : Int) = 4096 := by omega
            have h5i : (4611686018427387904 : Int) ≤ (li : Int) := by omega
            obtain ⟨⟨f0, f1, f2, f3, f4⟩, o0, o1, o2, o3, o4⟩ := lg_cells q55
            go_wp2
            (try simp only [Exit.inBlock, Exit.then])
            refine bodyPost_ret (results_lg rfl _ _ (w.heap.size + 1) _ _ _ _ _ rfl (lg_set q55 _ _ _ _ _)) rfl ?_
            exact ⟨lgN_none _ E.out, lg_set_below hbw5 (by omega) _ _ _ _ _⟩
        · have E : Hid (_ = _) := HY.out trivial hlow hEB hfu
          clear HBd HF HY hEB
          have h4b : ((zs.length : Int) == 4096) = false := by simp; omega
          have h4i : ¬ (zs.length : Int) = 4096 := by omega
          have h5i : decide ((4611686018427387904 : Int) ≤ (li : Int)) = false := by simp; omega
          have HCL : Hid (∀ W, Below w5.heap.size w5 W → _) := fun W hW => cl W (hA5.trans (hW.mono (by omega)))
          have HEL : Hid (∀ W, Below w5.heap.size w5 W → W.cell? ⟨w3.heap.size, 0, none⟩ = some (.int .u64 (lj : Int)) ∧ W.cell? ⟨w3.heap.size, 1, none⟩ = some (.int .u64 (tt : Int)) ∧ W.cell? ⟨w3.heap.size, 2, none⟩ = some (.int .i64 kk) ∧ W.cell? ⟨w3.heap.size, 3, none⟩ = some (.slice da dn dc)) := fun W hW => by
            have := (hW.block w3.heap.size (by omega)).trans x5
            exact ⟨by rw [cells_of_block this]; rfl, by rw [cells_of_block this]; rfl, by rw [cells_of_block this]; rfl, by rw [cells_of_block this]; rfl⟩
          have LB : w5.heap[w.heap.size]? = some (.cells #[.int .u64 (ix : Int), .int .u64 (tm : Int), .int .i64 kd, .slice sa sn sc, .slice la zs.length lc] 28 (0, 0)) := (hA5.block w.heap.size (Nat.lt_succ_self _)).trans (heap_alloc_new _ _)
          have hfin : Hid (∀ (st : Value) W, Below w.heap.size w W → Rk entE W 25 st (zs ++ [(⟨lj, tt, kk, dd⟩, da, dn, dc)]) → LgN n R (.returned (.tuple #[.agg #[.int .u64 (ix : Int), .int .u64 (tm : Int), .int .i64 kd, .slice sa sn sc, st], .int .i64 0])) W) := fun st W hW hR => by
            obtain ⟨sta, stc, rfl, -, -⟩ := hR.rd.shape
            show LgN n R _ W
            rw [E.out]
            refine ⟨_, rfl, (sa, sn, sc), zs ++ [(⟨lj, tt, kk, dd⟩, da, dn, dc)], (sta, _, stc), rfl, HDB.out W hW, ⟨hR.toN n, fun z hz => ?_⟩, by simp [mes]⟩
            rw [List.mem_append, List.mem_singleton] at hz
            rcases hz with hz | rfl
            · exact (HL.out W hW).2 z hz
            · exact HDD.out lj W hW
          have HL5 : Hid (∀ W, Below w5.heap.size w5 W → Rd entE W (.slice la zs.length lc) zs) := fun W hW => (HL.out W (hbw5.trans (hW.mono hbw5.size))).1.rd
          have hzl9 : zs.length ≤ 10000000000 := by omega
          clear E HDB HDD HL cl hA5 hfu c0 c1 c2 c3 c4 hli hlow x5
          obtain ⟨c0, c1, c2, c3, c4⟩ := HCL.out _ (Below.refl _ _)
          go_wp2
          (try simp only [Exit.inBlock, Exit.then])
          refine wp_region_L (fun W => Below w5.heap.size w5 W) [8] (by kernel_rfl) ?_
          have hbd : Below w5.heap.size w5 w5.drew := (Below.refl _ w5).drew
          generalize w5.drew = wd at *
          refine wpAnyL_take 1 rfl (by kernel_rfl) (by kernel_rfl) (by kernel_rfl) (by kernel_rfl) (fun _ _ _ h => h) (by kernel_rfl) (by intro w' hS'; have hz := hS'; obtain ⟨c0, c1, c2, c3, c4⟩ := HCL.out _ hz; obtain ⟨c5, c6, c7, c8⟩ := HEL.out _ hz; go_simp <;> rfl) hbd ?_
          try simp only [List.getElem_toArray, List.getElem_cons_succ, List.getElem_cons_zero, Act.put, List.setIfInBounds_toArray, List.set_cons_zero, List.set_cons_succ]
          refine wpAnyL_take 2 rfl (by kernel_rfl) (by kernel_rfl) (by kernel_rfl) (by kernel_rfl) (fun _ _ _ h => h) (by kernel_rfl) (by intro w' hS'; have hz := hS'; obtain ⟨c0, c1, c2, c3, c4⟩ := HCL.out _ hz; obtain ⟨c5, c6, c7, c8⟩ := HEL.out _ hz; go_simp <;> rfl) hbd ?_
          try simp only [List.getElem_toArray, List.getElem_cons_succ, List.getElem_cons_zero, Act.put, List.setIfInBounds_toArray, List.set_cons_zero, List.set_cons_succ]
          refine wpAnyL_take 4 rfl (by kernel_rfl) (by kernel_rfl) (by kernel_rfl) (by kernel_rfl) (fun _ _ _ h => h) (by kernel_rfl) (by intro w' hS'; have hz := hS'; obtain ⟨c0, c1, c2, c3, c4⟩ := HCL.out _ hz; obtain ⟨c5, c6, c7, c8⟩ := HEL.out _ hz; go_simp <;> rfl) hbd ?_
          try simp only [List.getElem_toArray, List.getElem_cons_succ, List.getElem_cons_zero, Act.put, List.setIfInBounds_toArray, List.set_cons_zero, List.set_cons_succ]
          refine wpAnyL_two 0 5 (by kernel_rfl) rfl rfl (by kernel_rfl) (by kernel_rfl) ?_ ?_
          · intro K' hK'
            go_simp
            have b0 : (fun W => Below w5.heap.size w5 W) (wd.alloc (.cells #[] 25)) := Below.alloc hbd (Below.size hbd) (.cells #[] 25)
            have O0 : Ow entE 25 w5.heap.size (wd.alloc (.cells #[] 25)) (.slice (some ⟨wd.heap.size, 0, none⟩) 0 0) [] := ⟨Rk.made (E := entE) (xs := []) (heap_alloc_new _ _) rfl (by unfold maxLen; simp), fun k hk => by cases hk; exact Below.size hbd⟩
            have k0 : Below wd.heap.size wd (wd.alloc (.cells #[] 25)) := (Below.refl _ _).alloc (Nat.le_refl _) _
            have z0 : Hid ((wd.alloc (.cells #[] 25)).heap.size = wd.heap.size + 1) := by show _ = _; simp
            refine hK'.out _ _ (.inr b0) ?_
            clear hK' K'
            try simp only [List.getElem_toArray, List.getElem_cons_succ, List.getElem_cons_zero, Act.put, List.setIfInBounds_toArray, List.set_cons_zero, List.set_cons_succ]
            generalize wd.alloc (.cells #[] 25) = W0 at *
            refine wpAnyL_two 3 5 (by kernel_rfl) rfl rfl (by kernel_rfl) (by kernel_rfl) ?_ ?_
            · intro K' hK'
              have r3H : Hid _ := app_ents (Ow.ow1 O0) (HL5.out _ b0) (by simp) hzl9
              refine op_by _ _ _ rfl _ _ rfl rfl r3H.out ?_
              intro v3 W3 p3
              rw [List.nil_append] at p3
              obtain ⟨O3, k3⟩ := Ow.push O0 (Below.size b0) p3
              have b3 : (fun W => Below w5.heap.size w5 W) W3 := Below.trans b0 k3
              clear p3 r3H
              obtain ⟨va3, vc3, hv3, -⟩ := O3.1.shape
              subst hv3
              refine hK'.out _ _ (.inr b3) ?_
              clear hK' K'
              try simp only [List.getElem_toArray, List.getElem_cons_succ, List.getElem_cons_zero, Act.put, List.setIfInBounds_toArray, List.set_cons_zero, List.set_cons_succ]
              refine wpAnyL_one 5 (by kernel_rfl) rfl (by kernel_rfl) ?_
              intro K' hK'
              go_simp
              have b5 : (fun W => Below w5.heap.size w5 W) (W3.alloc (.cells #[.int .u64 (lj : Int), .int .u64 (tt : Int), .int .i64 kk, .slice da dn dc] 25)) := Below.alloc b3 (Below.size b3) (.cells #[.int .u64 (lj : Int), .int .u64 (tt : Int), .int .i64 kk, .slice da dn dc] 25)
              have R5 : Rk entE (W3.alloc (.cells #[.int .u64 (lj : Int), .int .u64 (tt : Int), .int .i64 kk, .slice da dn dc] 25)) 25 (.slice (some ⟨W3.heap.size, 0, none⟩) 1 1) [((⟨lj, tt, kk, dd⟩, da, dn, dc) : Ez)] := Rk.made (E := entE) (xs := [((⟨lj, tt, kk, dd⟩, da, dn, dc) : Ez)]) (heap_alloc_new _ _) rfl (by unfold maxLen; simp)
              have k5 : Below W3.heap.size W3 (W3.alloc (.cells #[.int .u64 (lj : Int), .int .u64 (tt : Int), .int .i64 kk, .slice da dn dc] 25)) := (Below.refl _ _).alloc (Nat.le_refl _) _
              have z5 : Hid ((W3.alloc (.cells #[.int .u64 (lj : Int), .int .u64 (tt : Int), .int .i64 kk, .slice da dn dc] 25)).heap.size = W3.heap.size + 1) := by show _ = _; simp
              refine hK'.out _ _ (.inr b5) ?_
              clear hK' K'
              try simp only [List.getElem_toArray, List.getElem_cons_succ, List.getElem_cons_zero, Act.put, List.setIfInBounds_toArray, List.set_cons_zero, List.set_cons_succ]
              generalize W3.alloc (.cells #[.int .u64 (lj : Int), .int .u64 (tt : Int), .int .i64 kk, .slice da dn dc] 25) = W5 at *
              refine wpAnyL_one 6 (by kernel_rfl) rfl (by kernel_rfl) ?_
              intro K' hK'
              have r6H : Hid _ := app_ents (Ow.ow1 (O3.below k5)) R5.rd hzl9 (by simp)
              refine op_by _ _ _ rfl _ _ rfl rfl r6H.out ?_
              intro v6 W6 p6
              obtain ⟨O6, k6⟩ := Ow.push (O3.below k5) (Below.size b5) p6
              have b6 : (fun W => Below w5.heap.size w5 W) W6 := Below.trans b5 k6
              clear p6 r6H
              generalize hL6 : zs ++ [((⟨lj, tt, kk, dd⟩, da, dn, dc) : Ez)] = L6 at *
              obtain ⟨va6, vc6, hv6, -⟩ := O6.1.shape
              generalize L6.length = n6 at hv6
              subst hv6
              refine hK'.out _ _ (.inr b6) ?_
              clear hK' K'
              try simp only [List.getElem_toArray, List.getElem_cons_succ, List.getElem_cons_zero, Act.put, List.setIfInBounds_toArray, List.set_cons_zero, List.set_cons_succ]
              refine wpAnyL_take 7 rfl (by kernel_rfl) (by kernel_rfl) (by kernel_rfl) (by kernel_rfl) (fun _ _ _ h => h) (by kernel_rfl) (by intro w' hS'; have hz := hS'; obtain ⟨c0, c1, c2, c3, c4⟩ := HCL.out _ hz; obtain ⟨c5, c6, c7, c8⟩ := HEL.out _ hz; go_simp <;> rfl) b6 ?_
              try simp only [List.getElem_toArray, List.getElem_cons_succ, List.getElem_cons_zero, Act.put, List.setIfInBounds_toArray, List.set_cons_zero, List.set_cons_succ]
              have hsz6 := b6.size
              have q66 := (b6.block (w.heap.size + 1) (by omega)).trans q55
              have x66 := (b6.block w.heap.size (by omega)).trans LB
              obtain ⟨⟨f0, f1, f2, f3, f4⟩, o0, o1, o2, o3, o4⟩ := lg_cells x66
              refine wpAnyL_one 8 (by kernel_rfl) rfl (by kernel_rfl) ?_
              intro K' hK'
              go_simp
              refine hK'.out _ _ (.inl (by decide)) ?_
              clear hK' K'
              try simp only [List.getElem_toArray, List.getElem_cons_succ, List.getElem_cons_zero, Act.put, List.setIfInBounds_toArray, List.set_cons_zero, List.set_cons_succ]
              refine wpAnyL_done (by kernel_rfl) (NoPanic.normal ?_) _
              have x77 := lg_set4 x66 (.slice va6 n6 vc6)
              have q77 : (W6.setCell ⟨w.heap.size, 4, none⟩ (.slice va6 n6 vc6)).heap[w.heap.size + 1]? = _ := (set_far (by omega) _).trans q66
              have hb77 := (hbw5.trans (b6.mono hbw5.size)).setCell (p := ⟨w.heap.size, 4, none⟩) (Nat.le_refl _) (.slice va6 n6 vc6)
              have OH : Hid (Ow _ _ _ _ _ _) := O6.far (g := w.heap.size) (i := 4) (by omega) (.slice va6 n6 vc6)
              clear f0 f1 f2 f3 f4 o0 o1 o2 o3 o4 x66 q66 O6 k6 b6 hL6 HL5 HCL HEL LB q55 hsz6 c0 c1 c2 c3 c4
              generalize W6.setCell ⟨w.heap.size, 4, none⟩ (.slice va6 n6 vc6) = W7 at *
              obtain ⟨⟨f0, f1, f2, f3, f4⟩, o0, o1, o2, o3, o4⟩ := lg_cells x77
              obtain ⟨⟨f0', f1', f2', f3', f4'⟩, o0', o1', o2', o3', o4'⟩ := lg_cells q77
              have HF := lg_set q77 (.int .u64 (ix : Int)) (.int .u64 (tm : Int)) (.int .i64 kd) (.slice sa sn sc) (.slice va6 n6 vc6)
              have hbf := lg_set_below hb77 (g := w.heap.size + 1) (by omega) (.int .u64 (ix : Int)) (.int .u64 (tm : Int)) (.int .i64 kd) (.slice sa sn sc) (.slice va6 n6 vc6)
              go_wp2
              (try simp only [Exit.inBlock, Exit.then])
              refine bodyPost_ret (results_lg rfl _ _ (w.heap.size + 1) _ _ _ _ _ rfl HF) rfl ?_
              exact ⟨hfin.out _ _ hbf (((((OH.out.far (by omega) _).far (by omega) _).far (by omega) _).far (by omega) _).far (by omega) _).1, hbf⟩
            · intro K' hK'
              go_simp
              have b5 : (fun W => Below w5.heap.size w5 W) (W0.alloc (.cells #[.int .u64 (lj : Int), .int .u64 (tt : Int), .int .i64 kk, .slice da dn dc] 25)) := Below.alloc b0 (Below.size b0) (.cells #[.int .u64 (lj : Int), .int .u64 (tt : Int), .int .i64 kk, .slice da dn dc] 25)
              have R5 : Rk entE (W0.alloc (.cells #[.int .u64 (lj : Int), .int .u64 (tt : Int), .int .i64 kk, .slice da dn dc] 25)) 25 (.slice (some ⟨W0.heap.size, 0, none⟩) 1 1) [((⟨lj, tt, kk, dd⟩, da, dn, dc) : Ez)] := Rk.made (E := entE) (xs := [((⟨lj, tt, kk, dd⟩, da, dn, dc) : Ez)]) (heap_alloc_new _ _) rfl (by unfold maxLen; simp)
              have k5 : Below W0.heap.size W0 (W0.alloc (.cells #[.int .u64 (lj : Int), .int .u64 (tt : Int), .int .i64 kk, .slice da dn dc] 25)) := (Below.refl _ _).alloc (Nat.le_refl _) _
              have z5 : Hid ((W0.alloc (.cells #[.int .u64 (lj : Int), .int .u64 (tt : Int), .int .i64 kk, .slice da dn dc] 25)).heap.size = W0.heap.size + 1) := by show _ = _; simp
              refine hK'.out _ _ (.inr b5) ?_
              clear hK' K'
              try simp only [List.getElem_toArray, List.getElem_cons_succ, List.getElem_cons_zero, Act.put, List.setIfInBounds_toArray, List.set_cons_zero, List.set_cons_succ]
              generalize W0.alloc (.cells #[.int .u64 (lj : Int), .int .u64 (tt : Int), .int .i64 kk, .slice da dn dc] 25) = W5 at *
              refine wpAnyL_one 3 (by kernel_rfl) rfl (by kernel_rfl) ?_
              intro K' hK'
              have r3H : Hid _ := app_ents (Ow.ow1 (O0.below k5)) (HL5.out _ b5) (by simp) hzl9
              refine op_by _ _ _ rfl _ _ rfl rfl r3H.out ?_
              intro v3 W3 p3
              rw [List.nil_append] at p3
              obtain ⟨O3, k3⟩ := Ow.push (O0.below k5) (Below.size b5) p3
              have b3 : (fun W => Below w5.heap.size w5 W) W3 := Below.trans b5 k3
              have R5' := R5.same (w' := W3) fun k hk => p3.2.1.block k (R5.lt hk) fun e => by
                cases hk
                have e' : W0.heap.size = wd.heap.size := Option.some.inj e
                have := z0.out
                omega
              clear p3 r3H
              obtain ⟨va3, vc3, hv3, -⟩ := O3.1.shape
              subst hv3
              refine hK'.out _ _ (.inr b3) ?_
              clear hK' K'
              try simp only [List.getElem_toArray, List.getElem_cons_succ, List.getElem_cons_zero, Act.put, List.setIfInBounds_toArray, List.set_cons_zero, List.set_cons_succ]
              refine wpAnyL_one 6 (by kernel_rfl) rfl (by kernel_rfl) ?_
              intro K' hK'
              have r6H : Hid _ := app_ents (Ow.ow1 O3) R5'.rd hzl9 (by simp)
              refine op_by _ _ _ rfl _ _ rfl rfl r6H.out ?_
              intro v6 W6 p6
              obtain ⟨O6, k6⟩ := Ow.push O3 (Below.size b3) p6
              have b6 : (fun W => Below w5.heap.size w5 W) W6 := Below.trans b3 k6
              clear p6 r6H
              generalize hL6 : zs ++ [((⟨lj, tt, kk, dd⟩, da, dn, dc) : Ez)] = L6 at *
              obtain ⟨va6, vc6, hv6, -⟩ := O6.1.shape
              generalize L6.length = n6 at hv6
              subst hv6
              refine hK'.out _ _ (.inr b6) ?_
              clear hK' K'
              try simp only [List.getElem_toArray, List.getElem_cons_succ, List.getElem_cons_zero, Act.put, List.setIfInBounds_toArray, List.set_cons_zero, List.set_cons_succ]
              refine wpAnyL_take 7 rfl (by kernel_rfl) (by kernel_rfl) (by kernel_rfl) (by kernel_rfl) (fun _ _ _ h => h) (by kernel_rfl) (by intro w' hS'; have hz := hS'; obtain ⟨c0, c1, c2, c3, c4⟩ := HCL.out _ hz; obtain ⟨c5, c6, c7, c8⟩ := HEL.out _ hz; go_simp <;> rfl) b6 ?_
              try simp only [List.getElem_toArray, List.getElem_cons_succ, List.getElem_cons_zero, Act.put, List.setIfInBounds_toArray, List.set_cons_zero, List.set_cons_succ]
              have hsz6 := b6.size
              have q66 := (b6.block (w.heap.size + 1) (by omega)).trans q55
              have x66 := (b6.block w.heap.size (by omega)).trans LB
              obtain ⟨⟨f0, f1, f2, f3, f4⟩, o0, o1, o2, o3, o4⟩ := lg_cells x66
              refine wpAnyL_one 8 (by kernel_rfl) rfl (by kernel_rfl) ?_
              intro K' hK'
              go_simp
              refine hK'.out _ _ (.inl (by decide)) ?_
              clear hK' K'
              try simp only [List.getElem_toArray, List.getElem_cons_succ, List.getElem_cons_zero, Act.put, List.setIfInBounds_toArray, List.set_cons_zero, List.set_cons_succ]
              refine wpAnyL_done (by kernel_rfl) (NoPanic.normal ?_) _
              have x77 := lg_set4 x66 (.slice va6 n6 vc6)
              have q77 : (W6.setCell ⟨w.heap.size, 4, none⟩ (.slice va6 n6 vc6)).heap[w.heap.size + 1]? = _ := (set_far (by omega) _).trans q66
              have hb77 := (hbw5.trans (b6.mono hbw5.size)).setCell (p := ⟨w.heap.size, 4, none⟩) (Nat.le_refl _) (.slice va6 n6 vc6)
              have OH : Hid (Ow _ _ _ _ _ _) := O6.far (g := w.heap.size) (i := 4) (by omega) (.slice va6 n6 vc6)
              clear f0 f1 f2 f3 f4 o0 o1 o2 o3 o4 x66 q66 O6 k6 b6 hL6 HL5 HCL HEL LB q55 hsz6 c0 c1 c2 c3 c4
              generalize W6.setCell ⟨w.heap.size, 4, none⟩ (.slice va6 n6 vc6) = W7 at *
              obtain ⟨⟨f0, f1, f2, f3, f4⟩, o0, o1, o2, o3, o4⟩ := lg_cells x77
              obtain ⟨⟨f0', f1', f2', f3', f4'⟩, o0', o1', o2', o3', o4'⟩ := lg_cells q77
              have HF := lg_set q77 (.int .u64 (ix : Int)) (.int .u64 (tm : Int)) (.int .i64 kd) (.slice sa sn sc) (.slice va6 n6 vc6)
              have hbf := lg_set_below hb77 (g := w.heap.size + 1) (by omega) (.int .u64 (ix : Int)) (.int .u64 (tm : Int)) (.int .i64 kd) (.slice sa sn sc) (.slice va6 n6 vc6)
              go_wp2
              (try simp only [Exit.inBlock, Exit.then])
              refine bodyPost_ret (results_lg rfl _ _ (w.heap.size + 1) _ _ _ _ _ rfl HF) rfl ?_
              exact ⟨hfin.out _ _ hbf (((((OH.out.far (by omega) _).far (by omega) _).far (by omega) _).far (by omega) _).far (by omega) _).1, hbf⟩
          · intro K' hK'
            go_simp
            have b5 : (fun W => Below w5.heap.size w5 W) (wd.alloc (.cells #[.int .u64 (lj : Int), .int .u64 (tt : Int), .int .i64 kk, .slice da dn dc] 25)) := Below.alloc hbd (Below.size hbd) (.cells #[.int .u64 (lj : Int), .int .u64 (tt : Int), .int .i64 kk, .slice da dn dc] 25)
            have R5 : Rk entE (wd.alloc (.cells #[.int .u64 (lj : Int), .int .u64 (tt : Int), .int .i64 kk, .slice da dn dc] 25)) 25 (.slice (some ⟨wd.heap.size, 0, none⟩) 1 1) [((⟨lj, tt, kk, dd⟩, da, dn, dc) : Ez)] := Rk.made (E := entE) (xs := [((⟨lj, tt, kk, dd⟩, da, dn, dc) : Ez)]) (heap_alloc_new _ _) rfl (by unfold maxLen; simp)
            have k5 : Below wd.heap.size wd (wd.alloc (.cells #[.int .u64 (lj : Int), .int .u64 (tt : Int), .int .i64 kk, .slice da dn dc] 25)) := (Below.refl _ _).alloc (Nat.le_refl _) _
            have z5 : Hid ((wd.alloc (.cells #[.int .u64 (lj : Int), .int .u64 (tt : Int), .int .i64 kk, .slice da dn dc] 25)).heap.size = wd.heap.size + 1) := by show _ = _; simp
            refine hK'.out _ _ (.inr b5) ?_
            clear hK' K'
            try simp only [List.getElem_toArray, List.getElem_cons_succ, List.getElem_cons_zero, Act.put, List.setIfInBounds_toArray, List.set_cons_zero, List.set_cons_succ]
            generalize wd.alloc (.cells #[.int .u64 (lj : Int), .int .u64 (tt : Int), .int .i64 kk, .slice da dn dc] 25) = W5 at *
            refine wpAnyL_one 0 (by kernel_rfl) rfl (by kernel_rfl) ?_
            intro K' hK'
            go_simp
            have b0 : (fun W => Below w5.heap.size w5 W) (W5.alloc (.cells #[] 25)) := Below.alloc b5 (Below.size b5) (.cells #[] 25)
            have O0 : Ow entE 25 w5.heap.size (W5.alloc (.cells #[] 25)) (.slice (some ⟨W5.heap.size, 0, none⟩) 0 0) [] := ⟨Rk.made (E := entE) (xs := []) (heap_alloc_new _ _) rfl (by unfold maxLen; simp), fun k hk => by cases hk; exact Below.size b5⟩
            have k0 : Below W5.heap.size W5 (W5.alloc (.cells #[] 25)) := (Below.refl _ _).alloc (Nat.le_refl _) _
            have z0 : Hid ((W5.alloc (.cells #[] 25)).heap.size = W5.heap.size + 1) := by show _ = _; simp
            refine hK'.out _ _ (.inr b0) ?_
            clear hK' K'
            try simp only [List.getElem_toArray, List.getElem_cons_succ, List.getElem_cons_zero, Act.put, List.setIfInBounds_toArray, List.set_cons_zero, List.set_cons_succ]
            generalize W5.alloc (.cells #[] 25) = W0 at *
            refine wpAnyL_one 3 (by kernel_rfl) rfl (by kernel_rfl) ?_
            intro K' hK'
            have r3H : Hid _ := app_ents (Ow.ow1 O0) (HL5.out _ b0) (by simp) hzl9
            refine op_by _ _ _ rfl _ _ rfl rfl r3H.out ?_
            intro v3 W3 p3
            rw [List.nil_append] at p3
            obtain ⟨O3, k3⟩ := Ow.push O0 (Below.size b0) p3
            have b3 : (fun W => Below w5.heap.size w5 W) W3 := Below.trans b0 k3
            have R5' := (R5.same fun k hk => k0.block k (R5.lt hk)).same (w' := W3) fun k hk => p3.2.1.block k (Nat.lt_of_lt_of_le (R5.lt hk) k0.size) fun e => by
              cases hk
              have e' : wd.heap.size = W5.heap.size := Option.some.inj e
              have := z5.out
              omega
            clear p3 r3H
            obtain ⟨va3, vc3, hv3, -⟩ := O3.1.shape
            subst hv3
            refine hK'.out _ _ (.inr b3) ?_
            clear hK' K'
            try simp only [List.getElem_toArray, List.getElem_cons_succ, List.getElem_cons_zero, Act.put, List.setIfInBounds_toArray, List.set_cons_zero, List.set_cons_succ]
            refine wpAnyL_one 6 (by kernel_rfl) rfl (by kernel_rfl) ?_
            intro K' hK'
            have r6H : Hid _ := app_ents (Ow.ow1 O3) R5'.rd hzl9 (by simp)
            refine op_by _ _ _ rfl _ _ rfl rfl r6H.out ?_
            intro v6 W6 p6
            obtain ⟨O6, k6⟩ := Ow.push O3 (Below.size b3) p6
            have b6 : (fun W => Below w5.heap.size w5 W) W6 := Below.trans b3 k6
            clear p6 r6H
            generalize hL6 : zs ++ [((⟨lj, tt, kk, dd⟩, da, dn, dc) : Ez)] = L6 at *
            obtain ⟨va6, vc6, hv6, -⟩ := O6.1.shape
            generalize L6.length = n6 at hv6
            subst hv6
            refine hK'.out _ _ (.inr b6) ?_
            clear hK' K'
            try simp only [List.getElem_toArray, List.getElem_cons_succ, List.getElem_cons_zero, Act.put, List.setIfInBounds_toArray, List.set_cons_zero, List.set_cons_succ]
            refine wpAnyL_take 7 rfl (by kernel_rfl) (by kernel_rfl) (by kernel_rfl) (by kernel_rfl) (fun _ _ _ h => h) (by kernel_rfl) (by intro w' hS'; have hz := hS'; obtain ⟨c0, c1, c2, c3, c4⟩ := HCL.out _ hz; obtain ⟨c5, c6, c7, c8⟩ := HEL.out _ hz; go_simp <;> rfl) b6 ?_
            try simp only [List.getElem_toArray, List.getElem_cons_succ, List.getElem_cons_zero, Act.put, List.setIfInBounds_toArray, List.set_cons_zero, List.set_cons_succ]
            have hsz6 := b6.size
            have q66 := (b6.block (w.heap.size + 1) (by omega)).trans q55
            have x66 := (b6.block w.heap.size (by omega)).trans LB
            obtain ⟨⟨f0, f1, f2, f3, f4⟩, o0, o1, o2, o3, o4⟩ := lg_cells x66
            refine wpAnyL_one 8 (by kernel_rfl) rfl (by kernel_rfl) ?_
            intro K' hK'
            go_simp
            refine hK'.out _ _ (.inl (by decide)) ?_
            clear hK' K'
            try simp only [List.getElem_toArray, List.getElem_cons_succ, List.getElem_cons_zero, Act.put, List.setIfInBounds_toArray, List.set_cons_zero, List.set_cons_succ]
            refine wpAnyL_done (by kernel_rfl) (NoPanic.normal ?_) _
            have x77 := lg_set4 x66 (.slice va6 n6 vc6)
            have q77 : (W6.setCell ⟨w.heap.size, 4, none⟩ (.slice va6 n6 vc6)).heap[w.heap.size + 1]? = _ := (set_far (by omega) _).trans q66
            have hb77 := (hbw5.trans (b6.mono hbw5.size)).setCell (p := ⟨w.heap.size, 4, none⟩) (Nat.le_refl _) (.slice va6 n6 vc6)
            have OH : Hid (Ow _ _ _ _ _ _) := O6.far (g := w.heap.size) (i := 4) (by omega) (.slice va6 n6 vc6)
            clear f0 f1 f2 f3 f4 o0 o1 o2 o3 o4 x66 q66 O6 k6 b6 hL6 HL5 HCL HEL LB q55 hsz6 c0 c1 c2 c3 c4
            generalize W6.setCell ⟨w.heap.size, 4, none⟩ (.slice va6 n6 vc6) = W7 at *
            obtain ⟨⟨f0, f1, f2, f3, f4⟩, o0, o1, o2, o3, o4⟩ := lg_cells x77
            obtain ⟨⟨f0', f1', f2', f3', f4'⟩, o0', o1', o2', o3', o4'⟩ := lg_cells q77
            have HF := lg_set q77 (.int .u64 (ix : Int)) (.int .u64 (tm : Int)) (.int .i64 kd) (.slice sa sn sc) (.slice va6 n6 vc6)
            have hbf := lg_set_below hb77 (g := w.heap.size + 1) (by omega) (.int .u64 (ix : Int)) (.int .u64 (tm : Int)) (.int .i64 kd) (.slice sa sn sc) (.slice va6 n6 vc6)
            go_wp2
            (try simp only [Exit.inBlock, Exit.then])
            refine bodyPost_ret (results_lg rfl _ _ (w.heap.size + 1) _ _ _ _ _ rfl HF) rfl ?_
            exact ⟨hfin.out _ _ hbf (((((OH.out.far (by omega) _).far (by omega) _).far (by omega) _).far (by omega) _).far (by omega) _).1, hbf⟩
end Go.Proofs.YtncoandnelgkeaaGreat

/- The document's Voters: a row of one's own. -/
namespace Go.Proofs.YtncoandnelgkeaaGreat
open Go.RowKit QuorumMath RlogMath
set_option maxRecDepth 100000
set_option linter.unusedSimpArgs false
set_option linter.unusedVariables false

set_option maxHeartbeats 4000000 in
theorem rvot_k (b : Ez) (zs : List Ez) (lv : Value) (w : World) (hD : DataV w b) (hL : EntsV w lv zs) (hbo : EzOk b) (hok : ∀ z ∈ zs, EzOk z) (hlen : zs.length ≤ 1000000000000) (hdl : b.1.data.length ≤ 1000000000) (hdz : ∀ z ∈ zs, z.1.data.length ≤ 1000000000) : Calls Tryz.prog 21 #[lgv b lv] w fun e w' => ∃ v, e = .returned v ∧ Rk intE w' 3 v (votM b.1 (mes zs)) ∧ Below w.heap.size w w' := by
  obtain ⟨R, HR⟩ : ∃ R, Hid (R = votM b.1 (mes zs)) := ⟨_, rfl⟩
  rw [← HR.out]
  obtain ⟨hs, hb0, cl⟩ := lg_box w b lv
  have kn := nodes_of b.1.data _ (w.alloc (lgc b lv)) (hD.below hb0) hdl hbo.2.2
  have kz := fun z (hz : z ∈ zs) W (hW : Below w.heap.size w W) => nodes_of z.1.data _ W ((hL.2 z hz).below hW) (hdz z hz) (hok z hz).2.2
  have hln := hD.len
  obtain ⟨la, lc, rfl, -, -⟩ := hL.1.shape
  obtain ⟨⟨ix, tm, kd, dt⟩, sa, sn, sc⟩ := b
  dsimp only [lgc] at *
  subst hln
  obtain ⟨c0, c1, c2, c3, c4⟩ := cl _ (Below.refl _ _)
  clear hD hbo hok hdl
  go_enter Tryz.func21, Tryz.ntmps21
  go_wp2_with fail
  refine kn.mono ?_
  rintro e w1 ⟨u, rfl, hO, hb1⟩
  rw [hs] at hb1
  have hRd := hO.1
  clear kn hO c0 c1 c2 c3 c4
  go_wp2
  go_loopg [3, 4] zs.length (fun gh s3 s4 wr => ∃ (k : Nat) (d : List Nat) (st : Value), k + gh = zs.length ∧ s4 = .int .i64 (k : Int) ∧ st = s3 ∧ Rk intE wr 3 st (nodesI d) ∧ Below (w.heap.size + 1) (w.alloc (.cells #[.int .u64 (ix : Int), .int .u64 (tm : Int), .int .i64 kd, .slice sa dt.length sc, .slice la zs.length lc] 28)) wr ∧ Hid (R = nodesI (votF d ((mes zs).drop k))))
  case atStart => exact ⟨0, dt, _, by simp, rfl, rfl, hRd, hb1, by rw [List.drop_zero]; exact HR⟩
  case round =>
    obtain ⟨k, d, st, hkg, rfl, rfl, hRs, hb2, HK⟩ := hrel
    have hb02 := hb0.trans (hb2.mono (Nat.le_succ _))
    obtain ⟨c0, c1, c2, c3, c4⟩ := cl wr hb2
    clear HR hRd hb1
    by_cases hlt : k < zs.length
    · have hlti : (k : Int) < (zs.length : Int) := by omega
      have hz : zs[k]? = some zs[k] := List.getElem?_eq_getElem hlt
      obtain ⟨z, hzz⟩ : ∃ z, z = zs[k] := ⟨_, rfl⟩
      rw [← hzz] at hz
      clear hzz
      obtain ⟨p, off, rfl, c⟩ := rde_at hL.1 hz
      obtain ⟨d0, d1, d2, d3⟩ := c _ hb02
      have hK := HK.out
      rw [votF_at (mes_at hz)] at hK
      have kz1 := kz z (List.mem_of_getElem? hz) wr hb02
      have hzl := (hL.2 z (List.mem_of_getElem? hz)).len
      obtain ⟨⟨ix2, tm2, kd2, dt2⟩, sa2, sn2, sc2⟩ := z
      dsimp only at d0 d1 d2 d3 hK kz1 hzl
      subst hzl
      by_cases hx : kd2 = 2
      · have E : Hid (R = nodesI (votF dt2 ((mes zs).drop (k + 1)))) := by show _ = _; rw [hK, if_pos hx]
        subst hx
        have hws : w.heap.size + 1 ≤ wr.heap.size := by have := hb2.size; omega
        clear hK HK hz c hL kz cl hdz
        go_wp2_with fail
        refine kz1.mono ?_
        rintro e w5 ⟨u5, rfl, hO5, hb5⟩
        have hb25 := hb2.trans (hb5.mono hws)
        have hR5 := hO5.1
        clear kz1 hO5
        go_wp2
        go_roundg (gk - 1)
        case measure => omega
        case rel => exact ⟨k + 1, dt2, u5, by omega, by go_num, rfl, hR5, hb25, E⟩
      · have E : Hid (R = nodesI (votF d ((mes zs).drop (k + 1)))) := by show _ = _; rw [hK, if_neg hx]
        have hxb : (kd2 == 2) = false := by simpa using hx
        clear hK HK hz c hL kz cl hdz kz1
        go_wp2
        go_roundg (gk - 1)
        case measure => omega
        case rel => exact ⟨k + 1, d, _, by omega, by go_num, rfl, hRs, hb2, E⟩
    · have hlti : ¬ (k : Int) < (zs.length : Int) := by omega
      have E : Hid (R = nodesI d) := by show _ = _; rw [HK.out, List.drop_eq_nil_of_le (by simp; omega)]; rfl
      rw [← E.out] at hRs
      clear HK hL cl kz hdz
      go_wp2
      go_ret
      exact ⟨_, rfl, hRs, hb02⟩
end Go.Proofs.YtncoandnelgkeaaGreat

