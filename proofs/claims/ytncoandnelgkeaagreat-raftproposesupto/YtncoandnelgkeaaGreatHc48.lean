import Derived.Test.YtncoandnelgkeaaGreatHc13
import Derived.Test.YtncoandnelgkeaaGreatHc15
/- The program's Compact: copies. -/
namespace Go.Proofs.YtncoandnelgkeaaGreat
open Go.RowKit QuorumMath RlogMath
set_option maxRecDepth 100000
set_option linter.unusedSimpArgs false
set_option linter.unusedVariables false

set_option maxHeartbeats 16000000 in
theorem pcomp_c (b : Ez) (zs : List Ez) (lv : Value) (x : Nat) (w : World) (hD : DataV w b) (hL : EntsV w lv zs) (hbo : EzOk b) (hok : ∀ z ∈ zs, EzOk z) (hlen : zs.length ≤ 2000000) (hdl : b.1.data.length ≤ 1000000000) (hdz : ∀ z ∈ zs, z.1.data.length ≤ 1000000000) : Calls Tryz.prog 69 #[lgv b lv, .int .u64 (x : Int)] w fun e w' => LgC (compM b.1 (mes zs) x) e w' ∧ Below w.heap.size w w' := by
  obtain ⟨R, HR⟩ : ∃ R, Hid (R = compM b.1 (mes zs) x) := ⟨_, rfl⟩
  rw [← HR.out]
  obtain ⟨hs, hb0, cl⟩ := lg_box w b lv
  have kmH : Hid (∀ W, Below w.heap.size w W → _) := fun W hW => pcheck_of b zs lv W (hD.below hW) (hL.below hW) hbo hok (by omega) hdl
  have ktH : Hid (mayB b.1 (mes zs) = true → ∀ W, Below w.heap.size w W → _) := fun hm W hW => pterm_of b zs lv x W (hL.below hW) (by omega) hm
  obtain ⟨la, lc, rfl, hlc, -⟩ := hL.1.shape
  have kvH : Hid (∀ n : Nat, n ≤ zs.length → ∀ W, Below w.heap.size w W → Calls Tryz.prog 108 #[ev b, .slice la n lc] W fun e w' => ∃ s : Sl, e = .returned (.slice s.1 s.2.1 s.2.2) ∧ Rd byteE w (.slice s.1 s.2.1 s.2.2) (votF b.1.data ((mes zs).take n)) ∧ Below W.heap.size W w') := fun n hn W hW => by
    have k := lastv_of b (zs.take n) (.slice la n lc) w W hD (fun z hz => hL.2 z (List.mem_of_mem_take hz)) ((hL.below hW).front hn).1 (by rw [List.length_take]; omega)
    rw [show mes (zs.take n) = (mes zs).take n by simp [mes]] at k
    exact k
  have kgH : Hid (∀ (n t : Nat) (s : Sl), n ≤ zs.length → Rd byteE w (.slice s.1 s.2.1 s.2.2) (votF b.1.data ((mes zs).take n)) → ∀ W, Below w.heap.size w W → ∀ h, W.heap[h]? = some (.cells #[.slice (if lc = n then la else la.map (fun x => x.add (n * 4))) (zs.length - n) (lc - n)] 26 (0, 0)) → Calls Tryz.prog 109 #[.agg #[.int .u64 (x : Int), .int .u64 (t : Int), .int .i64 0, .slice s.1 s.2.1 s.2.2], .slice (some ⟨h, 0, none⟩) 1 1] W fun e w' => ∃ v, e = .returned v ∧ LogC W.heap.size w' v ⟨x, t, 0, votF b.1.data ((mes zs).take n)⟩ ((mes zs).drop n) ∧ Below W.heap.size W w') := fun n t s hn hs W hW h hh => by
    have hvl : (votF b.1.data ((mes zs).take n)).length ≤ 1000000000 := votF_len _ _ (fun e he => by
      obtain ⟨z, hz, rfl⟩ := List.mem_map.1 (List.mem_of_mem_take he)
      exact hdz z hz) hdl
    have k := logOf_of (⟨x, t, 0, votF b.1.data ((mes zs).take n)⟩, s) [(((if lc = n then la else la.map (fun x => x.add (n * 4))), zs.length - n, lc - n), zs.drop n)] (.slice (some ⟨h, 0, none⟩) 1 1) W (Rd.below hs hW) (ls_made1 hh ((hL.below hW).back hn)) hvl (by simp) (by simp; omega) (by
      intro p hp z hz
      simp only [List.mem_cons, List.not_mem_nil, or_false] at hp
      subst hp
      exact hdz z (List.mem_of_mem_drop hz)) (by simp [flatL]; omega)
    have e : mes (flatL [(((if lc = n then la else la.map (fun x => x.add (n * 4))), zs.length - n, lc - n), zs.drop n)]) = (mes zs).drop n := by simp [flatL, mes]
    rw [e] at k
    exact k
  obtain ⟨q1, q2, q3⟩ := one_box (w.alloc (lgc b (.slice la zs.length lc))) (.cells #[.int .u64 0, .int .u64 0, .int .i64 0, .slice none 0 0, .slice none 0 0] 28)
  rw [hs] at q1 q2 q3
  have hb2 := hb0.trans (q3.mono (Nat.le_succ _))
  have km := kmH.out _ hb2
  have HN : Hid (mayB b.1 (mes zs) = false → R = _) := fun h => HR.out.trans (comp_no h)
  have HO : Hid (mayB b.1 (mes zs) = true → x ≤ b.1.idx → R = _) := fun h h2 => HR.out.trans (comp_old h h2)
  have HG : Hid (mayB b.1 (mes zs) = true → ¬ x ≤ b.1.idx → termM b.1 (mes zs) x = none → R = _) := fun h h2 h3 => HR.out.trans (comp_gap h h2 h3)
  have HY : Hid (∀ t, mayB b.1 (mes zs) = true → ¬ x ≤ b.1.idx → termM b.1 (mes zs) x = some t → R = _ ∧ x - b.1.idx ≤ zs.length) := fun t h h2 h3 => ⟨HR.out.trans (comp_place h h2 h3), by have := (term_place h h3).2; simpa [mes] using this⟩
  clear hD hL hok hbo HR kmH hdz hdl
  generalize mayB b.1 (mes zs) = B at *
  generalize termM b.1 (mes zs) x = TM at *
  obtain ⟨⟨ix, tm, kd, dt⟩, sa, sn, sc⟩ := b
  dsimp only [lgc, lgv, ev] at *
  obtain ⟨c0, c1, c2, c3, c4⟩ := cl _ q3
  go_enter Tryz.func69, Tryz.ntmps69
  go_wp2_with fail
  refine km.mono ?_
  rintro e w2 ⟨rfl, hb21⟩
  rw [q1] at hb21
  have q22 := (hb21.block (w.heap.size + 1) (by omega)).trans q2
  have hA2 := q3.trans (hb21.mono (by omega))
  have hbw2 := hb2.trans (hb21.mono (by omega))
  obtain ⟨c0, c1, c2, c3, c4⟩ := cl w2 hA2
  have hsz2 : w.heap.size + 2 ≤ w2.heap.size := by have := hb21.size; omega
  clear km q1 q2 q3 hb2 hb21
  cases B with
  | false =>
    have E : Hid (_ = _) := HN.out rfl
    clear HN HO HG HY ktH kvH kgH cl
    dsimp only [codeB]
    obtain ⟨⟨f0, f1, f2, f3, f4⟩, o0, o1, o2, o3, o4⟩ := lg_cells q22
    go_wp2
    (try simp only [Exit.inBlock, Exit.then])
    refine bodyPost_ret (results_lg rfl _ _ (w.heap.size + 1) _ _ _ _ _ rfl (lg_set q22 _ _ _ _ _)) rfl ?_
    exact ⟨lgc_none _ E.out, lg_set_below hbw2 (by omega) _ _ _ _ _⟩
  | true =>
    have kt := ktH.out rfl w2 hbw2
    dsimp only [codeB]
    have HCL : Hid (∀ W, Below (w.heap.size + 1) w2 W → _) := fun W hW => cl W (hA2.trans hW)
    clear HN ktH cl hA2
    by_cases hold : x ≤ ix
    · have holdi : (x : Int) ≤ (ix : Int) := by omega
      have E : Hid (_ = _) := HO.out (by trivial) hold
      clear HO HG HY kvH kgH HCL kt
      obtain ⟨⟨f0, f1, f2, f3, f4⟩, o0, o1, o2, o3, o4⟩ := lg_cells q22
      go_wp2
      (try simp only [Exit.inBlock, Exit.then])
      refine bodyPost_ret (results_lg rfl _ _ (w.heap.size + 1) _ _ _ _ _ rfl (lg_set q22 _ _ _ _ _)) rfl ?_
      exact ⟨lgc_none _ E.out, lg_set_below hbw2 (by omega) _ _ _ _ _⟩
    · have holdi : ¬ (x : Int) ≤ (ix : Int) := by omega
      clear HO
      go_wp2_with fail
      refine kt.mono ?_
      rintro e w4 ⟨rfl, hb42⟩
      have q44 := (hb42.block (w.heap.size + 1) (by omega)).trans q22
      have hbw4 := hbw2.trans (hb42.mono hbw2.size)
      have hA4 : Below (w.heap.size + 1) w2 w4 := hb42.mono (by omega)
      have hsz4 : w.heap.size + 2 ≤ w4.heap.size := by have := hb42.size; omega
      obtain ⟨c0, c1, c2, c3, c4⟩ := HCL.out w4 hA4
      clear kt hb42 hbw2 q22
      cases TM with
      | none =>
        have E : Hid (_ = _) := HG.out (by trivial) hold (by trivial)
        clear HG HY kvH kgH HCL
        dsimp only [termV]
        obtain ⟨⟨f0, f1, f2, f3, f4⟩, o0, o1, o2, o3, o4⟩ := lg_cells q44
        go_wp2
        (try simp only [Exit.inBlock, Exit.then])
        refine bodyPost_ret (results_lg rfl _ _ (w.heap.size + 1) _ _ _ _ _ rfl (lg_set q44 _ _ _ _ _)) rfl ?_
        exact ⟨lgc_none _ E.out, lg_set_below hbw4 (by omega) _ _ _ _ _⟩
      | some t =>
        obtain ⟨E0, hnl⟩ := HY.out t (by trivial) hold (by trivial)
        dsimp only [termV]
        obtain ⟨n, hn⟩ : ∃ n, n = x - ix := ⟨_, rfl⟩
        rw [← hn] at E0 hnl
        have E : Hid (_ = _) := E0
        have hxs : IntKind.u64.wrap ((x : Int) - (ix : Int)) = (n : Int) := by rw [IntWalk.u64_in _ (by omega)]; omega
        have hnw : IntKind.i64.wrap (n : Int) = (n : Int) := IntWalk.i64_in _ (by omega)
        have hni : (n : Int) ≤ (zs.length : Int) := by omega
        have hnc : (n : Int) ≤ (lc : Int) := by omega
        have kv2 : Hid _ := kvH.out n hnl
        have kg2 : Hid _ := fun (s : Sl) => kgH.out n t s hnl
        obtain ⟨AX, hAX⟩ : ∃ AX, (if lc = n then la else la.map (fun x => x.add (n * 4))) = AX := ⟨_, rfl⟩
        rw [hAX] at kg2
        have HCL4 : Hid (∀ W, Below (w.heap.size + 1) w4 W → _) := fun W hW => HCL.out W (hA4.trans hW)
        clear HCL HG HY kvH kgH E0 hn hA4
        have HCL := HCL4
        clear HCL4
        generalize votF dt ((mes zs).take n) = V at *
        go_wp2
        refine wp_region_L (fun W => Below (w.heap.size + 1) w4 W) [11] (by kernel_rfl) ?_
        have hbd : (fun W => Below (w.heap.size + 1) w4 W) w4.drew := (Below.refl _ w4).drew
        have hszd : w.heap.size + 2 ≤ w4.drew.heap.size := hsz4
        have hbwd : Below w.heap.size w w4.drew := hbw4.drew
        have q4d : w4.drew.heap[w.heap.size + 1]? = _ := q44
        generalize w4.drew = wd at *
        clear q44 hbw4
        refine wpAnyL_take 0 rfl (by kernel_rfl) (by kernel_rfl) (by kernel_rfl) (by kernel_rfl) (fun _ _ _ h => h) (by kernel_rfl) (by intro w' hS'; have hz := hS'; obtain ⟨c0, c1, c2, c3, c4⟩ := HCL.out _ hz; go_simp <;> rfl) hbd ?_
        try simp only [List.getElem_toArray, List.getElem_cons_succ, List.getElem_cons_zero, Act.put, List.setIfInBounds_toArray, List.set_cons_zero, List.set_cons_succ]
        refine wpAnyL_take 1 rfl (by kernel_rfl) (by kernel_rfl) (by kernel_rfl) (by kernel_rfl) (fun _ _ _ h => h) (by kernel_rfl) (by intro w' hS'; have hz := hS'; obtain ⟨c0, c1, c2, c3, c4⟩ := HCL.out _ hz; go_simp <;> rfl) hbd ?_
        try simp only [List.getElem_toArray, List.getElem_cons_succ, List.getElem_cons_zero, Act.put, List.setIfInBounds_toArray, List.set_cons_zero, List.set_cons_succ]
        refine wpAnyL_take 2 rfl (by kernel_rfl) (by kernel_rfl) (by kernel_rfl) (by kernel_rfl) (fun _ _ _ h => h) (by kernel_rfl) (by intro w' hS'; have hz := hS'; obtain ⟨c0, c1, c2, c3, c4⟩ := HCL.out _ hz; go_simp <;> rfl) hbd ?_
        try simp only [List.getElem_toArray, List.getElem_cons_succ, List.getElem_cons_zero, Act.put, List.setIfInBounds_toArray, List.set_cons_zero, List.set_cons_succ]
        refine wpAnyL_take 3 rfl (by kernel_rfl) (by kernel_rfl) (by kernel_rfl) (by kernel_rfl) (fun _ _ _ h => h) (by kernel_rfl) (by intro w' hS'; have hz := hS'; obtain ⟨c0, c1, c2, c3, c4⟩ := HCL.out _ hz; go_simp <;> rfl) hbd ?_
        try simp only [List.getElem_toArray, List.getElem_cons_succ, List.getElem_cons_zero, Act.put, List.setIfInBounds_toArray, List.set_cons_zero, List.set_cons_succ]
        refine wpAnyL_take 4 rfl (by kernel_rfl) (by kernel_rfl) (by kernel_rfl) (by kernel_rfl) (fun _ _ _ h => h) (by kernel_rfl) (by intro w' hS'; have hz := hS'; obtain ⟨c0, c1, c2, c3, c4⟩ := HCL.out _ hz; go_simp <;> rfl) hbd ?_
        try simp only [List.getElem_toArray, List.getElem_cons_succ, List.getElem_cons_zero, Act.put, List.setIfInBounds_toArray, List.set_cons_zero, List.set_cons_succ]
        refine wpAnyL_take 5 rfl (by kernel_rfl) (by kernel_rfl) (by kernel_rfl) (by kernel_rfl) (fun _ _ _ h => h) (by kernel_rfl) (by intro w' hS'; have hz := hS'; obtain ⟨c0, c1, c2, c3, c4⟩ := HCL.out _ hz; go_simp <;> rfl) hbd ?_
        try simp only [List.getElem_toArray, List.getElem_cons_succ, List.getElem_cons_zero, Act.put, List.setIfInBounds_toArray, List.set_cons_zero, List.set_cons_succ]
        refine wpAnyL_take 6 rfl (by kernel_rfl) (by kernel_rfl) (by kernel_rfl) (by kernel_rfl) (fun _ _ _ h => h) (by kernel_rfl) (by intro w' hS'; have hz := hS'; obtain ⟨c0, c1, c2, c3, c4⟩ := HCL.out _ hz; go_simp <;> rfl) hbd ?_
        try simp only [List.getElem_toArray, List.getElem_cons_succ, List.getElem_cons_zero, Act.put, List.setIfInBounds_toArray, List.set_cons_zero, List.set_cons_succ]
        refine wpAnyL_take 7 rfl (by kernel_rfl) (by kernel_rfl) (by kernel_rfl) (by kernel_rfl) (fun _ _ _ h => h) (by kernel_rfl) (by intro w' hS'; have hz := hS'; obtain ⟨c0, c1, c2, c3, c4⟩ := HCL.out _ hz; go_simp <;> rfl) hbd ?_
        try simp only [List.getElem_toArray, List.getElem_cons_succ, List.getElem_cons_zero, Act.put, List.setIfInBounds_toArray, List.set_cons_zero, List.set_cons_succ]
        refine wpAnyL_two 8 10 (by kernel_rfl) rfl rfl (by kernel_rfl) (by kernel_rfl) ?_ ?_
        · intro K' hK'
          go_simp
          go_at_call 108
          refine (kv2.out _ hbwd).mono ?_
          rintro e w8 ⟨⟨s8a, s8n, s8c⟩, rfl, hR8, hb8⟩
          dsimp only at *
          have hS8 : (fun W => Below (w.heap.size + 1) w4 W) w8 := hbd.trans (hb8.mono (by omega))
          refine hK'.out _ _ (.inr hS8) ?_
          clear hK' K'
          try simp only [List.getElem_toArray, List.getElem_cons_succ, List.getElem_cons_zero, Act.put, List.setIfInBounds_toArray, List.set_cons_zero, List.set_cons_succ]
          refine wpAnyL_take 9 rfl (by kernel_rfl) (by kernel_rfl) (by kernel_rfl) (by kernel_rfl) (fun _ _ _ h => h) (by kernel_rfl) (by intro w' hS'; have hz := hS'; obtain ⟨c0, c1, c2, c3, c4⟩ := HCL.out _ hz; go_simp <;> rfl) hS8 ?_
          try simp only [List.getElem_toArray, List.getElem_cons_succ, List.getElem_cons_zero, Act.put, List.setIfInBounds_toArray, List.set_cons_zero, List.set_cons_succ]
          refine wpAnyL_one 10 (by kernel_rfl) rfl (by kernel_rfl) ?_
          intro K' hK'
          go_simp
          have hSz : (fun W => Below (w.heap.size + 1) w4 W) (w8.alloc (.cells #[.int .u64 0, .int .u64 0, .int .i64 0, .slice none 0 0] 25)) := hS8.alloc (by have := hb8.size; omega) _
          refine hK'.out _ _ (.inr hSz) ?_
          clear hK' K'
          try simp only [List.getElem_toArray, List.getElem_cons_succ, List.getElem_cons_zero, Act.put, List.setIfInBounds_toArray, List.set_cons_zero, List.set_cons_succ]
          have hbw8 := hbwd.trans (hb8.mono hbwd.size)
          obtain ⟨g9, hg⟩ : ∃ g9, g9 = w8.heap.size := ⟨_, rfl⟩
          have hzg : (w8.alloc (.cells #[.int .u64 0, .int .u64 0, .int .i64 0, .slice none 0 0] 25)).heap[w8.heap.size]? = _ := heap_alloc_new _ _
          have hg9 : w.heap.size + 2 ≤ w8.heap.size := by have := hb8.size; omega
          have hbwz := hbw8.alloc hbw8.size (.cells #[.int .u64 0, .int .u64 0, .int .i64 0, .slice none 0 0] 25)
          have hBz : (fun W => Below (w.heap.size + 1) w4 W) _ := hSz
          have qz : (w8.alloc (.cells #[.int .u64 0, .int .u64 0, .int .i64 0, .slice none 0 0] 25)).heap[w.heap.size + 1]? = _ := (heap_alloc_old _ _ (by omega)).trans ((hb8.block (w.heap.size + 1) (by omega)).trans q4d)
          generalize w8.alloc (.cells #[.int .u64 0, .int .u64 0, .int .i64 0, .slice none 0 0] 25) = wz at *
          rw [← hg] at hzg hg9 ⊢
          obtain ⟨⟨f0, f1, f2, f3⟩, o0, o1, o2, o3⟩ := en_cells hzg
          clear hb8 hbw8 hS8 hSz hg q4d hbd hbwd
          refine wpAnyL_one 11 (by kernel_rfl) rfl (by kernel_rfl) ?_
          intro K' hK'
          go_simp
          refine hK'.out _ _ (.inl (by decide)) ?_
          clear hK' K'
          try simp only [List.getElem_toArray, List.getElem_cons_succ, List.getElem_cons_zero, Act.put, List.setIfInBounds_toArray, List.set_cons_zero, List.set_cons_succ]
          refine wpAnyL_done (by kernel_rfl) (NoPanic.normal ?_) _
          have hG9 := en_set hzg (.int .u64 (x : Int)) (.int .u64 (t : Int)) (.int .i64 0) (.slice s8a s8n s8c)
          have hb9 : Below (w.heap.size + 2) wz (((((wz).setCell ⟨g9, 0, none⟩ (.int .u64 (x : Int))).setCell ⟨g9, 1, none⟩ (.int .u64 (t : Int))).setCell ⟨g9, 2, none⟩ (.int .i64 0)).setCell ⟨g9, 3, none⟩ (.slice s8a s8n s8c)) := ((((Below.refl _ wz).setCell (p := ⟨g9, 0, none⟩) hg9 _).setCell (p := ⟨g9, 1, none⟩) hg9 _).setCell (p := ⟨g9, 2, none⟩) hg9 _).setCell (p := ⟨g9, 3, none⟩) hg9 _
          have hbw9 := hbwz.trans (hb9.mono (by omega))
          have hB9 : (fun W => Below (w.heap.size + 1) w4 W) _ := hBz.trans (hb9.mono (by omega))
          have q99 := (hb9.block (w.heap.size + 1) (by omega)).trans qz
          have hsz9 : g9 < (((((wz).setCell ⟨g9, 0, none⟩ (.int .u64 (x : Int))).setCell ⟨g9, 1, none⟩ (.int .u64 (t : Int))).setCell ⟨g9, 2, none⟩ (.int .i64 0)).setCell ⟨g9, 3, none⟩ (.slice s8a s8n s8c)).heap.size := (Array.getElem?_eq_some_iff.1 hG9).1
          go_wp2
          generalize (((((wz).setCell ⟨g9, 0, none⟩ (.int .u64 (x : Int))).setCell ⟨g9, 1, none⟩ (.int .u64 (t : Int))).setCell ⟨g9, 2, none⟩ (.int .i64 0)).setCell ⟨g9, 3, none⟩ (.slice s8a s8n s8c)) = w9 at *
          clear hzg hb9 hbwz hBz qz
          refine wp_region_L (fun W => Below (w.heap.size + 1) w9 W ∧ W.heap[g9]? = some (.cells #[.int .u64 (x : Int), .int .u64 (t : Int), .int .i64 0, .slice s8a s8n s8c] 25 (0, 0))) [] (by kernel_rfl) ?_
          have hbe : Below (w.heap.size + 1) w9 w9.drew := (Below.refl _ w9).drew
          have hGe : w9.drew.heap[g9]? = _ := hG9
          have hbwe : Below w.heap.size w w9.drew := hbw9.drew
          have qe : w9.drew.heap[w.heap.size + 1]? = _ := q99
          have hsze : g9 < w9.drew.heap.size := hsz9
          generalize w9.drew = wE at *
          obtain ⟨y1, y2, y3⟩ := one_box wE (.cells #[.slice AX (zs.length - n) (lc - n)] 26)
          have hbw7 := hbwe.trans (y3.mono hbwe.size)
          have kg := kg2.out (s8a, s8n, s8c) hR8 _ hbw7 wE.heap.size y2
          dsimp only at kg
          rw [y1] at kg
          have q77 := (y3.block (w.heap.size + 1) (by omega)).trans qe
          have hG7 := (y3.block g9 hsze).trans hGe
          have hS7 : (fun W => Below (w.heap.size + 1) w9 W ∧ W.heap[g9]? = some (.cells #[.int .u64 (x : Int), .int .u64 (t : Int), .int .i64 0, .slice s8a s8n s8c] 25 (0, 0))) (wE.alloc (.cells #[.slice AX (zs.length - n) (lc - n)] 26)) := ⟨hbe.trans (y3.mono (by omega)), hG7⟩
          clear y1 y2 y3 kg2 kv2 qe q99 hbw9
          have yS : (fun W => Below (w.heap.size + 1) w9 W ∧ W.heap[g9]? = some (.cells #[.int .u64 (x : Int), .int .u64 (t : Int), .int .i64 0, .slice s8a s8n s8c] 25 (0, 0))) wE := ⟨hbe, hGe⟩
          refine wpAnyL_take 0 rfl (by kernel_rfl) (by kernel_rfl) (by kernel_rfl) (by kernel_rfl) (fun _ _ _ h => h) (by kernel_rfl) (by intro w' hS'; obtain ⟨hz, hze⟩ := hS'; obtain ⟨-, e0, e1, e2, e3⟩ := en_cells hze; obtain ⟨c0, c1, c2, c3, c4⟩ := HCL.out _ (hB9.trans hz); go_simp <;> rfl) yS ?_
          try simp only [List.getElem_toArray, List.getElem_cons_succ, List.getElem_cons_zero, Act.put, List.setIfInBounds_toArray, List.set_cons_zero, List.set_cons_succ]
          refine wpAnyL_take 1 rfl (by kernel_rfl) (by kernel_rfl) (by kernel_rfl) (by kernel_rfl) (fun _ _ _ h => h) (by kernel_rfl) (by intro w' hS'; obtain ⟨hz, hze⟩ := hS'; obtain ⟨-, e0, e1, e2, e3⟩ := en_cells hze; obtain ⟨c0, c1, c2, c3, c4⟩ := HCL.out _ (hB9.trans hz); go_simp <;> rfl) yS ?_
          try simp only [List.getElem_toArray, List.getElem_cons_succ, List.getElem_cons_zero, Act.put, List.setIfInBounds_toArray, List.set_cons_zero, List.set_cons_succ]
          refine wpAnyL_take 2 rfl (by kernel_rfl) (by kernel_rfl) (by kernel_rfl) (by kernel_rfl) (fun _ _ _ h => h) (by kernel_rfl) (by intro w' hS'; obtain ⟨hz, hze⟩ := hS'; obtain ⟨-, e0, e1, e2, e3⟩ := en_cells hze; obtain ⟨c0, c1, c2, c3, c4⟩ := HCL.out _ (hB9.trans hz); go_simp <;> rfl) yS ?_
          try simp only [List.getElem_toArray, List.getElem_cons_succ, List.getElem_cons_zero, Act.put, List.setIfInBounds_toArray, List.set_cons_zero, List.set_cons_succ]
          refine wpAnyL_take 3 rfl (by kernel_rfl) (by kernel_rfl) (by kernel_rfl) (by kernel_rfl) (fun _ _ _ h => h) (by kernel_rfl) (by intro w' hS'; obtain ⟨hz, hze⟩ := hS'; obtain ⟨-, e0, e1, e2, e3⟩ := en_cells hze; obtain ⟨c0, c1, c2, c3, c4⟩ := HCL.out _ (hB9.trans hz); go_simp <;> rfl) yS ?_
          try simp only [List.getElem_toArray, List.getElem_cons_succ, List.getElem_cons_zero, Act.put, List.setIfInBounds_toArray, List.set_cons_zero, List.set_cons_succ]
          refine wpAnyL_take 4 rfl (by kernel_rfl) (by kernel_rfl) (by kernel_rfl) (by kernel_rfl) (fun _ _ _ h => h) (by kernel_rfl) (by intro w' hS'; obtain ⟨hz, hze⟩ := hS'; obtain ⟨-, e0, e1, e2, e3⟩ := en_cells hze; obtain ⟨c0, c1, c2, c3, c4⟩ := HCL.out _ (hB9.trans hz); go_simp <;> rfl) yS ?_
          try simp only [List.getElem_toArray, List.getElem_cons_succ, List.getElem_cons_zero, Act.put, List.setIfInBounds_toArray, List.set_cons_zero, List.set_cons_succ]
          refine wpAnyL_one 5 (by kernel_rfl) rfl (by kernel_rfl) ?_
          intro K' hK'
          go_simp
          refine hK'.out _ _ (.inr hS7) ?_
          clear hK' K'
          try simp only [List.getElem_toArray, List.getElem_cons_succ, List.getElem_cons_zero, Act.put, List.setIfInBounds_toArray, List.set_cons_zero, List.set_cons_succ]
          refine wpAnyL_one 6 (by kernel_rfl) rfl (by kernel_rfl) ?_
          intro K' hK'
          go_simp
          go_at_call 109
          refine kg.mono ?_
          rintro e wF ⟨vF, rfl, hCF, hbF⟩
          have hSF : (fun W => Below (w.heap.size + 1) w9 W ∧ W.heap[g9]? = some (.cells #[.int .u64 (x : Int), .int .u64 (t : Int), .int .i64 0, .slice s8a s8n s8c] 25 (0, 0))) wF := ⟨hS7.1.trans (hbF.mono (by omega)), (hbF.block g9 (by omega)).trans hS7.2⟩
          have qF := (hbF.block (w.heap.size + 1) (by omega)).trans q77
          have hbwF := hbw7.trans (hbF.mono (by omega))
          obtain ⟨⟨f0, f1, f2, f3, f4⟩, o0, o1, o2, o3, o4⟩ := lg_cells qF
          obtain ⟨⟨sFa, sFn, sFc⟩, curF, stF, hvF, -, hCC⟩ := id hCF
          obtain ⟨taF, tcF, hstF, -⟩ := hCC.1.1.shape
          generalize curF.length = nF at hstF
          dsimp only [lgv] at hvF
          have hfin : Hid _ := hCF.far5 qF (by omega) (.int .u64 (x : Int)) (.int .u64 (t : Int)) (.int .i64 0) (.slice sFa sFn sFc) stF
          subst hstF
          subst hvF
          have hbf := lg_set_below hSF.1 (g := w.heap.size + 1) (Nat.le_refl _) (.int .u64 (x : Int)) (.int .u64 (t : Int)) (.int .i64 0) (.slice sFa sFn sFc) (.slice taF nF tcF)
          have hbfw := lg_set_below hbwF (g := w.heap.size + 1) (by omega) (.int .u64 (x : Int)) (.int .u64 (t : Int)) (.int .i64 0) (.slice sFa sFn sFc) (.slice taF nF tcF)
          have HF := lg_set qF (.int .u64 (x : Int)) (.int .u64 (t : Int)) (.int .i64 0) (.slice sFa sFn sFc) (.slice taF nF tcF)
          have hGF : (((((wF.setCell ⟨w.heap.size + 1, 0, none⟩ (.int .u64 (x : Int))).setCell ⟨w.heap.size + 1, 1, none⟩ (.int .u64 (t : Int))).setCell ⟨w.heap.size + 1, 2, none⟩ (.int .i64 0)).setCell ⟨w.heap.size + 1, 3, none⟩ (.slice sFa sFn sFc)).setCell ⟨w.heap.size + 1, 4, none⟩ (.slice taF nF tcF)).heap[g9]? = _ := (set_far (by omega) _).trans ((set_far (by omega) _).trans ((set_far (by omega) _).trans ((set_far (by omega) _).trans ((set_far (by omega) _).trans hSF.2))))
          have hSG : (fun W => Below (w.heap.size + 1) w9 W ∧ W.heap[g9]? = some (.cells #[.int .u64 (x : Int), .int .u64 (t : Int), .int .i64 0, .slice s8a s8n s8c] 25 (0, 0))) _ := ⟨hbf, hGF⟩
          clear kg hCF hCC q77 hbF
          refine hK'.out _ _ (.inr hSF) ?_
          clear hK' K'
          try simp only [List.getElem_toArray, List.getElem_cons_succ, List.getElem_cons_zero, Act.put, List.setIfInBounds_toArray, List.set_cons_zero, List.set_cons_succ]
          refine wpAnyL_one 7 (by kernel_rfl) rfl (by kernel_rfl) ?_
          intro K' hK'
          go_simp
          refine hK'.out _ _ (.inr hSG) ?_
          clear hK' K'
          try simp only [List.getElem_toArray, List.getElem_cons_succ, List.getElem_cons_zero, Act.put, List.setIfInBounds_toArray, List.set_cons_zero, List.set_cons_succ]
          refine wpAnyL_take 8 rfl (by kernel_rfl) (by kernel_rfl) (by kernel_rfl) (by kernel_rfl) (fun _ _ _ h => h) (by kernel_rfl) (by intro w' hS'; obtain ⟨hz, hze⟩ := hS'; obtain ⟨-, e0, e1, e2, e3⟩ := en_cells hze; obtain ⟨c0, c1, c2, c3, c4⟩ := HCL.out _ (hB9.trans hz); go_simp <;> rfl) hSG ?_
          try simp only [List.getElem_toArray, List.getElem_cons_succ, List.getElem_cons_zero, Act.put, List.setIfInBounds_toArray, List.set_cons_zero, List.set_cons_succ]
          refine wpAnyL_done (by kernel_rfl) (NoPanic.normal ?_) _
          go_wp2
          (try simp only [Exit.inBlock, Exit.then])
          refine bodyPost_ret (results_lg rfl _ _ (w.heap.size + 1) _ _ _ _ _ rfl HF) rfl ?_
          refine ⟨?_, hbfw⟩
          rw [E.out]
          exact ⟨_, rfl, LogC.mono hfin.out (Nat.zero_le _)⟩
        · intro K' hK'
          go_simp
          have hSz : (fun W => Below (w.heap.size + 1) w4 W) (wd.alloc (.cells #[.int .u64 0, .int .u64 0, .int .i64 0, .slice none 0 0] 25)) := hbd.alloc (by omega) _
          refine hK'.out _ _ (.inr hSz) ?_
          clear hK' K'
          try simp only [List.getElem_toArray, List.getElem_cons_succ, List.getElem_cons_zero, Act.put, List.setIfInBounds_toArray, List.set_cons_zero, List.set_cons_succ]
          obtain ⟨z1, z2, z3⟩ := one_box wd (.cells #[.int .u64 0, .int .u64 0, .int .i64 0, .slice none 0 0] 25)
          have hbwa := hbwd.trans (z3.mono hbwd.size)
          have qa := (z3.block (w.heap.size + 1) (by omega)).trans q4d
          have Z1 : Hid (_ = _) := z1
          clear z1
          refine wpAnyL_one 8 (by kernel_rfl) rfl (by kernel_rfl) ?_
          intro K' hK'
          go_simp
          go_at_call 108
          refine (kv2.out _ hbwa).mono ?_
          rintro e w8 ⟨⟨s8a, s8n, s8c⟩, rfl, hR8, hb8⟩
          dsimp only at *
          have hb8' : Below (wd.heap.size + 1) (wd.alloc (.cells #[.int .u64 0, .int .u64 0, .int .i64 0, .slice none 0 0] 25)) w8 := by rw [← Z1.out]; exact hb8
          have hS8 : (fun W => Below (w.heap.size + 1) w4 W) w8 := hSz.trans (hb8'.mono (by omega))
          refine hK'.out _ _ (.inr hS8) ?_
          clear hK' K'
          try simp only [List.getElem_toArray, List.getElem_cons_succ, List.getElem_cons_zero, Act.put, List.setIfInBounds_toArray, List.set_cons_zero, List.set_cons_succ]
          refine wpAnyL_take 9 rfl (by kernel_rfl) (by kernel_rfl) (by kernel_rfl) (by kernel_rfl) (fun _ _ _ h => h) (by kernel_rfl) (by intro w' hS'; have hz := hS'; obtain ⟨c0, c1, c2, c3, c4⟩ := HCL.out _ hz; go_simp <;> rfl) hS8 ?_
          try simp only [List.getElem_toArray, List.getElem_cons_succ, List.getElem_cons_zero, Act.put, List.setIfInBounds_toArray, List.set_cons_zero, List.set_cons_succ]
          obtain ⟨g9, hg⟩ : ∃ g9, g9 = wd.heap.size := ⟨_, rfl⟩
          have hzg := (hb8'.block wd.heap.size (Nat.lt_succ_self _)).trans z2
          have hg9 : w.heap.size + 2 ≤ wd.heap.size := hszd
          have hbwz := hbwa.trans (hb8'.mono (by omega))
          have hBz : (fun W => Below (w.heap.size + 1) w4 W) _ := hS8
          have qz := (hb8'.block (w.heap.size + 1) (by omega)).trans qa
          rw [← hg] at hzg hg9 ⊢
          obtain ⟨⟨f0, f1, f2, f3⟩, o0, o1, o2, o3⟩ := en_cells hzg
          clear hb8 hb8' hS8 hSz hg q4d hbd hbwd Z1 z2 z3 hbwa qa
          refine wpAnyL_one 11 (by kernel_rfl) rfl (by kernel_rfl) ?_
          intro K' hK'
          go_simp
          refine hK'.out _ _ (.inl (by decide)) ?_
          clear hK' K'
          try simp only [List.getElem_toArray, List.getElem_cons_succ, List.getElem_cons_zero, Act.put, List.setIfInBounds_toArray, List.set_cons_zero, List.set_cons_succ]
          refine wpAnyL_done (by kernel_rfl) (NoPanic.normal ?_) _
          have hG9 := en_set hzg (.int .u64 (x : Int)) (.int .u64 (t : Int)) (.int .i64 0) (.slice s8a s8n s8c)
          have hb9 : Below (w.heap.size + 2) w8 (((((w8).setCell ⟨g9, 0, none⟩ (.int .u64 (x : Int))).setCell ⟨g9, 1, none⟩ (.int .u64 (t : Int))).setCell ⟨g9, 2, none⟩ (.int .i64 0)).setCell ⟨g9, 3, none⟩ (.slice s8a s8n s8c)) := ((((Below.refl _ w8).setCell (p := ⟨g9, 0, none⟩) hg9 _).setCell (p := ⟨g9, 1, none⟩) hg9 _).setCell (p := ⟨g9, 2, none⟩) hg9 _).setCell (p := ⟨g9, 3, none⟩) hg9 _
          have hbw9 := hbwz.trans (hb9.mono (by omega))
          have hB9 : (fun W => Below (w.heap.size + 1) w4 W) _ := hBz.trans (hb9.mono (by omega))
          have q99 := (hb9.block (w.heap.size + 1) (by omega)).trans qz
          have hsz9 : g9 < (((((w8).setCell ⟨g9, 0, none⟩ (.int .u64 (x : Int))).setCell ⟨g9, 1, none⟩ (.int .u64 (t : Int))).setCell ⟨g9, 2, none⟩ (.int .i64 0)).setCell ⟨g9, 3, none⟩ (.slice s8a s8n s8c)).heap.size := (Array.getElem?_eq_some_iff.1 hG9).1
          go_wp2
          generalize (((((w8).setCell ⟨g9, 0, none⟩ (.int .u64 (x : Int))).setCell ⟨g9, 1, none⟩ (.int .u64 (t : Int))).setCell ⟨g9, 2, none⟩ (.int .i64 0)).setCell ⟨g9, 3, none⟩ (.slice s8a s8n s8c)) = w9 at *
          clear hzg hb9 hbwz hBz qz
          refine wp_region_L (fun W => Below (w.heap.size + 1) w9 W ∧ W.heap[g9]? = some (.cells #[.int .u64 (x : Int), .int .u64 (t : Int), .int .i64 0, .slice s8a s8n s8c] 25 (0, 0))) [] (by kernel_rfl) ?_
          have hbe : Below (w.heap.size + 1) w9 w9.drew := (Below.refl _ w9).drew
          have hGe : w9.drew.heap[g9]? = _ := hG9
          have hbwe : Below w.heap.size w w9.drew := hbw9.drew
          have qe : w9.drew.heap[w.heap.size + 1]? = _ := q99
          have hsze : g9 < w9.drew.heap.size := hsz9
          generalize w9.drew = wE at *
          obtain ⟨y1, y2, y3⟩ := one_box wE (.cells #[.slice AX (zs.length - n) (lc - n)] 26)
          have hbw7 := hbwe.trans (y3.mono hbwe.size)
          have kg := kg2.out (s8a, s8n, s8c) hR8 _ hbw7 wE.heap.size y2
          dsimp only at kg
          rw [y1] at kg
          have q77 := (y3.block (w.heap.size + 1) (by omega)).trans qe
          have hG7 := (y3.block g9 hsze).trans hGe
          have hS7 : (fun W => Below (w.heap.size + 1) w9 W ∧ W.heap[g9]? = some (.cells #[.int .u64 (x : Int), .int .u64 (t : Int), .int .i64 0, .slice s8a s8n s8c] 25 (0, 0))) (wE.alloc (.cells #[.slice AX (zs.length - n) (lc - n)] 26)) := ⟨hbe.trans (y3.mono (by omega)), hG7⟩
          clear y1 y2 y3 kg2 kv2 qe q99 hbw9
          have yS : (fun W => Below (w.heap.size + 1) w9 W ∧ W.heap[g9]? = some (.cells #[.int .u64 (x : Int), .int .u64 (t : Int), .int .i64 0, .slice s8a s8n s8c] 25 (0, 0))) wE := ⟨hbe, hGe⟩
          refine wpAnyL_take 0 rfl (by kernel_rfl) (by kernel_rfl) (by kernel_rfl) (by kernel_rfl) (fun _ _ _ h => h) (by kernel_rfl) (by intro w' hS'; obtain ⟨hz, hze⟩ := hS'; obtain ⟨-, e0, e1, e2, e3⟩ := en_cells hze; obtain ⟨c0, c1, c2, c3, c4⟩ := HCL.out _ (hB9.trans hz); go_simp <;> rfl) yS ?_
          try simp only [List.getElem_toArray, List.getElem_cons_succ, List.getElem_cons_zero, Act.put, List.setIfInBounds_toArray, List.set_cons_zero, List.set_cons_succ]
          refine wpAnyL_take 1 rfl (by kernel_rfl) (by kernel_rfl) (by kernel_rfl) (by kernel_rfl) (fun _ _ _ h => h) (by kernel_rfl) (by intro w' hS'; obtain ⟨hz, hze⟩ := hS'; obtain ⟨-, e0, e1, e2, e3⟩ := en_cells hze; obtain ⟨c0, c1, c2, c3, c4⟩ := HCL.out _ (hB9.trans hz); go_simp <;> rfl) yS ?_
          try simp only [List.getElem_toArray, List.getElem_cons_succ, List.getElem_cons_zero, Act.put, List.setIfInBounds_toArray, List.set_cons_zero, List.set_cons_succ]
          refine wpAnyL_take 2 rfl (by kernel_rfl) (by kernel_rfl) (by kernel_rfl) (by kernel_rfl) (fun _ _ _ h => h) (by kernel_rfl) (by intro w' hS'; obtain ⟨hz, hze⟩ := hS'; obtain ⟨-, e0, e1, e2, e3⟩ := en_cells hze; obtain ⟨c0, c1, c2, c3, c4⟩ := HCL.out _ (hB9.trans hz); go_simp <;> rfl) yS ?_
          try simp only [List.getElem_toArray, List.getElem_cons_succ, List.getElem_cons_zero, Act.put, List.setIfInBounds_toArray, List.set_cons_zero, List.set_cons_succ]
          refine wpAnyL_take 3 rfl (by kernel_rfl) (by kernel_rfl) (by kernel_rfl) (by kernel_rfl) (fun _ _ _ h => h) (by kernel_rfl) (by intro w' hS'; obtain ⟨hz, hze⟩ := hS'; obtain ⟨-, e0, e1, e2, e3⟩ := en_cells hze; obtain ⟨c0, c1, c2, c3, c4⟩ := HCL.out _ (hB9.trans hz); go_simp <;> rfl) yS ?_
          try simp only [List.getElem_toArray, List.getElem_cons_succ, List.getElem_cons_zero, Act.put, List.setIfInBounds_toArray, List.set_cons_zero, List.set_cons_succ]
          refine wpAnyL_take 4 rfl (by kernel_rfl) (by kernel_rfl) (by kernel_rfl) (by kernel_rfl) (fun _ _ _ h => h) (by kernel_rfl) (by intro w' hS'; obtain ⟨hz, hze⟩ := hS'; obtain ⟨-, e0, e1, e2, e3⟩ := en_cells hze; obtain ⟨c0, c1, c2, c3, c4⟩ := HCL.out _ (hB9.trans hz); go_simp <;> rfl) yS ?_
          try simp only [List.getElem_toArray, List.getElem_cons_succ, List.getElem_cons_zero, Act.put, List.setIfInBounds_toArray, List.set_cons_zero, List.set_cons_succ]
          refine wpAnyL_one 5 (by kernel_rfl) rfl (by kernel_rfl) ?_
          intro K' hK'
          go_simp
          refine hK'.out _ _ (.inr hS7) ?_
          clear hK' K'
          try simp only [List.getElem_toArray, List.getElem_cons_succ, List.getElem_cons_zero, Act.put, List.setIfInBounds_toArray, List.set_cons_zero, List.set_cons_succ]
          refine wpAnyL_one 6 (by kernel_rfl) rfl (by kernel_rfl) ?_
          intro K' hK'
          go_simp
          go_at_call 109
          refine kg.mono ?_
          rintro e wF ⟨vF, rfl, hCF, hbF⟩
          have hSF : (fun W => Below (w.heap.size + 1) w9 W ∧ W.heap[g9]? = some (.cells #[.int .u64 (x : Int), .int .u64 (t : Int), .int .i64 0, .slice s8a s8n s8c] 25 (0, 0))) wF := ⟨hS7.1.trans (hbF.mono (by omega)), (hbF.block g9 (by omega)).trans hS7.2⟩
          have qF := (hbF.block (w.heap.size + 1) (by omega)).trans q77
          have hbwF := hbw7.trans (hbF.mono (by omega))
          obtain ⟨⟨f0, f1, f2, f3, f4⟩, o0, o1, o2, o3, o4⟩ := lg_cells qF
          obtain ⟨⟨sFa, sFn, sFc⟩, curF, stF, hvF, -, hCC⟩ := id hCF
          obtain ⟨taF, tcF, hstF, -⟩ := hCC.1.1.shape
          generalize curF.length = nF at hstF
          dsimp only [lgv] at hvF
          have hfin : Hid _ := hCF.far5 qF (by omega) (.int .u64 (x : Int)) (.int .u64 (t : Int)) (.int .i64 0) (.slice sFa sFn sFc) stF
          subst hstF
          subst hvF
          have hbf := lg_set_below hSF.1 (g := w.heap.size + 1) (Nat.le_refl _) (.int .u64 (x : Int)) (.int .u64 (t : Int)) (.int .i64 0) (.slice sFa sFn sFc) (.slice taF nF tcF)
          have hbfw := lg_set_below hbwF (g := w.heap.size + 1) (by omega) (.int .u64 (x : Int)) (.int .u64 (t : Int)) (.int .i64 0) (.slice sFa sFn sFc) (.slice taF nF tcF)
          have HF := lg_set qF (.int .u64 (x : Int)) (.int .u64 (t : Int)) (.int .i64 0) (.slice sFa sFn sFc) (.slice taF nF tcF)
          have hGF : (((((wF.setCell ⟨w.heap.size + 1, 0, none⟩ (.int .u64 (x : Int))).setCell ⟨w.heap.size + 1, 1, none⟩ (.int .u64 (t : Int))).setCell ⟨w.heap.size + 1, 2, none⟩ (.int .i64 0)).setCell ⟨w.heap.size + 1, 3, none⟩ (.slice sFa sFn sFc)).setCell ⟨w.heap.size + 1, 4, none⟩ (.slice taF nF tcF)).heap[g9]? = _ := (set_far (by omega) _).trans ((set_far (by omega) _).trans ((set_far (by omega) _).trans ((set_far (by omega) _).trans ((set_far (by omega) _).trans hSF.2))))
          have hSG : (fun W => Below (w.heap.size + 1) w9 W ∧ W.heap[g9]? = some (.cells #[.int .u64 (x : Int), .int .u64 (t : Int), .int .i64 0, .slice s8a s8n s8c] 25 (0, 0))) _ := ⟨hbf, hGF⟩
          clear kg hCF hCC q77 hbF
          refine hK'.out _ _ (.inr hSF) ?_
          clear hK' K'
          try simp only [List.getElem_toArray, List.getElem_cons_succ, List.getElem_cons_zero, Act.put, List.setIfInBounds_toArray, List.set_cons_zero, List.set_cons_succ]
          refine wpAnyL_one 7 (by kernel_rfl) rfl (by kernel_rfl) ?_
          intro K' hK'
          go_simp
          refine hK'.out _ _ (.inr hSG) ?_
          clear hK' K'
          try simp only [List.getElem_toArray, List.getElem_cons_succ, List.getElem_cons_zero, Act.put, List.setIfInBounds_toArray, List.set_cons_zero, List.set_cons_succ]
          refine wpAnyL_take 8 rfl (by kernel_rfl) (by kernel_rfl) (by kernel_rfl) (by kernel_rfl) (fun _ _ _ h => h) (by kernel_rfl) (by intro w' hS'; obtain ⟨hz, hze⟩ := hS'; obtain ⟨-, e0, e1, e2, e3⟩ := en_cells hze; obtain ⟨c0, c1, c2, c3, c4⟩ := HCL.out _ (hB9.trans hz); go_simp <;> rfl) hSG ?_
          try simp only [List.getElem_toArray, List.getElem_cons_succ, List.getElem_cons_zero, Act.put, List.setIfInBounds_toArray, List.set_cons_zero, List.set_cons_succ]
          refine wpAnyL_done (by kernel_rfl) (NoPanic.normal ?_) _
          go_wp2
          (try simp only [Exit.inBlock, Exit.then])
          refine bodyPost_ret (results_lg rfl _ _ (w.heap.size + 1) _ _ _ _ _ rfl HF) rfl ?_
          refine ⟨?_, hbfw⟩
          rw [E.out]
          exact ⟨_, rfl, LogC.mono hfin.out (Nat.zero_le _)⟩
end Go.Proofs.YtncoandnelgkeaaGreat

/- What a leader's entries leave: plain mathematics. -/
namespace RlogMath
open QuorumMath
theorem term_at {b : Me} {l : List Me} (h : mayB b l = true) {j : Nat} {e : Me} (he : l[j]? = some e) : termM b l e.idx = some e.term := by
  have hi := may_num h he
  unfold termM
  rw [if_neg (by omega)]
  have hF : ∃ t, termF l e.idx = some t := by
    cases ht : termF l e.idx with
    | some t => exact ⟨t, rfl⟩
    | none =>
      exfalso
      have : ∀ (l : List Me), e ∈ l → termF l e.idx ≠ none := fun l => by
        induction l with
        | nil => intro h; simp at h
        | cons a l ih =>
          intro h
          rw [termF]
          split
          · simp
          · rename_i hne
            rw [List.mem_cons] at h
            rcases h with rfl | h
            · exact absurd rfl hne
            · exact ih h
      exact this l (List.mem_of_getElem? he) ht
  obtain ⟨t, ht⟩ := hF
  obtain ⟨k, e', h1, h2, h3⟩ := termF_in ht
  have h4 := may_num h h1
  have h5 : k = j := by omega
  subst h5
  rw [he] at h1
  cases h1
  rw [ht, h3]
end RlogMath

