import Derived.Test.YtncoandnelgkeaaGreatHa11
/- The program's Append. -/
namespace RlogMath
open QuorumMath
theorem app_no {b : Me} {l : List Me} {t : Nat} {k : Int} {d : List Nat} (h : mayB b l = false) : appM b l t k d = (1, zeroMe, []) := by unfold appM; rw [h]; rfl
theorem app_low {b : Me} {l : List Me} {t : Nat} {k : Int} {d : List Nat} (h : t < (lastM b l).2) : appM b l t k d = (1, zeroMe, []) := by unfold appM; rw [decide_eq_false (by omega : ¬ (lastM b l).2 ≤ t), Bool.and_false]; rfl
theorem app_bad {b : Me} {l : List Me} {t : Nat} {k : Int} {d : List Nat} (h : entB ⟨(lastM b l).1 + 1, t, k, d⟩ = false) : appM b l t k d = (1, zeroMe, []) := by unfold appM; rw [h, Bool.and_false]; rfl
theorem app_full {b : Me} {l : List Me} {t : Nat} {k : Int} {d : List Nat} (h : mayB b l = true) (h2 : ¬ t < (lastM b l).2) (h3 : entB ⟨(lastM b l).1 + 1, t, k, d⟩ = true) (h4 : l.length = 4096 ∨ 4611686018427387904 ≤ (lastM b l).1) : appM b l t k d = (2, zeroMe, []) := by unfold appM; rw [h, h3, decide_eq_true (by omega : (lastM b l).2 ≤ t)]; rw [if_pos (by decide), if_pos h4]
theorem app_ok {b : Me} {l : List Me} {t : Nat} {k : Int} {d : List Nat} (h : mayB b l = true) (h2 : ¬ t < (lastM b l).2) (h3 : entB ⟨(lastM b l).1 + 1, t, k, d⟩ = true) (h4 : ¬ (l.length = 4096 ∨ 4611686018427387904 ≤ (lastM b l).1)) : appM b l t k d = (0, b, l ++ [⟨(lastM b l).1 + 1, t, k, d⟩]) := by unfold appM; rw [h, h3, decide_eq_true (by omega : (lastM b l).2 ≤ t)]; rw [if_pos (by decide), if_neg h4]
end RlogMath
namespace Go.Proofs.YtncoandnelgkeaaGreat
open Go.RowKit QuorumMath RlogMath
set_option maxRecDepth 100000
set_option linter.unusedSimpArgs false
set_option linter.unusedVariables false

/-- A row of lists that was just made. -/
theorem ls_made {w : World} {g : Nat} {p q : Sl} {X Y : List Ez} (hg : w.heap[g]? = some (.cells #[.slice p.1 p.2.1 p.2.2, .slice q.1 q.2.1 q.2.2] 26 (0, 0))) (hX : EntsV w (.slice p.1 p.2.1 p.2.2) X) (hY : EntsV w (.slice q.1 q.2.1 q.2.2) Y) : LsV w (.slice (some ⟨g, 0, none⟩) 2 2) [(p, X), (q, Y)] :=
  ⟨(Rk.made (E := slE) (xs := [p, q]) hg rfl (by unfold maxLen; simp)).rd, fun r hr => by
    simp only [List.mem_cons, List.not_mem_nil, or_false] at hr
    rcases hr with rfl | rfl
    · exact hX
    · exact hY⟩
theorem ent_made {w : World} {g : Nat} {z : Ez} (hg : w.heap[g]? = some (.cells #[.int .u64 (z.1.idx : Int), .int .u64 (z.1.term : Int), .int .i64 z.1.kind, .slice z.2.1 z.2.2.1 z.2.2.2] 25 (0, 0))) (hD : DataV w z) : EntsV w (.slice (some ⟨g, 0, none⟩) 1 1) [z] :=
  ⟨(Rk.made (E := entE) (xs := [z]) hg rfl (by unfold maxLen; simp)).rd, fun r hr => by
    simp only [List.mem_cons, List.not_mem_nil, or_false] at hr
    subst hr
    exact hD⟩

set_option maxHeartbeats 8000000 in
theorem papp_c (b : Ez) (zs : List Ez) (lv : Value) (tt : Nat) (kk : Int) (dd : List Nat) (ds : Sl) (w : World) (hD : DataV w b) (hL : EntsV w lv zs) (hbo : EzOk b) (hok : ∀ z ∈ zs, EzOk z) (hdd : Rd byteE w (.slice ds.1 ds.2.1 ds.2.2) dd) (hdc : ∀ c ∈ dd, c < 256) (hlen : zs.length ≤ 2000000) (hdl : b.1.data.length ≤ 1000000000) (hdz : ∀ z ∈ zs, z.1.data.length ≤ 1000000000) (hdn : dd.length ≤ 1000000000) : Calls Tryz.prog 100 #[lgv b lv, .int .u64 (tt : Int), .int .i64 kk, .slice ds.1 ds.2.1 ds.2.2] w fun e w' => LgC (appM b.1 (mes zs) tt kk dd) e w' ∧ Below w.heap.size w w' := by
  obtain ⟨R, HR⟩ : ∃ R, Hid (R = appM b.1 (mes zs) tt kk dd) := ⟨_, rfl⟩
  rw [← HR.out]
  obtain ⟨hs, hb0, cl⟩ := lg_box w b lv
  have kmH : Hid (∀ W, Below w.heap.size w W → _) := fun W hW => pcheck_of b zs lv W (hD.below hW) (hL.below hW) hbo hok (by omega) hdl
  have klH : Hid (∀ W, Below w.heap.size w W → _) := fun W hW => plast_of b zs lv W (hL.below hW) (by omega)
  have keH : Hid (∀ (i : Nat) W, Below w.heap.size w W → _) := fun i W hW => pentry_of i tt kk dd ds.1 ds.2.1 ds.2.2 W (Rd.below hdd hW) hdc
  have HDD : Hid (∀ (i : Nat) W, Below w.heap.size w W → DataV W (⟨i, tt, kk, dd⟩, ds)) := fun i W hW => Rd.below hdd hW
  have hsn : EntsV w lv zs := hL
  obtain ⟨la, lc, rfl, -, -⟩ := hL.1.shape
  have kgH : Hid (∀ (i : Nat) (g : Nat) W, Below w.heap.size w W → W.heap[g]? = some (.cells #[.int .u64 (i : Int), .int .u64 (tt : Int), .int .i64 kk, .slice ds.1 ds.2.1 ds.2.2] 25 (0, 0)) → ∀ h, W.heap[h]? = some (.cells #[.slice la zs.length lc, .slice (some ⟨g, 0, none⟩) 1 1] 26 (0, 0)) → Calls Tryz.prog 109 #[ev b, .slice (some ⟨h, 0, none⟩) 2 2] W fun e w' => ∃ v, e = .returned v ∧ LogC W.heap.size w' v b.1 (mes zs ++ [⟨i, tt, kk, dd⟩]) ∧ Below W.heap.size W w') := fun i g W hW hg h hh => by
    have k := logOf_of b [((la, zs.length, lc), zs), ((some ⟨g, 0, none⟩, 1, 1), [((⟨i, tt, kk, dd⟩, ds) : Ez)])] (.slice (some ⟨h, 0, none⟩) 2 2) W (hD.below hW) (ls_made hh (hsn.below hW) (ent_made (z := (⟨i, tt, kk, dd⟩, ds)) hg (HDD.out i W hW))) hdl (by simp) (by simp; omega) (by
      intro p hp z hz
      simp only [List.mem_cons, List.not_mem_nil, or_false] at hp
      rcases hp with rfl | rfl
      · exact hdz z hz
      · simp only [List.mem_cons, List.not_mem_nil, or_false] at hz
        subst hz
        exact hdn) (by simp [flatL]; omega)
    have e : mes (flatL [((la, zs.length, lc), zs), ((some ⟨g, 0, none⟩, 1, 1), [((⟨i, tt, kk, dd⟩, ds) : Ez)])]) = mes zs ++ [⟨i, tt, kk, dd⟩] := by simp [flatL, mes]
    rw [e] at k
    exact k
  obtain ⟨q1, q2, q3⟩ := one_box (w.alloc (lgc b (.slice la zs.length lc))) (.cells #[.int .u64 0, .int .u64 0, .int .i64 0, .slice none 0 0, .slice none 0 0] 28)
  rw [hs] at q1 q2 q3
  have hb2 := hb0.trans (q3.mono (Nat.le_succ _))
  have kl := klH.out _ hb2
  have HN : Hid (mayB b.1 (mes zs) = false → R = _) := fun h => HR.out.trans (app_no h)
  have HO : Hid (tt < (lastM b.1 (mes zs)).2 → R = _) := fun h => HR.out.trans (app_low h)
  have HBd : Hid (entB ⟨(lastM b.1 (mes zs)).1 + 1, tt, kk, dd⟩ = false → R = _) := fun h => HR.out.trans (app_bad h)
  have HF : Hid (mayB b.1 (mes zs) = true → ¬ tt < (lastM b.1 (mes zs)).2 → entB ⟨(lastM b.1 (mes zs)).1 + 1, tt, kk, dd⟩ = true → ((mes zs).length = 4096 ∨ 4611686018427387904 ≤ (lastM b.1 (mes zs)).1) → R = _) := fun h h2 h3 h4 => HR.out.trans (app_full h h2 h3 h4)
  have HY : Hid (mayB b.1 (mes zs) = true → ¬ tt < (lastM b.1 (mes zs)).2 → entB ⟨(lastM b.1 (mes zs)).1 + 1, tt, kk, dd⟩ = true → ¬ ((mes zs).length = 4096 ∨ 4611686018427387904 ≤ (lastM b.1 (mes zs)).1) → R = _) := fun h h2 h3 h4 => HR.out.trans (app_ok h h2 h3 h4)
  have HLA : Hid (mayB b.1 (mes zs) = true → (lastM b.1 (mes zs)).1 ≤ 4611686018427392000 ∧ zs.length ≤ 4096) := fun h => by have := may_last h; simp [mes] at this; simp [mes]; omega
  have hml : (mes zs).length = zs.length := by simp [mes]
  rw [hml] at HF HY
  clear hD hL hok hbo HR klH hdd hdc hml hsn hdz HDD
  generalize mayB b.1 (mes zs) = B at *
  generalize lastM b.1 (mes zs) = LA at *
  obtain ⟨li, lt⟩ := LA
  generalize mes zs = MZ at *
  obtain ⟨⟨ix, tm, kd, dt⟩, sa, sn, sc⟩ := b
  obtain ⟨da, dn, dc⟩ := ds
  dsimp only [lgc, lgv, ev, lastV] at *
  obtain ⟨c0, c1, c2, c3, c4⟩ := cl _ q3
  go_enter Tryz.func100, Tryz.ntmps100
  go_wp2_with fail
  refine kl.mono ?_
  rintro e w2 ⟨rfl, hb21⟩
  rw [q1] at hb21
  have q22 := (hb21.block (w.heap.size + 1) (by omega)).trans q2
  have hA2 := q3.trans (hb21.mono (by omega))
  have hbw2 := hb2.trans (hb21.mono (by omega))
  obtain ⟨c0, c1, c2, c3, c4⟩ := cl w2 hA2
  have hsz2 : w.heap.size + 2 ≤ w2.heap.size := by have := hb21.size; omega
  have km := kmH.out w2 hbw2
  clear kl q1 q2 q3 hb2 hb21 kmH
  go_wp2_with fail
  refine km.mono ?_
  rintro e w3 ⟨rfl, hb32⟩
  have q33 := (hb32.block (w.heap.size + 1) (by omega)).trans q22
  have hbw3 := hbw2.trans (hb32.mono hbw2.size)
  have hA3 := hA2.trans (hb32.mono (by omega))
  have hsz3 : w.heap.size + 2 ≤ w3.heap.size := by have := hb32.size; omega
  obtain ⟨c0, c1, c2, c3, c4⟩ := cl w3 hA3
  clear km hb32 hbw2 hA2 q22 hsz2
  cases B with
  | false =>
    have E : Hid (_ = _) := HN.out rfl
    clear HN HO HBd HF HY keH kgH cl HLA
    dsimp only [codeB]
    obtain ⟨⟨f0, f1, f2, f3, f4⟩, o0, o1, o2, o3, o4⟩ := lg_cells q33
    go_wp2
    (try simp only [Exit.inBlock, Exit.then])
    refine bodyPost_ret (results_lg rfl _ _ (w.heap.size + 1) _ _ _ _ _ rfl (lg_set q33 _ _ _ _ _)) rfl ?_
    exact ⟨lgc_none _ E.out, lg_set_below hbw3 (by omega) _ _ _ _ _⟩
  | true =>
    obtain ⟨hli, hzl⟩ := HLA.out rfl
    obtain ⟨lj, hlj⟩ : ∃ lj, lj = li + 1 := ⟨_, rfl⟩
    have hwr : IntKind.u64.wrap ((li : Int) + 1) = (lj : Int) := by rw [IntWalk.u64_in _ (by omega)]; omega
    rw [← hlj] at HBd HF HY
    clear hlj HLA HN
    dsimp only [codeB]
    by_cases hlow : tt < lt
    · have hlowi : (tt : Int) < (lt : Int) := by omega
      have E : Hid (_ = _) := HO.out hlow
      clear HO HBd HF HY keH kgH cl
      obtain ⟨⟨f0, f1, f2, f3, f4⟩, o0, o1, o2, o3, o4⟩ := lg_cells q33
      go_wp2
      (try simp only [Exit.inBlock, Exit.then])
      refine bodyPost_ret (results_lg rfl _ _ (w.heap.size + 1) _ _ _ _ _ rfl (lg_set q33 _ _ _ _ _)) rfl ?_
      exact ⟨lgc_none _ E.out, lg_set_below hbw3 (by omega) _ _ _ _ _⟩
    · have hlowi : ¬ (tt : Int) < (lt : Int) := by omega
      have ke := keH.out lj w3 hbw3
      clear keH HO c0 c1 c2 c3 c4
      go_wp2_with fail
      refine ke.mono ?_
      rintro e w5 ⟨rfl, hb53⟩
      have q55 := (hb53.block (w.heap.size + 1) (by omega)).trans q33
      have hbw5 := hbw3.trans (hb53.mono hbw3.size)
      have hA5 := hA3.trans (hb53.mono (by omega))
      have hsz5 : w.heap.size + 2 ≤ w5.heap.size := by have := hb53.size; omega
      obtain ⟨c0, c1, c2, c3, c4⟩ := cl w5 hA5
      clear ke hb53 q33 hbw3 hA3
      cases hEB : entB ⟨lj, tt, kk, dd⟩ with
      | false =>
        have E : Hid (_ = _) := HBd.out hEB
        clear HBd HF HY kgH cl hEB
        obtain ⟨⟨f0, f1, f2, f3, f4⟩, o0, o1, o2, o3, o4⟩ := lg_cells q55
        go_wp2
        (try simp only [Exit.inBlock, Exit.then])
        refine bodyPost_ret (results_lg rfl _ _ (w.heap.size + 1) _ _ _ _ _ rfl (lg_set q55 _ _ _ _ _)) rfl ?_
        exact ⟨lgc_none _ E.out, lg_set_below hbw5 (by omega) _ _ _ _ _⟩
      | true =>
        by_cases hfu : zs.length = 4096 ∨ 4611686018427387904 ≤ li
        · have E : Hid (_ = _) := HF.out trivial hlow hEB hfu
          clear HBd HF HY kgH cl hEB
          by_cases h4 : zs.length = 4096
          · have h4b : (4096 : Int) ≤ (zs.length : Int) := by omega
            obtain ⟨⟨f0, f1, f2, f3, f4⟩, o0, o1, o2, o3, o4⟩ := lg_cells q55
            clear hfu h4
            go_wp2
            (try simp only [Exit.inBlock, Exit.then])
            refine bodyPost_ret (results_lg rfl _ _ (w.heap.size + 1) _ _ _ _ _ rfl (lg_set q55 _ _ _ _ _)) rfl ?_
            exact ⟨lgc_none _ E.out, lg_set_below hbw5 (by omega) _ _ _ _ _⟩
          · have h4b : ¬ (4096 : Int) ≤ (zs.length : Int) := by omega
            have h5i : (4611686018427387904 : Int) ≤ (li : Int) := by omega
            obtain ⟨⟨f0, f1, f2, f3, f4⟩, o0, o1, o2, o3, o4⟩ := lg_cells q55
            clear hfu h4
            go_wp2
            (try simp only [Exit.inBlock, Exit.then])
            refine bodyPost_ret (results_lg rfl _ _ (w.heap.size + 1) _ _ _ _ _ rfl (lg_set q55 _ _ _ _ _)) rfl ?_
            exact ⟨lgc_none _ E.out, lg_set_below hbw5 (by omega) _ _ _ _ _⟩
        · have E : Hid (_ = _) := HY.out trivial hlow hEB hfu
          have h4b : ¬ (4096 : Int) ≤ (zs.length : Int) := by omega
          have h5i : decide ((4611686018427387904 : Int) ≤ (li : Int)) = false := by simp; omega
          obtain ⟨x1, x2, x3⟩ := one_box w5 (.cells #[.int .u64 (lj : Int), .int .u64 (tt : Int), .int .i64 kk, .slice da dn dc] 25)
          obtain ⟨y1, y2, y3⟩ := one_box (w5.alloc (.cells #[.int .u64 (lj : Int), .int .u64 (tt : Int), .int .i64 kk, .slice da dn dc] 25)) (.cells #[.slice la zs.length lc, .slice (some ⟨w5.heap.size, 0, none⟩) 1 1] 26)
          rw [x1] at y1 y2 y3
          have x22 := (y3.block w5.heap.size (Nat.lt_succ_self _)).trans x2
          have hb57 := x3.trans (y3.mono (Nat.le_succ _))
          have hbw7 := hbw5.trans (hb57.mono hbw5.size)
          have q77 := (hb57.block (w.heap.size + 1) (by omega)).trans q55
          have kg := kgH.out lj w5.heap.size _ hbw7 x22 (w5.heap.size + 1) y2
          rw [y1] at kg
          clear HBd HF HY kgH cl hEB hfu x1 x2 x3 y1 y2 y3 x22 q55
          have HE := E
          clear E hli hlow
          go_wp2_with fail
          refine kg.mono ?_
          rintro e w8 ⟨v8, rfl, hC8, hb87⟩
          have q88 := (hb87.block (w.heap.size + 1) (by omega)).trans q77
          have hbw8 := hbw7.trans (hb87.mono (by omega))
          obtain ⟨⟨f0, f1, f2, f3, f4⟩, o0, o1, o2, o3, o4⟩ := lg_cells q88
          obtain ⟨⟨s8a, s8n, s8c⟩, cur8, st8, hv8, -, hCC⟩ := id hC8
          obtain ⟨ta8, tc8, hst8, -⟩ := hCC.1.1.shape
          generalize cur8.length = n8 at hst8
          dsimp only [lgv] at hv8
          have hfin : Hid _ := hC8.far5 q88 (by omega) (.int .u64 (ix : Int)) (.int .u64 (tm : Int)) (.int .i64 kd) (.slice s8a s8n s8c) st8
          subst hst8
          subst hv8
          clear kg hC8 hCC q77 hbw7 hb57 hb87
          go_wp2
          (try simp only [Exit.inBlock, Exit.then])
          refine bodyPost_ret (results_lg rfl _ _ (w.heap.size + 1) _ _ _ _ _ rfl (lg_set q88 _ _ _ _ _)) rfl ?_
          refine ⟨?_, lg_set_below hbw8 (by omega) _ _ _ _ _⟩
          rw [HE.out]
          exact ⟨_, rfl, LogC.mono hfin.out (Nat.zero_le _)⟩
end Go.Proofs.YtncoandnelgkeaaGreat

