import Derived.Test.YtncoandnelgkeaaGreatHb48
/- The program's mayBeEntries, mayBeSnap, CheckMsg. -/
namespace Go.Proofs.YtncoandnelgkeaaGreat
open Go.RowKit QuorumMath RlogMath RaftMath
set_option maxRecDepth 100000
set_option linter.unusedSimpArgs false
set_option linter.unusedVariables false

theorem r4_cells {w : World} {g : Nat} {c0 c1 c2 c3 : Value} {t : TypeId} (h : w.heap[g]? = some (.cells #[c0, c1, c2, c3] t (0, 0))) : True ∧ w.cell? ⟨g, 0, none⟩ = some c0 ∧ w.cell? ⟨g, 1, none⟩ = some c1 ∧ w.cell? ⟨g, 2, none⟩ = some c2 ∧ w.cell? ⟨g, 3, none⟩ = some c3 := ⟨trivial, by rw [cells_of_block h]; rfl, by rw [cells_of_block h]; rfl, by rw [cells_of_block h]; rfl, by rw [cells_of_block h]; rfl⟩
theorem any_mes {es : List Ez} {ents : List Me} (h : mes es = ents) (f : Me → Bool) : (es.any fun z => f z.1) = ents.any f := by
  rw [← h]
  unfold mes
  rw [List.any_map]
  rfl
set_option maxHeartbeats 8000000 in
theorem pents_of (n : Nat) (g : Gz) (w : World) (hG : MgV n w g) (heo : ∀ e ∈ g.m.ents, OkM e) (hel : g.m.ents.length ≤ 100000000) (hi : g.m.index < 18446744073709551616) (hp : g.m.prev < 18446744073709551616) : Calls Tryz.prog 42 #[gv g] w fun e w' => e = .returned (.bool (entsG g.m)) ∧ Below w.heap.size w w' := by
  obtain ⟨⟨mk, ms, md, mt, mi, mp, ents, mc, mo, mm, ⟨si, st, sk, sd⟩⟩, es, ⟨ea, en, ec⟩, ⟨sa, sn, sc⟩⟩ := g
  obtain ⟨B, HB⟩ : ∃ B, Hid (B = entsG ⟨mk, ms, md, mt, mi, mp, ents, mc, mo, mm, ⟨si, st, sk, sd⟩⟩) := ⟨_, rfl⟩
  rw [← HB.out]
  have HB : Hid (B = (decide (ents.length ≤ 16) && mayB ⟨mi, mp, 0, [1]⟩ ents && !(ents.any fun e => decide (mt < e.term)))) := HB
  dsimp only [gv] at *
  have hme : mes es = ents := hG.2.1
  have hzl : es.length = ents.length := by have := congrArg List.length hme; rwa [List.length_map] at this
  have hzo := okz_of hme heo
  obtain ⟨ea', ec', hes, -, -⟩ := hG.1.1.rd.shape
  simp only [slv, Value.slice.injEq] at hes
  obtain ⟨rfl, rfl, rfl⟩ := hes
  obtain ⟨z3, B1, B2, B3, hb1⟩ := three_box w (.cells #[.int .i64 mk, .int .i64 ms, .int .i64 md, .int .u64 (mt : Int), .int .u64 (mi : Int), .int .u64 (mp : Int), .slice ea es.length ec, .int .u64 (mc : Int), .bool mo, .int .u64 (mm : Int), .int .u64 (si : Int), .int .u64 (st : Int), .int .i64 sk, .slice sa sn sc] 34) (.cells #[.int .u8 1] 5) (.cells #[.int .u64 (mi : Int), .int .u64 (mp : Int), .int .i64 0, .slice (some ⟨w.heap.size + 1, 0, none⟩) 1 1] 25)
  have HD : Hid (∀ W, Below w.heap.size w W → W.heap[w.heap.size + 1]? = some (.cells #[.int .u8 1] 5) → DataV W (⟨mi, mp, 0, [1]⟩, (some ⟨w.heap.size + 1, 0, none⟩, 1, 1))) := fun W _ h => (Rk.made (E := byteE) (xs := [1]) h rfl (by unfold maxLen; simp)).rd
  have HKC : Hid (∀ W, Below w.heap.size w W → W.heap[w.heap.size + 1]? = some (.cells #[.int .u8 1] 5) → _) := fun W hW h => pcheck_of (⟨mi, mp, 0, [1]⟩, (some ⟨w.heap.size + 1, 0, none⟩, 1, 1)) es (.slice ea es.length ec) W (HD.out W hW h) (hG.1.below hW).v ⟨hi, hp, by simp⟩ (fun z hz => (hzo z hz).1) (by omega) (by simp)
  have HKA : Hid (∀ W, Below w.heap.size w W → W.cell? ⟨w.heap.size, 3, none⟩ = some (.int .u64 (mt : Int)) → _) := fun W hW hc => late_any es (.slice ea es.length ec) (.pointer (some ⟨w.heap.size, 0, none⟩)) (fun z => decide (mt < z.1.term)) W (hG.1.1.rd.below hW) (by omega) (fun z _ W' hW' => late_of ((hW'.cell (p := ⟨w.heap.size, 3, none⟩) (World.block_lt_of_cell? W _ hc)).trans hc) z)
  rw [any_mes hme (fun e => decide (mt < e.term))] at HKA
  rw [hme] at HKC
  have HEL : Hid (es.length = ents.length) := hzl
  rw [← HEL.out] at HB
  generalize (ents.any fun e => decide (mt < e.term)) = AN at *
  generalize mayB ⟨mi, mp, 0, [1]⟩ ents = MA at *
  have hels : es.length ≤ 100000000 := by omega
  generalize es.length = EN at *
  dsimp only [lgv] at *
  have k1 := HKC.out _ hb1 B2
  clear hG hme hzl hzo heo HD HKC HEL hi hp hel
  obtain ⟨-, o0, o1, o2, o3, o4, o5, o6, o7, o8, o9, o10, o11, o12, o13⟩ := r14_cells B1
  obtain ⟨-, e0, e1, e2, e3⟩ := r4_cells B3
  by_cases hl : EN ≤ 16
  · rw [decide_eq_true hl] at HB
    have hli : decide ((EN : Int) ≤ 16) = true := by simp; omega
    have HL : Hid _ := hl
    clear hl
    go_enter Tryz.func42, Tryz.ntmps42
    go_wp2_with fail
    refine k1.mono ?_
    rintro e w2 ⟨rfl, hb2⟩
    have C1 := (hb2.block w.heap.size (by omega)).trans B1
    have hb02 := hb1.trans (hb2.mono (by omega))
    clear k1 hb2 B1 B2 B3 hb1 z3 o0 o1 o2 o3 o4 o5 o6 o7 o8 o9 o10 o11 o12 o13 e0 e1 e2 e3
    obtain ⟨-, o0, o1, o2, o3, o4, o5, o6, o7, o8, o9, o10, o11, o12, o13⟩ := r14_cells C1
    cases MA with
    | false =>
      have E0 : Hid (B = false) := by show _ = _; rw [HB.out]; simp
      dsimp only [codeB]
      clear HB HKA
      go_wp2
      go_ret
      exact ⟨by rw [E0.out]; rfl, hb02⟩
    | true =>
      dsimp only [codeB]
      have k2 := HKA.out w2 hb02 o3
      have E0 : Hid (B = !AN) := by show _ = _; rw [HB.out]; simp
      clear HB HKA
      go_wp2_with fail
      refine k2.mono ?_
      rintro e w3 ⟨rfl, hb3⟩
      have hb03 := hb02.trans (hb3.mono hb02.size)
      clear k2
      go_wp2
      go_ret
      exact ⟨by rw [E0.out]; rfl, hb03⟩
  · rw [decide_eq_false hl] at HB
    have hli : decide ((EN : Int) ≤ 16) = false := by simp; omega
    have E0 : Hid (B = false) := by show _ = _; rw [HB.out]; simp
    clear HB hl HKA k1
    go_enter Tryz.func42, Tryz.ntmps42
    go_wp2
    go_ret
    exact ⟨by rw [E0.out]; rfl, hb1⟩
set_option maxHeartbeats 8000000 in
theorem psnap_of (n : Nat) (g : Gz) (w : World) (hG : MgV n w g) (hso : OkM g.m.snap) : Calls Tryz.prog 43 #[gv g] w fun e w' => e = .returned (.bool (snapG g.m)) ∧ Below w.heap.size w w' := by
  obtain ⟨⟨mk, ms, md, mt, mi, mp, ents, mc, mo, mm, ⟨si, st, sk, sd⟩⟩, es, ⟨ea, en, ec⟩, ⟨sa, sn, sc⟩⟩ := g
  obtain ⟨B, HB0⟩ : ∃ B, Hid (B = snapG ⟨mk, ms, md, mt, mi, mp, ents, mc, mo, mm, ⟨si, st, sk, sd⟩⟩) := ⟨_, rfl⟩
  rw [← HB0.out]
  dsimp only [gv] at *
  obtain ⟨z1, B1, hb1⟩ := one_box w (.cells #[.int .i64 mk, .int .i64 ms, .int .i64 md, .int .u64 (mt : Int), .int .u64 (mi : Int), .int .u64 (mp : Int), .slice ea en ec, .int .u64 (mc : Int), .bool mo, .int .u64 (mm : Int), .int .u64 (si : Int), .int .u64 (st : Int), .int .i64 sk, .slice sa sn sc] 34)
  have k1 := pcheck_of (⟨si, st, sk, sd⟩, (sa, sn, sc)) [] (.slice none 0 0) (w.alloc (.cells #[.int .i64 mk, .int .i64 ms, .int .i64 md, .int .u64 (mt : Int), .int .u64 (mi : Int), .int .u64 (mp : Int), .slice ea en ec, .int .u64 (mc : Int), .bool mo, .int .u64 (mm : Int), .int .u64 (si : Int), .int .u64 (st : Int), .int .i64 sk, .slice sa sn sc] 34)) (hG.2.2.below hb1).v (EntsN.nil 0 _).v ⟨hso.1, hso.2.1, hso.2.2.1⟩ (by simp) (by simp) hso.2.2.2
  have k1 : Calls Tryz.prog 81 #[.agg #[.int .u64 (si : Int), .int .u64 (st : Int), .int .i64 sk, .slice sa sn sc, .slice none 0 0]] _ (fun e w' => e = .returned (.int .i64 (codeB (mayB ⟨si, st, sk, sd⟩ []))) ∧ _) := k1
  obtain ⟨sa', sc', hss, -, -⟩ := RdN.rd hG.2.2 |>.shape
  simp only [Value.slice.injEq] at hss
  obtain ⟨rfl, rfl, rfl⟩ := hss
  obtain ⟨-, o0, o1, o2, o3, o4, o5, o6, o7, o8, o9, o10, o11, o12, o13⟩ := r14_cells B1
  by_cases k5 : mk = 5
  · have k5b : (mk == 5) = true := by simpa using k5
    have HB : Hid (B = (mayB ⟨si, st, sk, sd⟩ [] && decide (st ≤ mt))) := by show _ = _; rw [HB0.out]; unfold snapG; rw [if_pos k5]
    generalize mayB ⟨si, st, sk, sd⟩ [] = MA at *
    clear hG hso HB0 k5
    go_enter Tryz.func43, Tryz.ntmps43
    go_wp2_with fail
    refine k1.mono ?_
    rintro e w2 ⟨rfl, hb2⟩
    have C1 := (hb2.block w.heap.size (by omega)).trans B1
    have hb02 := hb1.trans (hb2.mono hb1.size)
    clear k1 hb2 B1 hb1 z1 o0 o1 o2 o3 o4 o5 o6 o7 o8 o9 o10 o11 o12 o13
    obtain ⟨-, o0, o1, o2, o3, o4, o5, o6, o7, o8, o9, o10, o11, o12, o13⟩ := r14_cells C1
    cases MA with
    | false =>
      have E0 : Hid (B = false) := by show _ = _; rw [HB.out]; simp
      dsimp only [codeB]
      clear HB
      go_wp2
      go_ret
      exact ⟨by rw [E0.out]; rfl, hb02⟩
    | true =>
      dsimp only [codeB]
      by_cases hst : st ≤ mt
      · have h1 : decide ((st : Int) ≤ (mt : Int)) = true := by simp; omega
        have h2 : decide (st ≤ mt) = true := decide_eq_true hst
        have E0 : Hid (B = true) := by show _ = _; rw [HB.out, h2]; rfl
        clear HB hst
        go_wp2
        go_ret
        exact ⟨by rw [E0.out]; rfl, hb02⟩
      · have h1 : decide ((st : Int) ≤ (mt : Int)) = false := by simp; omega
        have h2 : decide (st ≤ mt) = false := decide_eq_false hst
        have E0 : Hid (B = false) := by show _ = _; rw [HB.out, h2]; rfl
        clear HB hst
        go_wp2
        go_ret
        exact ⟨by rw [E0.out]; rfl, hb02⟩
  · have k5b : (mk == 5) = false := by simpa using k5
    have HB : Hid (B = (decide (si = 0) && decide (st = 0) && decide (sk = 0) && decide (sd.length = 0))) := by show _ = _; rw [HB0.out]; unfold snapG; rw [if_neg k5]
    clear hG hso HB0 k5 k1
    generalize sd.length = SL at *
    go_enter Tryz.func43, Tryz.ntmps43
    by_cases h0 : si = 0
    · rw [decide_eq_true h0] at HB
      have hq0 : ((si : Int) == 0) = true := by rw [beq_iff_eq]; omega
      have H0 : Hid _ := h0
      clear h0
      by_cases h1 : st = 0
      · rw [decide_eq_true h1] at HB
        have hq1 : ((st : Int) == 0) = true := by rw [beq_iff_eq]; omega
        have H1 : Hid _ := h1
        clear h1
        by_cases h2 : sk = 0
        · rw [decide_eq_true h2] at HB
          have hq2 : (sk == 0) = true := by rw [beq_iff_eq]; omega
          have H2 : Hid _ := h2
          clear h2
          by_cases h3 : SL = 0
          · rw [decide_eq_true h3] at HB
            have hq3 : ((SL : Int) == 0) = true := by rw [beq_iff_eq]; omega
            have H3 : Hid _ := h3
            clear h3
            have E0 : Hid (B = true) := by show _ = _; rw [HB.out]; simp
            clear HB
            go_wp2
            go_ret
            exact ⟨by rw [E0.out]; rfl, hb1⟩
          · rw [decide_eq_false h3] at HB
            have hq3 : ((SL : Int) == 0) = false := by rw [beq_eq_false_iff_ne]; omega
            have E0 : Hid (B = false) := by show _ = _; rw [HB.out]; simp
            clear h3 HB
            go_wp2
            go_ret
            exact ⟨by rw [E0.out]; rfl, hb1⟩
        · rw [decide_eq_false h2] at HB
          have hq2 : (sk == 0) = false := by rw [beq_eq_false_iff_ne]; omega
          have E0 : Hid (B = false) := by show _ = _; rw [HB.out]; simp
          clear h2 HB
          go_wp2
          go_ret
          exact ⟨by rw [E0.out]; rfl, hb1⟩
      · rw [decide_eq_false h1] at HB
        have hq1 : ((st : Int) == 0) = false := by rw [beq_eq_false_iff_ne]; omega
        have E0 : Hid (B = false) := by show _ = _; rw [HB.out]; simp
        clear h1 HB
        go_wp2
        go_ret
        exact ⟨by rw [E0.out]; rfl, hb1⟩
    · rw [decide_eq_false h0] at HB
      have hq0 : ((si : Int) == 0) = false := by rw [beq_eq_false_iff_ne]; omega
      have E0 : Hid (B = false) := by show _ = _; rw [HB.out]; simp
      clear h0 HB
      go_wp2
      go_ret
      exact ⟨by rw [E0.out]; rfl, hb1⟩
set_option maxHeartbeats 8000000 in
theorem pcheckG_of (n : Nat) (g : Gz) (w : World) (hG : MgV n w g) (hso : OkM g.m.snap) (heo : ∀ e ∈ g.m.ents, OkM e) (hel : g.m.ents.length ≤ 100000000) (hi : g.m.index < 18446744073709551616) (hp : g.m.prev < 18446744073709551616) : Calls Tryz.prog 14 #[gv g] w fun e w' => e = .returned (.int .i64 (codeB (mayG g.m))) ∧ Below w.heap.size w w' := by
  have HK1 : Hid (∀ W : World, _) := fun W => phead_of g W
  have HK2 : Hid (∀ W, Below w.heap.size w W → _) := fun W hW => pents_of n g W (hG.below hW) heo hel hi hp
  have HK3 : Hid (∀ W, Below w.heap.size w W → _) := fun W hW => psnap_of n g W (hG.below hW) hso
  obtain ⟨C, HC⟩ : ∃ C, Hid (C = codeB (headG g.m && entsG g.m && snapG g.m)) := ⟨_, rfl⟩
  rw [mayG_eq, ← HC.out]
  generalize headG g.m = b1 at *
  generalize entsG g.m = b2 at *
  generalize snapG g.m = b3 at *
  obtain ⟨⟨mk, ms, md, mt, mi, mp, ents, mc, mo, mm, ⟨si, st, sk, sd⟩⟩, es, ⟨ea, en, ec⟩, ⟨sa, sn, sc⟩⟩ := g
  dsimp only [gv] at *
  obtain ⟨z1, B1, hb1⟩ := one_box w (.cells #[.int .i64 mk, .int .i64 ms, .int .i64 md, .int .u64 (mt : Int), .int .u64 (mi : Int), .int .u64 (mp : Int), .slice ea en ec, .int .u64 (mc : Int), .bool mo, .int .u64 (mm : Int), .int .u64 (si : Int), .int .u64 (st : Int), .int .i64 sk, .slice sa sn sc] 34)
  have k1 := HK1.out (w.alloc (.cells #[.int .i64 mk, .int .i64 ms, .int .i64 md, .int .u64 (mt : Int), .int .u64 (mi : Int), .int .u64 (mp : Int), .slice ea en ec, .int .u64 (mc : Int), .bool mo, .int .u64 (mm : Int), .int .u64 (si : Int), .int .u64 (st : Int), .int .i64 sk, .slice sa sn sc] 34))
  clear hG hso heo hel hi hp HK1
  obtain ⟨-, o0, o1, o2, o3, o4, o5, o6, o7, o8, o9, o10, o11, o12, o13⟩ := r14_cells B1
  go_enter Tryz.func14, Tryz.ntmps14
  go_wp2_with fail
  refine k1.mono ?_
  rintro e w2 ⟨rfl, hb2⟩
  have B2 := (hb2.block w.heap.size (by omega)).trans B1
  have hb02 := hb1.trans (hb2.mono hb1.size)
  have hs2 : w.heap.size < w2.heap.size := (Array.getElem?_eq_some_iff.1 B2).1
  have k2 := HK2.out w2 hb02
  clear k1 HK2 hb2 B1 z1 hb1 o0 o1 o2 o3 o4 o5 o6 o7 o8 o9 o10 o11 o12 o13
  obtain ⟨-, o0, o1, o2, o3, o4, o5, o6, o7, o8, o9, o10, o11, o12, o13⟩ := r14_cells B2
  cases b1 with
  | false =>
    have E0 : Hid (C = 1) := by show _ = _; rw [HC.out]; rfl
    clear HC HK3 k2
    go_wp2
    go_ret
    exact ⟨by rw [E0.out]; rfl, hb02⟩
  | true =>
    go_wp2_with fail
    refine k2.mono ?_
    rintro e w3 ⟨rfl, hb3⟩
    have B3 := (hb3.block w.heap.size hs2).trans B2
    have hb03 := hb02.trans (hb3.mono hb02.size)
    clear k2 o0 o1 o2 o3 o4 o5 o6 o7 o8 o9 o10 o11 o12 o13 B2 hb3
    obtain ⟨-, o0, o1, o2, o3, o4, o5, o6, o7, o8, o9, o10, o11, o12, o13⟩ := r14_cells B3
    cases b2 with
    | false =>
      have E0 : Hid (C = 1) := by show _ = _; rw [HC.out]; rfl
      clear HC HK3
      go_wp2
      go_ret
      exact ⟨by rw [E0.out]; rfl, hb03⟩
    | true =>
      have k3 := HK3.out w3 hb03
      clear HK3
      go_wp2_with fail
      refine k3.mono ?_
      rintro e w4 ⟨rfl, hb4⟩
      have hb04 := hb03.trans (hb4.mono hb03.size)
      clear k3 o0 o1 o2 o3 o4 o5 o6 o7 o8 o9 o10 o11 o12 o13 hb4
      cases b3 with
      | false =>
        have E0 : Hid (C = 1) := by show _ = _; rw [HC.out]; rfl
        clear HC
        go_wp2
        go_ret
        exact ⟨by rw [E0.out]; rfl, hb04⟩
      | true =>
        have E0 : Hid (C = 0) := by show _ = _; rw [HC.out]; rfl
        clear HC
        go_wp2
        go_ret
        exact ⟨by rw [E0.out]; rfl, hb04⟩
end Go.Proofs.YtncoandnelgkeaaGreat

/- The document's MayMsg. -/
namespace Go.Proofs.YtncoandnelgkeaaGreat
open Go.RowKit QuorumMath RlogMath RaftMath
set_option maxRecDepth 100000
set_option linter.unusedSimpArgs false
set_option linter.unusedVariables false

theorem str_toList (l : List Nat) : (str l).toList = l.map UInt8.ofNat := by
  rw [ByteArray.toList_eq]
  simp [str]
theorem str_none {l : List Nat} (h : l ≠ []) : ((str l).toList == (str []).toList) = false := by
  rw [str_toList, str_toList, beq_eq_false_iff_ne]
  intro e
  simp at e
  exact h e
set_option maxHeartbeats 4000000 in
theorem sameE0_of (m : Me) (s : Sl) (w : World) (hS : DataV w (m, s)) (hc : ∀ c ∈ m.data, c < 256) : Calls Tryz.prog 45 #[ev (m, s), .agg #[.int .u64 0, .int .u64 0, .int .i64 0, .slice none 0 0]] w fun e w' => e = .returned (.bool (decide (m.idx = 0 ∧ m.term = 0 ∧ m.kind = 0 ∧ m.data = []))) ∧ Below w.heap.size w w' := by
  obtain ⟨ix, tm, kd, dt⟩ := m
  obtain ⟨sa, sn, sc⟩ := s
  obtain ⟨B, HB⟩ : ∃ B, Hid (B = (decide (ix = 0) && decide (tm = 0) && decide (kd = 0) && decide (dt = []))) := ⟨_, rfl⟩
  have hdec : decide (ix = 0 ∧ tm = 0 ∧ kd = 0 ∧ dt = []) = B := by rw [HB.out]; simp [Bool.and_assoc]
  dsimp only [ev] at *
  rw [hdec]
  have hb1 : Below w.heap.size w ((w.alloc (.cells #[.int .u64 (ix : Int), .int .u64 (tm : Int), .int .i64 kd, .slice sa sn sc] 25)).alloc (.cells #[.int .u64 0, .int .u64 0, .int .i64 0, .slice none 0 0] 25)) := ((Below.refl _ _).alloc (Nat.le_refl _) _).alloc (by simp) _
  have e1 := str_of (Rd.below hS hb1) hc
  have e2 := str_nil ((w.alloc (.cells #[.int .u64 (ix : Int), .int .u64 (tm : Int), .int .i64 kd, .slice sa sn sc] 25)).alloc (.cells #[.int .u64 0, .int .u64 0, .int .i64 0, .slice none 0 0] 25))
  have HS1 : Hid (dt = [] → ((str dt).toList == (str []).toList) = true) := fun h => by rw [h]; simp
  have HS2 : Hid (dt ≠ [] → ((str dt).toList == (str []).toList) = false) := fun h => str_none h
  generalize str [] = S0 at *
  generalize str dt = S at *
  dsimp only at e1
  clear hS hc hdec
  by_cases h0 : ix = 0
  · rw [decide_eq_true h0] at HB
    have hq0 : ((ix : Int) == 0) = true := by rw [beq_iff_eq]; omega
    have H0 : Hid _ := h0
    clear h0
    by_cases h1 : tm = 0
    · rw [decide_eq_true h1] at HB
      have hq1 : ((tm : Int) == 0) = true := by rw [beq_iff_eq]; omega
      have H1 : Hid _ := h1
      clear h1
      by_cases h2 : kd = 0
      · rw [decide_eq_true h2] at HB
        have hq2 : (kd == 0) = true := by rw [beq_iff_eq]; omega
        have H2 : Hid _ := h2
        clear h2
        by_cases h3 : dt = []
        · rw [decide_eq_true h3] at HB
          have hq3 : (S.toList == S0.toList) = true := HS1.out h3
          have H3 : Hid _ := h3
          clear h3
          have E0 : Hid (B = true) := by show _ = _; rw [HB.out]; simp
          clear HB
          go_enter Tryz.func45, Tryz.ntmps45
          go_wp2
          go_ret
          exact ⟨by rw [E0.out]; rfl, hb1⟩
        · rw [decide_eq_false h3] at HB
          have hq3 : (S.toList == S0.toList) = false := HS2.out h3
          have E0 : Hid (B = false) := by show _ = _; rw [HB.out]; simp
          clear h3 HB
          go_enter Tryz.func45, Tryz.ntmps45
          go_wp2
          go_ret
          exact ⟨by rw [E0.out]; rfl, hb1⟩
      · rw [decide_eq_false h2] at HB
        have hq2 : (kd == 0) = false := by rw [beq_eq_false_iff_ne]; omega
        have E0 : Hid (B = false) := by show _ = _; rw [HB.out]; simp
        clear h2 HB
        go_enter Tryz.func45, Tryz.ntmps45
        go_wp2
        go_ret
        exact ⟨by rw [E0.out]; rfl, hb1⟩
    · rw [decide_eq_false h1] at HB
      have hq1 : ((tm : Int) == 0) = false := by rw [beq_eq_false_iff_ne]; omega
      have E0 : Hid (B = false) := by show _ = _; rw [HB.out]; simp
      clear h1 HB
      go_enter Tryz.func45, Tryz.ntmps45
      go_wp2
      go_ret
      exact ⟨by rw [E0.out]; rfl, hb1⟩
  · rw [decide_eq_false h0] at HB
    have hq0 : ((ix : Int) == 0) = false := by rw [beq_eq_false_iff_ne]; omega
    have E0 : Hid (B = false) := by show _ = _; rw [HB.out]; simp
    clear h0 HB
    go_enter Tryz.func45, Tryz.ntmps45
    go_wp2
    go_ret
    exact ⟨by rw [E0.out]; rfl, hb1⟩
set_option maxHeartbeats 16000000 in
theorem rmayG_of (n : Nat) (g : Gz) (w : World) (hG : MgV n w g) (hso : OkM g.m.snap) (heo : ∀ e ∈ g.m.ents, OkM e) (hel : g.m.ents.length ≤ 100000000) (hi : g.m.index < 18446744073709551616) : Calls Tryz.prog 15 #[gv g] w fun e w' => e = .returned (.bool (mayG g.m)) ∧ Below w.heap.size w w' := by
  obtain ⟨⟨mk, ms, md, mt, mi, mp, ents, mc, mo, mm, ⟨si, st, sk, sd⟩⟩, es, ⟨ea, en, ec⟩, ⟨sa, sn, sc⟩⟩ := g
  obtain ⟨B, HB⟩ : ∃ B, Hid (B = mayG ⟨mk, ms, md, mt, mi, mp, ents, mc, mo, mm, ⟨si, st, sk, sd⟩⟩) := ⟨_, rfl⟩
  rw [← HB.out]
  dsimp only [gv] at *
  have hme : mes es = ents := hG.2.1
  have hzl : es.length = ents.length := by have := congrArg List.length hme; rwa [List.length_map] at this
  have hzo := okz_of hme heo
  obtain ⟨ea', ec', hes, -, -⟩ := hG.1.1.rd.shape
  simp only [slv, Value.slice.injEq] at hes
  obtain ⟨rfl, rfl, rfl⟩ := hes
  obtain ⟨X5, HX5⟩ : ∃ X, Hid (X = if mk = 5 then mayB ⟨si, st, sk, sd⟩ [] else decide (si = 0 ∧ st = 0 ∧ sk = 0 ∧ sd = [])) := ⟨_, rfl⟩
  have HKB : Hid (∀ W, Below w.heap.size w W → _) := fun W hW => behind_of mi mp es (.slice ea es.length ec) W (hG.1.below hW).v hi (fun z hz => (hzo z hz).1) (by omega)
  rw [hme] at HKB
  have HKM : Hid (∀ W, Below w.heap.size w W → _) := fun W hW => may_of (⟨si, st, sk, sd⟩, (sa, sn, sc)) [] (.slice none 0 0) W (hG.2.2.below hW).v (EntsN.nil 0 W).v ⟨hso.1, hso.2.1, hso.2.2.1⟩ (by simp) (by simp) hso.2.2.2
  have HKS : Hid (∀ W, Below w.heap.size w W → _) := fun W hW => sameE0_of ⟨si, st, sk, sd⟩ (sa, sn, sc) W (hG.2.2.below hW).v hso.2.2.1
  have HE4 : Hid (Rd entE w (.slice ea es.length ec) es) := hG.1.1.rd
  obtain ⟨BH, HBH⟩ : ∃ BH, Hid (behB mi mp ents = BH) := ⟨_, rfl⟩
  rw [HBH.out] at HKB
  have HME : Hid _ := hme
  obtain ⟨EN, HEN⟩ : ∃ EN, Hid (EN = es.length) := ⟨_, rfl⟩
  have HB : Hid (B = (decide (1 ≤ mk) && decide (mk < 6) && nodeB ms && nodeB md && !decide (ms = md) && decide (1 ≤ mt) && decide (mt ≤ 4611686018427387904) && decide (EN ≤ 16) && decide (mi ≤ 4611686018427387904) && decide (mm ≤ 4611686018427387904) && decide (mc ≤ 4611686018427387904) && BH && (ents.all fun e => decide (e.term ≤ mt)) && !(!decide (mk = 1) && decide (mt < mp)) && decide (st ≤ mt) && X5)) := by show _ = _; rw [HB.out, HEN.out, hzl, ← HBH.out, HX5.out]; rfl
  rw [← HEN.out] at HKB HE4 ⊢
  have hEb : EN ≤ 100000000 := by have := HEN.out; omega
  dsimp only [lgv, ev, mes, List.map_nil] at HKM HKS
  clear hG hme hzl hzo heo hso hel hi HBH
  obtain ⟨z1, B1, hb1⟩ := one_box w (.cells #[.int .i64 mk, .int .i64 ms, .int .i64 md, .int .u64 (mt : Int), .int .u64 (mi : Int), .int .u64 (mp : Int), .slice ea EN ec, .int .u64 (mc : Int), .bool mo, .int .u64 (mm : Int), .int .u64 (si : Int), .int .u64 (st : Int), .int .i64 sk, .slice sa sn sc] 34)
  have ks := rnode_of ms (w.alloc (.cells #[.int .i64 mk, .int .i64 ms, .int .i64 md, .int .u64 (mt : Int), .int .u64 (mi : Int), .int .u64 (mp : Int), .slice ea EN ec, .int .u64 (mc : Int), .bool mo, .int .u64 (mm : Int), .int .u64 (si : Int), .int .u64 (st : Int), .int .i64 sk, .slice sa sn sc] 34))
  have kd := rnode_of md (w.alloc (.cells #[.int .i64 mk, .int .i64 ms, .int .i64 md, .int .u64 (mt : Int), .int .u64 (mi : Int), .int .u64 (mp : Int), .slice ea EN ec, .int .u64 (mc : Int), .bool mo, .int .u64 (mm : Int), .int .u64 (si : Int), .int .u64 (st : Int), .int .i64 sk, .slice sa sn sc] 34))
  by_cases k1 : 1 ≤ mk
  · rw [decide_eq_true k1] at HB
    have k1d : decide (mk < 1) = false := by simp; omega
    by_cases k2 : mk < 6
    · rw [decide_eq_true k2] at HB
      have k2d : decide ((6 : Int) ≤ mk) = false := by simp; omega
      have HQ1 : Hid _ := k1
      have HQ2 : Hid _ := k2
      clear k1 k2
      go_enter Tryz.func15, Tryz.ntmps15
      go_wp2_with fail
      refine ks.mono ?_
      rintro e w2 ⟨rfl, hw2⟩
      rw [← hw2] at B1 hb1 kd
      clear ks hw2 z1
      obtain ⟨-, o0, o1, o2, o3, o4, o5, o6, o7, o8, o9, o10, o11, o12, o13⟩ := r14_cells B1
      cases hq1 : nodeB ms with
      | false =>
        rw [hq1] at HB
        have E0 : Hid (B = false) := by show _ = _; rw [HB.out]; simp
        clear HB kd HX5 HKB HKM HKS
        go_wp2
        go_ret
        exact ⟨by rw [E0.out]; rfl, hb1⟩
      | true =>
        rw [hq1] at HB
        go_wp2_with fail
        refine kd.mono ?_
        rintro e w3 ⟨rfl, hw3⟩
        subst hw3
        have B3 := B1
        have hb3 := hb1
        clear kd B1 hb1
        cases hq2 : nodeB md with
        | false =>
          rw [hq2] at HB
          have E0 : Hid (B = false) := by show _ = _; rw [HB.out]; simp
          clear HB HX5 HKB HKM HKS
          go_wp2
          go_ret
          exact ⟨by rw [E0.out]; rfl, hb3⟩
        | true =>
          rw [hq2] at HB
          by_cases hsd : ms = md
          · have hsb : (ms == md) = true := by simpa using hsd
            rw [decide_eq_true hsd] at HB
            have E0 : Hid (B = false) := by show _ = _; rw [HB.out]; simp
            clear HB hsd HX5 HKB HKM HKS
            go_wp2
            go_ret
            exact ⟨by rw [E0.out]; rfl, hb3⟩
          · have hsb : (ms == md) = false := by simpa using hsd
            rw [decide_eq_false hsd] at HB
            clear hsd
            by_cases h10 : 1 ≤ mt
            · rw [decide_eq_true h10] at HB
              have hd10a : decide ((mt : Int) < 1) = false := by simp; omega
              have hd10b : decide (mt < 1) = false := by simp; omega
              have H10 : Hid _ := h10
              clear h10
              by_cases h11 : mt ≤ 4611686018427387904
              · rw [decide_eq_true h11] at HB
                have hd11a : decide ((4611686018427387904 : Int) < (mt : Int)) = false := by simp; omega
                have H11 : Hid _ := h11
                clear h11
                by_cases h20 : EN ≤ 16
                · rw [decide_eq_true h20] at HB
                  have hd20a : decide ((16 : Int) < (EN : Int)) = false := by simp; omega
                  have H20 : Hid _ := h20
                  clear h20
                  by_cases h21 : mi ≤ 4611686018427387904
                  · rw [decide_eq_true h21] at HB
                    have hd21a : decide ((4611686018427387904 : Int) < (mi : Int)) = false := by simp; omega
                    have H21 : Hid _ := h21
                    clear h21
                    by_cases h22 : mm ≤ 4611686018427387904
                    · rw [decide_eq_true h22] at HB
                      have hd22a : decide ((4611686018427387904 : Int) < (mm : Int)) = false := by simp; omega
                      have H22 : Hid _ := h22
                      clear h22
                      by_cases h23 : mc ≤ 4611686018427387904
                      · rw [decide_eq_true h23] at HB
                        have hd23a : decide ((4611686018427387904 : Int) < (mc : Int)) = false := by simp; omega
                        have H23 : Hid _ := h23
                        clear h23
                        have kb := HKB.out w3 hb3
                        clear HKB
                        go_wp2_with fail
                        refine kb.mono ?_
                        rintro e w4 ⟨rfl, hb4'⟩
                        have B4 := (hb4'.block w.heap.size (Array.getElem?_eq_some_iff.1 B3).1).trans B3
                        have hb4 := hb3.trans (hb4'.mono hb3.size)
                        clear kb hb4' B3 hb3 o0 o1 o2 o3 o4 o5 o6 o7 o8 o9 o10 o11 o12 o13
                        obtain ⟨-, o0, o1, o2, o3, o4, o5, o6, o7, o8, o9, o10, o11, o12, o13⟩ := r14_cells B4
                        cases BH with
                        | false =>
                          have E0 : Hid (B = false) := by show _ = _; rw [HB.out]; simp
                          clear HB HX5 HKM HKS
                          go_wp2
                          go_ret
                          exact ⟨by rw [E0.out]; rfl, hb4⟩
                        | true =>
                          clear o0 o1 o2 o3 o4 o5 o6 o7 o8 o9 o10 o11 o12 o13
                          have HB4 : Hid _ := B4
                          have hs4 : w.heap.size < w4.heap.size := (Array.getElem?_eq_some_iff.1 B4).1
                          clear B4
                          go_wp2
                          go_loopg [3] EN (fun g s3 wr => ∃ i : Nat, i + g = EN ∧ s3 = .int .i64 (i : Int) ∧ Below w4.heap.size w4 wr ∧ Hid (∀ z ∈ es.take i, z.1.term ≤ mt))
                          case atStart => exact ⟨0, by omega, rfl, Below.refl _ _, fun z hz => by simp at hz⟩
                          case round =>
                            obtain ⟨i, hig, rfl, hb, HOK⟩ := hrel
                            have hBr := (hb.block w.heap.size hs4).trans HB4.out
                            obtain ⟨-, o0, o1, o2, o3, o4, o5, o6, o7, o8, o9, o10, o11, o12, o13⟩ := r14_cells hBr
                            by_cases hlt : i < EN
                            · have hlti : (i : Int) < (EN : Int) := by omega
                              have hz : es[i]? = some (es[i]'(by have := HEN.out; omega)) := List.getElem?_eq_getElem _
                              obtain ⟨z, hzz⟩ : ∃ z, z = es[i]'(by have := HEN.out; omega) := ⟨_, rfl⟩
                              rw [← hzz] at hz
                              clear hzz
                              obtain ⟨b, off, rfl, c⟩ := rde_at (HE4.out.below hb4) hz
                              have HC : Hid _ := c
                              have HOK2 : Hid (z.1.term ≤ mt → ∀ y ∈ es.take (i + 1), y.1.term ≤ mt) := fun h y hy => by
                                rw [take_succ_get hz, List.mem_append, List.mem_singleton] at hy
                                rcases hy with hy | rfl
                                · exact HOK.out y hy
                                · exact h
                              have HNO : Hid (¬ z.1.term ≤ mt → (ents.all fun e => decide (e.term ≤ mt)) = false) := fun h => by
                                rw [List.all_eq_false]
                                exact ⟨z.1, by rw [← HME.out]; exact List.mem_map.2 ⟨z, List.mem_of_getElem? hz, rfl⟩, by simp; omega⟩
                              obtain ⟨⟨ix, tm, kd, dt⟩, za, zn, zc⟩ := z
                              dsimp only at HC HOK2 HNO
                              clear hz c HOK
                              by_cases htm : tm ≤ mt
                              · have ha : decide ((mt : Int) < (tm : Int)) = false := by simp; omega
                                have hb' : decide (mt < tm) = false := by simp; omega
                                have HOK3 : Hid _ := HOK2.out htm
                                clear HOK2 HNO htm
                                go_wp2
                                refine wp_region_L (fun W => Below w4.heap.size w4 W) [] (by kernel_rfl) ?_
                                have y0 : Below w4.heap.size w4 wr.drew := hb.drew
                                generalize wr.drew = wd at *
                                refine wpAnyL_take 0 rfl (by kernel_rfl) (by kernel_rfl) (by kernel_rfl) (by kernel_rfl) (fun _ _ _ h => h) (wanted_none rfl) (by intro w' hS'; obtain ⟨-, c0, c1, c2, c3, c4, c5, c6, c7, c8, c9, c10, c11, c12, c13⟩ := r14_cells ((hS'.block w.heap.size hs4).trans HB4.out); obtain ⟨d0, d1, d2, d3⟩ := HC.out _ hS'; go_simp <;> rfl) y0 ?_
                                try simp only [List.getElem_toArray, List.getElem_cons_succ, List.getElem_cons_zero, Act.put, List.setIfInBounds_toArray, List.set_cons_zero, List.set_cons_succ]
                                refine wpAnyL_take 1 rfl (by kernel_rfl) (by kernel_rfl) (by kernel_rfl) (by kernel_rfl) (fun _ _ _ h => h) (wanted_none rfl) (by intro w' hS'; obtain ⟨-, c0, c1, c2, c3, c4, c5, c6, c7, c8, c9, c10, c11, c12, c13⟩ := r14_cells ((hS'.block w.heap.size hs4).trans HB4.out); obtain ⟨d0, d1, d2, d3⟩ := HC.out _ hS'; go_simp <;> rfl) y0 ?_
                                try simp only [List.getElem_toArray, List.getElem_cons_succ, List.getElem_cons_zero, Act.put, List.setIfInBounds_toArray, List.set_cons_zero, List.set_cons_succ]
                                refine wpAnyL_take 2 rfl (by kernel_rfl) (by kernel_rfl) (by kernel_rfl) (by kernel_rfl) (fun _ _ _ h => h) (wanted_none rfl) (by intro w' hS'; obtain ⟨-, c0, c1, c2, c3, c4, c5, c6, c7, c8, c9, c10, c11, c12, c13⟩ := r14_cells ((hS'.block w.heap.size hs4).trans HB4.out); obtain ⟨d0, d1, d2, d3⟩ := HC.out _ hS'; go_simp <;> rfl) y0 ?_
                                try simp only [List.getElem_toArray, List.getElem_cons_succ, List.getElem_cons_zero, Act.put, List.setIfInBounds_toArray, List.set_cons_zero, List.set_cons_succ]
                                refine wpAnyL_take 3 rfl (by kernel_rfl) (by kernel_rfl) (by kernel_rfl) (by kernel_rfl) (fun _ _ _ h => h) (wanted_none rfl) (by intro w' hS'; obtain ⟨-, c0, c1, c2, c3, c4, c5, c6, c7, c8, c9, c10, c11, c12, c13⟩ := r14_cells ((hS'.block w.heap.size hs4).trans HB4.out); obtain ⟨d0, d1, d2, d3⟩ := HC.out _ hS'; go_simp <;> rfl) y0 ?_
                                try simp only [List.getElem_toArray, List.getElem_cons_succ, List.getElem_cons_zero, Act.put, List.setIfInBounds_toArray, List.set_cons_zero, List.set_cons_succ]
                                refine wpAnyL_take 4 rfl (by kernel_rfl) (by kernel_rfl) (by kernel_rfl) (by kernel_rfl) (fun _ _ _ h => h) (wanted_none rfl) (by intro w' hS'; obtain ⟨-, c0, c1, c2, c3, c4, c5, c6, c7, c8, c9, c10, c11, c12, c13⟩ := r14_cells ((hS'.block w.heap.size hs4).trans HB4.out); obtain ⟨d0, d1, d2, d3⟩ := HC.out _ hS'; go_simp <;> rfl) y0 ?_
                                try simp only [List.getElem_toArray, List.getElem_cons_succ, List.getElem_cons_zero, Act.put, List.setIfInBounds_toArray, List.set_cons_zero, List.set_cons_succ]
                                refine wpAnyL_take 5 rfl (by kernel_rfl) (by kernel_rfl) (by kernel_rfl) (by kernel_rfl) (fun _ _ _ h => h) (wanted_none rfl) (by intro w' hS'; obtain ⟨-, c0, c1, c2, c3, c4, c5, c6, c7, c8, c9, c10, c11, c12, c13⟩ := r14_cells ((hS'.block w.heap.size hs4).trans HB4.out); obtain ⟨d0, d1, d2, d3⟩ := HC.out _ hS'; go_simp <;> rfl) y0 ?_
                                try simp only [List.getElem_toArray, List.getElem_cons_succ, List.getElem_cons_zero, Act.put, List.setIfInBounds_toArray, List.set_cons_zero, List.set_cons_succ]
                                refine wpAnyL_take 6 rfl (by kernel_rfl) (by kernel_rfl) (by kernel_rfl) (by kernel_rfl) (fun _ _ _ h => h) (wanted_none rfl) (by intro w' hS'; obtain ⟨-, c0, c1, c2, c3, c4, c5, c6, c7, c8, c9, c10, c11, c12, c13⟩ := r14_cells ((hS'.block w.heap.size hs4).trans HB4.out); obtain ⟨d0, d1, d2, d3⟩ := HC.out _ hS'; go_simp <;> rfl) y0 ?_
                                try simp only [List.getElem_toArray, List.getElem_cons_succ, List.getElem_cons_zero, Act.put, List.setIfInBounds_toArray, List.set_cons_zero, List.set_cons_succ]
                                refine wpAnyL_take 7 rfl (by kernel_rfl) (by kernel_rfl) (by kernel_rfl) (by kernel_rfl) (fun _ _ _ h => h) (wanted_none rfl) (by intro w' hS'; obtain ⟨-, c0, c1, c2, c3, c4, c5, c6, c7, c8, c9, c10, c11, c12, c13⟩ := r14_cells ((hS'.block w.heap.size hs4).trans HB4.out); obtain ⟨d0, d1, d2, d3⟩ := HC.out _ hS'; go_simp <;> rfl) y0 ?_
                                try simp only [List.getElem_toArray, List.getElem_cons_succ, List.getElem_cons_zero, Act.put, List.setIfInBounds_toArray, List.set_cons_zero, List.set_cons_succ]
                                refine wpAnyL_take 8 rfl (by kernel_rfl) (by kernel_rfl) (by kernel_rfl) (by kernel_rfl) (fun _ _ _ h => h) (wanted_none rfl) (by intro w' hS'; obtain ⟨-, c0, c1, c2, c3, c4, c5, c6, c7, c8, c9, c10, c11, c12, c13⟩ := r14_cells ((hS'.block w.heap.size hs4).trans HB4.out); obtain ⟨d0, d1, d2, d3⟩ := HC.out _ hS'; go_simp <;> rfl) y0 ?_
                                try simp only [List.getElem_toArray, List.getElem_cons_succ, List.getElem_cons_zero, Act.put, List.setIfInBounds_toArray, List.set_cons_zero, List.set_cons_succ]
                                refine wpAnyL_done (by kernel_rfl) (NoPanic.normal ?_) _
                                clear HC o0 o1 o2 o3 o4 o5 o6 o7 o8 o9 o10 o11 o12 o13
                                go_wp2
                                go_roundg (gk - 1)
                                case measure => omega
                                case rel => exact ⟨i + 1, by omega, by go_num, y0, HOK3⟩
                              · have ha : decide ((mt : Int) < (tm : Int)) = true := by simp; omega
                                have hb' : decide (mt < tm) = true := by simp; omega
                                have hno := HNO.out htm
                                rw [hno] at HB
                                have E0 : Hid (B = false) := by show _ = _; rw [HB.out]; simp
                                clear HOK2 HNO htm HB hno
                                go_wp2
                                refine wp_region_L (fun W => Below w4.heap.size w4 W) [] (by kernel_rfl) ?_
                                have y0 : Below w4.heap.size w4 wr.drew := hb.drew
                                generalize wr.drew = wd at *
                                refine wpAnyL_take 0 rfl (by kernel_rfl) (by kernel_rfl) (by kernel_rfl) (by kernel_rfl) (fun _ _ _ h => h) (wanted_none rfl) (by intro w' hS'; obtain ⟨-, c0, c1, c2, c3, c4, c5, c6, c7, c8, c9, c10, c11, c12, c13⟩ := r14_cells ((hS'.block w.heap.size hs4).trans HB4.out); obtain ⟨d0, d1, d2, d3⟩ := HC.out _ hS'; go_simp <;> rfl) y0 ?_
                                try simp only [List.getElem_toArray, List.getElem_cons_succ, List.getElem_cons_zero, Act.put, List.setIfInBounds_toArray, List.set_cons_zero, List.set_cons_succ]
                                refine wpAnyL_take 1 rfl (by kernel_rfl) (by kernel_rfl) (by kernel_rfl) (by kernel_rfl) (fun _ _ _ h => h) (wanted_none rfl) (by intro w' hS'; obtain ⟨-, c0, c1, c2, c3, c4, c5, c6, c7, c8, c9, c10, c11, c12, c13⟩ := r14_cells ((hS'.block w.heap.size hs4).trans HB4.out); obtain ⟨d0, d1, d2, d3⟩ := HC.out _ hS'; go_simp <;> rfl) y0 ?_
                                try simp only [List.getElem_toArray, List.getElem_cons_succ, List.getElem_cons_zero, Act.put, List.setIfInBounds_toArray, List.set_cons_zero, List.set_cons_succ]
                                refine wpAnyL_take 2 rfl (by kernel_rfl) (by kernel_rfl) (by kernel_rfl) (by kernel_rfl) (fun _ _ _ h => h) (wanted_none rfl) (by intro w' hS'; obtain ⟨-, c0, c1, c2, c3, c4, c5, c6, c7, c8, c9, c10, c11, c12, c13⟩ := r14_cells ((hS'.block w.heap.size hs4).trans HB4.out); obtain ⟨d0, d1, d2, d3⟩ := HC.out _ hS'; go_simp <;> rfl) y0 ?_
                                try simp only [List.getElem_toArray, List.getElem_cons_succ, List.getElem_cons_zero, Act.put, List.setIfInBounds_toArray, List.set_cons_zero, List.set_cons_succ]
                                refine wpAnyL_take 3 rfl (by kernel_rfl) (by kernel_rfl) (by kernel_rfl) (by kernel_rfl) (fun _ _ _ h => h) (wanted_none rfl) (by intro w' hS'; obtain ⟨-, c0, c1, c2, c3, c4, c5, c6, c7, c8, c9, c10, c11, c12, c13⟩ := r14_cells ((hS'.block w.heap.size hs4).trans HB4.out); obtain ⟨d0, d1, d2, d3⟩ := HC.out _ hS'; go_simp <;> rfl) y0 ?_
                                try simp only [List.getElem_toArray, List.getElem_cons_succ, List.getElem_cons_zero, Act.put, List.setIfInBounds_toArray, List.set_cons_zero, List.set_cons_succ]
                                refine wpAnyL_take 4 rfl (by kernel_rfl) (by kernel_rfl) (by kernel_rfl) (by kernel_rfl) (fun _ _ _ h => h) (wanted_none rfl) (by intro w' hS'; obtain ⟨-, c0, c1, c2, c3, c4, c5, c6, c7, c8, c9, c10, c11, c12, c13⟩ := r14_cells ((hS'.block w.heap.size hs4).trans HB4.out); obtain ⟨d0, d1, d2, d3⟩ := HC.out _ hS'; go_simp <;> rfl) y0 ?_
                                try simp only [List.getElem_toArray, List.getElem_cons_succ, List.getElem_cons_zero, Act.put, List.setIfInBounds_toArray, List.set_cons_zero, List.set_cons_succ]
                                refine wpAnyL_take 5 rfl (by kernel_rfl) (by kernel_rfl) (by kernel_rfl) (by kernel_rfl) (fun _ _ _ h => h) (wanted_none rfl) (by intro w' hS'; obtain ⟨-, c0, c1, c2, c3, c4, c5, c6, c7, c8, c9, c10, c11, c12, c13⟩ := r14_cells ((hS'.block w.heap.size hs4).trans HB4.out); obtain ⟨d0, d1, d2, d3⟩ := HC.out _ hS'; go_simp <;> rfl) y0 ?_
                                try simp only [List.getElem_toArray, List.getElem_cons_succ, List.getElem_cons_zero, Act.put, List.setIfInBounds_toArray, List.set_cons_zero, List.set_cons_succ]
                                refine wpAnyL_take 6 rfl (by kernel_rfl) (by kernel_rfl) (by kernel_rfl) (by kernel_rfl) (fun _ _ _ h => h) (wanted_none rfl) (by intro w' hS'; obtain ⟨-, c0, c1, c2, c3, c4, c5, c6, c7, c8, c9, c10, c11, c12, c13⟩ := r14_cells ((hS'.block w.heap.size hs4).trans HB4.out); obtain ⟨d0, d1, d2, d3⟩ := HC.out _ hS'; go_simp <;> rfl) y0 ?_
                                try simp only [List.getElem_toArray, List.getElem_cons_succ, List.getElem_cons_zero, Act.put, List.setIfInBounds_toArray, List.set_cons_zero, List.set_cons_succ]
                                refine wpAnyL_take 7 rfl (by kernel_rfl) (by kernel_rfl) (by kernel_rfl) (by kernel_rfl) (fun _ _ _ h => h) (wanted_none rfl) (by intro w' hS'; obtain ⟨-, c0, c1, c2, c3, c4, c5, c6, c7, c8, c9, c10, c11, c12, c13⟩ := r14_cells ((hS'.block w.heap.size hs4).trans HB4.out); obtain ⟨d0, d1, d2, d3⟩ := HC.out _ hS'; go_simp <;> rfl) y0 ?_
                                try simp only [List.getElem_toArray, List.getElem_cons_succ, List.getElem_cons_zero, Act.put, List.setIfInBounds_toArray, List.set_cons_zero, List.set_cons_succ]
                                refine wpAnyL_take 8 rfl (by kernel_rfl) (by kernel_rfl) (by kernel_rfl) (by kernel_rfl) (fun _ _ _ h => h) (wanted_none rfl) (by intro w' hS'; obtain ⟨-, c0, c1, c2, c3, c4, c5, c6, c7, c8, c9, c10, c11, c12, c13⟩ := r14_cells ((hS'.block w.heap.size hs4).trans HB4.out); obtain ⟨d0, d1, d2, d3⟩ := HC.out _ hS'; go_simp <;> rfl) y0 ?_
                                try simp only [List.getElem_toArray, List.getElem_cons_succ, List.getElem_cons_zero, Act.put, List.setIfInBounds_toArray, List.set_cons_zero, List.set_cons_succ]
                                refine wpAnyL_done (by kernel_rfl) (NoPanic.normal ?_) _
                                have hbz := hb4.trans (y0.mono hb4.size)
                                clear HC o0 o1 o2 o3 o4 o5 o6 o7 o8 o9 o10 o11 o12 o13
                                go_wp2
                                go_ret
                                exact ⟨by rw [E0.out]; rfl, hbz⟩
                            · have hlti : ¬ (i : Int) < (EN : Int) := by omega
                              have hbw := hb4.trans (hb.mono hb4.size)
                              have HAL : Hid ((ents.all fun e => decide (e.term ≤ mt)) = true) := by
                                show _ = _
                                rw [List.all_eq_true]
                                intro e he
                                rw [decide_eq_true_eq]
                                rw [← HME.out] at he
                                obtain ⟨z, hz, rfl⟩ := List.mem_map.1 he
                                exact HOK.out z (by rw [List.take_of_length_le (by have := HEN.out; omega)]; exact hz)
                              rw [HAL.out] at HB
                              clear HAL HOK
                              by_cases k1 : mk = 1
                              · have k1b : (mk != 1) = false := by simpa using k1
                                rw [decide_eq_true k1] at HB
                                have HK1 : Hid _ := k1
                                clear k1
                                by_cases hst : st ≤ mt
                                · rw [decide_eq_true hst] at HB
                                  have hsa : decide ((mt : Int) < (st : Int)) = false := by simp; omega
                                  have hsb : decide (mt < st) = false := by simp; omega
                                  clear hst
                                  by_cases k5 : mk = 5
                                  · have k5b : (mk == 5) = true := by simpa using k5
                                    have E0 : Hid (B = mayB ⟨si, st, sk, sd⟩ []) := by show _ = _; rw [HB.out, HX5.out, if_pos k5]; simp
                                    have kq := HKM.out wr hbw
                                    clear HB HX5 k5 HKM HKS
                                    go_wp2_with fail
                                    refine kq.mono ?_
                                    rintro e w6 ⟨rfl, hb6⟩
                                    have hb06 := hbw.trans (hb6.mono hbw.size)
                                    clear kq
                                    go_wp2
                                    go_ret
                                    exact ⟨by rw [E0.out]; rfl, hb06⟩
                                  · have k5b : (mk == 5) = false := by simpa using k5
                                    have E0 : Hid (B = (decide (si = 0) && (decide (st = 0) && (decide (sk = 0) && decide (sd = []))))) := by show _ = _; rw [HB.out, HX5.out, if_neg k5]; simp
                                    have kq := HKS.out wr hbw
                                    clear HB HX5 k5 HKM HKS
                                    go_wp2_with fail
                                    refine kq.mono ?_
                                    rintro e w6 ⟨rfl, hb6⟩
                                    have hb06 := hbw.trans (hb6.mono hbw.size)
                                    clear kq
                                    go_wp2
                                    go_ret
                                    exact ⟨by rw [E0.out]; rfl, hb06⟩
                                · rw [decide_eq_false hst] at HB
                                  have hsa : decide ((mt : Int) < (st : Int)) = true := by simp; omega
                                  have hsb : decide (mt < st) = true := by simp; omega
                                  have E0 : Hid (B = false) := by show _ = _; rw [HB.out]; simp
                                  clear hst HB HX5 HKM HKS
                                  go_wp2
                                  go_ret
                                  exact ⟨by rw [E0.out]; rfl, hbw⟩
                              · have k1b : (mk != 1) = true := by simpa using k1
                                rw [decide_eq_false k1] at HB
                                have HK1 : Hid _ := k1
                                clear k1
                                by_cases hpm : mp ≤ mt
                                · have hpa : decide ((mt : Int) < (mp : Int)) = false := by simp; omega
                                  have hpb : decide (mt < mp) = false := by simp; omega
                                  rw [hpb] at HB
                                  clear hpm
                                  by_cases hst : st ≤ mt
                                  · rw [decide_eq_true hst] at HB
                                    have hsa : decide ((mt : Int) < (st : Int)) = false := by simp; omega
                                    have hsb : decide (mt < st) = false := by simp; omega
                                    clear hst
                                    by_cases k5 : mk = 5
                                    · have k5b : (mk == 5) = true := by simpa using k5
                                      have E0 : Hid (B = mayB ⟨si, st, sk, sd⟩ []) := by show _ = _; rw [HB.out, HX5.out, if_pos k5]; simp
                                      have kq := HKM.out wr hbw
                                      clear HB HX5 k5 HKM HKS
                                      go_wp2_with fail
                                      refine kq.mono ?_
                                      rintro e w6 ⟨rfl, hb6⟩
                                      have hb06 := hbw.trans (hb6.mono hbw.size)
                                      clear kq
                                      go_wp2
                                      go_ret
                                      exact ⟨by rw [E0.out]; rfl, hb06⟩
                                    · have k5b : (mk == 5) = false := by simpa using k5
                                      have E0 : Hid (B = (decide (si = 0) && (decide (st = 0) && (decide (sk = 0) && decide (sd = []))))) := by show _ = _; rw [HB.out, HX5.out, if_neg k5]; simp
                                      have kq := HKS.out wr hbw
                                      clear HB HX5 k5 HKM HKS
                                      go_wp2_with fail
                                      refine kq.mono ?_
                                      rintro e w6 ⟨rfl, hb6⟩
                                      have hb06 := hbw.trans (hb6.mono hbw.size)
                                      clear kq
                                      go_wp2
                                      go_ret
                                      exact ⟨by rw [E0.out]; rfl, hb06⟩
                                  · rw [decide_eq_false hst] at HB
                                    have hsa : decide ((mt : Int) < (st : Int)) = true := by simp; omega
                                    have hsb : decide (mt < st) = true := by simp; omega
                                    have E0 : Hid (B = false) := by show _ = _; rw [HB.out]; simp
                                    clear hst HB HX5 HKM HKS
                                    go_wp2
                                    go_ret
                                    exact ⟨by rw [E0.out]; rfl, hbw⟩
                                · have hpa : decide ((mt : Int) < (mp : Int)) = true := by simp; omega
                                  have hpb : decide (mt < mp) = true := by simp; omega
                                  rw [hpb] at HB
                                  have E0 : Hid (B = false) := by show _ = _; rw [HB.out]; simp
                                  clear hpm HB HX5 HKM HKS
                                  go_wp2
                                  go_ret
                                  exact ⟨by rw [E0.out]; rfl, hbw⟩
                      · rw [decide_eq_false h23] at HB
                        have E0 : Hid (B = false) := by show _ = _; rw [HB.out]; simp
                        have hd23a : decide ((4611686018427387904 : Int) < (mc : Int)) = true := by simp; omega
                        clear h23 HB HX5 HKB HKM HKS
                        go_wp2
                        go_ret
                        exact ⟨by rw [E0.out]; rfl, hb3⟩
                    · rw [decide_eq_false h22] at HB
                      have E0 : Hid (B = false) := by show _ = _; rw [HB.out]; simp
                      have hd22a : decide ((4611686018427387904 : Int) < (mm : Int)) = true := by simp; omega
                      clear h22 HB HX5 HKB HKM HKS
                      go_wp2
                      go_ret
                      exact ⟨by rw [E0.out]; rfl, hb3⟩
                  · rw [decide_eq_false h21] at HB
                    have E0 : Hid (B = false) := by show _ = _; rw [HB.out]; simp
                    have hd21a : decide ((4611686018427387904 : Int) < (mi : Int)) = true := by simp; omega
                    clear h21 HB HX5 HKB HKM HKS
                    go_wp2
                    go_ret
                    exact ⟨by rw [E0.out]; rfl, hb3⟩
                · rw [decide_eq_false h20] at HB
                  have E0 : Hid (B = false) := by show _ = _; rw [HB.out]; simp
                  have hd20a : decide ((16 : Int) < (EN : Int)) = true := by simp; omega
                  clear h20 HB HX5 HKB HKM HKS
                  go_wp2
                  go_ret
                  exact ⟨by rw [E0.out]; rfl, hb3⟩
              · rw [decide_eq_false h11] at HB
                have E0 : Hid (B = false) := by show _ = _; rw [HB.out]; simp
                have hd11a : decide ((4611686018427387904 : Int) < (mt : Int)) = true := by simp; omega
                clear h11 HB HX5 HKB HKM HKS
                go_wp2
                go_ret
                exact ⟨by rw [E0.out]; rfl, hb3⟩
            · rw [decide_eq_false h10] at HB
              have E0 : Hid (B = false) := by show _ = _; rw [HB.out]; simp
              have hd10a : decide ((mt : Int) < 1) = true := by simp; omega
              have hd10b : decide (mt < 1) = true := by simp; omega
              clear h10 HB HX5 HKB HKM HKS
              go_wp2
              go_ret
              exact ⟨by rw [E0.out]; rfl, hb3⟩
    · rw [decide_eq_false k2] at HB
      have k2d : decide ((6 : Int) ≤ mk) = true := by simp; omega
      have E0 : Hid (B = false) := by show _ = _; rw [HB.out]; simp
      clear HB ks kd HX5 HKB HKM HKS k1
      go_enter Tryz.func15, Tryz.ntmps15
      go_wp2
      go_ret
      exact ⟨by rw [E0.out]; rfl, hb1⟩
  · rw [decide_eq_false k1] at HB
    have k1d : decide (mk < 1) = true := by simp; omega
    have E0 : Hid (B = false) := by show _ = _; rw [HB.out]; simp
    clear HB ks kd HX5 HKB HKM HKS
    go_enter Tryz.func15, Tryz.ntmps15
    go_wp2
    go_ret
    exact ⟨by rw [E0.out]; rfl, hb1⟩
end Go.Proofs.YtncoandnelgkeaaGreat

