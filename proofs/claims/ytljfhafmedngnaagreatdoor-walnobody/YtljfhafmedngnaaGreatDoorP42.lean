import Derived.Test.YtljfhafmedngnaaGreatDoorP41
/- The contracts of a log's First and find. -/
namespace Go.Proofs.YtljfhafmedngnaaGreatDoor
open Go.RowKit WalMath DiskMath
set_option maxRecDepth 100000
set_option linter.unusedSimpArgs false
set_option linter.unusedVariables false

/-- The first index; 0: there is none. -/
def firstIx (rs : List Rec) : Nat := (rs.head?.map Rec.index).getD 0
theorem firstIx_skip {sg : List Seg} {i : Nat} (h : ∀ (j : Nat) (s : Seg), j < i → sg[j]? = some s → s.recs = []) : recsOf sg = recsOf (sg.drop i) := by
  have e : recsOf (sg.take i) = [] := by
    unfold recsOf
    rw [List.flatMap_eq_nil_iff]
    intro s hs
    obtain ⟨j, hj⟩ := List.mem_iff_getElem?.1 hs
    rw [List.getElem?_take] at hj
    split at hj
    · rename_i hlt
      exact h j s hlt hj
    · cases hj
  conv => lhs; rw [← List.take_append_drop i sg]
  unfold recsOf at *
  rw [List.flatMap_append, e, List.nil_append]

/-- What a row of segments shows, in any later world. -/
structure RowK (w : World) (q : Nat) (sv : Value) (sg : List Seg) : Prop where
  q1 : ∀ W, Below w.heap.size w W → W.cell? ⟨q, 1, none⟩ = some sv
  at_ : ∀ (i : Nat) (s : Seg), sg[i]? = some s → ∃ g cap pa pc, sv = .slice (some ⟨g, 0, none⟩) sg.length cap ∧ sg.length ≤ cap ∧ cap ≤ maxLen ∧ (∀ W, Below w.heap.size w W → W.cell? ⟨g, i * 2, none⟩ = some (.int .i64 (s.num : Int)) ∧ W.cell? ⟨g, i * 2 + 1, none⟩ = some (.slice pa s.recs.length pc)) ∧ (∀ W, Below w.heap.size w W → Pv W (.slice pa s.recs.length pc) (plc 0 s.recs))
theorem row_k {σ : Wm} {w : World} {q : Nat} {d sv : Value} {sg : List Seg} (hW : WalAt σ w q d sv sg) : RowK w q sv sg := by
  refine ⟨fun W hb => by rw [cells_of_block (hW.below hb).block]; rfl, fun i s hs => ?_⟩
  obtain ⟨g, cap, e, h1, h2, h3, h4, h5, h6⟩ := hW.segs.cells (by intro e; rw [e] at hs; simp at hs)
  obtain ⟨pv, c1, c2, c3, -⟩ := h6 i s hs
  obtain ⟨pa, pc, pe, -⟩ := c3.shape
  rw [pl2_length, plc_length] at pe
  subst pe
  exact ⟨g, cap, pa, pc, e, h1, h2, fun W hb => ⟨(hb.cell (p := ⟨g, i * 2, none⟩) (World.block_lt_of_cell? w _ c1)).trans c1, (hb.cell (p := ⟨g, i * 2 + 1, none⟩) (World.block_lt_of_cell? w _ c2)).trans c2⟩, fun W hb => c3.pv.below hb⟩

set_option maxHeartbeats 4000000 in
theorem first_of {S : Nat → Prop} {σ : Wm} {w : World} {q : Nat} {d sv : Value} {sg : List Seg} {fs : Files} (hT : Tb w) (hD : Dk S w d fs) (hW : WalAt σ w q d sv sg) (hc : Cons sg fs) :
    Calls Tryz.prog 30 #[.pointer (some ⟨q, 0, none⟩)] w fun e w' => e = .returned (.int .u64 (firstIx (recsOf sg) : Int)) ∧ Below w.heap.size w w' := by
  obtain ⟨R, HR⟩ : ∃ R, Hid (R = firstIx (recsOf sg)) := ⟨_, rfl⟩
  rw [← HR.out]
  have ka := wawake_of hT hD hW hc
  obtain ⟨hq1, hat⟩ := row_k hW
  obtain ⟨sa, sc, hsv, -⟩ := hW.segs.shape
  have hlen := hc.1
  clear hW hD hT hc
  rw [hsv] at hq1
  go_enter Tryz.func30, Tryz.ntmps30
  go_wp2_with fail
  refine ka.mono ?_
  rintro e w1 ⟨rfl, b1⟩
  have c1 := hq1 w1 b1
  clear ka
  go_wp2
  go_loopg [13] sg.length (fun g s13 wr => ∃ i : Nat, i + g = sg.length ∧ s13 = .int .i64 (i : Int) ∧ Hid (∀ (j : Nat) (s : Seg), j < i → sg[j]? = some s → s.recs = []) ∧ Below w.heap.size w wr)
  case atStart => exact ⟨0, by simp, rfl, (fun j s h => by omega), b1⟩
  case round =>
    obtain ⟨i, hi, rfl, hemp, hbr⟩ := hrel
    by_cases hlt : i < sg.length
    · have hlti : (i : Int) < (sg.length : Int) := by omega
      have hs := List.getElem?_eq_getElem hlt
      have hdr : recsOf (sg.drop i) = sg[i].recs ++ recsOf (sg.drop (i + 1)) := by
        unfold recsOf
        rw [List.drop_eq_getElem_cons hlt, List.flatMap_cons]
      have hskip := firstIx_skip hemp.out
      rw [hdr] at hskip
      generalize sg[i] = s at *
      obtain ⟨g, cap, pa, pc, e1, h1, h2, h3, h4⟩ := hat i s hs
      rw [hsv] at e1
      cases e1
      obtain ⟨d0, d1⟩ := h3 wr hbr
      have hbx : Below wr.heap.size wr (wr.alloc (.cells #[.int .i64 (s.num : Int), .slice pa s.recs.length pc] 73)) := (Below.refl _ _).alloc (Nat.le_refl _) _
      have hbr2 := hbr.trans (hbx.mono hbr.size)
      have q2 : IntKind.i64.wrap ((i : Int) + 1) = ((i + 1 : Nat) : Int) := by
        rw [show (i : Int) + 1 = ((i + 1 : Nat) : Int) by omega]
        exact IntWalk.i64_in _ (by omega)
      by_cases hne : s.recs = []
      · have hemp' : Hid (∀ (j : Nat) (t : Seg), j < i + 1 → sg[j]? = some t → t.recs = []) := fun j t hj ht => by
          rcases Nat.lt_succ_iff_lt_or_eq.1 hj with hj | hj
          · exact hemp.out j t hj ht
          · subst hj
            rw [hs] at ht
            cases ht
            exact hne
        rw [hne] at d1 hbr2
        clear hat hq1 h3 h4 hskip hdr hs hemp hne hbx
        go_wp2
        go_roundg (gk - 1)
        case measure => omega
        case rel => exact ⟨i + 1, by omega, by go_num, hemp', hbr2⟩
      · obtain ⟨r, rs, hrs⟩ : ∃ r rs, s.recs = r :: rs := by
          cases hh : s.recs with
          | nil => exact absurd hh hne
          | cons r rs => exact ⟨r, rs, rfl⟩
        have hRv : Hid (R = r.index) := by
          show _ = _
          rw [HR.out, hskip, hrs]
          rfl
        obtain ⟨ao, cp, ep, hcell⟩ := h4 _ hbr2
        obtain ⟨b, hao, k0, -⟩ := hcell 0 (r.index, 0 + sz [r]) (by
          have := plc_get s.recs 0 0 r (by rw [hrs]; rfl)
          rw [hrs] at this ⊢
          exact this)
        rw [hao] at ep
        injection ep with ep _ ep2
        subst ep
        subst ep2
        rw [Nat.zero_mul] at k0
        have hl1 : 0 < s.recs.length := by rw [hrs]; simp
        have hl0 : (0 : Int) < (s.recs.length : Int) := by omega
        obtain ⟨n, hn⟩ : ∃ n, n = s.recs.length := ⟨_, rfl⟩
        rw [← hn] at d1 hl0 hl1 hbr2 k0
        clear hat hq1 h3 h4 hskip hdr hs hemp hne hbx hrs hcell hn
        go_wp2
        go_ret
        exact ⟨by rw [hRv.out]; rfl, hbr2⟩
    · have hlti : ¬ (i : Int) < (sg.length : Int) := by omega
      have hRv : Hid (R = 0) := by
        show _ = _
        rw [HR.out, firstIx_skip hemp.out, List.drop_eq_nil_of_le (by omega)]
        rfl
      clear hat hq1 hemp
      go_wp2
      go_ret
      exact ⟨by rw [hRv.out]; rfl, hbr⟩

/-- Has the segment the record? -/
def hasIx (s : Seg) (idx : Nat) : Prop := s.recs ≠ [] ∧ firstIx s.recs ≤ idx ∧ idx ≤ lastIx 0 s.recs
/-- What find tells. -/
def FoundT (w : World) (sg : List Seg) (idx : Nat) (e : Ending) (w' : World) : Prop :=
  Below w.heap.size w w' ∧ ((∃ (i : Nat) (s : Seg), sg[i]? = some s ∧ hasIx s idx ∧ e = .returned (.tuple #[.int .i64 (i : Int), .int .i64 ((idx - firstIx s.recs : Nat) : Int), .bool true])) ∨ ((∀ s ∈ sg, ¬ hasIx s idx) ∧ e = .returned (.tuple #[.int .i64 0, .int .i64 0, .bool false])))
theorem results_tmp3' {fn : Func} {t u v : Tmp} (h : fn.results = #[.tmp t, .tmp u, .tmp v]) (tmps : Array Value) (P : Program) (w : World) :
    (results fn tmps).run P w = .ok (.tuple #[tmps.getD t undef, tmps.getD u undef, tmps.getD v undef]) w := by
  simp [results, h]

set_option maxHeartbeats 4000000 in
theorem find_w {σ : Wm} {w : World} {q : Nat} {d sv : Value} {sg : List Seg} (idx : Nat) (hW : WalAt σ w q d sv sg) (hlen : sg.length ≤ 1000) (hsm : ∀ s ∈ sg, s.recs.length ≤ 100000 ∧ okAll s.recs ∧ (idx ≤ lastIx 0 s.recs → firstIx s.recs ≤ idx → idx - firstIx s.recs ≤ 100000)) (hidx : idx < 18446744073709551616) :
    Calls Tryz.prog 41 #[.pointer (some ⟨q, 0, none⟩), .int .u64 (idx : Int)] w (FoundT w sg idx) := by
  obtain ⟨hq1, hat⟩ := row_k hW
  obtain ⟨sa, sc, hsv, -⟩ := hW.segs.shape
  clear hW
  rw [hsv] at hq1
  have c1 := hq1 w (Below.refl _ _)
  have E1 : ∀ (i : Nat) (s : Seg) w', sg[i]? = some s → hasIx s idx → Below w.heap.size w w' → Hid (FoundT w sg idx (.returned (.tuple #[.int .i64 (i : Int), .int .i64 ((idx - firstIx s.recs : Nat) : Int), .bool true])) w') := fun i s w' h1 h2 h3 => ⟨h3, .inl ⟨i, s, h1, h2, rfl⟩⟩
  have E0 : ∀ w', (∀ s ∈ sg, ¬ hasIx s idx) → Below w.heap.size w w' → Hid (FoundT w sg idx (.returned (.tuple #[.int .i64 0, .int .i64 0, .bool false])) w') := fun w' h1 h3 => ⟨h3, .inr ⟨h1, rfl⟩⟩
  generalize FoundT w sg idx = T at *
  go_enter Tryz.func41, Tryz.ntmps41
  go_wp2
  go_loopg [14] sg.length (fun g s14 wr => ∃ i : Nat, i + g = sg.length ∧ s14 = .int .i64 (i : Int) ∧ Hid (∀ (j : Nat) (s : Seg), j < i → sg[j]? = some s → ¬ hasIx s idx) ∧ Below w.heap.size w wr)
  case atStart => exact ⟨0, by simp, rfl, (fun j s h => by omega), Below.refl _ _⟩
  case round =>
    obtain ⟨i, hi, rfl, hemp, hbr⟩ := hrel
    by_cases hlt : i < sg.length
    · have hlti : (i : Int) < (sg.length : Int) := by omega
      have hs := List.getElem?_eq_getElem hlt
      have hsms := hsm sg[i] (List.getElem_mem _)
      generalize sg[i] = s at *
      obtain ⟨g, cap, pa, pc, e1, h1, h2, h3, h4⟩ := hat i s hs
      rw [hsv] at e1
      cases e1
      obtain ⟨d0, d1⟩ := h3 wr hbr
      have hbx : Below wr.heap.size wr (wr.alloc (.cells #[.int .i64 (s.num : Int), .slice pa s.recs.length pc] 73)) := (Below.refl _ _).alloc (Nat.le_refl _) _
      have hbr2 := hbr.trans (hbx.mono hbr.size)
      have q2 : IntKind.i64.wrap ((i : Int) + 1) = ((i + 1 : Nat) : Int) := by
        rw [show (i : Int) + 1 = ((i + 1 : Nat) : Int) by omega]
        exact IntWalk.i64_in _ (by omega)
      have hnx : ¬ hasIx s idx → Hid (∀ (j : Nat) (t : Seg), j < i + 1 → sg[j]? = some t → ¬ hasIx t idx) := fun hno j t hj ht => by
        rcases Nat.lt_succ_iff_lt_or_eq.1 hj with hj | hj
        · exact hemp.out j t hj ht
        · subst hj
          rw [hs] at ht
          cases ht
          exact hno
      by_cases hne : s.recs = []
      · have hemp' := hnx (fun h => h.1 hne)
        rw [hne] at d1 hbr2
        clear hat hq1 h3 h4 hs hemp hne hbx hnx E0 E1 hsms
        go_wp2
        go_roundg (gk - 1)
        case measure => omega
        case rel => exact ⟨i + 1, by omega, by go_num, hemp', hbr2⟩
      · obtain ⟨r, rs, hrs⟩ : ∃ r rs, s.recs = r :: rs := by
          cases hh : s.recs with
          | nil => exact absurd hh hne
          | cons r rs => exact ⟨r, rs, rfl⟩
        have hfi : firstIx s.recs = r.index := by rw [hrs]; rfl
        have hpv := h4 _ hbr2
        obtain ⟨ao, cp, ep, hcell⟩ := id hpv
        obtain ⟨b, hao, k0, -⟩ := hcell 0 (r.index, 0 + sz [r]) (by
          have := plc_get s.recs 0 0 r (by rw [hrs]; rfl)
          rw [hrs] at this ⊢
          exact this)
        rw [hao] at ep
        injection ep with ep _ ep2
        subst ep
        subst ep2
        rw [Nat.zero_mul] at k0
        have hl1 : 0 < s.recs.length := by rw [hrs]; simp
        have hl0 : (0 : Int) < (s.recs.length : Int) := by omega
        have kl := slast_of (s.num : Int) (.slice (some ⟨b, 0, none⟩) s.recs.length pc) _ _ hpv (by rw [plc_length]; omega)
        rw [lastI_plc] at kl
        have hE1 := fun h w' => E1 i s w' hs h
        rw [hfi] at hE1 hsms
        have hhas : hasIx s idx ↔ r.index ≤ idx ∧ idx ≤ lastIx 0 s.recs := by unfold hasIx; rw [hfi]; simp [hne]
        have hr64 : r.index < 18446744073709551616 := (hsms.2.1 r (by rw [hrs]; exact List.mem_cons_self)).2.1
        obtain ⟨n, hn⟩ : ∃ n, n = s.recs.length := ⟨_, rfl⟩
        obtain ⟨L, hL⟩ : ∃ n, n = lastIx 0 s.recs := ⟨_, rfl⟩
        have hfar := hsms.2.2
        rw [← hL] at hhas kl hfar
        rw [← hn] at d1 hl0 hl1 hbr2 k0 kl hbx
        by_cases ha : r.index ≤ idx
        · have hai : (r.index : Int) ≤ (idx : Int) := by omega
          by_cases hb : idx ≤ L
          · have hbi : (idx : Int) ≤ (L : Int) := by omega
            have hfin := hE1 (hhas.2 ⟨ha, hb⟩)
            have hfd := hfar hb ha
            have q5 : IntKind.u64.wrap ((idx : Int) - (r.index : Int)) = ((idx - r.index : Nat) : Int) := by
              rw [show (idx : Int) - (r.index : Int) = ((idx - r.index : Nat) : Int) by omega, IntKind.wrap_u64]
              omega
            have q6 : IntKind.i64.wrap ((idx - r.index : Nat) : Int) = ((idx - r.index : Nat) : Int) := IntWalk.i64_in _ (by omega)
            generalize idx - r.index = D at *
            have hbxk := heap_alloc_new wr (.cells #[.int .i64 (s.num : Int), .slice (some ⟨b, 0, none⟩) n pc] 73)
            have hbll := World.block_lt_of_cell? _ _ k0
            clear hat hq1 h3 h4 hs hemp hne hbx hnx E0 E1 hsms hpv hcell hE1 hhas hfar hrs hn hL hfi
            go_wp2_with fail
            refine kl.mono ?_
            rintro e w2 ⟨rfl, b2⟩
            have hb02 := hbr2.trans (b2.mono hbr2.size)
            have hf2 := hfin w2 hb02
            have f1 : w2.cell? ⟨wr.heap.size, 1, none⟩ = some (.slice (some ⟨b, 0, none⟩) n pc) := by rw [cells_of_block ((b2.block _ (Array.getElem?_eq_some_iff.1 hbxk).1).trans hbxk)]; rfl
            have f2 := (b2.cell (p := ⟨b, 0, none⟩) hbll).trans k0
            have hf3 : ∀ k, Hid (T (.returned (.tuple #[.int .i64 (i : Int), .int .i64 (D : Int), .bool true])) (w2.drewN k)) := fun k => hfin _ (below_drewN hb02 k)
            clear kl hfin b2 hf2
            go_wp2
            go_quiet (fail)
            have hf4 := hf3 nq
            clear hf3
            go_wp2 <;> first | exact hf4.out | (refine bodyPost_ret (results_tmp3' rfl _ _ _) rfl ?_; exact hf4.out)
          · have hbi : ¬ (idx : Int) ≤ (L : Int) := by omega
            have hemp' := hnx (fun h => hb (hhas.1 h).2)
            clear hat hq1 h3 h4 hs hemp hne hbx hnx E0 E1 hsms hpv hcell hE1 hhas hfar hrs hn hL hfi
            go_wp2_with fail
            refine kl.mono ?_
            rintro e w2 ⟨rfl, b2⟩
            have hb02 := hbr2.trans (b2.mono hbr2.size)
            clear kl b2
            go_wp2
            go_roundg (gk - 1)
            case measure => omega
            case rel => exact ⟨i + 1, by omega, by go_num, hemp', hb02⟩
        · have hai : ¬ (r.index : Int) ≤ (idx : Int) := by omega
          have hemp' := hnx (fun h => ha (hhas.1 h).1)
          clear hat hq1 h3 h4 hs hemp hne hbx hnx E0 E1 hsms hpv hcell hE1 hhas hfar hrs hn hL hfi kl
          go_wp2
          go_roundg (gk - 1)
          case measure => omega
          case rel => exact ⟨i + 1, by omega, by go_num, hemp', hbr2⟩
    · have hlti : ¬ (i : Int) < (sg.length : Int) := by omega
      have hfin := E0 wr (fun s hs => by
        obtain ⟨j, hj⟩ := List.mem_iff_getElem?.1 hs
        exact hemp.out j s (by have := (List.getElem?_eq_some_iff.1 hj).1; omega) hj) hbr
      clear hat hq1 hemp E0 E1
      go_wp2 <;> first | exact hfin.out | (refine bodyPost_ret (results_tmp3' rfl _ _ _) rfl ?_; exact hfin.out)
end Go.Proofs.YtljfhafmedngnaaGreatDoor

