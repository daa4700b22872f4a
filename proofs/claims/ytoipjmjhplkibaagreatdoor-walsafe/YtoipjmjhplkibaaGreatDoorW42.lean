import Derived.Test.YtoipjmjhplkibaaGreatDoorW39
/- The contract of slices.Backward over a slice of segments where the loop's body may write whatever is not the row: it hands the segments on from the last to the first. -/
namespace Go.Proofs.YtoipjmjhplkibaaGreatDoor
open Go.RowKit Go.Shelf
attribute [local go_sem] Oper.semAt_some
set_option maxRecDepth 100000
set_option linter.unusedVariables false

/-- The row's block and the iterator's own box lie as they lay. -/
def KeepR (b Bs : Nat) (W W' : World) : Prop := W'.heap[b]? = W.heap[b]? ∧ W'.heap[Bs]? = W.heap[Bs]?
theorem KeepR.refl (b Bs : Nat) (W : World) : KeepR b Bs W W := ⟨rfl, rfl⟩
theorem KeepR.trans {b Bs : Nat} {A B C : World} (h : KeepR b Bs A B) (k : KeepR b Bs B C) : KeepR b Bs A C := ⟨k.1.trans h.1, k.2.trans h.2⟩
theorem KeepR.put {b Bs : Nat} {w : World} (hb : b < w.heap.size) (hB : Bs < w.heap.size) (W : World) (l : Nat) (o o' : Obj) (hl : w.heap.size ≤ l) (h : W.heap[l]? = some o) (h1 : o.isCells = false) (h2 : o.isWalk = false) : KeepR b Bs W (W.putObj l o') :=
  ⟨(grownBy_putObj' W l o').block b (by have := (Array.getElem?_eq_some_iff.1 h).1; omega) (fun e => by cases e; omega), (grownBy_putObj' W l o').block Bs (by have := (Array.getElem?_eq_some_iff.1 h).1; omega) (fun e => by cases e; omega)⟩
theorem KeepR.cell {b Bs : Nat} {W W' : World} (h : KeepR b Bs W W') : W'.cell? ⟨Bs, 0, none⟩ = W.cell? ⟨Bs, 0, none⟩ := World.cell?_of_block (w := W) h.2
theorem KeepR.cellb {b Bs : Nat} {W W' : World} (h : KeepR b Bs W W') (i : Nat) : W'.cell? ⟨b, i, none⟩ = W.cell? ⟨b, i, none⟩ := World.cell?_of_block (w := W) h.1

set_option maxHeartbeats 2000000 in
theorem back1_inR {β : Type} (f : β → Nat × Option Addr × Nat × Nat) (F : Fence) (n : Nat) (h1f : F.fn 87) (hro : F.round = none) (hn : 1 ≤ n) (l Bs b off cap : Nat) (zs : List β) (hreach : zs.length ≤ 1000000) (J Jx : List (Int × β) → World → Prop)
    (hY : ∀ pre x W, J pre W → pre.length < zs.length → YieldAt F (n - 1) Tryz.prog l (encS f x) W fun e W' =>
      (e = .returned (.bool true) ∧ J (pre ++ [x]) W' ∧ KeepR b Bs W W') ∨ (e = .returned (.bool false) ∧ Jx (pre ++ [x]) W'))
    (W : World) (hBs : W.cell? ⟨Bs, 0, none⟩ = some (.slice (some ⟨b, off, none⟩) zs.length cap)) (hc : ∀ j, (h : j < zs.length) → W.cell? ⟨b, off + j * 2, none⟩ = some (.int .i64 ((f zs[j]).1 : Int)) ∧ W.cell? ⟨b, off + j * 2 + 1, none⟩ = some (.slice (f zs[j]).2.1 (f zs[j]).2.2.1 (f zs[j]).2.2.2)) (h0 : J [] W) :
    CallsIn F n Tryz.prog 87 #[.func (.yield l) #[] #[], .pointer (some ⟨Bs, 0, none⟩)] W fun e W' => (∃ v, e = .returned v) ∧
      ((∃ ys, ys.map (·.2) = zs.reverse ∧ J ys W') ∨ (∃ pre, (∃ k, k < zs.length ∧ come zs pre k) ∧ Jx pre W')) := by
  refine callsIn_of_wp Tryz.func87 rfl h1f ?_ hro
  simp only [Tryz.ntmps87, List.size_toArray, List.length_cons, List.length_nil, Nat.reduceAdd, Nat.reduceSub, Array.replicate_succ, Array.replicate_zero, List.push_toArray, List.append_toArray, List.nil_append, List.cons_append]
  gi_wp2
  gi_loopw [3] (fun i wr => ∃ (k : Nat) (pre : List (Int × β)), k ≤ zs.length ∧ i = .int .i64 ((k : Int) - 1) ∧ Hid (come zs pre k) ∧ J pre wr ∧ KeepR b Bs W wr)
    (fun i _ => (intOf i + 1).toNat)
  case atStart => exact ⟨zs.length, [], Nat.le_refl _, rfl, by show come zs [] _; simp [come], h0, KeepR.refl _ _ _⟩
  case round =>
    obtain ⟨k, pre, hk, hi, hcm, hJs, hnx⟩ := hrel
    cases k with
    | zero =>
      obtain rfl : u3 = .int .i64 (-1) := hi
      gi_wp2
      go_end0
      exact ⟨⟨_, rfl⟩, .inl ⟨pre, by have := hcm.out; simpa [come] using this, hJs⟩⟩
    | succ k =>
      have hlt : k < zs.length := by omega
      obtain rfl : u3 = .int .i64 (k : Int) := by rw [hi]; congr 1; omega
      clear hi
      obtain ⟨fn, tmps, assign, body, hy, hR⟩ := hY pre ((k : Int), zs[k]) wr hJs (come_len hcm.out hlt)
      have hcx := hc k hlt
      have hc1 := (hnx.cellb (off + k * 2)).trans hcx.1
      have hc2 := (hnx.cellb (off + k * 2 + 1)).trans hcx.2
      have hBx := hnx.cell.trans hBs
      dsimp only [encS] at hy
      clear hcx
      gi_wp2
      refine hR.mono ?_
      rintro e W3 (⟨rfl, hJ3, hk3⟩ | ⟨rfl, hJx3⟩)
      · gi_wp2
        go_roundw
        case rel => exact ⟨k, pre ++ [((k : Int), zs[k])], by omega, by go_num, come_step hcm.out hlt _, hJ3, hnx.trans hk3⟩
        case measure => simp [intOf]
      · gi_wp2
        refine bodyPost_ret (results_none rfl _ _ _) rfl ?_
        exact ⟨⟨_, rfl⟩, .inr ⟨_, ⟨k, hlt, come_step hcm.out hlt _⟩, hJx3⟩⟩

theorem back_stopsR {β : Type} (f : β → Nat × Option Addr × Nat × Nat) (F : Fence) (n : Nat) (h1f : F.fn 87) (hro : F.round = none) (hn : 1 ≤ n) (Bs b off cap : Nat) (zs : List β) (hreach : zs.length ≤ 1000000) (w : World) (hBs : Bs < w.heap.size) (hb : b < w.heap.size)
    (hc : w.cell? ⟨Bs, 0, none⟩ = some (.slice (some ⟨b, off, none⟩) zs.length cap)) (hI : ∀ j, (h : j < zs.length) → w.cell? ⟨b, off + j * 2, none⟩ = some (.int .i64 ((f zs[j]).1 : Int)) ∧ w.cell? ⟨b, off + j * 2 + 1, none⟩ = some (.slice (f zs[j]).2.1 (f zs[j]).2.2.1 (f zs[j]).2.2.2)) :
    SeqStopsK F n Tryz.prog 87 #[.pointer (some ⟨Bs, 0, none⟩) ] (encS f) (KeepR b Bs) (fun ys => ys.map (·.2) = zs.reverse) (fun pre => ∃ k, k < zs.length ∧ come zs pre k) zs.length w := fun l J Jx W hW _ _ hY h0 => by
  have hc' := (hW.cell (p := ⟨Bs, 0, none⟩) hBs).trans hc
  exact back1_inR f F n h1f hro hn l Bs b off cap zs hreach J Jx hY W hc' (fun j hj => ⟨(hW.cell (p := ⟨b, off + j * 2, none⟩) hb).trans (hI j hj).1, (hW.cell (p := ⟨b, off + j * 2 + 1, none⟩) hb).trans (hI j hj).2⟩) h0
end Go.Proofs.YtoipjmjhplkibaaGreatDoor

/- The contracts of a log's First and find. -/
namespace Go.Proofs.YtoipjmjhplkibaaGreatDoor
open Go.RowKit WalMath DiskMath
set_option maxRecDepth 100000
set_option linter.unusedSimpArgs false
set_option linter.unusedVariables false

/-- The first index; 0: there is none. -/
def firstIx (rs : List Rec) : Nat := (rs.head?.map Rec.index).getD 0
theorem firstIx_skip {sg : List Seg} {i : Nat} (h : ∀ (j : Nat) (s : Seg), j < i → sg[j]? = some s → s.recs = []) : recsOf sg = recsOf (sg.drop i) := by
  have e : recsOf (sg.take i) = [] := by
    unfold recsOf
    rw [List.flatMap_eq_nil_iff]
    intro s hs
    obtain ⟨j, hj⟩ := List.mem_iff_getElem?.1 hs
    rw [List.getElem?_take] at hj
    split at hj
    · rename_i hlt
      exact h j s hlt hj
    · cases hj
  conv => lhs; rw [← List.take_append_drop i sg]
  unfold recsOf at *
  rw [List.flatMap_append, e, List.nil_append]

/-- What a row of segments shows, in any later world. -/
structure RowK (w : World) (q : Nat) (sv : Value) (sg : List Seg) : Prop where
  q1 : ∀ W, Below w.heap.size w W → W.cell? ⟨q, 1, none⟩ = some sv
  at_ : ∀ (i : Nat) (s : Seg), sg[i]? = some s → ∃ g cap pa pc, sv = .slice (some ⟨g, 0, none⟩) sg.length cap ∧ sg.length ≤ cap ∧ cap ≤ maxLen ∧ (∀ W, Below w.heap.size w W → W.cell? ⟨g, i * 2, none⟩ = some (.int .i64 (s.num : Int)) ∧ W.cell? ⟨g, i * 2 + 1, none⟩ = some (.slice pa s.recs.length pc)) ∧ (∀ W, Below w.heap.size w W → Pv W (.slice pa s.recs.length pc) (plc 0 s.recs))
theorem row_k {σ : Wm} {w : World} {q : Nat} {d sv : Value} {sg : List Seg} (hW : WalAt σ w q d sv sg) : RowK w q sv sg := by
  refine ⟨fun W hb => by rw [cells_of_block (hW.below hb).block]; rfl, fun i s hs => ?_⟩
  obtain ⟨g, cap, e, h1, h2, h3, h4, h5, h6⟩ := hW.segs.cells (by intro e; rw [e] at hs; simp at hs)
  obtain ⟨pv, c1, c2, c3, -⟩ := h6 i s hs
  obtain ⟨pa, pc, pe, -⟩ := c3.shape
  rw [pl2_length, plc_length] at pe
  subst pe
  exact ⟨g, cap, pa, pc, e, h1, h2, fun W hb => ⟨(hb.cell (p := ⟨g, i * 2, none⟩) (World.block_lt_of_cell? w _ c1)).trans c1, (hb.cell (p := ⟨g, i * 2 + 1, none⟩) (World.block_lt_of_cell? w _ c2)).trans c2⟩, fun W hb => c3.pv.below hb⟩

set_option maxHeartbeats 4000000 in
theorem first_of {S : Nat → Prop} {σ : Wm} {w : World} {q : Nat} {d sv : Value} {sg : List Seg} {fs : Files} (hT : Tb w) (hD : Dk S w d fs) (hW : WalAt σ w q d sv sg) (hc : Cons sg fs) :
    Calls Tryz.prog 64 #[.pointer (some ⟨q, 0, none⟩)] w fun e w' => e = .returned (.int .u64 (firstIx (recsOf sg) : Int)) ∧ Below w.heap.size w w' := by
  obtain ⟨R, HR⟩ : ∃ R, Hid (R = firstIx (recsOf sg)) := ⟨_, rfl⟩
  rw [← HR.out]
  have ka := wawake_of hT hD hW hc
  obtain ⟨hq1, hat⟩ := row_k hW
  obtain ⟨sa, sc, hsv, -⟩ := hW.segs.shape
  have hlen := hc.1
  clear hW hD hT hc
  rw [hsv] at hq1
  go_enter Tryz.func64, Tryz.ntmps64
  go_wp2_with fail
  refine ka.mono ?_
  rintro e w1 ⟨rfl, b1⟩
  have c1 := hq1 w1 b1
  clear ka
  go_wp2
  go_loopg [13] sg.length (fun g s13 wr => ∃ i : Nat, i + g = sg.length ∧ s13 = .int .i64 (i : Int) ∧ Hid (∀ (j : Nat) (s : Seg), j < i → sg[j]? = some s → s.recs = []) ∧ Below w.heap.size w wr)
  case atStart => exact ⟨0, by simp, rfl, (fun j s h => by omega), b1⟩
  case round =>
    obtain ⟨i, hi, rfl, hemp, hbr⟩ := hrel
    by_cases hlt : i < sg.length
    · have hlti : (i : Int) < (sg.length : Int) := by omega
      have hs := List.getElem?_eq_getElem hlt
      have hdr : recsOf (sg.drop i) = sg[i].recs ++ recsOf (sg.drop (i + 1)) := by
        unfold recsOf
        rw [List.drop_eq_getElem_cons hlt, List.flatMap_cons]
      have hskip := firstIx_skip hemp.out
      rw [hdr] at hskip
      generalize sg[i] = s at *
      obtain ⟨g, cap, pa, pc, e1, h1, h2, h3, h4⟩ := hat i s hs
      rw [hsv] at e1
      cases e1
      obtain ⟨d0, d1⟩ := h3 wr hbr
      have hbx : Below wr.heap.size wr (wr.alloc (.cells #[.int .i64 (s.num : Int), .slice pa s.recs.length pc] 81)) := (Below.refl _ _).alloc (Nat.le_refl _) _
      have hbr2 := hbr.trans (hbx.mono hbr.size)
      have q2 : IntKind.i64.wrap ((i : Int) + 1) = ((i + 1 : Nat) : Int) := by
        rw [show (i : Int) + 1 = ((i + 1 : Nat) : Int) by omega]
        exact IntWalk.i64_in _ (by omega)
      by_cases hne : s.recs = []
      · have hemp' : Hid (∀ (j : Nat) (t : Seg), j < i + 1 → sg[j]? = some t → t.recs = []) := fun j t hj ht => by
          rcases Nat.lt_succ_iff_lt_or_eq.1 hj with hj | hj
          · exact hemp.out j t hj ht
          · subst hj
            rw [hs] at ht
            cases ht
            exact hne
        rw [hne] at d1 hbr2
        clear hat hq1 h3 h4 hskip hdr hs hemp hne hbx
        go_wp2
        go_roundg (gk - 1)
        case measure => omega
        case rel => exact ⟨i + 1, by omega, by go_num, hemp', hbr2⟩
      · obtain ⟨r, rs, hrs⟩ : ∃ r rs, s.recs = r :: rs := by
          cases hh : s.recs with
          | nil => exact absurd hh hne
          | cons r rs => exact ⟨r, rs, rfl⟩
        have hRv : Hid (R = r.index) := by
          show _ = _
          rw [HR.out, hskip, hrs]
          rfl
        obtain ⟨ao, cp, ep, hcell⟩ := h4 _ hbr2
        obtain ⟨b, hao, k0, -⟩ := hcell 0 (r.index, 0 + sz [r]) (by
          have := plc_get s.recs 0 0 r (by rw [hrs]; rfl)
          rw [hrs] at this ⊢
          exact this)
        rw [hao] at ep
        injection ep with ep _ ep2
        subst ep
        subst ep2
        rw [Nat.zero_mul] at k0
        have hl1 : 0 < s.recs.length := by rw [hrs]; simp
        have hl0 : (0 : Int) < (s.recs.length : Int) := by omega
        obtain ⟨n, hn⟩ : ∃ n, n = s.recs.length := ⟨_, rfl⟩
        rw [← hn] at d1 hl0 hl1 hbr2 k0
        clear hat hq1 h3 h4 hskip hdr hs hemp hne hbx hrs hcell hn
        go_wp2
        go_ret
        exact ⟨by rw [hRv.out]; rfl, hbr2⟩
    · have hlti : ¬ (i : Int) < (sg.length : Int) := by omega
      have hRv : Hid (R = 0) := by
        show _ = _
        rw [HR.out, firstIx_skip hemp.out, List.drop_eq_nil_of_le (by omega)]
        rfl
      clear hat hq1 hemp
      go_wp2
      go_ret
      exact ⟨by rw [hRv.out]; rfl, hbr⟩

/-- Has the segment the record? -/
def hasIx (s : Seg) (idx : Nat) : Prop := s.recs ≠ [] ∧ firstIx s.recs ≤ idx ∧ idx ≤ lastIx 0 s.recs
/-- What find tells. -/
def FoundT (w : World) (sg : List Seg) (idx : Nat) (e : Ending) (w' : World) : Prop :=
  Below w.heap.size w w' ∧ ((∃ (i : Nat) (s : Seg), sg[i]? = some s ∧ hasIx s idx ∧ e = .returned (.tuple #[.int .i64 (i : Int), .int .i64 ((idx - firstIx s.recs : Nat) : Int), .bool true])) ∨ ((∀ s ∈ sg, ¬ hasIx s idx) ∧ e = .returned (.tuple #[.int .i64 0, .int .i64 0, .bool false])))
theorem results_tmp3' {fn : Func} {t u v : Tmp} (h : fn.results = #[.tmp t, .tmp u, .tmp v]) (tmps : Array Value) (P : Program) (w : World) :
    (results fn tmps).run P w = .ok (.tuple #[tmps.getD t undef, tmps.getD u undef, tmps.getD v undef]) w := by
  simp [results, h]

set_option maxHeartbeats 4000000 in
theorem find_w {σ : Wm} {w : World} {q : Nat} {d sv : Value} {sg : List Seg} (idx : Nat) (hW : WalAt σ w q d sv sg) (hlen : sg.length ≤ 1000) (hsm : ∀ s ∈ sg, s.recs.length ≤ 100000 ∧ okAll s.recs ∧ (idx ≤ lastIx 0 s.recs → firstIx s.recs ≤ idx → idx - firstIx s.recs ≤ 100000)) (hidx : idx < 18446744073709551616) :
    Calls Tryz.prog 42 #[.pointer (some ⟨q, 0, none⟩), .int .u64 (idx : Int)] w (FoundT w sg idx) := by
  obtain ⟨hq1, hat⟩ := row_k hW
  obtain ⟨sa, sc, hsv, -⟩ := hW.segs.shape
  clear hW
  rw [hsv] at hq1
  have c1 := hq1 w (Below.refl _ _)
  have E1 : ∀ (i : Nat) (s : Seg) w', sg[i]? = some s → hasIx s idx → Below w.heap.size w w' → Hid (FoundT w sg idx (.returned (.tuple #[.int .i64 (i : Int), .int .i64 ((idx - firstIx s.recs : Nat) : Int), .bool true])) w') := fun i s w' h1 h2 h3 => ⟨h3, .inl ⟨i, s, h1, h2, rfl⟩⟩
  have E0 : ∀ w', (∀ s ∈ sg, ¬ hasIx s idx) → Below w.heap.size w w' → Hid (FoundT w sg idx (.returned (.tuple #[.int .i64 0, .int .i64 0, .bool false])) w') := fun w' h1 h3 => ⟨h3, .inr ⟨h1, rfl⟩⟩
  generalize FoundT w sg idx = T at *
  go_enter Tryz.func42, Tryz.ntmps42
  go_wp2
  go_loopg [14] sg.length (fun g s14 wr => ∃ i : Nat, i + g = sg.length ∧ s14 = .int .i64 (i : Int) ∧ Hid (∀ (j : Nat) (s : Seg), j < i → sg[j]? = some s → ¬ hasIx s idx) ∧ Below w.heap.size w wr)
  case atStart => exact ⟨0, by simp, rfl, (fun j s h => by omega), Below.refl _ _⟩
  case round =>
    obtain ⟨i, hi, rfl, hemp, hbr⟩ := hrel
    by_cases hlt : i < sg.length
    · have hlti : (i : Int) < (sg.length : Int) := by omega
      have hs := List.getElem?_eq_getElem hlt
      have hsms := hsm sg[i] (List.getElem_mem _)
      generalize sg[i] = s at *
      obtain ⟨g, cap, pa, pc, e1, h1, h2, h3, h4⟩ := hat i s hs
      rw [hsv] at e1
      cases e1
      obtain ⟨d0, d1⟩ := h3 wr hbr
      have hbx : Below wr.heap.size wr (wr.alloc (.cells #[.int .i64 (s.num : Int), .slice pa s.recs.length pc] 81)) := (Below.refl _ _).alloc (Nat.le_refl _) _
      have hbr2 := hbr.trans (hbx.mono hbr.size)
      have q2 : IntKind.i64.wrap ((i : Int) + 1) = ((i + 1 : Nat) : Int) := by
        rw [show (i : Int) + 1 = ((i + 1 : Nat) : Int) by omega]
        exact IntWalk.i64_in _ (by omega)
      have hnx : ¬ hasIx s idx → Hid (∀ (j : Nat) (t : Seg), j < i + 1 → sg[j]? = some t → ¬ hasIx t idx) := fun hno j t hj ht => by
        rcases Nat.lt_succ_iff_lt_or_eq.1 hj with hj | hj
        · exact hemp.out j t hj ht
        · subst hj
          rw [hs] at ht
          cases ht
          exact hno
      by_cases hne : s.recs = []
      · have hemp' := hnx (fun h => h.1 hne)
        rw [hne] at d1 hbr2
        clear hat hq1 h3 h4 hs hemp hne hbx hnx E0 E1 hsms
        go_wp2
        go_roundg (gk - 1)
        case measure => omega
        case rel => exact ⟨i + 1, by omega, by go_num, hemp', hbr2⟩
      · obtain ⟨r, rs, hrs⟩ : ∃ r rs, s.recs = r :: rs := by
          cases hh : s.recs with
          | nil => exact absurd hh hne
          | cons r rs => exact ⟨r, rs, rfl⟩
        have hfi : firstIx s.recs = r.index := by rw [hrs]; rfl
        have hpv := h4 _ hbr2
        obtain ⟨ao, cp, ep, hcell⟩ := id hpv
        obtain ⟨b, hao, k0, -⟩ := hcell 0 (r.index, 0 + sz [r]) (by
          have := plc_get s.recs 0 0 r (by rw [hrs]; rfl)
          rw [hrs] at this ⊢
          exact this)
        rw [hao] at ep
        injection ep with ep _ ep2
        subst ep
        subst ep2
        rw [Nat.zero_mul] at k0
        have hl1 : 0 < s.recs.length := by rw [hrs]; simp
        have hl0 : (0 : Int) < (s.recs.length : Int) := by omega
        have kl := slast_of (s.num : Int) (.slice (some ⟨b, 0, none⟩) s.recs.length pc) _ _ hpv (by rw [plc_length]; omega)
        rw [lastI_plc] at kl
        have hE1 := fun h w' => E1 i s w' hs h
        rw [hfi] at hE1 hsms
        have hhas : hasIx s idx ↔ r.index ≤ idx ∧ idx ≤ lastIx 0 s.recs := by unfold hasIx; rw [hfi]; simp [hne]
        have hr64 : r.index < 18446744073709551616 := (hsms.2.1 r (by rw [hrs]; exact List.mem_cons_self)).2.1
        obtain ⟨n, hn⟩ : ∃ n, n = s.recs.length := ⟨_, rfl⟩
        obtain ⟨L, hL⟩ : ∃ n, n = lastIx 0 s.recs := ⟨_, rfl⟩
        have hfar := hsms.2.2
        rw [← hL] at hhas kl hfar
        rw [← hn] at d1 hl0 hl1 hbr2 k0 kl hbx
        by_cases ha : r.index ≤ idx
        · have hai : (r.index : Int) ≤ (idx : Int) := by omega
          by_cases hb : idx ≤ L
          · have hbi : (idx : Int) ≤ (L : Int) := by omega
            have hfin := hE1 (hhas.2 ⟨ha, hb⟩)
            have hfd := hfar hb ha
            have q5 : IntKind.u64.wrap ((idx : Int) - (r.index : Int)) = ((idx - r.index : Nat) : Int) := by
              rw [show (idx : Int) - (r.index : Int) = ((idx - r.index : Nat) : Int) by omega, IntKind.wrap_u64]
              omega
            have q6 : IntKind.i64.wrap ((idx - r.index : Nat) : Int) = ((idx - r.index : Nat) : Int) := IntWalk.i64_in _ (by omega)
            generalize idx - r.index = D at *
            have hbxk := heap_alloc_new wr (.cells #[.int .i64 (s.num : Int), .slice (some ⟨b, 0, none⟩) n pc] 81)
            have hbll := World.block_lt_of_cell? _ _ k0
            clear hat hq1 h3 h4 hs hemp hne hbx hnx E0 E1 hsms hpv hcell hE1 hhas hfar hrs hn hL hfi
            go_wp2_with fail
            refine kl.mono ?_
            rintro e w2 ⟨rfl, b2⟩
            have hb02 := hbr2.trans (b2.mono hbr2.size)
            have hf2 := hfin w2 hb02
            have f1 : w2.cell? ⟨wr.heap.size, 1, none⟩ = some (.slice (some ⟨b, 0, none⟩) n pc) := by rw [cells_of_block ((b2.block _ (Array.getElem?_eq_some_iff.1 hbxk).1).trans hbxk)]; rfl
            have f2 := (b2.cell (p := ⟨b, 0, none⟩) hbll).trans k0
            have hf3 : ∀ k, Hid (T (.returned (.tuple #[.int .i64 (i : Int), .int .i64 (D : Int), .bool true])) (w2.drewN k)) := fun k => hfin _ (below_drewN hb02 k)
            clear kl hfin b2 hf2
            go_wp2
            go_quiet (fail)
            have hf4 := hf3 nq
            clear hf3
            go_wp2 <;> first | exact hf4.out | (refine bodyPost_ret (results_tmp3' rfl _ _ _) rfl ?_; exact hf4.out)
          · have hbi : ¬ (idx : Int) ≤ (L : Int) := by omega
            have hemp' := hnx (fun h => hb (hhas.1 h).2)
            clear hat hq1 h3 h4 hs hemp hne hbx hnx E0 E1 hsms hpv hcell hE1 hhas hfar hrs hn hL hfi
            go_wp2_with fail
            refine kl.mono ?_
            rintro e w2 ⟨rfl, b2⟩
            have hb02 := hbr2.trans (b2.mono hbr2.size)
            clear kl b2
            go_wp2
            go_roundg (gk - 1)
            case measure => omega
            case rel => exact ⟨i + 1, by omega, by go_num, hemp', hb02⟩
        · have hai : ¬ (r.index : Int) ≤ (idx : Int) := by omega
          have hemp' := hnx (fun h => ha (hhas.1 h).1)
          clear hat hq1 h3 h4 hs hemp hne hbx hnx E0 E1 hsms hpv hcell hE1 hhas hfar hrs hn hL hfi kl
          go_wp2
          go_roundg (gk - 1)
          case measure => omega
          case rel => exact ⟨i + 1, by omega, by go_num, hemp', hbr2⟩
    · have hlti : ¬ (i : Int) < (sg.length : Int) := by omega
      have hfin := E0 wr (fun s hs => by
        obtain ⟨j, hj⟩ := List.mem_iff_getElem?.1 hs
        exact hemp.out j s (by have := (List.getElem?_eq_some_iff.1 hj).1; omega) hj) hbr
      clear hat hq1 hemp E0 E1
      go_wp2 <;> first | exact hfin.out | (refine bodyPost_ret (results_tmp3' rfl _ _ _) rfl ?_; exact hfin.out)
end Go.Proofs.YtoipjmjhplkibaaGreatDoor

/- The contract of a log's Get. -/
namespace Go.Proofs.YtoipjmjhplkibaaGreatDoor
open Go.RowKit WalMath DiskMath
set_option maxRecDepth 100000
set_option linter.unusedSimpArgs false
set_option linter.unusedVariables false

theorem endI_at (rs : List Rec) (j : Nat) (h : j ≤ rs.length) : endI (plc 0 rs) j = sz (rs.take j) := by
  cases j with
  | zero => simp [endI, sz_nil]
  | succ n =>
    show ((plc 0 rs)[n]?.map Prod.snd).getD 0 = _
    rw [plc_get rs 0 n rs[n] (List.getElem?_eq_getElem (by omega))]
    simp

theorem has_rec {s : Seg} {idx : Nat} (hok : okAll s.recs) (hch : chn 0 s.recs) (h : hasIx s idx) : ∃ r, s.recs[idx - firstIx s.recs]? = some r ∧ r.index = idx := by
  obtain ⟨h0, h1, h2⟩ := h
  generalize s.recs = rs at *
  cases rs with
  | nil => exact absurd rfl h0
  | cons t a =>
    have hf : firstIx (t :: a) = t.index := rfl
    rw [hf] at h1 ⊢
    have hl := chn_get a 0 ((t :: a).length - 1) ((t :: a)[(t :: a).length - 1]'(by simp)) t hok hch (List.getElem?_eq_getElem _)
    rw [lastIx_eq, List.getLast?_eq_getElem?, List.getElem?_eq_getElem (by simp)] at h2
    simp only [Option.map_some, Option.getD_some] at h2
    rw [hl] at h2
    have hlen : idx - t.index < (t :: a).length := by
      have : 0 < (t :: a).length := by simp
      omega
    refine ⟨_, List.getElem?_eq_getElem hlen, ?_⟩
    have := chn_get a 0 (idx - t.index) _ t hok hch (List.getElem?_eq_getElem hlen)
    omega

/-- The disk has every segment as the log has it. -/
structure Whole (sg : List Seg) (fs : Files) : Prop where
  len : sg.length ≤ 1000
  at_ : ∀ s ∈ sg, s.num < 100000000 ∧ s.recs.length ≤ 1000 ∧ sz s.recs ≤ 10000 ∧ okAll s.recs ∧ chn 0 s.recs ∧ ∃ f, get fs (segName s.num) = some f ∧ f.data = joinR s.recs
theorem Whole.cons {sg : List Seg} {fs : Files} (h : Whole sg fs) : Cons sg fs := by
  refine ⟨h.len, fun m s _ hs => ?_⟩
  obtain ⟨h1, h2, h3, -, -, f, h4, h5⟩ := h.at_ s (List.mem_of_getElem? hs)
  exact ⟨h1, by omega, f, h4, by rw [h5]; rfl⟩

/-- What Get tells. -/
def GetT (w : World) (sg : List Seg) (idx : Nat) (e : Ending) (w' : World) : Prop :=
  Below w.heap.size w w' ∧ ((∃ s ∈ sg, ∃ r ∈ s.recs, r.index = idx ∧ ∃ v, e = .returned (.tuple #[v, .bool true]) ∧ @Bs keepAll w'.heap.size w' v r.data) ∨ ((∀ s ∈ sg, ¬ hasIx s idx) ∧ e = .returned (.tuple #[.slice none 0 0, .bool false])))

set_option maxHeartbeats 4000000 in
theorem get_of {S : Nat → Prop} {σ : Wm} {w : World} {q : Nat} {d sv : Value} {sg : List Seg} {fs : Files} (idx : Nat) (hT : Tb w) (hD : Dk S w d fs) (hW : WalAt σ w q d sv sg) (hw : Whole sg fs) (hidx : idx < 18446744073709551616) :
    Calls Tryz.prog 24 #[.pointer (some ⟨q, 0, none⟩), .int .u64 (idx : Int)] w (GetT w sg idx) := by
  letI := keepAll
  have hlen := hw.len
  have ka := wawake_of hT hD hW hw.cons
  have kf : ∀ W, Below w.heap.size w W → Calls Tryz.prog 42 #[.pointer (some ⟨q, 0, none⟩), .int .u64 (idx : Int)] W (FoundT W sg idx) := fun W hb => find_w idx (hW.below hb) hw.len (fun s hs => by
    obtain ⟨h1, h2, h3, h4, h5, -⟩ := hw.at_ s hs
    refine ⟨by omega, h4, fun ha hb => ?_⟩
    by_cases he : s.recs = []
    · rw [he] at ha
      have : idx ≤ 0 := ha
      omega
    · obtain ⟨r, hr, -⟩ := has_rec h4 h5 ⟨he, hb, ha⟩
      have := (List.getElem?_eq_some_iff.1 hr).1
      omega) hidx
  obtain ⟨hq1, hat⟩ := row_k hW
  have hq0 : ∀ W, Below w.heap.size w W → W.cell? ⟨q, 0, none⟩ = some d := fun W hb => by rw [cells_of_block (hW.below hb).block]; rfl
  obtain ⟨sa, sc, hsv, -⟩ := hW.segs.shape
  rw [hsv] at hq1
  have E0 : ∀ w', (∀ s ∈ sg, ¬ hasIx s idx) → Below w.heap.size w w' → Hid (GetT w sg idx (.returned (.tuple #[.slice none 0 0, .bool false])) w') := fun w' h1 h3 => ⟨h3, .inr ⟨h1, rfl⟩⟩
  have E1 : ∀ s r v w', s ∈ sg → r ∈ s.recs → r.index = idx → @Bs keepAll w'.heap.size w' v r.data → Below w.heap.size w w' → Hid (GetT w sg idx (.returned (.tuple #[v, .bool true])) w') := fun s r v w' h1 h2 h3 h4 h5 => ⟨h5, .inl ⟨s, h1, r, h2, h3, v, rfl, h4⟩⟩
  have kname : ∀ s pv, s ∈ sg → ∀ W, Below w.heap.size w W → Calls Tryz.prog 39 #[.agg #[.int .i64 (s.num : Int), pv]] W fun e w' => e = .returned (.string (segName s.num)) ∧ Below w.heap.size w w' := fun s pv hs W hb => (sname_of s.num pv W (hT.new hb) (hw.at_ s hs).1).mono fun e w' h => ⟨h.1, hb.trans (h.2.mono hb.size)⟩
  have kread : ∀ s, s ∈ sg → ∀ W, Below w.heap.size w W → Calls Tryz.prog 65 #[d, .string (segName s.num)] W fun e w' => ∃ v, e = .returned (.tuple #[v, .bool true]) ∧ Own W.heap.size w' v (joinR s.recs) ∧ Below w.heap.size w w' := fun s hs W hb => by
    obtain ⟨-, -, -, -, -, f, hf, hfd⟩ := hw.at_ s hs
    refine (dread_of (segName s.num) (segName_max _) (diskOf.below hD hb)).mono ?_
    rintro e w' ⟨v, l, h, hO, hb', hl⟩
    rw [hf] at h hl
    have hl' : l = joinR s.recs := by rw [hl, ← hfd]; rfl
    rw [hl'] at hO
    exact ⟨v, h, hO, hb.trans (hb'.mono hb.size)⟩
  have hbyte : ∀ s ∈ sg, ∀ c ∈ joinR s.recs, c < 256 := fun s hs => by
    obtain ⟨-, -, -, -, -, f, hf, hfd⟩ := hw.at_ s hs
    rw [← hfd]
    exact hD.byte f (get_mem hf)
  obtain ⟨dq, rfl⟩ := hD.shape
  generalize hGT : GetT w sg idx = T at *
  clear hGT hD hW
  go_enter Tryz.func24, Tryz.ntmps24
  go_wp2_with fail
  refine ka.mono ?_
  rintro e w1 ⟨rfl, b1⟩
  have kf1 := kf w1 b1
  clear ka kf
  go_wp2_with fail
  refine kf1.mono ?_
  rintro e w2 ⟨b2', hfnd⟩
  have b2 := b1.trans (b2'.mono b1.size)
  clear kf1
  rcases hfnd with ⟨i, s, hs, hhas, rfl⟩ | ⟨hno, rfl⟩
  · have hsm := List.mem_of_getElem? hs
    obtain ⟨p1, p2, p3, p4, p5, -⟩ := hw.at_ s hsm
    obtain ⟨r, hr, hri⟩ := has_rec p4 p5 hhas
    have hj := (List.getElem?_eq_some_iff.1 hr).1
    have hone := one_at s.recs (joinR s.recs).length (idx - firstIx s.recs) r p4 (by rw [cutN_all s.recs (joinR s.recs).length (Nat.le_refl _)]; exact hj) hr
    rw [List.take_of_length_le (Nat.le_refl _)] at hone
    obtain ⟨g, cap, pa, pc, e1, h1, h2, h3, h4⟩ := hat i s hs
    rw [hsv] at e1
    cases e1
    have hlti : (i : Int) < (sg.length : Int) := by have := (List.getElem?_eq_some_iff.1 hs).1; omega
    have hil : i < sg.length := by omega
    have hdr : Below w.heap.size w w2.drew := b2.drew
    have kend : ∀ W, Below w.heap.size w W → Calls Tryz.prog 67 #[.agg #[.int .i64 (s.num : Int), .slice pa s.recs.length pc], .int .i64 ((idx - firstIx s.recs : Nat) : Int)] W fun e w' => e = .returned (.int .i64 (sz (s.recs.take (idx - firstIx s.recs)) : Int)) ∧ Below W.heap.size W w' := fun W hb => by
      have := endOf_of (s.num : Int) _ _ (idx - firstIx s.recs) W (h4 W hb) (by rw [plc_length]; omega) (by rw [plc_length]; omega)
      rw [endI_at _ _ (by omega)] at this
      exact this
    have kn := kname s (.slice pa s.recs.length pc) hsm _ hdr
    have kr := kread s hsm
    have hE := E1 s r
    have hszle : sz (s.recs.take (idx - firstIx s.recs)) + (recB r).length ≤ (joinR s.recs).length := by
      have := sz_take_mono s.recs (m := idx - firstIx s.recs + 1) (n := s.recs.length) (by omega)
      rw [List.take_succ_eq_append_getElem hj, sz_append, sz_single, List.take_of_length_le (Nat.le_refl _)] at this
      have e9 : s.recs[idx - firstIx s.recs] = r := (List.getElem?_eq_some_iff.1 hr).2
      rw [e9] at this
      exact this
    have hrp := recB_pos r
    have hb8 := hbyte s hsm
    have hrm := List.mem_of_getElem? hr
    have p3' : (joinR s.recs).length ≤ 10000 := p3
    generalize idx - firstIx s.recs = j at *
    generalize hP : sz (s.recs.take j) = P at *
    generalize joinR s.recs = D at *
    generalize hRL : s.recs.length = RL at *
    clear kname kread E0 E1 hat hbyte hw p3 p4 p5 hhas hr hs
    have hS : ∀ W, Below w.heap.size w W → W.cell? ⟨q, 0, none⟩ = some (.pointer (some ⟨dq, 0, none⟩)) ∧ W.cell? ⟨q, 1, none⟩ = some (.slice (some ⟨g, 0, none⟩) sg.length sc) ∧ W.cell? ⟨g, i * 2, none⟩ = some (.int .i64 (s.num : Int)) ∧ W.cell? ⟨g, i * 2 + 1, none⟩ = some (.slice pa RL pc) := fun W hb => ⟨hq0 W hb, hq1 W hb, h3 W hb⟩
    have x0 := hS _ hdr
    clear h3 h4 hq0 hq1
    go_wp2
    go_region_held3 (fun w' => w'.cell? ⟨q, 0, none⟩ = some (.pointer (some ⟨dq, 0, none⟩)) ∧ w'.cell? ⟨q, 1, none⟩ = some (.slice (some ⟨g, 0, none⟩) sg.length sc) ∧ w'.cell? ⟨g, i * 2, none⟩ = some (.int .i64 (s.num : Int)) ∧ w'.cell? ⟨g, i * 2 + 1, none⟩ = some (.slice pa RL pc))
      (first | exact x0 | exact hS _ b3 | exact hS _ b4 | go_keep)
      (first
        | (go_at_call 39; refine kn.mono ?_; rintro e w3 ⟨rfl, b3⟩)
        | (go_at_call 65; refine (kr _ b3).mono ?_; rintro e w4 ⟨bv, rfl, hO, b4⟩))
    clear kn kr x0
    have hOO : Own w3.heap.size w4 bv D := hO
    have hDne : D ≠ [] := List.length_pos_iff.1 (by omega)
    obtain ⟨gb, cb, hbv, -, -, hc1, hc2⟩ := Fr.Own.at hOO hDne
    have hBF : Fr.Bs w4.heap.size w4 bv D := Fr.Own.bs hOO
    subst hbv
    have hdrop : ∀ W, Below w4.heap.size w4 W → Fr.Bs w4.heap.size W (.slice (some ⟨gb, P, none⟩) (D.length - P) (cb - P)) (D.drop P) := fun W hb => by
      have := (hBF.below hb).drop P (by omega)
      rw [if_neg (by omega), Nat.zero_add] at this
      exact this
    have hT4 := hT.new b4
    have kx : ∀ W, Below w4.heap.size w4 W → Calls Tryz.prog 66 #[.slice (some ⟨gb, P, none⟩) (D.length - P) (cb - P)] W fun e w' => ∃ va vn vc, e = .returned (.tuple #[.agg #[.int .u64 (idx : Int), .slice va vn vc], .int .i64 ((recB r).length : Int), .bool true]) ∧ Below w4.heap.size w4 w' ∧ Below W.heap.size W w' ∧ (∀ w9, Below w'.heap.size w' w9 → Hid (T (.returned (.tuple #[.slice va vn vc, .bool true])) w9)) := fun W hb => by
      have := Fr.one_of w4.heap.size _ _ W (hT4.new hb).1 (hdrop W hb) (fun x hx => hb8 x (List.mem_of_mem_drop hx)) hb.size (by rw [List.length_drop]; omega)
      rw [hone] at this
      refine this.mono ?_
      rintro e w' ⟨h1, v, h2, h3, h4⟩
      have h3' : Fr.Bs w'.heap.size w' v r.data := h3
      obtain ⟨va, vc, h5, -⟩ := h3
      subst h5
      refine ⟨va, _, vc, by rw [h2, hri], hb.trans (h1.mono hb.size), h1, fun w9 h9 => hE _ w9 hsm hrm hri ((h3'.below h9).mono h9.size).up (b4.trans ((hb.trans ((h1.trans (h9.mono h1.size)).mono hb.size)).mono b4.size))⟩
    have ke := kend w4 b4
    have hS4 : ∀ W, Below w4.heap.size w4 W → W.cell? ⟨q, 0, none⟩ = some (.pointer (some ⟨dq, 0, none⟩)) ∧ W.cell? ⟨q, 1, none⟩ = some (.slice (some ⟨g, 0, none⟩) sg.length sc) ∧ W.cell? ⟨g, i * 2, none⟩ = some (.int .i64 (s.num : Int)) ∧ W.cell? ⟨g, i * 2 + 1, none⟩ = some (.slice pa RL pc) := fun W hb => hS W (b4.trans (hb.mono b4.size))
    have hmin : min (P : Int) (D.length : Int) = (P : Int) := by omega
    have hsn : ¬ (P : Int) < 0 := by omega
    have hsm1 : (P : Int) ≤ (D.length : Int) := by omega
    have hsm2 : P ≤ D.length := by omega
    have hdc : (D.length : Int) ≤ (cb : Int) := by omega
    have hcm : (cb : Int) ≤ 9223372036854775807 := by unfold maxLen at hc2; omega
    clear hS hO hOO hBF hdrop hone hE kend
    go_wp2_with fail
    refine ke.mono ?_
    rintro e w5 ⟨rfl, b5⟩
    have kx5 := kx w5 b5
    clear ke kx
    go_wp2_with fail
    refine kx5.mono ?_
    rintro e w6 ⟨va, vn, vc, rfl, b6, -, hfin⟩
    have hf0 := hfin _ ((Below.refl w6.heap.size w6).alloc (Nat.le_refl _) (.cells #[.int .u64 (idx : Int), .slice va vn vc] 44))
    clear kx5 hS4 hfin
    go_wp2 <;> first | exact hf0.out | (go_ret2; exact hf0.out)
  · have hfin := E0 w2 hno b2
    clear E0 E1 kname kread
    go_wp2 <;> first | exact hfin.out | (go_ret2; exact hfin.out)
end Go.Proofs.YtoipjmjhplkibaaGreatDoor

/- A disk that nobody made, and a log that nobody opened: what is told of them. -/
namespace Go.Proofs.YtoipjmjhplkibaaGreatDoor
open Go.RowKit WalMath DiskMath
set_option maxRecDepth 100000
set_option linter.unusedSimpArgs false
set_option linter.unusedVariables false

/-- None, or one without a map. -/
def NoDisk (w : World) (d : Value) : Prop := d = .pointer none ∨ ∃ q, d = .pointer (some ⟨q, 0, none⟩) ∧ w.cell? ⟨q, 0, none⟩ = some (.map none)

theorem given_no {w : World} {d : Value} (h : NoDisk w d) : Calls Tryz.prog 49 #[d] w fun e w' => e = .returned (.bool false) ∧ w' = w := by
  rcases h with rfl | ⟨q, rfl, hc⟩
  · go_enter Tryz.func49, Tryz.ntmps49
    go_wp2
    go_ret
    exact ⟨rfl, rfl⟩
  · have hne : ∀ w', (binOp .neq 69 (.map none) (.map none)).run Tryz.prog w' = .ok (.bool false) w' := fun w' => run_neq_map_nil w' 69 9 100 none Tryz.underlying69
    go_enter Tryz.func49, Tryz.ntmps49
    go_wp2
    go_ret
    exact ⟨rfl, rfl⟩

theorem find_no {w : World} {d : Value} (n : ByteArray) (h : NoDisk w d) : Calls Tryz.prog 88 #[d, .string n] w fun e w' => e = .returned (.tuple #[.pointer none, .int .i64 1]) ∧ w' = w := by
  have hg := given_no h
  clear h
  go_enter Tryz.func88, Tryz.ntmps88
  go_wp2_with fail
  refine hg.mono ?_
  rintro e w1 ⟨rfl, hw1⟩
  rw [hw1]
  clear hw1 w1 hg
  go_wp2
  go_ret2
  exact ⟨rfl, rfl⟩

theorem sync_no {w : World} {d : Value} (n : ByteArray) (h : NoDisk w d) : Calls Tryz.prog 37 #[d, .string n] w fun e w' => e = .returned (.int .i64 1) ∧ w' = w := by
  have hg := find_no n h
  clear h
  go_enter Tryz.func37, Tryz.ntmps37
  go_wp2_with fail
  refine hg.mono ?_
  rintro e w1 ⟨rfl, hw1⟩
  rw [hw1]
  clear hw1 w1 hg
  go_wp2
  go_ret
  exact ⟨rfl, rfl⟩


theorem wgiven_no {w : World} {d : Value} (h : NoDisk w d) : Calls Tryz.prog 32 #[d] w fun e w' => e = .returned (.bool false) ∧ w' = w := by
  have hs := sync_no ⟨#[]⟩ h
  clear h
  go_enter Tryz.func32, Tryz.ntmps32
  go_wp2_with fail
  refine hs.mono ?_
  rintro e w1 ⟨rfl, hw1⟩
  rw [hw1]
  clear hw1 w1 hs
  go_wp2
  go_ret
  exact ⟨rfl, rfl⟩

theorem open_no {w : World} {d : Value} (h : NoDisk w d) : Calls Tryz.prog 8 #[d] w fun e w' => e = .returned (.tuple #[.pointer none, .int .i64 1]) ∧ w' = w := by
  have hs := wgiven_no h
  clear h
  go_enter Tryz.func8, Tryz.ntmps8
  go_wp2_with fail
  refine hs.mono ?_
  rintro e w1 ⟨rfl, hw1⟩
  rw [hw1]
  clear hw1 w1 hs
  go_wp2
  go_ret2
  exact ⟨rfl, rfl⟩

/-- None, or one without a disk. -/
def NoWal (w : World) (v : Value) : Prop := v = .pointer none ∨ ∃ q, v = .pointer (some ⟨q, 0, none⟩) ∧ w.cell? ⟨q, 0, none⟩ = some (.pointer none)
theorem NoWal.below {w w' : World} {v : Value} (h : NoWal w v) (hb : Below w.heap.size w w') : NoWal w' v := by
  rcases h with rfl | ⟨q, rfl, hc⟩
  · exact .inl rfl
  · exact .inr ⟨q, rfl, (hb.cell (p := ⟨q, 0, none⟩) (World.block_lt_of_cell? _ _ hc)).trans hc⟩

theorem awake_no {w : World} {v : Value} (h : NoWal w v) : Calls Tryz.prog 34 #[v] w fun e w' => e = .returned (.bool false) ∧ w' = w := by
  rcases h with rfl | ⟨q, rfl, hc⟩
  · go_enter Tryz.func34, Tryz.ntmps34
    go_wp2
    go_ret
    exact ⟨rfl, rfl⟩
  · go_enter Tryz.func34, Tryz.ntmps34
    go_wp2
    go_ret
    exact ⟨rfl, rfl⟩

theorem wsync_no {w : World} {v : Value} (h : NoWal w v) : Calls Tryz.prog 11 #[v] w fun e w' => e = .returned (.tuple #[]) ∧ Below w.heap.size w w' := by
  have ha := awake_no h
  clear h
  go_enter Tryz.func11, Tryz.ntmps11
  go_wp2_with fail
  refine ha.mono ?_
  rintro e w1 ⟨rfl, hw1⟩
  rw [hw1]
  clear hw1 w1 ha
  go_wp2
  go_end0
  exact ⟨rfl, Below.refl _ _⟩

theorem wcut_no {w : World} {v : Value} (x : Int) (h : NoWal w v) : Calls Tryz.prog 13 #[v, .int .u64 x] w fun e w' => e = .returned (.int .i64 1) ∧ Below w.heap.size w w' := by
  have ha := awake_no h
  clear h
  go_enter Tryz.func13, Tryz.ntmps13
  go_wp2_with fail
  refine ha.mono ?_
  rintro e w1 ⟨rfl, hw1⟩
  rw [hw1]
  clear hw1 w1 ha
  go_wp2
  go_ret
  exact ⟨rfl, Below.refl _ _⟩

theorem wcompact_no {w : World} {v : Value} (x : Int) (h : NoWal w v) : Calls Tryz.prog 15 #[v, .int .u64 x] w fun e w' => e = .returned (.int .i64 1) ∧ Below w.heap.size w w' := by
  have ha := awake_no h
  clear h
  go_enter Tryz.func15, Tryz.ntmps15
  go_wp2_with fail
  refine ha.mono ?_
  rintro e w1 ⟨rfl, hw1⟩
  rw [hw1]
  clear hw1 w1 ha
  go_wp2
  go_ret
  exact ⟨rfl, Below.refl _ _⟩

theorem wfirst_no {w : World} {v : Value} (h : NoWal w v) : Calls Tryz.prog 64 #[v] w fun e w' => e = .returned (.int .u64 0) ∧ Below w.heap.size w w' := by
  have ha := awake_no h
  clear h
  go_enter Tryz.func64, Tryz.ntmps64
  go_wp2_with fail
  refine ha.mono ?_
  rintro e w1 ⟨rfl, hw1⟩
  rw [hw1]
  clear hw1 w1 ha
  go_wp2
  go_ret
  exact ⟨rfl, Below.refl _ _⟩

theorem wlast_no {w : World} {v : Value} (h : NoWal w v) : Calls Tryz.prog 10 #[v] w fun e w' => e = .returned (.int .u64 0) ∧ Below w.heap.size w w' := by
  have hb : Below w.heap.size w (w.alloc (.cells #[.int .u64 0] 31)) := (Below.refl _ _).alloc (Nat.le_refl _) _
  have hbk0 := heap_alloc_new w (.cells #[.int .u64 0] 31)
  have ha := awake_no (h.below hb)
  clear h
  go_enter Tryz.func10, Tryz.ntmps10
  go_wp2_with fail
  refine ha.mono ?_
  rintro e w1 ⟨rfl, hw1⟩
  rw [hw1]
  clear hw1 w1 ha
  go_wp2
  refine bodyPost_ret (results_u64 rfl _ _ w.heap.size _ rfl hbk0) rfl ?_
  exact ⟨rfl, hb⟩

theorem wget_no {w : World} {v : Value} (x : Int) (h : NoWal w v) : Calls Tryz.prog 24 #[v, .int .u64 x] w fun e w' => e = .returned (.tuple #[.slice none 0 0, .bool false]) ∧ Below w.heap.size w w' := by
  have ha := awake_no h
  clear h
  go_enter Tryz.func24, Tryz.ntmps24
  go_wp2_with fail
  refine ha.mono ?_
  rintro e w1 ⟨rfl, hw1⟩
  rw [hw1]
  clear hw1 w1 ha
  go_wp2
  go_ret2
  exact ⟨rfl, Below.refl _ _⟩

theorem wappend_no {w : World} {v : Value} (x : Int) (a : Option Addr) (n c : Nat) (h : NoWal w v) : Calls Tryz.prog 20 #[v, .agg #[.int .u64 x, .slice a n c]] w fun e w' => e = .returned (.int .i64 1) ∧ Below w.heap.size w w' := by
  have hb : Below w.heap.size w (w.alloc (.cells #[.int .u64 x, .slice a n c] 44)) := (Below.refl _ _).alloc (Nat.le_refl _) _
  have ha := awake_no (h.below hb)
  clear h
  go_enter Tryz.func20, Tryz.ntmps20
  go_wp2_with fail
  refine ha.mono ?_
  rintro e w1 ⟨rfl, hw1⟩
  rw [hw1]
  clear hw1 w1 ha
  go_wp2
  go_ret
  exact ⟨rfl, hb⟩

end Go.Proofs.YtoipjmjhplkibaaGreatDoor

