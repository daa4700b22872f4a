import Derived.Test.YtgfoogeiancecaaGreatDoorHw19
import Derived.Test.YtgfoogeiancecaaGreatDoorHw22
import Derived.Test.YtgfoogeiancecaaGreatDoorHw21
import Derived.Test.YtgfoogeiancecaaGreatDoorHw18
/- The contract of the program's readFile: of the first c bytes of records' frames the whole records. -/
namespace Go.Proofs.YtgfoogeiancecaaGreatDoor
open Go.RowKit WalMath
set_option maxRecDepth 100000
set_option linter.unusedSimpArgs false
set_option linter.unusedVariables false

theorem Bs.fr {n : Nat} {w : World} {v : Value} {l : List Nat} (h : @Bs keepAll n w v l) : Fr.Bs n w v l := by
  obtain ⟨ao, cap, h1, h2, h3, h4, h5⟩ := h
  exact ⟨ao, cap, h1, h2, h3, h4, fun hne => by
    obtain ⟨b, off, e1, e2, e3⟩ := h5 hne
    exact ⟨b, off, e1, e2.1, e3⟩⟩
theorem Fr.Bs.up {n : Nat} {w : World} {v : Value} {l : List Nat} (h : Fr.Bs n w v l) : @Go.Proofs.YtgfoogeiancecaaGreatDoor.Bs keepAll n w v l := by
  obtain ⟨ao, cap, h1, h2, h3, h4, h5⟩ := h
  exact ⟨ao, cap, h1, h2, h3, h4, fun hne => by
    obtain ⟨b, off, e1, e2, e3⟩ := h5 hne
    exact ⟨b, off, e1, ⟨e2, trivial⟩, e3⟩⟩

theorem endI_all (rs : List Rec) : endI (plc 0 rs) (plc 0 rs).length = sz rs := by
  rw [plc_length]
  cases h : rs.length with
  | zero =>
    obtain rfl := List.eq_nil_of_length_eq_zero h
    rfl
  | succ n =>
    show ((plc 0 rs)[n]?.map Prod.snd).getD 0 = _
    rw [plc_get rs 0 n rs[n] (List.getElem?_eq_getElem (by omega)), List.take_of_length_le (by omega)]
    simp
theorem lastI_plc (rs : List Rec) : lastI (plc 0 rs) = lastIx 0 rs := by
  unfold lastI
  rw [lastIx_eq, List.getLast?_eq_getElem?, List.getLast?_eq_getElem?, plc_length]
  cases h : rs[rs.length - 1]? with
  | none =>
    rw [List.getElem?_eq_none_iff] at h
    have h0 : rs.length = 0 := by omega
    obtain rfl := List.eq_nil_of_length_eq_zero h0
    rfl
  | some r =>
    rw [plc_get rs 0 _ r h]
    rfl

theorem joinR_byte {rs : List Rec} (hok : okAll rs) : ∀ x ∈ joinR rs, x < 256 := by
  intro x hx
  obtain ⟨r, hr, hx⟩ := List.mem_flatMap.1 hx
  refine FrameMath.frameB_lt (by decide) ?_ x hx
  intro c hc
  rcases List.mem_append.1 hc with hc | hc
  · exact WireMath.uv_bytes _ c hc
  · exact (hok r hr).2.2.2 c hc
theorem two_blocks (w : World) (o1 o2 : Obj) : ((w.alloc o1).alloc o2).heap[w.heap.size]? = some o1 ∧ ((w.alloc o1).alloc o2).heap[w.heap.size + 1]? = some o2 ∧ ((w.alloc o1).alloc o2).heap.size = w.heap.size + 2 := by
  have hs : (w.alloc o1).heap.size = w.heap.size + 1 := by simp
  refine ⟨?_, ?_, by simp⟩
  · rw [heap_alloc_old _ _ (by omega)]
    exact heap_alloc_new w o1
  · have := heap_alloc_new (w.alloc o1) o2
    rw [hs] at this
    exact this
theorem set_same {w : World} {q k : Nat} (i : Nat) (x : Value) (h : k ≠ q) : (w.setCell ⟨q, i, none⟩ x).heap[k]? = w.heap[k]? := Below.heap_setCell _ _ _ _ h
/-- A record's box, as it is made. -/
abbrev recBox : Obj := .cells #[.int .u64 0, .slice none 0 0] 44
theorem box_facts {w : World} {g : Nat} (h : w.heap[g]? = some recBox) : w.cell? ⟨g, 0, none⟩ = some (.int .u64 0) ∧ w.cell? ⟨g, 1, none⟩ = some (.slice none 0 0) ∧ w.frozen? ⟨g, 0, none⟩ = false ∧ w.frozen? ⟨g, 1, none⟩ = false :=
  ⟨by rw [cells_of_block h]; rfl, by rw [cells_of_block h]; rfl, frozen_of h 0, frozen_of h 1⟩
/-- A record's box, filled. -/
def BoxIn (wr W : World) (rb : Nat) (x y : Value) : Prop := W.heap[rb]? = some (.cells #[x, y] 44 (0, 0)) ∧ wr.heap.size ≤ rb ∧ Below wr.heap.size wr W
theorem boxC {wr w3 : World} (b3 : Below wr.heap.size wr w3) (x y : Value) : BoxIn wr (w3.alloc (.cells #[x, y] 44)) w3.heap.size x y := ⟨heap_alloc_new w3 _, b3.size, b3.alloc b3.size _⟩
theorem boxS {wr w3 : World} {g : Nat} (k3 : w3.heap[g]? = some recBox) (b3 : Below wr.heap.size wr w3) (hg : wr.heap.size ≤ g) (x y : Value) : BoxIn wr ((w3.setCell ⟨g, 0, none⟩ x).setCell ⟨g, 1, none⟩ y) g x y :=
  ⟨Fr.rec_set k3 x y, hg, (b3.setCell (p := ⟨g, 0, none⟩) hg _).setCell (p := ⟨g, 1, none⟩) hg _⟩
theorem gen_world {F : World → Prop} {w : World} (h : ∀ w', w' = w → F w') : F w := h w rfl
theorem seg_set {w : World} {g : Nat} {a b : Value} {t : TypeId} (h : w.heap[g]? = some (.cells #[a, b] t (0, 0))) (y : Value) : (w.setCell ⟨g, 1, none⟩ y).heap[g]? = some (.cells #[a, y] t (0, 0)) := by
  simp [World.setCell, Array.getElem?_modify, h]
/-- The world of a walk, under a name. -/
theorem wp_world {P : Program} {c : Code} {Q : Exit → Act → World → Prop} {a : Act} {w : World} (h : ∀ w', w' = w → Code.wp P c Q a w') : Code.wp P c Q a w := h w rfl

/-- What stands between two rounds of readFile. -/
structure RfAt (w : World) (num : Nat) (dv pv mv : Value) (l : List (Nat × Nat)) (ys : List (Value × Value)) (wr : World) : Prop where
  p0 : wr.heap[w.heap.size]? = some (.cells #[.int .i64 (num : Int), dv] 105 (0, 0))
  p1 : wr.heap[w.heap.size + 1]? = some (.cells #[.int .i64 (num : Int), pv] 62 (0, 0))
  row : R2 wr 109 pv (pl2 l)
  recs : R2 wr 44 mv ys
  pk : ∀ k, pv.ownBlock = some k → w.heap.size + 1 < k
  mvk : ∀ k, mv.ownBlock = some k → w.heap.size + 1 < k ∧ pv.ownBlock ≠ some k
  bel : Below w.heap.size w wr
  one : ∀ x ∈ ys, x.1.oneCell' = true ∧ x.2.oneCell' = true
theorem RfAt.lt {w : World} {num : Nat} {dv pv mv : Value} {l : List (Nat × Nat)} {ys : List (Value × Value)} {wr : World} (h : RfAt w num dv pv mv l ys wr) : w.heap.size + 1 < wr.heap.size := (Array.getElem?_eq_some_iff.1 h.p1).1
theorem RfAt.below {w : World} {num : Nat} {dv pv mv : Value} {l : List (Nat × Nat)} {ys : List (Value × Value)} {wr W : World} (h : RfAt w num dv pv mv l ys wr) (hb : Below wr.heap.size wr W) : RfAt w num dv pv mv l ys W :=
  ⟨(hb.block _ (by have := h.lt; omega)).trans h.p0, (hb.block _ h.lt).trans h.p1, h.row.same fun k hk => hb.block k (h.row.lt hk), h.recs.same fun k hk => hb.block k (h.recs.lt hk), h.pk, h.mvk, h.bel.trans (hb.mono h.bel.size), h.one⟩
/-- .. behind add. -/
theorem RfAt.added {w : World} {num : Nat} {dv pv mv : Value} {l l' : List (Nat × Nat)} {ys : List (Value × Value)} {W w4 : World} {pv' : Value} (h : RfAt w num dv pv mv l ys W) (hR : R2 w4 109 pv' (pl2 l')) (hg : W.grownBy w4 pv.ownBlock) (hn : ∀ k, pv'.ownBlock = some k → pv.ownBlock = some k ∨ W.heap.size ≤ k) : RfAt w num dv pv' mv l' ys (w4.setCell ⟨w.heap.size + 1, 0 + 1, none⟩ pv') := by
  have hlt := h.lt
  have hpk' : ∀ k, pv'.ownBlock = some k → w.heap.size + 1 < k := fun k hk => by
    rcases hn k hk with h' | h'
    · exact h.pk k h'
    · omega
  have hne : ∀ {k}, k ≤ w.heap.size + 1 → pv.ownBlock ≠ some k := fun hk e => by have := h.pk _ e; omega
  have b0 := (hg.block w.heap.size (by omega) (fun e => hne (by omega) e.symm)).trans h.p0
  have b1 := (hg.block (w.heap.size + 1) hlt (fun e => hne (Nat.le_refl _) e.symm)).trans h.p1
  refine ⟨?_, seg_set b1 pv', hR.same fun k hk => set_same 1 _ (by have := hpk' k hk; omega), h.recs.same fun k hk => ?_, hpk', fun k hk => ⟨(h.mvk k hk).1, fun e => ?_⟩, ?_, h.one⟩
  · rw [set_same (0 + 1) _ (by omega)]
    exact b0
  · have := (h.mvk k hk).1
    rw [set_same (0 + 1) _ (by omega)]
    exact hg.block k (h.recs.lt hk) (fun e => (h.mvk k hk).2 e.symm)
  · rcases hn k e with h' | h'
    · exact (h.mvk k hk).2 h'
    · have := h.recs.lt hk
      omega
  · refine ((h.bel.grown hg (by omega) fun k hk => by have := h.pk k hk; omega)).setCell (p := ⟨w.heap.size + 1, 0 + 1, none⟩) (Nat.le_succ _) _
/-- .. behind an append to the records. -/
theorem RfAt.pushed {w : World} {num : Nat} {dv pv mv mv' : Value} {l : List (Nat × Nat)} {ys ys' : List (Value × Value)} {W w6 : World} (h : RfAt w num dv pv mv l ys W) (hM : R2 w6 44 mv' ys') (hg : W.grownBy w6 mv.ownBlock) (hn : ∀ k, mv'.ownBlock = some k → mv.ownBlock = some k ∨ W.heap.size ≤ k) (hone : ∀ x ∈ ys', x.1.oneCell' = true ∧ x.2.oneCell' = true) : RfAt w num dv pv mv' l ys' w6 := by
  have hlt := h.lt
  have hne : ∀ {k}, k ≤ w.heap.size + 1 → mv.ownBlock ≠ some k := fun hk e => by have := (h.mvk _ e).1; omega
  refine ⟨(hg.block _ (by omega) (fun e => hne (by omega) e.symm)).trans h.p0, (hg.block _ hlt (fun e => hne (Nat.le_refl _) e.symm)).trans h.p1, h.row.same fun k hk => hg.block k (h.row.lt hk) (fun e => (h.mvk k e.symm).2 hk), hM, h.pk, fun k hk => ?_, ?_, hone⟩
  · rcases hn k hk with h' | h'
    · exact h.mvk k h'
    · exact ⟨by omega, fun e => by have := h.row.lt e; omega⟩
  · exact h.bel.grown hg (by omega) fun k hk => by have := (h.mvk k hk).1; omega

/-- What an append to the records leaves. -/
def RfN (w : World) (num : Nat) (dv pv : Value) (l : List (Nat × Nat)) (n rb idx : Nat) (v' : Value) (w' : World) : Prop := (∃ ys', ys'.length = n ∧ RfAt w num dv pv v' l ys' w') ∧ w'.cell? ⟨rb, 0, none⟩ = some (.int .u64 (idx : Int))

/-- What readFile tells: the whole records' places, and some records, all in new memory. -/
def ReadFT (w : World) (num : Nat) (rs : List Rec) (e : Ending) (w' : World) : Prop :=
  ∃ pv mv ys, e = .returned (.tuple #[.agg #[.int .i64 (num : Int), pv], mv]) ∧ R2 w' 109 pv (pl2 (plc 0 rs)) ∧ R2 w' 44 mv ys ∧ ys.length = rs.length ∧ (∀ x ∈ ys, x.1.oneCell' = true ∧ x.2.oneCell' = true) ∧ (∀ k, pv.ownBlock = some k → w.heap.size ≤ k) ∧ (∀ k, mv.ownBlock = some k → w.heap.size ≤ k ∧ pv.ownBlock ≠ some k) ∧ Below w.heap.size w w'

theorem results_seg {fn : Func} {p u : Tmp} (h : fn.results = #[.cell p 62, .tmp u]) (tmps : Array Value) (w : World) (g : Nat) (a b : Value)
    (hp : tmps.getD p undef = .pointer (some ⟨g, 0, none⟩)) (hg : w.heap[g]? = some (.cells #[a, b] 62 (0, 0))) :
    (results fn tmps).run Tryz.prog w = .ok (.tuple #[.agg #[a, b], tmps.getD u undef]) w := by
  have hp' : tmps[p]?.getD undef = .pointer (some ⟨g, 0, none⟩) := by simpa using hp
  simp [results, h, hp', asAddr, run_loadVar_row w g 62 62 #[a, b] (0, 0) _ hg Tryz.underlying62 rfl (by kernel_rfl)]

set_option maxHeartbeats 8000000 in
theorem readFile_of (num : Nat) (dv : Value) (rs : List Rec) (c last : Nat) (w : World) (hT : Tb w) (hB : @Bs keepAll w.heap.size w dv ((joinR rs).take c)) (hdv : dv = .slice none 0 0 ∨ ∃ g n c, dv = .slice (some ⟨g, 0, none⟩) n c) (hok : okAll rs) (hch : chn last rs) (hsz : sz rs ≤ 100000) (hlen : rs.length ≤ 100000) (hl64 : last < 18446744073709551616) :
    Calls Tryz.prog 88 #[.agg #[.int .i64 (num : Int), dv], .int .u64 (last : Int)] w (ReadFT w num (rs.take (cutN rs c))) := by
  letI := keepAll
  obtain ⟨D, hD⟩ : ∃ D, D = (joinR rs).take c := ⟨_, rfl⟩
  rw [← hD] at hB
  have hDl : D.length ≤ 100000 := by rw [hD, List.length_take]; unfold sz at hsz; omega
  have hD8 : ∀ x ∈ D, x < 256 := by
    intro x hx
    rw [hD] at hx
    exact joinR_byte hok x (List.mem_of_mem_take hx)
  obtain ⟨ao, cap, rfl, hc1, hc2, -⟩ := id hB
  have hao : (ao = none ∧ D = [] ∧ cap = 0) ∨ ∃ g, ao = some ⟨g, 0, none⟩ := by
    rcases hdv with h | ⟨g, n, c, h⟩
    · injection h with h1 h2 h3
      exact .inl ⟨h1, List.eq_nil_of_length_eq_zero h2, h3⟩
    · injection h with h1 h2 h3
      exact .inr ⟨g, h1⟩
  clear hdv
  have hb0 := (Below.refl w.heap.size w).alloc (Nat.le_refl _) (.cells #[.int .i64 (num : Int), .slice ao D.length cap] 105)
  have hb1 := hb0.alloc hb0.size (.cells #[.int .i64 0, .slice none 0 0] 62)
  obtain ⟨j, hj⟩ : ∃ j, j = cutN rs c := ⟨_, rfl⟩
  have hjl : j ≤ rs.length := by rw [hj]; exact cutN_le _ _
  rw [← hj]
  have hone : Hid (∀ i r, i < j → rs[i]? = some r → one (D.drop (sz (rs.take i))) = some (r, (recB r).length)) := fun i r hi hr => by rw [hD]; exact one_at rs c i r hok (by omega) hr
  have hend : Hid (one (D.drop (sz (rs.take j))) = none) := by show _ = _; rw [hD, hj]; exact one_end rs c hok
  have hjs : sz (rs.take j) ≤ D.length := by
    rw [hD, List.length_take]
    have h1 := cutN_sz rs c
    have h2 := sz_take_le rs j
    rw [← hj] at h1
    unfold sz at h2 ⊢
    unfold sz at h1
    omega
  have hw2 := two_blocks w (.cells #[.int .i64 (num : Int), .slice ao D.length cap] 105) (.cells #[.int .i64 (num : Int), .slice none 0 0] 62)
  have hb2 : Below w.heap.size w ((w.alloc (.cells #[.int .i64 (num : Int), .slice ao D.length cap] 105)).alloc (.cells #[.int .i64 (num : Int), .slice none 0 0] 62)) := hb0.alloc hb0.size _
  clear hD hj
  go_enter Tryz.func88, Tryz.ntmps88
  go_wp2
  go_loopg [1, 5] j (fun g s1 s5 wr => ∃ (i : Nat) (pv : Value) (ys : List (Value × Value)), i + g = j ∧ s1 = .int .u64 (lastIx last (rs.take i) : Int) ∧ ys.length = i ∧ RfAt w num (.slice ao D.length cap) pv s5 (plc 0 (rs.take i)) ys wr)
  case atStart => exact ⟨0, .slice none 0 0, [], by simp, rfl, rfl, hw2.1, hw2.2.1, R2.nil _ _, R2.nil _ _, (fun k hk => by cases hk), (fun k hk => by cases hk), hb2, (fun x hx => by cases hx)⟩
  case round =>
    obtain ⟨i, pv, ys, hi, rfl, hys, hA⟩ := hrel
    have hbw := hA.bel
    have hR := hA.row
    have hp0 := hA.p0
    have hp1 := hA.p1
    have hTr := hT.new hbw
    have hBr := (hB.below hbw).mono hbw.size
    have hwr := hA.lt
    have hS : ∀ w', Below wr.heap.size wr w' → w'.cell? ⟨w.heap.size, 1, none⟩ = some (.slice ao D.length cap) ∧ w'.cell? ⟨w.heap.size + 1, 0, none⟩ = some (.int .i64 (num : Int)) ∧ w'.cell? ⟨w.heap.size + 1, 1, none⟩ = some pv := fun w' hb => by
      have h0 := (hb.block w.heap.size (by omega)).trans hp0
      have h1 := (hb.block (w.heap.size + 1) hwr).trans hp1
      exact ⟨by rw [cells_of_block h0]; rfl, by rw [cells_of_block h1]; rfl, by rw [cells_of_block h1]; rfl⟩
    have hil : (plc 0 (rs.take i)).length ≤ 100000 := by rw [plc_length, List.length_take]; omega
    have ks : ∀ W, Below wr.heap.size wr W → Calls Tryz.prog 60 #[.agg #[.int .i64 (num : Int), pv]] W fun e w' => e = .returned (.int .i64 (sz (rs.take i) : Int)) ∧ Below wr.heap.size wr w' ∧ Below W.heap.size W w' := fun W hb => by
      have := ssize_of (num : Int) pv _ W (hR.pv.below hb) (by omega)
      rw [endI_all] at this
      exact this.mono fun e w' h => ⟨h.1, hb.trans (h.2.mono hb.size), h.2⟩
    have hdr : Below wr.heap.size wr wr.drew := (Below.refl _ _).drew
    by_cases hij : i < j
    · have hil2 : i < rs.length := by omega
      have hri := List.getElem?_eq_getElem hil2
      have ho1 := hone.out i _ hij hri
      have hok1 := hok rs[i] (List.getElem_mem hil2)
      have htk : Hid (rs.take (i + 1) = rs.take i ++ [rs[i]]) := List.take_succ_eq_append_getElem hil2
      have hch1 : lastIx last (rs.take i) = 0 ∨ rs[i].index = lastIx last (rs.take i) + 1 := by
        have h := hch
        rw [← List.take_append_drop i rs, chn_append, List.drop_eq_getElem_cons hil2] at h
        exact h.2.1
      have hszi : sz (rs.take (i + 1)) ≤ D.length := Nat.le_trans (sz_take_mono rs (by omega)) hjs
      rw [htk.out, sz_append, sz_single] at hszi
      generalize rs[i] = r at *
      have hrp := recB_pos r
      obtain ⟨b, off, rfl⟩ : ∃ b off, ao = some ⟨b, off, none⟩ := by
        obtain ⟨_, _, e0, _, _, _, h5⟩ := id hB
        cases e0
        have hDp : 0 < D.length := by omega
        obtain ⟨b, off, e, _⟩ := h5 (List.length_pos_iff.1 hDp)
        exact ⟨b, off, e⟩
      have hdrop : ∀ W, Below wr.heap.size wr W → Fr.Bs wr.heap.size W _ (D.drop (sz (rs.take i))) := fun W hb => (hBr.fr.below hb).drop (sz (rs.take i)) (by omega)
      obtain ⟨a, ha⟩ : ∃ a, (if cap = sz (rs.take i) then some (⟨b, off, none⟩ : Addr) else some ⟨b, off + sz (rs.take i), none⟩) = some a := by split <;> exact ⟨_, rfl⟩
      rw [ha] at hdrop
      have kn : ∀ W, Below wr.heap.size wr W → Calls Tryz.prog 80 #[.slice (some a) (D.length - sz (rs.take i)) (cap - sz (rs.take i))] W fun e w' => ∃ va vn vc, e = .returned (.tuple #[.agg #[.int .u64 (r.index : Int), .slice va vn vc], .int .i64 ((recB r).length : Int), .bool true]) ∧ Below wr.heap.size wr w' ∧ Below W.heap.size W w' := fun W hb => by
        have := Fr.one_of wr.heap.size _ _ W (hTr.new hb).1 (hdrop W hb) (fun x hx => hD8 x (List.mem_of_mem_drop hx)) hb.size (by rw [List.length_drop]; omega)
        rw [ho1] at this
        refine this.mono ?_
        rintro e w' ⟨h1, v, h2, h3, h4⟩
        obtain ⟨va, vc, h5, -⟩ := h3
        exact ⟨va, _, vc, by rw [h2, h5], hb.trans (h1.mono hb.size), h1⟩
      have hsm : (sz (rs.take i) : Int) ≤ (D.length : Int) := by omega
      have hsn : ¬ (sz (rs.take i) : Int) < 0 := by omega
      have hdc : (D.length : Int) ≤ (cap : Int) := by omega
      have hcm : (cap : Int) ≤ 9223372036854775807 := by unfold maxLen at hc2; omega
      have hsm2 : sz (rs.take i) ≤ D.length := by omega
      have y0 := hS _ hdr
      have y1 := hS _ (hdr.alloc (Nat.le_refl _) (.cells #[.int .u64 0, .slice none 0 0] 44))
      obtain ⟨L, hL⟩ : ∃ L, L = lastIx last (rs.take i) := ⟨_, rfl⟩
      have hch2 : L = 0 ∨ r.index = L + 1 := by rw [hL]; exact hch1
      rw [← hL]
      clear hL hch1
      obtain ⟨pa, pc, hpv, -⟩ := hR.shape
      rw [pl2_length] at hpv
      obtain ⟨pn, hpn⟩ : ∃ n, Hid (n = (plc 0 (rs.take i)).length) := ⟨_, rfl⟩
      rw [← hpn.out] at hpv
      subst hpv
      clear hb0 hb1 hb2 hw2 ho1 hdrop hri hone hend
      go_wp2
      go_region_held3 (fun w' => w'.cell? ⟨w.heap.size, 1, none⟩ = some (.slice (some ⟨b, off, none⟩) D.length cap) ∧ w'.cell? ⟨w.heap.size + 1, 0, none⟩ = some (.int .i64 (num : Int)) ∧ w'.cell? ⟨w.heap.size + 1, 1, none⟩ = some (.slice pa pn pc))
        (first | exact y0 | exact y1 | exact hS _ b2 | exact hS _ b3 | exact hS _ (b2.alloc b2.size _) | exact hS _ (b3.alloc b3.size _) | exact hS _ ((b3.setCell (p := ⟨w2.heap.size, 0, none⟩) b2.size _).setCell (p := ⟨w2.heap.size, 1, none⟩) b2.size _) | exact hS _ ((b3.setCell (p := ⟨wr.heap.size, 0, none⟩) (Nat.le_refl _) _).setCell (p := ⟨wr.heap.size, 1, none⟩) (Nat.le_refl _) _) | go_keep)
        (first
          | (go_at_call 60; refine (ks _ (by first | exact hdr | exact hdr.alloc (Nat.le_refl _) _)).mono ?_; rintro e w2 ⟨rfl, b2, c2⟩; try (have k2 : w2.heap[wr.heap.size]? = some recBox := (c2.block wr.heap.size (by simp)).trans (heap_alloc_new wr.drew _)))
          | (go_at_call 80; refine (kn _ (by first | exact b2 | exact b2.alloc b2.size _)).mono ?_; rintro e w3 ⟨va, vn, vc, rfl, b3, c3⟩; first | (have k3 : w3.heap[wr.heap.size]? = some recBox := (c3.block wr.heap.size (Array.getElem?_eq_some_iff.1 k2).1).trans k2; obtain ⟨z0, z1, z2, z3⟩ := box_facts k3) | (have k3 : w3.heap[w2.heap.size]? = some recBox := (c3.block w2.heap.size (by simp)).trans (heap_alloc_new w2 _); obtain ⟨z0, z1, z2, z3⟩ := box_facts k3) | skip))
      all_goals
        refine gen_world ?_
        intro W4 hW4
        first
          | (obtain ⟨rb, hrb⟩ : ∃ rb, rb = w3.heap.size := ⟨_, rfl⟩
             have hbx : BoxIn wr W4 rb (.int .u64 (r.index : Int)) (.slice va vn vc) := by rw [hW4, hrb]; exact boxC b3 _ _
             rw [← hrb])
          | (obtain ⟨rb, hrb⟩ : ∃ rb, rb = w2.heap.size := ⟨_, rfl⟩
             have hbx : BoxIn wr W4 rb (.int .u64 (r.index : Int)) (.slice va vn vc) := by rw [hW4, hrb]; exact boxS k3 b3 b2.size _ _
             rw [← hrb])
          | (obtain ⟨rb, hrb⟩ : ∃ rb, rb = wr.heap.size := ⟨_, rfl⟩
             have hbx : BoxIn wr W4 rb (.int .u64 (r.index : Int)) (.slice va vn vc) := by rw [hW4, hrb]; exact boxS k3 b3 (Nat.le_refl _) _ _
             rw [← hrb])
        clear hrb hW4
        (try clear z0 z1 z2 z3)
        (try clear k3)
        (try clear k2)
        clear b2 c2 b3 c3 ks kn y0 y1
        obtain ⟨hx4, hrl, hb4⟩ := hbx
        obtain ⟨-, x1, x2⟩ := hS W4 hb4
        clear hS
        have x0 : W4.cell? ⟨rb, 0, none⟩ = some (.int .u64 (r.index : Int)) := by rw [cells_of_block hx4]; rfl
        have hA4 := hA.below hb4
        have ka := add_of (w.heap.size + 1) 0 (num : Int) (.slice pa pn pc) (plc 0 (rs.take i)) r.index (recB r).length W4 x1 x2 (frozen_of hA4.p1 1) hA4.row (fun e => by have := hA4.pk _ e; omega) (by omega) (by rw [endI_all]; omega)
        rw [endI_all, ← plc_snoc, ← htk.out] at ka
        have kp : ∀ pv' w4, R2 w4 109 pv' (pl2 (plc 0 (rs.take (i + 1)))) → W4.grownBy w4 (Value.slice pa pn pc).ownBlock → (∀ k, pv'.ownBlock = some k → (Value.slice pa pn pc).ownBlock = some k ∨ W4.heap.size ≤ k) → Hid ((∀ ty, ∃ v' w', (Builtin.append_ #[72, 72] ty #[u5, .slice (some ⟨(w4.setCell ⟨w.heap.size + 1, 0 + 1, none⟩ pv').heap.size, 0, none⟩) 1 1]).run Tryz.prog ((w4.setCell ⟨w.heap.size + 1, 0 + 1, none⟩ pv').alloc (.cells #[.int .u64 (r.index : Int), .slice va vn vc] 44)) = .ok v' w' ∧ RfN w num (.slice (some ⟨b, off, none⟩) D.length cap) pv' (plc 0 (rs.take (i + 1))) (i + 1) rb r.index v' w') ∧ (w4.setCell ⟨w.heap.size + 1, 0 + 1, none⟩ pv').cell? ⟨rb, 0, none⟩ = some (.int .u64 (r.index : Int)) ∧ (w4.setCell ⟨w.heap.size + 1, 0 + 1, none⟩ pv').cell? ⟨rb, 1, none⟩ = some (.slice va vn vc)) := by
          intro pv' w4 h1 h2 h3
          have hA5 := hA4.added h1 h2 h3
          have hx5 : (w4.setCell ⟨w.heap.size + 1, 0 + 1, none⟩ pv').heap[rb]? = some (.cells #[.int .u64 (r.index : Int), .slice va vn vc] 44 (0, 0)) := by
            rw [set_same (0 + 1) _ (by omega)]
            exact (h2.block rb (Array.getElem?_eq_some_iff.1 hx4).1 (fun e => by have := hA.row.lt e.symm; omega)).trans hx4
          refine ⟨fun ty => ?_, by rw [cells_of_block hx5]; rfl, by rw [cells_of_block hx5]; rfl⟩
          obtain ⟨v', w', r1, r2, r3, r4⟩ := push_rec (w4.setCell ⟨w.heap.size + 1, 0 + 1, none⟩ pv') ty u5 ys (.int .u64 (r.index : Int), .slice va vn vc) hA5.recs (by omega) rfl rfl
          refine ⟨v', w', r1, ⟨_, by rw [List.length_append, hys]; rfl, hA5.pushed r2 r3 r4 (fun y hy => by
            rcases List.mem_append.1 hy with hy | hy
            · exact hA5.one y hy
            · rw [List.mem_singleton.1 hy]
              exact ⟨rfl, rfl⟩)⟩, ?_⟩
          rw [cells_of_block ((r3.block rb (Array.getElem?_eq_some_iff.1 hx5).1 (fun e => by have := hA.recs.lt e.symm; omega)).trans hx5)]
          rfl
        have E1 : Hid (lastIx last (rs.take (i + 1)) = r.index) := by show _ = _; rw [htk.out, lastIx_append]; rfl
        have hrlt := hok1.2.1
        have hAH : Hid (RfAt w num (.slice (some ⟨b, off, none⟩) D.length cap) (.slice pa pn pc) u5 (plc 0 (rs.take i)) ys wr) := hA
        clear hA hA4 hR hp0 hp1 hB hBr hx4 hok hok1 hD8 hT hTr x1 x2
        rcases Nat.eq_zero_or_pos L with hL0 | hL0
        · have q5 : ((L : Int) != 0) = false := by rw [hL0]; rfl
          clear hch2 hL0
          go_wp2_with fail
          refine ka.mono ?_
          rintro e w5 ⟨rfl, pv', w4, hw5, h1, h2, h3⟩
          obtain ⟨hap, d0, d1⟩ := (kp pv' w4 h1 h2 h3).out
          rw [← hw5] at hap d0 d1
          clear h1 h2 h3 ka kp hw5
          go_wp2_with (at_builtin; refine wp_by rfl _ _ _ rfl _ _ rfl rfl hap ?_)
          intro v6 w6 hN6
          obtain ⟨⟨ys', hy', hA6⟩, d6⟩ := id hN6
          clear hN6
          clear hap
          go_wp2
          go_roundg (gk - 1)
          case measure => omega
          case rel => exact ⟨i + 1, pv', ys', by omega, by rw [E1.out], hy', hA6⟩
        · have hLi : r.index = L + 1 := by rcases hch2 with h | h <;> omega
          have q5 : ((L : Int) != 0) = true := by simp; omega
          have q6 : IntKind.u64.wrap ((L : Int) + 1) = (r.index : Int) := by
            rw [show (L : Int) + 1 = (r.index : Int) by omega, IntKind.wrap_u64]
            omega
          have q7 : ((r.index : Int) != (r.index : Int)) = false := by simp
          clear hch2 hL0 hLi
          go_wp2_with fail
          refine ka.mono ?_
          rintro e w5 ⟨rfl, pv', w4, hw5, h1, h2, h3⟩
          obtain ⟨hap, d0, d1⟩ := (kp pv' w4 h1 h2 h3).out
          rw [← hw5] at hap d0 d1
          clear h1 h2 h3 ka kp hw5
          go_wp2_with (at_builtin; refine wp_by rfl _ _ _ rfl _ _ rfl rfl hap ?_)
          intro v6 w6 hN6
          obtain ⟨⟨ys', hy', hA6⟩, d6⟩ := id hN6
          clear hN6
          clear hap
          go_wp2
          go_roundg (gk - 1)
          case measure => omega
          case rel => exact ⟨i + 1, pv', ys', by omega, by rw [E1.out], hy', hA6⟩
    · obtain rfl : i = j := by omega
      have kn : ∀ W a n c, Below wr.heap.size wr W → Fr.Bs wr.heap.size W (.slice a n c) (D.drop (sz (rs.take i))) → Calls Tryz.prog 80 #[.slice a n c] W fun e w' => e = .returned (.tuple #[.agg #[.int .u64 0, .slice none 0 0], .int .i64 0, .bool false]) ∧ Below wr.heap.size wr w' ∧ Below W.heap.size W w' := fun W a n c hb hBs => by
        have := Fr.one_of wr.heap.size _ _ W (hTr.new hb).1 hBs (fun x hx => hD8 x (List.mem_of_mem_drop hx)) hb.size (by rw [List.length_drop]; omega)
        rw [hend.out] at this
        refine this.mono ?_
        rintro e w' ⟨h1, h2⟩
        exact ⟨h2, hb.trans (h1.mono hb.size), h1⟩
      have hsm : (sz (rs.take i) : Int) ≤ (D.length : Int) := by omega
      have hsn : ¬ (sz (rs.take i) : Int) < 0 := by omega
      have hdc : (D.length : Int) ≤ (cap : Int) := by omega
      have hcm : (cap : Int) ≤ 9223372036854775807 := by unfold maxLen at hc2; omega
      have y0 := hS _ hdr
      have y1 := hS _ (hdr.alloc (Nat.le_refl _) (.cells #[.int .u64 0, .slice none 0 0] 44))
      obtain ⟨L, hL⟩ : ∃ L, L = lastIx last (rs.take i) := ⟨_, rfl⟩
      rw [← hL]
      clear hL
      obtain ⟨pa, pc, hpv, -⟩ := hR.shape
      rw [pl2_length] at hpv
      obtain ⟨pn, hpn⟩ : ∃ n, Hid (n = (plc 0 (rs.take i)).length) := ⟨_, rfl⟩
      rw [← hpn.out] at hpv
      subst hpv
      have fin : ∀ W4, Below wr.heap.size wr W4 → Hid (ReadFT w num (rs.take i) (.returned (.tuple #[.agg #[.int .i64 (num : Int), .slice pa pn pc], u5])) ((W4.setCell ⟨w.heap.size + 1, 0, none⟩ (.int .i64 (num : Int))).setCell ⟨w.heap.size + 1, 1, none⟩ (.slice pa pn pc))) := by
        intro W4 hb4
        have hA4 := hA.below hb4
        refine ⟨_, _, ys, rfl, hA4.row.same fun k hk => ?_, hA4.recs.same fun k hk => ?_, by rw [hys, List.length_take]; omega, hA4.one, fun k hk => ?_, fun k hk => ⟨?_, (hA4.mvk k hk).2⟩, (hA4.bel.setCell (p := ⟨w.heap.size + 1, 0, none⟩) (Nat.le_succ _) _).setCell (p := ⟨w.heap.size + 1, 1, none⟩) (Nat.le_succ _) _⟩
        · have := hA4.pk k hk
          rw [set_same 1 _ (by omega), set_same 0 _ (by omega)]
        · have := (hA4.mvk k hk).1
          rw [set_same 1 _ (by omega), set_same 0 _ (by omega)]
        · have := hA4.pk k hk
          omega
        · have := (hA4.mvk k hk).1
          omega
      have hp4 : ∀ W4, Below wr.heap.size wr W4 → W4.heap[w.heap.size + 1]? = some (.cells #[.int .i64 (num : Int), .slice pa pn pc] 62 (0, 0)) := fun W4 hb4 => (hA.below hb4).p1
      clear hb0 hb1 hb2 hw2 hone
      rcases hao with ⟨rfl, rfl, rfl⟩ | ⟨g, rfl⟩
      · have hz0 : sz (rs.take i) = 0 := by simpa using hjs
        rw [hz0] at kn ks
        have kn2 := fun W hb => kn W none 0 0 hb (by rw [List.drop_zero]; exact Fr.Bs.nil _ _)
        clear kn hend
        go_wp2
        go_region_held3 (fun w' => w'.cell? ⟨w.heap.size, 1, none⟩ = some (.slice none 0 0) ∧ w'.cell? ⟨w.heap.size + 1, 0, none⟩ = some (.int .i64 (num : Int)) ∧ w'.cell? ⟨w.heap.size + 1, 1, none⟩ = some (.slice pa pn pc))
          (first | exact y0 | exact y1 | exact hS _ b2 | exact hS _ b3 | exact hS _ (b2.alloc b2.size _) | exact hS _ (b3.alloc b3.size _) | exact hS _ ((b3.setCell (p := ⟨w2.heap.size, 0, none⟩) b2.size _).setCell (p := ⟨w2.heap.size, 1, none⟩) b2.size _) | exact hS _ ((b3.setCell (p := ⟨wr.heap.size, 0, none⟩) (Nat.le_refl _) _).setCell (p := ⟨wr.heap.size, 1, none⟩) (Nat.le_refl _) _) | go_keep)
          (first
            | (go_at_call 60; refine (ks _ (by first | exact hdr | exact hdr.alloc (Nat.le_refl _) _)).mono ?_; rintro e w2 ⟨rfl, b2, c2⟩; try (have k2 : w2.heap[wr.heap.size]? = some recBox := (c2.block wr.heap.size (by simp)).trans (heap_alloc_new wr.drew _)))
            | (go_at_call 80; refine (kn2 _ (by first | exact b2 | exact b2.alloc b2.size _)).mono ?_; rintro e w3 ⟨rfl, b3, c3⟩; first | (have k3 : w3.heap[wr.heap.size]? = some recBox := (c3.block wr.heap.size (Array.getElem?_eq_some_iff.1 k2).1).trans k2; obtain ⟨z0, z1, z2, z3⟩ := box_facts k3) | (have k3 : w3.heap[w2.heap.size]? = some recBox := (c3.block w2.heap.size (by simp)).trans (heap_alloc_new w2 _); obtain ⟨z0, z1, z2, z3⟩ := box_facts k3) | skip))
        all_goals
          refine gen_world ?_
          intro W4 hW4
          have hb4 : Below wr.heap.size wr W4 := by
            rw [hW4]
            first
              | exact b3.alloc b3.size _
              | exact (b3.setCell (p := ⟨w2.heap.size, 0, none⟩) b2.size _).setCell (p := ⟨w2.heap.size, 1, none⟩) b2.size _
              | exact (b3.setCell (p := ⟨wr.heap.size, 0, none⟩) (Nat.le_refl _) _).setCell (p := ⟨wr.heap.size, 1, none⟩) (Nat.le_refl _) _
              | exact b3
          clear hW4
          (try clear z0 z1 z2 z3)
          (try clear k3)
          (try clear k2)
          clear b2 c2 b3 c3 ks y0 y1
          obtain ⟨-, x1, x2⟩ := hS W4 hb4
          have hp5 : Hid (W4.heap[w.heap.size + 1]? = _) := hp4 W4 hb4
          have f0 := frozen_of hp5.out 0
          have f1 := frozen_of hp5.out 1
          have hfin := fin W4 hb4
          clear hS fin hp4 hA hR hp0 hp1 hB hBr hb4
          go_wp2
          (try simp only [Exit.inBlock, Exit.then])
          refine bodyPost_ret (results_seg rfl _ _ (w.heap.size + 1) _ _ rfl (Fr.rec_set hp5.out _ _)) rfl ?_
          exact hfin.out
      · obtain ⟨a, ha⟩ : ∃ a, (if cap = sz (rs.take i) then some (⟨g, 0, none⟩ : Addr) else some ⟨g, 0 + sz (rs.take i), none⟩) = some a := by split <;> exact ⟨_, rfl⟩
        have hdrop : ∀ W, Below wr.heap.size wr W → Fr.Bs wr.heap.size W (.slice (some a) (D.length - sz (rs.take i)) (cap - sz (rs.take i))) (D.drop (sz (rs.take i))) := fun W hb => by
          rw [← ha]
          exact (hBr.fr.below hb).drop (sz (rs.take i)) (by omega)
        have kn2 := fun W hb => kn W (some a) (D.length - sz (rs.take i)) (cap - sz (rs.take i)) hb (hdrop W hb)
        rw [Nat.zero_add] at ha
        clear kn hdrop hend
        go_wp2
        go_region_held3 (fun w' => w'.cell? ⟨w.heap.size, 1, none⟩ = some (.slice (some ⟨g, 0, none⟩) D.length cap) ∧ w'.cell? ⟨w.heap.size + 1, 0, none⟩ = some (.int .i64 (num : Int)) ∧ w'.cell? ⟨w.heap.size + 1, 1, none⟩ = some (.slice pa pn pc))
          (first | exact y0 | exact y1 | exact hS _ b2 | exact hS _ b3 | exact hS _ (b2.alloc b2.size _) | exact hS _ (b3.alloc b3.size _) | exact hS _ ((b3.setCell (p := ⟨w2.heap.size, 0, none⟩) b2.size _).setCell (p := ⟨w2.heap.size, 1, none⟩) b2.size _) | exact hS _ ((b3.setCell (p := ⟨wr.heap.size, 0, none⟩) (Nat.le_refl _) _).setCell (p := ⟨wr.heap.size, 1, none⟩) (Nat.le_refl _) _) | go_keep)
          (first
            | (go_at_call 60; refine (ks _ (by first | exact hdr | exact hdr.alloc (Nat.le_refl _) _)).mono ?_; rintro e w2 ⟨rfl, b2, c2⟩; try (have k2 : w2.heap[wr.heap.size]? = some recBox := (c2.block wr.heap.size (by simp)).trans (heap_alloc_new wr.drew _)))
            | (go_at_call 80; refine (kn2 _ (by first | exact b2 | exact b2.alloc b2.size _)).mono ?_; rintro e w3 ⟨rfl, b3, c3⟩; first | (have k3 : w3.heap[wr.heap.size]? = some recBox := (c3.block wr.heap.size (Array.getElem?_eq_some_iff.1 k2).1).trans k2; obtain ⟨z0, z1, z2, z3⟩ := box_facts k3) | (have k3 : w3.heap[w2.heap.size]? = some recBox := (c3.block w2.heap.size (by simp)).trans (heap_alloc_new w2 _); obtain ⟨z0, z1, z2, z3⟩ := box_facts k3) | skip))
        all_goals
          refine gen_world ?_
          intro W4 hW4
          have hb4 : Below wr.heap.size wr W4 := by
            rw [hW4]
            first
              | exact b3.alloc b3.size _
              | exact (b3.setCell (p := ⟨w2.heap.size, 0, none⟩) b2.size _).setCell (p := ⟨w2.heap.size, 1, none⟩) b2.size _
              | exact (b3.setCell (p := ⟨wr.heap.size, 0, none⟩) (Nat.le_refl _) _).setCell (p := ⟨wr.heap.size, 1, none⟩) (Nat.le_refl _) _
              | exact b3
          clear hW4
          (try clear z0 z1 z2 z3)
          (try clear k3)
          (try clear k2)
          clear b2 c2 b3 c3 ks y0 y1
          obtain ⟨-, x1, x2⟩ := hS W4 hb4
          have hp5 : Hid (W4.heap[w.heap.size + 1]? = _) := hp4 W4 hb4
          have f0 := frozen_of hp5.out 0
          have f1 := frozen_of hp5.out 1
          have hfin := fin W4 hb4
          clear hS fin hp4 hA hR hp0 hp1 hB hBr hb4
          go_wp2
          (try simp only [Exit.inBlock, Exit.then])
          refine bodyPost_ret (results_seg rfl _ _ (w.heap.size + 1) _ _ rfl (Fr.rec_set hp5.out _ _)) rfl ?_
          exact hfin.out
end Go.Proofs.YtgfoogeiancecaaGreatDoor

/- Segments in memory: their row, and each one's places, all apart by a mark a block. -/
namespace WalMath
/-- A segment. -/
structure Seg where
  num : Nat
  recs : List Rec
end WalMath
namespace Go.Proofs.YtgfoogeiancecaaGreatDoor
open Go.RowKit WalMath
set_option maxRecDepth 100000
set_option linter.unusedSimpArgs false
set_option linter.unusedVariables false

/-- A block's mark (0: none; 1: the log; 2: the segments' row; 3: a segment's places, by its number; 4: what else is one's own). -/
abbrev Wm := Nat → Nat × Nat
/-- Segments as cells. -/
def sg2 (sg : List Seg) (vs : List Value) : List (Value × Value) := List.zipWith (fun s v => (.int .i64 (s.num : Int), v)) sg vs
theorem sg2_length {sg : List Seg} {vs : List Value} (h : vs.length = sg.length) : (sg2 sg vs).length = sg.length := by simp [sg2, h]
theorem sg2_get {sg : List Seg} {vs : List Value} {i : Nat} {s : Seg} {v : Value} (h1 : sg[i]? = some s) (h2 : vs[i]? = some v) : (sg2 sg vs)[i]? = some (.int .i64 (s.num : Int), v) := by
  simp [sg2, List.getElem?_zipWith, h1, h2]
theorem sg2_snoc {sg : List Seg} {vs : List Value} (h : vs.length = sg.length) (s : Seg) (v : Value) : sg2 (sg ++ [s]) (vs ++ [v]) = sg2 sg vs ++ [(.int .i64 (s.num : Int), v)] := by
  unfold sg2
  rw [List.zipWith_append h.symm]
  rfl
theorem sg2_take (sg : List Seg) (vs : List Value) (n : Nat) : (sg2 sg vs).take n = sg2 (sg.take n) (vs.take n) := by
  unfold sg2
  rw [List.take_zipWith]

structure SegsAt (σ : Wm) (w : World) (sv : Value) (sg : List Seg) : Prop where
  ex : ∃ vs : List Value, vs.length = sg.length ∧ R2 w 62 sv (sg2 sg vs) ∧ ∀ (i : Nat) (s : Seg) (v : Value), sg[i]? = some s → vs[i]? = some v → R2 w 109 v (pl2 (plc 0 s.recs)) ∧ ∀ k, v.ownBlock = some k → σ k = (3, s.num)
  row : ∀ k, sv.ownBlock = some k → σ k = (2, 0)
  lt : ∀ b, (σ b).1 ≠ 0 → b < w.heap.size

theorem SegsAt.same {σ σ' : Wm} {w w' : World} {sv : Value} {sg : List Seg} (h : SegsAt σ w sv sg) (hs : ∀ b, (σ b).1 ≠ 0 → w'.heap[b]? = w.heap[b]?) (hσ : ∀ b, (σ b).1 ≠ 0 → σ' b = σ b) (hlt : ∀ b, (σ' b).1 ≠ 0 → b < w'.heap.size) : SegsAt σ' w' sv sg := by
  obtain ⟨vs, h1, h2, h3⟩ := h.ex
  refine ⟨⟨vs, h1, h2.same fun k hk => hs k (by rw [h.row k hk]; simp), fun i s v hi hv => ?_⟩, fun k hk => (hσ k (by rw [h.row k hk]; simp)).trans (h.row k hk), hlt⟩
  obtain ⟨h4, h5⟩ := h3 i s v hi hv
  exact ⟨h4.same fun k hk => hs k (by rw [h5 k hk]; simp), fun k hk => (hσ k (by rw [h5 k hk]; simp)).trans (h5 k hk)⟩
theorem SegsAt.below {σ : Wm} {w w' : World} {sv : Value} {sg : List Seg} (h : SegsAt σ w sv sg) (hb : Below w.heap.size w w') : SegsAt σ w' sv sg :=
  h.same (fun b hm => hb.block b (h.lt b hm)) (fun _ _ => rfl) fun b hm => Nat.lt_of_lt_of_le (h.lt b hm) hb.size
theorem SegsAt.nil (σ : Wm) (w : World) (hlt : ∀ b, (σ b).1 ≠ 0 → b < w.heap.size) : SegsAt σ w (.slice none 0 0) [] :=
  ⟨⟨[], rfl, R2.nil _ _, fun i s v h => by simp at h⟩, (fun k hk => by cases hk), hlt⟩
theorem SegsAt.shape {σ : Wm} {w : World} {sv : Value} {sg : List Seg} (h : SegsAt σ w sv sg) : ∃ ao cap, sv = .slice ao sg.length cap ∧ sg.length ≤ cap ∧ cap ≤ maxLen := by
  obtain ⟨vs, h1, h2, h3⟩ := h.ex
  obtain ⟨ao, cap, e, h4, h5, -⟩ := h2.shape
  rw [sg2_length h1] at e h4
  exact ⟨ao, cap, e, h4, h5⟩
/-- What stands in the row. -/
theorem SegsAt.cells {σ : Wm} {w : World} {sv : Value} {sg : List Seg} (h : SegsAt σ w sv sg) (hne : sg ≠ []) : ∃ g cap, sv = .slice (some ⟨g, 0, none⟩) sg.length cap ∧ sg.length ≤ cap ∧ cap ≤ maxLen ∧ σ g = (2, 0) ∧ g < w.heap.size ∧ (∀ i, w.frozen? ⟨g, i, none⟩ = false) ∧ ∀ i s, sg[i]? = some s → ∃ v, w.cell? ⟨g, i * 2, none⟩ = some (.int .i64 (s.num : Int)) ∧ w.cell? ⟨g, i * 2 + 1, none⟩ = some v ∧ R2 w 109 v (pl2 (plc 0 s.recs)) ∧ ∀ k, v.ownBlock = some k → σ k = (3, s.num) := by
  obtain ⟨vs, h1, h2, h3⟩ := h.ex
  have hl := sg2_length h1
  obtain ⟨g, cap, e, h4, h5, h6, h7, h8⟩ := h2.cells (by intro e; rw [e] at hl; exact hne (List.eq_nil_of_length_eq_zero hl.symm))
  rw [hl] at e h4
  refine ⟨g, cap, e, h4, h5, h.row g (by rw [e]; rfl), h6, h8, fun i s hi => ?_⟩
  have hil := (List.getElem?_eq_some_iff.1 hi).1
  have hv := List.getElem?_eq_getElem (show i < vs.length by omega)
  obtain ⟨c1, c2⟩ := h7 i _ (sg2_get hi hv)
  exact ⟨vs[i], c1, c2, h3 i s _ hi hv⟩

/-- What one segment more leaves. -/
def Pushed (σ : Wm) (w : World) (sv : Value) (sg : List Seg) (v : Value) (sv' : Value) (w' : World) : Prop :=
  ∃ σ', SegsAt σ' w' sv' sg ∧ w.grownBy w' sv.ownBlock ∧ (∀ b, (σ b).1 ≠ 0 → σ' b = σ b) ∧ ∀ b, (σ' b).1 ≠ 0 → (σ b).1 ≠ 0 ∨ v.ownBlock = some b ∨ w.heap.size ≤ b
theorem SegsAt.push {σ : Wm} {w : World} {sv : Value} {sg : List Seg} (h : SegsAt σ w sv sg) (s : Seg) (v : Value) (hR : R2 w 109 v (pl2 (plc 0 s.recs))) (hv : ∀ k, v.ownBlock = some k → (σ k).1 = 0) (hlen : sg.length ≤ 1000) (ty : TypeId) :
    ∃ sv' w', (Builtin.append_ #[54, 54] ty #[sv, .slice (some ⟨w.heap.size, 0, none⟩) 1 1]).run Tryz.prog (w.alloc (.cells #[.int .i64 (s.num : Int), v] 62)) = .ok sv' w' ∧ Pushed σ w sv (sg ++ [s]) v sv' w' := by
  obtain ⟨vs, h1, h2, h3⟩ := h.ex
  have hv1 : v.oneCell' = true := by
    obtain ⟨ao, cap, rfl, -⟩ := hR.shape
    rfl
  obtain ⟨sv', w', r1, r2, r3, r4⟩ := push_seg w ty sv (sg2 sg vs) (.int .i64 (s.num : Int), v) h2 (by rw [sg2_length h1]; omega) rfl hv1
  have hσ : ∀ b, (σ b).1 ≠ 0 → (if v.ownBlock = some b then (3, s.num) else if w.heap.size ≤ b ∧ sv'.ownBlock = some b then (2, 0) else σ b) = σ b := fun b hb => by
    rw [if_neg (fun e => hb (hv b e)), if_neg (fun e => by have := h.lt b hb; omega)]
  refine ⟨sv', w', r1, fun b => if v.ownBlock = some b then (3, s.num) else if w.heap.size ≤ b ∧ sv'.ownBlock = some b then (2, 0) else σ b, ⟨⟨vs ++ [v], by simp [h1], by rw [sg2_snoc h1]; exact r2, fun i t u hi hu => ?_⟩, fun k hk => ?_, fun b hb => ?_⟩, r3, hσ, fun b hb => ?_⟩
  · by_cases hil : i < sg.length
    · rw [List.getElem?_append_left hil] at hi
      rw [List.getElem?_append_left (by omega)] at hu
      obtain ⟨g1, g2⟩ := h3 i t u hi hu
      have hm : ∀ k, u.ownBlock = some k → (σ k).1 ≠ 0 := fun k hk => by rw [g2 k hk]; simp
      refine ⟨g1.same fun k hk => r3.block k (g1.lt hk) (fun e => ?_), fun k hk => (hσ k (hm k hk)).trans (g2 k hk)⟩
      have := h.row k e.symm
      rw [g2 k hk] at this
      cases this
    · rw [List.getElem?_append_right (by omega)] at hi
      rw [List.getElem?_append_right (by omega), h1] at hu
      obtain ⟨rfl, rfl⟩ : s = t ∧ v = u := by
        cases hc : i - sg.length with
        | zero =>
          rw [hc] at hi hu
          simp at hi hu
          exact ⟨hi, hu⟩
        | succ n =>
          rw [hc] at hi
          simp at hi
      refine ⟨hR.same fun k hk => r3.block k (hR.lt hk) (fun e => ?_), fun k hk => by rw [if_pos hk]⟩
      have := h.row k e.symm
      have h0 := hv k hk
      rw [this] at h0
      cases h0
  · show (if v.ownBlock = some k then _ else _) = _
    rcases r4 k hk with h' | h'
    · have hk2 := h.row k h'
      rw [if_neg (fun e => by have := hv k e; rw [hk2] at this; cases this), if_neg (fun e => by have := h2.lt h'; omega), hk2]
    · rw [if_neg (fun e => by have := hR.lt e; omega), if_pos ⟨h', hk⟩]
  · have hb' : (if v.ownBlock = some b then (3, s.num) else if w.heap.size ≤ b ∧ sv'.ownBlock = some b then (2, 0) else σ b).1 ≠ 0 := hb
    split at hb'
    · rename_i e
      exact Nat.lt_of_lt_of_le (hR.lt e) r3.size
    · split at hb'
      · rename_i e
        exact r2.lt e.2
      · exact Nat.lt_of_lt_of_le (h.lt b hb') r3.size
  · have hb' : (if v.ownBlock = some b then (3, s.num) else if w.heap.size ≤ b ∧ sv'.ownBlock = some b then (2, 0) else σ b).1 ≠ 0 := hb
    split at hb'
    · rename_i e
      exact .inr (.inl e)
    · split at hb'
      · rename_i e
        exact .inr (.inr e.1)
      · exact .inl hb'
end Go.Proofs.YtgfoogeiancecaaGreatDoor

/- The contract of the program's read: segments' files, all but the last one whole. -/
namespace Go.Proofs.YtgfoogeiancecaaGreatDoor
open Go.RowKit WalMath
set_option maxRecDepth 100000
set_option linter.unusedSimpArgs false
set_option linter.unusedVariables false

/-- A row behind a row. -/
theorem run_app2 (w : World) (ty : TypeId) (v u : Value) (xs ys : List (Value × Value)) (h : R2 w 44 v xs) (hu : R2 w 44 u ys) (hlen : xs.length + ys.length ≤ 100000000) (h1 : ∀ x ∈ ys, x.1.oneCell' = true ∧ x.2.oneCell' = true) :
    ∃ v' w', (Builtin.append_ #[72, 72] ty #[v, u]).run Tryz.prog w = .ok v' w' ∧ R2 w' 44 v' (xs ++ ys) ∧ w.grownBy w' v.ownBlock ∧ ∀ k, v'.ownBlock = some k → v.ownBlock = some k ∨ w.heap.size ≤ k := by
  obtain ⟨i0, hi, hz0, hz1, hz2⟩ := info_parts infoRec
  obtain ⟨hl, ⟨rfl, h0⟩ | ⟨g, cap, cur, rfl, hg, hb, hle, hm, hs, ht⟩⟩ := id hu
  · obtain rfl := List.eq_nil_of_length_eq_zero h0
    exact ⟨v, w, run_append_owned_none (P := Tryz.prog) (w := w) 0 72 ty 44 i0 2 Tryz.underlying72 hi v xs.length (c2 xs) h, by rw [List.append_nil]; exact h, ⟨rfl, rfl, rfl, Nat.le_refl _, fun _ _ _ => rfl⟩, fun k hk => .inl hk⟩
  · obtain ⟨v', w', hrun, hO, hg', hfr⟩ := run_append_own2 w 0 72 ty 44 i0 _ 2 32 Tryz.underlying72 hi hz0 hz1 hz2 rfl (by decide) v xs.length (c2 xs) h
      ⟨g, 0, none⟩ ys.length cap (c2 ys) (c2_length ys) (by
        intro j y hj
        rw [Addr.add_lit, cells_of_block hb, Nat.zero_add]
        rw [← ht, List.getElem?_take] at hj
        split at hj
        · simpa using hj
        · cases hj) (by
        intro y hy
        obtain ⟨x, hx, hy⟩ := List.mem_flatMap.1 hy
        simp only [List.mem_cons, List.not_mem_nil, or_false] at hy
        rcases hy with rfl | rfl
        · exact (h1 x hx).1
        · exact (h1 x hx).2) (by unfold maxLen; omega) (by omega) (Nat.zero_le _)
    refine ⟨v', w', hrun, ?_, hg', hfr⟩
    unfold R2
    rw [c2_append, List.length_append]
    exact hO

/-- What is read of a segment's file. -/
def cutS (x : Seg × Nat) : Seg := ⟨x.1.num, x.1.recs.take (cutN x.1.recs x.2)⟩
def xfile (x : Seg × Nat) : Nat × List Nat := (x.1.num, (joinR x.1.recs).take x.2)
/-- All records. -/
def xrecs (xs : List (Seg × Nat)) : List Rec := xs.flatMap fun x => x.1.recs
/-- What can be read. -/
structure Rdl (xs : List (Seg × Nat)) : Prop where
  num : ∀ (i : Nat) (x y : Seg × Nat), xs[i]? = some x → xs[i + 1]? = some y → y.1.num = x.1.num + 1
  big : ∀ x ∈ xs, 0 < x.1.num ∧ x.1.num < 100000000
  ok : ∀ x ∈ xs, okAll x.1.recs
  chain : chn 0 (xrecs xs)
  full : ∀ (i : Nat) (x : Seg × Nat), xs[i]? = some x → i + 1 < xs.length → sz x.1.recs ≤ x.2
  small : ∀ x ∈ xs, sz x.1.recs ≤ 100000 ∧ x.1.recs.length ≤ 100000
  few : xs.length < 20
theorem Rdl.at {xs : List (Seg × Nat)} (h : Rdl xs) {i : Nat} {x : Seg × Nat} (hi : xs[i]? = some x) : chn (lastIx 0 (xrecs (xs.take i))) x.1.recs := by
  have hil := (List.getElem?_eq_some_iff.1 hi).1
  have hc := h.chain
  have e : xrecs xs = xrecs (xs.take i) ++ (x.1.recs ++ xrecs (xs.drop (i + 1))) := by
    conv => lhs; rw [← List.take_append_drop i xs, List.drop_eq_getElem_cons hil]
    rw [List.getElem?_eq_getElem hil] at hi
    rw [Option.some.inj hi]
    simp [xrecs]
  rw [e, chn_append, chn_append] at hc
  exact hc.2.1
theorem xrecs_snoc {xs : List (Seg × Nat)} {i : Nat} {x : Seg × Nat} (hi : xs[i]? = some x) : xrecs (xs.take (i + 1)) = xrecs (xs.take i) ++ x.1.recs := by
  have hil := (List.getElem?_eq_some_iff.1 hi).1
  rw [List.take_succ_eq_append_getElem hil]
  rw [List.getElem?_eq_getElem hil] at hi
  rw [Option.some.inj hi]
  simp [xrecs]
theorem lastIx_lt {rs : List Rec} (hok : okAll rs) {l : Nat} (hl : l < 18446744073709551616) : lastIx l rs < 18446744073709551616 := by
  induction rs generalizing l with
  | nil => exact hl
  | cons r rs ih => exact ih (fun x hx => hok x (List.mem_cons_of_mem _ hx)) (hok r List.mem_cons_self).2.1
theorem xrecs_ok {xs : List (Seg × Nat)} (h : ∀ x ∈ xs, okAll x.1.recs) : okAll (xrecs xs) := fun r hr => by
  obtain ⟨x, hx, hr⟩ := List.mem_flatMap.1 hr
  exact h x hx r hr

/-- What stands between two rounds of read. -/
structure RdAt (σ : Wm) (w : World) (sv rv : Value) (sg : List Seg) (n : Nat) (wr : World) : Prop where
  segs : SegsAt σ wr sv sg
  recs : ∃ ys, R2 wr 44 rv ys ∧ ys.length ≤ n
  rk : ∀ k, rv.ownBlock = some k → σ k = (4, 0)
  new : ∀ b, (σ b).1 ≠ 0 → w.heap.size ≤ b
  bel : Below w.heap.size w wr
theorem RdAt.below {σ : Wm} {w : World} {sv rv : Value} {sg : List Seg} {n : Nat} {wr w' : World} (h : RdAt σ w sv rv sg n wr) (hb : Below wr.heap.size wr w') : RdAt σ w sv rv sg n w' := by
  obtain ⟨ys, h1, h2⟩ := h.recs
  exact ⟨h.segs.below hb, ⟨ys, h1.same fun k hk => hb.block k (h1.lt hk), h2⟩, h.rk, h.new, h.bel.trans (hb.mono h.bel.size)⟩

/-- A segment more: the row of segments is appended to; the old records lie as they lay. -/
theorem RdAt.push {σ : Wm} {w : World} {sv rv : Value} {sg : List Seg} {n : Nat} {w3 : World} (h : RdAt σ w sv rv sg n w3) (s : Seg) (pv : Value) (hR : R2 w3 109 pv (pl2 (plc 0 s.recs))) (hv : ∀ k, pv.ownBlock = some k → (σ k).1 = 0 ∧ w.heap.size ≤ k) (hlen : sg.length ≤ 1000) (ty : TypeId) :
    ∃ sv' w', (Builtin.append_ #[54, 54] ty #[sv, .slice (some ⟨w3.heap.size, 0, none⟩) 1 1]).run Tryz.prog (w3.alloc (.cells #[.int .i64 (s.num : Int), pv] 62)) = .ok sv' w' ∧ ∃ σ', RdAt σ' w sv' rv (sg ++ [s]) n w' ∧ w3.grownBy w' sv.ownBlock ∧ (∀ b, (σ' b).1 ≠ 0 → (σ b).1 ≠ 0 ∨ pv.ownBlock = some b ∨ w3.heap.size ≤ b) ∧ ∃ a c, sv' = .slice a (sg ++ [s]).length c := by
  obtain ⟨sv', w', r1, σ', r2, r3, r4, r5⟩ := h.segs.push s pv hR (fun k hk => (hv k hk).1) hlen ty
  obtain ⟨ys, y1, y2⟩ := h.recs
  have hrm : ∀ k, rv.ownBlock = some k → (σ k).1 ≠ 0 := fun k hk => by rw [h.rk k hk]; simp
  refine ⟨sv', w', r1, σ', ⟨r2, ⟨ys, y1.same fun k hk => r3.block k (y1.lt hk) (fun e => ?_), y2⟩, fun k hk => (r4 k (hrm k hk)).trans (h.rk k hk), fun b hb => ?_, ?_⟩, r3, r5, ?_⟩
  · have := h.segs.row k e.symm
    rw [h.rk k hk] at this
    cases this
  · rcases r5 b hb with h' | h' | h'
    · exact h.new b h'
    · exact (hv b h').2
    · exact Nat.le_trans h.bel.size h'
  · exact h.bel.grown r3 h.bel.size fun k hk => h.new k (by rw [h.segs.row k hk]; simp)
  · obtain ⟨a, c, e, -⟩ := r2.shape
    exact ⟨a, c, e⟩
/-- Its records. -/
theorem RdAt.more {σ : Wm} {w : World} {sv rv : Value} {sg : List Seg} {n : Nat} {w4 : World} (h : RdAt σ w sv rv sg n w4) (mv : Value) (zs : List (Value × Value)) (hM : R2 w4 44 mv zs) (h1 : ∀ x ∈ zs, x.1.oneCell' = true ∧ x.2.oneCell' = true) (hn : n + zs.length ≤ 100000000) (ty : TypeId) :
    ∃ rv' w', (Builtin.append_ #[72, 72] ty #[rv, mv]).run Tryz.prog w4 = .ok rv' w' ∧ ∃ σ', RdAt σ' w sv rv' sg (n + zs.length) w' ∧ w4.grownBy w' rv.ownBlock ∧ ∀ b, (σ' b).1 ≠ 0 → (σ b).1 ≠ 0 ∨ w4.heap.size ≤ b := by
  obtain ⟨ys, y1, y2⟩ := h.recs
  obtain ⟨rv', w', r1, r2, r3, r4⟩ := run_app2 w4 ty rv mv ys zs y1 hM (by omega) h1
  have hσ : ∀ b, (σ b).1 ≠ 0 → (if w4.heap.size ≤ b ∧ rv'.ownBlock = some b then (4, 0) else σ b) = σ b := fun b hb => by rw [if_neg (fun e => by have := h.segs.lt b hb; omega)]
  have hlt : ∀ b, ((if w4.heap.size ≤ b ∧ rv'.ownBlock = some b then (4, 0) else σ b) : Nat × Nat).1 ≠ 0 → b < w'.heap.size := fun b hb => by
    split at hb
    · rename_i e
      exact r2.lt e.2
    · exact Nat.lt_of_lt_of_le (h.segs.lt b hb) r3.size
  have h5 : ∀ b, ((if w4.heap.size ≤ b ∧ rv'.ownBlock = some b then (4, 0) else σ b) : Nat × Nat).1 ≠ 0 → (σ b).1 ≠ 0 ∨ w4.heap.size ≤ b := fun b hb => by
    split at hb
    · rename_i e
      exact .inr e.1
    · exact .inl hb
  refine ⟨rv', w', r1, fun b => if w4.heap.size ≤ b ∧ rv'.ownBlock = some b then (4, 0) else σ b, ⟨?_, ⟨_, r2, by rw [List.length_append]; omega⟩, fun k hk => ?_, fun b hb => ?_, ?_⟩, r3, h5⟩
  · obtain ⟨vs, g1, g2, g3⟩ := h.segs.ex
    have hne : ∀ k x, σ k = (2, 0) ∨ σ k = (3, x) → rv.ownBlock ≠ some k := fun k x hk e => by
      have := h.rk k e
      rcases hk with hk | hk <;> (rw [hk] at this; cases this)
    refine ⟨⟨vs, g1, g2.same fun k hk => r3.block k (g2.lt hk) (fun e => hne k 0 (.inl (h.segs.row k hk)) e.symm), fun i s v hi hv => ?_⟩, fun k hk => (hσ k (by rw [h.segs.row k hk]; simp)).trans (h.segs.row k hk), hlt⟩
    obtain ⟨g4, g5⟩ := g3 i s v hi hv
    exact ⟨g4.same fun k hk => r3.block k (g4.lt hk) (fun e => hne k _ (.inr (g5 k hk)) e.symm), fun k hk => (hσ k (by rw [g5 k hk]; simp)).trans (g5 k hk)⟩
  · show (if _ then _ else _) = _
    rcases r4 k hk with h' | h'
    · rw [if_neg (fun e => by have := y1.lt h'; omega), h.rk k h']
    · rw [if_pos ⟨h', hk⟩]
  · rcases h5 b hb with h' | h'
    · exact h.new b h'
    · exact Nat.le_trans h.bel.size h'
  · exact h.bel.grown r3 h.bel.size fun k hk => h.new k (by rw [h.rk k hk]; simp)
end Go.Proofs.YtgfoogeiancecaaGreatDoor

/- The contract of the program's read, whole. -/
namespace Go.Proofs.YtgfoogeiancecaaGreatDoor
open Go.RowKit WalMath
set_option maxRecDepth 100000
set_option linter.unusedSimpArgs false
set_option linter.unusedVariables false

/-- What read tells. -/
def ReadsT (w : World) (sg : List Seg) (e : Ending) (w' : World) : Prop := ∃ sv rv σ, e = .returned (.tuple #[sv, rv]) ∧ SegsAt σ w' sv sg ∧ (∀ b, (σ b).1 ≠ 0 → w.heap.size ≤ b) ∧ Below w.heap.size w w'
def MoreN (w : World) (sg : List Seg) (n B7 B6 : Nat) (num : Nat) (rs : List Rec) (pv dv sv rv' : Value) (w' : World) : Prop :=
  ∃ σ', RdAt σ' w sv rv' sg n w' ∧ R2 w' 109 pv (pl2 (plc 0 rs)) ∧ ∀ W, Below w'.heap.size w' W → W.cell? ⟨B7, 0, none⟩ = some (.int .i64 (num : Int)) ∧ W.cell? ⟨B7, 1, none⟩ = some pv ∧ W.cell? ⟨B6, 1, none⟩ = some dv
def PushN (w : World) (sg : List Seg) (n B7 B6 : Nat) (num : Nat) (rs : List Rec) (pv dv mv rv sv' : Value) (w' : World) : Prop :=
  ∃ a m c, sv' = .slice a m c ∧ ∀ ty, ∃ rv' w'', (Builtin.append_ #[72, 72] ty #[rv, mv]).run Tryz.prog w' = .ok rv' w'' ∧ MoreN w sg n B7 B6 num rs pv dv sv' rv' w''

theorem push_more {σ : Wm} {w : World} {sv rv : Value} {sg : List Seg} {n : Nat} {wr : World} (h : RdAt σ w sv rv sg n wr) (s : Seg) (dv : Value) {W1 w2 : World} {pv mv : Value} {zs : List (Value × Value)}
    (hb1 : Below wr.heap.size wr W1) (hk1 : W1.heap[wr.heap.size]? = some (.cells #[.int .i64 (s.num : Int), dv] 105 (0, 0))) (hs1 : W1.heap.size = wr.heap.size + 1)
    (hP : R2 w2 109 pv (pl2 (plc 0 s.recs))) (hM : R2 w2 44 mv zs) (hz1 : ∀ x ∈ zs, x.1.oneCell' = true ∧ x.2.oneCell' = true)
    (hpk : ∀ k, pv.ownBlock = some k → W1.heap.size ≤ k) (hmk : ∀ k, mv.ownBlock = some k → W1.heap.size ≤ k ∧ pv.ownBlock ≠ some k)
    (hb2 : Below W1.heap.size W1 w2) (hlen : sg.length ≤ 1000) (hn : n + zs.length ≤ 100000000) :
    (∀ ty, ∃ sv' w', (Builtin.append_ #[54, 54] ty #[sv, .slice (some ⟨w2.heap.size + 1, 0, none⟩) 1 1]).run Tryz.prog ((w2.alloc (.cells #[.int .i64 (s.num : Int), pv] 62)).alloc (.cells #[.int .i64 (s.num : Int), pv] 62)) = .ok sv' w' ∧ PushN w (sg ++ [s]) (n + zs.length) w2.heap.size wr.heap.size s.num s.recs pv dv mv rv sv' w') := by
  intro ty
  have hbk6 := (hb2.block wr.heap.size (by omega)).trans hk1
  have hb12 : Below wr.heap.size wr w2 := hb1.trans (hb2.mono hb1.size)
  have hb23 : Below w2.heap.size w2 (w2.alloc (.cells #[.int .i64 (s.num : Int), pv] 62)) := (Below.refl _ _).alloc (Nat.le_refl _) _
  have hbk7 := heap_alloc_new w2 (.cells #[.int .i64 (s.num : Int), pv] 62)
  have hs2 := hb2.size
  have hs3 : (w2.alloc (.cells #[.int .i64 (s.num : Int), pv] 62)).heap.size = w2.heap.size + 1 := by simp
  have hA3 := (h.below hb12).below hb23
  have hP3 : R2 (w2.alloc (.cells #[.int .i64 (s.num : Int), pv] 62)) 109 pv (pl2 (plc 0 s.recs)) := hP.same fun k hk => hb23.block k (hP.lt hk)
  have hbk63 := (hb23.block wr.heap.size (by omega)).trans hbk6
  have hold : ∀ b, (σ b).1 ≠ 0 → b < wr.heap.size := h.segs.lt
  generalize w2.alloc (.cells #[.int .i64 (s.num : Int), pv] 62) = w3 at *
  obtain ⟨sv', w4, r1, σ4, hA4, hg4, hm4, a, c, e⟩ := hA3.push s pv hP3 (fun k hk => ⟨by
    have := hpk k hk
    by_cases h0 : (σ k).1 = 0
    · exact h0
    · have := hold k h0
      omega, by have := hpk k hk; have := h.bel.size; omega⟩) hlen ty
  rw [hs3] at r1
  refine ⟨sv', w4, r1, a, _, c, e, fun ty' => ?_⟩
  have hrow : ∀ k, wr.heap.size ≤ k → sv.ownBlock ≠ some k := fun k hk e => by
    have := hold k (by rw [h.segs.row k e]; simp)
    omega
  have hM4 : R2 w4 44 mv zs := hM.same fun k hk => by
    have h1 := (hmk k hk).1
    rw [hg4.block k (by have := hM.lt hk; omega) (fun e => hrow k (by omega) e.symm)]
    exact hb23.block k (hM.lt hk)
  have hP4 : R2 w4 109 pv (pl2 (plc 0 s.recs)) := hP3.same fun k hk => by
    have h1 := hpk k hk
    exact hg4.block k (hP3.lt hk) (fun e => hrow k (by omega) e.symm)
  have hbk64 := (hg4.block wr.heap.size (by omega) (fun e => hrow _ (Nat.le_refl _) e.symm)).trans hbk63
  have hbk74 := (hg4.block w2.heap.size (by omega) (fun e => hrow _ (by omega) e.symm)).trans hbk7
  obtain ⟨rv', w5, t1, σ5, hA5, hg5, hm5⟩ := hA4.more mv zs hM4 hz1 hn ty'
  have hrr : ∀ k, wr.heap.size ≤ k → rv.ownBlock ≠ some k := fun k hk e => by
    have := hold k (by rw [h.rk k e]; simp)
    omega
  have hbk65 := (hg5.block wr.heap.size (by have := hg4.size; omega) (fun e => hrr _ (Nat.le_refl _) e.symm)).trans hbk64
  have hbk75 := (hg5.block w2.heap.size (by have := hg4.size; omega) (fun e => hrr _ (by omega) e.symm)).trans hbk74
  refine ⟨rv', w5, t1, σ5, hA5, hP4.same fun k hk => ?_, fun W hW => ?_⟩
  · have h1 := hpk k hk
    exact hg5.block k (hP4.lt hk) (fun e => hrr k (by omega) e.symm)
  · have g6 := (hW.block _ (Array.getElem?_eq_some_iff.1 hbk65).1).trans hbk65
    have g7 := (hW.block _ (Array.getElem?_eq_some_iff.1 hbk75).1).trans hbk75
    exact ⟨by rw [cells_of_block g7]; rfl, by rw [cells_of_block g7]; rfl, by rw [cells_of_block g6]; rfl⟩

theorem RdAt.wide {σ : Wm} {w : World} {sv rv : Value} {sg : List Seg} {n m : Nat} {wr : World} (h : RdAt σ w sv rv sg n wr) (hn : n ≤ m) : RdAt σ w sv rv sg m wr := by
  obtain ⟨ys, h1, h2⟩ := h.recs
  exact ⟨h.segs, ⟨ys, h1, Nat.le_trans h2 hn⟩, h.rk, h.new, h.bel⟩
theorem max_last {rs : List Rec} {L : Nat} (h : chn L rs) : max L (lastIx 0 rs) = lastIx L rs := by
  cases rs with
  | nil => simp [lastIx]
  | cons r rs =>
    have := chn_ge (r :: rs) L h
    show max L (lastIx r.index rs) = lastIx r.index rs
    rw [lastIx] at this
    omega

set_option maxHeartbeats 8000000 in
theorem read_of (xs : List (Seg × Nat)) (v : Value) (w : World) (hT : Tb w) (hN : Nf w v (xs.map xfile)) (h : Rdl xs) : Calls Tryz.prog 58 #[v] w (ReadsT w (xs.map cutS)) := by
  letI := keepAll
  obtain ⟨ao, cap, rfl, hc⟩ := id hN
  rw [List.length_map]
  have hlen := h.few
  go_enter Tryz.func58, Tryz.ntmps58
  go_wp2
  go_loopg [2, 3, 4, 11] xs.length (fun g s2 s3 s4 s11 wr => ∃ (i L : Nat) (σ : Wm), i + g = xs.length ∧ s11 = .int .i64 (i : Int) ∧ s4 = .int .u64 (L : Int) ∧ L < 18446744073709551616 ∧ Hid (i < xs.length → L = lastIx 0 (xrecs (xs.take i))) ∧ RdAt σ w s2 s3 ((xs.map cutS).take i) (i * 100000) wr)
  case atStart => exact ⟨0, 0, fun _ => (0, 0), by simp, rfl, rfl, by omega, fun _ => rfl, SegsAt.nil _ _ (by simp), ⟨[], R2.nil _ _, Nat.le_refl _⟩, (fun k hk => by cases hk), by simp, Below.refl _ _⟩
  case round =>
    obtain ⟨i, L, σ, hi, rfl, rfl, hL64, hL, hA⟩ := hrel
    by_cases hlt : i < xs.length
    · have hlti : (i : Int) < (xs.length : Int) := by omega
      have hx := List.getElem?_eq_getElem hlt
      generalize xs[i] = x at *
      have hxm : x ∈ xs := List.mem_of_getElem? hx
      have hbw := hA.bel
      obtain ⟨b, off, sv, rfl, r1, r2, r3, r4⟩ := hc i (xfile x) (by rw [List.getElem?_map, hx]; rfl)
      have hgl := World.block_lt_of_cell? w _ r1
      have r1' : wr.cell? ⟨b, off + i * 2, none⟩ = some (.int .i64 (x.1.num : Int)) := (hbw.cell (p := ⟨b, off + i * 2, none⟩) hgl).trans r1
      have r2' := (hbw.cell (p := ⟨b, off + i * 2 + 1, none⟩) hgl).trans r2
      obtain ⟨sa, sc, hsv, -⟩ := id r3
      obtain ⟨dl, hdl⟩ : ∃ n, Hid (n = (xfile x).2.length) := ⟨_, rfl⟩
      rw [← hdl.out] at hsv
      subst hsv
      have hLL : Hid (L = lastIx 0 (xrecs (xs.take i))) := hL.out hlt
      have hchx : Hid (chn L x.1.recs) := by show chn _ _; rw [hLL.out]; exact h.at hx
      have hsmall : Hid ((x.1.recs.take (cutN x.1.recs x.2)).length ≤ 100000) := by
        show _ ≤ _
        rw [List.length_take]
        have := (h.small x hxm).2
        omega
      have hb1 : Below wr.heap.size wr (wr.alloc (.cells #[.int .i64 (x.1.num : Int), .slice sa dl sc] 105)) := (Below.refl _ _).alloc (Nat.le_refl _) _
      have hb01 := hbw.trans (hb1.mono hbw.size)
      have hbd : ∀ k, Below wr.heap.size wr ((wr.alloc (.cells #[.int .i64 (x.1.num : Int), .slice sa dl sc] 105)).drewN k) := fun k => below_drewN hb1 k
      have hrf : ∀ k, Calls Tryz.prog 88 #[.agg #[.int .i64 (x.1.num : Int), .slice sa dl sc], .int .u64 (L : Int)] ((wr.alloc (.cells #[.int .i64 (x.1.num : Int), .slice sa dl sc] 105)).drewN k) (ReadFT ((wr.alloc (.cells #[.int .i64 (x.1.num : Int), .slice sa dl sc] 105)).drewN k) x.1.num (x.1.recs.take (cutN x.1.recs x.2))) := fun k => by
        have hb01 := hbw.trans ((hbd k).mono hbw.size)
        exact readFile_of x.1.num (.slice sa dl sc) x.1.recs x.2 L _ (hT.new hb01) ((r3.below hb01).mono hb01.size) r4 (h.ok x hxm) hchx.out (h.small x hxm).1 (h.small x hxm).2 hL64
      have hsnoc : Hid ((xs.map cutS).take i ++ [cutS x] = (xs.map cutS).take (i + 1)) := by
        show _ = _
        rw [List.take_succ_eq_append_getElem (by rw [List.length_map]; exact hlt), List.getElem_map]
        rw [List.getElem?_eq_getElem hlt] at hx
        rw [Option.some.inj hx]
      have hK : ∀ (k : Nat) w2 pv mv zs, R2 w2 109 pv (pl2 (plc 0 (x.1.recs.take (cutN x.1.recs x.2)))) → R2 w2 44 mv zs → zs.length = (x.1.recs.take (cutN x.1.recs x.2)).length → (∀ y ∈ zs, y.1.oneCell' = true ∧ y.2.oneCell' = true) → (∀ j, pv.ownBlock = some j → ((wr.alloc (.cells #[.int .i64 (x.1.num : Int), .slice sa dl sc] 105)).drewN k).heap.size ≤ j) → (∀ j, mv.ownBlock = some j → ((wr.alloc (.cells #[.int .i64 (x.1.num : Int), .slice sa dl sc] 105)).drewN k).heap.size ≤ j ∧ pv.ownBlock ≠ some j) → Below ((wr.alloc (.cells #[.int .i64 (x.1.num : Int), .slice sa dl sc] 105)).drewN k).heap.size ((wr.alloc (.cells #[.int .i64 (x.1.num : Int), .slice sa dl sc] 105)).drewN k) w2 → Hid _ := fun k w2 pv mv zs hP hM hzl hz1 hpk hmk hb2 => push_more hA (cutS x) (.slice sa dl sc) (hbd k) (heap_alloc_new wr _) (by show (wr.alloc _).heap.size = _; simp) (w2 := w2) (pv := pv) (mv := mv) (zs := zs) hP hM hz1 hpk hmk hb2 (by rw [List.length_take, List.length_map]; omega) (by rw [hzl]; have := hsmall.out; omega)
      obtain ⟨a2, c2', e2, -⟩ := hA.segs.shape
      rw [show ((xs.map cutS).take i).length = i by rw [List.length_take, List.length_map]; omega] at e2
      obtain ⟨ys0, hy0, -⟩ := hA.recs
      obtain ⟨ra0, rc0, hre0, -⟩ := hy0.shape
      obtain ⟨rn0, hrn0⟩ : ∃ n, Hid (n = ys0.length) := ⟨_, rfl⟩
      rw [← hrn0.out] at hre0
      subst hre0
      have hAH : Hid (RdAt σ w u2 (.slice ra0 rn0 rc0) ((xs.map cutS).take i) (i * 100000) wr) := hA
      have q2 : IntKind.i64.wrap ((i : Int) + 1) = ((i + 1 : Nat) : Int) := by
        rw [show (i : Int) + 1 = ((i + 1 : Nat) : Int) by omega]
        exact IntWalk.i64_in _ (by omega)
      have hbrk : Hid (sz (x.1.recs.take (cutN x.1.recs x.2)) < dl → i + 1 = xs.length) := fun hb => by
        rcases Nat.lt_or_ge (i + 1) xs.length with hlt2 | hge
        · have hf := h.full i x hx hlt2
          rw [cutN_all _ _ hf, List.take_length, hdl.out] at hb
          unfold xfile at hb
          rw [List.length_take] at hb
          unfold sz at hb hf
          omega
        · omega
      have hmaxH : Hid (i + 1 < xs.length → max L (lastIx 0 (x.1.recs.take (cutN x.1.recs x.2))) = lastIx 0 (xrecs (xs.take (i + 1)))) := fun hlt2 => by
        have hf := h.full i x hx hlt2
        rw [cutN_all _ _ hf, List.take_length, max_last hchx.out, xrecs_snoc hx, lastIx_append, ← hLL.out]
      have hLc : lastIx 0 (x.1.recs.take (cutN x.1.recs x.2)) < 18446744073709551616 := lastIx_lt (fun r hr => h.ok x hxm r (List.mem_of_mem_take hr)) (by omega)
      clear hN hc r1 r2 r3 r4 hT
      by_cases h0 : i = 0
      · subst h0
        subst e2
        rw [Nat.zero_mul, Nat.add_zero] at r1' r2'
        clear hA
        go_wp2
        go_big_quiet (fail)
        go_wp2_with fail
        refine (hrf nq).mono ?_
        rintro e w2 ⟨pv, mv, zs, rfl, hP, hM, hzl, hz1, hpk, hmk, hb2⟩
        obtain ⟨pa, pc, hpe, -⟩ := hP.shape
        rw [pl2_length, plc_length] at hpe
        obtain ⟨pn, hpn⟩ : ∃ n, Hid (n = (x.1.recs.take (cutN x.1.recs x.2)).length) := ⟨_, rfl⟩
        rw [← hpn.out] at hpe
        subst hpe
        obtain ⟨ma, mc, hme, -⟩ := hM.shape
        obtain ⟨mn, hmn⟩ : ∃ n, Hid (n = zs.length) := ⟨_, rfl⟩
        rw [← hmn.out] at hme
        subst hme
        have hzle : Hid (zs.length ≤ 100000) := by show _ ≤ _; rw [hzl]; exact hsmall.out
        have hpush : ∀ ty, ∃ sv' w', (Builtin.append_ #[54, 54] ty #[(.slice a2 0 c2'), .slice (some ⟨w2.heap.size + 1, 0, none⟩) 1 1]).run Tryz.prog ((w2.alloc (.cells #[.int .i64 (x.1.num : Int), .slice pa pn pc] 62)).alloc (.cells #[.int .i64 (x.1.num : Int), .slice pa pn pc] 62)) = .ok sv' w' ∧ PushN w ((xs.map cutS).take 0 ++ [cutS x]) (0 * 100000 + zs.length) w2.heap.size wr.heap.size x.1.num (x.1.recs.take (cutN x.1.recs x.2)) (.slice pa pn pc) (.slice sa dl sc) (.slice ma mn mc) (.slice ra0 rn0 rc0) sv' w' := (hK nq w2 _ _ zs hP hM hzl hz1 hpk hmk hb2).out
        clear hrf hK hP hM hzl hz1 hpk hmk hb2
        go_wp2_with (at_builtin; refine wp_by rfl _ _ _ rfl _ _ rfl rfl hpush ?_)
        intro sv4 w4 hN4
        obtain ⟨a4, n4, c4, he4, hmore⟩ := id hN4
        subst he4
        clear hN4 hpush
        go_wp2_with (at_builtin; refine wp_by rfl _ _ _ rfl _ _ rfl rfl hmore ?_)
        intro rv5 w5 hN5
        obtain ⟨σ5, hA5, hq5, hS5⟩ := id hN5
        clear hN5 hmore
        have hdr5 : Below w5.heap.size w5 w5.drew := (Below.refl _ _).drew
        have ks := ssize_of (x.1.num : Int) (.slice pa pn pc) _ w5.drew (hq5.pv.below hdr5) (by rw [plc_length]; exact Nat.le_trans hsmall.out (by omega))
        rw [endI_all] at ks
        have kl : ∀ W, Below w5.heap.size w5 W → Calls Tryz.prog 25 #[.agg #[.int .i64 (x.1.num : Int), .slice pa pn pc]] W fun e w' => e = .returned (.int .u64 (lastIx 0 (x.1.recs.take (cutN x.1.recs x.2)) : Int)) ∧ Below W.heap.size W w' := fun W hb => by
          have := slast_of (x.1.num : Int) (.slice pa pn pc) _ W (hq5.pv.below hb) (by rw [plc_length]; exact Nat.le_trans hsmall.out (by omega))
          rw [lastI_plc] at this
          exact this
        have y0 := hS5 _ hdr5
        replace hA5 : RdAt σ5 w (.slice a4 n4 c4) rv5 ((xs.map cutS).take (0 + 1)) (0 * 100000 + zs.length) w5 := by
          rw [← hsnoc.out]
          first | exact hA5 | simpa using hA5
        have hA5H : Hid (RdAt σ5 w (.slice a4 n4 c4) rv5 ((xs.map cutS).take (0 + 1)) (0 * 100000 + zs.length) w5) := hA5
        have hfinH : Hid (∀ W, Below w5.heap.size w5 W → 0 + 1 = xs.length → ReadsT w (xs.map cutS) (.returned (.tuple #[.slice a4 n4 c4, rv5])) W) := fun W hb he => by
          have hA6 := hA5.below hb
          rw [List.take_of_length_le (by rw [List.length_map]; omega)] at hA6
          exact ⟨_, _, σ5, rfl, hA6.segs, hA6.new, hA6.bel⟩
        obtain ⟨ra, rc, hre⟩ : ∃ a c, rv5 = .slice a ((hA5.recs.choose).length) c := by
          obtain ⟨a, c, e, -⟩ := hA5.recs.choose_spec.1.shape
          exact ⟨a, c, e⟩
        generalize (hA5.recs.choose).length = rn at hre
        subst hre
        generalize ReadsT w (xs.map cutS) = T at *
        clear hq5 hA5
        go_wp2
        go_region_held3 (fun w' => w'.cell? ⟨w2.heap.size, 0, none⟩ = some (.int .i64 (x.1.num : Int)) ∧ w'.cell? ⟨w2.heap.size, 1, none⟩ = some (.slice pa pn pc) ∧ w'.cell? ⟨wr.heap.size, 1, none⟩ = some (.slice sa dl sc))
          (first | exact y0 | exact hS5 _ b6 | go_keep)
          ((go_at_call 60; refine ks.mono ?_; rintro e w6 ⟨rfl, b6'⟩; have b6 := hdr5.trans b6'))
        by_cases hbr : sz (x.1.recs.take (cutN x.1.recs x.2)) < dl
        · have hbri : (sz (x.1.recs.take (cutN x.1.recs x.2)) : Int) < (dl : Int) := by omega
          have hfin : Hid _ := hfinH.out w6 b6 (hbrk.out hbr)
          clear hbr hS5 kl ks y0
          go_wp2 <;> first | exact hfin.out | (go_ret2; exact hfin.out)
        · have hbri : ¬ (sz (x.1.recs.take (cutN x.1.recs x.2)) : Int) < (dl : Int) := by omega
          obtain ⟨e0, e1, -⟩ := hS5 w6 b6
          have kl6 := kl w6 b6
          obtain ⟨Lc, hLcd⟩ : ∃ n, Hid (n = lastIx 0 (x.1.recs.take (cutN x.1.recs x.2))) := ⟨_, rfl⟩
          rw [← hLcd.out] at kl6 hLc
          have hmx := hmaxH.out
          rw [← hLcd.out] at hmx
          have hmx' : Hid (0 + 1 < xs.length → max L Lc = lastIx 0 (xrecs (xs.take (0 + 1)))) := hmx
          clear hbr hS5 kl ks y0 hmx hLcd hmaxH
          by_cases hm : L < Lc
          · have hmi : (L : Int) < (Lc : Int) := by omega
            have hmi2 : ¬ (Lc : Int) < (L : Int) := by omega
            have hL' : Hid (0 + 1 < xs.length → Lc = lastIx 0 (xrecs (xs.take (0 + 1)))) := fun hl => by rw [← hmx'.out hl]; omega
            go_wp2_with fail
            refine kl6.mono ?_
            rintro e w7 ⟨rfl, b7⟩
            have b57 := b6.trans (b7.mono b6.size)
            clear kl6
            go_wp2
            go_roundg (gk - 1)
            case measure => omega
            case rel => exact ⟨0 + 1, Lc, σ5, by omega, by go_num, by rw [show max (L : Int) (Lc : Int) = (Lc : Int) by omega], hLc, hL'.out, (hA5H.out.below b57).wide (by have := hzle.out; omega)⟩
          · have hmi : ¬ (L : Int) < (Lc : Int) := by omega
            have hmi2 : (Lc : Int) ≤ (L : Int) := by omega
            have hL' : Hid (0 + 1 < xs.length → L = lastIx 0 (xrecs (xs.take (0 + 1)))) := fun hl => by rw [← hmx'.out hl]; omega
            go_wp2_with fail
            refine kl6.mono ?_
            rintro e w7 ⟨rfl, b7⟩
            have b57 := b6.trans (b7.mono b6.size)
            clear kl6
            go_wp2
            go_roundg (gk - 1)
            case measure => omega
            case rel => exact ⟨0 + 1, L, σ5, by omega, by go_num, by rw [show max (L : Int) (Lc : Int) = (L : Int) by omega], hL64, hL'.out, (hA5H.out.below b57).wide (by have := hzle.out; omega)⟩
      · obtain ⟨j, hij⟩ : ∃ j, Hid (i = j + 1) := ⟨i - 1, by show _ = _; omega⟩
        have hjl : j < xs.length := by have := hij.out; omega
        have hxj := List.getElem?_eq_getElem hjl
        obtain ⟨g2, cp2, e2', _, _, _, hgl2, _, hcell⟩ := hA.segs.cells (by
          intro e
          have := congrArg List.length e
          rw [List.length_take, List.length_map, List.length_nil] at this
          omega)
        rw [show ((xs.map cutS).take i).length = i by rw [List.length_take, List.length_map]; omega] at e2'
        subst e2'
        obtain ⟨vj, c1, -, -⟩ := hcell j (cutS xs[j]) (by rw [List.getElem?_take, if_pos (by have := hij.out; omega), List.getElem?_map, hxj]; rfl)
        have hnj : x.1.num = xs[j].1.num + 1 := h.num j _ x hxj (by rw [← hij.out]; exact hx)
        have hnb := (h.big x hxm).2
        change wr.cell? ⟨g2, j * 2, none⟩ = some (.int .i64 (xs[j].1.num : Int)) at c1
        generalize xs[j] = xj at *
        have c1' : ∀ W, Below wr.heap.size wr W → W.cell? ⟨g2, j * 2, none⟩ = some (.int .i64 (xj.1.num : Int)) := fun W hb => (hb.cell (p := ⟨g2, j * 2, none⟩) (World.block_lt_of_cell? wr _ c1)).trans c1
        have c2 := c1' _ hb1
        have q3 : IntKind.i64.wrap ((i : Int) - 1) = (j : Int) := by
          rw [show (i : Int) - 1 = (j : Int) by have := hij.out; omega]
          exact IntWalk.i64_in _ (by omega)
        have q4 : IntKind.i64.wrap ((xj.1.num : Int) + 1) = (x.1.num : Int) := by
          rw [show (xj.1.num : Int) + 1 = (x.1.num : Int) by omega]
          exact IntWalk.i64_in _ (by omega)
        have hji : (j : Int) < (i : Int) := by have := hij.out; omega
        have hji2 : j < i := by have := hij.out; omega
        have hi0 : 0 < i := by omega
        have q7 : ((x.1.num : Int) != (x.1.num : Int)) = false := by simp
        clear hA hcell c1 c1' hxj hnj
        go_wp2
        go_big_quiet (fail)
        go_wp2_with fail
        refine (hrf nq).mono ?_
        rintro e w2 ⟨pv, mv, zs, rfl, hP, hM, hzl, hz1, hpk, hmk, hb2⟩
        obtain ⟨pa, pc, hpe, -⟩ := hP.shape
        rw [pl2_length, plc_length] at hpe
        obtain ⟨pn, hpn⟩ : ∃ n, Hid (n = (x.1.recs.take (cutN x.1.recs x.2)).length) := ⟨_, rfl⟩
        rw [← hpn.out] at hpe
        subst hpe
        obtain ⟨ma, mc, hme, -⟩ := hM.shape
        obtain ⟨mn, hmn⟩ : ∃ n, Hid (n = zs.length) := ⟨_, rfl⟩
        rw [← hmn.out] at hme
        subst hme
        have hzle : Hid (zs.length ≤ 100000) := by show _ ≤ _; rw [hzl]; exact hsmall.out
        have hpush : ∀ ty, ∃ sv' w', (Builtin.append_ #[54, 54] ty #[(.slice (some ⟨g2, 0, none⟩) i c2'), .slice (some ⟨w2.heap.size + 1, 0, none⟩) 1 1]).run Tryz.prog ((w2.alloc (.cells #[.int .i64 (x.1.num : Int), .slice pa pn pc] 62)).alloc (.cells #[.int .i64 (x.1.num : Int), .slice pa pn pc] 62)) = .ok sv' w' ∧ PushN w ((xs.map cutS).take i ++ [cutS x]) (i * 100000 + zs.length) w2.heap.size wr.heap.size x.1.num (x.1.recs.take (cutN x.1.recs x.2)) (.slice pa pn pc) (.slice sa dl sc) (.slice ma mn mc) (.slice ra0 rn0 rc0) sv' w' := (hK nq w2 _ _ zs hP hM hzl hz1 hpk hmk hb2).out
        clear hrf hK hP hM hzl hz1 hpk hmk hb2
        go_wp2_with (at_builtin; refine wp_by rfl _ _ _ rfl _ _ rfl rfl hpush ?_)
        intro sv4 w4 hN4
        obtain ⟨a4, n4, c4, he4, hmore⟩ := id hN4
        subst he4
        clear hN4 hpush
        go_wp2_with (at_builtin; refine wp_by rfl _ _ _ rfl _ _ rfl rfl hmore ?_)
        intro rv5 w5 hN5
        obtain ⟨σ5, hA5, hq5, hS5⟩ := id hN5
        clear hN5 hmore
        have hdr5 : Below w5.heap.size w5 w5.drew := (Below.refl _ _).drew
        have ks := ssize_of (x.1.num : Int) (.slice pa pn pc) _ w5.drew (hq5.pv.below hdr5) (by rw [plc_length]; exact Nat.le_trans hsmall.out (by omega))
        rw [endI_all] at ks
        have kl : ∀ W, Below w5.heap.size w5 W → Calls Tryz.prog 25 #[.agg #[.int .i64 (x.1.num : Int), .slice pa pn pc]] W fun e w' => e = .returned (.int .u64 (lastIx 0 (x.1.recs.take (cutN x.1.recs x.2)) : Int)) ∧ Below W.heap.size W w' := fun W hb => by
          have := slast_of (x.1.num : Int) (.slice pa pn pc) _ W (hq5.pv.below hb) (by rw [plc_length]; exact Nat.le_trans hsmall.out (by omega))
          rw [lastI_plc] at this
          exact this
        have y0 := hS5 _ hdr5
        replace hA5 : RdAt σ5 w (.slice a4 n4 c4) rv5 ((xs.map cutS).take (i + 1)) (i * 100000 + zs.length) w5 := by
          rw [← hsnoc.out]
          first | exact hA5 | simpa using hA5
        have hA5H : Hid (RdAt σ5 w (.slice a4 n4 c4) rv5 ((xs.map cutS).take (i + 1)) (i * 100000 + zs.length) w5) := hA5
        have hfinH : Hid (∀ W, Below w5.heap.size w5 W → i + 1 = xs.length → ReadsT w (xs.map cutS) (.returned (.tuple #[.slice a4 n4 c4, rv5])) W) := fun W hb he => by
          have hA6 := hA5.below hb
          rw [List.take_of_length_le (by rw [List.length_map]; omega)] at hA6
          exact ⟨_, _, σ5, rfl, hA6.segs, hA6.new, hA6.bel⟩
        obtain ⟨ra, rc, hre⟩ : ∃ a c, rv5 = .slice a ((hA5.recs.choose).length) c := by
          obtain ⟨a, c, e, -⟩ := hA5.recs.choose_spec.1.shape
          exact ⟨a, c, e⟩
        generalize (hA5.recs.choose).length = rn at hre
        subst hre
        generalize ReadsT w (xs.map cutS) = T at *
        clear hq5 hA5
        go_wp2
        go_region_held3 (fun w' => w'.cell? ⟨w2.heap.size, 0, none⟩ = some (.int .i64 (x.1.num : Int)) ∧ w'.cell? ⟨w2.heap.size, 1, none⟩ = some (.slice pa pn pc) ∧ w'.cell? ⟨wr.heap.size, 1, none⟩ = some (.slice sa dl sc))
          (first | exact y0 | exact hS5 _ b6 | go_keep)
          ((go_at_call 60; refine ks.mono ?_; rintro e w6 ⟨rfl, b6'⟩; have b6 := hdr5.trans b6'))
        by_cases hbr : sz (x.1.recs.take (cutN x.1.recs x.2)) < dl
        · have hbri : (sz (x.1.recs.take (cutN x.1.recs x.2)) : Int) < (dl : Int) := by omega
          have hfin : Hid _ := hfinH.out w6 b6 (hbrk.out hbr)
          clear hbr hS5 kl ks y0
          go_wp2 <;> first | exact hfin.out | (go_ret2; exact hfin.out)
        · have hbri : ¬ (sz (x.1.recs.take (cutN x.1.recs x.2)) : Int) < (dl : Int) := by omega
          obtain ⟨e0, e1, -⟩ := hS5 w6 b6
          have kl6 := kl w6 b6
          obtain ⟨Lc, hLcd⟩ : ∃ n, Hid (n = lastIx 0 (x.1.recs.take (cutN x.1.recs x.2))) := ⟨_, rfl⟩
          rw [← hLcd.out] at kl6 hLc
          have hmx := hmaxH.out
          rw [← hLcd.out] at hmx
          have hmx' : Hid (i + 1 < xs.length → max L Lc = lastIx 0 (xrecs (xs.take (i + 1)))) := hmx
          clear hbr hS5 kl ks y0 hmx hLcd hmaxH
          by_cases hm : L < Lc
          · have hmi : (L : Int) < (Lc : Int) := by omega
            have hmi2 : ¬ (Lc : Int) < (L : Int) := by omega
            have hL' : Hid (i + 1 < xs.length → Lc = lastIx 0 (xrecs (xs.take (i + 1)))) := fun hl => by rw [← hmx'.out hl]; omega
            go_wp2_with fail
            refine kl6.mono ?_
            rintro e w7 ⟨rfl, b7⟩
            have b57 := b6.trans (b7.mono b6.size)
            clear kl6
            go_wp2
            go_roundg (gk - 1)
            case measure => omega
            case rel => exact ⟨i + 1, Lc, σ5, by omega, by go_num, by rw [show max (L : Int) (Lc : Int) = (Lc : Int) by omega], hLc, hL'.out, (hA5H.out.below b57).wide (by have := hzle.out; omega)⟩
          · have hmi : ¬ (L : Int) < (Lc : Int) := by omega
            have hmi2 : (Lc : Int) ≤ (L : Int) := by omega
            have hL' : Hid (i + 1 < xs.length → L = lastIx 0 (xrecs (xs.take (i + 1)))) := fun hl => by rw [← hmx'.out hl]; omega
            go_wp2_with fail
            refine kl6.mono ?_
            rintro e w7 ⟨rfl, b7⟩
            have b57 := b6.trans (b7.mono b6.size)
            clear kl6
            go_wp2
            go_roundg (gk - 1)
            case measure => omega
            case rel => exact ⟨i + 1, L, σ5, by omega, by go_num, by rw [show max (L : Int) (Lc : Int) = (L : Int) by omega], hL64, hL'.out, (hA5H.out.below b57).wide (by have := hzle.out; omega)⟩
    · have hlti : ¬ (i : Int) < (xs.length : Int) := by omega
      rw [List.take_of_length_le (by rw [List.length_map]; omega)] at hA
      have hfin : Hid (ReadsT w (xs.map cutS) (.returned (.tuple #[u2, u3])) wr) := ⟨_, _, σ, rfl, hA.segs, hA.new, hA.bel⟩
      clear hA
      generalize ReadsT w (xs.map cutS) = T at *
      go_wp2 <;> first | exact hfin.out | (go_ret2; exact hfin.out)
end Go.Proofs.YtgfoogeiancecaaGreatDoor

