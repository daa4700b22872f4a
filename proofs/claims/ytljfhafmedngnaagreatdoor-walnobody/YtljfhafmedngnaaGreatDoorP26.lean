import Derived.Test.YtljfhafmedngnaaGreatDoorP22
import Derived.Test.YtljfhafmedngnaaGreatDoorP25
import Derived.Test.YtljfhafmedngnaaGreatDoorP24
/- The contract of the program's readFile: of the first c bytes of records' frames the whole records. -/
namespace Go.Proofs.YtljfhafmedngnaaGreatDoor
open Go.RowKit WalMath
set_option maxRecDepth 100000
set_option linter.unusedSimpArgs false
set_option linter.unusedVariables false

theorem Bs.fr {n : Nat} {w : World} {v : Value} {l : List Nat} (h : @Bs keepAll n w v l) : Fr.Bs n w v l := by
  obtain ⟨ao, cap, h1, h2, h3, h4, h5⟩ := h
  exact ⟨ao, cap, h1, h2, h3, h4, fun hne => by
    obtain ⟨b, off, e1, e2, e3⟩ := h5 hne
    exact ⟨b, off, e1, e2.1, e3⟩⟩
theorem Fr.Bs.up {n : Nat} {w : World} {v : Value} {l : List Nat} (h : Fr.Bs n w v l) : @Go.Proofs.YtljfhafmedngnaaGreatDoor.Bs keepAll n w v l := by
  obtain ⟨ao, cap, h1, h2, h3, h4, h5⟩ := h
  exact ⟨ao, cap, h1, h2, h3, h4, fun hne => by
    obtain ⟨b, off, e1, e2, e3⟩ := h5 hne
    exact ⟨b, off, e1, ⟨e2, trivial⟩, e3⟩⟩

theorem endI_all (rs : List Rec) : endI (plc 0 rs) (plc 0 rs).length = sz rs := by
  rw [plc_length]
  cases h : rs.length with
  | zero =>
    obtain rfl := List.eq_nil_of_length_eq_zero h
    rfl
  | succ n =>
    show ((plc 0 rs)[n]?.map Prod.snd).getD 0 = _
    rw [plc_get rs 0 n rs[n] (List.getElem?_eq_getElem (by omega)), List.take_of_length_le (by omega)]
    simp
theorem lastI_plc (rs : List Rec) : lastI (plc 0 rs) = lastIx 0 rs := by
  unfold lastI
  rw [lastIx_eq, List.getLast?_eq_getElem?, List.getLast?_eq_getElem?, plc_length]
  cases h : rs[rs.length - 1]? with
  | none =>
    rw [List.getElem?_eq_none_iff] at h
    have h0 : rs.length = 0 := by omega
    obtain rfl := List.eq_nil_of_length_eq_zero h0
    rfl
  | some r =>
    rw [plc_get rs 0 _ r h]
    rfl

theorem joinR_byte {rs : List Rec} (hok : okAll rs) : ∀ x ∈ joinR rs, x < 256 := by
  intro x hx
  obtain ⟨r, hr, hx⟩ := List.mem_flatMap.1 hx
  refine FrameMath.frameB_lt (by decide) ?_ x hx
  intro c hc
  rcases List.mem_append.1 hc with hc | hc
  · exact WireMath.uv_bytes _ c hc
  · exact (hok r hr).2.2.2 c hc
theorem two_blocks (w : World) (o1 o2 : Obj) : ((w.alloc o1).alloc o2).heap[w.heap.size]? = some o1 ∧ ((w.alloc o1).alloc o2).heap[w.heap.size + 1]? = some o2 ∧ ((w.alloc o1).alloc o2).heap.size = w.heap.size + 2 := by
  have hs : (w.alloc o1).heap.size = w.heap.size + 1 := by simp
  refine ⟨?_, ?_, by simp⟩
  · rw [heap_alloc_old _ _ (by omega)]
    exact heap_alloc_new w o1
  · have := heap_alloc_new (w.alloc o1) o2
    rw [hs] at this
    exact this
theorem set_same {w : World} {q k : Nat} (i : Nat) (x : Value) (h : k ≠ q) : (w.setCell ⟨q, i, none⟩ x).heap[k]? = w.heap[k]? := Below.heap_setCell _ _ _ _ h
/-- A record's box, as it is made. -/
abbrev recBox : Obj := .cells #[.int .u64 0, .slice none 0 0] 44
theorem box_facts {w : World} {g : Nat} (h : w.heap[g]? = some recBox) : w.cell? ⟨g, 0, none⟩ = some (.int .u64 0) ∧ w.cell? ⟨g, 1, none⟩ = some (.slice none 0 0) ∧ w.frozen? ⟨g, 0, none⟩ = false ∧ w.frozen? ⟨g, 1, none⟩ = false :=
  ⟨by rw [cells_of_block h]; rfl, by rw [cells_of_block h]; rfl, frozen_of h 0, frozen_of h 1⟩
/-- A record's box, filled. -/
def BoxIn (wr W : World) (rb : Nat) (x y : Value) : Prop := W.heap[rb]? = some (.cells #[x, y] 44 (0, 0)) ∧ wr.heap.size ≤ rb ∧ Below wr.heap.size wr W
theorem boxC {wr w3 : World} (b3 : Below wr.heap.size wr w3) (x y : Value) : BoxIn wr (w3.alloc (.cells #[x, y] 44)) w3.heap.size x y := ⟨heap_alloc_new w3 _, b3.size, b3.alloc b3.size _⟩
theorem boxS {wr w3 : World} {g : Nat} (k3 : w3.heap[g]? = some recBox) (b3 : Below wr.heap.size wr w3) (hg : wr.heap.size ≤ g) (x y : Value) : BoxIn wr ((w3.setCell ⟨g, 0, none⟩ x).setCell ⟨g, 1, none⟩ y) g x y :=
  ⟨Fr.rec_set k3 x y, hg, (b3.setCell (p := ⟨g, 0, none⟩) hg _).setCell (p := ⟨g, 1, none⟩) hg _⟩
theorem gen_world {F : World → Prop} {w : World} (h : ∀ w', w' = w → F w') : F w := h w rfl
theorem seg_set {w : World} {g : Nat} {a b : Value} {t : TypeId} (h : w.heap[g]? = some (.cells #[a, b] t (0, 0))) (y : Value) : (w.setCell ⟨g, 1, none⟩ y).heap[g]? = some (.cells #[a, y] t (0, 0)) := by
  simp [World.setCell, Array.getElem?_modify, h]
/-- The world of a walk, under a name. -/
theorem wp_world {P : Program} {c : Code} {Q : Exit → Act → World → Prop} {a : Act} {w : World} (h : ∀ w', w' = w → Code.wp P c Q a w') : Code.wp P c Q a w := h w rfl

/-- What stands between two rounds of readFile. -/
structure RfAt (w : World) (num : Nat) (dv pv mv : Value) (l : List (Nat × Nat)) (ys : List (Value × Value)) (wr : World) : Prop where
  p0 : wr.heap[w.heap.size]? = some (.cells #[.int .i64 (num : Int), dv] 122 (0, 0))
  p1 : wr.heap[w.heap.size + 1]? = some (.cells #[.int .i64 (num : Int), pv] 73 (0, 0))
  row : R2 wr 120 pv (pl2 l)
  recs : R2 wr 44 mv ys
  pk : ∀ k, pv.ownBlock = some k → w.heap.size + 1 < k
  mvk : ∀ k, mv.ownBlock = some k → w.heap.size + 1 < k ∧ pv.ownBlock ≠ some k
  bel : Below w.heap.size w wr
  one : ∀ x ∈ ys, x.1.oneCell' = true ∧ x.2.oneCell' = true
theorem RfAt.lt {w : World} {num : Nat} {dv pv mv : Value} {l : List (Nat × Nat)} {ys : List (Value × Value)} {wr : World} (h : RfAt w num dv pv mv l ys wr) : w.heap.size + 1 < wr.heap.size := (Array.getElem?_eq_some_iff.1 h.p1).1
theorem RfAt.below {w : World} {num : Nat} {dv pv mv : Value} {l : List (Nat × Nat)} {ys : List (Value × Value)} {wr W : World} (h : RfAt w num dv pv mv l ys wr) (hb : Below wr.heap.size wr W) : RfAt w num dv pv mv l ys W :=
  ⟨(hb.block _ (by have := h.lt; omega)).trans h.p0, (hb.block _ h.lt).trans h.p1, h.row.same fun k hk => hb.block k (h.row.lt hk), h.recs.same fun k hk => hb.block k (h.recs.lt hk), h.pk, h.mvk, h.bel.trans (hb.mono h.bel.size), h.one⟩
/-- .. behind add. -/
theorem RfAt.added {w : World} {num : Nat} {dv pv mv : Value} {l l' : List (Nat × Nat)} {ys : List (Value × Value)} {W w4 : World} {pv' : Value} (h : RfAt w num dv pv mv l ys W) (hR : R2 w4 120 pv' (pl2 l')) (hg : W.grownBy w4 pv.ownBlock) (hn : ∀ k, pv'.ownBlock = some k → pv.ownBlock = some k ∨ W.heap.size ≤ k) : RfAt w num dv pv' mv l' ys (w4.setCell ⟨w.heap.size + 1, 0 + 1, none⟩ pv') := by
  have hlt := h.lt
  have hpk' : ∀ k, pv'.ownBlock = some k → w.heap.size + 1 < k := fun k hk => by
    rcases hn k hk with h' | h'
    · exact h.pk k h'
    · omega
  have hne : ∀ {k}, k ≤ w.heap.size + 1 → pv.ownBlock ≠ some k := fun hk e => by have := h.pk _ e; omega
  have b0 := (hg.block w.heap.size (by omega) (fun e => hne (by omega) e.symm)).trans h.p0
  have b1 := (hg.block (w.heap.size + 1) hlt (fun e => hne (Nat.le_refl _) e.symm)).trans h.p1
  refine ⟨?_, seg_set b1 pv', hR.same fun k hk => set_same 1 _ (by have := hpk' k hk; omega), h.recs.same fun k hk => ?_, hpk', fun k hk => ⟨(h.mvk k hk).1, fun e => ?_⟩, ?_, h.one⟩
  · rw [set_same (0 + 1) _ (by omega)]
    exact b0
  · have := (h.mvk k hk).1
    rw [set_same (0 + 1) _ (by omega)]
    exact hg.block k (h.recs.lt hk) (fun e => (h.mvk k hk).2 e.symm)
  · rcases hn k e with h' | h'
    · exact (h.mvk k hk).2 h'
    · have := h.recs.lt hk
      omega
  · refine ((h.bel.grown hg (by omega) fun k hk => by have := h.pk k hk; omega)).setCell (p := ⟨w.heap.size + 1, 0 + 1, none⟩) (Nat.le_succ _) _
/-- .. behind an append to the records. -/
theorem RfAt.pushed {w : World} {num : Nat} {dv pv mv mv' : Value} {l : List (Nat × Nat)} {ys ys' : List (Value × Value)} {W w6 : World} (h : RfAt w num dv pv mv l ys W) (hM : R2 w6 44 mv' ys') (hg : W.grownBy w6 mv.ownBlock) (hn : ∀ k, mv'.ownBlock = some k → mv.ownBlock = some k ∨ W.heap.size ≤ k) (hone : ∀ x ∈ ys', x.1.oneCell' = true ∧ x.2.oneCell' = true) : RfAt w num dv pv mv' l ys' w6 := by
  have hlt := h.lt
  have hne : ∀ {k}, k ≤ w.heap.size + 1 → mv.ownBlock ≠ some k := fun hk e => by have := (h.mvk _ e).1; omega
  refine ⟨(hg.block _ (by omega) (fun e => hne (by omega) e.symm)).trans h.p0, (hg.block _ hlt (fun e => hne (Nat.le_refl _) e.symm)).trans h.p1, h.row.same fun k hk => hg.block k (h.row.lt hk) (fun e => (h.mvk k e.symm).2 hk), hM, h.pk, fun k hk => ?_, ?_, hone⟩
  · rcases hn k hk with h' | h'
    · exact h.mvk k h'
    · exact ⟨by omega, fun e => by have := h.row.lt e; omega⟩
  · exact h.bel.grown hg (by omega) fun k hk => by have := (h.mvk k hk).1; omega

/-- What an append to the records leaves. -/
def RfN (w : World) (num : Nat) (dv pv : Value) (l : List (Nat × Nat)) (n rb idx : Nat) (v' : Value) (w' : World) : Prop := (∃ ys', ys'.length = n ∧ RfAt w num dv pv v' l ys' w') ∧ w'.cell? ⟨rb, 0, none⟩ = some (.int .u64 (idx : Int))

/-- What readFile tells: the whole records' places, and some records, all in new memory. -/
def ReadFT (w : World) (num : Nat) (rs : List Rec) (e : Ending) (w' : World) : Prop :=
  ∃ pv mv ys, e = .returned (.tuple #[.agg #[.int .i64 (num : Int), pv], mv]) ∧ R2 w' 120 pv (pl2 (plc 0 rs)) ∧ R2 w' 44 mv ys ∧ ys.length = rs.length ∧ (∀ x ∈ ys, x.1.oneCell' = true ∧ x.2.oneCell' = true) ∧ (∀ k, pv.ownBlock = some k → w.heap.size ≤ k) ∧ (∀ k, mv.ownBlock = some k → w.heap.size ≤ k ∧ pv.ownBlock ≠ some k) ∧ Below w.heap.size w w'

theorem results_seg {fn : Func} {p u : Tmp} (h : fn.results = #[.cell p 73, .tmp u]) (tmps : Array Value) (w : World) (g : Nat) (a b : Value)
    (hp : tmps.getD p undef = .pointer (some ⟨g, 0, none⟩)) (hg : w.heap[g]? = some (.cells #[a, b] 73 (0, 0))) :
    (results fn tmps).run Tryz.prog w = .ok (.tuple #[.agg #[a, b], tmps.getD u undef]) w := by
  have hp' : tmps[p]?.getD undef = .pointer (some ⟨g, 0, none⟩) := by simpa using hp
  simp [results, h, hp', asAddr, run_loadVar_row w g 73 73 #[a, b] (0, 0) _ hg Tryz.underlying73 rfl (by kernel_rfl)]

set_option maxHeartbeats 8000000 in
theorem readFile_of (num : Nat) (dv : Value) (rs : List Rec) (c last : Nat) (w : World) (hT : Tb w) (hB : @Bs keepAll w.heap.size w dv ((joinR rs).take c)) (hdv : dv = .slice none 0 0 ∨ ∃ g n c, dv = .slice (some ⟨g, 0, none⟩) n c) (hok : okAll rs) (hch : chn last rs) (hsz : sz rs ≤ 100000) (hlen : rs.length ≤ 100000) (hl64 : last < 18446744073709551616) :
    Calls Tryz.prog 94 #[.agg #[.int .i64 (num : Int), dv], .int .u64 (last : Int)] w (ReadFT w num (rs.take (cutN rs c))) := by
  letI := keepAll
  obtain ⟨D, hD⟩ : ∃ D, D = (joinR rs).take c := ⟨_, rfl⟩
  rw [← hD] at hB
  have hDl : D.length ≤ 100000 := by rw [hD, List.length_take]; unfold sz at hsz; omega
  have hD8 : ∀ x ∈ D, x < 256 := by
    intro x hx
    rw [hD] at hx
    exact joinR_byte hok x (List.mem_of_mem_take hx)
  obtain ⟨ao, cap, rfl, hc1, hc2, -⟩ := id hB
  have hao : (ao = none ∧ D = [] ∧ cap = 0) ∨ ∃ g, ao = some ⟨g, 0, none⟩ := by
    rcases hdv with h | ⟨g, n, c, h⟩
    · injection h with h1 h2 h3
      exact .inl ⟨h1, List.eq_nil_of_length_eq_zero h2, h3⟩
    · injection h with h1 h2 h3
      exact .inr ⟨g, h1⟩
  clear hdv
  have hb0 := (Below.refl w.heap.size w).alloc (Nat.le_refl _) (.cells #[.int .i64 (num : Int), .slice ao D.length cap] 122)
  have hb1 := hb0.alloc hb0.size (.cells #[.int .i64 0, .slice none 0 0] 73)
  obtain ⟨j, hj⟩ : ∃ j, j = cutN rs c := ⟨_, rfl⟩
  have hjl : j ≤ rs.length := by rw [hj]; exact cutN_le _ _
  rw [← hj]
  have hone : Hid (∀ i r, i < j → rs[i]? = some r → one (D.drop (sz (rs.take i))) = some (r, (recB r).length)) := fun i r hi hr => by rw [hD]; exact one_at rs c i r hok (by omega) hr
  have hend : Hid (one (D.drop (sz (rs.take j))) = none) := by show _ = _; rw [hD, hj]; exact one_end rs c hok
  have hjs : sz (rs.take j) ≤ D.length := by
    rw [hD, List.length_take]
    have h1 := cutN_sz rs c
    have h2 := sz_take_le rs j
    rw [← hj] at h1
    unfold sz at h2 ⊢
    unfold sz at h1
    omega
  have hw2 := two_blocks w (.cells #[.int .i64 (num : Int), .slice ao D.length cap] 122) (.cells #[.int .i64 (num : Int), .slice none 0 0] 73)
  have hb2 : Below w.heap.size w ((w.alloc (.cells #[.int .i64 (num : Int), .slice ao D.length cap] 122)).alloc (.cells #[.int .i64 (num : Int), .slice none 0 0] 73)) := hb0.alloc hb0.size _
  clear hD hj
  go_enter Tryz.func94, Tryz.ntmps94
  go_wp2
  go_loopg [1, 5] j (fun g s1 s5 wr => ∃ (i : Nat) (pv : Value) (ys : List (Value × Value)), i + g = j ∧ s1 = .int .u64 (lastIx last (rs.take i) : Int) ∧ ys.length = i ∧ RfAt w num (.slice ao D.length cap) pv s5 (plc 0 (rs.take i)) ys wr)
  case atStart => exact ⟨0, .slice none 0 0, [], by simp, rfl, rfl, hw2.1, hw2.2.1, R2.nil _ _, R2.nil _ _, (fun k hk => by cases hk), (fun k hk => by cases hk), hb2, (fun x hx => by cases hx)⟩
  case round =>
    obtain ⟨i, pv, ys, hi, rfl, hys, hA⟩ := hrel
    have hbw := hA.bel
    have hR := hA.row
    have hp0 := hA.p0
    have hp1 := hA.p1
    have hTr := hT.new hbw
    have hBr := (hB.below hbw).mono hbw.size
    have hwr := hA.lt
    have hS : ∀ w', Below wr.heap.size wr w' → w'.cell? ⟨w.heap.size, 1, none⟩ = some (.slice ao D.length cap) ∧ w'.cell? ⟨w.heap.size + 1, 0, none⟩ = some (.int .i64 (num : Int)) ∧ w'.cell? ⟨w.heap.size + 1, 1, none⟩ = some pv := fun w' hb => by
      have h0 := (hb.block w.heap.size (by omega)).trans hp0
      have h1 := (hb.block (w.heap.size + 1) hwr).trans hp1
      exact ⟨by rw [cells_of_block h0]; rfl, by rw [cells_of_block h1]; rfl, by rw [cells_of_block h1]; rfl⟩
    have hil : (plc 0 (rs.take i)).length ≤ 100000 := by rw [plc_length, List.length_take]; omega
    have ks : ∀ W, Below wr.heap.size wr W → Calls Tryz.prog 73 #[.agg #[.int .i64 (num : Int), pv]] W fun e w' => e = .returned (.int .i64 (sz (rs.take i) : Int)) ∧ Below wr.heap.size wr w' ∧ Below W.heap.size W w' := fun W hb => by
      have := ssize_of (num : Int) pv _ W (hR.pv.below hb) (by omega)
      rw [endI_all] at this
      exact this.mono fun e w' h => ⟨h.1, hb.trans (h.2.mono hb.size), h.2⟩
    have hdr : Below wr.heap.size wr wr.drew := (Below.refl _ _).drew
    by_cases hij : i < j
    · have hil2 : i < rs.length := by omega
      have hri := List.getElem?_eq_getElem hil2
      have ho1 := hone.out i _ hij hri
      have hok1 := hok rs[i] (List.getElem_mem hil2)
      have htk : Hid (rs.take (i + 1) = rs.take i ++ [rs[i]]) := List.take_succ_eq_append_getElem hil2
      have hch1 : lastIx last (rs.take i) = 0 ∨ rs[i].index = lastIx last (rs.take i) + 1 := by
        have h := hch
        rw [← List.take_append_drop i rs, chn_append, List.drop_eq_getElem_cons hil2] at h
        exact h.2.1
      have hszi : sz (rs.take (i + 1)) ≤ D.length := Nat.le_trans (sz_take_mono rs (by omega)) hjs
      rw [htk.out, sz_append, sz_single] at hszi
      generalize rs[i] = r at *
      have hrp := recB_pos r
      obtain ⟨b, off, rfl⟩ : ∃ b off, ao = some ⟨b, off, none⟩ := by
        obtain ⟨_, _, e0, _, _, _, h5⟩ := id hB
        cases e0
        have hDp : 0 < D.length := by omega
        obtain ⟨b, off, e, _⟩ := h5 (List.length_pos_iff.1 hDp)
        exact ⟨b, off, e⟩
      have hdrop : ∀ W, Below wr.heap.size wr W → Fr.Bs wr.heap.size W _ (D.drop (sz (rs.take i))) := fun W hb => (hBr.fr.below hb).drop (sz (rs.take i)) (by omega)
      obtain ⟨a, ha⟩ : ∃ a, (if cap = sz (rs.take i) then some (⟨b, off, none⟩ : Addr) else some ⟨b, off + sz (rs.take i), none⟩) = some a := by split <;> exact ⟨_, rfl⟩
      rw [ha] at hdrop
      have kn : ∀ W, Below wr.heap.size wr W → Calls Tryz.prog 65 #[.slice (some a) (D.length - sz (rs.take i)) (cap - sz (rs.take i))] W fun e w' => ∃ va vn vc, e = .returned (.tuple #[.agg #[.int .u64 (r.index : Int), .slice va vn vc], .int .i64 ((recB r).length : Int), .bool true]) ∧ Below wr.heap.size wr w' ∧ Below W.heap.size W w' := fun W hb => by
        have := Fr.one_of wr.heap.size _ _ W (hTr.new hb).1 (hdrop W hb) (fun x hx => hD8 x (List.mem_of_mem_drop hx)) hb.size (by rw [List.length_drop]; omega)
        rw [ho1] at this
        refine this.mono ?_
        rintro e w' ⟨h1, v, h2, h3, h4⟩
        obtain ⟨va, vc, h5, -⟩ := h3
        exact ⟨va, _, vc, by rw [h2, h5], hb.trans (h1.mono hb.size), h1⟩
      have hsm : (sz (rs.take i) : Int) ≤ (D.length : Int) := by omega
      have hsn : ¬ (sz (rs.take i) : Int) < 0 := by omega
      have hdc : (D.length : Int) ≤ (cap : Int) := by omega
      have hcm : (cap : Int) ≤ 9223372036854775807 := by unfold maxLen at hc2; omega
      have hsm2 : sz (rs.take i) ≤ D.length := by omega
      have y0 := hS _ hdr
      have y1 := hS _ (hdr.alloc (Nat.le_refl _) (.cells #[.int .u64 0, .slice none 0 0] 44))
      obtain ⟨L, hL⟩ : ∃ L, L = lastIx last (rs.take i) := ⟨_, rfl⟩
      have hch2 : L = 0 ∨ r.index = L + 1 := by rw [hL]; exact hch1
      rw [← hL]
      clear hL hch1
      obtain ⟨pa, pc, hpv, -⟩ := hR.shape
      rw [pl2_length] at hpv
      obtain ⟨pn, hpn⟩ : ∃ n, Hid (n = (plc 0 (rs.take i)).length) := ⟨_, rfl⟩
      rw [← hpn.out] at hpv
      subst hpv
      clear hb0 hb1 hb2 hw2 ho1 hdrop hri hone hend
      go_wp2
      go_region_held3 (fun w' => w'.cell? ⟨w.heap.size, 1, none⟩ = some (.slice (some ⟨b, off, none⟩) D.length cap) ∧ w'.cell? ⟨w.heap.size + 1, 0, none⟩ = some (.int .i64 (num : Int)) ∧ w'.cell? ⟨w.heap.size + 1, 1, none⟩ = some (.slice pa pn pc))
        (first | exact y0 | exact y1 | exact hS _ b2 | exact hS _ b3 | exact hS _ (b2.alloc b2.size _) | exact hS _ (b3.alloc b3.size _) | exact hS _ ((b3.setCell (p := ⟨w2.heap.size, 0, none⟩) b2.size _).setCell (p := ⟨w2.heap.size, 1, none⟩) b2.size _) | exact hS _ ((b3.setCell (p := ⟨wr.heap.size, 0, none⟩) (Nat.le_refl _) _).setCell (p := ⟨wr.heap.size, 1, none⟩) (Nat.le_refl _) _) | go_keep)
        (first
          | (go_at_call 73; refine (ks _ (by first | exact hdr | exact hdr.alloc (Nat.le_refl _) _)).mono ?_; rintro e w2 ⟨rfl, b2, c2⟩; try (have k2 : w2.heap[wr.heap.size]? = some recBox := (c2.block wr.heap.size (by simp)).trans (heap_alloc_new wr.drew _)))
          | (go_at_call 65; refine (kn _ (by first | exact b2 | exact b2.alloc b2.size _)).mono ?_; rintro e w3 ⟨va, vn, vc, rfl, b3, c3⟩; first | (have k3 : w3.heap[wr.heap.size]? = some recBox := (c3.block wr.heap.size (Array.getElem?_eq_some_iff.1 k2).1).trans k2; obtain ⟨z0, z1, z2, z3⟩ := box_facts k3) | (have k3 : w3.heap[w2.heap.size]? = some recBox := (c3.block w2.heap.size (by simp)).trans (heap_alloc_new w2 _); obtain ⟨z0, z1, z2, z3⟩ := box_facts k3) | skip))
      all_goals
        refine gen_world ?_
        intro W4 hW4
        first
          | (obtain ⟨rb, hrb⟩ : ∃ rb, rb = w3.heap.size := ⟨_, rfl⟩
             have hbx : BoxIn wr W4 rb (.int .u64 (r.index : Int)) (.slice va vn vc) := by rw [hW4, hrb]; exact boxC b3 _ _
             rw [← hrb])
          | (obtain ⟨rb, hrb⟩ : ∃ rb, rb = w2.heap.size := ⟨_, rfl⟩
             have hbx : BoxIn wr W4 rb (.int .u64 (r.index : Int)) (.slice va vn vc) := by rw [hW4, hrb]; exact boxS k3 b3 b2.size _ _
             rw [← hrb])
          | (obtain ⟨rb, hrb⟩ : ∃ rb, rb = wr.heap.size := ⟨_, rfl⟩
             have hbx : BoxIn wr W4 rb (.int .u64 (r.index : Int)) (.slice va vn vc) := by rw [hW4, hrb]; exact boxS k3 b3 (Nat.le_refl _) _ _
             rw [← hrb])
        clear hrb hW4
        (try clear z0 z1 z2 z3)
        (try clear k3)
        (try clear k2)
        clear b2 c2 b3 c3 ks kn y0 y1
        obtain ⟨hx4, hrl, hb4⟩ := hbx
        obtain ⟨-, x1, x2⟩ := hS W4 hb4
        clear hS
        have x0 : W4.cell? ⟨rb, 0, none⟩ = some (.int .u64 (r.index : Int)) := by rw [cells_of_block hx4]; rfl
        have hA4 := hA.below hb4
        have ka := add_of (w.heap.size + 1) 0 (num : Int) (.slice pa pn pc) (plc 0 (rs.take i)) r.index (recB r).length W4 x1 x2 (frozen_of hA4.p1 1) hA4.row (fun e => by have := hA4.pk _ e; omega) (by omega) (by rw [endI_all]; omega)
        rw [endI_all, ← plc_snoc, ← htk.out] at ka
        have kp : ∀ pv' w4, R2 w4 120 pv' (pl2 (plc 0 (rs.take (i + 1)))) → W4.grownBy w4 (Value.slice pa pn pc).ownBlock → (∀ k, pv'.ownBlock = some k → (Value.slice pa pn pc).ownBlock = some k ∨ W4.heap.size ≤ k) → Hid ((∀ ty, ∃ v' w', (Builtin.append_ #[50, 50] ty #[u5, .slice (some ⟨(w4.setCell ⟨w.heap.size + 1, 0 + 1, none⟩ pv').heap.size, 0, none⟩) 1 1]).run Tryz.prog ((w4.setCell ⟨w.heap.size + 1, 0 + 1, none⟩ pv').alloc (.cells #[.int .u64 (r.index : Int), .slice va vn vc] 44)) = .ok v' w' ∧ RfN w num (.slice (some ⟨b, off, none⟩) D.length cap) pv' (plc 0 (rs.take (i + 1))) (i + 1) rb r.index v' w') ∧ (w4.setCell ⟨w.heap.size + 1, 0 + 1, none⟩ pv').cell? ⟨rb, 0, none⟩ = some (.int .u64 (r.index : Int)) ∧ (w4.setCell ⟨w.heap.size + 1, 0 + 1, none⟩ pv').cell? ⟨rb, 1, none⟩ = some (.slice va vn vc)) := by
          intro pv' w4 h1 h2 h3
          have hA5 := hA4.added h1 h2 h3
          have hx5 : (w4.setCell ⟨w.heap.size + 1, 0 + 1, none⟩ pv').heap[rb]? = some (.cells #[.int .u64 (r.index : Int), .slice va vn vc] 44 (0, 0)) := by
            rw [set_same (0 + 1) _ (by omega)]
            exact (h2.block rb (Array.getElem?_eq_some_iff.1 hx4).1 (fun e => by have := hA.row.lt e.symm; omega)).trans hx4
          refine ⟨fun ty => ?_, by rw [cells_of_block hx5]; rfl, by rw [cells_of_block hx5]; rfl⟩
          obtain ⟨v', w', r1, r2, r3, r4⟩ := push_rec (w4.setCell ⟨w.heap.size + 1, 0 + 1, none⟩ pv') ty u5 ys (.int .u64 (r.index : Int), .slice va vn vc) hA5.recs (by omega) rfl rfl
          refine ⟨v', w', r1, ⟨_, by rw [List.length_append, hys]; rfl, hA5.pushed r2 r3 r4 (fun y hy => by
            rcases List.mem_append.1 hy with hy | hy
            · exact hA5.one y hy
            · rw [List.mem_singleton.1 hy]
              exact ⟨rfl, rfl⟩)⟩, ?_⟩
          rw [cells_of_block ((r3.block rb (Array.getElem?_eq_some_iff.1 hx5).1 (fun e => by have := hA.recs.lt e.symm; omega)).trans hx5)]
          rfl
        have E1 : Hid (lastIx last (rs.take (i + 1)) = r.index) := by show _ = _; rw [htk.out, lastIx_append]; rfl
        have hrlt := hok1.2.1
        have hAH : Hid (RfAt w num (.slice (some ⟨b, off, none⟩) D.length cap) (.slice pa pn pc) u5 (plc 0 (rs.take i)) ys wr) := hA
        clear hA hA4 hR hp0 hp1 hB hBr hx4 hok hok1 hD8 hT hTr x1 x2
        rcases Nat.eq_zero_or_pos L with hL0 | hL0
        · have q5 : ((L : Int) != 0) = false := by rw [hL0]; rfl
          clear hch2 hL0
          go_wp2_with fail
          refine ka.mono ?_
          rintro e w5 ⟨rfl, pv', w4, hw5, h1, h2, h3⟩
          obtain ⟨hap, d0, d1⟩ := (kp pv' w4 h1 h2 h3).out
          rw [← hw5] at hap d0 d1
          clear h1 h2 h3 ka kp hw5
          go_wp2_with (at_builtin; refine wp_by rfl _ _ _ rfl _ _ rfl rfl hap ?_)
          intro v6 w6 hN6
          obtain ⟨⟨ys', hy', hA6⟩, d6⟩ := id hN6
          clear hN6
          clear hap
          go_wp2
          go_roundg (gk - 1)
          case measure => omega
          case rel => exact ⟨i + 1, pv', ys', by omega, by rw [E1.out], hy', hA6⟩
        · have hLi : r.index = L + 1 := by rcases hch2 with h | h <;> omega
          have q5 : ((L : Int) != 0) = true := by simp; omega
          have q6 : IntKind.u64.wrap ((L : Int) + 1) = (r.index : Int) := by
            rw [show (L : Int) + 1 = (r.index : Int) by omega, IntKind.wrap_u64]
            omega
          have q7 : ((r.index : Int) != (r.index : Int)) = false := by simp
          clear hch2 hL0 hLi
          go_wp2_with fail
          refine ka.mono ?_
          rintro e w5 ⟨rfl, pv', w4, hw5, h1, h2, h3⟩
          obtain ⟨hap, d0, d1⟩ := (kp pv' w4 h1 h2 h3).out
          rw [← hw5] at hap d0 d1
          clear h1 h2 h3 ka kp hw5
          go_wp2_with (at_builtin; refine wp_by rfl _ _ _ rfl _ _ rfl rfl hap ?_)
          intro v6 w6 hN6
          obtain ⟨⟨ys', hy', hA6⟩, d6⟩ := id hN6
          clear hN6
          clear hap
          go_wp2
          go_roundg (gk - 1)
          case measure => omega
          case rel => exact ⟨i + 1, pv', ys', by omega, by rw [E1.out], hy', hA6⟩
    · obtain rfl : i = j := by omega
      have kn : ∀ W a n c, Below wr.heap.size wr W → Fr.Bs wr.heap.size W (.slice a n c) (D.drop (sz (rs.take i))) → Calls Tryz.prog 65 #[.slice a n c] W fun e w' => e = .returned (.tuple #[.agg #[.int .u64 0, .slice none 0 0], .int .i64 0, .bool false]) ∧ Below wr.heap.size wr w' ∧ Below W.heap.size W w' := fun W a n c hb hBs => by
        have := Fr.one_of wr.heap.size _ _ W (hTr.new hb).1 hBs (fun x hx => hD8 x (List.mem_of_mem_drop hx)) hb.size (by rw [List.length_drop]; omega)
        rw [hend.out] at this
        refine this.mono ?_
        rintro e w' ⟨h1, h2⟩
        exact ⟨h2, hb.trans (h1.mono hb.size), h1⟩
      have hsm : (sz (rs.take i) : Int) ≤ (D.length : Int) := by omega
      have hsn : ¬ (sz (rs.take i) : Int) < 0 := by omega
      have hdc : (D.length : Int) ≤ (cap : Int) := by omega
      have hcm : (cap : Int) ≤ 9223372036854775807 := by unfold maxLen at hc2; omega
      have y0 := hS _ hdr
      have y1 := hS _ (hdr.alloc (Nat.le_refl _) (.cells #[.int .u64 0, .slice none 0 0] 44))
      obtain ⟨L, hL⟩ : ∃ L, L = lastIx last (rs.take i) := ⟨_, rfl⟩
      rw [← hL]
      clear hL
      obtain ⟨pa, pc, hpv, -⟩ := hR.shape
      rw [pl2_length] at hpv
      obtain ⟨pn, hpn⟩ : ∃ n, Hid (n = (plc 0 (rs.take i)).length) := ⟨_, rfl⟩
      rw [← hpn.out] at hpv
      subst hpv
      have fin : ∀ W4, Below wr.heap.size wr W4 → Hid (ReadFT w num (rs.take i) (.returned (.tuple #[.agg #[.int .i64 (num : Int), .slice pa pn pc], u5])) ((W4.setCell ⟨w.heap.size + 1, 0, none⟩ (.int .i64 (num : Int))).setCell ⟨w.heap.size + 1, 1, none⟩ (.slice pa pn pc))) := by
        intro W4 hb4
        have hA4 := hA.below hb4
        refine ⟨_, _, ys, rfl, hA4.row.same fun k hk => ?_, hA4.recs.same fun k hk => ?_, by rw [hys, List.length_take]; omega, hA4.one, fun k hk => ?_, fun k hk => ⟨?_, (hA4.mvk k hk).2⟩, (hA4.bel.setCell (p := ⟨w.heap.size + 1, 0, none⟩) (Nat.le_succ _) _).setCell (p := ⟨w.heap.size + 1, 1, none⟩) (Nat.le_succ _) _⟩
        · have := hA4.pk k hk
          rw [set_same 1 _ (by omega), set_same 0 _ (by omega)]
        · have := (hA4.mvk k hk).1
          rw [set_same 1 _ (by omega), set_same 0 _ (by omega)]
        · have := hA4.pk k hk
          omega
        · have := (hA4.mvk k hk).1
          omega
      have hp4 : ∀ W4, Below wr.heap.size wr W4 → W4.heap[w.heap.size + 1]? = some (.cells #[.int .i64 (num : Int), .slice pa pn pc] 73 (0, 0)) := fun W4 hb4 => (hA.below hb4).p1
      clear hb0 hb1 hb2 hw2 hone
      rcases hao with ⟨rfl, rfl, rfl⟩ | ⟨g, rfl⟩
      · have hz0 : sz (rs.take i) = 0 := by simpa using hjs
        rw [hz0] at kn ks
        have kn2 := fun W hb => kn W none 0 0 hb (by rw [List.drop_zero]; exact Fr.Bs.nil _ _)
        clear kn hend
        go_wp2
        go_region_held3 (fun w' => w'.cell? ⟨w.heap.size, 1, none⟩ = some (.slice none 0 0) ∧ w'.cell? ⟨w.heap.size + 1, 0, none⟩ = some (.int .i64 (num : Int)) ∧ w'.cell? ⟨w.heap.size + 1, 1, none⟩ = some (.slice pa pn pc))
          (first | exact y0 | exact y1 | exact hS _ b2 | exact hS _ b3 | exact hS _ (b2.alloc b2.size _) | exact hS _ (b3.alloc b3.size _) | exact hS _ ((b3.setCell (p := ⟨w2.heap.size, 0, none⟩) b2.size _).setCell (p := ⟨w2.heap.size, 1, none⟩) b2.size _) | exact hS _ ((b3.setCell (p := ⟨wr.heap.size, 0, none⟩) (Nat.le_refl _) _).setCell (p := ⟨wr.heap.size, 1, none⟩) (Nat.le_refl _) _) | go_keep)
          (first
            | (go_at_call 73; refine (ks _ (by first | exact hdr | exact hdr.alloc (Nat.le_refl _) _)).mono ?_; rintro e w2 ⟨rfl, b2, c2⟩; try (have k2 : w2.heap[wr.heap.size]? = some recBox := (c2.block wr.heap.size (by simp)).trans (heap_alloc_new wr.drew _)))
            | (go_at_call 65; refine (kn2 _ (by first | exact b2 | exact b2.alloc b2.size _)).mono ?_; rintro e w3 ⟨rfl, b3, c3⟩; first | (have k3 : w3.heap[wr.heap.size]? = some recBox := (c3.block wr.heap.size (Array.getElem?_eq_some_iff.1 k2).1).trans k2; obtain ⟨z0, z1, z2, z3⟩ := box_facts k3) | (have k3 : w3.heap[w2.heap.size]? = some recBox := (c3.block w2.heap.size (by simp)).trans (heap_alloc_new w2 _); obtain ⟨z0, z1, z2, z3⟩ := box_facts k3) | skip))
        all_goals
          refine gen_world ?_
          intro W4 hW4
          have hb4 : Below wr.heap.size wr W4 := by
            rw [hW4]
            first
              | exact b3.alloc b3.size _
              | exact (b3.setCell (p := ⟨w2.heap.size, 0, none⟩) b2.size _).setCell (p := ⟨w2.heap.size, 1, none⟩) b2.size _
              | exact (b3.setCell (p := ⟨wr.heap.size, 0, none⟩) (Nat.le_refl _) _).setCell (p := ⟨wr.heap.size, 1, none⟩) (Nat.le_refl _) _
              | exact b3
          clear hW4
          (try clear z0 z1 z2 z3)
          (try clear k3)
          (try clear k2)
          clear b2 c2 b3 c3 ks y0 y1
          obtain ⟨-, x1, x2⟩ := hS W4 hb4
          have hp5 : Hid (W4.heap[w.heap.size + 1]? = _) := hp4 W4 hb4
          have f0 := frozen_of hp5.out 0
          have f1 := frozen_of hp5.out 1
          have hfin := fin W4 hb4
          clear hS fin hp4 hA hR hp0 hp1 hB hBr hb4
          go_wp2
          (try simp only [Exit.inBlock, Exit.then])
          refine bodyPost_ret (results_seg rfl _ _ (w.heap.size + 1) _ _ rfl (Fr.rec_set hp5.out _ _)) rfl ?_
          exact hfin.out
      · obtain ⟨a, ha⟩ : ∃ a, (if cap = sz (rs.take i) then some (⟨g, 0, none⟩ : Addr) else some ⟨g, 0 + sz (rs.take i), none⟩) = some a := by split <;> exact ⟨_, rfl⟩
        have hdrop : ∀ W, Below wr.heap.size wr W → Fr.Bs wr.heap.size W (.slice (some a) (D.length - sz (rs.take i)) (cap - sz (rs.take i))) (D.drop (sz (rs.take i))) := fun W hb => by
          rw [← ha]
          exact (hBr.fr.below hb).drop (sz (rs.take i)) (by omega)
        have kn2 := fun W hb => kn W (some a) (D.length - sz (rs.take i)) (cap - sz (rs.take i)) hb (hdrop W hb)
        rw [Nat.zero_add] at ha
        clear kn hdrop hend
        go_wp2
        go_region_held3 (fun w' => w'.cell? ⟨w.heap.size, 1, none⟩ = some (.slice (some ⟨g, 0, none⟩) D.length cap) ∧ w'.cell? ⟨w.heap.size + 1, 0, none⟩ = some (.int .i64 (num : Int)) ∧ w'.cell? ⟨w.heap.size + 1, 1, none⟩ = some (.slice pa pn pc))
          (first | exact y0 | exact y1 | exact hS _ b2 | exact hS _ b3 | exact hS _ (b2.alloc b2.size _) | exact hS _ (b3.alloc b3.size _) | exact hS _ ((b3.setCell (p := ⟨w2.heap.size, 0, none⟩) b2.size _).setCell (p := ⟨w2.heap.size, 1, none⟩) b2.size _) | exact hS _ ((b3.setCell (p := ⟨wr.heap.size, 0, none⟩) (Nat.le_refl _) _).setCell (p := ⟨wr.heap.size, 1, none⟩) (Nat.le_refl _) _) | go_keep)
          (first
            | (go_at_call 73; refine (ks _ (by first | exact hdr | exact hdr.alloc (Nat.le_refl _) _)).mono ?_; rintro e w2 ⟨rfl, b2, c2⟩; try (have k2 : w2.heap[wr.heap.size]? = some recBox := (c2.block wr.heap.size (by simp)).trans (heap_alloc_new wr.drew _)))
            | (go_at_call 65; refine (kn2 _ (by first | exact b2 | exact b2.alloc b2.size _)).mono ?_; rintro e w3 ⟨rfl, b3, c3⟩; first | (have k3 : w3.heap[wr.heap.size]? = some recBox := (c3.block wr.heap.size (Array.getElem?_eq_some_iff.1 k2).1).trans k2; obtain ⟨z0, z1, z2, z3⟩ := box_facts k3) | (have k3 : w3.heap[w2.heap.size]? = some recBox := (c3.block w2.heap.size (by simp)).trans (heap_alloc_new w2 _); obtain ⟨z0, z1, z2, z3⟩ := box_facts k3) | skip))
        all_goals
          refine gen_world ?_
          intro W4 hW4
          have hb4 : Below wr.heap.size wr W4 := by
            rw [hW4]
            first
              | exact b3.alloc b3.size _
              | exact (b3.setCell (p := ⟨w2.heap.size, 0, none⟩) b2.size _).setCell (p := ⟨w2.heap.size, 1, none⟩) b2.size _
              | exact (b3.setCell (p := ⟨wr.heap.size, 0, none⟩) (Nat.le_refl _) _).setCell (p := ⟨wr.heap.size, 1, none⟩) (Nat.le_refl _) _
              | exact b3
          clear hW4
          (try clear z0 z1 z2 z3)
          (try clear k3)
          (try clear k2)
          clear b2 c2 b3 c3 ks y0 y1
          obtain ⟨-, x1, x2⟩ := hS W4 hb4
          have hp5 : Hid (W4.heap[w.heap.size + 1]? = _) := hp4 W4 hb4
          have f0 := frozen_of hp5.out 0
          have f1 := frozen_of hp5.out 1
          have hfin := fin W4 hb4
          clear hS fin hp4 hA hR hp0 hp1 hB hBr hb4
          go_wp2
          (try simp only [Exit.inBlock, Exit.then])
          refine bodyPost_ret (results_seg rfl _ _ (w.heap.size + 1) _ _ rfl (Fr.rec_set hp5.out _ _)) rfl ?_
          exact hfin.out
end Go.Proofs.YtljfhafmedngnaaGreatDoor

/- Segments in memory: their row, and each one's places, all apart by a mark a block. -/
namespace WalMath
/-- A segment. -/
structure Seg where
  num : Nat
  recs : List Rec
end WalMath
namespace Go.Proofs.YtljfhafmedngnaaGreatDoor
open Go.RowKit WalMath
set_option maxRecDepth 100000
set_option linter.unusedSimpArgs false
set_option linter.unusedVariables false

/-- A block's mark (0: none; 1: the log; 2: the segments' row; 3: a segment's places, by its number; 4: what else is one's own). -/
abbrev Wm := Nat → Nat × Nat
/-- Segments as cells. -/
def sg2 (sg : List Seg) (vs : List Value) : List (Value × Value) := List.zipWith (fun s v => (.int .i64 (s.num : Int), v)) sg vs
theorem sg2_length {sg : List Seg} {vs : List Value} (h : vs.length = sg.length) : (sg2 sg vs).length = sg.length := by simp [sg2, h]
theorem sg2_get {sg : List Seg} {vs : List Value} {i : Nat} {s : Seg} {v : Value} (h1 : sg[i]? = some s) (h2 : vs[i]? = some v) : (sg2 sg vs)[i]? = some (.int .i64 (s.num : Int), v) := by
  simp [sg2, List.getElem?_zipWith, h1, h2]
theorem sg2_snoc {sg : List Seg} {vs : List Value} (h : vs.length = sg.length) (s : Seg) (v : Value) : sg2 (sg ++ [s]) (vs ++ [v]) = sg2 sg vs ++ [(.int .i64 (s.num : Int), v)] := by
  unfold sg2
  rw [List.zipWith_append h.symm]
  rfl
theorem sg2_take (sg : List Seg) (vs : List Value) (n : Nat) : (sg2 sg vs).take n = sg2 (sg.take n) (vs.take n) := by
  unfold sg2
  rw [List.take_zipWith]

structure SegsAt (σ : Wm) (w : World) (sv : Value) (sg : List Seg) : Prop where
  ex : ∃ vs : List Value, vs.length = sg.length ∧ R2 w 73 sv (sg2 sg vs) ∧ ∀ (i : Nat) (s : Seg) (v : Value), sg[i]? = some s → vs[i]? = some v → R2 w 120 v (pl2 (plc 0 s.recs)) ∧ ∀ k, v.ownBlock = some k → σ k = (3, s.num)
  row : ∀ k, sv.ownBlock = some k → σ k = (2, 0)
  lt : ∀ b, (σ b).1 ≠ 0 → b < w.heap.size

theorem SegsAt.same {σ σ' : Wm} {w w' : World} {sv : Value} {sg : List Seg} (h : SegsAt σ w sv sg) (hs : ∀ b, (σ b).1 ≠ 0 → w'.heap[b]? = w.heap[b]?) (hσ : ∀ b, (σ b).1 ≠ 0 → σ' b = σ b) (hlt : ∀ b, (σ' b).1 ≠ 0 → b < w'.heap.size) : SegsAt σ' w' sv sg := by
  obtain ⟨vs, h1, h2, h3⟩ := h.ex
  refine ⟨⟨vs, h1, h2.same fun k hk => hs k (by rw [h.row k hk]; simp), fun i s v hi hv => ?_⟩, fun k hk => (hσ k (by rw [h.row k hk]; simp)).trans (h.row k hk), hlt⟩
  obtain ⟨h4, h5⟩ := h3 i s v hi hv
  exact ⟨h4.same fun k hk => hs k (by rw [h5 k hk]; simp), fun k hk => (hσ k (by rw [h5 k hk]; simp)).trans (h5 k hk)⟩
theorem SegsAt.below {σ : Wm} {w w' : World} {sv : Value} {sg : List Seg} (h : SegsAt σ w sv sg) (hb : Below w.heap.size w w') : SegsAt σ w' sv sg :=
  h.same (fun b hm => hb.block b (h.lt b hm)) (fun _ _ => rfl) fun b hm => Nat.lt_of_lt_of_le (h.lt b hm) hb.size
theorem SegsAt.nil (σ : Wm) (w : World) (hlt : ∀ b, (σ b).1 ≠ 0 → b < w.heap.size) : SegsAt σ w (.slice none 0 0) [] :=
  ⟨⟨[], rfl, R2.nil _ _, fun i s v h => by simp at h⟩, (fun k hk => by cases hk), hlt⟩
theorem SegsAt.shape {σ : Wm} {w : World} {sv : Value} {sg : List Seg} (h : SegsAt σ w sv sg) : ∃ ao cap, sv = .slice ao sg.length cap ∧ sg.length ≤ cap ∧ cap ≤ maxLen := by
  obtain ⟨vs, h1, h2, h3⟩ := h.ex
  obtain ⟨ao, cap, e, h4, h5, -⟩ := h2.shape
  rw [sg2_length h1] at e h4
  exact ⟨ao, cap, e, h4, h5⟩
/-- What stands in the row. -/
theorem SegsAt.cells {σ : Wm} {w : World} {sv : Value} {sg : List Seg} (h : SegsAt σ w sv sg) (hne : sg ≠ []) : ∃ g cap, sv = .slice (some ⟨g, 0, none⟩) sg.length cap ∧ sg.length ≤ cap ∧ cap ≤ maxLen ∧ σ g = (2, 0) ∧ g < w.heap.size ∧ (∀ i, w.frozen? ⟨g, i, none⟩ = false) ∧ ∀ i s, sg[i]? = some s → ∃ v, w.cell? ⟨g, i * 2, none⟩ = some (.int .i64 (s.num : Int)) ∧ w.cell? ⟨g, i * 2 + 1, none⟩ = some v ∧ R2 w 120 v (pl2 (plc 0 s.recs)) ∧ ∀ k, v.ownBlock = some k → σ k = (3, s.num) := by
  obtain ⟨vs, h1, h2, h3⟩ := h.ex
  have hl := sg2_length h1
  obtain ⟨g, cap, e, h4, h5, h6, h7, h8⟩ := h2.cells (by intro e; rw [e] at hl; exact hne (List.eq_nil_of_length_eq_zero hl.symm))
  rw [hl] at e h4
  refine ⟨g, cap, e, h4, h5, h.row g (by rw [e]; rfl), h6, h8, fun i s hi => ?_⟩
  have hil := (List.getElem?_eq_some_iff.1 hi).1
  have hv := List.getElem?_eq_getElem (show i < vs.length by omega)
  obtain ⟨c1, c2⟩ := h7 i _ (sg2_get hi hv)
  exact ⟨vs[i], c1, c2, h3 i s _ hi hv⟩

/-- What one segment more leaves. -/
def Pushed (σ : Wm) (w : World) (sv : Value) (sg : List Seg) (v : Value) (sv' : Value) (w' : World) : Prop :=
  ∃ σ', SegsAt σ' w' sv' sg ∧ w.grownBy w' sv.ownBlock ∧ (∀ b, (σ b).1 ≠ 0 → σ' b = σ b) ∧ ∀ b, (σ' b).1 ≠ 0 → (σ b).1 ≠ 0 ∨ v.ownBlock = some b ∨ w.heap.size ≤ b
theorem SegsAt.push {σ : Wm} {w : World} {sv : Value} {sg : List Seg} (h : SegsAt σ w sv sg) (s : Seg) (v : Value) (hR : R2 w 120 v (pl2 (plc 0 s.recs))) (hv : ∀ k, v.ownBlock = some k → (σ k).1 = 0) (hlen : sg.length ≤ 1000) (ty : TypeId) :
    ∃ sv' w', (Builtin.append_ #[63, 63] ty #[sv, .slice (some ⟨w.heap.size, 0, none⟩) 1 1]).run Tryz.prog (w.alloc (.cells #[.int .i64 (s.num : Int), v] 73)) = .ok sv' w' ∧ Pushed σ w sv (sg ++ [s]) v sv' w' := by
  obtain ⟨vs, h1, h2, h3⟩ := h.ex
  have hv1 : v.oneCell' = true := by
    obtain ⟨ao, cap, rfl, -⟩ := hR.shape
    rfl
  obtain ⟨sv', w', r1, r2, r3, r4⟩ := push_seg w ty sv (sg2 sg vs) (.int .i64 (s.num : Int), v) h2 (by rw [sg2_length h1]; omega) rfl hv1
  have hσ : ∀ b, (σ b).1 ≠ 0 → (if v.ownBlock = some b then (3, s.num) else if w.heap.size ≤ b ∧ sv'.ownBlock = some b then (2, 0) else σ b) = σ b := fun b hb => by
    rw [if_neg (fun e => hb (hv b e)), if_neg (fun e => by have := h.lt b hb; omega)]
  refine ⟨sv', w', r1, fun b => if v.ownBlock = some b then (3, s.num) else if w.heap.size ≤ b ∧ sv'.ownBlock = some b then (2, 0) else σ b, ⟨⟨vs ++ [v], by simp [h1], by rw [sg2_snoc h1]; exact r2, fun i t u hi hu => ?_⟩, fun k hk => ?_, fun b hb => ?_⟩, r3, hσ, fun b hb => ?_⟩
  · by_cases hil : i < sg.length
    · rw [List.getElem?_append_left hil] at hi
      rw [List.getElem?_append_left (by omega)] at hu
      obtain ⟨g1, g2⟩ := h3 i t u hi hu
      have hm : ∀ k, u.ownBlock = some k → (σ k).1 ≠ 0 := fun k hk => by rw [g2 k hk]; simp
      refine ⟨g1.same fun k hk => r3.block k (g1.lt hk) (fun e => ?_), fun k hk => (hσ k (hm k hk)).trans (g2 k hk)⟩
      have := h.row k e.symm
      rw [g2 k hk] at this
      cases this
    · rw [List.getElem?_append_right (by omega)] at hi
      rw [List.getElem?_append_right (by omega), h1] at hu
      obtain ⟨rfl, rfl⟩ : s = t ∧ v = u := by
        cases hc : i - sg.length with
        | zero =>
          rw [hc] at hi hu
          simp at hi hu
          exact ⟨hi, hu⟩
        | succ n =>
          rw [hc] at hi
          simp at hi
      refine ⟨hR.same fun k hk => r3.block k (hR.lt hk) (fun e => ?_), fun k hk => by rw [if_pos hk]⟩
      have := h.row k e.symm
      have h0 := hv k hk
      rw [this] at h0
      cases h0
  · show (if v.ownBlock = some k then _ else _) = _
    rcases r4 k hk with h' | h'
    · have hk2 := h.row k h'
      rw [if_neg (fun e => by have := hv k e; rw [hk2] at this; cases this), if_neg (fun e => by have := h2.lt h'; omega), hk2]
    · rw [if_neg (fun e => by have := hR.lt e; omega), if_pos ⟨h', hk⟩]
  · have hb' : (if v.ownBlock = some b then (3, s.num) else if w.heap.size ≤ b ∧ sv'.ownBlock = some b then (2, 0) else σ b).1 ≠ 0 := hb
    split at hb'
    · rename_i e
      exact Nat.lt_of_lt_of_le (hR.lt e) r3.size
    · split at hb'
      · rename_i e
        exact r2.lt e.2
      · exact Nat.lt_of_lt_of_le (h.lt b hb') r3.size
  · have hb' : (if v.ownBlock = some b then (3, s.num) else if w.heap.size ≤ b ∧ sv'.ownBlock = some b then (2, 0) else σ b).1 ≠ 0 := hb
    split at hb'
    · rename_i e
      exact .inr (.inl e)
    · split at hb'
      · rename_i e
        exact .inr (.inr e.1)
      · exact .inl hb'
end Go.Proofs.YtljfhafmedngnaaGreatDoor

