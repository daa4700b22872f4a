import Derived.Test.YtgfoogeiancecaaGreatDoorHw30
import Derived.Deep.Upon
import Derived.Laws.CopyRow
import Derived.Test.YtgfoogeiancecaaGreatDoorHw32
import Derived.Test.YtgfoogeiancecaaGreatDoorHw33
import Derived.Test.YtgfoogeiancecaaGreatDoorHw34
/- The contract of slices.Delete of a row's end: what stays lies as it lay, the rest is cleared. -/
namespace Go.Proofs.YtgfoogeiancecaaGreatDoor
open Go.RowKit WalMath DiskMath
set_option maxRecDepth 100000
set_option linter.unusedSimpArgs false
set_option linter.unusedVariables false

theorem infoSegm : (Tryz.prog.info? 62).map (fun i => (i.zero, i.size, i.bytes)) = some (some (.agg #[.int .i64 0, .slice none 0 0]), 2, 32) := by kernel_rfl
theorem zeroSegm (w : World) : (zeroValue 62).run Tryz.prog w = .ok (.agg #[.int .i64 0, .slice none 0 0]) w := by kernel_rfl

/-- What clear lays there. -/
def zs2 (n : Nat) : List Value := (Builtin.zeroCells #[.int .i64 0, .slice none 0 0] n).toList
theorem zs2_length (n : Nat) : (zs2 n).length = n * 2 := by simp [zs2, Builtin.zeroCells]
theorem zs2_one (n : Nat) : ∀ v ∈ zs2 n, v.oneCell' = true := by
  intro v hv
  simp only [zs2, Builtin.zeroCells, Array.toList_map, Array.toList_range, List.mem_map, List.mem_range] at hv
  obtain ⟨i, hi, rfl⟩ := hv
  have h2 : i % 2 = 0 ∨ i % 2 = 1 := by omega
  rcases h2 with h | h
  · simp [h]; rfl
  · simp [h]; rfl

/-- What Delete leaves: the row's beginning. -/
def DelT (w : World) (v : Value) (xs : List (Value × Value)) (e : Ending) (w' : World) : Prop :=
  ∃ v', e = .returned v' ∧ R2 w' 62 v' xs ∧ w.grownBy w' v.ownBlock ∧ v'.ownBlock = v.ownBlock

set_option maxHeartbeats 2000000 in
theorem delete_from (w : World) (v : Value) (xs : List (Value × Value)) (i : Nat) (h : R2 w 62 v xs) (hi : i < xs.length) (hsm : xs.length ≤ 1000) :
    Calls Tryz.prog 37 #[v, .int .i64 (i : Int), .int .i64 (xs.length : Int)] w (DelT w v (xs.take i)) := by
  obtain ⟨i0, hi0, hz0, hz1, hz2⟩ := info_parts infoSegm
  obtain ⟨hl2, ⟨_, r2⟩ | ⟨g, cap, cur, rfl, hg0, hbk, hle, hm, hcs, ht⟩⟩ := id h
  · omega
  obtain ⟨n, hn⟩ : ∃ n, Hid (n = xs.length) := ⟨_, rfl⟩
  rw [← hn.out] at hi hle ⊢
  have hcm : (cap : Int) ≤ 9223372036854775807 := by unfold maxLen at hm; omega
  have hni : (n : Int) ≤ (cap : Int) := by omega
  have hn0 : ¬ (n : Int) < 0 := by omega
  have hii : (i : Int) ≤ (n : Int) := by omega
  have hij : ¬ (i : Int) = (n : Int) := by omega
  have hik : ((i : Int) == (n : Int)) = false := by simp; omega
  have hil : ¬ (i : Int) < 0 := by omega
  have him : (i : Int) ≤ (cap : Int) := by omega
  have hgl := (Array.getElem?_eq_some_iff.1 hbk).1
  obtain ⟨a, ha⟩ : ∃ a, (if cap = n then some (⟨g, 0, none⟩ : Addr) else some ⟨g, n * 2, none⟩) = some a := by split <;> exact ⟨_, rfl⟩
  have hap : ∀ W ty c, (Builtin.append_ #[54, 54] ty #[.slice (some ⟨g, 0, none⟩) i cap, .slice (some a) 0 c]).run Tryz.prog W = .ok (.slice (some ⟨g, 0, none⟩) i cap) W := fun W ty c =>
    run_append_nothing W 54 54 ty 62 i0 Tryz.underlying54 hi0 _ _ _ (by omega) _ ⟨.inl ⟨_, Tryz.underlying54⟩, fun _ => rfl, by simp [Builtin.firstCells, loadCells, loadCellsFrom], by simp [Builtin.firstCells, loadCells, loadCellsFrom], by simp, by simp⟩
  have hsz : i * 2 + 0 + (zs2 (n - i)).length ≤ cur.size := by rw [zs2_length, hcs]; omega
  obtain ⟨NEW, hNEW⟩ : ∃ N : Array Value, Hid (N = (cur.toList.take (i * 2 + 0) ++ zs2 (n - i) ++ cur.toList.drop (i * 2 + 0 + (zs2 (n - i)).length)).toArray) := ⟨_, rfl⟩
  have hcl : ∀ k ty c, (Builtin.clear_ #[54] ty #[.slice (some ⟨g, i * 2, none⟩) (n - i) c]).run Tryz.prog (w.drewN k) = .ok (.tuple #[]) ((w.drewN k).setRow g NEW) := fun k ty c => by
    have hbk' : (w.drewN k).heap[g]? = some (.cells cur 62 (0, 0)) := ((below_drewN (Below.refl w.heap.size w) k).block g hgl).trans hbk
    have hst := run_storeCells_at (P := Tryz.prog) g (i * 2) 62 (zs2 (n - i)) 0 cur (w.drewN k) hbk' hsz (zs2_one _)
    rw [← hNEW.out] at hst
    obtain ⟨m, hm'⟩ : ∃ m, n - i = m + 1 := ⟨n - i - 1, by omega⟩
    unfold zs2 at hst
    rw [hm'] at hst ⊢
    have hzc : (Value.agg #[.int .i64 0, .slice none 0 0]).cells = #[.int .i64 0, .slice none 0 0] := rfl
    simp [Builtin.clear_, run_underlying Tryz.underlying54, zeroSegm, hzc, hst]
  have hfin : ∀ k, Hid (DelT w (.slice (some ⟨g, 0, none⟩) n cap) (xs.take i) (.returned (.slice (some ⟨g, 0, none⟩) i cap)) ((w.drewN k).setRow g NEW)) := fun k => by
    have hb := below_drewN (Below.refl w.heap.size w) k
    have hbk' : (w.drewN k).heap[g]? = some (.cells cur 62 (0, 0)) := (hb.block g hgl).trans hbk
    have hlen : (xs.take i).length = i := by rw [List.length_take, ← hn.out]; omega
    refine ⟨_, rfl, ?_, ⟨hb.os, hb.tape, hb.output, by rw [setRow_size]; exact hb.size, fun b hbl hne => ?_⟩, rfl⟩
    · unfold R2
      rw [hlen]
      refine ⟨by rw [c2_length, hlen], .inr ⟨g, cap, NEW, rfl, Nat.zero_le _, setRow_heap _ _ _ _ _ _ hbk', by omega, hm, ?_, ?_⟩⟩
      · rw [hNEW.out]
        have hz := zs2_length (n - i)
        simp only [List.size_toArray, List.length_append, List.length_take, List.length_drop, Array.length_toList, hz]
        rw [hcs]
        omega
      · rw [hNEW.out, ← c2_take, ← ht, ← hn.out]
        have : i * 2 ≤ cur.toList.length := by rw [Array.length_toList, hcs]; omega
        simp only [Nat.add_zero, List.append_assoc]
        rw [List.take_append_of_le_length (by rw [List.length_take]; omega), List.take_take, List.take_take]
        congr 1
        omega
    · rw [setRow_other _ _ _ _ (fun e => hne (by rw [e]; rfl))]
      exact hb.block b hbl
  generalize DelT w (.slice (some ⟨g, 0, none⟩) n cap) (xs.take i) = T at *
  clear hNEW ht h
  go_enter Tryz.func37, Tryz.ntmps37
  go_wp2
  go_quiet (fail)
  have E := hfin nq
  clear hfin
  go_wp2 <;> first | exact E.out | (go_ret; exact E.out)
end Go.Proofs.YtgfoogeiancecaaGreatDoor

/- The contract of a log's leave where segments behind the first ones are removed, from the last on. -/
namespace Go.Proofs.YtgfoogeiancecaaGreatDoor
open Go.RowKit Go.Shelf WalMath DiskMath
attribute [local go_sem] Oper.semAt_some
set_option maxRecDepth 100000
set_option linter.unusedSimpArgs false
set_option linter.unusedVariables false

/-- What is left where these segments' files are removed, one behind the other. -/
def rmN (ns : List Nat) (fs : Files) : Files := ns.foldl (fun fs n => (dRemove fs (segName n)).1) fs
theorem rmN_snoc (ns : List Nat) (n : Nat) (fs : Files) : rmN (ns ++ [n]) fs = (dRemove (rmN ns fs) (segName n)).1 := by simp [rmN]

/-- A segment's cells, its number within a name's reach. -/
abbrev Zn := { y : Nat × Option Addr × Nat × Nat // y.1 < 100000000 }
/-- The segments of a row's end, as the row has them. -/
theorem end_list {σ : Wm} {w : World} {g cap : Nat} {sg : List Seg} (h : SegsAt σ w (.slice (some ⟨g, 0, none⟩) sg.length cap) sg) (hbd : ∀ s ∈ sg, s.num < 100000000) (k : Nat) (hk : k < sg.length) : ∃ zs : List Zn, zs.length = sg.length - k ∧ zs.map (fun y => y.1.1) = (sg.drop k).map Seg.num ∧ ∀ j, (h : j < zs.length) → w.cell? ⟨g, k * 2 + j * 2, none⟩ = some (.int .i64 (zs[j].1.1 : Int)) ∧ w.cell? ⟨g, k * 2 + j * 2 + 1, none⟩ = some (.slice zs[j].1.2.1 zs[j].1.2.2.1 zs[j].1.2.2.2) := by
  obtain ⟨g', cap', e, -, -, -, -, -, hat⟩ := h.cells (by intro e; rw [e] at hk; simp at hk)
  cases e
  have each : ∀ j, j < sg.length - k → ∃ z : Zn, (sg[k + j]?).map Seg.num = some z.1.1 ∧ w.cell? ⟨g, k * 2 + j * 2, none⟩ = some (.int .i64 (z.1.1 : Int)) ∧ w.cell? ⟨g, k * 2 + j * 2 + 1, none⟩ = some (.slice z.1.2.1 z.1.2.2.1 z.1.2.2.2) := by
    intro j hj
    have hs : sg[k + j]? = some sg[k + j] := List.getElem?_eq_getElem (by omega)
    obtain ⟨v, c1, c2, c3, -⟩ := hat (k + j) _ hs
    obtain ⟨a, c, hv, -⟩ := c3.shape
    refine ⟨⟨(sg[k + j].num, a, (pl2 (plc 0 sg[k + j].recs)).length, c), hbd _ (List.getElem_mem _)⟩, by rw [hs]; rfl, ?_, ?_⟩
    · rw [show k * 2 + j * 2 = (k + j) * 2 by omega]; exact c1
    · rw [show k * 2 + j * 2 + 1 = (k + j) * 2 + 1 by omega, c2, hv]
  haveI : Inhabited Zn := ⟨⟨(0, none, 0, 0), by decide⟩⟩
  obtain ⟨Q, hQ⟩ := Deep.choose_lt (α := Zn) each
  refine ⟨(List.range (sg.length - k)).map Q, by simp, ?_, fun j hj => ?_⟩
  · apply List.ext_getElem?
    intro j
    by_cases hj : j < sg.length - k
    · have h1 := (hQ j hj).1
      rw [List.getElem?_eq_getElem (show k + j < sg.length by omega)] at h1
      simp [hj]
      exact (Option.some.inj h1).symm
    · have h2 : (sg.drop k).length ≤ j := by simp; omega
      simp [List.getElem?_eq_none h2, hj]
  · have hj' : j < sg.length - k := by simpa using hj
    have := (hQ j hj').2
    simpa using this

theorem Tb.outside {S : Nat → Prop} {w W0 W : World} (h : Tb w) (hb : Below w.heap.size w W0) (hk : Kept S W0 W) (h0 : ¬ S 0) (h1 : ¬ S 1) : Tb W := by
  have h2 := h.two
  have hs := hb.size
  refine h.below (n := 2) ⟨hk.os.trans hb.os, hk.tape.trans hb.tape, hk.output.trans hb.output, Nat.le_trans hs hk.size, fun b hb' => ?_⟩ (Nat.le_refl _)
  have hns : ¬ S b := by
    have : b = 0 ∨ b = 1 := by omega
    rcases this with rfl | rfl
    · exact h0
    · exact h1
  exact (hk.block b (by omega) hns).trans (hb.block b (by omega))

/-- What the row's cutting leaves. -/
structure AfterDel (U S : Nat → Prop) (σ : Wm) (w W : World) (D q : Nat) (d : Value) (sg : List Seg) (k : Nat) (fs : Files) (v : Value) (W6 : World) : Prop where
  at_ : WalAt σ W6 q d v (sg.take k)
  disk : Dk S W6 d fs
  kept : Kept U w W6
  size : W.heap.size ≤ W6.heap.size
  def_ : W6.heap[D]? = some (.deferred (some []))
  box : W6.heap[w.heap.size]? = some (.cells #[.pointer (some ⟨q, 0, none⟩)] 25 (0, 0))

theorem del_state {U S : Nat → Prop} {σ : Wm} {w W0 W W' : World} {D q g cap k : Nat} {d : Value} {sg : List Seg} {fs : Files} (hW : WalAt σ W q d (.slice (some ⟨g, 0, none⟩) sg.length cap) sg) (hD : Dk S W d fs) (hS : ∀ b, S b → (σ b).1 = 0) (hb : Below W.heap.size W W') (hk : k < sg.length) (hlen : sg.length ≤ 1000)
    (hσl : ∀ b, (σ b).1 ≠ 0 → b < w.heap.size) (hgl : g < w.heap.size) (hql : q < w.heap.size) (hs0 : w.heap.size ≤ W0.heap.size) (hs1 : W0.heap.size ≤ W.heap.size) (hKw : Kept U w W) (hU : ∀ b, U b ↔ S b ∨ (σ b).1 ≠ 0) (hK : W.heap[D]? = some (.deferred (some []))) (hDD : W0.heap.size ≤ D) (hsW : W0.heap.size = w.heap.size + 2) (hbox : W.heap[w.heap.size]? = some (.cells #[.pointer (some ⟨q, 0, none⟩)] 25 (0, 0))) :
    Calls Tryz.prog 37 #[.slice (some ⟨g, 0, none⟩) sg.length cap, .int .i64 (k : Int), .int .i64 (sg.length : Int)] W' fun e w5 => ∃ a n c, e = .returned (.slice a n c) ∧ (w5.cell? ⟨w.heap.size, 0, none⟩ = some (.pointer (some ⟨q, 0, none⟩)) ∧ w5.cell? ⟨q, 1, none⟩ = some (.slice (some ⟨g, 0, none⟩) sg.length cap)) ∧ w5.frozen? ⟨q, 1, none⟩ = false ∧ Hid (AfterDel U S σ w W D q d sg k fs (.slice a n c) (w5.setCell ⟨q, 1, none⟩ (.slice a n c))) := by
  have hW' := hW.below hb
  obtain ⟨vs, hv, hR, hat⟩ := hW'.segs.ex
  have hxl := sg2_length hv
  have kdel := delete_from W' (.slice (some ⟨g, 0, none⟩) sg.length cap) (sg2 sg vs) k hR (by omega) (by omega)
  rw [hxl] at kdel
  refine kdel.mono ?_
  rintro e w5 ⟨v', rfl, hR5, hg5, how⟩
  obtain ⟨a, c, rfl, -, -⟩ := hR5.shape
  have hgm : σ g = (2, 0) := hW.segs.row g rfl
  have hqg : q ≠ g := fun e => by have := hW.mark; rw [e, hgm] at this; cases this
  have h5 : ∀ b, b < W.heap.size → b ≠ g → w5.heap[b]? = W.heap[b]? := fun b hb' hne => (hg5.block b (Nat.lt_of_lt_of_le hb' hb.size) (fun e => hne (Option.some.inj e))).trans (hb.block b hb')
  have hq5 := (h5 q (by omega) hqg).trans hW.block
  have hbx5 := (h5 w.heap.size (by omega) (by omega)).trans hbox
  refine ⟨a, _, c, rfl, ⟨by rw [cells_of_block hbx5]; rfl, by rw [cells_of_block hq5]; rfl⟩, frozen_of hq5 1, ?_⟩
  have hsz5 : W.heap.size ≤ w5.heap.size := Nat.le_trans hb.size hg5.size
  have h6 : ∀ b v, b ≠ q → (w5.setCell ⟨q, 1, none⟩ v).heap[b]? = w5.heap[b]? := fun b v hne => set_same 1 _ hne
  have h6s : ∀ v, (w5.setCell ⟨q, 1, none⟩ v).heap.size = w5.heap.size := fun v => by simp [World.setCell]
  have hDl : D < W.heap.size := (Array.getElem?_eq_some_iff.1 hK).1
  generalize hV : Value.slice a _ c = V at *
  have hne : ∀ b, w.heap.size ≤ b → b ≠ g ∧ b ≠ q := fun b hb' => ⟨by omega, by omega⟩
  refine ⟨⟨seg_set hq5 V, ⟨⟨vs.take k, by simp [hv], ?_, fun i s v hi hv' => ?_⟩, fun b hb' => ?_, fun b hb' => ?_⟩, hW.mark⟩, ?_, ?_, ?_, ?_, ?_⟩
  · rw [← sg2_take]
    exact hR5.same fun b hb' => h6 b _ fun e => hqg (by rw [how] at hb'; rw [← e]; exact (Option.some.inj hb').symm)
  · have hik : i < k := by
      have := (List.getElem?_eq_some_iff.1 hi).1
      rw [List.length_take] at this
      omega
    rw [List.getElem?_take_of_lt hik] at hi hv'
    obtain ⟨g1, g2⟩ := hat i s v hi hv'
    refine ⟨g1.same fun b hb' => ?_, g2⟩
    have hm := g2 b hb'
    have hbq : b ≠ q := fun e => by rw [e, hW.mark] at hm; cases hm
    have hbg : b ≠ g := fun e => by rw [e, hgm] at hm; cases hm
    rw [h6 b _ hbq]
    exact hg5.block b (g1.lt hb') (fun e => hbg (Option.some.inj e))
  · rw [how] at hb'
    rw [← Option.some.inj hb']
    exact hgm
  · rw [h6s]
    have := hσl b hb'
    omega
  · refine diskOf.kept hD (by rw [h6s]; exact hsz5) fun b hb' => ?_
    have hm := hS b hb'
    rw [h6 b _ (fun e => by rw [e, hW.mark] at hm; cases hm)]
    exact h5 b (diskOf.lt hD b hb') (fun e => by rw [e, hgm] at hm; cases hm)
  · refine ⟨hg5.os.trans (hb.os.trans hKw.os), hg5.tape.trans (hb.tape.trans hKw.tape), hg5.output.trans (hb.output.trans hKw.output), by rw [h6s]; omega, fun b hb' hns => ?_⟩
    have hm : (σ b).1 = 0 := by
      by_cases h0 : (σ b).1 = 0
      · exact h0
      · exact absurd ((hU b).2 (.inr h0)) hns
    rw [h6 b _ (fun e => by rw [e, hW.mark] at hm; cases hm), h5 b (by omega) (fun e => by rw [e, hgm] at hm; cases hm)]
    exact hKw.block b hb' hns
  · rw [h6s]
    exact hsz5
  · rw [h6 D _ (hne D (by omega)).2, h5 D hDl (hne D (by omega)).1]
    exact hK
  · rw [h6 _ _ (hne _ (Nat.le_refl _)).2]
    exact hbx5

set_option maxHeartbeats 4000000 in
theorem leave_from {U : Nat → Prop} {w : World} {v d : Value} {sg : List Seg} {fs : Files} (k : Nat) (hT : Tb w) (hL : Lg U w v d sg fs) (hU2 : ∀ b, U b → 2 ≤ b) (hk0 : 0 < k) (hkl : k < sg.length) (hlen : sg.length ≤ 1000) (hbd : ∀ s ∈ sg, s.num < 100000000 ∧ s.recs.length ≤ 100000) :
    Calls Tryz.prog 32 #[v, .int .i64 (k : Int)] w fun e w' => e = .returned (.tuple #[]) ∧ LgN U w v d (sg.take k) (leaveF (sg.take k) (rmN ((sg.drop k).map Seg.num).reverse fs)) w' := by
  obtain ⟨S, σ, q, sv, rfl, hD, hW, hS, hU⟩ := hL.ex
  obtain ⟨dq, rfl⟩ := hD.shape
  refine (callsIn_wide (n := 6)).1 ?_
  refine callsIn_of_wp_marks Tryz.func32 rfl trivial ?_ rfl
  refine wpIn_wide.2 ?_
  simp only [Tryz.ntmps32, List.size_toArray, List.length_cons, List.length_nil, Nat.reduceAdd, Nat.reduceSub, Array.replicate_succ, Array.replicate_zero, List.push_toArray, List.append_toArray, List.nil_append, List.cons_append]
  have hq := hW.block
  have hql := (Array.getElem?_eq_some_iff.1 hq).1
  have hb0 : Below w.heap.size w (w.alloc (.cells #[.pointer (some ⟨q, 0, none⟩)] 25)) := (Below.refl _ _).alloc (Nat.le_refl _) _
  have hs0 : (w.alloc (.cells #[.pointer (some ⟨q, 0, none⟩)] 25)).heap.size = w.heap.size + 1 := by simp
  have hbx0 := heap_alloc_new w (.cells #[.pointer (some ⟨q, 0, none⟩)] 25)
  have c1 : (w.alloc (.cells #[.pointer (some ⟨q, 0, none⟩)] 25)).cell? ⟨q, 1, none⟩ = some sv := (hb0.cell (p := ⟨q, 1, none⟩) hql).trans (by rw [cells_of_block hq]; rfl)
  obtain ⟨g, cap, rfl, h1, h2, hgm, hgl, -, -⟩ := hW.segs.cells (by intro e; rw [e] at hkl; simp at hkl)
  obtain ⟨zs, hzl, hzn, hzc⟩ := end_list hW.segs (fun s hs => (hbd s hs).1) k hkl
  obtain ⟨N, hN⟩ : ∃ N, Hid (N = sg.length) := ⟨_, rfl⟩
  rw [← hN.out] at h1 c1 hkl hlen hzl
  have hni : (N : Int) ≤ (cap : Int) := by omega
  have hcm : (cap : Int) ≤ 9223372036854775807 := by unfold maxLen at h2; omega
  have hkn : (k : Int) ≤ (N : Int) := by omega
  have hkn0 : ¬ (k : Int) < 0 := by omega
  have hck : ¬ cap = k := by omega
  go_wp2_with (go_at_call 24; refine (callsIn_wide.1 (back_in Fence.wide 6 trivial rfl _ _ _ _)).mono ?_; rintro e w' ⟨rfl, rfl⟩)
  have hbW : Below w.heap.size w ((w.alloc (.cells #[.pointer (some ⟨q, 0, none⟩)] 25)).alloc (.cells #[.slice (some ⟨g, k * 2, none⟩) (N - k) (cap - k)] 54)) := hb0.alloc hb0.size _
  have hsW : ((w.alloc (.cells #[.pointer (some ⟨q, 0, none⟩)] 25)).alloc (.cells #[.slice (some ⟨g, k * 2, none⟩) (N - k) (cap - k)] 54)).heap.size = w.heap.size + 2 := by simp
  have hbkW := heap_alloc_new (w.alloc (.cells #[.pointer (some ⟨q, 0, none⟩)] 25)) (.cells #[.slice (some ⟨g, k * 2, none⟩) (N - k) (cap - k)] 54)
  rw [hs0] at hbkW
  have hbxW : ((w.alloc (.cells #[.pointer (some ⟨q, 0, none⟩)] 25)).alloc (.cells #[.slice (some ⟨g, k * 2, none⟩) (N - k) (cap - k)] 54)).heap[w.heap.size]? = _ := (Below.heap_alloc _ _ _ (by simp)).trans hbx0
  obtain ⟨W0, hW0⟩ : ∃ W0, (w.alloc (.cells #[.pointer (some ⟨q, 0, none⟩)] 25)).alloc (.cells #[.slice (some ⟨g, k * 2, none⟩) (N - k) (cap - k)] 54) = W0 := ⟨_, rfl⟩
  rw [hW0] at hsW hbW hbkW hbxW ⊢
  clear hW0
  have hcW : W0.cell? ⟨w.heap.size + 1, 0, none⟩ = some (.slice (some ⟨g, k * 2, none⟩) (N - k) (cap - k)) := by rw [cells_of_block hbkW]; rfl
  have hSl : ∀ b, S b → b < w.heap.size := diskOf.lt hD
  have hD0 := diskOf.below hD hbW
  have hzl6 : zs.length ≤ 1000000 := by omega
  rw [← hzl] at hcW
  refine (wpIn_wide (n := 6)).1 ?_
  refine wpIn_rangeFunc_ownH (α := Int × Zn) rfl (by omega) (gf := 61) (lb := #[.pointer (some ⟨w.heap.size + 1, 0, none⟩)]) rfl trivial (enters_of Tryz.func61 (by kernel_rfl) rfl)
    (back_stopsR (fun y : Zn => y.1) Fence.wide _ trivial rfl (by omega) (w.heap.size + 1) g (k * 2) (cap - k) zs hzl6 W0 (by omega) (by omega) hcW (fun j hj => ⟨(hbW.cell (p := ⟨g, k * 2 + j * 2, none⟩) hgl).trans (hzc j hj).1, (hbW.cell (p := ⟨g, k * 2 + j * 2 + 1, none⟩) hgl).trans (hzc j hj).2⟩)) KeepR.trans (KeepR.put (by omega) (by omega)) (Below.refl _ _) (fun _ => rfl)
    (fun pre W => Dk S W (.pointer (some ⟨dq, 0, none⟩)) (rmN (pre.map fun y => y.2.1.1) fs) ∧ Kept S W0 W)
    (fun _ _ _ => False)
    (fun s A B row hs hg hr => ⟨diskOf.kept hs.1 hg.size fun b hb => hg.block b (diskOf.lt hs.1 b hb) (fun e => by have := (hr b e.symm).1; have := hSl b hb; omega), hg.os.trans hs.2.os, hg.tape.trans hs.2.tape, hg.output.trans hs.2.output, Nat.le_trans hs.2.size hg.size, fun b hb hns => (hg.block b (Nat.lt_of_lt_of_le hb hs.2.size) (fun e => by have := (hr b e.symm).1; omega)).trans (hs.2.block b hb hns)⟩)
    (fun _ _ _ _ _ hs _ _ => hs)
    ⟨hD0, Kept.refl _ _⟩
    (fun x a' W => ∃ Bx, W0.heap.size ≤ Bx ∧ W.heap[Bx]? = some (.cells #[.int .i64 (x.2.1.1 : Int), .slice x.2.1.2.1 x.2.1.2.2.1 x.2.1.2.2.2] 62 (0, 0)) ∧ a' = { tmps := #[.pointer (some ⟨q, 0, none⟩), .int .i64 (k : Int), .pointer (some ⟨w.heap.size, 0, none⟩), undef, undef, .pointer (some ⟨Bx, 0, none⟩), .pointer (some ⟨q, 0, none⟩), .pointer (some ⟨q, 0, none⟩), .pointer (some ⟨q, 1, none⟩), .slice (some ⟨g, 0, none⟩) N cap, .int .i64 (k : Int), .slice (some ⟨g, k * 2, none⟩) (N - k) (cap - k), .func (.func 61) #[] #[.pointer (some ⟨w.heap.size + 1, 0, none⟩)], .int .i64 x.1, .agg #[.int .i64 (x.2.1.1 : Int), .slice x.2.1.2.1 x.2.1.2.2.1 x.2.1.2.2.2], undef, undef, undef, undef, undef, undef, undef, undef, undef, undef, undef, undef, undef, undef, undef, undef, undef, undef, undef, undef, undef, undef, undef, undef, undef, undef, undef, undef, undef, undef, undef, undef, undef, undef, undef, undef, undef, undef], defers := [] })
    (fun x a' _ X Y row hs hg hr => by
      obtain ⟨Bx, h1, h2, h3⟩ := hs
      exact ⟨Bx, h1, (hg.block Bx (Array.getElem?_eq_some_iff.1 h2).1 (fun e => by
        obtain ⟨o, ho, hc⟩ := (hr Bx e.symm).2
        rw [h2] at ho; cases ho; cases hc)).trans h2, h3⟩)
    ?assign ?body ?done ?stop
  case assign =>
    rintro l pre x W K ⟨hI1, hI2⟩ hK
    dsimp only [encS]
    gi_wp2
    have hb2 : Below W.heap.size W (W.alloc (.cells #[.int .i64 (x.2.1.1 : Int), .slice x.2.1.2.1 x.2.1.2.2.1 x.2.1.2.2.2] 62)) := (Below.refl _ W).alloc (Nat.le_refl _) _
    have hsz := hI2.size
    exact hK _ _ ((KeepsOthers.alloc _ _).from _) ⟨hb2.block _ (by omega), hb2.block _ (by omega)⟩ ⟨diskOf.below hI1 hb2, hI2.trans (fun _ h => .inl h) (Below.kept hb2)⟩ ⟨W.heap.size, hsz, World.alloc_heap_new W _, rfl⟩
  case body =>
    rintro l pre x a' W hl ⟨r, hr⟩ ⟨hI1, hI2⟩ ⟨Bx, hBx, bX, rfl⟩ hlt
    have hnS : ∀ b, w.heap.size ≤ b → ¬ S b := fun b hb hs' => by have := hSl b hs'; omega
    have hszW := hI2.size
    have hbxw : W.heap[w.heap.size]? = some (.cells #[.pointer (some ⟨q, 0, none⟩)] 25 (0, 0)) := (hI2.block _ (by omega) (hnS _ (Nat.le_refl _))).trans hbxW
    have hqS : ¬ S q := fun h => by have := hS q h; rw [hW.mark] at this; cases this
    have hqw : W.heap[q]? = _ := (hI2.block q (by omega) hqS).trans ((hbW.block q hql).trans hq)
    have hgS : ¬ S g := fun h => by have := hS g h; rw [hgm] at this; cases this
    have hBxl := (Array.getElem?_eq_some_iff.1 bX).1
    have hTW : Tb W := hT.outside hbW hI2 (fun h => by have := hU2 0 ((hU 0).2 (.inl h)); omega) (fun h => by have := hU2 1 ((hU 1).2 (.inl h)); omega)
    have hcl : ∀ W', Below W.heap.size W W' → W'.cell? ⟨w.heap.size, 0, none⟩ = some (.pointer (some ⟨q, 0, none⟩)) ∧ W'.cell? ⟨q, 0, none⟩ = some (.pointer (some ⟨dq, 0, none⟩)) ∧ W'.cell? ⟨Bx, 0, none⟩ = some (.int .i64 (x.2.1.1 : Int)) ∧ W'.cell? ⟨Bx, 1, none⟩ = some (.slice x.2.1.2.1 x.2.1.2.2.1 x.2.1.2.2.2) := fun W' hb => by
      have e1 := (hb.block w.heap.size (by omega)).trans hbxw
      have e2 := (hb.block q (by omega)).trans hqw
      have e3 := (hb.block Bx hBxl).trans bX
      exact ⟨by rw [cells_of_block e1]; rfl, by rw [cells_of_block e2]; rfl, by rw [cells_of_block e3]; rfl, by rw [cells_of_block e3]; rfl⟩
    have hd1 : Below W.heap.size W W.drew := (Below.refl _ _).drew
    have kn := sname_of x.2.1.1 (.slice x.2.1.2.1 x.2.1.2.2.1 x.2.1.2.2.2) W.drew (hTW.new hd1) x.2.2
    have kr : ∀ W', Below W.heap.size W W' → Calls Tryz.prog 36 #[.pointer (some ⟨dq, 0, none⟩), .string (segName x.2.1.1)] W' fun e w' => (∃ c : Int, e = .returned (.int .i64 c)) ∧ (w'.cell? ⟨w.heap.size, 0, none⟩ = some (.pointer (some ⟨q, 0, none⟩)) ∧ w'.cell? ⟨q, 0, none⟩ = some (.pointer (some ⟨dq, 0, none⟩)) ∧ w'.cell? ⟨Bx, 0, none⟩ = some (.int .i64 (x.2.1.1 : Int)) ∧ w'.cell? ⟨Bx, 1, none⟩ = some (.slice x.2.1.2.1 x.2.1.2.2.1 x.2.1.2.2.2)) ∧ Hid (KeepsFrom W0.heap.size W w' ∧ KeepR g (w.heap.size + 1) W w' ∧ Dk S w' (.pointer (some ⟨dq, 0, none⟩)) (rmN ((pre ++ [x]).map fun y => y.2.1.1) fs) ∧ Kept S W0 w') := fun W' hb => by
      refine (dremove_same (segName x.2.1.1) (segName_max _) (diskOf.below hI1 hb)).mono ?_
      rintro e w' ⟨he, hD', hk⟩
      have hcw := hcl W' hb
      have hkk : Kept S W w' := (Below.kept hb).trans (fun _ h => .inl h) hk
      refine ⟨⟨_, he⟩, ⟨hk.cell hcw.1 (hnS _ (Nat.le_refl _)), hk.cell hcw.2.1 hqS, hk.cell hcw.2.2.1 (hnS Bx (by omega)), hk.cell hcw.2.2.2 (hnS Bx (by omega))⟩, ⟨hkk.size, fun b o hb' ho _ => (hkk.block b (Array.getElem?_eq_some_iff.1 ho).1 (hnS b (by omega))).trans ho⟩, ⟨hkk.block g (by omega) hgS, hkk.block _ (by omega) (hnS _ (by omega))⟩, ?_, hI2.trans (fun _ h => .inl h) hkk⟩
      rw [List.map_append]
      exact (rmN_snoc _ _ _).symm ▸ hD'
    have y0 := hcl _ hd1
    obtain ⟨z1, z2, z3, z4⟩ := y0
    have hmix : Tryz.prog.follows .mixedOrders = true := by kernel_rfl
    clear hr hlt hI1 hqw hbxw bX hW hD hD0 hL hbW hbkW hbxW hcW hzc hzn hTW hq c1 hb0 hbx0
    gi_wp2
    gi_region_with_o (first
      | (refine ⟨trivial, ?_⟩; gi_at_call 28; refine (CallsIn.inRound l (callsIn_wide.2 kn)).mono ?_; rintro e v1 ⟨rfl, t1'⟩; have t1 := hd1.trans t1'; obtain ⟨z5, z6, z7, z8⟩ := hcl _ t1)
      | (refine ⟨trivial, ?_⟩; gi_at_call 36; refine (CallsIn.inRound l (callsIn_wide.2 (kr _ t1))).mono ?_; rintro e v2 ⟨⟨cc, rfl⟩, ⟨z9, z10, z11, z12⟩, hfin⟩))
    all_goals (clear hcl kr kn hd1; gi_wp2)
    all_goals exact hfin.out
  case done =>
    rintro D ys W hDD hys ⟨hI1, hI2⟩ hK
    have hnS : ∀ b, w.heap.size ≤ b → ¬ S b := fun b hb hs' => by have := hSl b hs'; omega
    have hszW := hI2.size
    have hbox : W.heap[w.heap.size]? = some (.cells #[.pointer (some ⟨q, 0, none⟩)] 25 (0, 0)) := (hI2.block _ (by omega) (hnS _ (Nat.le_refl _))).trans hbxW
    have hW2 : WalAt σ W q (.pointer (some ⟨dq, 0, none⟩)) (.slice (some ⟨g, 0, none⟩) sg.length cap) sg := (hW.below hbW).kept hI2 hS
    have hTW : Tb W := hT.outside hbW hI2 (fun h => by have := hU2 0 ((hU 0).2 (.inl h)); omega) (fun h => by have := hU2 1 ((hU 1).2 (.inl h)); omega)
    have hrm : rmN (ys.map fun y => y.2.1.1) fs = rmN ((sg.drop k).map Seg.num).reverse fs := by
      congr 1
      rw [← hzn, ← List.map_reverse, ← hys, List.map_map]
      rfl
    rw [hrm] at hI1
    obtain ⟨F2, hF2⟩ : ∃ F2, Hid (F2 = rmN ((sg.drop k).map Seg.num).reverse fs) := ⟨_, rfl⟩
    rw [← hF2.out] at hI1
    have hKw : Kept U w W := ⟨hI2.os.trans hbW.os, hI2.tape.trans hbW.tape, hI2.output.trans hbW.output, Nat.le_trans hbW.size hI2.size, fun b hb hns => (hI2.block b (by omega) (fun h => hns ((hU b).2 (.inl h)))).trans (hbW.block b hb)⟩
    have hDl : D < W.heap.size := (Array.getElem?_eq_some_iff.1 hK).1
    have hdW : Below W.heap.size W W.drew := (Below.refl _ _).drew
    have hσl : ∀ b, (σ b).1 ≠ 0 → b < w.heap.size := hW.segs.lt
    have kd : ∀ W', Below W.heap.size W W' → Calls Tryz.prog 37 #[.slice (some ⟨g, 0, none⟩) N cap, .int .i64 (k : Int), .int .i64 (N : Int)] W' fun e w5 => ∃ a n c, e = .returned (.slice a n c) ∧ (w5.cell? ⟨w.heap.size, 0, none⟩ = some (.pointer (some ⟨q, 0, none⟩)) ∧ w5.cell? ⟨q, 1, none⟩ = some (.slice (some ⟨g, 0, none⟩) N cap)) ∧ w5.frozen? ⟨q, 1, none⟩ = false ∧ Hid (AfterDel U S σ w W D q (.pointer (some ⟨dq, 0, none⟩)) sg k F2 (.slice a n c) (w5.setCell ⟨q, 1, none⟩ (.slice a n c))) := fun W' hb => by
      have := del_state (k := k) hW2 hI1 hS hb (by rw [← hN.out]; omega) (by rw [← hN.out]; omega) hσl hgl hql hbW.size hszW hKw hU hK hDD hsW hbox
      rw [← hN.out] at this
      exact this
    have hq2 := hW2.block
    have y0 : W.drew.cell? ⟨w.heap.size, 0, none⟩ = some (.pointer (some ⟨q, 0, none⟩)) ∧ W.drew.cell? ⟨q, 1, none⟩ = some (.slice (some ⟨g, 0, none⟩) N cap) := by
      rw [hN.out]
      have e1 := (hdW.block w.heap.size (by omega)).trans hbox
      have e2 := (hdW.block q (by omega)).trans hq2
      exact ⟨by rw [cells_of_block e1]; rfl, by rw [cells_of_block e2]; rfl⟩
    clear hI1 hI2 hzc hzn hys hrm hcW hbkW hbxW hD0 hbW hb0 c1 hbx0 hs0 hL hD hW hW2 hbox hq hq2
    have kd1 := kd _ hdW
    clear kd
    go_wp2
    refine wp_region_L (fun w' => w'.cell? ⟨w.heap.size, 0, none⟩ = some (.pointer (some ⟨q, 0, none⟩)) ∧ w'.cell? ⟨q, 1, none⟩ = some (.slice (some ⟨g, 0, none⟩) N cap)) [14] (by kernel_rfl) ?_
    have yS : (fun w' : World => w'.cell? ⟨w.heap.size, 0, none⟩ = some (.pointer (some ⟨q, 0, none⟩)) ∧ w'.cell? ⟨q, 1, none⟩ = some (.slice (some ⟨g, 0, none⟩) N cap)) W.drew := y0
    refine wpAnyL_take 0 rfl (by kernel_rfl) (by kernel_rfl) (by kernel_rfl) (by kernel_rfl) (fun _ _ _ h => h) (by rfl) (by intro w' hS'; obtain ⟨x1, x2⟩ := hS'; go_simp <;> rfl) yS ?_
    try simp only [Act.put, List.setIfInBounds_toArray, List.set_cons_zero, List.set_cons_succ]
    refine wpAnyL_take 1 rfl (by kernel_rfl) (by kernel_rfl) (by kernel_rfl) (by kernel_rfl) (fun _ _ _ h => h) (by rfl) (by intro w' hS'; obtain ⟨x1, x2⟩ := hS'; go_simp <;> rfl) yS ?_
    try simp only [Act.put, List.setIfInBounds_toArray, List.set_cons_zero, List.set_cons_succ]
    refine wpAnyL_take 2 rfl (by kernel_rfl) (by kernel_rfl) (by kernel_rfl) (by kernel_rfl) (fun _ _ _ h => h) (by rfl) (by intro w' hS'; obtain ⟨x1, x2⟩ := hS'; go_simp <;> rfl) yS ?_
    try simp only [Act.put, List.setIfInBounds_toArray, List.set_cons_zero, List.set_cons_succ]
    refine wpAnyL_take 3 rfl (by kernel_rfl) (by kernel_rfl) (by kernel_rfl) (by kernel_rfl) (fun _ _ _ h => h) (by rfl) (by intro w' hS'; obtain ⟨x1, x2⟩ := hS'; go_simp <;> rfl) yS ?_
    try simp only [Act.put, List.setIfInBounds_toArray, List.set_cons_zero, List.set_cons_succ]
    refine wpAnyL_take 4 rfl (by kernel_rfl) (by kernel_rfl) (by kernel_rfl) (by kernel_rfl) (fun _ _ _ h => h) (by rfl) (by intro w' hS'; obtain ⟨x1, x2⟩ := hS'; go_simp <;> rfl) yS ?_
    try simp only [Act.put, List.setIfInBounds_toArray, List.set_cons_zero, List.set_cons_succ]
    refine wpAnyL_take 5 rfl (by kernel_rfl) (by kernel_rfl) (by kernel_rfl) (by kernel_rfl) (fun _ _ _ h => h) (by rfl) (by intro w' hS'; obtain ⟨x1, x2⟩ := hS'; go_simp <;> rfl) yS ?_
    try simp only [Act.put, List.setIfInBounds_toArray, List.set_cons_zero, List.set_cons_succ]
    refine wpAnyL_take 6 rfl (by kernel_rfl) (by kernel_rfl) (by kernel_rfl) (by kernel_rfl) (fun _ _ _ h => h) (by rfl) (by intro w' hS'; obtain ⟨x1, x2⟩ := hS'; go_simp <;> rfl) yS ?_
    try simp only [Act.put, List.setIfInBounds_toArray, List.set_cons_zero, List.set_cons_succ]
    refine wpAnyL_take 7 rfl (by kernel_rfl) (by kernel_rfl) (by kernel_rfl) (by kernel_rfl) (fun _ _ _ h => h) (by rfl) (by intro w' hS'; obtain ⟨x1, x2⟩ := hS'; go_simp <;> rfl) yS ?_
    try simp only [Act.put, List.setIfInBounds_toArray, List.set_cons_zero, List.set_cons_succ]
    refine wpAnyL_take 8 rfl (by kernel_rfl) (by kernel_rfl) (by kernel_rfl) (by kernel_rfl) (fun _ _ _ h => h) (by rfl) (by intro w' hS'; obtain ⟨x1, x2⟩ := hS'; go_simp <;> rfl) yS ?_
    try simp only [Act.put, List.setIfInBounds_toArray, List.set_cons_zero, List.set_cons_succ]
    refine wpAnyL_take 9 rfl (by kernel_rfl) (by kernel_rfl) (by kernel_rfl) (by kernel_rfl) (fun _ _ _ h => h) (by rfl) (by intro w' hS'; obtain ⟨x1, x2⟩ := hS'; go_simp <;> rfl) yS ?_
    try simp only [Act.put, List.setIfInBounds_toArray, List.set_cons_zero, List.set_cons_succ]
    refine wpAnyL_take 10 rfl (by kernel_rfl) (by kernel_rfl) (by kernel_rfl) (by kernel_rfl) (fun _ _ _ h => h) (by rfl) (by intro w' hS'; obtain ⟨x1, x2⟩ := hS'; go_simp <;> rfl) yS ?_
    try simp only [Act.put, List.setIfInBounds_toArray, List.set_cons_zero, List.set_cons_succ]
    refine wpAnyL_one 11 (by kernel_rfl) rfl (by rfl) ?_
    intro K' hK'
    go_simp
    go_at_call 37
    refine kd1.mono ?_
    rintro e w5 ⟨va, vn, vc, rfl, yS5, z5, hA⟩
    refine hK'.out _ _ (.inr yS5) ?_
    clear hK' K' yS y0 kd1
    try simp only [Act.put, List.setIfInBounds_toArray, List.set_cons_zero, List.set_cons_succ]
    refine wpAnyL_one 12 (by kernel_rfl) rfl (by rfl) ?_
    intro K' hK'
    go_simp
    refine hK'.out _ _ (.inr yS5) ?_
    clear hK' K'
    try simp only [Act.put, List.setIfInBounds_toArray, List.set_cons_zero, List.set_cons_succ]
    refine wpAnyL_one 13 (by kernel_rfl) rfl (by rfl) ?_
    intro K' hK'
    go_simp
    refine hK'.out _ _ (.inr yS5) ?_
    clear hK' K'
    try simp only [Act.put, List.setIfInBounds_toArray, List.set_cons_zero, List.set_cons_succ]
    refine wpAnyL_one 14 (by kernel_rfl) rfl (by rfl) ?_
    intro K' hK'
    have z4 := yS5.2
    go_simp
    refine hK'.out _ _ (.inl (by simp)) ?_
    clear hK' K' z4 yS5 z5
    refine wpAnyL_done (by kernel_rfl) (NoPanic.normal ?_) _
    refine gen_world ?_
    intro W6 hW6
    rw [← hW6] at hA
    clear hW6
    have hW6 := hA.out.at_
    have hD6 := hA.out.disk
    have hK6 := hA.out.kept
    have hKD : Hid (W6.heap[D]? = some (.deferred (some []))) := hA.out.def_
    have hbx6 := hA.out.box
    have hs6 := hA.out.size
    have hT6 : Tb W6 := hT.below (n := 2) ⟨hK6.os, hK6.tape, hK6.output, hK6.size, fun b hb' => hK6.block b (by have := hT.two; omega) (fun h => by have := hU2 b h; omega)⟩ (Nat.le_refl _)
    clear hA
    obtain ⟨m, hm⟩ : ∃ m, k = m + 1 := ⟨k - 1, by omega⟩
    have hkl' : (sg.take k).length = k := by rw [List.length_take, ← hN.out]; omega
    have hs := List.getElem?_eq_getElem (show m < (sg.take k).length by omega)
    have hsb := hbd (sg.take k)[m] (List.mem_of_mem_take (List.getElem_mem _))
    have hlf : leaveF (sg.take k) F2 = (dCut F2 (segName (sg.take k)[m].num) (sz (sg.take k)[m].recs : Int)).1 := by
      unfold leaveF
      rw [List.getLast?_eq_getElem?, show (sg.take k).length - 1 = m by omega, hs]
    generalize (sg.take k)[m] = s at *
    obtain ⟨g', cap', pv, e, -, -, ⟨pa, pn, pc, rfl⟩, hLK⟩ := last_k (fs := F2) hT6 hW6 (by omega) (hkl'.trans hm) hs hsb.1 hsb.2
    rw [hkl'] at e hLK
    have hcl : ∀ W', Below W6.heap.size W6 W' → W'.cell? ⟨w.heap.size, 0, none⟩ = some (.pointer (some ⟨q, 0, none⟩)) ∧ W'.cell? ⟨q, 0, none⟩ = some (.pointer (some ⟨dq, 0, none⟩)) ∧ W'.cell? ⟨q, 1, none⟩ = some (.slice (some ⟨g', 0, none⟩) k cap') ∧ W'.cell? ⟨g', m * 2, none⟩ = some (.int .i64 (s.num : Int)) ∧ W'.cell? ⟨g', m * 2 + 1, none⟩ = some (.slice pa pn pc) := fun W' hb => by
      have e1 := (hb.block w.heap.size (Array.getElem?_eq_some_iff.1 hbx6).1).trans hbx6
      exact ⟨by rw [cells_of_block e1]; rfl, hLK.cells W' hb⟩
    have hgm' : (σ g').1 ≠ 0 := by rw [hW6.segs.row g' (by rw [e]; rfl)]; simp
    have hqm : (σ q).1 ≠ 0 := by rw [hW6.mark]; simp
    have kc : ∀ W', Below W6.heap.size W6 W' → Calls Tryz.prog 66 #[.pointer (some ⟨dq, 0, none⟩), .string (segName s.num), .int .i64 (sz s.recs : Int)] W' fun e w' => (∃ c : Int, e = .returned (.int .i64 c)) ∧ (w'.cell? ⟨w.heap.size, 0, none⟩ = some (.pointer (some ⟨q, 0, none⟩)) ∧ w'.cell? ⟨q, 0, none⟩ = some (.pointer (some ⟨dq, 0, none⟩)) ∧ w'.cell? ⟨q, 1, none⟩ = some (.slice (some ⟨g', 0, none⟩) k cap') ∧ w'.cell? ⟨g', m * 2, none⟩ = some (.int .i64 (s.num : Int)) ∧ w'.cell? ⟨g', m * 2 + 1, none⟩ = some (.slice pa pn pc)) ∧ Hid (w'.heap[D]? = some (.deferred (some [])) ∧ LgN U w (.pointer (some ⟨q, 0, none⟩)) (.pointer (some ⟨dq, 0, none⟩)) (sg.take k) (leaveF (sg.take k) F2) (w'.putObj D (.deferred none))) := fun W' hb => by
      refine (diskOf.cut (segName s.num) (sz s.recs : Int) (segName_max _) (diskOf.below hD6 hb)).mono ?_
      rintro e w' ⟨he, S', hD', hst, hk⟩
      have hcw := hcl W' hb
      have hD6l := (Array.getElem?_eq_some_iff.1 hKD.out).1
      have hKD' : w'.heap[D]? = some (.deferred (some [])) := (hk.block D (by have := hb.size; omega) (hnS D (by omega))).trans ((hb.block D hD6l).trans hKD.out)
      refine ⟨⟨_, he⟩, ⟨hk.cell hcw.1 (hnS _ (Nat.le_refl _)), hk.cell hcw.2.1 (fun h => hqm (hS q h)), hk.cell hcw.2.2.1 (fun h => hqm (hS q h)), hk.cell hcw.2.2.2.1 (fun h => hgm' (hS g' h)), hk.cell hcw.2.2.2.2 (fun h => hgm' (hS g' h))⟩, hKD', ?_⟩
      have hg := grownBy_putObj' w' D (.deferred none)
      have hsz' := hk.size
      have hszb := hb.size
      have hnew : ∀ b, S' b → S b ∨ W'.heap.size ≤ b := fun b hb' => (hst b hb').imp id id
      have hDS : ¬ S' D := fun h => (hnew D h).elim (hnS D (by omega)) (fun h => by omega)
      have hWf : WalAt σ (w'.putObj D (.deferred none)) q (.pointer (some ⟨dq, 0, none⟩)) _ (sg.take k) := hW6.same (w' := w'.putObj D (.deferred none)) (fun b hb' => by
        have hbl := hσl b hb'
        have hbw := hW6.segs.lt b hb'
        rw [hg.block b (by omega) (fun e => by cases e; omega), hk.block b (by omega) (fun h => hb' (hS b h)), hb.block b hbw]) (fun _ _ => rfl) (fun b hb' => Nat.lt_of_lt_of_le (hW6.segs.lt b hb') (by have := hg.size; omega))
      refine ⟨fun b => S' b ∨ (σ b).1 ≠ 0, ⟨S', σ, q, _, rfl, ?_, hWf, fun b hb' => ?_, fun b => Iff.rfl⟩, fun b hb' => ?_, ?_⟩
      · rw [hlf]
        refine diskOf.kept hD' hg.size fun b hb' => hg.block b (diskOf.lt hD' b hb') (fun e => ?_)
        cases e
        exact hDS hb'
      · rcases hnew b hb' with h | h
        · exact hS b h
        · by_cases h0 : (σ b).1 = 0
          · exact h0
          · have := hW6.segs.lt b h0
            omega
      · rcases hb' with hb' | hb'
        · rcases hnew b hb' with h | h
          · exact .inl ((hU b).2 (.inl h))
          · exact .inr (by have := hK6.size; omega)
        · exact .inl ((hU b).2 (.inr hb'))
      · refine ⟨hg.os.trans (hk.os.trans (hb.os.trans hK6.os)), hg.tape.trans (hk.tape.trans (hb.tape.trans hK6.tape)), hg.output.trans (hk.output.trans (hb.output.trans hK6.output)), by have := hg.size; have := hK6.size; omega, fun b hb' hns => ?_⟩
        rw [hg.block b (by have := hK6.size; omega) (fun e => by cases e; omega), hk.block b (by have := hK6.size; omega) (fun h => hns ((hU b).2 (.inl h))), hb.block b (by have := hK6.size; omega), hK6.block b hb' hns]
    have hd6 : Below W6.heap.size W6 W6.drew := (Below.refl _ _).drew
    obtain ⟨-, kend, kname, ksize⟩ := hLK
    have y0 := hcl _ hd6
    have hn0i : (0 : Int) < (k : Int) := by omega
    have hn0n : 0 < k := by omega
    obtain ⟨Z, hZ⟩ : ∃ Z, Z = sz s.recs := ⟨_, rfl⟩
    rw [← hZ] at ksize kc
    clear e hW6 hD6 hK6 hbx6 hgm' hqm hSl hnS hZ hlf hT hT6 hTW hS hU hU2 hs hsb hbd hKw hK hσl
    go_wp2
    go_region_held3 (fun w' => w'.cell? ⟨w.heap.size, 0, none⟩ = some (.pointer (some ⟨q, 0, none⟩)) ∧ w'.cell? ⟨q, 0, none⟩ = some (.pointer (some ⟨dq, 0, none⟩)) ∧ w'.cell? ⟨q, 1, none⟩ = some (.slice (some ⟨g', 0, none⟩) k cap') ∧ w'.cell? ⟨g', m * 2, none⟩ = some (.int .i64 (s.num : Int)) ∧ w'.cell? ⟨g', m * 2 + 1, none⟩ = some (.slice pa pn pc))
      (first | exact y0 | exact y9 | exact hcl _ t4 | exact hcl _ t3 | exact hcl _ t2 | exact hcl _ t1 | go_keep)
      (first
        | (go_at_call 27; first | (refine (kend _ t2).mono ?_; rintro e v3 ⟨rfl, t3⟩) | (refine (kend _ hd6).mono ?_; rintro e v1 ⟨rfl, t1⟩))
        | (go_at_call 28; refine (kname _ t1).mono ?_; rintro e v2 ⟨rfl, t2⟩)
        | (go_at_call 60; refine (ksize _ t3).mono ?_; rintro e v4 ⟨rfl, t4⟩)
        | (go_at_call 66; refine (kc _ t4).mono ?_; rintro e v9 ⟨⟨cc, rfl⟩, y9, hfin⟩))
    clear hcl kc kend kname ksize
    go_wp2
    refine ⟨by simp, .inl ⟨_, _, rfl, run_takeDeferred hfin.out.1, ?_⟩⟩
    refine ⟨_, results_none rfl _ _ _, rfl, ?_⟩
    rw [← hF2.out]
    exact hfin.out.2
  case stop =>
    rintro D c pre W _ _ h _
    exact h.elim
end Go.Proofs.YtgfoogeiancecaaGreatDoor

