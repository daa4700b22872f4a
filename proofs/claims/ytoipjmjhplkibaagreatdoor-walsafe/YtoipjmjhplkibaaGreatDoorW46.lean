import Derived.Test.YtoipjmjhplkibaaGreatDoorW41
import Derived.Test.YtoipjmjhplkibaaGreatDoorW42
import Derived.Test.YtoipjmjhplkibaaGreatDoorW43
import Derived.Test.YtoipjmjhplkibaaGreatDoorW44
import Derived.Test.YtoipjmjhplkibaaGreatDoorW45
/- The contract of a log's leave where segments behind the first ones are removed, from the last on. -/
namespace Go.Proofs.YtoipjmjhplkibaaGreatDoor
open Go.RowKit Go.Shelf WalMath DiskMath
attribute [local go_sem] Oper.semAt_some
set_option maxRecDepth 100000
set_option linter.unusedSimpArgs false
set_option linter.unusedVariables false

/-- What is left where these segments' files are removed, one behind the other. -/
def rmN (ns : List Nat) (fs : Files) : Files := ns.foldl (fun fs n => (dRemove fs (segName n)).1) fs
theorem rmN_snoc (ns : List Nat) (n : Nat) (fs : Files) : rmN (ns ++ [n]) fs = (dRemove (rmN ns fs) (segName n)).1 := by simp [rmN]

/-- A segment's cells, its number within a name's reach. -/
abbrev Zn := { y : Nat × Option Addr × Nat × Nat // y.1 < 100000000 }
/-- The segments of a row's end, as the row has them. -/
theorem end_list {σ : Wm} {w : World} {g cap : Nat} {sg : List Seg} (h : SegsAt σ w (.slice (some ⟨g, 0, none⟩) sg.length cap) sg) (hbd : ∀ s ∈ sg, s.num < 100000000) (k : Nat) (hk : k < sg.length) : ∃ zs : List Zn, zs.length = sg.length - k ∧ zs.map (fun y => y.1.1) = (sg.drop k).map Seg.num ∧ ∀ j, (h : j < zs.length) → w.cell? ⟨g, k * 2 + j * 2, none⟩ = some (.int .i64 (zs[j].1.1 : Int)) ∧ w.cell? ⟨g, k * 2 + j * 2 + 1, none⟩ = some (.slice zs[j].1.2.1 zs[j].1.2.2.1 zs[j].1.2.2.2) := by
  obtain ⟨g', cap', e, -, -, -, -, -, hat⟩ := h.cells (by intro e; rw [e] at hk; simp at hk)
  cases e
  have each : ∀ j, j < sg.length - k → ∃ z : Zn, (sg[k + j]?).map Seg.num = some z.1.1 ∧ w.cell? ⟨g, k * 2 + j * 2, none⟩ = some (.int .i64 (z.1.1 : Int)) ∧ w.cell? ⟨g, k * 2 + j * 2 + 1, none⟩ = some (.slice z.1.2.1 z.1.2.2.1 z.1.2.2.2) := by
    intro j hj
    have hs : sg[k + j]? = some sg[k + j] := List.getElem?_eq_getElem (by omega)
    obtain ⟨v, c1, c2, c3, -⟩ := hat (k + j) _ hs
    obtain ⟨a, c, hv, -⟩ := c3.shape
    refine ⟨⟨(sg[k + j].num, a, (pl2 (plc 0 sg[k + j].recs)).length, c), hbd _ (List.getElem_mem _)⟩, by rw [hs]; rfl, ?_, ?_⟩
    · rw [show k * 2 + j * 2 = (k + j) * 2 by omega]; exact c1
    · rw [show k * 2 + j * 2 + 1 = (k + j) * 2 + 1 by omega, c2, hv]
  haveI : Inhabited Zn := ⟨⟨(0, none, 0, 0), by decide⟩⟩
  obtain ⟨Q, hQ⟩ := Deep.choose_lt (α := Zn) each
  refine ⟨(List.range (sg.length - k)).map Q, by simp, ?_, fun j hj => ?_⟩
  · apply List.ext_getElem?
    intro j
    by_cases hj : j < sg.length - k
    · have h1 := (hQ j hj).1
      rw [List.getElem?_eq_getElem (show k + j < sg.length by omega)] at h1
      simp [hj]
      exact (Option.some.inj h1).symm
    · have h2 : (sg.drop k).length ≤ j := by simp; omega
      simp [List.getElem?_eq_none h2, hj]
  · have hj' : j < sg.length - k := by simpa using hj
    have := (hQ j hj').2
    simpa using this

theorem Tb.outside {S : Nat → Prop} {w W0 W : World} (h : Tb w) (hb : Below w.heap.size w W0) (hk : Kept S W0 W) (h0 : ¬ S 0) (h1 : ¬ S 1) : Tb W := by
  have h2 := h.two
  have hs := hb.size
  refine h.below (n := 2) ⟨hk.os.trans hb.os, hk.tape.trans hb.tape, hk.output.trans hb.output, Nat.le_trans hs hk.size, fun b hb' => ?_⟩ (Nat.le_refl _)
  have hns : ¬ S b := by
    have : b = 0 ∨ b = 1 := by omega
    rcases this with rfl | rfl
    · exact h0
    · exact h1
  exact (hk.block b (by omega) hns).trans (hb.block b (by omega))

/-- What the row's cutting leaves. -/
structure AfterDel (U S : Nat → Prop) (σ : Wm) (w W : World) (D q : Nat) (d : Value) (sg : List Seg) (k : Nat) (fs : Files) (v : Value) (W6 : World) : Prop where
  at_ : WalAt σ W6 q d v (sg.take k)
  disk : Dk S W6 d fs
  kept : Kept U w W6
  size : W.heap.size ≤ W6.heap.size
  def_ : W6.heap[D]? = some (.deferred (some []))
  box : W6.heap[w.heap.size]? = some (.cells #[.pointer (some ⟨q, 0, none⟩)] 25 (0, 0))

theorem del_state {U S : Nat → Prop} {σ : Wm} {w W0 W W' : World} {D q g cap k : Nat} {d : Value} {sg : List Seg} {fs : Files} (hW : WalAt σ W q d (.slice (some ⟨g, 0, none⟩) sg.length cap) sg) (hD : Dk S W d fs) (hS : ∀ b, S b → (σ b).1 = 0) (hb : Below W.heap.size W W') (hk : k < sg.length) (hlen : sg.length ≤ 1000)
    (hσl : ∀ b, (σ b).1 ≠ 0 → b < w.heap.size) (hgl : g < w.heap.size) (hql : q < w.heap.size) (hs0 : w.heap.size ≤ W0.heap.size) (hs1 : W0.heap.size ≤ W.heap.size) (hKw : Kept U w W) (hU : ∀ b, U b ↔ S b ∨ (σ b).1 ≠ 0) (hK : W.heap[D]? = some (.deferred (some []))) (hDD : W0.heap.size ≤ D) (hsW : W0.heap.size = w.heap.size + 2) (hbox : W.heap[w.heap.size]? = some (.cells #[.pointer (some ⟨q, 0, none⟩)] 25 (0, 0))) :
    Calls Tryz.prog 48 #[.slice (some ⟨g, 0, none⟩) sg.length cap, .int .i64 (k : Int), .int .i64 (sg.length : Int)] W' fun e w5 => ∃ a n c, e = .returned (.slice a n c) ∧ (w5.cell? ⟨w.heap.size, 0, none⟩ = some (.pointer (some ⟨q, 0, none⟩)) ∧ w5.cell? ⟨q, 1, none⟩ = some (.slice (some ⟨g, 0, none⟩) sg.length cap)) ∧ w5.frozen? ⟨q, 1, none⟩ = false ∧ Hid (AfterDel U S σ w W D q d sg k fs (.slice a n c) (w5.setCell ⟨q, 1, none⟩ (.slice a n c))) := by
  have hW' := hW.below hb
  obtain ⟨vs, hv, hR, hat⟩ := hW'.segs.ex
  have hxl := sg2_length hv
  have kdel := delete_from W' (.slice (some ⟨g, 0, none⟩) sg.length cap) (sg2 sg vs) k hR (by omega) (by omega)
  rw [hxl] at kdel
  refine kdel.mono ?_
  rintro e w5 ⟨v', rfl, hR5, hg5, how⟩
  obtain ⟨a, c, rfl, -, -⟩ := hR5.shape
  have hgm : σ g = (2, 0) := hW.segs.row g rfl
  have hqg : q ≠ g := fun e => by have := hW.mark; rw [e, hgm] at this; cases this
  have h5 : ∀ b, b < W.heap.size → b ≠ g → w5.heap[b]? = W.heap[b]? := fun b hb' hne => (hg5.block b (Nat.lt_of_lt_of_le hb' hb.size) (fun e => hne (Option.some.inj e))).trans (hb.block b hb')
  have hq5 := (h5 q (by omega) hqg).trans hW.block
  have hbx5 := (h5 w.heap.size (by omega) (by omega)).trans hbox
  refine ⟨a, _, c, rfl, ⟨by rw [cells_of_block hbx5]; rfl, by rw [cells_of_block hq5]; rfl⟩, frozen_of hq5 1, ?_⟩
  have hsz5 : W.heap.size ≤ w5.heap.size := Nat.le_trans hb.size hg5.size
  have h6 : ∀ b v, b ≠ q → (w5.setCell ⟨q, 1, none⟩ v).heap[b]? = w5.heap[b]? := fun b v hne => set_same 1 _ hne
  have h6s : ∀ v, (w5.setCell ⟨q, 1, none⟩ v).heap.size = w5.heap.size := fun v => by simp [World.setCell]
  have hDl : D < W.heap.size := (Array.getElem?_eq_some_iff.1 hK).1
  generalize hV : Value.slice a _ c = V at *
  have hne : ∀ b, w.heap.size ≤ b → b ≠ g ∧ b ≠ q := fun b hb' => ⟨by omega, by omega⟩
  refine ⟨⟨seg_set hq5 V, ⟨⟨vs.take k, by simp [hv], ?_, fun i s v hi hv' => ?_⟩, fun b hb' => ?_, fun b hb' => ?_⟩, hW.mark⟩, ?_, ?_, ?_, ?_, ?_⟩
  · rw [← sg2_take]
    exact hR5.same fun b hb' => h6 b _ fun e => hqg (by rw [how] at hb'; rw [← e]; exact (Option.some.inj hb').symm)
  · have hik : i < k := by
      have := (List.getElem?_eq_some_iff.1 hi).1
      rw [List.length_take] at this
      omega
    rw [List.getElem?_take_of_lt hik] at hi hv'
    obtain ⟨g1, g2⟩ := hat i s v hi hv'
    refine ⟨g1.same fun b hb' => ?_, g2⟩
    have hm := g2 b hb'
    have hbq : b ≠ q := fun e => by rw [e, hW.mark] at hm; cases hm
    have hbg : b ≠ g := fun e => by rw [e, hgm] at hm; cases hm
    rw [h6 b _ hbq]
    exact hg5.block b (g1.lt hb') (fun e => hbg (Option.some.inj e))
  · rw [how] at hb'
    rw [← Option.some.inj hb']
    exact hgm
  · rw [h6s]
    have := hσl b hb'
    omega
  · refine diskOf.kept hD (by rw [h6s]; exact hsz5) fun b hb' => ?_
    have hm := hS b hb'
    rw [h6 b _ (fun e => by rw [e, hW.mark] at hm; cases hm)]
    exact h5 b (diskOf.lt hD b hb') (fun e => by rw [e, hgm] at hm; cases hm)
  · refine ⟨hg5.os.trans (hb.os.trans hKw.os), hg5.tape.trans (hb.tape.trans hKw.tape), hg5.output.trans (hb.output.trans hKw.output), by rw [h6s]; omega, fun b hb' hns => ?_⟩
    have hm : (σ b).1 = 0 := by
      by_cases h0 : (σ b).1 = 0
      · exact h0
      · exact absurd ((hU b).2 (.inr h0)) hns
    rw [h6 b _ (fun e => by rw [e, hW.mark] at hm; cases hm), h5 b (by omega) (fun e => by rw [e, hgm] at hm; cases hm)]
    exact hKw.block b hb' hns
  · rw [h6s]
    exact hsz5
  · rw [h6 D _ (hne D (by omega)).2, h5 D hDl (hne D (by omega)).1]
    exact hK
  · rw [h6 _ _ (hne _ (Nat.le_refl _)).2]
    exact hbx5

set_option maxHeartbeats 4000000 in
theorem leave_from {U : Nat → Prop} {w : World} {v d : Value} {sg : List Seg} {fs : Files} (k : Nat) (hT : Tb w) (hL : Lg U w v d sg fs) (hU2 : ∀ b, U b → 2 ≤ b) (hk0 : 0 < k) (hkl : k < sg.length) (hlen : sg.length ≤ 1000) (hbd : ∀ s ∈ sg, s.num < 100000000 ∧ s.recs.length ≤ 100000) :
    Calls Tryz.prog 43 #[v, .int .i64 (k : Int)] w fun e w' => e = .returned (.tuple #[]) ∧ LgN U w v d (sg.take k) (leaveF (sg.take k) (rmN ((sg.drop k).map Seg.num).reverse fs)) w' := by
  obtain ⟨S, σ, q, sv, rfl, hD, hW, hS, hU⟩ := hL.ex
  obtain ⟨dq, rfl⟩ := hD.shape
  refine (callsIn_wide (n := 6)).1 ?_
  refine callsIn_of_wp_marks Tryz.func43 rfl trivial ?_ rfl
  refine wpIn_wide.2 ?_
  simp only [Tryz.ntmps43, List.size_toArray, List.length_cons, List.length_nil, Nat.reduceAdd, Nat.reduceSub, Array.replicate_succ, Array.replicate_zero, List.push_toArray, List.append_toArray, List.nil_append, List.cons_append]
  have hq := hW.block
  have hql := (Array.getElem?_eq_some_iff.1 hq).1
  have hb0 : Below w.heap.size w (w.alloc (.cells #[.pointer (some ⟨q, 0, none⟩)] 25)) := (Below.refl _ _).alloc (Nat.le_refl _) _
  have hs0 : (w.alloc (.cells #[.pointer (some ⟨q, 0, none⟩)] 25)).heap.size = w.heap.size + 1 := by simp
  have hbx0 := heap_alloc_new w (.cells #[.pointer (some ⟨q, 0, none⟩)] 25)
  have c1 : (w.alloc (.cells #[.pointer (some ⟨q, 0, none⟩)] 25)).cell? ⟨q, 1, none⟩ = some sv := (hb0.cell (p := ⟨q, 1, none⟩) hql).trans (by rw [cells_of_block hq]; rfl)
  obtain ⟨g, cap, rfl, h1, h2, hgm, hgl, -, -⟩ := hW.segs.cells (by intro e; rw [e] at hkl; simp at hkl)
  obtain ⟨zs, hzl, hzn, hzc⟩ := end_list hW.segs (fun s hs => (hbd s hs).1) k hkl
  obtain ⟨N, hN⟩ : ∃ N, Hid (N = sg.length) := ⟨_, rfl⟩
  rw [← hN.out] at h1 c1 hkl hlen hzl
  have hni : (N : Int) ≤ (cap : Int) := by omega
  have hcm : (cap : Int) ≤ 9223372036854775807 := by unfold maxLen at h2; omega
  have hkn : (k : Int) ≤ (N : Int) := by omega
  have hkn0 : ¬ (k : Int) < 0 := by omega
  have hck : ¬ cap = k := by omega
  go_wp2_with (go_at_call 35; refine (callsIn_wide.1 (back_in Fence.wide 6 trivial rfl _ _ _ _)).mono ?_; rintro e w' ⟨rfl, rfl⟩)
  have hbW : Below w.heap.size w ((w.alloc (.cells #[.pointer (some ⟨q, 0, none⟩)] 25)).alloc (.cells #[.slice (some ⟨g, k * 2, none⟩) (N - k) (cap - k)] 73)) := hb0.alloc hb0.size _
  have hsW : ((w.alloc (.cells #[.pointer (some ⟨q, 0, none⟩)] 25)).alloc (.cells #[.slice (some ⟨g, k * 2, none⟩) (N - k) (cap - k)] 73)).heap.size = w.heap.size + 2 := by simp
  have hbkW := heap_alloc_new (w.alloc (.cells #[.pointer (some ⟨q, 0, none⟩)] 25)) (.cells #[.slice (some ⟨g, k * 2, none⟩) (N - k) (cap - k)] 73)
  rw [hs0] at hbkW
  have hbxW : ((w.alloc (.cells #[.pointer (some ⟨q, 0, none⟩)] 25)).alloc (.cells #[.slice (some ⟨g, k * 2, none⟩) (N - k) (cap - k)] 73)).heap[w.heap.size]? = _ := (Below.heap_alloc _ _ _ (by simp)).trans hbx0
  obtain ⟨W0, hW0⟩ : ∃ W0, (w.alloc (.cells #[.pointer (some ⟨q, 0, none⟩)] 25)).alloc (.cells #[.slice (some ⟨g, k * 2, none⟩) (N - k) (cap - k)] 73) = W0 := ⟨_, rfl⟩
  rw [hW0] at hsW hbW hbkW hbxW ⊢
  clear hW0
  have hcW : W0.cell? ⟨w.heap.size + 1, 0, none⟩ = some (.slice (some ⟨g, k * 2, none⟩) (N - k) (cap - k)) := by rw [cells_of_block hbkW]; rfl
  have hSl : ∀ b, S b → b < w.heap.size := diskOf.lt hD
  have hD0 := diskOf.below hD hbW
  have hzl6 : zs.length ≤ 1000000 := by omega
  rw [← hzl] at hcW
  refine (wpIn_wide (n := 6)).1 ?_
  refine wpIn_rangeFunc_ownH (α := Int × Zn) rfl (by omega) (gf := 87) (lb := #[.pointer (some ⟨w.heap.size + 1, 0, none⟩)]) rfl trivial (enters_of Tryz.func87 (by kernel_rfl) rfl)
    (back_stopsR (fun y : Zn => y.1) Fence.wide _ trivial rfl (by omega) (w.heap.size + 1) g (k * 2) (cap - k) zs hzl6 W0 (by omega) (by omega) hcW (fun j hj => ⟨(hbW.cell (p := ⟨g, k * 2 + j * 2, none⟩) hgl).trans (hzc j hj).1, (hbW.cell (p := ⟨g, k * 2 + j * 2 + 1, none⟩) hgl).trans (hzc j hj).2⟩)) KeepR.trans (KeepR.put (by omega) (by omega)) (Below.refl _ _) (fun _ => rfl)
    (fun pre W => Dk S W (.pointer (some ⟨dq, 0, none⟩)) (rmN (pre.map fun y => y.2.1.1) fs) ∧ Kept S W0 W)
    (fun _ _ _ => False)
    (fun s A B row hs hg hr => ⟨diskOf.kept hs.1 hg.size fun b hb => hg.block b (diskOf.lt hs.1 b hb) (fun e => by have := (hr b e.symm).1; have := hSl b hb; omega), hg.os.trans hs.2.os, hg.tape.trans hs.2.tape, hg.output.trans hs.2.output, Nat.le_trans hs.2.size hg.size, fun b hb hns => (hg.block b (Nat.lt_of_lt_of_le hb hs.2.size) (fun e => by have := (hr b e.symm).1; omega)).trans (hs.2.block b hb hns)⟩)
    (fun _ _ _ _ _ hs _ _ => hs)
    ⟨hD0, Kept.refl _ _⟩
    (fun x a' W => ∃ Bx, W0.heap.size ≤ Bx ∧ W.heap[Bx]? = some (.cells #[.int .i64 (x.2.1.1 : Int), .slice x.2.1.2.1 x.2.1.2.2.1 x.2.1.2.2.2] 81 (0, 0)) ∧ a' = { tmps := #[.pointer (some ⟨q, 0, none⟩), .int .i64 (k : Int), .pointer (some ⟨w.heap.size, 0, none⟩), undef, undef, .pointer (some ⟨Bx, 0, none⟩), .pointer (some ⟨q, 0, none⟩), .pointer (some ⟨q, 0, none⟩), .pointer (some ⟨q, 1, none⟩), .slice (some ⟨g, 0, none⟩) N cap, .int .i64 (k : Int), .slice (some ⟨g, k * 2, none⟩) (N - k) (cap - k), .func (.func 87) #[] #[.pointer (some ⟨w.heap.size + 1, 0, none⟩)], .int .i64 x.1, .agg #[.int .i64 (x.2.1.1 : Int), .slice x.2.1.2.1 x.2.1.2.2.1 x.2.1.2.2.2], undef, undef, undef, undef, undef, undef, undef, undef, undef, undef, undef, undef, undef, undef, undef, undef, undef, undef, undef, undef, undef, undef, undef, undef, undef, undef, undef, undef, undef, undef, undef, undef, undef, undef, undef, undef, undef, undef], defers := [] })
    (fun x a' _ X Y row hs hg hr => by
      obtain ⟨Bx, h1, h2, h3⟩ := hs
      exact ⟨Bx, h1, (hg.block Bx (Array.getElem?_eq_some_iff.1 h2).1 (fun e => by
        obtain ⟨o, ho, hc⟩ := (hr Bx e.symm).2
        rw [h2] at ho; cases ho; cases hc)).trans h2, h3⟩)
    ?assign ?body ?done ?stop
  case assign =>
    rintro l pre x W K ⟨hI1, hI2⟩ hK
    dsimp only [encS]
    gi_wp2
    have hb2 : Below W.heap.size W (W.alloc (.cells #[.int .i64 (x.2.1.1 : Int), .slice x.2.1.2.1 x.2.1.2.2.1 x.2.1.2.2.2] 81)) := (Below.refl _ W).alloc (Nat.le_refl _) _
    have hsz := hI2.size
    exact hK _ _ ((KeepsOthers.alloc _ _).from _) ⟨hb2.block _ (by omega), hb2.block _ (by omega)⟩ ⟨diskOf.below hI1 hb2, hI2.trans (fun _ h => .inl h) (Below.kept hb2)⟩ ⟨W.heap.size, hsz, World.alloc_heap_new W _, rfl⟩
  case body =>
    rintro l pre x a' W hl ⟨r, hr⟩ ⟨hI1, hI2⟩ ⟨Bx, hBx, bX, rfl⟩ hlt
    have hnS : ∀ b, w.heap.size ≤ b → ¬ S b := fun b hb hs' => by have := hSl b hs'; omega
    have hszW := hI2.size
    have hbxw : W.heap[w.heap.size]? = some (.cells #[.pointer (some ⟨q, 0, none⟩)] 25 (0, 0)) := (hI2.block _ (by omega) (hnS _ (Nat.le_refl _))).trans hbxW
    have hqS : ¬ S q := fun h => by have := hS q h; rw [hW.mark] at this; cases this
    have hqw : W.heap[q]? = _ := (hI2.block q (by omega) hqS).trans ((hbW.block q hql).trans hq)
    have hgS : ¬ S g := fun h => by have := hS g h; rw [hgm] at this; cases this
    have hBxl := (Array.getElem?_eq_some_iff.1 bX).1
    have hTW : Tb W := hT.outside hbW hI2 (fun h => by have := hU2 0 ((hU 0).2 (.inl h)); omega) (fun h => by have := hU2 1 ((hU 1).2 (.inl h)); omega)
    have hcl : ∀ W', Below W.heap.size W W' → W'.cell? ⟨w.heap.size, 0, none⟩ = some (.pointer (some ⟨q, 0, none⟩)) ∧ W'.cell? ⟨q, 0, none⟩ = some (.pointer (some ⟨dq, 0, none⟩)) ∧ W'.cell? ⟨Bx, 0, none⟩ = some (.int .i64 (x.2.1.1 : Int)) ∧ W'.cell? ⟨Bx, 1, none⟩ = some (.slice x.2.1.2.1 x.2.1.2.2.1 x.2.1.2.2.2) := fun W' hb => by
      have e1 := (hb.block w.heap.size (by omega)).trans hbxw
      have e2 := (hb.block q (by omega)).trans hqw
      have e3 := (hb.block Bx hBxl).trans bX
      exact ⟨by rw [cells_of_block e1]; rfl, by rw [cells_of_block e2]; rfl, by rw [cells_of_block e3]; rfl, by rw [cells_of_block e3]; rfl⟩
    have hd1 : Below W.heap.size W W.drew := (Below.refl _ _).drew
    have kn := sname_of x.2.1.1 (.slice x.2.1.2.1 x.2.1.2.2.1 x.2.1.2.2.2) W.drew (hTW.new hd1) x.2.2
    have kr : ∀ W', Below W.heap.size W W' → Calls Tryz.prog 47 #[.pointer (some ⟨dq, 0, none⟩), .string (segName x.2.1.1)] W' fun e w' => (∃ c : Int, e = .returned (.int .i64 c)) ∧ (w'.cell? ⟨w.heap.size, 0, none⟩ = some (.pointer (some ⟨q, 0, none⟩)) ∧ w'.cell? ⟨q, 0, none⟩ = some (.pointer (some ⟨dq, 0, none⟩)) ∧ w'.cell? ⟨Bx, 0, none⟩ = some (.int .i64 (x.2.1.1 : Int)) ∧ w'.cell? ⟨Bx, 1, none⟩ = some (.slice x.2.1.2.1 x.2.1.2.2.1 x.2.1.2.2.2)) ∧ Hid (KeepsFrom W0.heap.size W w' ∧ KeepR g (w.heap.size + 1) W w' ∧ Dk S w' (.pointer (some ⟨dq, 0, none⟩)) (rmN ((pre ++ [x]).map fun y => y.2.1.1) fs) ∧ Kept S W0 w') := fun W' hb => by
      refine (dremove_same (segName x.2.1.1) (segName_max _) (diskOf.below hI1 hb)).mono ?_
      rintro e w' ⟨he, hD', hk⟩
      have hcw := hcl W' hb
      have hkk : Kept S W w' := (Below.kept hb).trans (fun _ h => .inl h) hk
      refine ⟨⟨_, he⟩, ⟨hk.cell hcw.1 (hnS _ (Nat.le_refl _)), hk.cell hcw.2.1 hqS, hk.cell hcw.2.2.1 (hnS Bx (by omega)), hk.cell hcw.2.2.2 (hnS Bx (by omega))⟩, ⟨hkk.size, fun b o hb' ho _ => (hkk.block b (Array.getElem?_eq_some_iff.1 ho).1 (hnS b (by omega))).trans ho⟩, ⟨hkk.block g (by omega) hgS, hkk.block _ (by omega) (hnS _ (by omega))⟩, ?_, hI2.trans (fun _ h => .inl h) hkk⟩
      rw [List.map_append]
      exact (rmN_snoc _ _ _).symm ▸ hD'
    have y0 := hcl _ hd1
    obtain ⟨z1, z2, z3, z4⟩ := y0
    have hmix : Tryz.prog.follows .mixedOrders = true := by kernel_rfl
    clear hr hlt hI1 hqw hbxw bX hW hD hD0 hL hbW hbkW hbxW hcW hzc hzn hTW hq c1 hb0 hbx0
    gi_wp2
    gi_region_with_o (first
      | (refine ⟨trivial, ?_⟩; gi_at_call 39; refine (CallsIn.inRound l (callsIn_wide.2 kn)).mono ?_; rintro e v1 ⟨rfl, t1'⟩; have t1 := hd1.trans t1'; obtain ⟨z5, z6, z7, z8⟩ := hcl _ t1)
      | (refine ⟨trivial, ?_⟩; gi_at_call 47; refine (CallsIn.inRound l (callsIn_wide.2 (kr _ t1))).mono ?_; rintro e v2 ⟨⟨cc, rfl⟩, ⟨z9, z10, z11, z12⟩, hfin⟩))
    all_goals (clear hcl kr kn hd1; gi_wp2)
    all_goals exact hfin.out
  case done =>
    rintro D ys W hDD hys ⟨hI1, hI2⟩ hK
    have hnS : ∀ b, w.heap.size ≤ b → ¬ S b := fun b hb hs' => by have := hSl b hs'; omega
    have hszW := hI2.size
    have hbox : W.heap[w.heap.size]? = some (.cells #[.pointer (some ⟨q, 0, none⟩)] 25 (0, 0)) := (hI2.block _ (by omega) (hnS _ (Nat.le_refl _))).trans hbxW
    have hW2 : WalAt σ W q (.pointer (some ⟨dq, 0, none⟩)) (.slice (some ⟨g, 0, none⟩) sg.length cap) sg := (hW.below hbW).kept hI2 hS
    have hTW : Tb W := hT.outside hbW hI2 (fun h => by have := hU2 0 ((hU 0).2 (.inl h)); omega) (fun h => by have := hU2 1 ((hU 1).2 (.inl h)); omega)
    have hrm : rmN (ys.map fun y => y.2.1.1) fs = rmN ((sg.drop k).map Seg.num).reverse fs := by
      congr 1
      rw [← hzn, ← List.map_reverse, ← hys, List.map_map]
      rfl
    rw [hrm] at hI1
    obtain ⟨F2, hF2⟩ : ∃ F2, Hid (F2 = rmN ((sg.drop k).map Seg.num).reverse fs) := ⟨_, rfl⟩
    rw [← hF2.out] at hI1
    have hKw : Kept U w W := ⟨hI2.os.trans hbW.os, hI2.tape.trans hbW.tape, hI2.output.trans hbW.output, Nat.le_trans hbW.size hI2.size, fun b hb hns => (hI2.block b (by omega) (fun h => hns ((hU b).2 (.inl h)))).trans (hbW.block b hb)⟩
    have hDl : D < W.heap.size := (Array.getElem?_eq_some_iff.1 hK).1
    have hdW : Below W.heap.size W W.drew := (Below.refl _ _).drew
    have hσl : ∀ b, (σ b).1 ≠ 0 → b < w.heap.size := hW.segs.lt
    have kd : ∀ W', Below W.heap.size W W' → Calls Tryz.prog 48 #[.slice (some ⟨g, 0, none⟩) N cap, .int .i64 (k : Int), .int .i64 (N : Int)] W' fun e w5 => ∃ a n c, e = .returned (.slice a n c) ∧ (w5.cell? ⟨w.heap.size, 0, none⟩ = some (.pointer (some ⟨q, 0, none⟩)) ∧ w5.cell? ⟨q, 1, none⟩ = some (.slice (some ⟨g, 0, none⟩) N cap)) ∧ w5.frozen? ⟨q, 1, none⟩ = false ∧ Hid (AfterDel U S σ w W D q (.pointer (some ⟨dq, 0, none⟩)) sg k F2 (.slice a n c) (w5.setCell ⟨q, 1, none⟩ (.slice a n c))) := fun W' hb => by
      have := del_state (k := k) hW2 hI1 hS hb (by rw [← hN.out]; omega) (by rw [← hN.out]; omega) hσl hgl hql hbW.size hszW hKw hU hK hDD hsW hbox
      rw [← hN.out] at this
      exact this
    have hq2 := hW2.block
    have y0 : W.drew.cell? ⟨w.heap.size, 0, none⟩ = some (.pointer (some ⟨q, 0, none⟩)) ∧ W.drew.cell? ⟨q, 1, none⟩ = some (.slice (some ⟨g, 0, none⟩) N cap) := by
      rw [hN.out]
      have e1 := (hdW.block w.heap.size (by omega)).trans hbox
      have e2 := (hdW.block q (by omega)).trans hq2
      exact ⟨by rw [cells_of_block e1]; rfl, by rw [cells_of_block e2]; rfl⟩
    clear hI1 hI2 hzc hzn hys hrm hcW hbkW hbxW hD0 hbW hb0 c1 hbx0 hs0 hL hD hW hW2 hbox hq hq2
    have kd1 := kd _ hdW
    clear kd
    go_wp2
    refine wp_region_L (fun w' => w'.cell? ⟨w.heap.size, 0, none⟩ = some (.pointer (some ⟨q, 0, none⟩)) ∧ w'.cell? ⟨q, 1, none⟩ = some (.slice (some ⟨g, 0, none⟩) N cap)) [14] (by kernel_rfl) ?_
    have yS : (fun w' : World => w'.cell? ⟨w.heap.size, 0, none⟩ = some (.pointer (some ⟨q, 0, none⟩)) ∧ w'.cell? ⟨q, 1, none⟩ = some (.slice (some ⟨g, 0, none⟩) N cap)) W.drew := y0
    refine wpAnyL_take 0 rfl (by kernel_rfl) (by kernel_rfl) (by kernel_rfl) (by kernel_rfl) (fun _ _ _ h => h) (by rfl) (by intro w' hS'; obtain ⟨x1, x2⟩ := hS'; go_simp <;> rfl) yS ?_
    try simp only [Act.put, List.setIfInBounds_toArray, List.set_cons_zero, List.set_cons_succ]
    refine wpAnyL_take 1 rfl (by kernel_rfl) (by kernel_rfl) (by kernel_rfl) (by kernel_rfl) (fun _ _ _ h => h) (by rfl) (by intro w' hS'; obtain ⟨x1, x2⟩ := hS'; go_simp <;> rfl) yS ?_
    try simp only [Act.put, List.setIfInBounds_toArray, List.set_cons_zero, List.set_cons_succ]
    refine wpAnyL_take 2 rfl (by kernel_rfl) (by kernel_rfl) (by kernel_rfl) (by kernel_rfl) (fun _ _ _ h => h) (by rfl) (by intro w' hS'; obtain ⟨x1, x2⟩ := hS'; go_simp <;> rfl) yS ?_
    try simp only [Act.put, List.setIfInBounds_toArray, List.set_cons_zero, List.set_cons_succ]
    refine wpAnyL_take 3 rfl (by kernel_rfl) (by kernel_rfl) (by kernel_rfl) (by kernel_rfl) (fun _ _ _ h => h) (by rfl) (by intro w' hS'; obtain ⟨x1, x2⟩ := hS'; go_simp <;> rfl) yS ?_
    try simp only [Act.put, List.setIfInBounds_toArray, List.set_cons_zero, List.set_cons_succ]
    refine wpAnyL_take 4 rfl (by kernel_rfl) (by kernel_rfl) (by kernel_rfl) (by kernel_rfl) (fun _ _ _ h => h) (by rfl) (by intro w' hS'; obtain ⟨x1, x2⟩ := hS'; go_simp <;> rfl) yS ?_
    try simp only [Act.put, List.setIfInBounds_toArray, List.set_cons_zero, List.set_cons_succ]
    refine wpAnyL_take 5 rfl (by kernel_rfl) (by kernel_rfl) (by kernel_rfl) (by kernel_rfl) (fun _ _ _ h => h) (by rfl) (by intro w' hS'; obtain ⟨x1, x2⟩ := hS'; go_simp <;> rfl) yS ?_
    try simp only [Act.put, List.setIfInBounds_toArray, List.set_cons_zero, List.set_cons_succ]
    refine wpAnyL_take 6 rfl (by kernel_rfl) (by kernel_rfl) (by kernel_rfl) (by kernel_rfl) (fun _ _ _ h => h) (by rfl) (by intro w' hS'; obtain ⟨x1, x2⟩ := hS'; go_simp <;> rfl) yS ?_
    try simp only [Act.put, List.setIfInBounds_toArray, List.set_cons_zero, List.set_cons_succ]
    refine wpAnyL_take 7 rfl (by kernel_rfl) (by kernel_rfl) (by kernel_rfl) (by kernel_rfl) (fun _ _ _ h => h) (by rfl) (by intro w' hS'; obtain ⟨x1, x2⟩ := hS'; go_simp <;> rfl) yS ?_
    try simp only [Act.put, List.setIfInBounds_toArray, List.set_cons_zero, List.set_cons_succ]
    refine wpAnyL_take 8 rfl (by kernel_rfl) (by kernel_rfl) (by kernel_rfl) (by kernel_rfl) (fun _ _ _ h => h) (by rfl) (by intro w' hS'; obtain ⟨x1, x2⟩ := hS'; go_simp <;> rfl) yS ?_
    try simp only [Act.put, List.setIfInBounds_toArray, List.set_cons_zero, List.set_cons_succ]
    refine wpAnyL_take 9 rfl (by kernel_rfl) (by kernel_rfl) (by kernel_rfl) (by kernel_rfl) (fun _ _ _ h => h) (by rfl) (by intro w' hS'; obtain ⟨x1, x2⟩ := hS'; go_simp <;> rfl) yS ?_
    try simp only [Act.put, List.setIfInBounds_toArray, List.set_cons_zero, List.set_cons_succ]
    refine wpAnyL_take 10 rfl (by kernel_rfl) (by kernel_rfl) (by kernel_rfl) (by kernel_rfl) (fun _ _ _ h => h) (by rfl) (by intro w' hS'; obtain ⟨x1, x2⟩ := hS'; go_simp <;> rfl) yS ?_
    try simp only [Act.put, List.setIfInBounds_toArray, List.set_cons_zero, List.set_cons_succ]
    refine wpAnyL_one 11 (by kernel_rfl) rfl (by rfl) ?_
    intro K' hK'
    go_simp
    go_at_call 48
    refine kd1.mono ?_
    rintro e w5 ⟨va, vn, vc, rfl, yS5, z5, hA⟩
    refine hK'.out _ _ (.inr yS5) ?_
    clear hK' K' yS y0 kd1
    try simp only [Act.put, List.setIfInBounds_toArray, List.set_cons_zero, List.set_cons_succ]
    refine wpAnyL_one 12 (by kernel_rfl) rfl (by rfl) ?_
    intro K' hK'
    go_simp
    refine hK'.out _ _ (.inr yS5) ?_
    clear hK' K'
    try simp only [Act.put, List.setIfInBounds_toArray, List.set_cons_zero, List.set_cons_succ]
    refine wpAnyL_one 13 (by kernel_rfl) rfl (by rfl) ?_
    intro K' hK'
    go_simp
    refine hK'.out _ _ (.inr yS5) ?_
    clear hK' K'
    try simp only [Act.put, List.setIfInBounds_toArray, List.set_cons_zero, List.set_cons_succ]
    refine wpAnyL_one 14 (by kernel_rfl) rfl (by rfl) ?_
    intro K' hK'
    have z4 := yS5.2
    go_simp
    refine hK'.out _ _ (.inl (by simp)) ?_
    clear hK' K' z4 yS5 z5
    refine wpAnyL_done (by kernel_rfl) (NoPanic.normal ?_) _
    refine gen_world ?_
    intro W6 hW6
    rw [← hW6] at hA
    clear hW6
    have hW6 := hA.out.at_
    have hD6 := hA.out.disk
    have hK6 := hA.out.kept
    have hKD : Hid (W6.heap[D]? = some (.deferred (some []))) := hA.out.def_
    have hbx6 := hA.out.box
    have hs6 := hA.out.size
    have hT6 : Tb W6 := hT.below (n := 2) ⟨hK6.os, hK6.tape, hK6.output, hK6.size, fun b hb' => hK6.block b (by have := hT.two; omega) (fun h => by have := hU2 b h; omega)⟩ (Nat.le_refl _)
    clear hA
    obtain ⟨m, hm⟩ : ∃ m, k = m + 1 := ⟨k - 1, by omega⟩
    have hkl' : (sg.take k).length = k := by rw [List.length_take, ← hN.out]; omega
    have hs := List.getElem?_eq_getElem (show m < (sg.take k).length by omega)
    have hsb := hbd (sg.take k)[m] (List.mem_of_mem_take (List.getElem_mem _))
    have hlf : leaveF (sg.take k) F2 = (dCut F2 (segName (sg.take k)[m].num) (sz (sg.take k)[m].recs : Int)).1 := by
      unfold leaveF
      rw [List.getLast?_eq_getElem?, show (sg.take k).length - 1 = m by omega, hs]
    generalize (sg.take k)[m] = s at *
    obtain ⟨g', cap', pv, e, -, -, ⟨pa, pn, pc, rfl⟩, hLK⟩ := last_k (fs := F2) hT6 hW6 (by omega) (hkl'.trans hm) hs hsb.1 hsb.2
    rw [hkl'] at e hLK
    have hcl : ∀ W', Below W6.heap.size W6 W' → W'.cell? ⟨w.heap.size, 0, none⟩ = some (.pointer (some ⟨q, 0, none⟩)) ∧ W'.cell? ⟨q, 0, none⟩ = some (.pointer (some ⟨dq, 0, none⟩)) ∧ W'.cell? ⟨q, 1, none⟩ = some (.slice (some ⟨g', 0, none⟩) k cap') ∧ W'.cell? ⟨g', m * 2, none⟩ = some (.int .i64 (s.num : Int)) ∧ W'.cell? ⟨g', m * 2 + 1, none⟩ = some (.slice pa pn pc) := fun W' hb => by
      have e1 := (hb.block w.heap.size (Array.getElem?_eq_some_iff.1 hbx6).1).trans hbx6
      exact ⟨by rw [cells_of_block e1]; rfl, hLK.cells W' hb⟩
    have hgm' : (σ g').1 ≠ 0 := by rw [hW6.segs.row g' (by rw [e]; rfl)]; simp
    have hqm : (σ q).1 ≠ 0 := by rw [hW6.mark]; simp
    have kc : ∀ W', Below W6.heap.size W6 W' → Calls Tryz.prog 76 #[.pointer (some ⟨dq, 0, none⟩), .string (segName s.num), .int .i64 (sz s.recs : Int)] W' fun e w' => (∃ c : Int, e = .returned (.int .i64 c)) ∧ (w'.cell? ⟨w.heap.size, 0, none⟩ = some (.pointer (some ⟨q, 0, none⟩)) ∧ w'.cell? ⟨q, 0, none⟩ = some (.pointer (some ⟨dq, 0, none⟩)) ∧ w'.cell? ⟨q, 1, none⟩ = some (.slice (some ⟨g', 0, none⟩) k cap') ∧ w'.cell? ⟨g', m * 2, none⟩ = some (.int .i64 (s.num : Int)) ∧ w'.cell? ⟨g', m * 2 + 1, none⟩ = some (.slice pa pn pc)) ∧ Hid (w'.heap[D]? = some (.deferred (some [])) ∧ LgN U w (.pointer (some ⟨q, 0, none⟩)) (.pointer (some ⟨dq, 0, none⟩)) (sg.take k) (leaveF (sg.take k) F2) (w'.putObj D (.deferred none))) := fun W' hb => by
      refine (diskOf.cut (segName s.num) (sz s.recs : Int) (segName_max _) (diskOf.below hD6 hb)).mono ?_
      rintro e w' ⟨he, S', hD', hst, hk⟩
      have hcw := hcl W' hb
      have hD6l := (Array.getElem?_eq_some_iff.1 hKD.out).1
      have hKD' : w'.heap[D]? = some (.deferred (some [])) := (hk.block D (by have := hb.size; omega) (hnS D (by omega))).trans ((hb.block D hD6l).trans hKD.out)
      refine ⟨⟨_, he⟩, ⟨hk.cell hcw.1 (hnS _ (Nat.le_refl _)), hk.cell hcw.2.1 (fun h => hqm (hS q h)), hk.cell hcw.2.2.1 (fun h => hqm (hS q h)), hk.cell hcw.2.2.2.1 (fun h => hgm' (hS g' h)), hk.cell hcw.2.2.2.2 (fun h => hgm' (hS g' h))⟩, hKD', ?_⟩
      have hg := grownBy_putObj' w' D (.deferred none)
      have hsz' := hk.size
      have hszb := hb.size
      have hnew : ∀ b, S' b → S b ∨ W'.heap.size ≤ b := fun b hb' => (hst b hb').imp id id
      have hDS : ¬ S' D := fun h => (hnew D h).elim (hnS D (by omega)) (fun h => by omega)
      have hWf : WalAt σ (w'.putObj D (.deferred none)) q (.pointer (some ⟨dq, 0, none⟩)) _ (sg.take k) := hW6.same (w' := w'.putObj D (.deferred none)) (fun b hb' => by
        have hbl := hσl b hb'
        have hbw := hW6.segs.lt b hb'
        rw [hg.block b (by omega) (fun e => by cases e; omega), hk.block b (by omega) (fun h => hb' (hS b h)), hb.block b hbw]) (fun _ _ => rfl) (fun b hb' => Nat.lt_of_lt_of_le (hW6.segs.lt b hb') (by have := hg.size; omega))
      refine ⟨fun b => S' b ∨ (σ b).1 ≠ 0, ⟨S', σ, q, _, rfl, ?_, hWf, fun b hb' => ?_, fun b => Iff.rfl⟩, fun b hb' => ?_, ?_⟩
      · rw [hlf]
        refine diskOf.kept hD' hg.size fun b hb' => hg.block b (diskOf.lt hD' b hb') (fun e => ?_)
        cases e
        exact hDS hb'
      · rcases hnew b hb' with h | h
        · exact hS b h
        · by_cases h0 : (σ b).1 = 0
          · exact h0
          · have := hW6.segs.lt b h0
            omega
      · rcases hb' with hb' | hb'
        · rcases hnew b hb' with h | h
          · exact .inl ((hU b).2 (.inl h))
          · exact .inr (by have := hK6.size; omega)
        · exact .inl ((hU b).2 (.inr hb'))
      · refine ⟨hg.os.trans (hk.os.trans (hb.os.trans hK6.os)), hg.tape.trans (hk.tape.trans (hb.tape.trans hK6.tape)), hg.output.trans (hk.output.trans (hb.output.trans hK6.output)), by have := hg.size; have := hK6.size; omega, fun b hb' hns => ?_⟩
        rw [hg.block b (by have := hK6.size; omega) (fun e => by cases e; omega), hk.block b (by have := hK6.size; omega) (fun h => hns ((hU b).2 (.inl h))), hb.block b (by have := hK6.size; omega), hK6.block b hb' hns]
    have hd6 : Below W6.heap.size W6 W6.drew := (Below.refl _ _).drew
    obtain ⟨-, kend, kname, ksize⟩ := hLK
    have y0 := hcl _ hd6
    have hn0i : (0 : Int) < (k : Int) := by omega
    have hn0n : 0 < k := by omega
    obtain ⟨Z, hZ⟩ : ∃ Z, Z = sz s.recs := ⟨_, rfl⟩
    rw [← hZ] at ksize kc
    clear e hW6 hD6 hK6 hbx6 hgm' hqm hSl hnS hZ hlf hT hT6 hTW hS hU hU2 hs hsb hbd hKw hK hσl
    go_wp2
    go_region_held3 (fun w' => w'.cell? ⟨w.heap.size, 0, none⟩ = some (.pointer (some ⟨q, 0, none⟩)) ∧ w'.cell? ⟨q, 0, none⟩ = some (.pointer (some ⟨dq, 0, none⟩)) ∧ w'.cell? ⟨q, 1, none⟩ = some (.slice (some ⟨g', 0, none⟩) k cap') ∧ w'.cell? ⟨g', m * 2, none⟩ = some (.int .i64 (s.num : Int)) ∧ w'.cell? ⟨g', m * 2 + 1, none⟩ = some (.slice pa pn pc))
      (first | exact y0 | exact y9 | exact hcl _ t4 | exact hcl _ t3 | exact hcl _ t2 | exact hcl _ t1 | go_keep)
      (first
        | (go_at_call 38; first | (refine (kend _ t2).mono ?_; rintro e v3 ⟨rfl, t3⟩) | (refine (kend _ hd6).mono ?_; rintro e v1 ⟨rfl, t1⟩))
        | (go_at_call 39; refine (kname _ t1).mono ?_; rintro e v2 ⟨rfl, t2⟩)
        | (go_at_call 86; refine (ksize _ t3).mono ?_; rintro e v4 ⟨rfl, t4⟩)
        | (go_at_call 76; refine (kc _ t4).mono ?_; rintro e v9 ⟨⟨cc, rfl⟩, y9, hfin⟩))
    clear hcl kc kend kname ksize
    go_wp2
    refine ⟨by simp, .inl ⟨_, _, rfl, run_takeDeferred hfin.out.1, ?_⟩⟩
    refine ⟨_, results_none rfl _ _ _, rfl, ?_⟩
    rw [← hF2.out]
    exact hfin.out.2
  case stop =>
    rintro D c pre W _ _ h _
    exact h.elim
end Go.Proofs.YtoipjmjhplkibaaGreatDoor

/- The contract of a log's CutFrom, of a record that is there. -/
namespace Go.Proofs.YtoipjmjhplkibaaGreatDoor
open Go.RowKit Go.Shelf WalMath DiskMath
attribute [local go_sem] Oper.semAt_some
set_option maxRecDepth 100000
set_option linter.unusedSimpArgs false
set_option linter.unusedVariables false

/-- A segment with its first records alone. -/
def segTo (s : Seg) (j : Nat) : Seg := ⟨s.num, s.recs.take j⟩
/-- What is left of the segments where the i-th is cut behind j records. -/
def cutSg (sg : List Seg) (i : Nat) (s : Seg) (j : Nat) : List Seg := sg.take i ++ [segTo s j]
/-- What is left of the files. -/
def cutFs (sg : List Seg) (i : Nat) (s : Seg) (j : Nat) (fs : Files) : Files := leaveF (cutSg sg i s j) (rmN ((sg.drop (i + 1)).map Seg.num).reverse fs)

theorem set_take {sg : List Seg} {i : Nat} {s t : Seg} (h : sg[i]? = some s) : (sg.set i t).take (i + 1) = sg.take i ++ [t] := by
  have hl := (List.getElem?_eq_some_iff.1 h).1
  rw [List.take_succ_eq_append_getElem (by simpa using hl), List.take_set, List.getElem_set_self]
  congr 1
  exact List.set_eq_of_length_le (by simp; omega)

/-- The segment's places are cut. -/
theorem SegsAt.cutAt {σ : Wm} {w : World} {g len cap : Nat} {sg : List Seg} (h : SegsAt σ w (.slice (some ⟨g, 0, none⟩) len cap) sg) {i : Nat} {s : Seg} (hs : sg[i]? = some s) (j : Nat) (hj : j ≤ s.recs.length) {pa : Option Addr} {pn pc : Nat} (hc : w.cell? ⟨g, i * 2 + 1, none⟩ = some (.slice pa pn pc)) :
    SegsAt σ (w.setCell ⟨g, i * 2 + 1, none⟩ (.slice pa j pc)) (.slice (some ⟨g, 0, none⟩) len cap) (sg.set i (segTo s j)) := by
  obtain ⟨vs, h1, h2, h3⟩ := h.ex
  have hil := (List.getElem?_eq_some_iff.1 hs).1
  have hv := List.getElem?_eq_getElem (show i < vs.length by omega)
  have hx := sg2_get hs hv
  have hgm := h.row g rfl
  have hcell : vs[i] = .slice pa pn pc := by
    obtain ⟨g', cap', e, -, -, -, h8, -⟩ := h2.cells (by intro e; rw [e] at hx; simp at hx)
    cases e
    have := (h8 i _ hx).2
    rw [hc] at this
    exact (Option.some.inj this).symm
  have hsg2 : (sg2 sg vs).set i (.int .i64 (s.num : Int), .slice pa j pc) = sg2 (sg.set i (segTo s j)) (vs.set i (.slice pa j pc)) := by
    apply List.ext_getElem?
    intro n
    unfold sg2
    by_cases hn : i = n
    · subst hn
      rw [List.getElem?_set_self (by rw [List.length_zipWith]; omega), List.getElem?_zipWith, List.getElem?_set_self hil, List.getElem?_set_self (by omega)]
      rfl
    · rw [List.getElem?_set_ne hn, List.getElem?_zipWith, List.getElem?_zipWith, List.getElem?_set_ne hn, List.getElem?_set_ne hn]
  refine ⟨⟨vs.set i (.slice pa j pc), by simp [h1], by rw [← hsg2]; exact h2.set hx _, fun n t u ht hu => ?_⟩, h.row, fun b hb => by have := h.lt b hb; simpa [World.setCell] using this⟩
  have hne : ∀ b, (σ b).1 = 3 → (w.setCell ⟨g, i * 2 + 1, none⟩ (.slice pa j pc)).heap[b]? = w.heap[b]? := fun b hb => set_same _ _ (fun e => by rw [e, hgm] at hb; cases hb)
  by_cases hn : i = n
  · subst hn
    rw [List.getElem?_set_self hil] at ht
    rw [List.getElem?_set_self (by omega)] at hu
    cases ht
    cases hu
    obtain ⟨g1, g2⟩ := h3 i s _ hs hv
    rw [hcell] at g1 g2
    have g3 := g1.took j (by rw [pl2_length, plc_length]; exact hj)
    have how : (Value.slice pa j pc).ownBlock = (Value.slice pa pn pc).ownBlock := by cases pa <;> rfl
    refine ⟨R2.same (w := w) ?_ fun b hb => hne b (by rw [g2 b (how ▸ hb)]), fun b hb => g2 b (how ▸ hb)⟩
    have : (pl2 (plc 0 s.recs)).take j = pl2 (plc 0 (segTo s j).recs) := by
      show _ = pl2 (plc 0 (s.recs.take j))
      rw [← plc_take]
      simp [pl2, List.map_take]
    rw [← this]
    exact g3
  · rw [List.getElem?_set_ne hn] at ht hu
    obtain ⟨g1, g2⟩ := h3 n t u ht hu
    exact ⟨g1.same fun b hb => hne b (by rw [g2 b hb]), g2⟩

/-- leave, of any first segments. -/
theorem leave_to {U : Nat → Prop} {w : World} {v d : Value} {sg : List Seg} {fs : Files} (k : Nat) (hT : Tb w) (hL : Lg U w v d sg fs) (hU2 : ∀ b, U b → 2 ≤ b) (hk0 : 0 < k) (hkl : k ≤ sg.length) (hlen : sg.length ≤ 1000) (hbd : ∀ s ∈ sg, s.num < 100000000 ∧ s.recs.length ≤ 100000) :
    Calls Tryz.prog 43 #[v, .int .i64 (k : Int)] w fun e w' => e = .returned (.tuple #[]) ∧ LgN U w v d (sg.take k) (leaveF (sg.take k) (rmN ((sg.drop k).map Seg.num).reverse fs)) w' := by
  rcases Nat.lt_or_ge k sg.length with h | h
  · exact leave_from k hT hL hU2 hk0 h hlen hbd
  · obtain rfl : k = sg.length := by omega
    obtain ⟨S, σ, q, sv, rfl, hD, hW, hS, hU⟩ := hL.ex
    refine (leave_all hT hD hW hS hlen hbd).mono ?_
    rintro e w' ⟨rfl, S', hD', hst, hk⟩
    refine ⟨rfl, ?_⟩
    rw [List.take_length, List.drop_length]
    exact Lg.disk hW hS hU hD' hst hk

/-- What CutFrom tells and leaves. -/
def CutT (U : Nat → Prop) (w : World) (v d : Value) (sg : List Seg) (fs : Files) (idx : Nat) (e : Ending) (w' : World) : Prop :=
  e = .returned (.int .i64 0) ∧ ∃ i s, sg[i]? = some s ∧ hasIx s idx ∧ LgN U w v d (cutSg sg i s (idx - firstIx s.recs)) (cutFs sg i s (idx - firstIx s.recs) fs) w'

set_option maxHeartbeats 4000000 in
theorem cutfrom_w {U : Nat → Prop} {w : World} {v d : Value} {sg : List Seg} {fs : Files} (idx : Nat) (hT : Tb w) (hL : Lg U w v d sg fs) (hU2 : ∀ b, U b → 2 ≤ b) (hw : Whole sg fs) (hidx : idx < 18446744073709551616) (hin : ∃ s ∈ sg, hasIx s idx) :
    Calls Tryz.prog 13 #[v, .int .u64 (idx : Int)] w (CutT U w v d sg fs idx) := by
  have hlen := hw.len
  obtain ⟨S, σ, q, sv, rfl, hD, hW, hS, hU⟩ := hL.ex
  have ka := wawake_of hT hD hW hw.cons
  have kf : ∀ W, Below w.heap.size w W → Calls Tryz.prog 42 #[.pointer (some ⟨q, 0, none⟩), .int .u64 (idx : Int)] W (FoundT W sg idx) := fun W hb => find_w idx (hW.below hb) hw.len (fun s hs => by
    obtain ⟨h1, h2, h3, h4, h5, -⟩ := hw.at_ s hs
    refine ⟨by omega, h4, fun ha hb => ?_⟩
    by_cases he : s.recs = []
    · rw [he] at ha
      have : idx ≤ 0 := ha
      omega
    · obtain ⟨r, hr, -⟩ := has_rec h4 h5 ⟨he, hb, ha⟩
      have := (List.getElem?_eq_some_iff.1 hr).1
      omega) hidx
  obtain ⟨hq1, hat⟩ := row_k hW
  obtain ⟨sa, sc, hsv, -⟩ := hW.segs.shape
  rw [hsv] at hq1
  have E : ∀ i s w', sg[i]? = some s → hasIx s idx → LgN U w (.pointer (some ⟨q, 0, none⟩)) d (cutSg sg i s (idx - firstIx s.recs)) (cutFs sg i s (idx - firstIx s.recs) fs) w' → Hid (CutT U w (.pointer (some ⟨q, 0, none⟩)) d sg fs idx (.returned (.int .i64 0)) w') := fun i s w' h1 h2 h3 => ⟨rfl, i, s, h1, h2, h3⟩
  obtain ⟨dq, rfl⟩ := hD.shape
  generalize CutT U w (.pointer (some ⟨q, 0, none⟩)) (.pointer (some ⟨dq, 0, none⟩)) sg fs idx = T at *
  go_enter Tryz.func13, Tryz.ntmps13
  go_wp2_with fail
  refine ka.mono ?_
  rintro e w1 ⟨rfl, b1⟩
  have kf1 := kf w1 b1
  clear ka kf
  go_wp2_with fail
  refine kf1.mono ?_
  rintro e w2 ⟨b2', hfnd⟩
  have b2 := b1.trans (b2'.mono b1.size)
  clear kf1
  rcases hfnd with ⟨i, s, hs, hhas, rfl⟩ | ⟨hno, rfl⟩
  · have hsm := List.mem_of_getElem? hs
    obtain ⟨p1, p2, p3, p4, p5, -⟩ := hw.at_ s hsm
    obtain ⟨r, hr, hri⟩ := has_rec p4 p5 hhas
    have hj := (List.getElem?_eq_some_iff.1 hr).1
    obtain ⟨g, cap, pa, pc, e1, h1, h2, h3, h4⟩ := hat i s hs
    rw [hsv] at e1
    cases e1
    have hlti : (i : Int) < (sg.length : Int) := by have := (List.getElem?_eq_some_iff.1 hs).1; omega
    have hil : i < sg.length := by omega
    have hE := fun w' => E i s w' hs hhas
    generalize idx - firstIx s.recs = j at *
    clear hat hq1 E
    subst hsv
    have hrne : s.recs ≠ [] := by intro e; rw [e] at hj; simp at hj
    obtain ⟨pg, rfl, hpl, hpm⟩ : ∃ pg, pa = some ⟨pg, 0, none⟩ ∧ s.recs.length ≤ pc ∧ pc ≤ maxLen := by
      obtain ⟨g', cap', e, -, -, -, -, -, h9⟩ := hW.segs.cells (by intro e; rw [e] at hil; simp at hil)
      cases e
      obtain ⟨v, -, c2, c3, -⟩ := h9 i s hs
      have := (h3 w (Below.refl _ _)).2
      rw [c2] at this
      cases this
      obtain ⟨g1, cap1, e1, h5, h6, -⟩ := c3.cells (by intro e; have := congrArg List.length e; rw [pl2_length, plc_length] at this; simp at this; exact hrne this)
      injection e1 with e2 e3 e4
      rw [pl2_length, plc_length, ← e4] at h5
      rw [← e4] at h6
      exact ⟨g1, e2, h5, h6⟩
    have hgm : σ g = (2, 0) := hW.segs.row g rfl
    have hW2 := hW.below b2
    have hq2 := hW2.block
    have hdr : Below w.heap.size w w2.drew := b2.drew
    have y0 : ∀ W, Below w.heap.size w W → W.cell? ⟨q, 1, none⟩ = some (.slice (some ⟨g, 0, none⟩) sg.length sc) ∧ W.cell? ⟨g, i * 2 + 1, none⟩ = some (.slice (some ⟨pg, 0, none⟩) s.recs.length pc) := fun W hb => ⟨by rw [cells_of_block (hW.below hb).block]; rfl, (h3 W hb).2⟩
    have hWd := hW.below hdr
    have hseg := hWd.segs.cutAt hs j (by omega) (y0 _ hdr).2
    have hfz : w2.drew.frozen? ⟨g, i * 2 + 1, none⟩ = false := by
      obtain ⟨g', cap', e, -, -, -, -, hf, -⟩ := hWd.segs.cells (by intro e; rw [e] at hil; simp at hil)
      cases e
      exact hf _
    have hst : ∀ b, b ≠ g → (w2.drew.setCell ⟨g, i * 2 + 1, none⟩ (.slice (some ⟨pg, 0, none⟩) j pc)).heap[b]? = w2.drew.heap[b]? := fun b hb => set_same _ _ hb
    have hssz : (w2.drew.setCell ⟨g, i * 2 + 1, none⟩ (.slice (some ⟨pg, 0, none⟩) j pc)).heap.size = w2.drew.heap.size := by simp [World.setCell]
    have hqg : q ≠ g := fun e => by have := hW.mark; rw [e, hgm] at this; cases this
    have hW3 : WalAt σ (w2.drew.setCell ⟨g, i * 2 + 1, none⟩ (.slice (some ⟨pg, 0, none⟩) j pc)) q (.pointer (some ⟨dq, 0, none⟩)) (.slice (some ⟨g, 0, none⟩) sg.length sc) (sg.set i (segTo s j)) := ⟨(hst q hqg).trans hWd.block, hseg, hW.mark⟩
    have hD3 : Dk S (w2.drew.setCell ⟨g, i * 2 + 1, none⟩ (.slice (some ⟨pg, 0, none⟩) j pc)) (.pointer (some ⟨dq, 0, none⟩)) fs := diskOf.kept (diskOf.below hD hdr) (by rw [hssz]; exact Nat.le_refl _) fun b hb => hst b (fun e => by have := hS b hb; rw [e, hgm] at this; cases this)
    have hL3 : Lg U (w2.drew.setCell ⟨g, i * 2 + 1, none⟩ (.slice (some ⟨pg, 0, none⟩) j pc)) (.pointer (some ⟨q, 0, none⟩)) (.pointer (some ⟨dq, 0, none⟩)) (sg.set i (segTo s j)) fs := ⟨S, σ, q, _, rfl, hD3, hW3, hS, hU⟩
    have hK3 : Kept U w (w2.drew.setCell ⟨g, i * 2 + 1, none⟩ (.slice (some ⟨pg, 0, none⟩) j pc)) := ⟨hdr.os, hdr.tape, hdr.output, by rw [hssz]; exact hdr.size, fun b hb hns => (hst b (fun e => hns ((hU b).2 (.inr (by rw [e, hgm]; simp))))).trans (hdr.block b hb)⟩
    have hT3 : Tb (w2.drew.setCell ⟨g, i * 2 + 1, none⟩ (.slice (some ⟨pg, 0, none⟩) j pc)) := hT.below (n := 2) ⟨hK3.os, hK3.tape, hK3.output, hK3.size, fun b hb' => hK3.block b (by have := hT.two; omega) (fun h => by have := hU2 b h; omega)⟩ (Nat.le_refl _)
    have kl := leave_to (i + 1) hT3 hL3 hU2 (by omega) (by rw [List.length_set]; omega) (by rw [List.length_set]; omega) (fun t ht => by
      rcases List.mem_or_eq_of_mem_set ht with h | h
      · obtain ⟨h1, h2, -⟩ := hw.at_ t h
        exact ⟨h1, by omega⟩
      · rw [h]
        refine ⟨p1, ?_⟩
        show (s.recs.take j).length ≤ _
        rw [List.length_take]
        omega)
    rw [set_take hs, List.drop_set_of_lt (by omega)] at kl
    have hfin : ∀ w', LgN U (w2.drew.setCell ⟨g, i * 2 + 1, none⟩ (.slice (some ⟨pg, 0, none⟩) j pc)) (.pointer (some ⟨q, 0, none⟩)) (.pointer (some ⟨dq, 0, none⟩)) (sg.take i ++ [segTo s j]) (leaveF (sg.take i ++ [segTo s j]) (rmN ((sg.drop (i + 1)).map Seg.num).reverse fs)) w' → Hid (T (.returned (.int .i64 0)) w') := fun w' h => hE w' (LgN.trans (fun _ h => .inl h) hK3 h)
    have kl2 : Calls Tryz.prog 43 #[.pointer (some ⟨q, 0, none⟩), .int .i64 ((i : Int) + 1)] (w2.drew.setCell ⟨g, i * 2 + 1, none⟩ (.slice (some ⟨pg, 0, none⟩) j pc)) fun e w' => e = .returned (.tuple #[]) ∧ Hid (T (.returned (.int .i64 0)) w') := by
      rw [show (i : Int) + 1 = ((i + 1 : Nat) : Int) by omega]
      exact kl.mono fun e w' h => ⟨h.1, hfin w' h.2⟩
    have hwr : IntKind.i64.wrap ((i : Int) + 1) = (i : Int) + 1 := IntWalk.i64_in _ (by omega)
    have hji : (j : Int) ≤ (pc : Int) := by omega
    have hj0 : ¬ (j : Int) < 0 := by omega
    have hpci : (pc : Int) ≤ 9223372036854775807 := by unfold maxLen at hpm; omega
    have hyS := y0 _ hdr
    generalize hRL : s.recs.length = RL at *
    have hRp : (RL : Int) ≤ (pc : Int) := by omega
    clear y0 hfin kl hT3 hK3 hL3 hD3 hW3 hst hssz hseg hWd hW2 hq2 hW hL hD hw h3 h4 hE hr hs hhas hsm hrne hin
    go_wp2
    refine wp_region_L (fun w' => w'.cell? ⟨q, 1, none⟩ = some (.slice (some ⟨g, 0, none⟩) sg.length sc) ∧ w'.cell? ⟨g, i * 2 + 1, none⟩ = some (.slice (some ⟨pg, 0, none⟩) RL pc)) [17] (by kernel_rfl) ?_
    have yS : (fun w' : World => w'.cell? ⟨q, 1, none⟩ = some (.slice (some ⟨g, 0, none⟩) sg.length sc) ∧ w'.cell? ⟨g, i * 2 + 1, none⟩ = some (.slice (some ⟨pg, 0, none⟩) RL pc)) w2.drew := hyS
    refine wpAnyL_take 0 rfl (by kernel_rfl) (by kernel_rfl) (by kernel_rfl) (by kernel_rfl) (fun _ _ _ h => h) (by rfl) (by intro w' hS'; obtain ⟨x1, x2⟩ := hS'; go_simp <;> rfl) yS ?_
    try simp only [Act.put, List.setIfInBounds_toArray, List.set_cons_zero, List.set_cons_succ]
    refine wpAnyL_take 1 rfl (by kernel_rfl) (by kernel_rfl) (by kernel_rfl) (by kernel_rfl) (fun _ _ _ h => h) (by rfl) (by intro w' hS'; obtain ⟨x1, x2⟩ := hS'; go_simp <;> rfl) yS ?_
    try simp only [Act.put, List.setIfInBounds_toArray, List.set_cons_zero, List.set_cons_succ]
    refine wpAnyL_take 2 rfl (by kernel_rfl) (by kernel_rfl) (by kernel_rfl) (by kernel_rfl) (fun _ _ _ h => h) (by rfl) (by intro w' hS'; obtain ⟨x1, x2⟩ := hS'; go_simp <;> rfl) yS ?_
    try simp only [Act.put, List.setIfInBounds_toArray, List.set_cons_zero, List.set_cons_succ]
    refine wpAnyL_take 3 rfl (by kernel_rfl) (by kernel_rfl) (by kernel_rfl) (by kernel_rfl) (fun _ _ _ h => h) (by rfl) (by intro w' hS'; obtain ⟨x1, x2⟩ := hS'; go_simp <;> rfl) yS ?_
    try simp only [Act.put, List.setIfInBounds_toArray, List.set_cons_zero, List.set_cons_succ]
    refine wpAnyL_take 4 rfl (by kernel_rfl) (by kernel_rfl) (by kernel_rfl) (by kernel_rfl) (fun _ _ _ h => h) (by rfl) (by intro w' hS'; obtain ⟨x1, x2⟩ := hS'; go_simp <;> rfl) yS ?_
    try simp only [Act.put, List.setIfInBounds_toArray, List.set_cons_zero, List.set_cons_succ]
    refine wpAnyL_take 5 rfl (by kernel_rfl) (by kernel_rfl) (by kernel_rfl) (by kernel_rfl) (fun _ _ _ h => h) (by rfl) (by intro w' hS'; obtain ⟨x1, x2⟩ := hS'; go_simp <;> rfl) yS ?_
    try simp only [Act.put, List.setIfInBounds_toArray, List.set_cons_zero, List.set_cons_succ]
    refine wpAnyL_take 6 rfl (by kernel_rfl) (by kernel_rfl) (by kernel_rfl) (by kernel_rfl) (fun _ _ _ h => h) (by rfl) (by intro w' hS'; obtain ⟨x1, x2⟩ := hS'; go_simp <;> rfl) yS ?_
    try simp only [Act.put, List.setIfInBounds_toArray, List.set_cons_zero, List.set_cons_succ]
    refine wpAnyL_take 7 rfl (by kernel_rfl) (by kernel_rfl) (by kernel_rfl) (by kernel_rfl) (fun _ _ _ h => h) (by rfl) (by intro w' hS'; obtain ⟨x1, x2⟩ := hS'; go_simp <;> rfl) yS ?_
    try simp only [Act.put, List.setIfInBounds_toArray, List.set_cons_zero, List.set_cons_succ]
    refine wpAnyL_take 8 rfl (by kernel_rfl) (by kernel_rfl) (by kernel_rfl) (by kernel_rfl) (fun _ _ _ h => h) (by rfl) (by intro w' hS'; obtain ⟨x1, x2⟩ := hS'; go_simp <;> rfl) yS ?_
    try simp only [Act.put, List.setIfInBounds_toArray, List.set_cons_zero, List.set_cons_succ]
    refine wpAnyL_take 9 rfl (by kernel_rfl) (by kernel_rfl) (by kernel_rfl) (by kernel_rfl) (fun _ _ _ h => h) (by rfl) (by intro w' hS'; obtain ⟨x1, x2⟩ := hS'; go_simp <;> rfl) yS ?_
    try simp only [Act.put, List.setIfInBounds_toArray, List.set_cons_zero, List.set_cons_succ]
    refine wpAnyL_take 10 rfl (by kernel_rfl) (by kernel_rfl) (by kernel_rfl) (by kernel_rfl) (fun _ _ _ h => h) (by rfl) (by intro w' hS'; obtain ⟨x1, x2⟩ := hS'; go_simp <;> rfl) yS ?_
    try simp only [Act.put, List.setIfInBounds_toArray, List.set_cons_zero, List.set_cons_succ]
    refine wpAnyL_take 11 rfl (by kernel_rfl) (by kernel_rfl) (by kernel_rfl) (by kernel_rfl) (fun _ _ _ h => h) (by rfl) (by intro w' hS'; obtain ⟨x1, x2⟩ := hS'; go_simp <;> rfl) yS ?_
    try simp only [Act.put, List.setIfInBounds_toArray, List.set_cons_zero, List.set_cons_succ]
    refine wpAnyL_take 12 rfl (by kernel_rfl) (by kernel_rfl) (by kernel_rfl) (by kernel_rfl) (fun _ _ _ h => h) (by rfl) (by intro w' hS'; obtain ⟨x1, x2⟩ := hS'; go_simp <;> rfl) yS ?_
    try simp only [Act.put, List.setIfInBounds_toArray, List.set_cons_zero, List.set_cons_succ]
    refine wpAnyL_take 13 rfl (by kernel_rfl) (by kernel_rfl) (by kernel_rfl) (by kernel_rfl) (fun _ _ _ h => h) (by rfl) (by intro w' hS'; obtain ⟨x1, x2⟩ := hS'; go_simp <;> rfl) yS ?_
    try simp only [Act.put, List.setIfInBounds_toArray, List.set_cons_zero, List.set_cons_succ]
    refine wpAnyL_take 14 rfl (by kernel_rfl) (by kernel_rfl) (by kernel_rfl) (by kernel_rfl) (fun _ _ _ h => h) (by rfl) (by intro w' hS'; obtain ⟨x1, x2⟩ := hS'; go_simp <;> rfl) yS ?_
    try simp only [Act.put, List.setIfInBounds_toArray, List.set_cons_zero, List.set_cons_succ]
    refine wpAnyL_one 15 (by kernel_rfl) rfl (by rfl) ?_
    intro K' hK'
    go_simp
    refine hK'.out _ _ (.inr yS) ?_
    clear hK' K'
    try simp only [Act.put, List.setIfInBounds_toArray, List.set_cons_zero, List.set_cons_succ]
    refine wpAnyL_one 16 (by kernel_rfl) rfl (by rfl) ?_
    intro K' hK'
    go_simp
    refine hK'.out _ _ (.inr yS) ?_
    clear hK' K'
    try simp only [Act.put, List.setIfInBounds_toArray, List.set_cons_zero, List.set_cons_succ]
    refine wpAnyL_one 17 (by kernel_rfl) rfl (by rfl) ?_
    intro K' hK'
    have z4 := hyS.2
    go_simp
    refine hK'.out _ _ (.inl (by simp)) ?_
    clear hK' K' z4 yS hyS
    refine wpAnyL_done (by kernel_rfl) (NoPanic.normal ?_) _
    go_wp2_with fail
    refine kl2.mono ?_
    rintro e w9 ⟨rfl, hT9⟩
    clear kl2
    go_wp2 <;> first | exact hT9.out | (go_ret; exact hT9.out)
  · obtain ⟨s, h1, h2⟩ := hin
    exact absurd h2 (hno s h1)
end Go.Proofs.YtoipjmjhplkibaaGreatDoor

