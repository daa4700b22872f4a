import Derived.Test.YtgfoogeiancecaaGreatDoorHw31
import Derived.Test.YtgfoogeiancecaaGreatDoorHw30
/- The contract of a log's Last. -/
namespace Go.Proofs.YtgfoogeiancecaaGreatDoor
open Go.RowKit Go.Shelf WalMath DiskMath
attribute [local go_sem] Oper.semAt_some
set_option maxRecDepth 100000
set_option linter.unusedSimpArgs false
set_option linter.unusedVariables false

/-- All records. -/
def recsOf (sg : List Seg) : List Rec := sg.flatMap Seg.recs
/-- A segment as the row has it. -/
abbrev SgIn (w : World) := { x : Seg × (Option Addr × Nat × Nat) // Pv w (.slice x.2.1 x.2.2.1 x.2.2.2) (plc 0 x.1.recs) ∧ x.1.recs.length ≤ 100000 }
def sgF {w : World} (y : SgIn w) : Nat × Option Addr × Nat × Nat := (y.1.1.num, y.1.2)
theorem sg_list {σ : Wm} {w : World} {sv : Value} {sg : List Seg} (h : SegsAt σ w sv sg) (hrl : ∀ s ∈ sg, s.recs.length ≤ 100000) : ∃ zs : List (SgIn w), zs.map (fun y => y.1.1) = sg ∧ Sgs sgF w.heap.size w sv zs := by
  by_cases h0 : sg = []
  · subst h0
    obtain ⟨a, c, e, -⟩ := h.shape
    exact ⟨[], rfl, .inl ⟨a, c, e, rfl⟩⟩
  obtain ⟨g, cap, e, h1, h2, h3, h4, h5, h6⟩ := h.cells h0
  have key : ∀ n, n ≤ sg.length → ∃ zs : List (SgIn w), zs.map (fun y => y.1.1) = sg.take n ∧ zs.length = n ∧ ∀ j, (hj : j < zs.length) → w.cell? ⟨g, 0 + j * 2, none⟩ = some (.int .i64 ((sgF zs[j]).1 : Int)) ∧ w.cell? ⟨g, 0 + j * 2 + 1, none⟩ = some (.slice (sgF zs[j]).2.1 (sgF zs[j]).2.2.1 (sgF zs[j]).2.2.2) := by
    intro n
    induction n with
    | zero => exact fun _ => ⟨[], by simp, rfl, fun j hj => by simp at hj⟩
    | succ n ih =>
      intro hn
      obtain ⟨zs, z1, z2, z3⟩ := ih (by omega)
      have hs := List.getElem?_eq_getElem (show n < sg.length by omega)
      obtain ⟨v, c1, c2, c3, -⟩ := h6 n _ hs
      obtain ⟨pa, pc, pe, -⟩ := c3.shape
      have hpv := c3.pv
      rw [pe] at hpv c2
      refine ⟨zs ++ [⟨(sg[n], pa, _, pc), hpv, hrl _ (List.getElem_mem _)⟩], ?_, by simp [z2], fun j hj => ?_⟩
      · rw [List.map_append, z1, List.take_succ_eq_append_getElem (by omega)]
        rfl
      · rw [Nat.zero_add]
        by_cases hjn : j < n
        · rw [List.getElem_append_left (by omega)]
          have := z3 j (by omega)
          rw [Nat.zero_add] at this
          exact this
        · have : j = n := by
            simp [z2] at hj
            omega
          subst this
          rw [List.getElem_append_right (by omega)]
          simp only [z2, Nat.sub_self, List.getElem_cons_zero]
          exact ⟨c1, c2⟩
  obtain ⟨zs, z1, z2, z3⟩ := key sg.length (Nat.le_refl _)
  exact ⟨zs, by rw [z1, List.take_length], .inr ⟨g, 0, cap, by rw [e, z2], h4, z3⟩⟩

theorem recsOf_tail {a b : List Seg} (hb : ∀ s ∈ b, s.recs = []) (s : Seg) (hs : s.recs ≠ []) : lastIx 0 (recsOf (a ++ s :: b)) = lastIx 0 s.recs := by
  have e : recsOf b = [] := by
    unfold recsOf
    rw [List.flatMap_eq_nil_iff]
    exact hb
  have e2 : recsOf (a ++ s :: b) = recsOf a ++ s.recs := by
    unfold recsOf at *
    rw [List.flatMap_append, List.flatMap_cons, e, List.append_nil]
  rw [e2, lastIx_append]
  cases hr : s.recs with
  | nil => exact absurd hr hs
  | cons r rs => rfl
theorem results_u64 {fn : Func} {p : Tmp} (h : fn.results = #[.cell p 31]) (tmps : Array Value) (w : World) (g : Nat) (a : Value)
    (hp : tmps.getD p undef = .pointer (some ⟨g, 0, none⟩)) (hg : w.heap[g]? = some (.cells #[a] 31 (0, 0))) :
    (results fn tmps).run Tryz.prog w = .ok a w := by
  have hp' : tmps[p]?.getD undef = .pointer (some ⟨g, 0, none⟩) := by simpa using hp
  have hc : w.cell? ⟨g, 0, none⟩ = some a := by rw [cells_of_block hg]; rfl
  simp [results, h, hp', asAddr, go_sem, hc]

set_option maxHeartbeats 4000000 in
theorem last_of {S : Nat → Prop} {σ : Wm} {w : World} {q : Nat} {d sv : Value} {sg : List Seg} {fs : Files} (hT : Tb w) (hD : Dk S w d fs) (hW : WalAt σ w q d sv sg) (hc : Cons sg fs) (hrl : ∀ s ∈ sg, s.recs.length ≤ 100000) :
    Calls Tryz.prog 7 #[.pointer (some ⟨q, 0, none⟩)] w fun e w' => e = .returned (.int .u64 (lastIx 0 (recsOf sg) : Int)) ∧ Below w.heap.size w w' := by
  obtain ⟨R, HR⟩ : ∃ R, Hid (R = lastIx 0 (recsOf sg)) := ⟨_, rfl⟩
  rw [← HR.out]
  have hb0 : Below w.heap.size w (w.alloc (.cells #[.int .u64 0] 31)) := (Below.refl _ _).alloc (Nat.le_refl _) _
  have hs0 : (w.alloc (.cells #[.int .u64 0] 31)).heap.size = w.heap.size + 1 := by simp
  have hbk0 := heap_alloc_new w (.cells #[.int .u64 0] 31)
  have ka := wawake_of (hT.new hb0) (diskOf.below hD hb0) (hW.below hb0) hc
  have hql : q < w.heap.size := hW.segs.lt q (by rw [hW.mark]; simp)
  refine (callsIn_wide (n := 6)).1 ?_
  refine callsIn_of_wp_marks Tryz.func7 rfl trivial ?_ rfl
  refine wpIn_wide.2 ?_
  simp only [Tryz.ntmps7, List.size_toArray, List.length_cons, List.length_nil, Nat.reduceAdd, Nat.reduceSub, Array.replicate_succ, Array.replicate_zero, List.push_toArray, List.append_toArray, List.nil_append, List.cons_append]
  go_wp2_with fail
  refine ka.mono ?_
  rintro e w1 ⟨rfl, hb1⟩
  have hb01 : Below w.heap.size w w1 := hb0.trans (hb1.mono hb0.size)
  have hrb := (hb1.block w.heap.size (by omega)).trans hbk0
  have hW1 := hW.below hb01
  have c1 : w1.cell? ⟨q, 1, none⟩ = some sv := by rw [cells_of_block hW1.block]; rfl
  obtain ⟨zs, hzs, hSg⟩ := sg_list hW1.segs hrl
  obtain ⟨sa, sc, rfl, -⟩ := hW.segs.shape
  clear ka
  go_wp2_with (go_at_call 24; refine (callsIn_wide.1 (back_in Fence.wide 6 trivial rfl _ _ _ _)).mono ?_; rintro e w' ⟨rfl, rfl⟩)
  have hsW : (w1.alloc (.cells #[.slice sa sg.length sc] 54)).heap.size = w1.heap.size + 1 := by simp
  have hbW : Below w1.heap.size w1 (w1.alloc (.cells #[.slice sa sg.length sc] 54)) := (Below.refl _ _).alloc (Nat.le_refl _) _
  have hbkW := heap_alloc_new w1 (.cells #[.slice sa sg.length sc] 54)
  have hcW : (w1.alloc (.cells #[.slice sa sg.length sc] 54)).cell? ⟨w1.heap.size, 0, none⟩ = some (.slice sa sg.length sc) := by rw [cells_of_block hbkW]; rfl
  have hzl : zs.length ≤ 1000000 := by
    have := congrArg List.length hzs
    rw [List.length_map] at this
    have := hc.1
    omega
  have hrl1 : w.heap.size < w1.heap.size := by have := hb1.size; omega
  have hrbW := (hbW.block w.heap.size hrl1).trans hrb
  have hb0W := hb01.trans (hbW.mono hb01.size)
  obtain ⟨W0, hW0⟩ : ∃ W0, w1.alloc (.cells #[.slice sa sg.length sc] 54) = W0 := ⟨_, rfl⟩
  rw [hW0] at hsW hbW hbkW hcW hrbW hb0W ⊢
  clear hW0
  refine (wpIn_wide (n := 6)).1 ?_
  refine wpIn_rangeFunc_ownH (α := Int × SgIn w1) rfl (by omega) (gf := 61) (lb := #[.pointer (some ⟨w1.heap.size, 0, none⟩)]) rfl trivial (enters_of Tryz.func61 (by kernel_rfl) rfl)
    (back_stops sgF Fence.wide _ trivial rfl (by omega) w1.heap.size w1.heap.size (.slice sa sg.length sc) zs hzl W0 (by omega) hbW.size hcW (hSg.below hbW)) KeepB.trans (KeepB.put hbW.size (by omega)) (Below.refl _ _) (fun _ => rfl)
    (fun pre W => (∀ y ∈ pre, y.2.1.1.recs = []) ∧ Below W0.heap.size W0 W)
    (fun c pre W => (c = .ret ∧ ∃ pre0 x, pre = pre0 ++ [x] ∧ (∀ y ∈ pre0, y.2.1.1.recs = []) ∧ x.2.1.1.recs ≠ [] ∧ W.heap[w.heap.size]? = some (.cells #[.int .u64 (lastIx 0 x.2.1.1.recs : Int)] 31 (0, 0))) ∧ Below w.heap.size w W)
    (OwnFrom.and (fun s A B row hs hg hr => hs) (ownFrom_below (Nat.le_refl _) (Nat.le_refl _)))
    (fun c => OwnFrom.and (fun s A B row hs hg hr => by
      obtain ⟨h1, pre0, x, h2, h3, h4, h5⟩ := hs
      exact ⟨h1, pre0, x, h2, h3, h4, (hg.block w.heap.size (Array.getElem?_eq_some_iff.1 h5).1 (fun e => by have := (hr _ e.symm).1; omega)).trans h5⟩) (ownFrom_below (Nat.le_refl _) (by omega)))
    ⟨by simp, Below.refl _ _⟩
    (fun x a' W => ∃ Bx, w1.heap.size < Bx ∧ W.heap[Bx]? = some (.cells #[.int .i64 ((sgF x.2).1 : Int), .slice (sgF x.2).2.1 (sgF x.2).2.2.1 (sgF x.2).2.2.2] 62 (0, 0)) ∧ a' = { tmps := #[.pointer (some ⟨q, 0, none⟩), undef, .pointer (some ⟨w.heap.size, 0, none⟩), undef, .pointer (some ⟨Bx, 0, none⟩), .pointer (some ⟨q, 0, none⟩), .bool true, .bool false, .pointer (some ⟨q, 0, none⟩), .pointer (some ⟨q, 0, none⟩), .pointer (some ⟨q, 1, none⟩), .slice sa sg.length sc, .func (.func 61) #[] #[.pointer (some ⟨w1.heap.size, 0, none⟩)], .int .i64 x.1, .agg #[.int .i64 ((sgF x.2).1 : Int), .slice (sgF x.2).2.1 (sgF x.2).2.2.1 (sgF x.2).2.2.2], undef, undef, undef, undef, undef, undef], defers := [] })
    (fun x a' _ X Y row hs hg hr => by
      obtain ⟨Bx, h1, h2, h3⟩ := hs
      exact ⟨Bx, h1, (hg.block Bx (Array.getElem?_eq_some_iff.1 h2).1 (fun e => by
        obtain ⟨o, ho, hc⟩ := (hr Bx e.symm).2
        rw [h2] at ho; cases ho; cases hc)).trans h2, h3⟩)
    ?assign ?body ?done ?stop
  case assign =>
    rintro l pre x W K ⟨hpre, hB1⟩ hK
    dsimp only [encS]
    gi_wp2
    have hb2 : Below W.heap.size W (W.alloc (.cells #[.int .i64 ((sgF x.2).1 : Int), .slice (sgF x.2).2.1 (sgF x.2).2.2.1 (sgF x.2).2.2.2] 62)) := (Below.refl _ W).alloc (Nat.le_refl _) _
    have hsz := hB1.size
    exact hK _ _ ((KeepsOthers.alloc _ _).from _) ⟨hb2.mono (by omega), hb2.block _ (by omega)⟩ ⟨hpre, hB1.trans (hb2.mono hB1.size)⟩ ⟨W.heap.size, by omega, World.alloc_heap_new W _, rfl⟩
  case body =>
    rintro l pre x a' W hl ⟨r, hr⟩ ⟨hpre, hB1⟩ ⟨Bx, hBx, bX, rfl⟩ hlt
    have hsz := hB1.size
    have e0 : W.cell? ⟨Bx, 0, none⟩ = some (.int .i64 ((sgF x.2).1 : Int)) := by rw [cells_of_block bX]; rfl
    have e1 : W.cell? ⟨Bx, 1, none⟩ = some (.slice (sgF x.2).2.1 (sgF x.2).2.2.1 (sgF x.2).2.2.2) := by rw [cells_of_block bX]; rfl
    have hxl : (sgF x.2).2.2.1 = x.2.1.1.recs.length := by
      obtain ⟨ao, cap, e, -⟩ := x.2.2.1
      injection e with _ e _
      rw [plc_length] at e
      exact e
    have hb1W : Below w1.heap.size w1 W := hbW.trans (hB1.mono hbW.size)
    by_cases hne : x.2.1.1.recs = []
    · have hn0 : (sgF x.2).2.2.1 = 0 := by rw [hxl, hne]; rfl
      have hfin : Hid (KeepsFrom W0.heap.size W W ∧ KeepB w1.heap.size w1.heap.size W W ∧ (∀ y ∈ pre ++ [x], y.2.1.1.recs = []) ∧ Below W0.heap.size W0 W) := ⟨(KeepsOthers.refl _).from _, KeepB.refl _ _ _, fun y hy => by
        rcases List.mem_append.1 hy with hy | hy
        · exact hpre y hy
        · rw [List.mem_singleton.1 hy]
          exact hne, hB1⟩
      rw [hn0] at e1 ⊢
      clear hxl hne hpre hr hlt bX
      gi_wp2
      exact hfin.out
    · have hn0 : 0 < (sgF x.2).2.2.1 := by rw [hxl]; exact List.length_pos_iff.2 hne
      have hn0i : (0 : Int) < ((sgF x.2).2.2.1 : Int) := by omega
      have kl := slast_of ((sgF x.2).1 : Int) (.slice (sgF x.2).2.1 (sgF x.2).2.2.1 (sgF x.2).2.2.2) _ W (x.2.2.1.below hb1W) (by rw [plc_length]; have := x.2.2.2; omega)
      rw [lastI_plc] at kl
      have hrbw := (hB1.block w.heap.size (by omega)).trans hrbW
      have hfin : ∀ w', Below W.heap.size W w' → Hid (w'.cell? ⟨w.heap.size, 0, none⟩ = some (.int .u64 0) ∧ w'.frozen? ⟨w.heap.size, 0, none⟩ = false ∧ KeepsFrom W0.heap.size W (w'.setCell ⟨w.heap.size, 0, none⟩ (.int .u64 (lastIx 0 x.2.1.1.recs : Int))) ∧ ((Code.ret = .ret ∧ ∃ p0 y, pre ++ [x] = p0 ++ [y] ∧ (∀ z ∈ p0, z.2.1.1.recs = []) ∧ y.2.1.1.recs ≠ [] ∧ (w'.setCell ⟨w.heap.size, 0, none⟩ (.int .u64 (lastIx 0 x.2.1.1.recs : Int))).heap[w.heap.size]? = some (.cells #[.int .u64 (lastIx 0 y.2.1.1.recs : Int)] 31 (0, 0))) ∧ Below w.heap.size w (w'.setCell ⟨w.heap.size, 0, none⟩ (.int .u64 (lastIx 0 x.2.1.1.recs : Int))))) := fun w' hb' => by
        have hk := (hb'.block w.heap.size (by omega)).trans hrbw
        refine ⟨by rw [cells_of_block hk]; rfl, frozen_of hk 0, KeepsFrom.trans (Y := w') ⟨hb'.size, fun k o _ hk' _ => (hb'.block k (Array.getElem?_eq_some_iff.1 hk').1).trans hk'⟩ ((KeepsOthers.setCell _ _ _).from _), ⟨rfl, pre, x, rfl, hpre, hne, by simp [World.setCell, Array.getElem?_modify, hk]⟩, ?_⟩
        have hbb : Below w.heap.size w w' := hb0W.trans ((hB1.mono (by omega)).trans (hb'.mono (by omega)))
        exact hbb.setCell (p := ⟨w.heap.size, 0, none⟩) (Nat.le_refl _) _
      generalize lastIx 0 x.2.1.1.recs = L at *
      obtain ⟨sx, hsx⟩ : ∃ t, t = (sgF x.2).2.2.1 := ⟨_, rfl⟩
      rw [← hsx] at e1 hn0 hn0i kl ⊢
      clear hxl hne hpre hr hlt bX hsx hB1
      gi_wp2_with (refine ⟨trivial, ?_⟩; gi_at_call 25; refine (CallsIn.inRound l (callsIn_wide.2 kl)).mono ?_; rintro e w' ⟨rfl, hb'⟩; obtain ⟨z0, z1, hf2⟩ := (hfin w' hb').out; have hf3 : Hid _ := hf2; clear hf2)
      exact ⟨hf3.out.1, ⟨rfl, hf3.out.2.1.2⟩, hf3.out.2.2⟩
  case done =>
    rintro D ys W hD hys ⟨hpre, hB1⟩ hK
    have hsz := hB1.size
    have hrbw := (hB1.block w.heap.size (by omega)).trans hrbW
    have z0 : W.cell? ⟨w.heap.size, 0, none⟩ = some (.int .u64 0) := by rw [cells_of_block hrbw]; rfl
    have z1 := frozen_of hrbw 0
    have hemp : lastIx 0 (recsOf sg) = 0 := by
      have he : recsOf sg = [] := by
        unfold recsOf
        rw [List.flatMap_eq_nil_iff]
        intro s hs
        rw [← hzs] at hs
        obtain ⟨y, hy, rfl⟩ := List.mem_map.1 hs
        have hy2 : y ∈ ys.map (·.2) := by rw [hys]; exact List.mem_reverse.2 hy
        obtain ⟨z, hz, rfl⟩ := List.mem_map.1 hy2
        exact hpre z hz
      rw [he]
      rfl
    have hempH : Hid (R = 0) := by show _ = _; rw [HR.out, hemp]
    have hbf : Below w.heap.size w (W.setCell ⟨w.heap.size, 0, none⟩ (.int .u64 0)) := (hb0W.trans (hB1.mono (by omega))).setCell (p := ⟨w.heap.size, 0, none⟩) (Nat.le_refl _) _
    have hKf : (W.setCell ⟨w.heap.size, 0, none⟩ (.int .u64 0)).heap[D]? = some (.deferred (some [])) := (set_same 0 _ (by omega)).trans hK
    have hrf : (W.setCell ⟨w.heap.size, 0, none⟩ (.int .u64 0)).heap[w.heap.size]? = some (.cells #[.int .u64 0] 31 (0, 0)) := by simp [World.setCell, Array.getElem?_modify, hrbw]
    clear hpre hys hemp
    go_wp2
    refine ⟨by simp, .inl ⟨_, _, rfl, run_takeDeferred hKf, ?_⟩⟩
    have hrf2 := ((grownBy_putObj' (W.setCell ⟨w.heap.size, 0, none⟩ (.int .u64 0)) D (.deferred none)).block w.heap.size (Array.getElem?_eq_some_iff.1 hrf).1 (fun e => by cases e; omega)).trans hrf
    exact ⟨_, results_u64 rfl _ _ w.heap.size _ rfl hrf2, by rw [hempH.out]; rfl, hbf.trans (belowK_b (w := w) (Nat.le_refl _) _ D _ _ (by omega) hKf rfl rfl)⟩
  case stop =>
    rintro D c pre W hD ⟨k, hk, hcm⟩ ⟨⟨rfl, pre0, x, h2, h3, h4, h5⟩, hBx⟩ hK
    have hval : lastIx 0 (recsOf sg) = lastIx 0 x.2.1.1.recs := by
      unfold come at hcm
      rw [h2, List.map_append, List.drop_eq_getElem_cons hk, List.reverse_cons] at hcm
      obtain ⟨g1, g2⟩ := List.append_inj' hcm rfl
      have hx2 : x.2 = zs[k] := by simpa using g2
      have hsg : sg = (zs.take k).map (fun y => y.1.1) ++ x.2.1.1 :: (zs.drop (k + 1)).map (fun y => y.1.1) := by
        rw [← hzs, hx2, ← List.map_cons (f := fun y : SgIn w1 => y.1.1), ← List.drop_eq_getElem_cons hk, ← List.map_append, List.take_append_drop]
      rw [hsg]
      refine recsOf_tail (fun s hs => ?_) _ h4
      obtain ⟨y, hy, rfl⟩ := List.mem_map.1 hs
      have hy2 : y ∈ pre0.map (·.2) := by rw [g1]; exact List.mem_reverse.2 hy
      obtain ⟨z, hz, rfl⟩ := List.mem_map.1 hy2
      exact h3 z hz
    have hvalH : Hid (R = lastIx 0 x.2.1.1.recs) := by show _ = _; rw [HR.out, hval]
    clear hval hcm h2 h3
    gi_wp2
    refine ⟨by simp, .inl ⟨_, _, rfl, run_takeDeferred hK, ?_⟩⟩
    have hrf2 := ((grownBy_putObj' W D (.deferred none)).block w.heap.size (Array.getElem?_eq_some_iff.1 h5).1 (fun e => by cases e; omega)).trans h5
    exact ⟨_, results_u64 rfl _ _ w.heap.size _ rfl hrf2, by rw [hvalH.out], hBx.trans (belowK_b (w := w) (Nat.le_refl _) _ D _ _ (by omega) hK rfl rfl)⟩
end Go.Proofs.YtgfoogeiancecaaGreatDoor

/- The contracts of a log's First and find. -/
namespace Go.Proofs.YtgfoogeiancecaaGreatDoor
open Go.RowKit WalMath DiskMath
set_option maxRecDepth 100000
set_option linter.unusedSimpArgs false
set_option linter.unusedVariables false

/-- The first index; 0: there is none. -/
def firstIx (rs : List Rec) : Nat := (rs.head?.map Rec.index).getD 0
theorem firstIx_skip {sg : List Seg} {i : Nat} (h : ∀ (j : Nat) (s : Seg), j < i → sg[j]? = some s → s.recs = []) : recsOf sg = recsOf (sg.drop i) := by
  have e : recsOf (sg.take i) = [] := by
    unfold recsOf
    rw [List.flatMap_eq_nil_iff]
    intro s hs
    obtain ⟨j, hj⟩ := List.mem_iff_getElem?.1 hs
    rw [List.getElem?_take] at hj
    split at hj
    · rename_i hlt
      exact h j s hlt hj
    · cases hj
  conv => lhs; rw [← List.take_append_drop i sg]
  unfold recsOf at *
  rw [List.flatMap_append, e, List.nil_append]

/-- What a row of segments shows, in any later world. -/
structure RowK (w : World) (q : Nat) (sv : Value) (sg : List Seg) : Prop where
  q1 : ∀ W, Below w.heap.size w W → W.cell? ⟨q, 1, none⟩ = some sv
  at_ : ∀ (i : Nat) (s : Seg), sg[i]? = some s → ∃ g cap pa pc, sv = .slice (some ⟨g, 0, none⟩) sg.length cap ∧ sg.length ≤ cap ∧ cap ≤ maxLen ∧ (∀ W, Below w.heap.size w W → W.cell? ⟨g, i * 2, none⟩ = some (.int .i64 (s.num : Int)) ∧ W.cell? ⟨g, i * 2 + 1, none⟩ = some (.slice pa s.recs.length pc)) ∧ (∀ W, Below w.heap.size w W → Pv W (.slice pa s.recs.length pc) (plc 0 s.recs))
theorem row_k {σ : Wm} {w : World} {q : Nat} {d sv : Value} {sg : List Seg} (hW : WalAt σ w q d sv sg) : RowK w q sv sg := by
  refine ⟨fun W hb => by rw [cells_of_block (hW.below hb).block]; rfl, fun i s hs => ?_⟩
  obtain ⟨g, cap, e, h1, h2, h3, h4, h5, h6⟩ := hW.segs.cells (by intro e; rw [e] at hs; simp at hs)
  obtain ⟨pv, c1, c2, c3, -⟩ := h6 i s hs
  obtain ⟨pa, pc, pe, -⟩ := c3.shape
  rw [pl2_length, plc_length] at pe
  subst pe
  exact ⟨g, cap, pa, pc, e, h1, h2, fun W hb => ⟨(hb.cell (p := ⟨g, i * 2, none⟩) (World.block_lt_of_cell? w _ c1)).trans c1, (hb.cell (p := ⟨g, i * 2 + 1, none⟩) (World.block_lt_of_cell? w _ c2)).trans c2⟩, fun W hb => c3.pv.below hb⟩

set_option maxHeartbeats 4000000 in
theorem first_of {S : Nat → Prop} {σ : Wm} {w : World} {q : Nat} {d sv : Value} {sg : List Seg} {fs : Files} (hT : Tb w) (hD : Dk S w d fs) (hW : WalAt σ w q d sv sg) (hc : Cons sg fs) :
    Calls Tryz.prog 56 #[.pointer (some ⟨q, 0, none⟩)] w fun e w' => e = .returned (.int .u64 (firstIx (recsOf sg) : Int)) ∧ Below w.heap.size w w' := by
  obtain ⟨R, HR⟩ : ∃ R, Hid (R = firstIx (recsOf sg)) := ⟨_, rfl⟩
  rw [← HR.out]
  have ka := wawake_of hT hD hW hc
  obtain ⟨hq1, hat⟩ := row_k hW
  obtain ⟨sa, sc, hsv, -⟩ := hW.segs.shape
  have hlen := hc.1
  clear hW hD hT hc
  rw [hsv] at hq1
  go_enter Tryz.func56, Tryz.ntmps56
  go_wp2_with fail
  refine ka.mono ?_
  rintro e w1 ⟨rfl, b1⟩
  have c1 := hq1 w1 b1
  clear ka
  go_wp2
  go_loopg [13] sg.length (fun g s13 wr => ∃ i : Nat, i + g = sg.length ∧ s13 = .int .i64 (i : Int) ∧ Hid (∀ (j : Nat) (s : Seg), j < i → sg[j]? = some s → s.recs = []) ∧ Below w.heap.size w wr)
  case atStart => exact ⟨0, by simp, rfl, (fun j s h => by omega), b1⟩
  case round =>
    obtain ⟨i, hi, rfl, hemp, hbr⟩ := hrel
    by_cases hlt : i < sg.length
    · have hlti : (i : Int) < (sg.length : Int) := by omega
      have hs := List.getElem?_eq_getElem hlt
      have hdr : recsOf (sg.drop i) = sg[i].recs ++ recsOf (sg.drop (i + 1)) := by
        unfold recsOf
        rw [List.drop_eq_getElem_cons hlt, List.flatMap_cons]
      have hskip := firstIx_skip hemp.out
      rw [hdr] at hskip
      generalize sg[i] = s at *
      obtain ⟨g, cap, pa, pc, e1, h1, h2, h3, h4⟩ := hat i s hs
      rw [hsv] at e1
      cases e1
      obtain ⟨d0, d1⟩ := h3 wr hbr
      have hbx : Below wr.heap.size wr (wr.alloc (.cells #[.int .i64 (s.num : Int), .slice pa s.recs.length pc] 62)) := (Below.refl _ _).alloc (Nat.le_refl _) _
      have hbr2 := hbr.trans (hbx.mono hbr.size)
      have q2 : IntKind.i64.wrap ((i : Int) + 1) = ((i + 1 : Nat) : Int) := by
        rw [show (i : Int) + 1 = ((i + 1 : Nat) : Int) by omega]
        exact IntWalk.i64_in _ (by omega)
      by_cases hne : s.recs = []
      · have hemp' : Hid (∀ (j : Nat) (t : Seg), j < i + 1 → sg[j]? = some t → t.recs = []) := fun j t hj ht => by
          rcases Nat.lt_succ_iff_lt_or_eq.1 hj with hj | hj
          · exact hemp.out j t hj ht
          · subst hj
            rw [hs] at ht
            cases ht
            exact hne
        rw [hne] at d1 hbr2
        clear hat hq1 h3 h4 hskip hdr hs hemp hne hbx
        go_wp2
        go_roundg (gk - 1)
        case measure => omega
        case rel => exact ⟨i + 1, by omega, by go_num, hemp', hbr2⟩
      · obtain ⟨r, rs, hrs⟩ : ∃ r rs, s.recs = r :: rs := by
          cases hh : s.recs with
          | nil => exact absurd hh hne
          | cons r rs => exact ⟨r, rs, rfl⟩
        have hRv : Hid (R = r.index) := by
          show _ = _
          rw [HR.out, hskip, hrs]
          rfl
        obtain ⟨ao, cp, ep, hcell⟩ := h4 _ hbr2
        obtain ⟨b, hao, k0, -⟩ := hcell 0 (r.index, 0 + sz [r]) (by
          have := plc_get s.recs 0 0 r (by rw [hrs]; rfl)
          rw [hrs] at this ⊢
          exact this)
        rw [hao] at ep
        injection ep with ep _ ep2
        subst ep
        subst ep2
        rw [Nat.zero_mul] at k0
        have hl1 : 0 < s.recs.length := by rw [hrs]; simp
        have hl0 : (0 : Int) < (s.recs.length : Int) := by omega
        obtain ⟨n, hn⟩ : ∃ n, n = s.recs.length := ⟨_, rfl⟩
        rw [← hn] at d1 hl0 hl1 hbr2 k0
        clear hat hq1 h3 h4 hskip hdr hs hemp hne hbx hrs hcell hn
        go_wp2
        go_ret
        exact ⟨by rw [hRv.out]; rfl, hbr2⟩
    · have hlti : ¬ (i : Int) < (sg.length : Int) := by omega
      have hRv : Hid (R = 0) := by
        show _ = _
        rw [HR.out, firstIx_skip hemp.out, List.drop_eq_nil_of_le (by omega)]
        rfl
      clear hat hq1 hemp
      go_wp2
      go_ret
      exact ⟨by rw [hRv.out]; rfl, hbr⟩

/-- Has the segment the record? -/
def hasIx (s : Seg) (idx : Nat) : Prop := s.recs ≠ [] ∧ firstIx s.recs ≤ idx ∧ idx ≤ lastIx 0 s.recs
/-- What find tells. -/
def FoundT (w : World) (sg : List Seg) (idx : Nat) (e : Ending) (w' : World) : Prop :=
  Below w.heap.size w w' ∧ ((∃ (i : Nat) (s : Seg), sg[i]? = some s ∧ hasIx s idx ∧ e = .returned (.tuple #[.int .i64 (i : Int), .int .i64 ((idx - firstIx s.recs : Nat) : Int), .bool true])) ∨ ((∀ s ∈ sg, ¬ hasIx s idx) ∧ e = .returned (.tuple #[.int .i64 0, .int .i64 0, .bool false])))
theorem results_tmp3' {fn : Func} {t u v : Tmp} (h : fn.results = #[.tmp t, .tmp u, .tmp v]) (tmps : Array Value) (P : Program) (w : World) :
    (results fn tmps).run P w = .ok (.tuple #[tmps.getD t undef, tmps.getD u undef, tmps.getD v undef]) w := by
  simp [results, h]

set_option maxHeartbeats 4000000 in
theorem find_w {σ : Wm} {w : World} {q : Nat} {d sv : Value} {sg : List Seg} (idx : Nat) (hW : WalAt σ w q d sv sg) (hlen : sg.length ≤ 1000) (hsm : ∀ s ∈ sg, s.recs.length ≤ 100000 ∧ okAll s.recs ∧ (idx ≤ lastIx 0 s.recs → firstIx s.recs ≤ idx → idx - firstIx s.recs ≤ 100000)) (hidx : idx < 18446744073709551616) :
    Calls Tryz.prog 31 #[.pointer (some ⟨q, 0, none⟩), .int .u64 (idx : Int)] w (FoundT w sg idx) := by
  obtain ⟨hq1, hat⟩ := row_k hW
  obtain ⟨sa, sc, hsv, -⟩ := hW.segs.shape
  clear hW
  rw [hsv] at hq1
  have c1 := hq1 w (Below.refl _ _)
  have E1 : ∀ (i : Nat) (s : Seg) w', sg[i]? = some s → hasIx s idx → Below w.heap.size w w' → Hid (FoundT w sg idx (.returned (.tuple #[.int .i64 (i : Int), .int .i64 ((idx - firstIx s.recs : Nat) : Int), .bool true])) w') := fun i s w' h1 h2 h3 => ⟨h3, .inl ⟨i, s, h1, h2, rfl⟩⟩
  have E0 : ∀ w', (∀ s ∈ sg, ¬ hasIx s idx) → Below w.heap.size w w' → Hid (FoundT w sg idx (.returned (.tuple #[.int .i64 0, .int .i64 0, .bool false])) w') := fun w' h1 h3 => ⟨h3, .inr ⟨h1, rfl⟩⟩
  generalize FoundT w sg idx = T at *
  go_enter Tryz.func31, Tryz.ntmps31
  go_wp2
  go_loopg [14] sg.length (fun g s14 wr => ∃ i : Nat, i + g = sg.length ∧ s14 = .int .i64 (i : Int) ∧ Hid (∀ (j : Nat) (s : Seg), j < i → sg[j]? = some s → ¬ hasIx s idx) ∧ Below w.heap.size w wr)
  case atStart => exact ⟨0, by simp, rfl, (fun j s h => by omega), Below.refl _ _⟩
  case round =>
    obtain ⟨i, hi, rfl, hemp, hbr⟩ := hrel
    by_cases hlt : i < sg.length
    · have hlti : (i : Int) < (sg.length : Int) := by omega
      have hs := List.getElem?_eq_getElem hlt
      have hsms := hsm sg[i] (List.getElem_mem _)
      generalize sg[i] = s at *
      obtain ⟨g, cap, pa, pc, e1, h1, h2, h3, h4⟩ := hat i s hs
      rw [hsv] at e1
      cases e1
      obtain ⟨d0, d1⟩ := h3 wr hbr
      have hbx : Below wr.heap.size wr (wr.alloc (.cells #[.int .i64 (s.num : Int), .slice pa s.recs.length pc] 62)) := (Below.refl _ _).alloc (Nat.le_refl _) _
      have hbr2 := hbr.trans (hbx.mono hbr.size)
      have q2 : IntKind.i64.wrap ((i : Int) + 1) = ((i + 1 : Nat) : Int) := by
        rw [show (i : Int) + 1 = ((i + 1 : Nat) : Int) by omega]
        exact IntWalk.i64_in _ (by omega)
      have hnx : ¬ hasIx s idx → Hid (∀ (j : Nat) (t : Seg), j < i + 1 → sg[j]? = some t → ¬ hasIx t idx) := fun hno j t hj ht => by
        rcases Nat.lt_succ_iff_lt_or_eq.1 hj with hj | hj
        · exact hemp.out j t hj ht
        · subst hj
          rw [hs] at ht
          cases ht
          exact hno
      by_cases hne : s.recs = []
      · have hemp' := hnx (fun h => h.1 hne)
        rw [hne] at d1 hbr2
        clear hat hq1 h3 h4 hs hemp hne hbx hnx E0 E1 hsms
        go_wp2
        go_roundg (gk - 1)
        case measure => omega
        case rel => exact ⟨i + 1, by omega, by go_num, hemp', hbr2⟩
      · obtain ⟨r, rs, hrs⟩ : ∃ r rs, s.recs = r :: rs := by
          cases hh : s.recs with
          | nil => exact absurd hh hne
          | cons r rs => exact ⟨r, rs, rfl⟩
        have hfi : firstIx s.recs = r.index := by rw [hrs]; rfl
        have hpv := h4 _ hbr2
        obtain ⟨ao, cp, ep, hcell⟩ := id hpv
        obtain ⟨b, hao, k0, -⟩ := hcell 0 (r.index, 0 + sz [r]) (by
          have := plc_get s.recs 0 0 r (by rw [hrs]; rfl)
          rw [hrs] at this ⊢
          exact this)
        rw [hao] at ep
        injection ep with ep _ ep2
        subst ep
        subst ep2
        rw [Nat.zero_mul] at k0
        have hl1 : 0 < s.recs.length := by rw [hrs]; simp
        have hl0 : (0 : Int) < (s.recs.length : Int) := by omega
        have kl := slast_of (s.num : Int) (.slice (some ⟨b, 0, none⟩) s.recs.length pc) _ _ hpv (by rw [plc_length]; omega)
        rw [lastI_plc] at kl
        have hE1 := fun h w' => E1 i s w' hs h
        rw [hfi] at hE1 hsms
        have hhas : hasIx s idx ↔ r.index ≤ idx ∧ idx ≤ lastIx 0 s.recs := by unfold hasIx; rw [hfi]; simp [hne]
        have hr64 : r.index < 18446744073709551616 := (hsms.2.1 r (by rw [hrs]; exact List.mem_cons_self)).2.1
        obtain ⟨n, hn⟩ : ∃ n, n = s.recs.length := ⟨_, rfl⟩
        obtain ⟨L, hL⟩ : ∃ n, n = lastIx 0 s.recs := ⟨_, rfl⟩
        have hfar := hsms.2.2
        rw [← hL] at hhas kl hfar
        rw [← hn] at d1 hl0 hl1 hbr2 k0 kl hbx
        by_cases ha : r.index ≤ idx
        · have hai : (r.index : Int) ≤ (idx : Int) := by omega
          by_cases hb : idx ≤ L
          · have hbi : (idx : Int) ≤ (L : Int) := by omega
            have hfin := hE1 (hhas.2 ⟨ha, hb⟩)
            have hfd := hfar hb ha
            have q5 : IntKind.u64.wrap ((idx : Int) - (r.index : Int)) = ((idx - r.index : Nat) : Int) := by
              rw [show (idx : Int) - (r.index : Int) = ((idx - r.index : Nat) : Int) by omega, IntKind.wrap_u64]
              omega
            have q6 : IntKind.i64.wrap ((idx - r.index : Nat) : Int) = ((idx - r.index : Nat) : Int) := IntWalk.i64_in _ (by omega)
            generalize idx - r.index = D at *
            have hbxk := heap_alloc_new wr (.cells #[.int .i64 (s.num : Int), .slice (some ⟨b, 0, none⟩) n pc] 62)
            have hbll := World.block_lt_of_cell? _ _ k0
            clear hat hq1 h3 h4 hs hemp hne hbx hnx E0 E1 hsms hpv hcell hE1 hhas hfar hrs hn hL hfi
            go_wp2_with fail
            refine kl.mono ?_
            rintro e w2 ⟨rfl, b2⟩
            have hb02 := hbr2.trans (b2.mono hbr2.size)
            have hf2 := hfin w2 hb02
            have f1 : w2.cell? ⟨wr.heap.size, 1, none⟩ = some (.slice (some ⟨b, 0, none⟩) n pc) := by rw [cells_of_block ((b2.block _ (Array.getElem?_eq_some_iff.1 hbxk).1).trans hbxk)]; rfl
            have f2 := (b2.cell (p := ⟨b, 0, none⟩) hbll).trans k0
            have hf3 : ∀ k, Hid (T (.returned (.tuple #[.int .i64 (i : Int), .int .i64 (D : Int), .bool true])) (w2.drewN k)) := fun k => hfin _ (below_drewN hb02 k)
            clear kl hfin b2 hf2
            go_wp2
            go_quiet (fail)
            have hf4 := hf3 nq
            clear hf3
            go_wp2 <;> first | exact hf4.out | (refine bodyPost_ret (results_tmp3' rfl _ _ _) rfl ?_; exact hf4.out)
          · have hbi : ¬ (idx : Int) ≤ (L : Int) := by omega
            have hemp' := hnx (fun h => hb (hhas.1 h).2)
            clear hat hq1 h3 h4 hs hemp hne hbx hnx E0 E1 hsms hpv hcell hE1 hhas hfar hrs hn hL hfi
            go_wp2_with fail
            refine kl.mono ?_
            rintro e w2 ⟨rfl, b2⟩
            have hb02 := hbr2.trans (b2.mono hbr2.size)
            clear kl b2
            go_wp2
            go_roundg (gk - 1)
            case measure => omega
            case rel => exact ⟨i + 1, by omega, by go_num, hemp', hb02⟩
        · have hai : ¬ (r.index : Int) ≤ (idx : Int) := by omega
          have hemp' := hnx (fun h => ha (hhas.1 h).1)
          clear hat hq1 h3 h4 hs hemp hne hbx hnx E0 E1 hsms hpv hcell hE1 hhas hfar hrs hn hL hfi kl
          go_wp2
          go_roundg (gk - 1)
          case measure => omega
          case rel => exact ⟨i + 1, by omega, by go_num, hemp', hbr2⟩
    · have hlti : ¬ (i : Int) < (sg.length : Int) := by omega
      have hfin := E0 wr (fun s hs => by
        obtain ⟨j, hj⟩ := List.mem_iff_getElem?.1 hs
        exact hemp.out j s (by have := (List.getElem?_eq_some_iff.1 hj).1; omega) hj) hbr
      clear hat hq1 hemp E0 E1
      go_wp2 <;> first | exact hfin.out | (refine bodyPost_ret (results_tmp3' rfl _ _ _) rfl ?_; exact hfin.out)
end Go.Proofs.YtgfoogeiancecaaGreatDoor

/- The contract of a log's Get. -/
namespace Go.Proofs.YtgfoogeiancecaaGreatDoor
open Go.RowKit WalMath DiskMath
set_option maxRecDepth 100000
set_option linter.unusedSimpArgs false
set_option linter.unusedVariables false

theorem endI_at (rs : List Rec) (j : Nat) (h : j ≤ rs.length) : endI (plc 0 rs) j = sz (rs.take j) := by
  cases j with
  | zero => simp [endI, sz_nil]
  | succ n =>
    show ((plc 0 rs)[n]?.map Prod.snd).getD 0 = _
    rw [plc_get rs 0 n rs[n] (List.getElem?_eq_getElem (by omega))]
    simp

theorem has_rec {s : Seg} {idx : Nat} (hok : okAll s.recs) (hch : chn 0 s.recs) (h : hasIx s idx) : ∃ r, s.recs[idx - firstIx s.recs]? = some r ∧ r.index = idx := by
  obtain ⟨h0, h1, h2⟩ := h
  generalize s.recs = rs at *
  cases rs with
  | nil => exact absurd rfl h0
  | cons t a =>
    have hf : firstIx (t :: a) = t.index := rfl
    rw [hf] at h1 ⊢
    have hl := chn_get a 0 ((t :: a).length - 1) ((t :: a)[(t :: a).length - 1]'(by simp)) t hok hch (List.getElem?_eq_getElem _)
    rw [lastIx_eq, List.getLast?_eq_getElem?, List.getElem?_eq_getElem (by simp)] at h2
    simp only [Option.map_some, Option.getD_some] at h2
    rw [hl] at h2
    have hlen : idx - t.index < (t :: a).length := by
      have : 0 < (t :: a).length := by simp
      omega
    refine ⟨_, List.getElem?_eq_getElem hlen, ?_⟩
    have := chn_get a 0 (idx - t.index) _ t hok hch (List.getElem?_eq_getElem hlen)
    omega

/-- The disk has every segment as the log has it. -/
structure Whole (sg : List Seg) (fs : Files) : Prop where
  len : sg.length ≤ 1000
  at_ : ∀ s ∈ sg, s.num < 100000000 ∧ s.recs.length ≤ 1000 ∧ sz s.recs ≤ 10000 ∧ okAll s.recs ∧ chn 0 s.recs ∧ ∃ f, get fs (segName s.num) = some f ∧ f.data = joinR s.recs
theorem Whole.cons {sg : List Seg} {fs : Files} (h : Whole sg fs) : Cons sg fs := by
  refine ⟨h.len, fun m s _ hs => ?_⟩
  obtain ⟨h1, h2, h3, -, -, f, h4, h5⟩ := h.at_ s (List.mem_of_getElem? hs)
  exact ⟨h1, by omega, f, h4, by rw [h5]; rfl⟩

/-- What Get tells. -/
def GetT (w : World) (sg : List Seg) (idx : Nat) (e : Ending) (w' : World) : Prop :=
  Below w.heap.size w w' ∧ ((∃ s ∈ sg, ∃ r ∈ s.recs, r.index = idx ∧ ∃ v, e = .returned (.tuple #[v, .bool true]) ∧ @Bs keepAll w'.heap.size w' v r.data) ∨ ((∀ s ∈ sg, ¬ hasIx s idx) ∧ e = .returned (.tuple #[.slice none 0 0, .bool false])))

set_option maxHeartbeats 4000000 in
theorem get_of {S : Nat → Prop} {σ : Wm} {w : World} {q : Nat} {d sv : Value} {sg : List Seg} {fs : Files} (idx : Nat) (hT : Tb w) (hD : Dk S w d fs) (hW : WalAt σ w q d sv sg) (hw : Whole sg fs) (hidx : idx < 18446744073709551616) :
    Calls Tryz.prog 55 #[.pointer (some ⟨q, 0, none⟩), .int .u64 (idx : Int)] w (GetT w sg idx) := by
  letI := keepAll
  have hlen := hw.len
  have ka := wawake_of hT hD hW hw.cons
  have kf : ∀ W, Below w.heap.size w W → Calls Tryz.prog 31 #[.pointer (some ⟨q, 0, none⟩), .int .u64 (idx : Int)] W (FoundT W sg idx) := fun W hb => find_w idx (hW.below hb) hw.len (fun s hs => by
    obtain ⟨h1, h2, h3, h4, h5, -⟩ := hw.at_ s hs
    refine ⟨by omega, h4, fun ha hb => ?_⟩
    by_cases he : s.recs = []
    · rw [he] at ha
      have : idx ≤ 0 := ha
      omega
    · obtain ⟨r, hr, -⟩ := has_rec h4 h5 ⟨he, hb, ha⟩
      have := (List.getElem?_eq_some_iff.1 hr).1
      omega) hidx
  obtain ⟨hq1, hat⟩ := row_k hW
  have hq0 : ∀ W, Below w.heap.size w W → W.cell? ⟨q, 0, none⟩ = some d := fun W hb => by rw [cells_of_block (hW.below hb).block]; rfl
  obtain ⟨sa, sc, hsv, -⟩ := hW.segs.shape
  rw [hsv] at hq1
  have E0 : ∀ w', (∀ s ∈ sg, ¬ hasIx s idx) → Below w.heap.size w w' → Hid (GetT w sg idx (.returned (.tuple #[.slice none 0 0, .bool false])) w') := fun w' h1 h3 => ⟨h3, .inr ⟨h1, rfl⟩⟩
  have E1 : ∀ s r v w', s ∈ sg → r ∈ s.recs → r.index = idx → @Bs keepAll w'.heap.size w' v r.data → Below w.heap.size w w' → Hid (GetT w sg idx (.returned (.tuple #[v, .bool true])) w') := fun s r v w' h1 h2 h3 h4 h5 => ⟨h5, .inl ⟨s, h1, r, h2, h3, v, rfl, h4⟩⟩
  have kname : ∀ s pv, s ∈ sg → ∀ W, Below w.heap.size w W → Calls Tryz.prog 28 #[.agg #[.int .i64 (s.num : Int), pv]] W fun e w' => e = .returned (.string (segName s.num)) ∧ Below w.heap.size w w' := fun s pv hs W hb => (sname_of s.num pv W (hT.new hb) (hw.at_ s hs).1).mono fun e w' h => ⟨h.1, hb.trans (h.2.mono hb.size)⟩
  have kread : ∀ s, s ∈ sg → ∀ W, Below w.heap.size w W → Calls Tryz.prog 59 #[d, .string (segName s.num)] W fun e w' => ∃ v, e = .returned (.tuple #[v, .bool true]) ∧ Own W.heap.size w' v (joinR s.recs) ∧ Below w.heap.size w w' := fun s hs W hb => by
    obtain ⟨-, -, -, -, -, f, hf, hfd⟩ := hw.at_ s hs
    refine (dread_of (segName s.num) (segName_max _) (diskOf.below hD hb)).mono ?_
    rintro e w' ⟨v, l, h, hO, hb', hl⟩
    rw [hf] at h hl
    have hl' : l = joinR s.recs := by rw [hl, ← hfd]; rfl
    rw [hl'] at hO
    exact ⟨v, h, hO, hb.trans (hb'.mono hb.size)⟩
  have hbyte : ∀ s ∈ sg, ∀ c ∈ joinR s.recs, c < 256 := fun s hs => by
    obtain ⟨-, -, -, -, -, f, hf, hfd⟩ := hw.at_ s hs
    rw [← hfd]
    exact hD.byte f (get_mem hf)
  obtain ⟨dq, rfl⟩ := hD.shape
  generalize hGT : GetT w sg idx = T at *
  clear hGT hD hW
  go_enter Tryz.func55, Tryz.ntmps55
  go_wp2_with fail
  refine ka.mono ?_
  rintro e w1 ⟨rfl, b1⟩
  have kf1 := kf w1 b1
  clear ka kf
  go_wp2_with fail
  refine kf1.mono ?_
  rintro e w2 ⟨b2', hfnd⟩
  have b2 := b1.trans (b2'.mono b1.size)
  clear kf1
  rcases hfnd with ⟨i, s, hs, hhas, rfl⟩ | ⟨hno, rfl⟩
  · have hsm := List.mem_of_getElem? hs
    obtain ⟨p1, p2, p3, p4, p5, -⟩ := hw.at_ s hsm
    obtain ⟨r, hr, hri⟩ := has_rec p4 p5 hhas
    have hj := (List.getElem?_eq_some_iff.1 hr).1
    have hone := one_at s.recs (joinR s.recs).length (idx - firstIx s.recs) r p4 (by rw [cutN_all s.recs (joinR s.recs).length (Nat.le_refl _)]; exact hj) hr
    rw [List.take_of_length_le (Nat.le_refl _)] at hone
    obtain ⟨g, cap, pa, pc, e1, h1, h2, h3, h4⟩ := hat i s hs
    rw [hsv] at e1
    cases e1
    have hlti : (i : Int) < (sg.length : Int) := by have := (List.getElem?_eq_some_iff.1 hs).1; omega
    have hil : i < sg.length := by omega
    have hdr : Below w.heap.size w w2.drew := b2.drew
    have kend : ∀ W, Below w.heap.size w W → Calls Tryz.prog 81 #[.agg #[.int .i64 (s.num : Int), .slice pa s.recs.length pc], .int .i64 ((idx - firstIx s.recs : Nat) : Int)] W fun e w' => e = .returned (.int .i64 (sz (s.recs.take (idx - firstIx s.recs)) : Int)) ∧ Below W.heap.size W w' := fun W hb => by
      have := endOf_of (s.num : Int) _ _ (idx - firstIx s.recs) W (h4 W hb) (by rw [plc_length]; omega) (by rw [plc_length]; omega)
      rw [endI_at _ _ (by omega)] at this
      exact this
    have kn := kname s (.slice pa s.recs.length pc) hsm _ hdr
    have kr := kread s hsm
    have hE := E1 s r
    have hszle : sz (s.recs.take (idx - firstIx s.recs)) + (recB r).length ≤ (joinR s.recs).length := by
      have := sz_take_mono s.recs (m := idx - firstIx s.recs + 1) (n := s.recs.length) (by omega)
      rw [List.take_succ_eq_append_getElem hj, sz_append, sz_single, List.take_of_length_le (Nat.le_refl _)] at this
      have e9 : s.recs[idx - firstIx s.recs] = r := (List.getElem?_eq_some_iff.1 hr).2
      rw [e9] at this
      exact this
    have hrp := recB_pos r
    have hb8 := hbyte s hsm
    have hrm := List.mem_of_getElem? hr
    have p3' : (joinR s.recs).length ≤ 10000 := p3
    generalize idx - firstIx s.recs = j at *
    generalize hP : sz (s.recs.take j) = P at *
    generalize joinR s.recs = D at *
    generalize hRL : s.recs.length = RL at *
    clear kname kread E0 E1 hat hbyte hw p3 p4 p5 hhas hr hs
    have hS : ∀ W, Below w.heap.size w W → W.cell? ⟨q, 0, none⟩ = some (.pointer (some ⟨dq, 0, none⟩)) ∧ W.cell? ⟨q, 1, none⟩ = some (.slice (some ⟨g, 0, none⟩) sg.length sc) ∧ W.cell? ⟨g, i * 2, none⟩ = some (.int .i64 (s.num : Int)) ∧ W.cell? ⟨g, i * 2 + 1, none⟩ = some (.slice pa RL pc) := fun W hb => ⟨hq0 W hb, hq1 W hb, h3 W hb⟩
    have x0 := hS _ hdr
    clear h3 h4 hq0 hq1
    go_wp2
    go_region_held3 (fun w' => w'.cell? ⟨q, 0, none⟩ = some (.pointer (some ⟨dq, 0, none⟩)) ∧ w'.cell? ⟨q, 1, none⟩ = some (.slice (some ⟨g, 0, none⟩) sg.length sc) ∧ w'.cell? ⟨g, i * 2, none⟩ = some (.int .i64 (s.num : Int)) ∧ w'.cell? ⟨g, i * 2 + 1, none⟩ = some (.slice pa RL pc))
      (first | exact x0 | exact hS _ b3 | exact hS _ b4 | go_keep)
      (first
        | (go_at_call 28; refine kn.mono ?_; rintro e w3 ⟨rfl, b3⟩)
        | (go_at_call 59; refine (kr _ b3).mono ?_; rintro e w4 ⟨bv, rfl, hO, b4⟩))
    clear kn kr x0
    have hOO : Own w3.heap.size w4 bv D := hO
    have hDne : D ≠ [] := List.length_pos_iff.1 (by omega)
    obtain ⟨gb, cb, hbv, -, -, hc1, hc2⟩ := Fr.Own.at hOO hDne
    have hBF : Fr.Bs w4.heap.size w4 bv D := Fr.Own.bs hOO
    subst hbv
    have hdrop : ∀ W, Below w4.heap.size w4 W → Fr.Bs w4.heap.size W (.slice (some ⟨gb, P, none⟩) (D.length - P) (cb - P)) (D.drop P) := fun W hb => by
      have := (hBF.below hb).drop P (by omega)
      rw [if_neg (by omega), Nat.zero_add] at this
      exact this
    have hT4 := hT.new b4
    have kx : ∀ W, Below w4.heap.size w4 W → Calls Tryz.prog 80 #[.slice (some ⟨gb, P, none⟩) (D.length - P) (cb - P)] W fun e w' => ∃ va vn vc, e = .returned (.tuple #[.agg #[.int .u64 (idx : Int), .slice va vn vc], .int .i64 ((recB r).length : Int), .bool true]) ∧ Below w4.heap.size w4 w' ∧ Below W.heap.size W w' ∧ (∀ w9, Below w'.heap.size w' w9 → Hid (T (.returned (.tuple #[.slice va vn vc, .bool true])) w9)) := fun W hb => by
      have := Fr.one_of w4.heap.size _ _ W (hT4.new hb).1 (hdrop W hb) (fun x hx => hb8 x (List.mem_of_mem_drop hx)) hb.size (by rw [List.length_drop]; omega)
      rw [hone] at this
      refine this.mono ?_
      rintro e w' ⟨h1, v, h2, h3, h4⟩
      have h3' : Fr.Bs w'.heap.size w' v r.data := h3
      obtain ⟨va, vc, h5, -⟩ := h3
      subst h5
      refine ⟨va, _, vc, by rw [h2, hri], hb.trans (h1.mono hb.size), h1, fun w9 h9 => hE _ w9 hsm hrm hri ((h3'.below h9).mono h9.size).up (b4.trans ((hb.trans ((h1.trans (h9.mono h1.size)).mono hb.size)).mono b4.size))⟩
    have ke := kend w4 b4
    have hS4 : ∀ W, Below w4.heap.size w4 W → W.cell? ⟨q, 0, none⟩ = some (.pointer (some ⟨dq, 0, none⟩)) ∧ W.cell? ⟨q, 1, none⟩ = some (.slice (some ⟨g, 0, none⟩) sg.length sc) ∧ W.cell? ⟨g, i * 2, none⟩ = some (.int .i64 (s.num : Int)) ∧ W.cell? ⟨g, i * 2 + 1, none⟩ = some (.slice pa RL pc) := fun W hb => hS W (b4.trans (hb.mono b4.size))
    have hmin : min (P : Int) (D.length : Int) = (P : Int) := by omega
    have hsn : ¬ (P : Int) < 0 := by omega
    have hsm1 : (P : Int) ≤ (D.length : Int) := by omega
    have hsm2 : P ≤ D.length := by omega
    have hdc : (D.length : Int) ≤ (cb : Int) := by omega
    have hcm : (cb : Int) ≤ 9223372036854775807 := by unfold maxLen at hc2; omega
    clear hS hO hOO hBF hdrop hone hE kend
    go_wp2_with fail
    refine ke.mono ?_
    rintro e w5 ⟨rfl, b5⟩
    have kx5 := kx w5 b5
    clear ke kx
    go_wp2_with fail
    refine kx5.mono ?_
    rintro e w6 ⟨va, vn, vc, rfl, b6, -, hfin⟩
    have hf0 := hfin _ ((Below.refl w6.heap.size w6).alloc (Nat.le_refl _) (.cells #[.int .u64 (idx : Int), .slice va vn vc] 44))
    clear kx5 hS4 hfin
    go_wp2 <;> first | exact hf0.out | (go_ret2; exact hf0.out)
  · have hfin := E0 w2 hno b2
    clear E0 E1 kname kread
    go_wp2 <;> first | exact hfin.out | (go_ret2; exact hfin.out)
end Go.Proofs.YtgfoogeiancecaaGreatDoor

/- A disk that nobody made, and a log that nobody opened: what is told of them. -/
namespace Go.Proofs.YtgfoogeiancecaaGreatDoor
open Go.RowKit WalMath DiskMath
set_option maxRecDepth 100000
set_option linter.unusedSimpArgs false
set_option linter.unusedVariables false

/-- None, or one without a map. -/
def NoDisk (w : World) (d : Value) : Prop := d = .pointer none ∨ ∃ q, d = .pointer (some ⟨q, 0, none⟩) ∧ w.cell? ⟨q, 0, none⟩ = some (.map none)

theorem given_no {w : World} {d : Value} (h : NoDisk w d) : Calls Tryz.prog 38 #[d] w fun e w' => e = .returned (.bool false) ∧ w' = w := by
  rcases h with rfl | ⟨q, rfl, hc⟩
  · go_enter Tryz.func38, Tryz.ntmps38
    go_wp2
    go_ret
    exact ⟨rfl, rfl⟩
  · have hne : ∀ w', (binOp .neq 50 (.map none) (.map none)).run Tryz.prog w' = .ok (.bool false) w' := fun w' => run_neq_map_nil w' 50 9 84 none Tryz.underlying50
    go_enter Tryz.func38, Tryz.ntmps38
    go_wp2
    go_ret
    exact ⟨rfl, rfl⟩

theorem find_no {w : World} {d : Value} (n : ByteArray) (h : NoDisk w d) : Calls Tryz.prog 62 #[d, .string n] w fun e w' => e = .returned (.tuple #[.pointer none, .int .i64 1]) ∧ w' = w := by
  have hg := given_no h
  clear h
  go_enter Tryz.func62, Tryz.ntmps62
  go_wp2_with fail
  refine hg.mono ?_
  rintro e w1 ⟨rfl, hw1⟩
  rw [hw1]
  clear hw1 w1 hg
  go_wp2
  go_ret2
  exact ⟨rfl, rfl⟩

theorem sync_no {w : World} {d : Value} (n : ByteArray) (h : NoDisk w d) : Calls Tryz.prog 26 #[d, .string n] w fun e w' => e = .returned (.int .i64 1) ∧ w' = w := by
  have hg := find_no n h
  clear h
  go_enter Tryz.func26, Tryz.ntmps26
  go_wp2_with fail
  refine hg.mono ?_
  rintro e w1 ⟨rfl, hw1⟩
  rw [hw1]
  clear hw1 w1 hg
  go_wp2
  go_ret
  exact ⟨rfl, rfl⟩


theorem wgiven_no {w : World} {d : Value} (h : NoDisk w d) : Calls Tryz.prog 21 #[d] w fun e w' => e = .returned (.bool false) ∧ w' = w := by
  have hs := sync_no ⟨#[]⟩ h
  clear h
  go_enter Tryz.func21, Tryz.ntmps21
  go_wp2_with fail
  refine hs.mono ?_
  rintro e w1 ⟨rfl, hw1⟩
  rw [hw1]
  clear hw1 w1 hs
  go_wp2
  go_ret
  exact ⟨rfl, rfl⟩

theorem open_no {w : World} {d : Value} (h : NoDisk w d) : Calls Tryz.prog 5 #[d] w fun e w' => e = .returned (.tuple #[.pointer none, .int .i64 1]) ∧ w' = w := by
  have hs := wgiven_no h
  clear h
  go_enter Tryz.func5, Tryz.ntmps5
  go_wp2_with fail
  refine hs.mono ?_
  rintro e w1 ⟨rfl, hw1⟩
  rw [hw1]
  clear hw1 w1 hs
  go_wp2
  go_ret2
  exact ⟨rfl, rfl⟩

/-- None, or one without a disk. -/
def NoWal (w : World) (v : Value) : Prop := v = .pointer none ∨ ∃ q, v = .pointer (some ⟨q, 0, none⟩) ∧ w.cell? ⟨q, 0, none⟩ = some (.pointer none)
theorem NoWal.below {w w' : World} {v : Value} (h : NoWal w v) (hb : Below w.heap.size w w') : NoWal w' v := by
  rcases h with rfl | ⟨q, rfl, hc⟩
  · exact .inl rfl
  · exact .inr ⟨q, rfl, (hb.cell (p := ⟨q, 0, none⟩) (World.block_lt_of_cell? _ _ hc)).trans hc⟩

theorem awake_no {w : World} {v : Value} (h : NoWal w v) : Calls Tryz.prog 23 #[v] w fun e w' => e = .returned (.bool false) ∧ w' = w := by
  rcases h with rfl | ⟨q, rfl, hc⟩
  · go_enter Tryz.func23, Tryz.ntmps23
    go_wp2
    go_ret
    exact ⟨rfl, rfl⟩
  · go_enter Tryz.func23, Tryz.ntmps23
    go_wp2
    go_ret
    exact ⟨rfl, rfl⟩

theorem wsync_no {w : World} {v : Value} (h : NoWal w v) : Calls Tryz.prog 8 #[v] w fun e w' => e = .returned (.tuple #[]) ∧ Below w.heap.size w w' := by
  have ha := awake_no h
  clear h
  go_enter Tryz.func8, Tryz.ntmps8
  go_wp2_with fail
  refine ha.mono ?_
  rintro e w1 ⟨rfl, hw1⟩
  rw [hw1]
  clear hw1 w1 ha
  go_wp2
  go_end0
  exact ⟨rfl, Below.refl _ _⟩

theorem wcut_no {w : World} {v : Value} (x : Int) (h : NoWal w v) : Calls Tryz.prog 10 #[v, .int .u64 x] w fun e w' => e = .returned (.int .i64 1) ∧ Below w.heap.size w w' := by
  have ha := awake_no h
  clear h
  go_enter Tryz.func10, Tryz.ntmps10
  go_wp2_with fail
  refine ha.mono ?_
  rintro e w1 ⟨rfl, hw1⟩
  rw [hw1]
  clear hw1 w1 ha
  go_wp2
  go_ret
  exact ⟨rfl, Below.refl _ _⟩

theorem wcompact_no {w : World} {v : Value} (x : Int) (h : NoWal w v) : Calls Tryz.prog 12 #[v, .int .u64 x] w fun e w' => e = .returned (.int .i64 1) ∧ Below w.heap.size w w' := by
  have ha := awake_no h
  clear h
  go_enter Tryz.func12, Tryz.ntmps12
  go_wp2_with fail
  refine ha.mono ?_
  rintro e w1 ⟨rfl, hw1⟩
  rw [hw1]
  clear hw1 w1 ha
  go_wp2
  go_ret
  exact ⟨rfl, Below.refl _ _⟩

theorem wfirst_no {w : World} {v : Value} (h : NoWal w v) : Calls Tryz.prog 56 #[v] w fun e w' => e = .returned (.int .u64 0) ∧ Below w.heap.size w w' := by
  have ha := awake_no h
  clear h
  go_enter Tryz.func56, Tryz.ntmps56
  go_wp2_with fail
  refine ha.mono ?_
  rintro e w1 ⟨rfl, hw1⟩
  rw [hw1]
  clear hw1 w1 ha
  go_wp2
  go_ret
  exact ⟨rfl, Below.refl _ _⟩

theorem wlast_no {w : World} {v : Value} (h : NoWal w v) : Calls Tryz.prog 7 #[v] w fun e w' => e = .returned (.int .u64 0) ∧ Below w.heap.size w w' := by
  have hb : Below w.heap.size w (w.alloc (.cells #[.int .u64 0] 31)) := (Below.refl _ _).alloc (Nat.le_refl _) _
  have hbk0 := heap_alloc_new w (.cells #[.int .u64 0] 31)
  have ha := awake_no (h.below hb)
  clear h
  go_enter Tryz.func7, Tryz.ntmps7
  go_wp2_with fail
  refine ha.mono ?_
  rintro e w1 ⟨rfl, hw1⟩
  rw [hw1]
  clear hw1 w1 ha
  go_wp2
  refine bodyPost_ret (results_u64 rfl _ _ w.heap.size _ rfl hbk0) rfl ?_
  exact ⟨rfl, hb⟩

theorem wget_no {w : World} {v : Value} (x : Int) (h : NoWal w v) : Calls Tryz.prog 55 #[v, .int .u64 x] w fun e w' => e = .returned (.tuple #[.slice none 0 0, .bool false]) ∧ Below w.heap.size w w' := by
  have ha := awake_no h
  clear h
  go_enter Tryz.func55, Tryz.ntmps55
  go_wp2_with fail
  refine ha.mono ?_
  rintro e w1 ⟨rfl, hw1⟩
  rw [hw1]
  clear hw1 w1 ha
  go_wp2
  go_ret2
  exact ⟨rfl, Below.refl _ _⟩

theorem wappend_no {w : World} {v : Value} (x : Int) (a : Option Addr) (n c : Nat) (h : NoWal w v) : Calls Tryz.prog 17 #[v, .agg #[.int .u64 x, .slice a n c]] w fun e w' => e = .returned (.int .i64 1) ∧ Below w.heap.size w w' := by
  have hb : Below w.heap.size w (w.alloc (.cells #[.int .u64 x, .slice a n c] 44)) := (Below.refl _ _).alloc (Nat.le_refl _) _
  have ha := awake_no (h.below hb)
  clear h
  go_enter Tryz.func17, Tryz.ntmps17
  go_wp2_with fail
  refine ha.mono ?_
  rintro e w1 ⟨rfl, hw1⟩
  rw [hw1]
  clear hw1 w1 ha
  go_wp2
  go_ret
  exact ⟨rfl, hb⟩

end Go.Proofs.YtgfoogeiancecaaGreatDoor

