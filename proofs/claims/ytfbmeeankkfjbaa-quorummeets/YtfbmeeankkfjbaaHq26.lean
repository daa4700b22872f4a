import Derived.Test.YtfbmeeankkfjbaaHq07
import Derived.Test.YtfbmeeankkfjbaaHq09
import Derived.Shelf.SlIterI.Collect
import Derived.RangeFuncNested
import Derived.RangeFuncBound
import Derived.RangeFuncCalls
import Derived.RangeFuncLeaves
import Derived.Shelf.Abstract
import Derived.Shelf.RegionOpen
import Derived.OwnWalkIn
import Derived.TacticsInMore
import Derived.LoopNIn
import Derived.LoopIn
/- The contracts of slices.Values, slices.Collect, slices.Sorted at numbers: what a slice holds, sorted, in a row of one's own. -/
namespace Go.Proofs.Ytfbmeeankkfjbaa
open Go.RowKit Go.Shelf Go.Sort QuorumMath
attribute [local go_sem] Oper.semAt_some
set_option maxRecDepth 100000
set_option linter.unusedSimpArgs false
set_option linter.unusedVariables false

/-- What is handed on: a number. -/
def encV (x : Int) : Array Value := #[.int .i64 x]
theorem take_len_lt {zs : List Int} {k : Nat} (hk : k < zs.length) : (zs.take k).length < zs.length := by rw [List.length_take]; omega

set_option maxHeartbeats 2000000 in
theorem vals1_in (F : Fence) (n : Nat) (h1f : F.fn 43) (hro : F.round = none) (hn : 1 ≤ n) (l Bs n₀ : Nat) (ao : Option Addr) (cap : Nat) (zs : List Int) (hreach : zs.length ≤ 1000000) (J Jx : List Int → World → Prop)
    (hY : ∀ pre x W, J pre W → pre.length < zs.length → YieldAt F (n - 1) Try.prog l (encV x) W fun e W' =>
      (e = .returned (.bool true) ∧ J (pre ++ [x]) W' ∧ Below n₀ W W') ∨ (e = .returned (.bool false) ∧ Jx (pre ++ [x]) W'))
    (W : World) (hBs : W.cell? ⟨Bs, 0, none⟩ = some (.slice ao zs.length cap)) (hc : ∀ (i : Nat) (x : Int), zs[i]? = some x → ∃ b off, ao = some ⟨b, off, none⟩ ∧ ∀ W', Below n₀ W W' → W'.cell? ⟨b, off + i, none⟩ = some (.int .i64 x)) (h0 : J [] W) :
    CallsIn F n Try.prog 43 #[.func (.yield l) #[] #[], .pointer (some ⟨Bs, 0, none⟩)] W fun e W' => (∃ v, e = .returned v) ∧
      ((∃ ys, ys = zs ∧ J ys W') ∨ (∃ pre, True ∧ Jx pre W')) := by
  refine callsIn_of_wp Try.func43 rfl h1f ?_ hro
  simp only [Try.ntmps43, List.size_toArray, List.length_cons, List.length_nil, Nat.reduceAdd, Nat.reduceSub, Array.replicate_succ, Array.replicate_zero, List.push_toArray, List.append_toArray, List.nil_append, List.cons_append]
  gi_wp2
  gi_loopw [7] (fun i wr => ∃ k : Nat, k ≤ zs.length ∧ i = .int .i64 (k : Int) ∧ J (zs.take k) wr ∧ Below n₀ W wr)
    (fun i _ => zs.length - (intOf i).toNat)
  case atStart => exact ⟨0, Nat.zero_le _, rfl, by rw [List.take_zero]; exact h0, Below.refl _ _⟩
  case round =>
    obtain ⟨k, hk, rfl, hJs, hnx⟩ := hrel
    by_cases hlt : k < zs.length
    · have hlti : (k : Int) < (zs.length : Int) := by omega
      have hx : zs[k]? = some zs[k] := List.getElem?_eq_getElem hlt
      obtain ⟨x, hxx⟩ : ∃ x, x = zs[k] := ⟨_, rfl⟩
      rw [← hxx] at hx
      clear hxx
      obtain ⟨b, off, rfl, c⟩ := hc k x hx
      have c0 := c wr hnx
      obtain ⟨fn, tmps, assign, body, hy, hR⟩ := hY (zs.take k) x wr hJs (take_len_lt hlt)
      rw [← take_succ_get hx] at hR
      dsimp only [encV] at hy
      clear c hx
      gi_wp2
      refine hR.mono ?_
      rintro e W3 (⟨rfl, hJ3, hk3⟩ | ⟨rfl, hJx3⟩)
      · gi_wp2
        go_roundw
        case rel => exact ⟨k + 1, by omega, by go_num, hJ3, hnx.trans hk3⟩
        case measure => simp [intOf]; omega
      · gi_wp2
        refine bodyPost_ret (results_none rfl _ _ _) rfl ?_
        exact ⟨⟨_, rfl⟩, .inr ⟨_, trivial, hJx3⟩⟩
    · have hlti : ¬ (k : Int) < (zs.length : Int) := by omega
      rw [List.take_of_length_le (by omega)] at hJs
      gi_wp2
      go_end0
      exact ⟨⟨_, rfl⟩, .inl hJs⟩

set_option maxHeartbeats 1000000 in
theorem values_of (a : Option Addr) (len cap : Nat) (w : World) :
    Calls Try.prog 32 #[.slice a len cap] w fun e w' => e = .returned (.func (.func 43) #[] #[.pointer (some ⟨w.heap.size, 0, none⟩)]) ∧ w' = w.alloc (.cells #[.slice a len cap] 22) := by
  go_enter Try.func32, Try.ntmps32
  go_wp2
  go_ret
  exact ⟨rfl, rfl⟩

theorem vals_stops (F : Fence) (n : Nat) (h1f : F.fn 43) (hro : F.round = none) (hn : 1 ≤ n) (Bs : Nat) (ao : Option Addr) (cap : Nat) (zs : List Int) (hreach : zs.length ≤ 1000000) (w : World) (hBs : Bs < w.heap.size)
    (hc : w.cell? ⟨Bs, 0, none⟩ = some (.slice ao zs.length cap)) (hI : Rd intE w (.slice ao zs.length cap) zs) :
    SeqStopsK F n Try.prog 43 #[.pointer (some ⟨Bs, 0, none⟩) ] encV (Below w.heap.size) (fun ys => ys = zs) (fun _ => True) zs.length w := fun l J Jx W hW _ _ hY h0 =>
  vals1_in F n h1f hro hn l Bs w.heap.size ao cap zs hreach J Jx hY W ((hW.cell (p := ⟨Bs, 0, none⟩) hBs).trans hc) (fun i x hx => by
    obtain ⟨b, off, e, c⟩ := rdi_at hI hx
    exact ⟨b, off, e, fun W' hW' => c W' (hW.trans hW')⟩) h0

/-- What stands between two rounds of Collect: the numbers so far, in a row of one's own that a box holds. -/
def ColI (n₀ Bx : Nat) (ys : List Int) (W : World) : Prop := ∃ v, W.heap[Bx]? = some (.cells #[v] 22 (0, 0)) ∧ W.ownsRow n₀ 3 1 v ys.length (ys.map fun z => .int .i64 z)
theorem colI_ne {n₀ : Nat} {W : World} {v : Value} {ys : List Int} (h : W.ownsRow n₀ 3 1 v ys.length (ys.map fun z => .int .i64 z)) {k : Nat} {o : Obj} (hk : W.heap[k]? = some o) (ho : ∀ cur, o ≠ .cells cur 3 (0, 0)) : some k ≠ v.ownBlock := by
  rcases ownsRow_ne_a h hk ho with e | e
  · rw [e]; simp
  · exact fun e' => e e'.symm
theorem colI_own (n₀ Bx B : Nat) : OwnFrom B (ColI n₀ Bx) := fun s W W' row h hg hr => by
  obtain ⟨v, hv, hrow⟩ := h
  refine ⟨v, (hg.block Bx (Array.getElem?_eq_some_iff.1 hv).1 (fun e => ?_)).trans hv, ownsRow_grown hrow hg fun k hk e => ?_⟩
  · obtain ⟨o, ho, hc⟩ := (hr Bx e.symm).2
    rw [hv] at ho
    cases ho
    cases hc
  · obtain ⟨o, ho, hc⟩ := (hr k e).2
    rcases hrow.2 with ⟨rfl, _⟩ | ⟨g, cp, cur, rfl, _, hbk, _⟩
    · cases hk
    · have : g = k := by simpa [Value.ownBlock] using hk
      subst this
      rw [hbk] at ho
      cases ho
      cases hc
theorem infoI : ∃ i0, Try.prog.info? 3 = some i0 ∧ i0.zero = some (.int .i64 0) ∧ i0.size = 1 ∧ i0.bytes = 8 := info_get infoInt

set_option maxHeartbeats 4000000 in
theorem appendSeq_of (Bs : Nat) (ao : Option Addr) (cap : Nat) (zs : List Int) (hreach : zs.length ≤ 1000000) (w : World) (hBs : Bs < w.heap.size)
    (hc : w.cell? ⟨Bs, 0, none⟩ = some (.slice ao zs.length cap)) (hI : Rd intE w (.slice ao zs.length cap) zs) :
    Calls Try.prog 58 #[.slice none 0 0, .func (.func 43) #[] #[.pointer (some ⟨Bs, 0, none⟩)]] w fun e w' => ∃ v, e = .returned v ∧ w'.ownsRow w.heap.size 3 1 v zs.length (zs.map fun z => .int .i64 z) ∧ Below w.heap.size w w' := by
  obtain ⟨hs0, hbk0, hb0⟩ := one_box w (.cells #[.slice none 0 0] 22)
  refine (callsIn_wide (n := 6)).1 ?_
  refine callsIn_of_wp_marks Try.func58 rfl trivial ?_ rfl
  refine wpIn_wide.2 ?_
  simp only [Try.ntmps58, List.size_toArray, List.length_cons, List.length_nil, Nat.reduceAdd, Nat.reduceSub, Array.replicate_succ, Array.replicate_zero, List.push_toArray, List.append_toArray, List.nil_append, List.cons_append]
  go_wp2
  obtain ⟨W0, hW0⟩ : ∃ W0, w.alloc (.cells #[.slice none 0 0] 22) = W0 := ⟨_, rfl⟩
  rw [hW0] at hs0 hbk0 hb0 ⊢
  clear hW0
  refine (wpIn_wide (n := 6)).1 ?_
  refine wpIn_rangeFunc_ownH (α := Int) rfl (by omega) (gf := 43) (lb := #[.pointer (some ⟨Bs, 0, none⟩)]) rfl trivial (enters_of Try.func43 (by kernel_rfl) rfl)
    (vals_stops Fence.wide _ trivial rfl (by omega) Bs ao cap zs hreach w hBs hc hI) (fun h k => h.trans k) (belowK_b hb0.size) hb0 (fun _ => rfl)
    (fun pre W => ColI w.heap.size w.heap.size pre W ∧ Below w.heap.size w W)
    (fun c pre W => False)
    (OwnFrom.and (colI_own _ _ _) (ownFrom_below (Nat.le_refl _) hb0.size))
    (fun c s A B row hs hg hr => hs)
    ⟨⟨_, hbk0, World.ownsRow_nil _ _ _ _⟩, hb0⟩
    (fun x a' W => a' = { tmps := #[.slice none 0 0, .func (.func 43) #[] #[.pointer (some ⟨Bs, 0, none⟩)], .pointer (some ⟨w.heap.size, 0, none⟩), undef, .slice none 0 0, .int .i64 x, .func (.func 43) #[] #[.pointer (some ⟨Bs, 0, none⟩)], .int .i64 x, undef, undef, undef, undef, undef], defers := [] })
    (fun x a' _ X Y row hs hg hr => hs)
    ?assign ?body ?done ?stop
  case assign =>
    rintro l pre x W K ⟨hpre, hB1⟩ hK
    dsimp only [encV]
    gi_wp2
    exact hK _ _ ((KeepsOthers.refl _).from _) (Below.refl _ _) ⟨hpre, hB1⟩ rfl
  case body =>
    rintro l pre x a' W hl ⟨r, hr⟩ ⟨⟨v, hv, hrow⟩, hB1⟩ rfl hlt
    have hs1 := hB1.size
    obtain ⟨i0, i1, i2, i3, i4⟩ := infoI
    have c0 : W.cell? ⟨w.heap.size, 0, none⟩ = some v := by rw [cells_of_block hv]; rfl
    have f0 := frozen_of hv 0
    have hBx := (Array.getElem?_eq_some_iff.1 hv).1
    have hk1 : KeepsFrom W0.heap.size W (W.alloc (.cells #[.int .i64 x] 3)) := (KeepsOthers.alloc _ _).from _
    have hnc : ∀ k o, W.heap[k]? = some o → (∀ cur, o ≠ .cells cur 3 (0, 0)) → some k ≠ v.ownBlock := fun k o hk ho => colI_ne hrow hk ho
    have hbW : Below W.heap.size W (W.alloc (.cells #[.int .i64 x] 3)) := (Below.refl _ _).alloc (Nat.le_refl _) _
    have hrlt := hrow.lt
    clear hc hI hbk0 hr
    gi_wp2_with (first
      | (gi_at_builtin; refine wpListIn_append_own _ rfl _ _ 22 rfl w.heap.size 3 i0 (.int .i64 0) 1 8 Try.underlying22 i1 i2 i3 i4 rfl (by decide) _ _ _ rfl (hrow.alloc _) ⟨W.heap.size, 0, none⟩ 1 1 [.int .i64 x] rfl rfl (cell_one_new _ _ _) (by simp [Value.oneCell']) (by unfold maxLen; omega) (by omega) (by simp; omega) ?_; intro v' w3 hown' hg3 hnil3
         have hv3 : w3.heap[w.heap.size]? = some (.cells #[v] 22 (0, 0)) := (hg3.block w.heap.size (by simp; omega) (hnc _ _ hv (fun cur e => by cases e))).trans ((Below.heap_alloc _ _ _ hBx).trans hv)
         have c3 : w3.cell? ⟨w.heap.size, 0, none⟩ = some v := by rw [cells_of_block hv3]; rfl
         have f3 := frozen_of hv3 0
         obtain ⟨g, gc, rfl⟩ : ∃ g gc, v' = .slice (some ⟨g, 0, none⟩) (pre.length + 1) gc := by
           rcases hown'.2 with ⟨_, h0⟩ | ⟨g, gc, _, e, _⟩
           · exact absurd h0 (by omega)
           · exact ⟨g, gc, e⟩
         go_frame)
      | gi_round_op_a)
    have hbx : w3.grownBy (w3.setCell ⟨w.heap.size, 0, none⟩ (.slice (some ⟨g, 0, none⟩) (pre.length + 1) gc)) (some w.heap.size) := grownBy_setCell0_a _ _ _
    have hg3' : (W.alloc (.cells #[.int .i64 x] 3)).grownBy w3 v.ownBlock := hg3
    have hb3 : Below w.heap.size (W.alloc (.cells #[.int .i64 x] 3)) w3 := grown_below hg3' (by simp; omega) (fun k e => (hrlt k e).1)
    have hb4 : Below w.heap.size W (w3.setCell ⟨w.heap.size, 0, none⟩ (.slice (some ⟨g, 0, none⟩) (pre.length + 1) gc)) := ((hbW.mono hs1).trans hb3).setCell (p := ⟨w.heap.size, 0, none⟩) (Nat.le_refl _) _
    refine ⟨(hk1.trans (Y := W.alloc (.cells #[.int .i64 x] 3)) ⟨hg3'.size, fun k o _ hk ho => (hg3'.block k (Array.getElem?_eq_some_iff.1 hk).1 (fun e => ?_)).trans hk⟩).trans ((KeepsOthers.setCell _ _ _).from _), hb4, ⟨_, heap_setCell_box_a _ hv3, ?_⟩, hB1.trans hb4⟩
    · rcases hrow.2 with ⟨rfl, _⟩ | ⟨g1, cp, cur, rfl, _, hbk, _⟩
      · cases e
      · have e1 : k = g1 := by simpa [Value.ownBlock] using e
        subst e1
        have h9 := (Below.heap_alloc W (.cells #[.int .i64 x] 3) k (Array.getElem?_eq_some_iff.1 hbk).1).trans hbk
        rw [hk] at h9
        cases h9
        cases ho
    · have h9 := ownsRow_grown hown' hbx (fun k hk e => by
        cases e
        exact colI_ne (ys := pre ++ [x]) (by simpa using hown') hv3 (fun cur e => by cases e) hk.symm)
      simpa using h9
  case done =>
    rintro D ys W hD rfl ⟨⟨v, hv, hrow⟩, hB1⟩ hK
    have c0 : W.cell? ⟨w.heap.size, 0, none⟩ = some v := by rw [cells_of_block hv]; rfl
    clear hc hI
    go_wp2
    refine ⟨by simp, .inl ⟨_, _, rfl, run_takeDeferred hK, ?_⟩⟩
    refine ⟨_, results_tmp rfl _ _ _, v, rfl, ownsRow_grown hrow (grownBy_putObj' W D (.deferred none)) fun k hk e => ?_, hB1.trans (belowK_b (w := w) (Nat.le_refl _) _ D _ _ (by omega) hK rfl rfl)⟩
    cases e
    exact colI_ne hrow hK (fun cur e => by cases e) hk.symm
  case stop =>
    rintro D c pre W hD - hF
    exact hF.elim
end Go.Proofs.Ytfbmeeankkfjbaa

