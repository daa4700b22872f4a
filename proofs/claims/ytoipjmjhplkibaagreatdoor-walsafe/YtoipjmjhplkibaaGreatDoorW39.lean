import Derived.Test.YtoipjmjhplkibaaGreatDoorW38
import Derived.RangeFuncNested
import Derived.RangeFuncBound
import Derived.RangeFuncCalls
import Derived.RangeFuncLeaves
import Derived.Shelf.Abstract
import Derived.Shelf.RegionOpen
import Derived.OwnWalkIn
import Derived.TacticsInMore
import Derived.LoopNIn
import Derived.LoopIn
/- The contract of slices.Backward over a slice of segments: it hands the segments on from the last to the first, to whatever loop body. -/
namespace Go.Proofs.YtoipjmjhplkibaaGreatDoor
open Go.RowKit Go.Shelf
attribute [local go_sem] Oper.semAt_some
set_option maxRecDepth 100000
set_option linter.unusedVariables false

/-- The slice value holds the causes zs, in a block below n₀; or it is of length 0 and there are none. -/
def Sgs {β : Type} (f : β → Nat × Option Addr × Nat × Nat) (n₀ : Nat) (W : World) (sv : Value) (zs : List β) : Prop :=
  (∃ a cap, sv = .slice a 0 cap ∧ zs = []) ∨ ∃ b off cap, sv = .slice (some ⟨b, off, none⟩) zs.length cap ∧ b < n₀ ∧
    ∀ j, (h : j < zs.length) → W.cell? ⟨b, off + j * 2, none⟩ = some (.int .i64 ((f zs[j]).1 : Int)) ∧ W.cell? ⟨b, off + j * 2 + 1, none⟩ = some (.slice (f zs[j]).2.1 (f zs[j]).2.2.1 (f zs[j]).2.2.2)
theorem Sgs.below {β : Type} {f : β → Nat × Option Addr × Nat × Nat} {n₀ : Nat} {A B : World} (h : Below n₀ A B) {sv : Value} {zs : List β} : Sgs f n₀ A sv zs → Sgs f n₀ B sv zs
  | .inl e => .inl e
  | .inr ⟨b, off, cap, e, hb, hc⟩ => .inr ⟨b, off, cap, e, hb, fun j hj => ⟨(h.cell (p := ⟨b, off + j * 2, none⟩) hb).trans (hc j hj).1, (h.cell (p := ⟨b, off + j * 2 + 1, none⟩) hb).trans (hc j hj).2⟩⟩

/-- What lay below n₀ lies as it lay, and so does block Bs. -/
def KeepB (n₀ Bs : Nat) (W W' : World) : Prop := Below n₀ W W' ∧ W'.heap[Bs]? = W.heap[Bs]?
theorem KeepB.refl (n₀ Bs : Nat) (W : World) : KeepB n₀ Bs W W := ⟨Below.refl _ _, rfl⟩
theorem KeepB.trans {n₀ Bs : Nat} {A B C : World} (h : KeepB n₀ Bs A B) (k : KeepB n₀ Bs B C) : KeepB n₀ Bs A C := ⟨h.1.trans k.1, k.2.trans h.2⟩
theorem KeepB.put {n₀ Bs : Nat} {w : World} (hn : n₀ ≤ w.heap.size) (hB : Bs < w.heap.size) (W : World) (l : Nat) (o o' : Obj) (hl : w.heap.size ≤ l) (h : W.heap[l]? = some o) (h1 : o.isCells = false) (h2 : o.isWalk = false) : KeepB n₀ Bs W (W.putObj l o') :=
  ⟨belowK_b hn W l o o' hl h h1 h2, (grownBy_putObj' W l o').block Bs (by have := (Array.getElem?_eq_some_iff.1 h).1; omega) (fun e => by cases e; omega)⟩
theorem KeepB.cell {n₀ Bs : Nat} {W W' : World} (h : KeepB n₀ Bs W W') : W'.cell? ⟨Bs, 0, none⟩ = W.cell? ⟨Bs, 0, none⟩ := World.cell?_of_block (w := W) h.2

/-- What is handed on: an index and a cause. -/
def encS {β : Type} (f : β → Nat × Option Addr × Nat × Nat) (x : Int × β) : Array Value := #[.int .i64 x.1, .agg #[.int .i64 ((f x.2).1 : Int), .slice (f x.2).2.1 (f x.2).2.2.1 (f x.2).2.2.2]]

/-- What has come when the index stands at k: the causes from the last down to the k-th. -/
def come {β : Type} (zs : List β) (pre : List (Int × β)) (k : Nat) : Prop := pre.map (·.2) = (zs.drop k).reverse

theorem come_step {β : Type} {zs : List β} {pre : List (Int × β)} {k : Nat} (h : come zs pre (k + 1)) (hk : k < zs.length) (i : Int) : come zs (pre ++ [(i, zs[k])]) k := by
  unfold come at *
  rw [List.map_append, h, List.drop_eq_getElem_cons hk, List.reverse_cons]
  rfl

theorem come_len {β : Type} {zs : List β} {pre : List (Int × β)} {k : Nat} (h : come zs pre (k + 1)) (hk : k < zs.length) : pre.length < zs.length := by
  have := congrArg List.length h
  simp at this
  omega

set_option maxHeartbeats 2000000 in
theorem back1_in {β : Type} (f : β → Nat × Option Addr × Nat × Nat) (F : Fence) (n : Nat) (h1f : F.fn 87) (hro : F.round = none) (hn : 1 ≤ n) (l Bs n₀ b off cap : Nat) (zs : List β) (hreach : zs.length ≤ 1000000) (hb : b < n₀) (J Jx : List (Int × β) → World → Prop)
    (hY : ∀ pre x W, J pre W → pre.length < zs.length → YieldAt F (n - 1) Tryz.prog l (encS f x) W fun e W' =>
      (e = .returned (.bool true) ∧ J (pre ++ [x]) W' ∧ KeepB n₀ Bs W W') ∨ (e = .returned (.bool false) ∧ Jx (pre ++ [x]) W'))
    (W : World) (hBs : W.cell? ⟨Bs, 0, none⟩ = some (.slice (some ⟨b, off, none⟩) zs.length cap)) (hc : ∀ j, (h : j < zs.length) → W.cell? ⟨b, off + j * 2, none⟩ = some (.int .i64 ((f zs[j]).1 : Int)) ∧ W.cell? ⟨b, off + j * 2 + 1, none⟩ = some (.slice (f zs[j]).2.1 (f zs[j]).2.2.1 (f zs[j]).2.2.2)) (h0 : J [] W) :
    CallsIn F n Tryz.prog 87 #[.func (.yield l) #[] #[], .pointer (some ⟨Bs, 0, none⟩)] W fun e W' => (∃ v, e = .returned v) ∧
      ((∃ ys, ys.map (·.2) = zs.reverse ∧ J ys W') ∨ (∃ pre, (∃ k, k < zs.length ∧ come zs pre k) ∧ Jx pre W')) := by
  refine callsIn_of_wp Tryz.func87 rfl h1f ?_ hro
  simp only [Tryz.ntmps87, List.size_toArray, List.length_cons, List.length_nil, Nat.reduceAdd, Nat.reduceSub, Array.replicate_succ, Array.replicate_zero, List.push_toArray, List.append_toArray, List.nil_append, List.cons_append]
  gi_wp2
  gi_loopw [3] (fun i wr => ∃ (k : Nat) (pre : List (Int × β)), k ≤ zs.length ∧ i = .int .i64 ((k : Int) - 1) ∧ Hid (come zs pre k) ∧ J pre wr ∧ KeepB n₀ Bs W wr)
    (fun i _ => (intOf i + 1).toNat)
  case atStart => exact ⟨zs.length, [], Nat.le_refl _, rfl, by show come zs [] _; simp [come], h0, KeepB.refl _ _ _⟩
  case round =>
    obtain ⟨k, pre, hk, hi, hcm, hJs, hnx⟩ := hrel
    cases k with
    | zero =>
      obtain rfl : u3 = .int .i64 (-1) := hi
      gi_wp2
      go_end0
      exact ⟨⟨_, rfl⟩, .inl ⟨pre, by have := hcm.out; simpa [come] using this, hJs⟩⟩
    | succ k =>
      have hlt : k < zs.length := by omega
      obtain rfl : u3 = .int .i64 (k : Int) := by rw [hi]; congr 1; omega
      clear hi
      obtain ⟨fn, tmps, assign, body, hy, hR⟩ := hY pre ((k : Int), zs[k]) wr hJs (come_len hcm.out hlt)
      have hcx := hc k hlt
      have hc1 := (hnx.1.cell (p := ⟨b, off + k * 2, none⟩) hb).trans hcx.1
      have hc2 := (hnx.1.cell (p := ⟨b, off + k * 2 + 1, none⟩) hb).trans hcx.2
      have hBx := hnx.cell.trans hBs
      dsimp only [encS] at hy
      clear hcx
      gi_wp2
      refine hR.mono ?_
      rintro e W3 (⟨rfl, hJ3, hk3⟩ | ⟨rfl, hJx3⟩)
      · gi_wp2
        go_roundw
        case rel => exact ⟨k, pre ++ [((k : Int), zs[k])], by omega, by go_num, come_step hcm.out hlt _, hJ3, hnx.trans hk3⟩
        case measure => simp [intOf]
      · gi_wp2
        refine bodyPost_ret (results_none rfl _ _ _) rfl ?_
        exact ⟨⟨_, rfl⟩, .inr ⟨_, ⟨k, hlt, come_step hcm.out hlt _⟩, hJx3⟩⟩

set_option maxHeartbeats 1000000 in
theorem back1_nil_in {β : Type} (f : β → Nat × Option Addr × Nat × Nat) (F : Fence) (n : Nat) (h1f : F.fn 87) (hro : F.round = none) (l Bs : Nat) (J : List (Int × β) → World → Prop) (W : World) (a : Option Addr) (cap : Nat) (hBs : W.cell? ⟨Bs, 0, none⟩ = some (.slice a 0 cap)) (h0 : J [] W) :
    CallsIn F n Tryz.prog 87 #[.func (.yield l) #[] #[], .pointer (some ⟨Bs, 0, none⟩)] W fun e W' => (∃ v, e = .returned v) ∧ J [] W' := by
  refine callsIn_of_wp Tryz.func87 rfl h1f ?_ hro
  simp only [Tryz.ntmps87, List.size_toArray, List.length_cons, List.length_nil, Nat.reduceAdd, Nat.reduceSub, Array.replicate_succ, Array.replicate_zero, List.push_toArray, List.append_toArray, List.nil_append, List.cons_append]
  gi_wp2
  gi_loopw [3] (fun i wr => i = .int .i64 (-1) ∧ J [] wr) (fun _ _ => 0)
  case atStart => exact ⟨rfl, h0⟩
  case round =>
    obtain ⟨rfl, hJs⟩ := hrel
    gi_wp2
    go_end0
    exact ⟨⟨_, rfl⟩, hJs⟩

set_option maxHeartbeats 1000000 in
theorem back_in (F : Fence) (n : Nat) (h2f : F.fn 35) (hro : F.round = none) (a : Option Addr) (len cap : Nat) (w : World) :
    CallsIn F n Tryz.prog 35 #[.slice a len cap] w fun e w' => e = .returned (.func (.func 87) #[] #[.pointer (some ⟨w.heap.size, 0, none⟩)]) ∧ w' = w.alloc (.cells #[.slice a len cap] 73) := by
  refine callsIn_of_wp Tryz.func35 rfl h2f ?_ hro
  simp only [Tryz.ntmps35, List.size_toArray, List.length_cons, List.length_nil, Nat.reduceAdd, Nat.reduceSub, Array.replicate_succ, Array.replicate_zero, List.push_toArray, List.append_toArray, List.nil_append, List.cons_append]
  gi_wp2
  go_ret
  exact ⟨rfl, rfl⟩

theorem back_stops {β : Type} (f : β → Nat × Option Addr × Nat × Nat) (F : Fence) (n : Nat) (h1f : F.fn 87) (hro : F.round = none) (hn : 1 ≤ n) (Bs n₀ : Nat) (sv : Value) (zs : List β) (hreach : zs.length ≤ 1000000) (w : World) (hBs : Bs < w.heap.size) (hn₀ : n₀ ≤ w.heap.size)
    (hc : w.cell? ⟨Bs, 0, none⟩ = some sv) (hI : Sgs f n₀ w sv zs) :
    SeqStopsK F n Tryz.prog 87 #[.pointer (some ⟨Bs, 0, none⟩) ] (encS f) (KeepB n₀ Bs) (fun ys => ys.map (·.2) = zs.reverse) (fun pre => ∃ k, k < zs.length ∧ come zs pre k) zs.length w := fun l J Jx W hW _ _ hY h0 => by
  have hc' := (hW.cell (p := ⟨Bs, 0, none⟩) hBs).trans hc
  rcases hI.below (hW.mono hn₀) with ⟨a, cap, rfl, rfl⟩ | ⟨b, off, cap, rfl, hb, hcs⟩
  · exact (back1_nil_in f F n h1f hro l Bs J W a cap hc' h0).mono fun e W' ⟨he, hj⟩ => ⟨he, .inl ⟨_, rfl, hj⟩⟩
  · exact back1_in f F n h1f hro hn l Bs n₀ b off cap zs hreach hb J Jx hY W hc' hcs h0
end Go.Proofs.YtoipjmjhplkibaaGreatDoor

/- The contract of a log's Last. -/
namespace Go.Proofs.YtoipjmjhplkibaaGreatDoor
open Go.RowKit Go.Shelf WalMath DiskMath
attribute [local go_sem] Oper.semAt_some
set_option maxRecDepth 100000
set_option linter.unusedSimpArgs false
set_option linter.unusedVariables false

/-- All records. -/
def recsOf (sg : List Seg) : List Rec := sg.flatMap Seg.recs
/-- A segment as the row has it. -/
abbrev SgIn (w : World) := { x : Seg × (Option Addr × Nat × Nat) // Pv w (.slice x.2.1 x.2.2.1 x.2.2.2) (plc 0 x.1.recs) ∧ x.1.recs.length ≤ 100000 }
def sgF {w : World} (y : SgIn w) : Nat × Option Addr × Nat × Nat := (y.1.1.num, y.1.2)
theorem sg_list {σ : Wm} {w : World} {sv : Value} {sg : List Seg} (h : SegsAt σ w sv sg) (hrl : ∀ s ∈ sg, s.recs.length ≤ 100000) : ∃ zs : List (SgIn w), zs.map (fun y => y.1.1) = sg ∧ Sgs sgF w.heap.size w sv zs := by
  by_cases h0 : sg = []
  · subst h0
    obtain ⟨a, c, e, -⟩ := h.shape
    exact ⟨[], rfl, .inl ⟨a, c, e, rfl⟩⟩
  obtain ⟨g, cap, e, h1, h2, h3, h4, h5, h6⟩ := h.cells h0
  have key : ∀ n, n ≤ sg.length → ∃ zs : List (SgIn w), zs.map (fun y => y.1.1) = sg.take n ∧ zs.length = n ∧ ∀ j, (hj : j < zs.length) → w.cell? ⟨g, 0 + j * 2, none⟩ = some (.int .i64 ((sgF zs[j]).1 : Int)) ∧ w.cell? ⟨g, 0 + j * 2 + 1, none⟩ = some (.slice (sgF zs[j]).2.1 (sgF zs[j]).2.2.1 (sgF zs[j]).2.2.2) := by
    intro n
    induction n with
    | zero => exact fun _ => ⟨[], by simp, rfl, fun j hj => by simp at hj⟩
    | succ n ih =>
      intro hn
      obtain ⟨zs, z1, z2, z3⟩ := ih (by omega)
      have hs := List.getElem?_eq_getElem (show n < sg.length by omega)
      obtain ⟨v, c1, c2, c3, -⟩ := h6 n _ hs
      obtain ⟨pa, pc, pe, -⟩ := c3.shape
      have hpv := c3.pv
      rw [pe] at hpv c2
      refine ⟨zs ++ [⟨(sg[n], pa, _, pc), hpv, hrl _ (List.getElem_mem _)⟩], ?_, by simp [z2], fun j hj => ?_⟩
      · rw [List.map_append, z1, List.take_succ_eq_append_getElem (by omega)]
        rfl
      · rw [Nat.zero_add]
        by_cases hjn : j < n
        · rw [List.getElem_append_left (by omega)]
          have := z3 j (by omega)
          rw [Nat.zero_add] at this
          exact this
        · have : j = n := by
            simp [z2] at hj
            omega
          subst this
          rw [List.getElem_append_right (by omega)]
          simp only [z2, Nat.sub_self, List.getElem_cons_zero]
          exact ⟨c1, c2⟩
  obtain ⟨zs, z1, z2, z3⟩ := key sg.length (Nat.le_refl _)
  exact ⟨zs, by rw [z1, List.take_length], .inr ⟨g, 0, cap, by rw [e, z2], h4, z3⟩⟩

theorem recsOf_tail {a b : List Seg} (hb : ∀ s ∈ b, s.recs = []) (s : Seg) (hs : s.recs ≠ []) : lastIx 0 (recsOf (a ++ s :: b)) = lastIx 0 s.recs := by
  have e : recsOf b = [] := by
    unfold recsOf
    rw [List.flatMap_eq_nil_iff]
    exact hb
  have e2 : recsOf (a ++ s :: b) = recsOf a ++ s.recs := by
    unfold recsOf at *
    rw [List.flatMap_append, List.flatMap_cons, e, List.append_nil]
  rw [e2, lastIx_append]
  cases hr : s.recs with
  | nil => exact absurd hr hs
  | cons r rs => rfl
theorem results_u64 {fn : Func} {p : Tmp} (h : fn.results = #[.cell p 31]) (tmps : Array Value) (w : World) (g : Nat) (a : Value)
    (hp : tmps.getD p undef = .pointer (some ⟨g, 0, none⟩)) (hg : w.heap[g]? = some (.cells #[a] 31 (0, 0))) :
    (results fn tmps).run Tryz.prog w = .ok a w := by
  have hp' : tmps[p]?.getD undef = .pointer (some ⟨g, 0, none⟩) := by simpa using hp
  have hc : w.cell? ⟨g, 0, none⟩ = some a := by rw [cells_of_block hg]; rfl
  simp [results, h, hp', asAddr, go_sem, hc]

set_option maxHeartbeats 4000000 in
theorem last_of {S : Nat → Prop} {σ : Wm} {w : World} {q : Nat} {d sv : Value} {sg : List Seg} {fs : Files} (hT : Tb w) (hD : Dk S w d fs) (hW : WalAt σ w q d sv sg) (hc : Cons sg fs) (hrl : ∀ s ∈ sg, s.recs.length ≤ 100000) :
    Calls Tryz.prog 10 #[.pointer (some ⟨q, 0, none⟩)] w fun e w' => e = .returned (.int .u64 (lastIx 0 (recsOf sg) : Int)) ∧ Below w.heap.size w w' := by
  obtain ⟨R, HR⟩ : ∃ R, Hid (R = lastIx 0 (recsOf sg)) := ⟨_, rfl⟩
  rw [← HR.out]
  have hb0 : Below w.heap.size w (w.alloc (.cells #[.int .u64 0] 31)) := (Below.refl _ _).alloc (Nat.le_refl _) _
  have hs0 : (w.alloc (.cells #[.int .u64 0] 31)).heap.size = w.heap.size + 1 := by simp
  have hbk0 := heap_alloc_new w (.cells #[.int .u64 0] 31)
  have ka := wawake_of (hT.new hb0) (diskOf.below hD hb0) (hW.below hb0) hc
  have hql : q < w.heap.size := hW.segs.lt q (by rw [hW.mark]; simp)
  refine (callsIn_wide (n := 6)).1 ?_
  refine callsIn_of_wp_marks Tryz.func10 rfl trivial ?_ rfl
  refine wpIn_wide.2 ?_
  simp only [Tryz.ntmps10, List.size_toArray, List.length_cons, List.length_nil, Nat.reduceAdd, Nat.reduceSub, Array.replicate_succ, Array.replicate_zero, List.push_toArray, List.append_toArray, List.nil_append, List.cons_append]
  go_wp2_with fail
  refine ka.mono ?_
  rintro e w1 ⟨rfl, hb1⟩
  have hb01 : Below w.heap.size w w1 := hb0.trans (hb1.mono hb0.size)
  have hrb := (hb1.block w.heap.size (by omega)).trans hbk0
  have hW1 := hW.below hb01
  have c1 : w1.cell? ⟨q, 1, none⟩ = some sv := by rw [cells_of_block hW1.block]; rfl
  obtain ⟨zs, hzs, hSg⟩ := sg_list hW1.segs hrl
  obtain ⟨sa, sc, rfl, -⟩ := hW.segs.shape
  clear ka
  go_wp2_with (go_at_call 35; refine (callsIn_wide.1 (back_in Fence.wide 6 trivial rfl _ _ _ _)).mono ?_; rintro e w' ⟨rfl, rfl⟩)
  have hsW : (w1.alloc (.cells #[.slice sa sg.length sc] 73)).heap.size = w1.heap.size + 1 := by simp
  have hbW : Below w1.heap.size w1 (w1.alloc (.cells #[.slice sa sg.length sc] 73)) := (Below.refl _ _).alloc (Nat.le_refl _) _
  have hbkW := heap_alloc_new w1 (.cells #[.slice sa sg.length sc] 73)
  have hcW : (w1.alloc (.cells #[.slice sa sg.length sc] 73)).cell? ⟨w1.heap.size, 0, none⟩ = some (.slice sa sg.length sc) := by rw [cells_of_block hbkW]; rfl
  have hzl : zs.length ≤ 1000000 := by
    have := congrArg List.length hzs
    rw [List.length_map] at this
    have := hc.1
    omega
  have hrl1 : w.heap.size < w1.heap.size := by have := hb1.size; omega
  have hrbW := (hbW.block w.heap.size hrl1).trans hrb
  have hb0W := hb01.trans (hbW.mono hb01.size)
  obtain ⟨W0, hW0⟩ : ∃ W0, w1.alloc (.cells #[.slice sa sg.length sc] 73) = W0 := ⟨_, rfl⟩
  rw [hW0] at hsW hbW hbkW hcW hrbW hb0W ⊢
  clear hW0
  refine (wpIn_wide (n := 6)).1 ?_
  refine wpIn_rangeFunc_ownH (α := Int × SgIn w1) rfl (by omega) (gf := 87) (lb := #[.pointer (some ⟨w1.heap.size, 0, none⟩)]) rfl trivial (enters_of Tryz.func87 (by kernel_rfl) rfl)
    (back_stops sgF Fence.wide _ trivial rfl (by omega) w1.heap.size w1.heap.size (.slice sa sg.length sc) zs hzl W0 (by omega) hbW.size hcW (hSg.below hbW)) KeepB.trans (KeepB.put hbW.size (by omega)) (Below.refl _ _) (fun _ => rfl)
    (fun pre W => (∀ y ∈ pre, y.2.1.1.recs = []) ∧ Below W0.heap.size W0 W)
    (fun c pre W => (c = .ret ∧ ∃ pre0 x, pre = pre0 ++ [x] ∧ (∀ y ∈ pre0, y.2.1.1.recs = []) ∧ x.2.1.1.recs ≠ [] ∧ W.heap[w.heap.size]? = some (.cells #[.int .u64 (lastIx 0 x.2.1.1.recs : Int)] 31 (0, 0))) ∧ Below w.heap.size w W)
    (OwnFrom.and (fun s A B row hs hg hr => hs) (ownFrom_below (Nat.le_refl _) (Nat.le_refl _)))
    (fun c => OwnFrom.and (fun s A B row hs hg hr => by
      obtain ⟨h1, pre0, x, h2, h3, h4, h5⟩ := hs
      exact ⟨h1, pre0, x, h2, h3, h4, (hg.block w.heap.size (Array.getElem?_eq_some_iff.1 h5).1 (fun e => by have := (hr _ e.symm).1; omega)).trans h5⟩) (ownFrom_below (Nat.le_refl _) (by omega)))
    ⟨by simp, Below.refl _ _⟩
    (fun x a' W => ∃ Bx, w1.heap.size < Bx ∧ W.heap[Bx]? = some (.cells #[.int .i64 ((sgF x.2).1 : Int), .slice (sgF x.2).2.1 (sgF x.2).2.2.1 (sgF x.2).2.2.2] 81 (0, 0)) ∧ a' = { tmps := #[.pointer (some ⟨q, 0, none⟩), undef, .pointer (some ⟨w.heap.size, 0, none⟩), undef, .pointer (some ⟨Bx, 0, none⟩), .pointer (some ⟨q, 0, none⟩), .bool true, .bool false, .pointer (some ⟨q, 0, none⟩), .pointer (some ⟨q, 0, none⟩), .pointer (some ⟨q, 1, none⟩), .slice sa sg.length sc, .func (.func 87) #[] #[.pointer (some ⟨w1.heap.size, 0, none⟩)], .int .i64 x.1, .agg #[.int .i64 ((sgF x.2).1 : Int), .slice (sgF x.2).2.1 (sgF x.2).2.2.1 (sgF x.2).2.2.2], undef, undef, undef, undef, undef, undef], defers := [] })
    (fun x a' _ X Y row hs hg hr => by
      obtain ⟨Bx, h1, h2, h3⟩ := hs
      exact ⟨Bx, h1, (hg.block Bx (Array.getElem?_eq_some_iff.1 h2).1 (fun e => by
        obtain ⟨o, ho, hc⟩ := (hr Bx e.symm).2
        rw [h2] at ho; cases ho; cases hc)).trans h2, h3⟩)
    ?assign ?body ?done ?stop
  case assign =>
    rintro l pre x W K ⟨hpre, hB1⟩ hK
    dsimp only [encS]
    gi_wp2
    have hb2 : Below W.heap.size W (W.alloc (.cells #[.int .i64 ((sgF x.2).1 : Int), .slice (sgF x.2).2.1 (sgF x.2).2.2.1 (sgF x.2).2.2.2] 81)) := (Below.refl _ W).alloc (Nat.le_refl _) _
    have hsz := hB1.size
    exact hK _ _ ((KeepsOthers.alloc _ _).from _) ⟨hb2.mono (by omega), hb2.block _ (by omega)⟩ ⟨hpre, hB1.trans (hb2.mono hB1.size)⟩ ⟨W.heap.size, by omega, World.alloc_heap_new W _, rfl⟩
  case body =>
    rintro l pre x a' W hl ⟨r, hr⟩ ⟨hpre, hB1⟩ ⟨Bx, hBx, bX, rfl⟩ hlt
    have hsz := hB1.size
    have e0 : W.cell? ⟨Bx, 0, none⟩ = some (.int .i64 ((sgF x.2).1 : Int)) := by rw [cells_of_block bX]; rfl
    have e1 : W.cell? ⟨Bx, 1, none⟩ = some (.slice (sgF x.2).2.1 (sgF x.2).2.2.1 (sgF x.2).2.2.2) := by rw [cells_of_block bX]; rfl
    have hxl : (sgF x.2).2.2.1 = x.2.1.1.recs.length := by
      obtain ⟨ao, cap, e, -⟩ := x.2.2.1
      injection e with _ e _
      rw [plc_length] at e
      exact e
    have hb1W : Below w1.heap.size w1 W := hbW.trans (hB1.mono hbW.size)
    by_cases hne : x.2.1.1.recs = []
    · have hn0 : (sgF x.2).2.2.1 = 0 := by rw [hxl, hne]; rfl
      have hfin : Hid (KeepsFrom W0.heap.size W W ∧ KeepB w1.heap.size w1.heap.size W W ∧ (∀ y ∈ pre ++ [x], y.2.1.1.recs = []) ∧ Below W0.heap.size W0 W) := ⟨(KeepsOthers.refl _).from _, KeepB.refl _ _ _, fun y hy => by
        rcases List.mem_append.1 hy with hy | hy
        · exact hpre y hy
        · rw [List.mem_singleton.1 hy]
          exact hne, hB1⟩
      rw [hn0] at e1 ⊢
      clear hxl hne hpre hr hlt bX
      gi_wp2
      exact hfin.out
    · have hn0 : 0 < (sgF x.2).2.2.1 := by rw [hxl]; exact List.length_pos_iff.2 hne
      have hn0i : (0 : Int) < ((sgF x.2).2.2.1 : Int) := by omega
      have kl := slast_of ((sgF x.2).1 : Int) (.slice (sgF x.2).2.1 (sgF x.2).2.2.1 (sgF x.2).2.2.2) _ W (x.2.2.1.below hb1W) (by rw [plc_length]; have := x.2.2.2; omega)
      rw [lastI_plc] at kl
      have hrbw := (hB1.block w.heap.size (by omega)).trans hrbW
      have hfin : ∀ w', Below W.heap.size W w' → Hid (w'.cell? ⟨w.heap.size, 0, none⟩ = some (.int .u64 0) ∧ w'.frozen? ⟨w.heap.size, 0, none⟩ = false ∧ KeepsFrom W0.heap.size W (w'.setCell ⟨w.heap.size, 0, none⟩ (.int .u64 (lastIx 0 x.2.1.1.recs : Int))) ∧ ((Code.ret = .ret ∧ ∃ p0 y, pre ++ [x] = p0 ++ [y] ∧ (∀ z ∈ p0, z.2.1.1.recs = []) ∧ y.2.1.1.recs ≠ [] ∧ (w'.setCell ⟨w.heap.size, 0, none⟩ (.int .u64 (lastIx 0 x.2.1.1.recs : Int))).heap[w.heap.size]? = some (.cells #[.int .u64 (lastIx 0 y.2.1.1.recs : Int)] 31 (0, 0))) ∧ Below w.heap.size w (w'.setCell ⟨w.heap.size, 0, none⟩ (.int .u64 (lastIx 0 x.2.1.1.recs : Int))))) := fun w' hb' => by
        have hk := (hb'.block w.heap.size (by omega)).trans hrbw
        refine ⟨by rw [cells_of_block hk]; rfl, frozen_of hk 0, KeepsFrom.trans (Y := w') ⟨hb'.size, fun k o _ hk' _ => (hb'.block k (Array.getElem?_eq_some_iff.1 hk').1).trans hk'⟩ ((KeepsOthers.setCell _ _ _).from _), ⟨rfl, pre, x, rfl, hpre, hne, by simp [World.setCell, Array.getElem?_modify, hk]⟩, ?_⟩
        have hbb : Below w.heap.size w w' := hb0W.trans ((hB1.mono (by omega)).trans (hb'.mono (by omega)))
        exact hbb.setCell (p := ⟨w.heap.size, 0, none⟩) (Nat.le_refl _) _
      generalize lastIx 0 x.2.1.1.recs = L at *
      obtain ⟨sx, hsx⟩ : ∃ t, t = (sgF x.2).2.2.1 := ⟨_, rfl⟩
      rw [← hsx] at e1 hn0 hn0i kl ⊢
      clear hxl hne hpre hr hlt bX hsx hB1
      gi_wp2_with (refine ⟨trivial, ?_⟩; gi_at_call 36; refine (CallsIn.inRound l (callsIn_wide.2 kl)).mono ?_; rintro e w' ⟨rfl, hb'⟩; obtain ⟨z0, z1, hf2⟩ := (hfin w' hb').out; have hf3 : Hid _ := hf2; clear hf2)
      exact ⟨hf3.out.1, ⟨rfl, hf3.out.2.1.2⟩, hf3.out.2.2⟩
  case done =>
    rintro D ys W hD hys ⟨hpre, hB1⟩ hK
    have hsz := hB1.size
    have hrbw := (hB1.block w.heap.size (by omega)).trans hrbW
    have z0 : W.cell? ⟨w.heap.size, 0, none⟩ = some (.int .u64 0) := by rw [cells_of_block hrbw]; rfl
    have z1 := frozen_of hrbw 0
    have hemp : lastIx 0 (recsOf sg) = 0 := by
      have he : recsOf sg = [] := by
        unfold recsOf
        rw [List.flatMap_eq_nil_iff]
        intro s hs
        rw [← hzs] at hs
        obtain ⟨y, hy, rfl⟩ := List.mem_map.1 hs
        have hy2 : y ∈ ys.map (·.2) := by rw [hys]; exact List.mem_reverse.2 hy
        obtain ⟨z, hz, rfl⟩ := List.mem_map.1 hy2
        exact hpre z hz
      rw [he]
      rfl
    have hempH : Hid (R = 0) := by show _ = _; rw [HR.out, hemp]
    have hbf : Below w.heap.size w (W.setCell ⟨w.heap.size, 0, none⟩ (.int .u64 0)) := (hb0W.trans (hB1.mono (by omega))).setCell (p := ⟨w.heap.size, 0, none⟩) (Nat.le_refl _) _
    have hKf : (W.setCell ⟨w.heap.size, 0, none⟩ (.int .u64 0)).heap[D]? = some (.deferred (some [])) := (set_same 0 _ (by omega)).trans hK
    have hrf : (W.setCell ⟨w.heap.size, 0, none⟩ (.int .u64 0)).heap[w.heap.size]? = some (.cells #[.int .u64 0] 31 (0, 0)) := by simp [World.setCell, Array.getElem?_modify, hrbw]
    clear hpre hys hemp
    go_wp2
    refine ⟨by simp, .inl ⟨_, _, rfl, run_takeDeferred hKf, ?_⟩⟩
    have hrf2 := ((grownBy_putObj' (W.setCell ⟨w.heap.size, 0, none⟩ (.int .u64 0)) D (.deferred none)).block w.heap.size (Array.getElem?_eq_some_iff.1 hrf).1 (fun e => by cases e; omega)).trans hrf
    exact ⟨_, results_u64 rfl _ _ w.heap.size _ rfl hrf2, by rw [hempH.out]; rfl, hbf.trans (belowK_b (w := w) (Nat.le_refl _) _ D _ _ (by omega) hKf rfl rfl)⟩
  case stop =>
    rintro D c pre W hD ⟨k, hk, hcm⟩ ⟨⟨rfl, pre0, x, h2, h3, h4, h5⟩, hBx⟩ hK
    have hval : lastIx 0 (recsOf sg) = lastIx 0 x.2.1.1.recs := by
      unfold come at hcm
      rw [h2, List.map_append, List.drop_eq_getElem_cons hk, List.reverse_cons] at hcm
      obtain ⟨g1, g2⟩ := List.append_inj' hcm rfl
      have hx2 : x.2 = zs[k] := by simpa using g2
      have hsg : sg = (zs.take k).map (fun y => y.1.1) ++ x.2.1.1 :: (zs.drop (k + 1)).map (fun y => y.1.1) := by
        rw [← hzs, hx2, ← List.map_cons (f := fun y : SgIn w1 => y.1.1), ← List.drop_eq_getElem_cons hk, ← List.map_append, List.take_append_drop]
      rw [hsg]
      refine recsOf_tail (fun s hs => ?_) _ h4
      obtain ⟨y, hy, rfl⟩ := List.mem_map.1 hs
      have hy2 : y ∈ pre0.map (·.2) := by rw [g1]; exact List.mem_reverse.2 hy
      obtain ⟨z, hz, rfl⟩ := List.mem_map.1 hy2
      exact h3 z hz
    have hvalH : Hid (R = lastIx 0 x.2.1.1.recs) := by show _ = _; rw [HR.out, hval]
    clear hval hcm h2 h3
    gi_wp2
    refine ⟨by simp, .inl ⟨_, _, rfl, run_takeDeferred hK, ?_⟩⟩
    have hrf2 := ((grownBy_putObj' W D (.deferred none)).block w.heap.size (Array.getElem?_eq_some_iff.1 h5).1 (fun e => by cases e; omega)).trans h5
    exact ⟨_, results_u64 rfl _ _ w.heap.size _ rfl hrf2, by rw [hvalH.out], hBx.trans (belowK_b (w := w) (Nat.le_refl _) _ D _ _ (by omega) hK rfl rfl)⟩
end Go.Proofs.YtoipjmjhplkibaaGreatDoor

