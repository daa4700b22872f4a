import Derived.Test.YtgfoogeiancecaaGreatDoorHw30
import Derived.RangeFuncNested
import Derived.RangeFuncBound
import Derived.RangeFuncCalls
import Derived.RangeFuncLeaves
import Derived.Shelf.Abstract
import Derived.Shelf.RegionOpen
import Derived.OwnWalkIn
import Derived.TacticsInMore
import Derived.LoopNIn
import Derived.LoopIn
/- The contract of slices.Backward over a slice of segments: it hands the segments on from the last to the first, to whatever loop body. -/
namespace Go.Proofs.YtgfoogeiancecaaGreatDoor
open Go.RowKit Go.Shelf
attribute [local go_sem] Oper.semAt_some
set_option maxRecDepth 100000
set_option linter.unusedVariables false

/-- The slice value holds the causes zs, in a block below n₀; or it is of length 0 and there are none. -/
def Sgs {β : Type} (f : β → Nat × Option Addr × Nat × Nat) (n₀ : Nat) (W : World) (sv : Value) (zs : List β) : Prop :=
  (∃ a cap, sv = .slice a 0 cap ∧ zs = []) ∨ ∃ b off cap, sv = .slice (some ⟨b, off, none⟩) zs.length cap ∧ b < n₀ ∧
    ∀ j, (h : j < zs.length) → W.cell? ⟨b, off + j * 2, none⟩ = some (.int .i64 ((f zs[j]).1 : Int)) ∧ W.cell? ⟨b, off + j * 2 + 1, none⟩ = some (.slice (f zs[j]).2.1 (f zs[j]).2.2.1 (f zs[j]).2.2.2)
theorem Sgs.below {β : Type} {f : β → Nat × Option Addr × Nat × Nat} {n₀ : Nat} {A B : World} (h : Below n₀ A B) {sv : Value} {zs : List β} : Sgs f n₀ A sv zs → Sgs f n₀ B sv zs
  | .inl e => .inl e
  | .inr ⟨b, off, cap, e, hb, hc⟩ => .inr ⟨b, off, cap, e, hb, fun j hj => ⟨(h.cell (p := ⟨b, off + j * 2, none⟩) hb).trans (hc j hj).1, (h.cell (p := ⟨b, off + j * 2 + 1, none⟩) hb).trans (hc j hj).2⟩⟩

/-- What lay below n₀ lies as it lay, and so does block Bs. -/
def KeepB (n₀ Bs : Nat) (W W' : World) : Prop := Below n₀ W W' ∧ W'.heap[Bs]? = W.heap[Bs]?
theorem KeepB.refl (n₀ Bs : Nat) (W : World) : KeepB n₀ Bs W W := ⟨Below.refl _ _, rfl⟩
theorem KeepB.trans {n₀ Bs : Nat} {A B C : World} (h : KeepB n₀ Bs A B) (k : KeepB n₀ Bs B C) : KeepB n₀ Bs A C := ⟨h.1.trans k.1, k.2.trans h.2⟩
theorem KeepB.put {n₀ Bs : Nat} {w : World} (hn : n₀ ≤ w.heap.size) (hB : Bs < w.heap.size) (W : World) (l : Nat) (o o' : Obj) (hl : w.heap.size ≤ l) (h : W.heap[l]? = some o) (h1 : o.isCells = false) (h2 : o.isWalk = false) : KeepB n₀ Bs W (W.putObj l o') :=
  ⟨belowK_b hn W l o o' hl h h1 h2, (grownBy_putObj' W l o').block Bs (by have := (Array.getElem?_eq_some_iff.1 h).1; omega) (fun e => by cases e; omega)⟩
theorem KeepB.cell {n₀ Bs : Nat} {W W' : World} (h : KeepB n₀ Bs W W') : W'.cell? ⟨Bs, 0, none⟩ = W.cell? ⟨Bs, 0, none⟩ := World.cell?_of_block (w := W) h.2

/-- What is handed on: an index and a cause. -/
def encS {β : Type} (f : β → Nat × Option Addr × Nat × Nat) (x : Int × β) : Array Value := #[.int .i64 x.1, .agg #[.int .i64 ((f x.2).1 : Int), .slice (f x.2).2.1 (f x.2).2.2.1 (f x.2).2.2.2]]

/-- What has come when the index stands at k: the causes from the last down to the k-th. -/
def come {β : Type} (zs : List β) (pre : List (Int × β)) (k : Nat) : Prop := pre.map (·.2) = (zs.drop k).reverse

theorem come_step {β : Type} {zs : List β} {pre : List (Int × β)} {k : Nat} (h : come zs pre (k + 1)) (hk : k < zs.length) (i : Int) : come zs (pre ++ [(i, zs[k])]) k := by
  unfold come at *
  rw [List.map_append, h, List.drop_eq_getElem_cons hk, List.reverse_cons]
  rfl

theorem come_len {β : Type} {zs : List β} {pre : List (Int × β)} {k : Nat} (h : come zs pre (k + 1)) (hk : k < zs.length) : pre.length < zs.length := by
  have := congrArg List.length h
  simp at this
  omega

set_option maxHeartbeats 2000000 in
theorem back1_in {β : Type} (f : β → Nat × Option Addr × Nat × Nat) (F : Fence) (n : Nat) (h1f : F.fn 61) (hro : F.round = none) (hn : 1 ≤ n) (l Bs n₀ b off cap : Nat) (zs : List β) (hreach : zs.length ≤ 1000000) (hb : b < n₀) (J Jx : List (Int × β) → World → Prop)
    (hY : ∀ pre x W, J pre W → pre.length < zs.length → YieldAt F (n - 1) Tryz.prog l (encS f x) W fun e W' =>
      (e = .returned (.bool true) ∧ J (pre ++ [x]) W' ∧ KeepB n₀ Bs W W') ∨ (e = .returned (.bool false) ∧ Jx (pre ++ [x]) W'))
    (W : World) (hBs : W.cell? ⟨Bs, 0, none⟩ = some (.slice (some ⟨b, off, none⟩) zs.length cap)) (hc : ∀ j, (h : j < zs.length) → W.cell? ⟨b, off + j * 2, none⟩ = some (.int .i64 ((f zs[j]).1 : Int)) ∧ W.cell? ⟨b, off + j * 2 + 1, none⟩ = some (.slice (f zs[j]).2.1 (f zs[j]).2.2.1 (f zs[j]).2.2.2)) (h0 : J [] W) :
    CallsIn F n Tryz.prog 61 #[.func (.yield l) #[] #[], .pointer (some ⟨Bs, 0, none⟩)] W fun e W' => (∃ v, e = .returned v) ∧
      ((∃ ys, ys.map (·.2) = zs.reverse ∧ J ys W') ∨ (∃ pre, (∃ k, k < zs.length ∧ come zs pre k) ∧ Jx pre W')) := by
  refine callsIn_of_wp Tryz.func61 rfl h1f ?_ hro
  simp only [Tryz.ntmps61, List.size_toArray, List.length_cons, List.length_nil, Nat.reduceAdd, Nat.reduceSub, Array.replicate_succ, Array.replicate_zero, List.push_toArray, List.append_toArray, List.nil_append, List.cons_append]
  gi_wp2
  gi_loopw [3] (fun i wr => ∃ (k : Nat) (pre : List (Int × β)), k ≤ zs.length ∧ i = .int .i64 ((k : Int) - 1) ∧ Hid (come zs pre k) ∧ J pre wr ∧ KeepB n₀ Bs W wr)
    (fun i _ => (intOf i + 1).toNat)
  case atStart => exact ⟨zs.length, [], Nat.le_refl _, rfl, by show come zs [] _; simp [come], h0, KeepB.refl _ _ _⟩
  case round =>
    obtain ⟨k, pre, hk, hi, hcm, hJs, hnx⟩ := hrel
    cases k with
    | zero =>
      obtain rfl : u3 = .int .i64 (-1) := hi
      gi_wp2
      go_end0
      exact ⟨⟨_, rfl⟩, .inl ⟨pre, by have := hcm.out; simpa [come] using this, hJs⟩⟩
    | succ k =>
      have hlt : k < zs.length := by omega
      obtain rfl : u3 = .int .i64 (k : Int) := by rw [hi]; congr 1; omega
      clear hi
      obtain ⟨fn, tmps, assign, body, hy, hR⟩ := hY pre ((k : Int), zs[k]) wr hJs (come_len hcm.out hlt)
      have hcx := hc k hlt
      have hc1 := (hnx.1.cell (p := ⟨b, off + k * 2, none⟩) hb).trans hcx.1
      have hc2 := (hnx.1.cell (p := ⟨b, off + k * 2 + 1, none⟩) hb).trans hcx.2
      have hBx := hnx.cell.trans hBs
      dsimp only [encS] at hy
      clear hcx
      gi_wp2
      refine hR.mono ?_
      rintro e W3 (⟨rfl, hJ3, hk3⟩ | ⟨rfl, hJx3⟩)
      · gi_wp2
        go_roundw
        case rel => exact ⟨k, pre ++ [((k : Int), zs[k])], by omega, by go_num, come_step hcm.out hlt _, hJ3, hnx.trans hk3⟩
        case measure => simp [intOf]
      · gi_wp2
        refine bodyPost_ret (results_none rfl _ _ _) rfl ?_
        exact ⟨⟨_, rfl⟩, .inr ⟨_, ⟨k, hlt, come_step hcm.out hlt _⟩, hJx3⟩⟩

set_option maxHeartbeats 1000000 in
theorem back1_nil_in {β : Type} (f : β → Nat × Option Addr × Nat × Nat) (F : Fence) (n : Nat) (h1f : F.fn 61) (hro : F.round = none) (l Bs : Nat) (J : List (Int × β) → World → Prop) (W : World) (a : Option Addr) (cap : Nat) (hBs : W.cell? ⟨Bs, 0, none⟩ = some (.slice a 0 cap)) (h0 : J [] W) :
    CallsIn F n Tryz.prog 61 #[.func (.yield l) #[] #[], .pointer (some ⟨Bs, 0, none⟩)] W fun e W' => (∃ v, e = .returned v) ∧ J [] W' := by
  refine callsIn_of_wp Tryz.func61 rfl h1f ?_ hro
  simp only [Tryz.ntmps61, List.size_toArray, List.length_cons, List.length_nil, Nat.reduceAdd, Nat.reduceSub, Array.replicate_succ, Array.replicate_zero, List.push_toArray, List.append_toArray, List.nil_append, List.cons_append]
  gi_wp2
  gi_loopw [3] (fun i wr => i = .int .i64 (-1) ∧ J [] wr) (fun _ _ => 0)
  case atStart => exact ⟨rfl, h0⟩
  case round =>
    obtain ⟨rfl, hJs⟩ := hrel
    gi_wp2
    go_end0
    exact ⟨⟨_, rfl⟩, hJs⟩

set_option maxHeartbeats 1000000 in
theorem back_in (F : Fence) (n : Nat) (h2f : F.fn 24) (hro : F.round = none) (a : Option Addr) (len cap : Nat) (w : World) :
    CallsIn F n Tryz.prog 24 #[.slice a len cap] w fun e w' => e = .returned (.func (.func 61) #[] #[.pointer (some ⟨w.heap.size, 0, none⟩)]) ∧ w' = w.alloc (.cells #[.slice a len cap] 54) := by
  refine callsIn_of_wp Tryz.func24 rfl h2f ?_ hro
  simp only [Tryz.ntmps24, List.size_toArray, List.length_cons, List.length_nil, Nat.reduceAdd, Nat.reduceSub, Array.replicate_succ, Array.replicate_zero, List.push_toArray, List.append_toArray, List.nil_append, List.cons_append]
  gi_wp2
  go_ret
  exact ⟨rfl, rfl⟩

theorem back_stops {β : Type} (f : β → Nat × Option Addr × Nat × Nat) (F : Fence) (n : Nat) (h1f : F.fn 61) (hro : F.round = none) (hn : 1 ≤ n) (Bs n₀ : Nat) (sv : Value) (zs : List β) (hreach : zs.length ≤ 1000000) (w : World) (hBs : Bs < w.heap.size) (hn₀ : n₀ ≤ w.heap.size)
    (hc : w.cell? ⟨Bs, 0, none⟩ = some sv) (hI : Sgs f n₀ w sv zs) :
    SeqStopsK F n Tryz.prog 61 #[.pointer (some ⟨Bs, 0, none⟩) ] (encS f) (KeepB n₀ Bs) (fun ys => ys.map (·.2) = zs.reverse) (fun pre => ∃ k, k < zs.length ∧ come zs pre k) zs.length w := fun l J Jx W hW _ _ hY h0 => by
  have hc' := (hW.cell (p := ⟨Bs, 0, none⟩) hBs).trans hc
  rcases hI.below (hW.mono hn₀) with ⟨a, cap, rfl, rfl⟩ | ⟨b, off, cap, rfl, hb, hcs⟩
  · exact (back1_nil_in f F n h1f hro l Bs J W a cap hc' h0).mono fun e W' ⟨he, hj⟩ => ⟨he, .inl ⟨_, rfl, hj⟩⟩
  · exact back1_in f F n h1f hro hn l Bs n₀ b off cap zs hreach hb J Jx hY W hc' hcs h0
end Go.Proofs.YtgfoogeiancecaaGreatDoor

