import Derived.Test.YtncoandnelgkeaaGreatHc09
import Derived.RangeFuncNested
import Derived.RangeFuncBound
import Derived.RangeFuncCalls
import Derived.RangeFuncLeaves
import Derived.Shelf.Abstract
import Derived.Shelf.RegionOpen
import Derived.OwnWalkIn
import Derived.TacticsInMore
import Derived.LoopNIn
import Derived.LoopIn
/- slices.Backward over entries, the program's lastVoters and Voters. -/
namespace Go.Proofs.YtncoandnelgkeaaGreat
open Go.RowKit Go.Shelf QuorumMath RlogMath
attribute [local go_sem] Oper.semAt_some
set_option maxRecDepth 100000
set_option linter.unusedSimpArgs false
set_option linter.unusedVariables false

/-- What lay below n₀ lies as it lay, and so does block Bs. -/
def KeepB (n₀ Bs : Nat) (W W' : World) : Prop := Below n₀ W W' ∧ W'.heap[Bs]? = W.heap[Bs]?
theorem KeepB.refl (n₀ Bs : Nat) (W : World) : KeepB n₀ Bs W W := ⟨Below.refl _ _, rfl⟩
theorem KeepB.trans {n₀ Bs : Nat} {A B C : World} (h : KeepB n₀ Bs A B) (k : KeepB n₀ Bs B C) : KeepB n₀ Bs A C := ⟨h.1.trans k.1, k.2.trans h.2⟩
theorem KeepB.put {n₀ Bs : Nat} {w : World} (hn : n₀ ≤ w.heap.size) (hB : Bs < w.heap.size) (W : World) (l : Nat) (o o' : Obj) (hl : w.heap.size ≤ l) (h : W.heap[l]? = some o) (h1 : o.isCells = false) (h2 : o.isWalk = false) : KeepB n₀ Bs W (W.putObj l o') :=
  ⟨belowK_b hn W l o o' hl h h1 h2, (grownBy_putObj' W l o').block Bs (by have := (Array.getElem?_eq_some_iff.1 h).1; omega) (fun e => by cases e; omega)⟩
theorem KeepB.cell {n₀ Bs : Nat} {W W' : World} (h : KeepB n₀ Bs W W') : W'.cell? ⟨Bs, 0, none⟩ = W.cell? ⟨Bs, 0, none⟩ := World.cell?_of_block (w := W) h.2

/-- What is handed on: an index and an entry. -/
def encC (x : Int × Ez) : Array Value := #[.int .i64 x.1, ev x.2]
/-- What has come when the index stands at k: the entries from the last down to the k-th. -/
def come (zs : List Ez) (pre : List (Int × Ez)) (k : Nat) : Prop := pre.map (·.2) = (zs.drop k).reverse
theorem come_step {zs : List Ez} {pre : List (Int × Ez)} {k : Nat} (h : come zs pre (k + 1)) (hk : k < zs.length) (i : Int) : come zs (pre ++ [(i, zs[k])]) k := by
  unfold come at *
  rw [List.map_append, h, List.drop_eq_getElem_cons hk, List.reverse_cons]
  rfl
theorem come_len {zs : List Ez} {pre : List (Int × Ez)} {k : Nat} (h : come zs pre (k + 1)) (hk : k < zs.length) : pre.length < zs.length := by
  have := congrArg List.length h
  simp at this
  omega

set_option maxHeartbeats 4000000 in
theorem back1_in (F : Fence) (n : Nat) (h37 : F.fn 156) (hro : F.round = none) (hn : 1 ≤ n) (l Bs n₀ cap : Nat) (ao : Option Addr) (zs : List Ez) (hreach : zs.length ≤ 1000000000) (W0 : World) (hR : Rd entE W0 (.slice ao zs.length cap) zs) (hn0 : W0.heap.size ≤ n₀) (J Jx : List (Int × Ez) → World → Prop)
    (hY : ∀ pre x W, J pre W → pre.length < zs.length → YieldAt F (n - 1) Tryz.prog l (encC x) W fun e W' =>
      (e = .returned (.bool true) ∧ J (pre ++ [x]) W' ∧ KeepB n₀ Bs W W') ∨ (e = .returned (.bool false) ∧ Jx (pre ++ [x]) W'))
    (W : World) (hW0 : Below W0.heap.size W0 W) (hBs : W.cell? ⟨Bs, 0, none⟩ = some (.slice ao zs.length cap)) (h0 : J [] W) :
    CallsIn F n Tryz.prog 156 #[.func (.yield l) #[] #[], .pointer (some ⟨Bs, 0, none⟩)] W fun e W' => (∃ v, e = .returned v) ∧
      ((∃ ys, ys.map (·.2) = zs.reverse ∧ J ys W') ∨ (∃ pre, (∃ k, come zs pre k) ∧ Jx pre W')) := by
  refine callsIn_of_wp Tryz.func156 rfl h37 ?_ hro
  simp only [Tryz.ntmps156, List.size_toArray, List.length_cons, List.length_nil, Nat.reduceAdd, Nat.reduceSub, Array.replicate_succ, Array.replicate_zero, List.push_toArray, List.append_toArray, List.nil_append, List.cons_append]
  gi_wp2
  gi_loopw [3] (fun i wr => ∃ (k : Nat) (pre : List (Int × Ez)), k ≤ zs.length ∧ i = .int .i64 ((k : Int) - 1) ∧ Hid (come zs pre k) ∧ J pre wr ∧ KeepB n₀ Bs W wr)
    (fun i _ => (intOf i + 1).toNat)
  case atStart => exact ⟨zs.length, [], Nat.le_refl _, rfl, by show come zs [] _; simp [come], h0, KeepB.refl _ _ _⟩
  case round =>
    obtain ⟨k, pre, hk, hi, hcm, hJs, hnx⟩ := hrel
    cases k with
    | zero =>
      obtain rfl : u3 = .int .i64 (-1) := hi
      gi_wp2
      go_end0
      exact ⟨⟨_, rfl⟩, .inl ⟨pre, by have := hcm.out; simpa [come] using this, hJs⟩⟩
    | succ k =>
      have hlt : k < zs.length := by omega
      obtain rfl : u3 = .int .i64 (k : Int) := by rw [hi]; congr 1; omega
      clear hi
      obtain ⟨fn, tmps, assign, body, hy, hRr⟩ := hY pre ((k : Int), zs[k]) wr hJs (come_len hcm.out hlt)
      have hz : zs[k]? = some zs[k] := List.getElem?_eq_getElem hlt
      have HST : Hid (come zs (pre ++ [((k : Int), zs[k])]) k) := come_step hcm.out hlt _
      generalize zs[k] = z at *
      obtain ⟨p, off, rfl, c⟩ := rde_at hR hz
      obtain ⟨c0, c1, c2, c3⟩ := c wr (hW0.trans (hnx.1.mono hn0))
      have hBx := hnx.cell.trans hBs
      obtain ⟨⟨ix, tm, kd, dt⟩, sa, sn, sc⟩ := z
      dsimp only [encC, ev] at hy c0 c1 c2 c3
      have hlti : (k : Int) < (zs.length : Int) := by omega
      clear c hz hR
      gi_wp2
      refine hRr.mono ?_
      rintro e W3 (⟨rfl, hJ3, hk3⟩ | ⟨rfl, hJx3⟩)
      · gi_wp2
        go_roundw
        case rel => exact ⟨k, _, by omega, by go_num, HST, hJ3, hnx.trans hk3⟩
        case measure => simp [intOf]
      · gi_wp2
        refine bodyPost_ret (results_none rfl _ _ _) rfl ?_
        exact ⟨⟨_, rfl⟩, .inr ⟨_, ⟨k, HST.out⟩, hJx3⟩⟩

set_option maxHeartbeats 1000000 in
theorem back_in (F : Fence) (n : Nat) (h25 : F.fn 141) (hro : F.round = none) (a : Option Addr) (len cap : Nat) (w : World) :
    CallsIn F n Tryz.prog 141 #[.slice a len cap] w fun e w' => e = .returned (.func (.func 156) #[] #[.pointer (some ⟨w.heap.size, 0, none⟩)]) ∧ w' = w.alloc (.cells #[.slice a len cap] 26) := by
  refine callsIn_of_wp Tryz.func141 rfl h25 ?_ hro
  simp only [Tryz.ntmps141, List.size_toArray, List.length_cons, List.length_nil, Nat.reduceAdd, Nat.reduceSub, Array.replicate_succ, Array.replicate_zero, List.push_toArray, List.append_toArray, List.nil_append, List.cons_append]
  gi_wp2
  go_ret
  exact ⟨rfl, rfl⟩

theorem back_stops (F : Fence) (n : Nat) (h37 : F.fn 156) (hro : F.round = none) (hn : 1 ≤ n) (Bs n₀ : Nat) (ao : Option Addr) (cap : Nat) (zs : List Ez) (hreach : zs.length ≤ 1000000000) (w W0 : World) (hBs : Bs < w.heap.size) (hn₀ : W0.heap.size ≤ n₀) (h0w : Below W0.heap.size W0 w)
    (hc : w.cell? ⟨Bs, 0, none⟩ = some (.slice ao zs.length cap)) (hI : Rd entE W0 (.slice ao zs.length cap) zs) :
    SeqStopsK F n Tryz.prog 156 #[.pointer (some ⟨Bs, 0, none⟩)] encC (KeepB n₀ Bs) (fun ys => ys.map (·.2) = zs.reverse) (fun pre => ∃ k, come zs pre k) zs.length w := fun l J Jx W hW _ _ hY h0 => by
  have hc' := (hW.cell (p := ⟨Bs, 0, none⟩) hBs).trans hc
  exact back1_in F n h37 hro hn l Bs n₀ cap ao zs hreach W0 hI hn₀ J Jx hY W (h0w.trans (hW.mono h0w.size)) hc' h0
end Go.Proofs.YtncoandnelgkeaaGreat

/- The program's lastVoters and Voters. -/
namespace RlogMath
theorem votF_none : ∀ {l : List Me} (d : List Nat), (∀ e ∈ l, e.kind ≠ 2) → votF d l = d
  | [], d, _ => rfl
  | a :: l, d, h => by
    rw [votF, if_neg (h a List.mem_cons_self)]
    exact votF_none d fun e he => h e (List.mem_cons_of_mem _ he)
theorem votF_some : ∀ (l1 : List Me) {e : Me} {l2 : List Me} (d : List Nat), e.kind = 2 → (∀ x ∈ l2, x.kind ≠ 2) → votF d (l1 ++ e :: l2) = e.data
  | [], e, l2, d, he, h => by
    show votF (if e.kind = 2 then e.data else d) l2 = e.data
    rw [if_pos he]
    exact votF_none _ h
  | a :: l1, e, l2, d, he, h => by
    show votF (if a.kind = 2 then a.data else d) (l1 ++ e :: l2) = e.data
    exact votF_some l1 _ he h
end RlogMath
namespace Go.Proofs.YtncoandnelgkeaaGreat
open Go.RowKit Go.Shelf QuorumMath RlogMath
attribute [local go_sem] Oper.semAt_some
set_option maxRecDepth 100000
set_option linter.unusedSimpArgs false
set_option linter.unusedVariables false

theorem results_sl {fn : Func} {p : Tmp} (h : fn.results = #[.cell p 23]) (tmps : Array Value) (w : World) (g : Nat) (a : Option Addr) (n c : Nat)
    (hp : tmps.getD p undef = .pointer (some ⟨g, 0, none⟩)) (hg : w.heap[g]? = some (.cells #[.slice a n c] 23 (0, 0))) :
    (results fn tmps).run Tryz.prog w = .ok (.slice a n c) w := by
  have hp' : tmps[p]?.getD undef = .pointer (some ⟨g, 0, none⟩) := by simpa using hp
  have hl : w.cell? ⟨g, 0, none⟩ = some (.slice a n c) := by rw [cells_of_block hg]; rfl
  have ha : (isAgg 23).run Tryz.prog w = .ok false w := by simp [isAgg, Sem.run_bind, Tryz.underlying23]
  simp [results, h, hp', asAddr, loadVar, Sem.run_bind, ha, hl]

/-- Nothing that has come is a config. -/
def NoneV (n : Nat) (W0 : World) (sv : Value) (pre : List (Int × Ez)) (W : World) : Prop := (∀ x ∈ pre, x.2.1.kind ≠ 2) ∧ Boxed W (n + 1) 23 (.slice none 0 0) ∧ Boxed W (n + 2) 26 sv ∧ Below (n + 1) W0 W
/-- The last that has come is one. -/
def SomeV (n : Nat) (W0 : World) (c : Code) (pre : List (Int × Ez)) (W : World) : Prop := c = .ret ∧ (∃ (i : Int) (z : Ez) (pre0 : List (Int × Ez)), pre = pre0 ++ [(i, z)] ∧ z.1.kind = 2 ∧ (∀ x ∈ pre0, x.2.1.kind ≠ 2) ∧ Boxed W (n + 1) 23 (.slice z.2.1 z.2.2.1 z.2.2.2)) ∧ Below (n + 1) W0 W
theorem noneV_own {n : Nat} {W0 : World} {sv : Value} {B : Nat} (hn : n + 1 ≤ W0.heap.size) (hB : n + 1 ≤ B) : OwnFrom B (NoneV n W0 sv) := by
  rintro s X Y row ⟨h1, h2, h3, h4⟩ hg hr
  exact ⟨h1, boxed_own (n + 1) _ (fun (_ : Unit) => .slice none 0 0) () X Y row h2 hg (fun r e => (hr r e).2), boxed_own (n + 2) _ (fun (_ : Unit) => sv) () X Y row h3 hg (fun r e => (hr r e).2), ownFrom_below (β := Unit) (w₀ := W0) hn hB () X Y row h4 hg hr⟩
theorem someV_own {n : Nat} {W0 : World} {c : Code} {B : Nat} (hn : n + 1 ≤ W0.heap.size) (hB : n + 1 ≤ B) : OwnFrom B (SomeV n W0 c) := by
  rintro s X Y row ⟨h1, ⟨i, z, pre0, h2, h3, h4, h5⟩, h6⟩ hg hr
  exact ⟨h1, ⟨i, z, pre0, h2, h3, h4, boxed_own (n + 1) _ (fun (_ : Unit) => _) () X Y row h5 hg (fun r e => (hr r e).2)⟩, ownFrom_below (β := Unit) (w₀ := W0) hn hB () X Y row h6 hg hr⟩

set_option maxHeartbeats 8000000 in
theorem lastv_of (b : Ez) (zs : List Ez) (lv : Value) (w0 w : World) (hD : DataV w0 b) (hDz : ∀ z ∈ zs, DataV w0 z) (hL : Rd entE w lv zs) (hlen : zs.length ≤ 1000000000) : Calls Tryz.prog 108 #[ev b, lv] w fun e w' => ∃ s : Sl, e = .returned (.slice s.1 s.2.1 s.2.2) ∧ Rd byteE w0 (.slice s.1 s.2.1 s.2.2) (votF b.1.data (mes zs)) ∧ Below w.heap.size w w' := by
  have HD : Hid (Rd byteE w0 (.slice b.2.1 b.2.2.1 b.2.2.2) b.1.data) := hD
  have HDZ : Hid (∀ z ∈ zs, Rd byteE w0 (.slice z.2.1 z.2.2.1 z.2.2.2) z.1.data) := hDz
  obtain ⟨la, lc, rfl, -, -⟩ := hL.shape
  have HL : Hid (Rd entE w (.slice la zs.length lc) zs) := hL
  clear hL hD hDz
  refine (callsIn_wide (n := 6)).1 ?_
  refine callsIn_of_wp_marks Tryz.func108 rfl trivial ?_ rfl
  simp only [Tryz.ntmps108, List.size_toArray, List.length_cons, List.length_nil, Nat.reduceAdd, Nat.reduceSub, Array.replicate_succ, Array.replicate_zero, List.push_toArray, List.append_toArray, List.nil_append, List.cons_append]
  obtain ⟨⟨ix, tm, kd, dt⟩, sa, sn, sc⟩ := b
  dsimp only [ev] at *
  gi_wp2_with (refine ⟨trivial, ?_⟩; gi_at_call 141; refine (back_in Fence.wide _ trivial rfl _ _ _ _).mono ?_; rintro e w' ⟨rfl, rfl⟩)
  obtain ⟨x1, x2, x3⟩ := one_box w (.cells #[.int .u64 (ix : Int), .int .u64 (tm : Int), .int .i64 kd, .slice sa sn sc] 25)
  have bR := (Boxed.new (w.alloc (.cells #[.int .u64 (ix : Int), .int .u64 (tm : Int), .int .i64 kd, .slice sa sn sc] 25)) 23 (.slice none 0 0)).alloc (.cells #[.slice la zs.length lc] 26)
  have bS := Boxed.new ((w.alloc (.cells #[.int .u64 (ix : Int), .int .u64 (tm : Int), .int .i64 kd, .slice sa sn sc] 25)).alloc (.cells #[.slice none 0 0] 23)) 26 (.slice la zs.length lc)
  simp only [World.size_alloc] at bR bS
  have hB0 : Below w.heap.size w (((w.alloc (.cells #[.int .u64 (ix : Int), .int .u64 (tm : Int), .int .i64 kd, .slice sa sn sc] 25)).alloc (.cells #[.slice none 0 0] 23)).alloc (.cells #[.slice la zs.length lc] 26)) := (x3.alloc (by simp) _).alloc (by simp only [World.size_alloc]; omega) _
  have hsz : (((w.alloc (.cells #[.int .u64 (ix : Int), .int .u64 (tm : Int), .int .i64 kd, .slice sa sn sc] 25)).alloc (.cells #[.slice none 0 0] 23)).alloc (.cells #[.slice la zs.length lc] 26)).heap.size = w.heap.size + 3 := by simp
  have hbb : (((w.alloc (.cells #[.int .u64 (ix : Int), .int .u64 (tm : Int), .int .i64 kd, .slice sa sn sc] 25)).alloc (.cells #[.slice none 0 0] 23)).alloc (.cells #[.slice la zs.length lc] 26)).heap[w.heap.size]? = some (.cells #[.int .u64 (ix : Int), .int .u64 (tm : Int), .int .i64 kd, .slice sa sn sc] 25 (0, 0)) := (heap_alloc_old _ _ (by simp; omega)).trans ((heap_alloc_old _ _ (by simp)).trans x2)
  obtain ⟨W0, hW0⟩ : ∃ W0, ((w.alloc (.cells #[.int .u64 (ix : Int), .int .u64 (tm : Int), .int .i64 kd, .slice sa sn sc] 25)).alloc (.cells #[.slice none 0 0] 23)).alloc (.cells #[.slice la zs.length lc] 26) = W0 := ⟨_, rfl⟩
  rw [hW0] at bR bS hB0 hsz hbb ⊢
  clear hW0 x1 x2 x3
  refine wpIn_rangeFunc_ownH (α := Int × Ez) rfl (by omega) (gf := 156) (lb := #[.pointer (some ⟨w.heap.size + 2, 0, none⟩)]) rfl trivial (enters_of Tryz.func156 (by kernel_rfl) rfl)
    (back_stops Fence.wide _ trivial rfl (by omega) (w.heap.size + 2) (w.heap.size + 1) la lc zs hlen W0 w (by omega) (by omega) hB0 bS.cell HL.out) KeepB.trans (KeepB.put (by omega) (by omega)) (Below.refl _ _) (fun _ => rfl)
    (NoneV w.heap.size W0 (.slice la zs.length lc))
    (SomeV w.heap.size W0)
    (noneV_own (by omega) (by omega))
    (fun c => someV_own (by omega) (by omega))
    ⟨fun x hx => by simp at hx, bR, bS, Below.refl _ _⟩
    (fun x a' W => ∃ Bx, w.heap.size + 2 < Bx ∧ W.heap[Bx]? = some (.cells #[.int .u64 (x.2.1.idx : Int), .int .u64 (x.2.1.term : Int), .int .i64 x.2.1.kind, .slice x.2.2.1 x.2.2.2.1 x.2.2.2.2] 25 (0, 0)) ∧ a' = { tmps := #[.agg #[.int .u64 (ix : Int), .int .u64 (tm : Int), .int .i64 kd, .slice sa sn sc], .slice la zs.length lc, .pointer (some ⟨w.heap.size, 0, none⟩), undef, .pointer (some ⟨w.heap.size + 1, 0, none⟩), undef, .pointer (some ⟨Bx, 0, none⟩), .slice la zs.length lc, .func (.func 156) #[] #[.pointer (some ⟨w.heap.size + 2, 0, none⟩)], .int .i64 x.1, ev x.2, undef, undef, undef, undef, undef, undef, undef], defers := [] })
    (fun x a' _ X Y row hs hg hr => by
      obtain ⟨Bx, h1, h2, h3⟩ := hs
      exact ⟨Bx, h1, (hg.block Bx (Array.getElem?_eq_some_iff.1 h2).1 (fun e => by
        obtain ⟨o, ho, hc⟩ := (hr Bx e.symm).2
        rw [h2] at ho; cases ho; cases hc)).trans h2, h3⟩)
    ?assign ?body ?done ?stop
  case assign =>
    rintro l pre ⟨xi, ⟨ix2, tm2, kd2, dt2⟩, sa2, sn2, sc2⟩ W K ⟨h1, bR1, bS1, hB1⟩ hK
    dsimp only [encC, ev]
    gi_wp2
    have hb2 : Below W.heap.size W (W.alloc (.cells #[.int .u64 (ix2 : Int), .int .u64 (tm2 : Int), .int .i64 kd2, .slice sa2 sn2 sc2] 25)) := (Below.refl _ W).alloc (Nat.le_refl _) _
    have hsW := bS1.lt
    exact hK _ _ ((KeepsOthers.alloc _ _).from _) ⟨hb2.mono (by omega), Below.heap_alloc _ _ _ hsW⟩ ⟨h1, bR1.alloc _, bS1.alloc _, hB1.alloc (by omega) _⟩ ⟨W.heap.size, hsW, World.alloc_heap_new W _, rfl⟩
  case body =>
    rintro l pre ⟨xi, ⟨ix2, tm2, kd2, dt2⟩, sa2, sn2, sc2⟩ a' W hl ⟨r, hr⟩ ⟨h1, bR1, bS1, hB1⟩ ⟨Bx, hBx, bX, rfl⟩ hlt
    dsimp only at bX
    obtain ⟨-, c0, c1, c2, c3⟩ := en_cells bX
    have cR := bR1.cell
    have fR := bR1.frozen
    by_cases hk : kd2 = 2
    · subst hk
      have hA : Hid (KeepsFrom W0.heap.size W (W.setCell ⟨w.heap.size + 1, 0, none⟩ (.slice sa2 sn2 sc2)) ∧ SomeV w.heap.size W0 .ret (pre ++ [(xi, ⟨ix2, tm2, 2, dt2⟩, sa2, sn2, sc2)]) (W.setCell ⟨w.heap.size + 1, 0, none⟩ (.slice sa2 sn2 sc2))) :=
        ⟨(KeepsOthers.setCell _ _ _).from _, rfl, ⟨xi, _, pre, rfl, rfl, h1, bR1.set _⟩, hB1.setCell (p := ⟨w.heap.size + 1, 0, none⟩) (Nat.le_refl _) _⟩
      clear bR1 bS1 bX hr hlt hB1 h1 HL HD HDZ
      gi_wp2
      exact hA.out
    · have hkb : (kd2 == 2) = false := by simpa using hk
      have hA : Hid (KeepsFrom W0.heap.size W W ∧ KeepB (w.heap.size + 1) (w.heap.size + 2) W W ∧ NoneV w.heap.size W0 (.slice la zs.length lc) (pre ++ [(xi, ⟨ix2, tm2, kd2, dt2⟩, sa2, sn2, sc2)]) W) :=
        ⟨KeepsFrom.refl _ _, KeepB.refl _ _ _, fun x hx => by
          rw [List.mem_append, List.mem_singleton] at hx
          rcases hx with hx | rfl
          · exact h1 x hx
          · exact hk, bR1, bS1, hB1⟩
      clear bR1 bS1 bX hr hlt hB1 h1 HL HD HDZ
      gi_wp2
      exact hA.out
  case done =>
    rintro D ys W hDs hys ⟨h1, bR1, bS1, hB1⟩ hK
    have hbW := (hB1.block w.heap.size (by omega)).trans hbb
    obtain ⟨-, c0, c1, c2, c3⟩ := en_cells hbW
    have cR := bR1.cell
    have fR := bR1.frozen
    have HV : Hid (votF dt (mes zs) = dt) := votF_none dt fun e he => by
      obtain ⟨z, hz, rfl⟩ := List.mem_map.1 he
      have : z ∈ ys.map (·.2) := by rw [hys]; exact List.mem_reverse.2 hz
      obtain ⟨x, hx, rfl⟩ := List.mem_map.1 this
      exact h1 x hx
    have hfin : Hid (∀ (V : World), V = (W.setCell ⟨w.heap.size + 1, 0, none⟩ (.slice sa sn sc)).putObj D (.deferred none) → V.heap[w.heap.size + 1]? = some (.cells #[.slice sa sn sc] 23 (0, 0)) ∧ Below w.heap.size w V) := fun V hV => by
      subst hV
      have hKD : (W.setCell ⟨w.heap.size + 1, 0, none⟩ (.slice sa sn sc)).heap[D]? = some (.deferred (some [])) := (set_far (by omega) _).trans hK
      refine ⟨?_, ((hB0.trans (hB1.mono (by omega))).setCell (p := ⟨w.heap.size + 1, 0, none⟩) (by simp) _).trans (belowK_b (w := W0) (by omega) _ D _ _ (by omega) hKD rfl rfl)⟩
      exact (World.putObj_heap_other (by omega)).trans (bR1.set _)
    have hKD : (W.setCell ⟨w.heap.size + 1, 0, none⟩ (.slice sa sn sc)).heap[D]? = some (.deferred (some [])) := (set_far (by omega) _).trans hK
    clear bR1 bS1 hB1 h1 hys
    gi_wp2
    refine ⟨by simp, .inl ⟨_, _, rfl, run_takeDeferred hKD, ?_⟩⟩
    obtain ⟨g1, g2⟩ := hfin.out _ rfl
    refine ⟨_, results_sl rfl _ _ (w.heap.size + 1) _ _ _ rfl g1, (sa, sn, sc), rfl, ?_, g2⟩
    rw [HV.out]
    exact HD.out
  case stop =>
    rintro D c pre W hDs ⟨k, hcm⟩ ⟨rfl, ⟨i, z, pre0, rfl, hk, h1, bR1⟩, hB1⟩ hK
    have HV : Hid (votF dt (mes zs) = z.1.data ∧ z ∈ zs) := by
      have e1 : zs.drop k = z :: (pre0.map (·.2)).reverse := by
        have := congrArg List.reverse hcm
        rw [List.reverse_reverse, List.map_append, List.reverse_append] at this
        exact this.symm
      have e2 : mes zs = mes (zs.take k) ++ z.1 :: mes (pre0.map (·.2)).reverse := by
        have e3 : zs = zs.take k ++ z :: (pre0.map (·.2)).reverse := by rw [← e1, List.take_append_drop]
        have e4 := congrArg mes e3
        rw [e4]
        unfold mes
        rw [List.map_append, List.map_cons]
      refine ⟨?_, List.mem_of_mem_drop (i := k) (by rw [e1]; exact List.mem_cons_self)⟩
      rw [e2]
      refine votF_some _ _ hk fun e he => ?_
      obtain ⟨y, hy, rfl⟩ := List.mem_map.1 he
      obtain ⟨x, hx, rfl⟩ := List.mem_map.1 (List.mem_reverse.1 hy)
      exact h1 x hx
    have g1 : (W.putObj D (.deferred none)).heap[w.heap.size + 1]? = some (.cells #[.slice z.2.1 z.2.2.1 z.2.2.2] 23 (0, 0)) := (World.putObj_heap_other (by omega)).trans bR1
    have g2 : Below w.heap.size w (W.putObj D (.deferred none)) := (hB0.trans (hB1.mono (by omega))).trans (belowK_b (w := W0) (by omega) _ D _ _ (by omega) hK rfl rfl)
    clear bR1 hB1 h1 hcm
    gi_wp2
    refine ⟨by simp, .inl ⟨_, _, rfl, run_takeDeferred hK, ?_⟩⟩
    refine ⟨_, results_sl rfl _ _ (w.heap.size + 1) _ _ _ rfl g1, z.2, rfl, ?_, g2⟩
    rw [HV.out.1]
    exact HDZ.out z HV.out.2

end Go.Proofs.YtncoandnelgkeaaGreat

