import Derived.Test.YtgfoogeiancecaaGreatDoorHw30
import Derived.Test.YtgfoogeiancecaaGreatDoorHw31
/- The contract of slices.Delete of nothing at a row's end. -/
namespace Go.Proofs.YtgfoogeiancecaaGreatDoor
open Go.RowKit WalMath DiskMath
set_option maxRecDepth 100000
set_option linter.unusedSimpArgs false
set_option linter.unusedVariables false

set_option maxHeartbeats 1000000 in
theorem delete_nil (w : World) : Calls Tryz.prog 37 #[.slice none 0 0, .int .i64 0, .int .i64 0] w fun e w' => e = .returned (.slice none 0 0) ∧ Below w.heap.size w w' := by
  go_enter Tryz.func37, Tryz.ntmps37
  go_wp2
  go_ret
  exact ⟨rfl, Below.refl _ _⟩
set_option maxHeartbeats 1000000 in
theorem delete_end (g n cap : Nat) (w : World) (hc : n ≤ cap) (hm : cap ≤ maxLen) :
    Calls Tryz.prog 37 #[.slice (some ⟨g, 0, none⟩) n cap, .int .i64 (n : Int), .int .i64 (n : Int)] w fun e w' => e = .returned (.slice (some ⟨g, 0, none⟩) n cap) ∧ Below w.heap.size w w' := by
  have hcm : (cap : Int) ≤ 9223372036854775807 := by unfold maxLen at hm; omega
  have hni : (n : Int) ≤ (cap : Int) := by omega
  have hn0 : ¬ (n : Int) < 0 := by omega
  go_enter Tryz.func37, Tryz.ntmps37
  go_wp2
  all_goals
    go_ret
    exact ⟨rfl, Below.refl _ _⟩
end Go.Proofs.YtgfoogeiancecaaGreatDoor

/- The contract of a log's leave where all its segments stay: its last segment's rest is cut off. -/
namespace Go.Proofs.YtgfoogeiancecaaGreatDoor
open Go.RowKit Go.Shelf WalMath DiskMath
attribute [local go_sem] Oper.semAt_some
set_option maxRecDepth 100000
set_option linter.unusedSimpArgs false
set_option linter.unusedVariables false

/-- A loop backward over no segments. -/
theorem wp_back_none {g : Operand} {ps : Array Tmp} {assign body : Code} {Q : Exit → Act → World → Prop} {a : Act} {w : World} (av : Option Addr) (cap : Nat) (hps : ps.size = 2) (B : Nat) (hB : B = w.heap.size)
    (hg : a.eval g = .func (.func 61) #[] #[.pointer (some ⟨B, 0, none⟩)])
    (hassign : ∀ (l : Nat) (x : Int × Nat × Option Addr × Nat × Nat) (W : World) (K : Act → World → Prop), (∀ a' W', KeepsOthers W W' → Below W.heap.size W W' → K a' W') →
      assign.wpIn (Fence.wide.inRound l) (6 - 1 - 1) Tryz.prog (Exit.then K (fun _ _ _ => False)) { tmps := (ps.zip (encS (fun x : Nat × Option Addr × Nat × Nat => x) x)).foldl (fun t (p, v) => t.setIfInBounds p v) a.tmps, defers := [] } W)
    (hdone : ∀ (D : Nat) (W : World), w.heap.size < D → Below w.heap.size w W → W.heap[D]? = some (.deferred (some [])) → Q .normal { a with defers := { target := .collected D, args := #[] } :: a.defers } W) :
    (Code.rangeFunc g ps assign body).wp Tryz.prog Q a (w.alloc (.cells #[.slice av 0 cap] 54)) := by
  subst hB
  have hs1 : (w.alloc (.cells #[.slice av 0 cap] 54)).heap.size = w.heap.size + 1 := by simp
  have hb1 : Below w.heap.size w (w.alloc (.cells #[.slice av 0 cap] 54)) := (Below.refl _ _).alloc (Nat.le_refl _) _
  have hbk := heap_alloc_new w (.cells #[.slice av 0 cap] 54)
  have hcell : (w.alloc (.cells #[.slice av 0 cap] 54)).cell? ⟨w.heap.size, 0, none⟩ = some (.slice av 0 cap) := by rw [cells_of_block hbk]; rfl
  generalize w.alloc (.cells #[.slice av 0 cap] 54) = W0 at *
  refine (wpIn_wide (n := 6)).1 ?_
  refine wpIn_rangeFunc_ownH (α := Int × Nat × Option Addr × Nat × Nat) rfl (by omega) hg trivial (enters_of Tryz.func61 (by kernel_rfl) rfl)
    (back_stops (fun x : Nat × Option Addr × Nat × Nat => x) Fence.wide _ trivial rfl (by omega) w.heap.size w.heap.size (.slice av 0 cap) [] (by simp) W0 (by omega) hb1.size hcell (.inl ⟨av, cap, rfl, rfl⟩)) KeepB.trans (KeepB.put hb1.size (by omega)) (Below.refl _ _) (fun _ => hps.symm)
    (fun pre W => Below W0.heap.size W0 W)
    (fun _ _ _ => False)
    (ownFrom_below (Nat.le_refl _) (Nat.le_refl _))
    (fun _ _ _ _ _ hs _ _ => hs)
    (Below.refl _ _)
    (fun x a' W => True)
    (fun x a' _ X Y row hs hg hr => trivial)
    ?assign ?body ?done ?stop
  case assign =>
    intro l pre x W K hI hK
    exact hassign l x W K fun a' W' h1 h2 => hK a' W' (h1.from _) ⟨h2.mono (by have := hI.size; have := hb1.size; omega), h2.block _ (by have := hI.size; omega)⟩ (hI.trans (h2.mono hI.size)) trivial
  case body =>
    intro l pre x a' W hl hr hI hA hlt
    exact absurd hlt (by simp)
  case done =>
    intro D ys W hD hys hI hK
    exact hdone D W (by omega) (hb1.trans (hI.mono hb1.size)) hK
  case stop =>
    rintro D c pre W _ _ h _
    exact h.elim

/-- What leave leaves on the disk where all segments stay. -/
def leaveF (sg : List Seg) (fs : Files) : Files := match sg.getLast? with | none => fs | some s => (dCut fs (segName s.num) (sz s.recs : Int)).1
/-- What leave leaves. -/
def LeaveT (S : Nat → Prop) (w : World) (d : Value) (fs : Files) (e : Ending) (w' : World) : Prop := e = .returned (.tuple #[]) ∧ ∃ S', Dk S' w' d fs ∧ Step S S' w ∧ Kept S w w'

/-- A cell stored as it stood. -/
theorem set_val {n : Nat} {w w5 : World} {q : Nat} {d sv : Value} {t : TypeId} (h : w5.heap[q]? = some (.cells #[d, sv] t (0, 0))) (hb : Below n w w5) : Below n w (w5.setCell ⟨q, 1, none⟩ sv) ∧ ∀ k : Nat, (w5.setCell ⟨q, 1, none⟩ sv).heap[k]? = w5.heap[k]? := by
  have hk : ∀ k : Nat, (w5.setCell ⟨q, 1, none⟩ sv).heap[k]? = w5.heap[k]? := fun k => by
    by_cases e : k = q
    · subst e
      rw [seg_set h, h]
    · exact set_same 1 _ e
  exact ⟨⟨hb.os, hb.tape, hb.output, by rw [show (w5.setCell ⟨q, 1, none⟩ sv).heap.size = w5.heap.size by simp [World.setCell]]; exact hb.size, fun k hk' => (hk k).trans (hb.block k hk')⟩, hk⟩

set_option maxHeartbeats 4000000 in
theorem leave_all {S : Nat → Prop} {σ : Wm} {w : World} {q : Nat} {d sv : Value} {sg : List Seg} {fs : Files} (hT : Tb w) (hD : Dk S w d fs) (hW : WalAt σ w q d sv sg) (hS : ∀ b, S b → (σ b).1 = 0) (hlen : sg.length ≤ 1000) (hbd : ∀ s ∈ sg, s.num < 100000000 ∧ s.recs.length ≤ 100000) :
    Calls Tryz.prog 32 #[.pointer (some ⟨q, 0, none⟩), .int .i64 (sg.length : Int)] w (LeaveT S w d (leaveF sg fs)) := by
  refine (callsIn_wide (n := 6)).1 ?_
  refine callsIn_of_wp_marks Tryz.func32 rfl trivial ?_ rfl
  refine wpIn_wide.2 ?_
  simp only [Tryz.ntmps32, List.size_toArray, List.length_cons, List.length_nil, Nat.reduceAdd, Nat.reduceSub, Array.replicate_succ, Array.replicate_zero, List.push_toArray, List.append_toArray, List.nil_append, List.cons_append]
  have hq := hW.block
  have hql := (Array.getElem?_eq_some_iff.1 hq).1
  have hb0 : Below w.heap.size w (w.alloc (.cells #[.pointer (some ⟨q, 0, none⟩)] 25)) := (Below.refl _ _).alloc (Nat.le_refl _) _
  have c1 : (w.alloc (.cells #[.pointer (some ⟨q, 0, none⟩)] 25)).cell? ⟨q, 1, none⟩ = some sv := (hb0.cell (p := ⟨q, 1, none⟩) hql).trans (by rw [cells_of_block hq]; rfl)
  cases hl : sg.length with
  | zero =>
    obtain rfl := List.eq_nil_of_length_eq_zero hl
    have hlf : leaveF [] fs = fs := rfl
    rw [hlf]
    obtain ⟨vs, hv, hR, -⟩ := hW.segs.ex
    obtain ⟨-, ⟨rfl, -⟩ | ⟨g, cap, cur, rfl, -, -, h1, h2, -⟩⟩ := hR
    · have hx := ()
      clear hx
      go_wp2_with (go_at_call 24; refine (callsIn_wide.1 (back_in Fence.wide 6 trivial rfl _ _ _ _)).mono ?_; rintro e w' ⟨rfl, rfl⟩)
      refine wp_back_none _ _ rfl (w.heap.size + 1) (by simp) rfl ?assign ?done
      case assign =>
        intro l x W K hK
        dsimp only [encS]
        gi_wp2
        exact hK _ _ (KeepsOthers.alloc _ _) ((Below.refl _ _).alloc (Nat.le_refl _) _)
      case done =>
        intro D W hDD hbW hK
        have hs0 : (w.alloc (.cells #[.pointer (some ⟨q, 0, none⟩)] 25)).heap.size = w.heap.size + 1 := by simp
        have hbox := (hbW.block w.heap.size (by omega)).trans (heap_alloc_new w (.cells #[.pointer (some ⟨q, 0, none⟩)] 25))
        have hb2 : Below w.heap.size w W := hb0.trans (hbW.mono hb0.size)
        have hq2 := (hb2.block q hql).trans hq
        have hDl : D < W.heap.size := (Array.getElem?_eq_some_iff.1 hK).1
        have hdW : Below W.heap.size W W.drew := (Below.refl _ _).drew
        have kd := fun W' => delete_nil W'
        have fS : ∀ W', Below W.heap.size W W' → W'.cell? ⟨w.heap.size, 0, none⟩ = some (.pointer (some ⟨q, 0, none⟩)) ∧ W'.cell? ⟨q, 1, none⟩ = some (.slice none 0 0) := fun W' hb => by
          have e1 := (hb.block w.heap.size (Array.getElem?_eq_some_iff.1 hbox).1).trans hbox
          have e2 := (hb.block q (Array.getElem?_eq_some_iff.1 hq2).1).trans hq2
          exact ⟨by rw [cells_of_block e1]; rfl, by rw [cells_of_block e2]; rfl⟩
        have fF : ∀ W', Below W.heap.size W W' → W'.frozen? ⟨q, 1, none⟩ = false := fun W' hb => frozen_of ((hb.block q (Array.getElem?_eq_some_iff.1 hq2).1).trans hq2) 1
        have fT : ∀ W', Below W.heap.size W W' → (W'.setCell ⟨q, 1, none⟩ (.slice none 0 0)).cell? ⟨w.heap.size, 0, none⟩ = some (.pointer (some ⟨q, 0, none⟩)) ∧ (W'.setCell ⟨q, 1, none⟩ (.slice none 0 0)).cell? ⟨q, 1, none⟩ = some (.slice none 0 0) := fun W' hb => by
          have e2 := (hb.block q (Array.getElem?_eq_some_iff.1 hq2).1).trans hq2
          have hk := (set_val (n := 0) e2 (Below.refl _ _)).2
          exact ⟨(World.cell?_of_block (w := W') (hk _)).trans (fS W' hb).1, (World.cell?_of_block (w := W') (hk _)).trans (fS W' hb).2⟩
        have hfin : ∀ W', Below W.heap.size W W' → Hid ((W'.setCell ⟨q, 1, none⟩ (.slice none 0 0)).heap[D]? = some (.deferred (some [])) ∧ LeaveT S w d fs (.returned (.tuple #[])) ((W'.setCell ⟨q, 1, none⟩ (.slice none 0 0)).putObj D (.deferred none))) := fun W' hb => by
          have e2 := (hb.block q (Array.getElem?_eq_some_iff.1 hq2).1).trans hq2
          obtain ⟨hb6, hk6⟩ := set_val e2 (hb2.trans (hb.mono hb2.size))
          refine ⟨(hk6 D).trans ((hb.block D hDl).trans hK), rfl, S, ?_, fun _ h => .inl h, ?_⟩
          · refine diskOf.kept (diskOf.below hD hb6) (by simp [World.putObj]) fun b hb' => (grownBy_putObj' _ D (.deferred none)).block b (Nat.lt_of_lt_of_le (diskOf.lt hD b hb') hb6.size) (fun e => ?_)
            cases e
            have := diskOf.lt hD D hb'
            omega
          · have hg := grownBy_putObj' (W'.setCell ⟨q, 1, none⟩ (.slice none 0 0)) D (.deferred none)
            refine ⟨hg.os.trans hb6.os, hg.tape.trans hb6.tape, hg.output.trans hb6.output, Nat.le_trans hb6.size hg.size, fun b hb' _ => ?_⟩
            rw [hg.block b (by have := hb6.size; omega) (fun e => by cases e; omega), hb6.block b hb']
        have y0 := fS _ hdW
        generalize LeaveT S w d fs = T at *
        clear hW hD hq hq2 hbox hK hb2 hbW hb0
        go_wp2
        go_region_held3 (fun w' => w'.cell? ⟨w.heap.size, 0, none⟩ = some (.pointer (some ⟨q, 0, none⟩)) ∧ w'.cell? ⟨q, 1, none⟩ = some (.slice none 0 0))
          (first | exact y0 | exact y5 | exact y6 | go_keep)
          ((go_at_call 37; refine (kd _).mono ?_; rintro e w5 ⟨rfl, b5'⟩; have b5 := hdW.trans b5'; have y5 := fS _ b5; have y6 := fT _ b5; have z5 := fF _ b5))
        all_goals
          obtain ⟨hKf, hTf⟩ := (hfin _ b5).out
          clear hfin fS fT fF y0 y5 y6 kd
          go_wp2
          refine ⟨by simp, .inl ⟨_, _, rfl, run_takeDeferred hKf, ?_⟩⟩
          exact ⟨_, results_none rfl _ _ _, hTf⟩
    · have hl0 : (sg2 [] vs).length = 0 := by simp [sg2]
      rw [hl0] at hq c1 h1
      have hcm : (cap : Int) ≤ 9223372036854775807 := by unfold maxLen at h2; omega
      have hni : (0 : Int) ≤ (cap : Int) := by omega
      obtain ⟨a, ha⟩ : ∃ a, (if cap = 0 then some (⟨g, 0, none⟩ : Addr) else some ⟨g, 0, none⟩) = some a := by split <;> exact ⟨_, rfl⟩
      go_wp2_with (go_at_call 24; refine (callsIn_wide.1 (back_in Fence.wide 6 trivial rfl _ _ _ _)).mono ?_; rintro e w' ⟨rfl, rfl⟩)
      refine wp_back_none _ _ rfl (w.heap.size + 1) (by simp) rfl ?assign ?done
      case assign =>
        intro l x W K hK
        dsimp only [encS]
        gi_wp2
        exact hK _ _ (KeepsOthers.alloc _ _) ((Below.refl _ _).alloc (Nat.le_refl _) _)
      case done =>
        intro D W hDD hbW hK
        have hs0 : (w.alloc (.cells #[.pointer (some ⟨q, 0, none⟩)] 25)).heap.size = w.heap.size + 1 := by simp
        have hbox := (hbW.block w.heap.size (by omega)).trans (heap_alloc_new w (.cells #[.pointer (some ⟨q, 0, none⟩)] 25))
        have hb2 : Below w.heap.size w W := hb0.trans (hbW.mono hb0.size)
        have hq2 := (hb2.block q hql).trans hq
        have hDl : D < W.heap.size := (Array.getElem?_eq_some_iff.1 hK).1
        have hdW : Below W.heap.size W W.drew := (Below.refl _ _).drew
        have kd := fun W' => delete_end g 0 cap W' h1 h2
        have fS : ∀ W', Below W.heap.size W W' → W'.cell? ⟨w.heap.size, 0, none⟩ = some (.pointer (some ⟨q, 0, none⟩)) ∧ W'.cell? ⟨q, 1, none⟩ = some (.slice (some ⟨g, 0, none⟩) 0 cap) := fun W' hb => by
          have e1 := (hb.block w.heap.size (Array.getElem?_eq_some_iff.1 hbox).1).trans hbox
          have e2 := (hb.block q (Array.getElem?_eq_some_iff.1 hq2).1).trans hq2
          exact ⟨by rw [cells_of_block e1]; rfl, by rw [cells_of_block e2]; rfl⟩
        have fF : ∀ W', Below W.heap.size W W' → W'.frozen? ⟨q, 1, none⟩ = false := fun W' hb => frozen_of ((hb.block q (Array.getElem?_eq_some_iff.1 hq2).1).trans hq2) 1
        have fT : ∀ W', Below W.heap.size W W' → (W'.setCell ⟨q, 1, none⟩ (.slice (some ⟨g, 0, none⟩) 0 cap)).cell? ⟨w.heap.size, 0, none⟩ = some (.pointer (some ⟨q, 0, none⟩)) ∧ (W'.setCell ⟨q, 1, none⟩ (.slice (some ⟨g, 0, none⟩) 0 cap)).cell? ⟨q, 1, none⟩ = some (.slice (some ⟨g, 0, none⟩) 0 cap) := fun W' hb => by
          have e2 := (hb.block q (Array.getElem?_eq_some_iff.1 hq2).1).trans hq2
          have hk := (set_val (n := 0) e2 (Below.refl _ _)).2
          exact ⟨(World.cell?_of_block (w := W') (hk _)).trans (fS W' hb).1, (World.cell?_of_block (w := W') (hk _)).trans (fS W' hb).2⟩
        have hfin : ∀ W', Below W.heap.size W W' → Hid ((W'.setCell ⟨q, 1, none⟩ (.slice (some ⟨g, 0, none⟩) 0 cap)).heap[D]? = some (.deferred (some [])) ∧ LeaveT S w d fs (.returned (.tuple #[])) ((W'.setCell ⟨q, 1, none⟩ (.slice (some ⟨g, 0, none⟩) 0 cap)).putObj D (.deferred none))) := fun W' hb => by
          have e2 := (hb.block q (Array.getElem?_eq_some_iff.1 hq2).1).trans hq2
          obtain ⟨hb6, hk6⟩ := set_val e2 (hb2.trans (hb.mono hb2.size))
          refine ⟨(hk6 D).trans ((hb.block D hDl).trans hK), rfl, S, ?_, fun _ h => .inl h, ?_⟩
          · refine diskOf.kept (diskOf.below hD hb6) (by simp [World.putObj]) fun b hb' => (grownBy_putObj' _ D (.deferred none)).block b (Nat.lt_of_lt_of_le (diskOf.lt hD b hb') hb6.size) (fun e => ?_)
            cases e
            have := diskOf.lt hD D hb'
            omega
          · have hg := grownBy_putObj' (W'.setCell ⟨q, 1, none⟩ (.slice (some ⟨g, 0, none⟩) 0 cap)) D (.deferred none)
            refine ⟨hg.os.trans hb6.os, hg.tape.trans hb6.tape, hg.output.trans hb6.output, Nat.le_trans hb6.size hg.size, fun b hb' _ => ?_⟩
            rw [hg.block b (by have := hb6.size; omega) (fun e => by cases e; omega), hb6.block b hb']
        have y0 := fS _ hdW
        generalize LeaveT S w d fs = T at *
        clear hW hD hq hq2 hbox hK hb2 hbW hb0
        go_wp2
        go_region_held3 (fun w' => w'.cell? ⟨w.heap.size, 0, none⟩ = some (.pointer (some ⟨q, 0, none⟩)) ∧ w'.cell? ⟨q, 1, none⟩ = some (.slice (some ⟨g, 0, none⟩) 0 cap))
          (first | exact y0 | exact y5 | exact y6 | go_keep)
          ((go_at_call 37; refine (kd _).mono ?_; rintro e w5 ⟨rfl, b5'⟩; have b5 := hdW.trans b5'; have y5 := fS _ b5; have y6 := fT _ b5; have z5 := fF _ b5))
        all_goals
          obtain ⟨hKf, hTf⟩ := (hfin _ b5).out
          clear hfin fS fT fF y0 y5 y6 kd
          go_wp2
          refine ⟨by simp, .inl ⟨_, _, rfl, run_takeDeferred hKf, ?_⟩⟩
          exact ⟨_, results_none rfl _ _ _, hTf⟩
  | succ m =>
    obtain ⟨g, cap, rfl, h1, h2, -⟩ := hW.segs.cells (by intro e; rw [e] at hl; cases hl)
    rw [hl] at h1 c1 hlen
    generalize hn : m + 1 = n at *
    have hni : (n : Int) ≤ (cap : Int) := by omega
    have hcm : (cap : Int) ≤ 9223372036854775807 := by unfold maxLen at h2; omega
    have hn0 : ¬ (n : Int) < 0 := by omega
    obtain ⟨a, ha⟩ : ∃ a, (if cap = n then some (⟨g, 0, none⟩ : Addr) else some ⟨g, n * 2, none⟩) = some a := by split <;> exact ⟨_, rfl⟩
    go_wp2_with (go_at_call 24; refine (callsIn_wide.1 (back_in Fence.wide 6 trivial rfl _ _ _ _)).mono ?_; rintro e w' ⟨rfl, rfl⟩)
    refine wp_back_none (some a) (cap - n) rfl (w.heap.size + 1) (by simp) rfl ?assign ?done
    case assign =>
      intro l x W K hK
      dsimp only [encS]
      gi_wp2
      exact hK _ _ (KeepsOthers.alloc _ _) ((Below.refl _ _).alloc (Nat.le_refl _) _)
    case done =>
      intro D W hDD hbW hK
      have hs0 : (w.alloc (.cells #[.pointer (some ⟨q, 0, none⟩)] 25)).heap.size = w.heap.size + 1 := by simp
      have hbox := (hbW.block w.heap.size (by omega)).trans (heap_alloc_new w (.cells #[.pointer (some ⟨q, 0, none⟩)] 25))
      have hb2 : Below w.heap.size w W := hb0.trans (hbW.mono hb0.size)
      have hD2 := diskOf.below hD hb2
      have hW2 := hW.below hb2
      have hq2 := hW2.block
      have hs := List.getElem?_eq_getElem (show m < sg.length by omega)
      have hsb := hbd sg[m] (List.getElem_mem _)
      have hlf : leaveF sg fs = (dCut fs (segName sg[m].num) (sz sg[m].recs : Int)).1 := by
        unfold leaveF
        rw [List.getLast?_eq_getElem?, show sg.length - 1 = m by omega, hs]
      generalize sg[m] = s at *
      have hDl : D < W.heap.size := (Array.getElem?_eq_some_iff.1 hK).1
      have hS2 := diskOf.lt hD
      rw [hl] at hq2 hW2
      have hWH : Hid (WalAt σ w q d (.slice (some ⟨g, 0, none⟩) sg.length cap) sg) := hW
      have hDH : Hid (Dk S w d fs) := hD
      clear hW hD hb0 hbW c1 hD2
      have hdr : Below w.heap.size w W.drew := hb2.drew
      have kd := fun W' => delete_end g n cap W' h1 h2
      have fx : ∀ W', Below W.heap.size W W' → W'.cell? ⟨w.heap.size, 0, none⟩ = some (.pointer (some ⟨q, 0, none⟩)) ∧ W'.cell? ⟨q, 1, none⟩ = some (.slice (some ⟨g, 0, none⟩) n cap) ∧ W'.frozen? ⟨q, 1, none⟩ = false := fun W' hb => by
        have e1 := (hb.block w.heap.size (Array.getElem?_eq_some_iff.1 hbox).1).trans hbox
        have e2 := (hb.block q (Array.getElem?_eq_some_iff.1 hq2).1).trans hq2
        exact ⟨by rw [cells_of_block e1]; rfl, by rw [cells_of_block e2]; rfl, frozen_of e2 1⟩
      have hdW : Below W.heap.size W W.drew := (Below.refl _ _).drew
      have fS : ∀ W', Below W.heap.size W W' → W'.cell? ⟨w.heap.size, 0, none⟩ = some (.pointer (some ⟨q, 0, none⟩)) ∧ W'.cell? ⟨q, 1, none⟩ = some (.slice (some ⟨g, 0, none⟩) n cap) := fun W' hb => ⟨(fx W' hb).1, (fx W' hb).2.1⟩
      have fT : ∀ W', Below W.heap.size W W' → (W'.setCell ⟨q, 1, none⟩ (.slice (some ⟨g, 0, none⟩) n cap)).cell? ⟨w.heap.size, 0, none⟩ = some (.pointer (some ⟨q, 0, none⟩)) ∧ (W'.setCell ⟨q, 1, none⟩ (.slice (some ⟨g, 0, none⟩) n cap)).cell? ⟨q, 1, none⟩ = some (.slice (some ⟨g, 0, none⟩) n cap) := fun W' hb => by
        have e2 := (hb.block q (Array.getElem?_eq_some_iff.1 hq2).1).trans hq2
        have hk := (set_val (n := 0) e2 (Below.refl _ _)).2
        exact ⟨(World.cell?_of_block (w := W') (hk _)).trans (fS W' hb).1, (World.cell?_of_block (w := W') (hk _)).trans (fS W' hb).2⟩
      have y0 := fS _ hdW
      go_wp2
      go_region_held3 (fun w' => w'.cell? ⟨w.heap.size, 0, none⟩ = some (.pointer (some ⟨q, 0, none⟩)) ∧ w'.cell? ⟨q, 1, none⟩ = some (.slice (some ⟨g, 0, none⟩) n cap))
        (first | exact y0 | exact y5 | exact y6 | go_keep)
        ((go_at_call 37; refine (kd _).mono ?_; rintro e w5 ⟨rfl, b5'⟩; have b5 := hdW.trans b5'; have y5 := fS _ b5; have y6 := fT _ b5; have z5 := (fx _ b5).2.2))
      all_goals
        refine gen_world ?_
        intro W6 hW6
        obtain ⟨hb6, hk6⟩ := set_val ((b5.block q (Array.getElem?_eq_some_iff.1 hq2).1).trans hq2) (hb2.trans (b5.mono hb2.size))
        rw [← hW6] at hb6 hk6
        have hKD : Hid (W6.heap[D]? = some (.deferred (some []))) := (hk6 D).trans ((b5.block D hDl).trans hK)
        have hbx6 : W6.heap[w.heap.size]? = some (.cells #[.pointer (some ⟨q, 0, none⟩)] 25 (0, 0)) := (hk6 _).trans ((b5.block _ (Array.getElem?_eq_some_iff.1 hbox).1).trans hbox)
        clear hW6 hk6 z5 y0 y5 y6 fS fT fx kd b5 b5' hW2 hq2 hq
        obtain ⟨g', cap', pv, e, -, -, ⟨pa, pn, pc, rfl⟩, hLK⟩ := last_k (fs := fs) (hT.new hb6) (hWH.out.below hb6) (by omega) (hl.trans hn.symm) hs hsb.1 hsb.2
        rw [hl] at e hLK
        cases e
        have hD6 := diskOf.below hDH.out hb6
        have hSx : ∀ b, S b → b < w.heap.size := hS2
        have hcl : ∀ W', Below W6.heap.size W6 W' → W'.cell? ⟨w.heap.size, 0, none⟩ = some (.pointer (some ⟨q, 0, none⟩)) ∧ W'.cell? ⟨q, 0, none⟩ = some d ∧ W'.cell? ⟨q, 1, none⟩ = some (.slice (some ⟨g, 0, none⟩) n cap) ∧ W'.cell? ⟨g, m * 2, none⟩ = some (.int .i64 (s.num : Int)) ∧ W'.cell? ⟨g, m * 2 + 1, none⟩ = some (.slice pa pn pc) := fun W' hb => by
          have e1 := (hb.block w.heap.size (Array.getElem?_eq_some_iff.1 hbx6).1).trans hbx6
          exact ⟨by rw [cells_of_block e1]; rfl, hLK.cells W' hb⟩
        have hgm : (σ g).1 ≠ 0 := by rw [hWH.out.segs.row g rfl]; simp
        have hqm : (σ q).1 ≠ 0 := by rw [hWH.out.mark]; simp
        have kc : ∀ W', Below W6.heap.size W6 W' → Calls Tryz.prog 66 #[d, .string (segName s.num), .int .i64 (sz s.recs : Int)] W' fun e w' => (∃ c : Int, e = .returned (.int .i64 c)) ∧ (w'.cell? ⟨w.heap.size, 0, none⟩ = some (.pointer (some ⟨q, 0, none⟩)) ∧ w'.cell? ⟨q, 0, none⟩ = some d ∧ w'.cell? ⟨q, 1, none⟩ = some (.slice (some ⟨g, 0, none⟩) n cap) ∧ w'.cell? ⟨g, m * 2, none⟩ = some (.int .i64 (s.num : Int)) ∧ w'.cell? ⟨g, m * 2 + 1, none⟩ = some (.slice pa pn pc)) ∧ Hid (w'.heap[D]? = some (.deferred (some [])) ∧ LeaveT S w d (leaveF sg fs) (.returned (.tuple #[])) (w'.putObj D (.deferred none))) := fun W' hb => by
          refine (diskOf.cut (segName s.num) (sz s.recs : Int) (segName_max _) (diskOf.below hD6 hb)).mono ?_
          rintro e w' ⟨he, S', hD', hst, hk⟩
          have hbw : Below w.heap.size w W' := hb6.trans (hb.mono hb6.size)
          have hcw := hcl W' hb
          have hno : ∀ b, w.heap.size ≤ b → ¬ S b := fun b hb' hs' => by have := hSx b hs'; omega
          have hD6l := (Array.getElem?_eq_some_iff.1 hKD.out).1
          have hKD' : w'.heap[D]? = some (.deferred (some [])) := (hk.block D (by have := hb.size; omega) (hno D (by omega))).trans ((hb.block D hD6l).trans hKD.out)
          refine ⟨⟨_, he⟩, ⟨hk.cell hcw.1 (hno _ (Nat.le_refl _)), hk.cell hcw.2.1 (fun h => hqm (hS q h)), hk.cell hcw.2.2.1 (fun h => hqm (hS q h)), hk.cell hcw.2.2.2.1 (fun h => hgm (hS g h)), hk.cell hcw.2.2.2.2 (fun h => hgm (hS g h))⟩, hKD', rfl, S', ?_, ?_, ?_⟩
          · rw [hlf]
            refine diskOf.kept hD' (by rw [show (w'.putObj D (.deferred none)).heap.size = w'.heap.size by simp [World.putObj]]; exact Nat.le_refl _) fun b hb' => (grownBy_putObj' w' D (.deferred none)).block b (diskOf.lt hD' b hb') (fun e => ?_)
            cases e
            rcases hst D hb' with h | h
            · exact hno D (by omega) h
            · have := hb.size
              omega
          · intro b hb'
            rcases hst b hb' with h | h
            · exact .inl h
            · exact .inr (Nat.le_trans hbw.size h)
          · have hg := grownBy_putObj' w' D (.deferred none)
            refine ⟨hg.os.trans (hk.os.trans hbw.os), hg.tape.trans (hk.tape.trans hbw.tape), hg.output.trans (hk.output.trans hbw.output), Nat.le_trans hbw.size (Nat.le_trans hk.size hg.size), fun b hb' hns => ?_⟩
            rw [hg.block b (by have := hk.size; have := hbw.size; omega) (fun e => by cases e; omega), hk.block b (by have := hbw.size; omega) hns, hbw.block b hb']
        have hd6 : Below W6.heap.size W6 W6.drew := (Below.refl _ _).drew
        obtain ⟨-, kend, kname, ksize⟩ := hLK
        have y0 := hcl _ hd6
        have hn0i : (0 : Int) < (n : Int) := by omega
        have hn0n : 0 < n := by omega
        obtain ⟨dq, rfl⟩ := hD6.shape
        generalize LeaveT S w (.pointer (some ⟨dq, 0, none⟩)) (leaveF sg fs) = T at *
        obtain ⟨Z, hZ⟩ : ∃ Z, Z = sz s.recs := ⟨_, rfl⟩
        rw [← hZ] at ksize kc
        clear hWH hDH hbx6 hgm hqm hb6 hD6 hbox hb2 hS hS2 hSx hK hlf hZ
        go_wp2
        go_region_held3 (fun w' => w'.cell? ⟨w.heap.size, 0, none⟩ = some (.pointer (some ⟨q, 0, none⟩)) ∧ w'.cell? ⟨q, 0, none⟩ = some (.pointer (some ⟨dq, 0, none⟩)) ∧ w'.cell? ⟨q, 1, none⟩ = some (.slice (some ⟨g, 0, none⟩) n cap) ∧ w'.cell? ⟨g, m * 2, none⟩ = some (.int .i64 (s.num : Int)) ∧ w'.cell? ⟨g, m * 2 + 1, none⟩ = some (.slice pa pn pc))
          (first | exact y0 | exact y9 | exact hcl _ t4 | exact hcl _ t3 | exact hcl _ t2 | exact hcl _ t1 | go_keep)
          (first
            | (go_at_call 27; first | (refine (kend _ t2).mono ?_; rintro e v3 ⟨rfl, t3⟩) | (refine (kend _ hd6).mono ?_; rintro e v1 ⟨rfl, t1⟩))
            | (go_at_call 28; refine (kname _ t1).mono ?_; rintro e v2 ⟨rfl, t2⟩)
            | (go_at_call 60; refine (ksize _ t3).mono ?_; rintro e v4 ⟨rfl, t4⟩)
            | (go_at_call 66; refine (kc _ t4).mono ?_; rintro e v9 ⟨⟨cc, rfl⟩, y9, hfin⟩))
        obtain ⟨hKf, hTf⟩ := hfin.out
        clear hfin hcl kc kend kname ksize
        go_wp2
        refine ⟨by simp, .inl ⟨_, _, rfl, run_takeDeferred hKf, ?_⟩⟩
        exact ⟨_, results_none rfl _ _ _, hTf⟩
end Go.Proofs.YtgfoogeiancecaaGreatDoor

/- The contract of slices.Backward over a slice of segments where the loop's body may write whatever is not the row: it hands the segments on from the last to the first. -/
namespace Go.Proofs.YtgfoogeiancecaaGreatDoor
open Go.RowKit Go.Shelf
attribute [local go_sem] Oper.semAt_some
set_option maxRecDepth 100000
set_option linter.unusedVariables false

/-- The row's block and the iterator's own box lie as they lay. -/
def KeepR (b Bs : Nat) (W W' : World) : Prop := W'.heap[b]? = W.heap[b]? ∧ W'.heap[Bs]? = W.heap[Bs]?
theorem KeepR.refl (b Bs : Nat) (W : World) : KeepR b Bs W W := ⟨rfl, rfl⟩
theorem KeepR.trans {b Bs : Nat} {A B C : World} (h : KeepR b Bs A B) (k : KeepR b Bs B C) : KeepR b Bs A C := ⟨k.1.trans h.1, k.2.trans h.2⟩
theorem KeepR.put {b Bs : Nat} {w : World} (hb : b < w.heap.size) (hB : Bs < w.heap.size) (W : World) (l : Nat) (o o' : Obj) (hl : w.heap.size ≤ l) (h : W.heap[l]? = some o) (h1 : o.isCells = false) (h2 : o.isWalk = false) : KeepR b Bs W (W.putObj l o') :=
  ⟨(grownBy_putObj' W l o').block b (by have := (Array.getElem?_eq_some_iff.1 h).1; omega) (fun e => by cases e; omega), (grownBy_putObj' W l o').block Bs (by have := (Array.getElem?_eq_some_iff.1 h).1; omega) (fun e => by cases e; omega)⟩
theorem KeepR.cell {b Bs : Nat} {W W' : World} (h : KeepR b Bs W W') : W'.cell? ⟨Bs, 0, none⟩ = W.cell? ⟨Bs, 0, none⟩ := World.cell?_of_block (w := W) h.2
theorem KeepR.cellb {b Bs : Nat} {W W' : World} (h : KeepR b Bs W W') (i : Nat) : W'.cell? ⟨b, i, none⟩ = W.cell? ⟨b, i, none⟩ := World.cell?_of_block (w := W) h.1

set_option maxHeartbeats 2000000 in
theorem back1_inR {β : Type} (f : β → Nat × Option Addr × Nat × Nat) (F : Fence) (n : Nat) (h1f : F.fn 61) (hro : F.round = none) (hn : 1 ≤ n) (l Bs b off cap : Nat) (zs : List β) (hreach : zs.length ≤ 1000000) (J Jx : List (Int × β) → World → Prop)
    (hY : ∀ pre x W, J pre W → pre.length < zs.length → YieldAt F (n - 1) Tryz.prog l (encS f x) W fun e W' =>
      (e = .returned (.bool true) ∧ J (pre ++ [x]) W' ∧ KeepR b Bs W W') ∨ (e = .returned (.bool false) ∧ Jx (pre ++ [x]) W'))
    (W : World) (hBs : W.cell? ⟨Bs, 0, none⟩ = some (.slice (some ⟨b, off, none⟩) zs.length cap)) (hc : ∀ j, (h : j < zs.length) → W.cell? ⟨b, off + j * 2, none⟩ = some (.int .i64 ((f zs[j]).1 : Int)) ∧ W.cell? ⟨b, off + j * 2 + 1, none⟩ = some (.slice (f zs[j]).2.1 (f zs[j]).2.2.1 (f zs[j]).2.2.2)) (h0 : J [] W) :
    CallsIn F n Tryz.prog 61 #[.func (.yield l) #[] #[], .pointer (some ⟨Bs, 0, none⟩)] W fun e W' => (∃ v, e = .returned v) ∧
      ((∃ ys, ys.map (·.2) = zs.reverse ∧ J ys W') ∨ (∃ pre, (∃ k, k < zs.length ∧ come zs pre k) ∧ Jx pre W')) := by
  refine callsIn_of_wp Tryz.func61 rfl h1f ?_ hro
  simp only [Tryz.ntmps61, List.size_toArray, List.length_cons, List.length_nil, Nat.reduceAdd, Nat.reduceSub, Array.replicate_succ, Array.replicate_zero, List.push_toArray, List.append_toArray, List.nil_append, List.cons_append]
  gi_wp2
  gi_loopw [3] (fun i wr => ∃ (k : Nat) (pre : List (Int × β)), k ≤ zs.length ∧ i = .int .i64 ((k : Int) - 1) ∧ Hid (come zs pre k) ∧ J pre wr ∧ KeepR b Bs W wr)
    (fun i _ => (intOf i + 1).toNat)
  case atStart => exact ⟨zs.length, [], Nat.le_refl _, rfl, by show come zs [] _; simp [come], h0, KeepR.refl _ _ _⟩
  case round =>
    obtain ⟨k, pre, hk, hi, hcm, hJs, hnx⟩ := hrel
    cases k with
    | zero =>
      obtain rfl : u3 = .int .i64 (-1) := hi
      gi_wp2
      go_end0
      exact ⟨⟨_, rfl⟩, .inl ⟨pre, by have := hcm.out; simpa [come] using this, hJs⟩⟩
    | succ k =>
      have hlt : k < zs.length := by omega
      obtain rfl : u3 = .int .i64 (k : Int) := by rw [hi]; congr 1; omega
      clear hi
      obtain ⟨fn, tmps, assign, body, hy, hR⟩ := hY pre ((k : Int), zs[k]) wr hJs (come_len hcm.out hlt)
      have hcx := hc k hlt
      have hc1 := (hnx.cellb (off + k * 2)).trans hcx.1
      have hc2 := (hnx.cellb (off + k * 2 + 1)).trans hcx.2
      have hBx := hnx.cell.trans hBs
      dsimp only [encS] at hy
      clear hcx
      gi_wp2
      refine hR.mono ?_
      rintro e W3 (⟨rfl, hJ3, hk3⟩ | ⟨rfl, hJx3⟩)
      · gi_wp2
        go_roundw
        case rel => exact ⟨k, pre ++ [((k : Int), zs[k])], by omega, by go_num, come_step hcm.out hlt _, hJ3, hnx.trans hk3⟩
        case measure => simp [intOf]
      · gi_wp2
        refine bodyPost_ret (results_none rfl _ _ _) rfl ?_
        exact ⟨⟨_, rfl⟩, .inr ⟨_, ⟨k, hlt, come_step hcm.out hlt _⟩, hJx3⟩⟩

theorem back_stopsR {β : Type} (f : β → Nat × Option Addr × Nat × Nat) (F : Fence) (n : Nat) (h1f : F.fn 61) (hro : F.round = none) (hn : 1 ≤ n) (Bs b off cap : Nat) (zs : List β) (hreach : zs.length ≤ 1000000) (w : World) (hBs : Bs < w.heap.size) (hb : b < w.heap.size)
    (hc : w.cell? ⟨Bs, 0, none⟩ = some (.slice (some ⟨b, off, none⟩) zs.length cap)) (hI : ∀ j, (h : j < zs.length) → w.cell? ⟨b, off + j * 2, none⟩ = some (.int .i64 ((f zs[j]).1 : Int)) ∧ w.cell? ⟨b, off + j * 2 + 1, none⟩ = some (.slice (f zs[j]).2.1 (f zs[j]).2.2.1 (f zs[j]).2.2.2)) :
    SeqStopsK F n Tryz.prog 61 #[.pointer (some ⟨Bs, 0, none⟩) ] (encS f) (KeepR b Bs) (fun ys => ys.map (·.2) = zs.reverse) (fun pre => ∃ k, k < zs.length ∧ come zs pre k) zs.length w := fun l J Jx W hW _ _ hY h0 => by
  have hc' := (hW.cell (p := ⟨Bs, 0, none⟩) hBs).trans hc
  exact back1_inR f F n h1f hro hn l Bs b off cap zs hreach J Jx hY W hc' (fun j hj => ⟨(hW.cell (p := ⟨b, off + j * 2, none⟩) hb).trans (hI j hj).1, (hW.cell (p := ⟨b, off + j * 2 + 1, none⟩) hb).trans (hI j hj).2⟩) h0
end Go.Proofs.YtgfoogeiancecaaGreatDoor

