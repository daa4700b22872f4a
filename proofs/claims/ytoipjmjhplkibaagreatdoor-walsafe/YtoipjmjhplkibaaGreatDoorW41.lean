import Derived.Test.YtoipjmjhplkibaaGreatDoorW39
import Derived.Test.YtoipjmjhplkibaaGreatDoorW40
/- The contract of a log's leave where all its segments stay: its last segment's rest is cut off. -/
namespace Go.Proofs.YtoipjmjhplkibaaGreatDoor
open Go.RowKit Go.Shelf WalMath DiskMath
attribute [local go_sem] Oper.semAt_some
set_option maxRecDepth 100000
set_option linter.unusedSimpArgs false
set_option linter.unusedVariables false

/-- A loop backward over no segments. -/
theorem wp_back_none {g : Operand} {ps : Array Tmp} {assign body : Code} {Q : Exit → Act → World → Prop} {a : Act} {w : World} (av : Option Addr) (cap : Nat) (hps : ps.size = 2) (B : Nat) (hB : B = w.heap.size)
    (hg : a.eval g = .func (.func 87) #[] #[.pointer (some ⟨B, 0, none⟩)])
    (hassign : ∀ (l : Nat) (x : Int × Nat × Option Addr × Nat × Nat) (W : World) (K : Act → World → Prop), (∀ a' W', KeepsOthers W W' → Below W.heap.size W W' → K a' W') →
      assign.wpIn (Fence.wide.inRound l) (6 - 1 - 1) Tryz.prog (Exit.then K (fun _ _ _ => False)) { tmps := (ps.zip (encS (fun x : Nat × Option Addr × Nat × Nat => x) x)).foldl (fun t (p, v) => t.setIfInBounds p v) a.tmps, defers := [] } W)
    (hdone : ∀ (D : Nat) (W : World), w.heap.size < D → Below w.heap.size w W → W.heap[D]? = some (.deferred (some [])) → Q .normal { a with defers := { target := .collected D, args := #[] } :: a.defers } W) :
    (Code.rangeFunc g ps assign body).wp Tryz.prog Q a (w.alloc (.cells #[.slice av 0 cap] 73)) := by
  subst hB
  have hs1 : (w.alloc (.cells #[.slice av 0 cap] 73)).heap.size = w.heap.size + 1 := by simp
  have hb1 : Below w.heap.size w (w.alloc (.cells #[.slice av 0 cap] 73)) := (Below.refl _ _).alloc (Nat.le_refl _) _
  have hbk := heap_alloc_new w (.cells #[.slice av 0 cap] 73)
  have hcell : (w.alloc (.cells #[.slice av 0 cap] 73)).cell? ⟨w.heap.size, 0, none⟩ = some (.slice av 0 cap) := by rw [cells_of_block hbk]; rfl
  generalize w.alloc (.cells #[.slice av 0 cap] 73) = W0 at *
  refine (wpIn_wide (n := 6)).1 ?_
  refine wpIn_rangeFunc_ownH (α := Int × Nat × Option Addr × Nat × Nat) rfl (by omega) hg trivial (enters_of Tryz.func87 (by kernel_rfl) rfl)
    (back_stops (fun x : Nat × Option Addr × Nat × Nat => x) Fence.wide _ trivial rfl (by omega) w.heap.size w.heap.size (.slice av 0 cap) [] (by simp) W0 (by omega) hb1.size hcell (.inl ⟨av, cap, rfl, rfl⟩)) KeepB.trans (KeepB.put hb1.size (by omega)) (Below.refl _ _) (fun _ => hps.symm)
    (fun pre W => Below W0.heap.size W0 W)
    (fun _ _ _ => False)
    (ownFrom_below (Nat.le_refl _) (Nat.le_refl _))
    (fun _ _ _ _ _ hs _ _ => hs)
    (Below.refl _ _)
    (fun x a' W => True)
    (fun x a' _ X Y row hs hg hr => trivial)
    ?assign ?body ?done ?stop
  case assign =>
    intro l pre x W K hI hK
    exact hassign l x W K fun a' W' h1 h2 => hK a' W' (h1.from _) ⟨h2.mono (by have := hI.size; have := hb1.size; omega), h2.block _ (by have := hI.size; omega)⟩ (hI.trans (h2.mono hI.size)) trivial
  case body =>
    intro l pre x a' W hl hr hI hA hlt
    exact absurd hlt (by simp)
  case done =>
    intro D ys W hD hys hI hK
    exact hdone D W (by omega) (hb1.trans (hI.mono hb1.size)) hK
  case stop =>
    rintro D c pre W _ _ h _
    exact h.elim

/-- What leave leaves on the disk where all segments stay. -/
def leaveF (sg : List Seg) (fs : Files) : Files := match sg.getLast? with | none => fs | some s => (dCut fs (segName s.num) (sz s.recs : Int)).1
/-- What leave leaves. -/
def LeaveT (S : Nat → Prop) (w : World) (d : Value) (fs : Files) (e : Ending) (w' : World) : Prop := e = .returned (.tuple #[]) ∧ ∃ S', Dk S' w' d fs ∧ Step S S' w ∧ Kept S w w'

/-- A cell stored as it stood. -/
theorem set_val {n : Nat} {w w5 : World} {q : Nat} {d sv : Value} {t : TypeId} (h : w5.heap[q]? = some (.cells #[d, sv] t (0, 0))) (hb : Below n w w5) : Below n w (w5.setCell ⟨q, 1, none⟩ sv) ∧ ∀ k : Nat, (w5.setCell ⟨q, 1, none⟩ sv).heap[k]? = w5.heap[k]? := by
  have hk : ∀ k : Nat, (w5.setCell ⟨q, 1, none⟩ sv).heap[k]? = w5.heap[k]? := fun k => by
    by_cases e : k = q
    · subst e
      rw [seg_set h, h]
    · exact set_same 1 _ e
  exact ⟨⟨hb.os, hb.tape, hb.output, by rw [show (w5.setCell ⟨q, 1, none⟩ sv).heap.size = w5.heap.size by simp [World.setCell]]; exact hb.size, fun k hk' => (hk k).trans (hb.block k hk')⟩, hk⟩

set_option maxHeartbeats 4000000 in
theorem leave_all {S : Nat → Prop} {σ : Wm} {w : World} {q : Nat} {d sv : Value} {sg : List Seg} {fs : Files} (hT : Tb w) (hD : Dk S w d fs) (hW : WalAt σ w q d sv sg) (hS : ∀ b, S b → (σ b).1 = 0) (hlen : sg.length ≤ 1000) (hbd : ∀ s ∈ sg, s.num < 100000000 ∧ s.recs.length ≤ 100000) :
    Calls Tryz.prog 43 #[.pointer (some ⟨q, 0, none⟩), .int .i64 (sg.length : Int)] w (LeaveT S w d (leaveF sg fs)) := by
  refine (callsIn_wide (n := 6)).1 ?_
  refine callsIn_of_wp_marks Tryz.func43 rfl trivial ?_ rfl
  refine wpIn_wide.2 ?_
  simp only [Tryz.ntmps43, List.size_toArray, List.length_cons, List.length_nil, Nat.reduceAdd, Nat.reduceSub, Array.replicate_succ, Array.replicate_zero, List.push_toArray, List.append_toArray, List.nil_append, List.cons_append]
  have hq := hW.block
  have hql := (Array.getElem?_eq_some_iff.1 hq).1
  have hb0 : Below w.heap.size w (w.alloc (.cells #[.pointer (some ⟨q, 0, none⟩)] 25)) := (Below.refl _ _).alloc (Nat.le_refl _) _
  have c1 : (w.alloc (.cells #[.pointer (some ⟨q, 0, none⟩)] 25)).cell? ⟨q, 1, none⟩ = some sv := (hb0.cell (p := ⟨q, 1, none⟩) hql).trans (by rw [cells_of_block hq]; rfl)
  cases hl : sg.length with
  | zero =>
    obtain rfl := List.eq_nil_of_length_eq_zero hl
    have hlf : leaveF [] fs = fs := rfl
    rw [hlf]
    obtain ⟨vs, hv, hR, -⟩ := hW.segs.ex
    obtain ⟨-, ⟨rfl, -⟩ | ⟨g, cap, cur, rfl, -, -, h1, h2, -⟩⟩ := hR
    · have hx := ()
      clear hx
      go_wp2_with (go_at_call 35; refine (callsIn_wide.1 (back_in Fence.wide 6 trivial rfl _ _ _ _)).mono ?_; rintro e w' ⟨rfl, rfl⟩)
      refine wp_back_none _ _ rfl (w.heap.size + 1) (by simp) rfl ?assign ?done
      case assign =>
        intro l x W K hK
        dsimp only [encS]
        gi_wp2
        exact hK _ _ (KeepsOthers.alloc _ _) ((Below.refl _ _).alloc (Nat.le_refl _) _)
      case done =>
        intro D W hDD hbW hK
        have hs0 : (w.alloc (.cells #[.pointer (some ⟨q, 0, none⟩)] 25)).heap.size = w.heap.size + 1 := by simp
        have hbox := (hbW.block w.heap.size (by omega)).trans (heap_alloc_new w (.cells #[.pointer (some ⟨q, 0, none⟩)] 25))
        have hb2 : Below w.heap.size w W := hb0.trans (hbW.mono hb0.size)
        have hq2 := (hb2.block q hql).trans hq
        have hDl : D < W.heap.size := (Array.getElem?_eq_some_iff.1 hK).1
        have hdW : Below W.heap.size W W.drew := (Below.refl _ _).drew
        have kd := fun W' => delete_nil W'
        have fS : ∀ W', Below W.heap.size W W' → W'.cell? ⟨w.heap.size, 0, none⟩ = some (.pointer (some ⟨q, 0, none⟩)) ∧ W'.cell? ⟨q, 1, none⟩ = some (.slice none 0 0) := fun W' hb => by
          have e1 := (hb.block w.heap.size (Array.getElem?_eq_some_iff.1 hbox).1).trans hbox
          have e2 := (hb.block q (Array.getElem?_eq_some_iff.1 hq2).1).trans hq2
          exact ⟨by rw [cells_of_block e1]; rfl, by rw [cells_of_block e2]; rfl⟩
        have fF : ∀ W', Below W.heap.size W W' → W'.frozen? ⟨q, 1, none⟩ = false := fun W' hb => frozen_of ((hb.block q (Array.getElem?_eq_some_iff.1 hq2).1).trans hq2) 1
        have fT : ∀ W', Below W.heap.size W W' → (W'.setCell ⟨q, 1, none⟩ (.slice none 0 0)).cell? ⟨w.heap.size, 0, none⟩ = some (.pointer (some ⟨q, 0, none⟩)) ∧ (W'.setCell ⟨q, 1, none⟩ (.slice none 0 0)).cell? ⟨q, 1, none⟩ = some (.slice none 0 0) := fun W' hb => by
          have e2 := (hb.block q (Array.getElem?_eq_some_iff.1 hq2).1).trans hq2
          have hk := (set_val (n := 0) e2 (Below.refl _ _)).2
          exact ⟨(World.cell?_of_block (w := W') (hk _)).trans (fS W' hb).1, (World.cell?_of_block (w := W') (hk _)).trans (fS W' hb).2⟩
        have hfin : ∀ W', Below W.heap.size W W' → Hid ((W'.setCell ⟨q, 1, none⟩ (.slice none 0 0)).heap[D]? = some (.deferred (some [])) ∧ LeaveT S w d fs (.returned (.tuple #[])) ((W'.setCell ⟨q, 1, none⟩ (.slice none 0 0)).putObj D (.deferred none))) := fun W' hb => by
          have e2 := (hb.block q (Array.getElem?_eq_some_iff.1 hq2).1).trans hq2
          obtain ⟨hb6, hk6⟩ := set_val e2 (hb2.trans (hb.mono hb2.size))
          refine ⟨(hk6 D).trans ((hb.block D hDl).trans hK), rfl, S, ?_, fun _ h => .inl h, ?_⟩
          · refine diskOf.kept (diskOf.below hD hb6) (by simp [World.putObj]) fun b hb' => (grownBy_putObj' _ D (.deferred none)).block b (Nat.lt_of_lt_of_le (diskOf.lt hD b hb') hb6.size) (fun e => ?_)
            cases e
            have := diskOf.lt hD D hb'
            omega
          · have hg := grownBy_putObj' (W'.setCell ⟨q, 1, none⟩ (.slice none 0 0)) D (.deferred none)
            refine ⟨hg.os.trans hb6.os, hg.tape.trans hb6.tape, hg.output.trans hb6.output, Nat.le_trans hb6.size hg.size, fun b hb' _ => ?_⟩
            rw [hg.block b (by have := hb6.size; omega) (fun e => by cases e; omega), hb6.block b hb']
        have y0 := fS _ hdW
        generalize LeaveT S w d fs = T at *
        clear hW hD hq hq2 hbox hK hb2 hbW hb0
        go_wp2
        go_region_held3 (fun w' => w'.cell? ⟨w.heap.size, 0, none⟩ = some (.pointer (some ⟨q, 0, none⟩)) ∧ w'.cell? ⟨q, 1, none⟩ = some (.slice none 0 0))
          (first | exact y0 | exact y5 | exact y6 | go_keep)
          ((go_at_call 48; refine (kd _).mono ?_; rintro e w5 ⟨rfl, b5'⟩; have b5 := hdW.trans b5'; have y5 := fS _ b5; have y6 := fT _ b5; have z5 := fF _ b5))
        all_goals
          obtain ⟨hKf, hTf⟩ := (hfin _ b5).out
          clear hfin fS fT fF y0 y5 y6 kd
          go_wp2
          refine ⟨by simp, .inl ⟨_, _, rfl, run_takeDeferred hKf, ?_⟩⟩
          exact ⟨_, results_none rfl _ _ _, hTf⟩
    · have hl0 : (sg2 [] vs).length = 0 := by simp [sg2]
      rw [hl0] at hq c1 h1
      have hcm : (cap : Int) ≤ 9223372036854775807 := by unfold maxLen at h2; omega
      have hni : (0 : Int) ≤ (cap : Int) := by omega
      obtain ⟨a, ha⟩ : ∃ a, (if cap = 0 then some (⟨g, 0, none⟩ : Addr) else some ⟨g, 0, none⟩) = some a := by split <;> exact ⟨_, rfl⟩
      go_wp2_with (go_at_call 35; refine (callsIn_wide.1 (back_in Fence.wide 6 trivial rfl _ _ _ _)).mono ?_; rintro e w' ⟨rfl, rfl⟩)
      refine wp_back_none _ _ rfl (w.heap.size + 1) (by simp) rfl ?assign ?done
      case assign =>
        intro l x W K hK
        dsimp only [encS]
        gi_wp2
        exact hK _ _ (KeepsOthers.alloc _ _) ((Below.refl _ _).alloc (Nat.le_refl _) _)
      case done =>
        intro D W hDD hbW hK
        have hs0 : (w.alloc (.cells #[.pointer (some ⟨q, 0, none⟩)] 25)).heap.size = w.heap.size + 1 := by simp
        have hbox := (hbW.block w.heap.size (by omega)).trans (heap_alloc_new w (.cells #[.pointer (some ⟨q, 0, none⟩)] 25))
        have hb2 : Below w.heap.size w W := hb0.trans (hbW.mono hb0.size)
        have hq2 := (hb2.block q hql).trans hq
        have hDl : D < W.heap.size := (Array.getElem?_eq_some_iff.1 hK).1
        have hdW : Below W.heap.size W W.drew := (Below.refl _ _).drew
        have kd := fun W' => delete_end g 0 cap W' h1 h2
        have fS : ∀ W', Below W.heap.size W W' → W'.cell? ⟨w.heap.size, 0, none⟩ = some (.pointer (some ⟨q, 0, none⟩)) ∧ W'.cell? ⟨q, 1, none⟩ = some (.slice (some ⟨g, 0, none⟩) 0 cap) := fun W' hb => by
          have e1 := (hb.block w.heap.size (Array.getElem?_eq_some_iff.1 hbox).1).trans hbox
          have e2 := (hb.block q (Array.getElem?_eq_some_iff.1 hq2).1).trans hq2
          exact ⟨by rw [cells_of_block e1]; rfl, by rw [cells_of_block e2]; rfl⟩
        have fF : ∀ W', Below W.heap.size W W' → W'.frozen? ⟨q, 1, none⟩ = false := fun W' hb => frozen_of ((hb.block q (Array.getElem?_eq_some_iff.1 hq2).1).trans hq2) 1
        have fT : ∀ W', Below W.heap.size W W' → (W'.setCell ⟨q, 1, none⟩ (.slice (some ⟨g, 0, none⟩) 0 cap)).cell? ⟨w.heap.size, 0, none⟩ = some (.pointer (some ⟨q, 0, none⟩)) ∧ (W'.setCell ⟨q, 1, none⟩ (.slice (some ⟨g, 0, none⟩) 0 cap)).cell? ⟨q, 1, none⟩ = some (.slice (some ⟨g, 0, none⟩) 0 cap) := fun W' hb => by
          have e2 := (hb.block q (Array.getElem?_eq_some_iff.1 hq2).1).trans hq2
          have hk := (set_val (n := 0) e2 (Below.refl _ _)).2
          exact ⟨(World.cell?_of_block (w := W') (hk _)).trans (fS W' hb).1, (World.cell?_of_block (w := W') (hk _)).trans (fS W' hb).2⟩
        have hfin : ∀ W', Below W.heap.size W W' → Hid ((W'.setCell ⟨q, 1, none⟩ (.slice (some ⟨g, 0, none⟩) 0 cap)).heap[D]? = some (.deferred (some [])) ∧ LeaveT S w d fs (.returned (.tuple #[])) ((W'.setCell ⟨q, 1, none⟩ (.slice (some ⟨g, 0, none⟩) 0 cap)).putObj D (.deferred none))) := fun W' hb => by
          have e2 := (hb.block q (Array.getElem?_eq_some_iff.1 hq2).1).trans hq2
          obtain ⟨hb6, hk6⟩ := set_val e2 (hb2.trans (hb.mono hb2.size))
          refine ⟨(hk6 D).trans ((hb.block D hDl).trans hK), rfl, S, ?_, fun _ h => .inl h, ?_⟩
          · refine diskOf.kept (diskOf.below hD hb6) (by simp [World.putObj]) fun b hb' => (grownBy_putObj' _ D (.deferred none)).block b (Nat.lt_of_lt_of_le (diskOf.lt hD b hb') hb6.size) (fun e => ?_)
            cases e
            have := diskOf.lt hD D hb'
            omega
          · have hg := grownBy_putObj' (W'.setCell ⟨q, 1, none⟩ (.slice (some ⟨g, 0, none⟩) 0 cap)) D (.deferred none)
            refine ⟨hg.os.trans hb6.os, hg.tape.trans hb6.tape, hg.output.trans hb6.output, Nat.le_trans hb6.size hg.size, fun b hb' _ => ?_⟩
            rw [hg.block b (by have := hb6.size; omega) (fun e => by cases e; omega), hb6.block b hb']
        have y0 := fS _ hdW
        generalize LeaveT S w d fs = T at *
        clear hW hD hq hq2 hbox hK hb2 hbW hb0
        go_wp2
        go_region_held3 (fun w' => w'.cell? ⟨w.heap.size, 0, none⟩ = some (.pointer (some ⟨q, 0, none⟩)) ∧ w'.cell? ⟨q, 1, none⟩ = some (.slice (some ⟨g, 0, none⟩) 0 cap))
          (first | exact y0 | exact y5 | exact y6 | go_keep)
          ((go_at_call 48; refine (kd _).mono ?_; rintro e w5 ⟨rfl, b5'⟩; have b5 := hdW.trans b5'; have y5 := fS _ b5; have y6 := fT _ b5; have z5 := fF _ b5))
        all_goals
          obtain ⟨hKf, hTf⟩ := (hfin _ b5).out
          clear hfin fS fT fF y0 y5 y6 kd
          go_wp2
          refine ⟨by simp, .inl ⟨_, _, rfl, run_takeDeferred hKf, ?_⟩⟩
          exact ⟨_, results_none rfl _ _ _, hTf⟩
  | succ m =>
    obtain ⟨g, cap, rfl, h1, h2, -⟩ := hW.segs.cells (by intro e; rw [e] at hl; cases hl)
    rw [hl] at h1 c1 hlen
    generalize hn : m + 1 = n at *
    have hni : (n : Int) ≤ (cap : Int) := by omega
    have hcm : (cap : Int) ≤ 9223372036854775807 := by unfold maxLen at h2; omega
    have hn0 : ¬ (n : Int) < 0 := by omega
    obtain ⟨a, ha⟩ : ∃ a, (if cap = n then some (⟨g, 0, none⟩ : Addr) else some ⟨g, n * 2, none⟩) = some a := by split <;> exact ⟨_, rfl⟩
    go_wp2_with (go_at_call 35; refine (callsIn_wide.1 (back_in Fence.wide 6 trivial rfl _ _ _ _)).mono ?_; rintro e w' ⟨rfl, rfl⟩)
    refine wp_back_none (some a) (cap - n) rfl (w.heap.size + 1) (by simp) rfl ?assign ?done
    case assign =>
      intro l x W K hK
      dsimp only [encS]
      gi_wp2
      exact hK _ _ (KeepsOthers.alloc _ _) ((Below.refl _ _).alloc (Nat.le_refl _) _)
    case done =>
      intro D W hDD hbW hK
      have hs0 : (w.alloc (.cells #[.pointer (some ⟨q, 0, none⟩)] 25)).heap.size = w.heap.size + 1 := by simp
      have hbox := (hbW.block w.heap.size (by omega)).trans (heap_alloc_new w (.cells #[.pointer (some ⟨q, 0, none⟩)] 25))
      have hb2 : Below w.heap.size w W := hb0.trans (hbW.mono hb0.size)
      have hD2 := diskOf.below hD hb2
      have hW2 := hW.below hb2
      have hq2 := hW2.block
      have hs := List.getElem?_eq_getElem (show m < sg.length by omega)
      have hsb := hbd sg[m] (List.getElem_mem _)
      have hlf : leaveF sg fs = (dCut fs (segName sg[m].num) (sz sg[m].recs : Int)).1 := by
        unfold leaveF
        rw [List.getLast?_eq_getElem?, show sg.length - 1 = m by omega, hs]
      generalize sg[m] = s at *
      have hDl : D < W.heap.size := (Array.getElem?_eq_some_iff.1 hK).1
      have hS2 := diskOf.lt hD
      rw [hl] at hq2 hW2
      have hWH : Hid (WalAt σ w q d (.slice (some ⟨g, 0, none⟩) sg.length cap) sg) := hW
      have hDH : Hid (Dk S w d fs) := hD
      clear hW hD hb0 hbW c1 hD2
      have hdr : Below w.heap.size w W.drew := hb2.drew
      have kd := fun W' => delete_end g n cap W' h1 h2
      have fx : ∀ W', Below W.heap.size W W' → W'.cell? ⟨w.heap.size, 0, none⟩ = some (.pointer (some ⟨q, 0, none⟩)) ∧ W'.cell? ⟨q, 1, none⟩ = some (.slice (some ⟨g, 0, none⟩) n cap) ∧ W'.frozen? ⟨q, 1, none⟩ = false := fun W' hb => by
        have e1 := (hb.block w.heap.size (Array.getElem?_eq_some_iff.1 hbox).1).trans hbox
        have e2 := (hb.block q (Array.getElem?_eq_some_iff.1 hq2).1).trans hq2
        exact ⟨by rw [cells_of_block e1]; rfl, by rw [cells_of_block e2]; rfl, frozen_of e2 1⟩
      have hdW : Below W.heap.size W W.drew := (Below.refl _ _).drew
      have fS : ∀ W', Below W.heap.size W W' → W'.cell? ⟨w.heap.size, 0, none⟩ = some (.pointer (some ⟨q, 0, none⟩)) ∧ W'.cell? ⟨q, 1, none⟩ = some (.slice (some ⟨g, 0, none⟩) n cap) := fun W' hb => ⟨(fx W' hb).1, (fx W' hb).2.1⟩
      have fT : ∀ W', Below W.heap.size W W' → (W'.setCell ⟨q, 1, none⟩ (.slice (some ⟨g, 0, none⟩) n cap)).cell? ⟨w.heap.size, 0, none⟩ = some (.pointer (some ⟨q, 0, none⟩)) ∧ (W'.setCell ⟨q, 1, none⟩ (.slice (some ⟨g, 0, none⟩) n cap)).cell? ⟨q, 1, none⟩ = some (.slice (some ⟨g, 0, none⟩) n cap) := fun W' hb => by
        have e2 := (hb.block q (Array.getElem?_eq_some_iff.1 hq2).1).trans hq2
        have hk := (set_val (n := 0) e2 (Below.refl _ _)).2
        exact ⟨(World.cell?_of_block (w := W') (hk _)).trans (fS W' hb).1, (World.cell?_of_block (w := W') (hk _)).trans (fS W' hb).2⟩
      have y0 := fS _ hdW
      go_wp2
      go_region_held3 (fun w' => w'.cell? ⟨w.heap.size, 0, none⟩ = some (.pointer (some ⟨q, 0, none⟩)) ∧ w'.cell? ⟨q, 1, none⟩ = some (.slice (some ⟨g, 0, none⟩) n cap))
        (first | exact y0 | exact y5 | exact y6 | go_keep)
        ((go_at_call 48; refine (kd _).mono ?_; rintro e w5 ⟨rfl, b5'⟩; have b5 := hdW.trans b5'; have y5 := fS _ b5; have y6 := fT _ b5; have z5 := (fx _ b5).2.2))
      all_goals
        refine gen_world ?_
        intro W6 hW6
        obtain ⟨hb6, hk6⟩ := set_val ((b5.block q (Array.getElem?_eq_some_iff.1 hq2).1).trans hq2) (hb2.trans (b5.mono hb2.size))
        rw [← hW6] at hb6 hk6
        have hKD : Hid (W6.heap[D]? = some (.deferred (some []))) := (hk6 D).trans ((b5.block D hDl).trans hK)
        have hbx6 : W6.heap[w.heap.size]? = some (.cells #[.pointer (some ⟨q, 0, none⟩)] 25 (0, 0)) := (hk6 _).trans ((b5.block _ (Array.getElem?_eq_some_iff.1 hbox).1).trans hbox)
        clear hW6 hk6 z5 y0 y5 y6 fS fT fx kd b5 b5' hW2 hq2 hq
        obtain ⟨g', cap', pv, e, -, -, ⟨pa, pn, pc, rfl⟩, hLK⟩ := last_k (fs := fs) (hT.new hb6) (hWH.out.below hb6) (by omega) (hl.trans hn.symm) hs hsb.1 hsb.2
        rw [hl] at e hLK
        cases e
        have hD6 := diskOf.below hDH.out hb6
        have hSx : ∀ b, S b → b < w.heap.size := hS2
        have hcl : ∀ W', Below W6.heap.size W6 W' → W'.cell? ⟨w.heap.size, 0, none⟩ = some (.pointer (some ⟨q, 0, none⟩)) ∧ W'.cell? ⟨q, 0, none⟩ = some d ∧ W'.cell? ⟨q, 1, none⟩ = some (.slice (some ⟨g, 0, none⟩) n cap) ∧ W'.cell? ⟨g, m * 2, none⟩ = some (.int .i64 (s.num : Int)) ∧ W'.cell? ⟨g, m * 2 + 1, none⟩ = some (.slice pa pn pc) := fun W' hb => by
          have e1 := (hb.block w.heap.size (Array.getElem?_eq_some_iff.1 hbx6).1).trans hbx6
          exact ⟨by rw [cells_of_block e1]; rfl, hLK.cells W' hb⟩
        have hgm : (σ g).1 ≠ 0 := by rw [hWH.out.segs.row g rfl]; simp
        have hqm : (σ q).1 ≠ 0 := by rw [hWH.out.mark]; simp
        have kc : ∀ W', Below W6.heap.size W6 W' → Calls Tryz.prog 76 #[d, .string (segName s.num), .int .i64 (sz s.recs : Int)] W' fun e w' => (∃ c : Int, e = .returned (.int .i64 c)) ∧ (w'.cell? ⟨w.heap.size, 0, none⟩ = some (.pointer (some ⟨q, 0, none⟩)) ∧ w'.cell? ⟨q, 0, none⟩ = some d ∧ w'.cell? ⟨q, 1, none⟩ = some (.slice (some ⟨g, 0, none⟩) n cap) ∧ w'.cell? ⟨g, m * 2, none⟩ = some (.int .i64 (s.num : Int)) ∧ w'.cell? ⟨g, m * 2 + 1, none⟩ = some (.slice pa pn pc)) ∧ Hid (w'.heap[D]? = some (.deferred (some [])) ∧ LeaveT S w d (leaveF sg fs) (.returned (.tuple #[])) (w'.putObj D (.deferred none))) := fun W' hb => by
          refine (diskOf.cut (segName s.num) (sz s.recs : Int) (segName_max _) (diskOf.below hD6 hb)).mono ?_
          rintro e w' ⟨he, S', hD', hst, hk⟩
          have hbw : Below w.heap.size w W' := hb6.trans (hb.mono hb6.size)
          have hcw := hcl W' hb
          have hno : ∀ b, w.heap.size ≤ b → ¬ S b := fun b hb' hs' => by have := hSx b hs'; omega
          have hD6l := (Array.getElem?_eq_some_iff.1 hKD.out).1
          have hKD' : w'.heap[D]? = some (.deferred (some [])) := (hk.block D (by have := hb.size; omega) (hno D (by omega))).trans ((hb.block D hD6l).trans hKD.out)
          refine ⟨⟨_, he⟩, ⟨hk.cell hcw.1 (hno _ (Nat.le_refl _)), hk.cell hcw.2.1 (fun h => hqm (hS q h)), hk.cell hcw.2.2.1 (fun h => hqm (hS q h)), hk.cell hcw.2.2.2.1 (fun h => hgm (hS g h)), hk.cell hcw.2.2.2.2 (fun h => hgm (hS g h))⟩, hKD', rfl, S', ?_, ?_, ?_⟩
          · rw [hlf]
            refine diskOf.kept hD' (by rw [show (w'.putObj D (.deferred none)).heap.size = w'.heap.size by simp [World.putObj]]; exact Nat.le_refl _) fun b hb' => (grownBy_putObj' w' D (.deferred none)).block b (diskOf.lt hD' b hb') (fun e => ?_)
            cases e
            rcases hst D hb' with h | h
            · exact hno D (by omega) h
            · have := hb.size
              omega
          · intro b hb'
            rcases hst b hb' with h | h
            · exact .inl h
            · exact .inr (Nat.le_trans hbw.size h)
          · have hg := grownBy_putObj' w' D (.deferred none)
            refine ⟨hg.os.trans (hk.os.trans hbw.os), hg.tape.trans (hk.tape.trans hbw.tape), hg.output.trans (hk.output.trans hbw.output), Nat.le_trans hbw.size (Nat.le_trans hk.size hg.size), fun b hb' hns => ?_⟩
            rw [hg.block b (by have := hk.size; have := hbw.size; omega) (fun e => by cases e; omega), hk.block b (by have := hbw.size; omega) hns, hbw.block b hb']
        have hd6 : Below W6.heap.size W6 W6.drew := (Below.refl _ _).drew
        obtain ⟨-, kend, kname, ksize⟩ := hLK
        have y0 := hcl _ hd6
        have hn0i : (0 : Int) < (n : Int) := by omega
        have hn0n : 0 < n := by omega
        obtain ⟨dq, rfl⟩ := hD6.shape
        generalize LeaveT S w (.pointer (some ⟨dq, 0, none⟩)) (leaveF sg fs) = T at *
        obtain ⟨Z, hZ⟩ : ∃ Z, Z = sz s.recs := ⟨_, rfl⟩
        rw [← hZ] at ksize kc
        clear hWH hDH hbx6 hgm hqm hb6 hD6 hbox hb2 hS hS2 hSx hK hlf hZ
        go_wp2
        go_region_held3 (fun w' => w'.cell? ⟨w.heap.size, 0, none⟩ = some (.pointer (some ⟨q, 0, none⟩)) ∧ w'.cell? ⟨q, 0, none⟩ = some (.pointer (some ⟨dq, 0, none⟩)) ∧ w'.cell? ⟨q, 1, none⟩ = some (.slice (some ⟨g, 0, none⟩) n cap) ∧ w'.cell? ⟨g, m * 2, none⟩ = some (.int .i64 (s.num : Int)) ∧ w'.cell? ⟨g, m * 2 + 1, none⟩ = some (.slice pa pn pc))
          (first | exact y0 | exact y9 | exact hcl _ t4 | exact hcl _ t3 | exact hcl _ t2 | exact hcl _ t1 | go_keep)
          (first
            | (go_at_call 38; first | (refine (kend _ t2).mono ?_; rintro e v3 ⟨rfl, t3⟩) | (refine (kend _ hd6).mono ?_; rintro e v1 ⟨rfl, t1⟩))
            | (go_at_call 39; refine (kname _ t1).mono ?_; rintro e v2 ⟨rfl, t2⟩)
            | (go_at_call 86; refine (ksize _ t3).mono ?_; rintro e v4 ⟨rfl, t4⟩)
            | (go_at_call 76; refine (kc _ t4).mono ?_; rintro e v9 ⟨⟨cc, rfl⟩, y9, hfin⟩))
        obtain ⟨hKf, hTf⟩ := hfin.out
        clear hfin hcl kc kend kname ksize
        go_wp2
        refine ⟨by simp, .inl ⟨_, _, rfl, run_takeDeferred hKf, ?_⟩⟩
        exact ⟨_, results_none rfl _ _ _, hTf⟩
end Go.Proofs.YtoipjmjhplkibaaGreatDoor

/- The contracts of a log's open and of Open, where all segments' files but the last one are whole. -/
namespace Go.Proofs.YtoipjmjhplkibaaGreatDoor
open Go.RowKit WalMath DiskMath
set_option maxRecDepth 100000
set_option linter.unusedSimpArgs false
set_option linter.unusedVariables false

/-- What open leaves, the log's block being q. -/
def OpenT (S : Nat → Prop) (w : World) (q : Nat) (d : Value) (sg : List Seg) (fs : Files) (e : Ending) (w' : World) : Prop :=
  e = .returned (.tuple #[]) ∧ ∃ S' σ sv, Dk S' w' d fs ∧ WalAt σ w' q d sv sg ∧ (∀ b, S' b → (σ b).1 = 0) ∧ Step S S' w ∧ (∀ b, (σ b).1 ≠ 0 → b = q ∨ w.heap.size ≤ b) ∧ Kept (fun b => S b ∨ b = q) w w'

theorem open_end {S : Nat → Prop} {w w2 w3 : World} {q : Nat} {d sv : Value} {sg : List Seg} {σ : Wm} (hq : w.heap[q]? = some (.cells #[d, .slice none 0 0] 75 (0, 0))) (hqS : ¬ S q) (hSlt : ∀ b, S b → b < w.heap.size) (hb2 : Below w.heap.size w w2) (hb3 : Below w2.heap.size w2 w3) (hG : SegsAt σ w3 sv sg) (hnew : ∀ b, (σ b).1 ≠ 0 → w2.heap.size ≤ b) :
    ∃ σ', WalAt σ' (w3.setCell ⟨q, 1, none⟩ sv) q d sv sg ∧ (∀ b, S b → (σ' b).1 = 0) ∧ (∀ b, (σ' b).1 ≠ 0 → b = q ∨ w.heap.size ≤ b) ∧ Kept (fun b => S b ∨ b = q) w (w3.setCell ⟨q, 1, none⟩ sv) := by
  have hql := (Array.getElem?_eq_some_iff.1 hq).1
  have hb23 := hb2.trans (hb3.mono hb2.size)
  have hq3 := (hb23.block q hql).trans hq
  have hs := hb2.size
  have hsz : (w3.setCell ⟨q, 1, none⟩ sv).heap.size = w3.heap.size := by simp [World.setCell]
  have hq0 : (σ q).1 = 0 := by
    by_cases h : (σ q).1 = 0
    · exact h
    · have := hnew q h
      omega
  refine ⟨fun b => if b = q then (1, 0) else σ b, ⟨seg_set hq3 sv, hG.same (fun b hb => set_same 1 _ (fun e => by subst e; exact hb hq0)) (fun b hb => if_neg (fun e => by subst e; exact hb hq0)) (fun b hb => ?_), if_pos rfl⟩, fun b hb => ?_, fun b hb => ?_, ?_⟩
  · rw [hsz]
    by_cases e : b = q
    · have := hb23.size
      omega
    · have hb' : ((if b = q then (1, 0) else σ b) : Nat × Nat).1 ≠ 0 := hb
      rw [if_neg e] at hb'
      exact hG.lt b hb'
  · show ((if b = q then (1, 0) else σ b) : Nat × Nat).1 = 0
    rw [if_neg (fun e : b = q => hqS (e ▸ hb))]
    by_cases h : (σ b).1 = 0
    · exact h
    · have := hnew b h
      have := hSlt b hb
      omega
  · have hb' : ((if b = q then (1, 0) else σ b) : Nat × Nat).1 ≠ 0 := hb
    by_cases e : b = q
    · exact .inl e
    · rw [if_neg e] at hb'
      have := hnew b hb'
      exact .inr (by omega)
  · refine ⟨hb23.os, hb23.tape, hb23.output, by rw [hsz]; exact hb23.size, fun b hb hn => ?_⟩
    rw [set_same 1 _ (fun e => hn (.inr e))]
    exact hb23.block b hb

set_option maxHeartbeats 4000000 in
theorem open_of {S : Nat → Prop} {w : World} {q : Nat} {d : Value} {fs : Files} (xs : List (Seg × Nat)) (hT : Tb w) (hD : Dk S w d fs) (hq : w.heap[q]? = some (.cells #[d, .slice none 0 0] 75 (0, 0))) (hqS : ¬ S q) (hq2 : 2 ≤ q) (hS2 : ∀ b, S b → 2 ≤ b) (hx : Rdl xs) (hs : SegFs fs (xs.map xfile)) :
    Calls Tryz.prog 33 #[.pointer (some ⟨q, 0, none⟩)] w (OpenT S w q d (xs.map cutS) (leaveF (xs.map cutS) fs)) := by
  have kf := dfiles_of hD
  have hql := (Array.getElem?_eq_some_iff.1 hq).1
  have hSlt := diskOf.lt hD
  have c0 : w.cell? ⟨q, 0, none⟩ = some d := by rw [cells_of_block hq]; rfl
  have hrise : Rising (xs.map xfile) := fun i x y h1 h2 => by
    rw [List.getElem?_map] at h1 h2
    obtain ⟨a, ha, rfl⟩ := Option.map_eq_some_iff.1 h1
    obtain ⟨b, hb, rfl⟩ := Option.map_eq_some_iff.1 h2
    have := hx.num i a b ha hb
    show a.1.num < b.1.num
    omega
  have hbig : ∀ x ∈ xs.map xfile, 0 < x.1 ∧ x.1 < 100000000 := fun x hxm => by
    obtain ⟨y, hy, rfl⟩ := List.mem_map.1 hxm
    exact hx.big y hy
  have hfew : (xs.map xfile).length < 20 := by rw [List.length_map]; exact hx.few
  obtain ⟨dq, rfl⟩ := hD.shape
  have hlen : (xs.map cutS).length = xs.length := List.length_map _
  go_enter Tryz.func33, Tryz.ntmps33
  go_wp2_with fail
  refine kf.mono ?_
  rintro e w1 ⟨ov, rfl, hF, hb1⟩
  have kg := filesOf_of w.heap.size fs (xs.map xfile) ov w1 hF hs hbig hrise hfew
  obtain ⟨oa, oc, rfl⟩ := hF.shape
  clear kf hF
  go_wp2_with fail
  refine kg.mono ?_
  rintro e w2 ⟨v, rfl, hN, hSh, hb2⟩
  have hb02 := hb1.trans (hb2.mono hb1.size)
  have kr := read_of xs v w2 (hT.new hb02) hN hx
  obtain ⟨va, vc, hve, -⟩ := id hN
  rw [List.length_map] at hve
  subst hve
  clear kg hN
  go_wp2_with fail
  refine kr.mono ?_
  rintro e w3 ⟨sv, rv, σ, rfl, hG, hnew, hb3⟩
  have hb03 := hb02.trans (hb3.mono hb02.size)
  have hq3 := (hb03.block q hql).trans hq
  have f1 := frozen_of hq3 1
  have d1 : w3.cell? ⟨q, 1, none⟩ = some (.slice none 0 0) := by rw [cells_of_block hq3]; rfl
  obtain ⟨σ', hW', hS', hq', hk'⟩ := open_end hq hqS hSlt hb02 hb3 hG hnew
  have hshape : ∃ a c, sv = .slice a xs.length c := by
    obtain ⟨a, c, e, -⟩ := hG.shape
    rw [hlen] at e
    exact ⟨a, c, e⟩
  obtain ⟨sa, sc, rfl⟩ := hshape
  have hsz4 : (w3.setCell ⟨q, 1, none⟩ (.slice sa xs.length sc)).heap.size = w3.heap.size := by simp [World.setCell]
  have hD4 : Dk S (w3.setCell ⟨q, 1, none⟩ (.slice sa xs.length sc)) (.pointer (some ⟨dq, 0, none⟩)) fs := diskOf.kept hD (by rw [hsz4]; exact hb03.size) fun b hb => (set_same 1 _ (fun e => by subst e; exact hqS hb)).trans (hb03.block b (hSlt b hb))
  have hno : ∀ k, k < 2 → ¬ (S k ∨ k = q) := fun k hk h => by
    rcases h with h | h
    · have := hS2 k h
      omega
    · omega
  have hT4 : Tb (w3.setCell ⟨q, 1, none⟩ (.slice sa xs.length sc)) := hT.below (n := 2) ⟨hk'.os, hk'.tape, hk'.output, hk'.size, fun k hk => hk'.block k (by have := hT.two; omega) (hno k hk)⟩ (Nat.le_refl _)
  have hq4 := hW'.block
  have e1 : (w3.setCell ⟨q, 1, none⟩ (.slice sa xs.length sc)).cell? ⟨q, 1, none⟩ = some (.slice sa xs.length sc) := by rw [cells_of_block hq4]; rfl
  have kl := leave_all hT4 hD4 hW' hS' (by rw [hlen]; have := hx.few; omega) (fun s hs => by
    obtain ⟨y, hy, rfl⟩ := List.mem_map.1 hs
    refine ⟨(hx.big y hy).2, ?_⟩
    show (y.1.recs.take _).length ≤ _
    rw [List.length_take]
    have := (hx.small y hy).2
    omega)
  rw [hlen] at kl
  have fin : ∀ e w', LeaveT S (w3.setCell ⟨q, 1, none⟩ (.slice sa xs.length sc)) (.pointer (some ⟨dq, 0, none⟩)) (leaveF (xs.map cutS) fs) e w' → e = .returned (.tuple #[]) ∧ Hid (OpenT S w q (.pointer (some ⟨dq, 0, none⟩)) (xs.map cutS) (leaveF (xs.map cutS) fs) e w') := by
    rintro e w' ⟨he, S5, h1, h2, h3⟩
    refine ⟨he, he, S5, σ', _, h1, hW'.kept h3 hS', fun b hb => ?_, fun b hb => ?_, hq', ?_⟩
    · rcases h2 b hb with h | h
      · exact hS' b h
      · by_cases h0 : (σ' b).1 = 0
        · exact h0
        · have := hW'.segs.lt b h0
          omega
    · rcases h2 b hb with h | h
      · exact .inl h
      · exact .inr (Nat.le_trans hk'.size h)
    · exact ⟨h3.os.trans hk'.os, h3.tape.trans hk'.tape, h3.output.trans hk'.output, Nat.le_trans hk'.size h3.size, fun b hb hn => (h3.block b (Nat.lt_of_lt_of_le hb hk'.size) (fun h => hn (.inl h))).trans (hk'.block b hb hn)⟩
  generalize LeaveT S (w3.setCell ⟨q, 1, none⟩ (.slice sa xs.length sc)) (.pointer (some ⟨dq, 0, none⟩)) (leaveF (xs.map cutS) fs) = LT at *
  generalize OpenT S w q (.pointer (some ⟨dq, 0, none⟩)) (xs.map cutS) (leaveF (xs.map cutS) fs) = T at *
  rw [List.length_map] at hSh
  clear kr hG hD4 hT4 hq4 hW' hD hq3
  rcases hSh with ⟨h1, h2⟩ | ⟨g, cap, h1, h2, h3⟩
  · injection h1 with h1 h1' h1''
    subst h1 h1''
    obtain rfl := List.eq_nil_of_length_eq_zero h2
    simp only [List.length_nil] at kl fin e1 d1 ⊢
    clear hlen h1' h2 hrise hbig hfew hs hx
    go_wp2
    go_loopg [29] 0 (fun g s29 wr => s29 = .int .i64 0 ∧ wr = (w3.setCell ⟨q, 1, none⟩ (.slice sa 0 sc)))
    case atStart => exact ⟨rfl, rfl⟩
    case round =>
      obtain ⟨rfl, rfl⟩ := hrel
      go_wp2_with fail
      refine kl.mono ?_
      intro e w9 hL
      obtain ⟨rfl, hfin⟩ := fin e w9 hL
      clear fin kl hL
      go_wp2 <;> first | exact hfin.out | (go_end0; exact hfin.out)
  · injection h1 with h1 h1' h1''
    subst h1 h1''
    have hn1 : (xs.length : Int) ≤ (vc : Int) := by omega
    have hn2 : ¬ (xs.length : Int) < 0 := by omega
    have hn3 : (vc : Int) ≤ 9223372036854775807 := by unfold maxLen at h3; omega
    obtain ⟨a, ha⟩ : ∃ a, (if vc = xs.length then some (⟨g, 0, none⟩ : Addr) else some ⟨g, xs.length * 2, none⟩) = some a := by split <;> exact ⟨_, rfl⟩
    go_wp2
    go_loopg [29] 0 (fun g s29 wr => s29 = .int .i64 0 ∧ wr = (w3.setCell ⟨q, 1, none⟩ (.slice sa xs.length sc)))
    case atStart => exact ⟨rfl, rfl⟩
    case round =>
      obtain ⟨rfl, rfl⟩ := hrel
      go_wp2_with fail
      refine kl.mono ?_
      intro e w9 hL
      obtain ⟨rfl, hfin⟩ := fin e w9 hL
      clear fin kl hL
      go_wp2 <;> first | exact hfin.out | (go_end0; exact hfin.out)
end Go.Proofs.YtoipjmjhplkibaaGreatDoor

/- The contract of Open. -/
namespace Go.Proofs.YtoipjmjhplkibaaGreatDoor
open Go.RowKit WalMath DiskMath
set_option maxRecDepth 100000
set_option linter.unusedSimpArgs false
set_option linter.unusedVariables false

/-- What Open tells: a log over the disk. -/
def OpensT (S : Nat → Prop) (w : World) (d : Value) (sg : List Seg) (fs : Files) (e : Ending) (w' : World) : Prop :=
  ∃ v U, e = .returned (.tuple #[v, .int .i64 0]) ∧ Lg U w' v d sg fs ∧ Step S U w ∧ Kept S w w'

set_option maxHeartbeats 2000000 in
theorem opens_of {S : Nat → Prop} {w : World} {d : Value} {fs : Files} (xs : List (Seg × Nat)) (hT : Tb w) (hD : Dk S w d fs) (hS2 : ∀ b, S b → 2 ≤ b) (hx : Rdl xs) (hs : SegFs fs (xs.map xfile)) :
    Calls Tryz.prog 8 #[d] w (OpensT S w d (xs.map cutS) (leaveF (xs.map cutS) fs)) := by
  have kg := wgiven_of hD
  have ko : ∀ S1 w1, Dk S1 w1 d fs → Step S S1 w → Kept S w w1 → Calls Tryz.prog 33 #[.pointer (some ⟨w1.heap.size, 0, none⟩)] (w1.alloc (.cells #[d, .slice none 0 0] 75)) fun e w' => e = .returned (.tuple #[]) ∧ Hid (OpensT S w d (xs.map cutS) (leaveF (xs.map cutS) fs) (.returned (.tuple #[.pointer (some ⟨w1.heap.size, 0, none⟩), .int .i64 0])) w') := fun S1 w1 h1 h2 h3 => by
    have hb : Below w1.heap.size w1 (w1.alloc (.cells #[d, .slice none 0 0] 75)) := (Below.refl _ _).alloc (Nat.le_refl _) _
    have h2' : ∀ b, S1 b → 2 ≤ b := fun b hb => (h2 b hb).elim (hS2 b) fun h => Nat.le_trans hT.two h
    have hT1 : Tb w1 := hT.below (n := 2) ⟨h3.os, h3.tape, h3.output, h3.size, fun k hk => h3.block k (by have := hT.two; omega) (fun h => by have := hS2 k h; omega)⟩ (Nat.le_refl _)
    have hlt := diskOf.lt h1
    refine (open_of (q := w1.heap.size) xs (hT1.new hb) (diskOf.below h1 hb) (heap_alloc_new w1 _) (fun h => by have := hlt _ h; omega) (by have := hT1.two; omega) h2' hx hs).mono ?_
    rintro e w' ⟨he, S', σ, sv, g1, g2, g3, g4, g5, g6⟩
    have hsz : (w1.alloc (.cells #[d, .slice none 0 0] 75)).heap.size = w1.heap.size + 1 := by simp
    refine ⟨he, _, fun b => S' b ∨ (σ b).1 ≠ 0, rfl, ⟨S', σ, w1.heap.size, sv, rfl, g1, g2, g3, fun b => Iff.rfl⟩, fun b hb' => ?_, ?_⟩
    · have hs3 := h3.size
      rcases hb' with h | h
      · rcases g4 b h with h | h
        · exact h2 b h
        · exact .inr (by omega)
      · rcases g5 b h with h | h
        · exact .inr (by omega)
        · exact .inr (by omega)
    · refine ⟨g6.os.trans h3.os, g6.tape.trans h3.tape, g6.output.trans h3.output, by have := g6.size; have := h3.size; omega, fun b hb' hn => ?_⟩
      have hs3 := h3.size
      rw [g6.block b (by omega) (fun h => by
        rcases h with h | h
        · exact (h2 b h).elim hn fun h' => by omega
        · omega), hb.block b (by omega), h3.block b hb' hn]
  obtain ⟨dq, rfl⟩ := hD.shape
  generalize OpensT S w (.pointer (some ⟨dq, 0, none⟩)) (xs.map cutS) (leaveF (xs.map cutS) fs) = T at *
  clear hD hT hx hs
  go_enter Tryz.func8, Tryz.ntmps8
  go_wp2_with fail
  refine kg.mono ?_
  rintro e w1 ⟨rfl, S1, h1, h2, h3⟩
  have ko1 := ko S1 w1 h1 h2 h3
  clear kg ko h1 h2 h3
  go_wp2_with fail
  refine ko1.mono ?_
  rintro e w2 ⟨rfl, hfin⟩
  clear ko1
  go_wp2 <;> first | exact hfin.out | (go_ret2; exact hfin.out)
end Go.Proofs.YtoipjmjhplkibaaGreatDoor

