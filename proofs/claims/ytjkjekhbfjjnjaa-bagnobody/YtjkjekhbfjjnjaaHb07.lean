import Derived.Test.YtjkjekhbfjjnjaaHb06
import Derived.Laws.Cover3
/- A bag of the call's own: how it lies in memory; what only reads it. -/
namespace Go.Proofs.Ytjkjekhbfjjnjaa
open Go.RowKit Go.Maps
set_option maxRecDepth 100000
set_option linter.unusedSimpArgs false
set_option linter.unusedVariables false

/-- All blocks but those of S are as they were. -/
structure Kept (S : Nat → Prop) (w w' : World) : Prop where
  os : w'.os = w.os
  tape : w'.tape = w.tape
  output : w'.output = w.output
  size : w.heap.size ≤ w'.heap.size
  block : ∀ k, k < w.heap.size → ¬ S k → w'.heap[k]? = w.heap[k]?
theorem Kept.below {S : Nat → Prop} {w w' : World} {n : Nat} (h : Kept S w w') (hn : n ≤ w.heap.size) (hS : ∀ b, S b → n ≤ b) : Below n w w' :=
  ⟨h.os, h.tape, h.output, h.size, fun k hk => h.block k (by omega) fun hs => by have := hS k hs; omega⟩
theorem Below.kept {S : Nat → Prop} {w w' : World} (h : Below w.heap.size w w') : Kept S w w' := ⟨h.os, h.tape, h.output, h.size, fun k hk _ => h.block k hk⟩
theorem Kept.cell {S : Nat → Prop} {w w' : World} (h : Kept S w w') {p : Addr} {v : Value} (hc : w.cell? p = some v) (hp : ¬ S p.block) : w'.cell? p = some v :=
  (World.cell?_of_block (w := w) (h.block p.block (World.block_lt_of_cell? w _ hc) hp)).trans hc
theorem Kept.trans {S T : Nat → Prop} {w w' w'' : World} (h : Kept S w w') (h' : Kept T w' w'') (hs : ∀ b, T b → S b ∨ w.heap.size ≤ b) : Kept S w w'' :=
  ⟨h'.os.trans h.os, h'.tape.trans h.tape, h'.output.trans h.output, Nat.le_trans h.size h'.size, fun k hk hn => (h'.block k (Nat.lt_of_lt_of_le hk h.size) fun ht => (hs k ht).elim hn fun h => by omega).trans (h.block k hk hn)⟩
theorem Kept.refl (S : Nat → Prop) (w : World) : Kept S w w := ⟨rfl, rfl, rfl, Nat.le_refl _, fun _ _ _ => rfl⟩
/-- The blocks behind an act: those that were, and new ones. -/
def Step (S S' : Nat → Prop) (w : World) : Prop := ∀ b, S' b → S b ∨ w.heap.size ≤ b
theorem Step.refl (S : Nat → Prop) (w : World) : Step S S w := fun _ h => .inl h

/-- Who is parted, as the map has it. -/
def pm (P : Int → Int → Bool) (v : Value) : Option Value :=
  match v with
  | .agg cs => match cs.toList with
    | [.int .i64 x, .int .i64 y] => if P x y then some (.agg #[]) else none
    | _ => none
  | _ => none
theorem pm_at (P : Int → Int → Bool) (x y : Int) : pm P (pKey x y) = if P x y then some (.agg #[]) else none := rfl
theorem pm_none : pm (fun _ _ => false) = fun _ => none := by
  funext v
  unfold pm
  split
  · split
    · rfl
    · rfl
  · rfl
/-- Two more. -/
def partP (P : Int → Int → Bool) (x y : Int) : Int → Int → Bool := fun a b => (a == x && b == y) || P a b
theorem pm_part (P : Int → Int → Bool) (x y : Int) : pm (partP P x y) (pKey x y) = some (.agg #[]) ∧ ∀ v, v ≠ pKey x y → pm (partP P x y) v = pm P v := by
  refine ⟨by rw [pm_at]; simp [partP], fun v hv => ?_⟩
  unfold pm
  split
  · rename_i cs
    split
    · rename_i a b he
      have hcs : cs = #[.int .i64 a, .int .i64 b] := Array.toList_inj.1 he
      have : partP P x y a b = P a b := by
        unfold partP
        by_cases e : a = x ∧ b = y
        · obtain ⟨rfl, rfl⟩ := e
          exact absurd (by rw [hcs]; rfl) hv
        · have : (a == x && b == y) = false := by
            simp only [Bool.and_eq_false_iff, beq_eq_false_iff_ne]
            by_cases e1 : a = x
            · exact .inr fun e2 => e ⟨e1, e2⟩
            · exact .inl e1
          rw [this, Bool.false_or]
      rw [this]
    · rfl
  · rfl

/-- A bag: its box, its messages' row, the map of who is parted. -/
structure BagAt (w : World) (p m : Nat) (fv : Value) (l : List Msg) (P : Int → Int → Bool) (N : Nat) : Prop where
  box : w.heap[p]? = some (.cells #[fv, .map (some m)] 49 (0, 0))
  row : Rk msgE w 62 fv l
  map : ∃ c, c ≤ N ∧ Mq 59 w m (pm P) c
  ok : ∀ x ∈ l, MsgOk x
/-- Its blocks. -/
def Mine (p m : Nat) (fv : Value) (k : Nat) : Prop := k = p ∨ k = m ∨ fv.ownBlock = some k

theorem BagAt.lt {w : World} {p m : Nat} {fv : Value} {l : List Msg} {P : Int → Int → Bool} {N : Nat} (h : BagAt w p m fv l P N) : ∀ k, Mine p m fv k → k < w.heap.size := by
  rintro k (rfl | rfl | hk)
  · exact (Array.getElem?_eq_some_iff.1 h.box).1
  · obtain ⟨c, _, hM⟩ := h.map
    exact hM.lt
  · exact h.row.lt hk
theorem BagAt.same {w w' : World} {p m : Nat} {fv : Value} {l : List Msg} {P : Int → Int → Bool} {N : Nat} (h : BagAt w p m fv l P N) (hs : ∀ k, Mine p m fv k → w'.heap[k]? = w.heap[k]?) : BagAt w' p m fv l P N := by
  obtain ⟨c, hc, hM⟩ := h.map
  exact ⟨(hs p (.inl rfl)).trans h.box, h.row.same fun k hk => hs k (.inr (.inr hk)), ⟨c, hc, hM.same (hs m (.inr (.inl rfl)))⟩, h.ok⟩
theorem BagAt.below {w w' : World} {p m : Nat} {fv : Value} {l : List Msg} {P : Int → Int → Bool} {N : Nat} (h : BagAt w p m fv l P N) (hb : Below w.heap.size w w') : BagAt w' p m fv l P N := h.same fun k hk => hb.block k (h.lt k hk)
theorem BagAt.ne {w : World} {p m : Nat} {fv : Value} {l : List Msg} {P : Int → Int → Bool} {N : Nat} (h : BagAt w p m fv l P N) : p ≠ m ∧ fv.ownBlock ≠ some p ∧ fv.ownBlock ≠ some m := by
  obtain ⟨c, hc, hM⟩ := h.map
  obtain ⟨es, cl, hb⟩ := hM.block
  refine ⟨?_, fun e => ?_, fun e => ?_⟩
  · rintro rfl
    rw [h.box] at hb
    cases hb
  · obtain ⟨cs, hcs⟩ := h.row.block e
    rw [h.box] at hcs
    injection hcs with hcs
    injection hcs with _ hcs
    cases hcs
  · obtain ⟨cs, hcs⟩ := h.row.block e
    rw [hb] at hcs
    cases hcs
theorem BagAt.cells {w : World} {p m : Nat} {fv : Value} {l : List Msg} {P : Int → Int → Bool} {N : Nat} (h : BagAt w p m fv l P N) : w.cell? ⟨p, 0, none⟩ = some fv ∧ w.cell? ⟨p, 1, none⟩ = some (.map (some m)) ∧ ∀ i, w.frozen? ⟨p, i, none⟩ = false :=
  ⟨by rw [cells_of_block h.box]; rfl, by rw [cells_of_block h.box]; rfl, fun i => frozen_of h.box i⟩

theorem map_neq (w : World) (r : Option Nat) : (binOp .neq 47 (.map r) (.map none)).run Try.prog w = .ok (.bool (!r.isNone)) w := run_neq_map_nil w _ _ _ r Try.underlying47
theorem given_of {w : World} {p m : Nat} {fv : Value} (h1 : w.cell? ⟨p, 1, none⟩ = some (.map (some m))) :
    Calls Try.prog 23 #[.pointer (some ⟨p, 0, none⟩)] w fun e w' => e = .returned (.bool true) ∧ w' = w := by
  have hq := map_neq
  go_enter Try.func23, Try.ntmps23
  go_wp2
  go_ret
  exact ⟨rfl, rfl⟩
theorem len_of {w : World} {p m : Nat} {ao : Option Addr} {n cap : Nat} (h0 : w.cell? ⟨p, 0, none⟩ = some (.slice ao n cap)) (h1 : w.cell? ⟨p, 1, none⟩ = some (.map (some m))) :
    Calls Try.prog 10 #[.pointer (some ⟨p, 0, none⟩)] w fun e w' => e = .returned (.int .i64 (n : Int)) ∧ w' = w := by
  go_enter Try.func10, Try.ntmps10
  go_wp2_with (go_at_call 23; refine (given_of (fv := .slice ao n cap) h1).mono ?_; rintro e w' ⟨rfl, rfl⟩)
  go_ret
  exact ⟨rfl, rfl⟩
theorem has_yes {w : World} {p m : Nat} {ao : Option Addr} {n cap : Nat} (h0 : w.cell? ⟨p, 0, none⟩ = some (.slice ao n cap)) (h1 : w.cell? ⟨p, 1, none⟩ = some (.map (some m))) (i : Int) (hi0 : 0 ≤ i) (hi : i < (n : Int)) :
    Calls Try.prog 25 #[.pointer (some ⟨p, 0, none⟩), .int .i64 i] w fun e w' => e = .returned (.bool true) ∧ w' = w := by
  go_enter Try.func25, Try.ntmps25
  go_wp2_with (go_at_call 10; refine (len_of h0 h1).mono ?_; rintro e w' ⟨rfl, rfl⟩)
  go_ret
  exact ⟨rfl, rfl⟩
theorem has_no {w : World} {p m : Nat} {ao : Option Addr} {n cap : Nat} (h0 : w.cell? ⟨p, 0, none⟩ = some (.slice ao n cap)) (h1 : w.cell? ⟨p, 1, none⟩ = some (.map (some m))) (i : Int) (hi : ¬ (0 ≤ i ∧ i < (n : Int))) :
    Calls Try.prog 25 #[.pointer (some ⟨p, 0, none⟩), .int .i64 i] w fun e w' => e = .returned (.bool false) ∧ w' = w := by
  by_cases hi0 : 0 ≤ i
  · have hi1 : ¬ i < (n : Int) := fun h => hi ⟨hi0, h⟩
    clear hi
    go_enter Try.func25, Try.ntmps25
    have hd : decide (i < (n : Int)) = false := by simpa using hi1
    go_wp2_with (go_at_call 10; refine (len_of h0 h1).mono ?_; rintro e w' ⟨rfl, rfl⟩)
    go_ret
    exact ⟨rfl, rfl⟩
  · clear hi
    go_enter Try.func25, Try.ntmps25
    go_wp2
    go_ret
    exact ⟨rfl, rfl⟩
theorem room_of {w : World} {p m : Nat} {ao : Option Addr} {n cap : Nat} (h0 : w.cell? ⟨p, 0, none⟩ = some (.slice ao n cap)) (h1 : w.cell? ⟨p, 1, none⟩ = some (.map (some m))) :
    Calls Try.prog 26 #[.pointer (some ⟨p, 0, none⟩)] w fun e w' => e = .returned (.bool (decide ((n : Int) < 16384))) ∧ w' = w := by
  go_enter Try.func26, Try.ntmps26
  go_wp2_with (go_at_call 23; refine (given_of (fv := .slice ao n cap) h1).mono ?_; rintro e w' ⟨rfl, rfl⟩)
  go_ret
  exact ⟨rfl, rfl⟩
theorem new_of (w : World) : Calls Try.prog 8 #[] w fun e w' => ∃ p m fv, e = .returned (.pointer (some ⟨p, 0, none⟩)) ∧ BagAt w' p m fv [] (fun _ _ => false) 0 ∧ (∀ k, Mine p m fv k → w.heap.size ≤ k) ∧ Below w.heap.size w w' := by
  have hmm := @run_makeMap Try.prog
  have hfin : Hid (∃ p m fv, (Ending.returned (.pointer (some ⟨w.heap.size + 1, 0, none⟩)) : Ending) = .returned (.pointer (some ⟨p, 0, none⟩)) ∧ BagAt ((w.alloc (.map #[] 0)).alloc (.cells #[.slice none 0 0, .map (some w.heap.size)] 49)) p m fv [] (fun _ _ => false) 0 ∧ (∀ k, Mine p m fv k → w.heap.size ≤ k) ∧ Below w.heap.size w ((w.alloc (.map #[] 0)).alloc (.cells #[.slice none 0 0, .map (some w.heap.size)] 49))) := by
    have s1 : (w.alloc (.map #[] 0)).heap.size = w.heap.size + 1 := by simp
    have a1 := (Below.refl w.heap.size w).alloc (Nat.le_refl _) (.map #[] 0)
    have a2 := a1.alloc (by rw [s1]; omega) (.cells #[.slice none 0 0, .map (some w.heap.size)] 49)
    have n2 := heap_alloc_new (w.alloc (.map #[] 0)) (.cells #[.slice none 0 0, .map (some w.heap.size)] 49)
    rw [s1] at n2
    refine ⟨w.heap.size + 1, w.heap.size, .slice none 0 0, rfl, ⟨n2, Rk.nil _ _ _, ⟨0, Nat.le_refl _, ?_⟩, by simp⟩, ?_, a2⟩
    · rw [pm_none]
      exact (Mq.made 59 w).same (by rw [heap_alloc_old _ _ (by rw [s1]; omega)])
    · rintro k (rfl | rfl | h)
      · omega
      · omega
      · cases h
  go_enter Try.func8, Try.ntmps8
  go_wp2
  go_ret
  exact hfin.out
end Go.Proofs.Ytjkjekhbfjjnjaa

