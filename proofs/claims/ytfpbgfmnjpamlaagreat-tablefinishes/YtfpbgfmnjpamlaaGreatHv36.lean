import Derived.Test.YtfpbgfmnjpamlaaGreatHv33
import Derived.Test.YtfpbgfmnjpamlaaGreatHv31
import Derived.Test.YtfpbgfmnjpamlaaGreatHv34
import Derived.Test.YtfpbgfmnjpamlaaGreatHv35
/- What Prepare and Finish tell may be; whose the keys are then. -/
namespace Go.Proofs.YtfpbgfmnjpamlaaGreat
open Go.RowKit LeaseMath
set_option linter.unusedSimpArgs false
set_option linter.unusedVariables false

theorem locks_iff {sp : List Sp} {hs : List Hd} {ms : List Mk} : locksB sp hs ms = true ↔ mayB holdB hs = true ∧ mayB markB ms = true ∧ (∀ m ∈ ms, heldN hs m.1 = 0 ∧ inP sp m.1 = true) ∧ ∀ h ∈ hs, inP sp h.1 = true := by
 unfold locksB
 simp only [Bool.and_eq_true, List.all_eq_true, decide_eq_true_eq, and_assoc]
theorem ints_iff {sp : List Sp} {l : List It} : intsB sp l = true ↔ (∀ x ∈ l, intB sp x = true) ∧ l.Pairwise (fun a b => a.1 < b.1) := walk_iff
theorem ok_room {t : Tb} (h : okT t = true) : Room t t.ints.length := by
 obtain ⟨h1, h2, h3, h4, h5⟩ := okT_iff.1 h
 obtain ⟨l1, l2, l3, l4⟩ := locks_iff.1 h4
 exact ⟨h1, l1, l2, l3, l4, by unfold locksN at h3; omega⟩
theorem room_ok {t : Tb} (h : Room t t.ints.length) (h1 : spansB t = true) (h2 : intsB t.spans t.ints = true) : okT t = true :=
 okT_iff.2 ⟨h.now, h1, by have := h.len; unfold locksN; omega, locks_iff.2 ⟨h.holds, h.marks, h.free, h.mine⟩, h2⟩
theorem mine_mem {l : List It} {d : Cq} {x : It} : x ∈ mineM l d ↔ x ∈ l ∧ x.2.1 = d := by
 unfold mineM
 rw [List.mem_filter]
 simp
theorem mine_part (l : List It) (d : Cq) : (mineM l d).length + (l.filter fun x => !decide (x.2.1 = d)).length = l.length := by
 unfold mineM
 induction l with
 | nil => rfl
 | cons x l ih => by_cases hx : x.2.1 = d <;> simp [hx] <;> omega
/-- A table with fewer intents. -/
theorem less_ok {t : Tb} (d : Cq) (h : okT t = true) : Room { t with ints := t.ints.filter fun x => !decide (x.2.1 = d) } ((mineM t.ints d).length + (t.ints.filter fun x => !decide (x.2.1 = d)).length) ∧ intsB t.spans (t.ints.filter fun x => !decide (x.2.1 = d)) = true ∧ (∀ x ∈ mineM t.ints d, intB t.spans x = true) ∧ (mineM t.ints d).Pairwise (fun a b => a.1 < b.1) := by
 obtain ⟨a1, a2, a3, a4, a5, a6⟩ := ok_room h
 obtain ⟨i1, i2⟩ := ints_iff.1 (okT_iff.1 h).2.2.2.2
 refine ⟨⟨a1, a2, a3, a4, a5, ?_⟩, ints_iff.2 ⟨fun x hx => i1 x (List.mem_filter.1 hx).1, i2.sublist List.filter_sublist⟩, fun x hx => i1 x (mine_mem.1 hx).1, i2.sublist List.filter_sublist⟩
 rw [mine_part]
 exact a6
/-- What is finished may be. -/
theorem fin_ok {t : Tb} {d : Cq} (cm : Bool) (h : okT t = true) (hm : (mineM t.ints d).length ≠ 0) :
  okT (finM t d cm).1 = true ∧ (finM t d cm).2 = ((mineM t.ints d).length, 0) ∧ (finM t d cm).1.spans = t.spans ∧ (finM t d cm).1.frozen = t.frozen ∧ (finM t d cm).1.ints = (t.ints.filter fun x => !decide (x.2.1 = d)) ∧ (finM t d cm).1.now = t.now := by
 obtain ⟨h1, h2, h3, h4⟩ := less_ok d h
 have hs := (okT_iff.1 h).2.1
 unfold finM
 rw [if_neg (by rw [h]; decide), if_neg hm]
 cases cm with
 | false =>
  refine ⟨room_ok ⟨h1.now, h1.holds, h1.marks, h1.free, h1.mine, ?_⟩ hs h2, rfl, rfl, rfl, rfl, rfl⟩
  have := h1.len
  show t.holds.length + t.marks.length + (List.filter _ _).length ≤ 1024
  dsimp only at this
  omega
 | true =>
  obtain ⟨g1, g2, g3, g4, g5, g6⟩ := fold_room h1 h3
  rw [if_pos rfl]
  refine ⟨room_ok (by rw [g5]; exact g1) ?_ ?_, rfl, g3, g4, g5, g2⟩
  ·show spansB (List.foldl turnM _ _) = true
   unfold spansB at hs ⊢
   rw [g3, g4]
   exact hs
  ·show intsB (List.foldl turnM _ _).spans (List.foldl turnM _ _).ints = true
   rw [g3, g5]
   exact h2
end Go.Proofs.YtfpbgfmnjpamlaaGreat

