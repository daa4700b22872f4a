import Derived.Test.YtfpbgfmnjpamlaaGreatHv35
import Derived.Test.YtfpbgfmnjpamlaaGreatHv36
import Derived.Test.YtfpbgfmnjpamlaaGreatHv42
import Derived.Test.YtfpbgfmnjpamlaaGreatHv24
import Derived.Test.YtfpbgfmnjpamlaaGreatHv11
import Derived.Test.YtfpbgfmnjpamlaaGreatHv30
/- Which tables may be, as the document asks it. -/
namespace Go.Proofs.YtfpbgfmnjpamlaaGreat
open Go.RowKit LeaseMath
set_option linter.unusedSimpArgs false
set_option linter.unusedVariables false

def rcovB (l : List Sp) (s : Sp) : Bool := decide (SpanMath.leftOf l [s] = [])
theorem cov_same {l : List Sp} {s : Sp} (hl : SpanMath.formB l = true) (hs : SpanMath.may s = true) : rcovB l s = covP l s := by
 obtain ⟨-, h2, h3⟩ := SpanMath.formB_iff.1 hl
 unfold rcovB covP
 rw [hl, Bool.true_and, Bool.eq_iff_iff, decide_eq_true_eq, SpanMath.covers_left h3 (SpanMath.may_iff.1 hs).2, List.any_eq_true]
 constructor
 ·rintro ⟨x, hx, hm⟩
  refine ⟨x, hx, ?_⟩
  unfold meetP
  rw [SpanMath.may_iff.2 ⟨h2 x hx, h3.2 x hx⟩, hs]
  simpa using hm
 ·rintro ⟨x, hx, hm⟩
  refine ⟨x, hx, ?_⟩
  unfold meetP at hm
  rw [SpanMath.may_iff.2 ⟨h2 x hx, h3.2 x hx⟩, hs] at hm
  simpa using hm
theorem all_same {α : Type} {p q : α → Bool} {l : List α} (h : ∀ x ∈ l, p x = q x) : l.all p = l.all q := by
 rw [Bool.eq_iff_iff, List.all_eq_true, List.all_eq_true]
 exact ⟨fun g x hx => by rw [← h x hx]; exact g x hx, fun g x hx => by rw [h x hx]; exact g x hx⟩
theorem inP_in {sp : List Sp} {k : K} (h : SpanMath.formB sp = true) (hk : k.length ≤ 64) : inP sp k = SpanMath.isIn sp k := by
 unfold inP
 rw [h, decide_eq_true hk]
 rfl
theorem held_iff {hs : List Hd} {k : K} (h : mayB holdB hs = true) : heldN hs k = 0 ↔ ∀ y ∈ hs, y.1 ≠ k := by
 refine ⟨fun h0 y hy he => ?_, held_none⟩
 rw [heldN_find, find_mem (may_up h) hy he] at h0
 exact (hold_iff.1 ((may_iff.1 h).2.1 y hy)).2.1 h0
theorem last_iff {ms : List Mk} {k : K} (h : mayB markB ms = true) : lastM ms k = 0 ↔ ∀ y ∈ ms, y.1 ≠ k := by
 refine ⟨fun h0 y hy he => ?_, fun h9 => by unfold lastM; rw [find_none h9]⟩
 unfold lastM at h0
 rw [find_mem (may_up h) hy he] at h0
 exact (mark_iff.1 ((may_iff.1 h).2.1 y hy)).2 h0
theorem with_same {sp : List Sp} {hs : List Hd} {ms : List Mk} (h : SpanMath.formB sp = true) (h1 : mayB holdB hs = true) (h2 : mayB markB ms = true) : locksB sp hs ms = withB sp hs ms := by
 unfold locksB withB
 rw [h1, h2]
 simp only [Bool.true_and]
 have e1 : (hs.all fun h => inP sp h.1) = hs.all fun h => SpanMath.isIn sp h.1 := all_same fun y hy => inP_in h (hold_iff.1 ((may_iff.1 h1).2.1 y hy)).1
 rw [e1, Bool.eq_iff_iff]
 simp only [Bool.and_eq_true, List.all_eq_true, decide_eq_true_eq]
 constructor
 ·rintro ⟨a, b⟩
  refine ⟨fun y hy => ⟨b y hy, (last_iff h2).2 fun m hm he => ?_⟩, fun m hm => ?_⟩
  ·exact (held_iff h1).1 (a m hm).1 y hy he.symm
  ·rw [← inP_in h (mark_iff.1 ((may_iff.1 h2).2.1 m hm)).1]
   exact (a m hm).2
 ·rintro ⟨a, b⟩
  refine ⟨fun m hm => ⟨(held_iff h1).2 fun y hy he => ?_, ?_⟩, fun y hy => (a y hy).1⟩
  ·exact (last_iff h2).1 (a y hy).2 m hm he.symm
  ·rw [inP_in h (mark_iff.1 ((may_iff.1 h2).2.1 m hm)).1]
   exact b m hm
/-- An intent, as the document asks it. -/
def rintB (sp : List Sp) (x : It) : Bool := decide (x.1.length ≤ 64) && idB x.2.1 && turnB x.2.2.1 x.2.2.2.2 && decide (x.2.2.2.1 ≠ 0) && SpanMath.isIn sp x.1
theorem rint_same {sp : List Sp} (h : SpanMath.formB sp = true) : rintB sp = intB sp := by
 funext x
 unfold rintB intB inP
 rw [h]
 cases decide (x.1.length ≤ 64) <;> cases idB x.2.1 <;> cases turnB x.2.2.1 x.2.2.2.2 <;> cases decide (x.2.2.2.1 ≠ 0) <;> rfl
/-- A table, as the document asks it. -/
def rmayT (t : Tb) : Bool := timeB t.now && (SpanMath.formB t.spans && (SpanMath.formB t.frozen && (mayB holdB t.holds && (mayB markB t.marks && ((t.frozen.all fun s => rcovB t.spans s) && (withB t.spans t.holds t.marks && (decide (locksN t ≤ 1024) && walk (rintB t.spans) none t.ints)))))))
theorem rmay_same (t : Tb) : rmayT t = okT t := by
 unfold rmayT okT spansB
 cases h0 : timeB t.now
 ·rfl
 cases h1 : SpanMath.formB t.spans
 ·rfl
 cases h2 : SpanMath.formB t.frozen
 ·rfl
 obtain ⟨-, q2, q3⟩ := SpanMath.formB_iff.1 h2
 rw [all_same (p := fun s => rcovB t.spans s) (q := fun s => covP t.spans s) fun s hs => cov_same h1 (SpanMath.may_iff.2 ⟨q2 s hs, q3.2 s hs⟩)]
 cases h3 : mayB holdB t.holds
 ·unfold locksB
  rw [h3]
  simp
 cases h4 : mayB markB t.marks
 ·unfold locksB
  rw [h3, h4]
  simp
 rw [with_same h1 h3 h4, rint_same h1]
 unfold intsB
 cases (t.frozen.all fun s => covP t.spans s) <;> cases withB t.spans t.holds t.marks <;> cases decide (locksN t ≤ 1024) <;> rfl
theorem rint_at {sp : List Sp} {l : List It} {i : Nat} {x : It} (h : l[i]? = some x) : walk (rintB sp) (prev l i) (l.drop i) = (rintB sp x && lnk (prev l i) x && walk (rintB sp) (prev l (i + 1)) (l.drop (i + 1))) := by
 rw [walk_at h, prev_succ h]
end Go.Proofs.YtfpbgfmnjpamlaaGreat

/- The document's intent, refused. -/
namespace Go.Proofs.YtfpbgfmnjpamlaaGreat
open Go.RowKit LeaseMath
set_option maxRecDepth 100000
set_option linter.unusedSimpArgs false
set_option linter.unusedVariables false

@[reducible] def goti (o : Option It) : It := o.getD ([], (0, 0), 0, 0, 0)
end Go.Proofs.YtfpbgfmnjpamlaaGreat

