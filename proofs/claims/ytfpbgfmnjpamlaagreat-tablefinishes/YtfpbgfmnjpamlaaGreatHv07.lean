import Derived.Test.YtfpbgfmnjpamlaaGreatHv06
import Derived.Lib.Bytealg
/- Plain mathematics of rows by rising keys: which may be, who has a key, one more or less. -/
namespace LeaseMath
set_option linter.unusedSimpArgs false
set_option linter.unusedVariables false

abbrev K := List UInt8
variable {β : Type}
def lnk : Option (K × β) → K × β → Bool
 | none, _ => true
 | some p, s => decide (p.1 < s.1)
def walk (ok : K × β → Bool) : Option (K × β) → List (K × β) → Bool
 | _, [] => true
 | p, s :: l => ok s && lnk p s && walk ok (some s) l
/-- By rising keys, and not too many. -/
def formB (l : List (K × β)) : Bool := decide (l.length ≤ 1024) && walk (fun _ => true) none l
def mayB (ok : K × β → Bool) (l : List (K × β)) : Bool := decide (l.length ≤ 1024) && walk ok none l
/-- The one ahead. -/
def prev (l : List (K × β)) (i : Nat) : Option (K × β) := if i = 0 then none else l[i - 1]?
theorem prev_succ {l : List (K × β)} {i : Nat} {r : K × β} (h : l[i]? = some r) : prev l (i + 1) = some r := by
 unfold prev
 rw [if_neg (by omega)]
 simpa using h
theorem walk_at {ok : K × β → Bool} {l : List (K × β)} {p : Option (K × β)} {i : Nat} {r : K × β} (h : l[i]? = some r) : walk ok p (l.drop i) = (ok r && lnk p r && walk ok (some r) (l.drop (i + 1))) := by
 obtain ⟨hi, rfl⟩ := List.getElem?_eq_some_iff.1 h
 rw [List.drop_eq_getElem_cons hi, walk]
theorem walk_end {ok : K × β → Bool} {l : List (K × β)} {p : Option (K × β)} {i : Nat} (h : l.length ≤ i) : walk ok p (l.drop i) = true := by
 rw [List.drop_of_length_le h, walk]
theorem walk_one {l : List (K × β)} : walk (fun _ => true) (prev l 1) (l.drop 1) = walk (fun _ => true) none l := by
 cases l with
 | nil => rfl
 | cons x l => simp [prev, walk, lnk]
theorem klt_trans {a b c : K} (h1 : a < b) (h2 : b < c) : a < c := by grind
theorem walk_some {ok : K × β → Bool} {l : List (K × β)} {p : K × β} : walk ok (some p) l = true ↔ (∀ s ∈ l, ok s = true ∧ p.1 < s.1) ∧ l.Pairwise (fun a b => a.1 < b.1) := by
 induction l generalizing p with
 | nil => simp [walk]
 | cons x l ih =>
  simp only [walk, lnk, Bool.and_eq_true, decide_eq_true_eq, ih, List.pairwise_cons, List.mem_cons]
  constructor
  ·rintro ⟨⟨h1, h2⟩, h3, h4⟩
   refine ⟨?_, fun y hy => (h3 y hy).2, h4⟩
   rintro s (rfl | hs)
   ·exact ⟨h1, h2⟩
   ·exact ⟨(h3 s hs).1, klt_trans h2 (h3 s hs).2⟩
  ·rintro ⟨h1, h2, h3⟩
   exact ⟨⟨(h1 x (.inl rfl)).1, (h1 x (.inl rfl)).2⟩, fun s hs => ⟨(h1 s (.inr hs)).1, h2 s hs⟩, h3⟩
theorem walk_iff {ok : K × β → Bool} {l : List (K × β)} : walk ok none l = true ↔ (∀ s ∈ l, ok s = true) ∧ l.Pairwise (fun a b => a.1 < b.1) := by
 cases l with
 | nil => simp [walk]
 | cons x l =>
  simp only [walk, lnk, Bool.and_true, Bool.and_eq_true, walk_some, List.mem_cons, List.pairwise_cons]
  constructor
  ·rintro ⟨h1, h2, h3⟩
   refine ⟨?_, fun y hy => (h2 y hy).2, h3⟩
   rintro s (rfl | hs)
   ·exact h1
   ·exact (h2 s hs).1
  ·rintro ⟨h1, h2, h3⟩
   exact ⟨h1 x (.inl rfl), fun s hs => ⟨h1 s (.inr hs), h2 s hs⟩, h3⟩
theorem may_iff {ok : K × β → Bool} {l : List (K × β)} : mayB ok l = true ↔ l.length ≤ 1024 ∧ (∀ s ∈ l, ok s = true) ∧ l.Pairwise (fun a b => a.1 < b.1) := by
 unfold mayB
 rw [Bool.and_eq_true, walk_iff, decide_eq_true_eq]
theorem form_iff {l : List (K × β)} : formB l = true ↔ l.length ≤ 1024 ∧ l.Pairwise (fun a b => a.1 < b.1) := by
 unfold formB
 rw [Bool.and_eq_true, walk_iff, decide_eq_true_eq]
 simp
theorem may_eq {ok : K × β → Bool} {l : List (K × β)} : mayB ok l = (formB l && l.all ok) := by
 rw [Bool.eq_iff_iff, Bool.and_eq_true, may_iff, form_iff, List.all_eq_true]
 constructor
 ·rintro ⟨h1, h2, h3⟩; exact ⟨⟨h1, h3⟩, h2⟩
 ·rintro ⟨⟨h1, h3⟩, h2⟩; exact ⟨h1, h2, h3⟩

/-- Where a key is, or would be. -/
def Plc (l : List (K × β)) (c : K) (k : Nat) : Prop := k ≤ l.length ∧ (∀ (i : Nat) (s : K × β), i < k → l[i]? = some s → s.1 < c) ∧ ∀ (i : Nat) (s : K × β), k ≤ i → l[i]? = some s → c ≤ s.1
/-- A key's own. -/
def findM (l : List (K × β)) (c : K) : Option (K × β) := l.find? fun s => decide (s.1 = c)
theorem find_at {l : List (K × β)} {c : K} {i : Nat} {s : K × β} (h : l[i]? = some s) : findM (l.drop i) c = if s.1 = c then some s else findM (l.drop (i + 1)) c := by
 obtain ⟨hi, rfl⟩ := List.getElem?_eq_some_iff.1 h
 unfold findM
 rw [List.drop_eq_getElem_cons hi, List.find?_cons]
 by_cases hc : l[i].1 = c
 ·simp [hc]
 ·simp [hc]
/-- Is it there? -/
def hasB (l : List (K × β)) (k : Nat) (c : K) : Bool := match l[k]? with | some s => decide (s.1 = c) | none => false
/-- What is behind its place. -/
def behN (l : List (K × β)) (k : Nat) (c : K) : Nat := if hasB l k c then k + 1 else k
def keptM (l : List (K × β)) (k : Nat) (s : K × β) : List (K × β) := l.take k ++ [s] ++ l.drop (behN l k s.1)
theorem has_lt {l : List (K × β)} {k : Nat} {c : K} (h : hasB l k c = true) : ∃ s, l[k]? = some s ∧ s.1 = c := by
 unfold hasB at h
 cases hs : l[k]? with
 | none => rw [hs] at h; cases h
 | some s => rw [hs] at h; exact ⟨s, rfl, by simpa using h⟩
theorem kept_len {l : List (K × β)} {k : Nat} {s : K × β} (hk : k ≤ l.length) : (keptM l k s).length = if hasB l k s.1 then l.length else l.length + 1 := by
 unfold keptM behN
 rw [List.length_append, List.length_append, List.length_take, List.length_drop, List.length_singleton]
 split
 ·rename_i h
  obtain ⟨s', h1, _⟩ := has_lt h
  have := (List.getElem?_eq_some_iff.1 h1).1
  omega
 ·omega
/-- Once its place is found, its key is found there. -/
theorem plc_up {l : List (K × β)} {c : K} {k : Nat} (h : l.Pairwise (fun a b => a.1 < b.1)) (hk : Plc l c k) {i : Nat} {s : K × β} (hi : k < i) (hs : l[i]? = some s) : c < s.1 := by
 have hil := (List.getElem?_eq_some_iff.1 hs).1
 have hkl : k < l.length := by omega
 have h1 := hk.2.2 k _ (Nat.le_refl _) (List.getElem?_eq_getElem hkl)
 have h2 := (List.pairwise_iff_getElem.1 h) k i hkl hil hi
 rw [(List.getElem?_eq_some_iff.1 hs).2] at h2
 grind
theorem find_none {l : List (K × β)} {c : K} (h : ∀ s ∈ l, s.1 ≠ c) : findM l c = none := by
 unfold findM
 rw [List.find?_eq_none]
 intro s hs
 simpa using h s hs
theorem find_mem {l : List (K × β)} {c : K} (h : l.Pairwise (fun a b => a.1 < b.1)) {s : K × β} (hs : s ∈ l) (hc : s.1 = c) : findM l c = some s := by
 unfold findM
 induction l with
 | nil => simp at hs
 | cons x l ih =>
  rw [List.pairwise_cons] at h
  rcases List.mem_cons.1 hs with rfl | hs
  ·rw [List.find?_cons, decide_eq_true hc]
  ·have hx := h.1 s hs
   rw [List.find?_cons, decide_eq_false (by intro e; rw [e, hc] at hx; grind)]
   exact ih h.2 hs
theorem plc_find {l : List (K × β)} {c : K} {k : Nat} (h : l.Pairwise (fun a b => a.1 < b.1)) (hk : Plc l c k) : findM l c = if hasB l k c then l[k]? else none := by
 cases hb : hasB l k c with
 | true =>
  obtain ⟨s, h1, h2⟩ := has_lt hb
  rw [if_pos rfl, h1]
  exact find_mem h (List.mem_of_getElem? h1) h2
 | false =>
  rw [if_neg (by simp)]
  refine find_none fun s hs he => ?_
  obtain ⟨i, hi⟩ := List.getElem?_of_mem hs
  rcases Nat.lt_trichotomy i k with h1 | h1 | h1
  ·have := hk.2.1 i s h1 hi
   rw [he] at this
   grind
  ·subst h1
   unfold hasB at hb
   rw [hi] at hb
   simp [he] at hb
  ·have := plc_up h hk h1 hi
   rw [he] at this
   grind
/-- The document's way: one by one. -/
def putTo (l : List (K × β)) (k : Nat) (s : K × β) (i : Nat) : List (K × β) := if i ≤ k then l.take i else l.take k ++ [s] ++ (l.take i).drop (behN l k s.1)
theorem put_low {l : List (K × β)} {k i : Nat} {s x : K × β} (hi : i < k) (hx : l[i]? = some x) : putTo l k s (i + 1) = putTo l k s i ++ [x] := by
 unfold putTo
 rw [if_pos (by omega), if_pos (by omega), Go.Proofs.YtfpbgfmnjpamlaaGreat.take_succ_get hx]
theorem put_has {l : List (K × β)} {k : Nat} {s x : K × β} (hx : l[k]? = some x) (he : x.1 = s.1) : putTo l k s (k + 1) = putTo l k s k ++ [s] := by
 have hb : hasB l k s.1 = true := by unfold hasB; rw [hx]; simpa using he
 unfold putTo behN
 rw [if_neg (by omega), if_pos (Nat.le_refl _), hb, if_pos rfl, List.drop_of_length_le (by rw [List.length_take]; omega), List.append_nil]
theorem put_not {l : List (K × β)} {k : Nat} {s x : K × β} (hx : l[k]? = some x) (he : x.1 ≠ s.1) : putTo l k s (k + 1) = putTo l k s k ++ [s] ++ [x] := by
 have hb : hasB l k s.1 = false := by unfold hasB; rw [hx]; simpa using he
 unfold putTo behN
 have hkl := (List.getElem?_eq_some_iff.1 hx).1
 rw [if_neg (by omega), if_pos (Nat.le_refl _), hb, if_neg (by simp), Go.Proofs.YtfpbgfmnjpamlaaGreat.take_succ_get hx, List.drop_append, List.drop_of_length_le (by rw [List.length_take]; omega), List.length_take]
 simp
 rw [Nat.min_eq_left (by omega), Nat.sub_self, List.drop_zero]
theorem put_up {l : List (K × β)} {k i : Nat} {s x : K × β} (hi : k < i) (hx : l[i]? = some x) : putTo l k s (i + 1) = putTo l k s i ++ [x] := by
 have hil := (List.getElem?_eq_some_iff.1 hx).1
 have hb : behN l k s.1 ≤ i := by unfold behN; split <;> omega
 unfold putTo
 rw [if_neg (by omega), if_neg (by omega), Go.Proofs.YtfpbgfmnjpamlaaGreat.take_succ_get hx, List.drop_append_of_le_length (by rw [List.length_take]; omega), ← List.append_assoc]
theorem put_end {l : List (K × β)} {k : Nat} {s : K × β} (hk : k < l.length) : putTo l k s l.length = keptM l k s := by
 unfold putTo keptM
 rw [if_neg (by omega), List.take_length]
theorem put_all {l : List (K × β)} {s : K × β} : putTo l l.length s l.length ++ [s] = keptM l l.length s := by
 unfold putTo keptM
 rw [if_pos (Nat.le_refl _), List.drop_of_length_le (by unfold behN; split <;> omega), List.append_nil]
theorem putTo_len {l : List (K × β)} {k i : Nat} {s : K × β} : (putTo l k s i).length ≤ 2 * l.length + 1 := by
 unfold putTo
 split
 ·rw [List.length_take]; omega
 ·rw [List.length_append, List.length_append, List.length_take, List.length_drop, List.length_take, List.length_singleton]; omega
/-- A key's mark is found where it was put. -/
theorem kept_find {l : List (K × β)} {s : K × β} {k : Nat} (h : l.Pairwise (fun a b => a.1 < b.1)) (hk : Plc l s.1 k) : findM (keptM l k s) s.1 = some s := by
 unfold findM keptM
 rw [List.append_assoc, List.find?_append]
 have : (l.take k).find? (fun x => decide (x.1 = s.1)) = none := by
  rw [List.find?_eq_none]
  intro x hx
  obtain ⟨i, hi⟩ := List.getElem?_of_mem hx
  rw [List.getElem?_take] at hi
  split at hi
  ·rename_i h9
   have := hk.2.1 i x h9 hi
   simp
   intro e
   rw [e] at this
   grind
  ·cases hi
 rw [this]
 simp
/-- What is put and what may be: its answer. -/
def setM (ok : K × β → Bool) (l : List (K × β)) (k : Nat) (s : K × β) : List (K × β) × Int :=
 if mayB ok l && ok s then (if (keptM l k s).length ≤ 1024 then (keptM l k s, 0) else ([], 2)) else ([], 1)
theorem set_no {ok : K × β → Bool} {l : List (K × β)} {k : Nat} {s : K × β} (h : (mayB ok l && ok s) = false) : setM ok l k s = ([], 1) := by unfold setM; rw [h]; rfl
theorem set_yes {ok : K × β → Bool} {l : List (K × β)} {k : Nat} {s : K × β} (h : (mayB ok l && ok s) = true) (h2 : (keptM l k s).length ≤ 1024) : setM ok l k s = (keptM l k s, 0) := by unfold setM; rw [h, if_pos rfl, if_pos h2]
/-- One more is looked at. -/
theorem flt_yes {p : K × β → Bool} {l : List (K × β)} {i : Nat} {s : K × β} (h : l[i]? = some s) (hp : p s = true) : (l.take (i + 1)).filter p = (l.take i).filter p ++ [s] := by
 rw [Go.Proofs.YtfpbgfmnjpamlaaGreat.take_succ_get h, List.filter_append]; simp [hp]
theorem flt_no {p : K × β → Bool} {l : List (K × β)} {i : Nat} {s : K × β} (h : l[i]? = some s) (hp : p s = false) : (l.take (i + 1)).filter p = (l.take i).filter p := by
 rw [Go.Proofs.YtfpbgfmnjpamlaaGreat.take_succ_get h, List.filter_append]; simp [hp]
/-- A hold: its key, its token, till when. A mark: its key, its token. -/
abbrev Hd := K × Nat × Int
abbrev Mk := K × Nat
def timeB (n : Int) : Bool := decide (0 ≤ n) && decide (n ≤ 2147483647)
def holdB (h : Hd) : Bool := decide (h.1.length ≤ 64) && decide (h.2.1 ≠ 0) && timeB h.2.2
def markB (m : Mk) : Bool := decide (m.1.length ≤ 64) && decide (m.2 ≠ 0)
theorem time_iff {n : Int} : timeB n = true ↔ 0 ≤ n ∧ n ≤ 2147483647 := by simp [timeB]
theorem hold_iff {h : Hd} : holdB h = true ↔ h.1.length ≤ 64 ∧ h.2.1 ≠ 0 ∧ 0 ≤ h.2.2 ∧ h.2.2 ≤ 2147483647 := by
 simp [holdB, timeB, and_assoc]
theorem mark_iff {m : Mk} : markB m = true ↔ m.1.length ≤ 64 ∧ m.2 ≠ 0 := by simp [markB]
/-- A time some time behind another. -/
def laterM (now n : Int) : Int := if n ≤ 2147483647 - now then now + n else 2147483647
def lastM (l : List Mk) (c : K) : Nat := match findM l c with | some s => s.2 | none => 0
end LeaseMath

/- Keys as values; holds and marks as they are read. -/
namespace Go.Proofs.YtfpbgfmnjpamlaaGreat
open Go.RowKit LeaseMath
set_option maxRecDepth 100000
set_option linter.unusedSimpArgs false
set_option linter.unusedVariables false

@[go_sem high] theorem geq_bk (t : TypeId) (a b : K) : binOp .geq t (.string (bk a)) (.string (bk b)) = pure (.bool (decide (b ≤ a))) := by
 rw [binOp_string_geq, bk_toList, bk_toList, bytesLess_eq]
 congr 2
 by_cases h : a < b
 ·rw [decide_eq_true h, decide_eq_false (by grind)]; rfl
 ·rw [decide_eq_false h, decide_eq_true (by grind)]; rfl
/-- Which of two keys is ahead. -/
def cmpM (a b : K) : Int := if a < b then -1 else if b < a then 1 else 0
theorem cmp_bk : ∀ (a b : K), Lib.compareBytes a b = cmpM a b
 | [], [] => by simp [Lib.compareBytes, cmpM]
 | [], _ :: _ => by simp [Lib.compareBytes, cmpM]
 | _ :: _, [] => by simp [Lib.compareBytes, cmpM]
 | a :: x, b :: y => by
  have ih := cmp_bk x y
  unfold Lib.compareBytes
  unfold cmpM at ih ⊢
  simp only [List.cons_lt_cons_iff]
  rcases Classical.em (a = b) with h | h
  ·subst h
   have h1 : ¬ a < a := UInt8.lt_irrefl a
   simp [h1, ih]
  ·rcases UInt8.lt_or_lt_of_ne h with h1 | h1
   ·simp [h1]
   ·have h2 : ¬ a < b := fun h3 => UInt8.lt_irrefl _ (UInt8.lt_trans h1 h3)
    have h3 : ¬ b = a := fun e => h e.symm
    simp [h1, h2, h, h3]
/-- A hold's value; a mark's. -/
@[reducible] def hv (h : Hd) : Value := .agg #[.string (bk h.1), .int .u64 (h.2.1 : Int), .int .i64 h.2.2]
@[reducible] def mv (m : Mk) : Value := .agg #[.string (bk m.1), .int .u64 (m.2 : Int)]
@[reducible] def hc (h : Hd) : Obj := .cells #[.string (bk h.1), .int .u64 (h.2.1 : Int), .int .i64 h.2.2] 59
@[reducible] def mc (m : Mk) : Obj := .cells #[.string (bk m.1), .int .u64 (m.2 : Int)] 61
def holdE : El Hd := ⟨fun h => [.string (bk h.1), .int .u64 (h.2.1 : Int), .int .i64 h.2.2], 3, fun _ => rfl, fun x u hu => by
 simp only [List.mem_cons, List.not_mem_nil, or_false] at hu
 rcases hu with rfl | rfl | rfl <;> rfl, by decide⟩
def markE : El Mk := ⟨fun h => [.string (bk h.1), .int .u64 (h.2 : Int)], 2, fun _ => rfl, fun x u hu => by
 simp only [List.mem_cons, List.not_mem_nil, or_false] at hu
 rcases hu with rfl | rfl <;> rfl, by decide⟩
@[go_sem high] theorem eqIn_hold (w : World) (a b : K) (x y : Nat) (p q : Int) : (Op.equalIn 10000 59 (.agg #[.string (bk a), .int .u64 (x : Int), .int .i64 p]) (.agg #[.string (bk b), .int .u64 (y : Int), .int .i64 q])).run Tryz.prog w = .ok (decide (a = b) && decide (x = y) && decide (p = q)) w := by
 have u3 := Tryz.underlying9
 have a3 := Tryz.isAgg9
 have z3 := Tryz.sizeOf9
 have u4 := Tryz.underlying3
 have a4 := Tryz.isAgg3
 have z4 := Tryz.sizeOf3
 have u5 := Tryz.underlying28
 have a5 := Tryz.isAgg28
 have z5 := Tryz.sizeOf28
 have hS : Tryz.prog.underlying 59 = some (.struct (Tryz.prog.fieldsOf 59)) := by kernel_rfl
 have hp : Tryz.prog.stoodInHeld 59 = false := by kernel_rfl
 rw [show (10000 : Nat) = 9999 + 1 from rfl, run_equalIn_agg w 9999 59 _ _ hS hp]
 simp only [Program.fieldsOf, Tryz.underlying59]
 go_simp
 by_cases h1 : a = b <;> by_cases h2 : x = y <;> by_cases h3 : p = q <;> simp [h1, h2, h3, bk_toList] <;> omega
@[go_sem high] theorem eqIn_mark (w : World) (a b : K) (x y : Nat) : (Op.equalIn 10000 61 (.agg #[.string (bk a), .int .u64 (x : Int)]) (.agg #[.string (bk b), .int .u64 (y : Int)])).run Tryz.prog w = .ok (decide (a = b) && decide (x = y)) w := by
 have u3 := Tryz.underlying9
 have a3 := Tryz.isAgg9
 have z3 := Tryz.sizeOf9
 have u5 := Tryz.underlying28
 have a5 := Tryz.isAgg28
 have z5 := Tryz.sizeOf28
 have hS : Tryz.prog.underlying 61 = some (.struct (Tryz.prog.fieldsOf 61)) := by kernel_rfl
 have hp : Tryz.prog.stoodInHeld 61 = false := by kernel_rfl
 rw [show (10000 : Nat) = 9999 + 1 from rfl, run_equalIn_agg w 9999 61 _ _ hS hp]
 simp only [Program.fieldsOf, Tryz.underlying61]
 go_simp
 by_cases h1 : a = b <;> by_cases h2 : x = y <;> simp [h1, h2, bk_toList] <;> omega
/-- One of a slice, in every later world. -/
theorem rdh_at {w : World} {ao : Option Addr} {n cap : Nat} {zs : List Hd} (h : Rd holdE w (.slice ao n cap) zs) {i : Nat} {z : Hd} (hz : zs[i]? = some z) : ∃ b off, ao = some ⟨b, off, none⟩ ∧ ∀ W, Below w.heap.size w W → W.cell? ⟨b, off + i * 3, none⟩ = some (.string (bk z.1)) ∧ W.cell? ⟨b, off + i * 3 + 1, none⟩ = some (.int .u64 (z.2.1 : Int)) ∧ W.cell? ⟨b, off + i * 3 + 2, none⟩ = some (.int .i64 z.2.2) := by
 obtain ⟨ao', cap', e, _, _, h2⟩ := h
 cases e
 obtain ⟨b, off, r1, r2⟩ := h2 i z 0 _ hz rfl
 obtain ⟨b', off', r3, r4⟩ := h2 i z 1 _ hz rfl
 cases r1.symm.trans r3
 obtain ⟨b', off', r5, r6⟩ := h2 i z 2 _ hz rfl
 cases r1.symm.trans r5
 have r2' : w.cell? ⟨b, off + i * 3, none⟩ = _ := r2
 have r4' : w.cell? ⟨b, off + i * 3 + 1, none⟩ = _ := r4
 have r6' : w.cell? ⟨b, off + i * 3 + 2, none⟩ = _ := r6
 exact ⟨b, off, r1, fun W hW => ⟨(hW.cell (p := ⟨b, off + i * 3, none⟩) (World.block_lt_of_cell? w _ r2')).trans r2', (hW.cell (p := ⟨b, off + i * 3 + 1, none⟩) (World.block_lt_of_cell? w _ r4')).trans r4', (hW.cell (p := ⟨b, off + i * 3 + 2, none⟩) (World.block_lt_of_cell? w _ r6')).trans r6'⟩⟩
theorem rdm_at {w : World} {ao : Option Addr} {n cap : Nat} {zs : List Mk} (h : Rd markE w (.slice ao n cap) zs) {i : Nat} {z : Mk} (hz : zs[i]? = some z) : ∃ b off, ao = some ⟨b, off, none⟩ ∧ ∀ W, Below w.heap.size w W → W.cell? ⟨b, off + i * 2, none⟩ = some (.string (bk z.1)) ∧ W.cell? ⟨b, off + i * 2 + 1, none⟩ = some (.int .u64 (z.2 : Int)) := by
 obtain ⟨ao', cap', e, _, _, h2⟩ := h
 cases e
 obtain ⟨b, off, r1, r2⟩ := h2 i z 0 _ hz rfl
 obtain ⟨b', off', r3, r4⟩ := h2 i z 1 _ hz rfl
 cases r1.symm.trans r3
 have r2' : w.cell? ⟨b, off + i * 2, none⟩ = _ := r2
 have r4' : w.cell? ⟨b, off + i * 2 + 1, none⟩ = _ := r4
 exact ⟨b, off, r1, fun W hW => ⟨(hW.cell (p := ⟨b, off + i * 2, none⟩) (World.block_lt_of_cell? w _ r2')).trans r2', (hW.cell (p := ⟨b, off + i * 2 + 1, none⟩) (World.block_lt_of_cell? w _ r4')).trans r4'⟩⟩
/-- One in its box, in every later world. -/
theorem hd_box (w : World) (z : Hd) : (w.alloc (hc z)).heap.size = w.heap.size + 1 ∧ Below w.heap.size w (w.alloc (hc z)) ∧ ∀ W, Below (w.heap.size + 1) (w.alloc (hc z)) W → W.cell? ⟨w.heap.size, 0, none⟩ = some (.string (bk z.1)) ∧ W.cell? ⟨w.heap.size, 1, none⟩ = some (.int .u64 (z.2.1 : Int)) ∧ W.cell? ⟨w.heap.size, 2, none⟩ = some (.int .i64 z.2.2) := by
 obtain ⟨h1, h2, h3⟩ := one_box w (hc z)
 refine ⟨h1, h3, fun W hW => ?_⟩
 have := (hW.block w.heap.size (Nat.lt_succ_self _)).trans h2
 exact ⟨by rw [cells_of_block this]; rfl, by rw [cells_of_block this]; rfl, by rw [cells_of_block this]; rfl⟩
theorem mk_box (w : World) (z : Mk) : (w.alloc (mc z)).heap.size = w.heap.size + 1 ∧ Below w.heap.size w (w.alloc (mc z)) ∧ ∀ W, Below (w.heap.size + 1) (w.alloc (mc z)) W → W.cell? ⟨w.heap.size, 0, none⟩ = some (.string (bk z.1)) ∧ W.cell? ⟨w.heap.size, 1, none⟩ = some (.int .u64 (z.2 : Int)) := by
 obtain ⟨h1, h2, h3⟩ := one_box w (mc z)
 refine ⟨h1, h3, fun W hW => ?_⟩
 have := (hW.block w.heap.size (Nat.lt_succ_self _)).trans h2
 exact ⟨by rw [cells_of_block this]; rfl, by rw [cells_of_block this]; rfl⟩
theorem infoHold : (Tryz.prog.info? 59).map (fun i => (i.zero, i.size, i.bytes)) = some (some (.agg #[.string { data := #[] }, .int .u64 0, .int .i64 0]), 3, 32) := by kernel_rfl
theorem infoMark : (Tryz.prog.info? 61).map (fun i => (i.zero, i.size, i.bytes)) = some (some (.agg #[.string { data := #[] }, .int .u64 0]), 2, 24) := by kernel_rfl
theorem push_hold {w : World} {v : Value} {xs : List Hd} (z : Hd) (h : Rk holdE w 59 v xs) (hlen : xs.length ≤ 10000000000) :
  ∀ ty, ∃ v' w', (Builtin.append_ #[23, 23] ty #[v, .slice (some ⟨w.heap.size, 0, none⟩) 1 1]).run Tryz.prog (w.alloc (.cells #[.string (bk z.1), .int .u64 (z.2.1 : Int), .int .i64 z.2.2] 59)) = .ok v' w' ∧ PushT holdE 59 w v (xs ++ [z]) v' w' :=
 push_el holdE Tryz.underlying23 infoHold rfl (by decide) z h hlen
theorem push_mark {w : World} {v : Value} {xs : List Mk} (z : Mk) (h : Rk markE w 61 v xs) (hlen : xs.length ≤ 10000000000) :
  ∀ ty, ∃ v' w', (Builtin.append_ #[24, 24] ty #[v, .slice (some ⟨w.heap.size, 0, none⟩) 1 1]).run Tryz.prog (w.alloc (.cells #[.string (bk z.1), .int .u64 (z.2 : Int)] 61)) = .ok v' w' ∧ PushT markE 61 w v (xs ++ [z]) v' w' :=
 push_el markE Tryz.underlying24 infoMark rfl (by decide) z h hlen
theorem append_hold {w : World} {v x : Value} {xs ys : List Hd} (h : Rk holdE w 59 v xs) (hx : Rd holdE w x ys) (hlen : xs.length ≤ 1000000) (hly : ys.length ≤ 1000000) :
  ∀ ty, ∃ v' w', (Builtin.append_ #[23, 23] ty #[v, x]).run Tryz.prog w = .ok v' w' ∧ PushT holdE 59 w v (xs ++ ys) v' w' := by
 obtain ⟨i0, h1, h2, h3, h4⟩ := info_get infoHold
 exact append_rd holdE w 23 59 i0 _ 32 Tryz.underlying23 h1 h2 h3 h4 rfl (by decide) v x xs ys h hx (by omega) (by omega)
theorem append_mark {w : World} {v x : Value} {xs ys : List Mk} (h : Rk markE w 61 v xs) (hx : Rd markE w x ys) (hlen : xs.length ≤ 1000000) (hly : ys.length ≤ 1000000) :
  ∀ ty, ∃ v' w', (Builtin.append_ #[24, 24] ty #[v, x]).run Tryz.prog w = .ok v' w' ∧ PushT markE 61 w v (xs ++ ys) v' w' := by
 obtain ⟨i0, h1, h2, h3, h4⟩ := info_get infoMark
 exact append_rd markE w 24 61 i0 _ 24 Tryz.underlying24 h1 h2 h3 h4 rfl (by decide) v x xs ys h hx (by omega) (by omega)
theorem Rd.nil {α : Type} (E : El α) (w : World) : Rd E w (.slice none 0 0) [] := ⟨none, 0, rfl, Nat.le_refl _, fun _ => rfl, fun i x j u hx => by simp at hx⟩
end Go.Proofs.YtfpbgfmnjpamlaaGreat

