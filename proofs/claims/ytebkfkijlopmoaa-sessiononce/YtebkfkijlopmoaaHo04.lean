import Derived.Test.YtebkfkijlopmoaaHo03
/- Plain mathematics of seats: which tables may be, what is told of a call, what is kept of it. -/
namespace SessionMath
set_option linter.unusedSimpArgs false
set_option linter.unusedVariables false

/-- A seat: its client, its call's number, what it told. -/
structure Ms where
  cl : Int
  sq : Nat
  rp : List Nat
def callB (c : Int) (q : Nat) : Bool := decide (0 ≤ c) && decide (c < 8) && decide (1 ≤ q) && decide (q ≤ 4611686018427387904)
def seatB (s : Ms) : Bool := callB s.cl s.sq && decide (s.rp.length ≤ 4096)
def lnk : Option Ms → Ms → Bool
  | none, _ => true
  | some p, s => decide (p.cl < s.cl)
def walk : Option Ms → List Ms → Bool
  | _, [] => true
  | p, s :: l => seatB s && lnk p s && walk (some s) l
def mayB (l : List Ms) : Bool := walk none l
/-- The one ahead. -/
def prev (l : List Ms) (i : Nat) : Option Ms := if i = 0 then none else l[i - 1]?
theorem prev_succ {l : List Ms} {i : Nat} {r : Ms} (h : l[i]? = some r) : prev l (i + 1) = some r := by
  unfold prev
  rw [if_neg (by omega)]
  simpa using h
theorem walk_at {l : List Ms} {p : Option Ms} {i : Nat} {r : Ms} (h : l[i]? = some r) : walk p (l.drop i) = (seatB r && lnk p r && walk (some r) (l.drop (i + 1))) := by
  obtain ⟨hi, rfl⟩ := List.getElem?_eq_some_iff.1 h
  rw [List.drop_eq_getElem_cons hi, walk]
theorem call_iff {c : Int} {q : Nat} : callB c q = true ↔ 0 ≤ c ∧ c < 8 ∧ 1 ≤ q ∧ q ≤ 4611686018427387904 := by
  simp only [callB, Bool.and_eq_true, decide_eq_true_eq]
  omega
theorem seat_iff {s : Ms} : seatB s = true ↔ 0 ≤ s.cl ∧ s.cl < 8 ∧ 1 ≤ s.sq ∧ s.sq ≤ 4611686018427387904 ∧ s.rp.length ≤ 4096 := by
  simp only [seatB, callB, Bool.and_eq_true, decide_eq_true_eq]
  omega
theorem walk_some {l : List Ms} {p : Ms} : walk (some p) l = true ↔ (∀ s ∈ l, seatB s = true ∧ p.cl < s.cl) ∧ l.Pairwise (fun a b => a.cl < b.cl) := by
  induction l generalizing p with
  | nil => simp [walk]
  | cons x l ih =>
    simp only [walk, lnk, Bool.and_eq_true, decide_eq_true_eq, ih, List.pairwise_cons, List.mem_cons]
    constructor
    · rintro ⟨⟨h1, h2⟩, h3, h4⟩
      refine ⟨?_, fun y hy => (h3 y hy).2, h4⟩
      rintro s (rfl | hs)
      · exact ⟨h1, h2⟩
      · have := (h3 s hs).2
        exact ⟨(h3 s hs).1, by omega⟩
    · rintro ⟨h1, h2, h3⟩
      exact ⟨⟨(h1 x (.inl rfl)).1, (h1 x (.inl rfl)).2⟩, fun s hs => ⟨(h1 s (.inr hs)).1, h2 s hs⟩, h3⟩
theorem may_iff {l : List Ms} : mayB l = true ↔ (∀ s ∈ l, seatB s = true) ∧ l.Pairwise (fun a b => a.cl < b.cl) := by
  cases l with
  | nil => simp [mayB, walk]
  | cons x l =>
    simp only [mayB, walk, lnk, Bool.and_true, Bool.and_eq_true, walk_some, List.mem_cons, List.pairwise_cons]
    constructor
    · rintro ⟨h1, h2, h3⟩
      refine ⟨?_, fun y hy => (h2 y hy).2, h3⟩
      rintro s (rfl | hs)
      · exact h1
      · exact (h2 s hs).1
    · rintro ⟨h1, h2, h3⟩
      exact ⟨h1 x (.inl rfl), fun s hs => ⟨h1 s (.inr hs), h2 s hs⟩, h3⟩
/-- A table has eight seats at most. -/
theorem may_len {l : List Ms} (h : mayB l = true) : l.length ≤ 8 := by
  obtain ⟨h1, h2⟩ := may_iff.1 h
  have key : ∀ (l : List Ms) (m : Int), 0 ≤ m → m ≤ 8 → (∀ s ∈ l, m ≤ s.cl ∧ s.cl < 8) → l.Pairwise (fun a b => a.cl < b.cl) → (l.length : Int) ≤ 8 - m := by
    intro l
    induction l with
    | nil => intro m h0 h8 _ _; simp; omega
    | cons x l ih =>
      intro m h0 h8 ha hp
      rw [List.pairwise_cons] at hp
      have hx := ha x (by simp)
      have := ih (x.cl + 1) (by omega) (by omega) (fun s hs => by
        have := hp.1 s hs
        have := ha s (by simp [hs])
        omega) hp.2
      simp only [List.length_cons]
      omega
  have := key l 0 (by omega) (by omega) (fun s hs => by
    have := seat_iff.1 (h1 s hs)
    omega) h2
  omega
/-- Where a client's seat is, or would be. -/
def Plc (l : List Ms) (c : Int) (k : Nat) : Prop := k ≤ l.length ∧ (∀ (i : Nat) (s : Ms), i < k → l[i]? = some s → s.cl < c) ∧ ∀ (i : Nat) (s : Ms), k ≤ i → l[i]? = some s → c ≤ s.cl
theorem plc_ex {l : List Ms} (c : Int) (h : l.Pairwise (fun a b => a.cl < b.cl)) : ∃ k, Plc l c k := by
  induction l with
  | nil => exact ⟨0, by simp, by simp, by simp⟩
  | cons x l ih =>
    rw [List.pairwise_cons] at h
    by_cases hx : x.cl < c
    · obtain ⟨k, h1, h2, h3⟩ := ih h.2
      refine ⟨k + 1, by simpa using h1, fun i s hi hs => ?_, fun i s hi hs => ?_⟩
      · cases i with
        | zero => simp only [List.getElem?_cons_zero, Option.some.injEq] at hs; rw [← hs]; exact hx
        | succ i => exact h2 i s (by omega) (by simpa using hs)
      · cases i with
        | zero => omega
        | succ i => exact h3 i s (by omega) (by simpa using hs)
    · refine ⟨0, by simp, fun i s hi _ => by omega, fun i s _ hs => ?_⟩
      cases i with
      | zero => simp only [List.getElem?_cons_zero, Option.some.injEq] at hs; rw [← hs]; omega
      | succ i =>
        have := h.1 s (List.mem_of_getElem? (by simpa using hs))
        omega
/-- A client's seat. -/
def seatOf (l : List Ms) (c : Int) : Option Ms := l.find? fun s => decide (s.cl = c)
theorem seatOf_at {l : List Ms} {c : Int} {k : Nat} (h : l.Pairwise (fun a b => a.cl < b.cl)) {i : Nat} {s : Ms} (hs : l[i]? = some s) (hc : s.cl = c) : seatOf l c = some s := by
  unfold seatOf
  induction l generalizing i with
  | nil => simp at hs
  | cons x l ih =>
    rw [List.pairwise_cons] at h
    cases i with
    | zero =>
      simp only [List.getElem?_cons_zero, Option.some.injEq] at hs
      subst hs
      rw [List.find?_cons, decide_eq_true hc]
    | succ i =>
      have hs' : l[i]? = some s := by simpa using hs
      have hx := h.1 s (List.mem_of_getElem? hs')
      rw [List.find?_cons, decide_eq_false (by omega)]
      exact ih h.2 hs'
theorem seatOf_none {l : List Ms} {c : Int} (h : ∀ s ∈ l, s.cl ≠ c) : seatOf l c = none := by
  unfold seatOf
  rw [List.find?_eq_none]
  intro s hs
  simpa using h s hs
/-- Has the client a seat? -/
def hasB (l : List Ms) (k : Nat) (c : Int) : Bool := match l[k]? with | some s => decide (s.cl = c) | none => false
theorem plc_has {l : List Ms} {c : Int} {k : Nat} (h : l.Pairwise (fun a b => a.cl < b.cl)) (hk : Plc l c k) : (hasB l k c = true → ∃ s, l[k]? = some s ∧ s.cl = c ∧ seatOf l c = some s) ∧ (hasB l k c = false → seatOf l c = none) := by
  constructor
  · intro hb
    unfold hasB at hb
    cases hs : l[k]? with
    | none => rw [hs] at hb; cases hb
    | some s =>
      rw [hs] at hb
      have hc : s.cl = c := by simpa using hb
      exact ⟨s, rfl, hc, seatOf_at (k := k) h hs hc⟩
  · intro hb
    refine seatOf_none fun s hs he => ?_
    obtain ⟨i, hi⟩ := List.getElem?_of_mem hs
    rcases Nat.lt_trichotomy i k with h1 | h1 | h1
    · have := hk.2.1 i s h1 hi
      omega
    · subst h1
      unfold hasB at hb
      rw [hi] at hb
      simp [he] at hb
    · have h2 : k < l.length := Nat.lt_trans h1 (List.getElem?_eq_some_iff.1 hi).1
      have h3 : l[k]? = some l[k] := List.getElem?_eq_getElem h2
      have h4 := hk.2.2 k _ (Nat.le_refl _) h3
      obtain ⟨hil, h5⟩ := List.getElem?_eq_some_iff.1 hi
      have := (List.pairwise_iff_getElem.1 h) k i h2 hil h1
      rw [h5] at this
      omega
/-- What is told of a call. -/
def lookM (l : List Ms) (c : Int) (q : Nat) : List Nat × Bool × Int :=
  if mayB l && callB c q then
    match seatOf l c with
    | none => ([], false, 0)
    | some s => if q < s.sq then ([], false, 7) else if q = s.sq then (s.rp, true, 0) else ([], false, 0)
  else ([], false, 1)
/-- What is kept of it. -/
def newB (l : List Ms) (c : Int) (q : Nat) : Bool := match seatOf l c with | none => true | some s => decide (s.sq < q)
def keptM (l : List Ms) (s : Ms) : List Ms := l.filter (fun x => decide (x.cl < s.cl)) ++ [s] ++ l.filter (fun x => decide (s.cl < x.cl))
def putM (l : List Ms) (s : Ms) : List Ms × Int :=
  if mayB l && seatB s then (if newB l s.cl s.sq then (keptM l s, 0) else ([], 7)) else ([], 1)

theorem filter_take {l : List Ms} {c : Int} {k : Nat} (hk : Plc l c k) : l.filter (fun x => decide (x.cl < c)) = l.take k := by
  have h1 : (l.take k).filter (fun x => decide (x.cl < c)) = l.take k := by
    rw [List.filter_eq_self]
    intro s hs
    obtain ⟨i, hi⟩ := List.getElem?_of_mem hs
    rw [List.getElem?_take] at hi
    split at hi
    · rename_i h; simpa using hk.2.1 i s h hi
    · cases hi
  have h2 : (l.drop k).filter (fun x => decide (x.cl < c)) = [] := by
    rw [List.filter_eq_nil_iff]
    intro s hs
    obtain ⟨i, hi⟩ := List.getElem?_of_mem hs
    rw [List.getElem?_drop] at hi
    have := hk.2.2 (k + i) s (by omega) hi
    simpa using this
  conv => lhs; rw [← List.take_append_drop k l]
  rw [List.filter_append, h1, h2, List.append_nil]
theorem filter_drop {l : List Ms} {c : Int} {k : Nat} (h : l.Pairwise (fun a b => a.cl < b.cl)) (hk : Plc l c k) : l.filter (fun x => decide (c < x.cl)) = l.drop (if hasB l k c then k + 1 else k) := by
  obtain ⟨j, hj⟩ : ∃ j, j = if hasB l k c then k + 1 else k := ⟨_, rfl⟩
  rw [← hj]
  have hlow : ∀ (i : Nat) (s : Ms), i < j → l[i]? = some s → ¬ c < s.cl := by
    intro i s hi hs
    by_cases h1 : i < k
    · have := hk.2.1 i s h1 hs; omega
    · cases hb : hasB l k c with
      | false => rw [hb] at hj; simp at hj; omega
      | true =>
        rw [hb] at hj
        simp at hj
        obtain rfl : i = k := by omega
        obtain ⟨s', h2, h3, _⟩ := (plc_has h hk).1 hb
        rw [hs] at h2
        cases h2
        omega
  have hup : ∀ (i : Nat) (s : Ms), j ≤ i → l[i]? = some s → c < s.cl := by
    intro i s hi hs
    have hik : k ≤ i := by split at hj <;> omega
    have h1 := hk.2.2 i s hik hs
    by_cases he : s.cl = c
    · cases hb : hasB l k c with
      | false =>
        have h2 := (plc_has h hk).2 hb
        rw [seatOf_at (k := k) h hs he] at h2
        cases h2
      | true =>
        obtain ⟨s', h2, h3, _⟩ := (plc_has h hk).1 hb
        rw [hb] at hj
        simp at hj
        have hkl := (List.getElem?_eq_some_iff.1 h2).1
        have hil := (List.getElem?_eq_some_iff.1 hs).1
        have := (List.pairwise_iff_getElem.1 h) k i hkl hil (by omega)
        rw [(List.getElem?_eq_some_iff.1 h2).2, (List.getElem?_eq_some_iff.1 hs).2] at this
        omega
    · omega
  have h1 : (l.take j).filter (fun x => decide (c < x.cl)) = [] := by
    rw [List.filter_eq_nil_iff]
    intro s hs
    obtain ⟨i, hi⟩ := List.getElem?_of_mem hs
    rw [List.getElem?_take] at hi
    split at hi
    · rename_i h9; simpa using hlow i s h9 hi
    · cases hi
  have h2 : (l.drop j).filter (fun x => decide (c < x.cl)) = l.drop j := by
    rw [List.filter_eq_self]
    intro s hs
    obtain ⟨i, hi⟩ := List.getElem?_of_mem hs
    rw [List.getElem?_drop] at hi
    simpa using hup (j + i) s (by omega) hi
  conv => lhs; rw [← List.take_append_drop j l]
  rw [List.filter_append, h1, h2, List.nil_append]
theorem kept_eq {l : List Ms} {s : Ms} {k : Nat} (h : l.Pairwise (fun a b => a.cl < b.cl)) (hk : Plc l s.cl k) : keptM l s = l.take k ++ [s] ++ l.drop (if hasB l k s.cl then k + 1 else k) := by
  unfold keptM
  rw [filter_take hk, filter_drop h hk]
/-- What is kept is a table. -/
theorem kept_may {l : List Ms} {s : Ms} (hl : mayB l = true) (hs : seatB s = true) : mayB (keptM l s) = true := by
  obtain ⟨h1, h2⟩ := may_iff.1 hl
  refine may_iff.2 ⟨?_, ?_⟩
  · intro x hx
    unfold keptM at hx
    simp only [List.mem_append, List.mem_filter, List.mem_singleton] at hx
    rcases hx with (⟨hx, _⟩ | rfl) | ⟨hx, _⟩
    · exact h1 x hx
    · exact hs
    · exact h1 x hx
  · unfold keptM
    rw [List.pairwise_append, List.pairwise_append]
    refine ⟨⟨h2.sublist List.filter_sublist, by simp, ?_⟩, h2.sublist List.filter_sublist, ?_⟩
    · intro a ha b hb
      simp only [List.mem_filter, decide_eq_true_eq] at ha
      rw [List.mem_singleton] at hb
      rw [hb]
      exact ha.2
    · intro a ha b hb
      simp only [List.mem_append, List.mem_filter, List.mem_singleton, decide_eq_true_eq] at ha hb
      rcases ha with ha | rfl
      · omega
      · exact hb.2
theorem kept_seat {l : List Ms} {s : Ms} (hl : mayB l = true) (hs : seatB s = true) (c : Int) : seatOf (keptM l s) c = if c = s.cl then some s else seatOf l c := by
  have hk := kept_may hl hs
  have hkp := (may_iff.1 hk).2
  have hlp := (may_iff.1 hl).2
  split
  · rename_i h
    subst h
    obtain ⟨i, hi⟩ := List.getElem?_of_mem (show s ∈ keptM l s by unfold keptM; simp)
    exact seatOf_at (k := 0) hkp hi rfl
  · rename_i hne
    cases hf : seatOf l c with
    | none =>
      refine seatOf_none fun x hx => ?_
      unfold seatOf at hf
      rw [List.find?_eq_none] at hf
      unfold keptM at hx
      simp only [List.mem_append, List.mem_filter, List.mem_singleton] at hx
      rcases hx with (⟨hx, _⟩ | rfl) | ⟨hx, _⟩
      · simpa using hf x hx
      · exact fun h => hne h.symm
      · simpa using hf x hx
    | some x =>
      have hxm : x ∈ l := List.mem_of_find?_eq_some hf
      have hxc : x.cl = c := by simpa using List.find?_some hf
      have hxk : x ∈ keptM l s := by
        unfold keptM
        simp only [List.mem_append, List.mem_filter, List.mem_singleton, decide_eq_true_eq]
        rcases Int.lt_trichotomy x.cl s.cl with h | h | h
        · exact .inl (.inl ⟨hxm, h⟩)
        · exact absurd (hxc.symm.trans h) hne
        · exact .inr ⟨hxm, h⟩
      obtain ⟨i, hi⟩ := List.getElem?_of_mem hxk
      exact seatOf_at (k := 0) hkp hi hxc
end SessionMath

