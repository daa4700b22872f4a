
/- Plain mathematics of ranges of keys (stage 10): lists in form are known by the keys that they have; one more, one less, by the program and by cutting at all places. -/
namespace SpanMath
set_option linter.unusedSimpArgs false
set_option linter.unusedVariables false

abbrev K := List UInt8
/-- A span: from, to. -/
abbrev Sp := K × K
/-- Below an end. -/
def blw (k t : K) : Bool := decide (t = [] ∨ k < t)
/-- Does a span have a key? -/
def has (s : Sp) (k : K) : Bool := decide (s.1 ≤ k) && blw k s.2
/-- May a span be, whatever its ends' lengths? -/
def Ok (s : Sp) : Prop := s.2 = [] ∨ s.1 < s.2
/-- Ends of at most 64 bytes. -/
def Sm (s : Sp) : Prop := s.1.length ≤ 64 ∧ s.2.length ≤ 64
def may (s : Sp) : Bool := decide (s.1.length ≤ 64) && decide (s.2.length ≤ 64) && blw s.1 s.2
theorem may_iff {s : Sp} : may s = true ↔ Sm s ∧ Ok s := by
  unfold may Sm Ok blw
  simp only [Bool.and_eq_true, decide_eq_true_eq]
/-- One ends below another, and a key's place is between them. -/
def apt (a b : Sp) : Bool := decide (a.2 ≠ [] ∧ a.2 < b.1)
def isIn (l : List Sp) (k : K) : Bool := l.any fun s => has s k
/-- In form, but for lengths. -/
def Fm (l : List Sp) : Prop := l.Pairwise (fun a b => apt a b = true) ∧ ∀ s ∈ l, Ok s

theorem nil_le (a : K) : ([] : K) ≤ a := List.nil_le a
theorem apt_iff {a b : Sp} : apt a b = true ↔ a.2 ≠ [] ∧ a.2 < b.1 := by simp [apt]
def kmax (a b : K) : K := if a < b then b else a
def kmin (a b : K) : K := if b < a then b else a
def soon (a b : K) : K := if a = [] then b else if b = [] then a else kmin a b
def meetS (a b : Sp) : Sp := (kmax a.1 b.1, soon a.2 b.2)
def meet (a b : Sp) : Option Sp := if blw (meetS a b).1 (meetS a b).2 then some (meetS a b) else none

/-- Keys rise. -/
def Up : List K → Prop := List.Pairwise (· < ·)
/-- A key more, in its place. -/
def ins : List K → K → List K
  | [], s => [s]
  | x :: l, s => if x < s then x :: ins l s else if x = s then x :: l else s :: x :: l
theorem ins_mem (s : K) : ∀ (l : List K) (k : K), k ∈ ins l s ↔ k = s ∨ k ∈ l
  | [], k => by simp [ins]
  | x :: l, k => by
    unfold ins
    split
    · rw [List.mem_cons, ins_mem s l k, List.mem_cons]; grind
    · split
      · rename_i h; subst h; simp
      · simp
theorem ins_up (s : K) : ∀ (l : List K), Up l → Up (ins l s)
  | [], _ => by simp [ins, Up]
  | x :: l, h => by
    have hp := List.pairwise_cons.1 h
    unfold ins
    split
    · rename_i hlt
      refine List.pairwise_cons.2 ⟨fun a ha => ?_, ins_up s l hp.2⟩
      rcases (ins_mem s l a).1 ha with rfl | ha
      · exact hlt
      · exact hp.1 a ha
    · split
      · exact h
      · refine List.pairwise_cons.2 ⟨fun a ha => ?_, h⟩
        rcases List.mem_cons.1 ha with rfl | ha
        · grind
        · have := hp.1 a ha; grind
/-- Where any span begins or ends. -/
def plc (l : List Sp) : List K := l.foldl (fun p s => ins (ins p s.1) s.2) [[]]
theorem plc_from : ∀ (l : List Sp) (p : List K), Up p → Up (l.foldl (fun p s => ins (ins p s.1) s.2) p) ∧ ∀ k, k ∈ l.foldl (fun p s => ins (ins p s.1) s.2) p ↔ k ∈ p ∨ ∃ s ∈ l, k = s.1 ∨ k = s.2
  | [], p, h => ⟨h, fun k => by simp⟩
  | s :: l, p, h => by
    obtain ⟨h1, h2⟩ := plc_from l (ins (ins p s.1) s.2) (ins_up _ _ (ins_up _ _ h))
    refine ⟨h1, fun k => ?_⟩
    rw [List.foldl_cons, h2, ins_mem, ins_mem]
    simp only [List.mem_cons]
    grind
theorem plc_up (l : List Sp) : Up (plc l) := (plc_from l [[]] (by simp [Up])).1
/-- In form. -/
def formB (l : List Sp) : Bool := decide (l.length ≤ 64) && decide (∀ s ∈ l, may s = true) && decide (l.Pairwise (fun a b => apt a b = true))
theorem formB_iff {l : List Sp} : formB l = true ↔ l.length ≤ 64 ∧ (∀ s ∈ l, Sm s) ∧ Fm l := by
  unfold formB Fm
  simp only [Bool.and_eq_true, decide_eq_true_eq, may_iff]
  grind
/-- Span by span: the next one may be, and is apart from the one ahead. -/
def nextOk (l : List Sp) (i : Nat) : Prop := ∀ s, l[i]? = some s → may s = true ∧ (∀ r, 0 < i → l[i - 1]? = some r → apt r s = true)
theorem form_next {l : List Sp} {i : Nat} (h : (∀ s ∈ l.take i, may s = true) ∧ (l.take i).Pairwise (fun a b => apt a b = true)) (hn : nextOk l i) : (∀ s ∈ l.take (i + 1), may s = true) ∧ (l.take (i + 1)).Pairwise (fun a b => apt a b = true) := by
  by_cases hi : i < l.length
  · have e : l.take (i + 1) = l.take i ++ [l[i]] := by rw [List.take_succ_eq_append_getElem hi]
    obtain ⟨h1, h2⟩ := hn l[i] (List.getElem?_eq_getElem hi)
    rw [e]
    refine ⟨fun s hs => ?_, ?_⟩
    · rcases List.mem_append.1 hs with hs | hs
      · exact h.1 s hs
      · rw [List.mem_singleton.1 hs]; exact h1
    · rw [List.pairwise_append]
      refine ⟨h.2, by simp, fun a ha b hb => ?_⟩
      rw [List.mem_singleton.1 hb]
      obtain ⟨j, hj, rfl⟩ := List.mem_iff_getElem.1 ha
      rw [List.length_take] at hj
      rw [List.getElem_take]
      have h3 := h2 l[i - 1] (by omega) (List.getElem?_eq_getElem (by omega))
      by_cases hji : j = i - 1
      · subst hji; exact h3
      · have h4 := List.pairwise_iff_getElem.1 h.2 j (i - 1) (by rw [List.length_take]; omega) (by rw [List.length_take]; omega) (by omega)
        rw [List.getElem_take, List.getElem_take] at h4
        have h5 := h.1 l[i - 1] (List.mem_take_iff_getElem.2 ⟨i - 1, by omega, rfl⟩)
        rw [may_iff] at h5
        have h6 := h5.2
        rw [apt_iff] at h3 h4 ⊢
        unfold Ok at h6
        grind
  · rw [List.take_of_length_le (by omega)] at h
    rw [List.take_of_length_le (by omega)]
    exact h
theorem form_not {l : List Sp} {i : Nat} (hn : ¬ nextOk l i) : formB l = false := by
  rw [Bool.eq_false_iff]
  intro h
  unfold formB at h
  simp only [Bool.and_eq_true, decide_eq_true_eq] at h
  refine hn fun s hs => ⟨h.1.2 s (List.mem_of_getElem? hs), fun r h0 hr => ?_⟩
  obtain ⟨h1, rfl⟩ := List.getElem?_eq_some_iff.1 hs
  obtain ⟨h2, rfl⟩ := List.getElem?_eq_some_iff.1 hr
  exact List.pairwise_iff_getElem.1 h.2 (i - 1) i h2 h1 (by omega)
end SpanMath

