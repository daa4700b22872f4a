
/- Plain mathematics of ranges of keys (stage 10): lists in form are known by the keys that they have; one more, one less, by the program and by cutting at all places. -/
namespace SpanMath
set_option linter.unusedSimpArgs false
set_option linter.unusedVariables false

abbrev K := List UInt8
/-- A span: from, to. -/
abbrev Sp := K × K
/-- Below an end. -/
def blw (k t : K) : Bool := decide (t = [] ∨ k < t)
/-- Does a span have a key? -/
def has (s : Sp) (k : K) : Bool := decide (s.1 ≤ k) && blw k s.2
/-- May a span be, whatever its ends' lengths? -/
def Ok (s : Sp) : Prop := s.2 = [] ∨ s.1 < s.2
/-- Ends of at most 64 bytes. -/
def Sm (s : Sp) : Prop := s.1.length ≤ 64 ∧ s.2.length ≤ 64
def may (s : Sp) : Bool := decide (s.1.length ≤ 64) && decide (s.2.length ≤ 64) && blw s.1 s.2
theorem may_iff {s : Sp} : may s = true ↔ Sm s ∧ Ok s := by
  unfold may Sm Ok blw
  simp only [Bool.and_eq_true, decide_eq_true_eq]
/-- One ends below another, and a key's place is between them. -/
def apt (a b : Sp) : Bool := decide (a.2 ≠ [] ∧ a.2 < b.1)
def isIn (l : List Sp) (k : K) : Bool := l.any fun s => has s k
/-- In form, but for lengths. -/
def Fm (l : List Sp) : Prop := l.Pairwise (fun a b => apt a b = true) ∧ ∀ s ∈ l, Ok s

theorem nil_le (a : K) : ([] : K) ≤ a := List.nil_le a
theorem has_iff {s : Sp} {k : K} : has s k = true ↔ s.1 ≤ k ∧ (s.2 = [] ∨ k < s.2) := by simp [has, blw]
theorem apt_iff {a b : Sp} : apt a b = true ↔ a.2 ≠ [] ∧ a.2 < b.1 := by simp [apt]
theorem isIn_iff {l : List Sp} {k : K} : isIn l k = true ↔ ∃ s ∈ l, has s k = true := by simp [isIn]
theorem has_from {s : Sp} (h : Ok s) : has s s.1 = true := by
  rw [has_iff]
  refine ⟨?_, h⟩
  grind
theorem isIn_nil (k : K) : isIn [] k = false := rfl
theorem isIn_cons (s : Sp) (l : List Sp) (k : K) : isIn (s :: l) k = (has s k || isIn l k) := by simp [isIn]
theorem isIn_append (l r : List Sp) (k : K) : isIn (l ++ r) k = (isIn l k || isIn r k) := by simp [isIn]

/-- Lists in form are known by their keys. -/
theorem form_ext : ∀ {l m : List Sp}, Fm l → Fm m → (∀ k, isIn l k = isIn m k) → l = m
  | [], [], _, _, _ => rfl
  | [], y :: m, _, hm, h => by
    have := h y.1
    rw [isIn_cons, has_from (hm.2 y (List.mem_cons_self))] at this
    simp [isIn_nil] at this
  | x :: l, [], hl, _, h => by
    have := h x.1
    rw [isIn_cons, has_from (hl.2 x (List.mem_cons_self))] at this
    simp [isIn_nil] at this
  | x :: l, y :: m, hl, hm, h => by
    have hlp := List.pairwise_cons.1 hl.1
    have hmp := List.pairwise_cons.1 hm.1
    have ox := hl.2 x List.mem_cons_self
    have oy := hm.2 y List.mem_cons_self
    -- which keys a list in form has
    have low : ∀ {z : Sp} {r : List Sp}, Fm (z :: r) → ∀ k, isIn (z :: r) k = true → z.1 ≤ k := by
      intro z r hz k hk
      obtain ⟨s, hs, hk2⟩ := isIn_iff.1 hk
      rw [has_iff] at hk2
      rcases List.mem_cons.1 hs with rfl | hs
      · exact hk2.1
      · have h1 := (List.pairwise_cons.1 hz.1).1 s hs
        rw [apt_iff] at h1
        have h2 := hz.2 z List.mem_cons_self
        unfold Ok at h2
        grind
    have tail : ∀ {z : Sp} {r : List Sp}, Fm (z :: r) → ∀ k, isIn r k = true ↔ (z.2 ≠ [] ∧ z.2 < k ∧ isIn (z :: r) k = true) := by
      intro z r hz k
      rw [isIn_cons]
      constructor
      · intro hk
        obtain ⟨s, hs, hk'⟩ := isIn_iff.1 hk
        have h1 := (List.pairwise_cons.1 hz.1).1 s hs
        rw [apt_iff] at h1
        rw [has_iff] at hk'
        refine ⟨h1.1, by grind, by simp [hk]⟩
      · rintro ⟨h1, h2, h3⟩
        rw [Bool.or_eq_true] at h3
        rcases h3 with h3 | h3
        · rw [has_iff] at h3
          grind
        · exact h3
    have out : ∀ {z : Sp} {r : List Sp}, Fm (z :: r) → z.2 ≠ [] → isIn (z :: r) z.2 = false := by
      intro z r hz hne
      rw [Bool.eq_false_iff]
      intro hk
      obtain ⟨s, hs, hk⟩ := isIn_iff.1 hk
      rw [has_iff] at hk
      rcases List.mem_cons.1 hs with rfl | hs
      · grind
      · have h1 := (List.pairwise_cons.1 hz.1).1 s hs
        rw [apt_iff] at h1
        grind
    have hf : x.1 = y.1 := by
      have h1 : isIn (y :: m) x.1 = true := by rw [← h, isIn_cons, has_from ox]; rfl
      have h2 : isIn (x :: l) y.1 = true := by rw [h, isIn_cons, has_from oy]; rfl
      have := low hm _ h1
      have := low hl _ h2
      grind
    have key : ∀ {z u : Sp} {r t : List Sp}, Fm (z :: r) → Fm (u :: t) → (∀ k, isIn (z :: r) k = isIn (u :: t) k) → z.1 = u.1 → z.2 ≠ [] → u.2 ≠ [] ∧ u.2 ≤ z.2 := by
      intro z u r t hz hu hk e hne
      have h1 := out hz hne
      rw [hk, isIn_cons, Bool.or_eq_false_iff] at h1
      have oz := hz.2 z List.mem_cons_self
      have h2 := h1.1
      rw [Bool.eq_false_iff] at h2
      have h3 : ¬ (u.1 ≤ z.2 ∧ (u.2 = [] ∨ z.2 < u.2)) := fun h => h2 (has_iff.2 h)
      unfold Ok at oz
      grind
    have ht : x.2 = y.2 := by
      by_cases h1 : x.2 = []
      · by_cases h2 : y.2 = []
        · rw [h1, h2]
        · exact absurd h1 (key hm hl (fun k => (h k).symm) hf.symm h2).1
      · obtain ⟨h2, h3⟩ := key hl hm h hf h1
        obtain ⟨_, h4⟩ := key hm hl (fun k => (h k).symm) hf.symm h2
        grind
    have exy : x = y := Prod.ext hf ht
    subst exy
    have hrest : l = m := form_ext ⟨hlp.2, fun s hs => hl.2 s (List.mem_cons_of_mem _ hs)⟩ ⟨hmp.2, fun s hs => hm.2 s (List.mem_cons_of_mem _ hs)⟩ fun k => by
      rw [Bool.eq_iff_iff, tail hl k, tail hm k, h]
    rw [hrest]

def kmax (a b : K) : K := if a < b then b else a
def kmin (a b : K) : K := if b < a then b else a
def late (a b : K) : K := if a = [] ∨ b = [] then [] else kmax a b
/-- The program's Add, span by span. -/
def addStep (st : List Sp × Sp × List Sp) (x : Sp) : List Sp × Sp × List Sp :=
  if apt x st.2.1 then (st.1 ++ [x], st.2.1, st.2.2)
  else if apt st.2.1 x then (st.1, st.2.1, st.2.2 ++ [x])
  else (st.1, (kmin st.2.1.1 x.1, late st.2.1.2 x.2), st.2.2)
def addAll (st : List Sp × Sp × List Sp) (l : List Sp) : List Sp × Sp × List Sp := l.foldl addStep st
def addM (l : List Sp) (s : Sp) : List Sp :=
  let st := addAll ([], s, []) l
  st.1 ++ st.2.1 :: st.2.2

theorem merge_has {a b : Sp} (ha : Ok a) (hb : Ok b) (h1 : ¬ apt b a = true) (h2 : ¬ apt a b = true) (k : K) : has (kmin a.1 b.1, late a.2 b.2) k = (has a k || has b k) := by
  rw [apt_iff] at h1 h2
  rw [Bool.eq_iff_iff, Bool.or_eq_true, has_iff, has_iff, has_iff]
  unfold Ok at ha hb
  have := nil_le k
  unfold kmin late kmax
  grind
theorem merge_ok {a b : Sp} (ha : Ok a) (hb : Ok b) : Ok (kmin a.1 b.1, late a.2 b.2) := by
  unfold Ok at *
  unfold kmin late kmax
  grind

theorem add_inv : ∀ (rest : List Sp) (lo : List Sp) (s : Sp) (hi : List Sp), Fm (lo ++ s :: hi) → Fm rest → (∀ y ∈ lo ++ hi, ∀ x ∈ rest, apt y x = true) →
    Fm ((addAll (lo, s, hi) rest).1 ++ (addAll (lo, s, hi) rest).2.1 :: (addAll (lo, s, hi) rest).2.2) ∧ ∀ k, isIn ((addAll (lo, s, hi) rest).1 ++ (addAll (lo, s, hi) rest).2.1 :: (addAll (lo, s, hi) rest).2.2) k = (isIn (lo ++ s :: hi) k || isIn rest k)
  | [], lo, s, hi, h, _, _ => ⟨h, fun k => by simp [addAll, isIn_nil]⟩
  | x :: rest, lo, s, hi, h, hr, hy => by
    have hrp := List.pairwise_cons.1 hr.1
    have hr' : Fm rest := ⟨hrp.2, fun s hs => hr.2 s (List.mem_cons_of_mem _ hs)⟩
    have ox : Ok x := hr.2 x List.mem_cons_self
    have os : Ok s := h.2 s (by simp)
    have hp := List.pairwise_append.1 h.1
    have hp2 := List.pairwise_cons.1 hp.2.1
    have hlo : ∀ a ∈ lo, apt a s = true := fun a ha => hp.2.2 a ha s (by simp)
    have hlohi : ∀ a ∈ lo, ∀ b ∈ hi, apt a b = true := fun a ha b hb => hp.2.2 a ha b (by simp [hb])
    -- behind s nothing of what has been, if x is not behind s
    have hnone : ¬ apt s x = true → hi = [] := by
      intro hn
      cases hi with
      | nil => rfl
      | cons z hi =>
        have h1 := hp2.1 z (by simp)
        have h2 := hy z (by simp) x (by simp)
        have oz := h.2 z (by simp)
        rw [apt_iff] at h1 h2 hn
        unfold Ok at os oz ox
        exfalso
        grind
    show _ ∧ ∀ k, isIn ((addAll (addStep (lo, s, hi) x) rest).1 ++ _ :: (addAll (addStep (lo, s, hi) x) rest).2.2) k = _
    by_cases h1 : apt x s = true
    · have hns : ¬ apt s x = true := by
        rw [apt_iff] at h1 ⊢
        unfold Ok at os ox
        grind
      have hh := hnone hns
      subst hh
      have e : addStep (lo, s, []) x = (lo ++ [x], s, []) := by unfold addStep; rw [if_pos h1]
      have ih := add_inv rest (lo ++ [x]) s [] ⟨by
          rw [List.pairwise_append, List.pairwise_append]
          refine ⟨⟨hp.1, by simp, fun a ha b hb => ?_⟩, by simp, fun a ha b hb => ?_⟩
          · simp only [List.mem_singleton] at hb; subst hb; exact hy a (by simp [ha]) _ (by simp)
          · simp only [List.mem_singleton] at hb
            subst hb
            rcases List.mem_append.1 ha with ha | ha
            · exact hlo a ha
            · simp only [List.mem_singleton] at ha; subst ha; exact h1, fun a ha => by
          simp only [List.mem_append, List.mem_singleton, List.mem_cons, List.not_mem_nil, or_false] at ha
          rcases ha with (ha | rfl) | rfl
          · exact h.2 a (by simp [ha])
          · exact ox
          · exact os⟩ hr' (fun y hy' z hz => by
          simp only [List.append_nil, List.mem_append, List.mem_singleton] at hy'
          rcases hy' with hy' | rfl
          · exact hy y (by simp [hy']) z (by simp [hz])
          · exact hrp.1 z hz)
      have e' : addAll (lo, s, []) (x :: rest) = addAll (lo ++ [x], s, []) rest := by unfold addAll; rw [List.foldl_cons, e]
      rw [e', e]
      refine ⟨ih.1, fun k => ?_⟩
      rw [ih.2]
      simp only [isIn_append, isIn_cons, isIn_nil, Bool.or_false]
      cases isIn lo k <;> cases has x k <;> cases has s k <;> cases isIn rest k <;> rfl
    · by_cases h2 : apt s x = true
      · have e : addStep (lo, s, hi) x = (lo, s, hi ++ [x]) := by unfold addStep; rw [if_neg h1, if_pos h2]
        have ih := add_inv rest lo s (hi ++ [x]) ⟨by
            rw [List.pairwise_append, List.pairwise_cons, List.pairwise_append]
            refine ⟨hp.1, ⟨fun b hb => ?_, hp2.2, by simp, fun a ha b hb => ?_⟩, fun a ha b hb => ?_⟩
            · simp only [List.mem_append, List.mem_singleton] at hb
              rcases hb with hb | rfl
              · exact hp2.1 b hb
              · exact h2
            · simp only [List.mem_singleton] at hb; subst hb; exact hy a (by simp [ha]) _ (by simp)
            · simp only [List.mem_append, List.mem_singleton, List.mem_cons, List.not_mem_nil, or_false] at hb
              rcases hb with rfl | hb | rfl
              · exact hlo a ha
              · exact hlohi a ha b hb
              · exact hy a (by simp [ha]) _ (by simp), fun a ha => by
            simp only [List.mem_append, List.mem_singleton, List.mem_cons, List.not_mem_nil, or_false] at ha
            rcases ha with ha | rfl | ha | rfl
            · exact h.2 a (by simp [ha])
            · exact os
            · exact h.2 a (by simp [ha])
            · exact ox⟩ hr' (fun y hy' z hz => by
            simp only [List.mem_append, List.mem_singleton] at hy'
            rcases hy' with hy' | hy' | rfl
            · exact hy y (by simp [hy']) z (by simp [hz])
            · exact hy y (by simp [hy']) z (by simp [hz])
            · exact hrp.1 z hz)
        have e' : addAll (lo, s, hi) (x :: rest) = addAll (lo, s, hi ++ [x]) rest := by unfold addAll; rw [List.foldl_cons, e]
        rw [e', e]
        refine ⟨ih.1, fun k => ?_⟩
        rw [ih.2]
        simp only [isIn_append, isIn_cons, isIn_nil, Bool.or_false]
        cases isIn lo k <;> cases has x k <;> cases has s k <;> cases isIn rest k <;> cases isIn hi k <;> rfl
      · have hh := hnone h2
        subst hh
        have e : addStep (lo, s, []) x = (lo, (kmin s.1 x.1, late s.2 x.2), []) := by unfold addStep; rw [if_neg h1, if_neg h2]
        have ih := add_inv rest lo (kmin s.1 x.1, late s.2 x.2) [] ⟨by
            rw [List.pairwise_append]
            refine ⟨hp.1, by simp, fun a ha b hb => ?_⟩
            simp only [List.mem_singleton] at hb
            subst hb
            have g1 := hlo a ha
            have g2 := hy a (by simp [ha]) x (by simp)
            rw [apt_iff] at g1 g2 ⊢
            unfold kmin
            refine ⟨g1.1, ?_⟩
            simp only
            split
            · exact g2.2
            · exact g1.2, fun a ha => by
            simp only [List.mem_append, List.mem_singleton] at ha
            rcases ha with ha | rfl
            · exact h.2 a (by simp [ha])
            · exact merge_ok os ox⟩ hr' (fun y hy' z hz => by
            simp only [List.append_nil] at hy'
            exact hy y (by simp [hy']) z (by simp [hz]))
        have e' : addAll (lo, s, []) (x :: rest) = addAll (lo, (kmin s.1 x.1, late s.2 x.2), []) rest := by unfold addAll; rw [List.foldl_cons, e]
        rw [e', e]
        refine ⟨ih.1, fun k => ?_⟩
        rw [ih.2]
        simp only [isIn_append, isIn_cons, isIn_nil, Bool.or_false]
        rw [merge_has os ox h1 h2]
        cases isIn lo k <;> cases has x k <;> cases has s k <;> cases isIn rest k <;> rfl

theorem add_form {l : List Sp} {s : Sp} (hl : Fm l) (hs : Ok s) : Fm (addM l s) :=
  (add_inv l [] s [] ⟨by simp, by simpa using hs⟩ hl (by simp)).1
theorem add_has {l : List Sp} {s : Sp} (hl : Fm l) (hs : Ok s) (k : K) : isIn (addM l s) k = (isIn l k || has s k) := by
  have := (add_inv l [] s [] ⟨by simp, by simpa using hs⟩ hl (by simp)).2 k
  simp only [List.nil_append, isIn_cons, isIn_nil, Bool.or_false] at this
  unfold addM
  simp only
  rw [this, Bool.or_comm]
/-- In form. -/
def formB (l : List Sp) : Bool := decide (l.length ≤ 64) && decide (∀ s ∈ l, may s = true) && decide (l.Pairwise (fun a b => apt a b = true))
theorem formB_iff {l : List Sp} : formB l = true ↔ l.length ≤ 64 ∧ (∀ s ∈ l, Sm s) ∧ Fm l := by
  unfold formB Fm
  simp only [Bool.and_eq_true, decide_eq_true_eq, may_iff]
  grind
end SpanMath

