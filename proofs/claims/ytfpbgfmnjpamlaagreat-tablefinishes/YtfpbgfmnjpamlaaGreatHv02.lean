
/- Plain mathematics of ranges of keys (stage 10): lists in form are known by the keys that they have; one more, one less, by the program and by cutting at all places. -/
namespace SpanMath
set_option linter.unusedSimpArgs false
set_option linter.unusedVariables false

abbrev K := List UInt8
/-- A span: from, to. -/
abbrev Sp := K × K
/-- Below an end. -/
def blw (k t : K) : Bool := decide (t = [] ∨ k < t)
/-- Does a span have a key? -/
def has (s : Sp) (k : K) : Bool := decide (s.1 ≤ k) && blw k s.2
/-- May a span be, whatever its ends' lengths? -/
def Ok (s : Sp) : Prop := s.2 = [] ∨ s.1 < s.2
/-- Ends of at most 64 bytes. -/
def Sm (s : Sp) : Prop := s.1.length ≤ 64 ∧ s.2.length ≤ 64
def may (s : Sp) : Bool := decide (s.1.length ≤ 64) && decide (s.2.length ≤ 64) && blw s.1 s.2
theorem may_iff {s : Sp} : may s = true ↔ Sm s ∧ Ok s := by
 unfold may Sm Ok blw
 simp only [Bool.and_eq_true, decide_eq_true_eq]
/-- One ends below another, and a key's place is between them. -/
def apt (a b : Sp) : Bool := decide (a.2 ≠ [] ∧ a.2 < b.1)
def isIn (l : List Sp) (k : K) : Bool := l.any fun s => has s k
/-- In form, but for lengths. -/
def Fm (l : List Sp) : Prop := l.Pairwise (fun a b => apt a b = true) ∧ ∀ s ∈ l, Ok s

theorem nil_le (a : K) : ([] : K) ≤ a := List.nil_le a
theorem not_lt_nil (a : K) : ¬ a < ([] : K) := by
 have := nil_le a
 grind
theorem has_iff {s : Sp} {k : K} : has s k = true ↔ s.1 ≤ k ∧ (s.2 = [] ∨ k < s.2) := by simp [has, blw]
theorem apt_iff {a b : Sp} : apt a b = true ↔ a.2 ≠ [] ∧ a.2 < b.1 := by simp [apt]
theorem isIn_iff {l : List Sp} {k : K} : isIn l k = true ↔ ∃ s ∈ l, has s k = true := by simp [isIn]
theorem has_from {s : Sp} (h : Ok s) : has s s.1 = true := by
 rw [has_iff]
 refine ⟨?_, h⟩
 grind
theorem isIn_nil (k : K) : isIn [] k = false := rfl
theorem isIn_cons (s : Sp) (l : List Sp) (k : K) : isIn (s :: l) k = (has s k || isIn l k) := by simp [isIn]
theorem isIn_append (l r : List Sp) (k : K) : isIn (l ++ r) k = (isIn l k || isIn r k) := by simp [isIn]

/-- Lists in form are known by their keys. -/
theorem form_ext : ∀ {l m : List Sp}, Fm l → Fm m → (∀ k, isIn l k = isIn m k) → l = m
 | [], [], _, _, _ => rfl
 | [], y :: m, _, hm, h => by
  have := h y.1
  rw [isIn_cons, has_from (hm.2 y (List.mem_cons_self))] at this
  simp [isIn_nil] at this
 | x :: l, [], hl, _, h => by
  have := h x.1
  rw [isIn_cons, has_from (hl.2 x (List.mem_cons_self))] at this
  simp [isIn_nil] at this
 | x :: l, y :: m, hl, hm, h => by
  have hlp := List.pairwise_cons.1 hl.1
  have hmp := List.pairwise_cons.1 hm.1
  have ox := hl.2 x List.mem_cons_self
  have oy := hm.2 y List.mem_cons_self
  -- which keys a list in form has
  have low : ∀ {z : Sp} {r : List Sp}, Fm (z :: r) → ∀ k, isIn (z :: r) k = true → z.1 ≤ k := by
   intro z r hz k hk
   obtain ⟨s, hs, hk2⟩ := isIn_iff.1 hk
   rw [has_iff] at hk2
   rcases List.mem_cons.1 hs with rfl | hs
   ·exact hk2.1
   ·have h1 := (List.pairwise_cons.1 hz.1).1 s hs
    rw [apt_iff] at h1
    have h2 := hz.2 z List.mem_cons_self
    unfold Ok at h2
    grind
  have tail : ∀ {z : Sp} {r : List Sp}, Fm (z :: r) → ∀ k, isIn r k = true ↔ (z.2 ≠ [] ∧ z.2 < k ∧ isIn (z :: r) k = true) := by
   intro z r hz k
   rw [isIn_cons]
   constructor
   ·intro hk
    obtain ⟨s, hs, hk'⟩ := isIn_iff.1 hk
    have h1 := (List.pairwise_cons.1 hz.1).1 s hs
    rw [apt_iff] at h1
    rw [has_iff] at hk'
    refine ⟨h1.1, by grind, by simp [hk]⟩
   ·rintro ⟨h1, h2, h3⟩
    rw [Bool.or_eq_true] at h3
    rcases h3 with h3 | h3
    ·rw [has_iff] at h3
     grind
    ·exact h3
  have out : ∀ {z : Sp} {r : List Sp}, Fm (z :: r) → z.2 ≠ [] → isIn (z :: r) z.2 = false := by
   intro z r hz hne
   rw [Bool.eq_false_iff]
   intro hk
   obtain ⟨s, hs, hk⟩ := isIn_iff.1 hk
   rw [has_iff] at hk
   rcases List.mem_cons.1 hs with rfl | hs
   ·grind
   ·have h1 := (List.pairwise_cons.1 hz.1).1 s hs
    rw [apt_iff] at h1
    grind
  have hf : x.1 = y.1 := by
   have h1 : isIn (y :: m) x.1 = true := by rw [← h, isIn_cons, has_from ox]; rfl
   have h2 : isIn (x :: l) y.1 = true := by rw [h, isIn_cons, has_from oy]; rfl
   have := low hm _ h1
   have := low hl _ h2
   grind
  have key : ∀ {z u : Sp} {r t : List Sp}, Fm (z :: r) → Fm (u :: t) → (∀ k, isIn (z :: r) k = isIn (u :: t) k) → z.1 = u.1 → z.2 ≠ [] → u.2 ≠ [] ∧ u.2 ≤ z.2 := by
   intro z u r t hz hu hk e hne
   have h1 := out hz hne
   rw [hk, isIn_cons, Bool.or_eq_false_iff] at h1
   have oz := hz.2 z List.mem_cons_self
   have h2 := h1.1
   rw [Bool.eq_false_iff] at h2
   have h3 : ¬ (u.1 ≤ z.2 ∧ (u.2 = [] ∨ z.2 < u.2)) := fun h => h2 (has_iff.2 h)
   unfold Ok at oz
   grind
  have ht : x.2 = y.2 := by
   by_cases h1 : x.2 = []
   ·by_cases h2 : y.2 = []
    ·rw [h1, h2]
    ·exact absurd h1 (key hm hl (fun k => (h k).symm) hf.symm h2).1
   ·obtain ⟨h2, h3⟩ := key hl hm h hf h1
    obtain ⟨_, h4⟩ := key hm hl (fun k => (h k).symm) hf.symm h2
    grind
  have exy : x = y := Prod.ext hf ht
  subst exy
  have hrest : l = m := form_ext ⟨hlp.2, fun s hs => hl.2 s (List.mem_cons_of_mem _ hs)⟩ ⟨hmp.2, fun s hs => hm.2 s (List.mem_cons_of_mem _ hs)⟩ fun k => by
   rw [Bool.eq_iff_iff, tail hl k, tail hm k, h]
  rw [hrest]

/-- Some keys are in, as long as there is a span that may be. -/
theorem none_in {l : List Sp} (ho : ∀ s ∈ l, Ok s) (h : ∀ k, isIn l k = false) : l = [] := by
 cases l with
 | nil => rfl
 | cons s l =>
  have := h s.1
  rw [isIn_cons, has_from (ho s List.mem_cons_self)] at this
  cases this

def kmax (a b : K) : K := if a < b then b else a
def kmin (a b : K) : K := if b < a then b else a
def soon (a b : K) : K := if a = [] then b else if b = [] then a else kmin a b
def meetS (a b : Sp) : Sp := (kmax a.1 b.1, soon a.2 b.2)
def meet (a b : Sp) : Option Sp := if blw (meetS a b).1 (meetS a b).2 then some (meetS a b) else none

theorem meet_has (a b : Sp) (k : K) : (has a k && has b k) = (match meet a b with | some m => has m k | none => false) := by
 have h0 := nil_le k
 rw [Bool.eq_iff_iff, Bool.and_eq_true, has_iff, has_iff]
 unfold meet
 by_cases h : blw (meetS a b).1 (meetS a b).2 = true
 ·rw [if_pos h]
  simp only [has_iff]
  unfold meetS soon kmax kmin
  grind
 ·rw [if_neg h]
  unfold blw meetS soon kmax kmin at h
  simp only [decide_eq_true_eq] at h
  simp only [Bool.false_eq_true, iff_false]
  grind
theorem meet_ok {a b m : Sp} (h : meet a b = some m) : Ok m ∧ m = meetS a b := by
 unfold meet at h
 split at h
 ·rename_i h1
  cases h
  refine ⟨?_, rfl⟩
  simpa [blw, Ok] using h1
 ·cases h
/-- The keys that a span has not, as spans. -/
def outs (s : Sp) : List Sp := (if s.1 = [] then [] else [([], s.1)]) ++ (if s.2 = [] then [] else [(s.2, [])])
def lessOne (s x : Sp) : List Sp := (outs s).filterMap fun o => meet x o
def lessM (l : List Sp) (s : Sp) : List Sp := l.flatMap (lessOne s)
theorem outs_ok {s : Sp} : ∀ x ∈ outs s, Ok x := by
 intro x hx
 unfold Ok
 unfold outs at hx
 rcases List.mem_append.1 hx with hx | hx
 ·split at hx
  ·simp at hx
  ·rename_i h
   rw [List.mem_singleton.1 hx]
   have := nil_le s.1
   simp only
   grind
 ·split at hx
  ·simp at hx
  ·rw [List.mem_singleton.1 hx]; simp
theorem outs_has {s : Sp} (h : Ok s) (k : K) : isIn (outs s) k = !has s k := by
 unfold Ok at h
 have h0 := nil_le k
 have h1 := nil_le s.1
 have h2 := nil_le s.2
 rw [Bool.eq_iff_iff, isIn_iff, Bool.not_eq_true', Bool.eq_false_iff, Ne, has_iff]
 unfold outs
 simp only [List.mem_append]
 constructor
 ·rintro ⟨x, hx | hx, hk⟩
  ·split at hx
   ·simp at hx
   ·rw [List.mem_singleton.1 hx, has_iff] at hk
    simp only at hk
    grind
  ·split at hx
   ·simp at hx
   ·rw [List.mem_singleton.1 hx, has_iff] at hk
    simp only at hk
    grind
 ·intro hn
  by_cases hk : k < s.1
  ·refine ⟨([], s.1), .inl ?_, ?_⟩
   ·rw [if_neg (by intro e; rw [e] at hk; exact not_lt_nil _ hk)]; simp
   ·rw [has_iff]; exact ⟨h0, .inr hk⟩
  ·have hk2 : s.2 ≠ [] ∧ s.2 ≤ k := by grind
   refine ⟨(s.2, []), .inr ?_, ?_⟩
   ·rw [if_neg hk2.1]; simp
   ·rw [has_iff]; exact ⟨hk2.2, .inl rfl⟩
theorem outs_form {s : Sp} (h : Ok s) : Fm (outs s) := by
 refine ⟨?_, outs_ok⟩
 unfold outs
 rw [List.pairwise_append]
 refine ⟨by split <;> simp, by split <;> simp, fun a ha b hb => ?_⟩
 unfold Ok at h
 split at ha
 ·simp at ha
 ·split at hb
  ·simp at hb
  ·rename_i h1 h2
   rw [List.mem_singleton.1 ha, List.mem_singleton.1 hb, apt_iff]
   simp only
   grind
theorem filterMap_has (x : Sp) : ∀ (os : List Sp) (k : K), isIn (os.filterMap fun o => meet x o) k = (has x k && isIn os k)
 | [], k => by simp [isIn_nil]
 | o :: os, k => by
  have ih := filterMap_has x os k
  have hm := meet_has x o k
  rw [isIn_cons]
  cases e : meet x o with
  | none =>
   rw [List.filterMap_cons_none e, ih]
   rw [e] at hm
   simp only at hm
   cases h1 : has x k <;> cases h2 : has o k <;> cases h3 : isIn os k <;> simp_all
  | some m =>
   rw [List.filterMap_cons_some e, isIn_cons, ih]
   rw [e] at hm
   simp only at hm
   rw [← hm]
   cases h1 : has x k <;> cases h2 : has o k <;> cases h3 : isIn os k <;> simp_all
theorem less_has {l : List Sp} {s : Sp} (hs : Ok s) (k : K) : isIn (lessM l s) k = (isIn l k && !has s k) := by
 induction l with
 | nil => simp [lessM, isIn_nil]
 | cons x l ih =>
  unfold lessM at *
  rw [List.flatMap_cons, isIn_append, ih, isIn_cons]
  unfold lessOne
  rw [filterMap_has, outs_has hs]
  cases has x k <;> cases has s k <;> cases isIn l k <;> rfl
/-- A part of a span lies within it. -/
theorem meet_within {x o m : Sp} (h : meet x o = some m) : x.1 ≤ m.1 ∧ (x.2 = [] ∨ (m.2 ≠ [] ∧ m.2 ≤ x.2)) := by
 obtain ⟨_, rfl⟩ := meet_ok h
 unfold meetS soon kmax kmin
 simp only
 grind
theorem meet_within2 {x o m : Sp} (h : meet x o = some m) : o.1 ≤ m.1 ∧ (o.2 = [] ∨ (m.2 ≠ [] ∧ m.2 ≤ o.2)) := by
 obtain ⟨_, rfl⟩ := meet_ok h
 unfold meetS soon kmax kmin
 simp only
 grind
theorem less_form {l : List Sp} {s : Sp} (hl : Fm l) (hs : Ok s) : Fm (lessM l s) := by
 refine ⟨?_, fun m hm => ?_⟩
 ·induction l with
  | nil => simp [lessM]
  | cons x l ih =>
   have hlp := List.pairwise_cons.1 hl.1
   have ih' := ih ⟨hlp.2, fun s hs => hl.2 s (List.mem_cons_of_mem _ hs)⟩
   unfold lessM at *
   rw [List.flatMap_cons, List.pairwise_append]
   refine ⟨?_, ih', fun a ha b hb => ?_⟩
   ·unfold lessOne
    rw [List.pairwise_filterMap]
    refine (outs_form hs).1.imp ?_
    intro a b hab m hm n hn
    have g1 := meet_within2 hm
    have g2 := meet_within2 hn
    rw [apt_iff] at hab ⊢
    grind
   ·obtain ⟨o, _, ho⟩ := List.mem_filterMap.1 ha
    obtain ⟨y, hy, hb⟩ := List.mem_flatMap.1 hb
    obtain ⟨o2, _, ho2⟩ := List.mem_filterMap.1 hb
    have g1 := meet_within ho
    have g2 := meet_within ho2
    have g3 := hlp.1 y hy
    rw [apt_iff] at g3 ⊢
    grind
 ·obtain ⟨y, hy, hb⟩ := List.mem_flatMap.1 hm
  obtain ⟨o2, _, ho2⟩ := List.mem_filterMap.1 hb
  exact (meet_ok ho2).1
/-- One span of a list in form has all keys of a span, if the list has them. -/
theorem covers_one {l : List Sp} {s : Sp} (hl : Fm l) (hs : Ok s) : (∀ k, has s k = true → isIn l k = true) ↔ ∃ x ∈ l, meet x s = some s := by
 constructor
 ·intro h
  obtain ⟨x, hx, hk⟩ := isIn_iff.1 (h s.1 (has_from hs))
  refine ⟨x, hx, ?_⟩
  rw [has_iff] at hk
  have ox := hl.2 x hx
  have hout : x.2 ≠ [] → isIn l x.2 = false := by
   intro hne
   rw [Bool.eq_false_iff]
   intro h2
   obtain ⟨y, hy, hk2⟩ := isIn_iff.1 h2
   rw [has_iff] at hk2
   obtain ⟨i, hi, rfl⟩ := List.mem_iff_getElem.1 hx
   obtain ⟨j, hj, rfl⟩ := List.mem_iff_getElem.1 hy
   have oy := hl.2 _ hy
   unfold Ok at ox oy
   rcases Nat.lt_trichotomy i j with hij | hij | hij
   ·have := List.pairwise_iff_getElem.1 hl.1 i j hi hj hij
    rw [apt_iff] at this
    grind
   ·subst hij; grind
   ·have := List.pairwise_iff_getElem.1 hl.1 j i hj hi hij
    rw [apt_iff] at this
    grind
  have hx2 : x.2 = [] ∨ (s.2 ≠ [] ∧ s.2 ≤ x.2) := by
   by_cases hne : x.2 = []
   ·exact .inl hne
   ·right
    have h1 := hout hne
    have h2 : ¬ (s.1 ≤ x.2 ∧ (s.2 = [] ∨ x.2 < s.2)) := fun h3 => by
     have := h _ (has_iff.2 h3)
     rw [h1] at this
     cases this
    grind
  have e : meetS x s = s := by
   unfold meetS soon kmax kmin
   refine Prod.ext ?_ ?_
   ·simp only; grind
   ·simp only; grind
  unfold meet
  rw [e, if_pos (by simpa [blw, Ok] using hs)]
 ·rintro ⟨x, hx, hm⟩ k hk
  have := meet_has x s k
  rw [hm] at this
  simp only at this
  rw [hk, Bool.and_true] at this
  exact isIn_iff.2 ⟨x, hx, this⟩

/-- Keys rise. -/
def Up : List K → Prop := List.Pairwise (· < ·)
/-- A key more, in its place. -/
def ins : List K → K → List K
 | [], s => [s]
 | x :: l, s => if x < s then x :: ins l s else if x = s then x :: l else s :: x :: l
theorem ins_mem (s : K) : ∀ (l : List K) (k : K), k ∈ ins l s ↔ k = s ∨ k ∈ l
 | [], k => by simp [ins]
 | x :: l, k => by
  unfold ins
  split
  ·rw [List.mem_cons, ins_mem s l k, List.mem_cons]; grind
  ·split
   ·rename_i h; subst h; simp
   ·simp
theorem ins_up (s : K) : ∀ (l : List K), Up l → Up (ins l s)
 | [], _ => by simp [ins, Up]
 | x :: l, h => by
  have hp := List.pairwise_cons.1 h
  unfold ins
  split
  ·rename_i hlt
   refine List.pairwise_cons.2 ⟨fun a ha => ?_, ins_up s l hp.2⟩
   rcases (ins_mem s l a).1 ha with rfl | ha
   ·exact hlt
   ·exact hp.1 a ha
  ·split
   ·exact h
   ·refine List.pairwise_cons.2 ⟨fun a ha => ?_, h⟩
    rcases List.mem_cons.1 ha with rfl | ha
    ·grind
    ·have := hp.1 a ha; grind
/-- Where any span begins or ends. -/
def plc (l : List Sp) : List K := l.foldl (fun p s => ins (ins p s.1) s.2) [[]]
theorem plc_from : ∀ (l : List Sp) (p : List K), Up p → Up (l.foldl (fun p s => ins (ins p s.1) s.2) p) ∧ ∀ k, k ∈ l.foldl (fun p s => ins (ins p s.1) s.2) p ↔ k ∈ p ∨ ∃ s ∈ l, k = s.1 ∨ k = s.2
 | [], p, h => ⟨h, fun k => by simp⟩
 | s :: l, p, h => by
  obtain ⟨h1, h2⟩ := plc_from l (ins (ins p s.1) s.2) (ins_up _ _ (ins_up _ _ h))
  refine ⟨h1, fun k => ?_⟩
  rw [List.foldl_cons, h2, ins_mem, ins_mem]
  simp only [List.mem_cons]
  grind
theorem plc_up (l : List Sp) : Up (plc l) := (plc_from l [[]] (by simp [Up])).1
theorem plc_mem (l : List Sp) (k : K) : k ∈ plc l ↔ k = [] ∨ ∃ s ∈ l, k = s.1 ∨ k = s.2 := by
 have := (plc_from l [[]] (by simp [Up])).2 k
 rw [List.mem_singleton] at this
 exact this

/-- Cutting at places: what is open, and what stands behind it. -/
def scan (χ : K → Bool) : Option K → List K → List Sp
 | none, [] => []
 | some f, [] => [(f, [])]
 | none, p :: ps => if χ p then scan χ (some p) ps else scan χ none ps
 | some f, p :: ps => if χ p then scan χ (some f) ps else (f, p) :: scan χ none ps
/-- Between places all is alike. -/
def Flat (χ : K → Bool) : List K → Prop
 | [] => True
 | [p] => ∀ k, p ≤ k → χ k = χ p
 | p :: q :: ps => (∀ k, p ≤ k → k < q → χ k = χ p) ∧ Flat χ (q :: ps)
theorem scan_has (χ : K → Bool) : ∀ (ps : List K) (p : K), Up (p :: ps) → Flat χ (p :: ps) →
  (∀ k, isIn (scan χ none (p :: ps)) k = (decide (p ≤ k) && χ k)) ∧ (∀ f, f < p → ∀ k, isIn (scan χ (some f) (p :: ps)) k = ((decide (f ≤ k) && decide (k < p)) || (decide (p ≤ k) && χ k))) ∧
  Fm (scan χ none (p :: ps)) ∧ (∀ s ∈ scan χ none (p :: ps), p ≤ s.1) ∧ (∀ f, f < p → Fm (scan χ (some f) (p :: ps)) ∧ ∀ s ∈ scan χ (some f) (p :: ps), f ≤ s.1)
 | [], p, hu, hf => by
  have hp0 := nil_le p
  have hk : ∀ k, p ≤ k → χ k = χ p := hf
  have one : ∀ (f k : K), isIn [(f, ([] : K))] k = decide (f ≤ k) := fun f k => by simp [isIn, has, blw]
  refine ⟨fun k => ?_, fun f hfp k => ?_, ?_, ?_, fun f hfp => ?_⟩
  ·simp only [scan]
   by_cases hx : χ p = true
   ·rw [if_pos hx, one]
    by_cases h : p ≤ k
    ·rw [decide_eq_true h, hk k h, hx]; rfl
    ·rw [decide_eq_false h]; rfl
   ·rw [if_neg hx, isIn_nil]
    by_cases h : p ≤ k
    ·rw [decide_eq_true h, hk k h]; simpa using hx
    ·rw [decide_eq_false h]; rfl
  ·have hf0 := nil_le f
   simp only [scan]
   by_cases hx : χ p = true
   ·rw [if_pos hx, one]
    by_cases h : p ≤ k
    ·rw [decide_eq_true h, hk k h, hx, decide_eq_true (show f ≤ k by grind)]; simp
    ·rw [decide_eq_false h, decide_eq_true (show k < p by grind)]; simp
   ·rw [if_neg hx, isIn_cons, isIn_nil]
    by_cases h : p ≤ k
    ·rw [decide_eq_true h, hk k h, decide_eq_false (show ¬ k < p by grind)]
     have : has (f, p) k = false := by rw [Bool.eq_false_iff, Ne, has_iff]; simp only; grind
     rw [this]
     simpa using hx
    ·rw [decide_eq_false h, decide_eq_true (show k < p by grind)]
     have : has (f, p) k = decide (f ≤ k) := by
      rw [Bool.eq_iff_iff, has_iff, decide_eq_true_eq]; simp only; grind
     rw [this]; simp
  ·simp only [scan]
   split <;> simp [Fm, Ok]
  ·simp only [scan]
   intro s hs
   split at hs
   ·rw [List.mem_singleton.1 hs]; simp
   ·simp at hs
  ·simp only [scan]
   split
   ·refine ⟨by simp [Fm, Ok], fun s hs => ?_⟩
    rw [List.mem_singleton.1 hs]; simp
   ·refine ⟨⟨by simp, fun s hs => ?_⟩, fun s hs => ?_⟩
    ·rw [List.mem_singleton.1 hs]; exact .inr hfp
    ·rw [List.mem_singleton.1 hs]; simp
 | q :: ps, p, hu, hf => by
  have hp0 := nil_le p
  have hup := List.pairwise_cons.1 hu
  have hpq : p < q := hup.1 q List.mem_cons_self
  obtain ⟨i1, i2, i3, i4, i5⟩ := scan_has χ ps q hup.2 hf.2
  have hk := hf.1
  refine ⟨fun k => ?_, fun f hfp k => ?_, ?_, ?_, fun f hfp => ?_⟩
  ·rw [scan]
   by_cases hx : χ p = true
   ·rw [if_pos hx, i2 p hpq k]
    by_cases h : p ≤ k
    ·by_cases h2 : k < q
     ·rw [hk k h h2, hx]; simp [h, h2]
     ·have : q ≤ k := by grind
      simp [h, h2, this]
    ·have h2 : ¬ q ≤ k := by grind
     simp [h, h2]
   ·rw [if_neg hx, i1 k]
    by_cases h : p ≤ k
    ·by_cases h2 : k < q
     ·have h3 : ¬ q ≤ k := by grind
      rw [hk k h h2]; simp [h, h3]; simpa using hx
     ·have : q ≤ k := by grind
      simp [h, this]
    ·have h2 : ¬ q ≤ k := by grind
     simp [h, h2]
  ·have hf0 := nil_le f
   rw [scan]
   by_cases hx : χ p = true
   ·rw [if_pos hx, i2 f (by grind) k]
    by_cases h : p ≤ k
    ·have hfk : f ≤ k := by grind
     have hkp : ¬ k < p := by grind
     by_cases h2 : k < q
     ·rw [hk k h h2, hx]; simp [h, h2, hfk]
     ·have : q ≤ k := by grind
      simp [h, h2, this, hkp]
    ·have h2 : ¬ q ≤ k := by grind
     have h3 : k < p := by grind
     have h4 : k < q := by grind
     simp [h, h2, h3, h4]
   ·rw [if_neg hx, isIn_cons, i1 k]
    by_cases h : p ≤ k
    ·have hfk : f ≤ k := by grind
     have hkp : ¬ k < p := by grind
     have : has (f, p) k = false := by rw [Bool.eq_false_iff, Ne, has_iff]; simp only; grind
     rw [this]
     by_cases h2 : k < q
     ·have h3 : ¬ q ≤ k := by grind
      rw [hk k h h2]; simp [h, h3, hkp]; simpa using hx
     ·have : q ≤ k := by grind
      simp [h, this, hkp]
    ·have h2 : ¬ q ≤ k := by grind
     have h3 : k < p := by grind
     have : has (f, p) k = decide (f ≤ k) := by
      rw [Bool.eq_iff_iff, has_iff, decide_eq_true_eq]; simp only; grind
     rw [this]; simp [h, h2, h3]
  ·rw [scan]
   split
   ·exact (i5 p hpq).1
   ·exact i3
  ·rw [scan]
   intro s hs
   split at hs
   ·exact (i5 p hpq).2 s hs
   ·have := i4 s hs; grind
  ·rw [scan]
   split
   ·exact i5 f (by grind)
   ·refine ⟨⟨List.pairwise_cons.2 ⟨fun s hs => ?_, i3.1⟩, fun s hs => ?_⟩, fun s hs => ?_⟩
    ·have := i4 s hs
     rw [apt_iff]
     simp only
     have := nil_le f
     grind
    ·rcases List.mem_cons.1 hs with rfl | hs
     ·exact .inr hfp
     ·exact i3.2 s hs
    ·rcases List.mem_cons.1 hs with rfl | hs
     ·simp
     ·have := i4 s hs; grind

/-- All is alike between places, if ends are among them. -/
theorem flat_of (χ : K → Bool) : ∀ (ps : List K), Up ps → (∀ a b, (∀ c ∈ ps, c ≤ a ↔ c ≤ b) → χ a = χ b) → Flat χ ps := by
 have main : ∀ (ps pre : List K), Up (pre ++ ps) → (∀ a b, (∀ c ∈ pre ++ ps, c ≤ a ↔ c ≤ b) → χ a = χ b) → Flat χ ps := by
  intro ps
  induction ps with
  | nil => intro _ _ _; trivial
  | cons p ps ih =>
   intro pre hu h
   have hp := List.pairwise_append.1 hu
   have hp2 := List.pairwise_cons.1 hp.2.1
   have ih' := ih (pre ++ [p]) (by simpa using hu) (by simpa using h)
   cases ps with
   | nil =>
    intro k hk
    refine h k p fun c hc => ?_
    rcases List.mem_append.1 hc with hc | hc
    ·have := hp.2.2 c hc p (by simp); grind
    ·rw [List.mem_singleton.1 hc]; grind
   | cons q ps =>
    refine ⟨fun k hk hkq => h k p fun c hc => ?_, ih'⟩
    rcases List.mem_append.1 hc with hc | hc
    ·have := hp.2.2 c hc p (by simp); grind
    ·rcases List.mem_cons.1 hc with rfl | hc
     ·grind
     ·have h1 := hp2.1 c hc
      have h2 : q ≤ c := by
       rcases List.mem_cons.1 hc with rfl | hc
       ·grind
       ·have := (List.pairwise_cons.1 hp2.2).1 c hc; grind
      grind
 intro ps hu h
 exact main ps [] hu h
theorem has_alike {s : Sp} {a b : K} (h1 : s.1 ≤ a ↔ s.1 ≤ b) (h2 : s.2 ≤ a ↔ s.2 ≤ b) : has s a = has s b := by
 rw [Bool.eq_iff_iff, has_iff, has_iff]
 grind
/-- Which keys a piece has: 0: of l or s; 1: of l and not s; 2: of l and s. -/
def chi (l : List Sp) (s : Sp) (kind : Nat) (k : K) : Bool :=
 if kind = 0 then isIn l k || has s k else if kind = 1 then isIn l k && !has s k else isIn l k && has s k
def piece (l : List Sp) (s : Sp) (kind : Nat) : List Sp := scan (chi l s kind) none (plc (l ++ [s]))
theorem piece_all (l : List Sp) (s : Sp) (kind : Nat) : Fm (piece l s kind) ∧ ∀ k, isIn (piece l s kind) k = chi l s kind k := by
 have hu := plc_up (l ++ [s])
 have hflat : Flat (chi l s kind) (plc (l ++ [s])) := by
  refine flat_of _ _ hu fun a b hab => ?_
  have e1 : ∀ x ∈ l ++ [s], has x a = has x b := fun x hx => has_alike (hab _ ((plc_mem _ _).2 (.inr ⟨x, hx, .inl rfl⟩))) (hab _ ((plc_mem _ _).2 (.inr ⟨x, hx, .inr rfl⟩)))
  have e2 : isIn l a = isIn l b := by
   rw [Bool.eq_iff_iff, isIn_iff, isIn_iff]
   constructor
   ·rintro ⟨x, hx, h⟩; exact ⟨x, hx, by rw [← e1 x (by simp [hx])]; exact h⟩
   ·rintro ⟨x, hx, h⟩; exact ⟨x, hx, by rw [e1 x (by simp [hx])]; exact h⟩
  have e3 := e1 s (by simp)
  unfold chi
  rw [e2, e3]
 have hnil : ([] : K) ∈ plc (l ++ [s]) := (plc_mem _ _).2 (.inl rfl)
 unfold piece
 generalize plc (l ++ [s]) = ps at *
 cases ps with
 | nil => simp at hnil
 | cons p ps =>
  have hp : p = [] := by
   rcases List.mem_cons.1 hnil with h | h
   ·exact h.symm
   ·exact absurd ((List.pairwise_cons.1 hu).1 _ h) (not_lt_nil p)
  obtain ⟨h1, _, h3, _, _⟩ := scan_has (chi l s kind) ps p hu hflat
  refine ⟨h3, fun k => ?_⟩
  rw [h1 k, hp, decide_eq_true (nil_le k)]; rfl
theorem piece_less {l : List Sp} {s : Sp} (hl : Fm l) (hs : Ok s) : piece l s 1 = lessM l s := by
 obtain ⟨h1, h2⟩ := piece_all l s 1
 refine form_ext h1 (less_form hl hs) fun k => ?_
 rw [h2, less_has hs]; rfl
/-- In form. -/
def formB (l : List Sp) : Bool := decide (l.length ≤ 64) && decide (∀ s ∈ l, may s = true) && decide (l.Pairwise (fun a b => apt a b = true))
theorem formB_iff {l : List Sp} : formB l = true ↔ l.length ≤ 64 ∧ (∀ s ∈ l, Sm s) ∧ Fm l := by
 unfold formB Fm
 simp only [Bool.and_eq_true, decide_eq_true_eq, may_iff]
 grind
/-- Span by span: the next one may be, and is apart from the one ahead. -/
def nextOk (l : List Sp) (i : Nat) : Prop := ∀ s, l[i]? = some s → may s = true ∧ (∀ r, 0 < i → l[i - 1]? = some r → apt r s = true)
theorem form_next {l : List Sp} {i : Nat} (h : (∀ s ∈ l.take i, may s = true) ∧ (l.take i).Pairwise (fun a b => apt a b = true)) (hn : nextOk l i) : (∀ s ∈ l.take (i + 1), may s = true) ∧ (l.take (i + 1)).Pairwise (fun a b => apt a b = true) := by
 by_cases hi : i < l.length
 ·have e : l.take (i + 1) = l.take i ++ [l[i]] := by rw [List.take_succ_eq_append_getElem hi]
  obtain ⟨h1, h2⟩ := hn l[i] (List.getElem?_eq_getElem hi)
  rw [e]
  refine ⟨fun s hs => ?_, ?_⟩
  ·rcases List.mem_append.1 hs with hs | hs
   ·exact h.1 s hs
   ·rw [List.mem_singleton.1 hs]; exact h1
  ·rw [List.pairwise_append]
   refine ⟨h.2, by simp, fun a ha b hb => ?_⟩
   rw [List.mem_singleton.1 hb]
   obtain ⟨j, hj, rfl⟩ := List.mem_iff_getElem.1 ha
   rw [List.length_take] at hj
   rw [List.getElem_take]
   have h3 := h2 l[i - 1] (by omega) (List.getElem?_eq_getElem (by omega))
   by_cases hji : j = i - 1
   ·subst hji; exact h3
   ·have h4 := List.pairwise_iff_getElem.1 h.2 j (i - 1) (by rw [List.length_take]; omega) (by rw [List.length_take]; omega) (by omega)
    rw [List.getElem_take, List.getElem_take] at h4
    have h5 := h.1 l[i - 1] (List.mem_take_iff_getElem.2 ⟨i - 1, by omega, rfl⟩)
    rw [may_iff] at h5
    have h6 := h5.2
    rw [apt_iff] at h3 h4 ⊢
    unfold Ok at h6
    grind
 ·rw [List.take_of_length_le (by omega)] at h
  rw [List.take_of_length_le (by omega)]
  exact h
theorem form_not {l : List Sp} {i : Nat} (hn : ¬ nextOk l i) : formB l = false := by
 rw [Bool.eq_false_iff]
 intro h
 unfold formB at h
 simp only [Bool.and_eq_true, decide_eq_true_eq] at h
 refine hn fun s hs => ⟨h.1.2 s (List.mem_of_getElem? hs), fun r h0 hr => ?_⟩
 obtain ⟨h1, rfl⟩ := List.getElem?_eq_some_iff.1 hs
 obtain ⟨h2, rfl⟩ := List.getElem?_eq_some_iff.1 hr
 exact List.pairwise_iff_getElem.1 h.2 (i - 1) i h2 h1 (by omega)
/-- What is left of a span without a list's keys. -/
def leftOf (l : List Sp) (left : List Sp) : List Sp := l.foldl (fun left x => left.flatMap fun s => piece [s] x 1) left
theorem left_has : ∀ (l left : List Sp) (k : K), isIn (leftOf l left) k = (isIn left k && !isIn l k)
 | [], left, k => by simp [leftOf, isIn_nil]
 | x :: l, left, k => by
  unfold leftOf
  rw [List.foldl_cons]
  have ih := left_has l (left.flatMap fun s => piece [s] x 1) k
  unfold leftOf at ih
  rw [ih, isIn_cons]
  have e : isIn (left.flatMap fun s => piece [s] x 1) k = (isIn left k && !has x k) := by
   induction left with
   | nil => simp [isIn_nil]
   | cons s left ih2 =>
    rw [List.flatMap_cons, isIn_append, isIn_cons]
    have := left_has l (left.flatMap fun s => piece [s] x 1) k
    unfold leftOf at this
    rw [ih2 this, (piece_all [s] x 1).2]
    unfold chi
    rw [if_neg (by decide), if_pos rfl]
    simp only [isIn_cons, isIn_nil, Bool.or_false]
    cases has s k <;> cases has x k <;> cases isIn left k <;> rfl
  rw [e]
  cases isIn left k <;> cases has x k <;> cases isIn l k <;> rfl
theorem left_ok : ∀ (l left : List Sp), (∀ s ∈ left, Ok s) → ∀ s ∈ leftOf l left, Ok s
 | [], left, h => h
 | x :: l, left, h => by
  unfold leftOf
  rw [List.foldl_cons]
  refine left_ok l _ fun s hs => ?_
  obtain ⟨y, _, hy⟩ := List.mem_flatMap.1 hs
  exact (piece_all [y] x 1).1.2 s hy
theorem covers_left {l : List Sp} {s : Sp} (hl : Fm l) (hs : Ok s) : leftOf l [s] = [] ↔ ∃ x ∈ l, meet x s = some s := by
 rw [← covers_one hl hs]
 constructor
 ·intro h k hk
  have := left_has l [s] k
  rw [h, isIn_nil, isIn_cons, isIn_nil, hk] at this
  simpa using this.symm
 ·intro h
  refine none_in (left_ok l [s] (by simpa using hs)) fun k => ?_
  rw [left_has, isIn_cons, isIn_nil, Bool.or_false]
  cases hk : has s k with
  | false => rfl
  | true => rw [h k hk]; rfl
end SpanMath

