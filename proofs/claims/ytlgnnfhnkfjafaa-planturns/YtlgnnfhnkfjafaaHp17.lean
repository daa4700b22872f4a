import Derived.Test.YtlgnnfhnkfjafaaHp02
/- Plain mathematics of charts (stage 11): ranges without a gap; one range has a key; splitting, merging, moving; a group's spans. -/
namespace ChartMath
open SpanMath
set_option linter.unusedSimpArgs false
set_option linter.unusedVariables false

/-- A range: span, group, epoch. -/
abbrev Rg := Sp × Int × Int
def gOk (g : Int) : Bool := decide (1 ≤ g) && decide (g ≤ 16)
def eOk (e : Int) : Bool := decide (1 ≤ e) && decide (e ≤ 4611686018427387904)
def rOk (r : Rg) : Bool := may r.1 && gOk r.2.1 && eOk r.2.2
def lnk (a b : Rg) : Bool := decide (a.1.2 = b.1.1) && !decide (b.1.1 = [])
def lnkO : Option Rg → Rg → Bool
  | none, _ => true
  | some a, b => lnk a b
/-- As a loop over the ranges sees it. -/
def walk : Option Rg → List Rg → Bool
  | _, [] => true
  | p, r :: l => rOk r && lnkO p r && walk (some r) l
def endsOk (l : List Rg) : Bool := decide (l.head?.map (fun r => r.1.1) = some []) && decide (l.getLast?.map (fun r => r.1.2) = some [])
def mayC (l : List Rg) : Bool := decide (1 ≤ l.length) && decide (l.length ≤ 64) && endsOk l && walk none l

/-- Ranges one behind the other, from a key on, up to an end; no end: all keys from there on. -/
def Chn : K → List Rg → Option K → Prop
  | a, [], e => e = some a
  | a, r :: l, e => r.1.1 = a ∧ (r.1.2 = [] ∧ l = [] ∧ e = none ∨ r.1.2 ≠ [] ∧ a < r.1.2 ∧ Chn r.1.2 l e)
/-- Behind an end. -/
def Thn : Option K → List Rg → Option K → Prop
  | some b, l, e => Chn b l e
  | none, l, e => l = [] ∧ e = none
structure Chart (l : List Rg) : Prop where
  len : l.length ≤ 64
  ok : ∀ r ∈ l, rOk r = true
  chn : Chn [] l none

theorem rOk_ok {r : Rg} (h : rOk r = true) : Ok r.1 ∧ Sm r.1 := by
  unfold rOk at h
  simp only [Bool.and_eq_true] at h
  have := may_iff.1 h.1.1
  exact ⟨this.2, this.1⟩

theorem walk_chn : ∀ (l : List Rg) (r : Rg), (walk (some r) l = true ∧ rOk r = true ∧ (r :: l).getLast?.map (fun r => r.1.2) = some []) ↔ ((∀ x ∈ r :: l, rOk x = true) ∧ Chn r.1.1 (r :: l) none)
  | [], r => by
    simp only [walk, Chn, true_and]
    constructor
    · rintro ⟨h1, h2⟩
      have h3 : r.1.2 = [] := by simpa using h2
      refine ⟨?_, .inl ⟨h3, trivial⟩⟩
      intro x hx
      simp only [List.mem_singleton] at hx
      subst hx
      exact h1
    · rintro ⟨h1, h2⟩
      refine ⟨h1 r (by simp), ?_⟩
      rcases h2 with ⟨h3, _⟩ | ⟨_, _, h3⟩
      · simp [h3]
      · cases h3
  | s :: l, r => by
    have ih := walk_chn l s
    have hlast : (r :: s :: l).getLast? = (s :: l).getLast? := by simp [List.getLast?_cons_cons]
    rw [hlast]
    constructor
    · rintro ⟨h1, h2, h3⟩
      simp only [walk, lnkO, lnk, Bool.and_eq_true, decide_eq_true_eq, Bool.not_eq_true', decide_eq_false_iff_not] at h1
      obtain ⟨⟨h4, h5, h6⟩, h7⟩ := h1
      obtain ⟨h8, h9⟩ := ih.1 ⟨h7, h4, h3⟩
      refine ⟨?_, rfl, .inr ⟨by rw [h5]; exact h6, ?_, by rw [h5]; exact h9⟩⟩
      · intro x hx
        rcases List.mem_cons.1 hx with rfl | hx
        · exact h2
        · exact h8 x hx
      · have := (rOk_ok h2).1
        unfold Ok at this
        rcases this with h | h
        · rw [h5] at h; exact absurd h h6
        · exact h
    · rintro ⟨h1, _, h2⟩
      rcases h2 with ⟨_, h, _⟩ | ⟨h2, h3, h4⟩
      · cases h
      · have h5 : s.1.1 = r.1.2 := h4.1
        rw [← h5] at h4
        obtain ⟨h6, h7, h8⟩ := ih.2 ⟨fun x hx => h1 x (List.mem_cons_of_mem _ hx), h4⟩
        refine ⟨?_, h1 r (by simp), h8⟩
        simp only [walk, lnkO, lnk, Bool.and_eq_true, decide_eq_true_eq, Bool.not_eq_true', decide_eq_false_iff_not]
        exact ⟨⟨h7, h5.symm, by rw [h5]; exact h2⟩, h6⟩

theorem mayC_iff {l : List Rg} : mayC l = true ↔ Chart l := by
  unfold mayC endsOk
  cases l with
  | nil =>
    constructor
    · intro h; simp at h
    · intro h; exact absurd h.chn (by simp [Chn])
  | cons r l =>
    simp only [Bool.and_eq_true, decide_eq_true_eq, walk, lnkO, and_true]
    constructor
    · rintro ⟨⟨⟨h1, h2⟩, h3, h4⟩, h5, h6⟩
      obtain ⟨h7, h8⟩ := (walk_chn l r).1 ⟨h6, h5, h4⟩
      have h9 : r.1.1 = [] := by simpa using h3
      rw [h9] at h8
      exact ⟨h2, h7, h8⟩
    · intro h
      have h9 : r.1.1 = [] := h.chn.1
      have h8 := h.chn
      rw [← h9] at h8
      obtain ⟨h5, h6, h7⟩ := (walk_chn l r).2 ⟨h.ok, h8⟩
      exact ⟨⟨⟨by simp, h.len⟩, by simp [h9], h7⟩, h6, h5⟩

theorem chn_append : ∀ (l₁ l₂ : List Rg) (a : K) (e : Option K), Chn a (l₁ ++ l₂) e ↔ ∃ m, Chn a l₁ m ∧ Thn m l₂ e
  | [], l₂, a, e => by
    constructor
    · intro h; exact ⟨some a, rfl, h⟩
    · rintro ⟨m, h1, h2⟩
      have : m = some a := h1
      subst this
      exact h2
  | r :: l₁, l₂, a, e => by
    have ih := chn_append l₁ l₂ r.1.2 e
    constructor
    · rintro ⟨h1, ⟨h2, h3, h4⟩ | ⟨h2, h3, h4⟩⟩
      · have h5 := List.append_eq_nil_iff.1 h3
        refine ⟨none, ⟨h1, .inl ⟨h2, h5.1, rfl⟩⟩, h5.2, h4⟩
      · obtain ⟨m, h5, h6⟩ := ih.1 h4
        exact ⟨m, ⟨h1, .inr ⟨h2, h3, h5⟩⟩, h6⟩
    · rintro ⟨m, ⟨h1, ⟨h2, h3, h4⟩ | ⟨h2, h3, h4⟩⟩, h5⟩
      · subst h4
        obtain ⟨h6, h7⟩ := h5
        exact ⟨h1, .inl ⟨h2, by simp [h3, h6], h7⟩⟩
      · exact ⟨h1, .inr ⟨h2, h3, ih.2 ⟨m, h4, h5⟩⟩⟩
theorem thn_append (l₁ l₂ : List Rg) (m e : Option K) : Thn m (l₁ ++ l₂) e ↔ ∃ n, Thn m l₁ n ∧ Thn n l₂ e := by
  cases m with
  | some b => exact chn_append l₁ l₂ b e
  | none =>
    constructor
    · rintro ⟨h1, h2⟩
      have h5 := List.append_eq_nil_iff.1 h1
      exact ⟨none, ⟨h5.1, rfl⟩, h5.2, h2⟩
    · rintro ⟨n, ⟨h1, h2⟩, h3⟩
      subst h2
      obtain ⟨h4, h5⟩ := h3
      exact ⟨by simp [h1, h4], h5⟩

theorem chn_low : ∀ (l : List Rg) (a : K) (e : Option K), Chn a l e → ∀ r ∈ l, a ≤ r.1.1
  | [], a, e, _, r, hr => by cases hr
  | s :: l, a, e, h, r, hr => by
    obtain ⟨h1, h2⟩ := h
    rcases List.mem_cons.1 hr with rfl | hr
    · rw [h1]; grind
    · rcases h2 with ⟨_, h3, _⟩ | ⟨_, h3, h4⟩
      · rw [h3] at hr; cases hr
      · have := chn_low l _ e h4 r hr
        grind
theorem chn_apart : ∀ (l : List Rg) (a : K) (e : Option K), Chn a l e → l.Pairwise (fun r s => r.1.2 ≠ [] ∧ r.1.2 ≤ s.1.1)
  | [], a, e, _ => List.Pairwise.nil
  | r :: l, a, e, h => by
    obtain ⟨h1, ⟨_, h3, _⟩ | ⟨h2, h3, h4⟩⟩ := h
    · subst h3; simp
    · exact List.pairwise_cons.2 ⟨fun s hs => ⟨h2, chn_low l _ e h4 s hs⟩, chn_apart l _ e h4⟩
theorem chn_has : ∀ (l : List Rg) (a k : K), Chn a l none → a ≤ k → ∃ r ∈ l, has r.1 k = true
  | [], a, k, h, _ => by cases h
  | r :: l, a, k, h, hk => by
    obtain ⟨h1, h2⟩ := h
    by_cases h3 : has r.1 k = true
    · exact ⟨r, by simp, h3⟩
    · rcases h2 with ⟨h4, _⟩ | ⟨h4, h5, h6⟩
      · exact absurd (has_iff.2 ⟨by rw [h1]; exact hk, .inl h4⟩) h3
      · have h7 : r.1.2 ≤ k := by
          have : ¬ (r.1.1 ≤ k ∧ (r.1.2 = [] ∨ k < r.1.2)) := fun h => h3 (has_iff.2 h)
          grind
        obtain ⟨s, hs, hk2⟩ := chn_has l _ k h6 h7
        exact ⟨s, List.mem_cons_of_mem _ hs, hk2⟩
/-- One range alone has a key. -/
theorem Chart.one {l : List Rg} (h : Chart l) {i j : Nat} {r s : Rg} (hi : l[i]? = some r) (hj : l[j]? = some s) {k : K} (hr : has r.1 k = true) (hs : has s.1 k = true) : i = j := by
  have hp := chn_apart l _ _ h.chn
  rw [List.pairwise_iff_getElem] at hp
  obtain ⟨hi1, rfl⟩ := List.getElem?_eq_some_iff.1 hi
  obtain ⟨hj1, rfl⟩ := List.getElem?_eq_some_iff.1 hj
  rw [has_iff] at hr hs
  rcases Nat.lt_trichotomy i j with h1 | h1 | h1
  · have := hp i j hi1 hj1 h1
    grind
  · exact h1
  · have := hp j i hj1 hi1 h1
    grind

/-- Which range has a key. -/
def place (l : List Rg) (k : K) : Option Nat := l.findIdx? fun r => has r.1 k
theorem Chart.place {l : List Rg} (h : Chart l) (k : K) : ∃ i r, place l k = some i ∧ l[i]? = some r ∧ has r.1 k = true := by
  obtain ⟨r, hr, hk⟩ := chn_has l [] k h.chn (nil_le k)
  cases hp : ChartMath.place l k with
  | none =>
    unfold ChartMath.place at hp
    rw [List.findIdx?_eq_none_iff] at hp
    have := hp r hr
    rw [hk] at this
    cases this
  | some i =>
    unfold ChartMath.place at hp
    rw [List.findIdx?_eq_some_iff_getElem] at hp
    obtain ⟨h1, h2, _⟩ := hp
    exact ⟨i, l[i], rfl, List.getElem?_eq_getElem h1, h2⟩

/-- The greatest epoch. -/
def ver (l : List Rg) : Int := l.foldl (fun n r => max n r.2.2) 0
theorem ver_from : ∀ (l : List Rg) (n : Int), n ≤ l.foldl (fun n r => max n r.2.2) n ∧ (∀ r ∈ l, r.2.2 ≤ l.foldl (fun n r => max n r.2.2) n) ∧ (l.foldl (fun n r => max n r.2.2) n = n ∨ ∃ r ∈ l, l.foldl (fun n r => max n r.2.2) n = r.2.2)
  | [], n => ⟨Int.le_refl _, (fun r hr => by cases hr), .inl rfl⟩
  | r :: l, n => by
    obtain ⟨h1, h2, h3⟩ := ver_from l (max n r.2.2)
    rw [List.foldl_cons]
    refine ⟨by omega, fun s hs => ?_, ?_⟩
    · rcases List.mem_cons.1 hs with rfl | hs
      · omega
      · exact h2 s hs
    · rcases h3 with h3 | ⟨s, hs, h3⟩
      · by_cases h4 : n ≤ r.2.2
        · exact .inr ⟨r, by simp, by rw [h3]; omega⟩
        · exact .inl (by rw [h3]; omega)
      · exact .inr ⟨s, List.mem_cons_of_mem _ hs, h3⟩
theorem ver_nonneg (l : List Rg) : 0 ≤ ver l := (ver_from l 0).1
theorem ver_ge {l : List Rg} {r : Rg} (h : r ∈ l) : r.2.2 ≤ ver l := (ver_from l 0).2.1 r h
theorem ver_eq {l : List Rg} {m : Int} (h0 : 0 < m) (h1 : ∀ r ∈ l, r.2.2 ≤ m) (h2 : ∃ r ∈ l, r.2.2 = m) : ver l = m := by
  obtain ⟨r, hr, e⟩ := h2
  have h3 := ver_ge hr
  rcases (ver_from l 0).2.2 with h4 | ⟨s, hs, h4⟩
  · have h4' : ver l = 0 := h4
    omega
  · have h4' : ver l = s.2.2 := h4
    have := h1 s hs
    omega
theorem Chart.ver_le {l : List Rg} (h : Chart l) : ver l ≤ 4611686018427387904 := by
  rcases (ver_from l 0).2.2 with h4 | ⟨s, hs, h4⟩
  · have h4' : ver l = 0 := h4
    omega
  · have h4' : ver l = s.2.2 := h4
    have := h.ok s hs
    simp only [rOk, eOk, Bool.and_eq_true, decide_eq_true_eq] at this
    omega
def verC (l : List Rg) : Int := if mayC l then ver l else 0

/-- Others in place of ranges. -/
def spliced (l : List Rg) (i j : Nat) (ws : List (Sp × Int)) (e : Int) : List Rg := l.take i ++ ws.map (fun x => (x.1, x.2, e)) ++ l.drop j
def putM (l : List Rg) (i j : Nat) (ws : List (Sp × Int)) : List Rg × Int :=
  if 64 < l.length - (j - i) + ws.length ∨ 4611686018427387904 < ver l + 1 then ([], 2) else (spliced l i j ws (ver l + 1), 0)
/-- Where a key's range is, if there is such. -/
def findM (l : List Rg) (k : K) : Option Nat := if mayC l && decide (k.length ≤ 64) then place l k else none
def splitM (l : List Rg) (k : K) : List Rg × Int :=
  match findM l k with
  | none => ([], 1)
  | some i => match l[i]? with
    | none => ([], 1)
    | some r => if r.1.1 = k then ([], 6) else putM l i (i + 1) [((r.1.1, k), r.2.1), ((k, r.1.2), r.2.1)]
def mergeM (l : List Rg) (k : K) : List Rg × Int :=
  match findM l k with
  | none => ([], 1)
  | some i => match l[i - 1]?, l[i]? with
    | some q, some r => if i = 0 ∨ r.1.1 ≠ k then ([], 4) else if q.2.1 ≠ r.2.1 then ([], 10) else putM l (i - 1) (i + 1) [((q.1.1, r.1.2), q.2.1)]
    | _, _ => ([], 1)
def moveM (l : List Rg) (k : K) (g : Int) : List Rg × Int :=
  match findM l k with
  | none => ([], 1)
  | some i => match l[i]? with
    | none => ([], 1)
    | some r => if gOk g = false then ([], 1) else if r.2.1 = g then ([], 6) else putM l i (i + 1) [(r.1, g)]

theorem findM_some {l : List Rg} {k : K} {i : Nat} (h : findM l k = some i) : Chart l ∧ k.length ≤ 64 ∧ ∃ r, l[i]? = some r ∧ has r.1 k = true := by
  unfold findM at h
  split at h
  · rename_i hc
    simp only [Bool.and_eq_true, decide_eq_true_eq] at hc
    have hC := mayC_iff.1 hc.1
    obtain ⟨i', r, h1, h2, h3⟩ := hC.place k
    rw [h] at h1
    cases h1
    exact ⟨hC, hc.2, r, h2, h3⟩
  · cases h
theorem findM_none {l : List Rg} {k : K} (h : findM l k = none) : (mayC l && decide (k.length ≤ 64)) = false := by
  cases hc : (mayC l && decide (k.length ≤ 64)) with
  | false => rfl
  | true =>
    unfold findM at h
    rw [hc] at h
    simp only [Bool.and_eq_true] at hc
    obtain ⟨i', r, h1, h2, h3⟩ := (mayC_iff.1 hc.1).place k
    rw [if_pos rfl, h1] at h
    cases h

/-- What a turn leaves: the middle ranges are others, of the same keys. -/
theorem put_ok {l a mid b : List Rg} (h : Chart l) (hl : l = a ++ mid ++ b) (hm : 0 < mid.length) {ws : List (Sp × Int)} (hw : 0 < ws.length)
    (hchn : ∀ m n, Thn m mid n → Thn m (ws.map (fun x => (x.1, x.2, ver l + 1))) n) (hmay : ∀ x ∈ ws, may x.1 = true ∧ gOk x.2 = true)
    {k : List Rg} (hk : putM l a.length (a.length + mid.length) ws = (k, 0)) :
    Chart k ∧ ver k = ver l + 1 ∧ k = a ++ ws.map (fun x => (x.1, x.2, ver l + 1)) ++ b := by
  unfold putM at hk
  split at hk
  · simp at hk
  · rename_i hc
    have hc1 : l.length - (a.length + mid.length - a.length) + ws.length ≤ 64 := by omega
    have hc2 : ver l + 1 ≤ 4611686018427387904 := by omega
    simp only [Prod.mk.injEq, and_true] at hk
    have e : k = a ++ ws.map (fun x => (x.1, x.2, ver l + 1)) ++ b := by
      rw [← hk]
      unfold spliced
      congr 1
      · rw [hl]; simp
      · rw [hl, List.drop_append, List.drop_of_length_le (by simp)]; simp
    have h0 := ver_nonneg l
    have hll : l.length = a.length + mid.length + b.length := by rw [hl, List.length_append, List.length_append]
    refine ⟨⟨?_, ?_, ?_⟩, ?_, e⟩
    · rw [e]; simp; omega
    · intro r hr
      rw [e] at hr
      simp only [List.mem_append, List.mem_map] at hr
      rcases hr with (hr | ⟨x, hx, rfl⟩) | hr
      · exact h.ok r (by rw [hl]; simp [hr])
      · obtain ⟨h1, h2⟩ := hmay x hx
        simp only [rOk, eOk, Bool.and_eq_true, decide_eq_true_eq]
        exact ⟨⟨h1, h2⟩, by omega, by omega⟩
      · exact h.ok r (by rw [hl]; simp [hr])
    · have h1 := h.chn
      rw [hl, List.append_assoc] at h1
      rw [e, List.append_assoc]
      obtain ⟨m, h2, h3⟩ := (chn_append _ _ _ _).1 h1
      obtain ⟨n, h4, h5⟩ := (thn_append _ _ _ _).1 h3
      exact (chn_append _ _ _ _).2 ⟨m, h2, (thn_append _ _ _ _).2 ⟨n, hchn m n h4, h5⟩⟩
    · refine ver_eq (by omega) ?_ ?_
      · intro r hr
        rw [e] at hr
        simp only [List.mem_append, List.mem_map] at hr
        rcases hr with (hr | ⟨x, hx, rfl⟩) | hr
        · have : r ∈ l := by rw [hl]; simp [hr]
          have := ver_ge this
          omega
        · exact Int.le_refl _
        · have : r ∈ l := by rw [hl]; simp [hr]
          have := ver_ge this
          omega
      · refine ⟨(ws[0].1, ws[0].2, ver l + 1), ?_, rfl⟩
        rw [e]
        simp only [List.mem_append, List.mem_map]
        exact .inl (.inr ⟨ws[0], List.getElem_mem _, rfl⟩)

theorem around {l : List Rg} {i : Nat} {r : Rg} (h : l[i]? = some r) : l = l.take i ++ [r] ++ l.drop (i + 1) ∧ (l.take i).length = i := by
  obtain ⟨h1, rfl⟩ := List.getElem?_eq_some_iff.1 h
  refine ⟨?_, by simp; omega⟩
  have := List.take_append_drop i l
  rw [List.drop_eq_getElem_cons h1] at this
  rw [List.append_assoc]
  exact this.symm
theorem around2 {l : List Rg} {i : Nat} {q r : Rg} (h0 : 0 < i) (hq : l[i - 1]? = some q) (h : l[i]? = some r) : l = l.take (i - 1) ++ [q, r] ++ l.drop (i + 1) ∧ (l.take (i - 1)).length = i - 1 := by
  obtain ⟨i, rfl⟩ : ∃ j, i = j + 1 := ⟨i - 1, by omega⟩
  simp only [Nat.add_sub_cancel] at hq ⊢
  obtain ⟨h1, h2⟩ := around hq
  obtain ⟨h3, rfl⟩ := List.getElem?_eq_some_iff.1 h
  refine ⟨?_, h2⟩
  rw [List.drop_eq_getElem_cons h3] at h1
  simpa using h1

theorem Chart.uniq {l : List Rg} (h : Chart l) {r s : Rg} (hr : r ∈ l) (hs : s ∈ l) {k : K} (h1 : has r.1 k = true) (h2 : has s.1 k = true) : r = s := by
  obtain ⟨i, hi, rfl⟩ := List.mem_iff_getElem.1 hr
  obtain ⟨j, hj, rfl⟩ := List.mem_iff_getElem.1 hs
  have := h.one (List.getElem?_eq_getElem hi) (List.getElem?_eq_getElem hj) h1 h2
  subst this
  rfl

theorem part_low {a b t key : K} (h1 : a < t) (h2 : b = [] ∨ t < b) (h : a ≤ key ∧ (t = [] ∨ key < t)) : a ≤ key ∧ (b = [] ∨ key < b) := by
  have := nil_le a
  grind
theorem part_high {a b t key : K} (h1 : a < t) (h : t ≤ key ∧ (b = [] ∨ key < b)) : a ≤ key ∧ (b = [] ∨ key < b) := by grind
theorem part_two {a b c key : K} (h : a ≤ key ∧ (c = [] ∨ key < c)) : (a ≤ key ∧ (b = [] ∨ key < b)) ∨ (b ≤ key ∧ (c = [] ∨ key < c)) := by grind
theorem split_ok {l k : List Rg} {t : K} (hk : splitM l t = (k, 0)) : Chart k ∧ ver k = ver l + 1 ∧ ∀ key r s, r ∈ l → has r.1 key = true → s ∈ k → has s.1 key = true → s.2.1 = r.2.1 := by
  unfold splitM at hk
  cases hf : findM l t with
  | none => rw [hf] at hk; simp at hk
  | some i =>
    obtain ⟨hC, htl, r, hr, hh⟩ := findM_some hf
    rw [hf] at hk
    simp only [hr] at hk
    split at hk
    · simp at hk
    · rename_i hne
      obtain ⟨ha, hal⟩ := around hr
      have hrm : r ∈ l := List.mem_of_getElem? hr
      obtain ⟨ho, hs⟩ := rOk_ok (hC.ok r hrm)
      have hrok := hC.ok r hrm
      simp only [rOk, Bool.and_eq_true] at hrok
      rw [has_iff] at hh
      have hlt : r.1.1 < t := by grind
      have hput := put_ok (k := k) hC ha (by simp) (ws := [((r.1.1, t), r.2.1), ((t, r.1.2), r.2.1)]) (by simp) (fun m n hm => by
          cases m with
          | none => obtain ⟨h1, _⟩ := hm; cases h1
          | some b =>
            have hb := nil_le b
            have ht := nil_le t
            simp only [Thn, List.map_cons, List.map_nil, Chn] at hm ⊢
            grind) (fun x hx => by
          simp only [List.mem_cons, List.not_mem_nil, or_false] at hx
          rcases hx with rfl | rfl
          · exact ⟨may_iff.2 ⟨⟨hs.1, htl⟩, .inr hlt⟩, hrok.1.2⟩
          · exact ⟨may_iff.2 ⟨⟨htl, hs.2⟩, hh.2⟩, hrok.1.2⟩) (by rw [hal]; exact hk)
      obtain ⟨h1, h2, h3⟩ := hput
      refine ⟨h1, h2, fun key x s hx hxk hs' hsk => ?_⟩
      have hmid : has r.1 key = true → s.2.1 = r.2.1 → s.2.1 = x.2.1 := fun h4 h5 => by rw [hC.uniq hx hrm hxk h4]; exact h5
      rw [h3] at hs'
      simp only [List.map_cons, List.map_nil, List.mem_append, List.mem_cons, List.not_mem_nil, or_false] at hs'
      rcases hs' with (hs' | rfl | rfl) | hs'
      · rw [hC.uniq hx (List.mem_of_mem_take hs') hxk hsk]
      · refine hmid ?_ rfl
        rw [has_iff] at hsk ⊢
        exact part_low hlt hh.2 hsk
      · refine hmid ?_ rfl
        rw [has_iff] at hsk ⊢
        exact part_high hlt hsk
      · rw [hC.uniq hx (List.mem_of_mem_drop hs') hxk hsk]

theorem merge_ok' {l k : List Rg} {t : K} (hk : mergeM l t = (k, 0)) : Chart k ∧ ver k = ver l + 1 ∧ ∀ key r s, r ∈ l → has r.1 key = true → s ∈ k → has s.1 key = true → s.2.1 = r.2.1 := by
  unfold mergeM at hk
  cases hf : findM l t with
  | none => rw [hf] at hk; simp at hk
  | some i =>
    obtain ⟨hC, htl, r, hr, hh⟩ := findM_some hf
    rw [hf] at hk
    cases hq : l[i - 1]? with
    | none => simp [hq, hr] at hk
    | some q =>
      simp only [hq, hr] at hk
      split at hk
      · simp at hk
      · rename_i hne
        split at hk
        · simp at hk
        · rename_i hg
          have h0 : 0 < i := by omega
          have hg' : q.2.1 = r.2.1 := by simpa using hg
          obtain ⟨ha, hal⟩ := around2 h0 hq hr
          have hrm : r ∈ l := List.mem_of_getElem? hr
          have hqm : q ∈ l := List.mem_of_getElem? hq
          obtain ⟨ho, hs⟩ := rOk_ok (hC.ok r hrm)
          obtain ⟨hoq, hsq⟩ := rOk_ok (hC.ok q hqm)
          have hrok := hC.ok q hqm
          simp only [rOk, Bool.and_eq_true] at hrok
          have hlink : q.1.2 = r.1.1 ∧ q.1.2 ≠ [] := by
            have h1 := hC.chn
            rw [ha, List.append_assoc] at h1
            obtain ⟨m, _, h3⟩ := (chn_append _ _ _ _).1 h1
            obtain ⟨n, h4, _⟩ := (thn_append _ _ _ _).1 h3
            cases m with
            | none => obtain ⟨h5, _⟩ := h4; cases h5
            | some b =>
              simp only [Thn, Chn] at h4
              grind
          unfold Ok at ho hoq
          have h00 := nil_le q.1.1
          have hput := put_ok (k := k) hC ha (by simp) (ws := [((q.1.1, r.1.2), q.2.1)]) (by simp) (fun m n hm => by
              cases m with
              | none => obtain ⟨h1, _⟩ := hm; cases h1
              | some b =>
                simp only [Thn, List.map_cons, List.map_nil, Chn] at hm ⊢
                grind) (fun x hx => by
              simp only [List.mem_cons, List.not_mem_nil, or_false] at hx
              subst hx
              exact ⟨may_iff.2 ⟨⟨hsq.1, hs.2⟩, by unfold Ok; grind⟩, hrok.1.2⟩) (by
              rw [hal, show ([q, r] : List Rg).length = 2 from rfl, show i - 1 + 2 = i + 1 by omega]
              exact hk)
          obtain ⟨h1, h2, h3⟩ := hput
          refine ⟨h1, h2, fun key x s hx hxk hs' hsk => ?_⟩
          rw [h3] at hs'
          simp only [List.map_cons, List.map_nil, List.mem_append, List.mem_cons, List.not_mem_nil, or_false] at hs'
          rcases hs' with (hs' | rfl) | hs'
          · rw [hC.uniq hx (List.mem_of_mem_take hs') hxk hsk]
          · have : has q.1 key = true ∨ has r.1 key = true := by
              rw [has_iff] at hsk
              rw [has_iff, has_iff, hlink.1]
              exact part_two hsk
            rcases this with h5 | h5
            · rw [hC.uniq hx hqm hxk h5]
            · rw [hC.uniq hx hrm hxk h5]
              exact hg'
          · rw [hC.uniq hx (List.mem_of_mem_drop hs') hxk hsk]

/-- A group's spans, by the document: what touches is one. -/
def ownStep (g : Int) (o : List Sp) (r : Rg) : List Sp :=
  if r.2.1 = g then (match o.getLast? with
    | some x => if x.2 = r.1.1 then o.dropLast ++ [(x.1, r.1.2)] else o ++ [r.1]
    | none => o ++ [r.1]) else o
def ownFrom (g : Int) (o : List Sp) (l : List Rg) : List Sp := l.foldl (ownStep g) o
theorem own_step {o : List Sp} {r : Rg} {g : Int} (hf : Fm o) (hs : ∀ x ∈ o, Sm x) (ho : ∀ x ∈ o, x.2 ≠ [] ∧ x.2 ≤ r.1.1) (hr : rOk r = true) :
    Fm (ownStep g o r) ∧ (∀ x ∈ ownStep g o r, Sm x) ∧ (∀ x ∈ ownStep g o r, (x.2 ≠ [] ∧ x.2 ≤ r.1.1) ∨ x.2 = r.1.2) ∧ (ownStep g o r).length ≤ o.length + 1 ∧ (∀ k, isIn (ownStep g o r) k = (isIn o k || (decide (r.2.1 = g) && has r.1 k))) ∧
    (r.2.1 = g → ownStep g o r = addM o r.1) := by
  obtain ⟨hok, hsm⟩ := rOk_ok hr
  unfold ownStep
  by_cases hg : r.2.1 = g
  · rw [if_pos hg]
    have key : ∀ O : List Sp, Fm O → (∀ k, isIn O k = (isIn o k || has r.1 k)) → O = addM o r.1 := fun O h1 h2 => form_ext h1 (add_form hf hok) fun k => by rw [h2, add_has hf hok]
    have hnew : (∀ x, o.getLast? = some x → x.2 ≠ r.1.1) → Fm (o ++ [r.1]) := fun hne => by
      refine ⟨List.pairwise_append.2 ⟨hf.1, by simp, fun x hx y hy => ?_⟩, fun x hx => ?_⟩
      · simp only [List.mem_singleton] at hy
        subst hy
        rw [apt_iff]
        refine ⟨(ho x hx).1, ?_⟩
        obtain ⟨d, z, e⟩ : ∃ d z, o = d ++ [z] := by
          refine ⟨o.dropLast, o.getLast (List.ne_nil_of_mem hx), ?_⟩
          exact (List.dropLast_concat_getLast _).symm
        have hz := hne z (by rw [e]; simp)
        have hzl := (ho z (by rw [e]; simp)).2
        rw [e] at hx
        simp only [List.mem_append, List.mem_singleton] at hx
        rcases hx with hx | rfl
        · have h1 := hf.1
          rw [e, List.pairwise_append] at h1
          have h2 := h1.2.2 x hx z (by simp)
          rw [apt_iff] at h2
          have h3 := hf.2 z (by rw [e]; simp)
          have h4 := (ho z (by rw [e]; simp)).1
          unfold Ok at h3
          grind
        · grind
      · simp only [List.mem_append, List.mem_singleton] at hx
        rcases hx with hx | rfl
        · exact hf.2 x hx
        · exact hok
    have fin : (∀ x, o.getLast? = some x → x.2 ≠ r.1.1) → Fm (o ++ [r.1]) ∧ (∀ x ∈ o ++ [r.1], Sm x) ∧ (∀ x ∈ o ++ [r.1], (x.2 ≠ [] ∧ x.2 ≤ r.1.1) ∨ x.2 = r.1.2) ∧ (o ++ [r.1]).length ≤ o.length + 1 ∧ (∀ k, isIn (o ++ [r.1]) k = (isIn o k || (decide (r.2.1 = g) && has r.1 k))) ∧ (r.2.1 = g → o ++ [r.1] = addM o r.1) := fun hne => by
      have hk : ∀ k, isIn (o ++ [r.1]) k = (isIn o k || has r.1 k) := fun k => by rw [isIn_append, isIn_cons, isIn_nil, Bool.or_false]
      refine ⟨hnew hne, fun x hx => ?_, fun x hx => ?_, by simp, fun k => by rw [hk]; simp [hg], fun _ => key _ (hnew hne) hk⟩
      · simp only [List.mem_append, List.mem_singleton] at hx
        rcases hx with hx | rfl
        · exact hs x hx
        · exact hsm
      · simp only [List.mem_append, List.mem_singleton] at hx
        rcases hx with hx | rfl
        · exact .inl (ho x hx)
        · exact .inr rfl
    cases hl : o.getLast? with
    | none =>
      exact fin (fun x hx => by rw [hl] at hx; cases hx)
    | some x =>
      simp only
      by_cases hx : x.2 = r.1.1
      · rw [if_pos hx]
        obtain ⟨d, e⟩ : ∃ d, o = d ++ [x] := by
          have hne : o ≠ [] := by intro h; rw [h] at hl; cases hl
          refine ⟨o.dropLast, ?_⟩
          rw [List.getLast?_eq_some_getLast hne] at hl
          cases hl
          exact (List.dropLast_concat_getLast _).symm
        subst e
        rw [List.dropLast_concat]
        have hxo := hf.2 x (by simp)
        have hx0 := (ho x (by simp)).1
        have h0 := nil_le x.1
        have hF : Fm (d ++ [(x.1, r.1.2)]) := by
          refine ⟨?_, fun y hy => ?_⟩
          · have h1 := List.pairwise_append.1 hf.1
            refine List.pairwise_append.2 ⟨h1.1, by simp, fun y hy z hz => ?_⟩
            simp only [List.mem_singleton] at hz
            subst hz
            have := h1.2.2 y hy x (by simp)
            rw [apt_iff] at this ⊢
            exact this
          · simp only [List.mem_append, List.mem_singleton] at hy
            rcases hy with hy | rfl
            · exact hf.2 y (by simp [hy])
            · unfold Ok at hxo hok ⊢
              grind
        have hk : ∀ k, isIn (d ++ [(x.1, r.1.2)]) k = (isIn (d ++ [x]) k || has r.1 k) := fun k => by
          rw [isIn_append, isIn_append, isIn_cons, isIn_nil, Bool.or_false, isIn_cons, isIn_nil, Bool.or_false, Bool.or_assoc]
          congr 1
          rw [Bool.eq_iff_iff, Bool.or_eq_true, has_iff, has_iff, has_iff]
          unfold Ok at hxo hok
          grind
        refine ⟨hF, fun y hy => ?_, fun y hy => ?_, by simp, fun k => by rw [hk]; simp [hg], fun _ => key _ hF hk⟩
        · simp only [List.mem_append, List.mem_singleton] at hy
          rcases hy with hy | rfl
          · exact hs y (by simp [hy])
          · exact ⟨(hs x (by simp)).1, hsm.2⟩
        · simp only [List.mem_append, List.mem_singleton] at hy
          rcases hy with hy | rfl
          · exact .inl (ho y (by simp [hy]))
          · exact .inr rfl
      · rw [if_neg hx]
        exact fin (fun y hy => by rw [hl] at hy; cases hy; exact hx)
  · rw [if_neg hg]
    refine ⟨hf, hs, fun x hx => .inl (ho x hx), by omega, fun k => by simp [hg], fun h => absurd h hg⟩

/-- All of it, along a chain. -/
theorem own_all (g : Int) : ∀ (l : List Rg) (a : K) (e : Option K) (o : List Sp), Chn a l e → (∀ r ∈ l, rOk r = true) → Fm o → (∀ x ∈ o, Sm x) → (∀ x ∈ o, x.2 ≠ [] ∧ x.2 ≤ a) →
    Fm (ownFrom g o l) ∧ (∀ x ∈ ownFrom g o l, Sm x) ∧ (ownFrom g o l).length ≤ o.length + l.length ∧ (∀ k, isIn (ownFrom g o l) k = (isIn o k || l.any fun r => decide (r.2.1 = g) && has r.1 k)) ∧ (∀ b, e = some b → ∀ x ∈ ownFrom g o l, x.2 ≠ [] ∧ x.2 ≤ b)
  | [], a, e, o, h, _, hf, hs, ho => ⟨hf, hs, by simp [ownFrom], fun k => by simp [ownFrom], fun b hb => by
      have : e = some a := h
      rw [this] at hb
      cases hb
      exact ho⟩
  | r :: l, a, e, o, h, hok, hf, hs, ho => by
    obtain ⟨h1, h2⟩ := h
    obtain ⟨s1, s2, s3, s4, s5, _⟩ := own_step (g := g) hf hs (by rw [h1]; exact ho) (hok r (by simp))
    rcases h2 with ⟨h3, h4, h5⟩ | ⟨h3, h4, h5⟩
    · subst h4 h5
      refine ⟨s1, s2, ?_, fun k => ?_, fun b hb => by cases hb⟩
      · simpa [ownFrom] using s4
      · have := s5 k
        simpa [ownFrom] using this
    · have hr := own_all g l r.1.2 e (ownStep g o r) h5 (fun x hx => hok x (List.mem_cons_of_mem _ hx)) s1 s2 (fun x hx => by
        rcases s3 x hx with h | h
        · refine ⟨h.1, ?_⟩
          have := h.2
          rw [h1] at this
          grind
        · rw [h]; exact ⟨h3, by grind⟩)
      obtain ⟨t1, t2, t3, t4, t5⟩ := hr
      refine ⟨t1, t2, ?_, fun k => ?_, t5⟩
      · have : ownFrom g o (r :: l) = ownFrom g (ownStep g o r) l := rfl
        rw [this, List.length_cons]
        omega
      · have : ownFrom g o (r :: l) = ownFrom g (ownStep g o r) l := rfl
        rw [this, t4, s5, List.any_cons, Bool.or_assoc]
/-- What stands behind some ranges of a chart: in form, few, and one span more is added so. -/
theorem Chart.own {l : List Rg} (h : Chart l) (g : Int) (i : Nat) : formB (ownFrom g [] (l.take i)) = true ∧ ∀ r, l[i]? = some r → r.2.1 = g → ownStep g (ownFrom g [] (l.take i)) r = addM (ownFrom g [] (l.take i)) r.1 := by
  have h1 := h.chn
  have hf0 : Fm ([] : List Sp) := ⟨by simp, by simp⟩
  rw [← List.take_append_drop i l] at h1
  obtain ⟨m, h2, h3⟩ := (chn_append _ _ _ _).1 h1
  obtain ⟨t1, t2, t3, t4, t5⟩ := own_all g (l.take i) [] m [] h2 (fun r hr => h.ok r (List.mem_of_mem_take hr)) hf0 (by simp) (by simp)
  have hl := h.len
  refine ⟨formB_iff.2 ⟨?_, t2, t1⟩, fun r hr hg => ?_⟩
  · simp only [List.length_nil, Nat.zero_add, List.length_take] at t3
    omega
  · obtain ⟨hi, e⟩ := List.getElem?_eq_some_iff.1 hr
    rw [List.drop_eq_getElem_cons hi, e] at h3
    cases m with
    | none => obtain ⟨h4, _⟩ := h3; cases h4
    | some b =>
      have h4 : r.1.1 = b := h3.1
      exact (own_step (g := g) t1 t2 (by rw [h4]; exact t5 b rfl) (h.ok r (List.mem_of_getElem? hr))).2.2.2.2.2 hg
end ChartMath

