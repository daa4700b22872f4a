import Derived.WalkKit
/- Plain mathematics of files by rising names (stage 5): lists that rise are known by what they hold; one more, one less, a crash. Names are of any type with an order. -/
namespace DiskMath

/-- A file: its name, its bytes, how many of them are safe. -/
structure Fl (α : Type) where
  name : α
  data : List Nat
  safe : Nat

/-- An order of names: which is below which. -/
structure Ord (α : Type) where
  lt : α → α → Prop
  dec : ∀ a b, Decidable (lt a b)
  irr : ∀ a, ¬ lt a a
  tr : ∀ a b c, lt a b → lt b c → lt a c
  tot : ∀ a b, lt a b ∨ a = b ∨ lt b a

variable {α : Type}

/-- Names rise. -/
def Rises (O : Ord α) : List (Fl α) → Prop
  | [] => True
  | f :: l => (∀ g ∈ l, O.lt f.name g.name) ∧ Rises O l

theorem Rises.tail {O : Ord α} {f : Fl α} {l : List (Fl α)} (h : Rises O (f :: l)) : Rises O l := h.2
/-- How many bytes a crash leaves: the safe ones, and as many more as the cut says. -/
def left (f : Fl α) (cut : Option Int) : Nat :=
  match cut with
  | none => f.safe
  | some c => f.safe + min c.toNat (f.data.length - f.safe)
def crashOne (f : Fl α) (cut : Option Int) : Fl α := ⟨f.name, f.data.take (left f cut), left f cut⟩
/-- A crash. -/
def crash : List (Fl α) → List Int → List (Fl α)
  | [], _ => []
  | f :: l, cuts => crashOne f cuts.head? :: crash l cuts.tail

theorem left_bounds (f : Fl α) (cut : Option Int) (h : f.safe ≤ f.data.length) : f.safe ≤ left f cut ∧ left f cut ≤ f.data.length := by
  unfold left
  split
  · exact ⟨Nat.le_refl _, h⟩
  · omega
theorem crash_length : ∀ (l : List (Fl α)) (cuts : List Int), (crash l cuts).length = l.length
  | [], _ => rfl
  | f :: l, cuts => by simp [crash, crash_length l cuts.tail]
theorem crash_get? : ∀ (l : List (Fl α)) (cuts : List Int) (i : Nat), (crash l cuts)[i]? = l[i]?.map fun f => crashOne f cuts[i]?
  | [], _, i => by simp [crash]
  | f :: l, cuts, 0 => by cases cuts <;> simp [crash]
  | f :: l, cuts, i + 1 => by
    have := crash_get? l cuts.tail i
    simp only [crash, List.getElem?_cons_succ]
    rw [this]
    cases cuts <;> simp
theorem crash_names : ∀ (l : List (Fl α)) (cuts : List Int), (crash l cuts).map (·.name) = l.map (·.name)
  | [], _ => rfl
  | f :: l, cuts => by simp [crash, crashOne, crash_names l cuts.tail]
theorem rises_names {O : Ord α} : ∀ {l k : List (Fl α)}, l.map (·.name) = k.map (·.name) → Rises O l → Rises O k
  | [], [], _, _ => trivial
  | [], _ :: _, h, _ => by simp at h
  | _ :: _, [], h, _ => by simp at h
  | f :: l, g :: k, h, hr => by
    simp only [List.map_cons, List.cons.injEq] at h
    refine ⟨fun x hx => ?_, rises_names h.2 hr.2⟩
    have : x.name ∈ l.map (·.name) := by rw [h.2]; exact List.mem_map_of_mem hx
    obtain ⟨y, hy, e⟩ := List.mem_map.1 this
    rw [← h.1, ← e]
    exact hr.1 y hy
theorem crash_rises {O : Ord α} {l : List (Fl α)} (cuts : List Int) (h : Rises O l) : Rises O (crash l cuts) := rises_names (crash_names l cuts).symm h

/-- What may be: no name twice, sizes, and the safe bytes are there. -/
def Sound (O : Ord α) (may : α → Prop) (l : List (Fl α)) : Prop := Rises O l ∧ l.length ≤ 64 ∧ ∀ f ∈ l, may f.name ∧ f.data.length ≤ 65536 ∧ f.safe ≤ f.data.length

variable [DecidableEq α]

/-- The file of a name, in a list. -/
def get (l : List (Fl α)) (n : α) : Option (Fl α) := l.find? fun f => decide (f.name = n)
theorem get_nil (n : α) : get ([] : List (Fl α)) n = none := rfl
theorem get_cons (f : Fl α) (l : List (Fl α)) (n : α) : get (f :: l) n = if f.name = n then some f else get l n := by
  unfold get
  rw [List.find?_cons]
  by_cases h : f.name = n <;> simp [h]
theorem get_name {l : List (Fl α)} {n : α} {f : Fl α} (h : get l n = some f) : f.name = n := by
  unfold get at h
  have := List.find?_some h
  simpa using this
theorem get_mem {l : List (Fl α)} {n : α} {f : Fl α} (h : get l n = some f) : f ∈ l := List.mem_of_find?_eq_some h
theorem get_none {l : List (Fl α)} {n : α} : get l n = none ↔ ∀ f ∈ l, f.name ≠ n := by
  unfold get
  rw [List.find?_eq_none]
  simp

theorem Rises.get_of_mem {O : Ord α} : ∀ {l : List (Fl α)} {f : Fl α}, Rises O l → f ∈ l → get l f.name = some f
  | [], f, _, h => by cases h
  | g :: l, f, hr, h => by
    rw [get_cons]
    rcases List.mem_cons.1 h with rfl | h
    · simp
    · have hlt := hr.1 f h
      rw [if_neg (fun e => O.irr f.name (by rw [e] at hlt; exact hlt))]
      exact Rises.get_of_mem hr.2 h

/-- Lists that rise and hold the same are the same. -/
theorem rises_ext {O : Ord α} : ∀ {l k : List (Fl α)}, Rises O l → Rises O k → (∀ n, get l n = get k n) → l = k
  | [], [], _, _, _ => rfl
  | [], g :: k, _, _, h => by
    have := h g.name
    rw [get_nil, get_cons, if_pos rfl] at this
    cases this
  | f :: l, [], _, _, h => by
    have := h f.name
    rw [get_nil, get_cons, if_pos rfl] at this
    cases this
  | f :: l, g :: k, hl, hk, h => by
    have hfg : f.name = g.name := by
      rcases O.tot f.name g.name with hlt | he | hlt
      · have := h f.name
        rw [get_cons, if_pos rfl, get_cons, if_neg (fun e => O.irr f.name (by rw [e] at hlt; exact hlt))] at this
        have hm := get_mem this.symm
        exact absurd (O.tr _ _ _ hlt (hk.1 f hm)) (O.irr _)
      · exact he
      · have := h g.name
        rw [get_cons, if_neg (fun e => O.irr g.name (by rw [e] at hlt; exact hlt)), get_cons, if_pos rfl] at this
        have hm := get_mem this
        exact absurd (O.tr _ _ _ hlt (hl.1 g hm)) (O.irr _)
    have he : f = g := by
      have := h f.name
      rw [get_cons, if_pos rfl, get_cons, if_pos hfg.symm] at this
      exact Option.some.inj this
    subst he
    congr 1
    refine rises_ext hl.2 hk.2 fun n => ?_
    have := h n
    rw [get_cons, get_cons] at this
    by_cases hn : f.name = n
    · have e1 : get l n = none := get_none.2 fun x hx e => by
        have := hl.1 x hx
        rw [e, ← hn] at this
        exact O.irr _ this
      have e2 : get k n = none := get_none.2 fun x hx e => by
        have := hk.1 x hx
        rw [e, ← hn] at this
        exact O.irr _ this
      rw [e1, e2]
    · rwa [if_neg hn, if_neg hn] at this

/-- Files with one more, or another one, in its place: as the document's own put goes over them. -/
def putFrom (O : Ord α) (f : Fl α) : List (Fl α) → Bool → List (Fl α)
  | [], done => if done then [] else [f]
  | g :: l, done =>
    haveI := O.dec g.name f.name
    (if done = false ∧ ¬ O.lt g.name f.name then [f] else []) ++ ((if g.name = f.name then [] else [g]) ++ putFrom O f l (done || decide (¬ O.lt g.name f.name)))
def put (O : Ord α) (l : List (Fl α)) (f : Fl α) : List (Fl α) := putFrom O f l false

theorem putFrom_done (O : Ord α) (f : Fl α) : ∀ (l : List (Fl α)), putFrom O f l true = l.filter fun g => decide (g.name ≠ f.name)
  | [] => rfl
  | g :: l => by
    simp only [putFrom, Bool.true_or]
    rw [putFrom_done O f l]
    by_cases h : g.name = f.name <;> simp [h]

/-- Behind files that are all above a name nothing of that name stands. -/
theorem filter_above {O : Ord α} {f : Fl α} {l : List (Fl α)} (h : ∀ g ∈ l, O.lt f.name g.name) : (l.filter fun g => decide (g.name ≠ f.name)) = l := by
  rw [List.filter_eq_self]
  intro g hg
  have := h g hg
  simp only [ne_eq, decide_not, Bool.not_eq_eq_eq_not, Bool.not_true, decide_eq_false_iff_not]
  exact fun e => O.irr f.name (by rw [e] at this; exact this)

theorem put_mem {O : Ord α} {f : Fl α} : ∀ {l : List (Fl α)} {g : Fl α}, g ∈ put O l f → g = f ∨ (g ∈ l ∧ g.name ≠ f.name)
  | [], g, h => by
    simp [put, putFrom] at h
    exact .inl h
  | x :: l, g, h => by
    haveI := O.dec x.name f.name
    unfold put at h
    rw [putFrom] at h
    by_cases hlt : O.lt x.name f.name
    · have hne : x.name ≠ f.name := fun e => O.irr f.name (by rw [e] at hlt; exact hlt)
      simp only [hlt, not_true_eq_false, and_false, if_false, List.nil_append, decide_false, Bool.or_false] at h
      rw [if_neg hne] at h
      rcases List.mem_append.1 h with h | h
      · rw [List.mem_singleton.1 h]
        exact .inr ⟨List.mem_cons_self, hne⟩
      · rcases put_mem (l := l) h with h | h
        · exact .inl h
        · exact .inr ⟨List.mem_cons_of_mem _ h.1, h.2⟩
    · simp only [hlt, not_false_eq_true, and_self, if_true, decide_true, Bool.or_true] at h
      rw [putFrom_done] at h
      rcases List.mem_append.1 h with h | h
      · exact .inl (List.mem_singleton.1 h)
      · rcases List.mem_append.1 h with h | h
        · by_cases hne : x.name = f.name
          · rw [if_pos hne] at h
            cases h
          · rw [if_neg hne] at h
            rw [List.mem_singleton.1 h]
            exact .inr ⟨List.mem_cons_self, hne⟩
        · have := List.mem_filter.1 h
          exact .inr ⟨List.mem_cons_of_mem _ this.1, by simpa using this.2⟩

theorem put_rises {O : Ord α} {f : Fl α} : ∀ {l : List (Fl α)}, Rises O l → Rises O (put O l f)
  | [], _ => by simp [put, putFrom, Rises]
  | x :: l, hr => by
    haveI := O.dec x.name f.name
    unfold put
    rw [putFrom]
    by_cases hlt : O.lt x.name f.name
    · have hne : x.name ≠ f.name := fun e => O.irr f.name (by rw [e] at hlt; exact hlt)
      simp only [hlt, not_true_eq_false, and_false, if_false, List.nil_append, decide_false, Bool.or_false]
      rw [if_neg hne]
      refine ⟨fun g hg => ?_, put_rises hr.2⟩
      rcases put_mem (l := l) hg with rfl | h
      · exact hlt
      · exact hr.1 g h.1
    · simp only [hlt, not_false_eq_true, and_self, if_true, decide_true, Bool.or_true]
      rw [putFrom_done]
      have habove : ∀ g ∈ l, O.lt f.name g.name := fun g hg => by
        rcases O.tot x.name f.name with h | h | h
        · exact absurd h hlt
        · rw [← h]; exact hr.1 g hg
        · exact O.tr _ _ _ h (hr.1 g hg)
      rw [filter_above habove]
      by_cases hne : x.name = f.name
      · rw [if_pos hne]
        exact ⟨habove, hr.2⟩
      · rw [if_neg hne]
        have hfx : O.lt f.name x.name := by
          rcases O.tot x.name f.name with h | h | h
          · exact absurd h hlt
          · exact absurd h hne
          · exact h
        refine ⟨fun g hg => ?_, fun g hg => hr.1 g hg, hr.2⟩
        rcases List.mem_cons.1 hg with rfl | hg
        · exact hfx
        · exact habove g hg

theorem put_get {O : Ord α} {f : Fl α} (n : α) : ∀ {l : List (Fl α)}, Rises O l → get (put O l f) n = if f.name = n then some f else get l n
  | [], _ => by
    simp only [put, putFrom, Bool.false_eq_true, if_false]
    rw [get_cons]
  | x :: l, hr => by
    haveI := O.dec x.name f.name
    unfold put
    rw [putFrom]
    by_cases hlt : O.lt x.name f.name
    · have hne : x.name ≠ f.name := fun e => O.irr f.name (by rw [e] at hlt; exact hlt)
      simp only [hlt, not_true_eq_false, and_false, if_false, List.nil_append, decide_false, Bool.or_false]
      rw [if_neg hne]
      have ih := put_get n (f := f) hr.2
      unfold put at ih
      simp only [List.cons_append, List.nil_append]
      rw [get_cons, get_cons, ih]
      by_cases h1 : x.name = n
      · rw [if_pos h1, if_pos h1, if_neg (fun e => hne (h1.trans e.symm))]
      · rw [if_neg h1, if_neg h1]
    · simp only [hlt, not_false_eq_true, and_self, if_true, decide_true, Bool.or_true]
      rw [putFrom_done]
      have habove : ∀ g ∈ l, O.lt f.name g.name := fun g hg => by
        rcases O.tot x.name f.name with h | h | h
        · exact absurd h hlt
        · rw [← h]; exact hr.1 g hg
        · exact O.tr _ _ _ h (hr.1 g hg)
      rw [filter_above habove]
      simp only [List.cons_append, List.nil_append]
      rw [get_cons]
      by_cases h1 : f.name = n
      · rw [if_pos h1, if_pos h1]
      · rw [if_neg h1, if_neg h1, get_cons]
        by_cases hne : x.name = f.name
        · rw [if_pos hne, if_neg (fun e => h1 (hne.symm.trans e))]
          rfl
        · rw [if_neg hne]
          simp only [List.cons_append, List.nil_append]
          rw [get_cons]

/-- Files without one. -/
def out (l : List (Fl α)) (n : α) : List (Fl α) := l.filter fun f => decide (f.name ≠ n)
theorem out_rises {O : Ord α} {n : α} : ∀ {l : List (Fl α)}, Rises O l → Rises O (out l n)
  | [], _ => trivial
  | x :: l, hr => by
    unfold out
    rw [List.filter_cons]
    split
    · exact ⟨fun g hg => hr.1 g (List.mem_filter.1 hg).1, out_rises hr.2⟩
    · exact out_rises hr.2
theorem out_get (n m : α) : ∀ (l : List (Fl α)), get (out l n) m = if m = n then none else get l m
  | [] => by simp [out, get_nil]
  | x :: l => by
    have ih := out_get n m l
    unfold out at ih ⊢
    rw [List.filter_cons]
    by_cases hx : x.name = n
    · rw [if_neg (by simp [hx]), ih, get_cons]
      by_cases hm : m = n
      · rw [if_pos hm, if_pos hm]
      · rw [if_neg hm, if_neg hm, if_neg (fun e => hm (e.symm.trans hx))]
    · rw [if_pos (by simp [hx]), get_cons, get_cons, ih]
      by_cases hm : m = n
      · rw [if_pos hm, if_neg (fun e => hx (e.trans hm)), if_pos hm]
      · rw [if_neg hm, if_neg hm]
end DiskMath

/- Plain mathematics of what is done with files (stage 5): append, sync, cut, rename, remove, by rising names; what may be stays so; what each leaves, name by name. -/
namespace DiskMath

/-- The order of names: the first byte that parts decides. -/
def strOrd : Ord ByteArray where
  lt a b := a.toList < b.toList
  dec a b := inferInstance
  irr a := List.lt_irrefl a.toList
  tr _ _ _ h k := List.lt_trans h k
  tot a b := by
    by_cases h : a.toList < b.toList
    · exact .inl h
    · by_cases k : b.toList < a.toList
      · exact .inr (.inr k)
      · refine .inr (.inl ?_)
        have e := List.le_antisymm (List.not_lt.1 k) (List.not_lt.1 h)
        rw [Go.ByteArray.toList_eq, Go.ByteArray.toList_eq] at e
        exact ByteArray.ext (Array.toList_inj.1 e)

/-- May a byte stand in a name? -/
def mayByte (c : Nat) : Bool := decide (97 ≤ c ∧ c ≤ 122) || decide (48 ≤ c ∧ c ≤ 57) || decide (c = 46) || decide (c = 45)
/-- May a name be? -/
def mayName (s : ByteArray) : Bool := decide (1 ≤ s.size) && decide (s.size ≤ 32) && s.data.toList.all fun c => mayByte c.toNat

abbrev File := Fl ByteArray
abbrev Files := List File
def SoundF (l : Files) : Prop := Sound strOrd (fun s => mayName s = true) l
def putF (l : Files) (f : File) : Files := put strOrd l f

theorem put_length {α : Type} [DecidableEq α] {O : Ord α} {f : Fl α} : ∀ {l : List (Fl α)}, Rises O l → (put O l f).length = if get l f.name = none then l.length + 1 else l.length
  | [], _ => by simp [put, putFrom, get_nil]
  | x :: l, hr => by
    haveI := O.dec x.name f.name
    unfold put
    rw [putFrom, get_cons]
    by_cases hlt : O.lt x.name f.name
    · have hne : x.name ≠ f.name := fun e => O.irr f.name (by rw [e] at hlt; exact hlt)
      simp only [hlt, not_true_eq_false, and_false, if_false, List.nil_append, decide_false, Bool.or_false]
      rw [if_neg hne, if_neg hne]
      have ih := put_length (f := f) hr.2
      unfold put at ih
      simp only [List.cons_append, List.nil_append, List.length_cons]
      rw [ih]
      split <;> rfl
    · simp only [hlt, not_false_eq_true, and_self, if_true, decide_true, Bool.or_true]
      rw [putFrom_done]
      have habove : ∀ g ∈ l, O.lt f.name g.name := fun g hg => by
        rcases O.tot x.name f.name with h | h | h
        · exact absurd h hlt
        · rw [← h]; exact hr.1 g hg
        · exact O.tr _ _ _ h (hr.1 g hg)
      rw [filter_above habove]
      by_cases hne : x.name = f.name
      · rw [if_pos hne, if_pos hne]
        simp
      · rw [if_neg hne, if_neg hne]
        have hn : get l f.name = none := get_none.2 fun g hg e => by
          have := habove g hg
          rw [e] at this
          exact O.irr _ this
        rw [if_pos hn]
        simp

theorem sound_put {l : Files} (h : SoundF l) {f : File} (hm : mayName f.name = true) (hd : f.data.length ≤ 65536) (hs : f.safe ≤ f.data.length) (hl : get l f.name = none → l.length < 64) : SoundF (putF l f) := by
  refine ⟨put_rises h.1, ?_, ?_⟩
  · unfold putF
    rw [put_length h.1]
    split
    · have := hl ‹_›; omega
    · exact h.2.1
  · intro g hg
    rcases put_mem hg with rfl | hg
    · exact ⟨hm, hd, hs⟩
    · exact h.2.2 g hg.1
theorem out_length {α : Type} [DecidableEq α] (l : List (Fl α)) (n : α) : (out l n).length ≤ l.length := List.length_filter_le _ _
theorem sound_out {l : Files} (h : SoundF l) (n : ByteArray) : SoundF (out l n) :=
  ⟨out_rises h.1, Nat.le_trans (out_length l n) h.2.1, fun g hg => h.2.2 g (List.mem_filter.1 hg).1⟩
theorem sound_crash {l : Files} (h : SoundF l) (cuts : List Int) : SoundF (crash l cuts) := by
  refine ⟨crash_rises cuts h.1, by rw [crash_length]; exact h.2.1, fun g hg => ?_⟩
  obtain ⟨i, hi⟩ := List.mem_iff_getElem?.1 hg
  rw [crash_get?] at hi
  obtain ⟨f, hf, rfl⟩ := Option.map_eq_some_iff.1 hi
  obtain ⟨h1, h2, h3⟩ := h.2.2 f (List.mem_of_getElem? hf)
  have := left_bounds f cuts[i]? h3
  refine ⟨h1, ?_, ?_⟩
  · show (f.data.take _).length ≤ _
    rw [List.length_take]; omega
  · show left f _ ≤ (f.data.take _).length
    rw [List.length_take]; omega

/-- What is done, and the error that is told (0: none; 1 ErrArg, 2 ErrFull, 4 ErrNone). -/
def dAppend (l : Files) (n : ByteArray) (b : List Nat) : Files × Nat :=
  if mayName n = false then (l, 1) else
  match get l n with
  | none => if 64 ≤ l.length ∨ 65536 < b.length then (l, 2) else (putF l ⟨n, b, 0⟩, 0)
  | some f => if 65536 < f.data.length + b.length then (l, 2) else (putF l ⟨n, f.data ++ b, f.safe⟩, 0)
def dSync (l : Files) (n : ByteArray) : Files × Nat :=
  match get l n with
  | none => (l, 4)
  | some f => (putF l ⟨n, f.data, f.data.length⟩, 0)
def dCut (l : Files) (n : ByteArray) (k : Int) : Files × Nat :=
  match get l n with
  | none => (l, 4)
  | some f => if k < 0 ∨ (f.data.length : Int) < k then (l, 1) else (putF l ⟨n, f.data.take k.toNat, min f.safe k.toNat⟩, 0)
def dRename (l : Files) (a b : ByteArray) : Files × Nat :=
  match get l a with
  | none => (l, 4)
  | some f => if mayName b = false then (l, 1) else (putF (out l a) ⟨b, f.data, f.safe⟩, 0)
def dRemove (l : Files) (n : ByteArray) : Files × Nat :=
  match get l n with
  | none => (l, 4)
  | some _ => (out l n, 0)

theorem sound_get {l : Files} (h : SoundF l) {n : ByteArray} {f : File} (hf : get l n = some f) : mayName n = true ∧ f.data.length ≤ 65536 ∧ f.safe ≤ f.data.length := by
  have := h.2.2 f (get_mem hf)
  rwa [get_name hf] at this

theorem sound_append {l : Files} (h : SoundF l) (n : ByteArray) (b : List Nat) : SoundF (dAppend l n b).1 := by
  unfold dAppend
  split
  · exact h
  · rename_i hm
    have hm' : mayName n = true := by simpa using hm
    split
    · split
      · exact h
      · exact sound_put h hm' (by show b.length ≤ _; omega) (Nat.zero_le _) (fun _ => by omega)
    · rename_i f hf
      have hg := sound_get h hf
      split
      · exact h
      · refine sound_put h hm' (by show (f.data ++ b).length ≤ _; rw [List.length_append]; omega) (by show f.safe ≤ (f.data ++ b).length; rw [List.length_append]; omega) (fun hn => ?_)
        exact absurd (hf.symm.trans hn) (by simp)
theorem sound_sync {l : Files} (h : SoundF l) (n : ByteArray) : SoundF (dSync l n).1 := by
  unfold dSync
  split
  · exact h
  · rename_i f hf
    have hg := sound_get h hf
    exact sound_put h hg.1 hg.2.1 (Nat.le_refl _) (fun hn => absurd (hf.symm.trans hn) (by simp))
theorem sound_cut {l : Files} (h : SoundF l) (n : ByteArray) (k : Int) : SoundF (dCut l n k).1 := by
  unfold dCut
  split
  · exact h
  · rename_i f hf
    have hg := sound_get h hf
    split
    · exact h
    · refine sound_put h hg.1 (by show (f.data.take _).length ≤ _; rw [List.length_take]; omega) (by show min _ _ ≤ (f.data.take _).length; rw [List.length_take]; omega) (fun hn => absurd (hf.symm.trans hn) (by simp))
theorem sound_rename {l : Files} (h : SoundF l) (a b : ByteArray) : SoundF (dRename l a b).1 := by
  unfold dRename
  split
  · exact h
  · rename_i f hf
    have hg := sound_get h hf
    split
    · exact h
    · rename_i hb
      refine sound_put (sound_out h a) (by simpa using hb) hg.2.1 hg.2.2 (fun _ => ?_)
      have hmem := get_mem hf
      have hlt : (out l a).length < l.length := by
        have hnm : f.name = a := get_name hf
        rcases Nat.lt_or_ge (out l a).length l.length with h | h
        · exact h
        · have he : out l a = l := List.Sublist.eq_of_length_le List.filter_sublist h
          rw [← he] at hmem
          have := (List.mem_filter.1 hmem).2
          simp [hnm] at this
      have := h.2.1
      omega
theorem sound_remove {l : Files} (h : SoundF l) (n : ByteArray) : SoundF (dRemove l n).1 := by
  unfold dRemove
  split
  · exact h
  · exact sound_out h n

/-- The theorem of syncing: behind a crash each file is a beginning of what it was, and what was safe is there. -/
theorem crash_safe {l : Files} (h : SoundF l) (cuts : List Int) (i : Nat) (a b : File) (ha : l[i]? = some a) (hb : (crash l cuts)[i]? = some b) :
    a.name = b.name ∧ a.safe ≤ b.data.length ∧ b.data.length ≤ a.data.length ∧ a.data.take b.data.length = b.data ∧ b.safe = b.data.length := by
  rw [crash_get?, ha] at hb
  have hb' : crashOne a cuts[i]? = b := by simpa using hb
  subst hb'
  obtain ⟨_, _, h3⟩ := h.2.2 a (List.mem_of_getElem? ha)
  have hl := left_bounds a cuts[i]? h3
  have hlen : (a.data.take (left a cuts[i]?)).length = left a cuts[i]? := by rw [List.length_take]; omega
  refine ⟨rfl, ?_, ?_, ?_, ?_⟩
  · show a.safe ≤ (a.data.take _).length
    omega
  · show (a.data.take _).length ≤ _
    omega
  · show a.data.take (a.data.take _).length = a.data.take _
    rw [hlen]
  · show left a _ = (a.data.take _).length
    omega
end DiskMath

