import Derived.Test.YtfpbgfmnjpamlaaGreatHv32
/- One put among rows by rising keys: who is there then, who is found. -/
namespace Go.Proofs.YtfpbgfmnjpamlaaGreat
open Go.RowKit LeaseMath
set_option linter.unusedSimpArgs false
set_option linter.unusedVariables false

theorem mem_at {α : Type} {l : List α} {y : α} : y ∈ l ↔ ∃ i : Nat, l[i]? = some y := List.mem_iff_getElem?
theorem beh_gt {β : Type} {l : List (K × β)} {k : Nat} {c : K} (hl : l.Pairwise (fun a b => a.1 < b.1)) (hk : Plc l c k) {i : Nat} {y : K × β} (hi : behN l k c ≤ i) (hy : l[i]? = some y) : c < y.1 := by
 unfold behN at hi
 cases hh : hasB l k c with
 | true =>
  rw [hh, if_pos rfl] at hi
  exact plc_up hl hk (by omega) hy
 | false =>
  rw [hh, if_neg (by decide)] at hi
  rcases Nat.lt_or_ge k i with h | h
  ·exact plc_up hl hk h hy
  ·have e : i = k := by omega
   subst e
   have h1 := hk.2.2 i y (Nat.le_refl _) hy
   unfold hasB at hh
   rw [hy] at hh
   have h2 : ¬ y.1 = c := by simpa using hh
   grind
theorem kept_mem {β : Type} {l : List (K × β)} {k : Nat} {s y : K × β} (hl : l.Pairwise (fun a b => a.1 < b.1)) (hk : Plc l s.1 k) : y ∈ keptM l k s ↔ y = s ∨ (y ∈ l ∧ y.1 ≠ s.1) := by
 unfold keptM
 rw [List.mem_append, List.mem_append, List.mem_singleton]
 constructor
 ·rintro ((h | h) | h)
  ·right
   refine ⟨List.mem_of_mem_take h, ?_⟩
   obtain ⟨i, hi⟩ := mem_at.1 h
   rw [List.getElem?_take] at hi
   split at hi
   ·have := hk.2.1 i y (by assumption) hi
    grind
   ·cases hi
  ·exact .inl h
  ·right
   refine ⟨List.mem_of_mem_drop h, ?_⟩
   obtain ⟨i, hi⟩ := mem_at.1 h
   rw [List.getElem?_drop] at hi
   have := beh_gt hl hk (by omega) hi
   grind
 ·rintro (h | ⟨h, h2⟩)
  ·exact .inl (.inr h)
  ·obtain ⟨i, hi⟩ := mem_at.1 h
   rcases Nat.lt_or_ge i k with g | g
   ·refine .inl (.inl (mem_at.2 ⟨i, ?_⟩))
    rw [List.getElem?_take, if_pos g]
    exact hi
   ·right
    have g2 : behN l k s.1 ≤ i := by
     unfold behN
     cases hh : hasB l k s.1 with
     | true =>
      obtain ⟨x, hx, hc⟩ := has_lt hh
      rw [if_pos rfl]
      rcases Nat.lt_or_ge k i with g3 | g3
      ·exact g3
      ·have e : i = k := by omega
       subst e
       rw [hi] at hx
       cases hx
       exact absurd hc h2
     | false => rw [if_neg (by decide)]; exact g
    refine mem_at.2 ⟨i - behN l k s.1, ?_⟩
    rw [List.getElem?_drop, Nat.add_sub_cancel' g2]
    exact hi
theorem kept_up {β : Type} {l : List (K × β)} {k : Nat} {s : K × β} (hl : l.Pairwise (fun a b => a.1 < b.1)) (hk : Plc l s.1 k) : (keptM l k s).Pairwise (fun a b => a.1 < b.1) := by
 have hT : ∀ a ∈ l.take k, a.1 < s.1 := fun a ha => by
  obtain ⟨i, hi⟩ := mem_at.1 ha
  rw [List.getElem?_take] at hi
  split at hi
  ·exact hk.2.1 i a (by assumption) hi
  ·cases hi
 have hD : ∀ a ∈ l.drop (behN l k s.1), s.1 < a.1 := fun a ha => by
  obtain ⟨i, hi⟩ := mem_at.1 ha
  rw [List.getElem?_drop] at hi
  exact beh_gt hl hk (by omega) hi
 unfold keptM
 rw [List.pairwise_append, List.pairwise_append]
 refine ⟨⟨hl.sublist (List.take_sublist _ _), List.pairwise_singleton _ _, fun a ha b hb => ?_⟩, hl.sublist (List.drop_sublist _ _), fun a ha b hb => ?_⟩
 ·rw [List.mem_singleton.1 hb]
  exact hT a ha
 ·rcases List.mem_append.1 ha with ha | ha
  ·exact klt_trans (hT a ha) (hD b hb)
  ·rw [List.mem_singleton.1 ha]
   exact hD b hb
theorem find_iff {β : Type} {l : List (K × β)} {c : K} {s : K × β} (hl : l.Pairwise (fun a b => a.1 < b.1)) : findM l c = some s ↔ s ∈ l ∧ s.1 = c := by
 constructor
 ·intro h
  unfold findM at h
  exact ⟨List.mem_of_find?_eq_some h, by simpa using List.find?_some h⟩
 ·rintro ⟨h1, h2⟩
  exact find_mem hl h1 h2
theorem find_like {β : Type} {l m : List (K × β)} {c : K} (hl : l.Pairwise (fun a b => a.1 < b.1)) (hm : m.Pairwise (fun a b => a.1 < b.1)) (h : ∀ y, y.1 = c → (y ∈ l ↔ y ∈ m)) : findM l c = findM m c := by
 apply Option.ext
 intro y
 rw [find_iff hl, find_iff hm]
 constructor
 ·rintro ⟨h1, h2⟩
  exact ⟨(h y h2).1 h1, h2⟩
 ·rintro ⟨h1, h2⟩
  exact ⟨(h y h2).2 h1, h2⟩
theorem kept_other {β : Type} {l : List (K × β)} {k : Nat} {s : K × β} {c : K} (hl : l.Pairwise (fun a b => a.1 < b.1)) (hk : Plc l s.1 k) (hc : c ≠ s.1) : findM (keptM l k s) c = findM l c :=
 find_like (kept_up hl hk) hl fun y hy => by
  rw [kept_mem hl hk]
  constructor
  ·rintro (h | h)
   ·exact absurd (by rw [← hy, h]) hc
   ·exact h.1
  ·exact fun h => .inr ⟨h, by rw [hy]; exact hc⟩
/-- What may be with one more, or one other, may be. -/
theorem kept_may {β : Type} {ok : K × β → Bool} {l : List (K × β)} {k : Nat} {s : K × β} (h : mayB ok l = true) (hs : ok s = true) (hk : Plc l s.1 k) (hlen : (keptM l k s).length ≤ 1024) : mayB ok (keptM l k s) = true := by
 obtain ⟨h1, h2, h3⟩ := may_iff.1 h
 refine may_iff.2 ⟨hlen, fun y hy => ?_, kept_up h3 hk⟩
 rcases (kept_mem h3 hk).1 hy with rfl | hy
 ·exact hs
 ·exact h2 y hy.1
theorem flt_may {β : Type} {ok : K × β → Bool} {l : List (K × β)} {p : K × β → Bool} (h : mayB ok l = true) : mayB ok (l.filter p) = true := by
 obtain ⟨h1, h2, h3⟩ := may_iff.1 h
 exact may_iff.2 ⟨Nat.le_trans (List.length_filter_le _ _) h1, fun y hy => h2 y (List.mem_filter.1 hy).1, h3.sublist List.filter_sublist⟩
theorem heldN_find {l : List Hd} {c : K} : heldN l c = match findM l c with | some h => h.2.1 | none => 0 := rfl
theorem held_other {l m : List Hd} {c : K} (h : findM l c = findM m c) : heldN l c = heldN m c := by rw [heldN_find, heldN_find, h]
theorem held_none {l : List Hd} {c : K} (h : ∀ y ∈ l, y.1 ≠ c) : heldN l c = 0 := by rw [heldN_find, find_none h]
theorem kept_held {l : List Hd} {k : Nat} {s : Hd} (hl : l.Pairwise (fun a b => a.1 < b.1)) (hk : Plc l s.1 k) : heldN (keptM l k s) s.1 = s.2.1 := by rw [heldN_find, kept_find hl hk]
theorem drop_held {l : List Hd} {c : K} : heldN (dropM l c) c = 0 := held_none fun y hy => by
 have := (List.mem_filter.1 hy).2
 simpa using this
theorem drop_other {l : List Hd} {c d : K} (hl : l.Pairwise (fun a b => a.1 < b.1)) (hd : d ≠ c) : heldN (dropM l c) d = heldN l d :=
 held_other (find_like (hl.sublist List.filter_sublist) hl fun y hy => by
  unfold dropM
  rw [List.mem_filter]
  constructor
  ·exact fun h => h.1
  ·exact fun h => ⟨h, by simpa [hy] using hd⟩)
end Go.Proofs.YtfpbgfmnjpamlaaGreat

/- What a table behind its intents is: it may be; whose the keys are. -/
namespace Go.Proofs.YtfpbgfmnjpamlaaGreat
open Go.RowKit LeaseMath
set_option linter.unusedSimpArgs false
set_option linter.unusedVariables false

/-- A table's locks with room for n more. -/
structure Room (t : Tb) (n : Nat) : Prop where
 now : timeB t.now = true
 holds : mayB holdB t.holds = true
 marks : mayB markB t.marks = true
 free : ∀ m ∈ t.marks, heldN t.holds m.1 = 0 ∧ inP t.spans m.1 = true
 mine : ∀ h ∈ t.holds, inP t.spans h.1 = true
 len : t.holds.length + t.marks.length + n ≤ 1024
theorem later_time {now ttl : Int} (h : timeB now = true) (h1 : 1 ≤ ttl) (h2 : ttl ≤ 1048576) : timeB (untilM now ttl).1 = true := by
 have h' := time_iff.1 h
 unfold untilM
 rw [if_pos (by simp [h, h1, h2])]
 show timeB (laterM now ttl) = true
 rw [time_iff]
 unfold laterM
 split <;> omega
theorem int_iff {sp : List Sp} {x : It} : intB sp x = true ↔ idB x.2.1 = true ∧ turnB x.2.2.1 x.2.2.2.2 = true ∧ x.2.2.2.1 ≠ 0 ∧ inP sp x.1 = true := by
 unfold intB
 simp only [Bool.and_eq_true, decide_eq_true_eq, and_assoc]
theorem inP_len {sp : List Sp} {k : K} (h : inP sp k = true) : k.length ≤ 64 := by
 unfold inP at h
 simp only [Bool.and_eq_true, decide_eq_true_eq] at h
 exact h.1.2
theorem turn_ttl {kd ttl : Int} (h : turnB kd ttl = true) (hk : kd = 1 ∨ kd = 3) : 1 ≤ ttl ∧ ttl ≤ 1048576 := by
 unfold turnB at h
 rw [if_pos hk] at h
 simpa using h
theorem may_up {β : Type} {ok : K × β → Bool} {l : List (K × β)} (h : mayB ok l = true) : l.Pairwise (fun a b => a.1 < b.1) := (may_iff.1 h).2.2
theorem kept_room {β : Type} {l : List (K × β)} {k : Nat} {s : K × β} (hk : Plc l s.1 k) : (keptM l k s).length ≤ l.length + 1 := by
 rw [kept_len hk.1]
 split <;> omega
/-- The holds behind one that is put. -/
theorem set_kept {β : Type} {ok : K × β → Bool} {l : List (K × β)} {s : K × β} (h : mayB ok l = true) (hs : ok s = true) (hlen : l.length < 1024) : (setM ok l (plcN l s.1) s).1 = keptM l (plcN l s.1) s ∧ mayB ok (keptM l (plcN l s.1) s) = true ∧ (keptM l (plcN l s.1) s).length ≤ l.length + 1 := by
 have hp := plcN_plc s.1 (may_up h)
 have h2 := kept_room hp
 refine ⟨?_, kept_may h hs hp (by omega), h2⟩
 rw [set_yes (by rw [h, hs]; rfl) (by omega)]
theorem mark_kept {l : List Mk} {c : K} {t : Nat} (h : mayB markB l = true) (hc : c.length ≤ 64) (ht : t ≠ 0) (hlen : l.length < 1024) : (markM l (plcN l c) c t).1 = keptM l (plcN l c) (c, max t (lastM l c)) ∧ mayB markB (keptM l (plcN l c) (c, max t (lastM l c))) = true ∧ (keptM l (plcN l c) (c, max t (lastM l c))).length ≤ l.length + 1 := by
 have hs : markB (c, max t (lastM l c)) = true := mark_iff.2 ⟨hc, by show max t (lastM l c) ≠ 0; omega⟩
 have h3 := set_kept (s := (c, max t (lastM l c))) h hs hlen
 refine ⟨?_, h3.2⟩
 unfold markM
 rw [if_pos (by rw [h, mark_iff.2 ⟨hc, ht⟩]; rfl), ← h3.1, setM_put (by rw [h, hs]; rfl)]
/-- An acquire's holds and marks. -/
theorem turn_one {t : Tb} {x : It} (h1 : x.2.2.1 = 1) : turnM t x = { t with holds := (setM holdB t.holds (plcN t.holds x.1) (x.1, x.2.2.2.1, (untilM t.now x.2.2.2.2).1)).1, marks := t.marks.filter fun m => !decide (m.1 = x.1) } := by unfold turnM; rw [if_pos h1]
theorem turn_two {t : Tb} {x : It} (h1 : x.2.2.1 = 2) : turnM t x = { t with holds := dropM t.holds x.1, marks := (markM t.marks (plcN t.marks x.1) x.1 x.2.2.2.1).1 } := by unfold turnM; rw [if_neg (by omega), if_pos h1]
theorem turn_yes {t : Tb} {x : It} {h : Hd} (h1 : x.2.2.1 = 3) (hf : findM t.holds x.1 = some h) : turnM t x = { t with holds := (setM holdB t.holds (plcN t.holds h.1) (h.1, h.2.1, max h.2.2 (untilM t.now x.2.2.2.2).1)).1 } := by unfold turnM; rw [if_neg (by omega), if_neg (by omega), if_pos h1, hf]
theorem turn_none {t : Tb} {x : It} (h1 : x.2.2.1 = 3) (hf : findM t.holds x.1 = none) : turnM t x = t := by unfold turnM; rw [if_neg (by omega), if_neg (by omega), if_pos h1, hf]
theorem turn_kind {kd ttl : Int} (h : turnB kd ttl = true) : kd = 1 ∨ kd = 2 ∨ kd = 3 := by
 unfold turnB at h
 split at h
 ·omega
 ·simp only [Bool.and_eq_true, decide_eq_true_eq] at h
  omega
theorem turn_rest (t : Tb) (x : It) : (turnM t x).now = t.now ∧ (turnM t x).spans = t.spans ∧ (turnM t x).frozen = t.frozen ∧ (turnM t x).ints = t.ints := by
 unfold turnM
 split
 ·exact ⟨rfl, rfl, rfl, rfl⟩
 ·split
  ·exact ⟨rfl, rfl, rfl, rfl⟩
  ·split
   ·split
    ·exact ⟨rfl, rfl, rfl, rfl⟩
    ·exact ⟨rfl, rfl, rfl, rfl⟩
   ·exact ⟨rfl, rfl, rfl, rfl⟩
/-- One intent is turned: there is room for one less. -/
theorem turn_room {t : Tb} {x : It} {n : Nat} (h : Room t (n + 1)) (hx : intB t.spans x = true) :
  Room (turnM t x) n ∧ (∀ c, c ≠ x.1 → heldN (turnM t x).holds c = heldN t.holds c) ∧ (x.2.2.1 = 1 → heldN (turnM t x).holds x.1 = x.2.2.2.1) ∧ (x.2.2.1 = 2 → heldN (turnM t x).holds x.1 = 0) ∧ (x.2.2.1 = 3 → heldN (turnM t x).holds x.1 = heldN t.holds x.1) := by
 obtain ⟨i1, i2, i3, i4⟩ := int_iff.1 hx
 obtain ⟨a1, a2, a3, a4, a5, a6⟩ := h
 have hu := may_up a2
 rcases turn_kind i2 with hk | hk | hk
 ·obtain ⟨l1, l2⟩ := turn_ttl i2 (.inl hk)
  have ht := time_iff.1 (later_time a1 l1 l2)
  obtain ⟨b1, b2, b3⟩ := set_kept (s := (x.1, x.2.2.2.1, (untilM t.now x.2.2.2.2).1)) a2 (hold_iff.2 ⟨inP_len i4, i3, ht.1, ht.2⟩) (by omega)
  have hp := plcN_plc x.1 hu
  rw [turn_one hk]
  dsimp only at b1 b2 b3 ⊢
  rw [b1]
  have hoth : ∀ c, c ≠ x.1 → heldN (keptM t.holds (plcN t.holds x.1) (x.1, x.2.2.2.1, (untilM t.now x.2.2.2.2).1)) c = heldN t.holds c := fun c hc => held_other (kept_other hu hp hc)
  refine ⟨⟨a1, b2, flt_may a3, fun m hm => ?_, fun y hy => ?_, ?_⟩, hoth, fun _ => kept_held hu hp, fun hq => ?_, fun hq => ?_⟩
  ·obtain ⟨m1, m2⟩ := List.mem_filter.1 hm
   have m3 : m.1 ≠ x.1 := by simpa using m2
   exact ⟨(hoth m.1 m3).trans (a4 m m1).1, (a4 m m1).2⟩
  ·rcases (kept_mem hu hp).1 hy with rfl | hy
   ·exact i4
   ·exact a5 y hy.1
  ·have := List.length_filter_le (fun m : Mk => !decide (m.1 = x.1)) t.marks
   show (keptM _ _ _).length + (List.filter _ _).length + n ≤ 1024
   omega
  ·omega
  ·omega
 ·obtain ⟨b1, b2, b3⟩ := mark_kept (c := x.1) (t := x.2.2.2.1) a3 (inP_len i4) i3 (by omega)
  have hm := may_up a3
  have hp := plcN_plc x.1 hm
  rw [turn_two hk]
  dsimp only at b1 b2 b3 ⊢
  rw [b1]
  refine ⟨⟨a1, flt_may a2, b2, fun m h1 => ?_, fun y hy => ?_, ?_⟩, fun c hc => drop_other hu hc, fun hq => ?_, fun _ => drop_held, fun hq => ?_⟩
  ·rcases (kept_mem (s := (x.1, max x.2.2.2.1 (lastM t.marks x.1))) hm hp).1 h1 with rfl | ⟨h1, h2⟩
   ·exact ⟨drop_held, i4⟩
   ·exact ⟨(drop_other hu h2).trans (a4 m h1).1, (a4 m h1).2⟩
  ·exact a5 y (List.mem_filter.1 hy).1
  ·have := List.length_filter_le (fun m : Hd => !decide (m.1 = x.1)) t.holds
   show (List.filter _ _).length + (keptM _ _ _).length + n ≤ 1024
   omega
  ·omega
  ·omega
 ·obtain ⟨l1, l2⟩ := turn_ttl i2 (.inr hk)
  have ht := time_iff.1 (later_time a1 l1 l2)
  cases hf : findM t.holds x.1 with
  | none =>
   rw [turn_none hk hf]
   exact ⟨⟨a1, a2, a3, a4, a5, by omega⟩, fun _ _ => rfl, fun hq => by omega, fun hq => by omega, fun _ => rfl⟩
  | some y =>
   obtain ⟨f1, f2⟩ := (find_iff hu).1 hf
   have hy := hold_iff.1 ((may_iff.1 a2).2.1 y f1)
   have hb : holdB (y.1, y.2.1, max y.2.2 (untilM t.now x.2.2.2.2).1) = true := hold_iff.2 ⟨hy.1, hy.2.1, by dsimp only; omega, by dsimp only; omega⟩
   obtain ⟨b1, b2, b3⟩ := set_kept (s := (y.1, y.2.1, max y.2.2 (untilM t.now x.2.2.2.2).1)) a2 hb (by omega)
   have hp := plcN_plc y.1 hu
   rw [turn_yes hk hf]
   dsimp only at b1 b2 b3 ⊢
   rw [b1]
   have hheld : ∀ c, heldN (keptM t.holds (plcN t.holds y.1) (y.1, y.2.1, max y.2.2 (untilM t.now x.2.2.2.2).1)) c = heldN t.holds c := fun c => by
    by_cases hc : c = y.1
    ·rw [hc]
     refine (kept_held (s := (y.1, y.2.1, max y.2.2 (untilM t.now x.2.2.2.2).1)) hu hp).trans ?_
     rw [heldN_find, find_mem hu f1 rfl]
    ·exact held_other (kept_other (s := (y.1, y.2.1, max y.2.2 (untilM t.now x.2.2.2.2).1)) hu hp hc)
   refine ⟨⟨a1, b2, a3, fun m hm => ⟨(hheld m.1).trans (a4 m hm).1, (a4 m hm).2⟩, fun z hz => ?_, ?_⟩, fun c _ => hheld c, fun hq => by omega, fun hq => by omega, fun _ => hheld _⟩
   ·rcases (kept_mem (s := (y.1, y.2.1, max y.2.2 (untilM t.now x.2.2.2.2).1)) hu hp).1 hz with rfl | hz
    ·exact a5 y f1
    ·exact a5 z hz.1
   ·show (keptM _ _ _).length + t.marks.length + n ≤ 1024
    omega
/-- All are turned. -/
theorem fold_room {l : List It} : ∀ {t : Tb} {n : Nat}, Room t (l.length + n) → (∀ x ∈ l, intB t.spans x = true) → Room (l.foldl turnM t) n ∧ (l.foldl turnM t).now = t.now ∧ (l.foldl turnM t).spans = t.spans ∧ (l.foldl turnM t).frozen = t.frozen ∧ (l.foldl turnM t).ints = t.ints ∧ ∀ c, (∀ x ∈ l, x.1 ≠ c) → heldN (l.foldl turnM t).holds c = heldN t.holds c := by
 induction l with
 | nil => exact fun h _ => ⟨by simpa using h, rfl, rfl, rfl, rfl, fun _ _ => rfl⟩
 | cons x l ih =>
  intro t n h hl
  obtain ⟨r1, r2, r3, r4⟩ := turn_rest t x
  obtain ⟨h1, h2, -⟩ := turn_room (n := l.length + n) (by rw [List.length_cons] at h; rw [show l.length + n + 1 = l.length + 1 + n by omega]; exact h) (hl x (List.mem_cons_self ..))
  obtain ⟨g1, g2, g3, g4, g5, g6⟩ := ih h1 (fun y hy => by rw [r2]; exact hl y (List.mem_cons_of_mem _ hy))
  rw [List.foldl_cons]
  exact ⟨g1, g2.trans r1, g3.trans r2, g4.trans r3, g5.trans r4, fun c hc => (g6 c fun y hy => hc y (List.mem_cons_of_mem _ hy)).trans (h2 c (hc x (List.mem_cons_self ..)).symm)⟩
end Go.Proofs.YtfpbgfmnjpamlaaGreat

