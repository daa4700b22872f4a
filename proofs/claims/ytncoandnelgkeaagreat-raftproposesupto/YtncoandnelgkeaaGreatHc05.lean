import Derived.Test.YtncoandnelgkeaaGreatHc02
/- Logs: plain mathematics. -/
namespace RlogMath
open QuorumMath
set_option linter.unusedSimpArgs false
set_option linter.unusedVariables false

/-- An entry. -/
structure Me where
  idx : Nat
  term : Nat
  kind : Int
  data : List Nat
/-- Bytes as nodes. -/
def nodesI (b : List Nat) : List Int := b.map fun n : Nat => (n : Int)
theorem nodesI_len (b : List Nat) : (nodesI b).length = b.length := by simp [nodesI]
def entB (e : Me) : Bool := decide (0 ≤ e.kind) && decide (e.kind < 3) && decide (e.data.length ≤ 4096) && (!decide (e.kind = 2) || votB (nodesI e.data))
theorem ent_neg {e : Me} (h : e.kind < 0) : entB e = false := by unfold entB; rw [decide_eq_false (by omega : ¬ 0 ≤ e.kind)]; rfl
theorem ent_big {e : Me} (h : 3 ≤ e.kind) : entB e = false := by unfold entB; rw [decide_eq_false (by omega : ¬ e.kind < 3), Bool.and_false]; rfl
theorem ent_long {e : Me} (h : 4096 < e.data.length) : entB e = false := by unfold entB; rw [decide_eq_false (by omega : ¬ e.data.length ≤ 4096), Bool.and_false]; rfl
theorem ent_in {e : Me} (h0 : ¬ e.kind < 0) (h3 : ¬ 3 ≤ e.kind) (hl : ¬ 4096 < e.data.length) : entB e = (!decide (e.kind = 2) || votB (nodesI e.data)) := by
  unfold entB
  rw [decide_eq_true (by omega : 0 ≤ e.kind), decide_eq_true (by omega : e.kind < 3), decide_eq_true (by omega : e.data.length ≤ 4096)]
  rfl
/-- May entries stand behind an index and a term? -/
def behB : Nat → Nat → List Me → Bool
  | _, _, [] => true
  | i, t, e :: l => decide (i ≠ 18446744073709551615) && decide (e.idx = i + 1) && decide (t ≤ e.term) && entB e && behB e.idx e.term l
def mayB (b : Me) (l : List Me) : Bool := decide (b.kind = 0) && votB (nodesI b.data) && decide (b.idx ≤ 4611686018427387904) && decide (l.length ≤ 4096) && behB b.idx b.term l
theorem beh_at {l : List Me} {i : Nat} {e : Me} (h : l[i]? = some e) (x t : Nat) : behB x t (l.drop i) = (decide (x ≠ 18446744073709551615) && decide (e.idx = x + 1) && decide (t ≤ e.term) && entB e && behB e.idx e.term (l.drop (i + 1))) := by
  obtain ⟨h1, rfl⟩ := List.getElem?_eq_some_iff.1 h
  rw [List.drop_eq_getElem_cons h1, behB]
/-- The last entry's index and term. -/
def lastM (b : Me) (l : List Me) : Nat × Nat := match l.getLast? with
  | none => (b.idx, b.term)
  | some e => (e.idx, e.term)
def termF : List Me → Nat → Option Nat
  | [], _ => none
  | e :: l, i => if e.idx = i then some e.term else termF l i
theorem termF_at {l : List Me} {i : Nat} {e : Me} (h : l[i]? = some e) (x : Nat) : termF (l.drop i) x = if e.idx = x then some e.term else termF (l.drop (i + 1)) x := by
  obtain ⟨h1, rfl⟩ := List.getElem?_eq_some_iff.1 h
  rw [List.drop_eq_getElem_cons h1, termF]
/-- The term at an index. -/
def termM (b : Me) (l : List Me) (x : Nat) : Option Nat := if x = b.idx then some b.term else termF l x
/-- The last voters' bytes. -/
def votF : List Nat → List Me → List Nat
  | d, [] => d
  | d, e :: l => votF (if e.kind = 2 then e.data else d) l
theorem votF_at {l : List Me} {i : Nat} {e : Me} (h : l[i]? = some e) (d : List Nat) : votF d (l.drop i) = votF (if e.kind = 2 then e.data else d) (l.drop (i + 1)) := by
  obtain ⟨h1, rfl⟩ := List.getElem?_eq_some_iff.1 h
  rw [List.drop_eq_getElem_cons h1, votF]
def votM (b : Me) (l : List Me) : List Int := nodesI (votF b.data l)
/-- No entry. -/
def zeroMe : Me := ⟨0, 0, 0, []⟩
/-- A log and an entry more: a code and a log. -/
def appM (b : Me) (l : List Me) (t : Nat) (k : Int) (d : List Nat) : Int × Me × List Me :=
  if mayB b l && decide ((lastM b l).2 ≤ t) && entB ⟨(lastM b l).1 + 1, t, k, d⟩ then
    if l.length = 4096 ∨ 4611686018427387904 ≤ (lastM b l).1 then (2, zeroMe, []) else (0, b, l ++ [⟨(lastM b l).1 + 1, t, k, d⟩])
  else (1, zeroMe, [])
theorem beh_last : ∀ (l : List Me) (i t : Nat) (b : Me), b.idx = i → behB i t l = true → (lastM b l).1 = i + l.length
  | [], i, t, b, hb, _ => by simp [lastM, hb]
  | e :: l, i, t, b, hb, h => by
    rw [behB, Bool.and_eq_true, Bool.and_eq_true, Bool.and_eq_true, Bool.and_eq_true] at h
    obtain ⟨⟨⟨⟨_, h2⟩, _⟩, _⟩, h5⟩ := h
    have h2' : e.idx = i + 1 := by simpa using h2
    have ih := beh_last l e.idx e.term e rfl h5
    have e1 : lastM b (e :: l) = lastM e l := by
      unfold lastM
      cases l with
      | nil => rfl
      | cons x l => simp [List.getLast?_cons_cons]; cases h : (x :: l).getLast? <;> simp_all
    rw [e1, ih, h2', List.length_cons]
    omega
theorem may_last {b : Me} {l : List Me} (h : mayB b l = true) : (lastM b l).1 = b.idx + l.length ∧ b.idx ≤ 4611686018427387904 ∧ l.length ≤ 4096 := by
  unfold mayB at h
  simp only [Bool.and_eq_true, decide_eq_true_eq] at h
  exact ⟨beh_last l b.idx b.term b rfl h.2, h.1.1.2, h.1.2⟩
/-- The bytes of the last voters at or before an index. -/
def cutM (d : List Nat) (x : Nat) (l : List Me) : List Nat := l.foldl (fun d e => if e.idx ≤ x ∧ e.kind = 2 then e.data else d) d
/-- A log behind a snapshot. -/
def compM (b : Me) (l : List Me) (x : Nat) : Int × Me × List Me :=
  if mayB b l then
    if x ≤ b.idx then (7, zeroMe, []) else match termM b l x with
      | none => (12, zeroMe, [])
      | some t => (0, ⟨x, t, 0, cutM b.data x l⟩, l.filter fun e => decide (x < e.idx))
  else (1, zeroMe, [])
theorem comp_no {b : Me} {l : List Me} {x : Nat} (h : mayB b l = false) : compM b l x = (1, zeroMe, []) := by unfold compM; rw [if_neg (by rw [h]; simp)]
theorem comp_old {b : Me} {l : List Me} {x : Nat} (h : mayB b l = true) (hx : x ≤ b.idx) : compM b l x = (7, zeroMe, []) := by unfold compM; rw [if_pos h, if_pos hx]
theorem comp_gap {b : Me} {l : List Me} {x : Nat} (h : mayB b l = true) (hx : ¬ x ≤ b.idx) (ht : termM b l x = none) : compM b l x = (12, zeroMe, []) := by unfold compM; rw [if_pos h, if_neg hx, ht]
theorem comp_ok {b : Me} {l : List Me} {x t : Nat} (h : mayB b l = true) (hx : ¬ x ≤ b.idx) (ht : termM b l x = some t) : compM b l x = (0, ⟨x, t, 0, cutM b.data x l⟩, l.filter fun e => decide (x < e.idx)) := by unfold compM; rw [if_pos h, if_neg hx, ht]
end RlogMath

