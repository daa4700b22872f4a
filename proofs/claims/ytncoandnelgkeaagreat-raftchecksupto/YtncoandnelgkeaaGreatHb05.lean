import Derived.Test.YtncoandnelgkeaaGreatHb02
/- Logs: plain mathematics. -/
namespace RlogMath
open QuorumMath
set_option linter.unusedSimpArgs false
set_option linter.unusedVariables false

/-- An entry. -/
structure Me where
  idx : Nat
  term : Nat
  kind : Int
  data : List Nat
/-- Bytes as nodes. -/
def nodesI (b : List Nat) : List Int := b.map fun n : Nat => (n : Int)
theorem nodesI_len (b : List Nat) : (nodesI b).length = b.length := by simp [nodesI]
def entB (e : Me) : Bool := decide (0 ≤ e.kind) && decide (e.kind < 3) && decide (e.data.length ≤ 4096) && (!decide (e.kind = 2) || votB (nodesI e.data))
theorem ent_neg {e : Me} (h : e.kind < 0) : entB e = false := by unfold entB; rw [decide_eq_false (by omega : ¬ 0 ≤ e.kind)]; rfl
theorem ent_big {e : Me} (h : 3 ≤ e.kind) : entB e = false := by unfold entB; rw [decide_eq_false (by omega : ¬ e.kind < 3), Bool.and_false]; rfl
theorem ent_long {e : Me} (h : 4096 < e.data.length) : entB e = false := by unfold entB; rw [decide_eq_false (by omega : ¬ e.data.length ≤ 4096), Bool.and_false]; rfl
theorem ent_in {e : Me} (h0 : ¬ e.kind < 0) (h3 : ¬ 3 ≤ e.kind) (hl : ¬ 4096 < e.data.length) : entB e = (!decide (e.kind = 2) || votB (nodesI e.data)) := by
  unfold entB
  rw [decide_eq_true (by omega : 0 ≤ e.kind), decide_eq_true (by omega : e.kind < 3), decide_eq_true (by omega : e.data.length ≤ 4096)]
  rfl
/-- May entries stand behind an index and a term? -/
def behB : Nat → Nat → List Me → Bool
  | _, _, [] => true
  | i, t, e :: l => decide (i ≠ 18446744073709551615) && decide (e.idx = i + 1) && decide (t ≤ e.term) && entB e && behB e.idx e.term l
def mayB (b : Me) (l : List Me) : Bool := decide (b.kind = 0) && votB (nodesI b.data) && decide (b.idx ≤ 4611686018427387904) && decide (l.length ≤ 4096) && behB b.idx b.term l
theorem beh_at {l : List Me} {i : Nat} {e : Me} (h : l[i]? = some e) (x t : Nat) : behB x t (l.drop i) = (decide (x ≠ 18446744073709551615) && decide (e.idx = x + 1) && decide (t ≤ e.term) && entB e && behB e.idx e.term (l.drop (i + 1))) := by
  obtain ⟨h1, rfl⟩ := List.getElem?_eq_some_iff.1 h
  rw [List.drop_eq_getElem_cons h1, behB]
/-- The last entry's index and term. -/
def lastM (b : Me) (l : List Me) : Nat × Nat := match l.getLast? with
  | none => (b.idx, b.term)
  | some e => (e.idx, e.term)
def termF : List Me → Nat → Option Nat
  | [], _ => none
  | e :: l, i => if e.idx = i then some e.term else termF l i
theorem termF_at {l : List Me} {i : Nat} {e : Me} (h : l[i]? = some e) (x : Nat) : termF (l.drop i) x = if e.idx = x then some e.term else termF (l.drop (i + 1)) x := by
  obtain ⟨h1, rfl⟩ := List.getElem?_eq_some_iff.1 h
  rw [List.drop_eq_getElem_cons h1, termF]
/-- The term at an index. -/
def termM (b : Me) (l : List Me) (x : Nat) : Option Nat := if x = b.idx then some b.term else termF l x
/-- The last voters' bytes. -/
def votF : List Nat → List Me → List Nat
  | d, [] => d
  | d, e :: l => votF (if e.kind = 2 then e.data else d) l
theorem votF_at {l : List Me} {i : Nat} {e : Me} (h : l[i]? = some e) (d : List Nat) : votF d (l.drop i) = votF (if e.kind = 2 then e.data else d) (l.drop (i + 1)) := by
  obtain ⟨h1, rfl⟩ := List.getElem?_eq_some_iff.1 h
  rw [List.drop_eq_getElem_cons h1, votF]
def votM (b : Me) (l : List Me) : List Int := nodesI (votF b.data l)
/-- No entry. -/
def zeroMe : Me := ⟨0, 0, 0, []⟩
/-- A log and an entry more: a code and a log. -/
def appM (b : Me) (l : List Me) (t : Nat) (k : Int) (d : List Nat) : Int × Me × List Me :=
  if mayB b l && decide ((lastM b l).2 ≤ t) && entB ⟨(lastM b l).1 + 1, t, k, d⟩ then
    if l.length = 4096 ∨ 4611686018427387904 ≤ (lastM b l).1 then (2, zeroMe, []) else (0, b, l ++ [⟨(lastM b l).1 + 1, t, k, d⟩])
  else (1, zeroMe, [])
theorem beh_last : ∀ (l : List Me) (i t : Nat) (b : Me), b.idx = i → behB i t l = true → (lastM b l).1 = i + l.length
  | [], i, t, b, hb, _ => by simp [lastM, hb]
  | e :: l, i, t, b, hb, h => by
    rw [behB, Bool.and_eq_true, Bool.and_eq_true, Bool.and_eq_true, Bool.and_eq_true] at h
    obtain ⟨⟨⟨⟨_, h2⟩, _⟩, _⟩, h5⟩ := h
    have h2' : e.idx = i + 1 := by simpa using h2
    have ih := beh_last l e.idx e.term e rfl h5
    have e1 : lastM b (e :: l) = lastM e l := by
      unfold lastM
      cases l with
      | nil => rfl
      | cons x l => simp [List.getLast?_cons_cons]; cases h : (x :: l).getLast? <;> simp_all
    rw [e1, ih, h2', List.length_cons]
    omega
theorem may_last {b : Me} {l : List Me} (h : mayB b l = true) : (lastM b l).1 = b.idx + l.length ∧ b.idx ≤ 4611686018427387904 ∧ l.length ≤ 4096 := by
  unfold mayB at h
  simp only [Bool.and_eq_true, decide_eq_true_eq] at h
  exact ⟨beh_last l b.idx b.term b rfl h.2, h.1.1.2, h.1.2⟩
end RlogMath

