import Derived.Test.YtmmonehpfmlmeaaHm25
/- Merging: plain mathematics. -/
namespace RlogMath
open QuorumMath
/-- A log with a leader's entries: a code, a log, an index. -/
def mergeM (b : Me) (l : List Me) (x t : Nat) (es : List Me) : Int × Me × List Me × Nat :=
  if mayB b l && behB x t es then
    if x < b.idx then (7, zeroMe, [], 0)
    else if termM b l x = some t then
      if agM (l.drop (x - b.idx)) es = es.length then (0, b, l, x + es.length)
      else if 4096 < x - b.idx + es.length then (2, zeroMe, [], 0)
      else (0, b, l.take (x - b.idx + agM (l.drop (x - b.idx)) es) ++ es.drop (agM (l.drop (x - b.idx)) es), x + es.length)
    else (12, zeroMe, [], 0)
  else (1, zeroMe, [], 0)
theorem mrg_no {b : Me} {l : List Me} {x t : Nat} {es : List Me} (h : mayB b l = false) : mergeM b l x t es = (1, zeroMe, [], 0) := by unfold mergeM; rw [h]; rfl
theorem mrg_bad {b : Me} {l : List Me} {x t : Nat} {es : List Me} (h : behB x t es = false) : mergeM b l x t es = (1, zeroMe, [], 0) := by unfold mergeM; rw [h, Bool.and_false]; rfl
theorem mrg_old {b : Me} {l : List Me} {x t : Nat} {es : List Me} (h : mayB b l = true) (h2 : behB x t es = true) (h3 : x < b.idx) : mergeM b l x t es = (7, zeroMe, [], 0) := by unfold mergeM; rw [h, h2, if_pos (by rfl), if_pos h3]
theorem mrg_gap {b : Me} {l : List Me} {x t : Nat} {es : List Me} (h : mayB b l = true) (h2 : behB x t es = true) (h3 : ¬ x < b.idx) (h4 : ¬ termM b l x = some t) : mergeM b l x t es = (12, zeroMe, [], 0) := by unfold mergeM; rw [h, h2, if_pos (by rfl), if_neg h3, if_neg h4]
theorem mrg_same {b : Me} {l : List Me} {x t : Nat} {es : List Me} (h : mayB b l = true) (h2 : behB x t es = true) (h3 : ¬ x < b.idx) (h4 : termM b l x = some t) (h5 : agM (l.drop (x - b.idx)) es = es.length) : mergeM b l x t es = (0, b, l, x + es.length) := by unfold mergeM; rw [h, h2, if_pos (by rfl), if_neg h3, if_pos h4, if_pos h5]
theorem mrg_full {b : Me} {l : List Me} {x t : Nat} {es : List Me} (h : mayB b l = true) (h2 : behB x t es = true) (h3 : ¬ x < b.idx) (h4 : termM b l x = some t) (h5 : ¬ agM (l.drop (x - b.idx)) es = es.length) (h6 : 4096 < x - b.idx + es.length) : mergeM b l x t es = (2, zeroMe, [], 0) := by unfold mergeM; rw [h, h2, if_pos (by rfl), if_neg h3, if_pos h4, if_neg h5, if_pos h6]
theorem mrg_ok {b : Me} {l : List Me} {x t : Nat} {es : List Me} (h : mayB b l = true) (h2 : behB x t es = true) (h3 : ¬ x < b.idx) (h4 : termM b l x = some t) (h5 : ¬ agM (l.drop (x - b.idx)) es = es.length) (h6 : ¬ 4096 < x - b.idx + es.length) : mergeM b l x t es = (0, b, l.take (x - b.idx + agM (l.drop (x - b.idx)) es) ++ es.drop (agM (l.drop (x - b.idx)) es), x + es.length) := by unfold mergeM; rw [h, h2, if_pos (by rfl), if_neg h3, if_pos h4, if_neg h5, if_neg h6]
theorem termF_in {x t : Nat} : ∀ {l : List Me}, termF l x = some t → ∃ (k : Nat) (e : Me), l[k]? = some e ∧ e.idx = x ∧ e.term = t
  | [], h => by simp [termF] at h
  | a :: l, h => by
    rw [termF] at h
    split at h
    · exact ⟨0, a, rfl, by assumption, Option.some.inj h⟩
    · obtain ⟨k, e, h1, h2, h3⟩ := termF_in h
      exact ⟨k + 1, e, h1, h2, h3⟩
/-- Where there is a term, there is an entry, or the base. -/
theorem term_place {b : Me} {l : List Me} {x t : Nat} (h : mayB b l = true) (ht : termM b l x = some t) : b.idx ≤ x ∧ x - b.idx ≤ l.length := by
  unfold termM at ht
  split at ht
  · omega
  · obtain ⟨k, e, h1, h2, h3⟩ := termF_in ht
    have h4 := may_num h h1
    have h5 := (List.getElem?_eq_some_iff.1 h1).1
    omega
end RlogMath

