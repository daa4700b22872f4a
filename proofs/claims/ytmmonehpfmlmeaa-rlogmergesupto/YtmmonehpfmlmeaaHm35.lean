import Derived.Test.YtmmonehpfmlmeaaHm34
/- What the results are made of: plain mathematics. -/
namespace RlogMath
open QuorumMath
/-- Numbers and bytes within their kinds. -/
def OkM (e : Me) : Prop := e.idx < 18446744073709551616 ∧ e.term < 18446744073709551616 ∧ (∀ c ∈ e.data, c < 256) ∧ e.data.length ≤ 1000000000
theorem zero_okM : OkM zeroMe := ⟨by decide, by decide, by decide, by decide⟩
theorem votF_bytes : ∀ (l : List Me) (d : List Nat), (∀ e ∈ l, OkM e) → (∀ c ∈ d, c < 256) → ∀ c ∈ votF d l, c < 256
  | [], d, _, h => h
  | e :: l, d, hl, h => by
    rw [votF]
    refine votF_bytes l _ (fun y hy => hl y (List.mem_cons_of_mem _ hy)) ?_
    split
    · exact (hl e List.mem_cons_self).2.2.1
    · exact h
theorem term_lt {b : Me} {l : List Me} {x t : Nat} (hb : OkM b) (hl : ∀ e ∈ l, OkM e) (h : termM b l x = some t) : t < 18446744073709551616 := by
  unfold termM at h
  split at h
  · cases h; exact hb.2.1
  · obtain ⟨k, e, h1, h2, rfl⟩ := termF_in h
    exact (hl e (List.mem_of_getElem? h1)).2.1
theorem comp_okM {b : Me} {l : List Me} {x : Nat} (hb : OkM b) (hl : ∀ e ∈ l, OkM e) (hx : x < 18446744073709551616) : OkM (compM b l x).2.1 ∧ (∀ e ∈ (compM b l x).2.2, OkM e) ∧ (compM b l x).2.2.length ≤ l.length := by
  have hz : OkM zeroMe ∧ (∀ e ∈ ([] : List Me), OkM e) ∧ ([] : List Me).length ≤ l.length := ⟨zero_okM, by simp, by simp⟩
  by_cases h : mayB b l = true
  · by_cases h2 : x ≤ b.idx
    · rw [comp_old h h2]; exact hz
    · cases ht : termM b l x with
      | none => rw [comp_gap h h2 ht]; exact hz
      | some t =>
        rw [comp_place h h2 ht]
        refine ⟨⟨hx, term_lt hb hl ht, votF_bytes _ _ (fun e he => hl e (List.mem_of_mem_take he)) hb.2.2.1, votF_len _ _ (fun e he => (hl e (List.mem_of_mem_take he)).2.2.2) hb.2.2.2⟩, fun e he => hl e (List.mem_of_mem_drop he), ?_⟩
        show (l.drop _).length ≤ _
        rw [List.length_drop]
        omega
  · rw [comp_no (by simpa using h)]; exact hz
theorem votF_app : ∀ (l m : List Me) (d : List Nat), votF d (l ++ m) = votF (votF d l) m
  | [], m, d => rfl
  | e :: l, m, d => by
    show votF (if e.kind = 2 then e.data else d) (l ++ m) = votF (votF (if e.kind = 2 then e.data else d) l) m
    exact votF_app l m _
/-- Behind a snapshot the voters and the last entry stay. -/
theorem comp_stays {b : Me} {l : List Me} {x : Nat} (h0 : (compM b l x).1 = 0) : lastM (compM b l x).2.1 (compM b l x).2.2 = lastM b l ∧ votM (compM b l x).2.1 (compM b l x).2.2 = votM b l := by
  by_cases h : mayB b l = true
  · by_cases h2 : x ≤ b.idx
    · rw [comp_old h h2] at h0; exact absurd h0 (by decide)
    · cases ht : termM b l x with
      | none => rw [comp_gap h h2 ht] at h0; exact absurd h0 (by decide)
      | some t =>
        rw [comp_place h h2 ht]
        obtain ⟨p1, p2⟩ := term_place h ht
        obtain ⟨n, hn⟩ : ∃ n, n = x - b.idx := ⟨_, rfl⟩
        rw [← hn] at p2 ⊢
        refine ⟨?_, ?_⟩
        · show lastM ⟨x, t, 0, _⟩ (l.drop n) = lastM b l
          by_cases hd : n = l.length
          · have e1 : l.drop n = [] := by rw [hd]; exact List.drop_length
            have hpos : 0 < l.length := by omega
            obtain ⟨e, he⟩ : ∃ e, l.getLast? = some e := by
              cases hl : l.getLast? with
              | none => rw [List.getLast?_eq_none_iff] at hl; rw [hl] at hpos; simp at hpos
              | some e => exact ⟨e, rfl⟩
            have he2 : l[l.length - 1]? = some e := by rw [← List.getLast?_eq_getElem?]; exact he
            have hidx := may_num h he2
            have hte : e.term = t := by
              unfold termM at ht
              rw [if_neg (by omega)] at ht
              obtain ⟨k, e', h1, h3, h4⟩ := termF_in ht
              have h5 := may_num h h1
              have h6 := (List.getElem?_eq_some_iff.1 h1).1
              have h7 : k = l.length - 1 := by omega
              rw [h7, he2] at h1
              cases h1
              exact h4
            unfold lastM
            rw [e1, he]
            show (x, t) = (e.idx, e.term)
            rw [hte, hidx, show b.idx + 1 + (l.length - 1) = x by omega]
          · have hg : (l.drop n).getLast? = l.getLast? := by
              rw [List.getLast?_eq_getElem?, List.getLast?_eq_getElem?, List.getElem?_drop, List.length_drop]
              congr 1
              omega
            unfold lastM
            rw [hg]
            cases hl : l.getLast? with
            | none => rw [List.getLast?_eq_none_iff] at hl; rw [hl] at p2 hd; simp at p2 hd; omega
            | some e => rfl
        · show nodesI (votF (votF b.data (l.take n)) (l.drop n)) = nodesI (votF b.data l)
          rw [← votF_app, List.take_append_drop]
  · rw [comp_no (by simpa using h)] at h0; exact absurd h0 (by decide)
theorem app_okM {b : Me} {l : List Me} {t : Nat} {k : Int} {d : List Nat} (hb : OkM b) (hl : ∀ e ∈ l, OkM e) (ht : t < 18446744073709551616) (hd : ∀ c ∈ d, c < 256) (hdl : d.length ≤ 1000000000) : OkM (appM b l t k d).2.1 ∧ (∀ e ∈ (appM b l t k d).2.2, OkM e) ∧ (appM b l t k d).2.2.length ≤ l.length + 1 := by
  have hz : OkM zeroMe ∧ (∀ e ∈ ([] : List Me), OkM e) ∧ ([] : List Me).length ≤ l.length + 1 := ⟨zero_okM, by simp, by simp⟩
  unfold appM
  split
  · split
    · exact hz
    · rename_i h1 h2
      refine ⟨hb, fun e he => ?_, by simp⟩
      rw [List.mem_append, List.mem_singleton] at he
      rcases he with he | rfl
      · exact hl e he
      · exact ⟨show (lastM b l).1 + 1 < _ by omega, ht, hd, hdl⟩
  · exact hz
theorem merge_okM {b : Me} {l : List Me} {x t : Nat} {es : List Me} (hb : OkM b) (hl : ∀ e ∈ l, OkM e) (he : ∀ e ∈ es, OkM e) : OkM (mergeM b l x t es).2.1 ∧ (∀ e ∈ (mergeM b l x t es).2.2.1, OkM e) ∧ (mergeM b l x t es).2.2.1.length ≤ l.length + es.length := by
  have hz : OkM zeroMe ∧ (∀ e ∈ ([] : List Me), OkM e) ∧ ([] : List Me).length ≤ l.length + es.length := ⟨zero_okM, by simp, by simp⟩
  unfold mergeM
  split
  · split
    · exact hz
    · split
      · split
        · exact ⟨hb, hl, by simp⟩
        · split
          · exact hz
          · refine ⟨hb, fun e h => ?_, ?_⟩
            · rw [List.mem_append] at h
              rcases h with h | h
              · exact hl e (List.mem_of_mem_take h)
              · exact he e (List.mem_of_mem_drop h)
            · simp only [List.length_append, List.length_take, List.length_drop]; omega
      · exact hz
  · exact hz
end RlogMath
namespace Go.Proofs.Ytmmonehpfmlmeaa
open RlogMath
/-- Entries that say so. -/
theorem okz_of {zs : List Ez} {l : List Me} (h : mes zs = l) (hl : ∀ e ∈ l, OkM e) : ∀ z ∈ zs, EzOk z ∧ z.1.data.length ≤ 1000000000 := fun z hz => by
  have := hl z.1 (by rw [← h]; exact List.mem_map.2 ⟨z, hz, rfl⟩)
  exact ⟨⟨this.1, this.2.1, this.2.2.1⟩, this.2.2.2⟩
theorem mes_okM {zs : List Ez} (h1 : ∀ z ∈ zs, EzOk z) (h2 : ∀ z ∈ zs, z.1.data.length ≤ 1000000000) : ∀ e ∈ mes zs, OkM e := fun e he => by
  obtain ⟨z, hz, rfl⟩ := List.mem_map.1 he
  exact ⟨(h1 z hz).1, (h1 z hz).2.1, (h1 z hz).2.2, h2 z hz⟩
end Go.Proofs.Ytmmonehpfmlmeaa

