import Derived.Test.YtmmonehpfmlmeaaHm35
/- What a leader's entries leave: plain mathematics. -/
namespace RlogMath
open QuorumMath
theorem lastM_cons (b e : Me) (l : List Me) : lastM b (e :: l) = lastM e l := by
  unfold lastM
  cases l with
  | nil => rfl
  | cons x l => simp [List.getLast?_cons_cons]; cases h : (x :: l).getLast? <;> simp_all
/-- The last index and term behind an index and a term. -/
def lastP (p : Nat × Nat) (l : List Me) : Nat × Nat := lastM ⟨p.1, p.2, 0, []⟩ l
theorem lastM_P (b : Me) (l : List Me) : lastM b l = lastP (b.idx, b.term) l := by
  unfold lastP lastM
  cases l.getLast? <;> rfl
theorem lastP_nil (p : Nat × Nat) : lastP p [] = p := rfl
theorem lastP_cons (p : Nat × Nat) (e : Me) (l : List Me) : lastP p (e :: l) = lastP (e.idx, e.term) l := by
  unfold lastP
  rw [lastM_cons]
  exact lastM_P e l
theorem lastP_at {p : Nat × Nat} {l : List Me} {k : Nat} {e : Me} (h : l[k]? = some e) (hk : k + 1 = l.length) : lastP p l = (e.idx, e.term) := by
  unfold lastP lastM
  rw [List.getLast?_eq_getElem?, show l.length - 1 = k by omega, h]
theorem beh_app : ∀ (l m : List Me) (p : Nat × Nat), behB p.1 p.2 (l ++ m) = (behB p.1 p.2 l && behB (lastP p l).1 (lastP p l).2 m)
  | [], m, p => by rw [List.nil_append, lastP_nil, behB]; simp
  | e :: l, m, p => by
    rw [List.cons_append, behB, behB, lastP_cons]
    have := beh_app l m (e.idx, e.term)
    rw [show behB e.idx e.term (l ++ m) = _ from this]
    simp only [Bool.and_assoc]
theorem beh_take {l : List Me} {p : Nat × Nat} (k : Nat) (h : behB p.1 p.2 l = true) : behB p.1 p.2 (l.take k) = true ∧ behB (lastP p (l.take k)).1 (lastP p (l.take k)).2 (l.drop k) = true := by
  have := beh_app (l.take k) (l.drop k) p
  rw [List.take_append_drop, h] at this
  simpa using this.symm
theorem ag_at : ∀ {l m : List Me} {i : Nat}, i < agM l m → ∃ e f, l[i]? = some e ∧ m[i]? = some f ∧ e.term = f.term
  | [], m, i, h => by rw [agM_nil_l] at h; omega
  | e :: l, [], i, h => by rw [agM_nil_r] at h; omega
  | e :: l, f :: m, i, h => by
    rw [agM] at h
    split at h
    · cases i with
      | zero => exact ⟨e, f, rfl, rfl, by assumption⟩
      | succ i => exact ag_at (l := l) (m := m) (i := i) (by omega)
    · omega
theorem term_at {b : Me} {l : List Me} (h : mayB b l = true) {j : Nat} {e : Me} (he : l[j]? = some e) : termM b l e.idx = some e.term := by
  have hi := may_num h he
  unfold termM
  rw [if_neg (by omega)]
  have hF : ∃ t, termF l e.idx = some t := by
    cases ht : termF l e.idx with
    | some t => exact ⟨t, rfl⟩
    | none =>
      exfalso
      have : ∀ (l : List Me), e ∈ l → termF l e.idx ≠ none := fun l => by
        induction l with
        | nil => intro h; simp at h
        | cons a l ih =>
          intro h
          rw [termF]
          split
          · simp
          · rename_i hne
            rw [List.mem_cons] at h
            rcases h with rfl | h
            · exact absurd rfl hne
            · exact ih h
      exact this l (List.mem_of_getElem? he) ht
  obtain ⟨t, ht⟩ := hF
  obtain ⟨k, e', h1, h2, h3⟩ := termF_in ht
  have h4 := may_num h h1
  have h5 : k = j := by omega
  subst h5
  rw [he] at h1
  cases h1
  rw [ht, h3]
/-- Where both come to the same end. -/
theorem mrg_join {b : Me} {l : List Me} {x t : Nat} {es : List Me} (h : mayB b l = true) (h2 : behB x t es = true) (ht : termM b l x = some t) {n : Nat} (hn : n ≤ agM (l.drop (x - b.idx)) es) : lastP (b.idx, b.term) (l.take (x - b.idx + n)) = lastP (x, t) (es.take n) := by
  obtain ⟨p1, p2⟩ := term_place h ht
  obtain ⟨q, hq⟩ : ∃ q, q = x - b.idx := ⟨_, rfl⟩
  rw [← hq] at p2 hn ⊢
  have hle := agM_le (l.drop q) es
  rw [List.length_drop] at hle
  cases n with
  | zero =>
    rw [Nat.add_zero, List.take_zero, lastP_nil]
    cases q with
    | zero =>
      rw [List.take_zero, lastP_nil]
      have hx : x = b.idx := by omega
      unfold termM at ht
      rw [if_pos hx] at ht
      cases ht
      rw [hx]
    | succ q =>
      have hk : l[q]? = some l[q] := List.getElem?_eq_getElem (by omega)
      have hk2 : (l.take (q + 1))[q]? = some l[q] := by rw [List.getElem?_take]; simp [hk]
      rw [lastP_at hk2 (by rw [List.length_take]; omega)]
      have h4 := may_num h hk
      have h5 := term_at h hk
      rw [show (l[q]).idx = x by omega, ht] at h5
      rw [h4, ← Option.some.inj h5, show b.idx + 1 + q = x by omega]
  | succ n =>
    obtain ⟨e, f, he, hf, hef⟩ := ag_at (show n < agM (l.drop q) es by omega)
    rw [List.getElem?_drop] at he
    have he2 : (l.take (q + (n + 1)))[q + n]? = some e := by rw [List.getElem?_take, if_pos (by omega), he]
    have hf2 : (es.take (n + 1))[n]? = some f := by rw [List.getElem?_take, if_pos (by omega), hf]
    rw [lastP_at he2 (by rw [List.length_take]; omega), lastP_at hf2 (by rw [List.length_take]; omega)]
    have h4 := may_num h he
    have h5 := beh_num es x t h2 n f hf
    rw [h4, h5, hef, show b.idx + 1 + (q + n) = x + 1 + n by omega]
/-- What a merge leaves. -/
structure Kept (b : Me) (l : List Me) (x : Nat) (es : List Me) (r : Int × Me × List Me × Nat) : Prop where
  base : r.2.1 = b
  may : mayB b r.2.2.1 = true
  old : ∀ (i : Nat) (e : Me), l[i]? = some e → e.idx ≤ x → r.2.2.1[i]? = some e
  new : ∀ (i : Nat) (e : Me), es[i]? = some e → termM b r.2.2.1 e.idx = some e.term
  last : r.2.2.2 ≤ (lastM b r.2.2.1).1
  fin : (lastM b r.2.2.1).1 = r.2.2.2 ∨ (lastM b r.2.2.1).1 = (lastM b l).1
theorem mrg_kept {b : Me} {l : List Me} {x t : Nat} {es : List Me} : (mergeM b l x t es).1 = 0 ∧ Kept b l x es (mergeM b l x t es) ∨ ∃ c, ¬ c = 0 ∧ mergeM b l x t es = (c, zeroMe, [], 0) := by
  by_cases h : mayB b l = true
  · by_cases h2 : behB x t es = true
    · by_cases h3 : x < b.idx
      · exact .inr ⟨7, by decide, mrg_old h h2 h3⟩
      · by_cases h4 : termM b l x = some t
        · obtain ⟨p1, p2⟩ := term_place h h4
          have hl := may_last h
          obtain ⟨n, hn⟩ : ∃ n, n = agM (l.drop (x - b.idx)) es := ⟨_, rfl⟩
          obtain ⟨q, hq⟩ : ∃ q, q = x - b.idx := ⟨_, rfl⟩
          have hag := agM_le (l.drop (x - b.idx)) es
          rw [← hn, List.length_drop, ← hq] at hag
          by_cases h5 : n = es.length
          · refine .inl ?_
            rw [mrg_same h h2 h3 h4 (by rw [← hn]; exact h5)]
            refine ⟨rfl, rfl, h, fun i e he _ => he, fun i e he => ?_, ?_, .inr rfl⟩
            · have hi := (List.getElem?_eq_some_iff.1 he).1
              obtain ⟨a, f, ha, hf, haf⟩ := ag_at (l := l.drop (x - b.idx)) (m := es) (i := i) (by omega)
              rw [he] at hf
              cases hf
              rw [List.getElem?_drop] at ha
              have h6 := may_num h ha
              have h7 := beh_num es x t h2 i e he
              have h8 := term_at h ha
              rw [← haf, ← h8, show e.idx = a.idx by omega]
            · show x + es.length ≤ (lastM b l).1
              omega
          · by_cases h6 : 4096 < x - b.idx + es.length
            · exact .inr ⟨2, by decide, mrg_full h h2 h3 h4 (by rw [← hn]; exact h5) h6⟩
            · refine .inl ?_
              have hj := mrg_join h h2 h4 (n := n) (by omega)
              rw [mrg_ok h h2 h3 h4 (by rw [← hn]; exact h5) h6, ← hn]
              rw [← hq] at hj h6 ⊢
              have hK : mayB b (l.take (q + n) ++ es.drop n) = true := by
                have hlen : (l.take (q + n) ++ es.drop n).length ≤ 4096 := by rw [List.length_append, List.length_take, List.length_drop]; omega
                have hb := beh_app (l.take (q + n)) (es.drop n) (b.idx, b.term)
                have hb1 := (beh_take (p := (b.idx, b.term)) (q + n) (may_beh h)).1
                have hb2 := (beh_take (p := (x, t)) n h2).2
                rw [← hj] at hb2
                rw [hb1, hb2] at hb
                unfold mayB at h ⊢
                simp only [Bool.and_eq_true, decide_eq_true_eq] at h ⊢
                exact ⟨⟨h.1.1, hlen⟩, hb⟩
              have hold : ∀ (i : Nat) (e : Me), l[i]? = some e → i < q + n → (l.take (q + n) ++ es.drop n)[i]? = some e := fun i e he hi => by
                have h7 := (List.getElem?_eq_some_iff.1 he).1
                rw [List.getElem?_append_left (by rw [List.length_take]; omega), List.getElem?_take, if_pos hi, he]
              have hlast := may_last hK
              have hKl : (l.take (q + n) ++ es.drop n).length = q + es.length := by rw [List.length_append, List.length_take, List.length_drop]; omega
              refine ⟨rfl, rfl, hK, fun i e he hi => hold i e he ?_, fun i e he => ?_, ?_, .inl ?_⟩
              · have := may_num h he
                omega
              · have hi := (List.getElem?_eq_some_iff.1 he).1
                have h7 := beh_num es x t h2 i e he
                by_cases hin : i < n
                · obtain ⟨a, f, ha, hf, haf⟩ := ag_at (l := l.drop (x - b.idx)) (m := es) (i := i) (by omega)
                  rw [he] at hf
                  cases hf
                  rw [List.getElem?_drop, ← hq] at ha
                  have h8 := hold (q + i) a ha (by omega)
                  have h9 := may_num hK h8
                  have h10 := term_at hK h8
                  show termM b (l.take (q + n) ++ es.drop n) e.idx = some e.term
                  rw [← haf, ← h10, show e.idx = a.idx by omega]
                · have h8 : (l.take (q + n) ++ es.drop n)[q + i]? = some e := by
                    rw [List.getElem?_append_right (by rw [List.length_take]; omega), List.length_take, List.getElem?_drop, ← he]
                    congr 1
                    omega
                  exact term_at hK h8
              · show x + es.length ≤ (lastM b (l.take (q + n) ++ es.drop n)).1
                omega
              · show (lastM b (l.take (q + n) ++ es.drop n)).1 = x + es.length
                omega
        · exact .inr ⟨12, by decide, mrg_gap h h2 h3 h4⟩
    · exact .inr ⟨1, by decide, mrg_bad (by simpa using h2)⟩
  · exact .inr ⟨1, by decide, mrg_no (by simpa using h)⟩
end RlogMath

