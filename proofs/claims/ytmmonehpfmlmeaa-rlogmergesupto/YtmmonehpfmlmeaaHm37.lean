import Derived.Test.YtmmonehpfmlmeaaHm36
/- The document's Merge, entry by entry: plain mathematics. -/
namespace RlogMath
open QuorumMath
/-- One entry of a leader's. -/
def stepM (b : Me) (L : List Me) (e : Me) : List Me := if termM b L e.idx = some e.term then L else (L.filter fun a => decide (a.idx < e.idx)) ++ [e]
def NumB (b : Me) (L : List Me) : Prop := ∀ (k : Nat) (e : Me), L[k]? = some e → e.idx = b.idx + 1 + k
theorem num_termF : ∀ (L : List Me) (s : Nat), (∀ (k : Nat) (e : Me), L[k]? = some e → e.idx = s + 1 + k) → ∀ j, termF L (s + 1 + j) = L[j]?.map fun e => e.term
  | [], s, h, j => by simp [termF]
  | a :: L, s, h, j => by
    have h0 : a.idx = s + 1 + 0 := h 0 a rfl
    rw [termF]
    cases j with
    | zero => rw [if_pos (by omega)]; rfl
    | succ j =>
      rw [if_neg (by omega)]
      have := num_termF L (s + 1) (fun k e he => by have := h (k + 1) e (by simpa using he); omega) j
      rw [show s + 1 + (j + 1) = s + 1 + 1 + j by omega, this]
      simp
theorem num_termM {b : Me} {L : List Me} (h : NumB b L) (j : Nat) : termM b L (b.idx + 1 + j) = L[j]?.map fun e => e.term := by
  unfold termM
  rw [if_neg (by omega)]
  exact num_termF L b.idx h j
theorem num_filter {b : Me} {L : List Me} (h : NumB b L) (j : Nat) : (L.filter fun a => decide (a.idx < b.idx + 1 + j)) = L.take j := by
  have h1 : ∀ e ∈ L.take j, e.idx < b.idx + 1 + j := fun e he => by
    obtain ⟨k, hk⟩ := List.getElem?_of_mem he
    rw [List.getElem?_take] at hk
    split at hk
    · have := h k e hk
      omega
    · cases hk
  have h2 : ∀ e ∈ L.drop j, ¬ e.idx < b.idx + 1 + j := fun e he => by
    obtain ⟨k, hk⟩ := List.getElem?_of_mem he
    rw [List.getElem?_drop] at hk
    have := h (j + k) e hk
    omega
  conv => lhs; rw [← List.take_append_drop j L]
  rw [List.filter_append, List.filter_eq_self.2 (fun e he => by simpa using h1 e he), List.filter_eq_nil_iff.2 (fun e he => by simpa using h2 e he), List.append_nil]
theorem num_step {b : Me} {L : List Me} (h : NumB b L) {e : Me} {j : Nat} (he : e.idx = b.idx + 1 + j) : stepM b L e = if (L[j]?.map fun a => a.term) = some e.term then L else L.take j ++ [e] := by
  unfold stepM
  rw [he, num_termM h, num_filter h]
theorem fold_at {b : Me} {l : List Me} {x t : Nat} {es : List Me} (h : mayB b l = true) (h2 : behB x t es = true) (ht : termM b l x = some t) : ∀ i, i ≤ es.length → (es.take i).foldl (stepM b) l = if i ≤ agM (l.drop (x - b.idx)) es then l else l.take (x - b.idx + agM (l.drop (x - b.idx)) es) ++ (es.take i).drop (agM (l.drop (x - b.idx)) es) := by
  obtain ⟨p1, p2⟩ := term_place h ht
  obtain ⟨q, hq⟩ : ∃ q, q = x - b.idx := ⟨_, rfl⟩
  rw [← hq] at p2 ⊢
  have hle := agM_le (l.drop q) es
  rw [List.length_drop] at hle
  obtain ⟨n, hn⟩ : ∃ n, n = agM (l.drop q) es := ⟨_, rfl⟩
  rw [← hn] at hle ⊢
  have hnl : NumB b l := fun k e he => may_num h he
  intro i
  induction i with
  | zero => intro _; rw [List.take_zero, if_pos (by omega)]; rfl
  | succ i ih =>
    intro hi
    have he : es[i]? = some es[i] := List.getElem?_eq_getElem (by omega)
    obtain ⟨e, hee⟩ : ∃ e, e = es[i] := ⟨_, rfl⟩
    rw [← hee] at he
    have hei := beh_num es x t h2 i e he
    have htk : es.take (i + 1) = es.take i ++ [e] := by rw [List.take_succ_eq_append_getElem (by omega), hee]
    rw [htk, List.foldl_append, ih (by omega)]
    show stepM b _ e = _
    have hej : e.idx = b.idx + 1 + (q + i) := by omega
    by_cases h1 : i < n
    · rw [if_pos (by omega), if_pos (by omega), num_step hnl hej]
      obtain ⟨a, f, ha, hf, haf⟩ := ag_at (l := l.drop q) (m := es) (i := i) (by omega)
      rw [List.getElem?_drop] at ha
      rw [he] at hf
      cases hf
      rw [if_pos (by rw [ha]; simp [haf])]
    · by_cases h3 : i = n
      · subst h3
        rw [if_pos (by omega), if_neg (by omega), num_step hnl hej]
        have hne : ¬ (l[q + i]?.map fun a => a.term) = some e.term := fun hc => by
          cases hl : l[q + i]? with
          | none => rw [hl] at hc; cases hc
          | some a =>
            rw [hl] at hc
            have hat : a.term = e.term := Option.some.inj hc
            have h9 := agM_at (l := l.drop q) (m := es) (k := i) (e := a) (f := e) (by rw [List.getElem?_drop]; exact hl) he
            have h10 : ∀ (l m : List Me) (k : Nat), k ≤ agM l m → agM l m = k + agM (l.drop k) (m.drop k) := fun l m k => by
              induction k generalizing l m with
              | zero => intro _; simp
              | succ k ihk =>
                intro hk
                match l, m, hk with
                | [], m, hk => rw [agM_nil_l] at hk; omega
                | _ :: _, [], hk => rw [agM_nil_r] at hk; omega
                | u :: l, v :: m, hk =>
                  rw [agM] at hk ⊢
                  split at hk
                  · rename_i huv
                    rw [if_pos huv, List.drop_succ_cons, List.drop_succ_cons, ihk l m (by omega)]
                    omega
                  · omega
            have h11 := h10 (l.drop q) es i (by omega)
            rw [h9, if_pos hat] at h11
            omega
        rw [if_neg hne, List.drop_append_of_le_length (by rw [List.length_take]; omega), List.drop_eq_nil_of_le (by rw [List.length_take]; omega), List.nil_append]
      · have hL : NumB b (l.take (q + n) ++ (es.take i).drop n) := fun k a ha => by
          by_cases hk : k < q + n
          · rw [List.getElem?_append_left (by rw [List.length_take]; omega), List.getElem?_take, if_pos hk] at ha
            exact hnl k a ha
          · rw [List.getElem?_append_right (by rw [List.length_take]; omega), List.length_take, List.getElem?_drop, List.getElem?_take] at ha
            split at ha
            · have := beh_num es x t h2 _ a ha
              omega
            · cases ha
        have hlen : (l.take (q + n) ++ (es.take i).drop n).length = q + i := by rw [List.length_append, List.length_take, List.length_drop, List.length_take]; omega
        rw [if_neg (by omega), if_neg (by omega), num_step hL hej]
        rw [if_neg (by rw [List.getElem?_eq_none (by omega)]; simp), List.take_of_length_le (by omega), List.append_assoc, List.drop_append_of_le_length (by rw [List.length_take]; omega)]
theorem fold_all {b : Me} {l : List Me} {x t : Nat} {es : List Me} (h : mayB b l = true) (h2 : behB x t es = true) (h3 : ¬ x < b.idx) (ht : termM b l x = some t) : mergeM b l x t es = if 4096 < (es.foldl (stepM b) l).length then (2, zeroMe, [], 0) else (0, b, es.foldl (stepM b) l, x + es.length) := by
  have hf := fold_at h h2 ht es.length (Nat.le_refl _)
  rw [List.take_length] at hf
  obtain ⟨p1, p2⟩ := term_place h ht
  have hle := agM_le (l.drop (x - b.idx)) es
  rw [List.length_drop] at hle
  have hl := may_last h
  by_cases h5 : agM (l.drop (x - b.idx)) es = es.length
  · rw [if_pos (by omega)] at hf
    rw [hf, if_neg (by omega), mrg_same h h2 h3 ht h5]
  · rw [if_neg (by omega)] at hf
    rw [hf]
    have hlen : (l.take (x - b.idx + agM (l.drop (x - b.idx)) es) ++ es.drop (agM (l.drop (x - b.idx)) es)).length = x - b.idx + es.length := by rw [List.length_append, List.length_take, List.length_drop]; omega
    rw [hlen]
    by_cases h6 : 4096 < x - b.idx + es.length
    · rw [if_pos h6, mrg_full h h2 h3 ht h5 h6]
    · rw [if_neg h6, mrg_ok h h2 h3 ht h5 h6]
theorem fold_len {b : Me} : ∀ (es l : List Me), (es.foldl (stepM b) l).length ≤ l.length + es.length
  | [], l => by simp
  | e :: es, l => by
    have h1 := fold_len (b := b) es (stepM b l e)
    have h2 : (stepM b l e).length ≤ l.length + 1 := by
      unfold stepM
      split
      · omega
      · rw [List.length_append]
        have := List.length_filter_le (fun a : Me => decide (a.idx < e.idx)) l
        simp
        omega
    rw [List.foldl_cons, List.length_cons]
    omega
end RlogMath

