import Derived.Test.YtoipjmjhplkibaaDoorP12
/- Plain mathematics of frames, more: the frame at the beginning of bytes is found by the first three bytes; and as the document's own Next finds it, trying one length after the other. -/
namespace FrameMath
open WireMath CrcMath

theorem rd_parts {l : List Nat} {n k : Nat} (hl : ∀ c ∈ l, c < 256) (h : rd 10 0 0 l = some (n, k)) : n < 18446744073709551616 ∧ 0 < k ∧ k ≤ 10 ∧ k ≤ l.length := by
  obtain ⟨h1, h2, h3, h4⟩ := canonical l hl n k h
  refine ⟨h4, by rw [h2]; exact uv_pos n, h3, ?_⟩
  have := congrArg List.length h1
  rw [List.length_take] at this
  omega

theorem next_gap {l : List Nat} (h : l.length < 3) (ha : (l.all fun c => decide (128 ≤ c)) = true) : next l = .error 12 := by
  unfold next
  have hx : ∀ x ∈ l, 128 ≤ x := fun x hx => by simpa using List.all_eq_true.1 ha x hx
  rw [rd_open l 10 0 0 hx]
  have : openB l = true := by
    unfold openB
    rw [Bool.and_eq_true, decide_eq_true_eq]
    exact ⟨by omega, ha⟩
  simp [this]

theorem next_num {l : List Nat} {s k : Nat} (hl : ∀ c ∈ l, c < 256) (hr : rd 10 0 0 (l.take 3) = some (s, k)) : next l = body l s k ∧ 0 < k ∧ k ≤ 3 ∧ k ≤ l.length := by
  have hl3 : ∀ c ∈ l.take 3, c < 256 := fun c hc => hl c (List.mem_of_mem_take hc)
  obtain ⟨h1, h2, h3, h4⟩ := rd_parts hl3 hr
  have h5 := (canonical _ hl3 s k hr).1
  rw [List.length_take] at h4
  rw [List.take_take, Nat.min_eq_left (by omega)] at h5
  have := rd_of_take h5 h1 (by omega)
  refine ⟨?_, h2, by omega, by omega⟩
  unfold next
  rw [this]

theorem next_bad {l : List Nat} (hl : ∀ c ∈ l, c < 256) (h : ¬ (l.length < 3 ∧ (l.all fun c => decide (128 ≤ c)) = true)) (hr : rd 10 0 0 (l.take 3) = none) : next l = .error 5 := by
  unfold next
  cases hn : rd 10 0 0 l with
  | none =>
    have : openB l = false := by
      rw [Bool.eq_false_iff]
      intro ho
      unfold openB at ho
      rw [Bool.and_eq_true, decide_eq_true_eq] at ho
      exact h ⟨by omega, ho.2⟩
    simp [this]
  | some x =>
    obtain ⟨s, k⟩ := x
    obtain ⟨h1, h2, h3, h4⟩ := canonical l hl s k hn
    obtain ⟨_, g2, _, g4⟩ := rd_parts hl hn
    have hk : ¬ k ≤ 3 := by
      intro hk
      have e : (l.take 3).take k = uv s := by rw [List.take_take, Nat.min_eq_left hk, h1]
      have := rd_of_take e h4 (by rw [List.length_take]; omega)
      rw [hr] at this
      cases this
    have hs : ¬ s < 128 ^ 3 := fun hs => by
      have := uv_len (k := 2) hs
      omega
    show body l s k = _
    unfold body
    rw [if_pos (.inr (by omega))]

/-- A body is as Seal makes it just where its first four bytes are the sum of the others. -/
theorem sealed_iff {B : List Nat} : sealed (B.drop 4) = B ↔ B.take 4 = be4 (crcSum (B.drop 4)) := by
  unfold sealed
  constructor
  · intro h
    have := congrArg (List.take 4) h
    rw [List.take_left' (by simp [be4])] at this
    exact this.symm
  · intro h
    rw [← h, List.take_append_drop]

theorem body_small {l : List Nat} {s k : Nat} (h : s < 5 ∨ 1048576 < s) : body l s k = .error 5 := by
  unfold body
  rw [if_pos h]
theorem body_gap {l : List Nat} {s k : Nat} (h5 : 5 ≤ s) (h20 : s ≤ 1048576) (h : l.length < k + s) (hk : k ≤ l.length) : body l s k = .error 12 := by
  unfold body
  rw [if_neg (by omega), if_pos (by omega)]
theorem body_text {l : List Nat} {s k : Nat} (h5 : 5 ≤ s) (h20 : s ≤ 1048576) (h : k + s ≤ l.length) (hs : ¬ ((l.drop k).take s).take 4 = be4 (crcSum (((l.drop k).take s).drop 4))) : body l s k = .error 5 := by
  unfold body
  rw [if_neg (by omega), if_neg (by omega), if_neg (fun h => hs (sealed_iff.1 h))]
theorem body_ok {l : List Nat} {s k : Nat} (h5 : 5 ≤ s) (h20 : s ≤ 1048576) (h : k + s ≤ l.length) (hs : ((l.drop k).take s).take 4 = be4 (crcSum (((l.drop k).take s).drop 4))) : body l s k = .ok ((((l.drop k).take s)[4]?.getD 0), (((l.drop k).take s).drop 5), (k + s)) := by
  unfold body
  rw [if_neg (by omega), if_neg (by omega), if_pos (sealed_iff.2 hs)]

/-- What the document's own value tells of bytes: the number, and whether it has just these bytes. -/
theorem value_iff {l : List Nat} {n : Nat} (hl : ∀ c ∈ l, c < 256) (hn : n ≤ l.length) : uv (((rd 10 0 0 (l.take n)).getD (0, 0)).1) = l.take n ↔ ∃ N, rd 10 0 0 l = some (N, n) ∧ N = ((rd 10 0 0 (l.take n)).getD (0, 0)).1 := by
  have hl' : ∀ c ∈ l.take n, c < 256 := fun c hc => hl c (List.mem_of_mem_take hc)
  have hlen : (l.take n).length = n := by rw [List.length_take]; omega
  constructor
  · intro h
    refine ⟨_, ?_, rfl⟩
    cases hr : rd 10 0 0 (l.take n) with
    | none =>
      rw [hr] at h
      have : rd 10 0 0 (l.take n) = some (0, 1) := by rw [← h]; show rd 10 0 0 (uv 0) = _; rw [uv_lt (by decide)]; rfl
      rw [hr] at this
      cases this
    | some x =>
      rw [hr] at h
      exact rd_of_take h.symm (rd_parts hl' hr).1 hn
  · rintro ⟨N, h1, h2⟩
    obtain ⟨g1, g2, g3, g4⟩ := canonical l hl N n h1
    have : rd 10 0 0 (l.take n) = some (N, n) := by
      have := read_back N g4 []
      rw [List.append_nil, ← g1, hlen] at this
      exact this
    rw [this]
    exact g1.symm

theorem value_back {l : List Nat} {n N : Nat} (hl : ∀ c ∈ l, c < 256) (hn : n ≤ l.length) (h1 : rd 10 0 0 l = some (N, n)) : rd 10 0 0 (l.take n) = some (N, n) ∧ uv N = l.take n := by
  obtain ⟨g1, g2, g3, g4⟩ := canonical l hl N n h1
  have := read_back N g4 []
  rw [List.append_nil, ← g1, List.length_take, Nat.min_eq_left hn] at this
  exact ⟨this, g1.symm⟩

theorem next_ok_facts {l : List Nat} {k n : Nat} {d : List Nat} (h : next l = .ok (k, d, n)) : 0 < n ∧ n ≤ l.length ∧ d.length ≤ l.length ∧ (∀ c ∈ d, c ∈ l) := by
  unfold next at h
  split at h
  · rename_i s m hr
    unfold body at h
    split at h
    · cases h
    · split at h
      · cases h
      · split at h
        · simp only [Except.ok.injEq, Prod.mk.injEq] at h
          obtain ⟨_, h2, h3⟩ := h
          refine ⟨by omega, ?_, ?_, ?_⟩
          · rename_i a b c
            by_cases hm : m ≤ l.length
            · omega
            · omega
          · rw [← h2]; simp; omega
          · intro c hc
            rw [← h2] at hc
            exact List.mem_of_mem_drop (List.mem_of_mem_take (List.mem_of_mem_drop hc))
        · cases h
  · split at h <;> cases h
theorem next_err_lt {l : List Nat} {e : Nat} (h : next l = .error e) : e = 5 ∨ e = 12 := by
  unfold next at h
  split at h
  · unfold body at h
    split at h
    · cases h; exact .inl rfl
    · split at h
      · cases h; exact .inr rfl
      · split at h
        · cases h
        · cases h; exact .inl rfl
  · split at h
    · cases h; exact .inr rfl
    · cases h; exact .inl rfl
end FrameMath

