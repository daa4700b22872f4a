
/- Plain mathematics of numbers as bytes: digits to the base 128, and that a reader that takes no other form reads back just what was written. -/
namespace WireMath

/-- A number's bytes. -/
def uv (n : Nat) : List Nat := if h : n < 128 then [n] else (n % 128 + 128) :: uv (n / 128)
theorem uv_lt {n : Nat} (h : n < 128) : uv n = [n] := by rw [uv]; simp [h]
theorem uv_ge {n : Nat} (h : ¬ n < 128) : uv n = (n % 128 + 128) :: uv (n / 128) := by rw [uv]; simp [h]

theorem uv_bytes (n : Nat) : ∀ c ∈ uv n, c < 256 := by
  induction n using Nat.strongRecOn with
  | _ n ih =>
    by_cases h : n < 128
    · rw [uv_lt h]; simp; omega
    · rw [uv_ge h]
      intro c hc
      rcases List.mem_cons.1 hc with rfl | hc
      · omega
      · exact ih (n / 128) (by omega) c hc

theorem uv_pos (n : Nat) : 0 < (uv n).length := by
  by_cases h : n < 128
  · rw [uv_lt h]; simp
  · rw [uv_ge h]; simp

theorem uv_len {k n : Nat} (h : n < 128 ^ (k + 1)) : (uv n).length ≤ k + 1 := by
  induction k generalizing n with
  | zero => rw [uv_lt (by simpa using h)]; simp
  | succ k ih =>
    by_cases h1 : n < 128
    · rw [uv_lt h1]; simp
    · rw [uv_ge h1]
      have := ih (n := n / 128) (by rw [Nat.pow_succ] at h; omega)
      simpa using this

theorem uv_len10 {n : Nat} (h : n < 18446744073709551616) : (uv n).length ≤ 10 := uv_len (k := 9) (by omega)

/-- The reader: 'f' bytes may still come, 'i' have come, their digits make 'n'. What it gives: the number, and how many bytes it has. -/
def rd : Nat → Nat → Nat → List Nat → Option (Nat × Nat)
  | 0, _, _, _ => none
  | _ + 1, _, _, [] => none
  | f + 1, i, n, c :: r =>
    if i = 9 ∧ 1 < c % 128 then none
    else if c < 128 then (if c = 0 ∧ 0 < i then none else some (n + c * 128 ^ i, i + 1))
    else rd f (i + 1) (n + (c % 128) * 128 ^ i) r

theorem rd_uv (m : Nat) : ∀ (f i n : Nat) (rest : List Nat), f + i = 10 → (0 < i → 0 < m) → (uv m).length ≤ f → (i + (uv m).length = 10 → m < 2 * 128 ^ (9 - i)) →
    rd f i n (uv m ++ rest) = some (n + m * 128 ^ i, i + (uv m).length) := by
  induction m using Nat.strongRecOn with
  | _ m ih =>
    intro f i n rest hf hm hlen hbig
    obtain ⟨f, rfl⟩ : ∃ g, f = g + 1 := ⟨f - 1, by have := uv_pos m; omega⟩
    by_cases h : m < 128
    · rw [uv_lt h] at hbig ⊢
      simp only [List.cons_append, List.nil_append, rd]
      have h9 : ¬ (i = 9 ∧ 1 < m % 128) := by
        rintro ⟨rfl, h2⟩
        have := hbig (by simp)
        simp at this
        omega
      rw [if_neg h9, if_pos h, if_neg (by rintro ⟨h1, h2⟩; have := hm h2; omega)]
      simp
    · rw [uv_ge h] at hlen hbig ⊢
      simp only [List.length_cons] at hlen hbig
      have hp := uv_pos (m / 128)
      simp only [List.cons_append, rd]
      rw [if_neg (by omega), if_neg (by omega)]
      have hmod : (m % 128 + 128) % 128 = m % 128 := by omega
      rw [hmod, ih (m / 128) (by omega) f (i + 1) _ rest (by omega) (by omega) (by omega) ?_]
      · have e : n + m % 128 * 128 ^ i + m / 128 * 128 ^ (i + 1) = n + m * 128 ^ i := by
          have h1 : m * 128 ^ i = (m % 128) * 128 ^ i + (m / 128) * (128 ^ i * 128) := by
            have hm : m = m % 128 + m / 128 * 128 := by omega
            conv => lhs; rw [hm]
            rw [Nat.add_mul, Nat.mul_assoc, Nat.mul_comm 128 (128 ^ i)]
          rw [Nat.pow_succ, h1]
          omega
        rw [e]
        simp only [List.length_cons]
        congr 2
        omega
      · intro h10
        have h1 := hbig (by omega)
        have hi : i ≤ 8 := by omega
        obtain ⟨j, hj⟩ : ∃ j, 9 - i = j + 1 := ⟨8 - i, by omega⟩
        have hj' : 9 - (i + 1) = j := by omega
        rw [hj']
        rw [hj, Nat.pow_succ] at h1
        omega

/-- What was written is read back. -/
theorem read_back (n : Nat) (h : n < 18446744073709551616) (rest : List Nat) : rd 10 0 0 (uv n ++ rest) = some (n, (uv n).length) := by
  have := rd_uv n 10 0 0 rest rfl (by simp) (uv_len10 h) (by intro _; simpa using (show n < 2 * 128 ^ 9 by omega))
  simpa using this

/-- What is read is just what is written: no number has two forms. -/
theorem rd_form : ∀ (f i n : Nat) (l : List Nat) (v k : Nat), f + i = 10 → (∀ c ∈ l, c < 256) → rd f i n l = some (v, k) →
    ∃ m, v = n + m * 128 ^ i ∧ k = i + (uv m).length ∧ l.take (uv m).length = uv m ∧ (0 < i → 0 < m) ∧ (k ≤ 10) ∧ (k = 10 → m < 2 * 128 ^ (9 - i))
  | 0, _, _, _, _, _, _, _, h => by simp [rd] at h
  | f + 1, i, n, [], _, _, _, _, h => by simp [rd] at h
  | f + 1, i, n, c :: r, v, k, hf, hb, h => by
    have hc : c < 256 := hb c (by simp)
    simp only [rd] at h
    by_cases h9 : i = 9 ∧ 1 < c % 128
    · rw [if_pos h9] at h; cases h
    rw [if_neg h9] at h
    by_cases h1 : c < 128
    · rw [if_pos h1] at h
      by_cases h0 : c = 0 ∧ 0 < i
      · rw [if_pos h0] at h; cases h
      rw [if_neg h0] at h
      cases h
      refine ⟨c, rfl, by rw [uv_lt h1]; rfl, by rw [uv_lt h1]; rfl, by omega, by omega, ?_⟩
      intro h10
      have : i = 9 := by omega
      subst this
      simp
      omega
    · rw [if_neg h1] at h
      obtain ⟨m, e1, e2, e3, e4, e5, e6⟩ := rd_form f (i + 1) _ r v k (by omega) (fun c' h' => hb c' (List.mem_cons_of_mem _ h')) h
      have hm : 0 < m := e4 (by omega)
      have hu : uv (c % 128 + m * 128) = c :: uv m := by
        rw [uv_ge (by omega)]
        congr 1
        · omega
        · congr 1; omega
      refine ⟨c % 128 + m * 128, ?_, ?_, ?_, by omega, e5, ?_⟩
      · rw [e1, Nat.add_mul, Nat.pow_succ, Nat.mul_assoc m 128, Nat.mul_comm 128 (128 ^ i)]
        omega
      · rw [hu, e2]; simp only [List.length_cons]; omega
      · rw [hu]; simp only [List.length_cons, List.take_succ_cons, e3]
      · intro h10
        have h6 := e6 h10
        have hp := uv_pos m
        obtain ⟨j, hj⟩ : ∃ j, 9 - i = j + 1 := ⟨8 - i, by omega⟩
        have hj' : 9 - (i + 1) = j := by omega
        rw [hj'] at h6
        rw [hj, Nat.pow_succ]
        omega

theorem uv_val (n : Nat) : n < 128 ^ (uv n).length := by
  induction n using Nat.strongRecOn with
  | _ n ih =>
    by_cases h : n < 128
    · rw [uv_lt h]; simpa using h
    · rw [uv_ge h]
      have := ih (n / 128) (by omega)
      simp only [List.length_cons]
      rw [Nat.pow_succ]
      omega

theorem canonical (l : List Nat) (hb : ∀ c ∈ l, c < 256) (v k : Nat) (h : rd 10 0 0 l = some (v, k)) : l.take k = uv v ∧ k = (uv v).length ∧ k ≤ 10 ∧ v < 18446744073709551616 := by
  obtain ⟨m, e1, e2, e3, _, e5, e6⟩ := rd_form 10 0 0 l v k rfl hb h
  have ev : v = m := by simpa using e1
  subst ev
  have ek : k = (uv v).length := by simpa using e2
  refine ⟨by rw [ek]; exact e3, ek, e5, ?_⟩
  by_cases h10 : k = 10
  · have := e6 h10; simp at this; omega
  · have h1 := uv_val v
    have h2 : 128 ^ (uv v).length ≤ 128 ^ 9 := Nat.pow_le_pow_right (by decide) (by omega)
    omega

end WireMath

