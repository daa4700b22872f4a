
/- Plain mathematics of majorities (stage 12): two majorities of voters that differ by one node at most meet; the greatest number that a majority has. -/
namespace QuorumMath
set_option linter.unusedSimpArgs false
set_option linter.unusedVariables false

/-- Voters: 1 to 7 each, rising; 1 to 7 of them. -/
def Voters (l : List Int) : Prop := 1 ≤ l.length ∧ l.length ≤ 7 ∧ (∀ n ∈ l, 1 ≤ n ∧ n ≤ 7) ∧ l.Pairwise (· < ·)
/-- How many voters are in a list. -/
def cnt (v l : List Int) : Nat := v.countP fun n => decide (n ∈ l)
theorem cnt_nil (l : List Int) : cnt [] l = 0 := rfl
theorem cnt_cons (n : Int) (v l : List Int) : cnt (n :: v) l = cnt v l + if n ∈ l then 1 else 0 := by
  unfold cnt
  rw [List.countP_cons]
  simp
theorem cnt_le (v l : List Int) : cnt v l ≤ v.length := List.countP_le_length

/-- How many have a number at least. -/
def has (ms : List Nat) (c : Nat) : Nat := ms.countP fun m => decide (c ≤ m)
theorem has_zero (ms : List Nat) : has ms 0 = ms.length := by
  unfold has
  rw [List.countP_eq_length]
  simp
/-- The greatest that a majority has; 0: none. -/
def Best (ms : List Nat) (c : Nat) : Prop := (c = 0 ∨ c ∈ ms ∧ ms.length < 2 * has ms c) ∧ ∀ m ∈ ms, ms.length < 2 * has ms m → m ≤ c
theorem best_one {ms : List Nat} {c d : Nat} (h : Best ms c) (k : Best ms d) : c = d := by
  obtain ⟨h1, h2⟩ := h
  obtain ⟨k1, k2⟩ := k
  rcases h1 with h1 | ⟨h1, h3⟩ <;> rcases k1 with k1 | ⟨k1, k3⟩
  · omega
  · have := h2 d k1 k3; omega
  · have := k2 c h1 h3; omega
  · have := h2 d k1 k3
    have := k2 c h1 h3
    omega
/-- As a loop finds it. -/
def bestFrom (ms : List Nat) : Nat → List Nat → Nat
  | b, [] => b
  | b, m :: r => bestFrom ms (if ms.length < 2 * has ms m ∧ b < m then m else b) r
theorem bestFrom_spec (ms : List Nat) : ∀ (r : List Nat) (b : Nat), (∀ m ∈ r, m ∈ ms) → (b = 0 ∨ b ∈ ms ∧ ms.length < 2 * has ms b) → (bestFrom ms b r = 0 ∨ bestFrom ms b r ∈ ms ∧ ms.length < 2 * has ms (bestFrom ms b r)) ∧ b ≤ bestFrom ms b r ∧ ∀ m ∈ r, ms.length < 2 * has ms m → m ≤ bestFrom ms b r
  | [], b, _, hb => ⟨hb, Nat.le_refl _, fun m hm => by cases hm⟩
  | m :: r, b, hr, hb => by
    rw [bestFrom]
    have hm := hr m (by simp)
    by_cases h : ms.length < 2 * has ms m ∧ b < m
    · rw [if_pos h]
      obtain ⟨h1, h2, h3⟩ := bestFrom_spec ms r m (fun x hx => hr x (List.mem_cons_of_mem _ hx)) (.inr ⟨hm, h.1⟩)
      refine ⟨h1, by omega, fun x hx hh => ?_⟩
      rcases List.mem_cons.1 hx with rfl | hx
      · exact h2
      · exact h3 x hx hh
    · rw [if_neg h]
      obtain ⟨h1, h2, h3⟩ := bestFrom_spec ms r b (fun x hx => hr x (List.mem_cons_of_mem _ hx)) hb
      refine ⟨h1, h2, fun x hx hh => ?_⟩
      rcases List.mem_cons.1 hx with rfl | hx
      · have : ¬ b < x := fun hlt => h ⟨hh, hlt⟩
        omega
      · exact h3 x hx hh
theorem bestFrom_best (ms : List Nat) : Best ms (bestFrom ms 0 ms) := by
  obtain ⟨h1, _, h3⟩ := bestFrom_spec ms ms 0 (fun m hm => hm) (.inl rfl)
  exact ⟨h1, h3⟩
/-- A majority has it, if there is anybody. -/
theorem best_has {ms : List Nat} {c : Nat} (h : Best ms c) (hne : 0 < ms.length) : ms.length < 2 * has ms c := by
  rcases h.1 with rfl | h1
  · rw [has_zero]; omega
  · exact h1.2
/-- Where a majority has as much, the greatest is not less. -/
theorem best_ge {ms : List Nat} {c d : Nat} (h : Best ms c) (hd : ms.length < 2 * has ms d) : d ≤ c := by
  -- the least of those that are at least d
  have hpos : 0 < has ms d := by omega
  have key : ∀ n, ∀ x ∈ ms, d ≤ x → x ≤ d + n → ∃ y ∈ ms, d ≤ y ∧ has ms y = has ms d := by
    intro n
    induction n with
    | zero =>
      intro x hx h1 h2
      obtain rfl : x = d := by omega
      exact ⟨x, hx, Nat.le_refl _, rfl⟩
    | succ n ih =>
      intro x hx h1 h2
      by_cases hex : ∃ y ∈ ms, d ≤ y ∧ y < x
      · obtain ⟨y, hy, h3, h4⟩ := hex
        exact ih y hy h3 (by omega)
      · refine ⟨x, hx, h1, ?_⟩
        unfold has
        apply List.countP_congr
        intro y hy
        simp only [decide_eq_true_eq]
        constructor
        · intro h5; omega
        · intro h5
          by_cases h6 : x ≤ y
          · exact h6
          · exact absurd ⟨y, hy, h5, by omega⟩ hex
  obtain ⟨x, hx, h1⟩ : ∃ x ∈ ms, d ≤ x := by
    unfold has at hpos
    rw [List.countP_pos_iff] at hpos
    obtain ⟨x, hx, h1⟩ := hpos
    exact ⟨x, hx, by simpa using h1⟩
  obtain ⟨y, hy, h2, h3⟩ := key (x - d) x hx h1 (by omega)
  have := h.2 y hy (by rw [h3]; exact hd)
  omega
/-- It is known by what a majority has. -/
theorem best_iff {ms : List Nat} {c : Nat} (hne : 0 < ms.length) : Best ms c ↔ ms.length < 2 * has ms c ∧ ∀ d, ms.length < 2 * has ms d → d ≤ c := by
  constructor
  · intro h
    exact ⟨best_has h hne, fun d hd => best_ge h hd⟩
  · rintro ⟨h1, h2⟩
    refine ⟨?_, fun m _ hm => h2 m hm⟩
    by_cases h0 : c = 0
    · exact .inl h0
    · refine .inr ⟨?_, h1⟩
      -- else one more would do
      have hb := bestFrom_best ms
      have hbh := best_has hb hne
      have h3 := h2 _ hbh
      have h4 := best_ge hb h1
      obtain e : c = bestFrom ms 0 ms := by omega
      rcases hb.1 with h5 | h5
      · omega
      · rw [e]; exact h5.1
/-- In a row that falls, it stands at half of their number. -/
theorem best_sorted {s : List Nat} (hs : s.Pairwise (fun a b => b ≤ a)) (hne : 0 < s.length) : Best s (s[s.length / 2]'(by omega)) := by
  rw [best_iff hne]
  have hp := List.pairwise_iff_getElem.1 hs
  have cnt_ge : ∀ (s : List Nat) (k c : Nat), s.Pairwise (fun a b => b ≤ a) → (hk : k < s.length) → c ≤ s[k] → k + 1 ≤ has s c := by
    intro s
    induction s with
    | nil => intro k c _ hk; simp at hk
    | cons x s ih =>
      intro k c hs hk hc
      have hx := List.pairwise_cons.1 hs
      cases k with
      | zero =>
        simp only [List.getElem_cons_zero] at hc
        unfold has
        rw [List.countP_cons]
        simp [hc]
      | succ k =>
        simp only [List.getElem_cons_succ] at hc
        have hk' : k < s.length := by simpa using hk
        have h1 := ih k c hx.2 hk' hc
        have h2 := hx.1 s[k] (List.getElem_mem _)
        have h3 : c ≤ x := by omega
        unfold has at h1 ⊢
        rw [List.countP_cons]
        simp [h3]
        omega
  have cnt_lt : ∀ (s : List Nat) (k c : Nat), s.Pairwise (fun a b => b ≤ a) → (hk : k < s.length) → s[k] < c → has s c ≤ k := by
    intro s
    induction s with
    | nil => intro k c _ hk; simp at hk
    | cons x s ih =>
      intro k c hs hk hc
      have hx := List.pairwise_cons.1 hs
      cases k with
      | zero =>
        simp only [List.getElem_cons_zero] at hc
        unfold has
        rw [Nat.le_zero, List.countP_eq_zero]
        intro y hy
        simp only [decide_eq_true_eq]
        rcases List.mem_cons.1 hy with rfl | hy
        · omega
        · have := hx.1 y hy; omega
      | succ k =>
        simp only [List.getElem_cons_succ] at hc
        have hk' : k < s.length := by simpa using hk
        have h1 := ih k c hx.2 hk' hc
        unfold has at h1 ⊢
        rw [List.countP_cons]
        split <;> omega
  refine ⟨?_, fun d hd => ?_⟩
  · have := cnt_ge s (s.length / 2) _ hs (by omega) (Nat.le_refl _)
    omega
  · by_cases h : d ≤ s[s.length / 2]'(by omega)
    · exact h
    · have := cnt_lt s (s.length / 2) d hs (by omega) (by omega)
      omega
/-- The order does not matter. -/
theorem best_perm {ms ns : List Nat} {c : Nat} (h : ms.Perm ns) (hb : Best ms c) : Best ns c := by
  have hl := h.length_eq
  have hh : ∀ x, has ns x = has ms x := fun x => (h.countP_eq _).symm
  refine ⟨?_, fun m hm hx => hb.2 m (h.symm.subset hm) (by rw [hh] at hx; omega)⟩
  rcases hb.1 with h1 | ⟨h1, h2⟩
  · exact .inl h1
  · exact .inr ⟨h.subset h1, by rw [hh]; omega⟩
end QuorumMath

/- Voters, majorities, who follows: plain mathematics. -/
namespace QuorumMath
set_option linter.unusedSimpArgs false
set_option linter.unusedVariables false

/-- May a node have that number? -/
def nodeB (z : Int) : Bool := decide (1 ≤ z) && decide (z ≤ 7)
def votB (l : List Int) : Bool := decide (1 ≤ l.length) && decide (l.length ≤ 7) && decide (∀ n ∈ l, 1 ≤ n ∧ n ≤ 7) && decide (l.Pairwise (· < ·))
theorem votB_iff {l : List Int} : votB l = true ↔ Voters l := by simp [votB, Voters, and_assoc]
/-- Nodes that rise. -/
def Ris (l : List Int) : Prop := (∀ n ∈ l, 1 ≤ n ∧ n ≤ 7) ∧ l.Pairwise (· < ·)
theorem ris_len : ∀ (l : List Int) (k : Int), k ≤ 7 → (∀ n ∈ l, k < n ∧ n ≤ 7) → l.Pairwise (· < ·) → (l.length : Int) ≤ 7 - k
  | [], k, hk, _, _ => by simp; omega
  | x :: l, k, hk, h, hp => by
    have hx := h x (by simp)
    have hp' := List.pairwise_cons.1 hp
    have := ris_len l x hx.2 (fun n hn => ⟨hp'.1 n hn, (h n (List.mem_cons_of_mem _ hn)).2⟩) hp'.2
    rw [List.length_cons]
    omega
theorem ris_vot {l : List Int} (h : Ris l) (h0 : 0 < l.length) : Voters l := by
  have := ris_len l 0 (by omega) (fun n hn => by have := h.1 n hn; omega) h.2
  exact ⟨h0, by omega, h.1, h.2⟩
theorem ris_nil : Ris [] := ⟨by simp, List.Pairwise.nil⟩
theorem ris_snoc {l : List Int} {i : Nat} {x : Int} (hx : l[i]? = some x) (h : Ris (l.take i)) (h1 : 1 ≤ x) (h2 : x ≤ 7) (h3 : ∀ j y, i = j + 1 → l[j]? = some y → y < x) : Ris (l.take (i + 1)) := by
  have e : l.take (i + 1) = l.take i ++ [x] := by rw [List.take_add_one, hx]; rfl
  have hi := (List.getElem?_eq_some_iff.1 hx).1
  rw [e]
  refine ⟨fun n hn => ?_, ?_⟩
  · rcases List.mem_append.1 hn with hn | hn
    · exact h.1 n hn
    · rw [List.mem_singleton] at hn
      subst hn
      exact ⟨h1, h2⟩
  · rw [List.pairwise_append]
    refine ⟨h.2, List.pairwise_singleton _ _, fun a ha b hb => ?_⟩
    rw [List.mem_singleton] at hb
    subst hb
    cases i with
    | zero => simp at ha
    | succ j =>
      have hj : j < l.length := by omega
      have hlt := h3 j l[j] rfl (List.getElem?_eq_getElem hj)
      have e2 : l.take (j + 1) = l.take j ++ [l[j]] := by rw [List.take_add_one, List.getElem?_eq_getElem hj]; rfl
      have hp := h.2
      rw [e2, List.pairwise_append] at hp
      rw [e2] at ha
      rcases List.mem_append.1 ha with ha | ha
      · have := hp.2.2 a ha l[j] (by simp)
        omega
      · rw [List.mem_singleton] at ha
        omega
theorem votB_false {l : List Int} (h : ¬ Voters l) : votB l = false := by
  rw [Bool.eq_false_iff]
  intro h'
  exact h (votB_iff.1 h')
theorem vot_not_node {l : List Int} {i : Nat} {x : Int} (hx : l[i]? = some x) (h : ¬ (1 ≤ x ∧ x ≤ 7)) : votB l = false :=
  votB_false fun hv => h (hv.2.2.1 x (List.mem_of_getElem? hx))
theorem vot_not_rise {l : List Int} {j : Nat} {x y : Int} (hx : l[j + 1]? = some x) (hy : l[j]? = some y) (h : ¬ y < x) : votB l = false := by
  refine votB_false fun hv => h ?_
  obtain ⟨h1, rfl⟩ := List.getElem?_eq_some_iff.1 hx
  obtain ⟨h2, rfl⟩ := List.getElem?_eq_some_iff.1 hy
  exact List.pairwise_iff_getElem.1 hv.2.2.2 j (j + 1) h2 h1 (by omega)
theorem vot_nil : votB [] = false := by simp [votB]
theorem vot_yes {l : List Int} (h : Ris l) (h0 : 0 < l.length) : votB l = true := votB_iff.2 (ris_vot h h0)

/-- How many of the first are in a list. -/
theorem cnt_take {v l : List Int} {i : Nat} {x : Int} (hx : v[i]? = some x) : cnt (v.take (i + 1)) l = cnt (v.take i) l + if x ∈ l then 1 else 0 := by
  have e : v.take (i + 1) = v.take i ++ [x] := by rw [List.take_add_one, hx]; rfl
  unfold cnt
  rw [e, List.countP_append]
  simp
def wonB (v l : List Int) : Bool := votB v && decide (v.length < 2 * cnt v l)
/-- What a node has, by its first peer. -/
def mOf : List (Int × Int × Nat) → Int → Nat
  | [], _ => 0
  | p :: l, n => if p.1 = n then p.2.2 else mOf l n
theorem mOf_at {ps : List (Int × Int × Nat)} {i : Nat} {p : Int × Int × Nat} (h : ps[i]? = some p) (n : Int) : mOf (ps.drop i) n = if p.1 = n then p.2.2 else mOf (ps.drop (i + 1)) n := by
  obtain ⟨h1, rfl⟩ := List.getElem?_eq_some_iff.1 h
  rw [List.drop_eq_getElem_cons h1, mOf]
def comM (v : List Int) (ps : List (Int × Int × Nat)) : Nat := if votB v then bestFrom (v.map (mOf ps)) 0 (v.map (mOf ps)) else 0

end QuorumMath

