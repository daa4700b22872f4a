import Derived.Test.YtmmonehpfmlmeaaHl37
/- RlogFull: plain mathematics. -/
namespace RlogMath
open QuorumMath
/-- Entries without bytes, numbered, of one term. -/
def numL : Nat → Nat → Nat → List Me
  | _, _, 0 => []
  | s, t, n + 1 => ⟨s + 1, t, 0, []⟩ :: numL (s + 1) t n
theorem num_len : ∀ (n s t : Nat), (numL s t n).length = n
  | 0, _, _ => rfl
  | n + 1, s, t => by rw [numL, List.length_cons, num_len]
theorem num_snoc : ∀ (n s t : Nat), numL s t (n + 1) = numL s t n ++ [⟨s + n + 1, t, 0, []⟩]
  | 0, s, t => rfl
  | n + 1, s, t => by
    rw [numL, num_snoc n (s + 1) t, numL, List.cons_append]
    rw [show s + 1 + n + 1 = s + (n + 1) + 1 by omega]
theorem num_mem : ∀ (n s t : Nat), ∀ e ∈ numL s t n, e.idx ≤ s + n ∧ e.term = t ∧ e.data = []
  | 0, s, t, e, h => by simp [numL] at h
  | n + 1, s, t, e, h => by
    rw [numL, List.mem_cons] at h
    rcases h with rfl | h
    · exact ⟨by show s + 1 ≤ _; omega, rfl, rfl⟩
    · have := num_mem n (s + 1) t e h
      exact ⟨by omega, this.2⟩
theorem num_ent (i t : Nat) : entB ⟨i, t, 0, []⟩ = true := rfl
theorem num_beh : ∀ (n s t t0 : Nat) (m u : Nat), t0 ≤ t → t ≤ u → s + n + m < 18446744073709551615 → behB s t0 (numL s t n ++ numL (s + n) u m) = true
  | 0, s, t, t0, 0, u, _, _, _ => rfl
  | 0, s, t, t0, m + 1, u, h1, h2, h3 => by
    show behB s t0 (⟨s + 1, u, 0, []⟩ :: numL (s + 1) u m) = true
    rw [behB, num_ent]
    have := num_beh 0 (s + 1) u u m u (Nat.le_refl _) (Nat.le_refl _) (by omega)
    have h4 : behB (s + 1) u (numL (s + 1) u m) = true := this
    simp only [h4, Bool.and_true, Bool.and_eq_true, decide_eq_true_eq]
    refine ⟨⟨?_, trivial⟩, by omega⟩
    omega
  | n + 1, s, t, t0, m, u, h1, h2, h3 => by
    show behB s t0 (⟨s + 1, t, 0, []⟩ :: (numL (s + 1) t n ++ numL (s + (n + 1)) u m)) = true
    rw [behB, num_ent]
    have := num_beh n (s + 1) t t m u (Nat.le_refl _) h2 (by omega)
    rw [show s + 1 + n = s + (n + 1) by omega] at this
    simp only [this, Bool.and_true, Bool.and_eq_true, decide_eq_true_eq]
    refine ⟨⟨?_, trivial⟩, h1⟩
    omega
theorem num_term : ∀ (n s t x : Nat), s < x → x ≤ s + n → termF (numL s t n) x = some t
  | 0, s, t, x, h1, h2 => by omega
  | n + 1, s, t, x, h1, h2 => by
    show (if s + 1 = x then some t else termF (numL (s + 1) t n) x) = some t
    split
    · rfl
    · exact num_term n (s + 1) t x (by omega) (by omega)
theorem last_snoc (b : Me) (l : List Me) (e : Me) : lastM b (l ++ [e]) = (e.idx, e.term) := by
  unfold lastM
  rw [List.getLast?_append]
  rfl
def fullL : List Me := numL 0 1 4094
theorem full_may (m : Nat) (h : m ≤ 2) : mayB smM (fullL ++ numL 4094 2 m) = true := by
  have h1 := num_beh 4094 0 1 0 m 2 (by omega) (by omega) (by omega)
  rw [Nat.zero_add] at h1
  have h2 : (fullL ++ numL 4094 2 m).length ≤ 4096 := by rw [List.length_append]; unfold fullL; rw [num_len, num_len]; omega
  unfold mayB
  show (true && decide ((fullL ++ numL 4094 2 m).length ≤ 4096) && behB 0 0 (fullL ++ numL 4094 2 m)) = true
  rw [show behB 0 0 (fullL ++ numL 4094 2 m) = true from h1, decide_eq_true h2]
  rfl
theorem full_may0 : mayB smM fullL = true := by
  have := full_may 0 (by omega)
  rwa [show numL 4094 2 0 = [] from rfl, List.append_nil] at this
theorem full_last : lastM smM fullL = (4094, 1) := by
  unfold fullL
  rw [num_snoc 4093 0 1, last_snoc]
theorem full_last2 (m : Nat) : (lastM smM (fullL ++ numL 4094 2 m)).1 = 4094 + m ∧ (lastM smM (fullL ++ numL 4094 2 m)).2 ≤ 2 := by
  cases m with
  | zero =>
    rw [show numL 4094 2 0 = [] from rfl, List.append_nil, full_last]
    exact ⟨rfl, by decide⟩
  | succ m =>
    rw [num_snoc m 4094 2, ← List.append_assoc, last_snoc]
    exact ⟨rfl, Nat.le_refl _⟩
theorem full_merge (m : Nat) (h : m ≤ 4) : mergeM smM fullL 4094 1 (numL 4094 2 m) = if 2 < m then (2, zeroMe, [], 0) else (0, smM, fullL ++ numL 4094 2 m, 4094 + m) := by
  have hb : behB 4094 1 (numL 4094 2 m) = true := num_beh 0 4094 2 1 m 2 (by omega) (by omega) (by omega)
  have ht : termM smM fullL 4094 = some 1 := by
    unfold termM
    rw [if_neg (by decide)]
    exact num_term 4094 0 1 4094 (by omega) (by omega)
  have hd : fullL.drop (4094 - smM.idx) = [] := List.drop_eq_nil_of_le (by show (numL 0 1 4094).length ≤ 4094; rw [num_len]; omega)
  have hl : (numL 4094 2 m).length = m := num_len _ _ _
  have hlt : ¬ 4094 < smM.idx := by decide
  have ha : agM (fullL.drop (4094 - smM.idx)) (numL 4094 2 m) = 0 := by rw [hd, agM_nil_l]
  have hi : 4094 - smM.idx = 4094 := rfl
  by_cases h0 : m = 0
  · subst h0
    rw [if_neg (by omega), mrg_same full_may0 hb hlt ht (by rw [ha, hl])]
    rw [show numL 4094 2 0 = [] from rfl, List.append_nil]
    rfl
  · by_cases h2 : 2 < m
    · rw [if_pos h2, mrg_full full_may0 hb hlt ht (by rw [ha, hl]; omega) (by rw [hl, hi]; omega)]
    · rw [if_neg h2, mrg_ok full_may0 hb hlt ht (by rw [ha, hl]; omega) (by rw [hl, hi]; omega), ha, hl, hi]
      rw [List.drop_zero, Nat.add_zero, List.take_of_length_le (by unfold fullL; rw [num_len]; omega)]
theorem full_app (m : Nat) (h : m ≤ 2) : (appM smM (fullL ++ numL 4094 2 m) 2 0 []).1 = if m = 2 then 2 else 0 := by
  obtain ⟨h1, h2⟩ := full_last2 m
  have h3 : (fullL ++ numL 4094 2 m).length = 4094 + m := by rw [List.length_append]; unfold fullL; rw [num_len, num_len]
  by_cases h4 : m = 2
  · rw [if_pos h4, app_full (full_may m h) (by omega) rfl (.inl (by omega))]
  · rw [if_neg h4, app_ok (full_may m h) (by omega) rfl (by omega)]
end RlogMath
namespace Go.Proofs.Ytmmonehpfmlmeaa
open Go.RowKit QuorumMath RlogMath
set_option maxRecDepth 100000
set_option linter.unusedSimpArgs false
set_option linter.unusedVariables false

/-- Entries without bytes. -/
def zsE (l : List Me) : List Ez := l.map fun e => (e, (none, 0, 0))
theorem mes_zsE (l : List Me) : mes (zsE l) = l := by unfold mes zsE; rw [List.map_map]; exact List.map_id' l
theorem zsE_len (l : List Me) : (zsE l).length = l.length := by simp [zsE]
theorem zsE_data (W : World) {l : List Me} (h : ∀ e ∈ l, e.data = []) : ∀ z ∈ zsE l, DataV W z := fun z hz => by
  obtain ⟨e, he, rfl⟩ := List.mem_map.1 hz
  have := rdb_nil W
  show Rd byteE W (.slice none 0 0) e.data
  rw [h e he]
  exact this
theorem zsE_ok {l : List Me} (h : ∀ e ∈ l, e.data = [] ∧ e.idx < 18446744073709551616 ∧ e.term < 18446744073709551616) : (∀ z ∈ zsE l, EzOk z) ∧ ∀ z ∈ zsE l, z.1.data.length ≤ 1000000000 := by
  refine ⟨fun z hz => ?_, fun z hz => ?_⟩
  · obtain ⟨e, he, rfl⟩ := List.mem_map.1 hz
    exact ⟨(h e he).2.1, (h e he).2.2, by show ∀ c ∈ e.data, _; rw [(h e he).1]; simp⟩
  · obtain ⟨e, he, rfl⟩ := List.mem_map.1 hz
    show e.data.length ≤ _
    rw [(h e he).1]
    simp
theorem num_okz (s t n : Nat) (h1 : s + n < 18446744073709551616) (h2 : t < 18446744073709551616) : ∀ e ∈ numL s t n, e.data = [] ∧ e.idx < 18446744073709551616 ∧ e.term < 18446744073709551616 := fun e he => by
  obtain ⟨a, b, c⟩ := num_mem n s t e he
  exact ⟨c, by omega, by omega⟩
theorem zsE_snoc (s t n : Nat) : zsE (numL s t (n + 1)) = zsE (numL s t n) ++ [(⟨s + n + 1, t, 0, []⟩, (none, 0, 0))] := by rw [num_snoc]; unfold zsE; rw [List.map_append]; rfl
end Go.Proofs.Ytmmonehpfmlmeaa

