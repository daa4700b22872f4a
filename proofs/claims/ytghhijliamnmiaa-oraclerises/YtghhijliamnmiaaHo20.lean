import Derived.Test.YtghhijliamnmiaaHo19
/- The contracts of a reader's peek, Uvarint and Varint: the next number, or what was wrong; nothing but the reader's own block has turned. -/
namespace Go.Proofs.Ytghhijliamnmiaa.Wi
open Go.RowKit WireMath
set_option maxRecDepth 100000
set_option linter.unusedSimpArgs false

theorem src_bytes {l : List Nat} {a b : Nat} (hl : ∀ c ∈ l, c < 256) : ∀ c ∈ src l a b, c < 256 := by
  unfold src
  intro c hc
  split at hc
  · exact hl c (List.mem_of_mem_drop hc)
  · simp at hc
theorem src_len {l : List Nat} {a b k : Nat} (h : k ≤ (src l a b).length) (hk : 0 < k) : b = 0 ∧ a + k ≤ l.length := by
  unfold src at h
  split at h
  · rename_i hb
    rw [List.length_drop] at h
    exact ⟨hb, by omega⟩
  · simp at h; omega
theorem rd_facts {l : List Nat} {n k : Nat} (hl : ∀ c ∈ l, c < 256) (h : rd 10 0 0 l = some (n, k)) : n < 18446744073709551616 ∧ 0 < k ∧ k ≤ 10 ∧ k ≤ l.length := by
  obtain ⟨h1, h2, h3, h4⟩ := canonical l hl n k h
  refine ⟨h4, by rw [h2]; exact uv_pos n, h3, ?_⟩
  have := congrArg List.length h1
  rw [List.length_take] at this
  omega

set_option maxHeartbeats 2000000 in
theorem peek_none (q : Nat) (l : List Nat) (a b : Nat) (w : World) (h : Rd w q l a b) (hl : ∀ c ∈ l, c < 256) (hrd : rd 10 0 0 (src l a b) = none) :
    Calls Try.prog 32 #[.pointer (some ⟨q, 0, none⟩)] w fun e w' => e = .returned (.tuple #[.int .u64 0, .int .i64 0]) ∧ Rd w' q l a (wb b 5) ∧ Kp q w w' := by
  go_enter Try.func32, Try.ntmps32
  go_wp2_with fail
  refine (rest_of q l a b w h).mono ?_
  rintro e w1 ⟨v1, rfl, hB1, hb1⟩
  have h1 := h.below hb1
  have hf := first_of q _ v1 w1 hB1 (src_bytes hl)
  rw [hrd] at hf
  dsimp only [rdV, Option.getD] at hf
  go_wp2_with fail
  refine hf.mono ?_
  rintro e wx ⟨rfl, hwx⟩
  subst hwx
  go_wp2_with fail
  refine (fail_of q l a b 5 _ h1).mono ?_
  rintro e w2 ⟨rfl, h2, k2⟩
  go_wp2
  go_ret2
  exact ⟨rfl, h2, (Kp.of_below hb1).trans k2⟩

set_option maxHeartbeats 2000000 in
theorem peek_some (q : Nat) (l : List Nat) (a b n k : Nat) (w : World) (h : Rd w q l a b) (hl : ∀ c ∈ l, c < 256) (hrd : rd 10 0 0 (src l a b) = some (n, k)) :
    Calls Try.prog 32 #[.pointer (some ⟨q, 0, none⟩)] w fun e w' => e = .returned (.tuple #[.int .u64 (n : Int), .int .i64 (k : Int)]) ∧ Rd w' q l a b ∧ Kp q w w' := by
  obtain ⟨hn, hk0, hk10, _⟩ := rd_facts (src_bytes hl) hrd
  have hk1 : ¬ (k : Int) = 0 := by omega
  have hk2 : ¬ k = 0 := by omega
  go_enter Try.func32, Try.ntmps32
  go_wp2_with fail
  refine (rest_of q l a b w h).mono ?_
  rintro e w1 ⟨v1, rfl, hB1, hb1⟩
  have h1 := h.below hb1
  have hf := first_of q _ v1 w1 hB1 (src_bytes hl)
  rw [hrd] at hf
  dsimp only [rdV, Option.getD] at hf
  go_wp2_with fail
  refine hf.mono ?_
  rintro e wx ⟨rfl, hwx⟩
  subst hwx
  clear hf
  go_wp2
  go_ret2
  exact ⟨rfl, h1, Kp.of_below hb1⟩

theorem wb_wb (b c d : Nat) (hc : c ≠ 0) : wb (wb b c) d = wb b c := by
  unfold wb
  by_cases hb : b = 0
  · rw [if_pos hb, if_neg hc]
  · rw [if_neg hb, if_neg hb]

set_option maxHeartbeats 2000000 in
theorem peekM_none (q : Nat) (l : List Nat) (a b : Nat) (m : Int) (w : World) (h : Rd w q l a b) (hl : ∀ c ∈ l, c < 256) (hrd : rd 10 0 0 (src l a b) = none) (hm2 : m ≤ 9223372036854775807) :
    Calls Try.prog 34 #[.pointer (some ⟨q, 0, none⟩), .int .i64 m] w fun e w' => e = .returned (.tuple #[.int .u64 0, .int .i64 0]) ∧ Rd w' q l a (wb b 5) ∧ Kp q w w' := by
  by_cases hneg : m < 0
  · go_enter Try.func34, Try.ntmps34
    go_wp2_with fail
    refine (peek_none q l a b w h hl hrd).mono ?_
    rintro e w1 ⟨rfl, h1, k1⟩
    go_wp2_with fail
    refine (fail_of q l a _ 3 _ h1).mono ?_
    rintro e w2 ⟨rfl, h2, k2⟩
    rw [wb_wb b 5 3 (by decide)] at h2
    go_wp2
    go_ret2
    exact ⟨rfl, h2, k1.trans k2⟩
  · have hneg2 : 0 ≤ m := by omega
    have q1 : IntKind.u64.wrap m = m := by rw [IntKind.wrap_u64]; omega
    go_enter Try.func34, Try.ntmps34
    go_wp2_with fail
    refine (peek_none q l a b w h hl hrd).mono ?_
    rintro e w1 ⟨rfl, h1, k1⟩
    go_wp2
    go_ret2
    exact ⟨rfl, h1, k1⟩

set_option maxHeartbeats 2000000 in
theorem peekM_some (q : Nat) (l : List Nat) (a b n k : Nat) (m : Int) (w : World) (h : Rd w q l a b) (hl : ∀ c ∈ l, c < 256) (hrd : rd 10 0 0 (src l a b) = some (n, k)) (hm : (n : Int) ≤ m) (hm2 : m ≤ 9223372036854775807) :
    Calls Try.prog 34 #[.pointer (some ⟨q, 0, none⟩), .int .i64 m] w fun e w' => e = .returned (.tuple #[.int .u64 (n : Int), .int .i64 (k : Int)]) ∧ Rd w' q l a b ∧ Kp q w w' := by
  have hneg : ¬ m < 0 := by omega
  have hneg2 : 0 ≤ m := by omega
  have q1 : IntKind.u64.wrap m = m := by rw [IntKind.wrap_u64]; omega
  go_enter Try.func34, Try.ntmps34
  go_wp2_with fail
  refine (peek_some q l a b n k w h hl hrd).mono ?_
  rintro e w1 ⟨rfl, h1, k1⟩
  go_wp2
  go_ret2
  exact ⟨rfl, h1, k1⟩

set_option maxHeartbeats 2000000 in
theorem peekM_long (q : Nat) (l : List Nat) (a b n k : Nat) (m : Int) (w : World) (h : Rd w q l a b) (hl : ∀ c ∈ l, c < 256) (hrd : rd 10 0 0 (src l a b) = some (n, k)) (hm : ¬ (n : Int) ≤ m) (hm2 : m ≤ 9223372036854775807) :
    Calls Try.prog 34 #[.pointer (some ⟨q, 0, none⟩), .int .i64 m] w fun e w' => e = .returned (.tuple #[.int .u64 0, .int .i64 0]) ∧ Rd w' q l a (wb b 3) ∧ Kp q w w' := by
  by_cases hneg : m < 0
  · clear hm
    go_enter Try.func34, Try.ntmps34
    go_wp2_with fail
    refine (peek_some q l a b n k w h hl hrd).mono ?_
    rintro e w1 ⟨rfl, h1, k1⟩
    go_wp2_with fail
    refine (fail_of q l a b 3 _ h1).mono ?_
    rintro e w2 ⟨rfl, h2, k2⟩
    go_wp2
    go_ret2
    exact ⟨rfl, h2, k1.trans k2⟩
  · have hneg2 : 0 ≤ m := by omega
    have q1 : IntKind.u64.wrap m = m := by rw [IntKind.wrap_u64]; omega
    go_enter Try.func34, Try.ntmps34
    go_wp2_with fail
    refine (peek_some q l a b n k w h hl hrd).mono ?_
    rintro e w1 ⟨rfl, h1, k1⟩
    go_wp2_with fail
    refine (fail_of q l a b 3 _ h1).mono ?_
    rintro e w2 ⟨rfl, h2, k2⟩
    go_wp2
    go_ret2
    exact ⟨rfl, h2, k1.trans k2⟩

/-- What a reader's Uvarint tells, and leaves. -/
def uvN (l : List Nat) (a b : Nat) : Nat := ((rd 10 0 0 (src l a b)).getD (0, 0)).1
def uvA (l : List Nat) (a b : Nat) : Nat := a + ((rd 10 0 0 (src l a b)).getD (0, 0)).2
def uvE (l : List Nat) (a b : Nat) : Nat := if rd 10 0 0 (src l a b) = none then wb b 5 else b

set_option maxHeartbeats 2000000 in
theorem uvarint_m (q : Nat) (l : List Nat) (a b : Nat) (w : World) (h : Rd w q l a b) (hl : ∀ c ∈ l, c < 256) :
    Calls Try.prog 25 #[.pointer (some ⟨q, 0, none⟩)] w fun e w' => e = .returned (.int .u64 (uvN l a b : Int)) ∧ Rd w' q l (uvA l a b) (uvE l a b) ∧ Kp q w w' := by
  cases hrd : rd 10 0 0 (src l a b) with
  | none =>
    have e1 : uvN l a b = 0 := by simp [uvN, hrd]
    have e2 : uvA l a b = a := by simp [uvA, hrd]
    have e3 : uvE l a b = wb b 5 := by simp [uvE, hrd]
    rw [e1, e2, e3]
    go_enter Try.func25, Try.ntmps25
    go_wp2_with fail
    refine (peek_none q l a b w h hl hrd).mono ?_
    rintro e w1 ⟨rfl, h1, k1⟩
    go_wp2_with fail
    refine (skip_of q l a _ 0 w1 h1 (by obtain ⟨_, _, _, h3⟩ := h1; omega)).mono ?_
    rintro e w2 ⟨rfl, h2, k2⟩
    go_wp2
    go_ret
    exact ⟨rfl, h2, k1.trans k2⟩
  | some x =>
    obtain ⟨n, k⟩ := x
    obtain ⟨hn, hk0, hk10, hkl⟩ := rd_facts (src_bytes hl) hrd
    obtain ⟨rfl, hal⟩ := src_len hkl hk0
    have e1 : uvN l a 0 = n := by simp [uvN, hrd]
    have e2 : uvA l a 0 = a + k := by simp [uvA, hrd]
    have e3 : uvE l a 0 = 0 := by simp [uvE, hrd]
    rw [e1, e2, e3]
    go_enter Try.func25, Try.ntmps25
    go_wp2_with fail
    refine (peek_some q l a 0 n k w h hl hrd).mono ?_
    rintro e w1 ⟨rfl, h1, k1⟩
    go_wp2_with fail
    refine (skip_of q l a 0 k w1 h1 hal).mono ?_
    rintro e w2 ⟨rfl, h2, k2⟩
    go_wp2
    go_ret
    exact ⟨rfl, h2, k1.trans k2⟩

theorem uvN_lt {l : List Nat} {a b : Nat} (hl : ∀ c ∈ l, c < 256) : uvN l a b < 18446744073709551616 := by
  unfold uvN
  cases hrd : rd 10 0 0 (src l a b) with
  | none => simp
  | some x => exact (rd_facts (src_bytes hl) (n := x.1) (k := x.2) hrd).1

end Go.Proofs.Ytghhijliamnmiaa.Wi

