import Derived.Test.YtghhijliamnmiaaHo05
import Derived.Test.YtghhijliamnmiaaHo29
/- Plain mathematics of a window's bytes: what is written is read back; what is read without a fault is what is written. -/
namespace Go.Proofs.Ytghhijliamnmiaa
open Go.RowKit OracleMath WireMath Wi
set_option maxRecDepth 100000
set_option linter.unusedSimpArgs false
set_option linter.unusedVariables false

theorem src0 (b : List Nat) (a : Nat) : src b a 0 = b.drop a := by simp [src]
theorem uv_back {b rest : List Nat} {a n : Nat} (h : b.drop a = uv n ++ rest) (hn : n < 18446744073709551616) : uvN b a 0 = n ∧ uvA b a 0 = a + (uv n).length ∧ uvE b a 0 = 0 :=
  uv_some (by rw [src0, h]; exact read_back n hn rest)
theorem nu_back {b rest : List Nat} {a n : Nat} {m : Int} (h : b.drop a = uv n ++ rest) (hm : (n : Int) ≤ m) (hn : n < 18446744073709551616) : nuN b a 0 m = n ∧ nuA b a 0 m = a + (uv n).length ∧ nuE b a 0 m = 0 :=
  nu_some (by rw [src0, h]; exact read_back n hn rest) hm
theorem uv_can {b : List Nat} {a e : Nat} (hb : ∀ c ∈ b, c < 256) (h : uvE b a e = 0) : e = 0 ∧ b.drop a = uv (uvN b a e) ++ b.drop (uvA b a e) ∧ (a ≤ b.length → uvA b a e ≤ b.length) := by
  cases hr : rd 10 0 0 (src b a e) with
  | none =>
    rw [(uv_none hr).2.2] at h
    exact absurd h (wb_ne e 5 (by decide))
  | some x =>
    obtain ⟨n, k⟩ := x
    obtain ⟨h1, h2, h3⟩ := uv_some hr
    rw [h3] at h
    subst h
    rw [src0] at hr
    have hd : ∀ c ∈ b.drop a, c < 256 := fun c hc => hb c (List.mem_of_mem_drop hc)
    obtain ⟨c1, c2, c3, c4⟩ := canonical _ hd n k hr
    obtain ⟨_, _, _, f4⟩ := rd_facts hd hr
    rw [List.length_drop] at f4
    refine ⟨rfl, ?_, fun _ => by rw [h2]; omega⟩
    rw [h1, h2, ← c1, ← List.drop_drop, List.take_append_drop]
theorem nu_can {b : List Nat} {a e : Nat} {m : Int} (hb : ∀ c ∈ b, c < 256) (h : nuE b a e m = 0) : e = 0 ∧ b.drop a = uv (nuN b a e m) ++ b.drop (nuA b a e m) ∧ (a ≤ b.length → nuA b a e m ≤ b.length) ∧ (nuN b a e m : Int) ≤ m := by
  cases hr : rd 10 0 0 (src b a e) with
  | none =>
    rw [(nu_none m hr).2.2] at h
    exact absurd h (wb_ne e 5 (by decide))
  | some x =>
    obtain ⟨n, k⟩ := x
    by_cases hm : (n : Int) ≤ m
    · obtain ⟨h1, h2, h3⟩ := nu_some hr hm
      rw [h3] at h
      subst h
      rw [src0] at hr
      have hd : ∀ c ∈ b.drop a, c < 256 := fun c hc => hb c (List.mem_of_mem_drop hc)
      obtain ⟨c1, c2, c3, c4⟩ := canonical _ hd n k hr
      obtain ⟨_, _, _, f4⟩ := rd_facts hd hr
      rw [List.length_drop] at f4
      refine ⟨rfl, ?_, fun _ => by rw [h2]; omega, by rw [h1]; exact hm⟩
      rw [h1, h2, ← c1, ← List.drop_drop, List.take_append_drop]
    · rw [(nu_long hr hm).2.2] at h
      exact absurd h (wb_ne e 3 (by decide))
theorem nuN_most {b : List Nat} {a e m : Nat} : nuN b a e (m : Int) ≤ m := by
  unfold nuN
  split
  · omega
  · split <;> omega
def flN (s : Bool) : Nat := if s then 1 else 0
def encB (x : Wn) : List Nat := uv x.1 ++ uv x.2.1 ++ uv (flN x.2.2)
def dA1 (b : List Nat) : Nat := uvA b 0 0
def dE1 (b : List Nat) : Nat := uvE b 0 0
def dA2 (b : List Nat) : Nat := uvA b (dA1 b) (dE1 b)
def dE2 (b : List Nat) : Nat := uvE b (dA1 b) (dE1 b)
def dA3 (b : List Nat) : Nat := nuA b (dA2 b) (dE2 b) 1
def dE3 (b : List Nat) : Nat := nuE b (dA2 b) (dE2 b) 1
def decW (b : List Nat) : Wn := (uvN b 0 0, uvN b (dA1 b) (dE1 b), decide (nuN b (dA2 b) (dE2 b) 1 = 1))
theorem flN_lt (s : Bool) : flN s ≤ 1 := by cases s <;> decide
theorem flN_dec (s : Bool) : decide (flN s = 1) = s := by cases s <;> decide
theorem dec_back {x : Wn} (h : OkW x) : decW (encB x) = x ∧ dA3 (encB x) = (encB x).length ∧ dE3 (encB x) = 0 := by
  obtain ⟨n, l, s⟩ := x
  have hE : encB (n, l, s) = uv n ++ (uv l ++ uv (flN s)) := by simp [encB]
  generalize hb : encB (n, l, s) = b at *
  have h0 : b.drop 0 = uv n ++ (uv l ++ uv (flN s)) := by rw [hE]; rfl
  obtain ⟨a1, a2, a3⟩ := uv_back h0 h.1
  have h1 : b.drop (0 + (uv n).length) = uv l ++ uv (flN s) := by rw [← List.drop_drop, h0, List.drop_left]
  obtain ⟨c1, c2, c3⟩ := uv_back h1 h.2
  have h2 : b.drop (0 + (uv n).length + (uv l).length) = uv (flN s) ++ [] := by rw [← List.drop_drop, h1, List.drop_left, List.append_nil]
  obtain ⟨d1, d2, d3⟩ := nu_back (m := 1) h2 (by have := flN_lt s; omega) (by have := flN_lt s; omega)
  unfold decW dA3 dE3 dA2 dE2 dA1 dE1
  rw [a1, a2, a3, c1, c2, c3, d1, d2, d3, flN_dec, hE]
  refine ⟨rfl, ?_, rfl⟩
  simp only [List.length_append]
  omega
theorem dec_can {b : List Nat} (hb : ∀ c ∈ b, c < 256) (h1 : dE3 b = 0) (h2 : ¬ dA3 b < b.length) : encB (decW b) = b := by
  obtain ⟨k1, k2, k3, k4⟩ := nu_can (m := 1) hb h1
  obtain ⟨g1, g2, g3⟩ := uv_can hb k1
  obtain ⟨f1, f2, f3⟩ := uv_can hb g1
  have hend : b.drop (dA3 b) = [] := List.drop_eq_nil_of_le (by omega)
  have hk : flN (decide (nuN b (dA2 b) (dE2 b) 1 = 1)) = nuN b (dA2 b) (dE2 b) 1 := by
    have : nuN b (dA2 b) (dE2 b) 1 ≤ 1 := nuN_most (m := 1)
    unfold flN
    split
    · rename_i h; rw [decide_eq_true_eq] at h; exact h.symm
    · rename_i h; rw [decide_eq_true_eq] at h; omega
  have e2 : b.drop (dA2 b) = uv (nuN b (dA2 b) (dE2 b) 1) ++ b.drop (dA3 b) := k2
  have e1 : b.drop (dA1 b) = uv (uvN b (dA1 b) (dE1 b)) ++ b.drop (dA2 b) := g2
  have e0 : b.drop 0 = uv (uvN b 0 0) ++ b.drop (dA1 b) := f2
  unfold encB decW
  dsimp only
  rw [hk]
  rw [hend, List.append_nil] at e2
  rw [List.append_assoc, ← e2, ← e1, ← e0]
  rfl
def decOk (b : List Nat) : Bool := decide (dE3 b = 0) && (!decide (dA3 b < b.length) && mayB (decW b))
theorem dec_ok {b : List Nat} (hb : ∀ c ∈ b, c < 256) : OkW (decW b) := ⟨Wi.uvN_lt hb, Wi.uvN_lt hb⟩
/-- Both readers tell the same. -/
theorem dec_same {b : List Nat} (hb : ∀ c ∈ b, c < 256) : decOk b = (mayB (decW b) && decide (encB (decW b) = b)) := by
  cases h : decOk b with
  | true =>
    simp only [decOk, Bool.and_eq_true, decide_eq_true_eq, Bool.not_eq_true', decide_eq_false_iff_not] at h
    rw [h.2.2, decide_eq_true (dec_can hb h.1 h.2.1)]
    rfl
  | false =>
    cases hm : mayB (decW b) with
    | false => rfl
    | true =>
      by_cases he : encB (decW b) = b
      · obtain ⟨h5, h6, h7⟩ := dec_back (dec_ok hb)
        rw [he] at h6 h7
        have : decOk b = true := by
          simp only [decOk, Bool.and_eq_true, decide_eq_true_eq, Bool.not_eq_true', decide_eq_false_iff_not]
          exact ⟨h7, by omega, hm⟩
        rw [h] at this
        cases this
      · rw [decide_eq_false he]
        rfl
theorem enc_lt {x : Wn} {c : Nat} (hc : c ∈ encB x) : c < 256 := by
  unfold encB at hc
  simp only [List.mem_append] at hc
  rcases hc with (hc | hc) | hc <;> exact uv_bytes _ _ hc
theorem enc_len {x : Wn} (h : OkW x) : (encB x).length ≤ 30 := by
  unfold encB
  have h1 := uv_len10 h.1
  have h2 := uv_len10 h.2
  have h3 := uv_len10 (n := flN x.2.2) (by have := flN_lt x.2.2; omega)
  simp only [List.length_append]
  omega
end Go.Proofs.Ytghhijliamnmiaa

