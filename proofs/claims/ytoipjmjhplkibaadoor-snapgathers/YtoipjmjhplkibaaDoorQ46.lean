import Derived.Test.YtoipjmjhplkibaaDoorQ08
import Derived.Test.YtoipjmjhplkibaaDoorQ45
import Derived.Test.YtoipjmjhplkibaaDoorQ10
/- Snapshots: their bytes, and which snapshot bytes are: plain mathematics. -/
namespace Go.Proofs.YtoipjmjhplkibaaDoor.Fr
open WireMath CrcMath FrameMath
set_option linter.unusedSimpArgs false

/-- The bytes within a snapshot's frame, and its bytes. -/
def snD (i t : Nat) (b : List Nat) : List Nat := uv i ++ (uv t ++ b)
def snB (i t : Nat) (b : List Nat) : List Nat := frameB 3 (snD i t b)

/-- The snapshot that stands within a frame. -/
def snRd (d : List Nat) : Option (Nat × Nat × List Nat) :=
  match rd 10 0 0 d with
  | none => none
  | some (i, k) =>
    match rd 10 0 0 (d.drop k) with
    | none => none
    | some (t, m) => if i = 0 ∨ 32768 < d.length - (k + m) then none else some (i, t, d.drop (k + m))
/-- Which snapshot bytes are. -/
def snDec (l : List Nat) : Option (Nat × Nat × List Nat) :=
  match next l with
  | .ok (k, d, n) => if k = 3 ∧ n = l.length then snRd d else none
  | .error _ => none

theorem src_zero (l : List Nat) (a : Nat) : src l a 0 = l.drop a := by simp [src]
theorem nx_err_ne {l : List Nat} {e : Nat} (h : next l = .error e) : e ≠ 0 := by
  rcases next_err_lt h with h | h <;> omega

theorem sn_len (i t : Nat) (b : List Nat) (hi : i < 18446744073709551616) (ht : t < 18446744073709551616) (hb : b.length ≤ 32768) : (snD i t b).length ≤ 32788 := by
  have := uv_len10 hi
  have := uv_len10 ht
  unfold snD
  simp only [List.length_append]
  omega
theorem snRd_back (i t : Nat) (b : List Nat) (hi : i < 18446744073709551616) (h0 : i ≠ 0) (ht : t < 18446744073709551616) (hb : b.length ≤ 32768) : snRd (snD i t b) = some (i, t, b) := by
  unfold snRd snD
  rw [read_back i hi]
  dsimp only
  rw [List.drop_left, read_back t ht]
  dsimp only
  have e : (uv i ++ (uv t ++ b)).drop ((uv i).length + (uv t).length) = b := by rw [← List.drop_drop, List.drop_left, List.drop_left]
  rw [e, if_neg]
  simp only [List.length_append]
  omega
theorem snDec_back (i t : Nat) (b : List Nat) (hi : i < 18446744073709551616) (h0 : i ≠ 0) (ht : t < 18446744073709551616) (hb : b.length ≤ 32768) : snDec (snB i t b) = some (i, t, b) := by
  have hf := next_frame 3 (snD i t b) [] (by have := sn_len i t b hi ht hb; omega)
  rw [List.append_nil] at hf
  unfold snDec snB
  rw [hf]
  dsimp only
  rw [if_pos ⟨rfl, rfl⟩, snRd_back i t b hi h0 ht hb]
theorem snD_bytes (i t : Nat) (b : List Nat) (hb : ∀ c ∈ b, c < 256) : ∀ x ∈ snD i t b, x < 256 := by
  intro x hx
  unfold snD at hx
  rcases List.mem_append.1 hx with hx | hx
  · exact uv_bytes _ x hx
  · rcases List.mem_append.1 hx with hx | hx
    · exact uv_bytes _ x hx
    · exact hb x hx
theorem snB_bytes (i t : Nat) (b : List Nat) (hb : ∀ c ∈ b, c < 256) : ∀ x ∈ snB i t b, x < 256 := frameB_lt (by decide) (snD_bytes i t b hb)
theorem snB_len (i t : Nat) (b : List Nat) (hi : i < 18446744073709551616) (ht : t < 18446744073709551616) (hb : b.length ≤ 32768) : (snB i t b).length ≤ 40000 := by
  have h1 := sn_len i t b hi ht hb
  unfold snB
  rw [frameB_length]
  have := uv_len10 (n := (snD i t b).length + 5) (by omega)
  omega
theorem snRd_facts {d : List Nat} (hd : ∀ c ∈ d, c < 256) {i t : Nat} {b : List Nat} (h : snRd d = some (i, t, b)) : i < 18446744073709551616 ∧ t < 18446744073709551616 ∧ b.length ≤ 32768 ∧ ∀ c ∈ b, c < 256 := by
  unfold snRd at h
  split at h
  · cases h
  · rename_i i' k hr1
    split at h
    · cases h
    · rename_i t' m hr2
      split at h
      · cases h
      · rename_i hno
        simp only [Option.some.injEq, Prod.mk.injEq] at h
        obtain ⟨rfl, rfl, rfl⟩ := h
        have h1 := (canonical d hd i' k hr1).2.2.2
        have h2 := (canonical (d.drop k) (fun c hc => hd c (List.mem_of_mem_drop hc)) t' m hr2).2.2.2
        refine ⟨h1, h2, ?_, fun c hc => hd c (List.mem_of_mem_drop hc)⟩
        rw [List.length_drop]
        omega
theorem snDec_facts {l : List Nat} (hl : ∀ c ∈ l, c < 256) {i t : Nat} {b : List Nat} (h : snDec l = some (i, t, b)) : i < 18446744073709551616 ∧ t < 18446744073709551616 ∧ b.length ≤ 32768 ∧ ∀ c ∈ b, c < 256 := by
  unfold snDec at h
  split at h
  · rename_i k d n hx
    split at h
    · exact snRd_facts (fun c hc => hl c ((next_ok_facts hx).2.2.2 c hc)) h
    · cases h
  · cases h
/-- What two reads tell of bytes, and where they end. -/
def snI (d : List Nat) : Nat := uvN d 0 0
def snT (d : List Nat) : Nat := uvN d (uvA d 0 0) (uvE d 0 0)
def snA (d : List Nat) : Nat := uvA d (uvA d 0 0) (uvE d 0 0)
def snE (d : List Nat) : Nat := uvE d (uvA d 0 0) (uvE d 0 0)
theorem snRd_eq (d : List Nat) : snRd d = if snE d = 0 ∧ snI d ≠ 0 ∧ d.length - snA d ≤ 32768 then some (snI d, snT d, d.drop (snA d)) else none := by
  unfold snRd
  cases h1 : rd 10 0 0 d with
  | none =>
    dsimp only
    have h1' : rd 10 0 0 (src d 0 0) = none := by rw [src_zero]; exact h1
    obtain ⟨-, e2, e3⟩ := uv_none h1'
    have hb : uvE d 0 0 ≠ 0 := by rw [e3]; exact wb_ne _ _ (by decide)
    have : snE d ≠ 0 := by
      unfold snE
      rw [(uv_none (rd_bad hb)).2.2]
      exact wb_ne _ _ (by decide)
    rw [if_neg (fun h => this h.1)]
  | some x =>
    obtain ⟨i, k⟩ := x
    dsimp only
    have h1' : rd 10 0 0 (src d 0 0) = some (i, k) := by rw [src_zero]; exact h1
    obtain ⟨e1, e2, e3⟩ := uv_some h1'
    rw [Nat.zero_add] at e2
    cases h2 : rd 10 0 0 (d.drop k) with
    | none =>
      dsimp only
      have h2' : rd 10 0 0 (src d k 0) = none := by rw [src_zero]; exact h2
      have : snE d ≠ 0 := by
        unfold snE
        rw [e2, e3, (uv_none h2').2.2]
        exact wb_ne _ _ (by decide)
      rw [if_neg (fun h => this h.1)]
    | some y =>
      obtain ⟨t, m⟩ := y
      dsimp only
      have h2' : rd 10 0 0 (src d k 0) = some (t, m) := by rw [src_zero]; exact h2
      obtain ⟨f1, f2, f3⟩ := uv_some h2'
      have g1 : snI d = i := e1
      have g2 : snT d = t := by unfold snT; rw [e2, e3, f1]
      have g3 : snA d = k + m := by unfold snA; rw [e2, e3, f2]
      have g4 : snE d = 0 := by unfold snE; rw [e2, e3, f3]
      rw [g1, g2, g3, g4]
      by_cases h : i = 0 ∨ 32768 < d.length - (k + m)
      · rw [if_pos h, if_neg]
        rintro ⟨-, h3, h4⟩
        rcases h with h | h
        · exact h3 h
        · omega
      · rw [if_neg h, if_pos]
        refine ⟨rfl, fun h3 => h (.inl h3), ?_⟩
        by_cases h4 : 32768 < d.length - (k + m)
        · exact absurd (.inr h4) h
        · omega

/-- What reading tells: Index, Term, bytes, error. -/
def snTold (l : List Nat) : Nat × Nat × List Nat × Nat := match snDec l with | none => (0, 0, [], 5) | some (i, t, b) => (i, t, b, 0)
end Go.Proofs.YtoipjmjhplkibaaDoor.Fr

