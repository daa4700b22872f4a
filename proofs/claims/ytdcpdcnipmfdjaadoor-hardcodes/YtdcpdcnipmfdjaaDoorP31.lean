import Derived.Test.YtdcpdcnipmfdjaaDoorP09
import Derived.Test.YtdcpdcnipmfdjaaDoorP30
import Derived.Test.YtdcpdcnipmfdjaaDoorP13
/- Hard states: their bytes, and which state bytes are: plain mathematics. -/
namespace Go.Proofs.YtdcpdcnipmfdjaaDoor.Fr
open WireMath CrcMath FrameMath
set_option linter.unusedSimpArgs false

/-- The bytes of three numbers, and of a state. -/
def hdD (t v c : Nat) : List Nat := uv t ++ (uv v ++ uv c)
def hdB (t v c : Nat) : List Nat := frameB 2 (hdD t v c)

/-- What three reads tell of bytes, and where they end. -/
def hdT (d : List Nat) : Nat := uvN d 0 0
def hdV (d : List Nat) : Nat := nuN d (uvA d 0 0) (uvE d 0 0) 7
def hCa (d : List Nat) : Nat := nuA d (uvA d 0 0) (uvE d 0 0) 7
def hCe (d : List Nat) : Nat := nuE d (uvA d 0 0) (uvE d 0 0) 7
def hdC (d : List Nat) : Nat := uvN d (hCa d) (hCe d)
def hEa (d : List Nat) : Nat := uvA d (hCa d) (hCe d)
def hEe (d : List Nat) : Nat := uvE d (hCa d) (hCe d)
/-- Was all read, and nothing wrong? -/
def hOk (d : List Nat) : Bool := decide (hEe d = 0) && decide (hEa d = d.length)

theorem uvE_bad {l : List Nat} {a b : Nat} (hb : b ≠ 0) : uvE l a b ≠ 0 := by
  rw [(uv_none (rd_bad hb)).2.2]
  exact wb_ne _ _ (by decide)
theorem nuE_bad {l : List Nat} {a b : Nat} {m : Int} (hb : b ≠ 0) : nuE l a b m ≠ 0 := by
  rw [(nu_none m (rd_bad hb)).2.2]
  exact wb_ne _ _ (by decide)
theorem src_zero (l : List Nat) (a : Nat) : src l a 0 = l.drop a := by simp [src]

theorem uv_right {d : List Nat} {a n : Nat} {r : List Nat} (h : d.drop a = uv n ++ r) (hn : n < 18446744073709551616) : uvN d a 0 = n ∧ uvA d a 0 = a + (uv n).length ∧ uvE d a 0 = 0 := by
  apply uv_some (k := (uv n).length)
  rw [src_zero, h]
  exact read_back n hn r
theorem nu_right {d : List Nat} {a n : Nat} {r : List Nat} (h : d.drop a = uv n ++ r) (hn : n ≤ 7) : nuN d a 0 7 = n ∧ nuA d a 0 7 = a + (uv n).length ∧ nuE d a 0 7 = 0 := by
  apply nu_some (k := (uv n).length)
  · rw [src_zero, h]
    exact read_back n (by omega) r
  · omega

/-- What was written is read back. -/
theorem hd_back (t v c : Nat) (ht : t < 18446744073709551616) (hv : v ≤ 7) (hc : c < 18446744073709551616) : hdT (hdD t v c) = t ∧ hdV (hdD t v c) = v ∧ hdC (hdD t v c) = c ∧ hOk (hdD t v c) = true := by
  obtain ⟨a1, a2, a3⟩ := uv_right (d := hdD t v c) (a := 0) (n := t) (r := uv v ++ uv c) rfl ht
  rw [Nat.zero_add] at a2
  obtain ⟨b1, b2, b3⟩ := nu_right (d := hdD t v c) (a := (uv t).length) (n := v) (r := uv c) (by unfold hdD; rw [List.drop_left]) hv
  obtain ⟨c1, c2, c3⟩ := uv_right (d := hdD t v c) (a := (uv t).length + (uv v).length) (n := c) (r := []) (by unfold hdD; rw [← List.drop_drop, List.drop_left, List.drop_left, List.append_nil]) hc
  have e1 : hCa (hdD t v c) = (uv t).length + (uv v).length := by unfold hCa; rw [a2, a3, b2]
  have e2 : hCe (hdD t v c) = 0 := by unfold hCe; rw [a2, a3, b3]
  refine ⟨a1, ?_, ?_, ?_⟩
  · unfold hdV; rw [a2, a3, b1]
  · unfold hdC; rw [e1, e2, c1]
  · unfold hOk hEe hEa
    rw [e1, e2, c2, c3]
    simp [hdD, Nat.add_assoc]

/-- What was read without anything wrong is what stands there. -/
theorem hd_forth {d : List Nat} (hl : ∀ c ∈ d, c < 256) (h : hOk d = true) : d = hdD (hdT d) (hdV d) (hdC d) ∧ hdV d ≤ 7 ∧ hdT d < 18446744073709551616 ∧ hdC d < 18446744073709551616 := by
  unfold hOk at h
  simp only [Bool.and_eq_true, decide_eq_true_eq] at h
  obtain ⟨h1, h2⟩ := h
  unfold hEe at h1
  unfold hEa at h2
  have hce : hCe d = 0 := by
    by_cases e : hCe d = 0
    · exact e
    · exact absurd h1 (uvE_bad e)
  have hve : uvE d 0 0 = 0 := by
    by_cases e : uvE d 0 0 = 0
    · exact e
    · exact absurd hce (nuE_bad e)
  rw [hce] at h1 h2
  have hT1 : ∃ n k, rd 10 0 0 (src d 0 0) = some (n, k) := by
    cases hr : rd 10 0 0 (src d 0 0) with
    | none => exact absurd hve (by rw [(uv_none hr).2.2]; exact wb_ne _ _ (by decide))
    | some x => exact ⟨x.1, x.2, rfl⟩
  obtain ⟨n1, k1, hr1⟩ := hT1
  obtain ⟨f1, f2, f3⟩ := uv_some hr1
  rw [src_zero, List.drop_zero] at hr1
  obtain ⟨g1, g2, g3, g4⟩ := canonical d hl n1 k1 hr1
  rw [Nat.zero_add] at f2
  have hV1 : ∃ n k, rd 10 0 0 (src d k1 0) = some (n, k) ∧ (n : Int) ≤ 7 := by
    cases hr : rd 10 0 0 (src d k1 0) with
    | none => exact absurd hce (by unfold hCe; rw [f2, hve, (nu_none 7 hr).2.2]; exact wb_ne _ _ (by decide))
    | some x =>
      by_cases hx : (x.1 : Int) ≤ 7
      · exact ⟨x.1, x.2, rfl, hx⟩
      · exact absurd hce (by unfold hCe; rw [f2, hve, (nu_long (n := x.1) (k := x.2) hr hx).2.2]; exact wb_ne _ _ (by decide))
  obtain ⟨n2, k2, hr2, h7⟩ := hV1
  obtain ⟨p1, p2, p3⟩ := nu_some hr2 h7
  rw [src_zero] at hr2
  obtain ⟨q1, q2, q3, q4⟩ := canonical _ (fun c hc => hl c (List.mem_of_mem_drop hc)) n2 k2 hr2
  have hca : hCa d = k1 + k2 := by unfold hCa; rw [f2, hve, p2]
  rw [hca] at h1 h2
  have hC1 : ∃ n k, rd 10 0 0 (src d (k1 + k2) 0) = some (n, k) := by
    cases hr : rd 10 0 0 (src d (k1 + k2) 0) with
    | none => exact absurd h1 (by rw [(uv_none hr).2.2]; exact wb_ne _ _ (by decide))
    | some x => exact ⟨x.1, x.2, rfl⟩
  obtain ⟨n3, k3, hr3⟩ := hC1
  obtain ⟨u1, u2, u3⟩ := uv_some hr3
  rw [src_zero] at hr3
  obtain ⟨v1, v2, v3, v4⟩ := canonical _ (fun c hc => hl c (List.mem_of_mem_drop hc)) n3 k3 hr3
  have eT : hdT d = n1 := f1
  have eV : hdV d = n2 := by unfold hdV; rw [f2, hve, p1]
  have eC : hdC d = n3 := by unfold hdC; rw [hca, hce, u1]
  rw [u2] at h2
  refine ⟨?_, by rw [eV]; omega, by rw [eT]; exact g4, by rw [eC]; exact v4⟩
  rw [eT, eV, eC]
  unfold hdD
  rw [← g1, ← q1, ← v1]
  have e3 : (d.drop (k1 + k2)).take k3 = d.drop (k1 + k2) := List.take_of_length_le (by rw [List.length_drop]; omega)
  rw [e3, ← List.drop_drop, List.take_append_drop, List.take_append_drop]

/-- What Next finds stands there, frame by frame. -/
theorem next_there {l : List Nat} (hl : ∀ c ∈ l, c < 256) {k n : Nat} {d : List Nat} (h : next l = .ok (k, d, n)) : l.take n = frameB k d ∧ d.length ≤ 1048571 := by
  unfold next at h
  split at h
  · rename_i s m hr
    obtain ⟨c1, c2, -, -⟩ := canonical l hl s m hr
    unfold body at h
    split at h
    · cases h
    · rename_i hs
      split at h
      · cases h
      · rename_i hlen
        split at h
        · rename_i hseal
          simp only [Except.ok.injEq, Prod.mk.injEq] at h
          obtain ⟨h1, h2, h3⟩ := h
          have hB : ((l.drop m).take s).length = s := by rw [List.length_take, List.length_drop]; omega
          have hd : d.length + 5 = s := by rw [← h2, List.length_drop, hB]; omega
          refine ⟨?_, by omega⟩
          have hkd : ((l.drop m).take s).drop 4 = k :: d := by
            rw [← h1, ← h2]
            generalize (l.drop m).take s = B at *
            rw [List.drop_eq_getElem_cons (by omega)]
            simp [List.getElem?_eq_getElem (show 4 < B.length by omega)]
          rw [hkd] at hseal
          unfold frameB
          rw [hd, hseal, ← c1, ← h3]
          exact List.take_add
        · cases h
  · split at h <;> cases h

/-- Both ways to say which bytes are a state's. -/
theorem dec_iff {l : List Nat} (hl : ∀ c ∈ l, c < 256) {k n : Nat} {d : List Nat} (h : next l = .ok (k, d, n)) : (k = 2 ∧ n = l.length ∧ hOk d = true) ↔ (hdV d ≤ 7 ∧ hdB (hdT d) (hdV d) (hdC d) = l) := by
  have hd : ∀ c ∈ d, c < 256 := fun c hc => hl c ((next_ok_facts h).2.2.2 c hc)
  obtain ⟨h1, h2⟩ := next_there hl h
  constructor
  · rintro ⟨rfl, hn, hok⟩
    obtain ⟨e1, e2, -, -⟩ := hd_forth hd hok
    refine ⟨e2, ?_⟩
    unfold hdB
    rw [← e1, ← h1, hn, List.take_length]
  · rintro ⟨h7, he⟩
    have ht : hdT d < 18446744073709551616 := uvN_lt hd
    have hc : hdC d < 18446744073709551616 := uvN_lt hd
    have hlen : (hdD (hdT d) (hdV d) (hdC d)).length ≤ 1048571 := by
      unfold hdD
      have := uv_len10 ht
      have := uv_len10 hc
      have := uv_len10 (n := hdV d) (by omega)
      simp only [List.length_append]
      omega
    have hf := next_frame 2 (hdD (hdT d) (hdV d) (hdC d)) [] hlen
    rw [List.append_nil] at hf
    unfold hdB at he
    rw [he, h] at hf
    simp only [Except.ok.injEq, Prod.mk.injEq] at hf
    obtain ⟨g1, g2, g3⟩ := hf
    refine ⟨g1, g3, ?_⟩
    rw [g2]
    exact (hd_back _ _ _ ht h7 hc).2.2.2

/-- Which state bytes are. -/
def hdDec (l : List Nat) : Option (Nat × Nat × Nat) :=
  match next l with
  | .ok (k, d, n) => if k = 2 ∧ n = l.length ∧ hOk d = true then some (hdT d, hdV d, hdC d) else none
  | .error _ => none
theorem hd_len (t v c : Nat) (ht : t < 18446744073709551616) (hv : v ≤ 7) (hc : c < 18446744073709551616) : (hdD t v c).length ≤ 21 := by
  have := uv_len10 ht
  have := uv_len10 hc
  have := uv_one (n := v) (by omega)
  unfold hdD
  simp only [List.length_append]
  omega
theorem hdDec_back (t v c : Nat) (ht : t < 18446744073709551616) (hv : v ≤ 7) (hc : c < 18446744073709551616) : hdDec (hdB t v c) = some (t, v, c) := by
  have hf := next_frame 2 (hdD t v c) [] (by have := hd_len t v c ht hv hc; omega)
  rw [List.append_nil] at hf
  obtain ⟨h1, h2, h3, h4⟩ := hd_back t v c ht hv hc
  unfold hdDec hdB
  rw [hf]
  dsimp only
  rw [if_pos ⟨rfl, rfl, h4⟩, h1, h2, h3]
theorem hdD_bytes (t v c : Nat) : ∀ x ∈ hdD t v c, x < 256 := by
  intro x hx
  unfold hdD at hx
  rcases List.mem_append.1 hx with hx | hx
  · exact uv_bytes _ x hx
  · rcases List.mem_append.1 hx with hx | hx
    · exact uv_bytes _ x hx
    · exact uv_bytes _ x hx
theorem hdB_bytes (t v c : Nat) : ∀ x ∈ hdB t v c, x < 256 := frameB_lt (by decide) (hdD_bytes t v c)
theorem hdB_len (t v c : Nat) (ht : t < 18446744073709551616) (hv : v ≤ 7) (hc : c < 18446744073709551616) : (hdB t v c).length ≤ 36 := by
  have h1 := hd_len t v c ht hv hc
  unfold hdB
  rw [frameB_length]
  have := uv_len10 (n := (hdD t v c).length + 5) (by omega)
  omega
end Go.Proofs.YtdcpdcnipmfdjaaDoor.Fr

