import Derived.Test.YtebkfkijlopmoaaHs23
/- Plain mathematics of seats' bytes: what is written is read back; what is read without a fault is what is written. -/
namespace Go.Proofs.Ytebkfkijlopmoaa
open SessionMath WireMath Wi
set_option linter.unusedSimpArgs false
set_option linter.unusedVariables false

/-- Bytes, how many ahead; a seat's, a table's. -/
def sB (s : List Nat) : List Nat := uv s.length ++ s
def rB (r : Ms) : List Nat := uv r.cl.toNat ++ uv r.sq ++ sB r.rp
def encB (l : List Ms) : List Nat := uv l.length ++ l.flatMap rB

/-- A seat as it is read, its client at most m; where the reader stands behind it. -/
def stAt (m : Int) (b : List Nat) (a e : Nat) : Ms :=
  ⟨(nuN b a e m : Int), uvN b (nuA b a e m) (nuE b a e m), byL b (uvA b (nuA b a e m) (nuE b a e m)) (uvE b (nuA b a e m) (nuE b a e m)) 4096⟩
def stA (m : Int) (b : List Nat) (a e : Nat) : Nat := byA b (uvA b (nuA b a e m) (nuE b a e m)) (uvE b (nuA b a e m) (nuE b a e m)) 4096
def stX (m : Int) (b : List Nat) (a e : Nat) : Nat := byE b (uvA b (nuA b a e m) (nuE b a e m)) (uvE b (nuA b a e m) (nuE b a e m)) 4096
def rdL (m : Int) (b : List Nat) : Nat → Nat → Nat → List Ms × Nat × Nat
  | 0, a, e => ([], a, e)
  | n + 1, a, e => let x := rdL m b n a e; (x.1 ++ [stAt m b x.2.1 x.2.2], stA m b x.2.1 x.2.2, stX m b x.2.1 x.2.2)
def decX (m : Int) (b : List Nat) : List Ms × Nat × Nat := rdL m b (nuN b 0 0 8) (nuA b 0 0 8) (nuE b 0 0 8)

theorem src0 (b : List Nat) (a : Nat) : src b a 0 = b.drop a := by simp [src]
theorem uv_back {b rest : List Nat} {a n : Nat} (h : b.drop a = uv n ++ rest) (hn : n < 18446744073709551616) : uvN b a 0 = n ∧ uvA b a 0 = a + (uv n).length ∧ uvE b a 0 = 0 :=
  uv_some (by rw [src0, h]; exact read_back n hn rest)
theorem nu_back {b rest : List Nat} {a n : Nat} {m : Int} (h : b.drop a = uv n ++ rest) (hm : (n : Int) ≤ m) (hn : n < 18446744073709551616) : nuN b a 0 m = n ∧ nuA b a 0 m = a + (uv n).length ∧ nuE b a 0 m = 0 :=
  nu_some (by rw [src0, h]; exact read_back n hn rest) hm
theorem by_back {b rest s : List Nat} {a : Nat} {m : Int} (h : b.drop a = sB s ++ rest) (hm : (s.length : Int) ≤ m) (hn : s.length < 18446744073709551616) : byL b a 0 m = s ∧ byA b a 0 m = a + (sB s).length ∧ byE b a 0 m = 0 := by
  unfold sB at h ⊢
  rw [List.append_assoc] at h
  have hrd : rd 10 0 0 (src b a 0) = some (s.length, (uv s.length).length) := by rw [src0, h]; exact read_back _ hn _
  obtain ⟨h1, h2, h3⟩ := by_some hrd hm (by rw [src0, h]; simp)
  refine ⟨?_, by rw [h2, List.length_append], h3⟩
  rw [h1, src0, h, List.drop_left, List.take_left]
theorem uv_can {b : List Nat} {a e : Nat} (hb : ∀ c ∈ b, c < 256) (h : uvE b a e = 0) : e = 0 ∧ b.drop a = uv (uvN b a e) ++ b.drop (uvA b a e) ∧ (a ≤ b.length → uvA b a e ≤ b.length) := by
  cases hr : rd 10 0 0 (src b a e) with
  | none =>
    rw [(uv_none hr).2.2] at h
    exact absurd h (wb_ne e 5 (by decide))
  | some x =>
    obtain ⟨n, k⟩ := x
    obtain ⟨h1, h2, h3⟩ := uv_some hr
    rw [h3] at h
    subst h
    rw [src0] at hr
    have hd : ∀ c ∈ b.drop a, c < 256 := fun c hc => hb c (List.mem_of_mem_drop hc)
    obtain ⟨c1, c2, c3, c4⟩ := canonical _ hd n k hr
    obtain ⟨_, _, _, f4⟩ := rd_facts hd hr
    rw [List.length_drop] at f4
    refine ⟨rfl, ?_, fun _ => by rw [h2]; omega⟩
    rw [h1, h2, ← c1, ← List.drop_drop, List.take_append_drop]
theorem nu_can {b : List Nat} {a e : Nat} {m : Int} (hb : ∀ c ∈ b, c < 256) (h : nuE b a e m = 0) : e = 0 ∧ b.drop a = uv (nuN b a e m) ++ b.drop (nuA b a e m) ∧ (a ≤ b.length → nuA b a e m ≤ b.length) ∧ (nuN b a e m : Int) ≤ m := by
  cases hr : rd 10 0 0 (src b a e) with
  | none =>
    rw [(nu_none m hr).2.2] at h
    exact absurd h (wb_ne e 5 (by decide))
  | some x =>
    obtain ⟨n, k⟩ := x
    by_cases hm : (n : Int) ≤ m
    · obtain ⟨h1, h2, h3⟩ := nu_some hr hm
      rw [h3] at h
      subst h
      rw [src0] at hr
      have hd : ∀ c ∈ b.drop a, c < 256 := fun c hc => hb c (List.mem_of_mem_drop hc)
      obtain ⟨c1, c2, c3, c4⟩ := canonical _ hd n k hr
      obtain ⟨_, _, _, f4⟩ := rd_facts hd hr
      rw [List.length_drop] at f4
      refine ⟨rfl, ?_, fun _ => by rw [h2]; omega, by rw [h1]; exact hm⟩
      rw [h1, h2, ← c1, ← List.drop_drop, List.take_append_drop]
    · rw [(nu_long hr hm).2.2] at h
      exact absurd h (wb_ne e 3 (by decide))
theorem by_can {b : List Nat} {a e : Nat} {m : Int} (hb : ∀ c ∈ b, c < 256) (h : byE b a e m = 0) : e = 0 ∧ b.drop a = sB (byL b a e m) ++ b.drop (byA b a e m) ∧ (a ≤ b.length → byA b a e m ≤ b.length) ∧ ∀ c ∈ byL b a e m, c < 256 := by
  cases hr : rd 10 0 0 (src b a e) with
  | none =>
    rw [(by_none m hr).2.2] at h
    exact absurd h (wb_ne e 5 (by decide))
  | some x =>
    obtain ⟨n, k⟩ := x
    by_cases hm : (n : Int) ≤ m
    · by_cases hn : k + n ≤ (src b a e).length
      · obtain ⟨h1, h2, h3⟩ := by_some hr hm hn
        rw [h3] at h
        subst h
        rw [src0] at hr hn h1
        have hd : ∀ c ∈ b.drop a, c < 256 := fun c hc => hb c (List.mem_of_mem_drop hc)
        obtain ⟨c1, c2, c3, c4⟩ := canonical _ hd n k hr
        have hl : (((b.drop a).drop k).take n).length = n := by
          rw [List.length_take, List.length_drop]
          omega
        have hld := hn
        rw [List.length_drop] at hld
        refine ⟨rfl, ?_, fun _ => by rw [h2]; omega, ?_⟩
        · unfold sB
          rw [h1, h2, hl, ← c1, ← Nat.add_assoc, ← List.drop_drop, ← List.drop_drop, List.append_assoc, List.take_append_drop, List.take_append_drop]
        · intro c hc
          rw [h1] at hc
          exact hd c (List.mem_of_mem_drop (List.mem_of_mem_take hc))
      · rw [(by_few hr hm hn).2.2] at h
        exact absurd h (wb_ne e 5 (by decide))
    · rw [(by_long hr hm).2.2] at h
      exact absurd h (wb_ne e 3 (by decide))
theorem by_lt {b : List Nat} {a e : Nat} {m : Int} (hb : ∀ c ∈ b, c < 256) : ∀ c ∈ byL b a e m, c < 256 := by
  intro c hc
  unfold byL at hc
  split at hc
  · cases hc
  · split at hc
    · split at hc
      · exact src_bytes hb c (List.mem_of_mem_drop (List.mem_of_mem_take hc))
      · cases hc
    · cases hc
theorem by_most {b : List Nat} {a e m : Nat} : (byL b a e (m : Int)).length ≤ m := by
  unfold byL
  split
  · simp
  · split
    · rename_i h
      split
      · rw [List.length_take]
        omega
      · simp
    · simp


/-- A seat that was written is read back. -/
theorem st_back {m : Int} (hm7 : 7 ≤ m) {b rest : List Nat} {a : Nat} {r : Ms} (h : b.drop a = rB r ++ rest) (hr : seatB r = true) : stAt m b a 0 = r ∧ stA m b a 0 = a + (rB r).length ∧ stX m b a 0 = 0 ∧ b.drop (a + (rB r).length) = rest := by
  obtain ⟨c, q, s⟩ := r
  obtain ⟨h1, h2, h3, h4, h5⟩ := seat_iff.1 hr
  dsimp only at h1 h2 h3 h4 h5
  unfold rB at h ⊢
  dsimp only at h ⊢
  obtain ⟨c1, c2, c3⟩ := nu_back (m := m) (n := c.toNat) (rest := uv q ++ sB s ++ rest) (a := a) (b := b) (by rw [h]; simp only [List.append_assoc]) (by omega) (by omega)
  have d1 : b.drop (a + (uv c.toNat).length) = uv q ++ (sB s ++ rest) := by
    rw [← List.drop_drop, h]
    simp only [List.append_assoc, List.drop_left]
  obtain ⟨e1, e2, e3⟩ := uv_back d1 (by omega)
  have d2 : b.drop (a + (uv c.toNat).length + (uv q).length) = sB s ++ rest := by
    rw [← List.drop_drop, d1, List.drop_left]
  obtain ⟨f1, f2, f3⟩ := by_back (m := 4096) d2 (by omega) (by omega)
  unfold stAt stA stX
  rw [c1, c2, c3, e1, e2, e3, f1, f2, f3]
  refine ⟨by rw [show ((c.toNat : Nat) : Int) = c by omega], ?_, rfl, ?_⟩
  · simp only [List.length_append]; omega
  · simp only [List.length_append]
    rw [show a + ((uv c.toNat).length + (uv q).length + (sB s).length) = a + (uv c.toNat).length + (uv q).length + (sB s).length by omega, ← List.drop_drop, d2, List.drop_left]
/-- A seat that was read without a fault is the one that is written. -/
theorem st_can {m : Int} {b : List Nat} {a e : Nat} (hb : ∀ c ∈ b, c < 256) (h : stX m b a e = 0) : e = 0 ∧ b.drop a = rB (stAt m b a e) ++ b.drop (stA m b a e) ∧ (a ≤ b.length → stA m b a e ≤ b.length) := by
  unfold stX at h
  obtain ⟨h1, h2, h3, _⟩ := by_can hb h
  obtain ⟨g1, g2, g3⟩ := uv_can hb h1
  obtain ⟨f1, f2, f3, _⟩ := nu_can hb g1
  refine ⟨f1, ?_, fun ha => ?_⟩
  · unfold rB stAt stA
    dsimp only
    rw [Int.toNat_natCast, f2]
    simp only [List.append_assoc]
    rw [g2, h2]
  · unfold stA
    exact h3 (g3 (f3 ha))

theorem rdL_back {m : Int} (hm7 : 7 ≤ m) {b : List Nat} : ∀ (l : List Ms) (a : Nat) (rest : List Nat), b.drop a = l.flatMap rB ++ rest → (∀ r ∈ l, seatB r = true) → ∀ n, n ≤ l.length → rdL m b n a 0 = (l.take n, a + ((l.take n).flatMap rB).length, 0) ∧ b.drop (a + ((l.take n).flatMap rB).length) = (l.drop n).flatMap rB ++ rest := by
  intro l a rest h hok n
  induction n with
  | zero => intro _; exact ⟨by simp [rdL], by simpa using h⟩
  | succ n ih =>
    intro hn
    obtain ⟨h1, h2⟩ := ih (by omega)
    have hd : l.drop n = l[n] :: l.drop (n + 1) := List.drop_eq_getElem_cons (by omega)
    rw [hd, List.flatMap_cons, List.append_assoc] at h2
    obtain ⟨k1, k2, k3, k4⟩ := st_back hm7 h2 (hok _ (List.getElem_mem _))
    have ht : l.take (n + 1) = l.take n ++ [l[n]] := List.take_succ_eq_append_getElem (by omega)
    have hfl : ((l.take (n + 1)).flatMap rB).length = ((l.take n).flatMap rB).length + (rB l[n]).length := by
      rw [ht, List.flatMap_append, List.length_append]
      simp
    refine ⟨?_, ?_⟩
    · rw [rdL, h1]
      dsimp only
      rw [k1, k2, k3, hfl, ht, Nat.add_assoc]
    · rw [hfl, ← Nat.add_assoc]
      exact k4
/-- A table that was written is read back. -/
theorem dec_back {m : Int} (hm7 : 7 ≤ m) {l : List Ms} (hC : mayB l = true) : decX m (encB l) = (l, (encB l).length, 0) := by
  have hl := may_len hC
  have h0 : (encB l).drop 0 = uv l.length ++ l.flatMap rB := by simp [encB]
  obtain ⟨h1, h2, h3⟩ := nu_back (m := 8) h0 (by omega) (by omega)
  have hd : (encB l).drop (0 + (uv l.length).length) = l.flatMap rB ++ [] := by
    rw [← List.drop_drop, h0, List.drop_left, List.append_nil]
  unfold decX
  rw [h1, h2, h3]
  obtain ⟨h4, h5⟩ := rdL_back hm7 l _ [] hd (may_iff.1 hC).1 l.length (Nat.le_refl _)
  rw [h4, List.take_length]
  simp [encB]
theorem rdL_can {m : Int} {b : List Nat} (hb : ∀ c ∈ b, c < 256) : ∀ (n a e : Nat), (rdL m b n a e).2.2 = 0 → e = 0 ∧ b.drop a = (rdL m b n a e).1.flatMap rB ++ b.drop (rdL m b n a e).2.1 ∧ (a ≤ b.length → (rdL m b n a e).2.1 ≤ b.length) ∧ (rdL m b n a e).1.length = n
  | 0, a, e, h => ⟨h, by simp [rdL], fun h => h, rfl⟩
  | n + 1, a, e, h => by
    rw [rdL] at h ⊢
    dsimp only at h ⊢
    obtain ⟨h1, h2, h3⟩ := st_can hb h
    obtain ⟨k1, k2, k3, k4⟩ := rdL_can hb n a e h1
    refine ⟨k1, ?_, fun ha => h3 (k3 ha), by rw [List.length_append, k4]; rfl⟩
    rw [k2, h2, List.flatMap_append, List.append_assoc]
    simp
/-- What is read to its end without a fault is what is written. -/
theorem dec_can {m : Int} {b : List Nat} (hb : ∀ c ∈ b, c < 256) (h1 : (decX m b).2.2 = 0) (h2 : ¬ (decX m b).2.1 < b.length) : encB (decX m b).1 = b := by
  unfold decX at h1 h2 ⊢
  obtain ⟨k1, k2, k3, k4⟩ := rdL_can hb _ _ _ h1
  obtain ⟨g1, g2, g3, g4⟩ := nu_can hb k1
  unfold encB
  rw [k4]
  have hend : b.drop (rdL m b (nuN b 0 0 8) (nuA b 0 0 8) (nuE b 0 0 8)).2.1 = [] := List.drop_eq_nil_of_le (by omega)
  rw [hend, List.append_nil] at k2
  rw [← k2, ← g2]
  simp
def doneB (b : List Nat) : Bool := decide ((decX 7 b).2.2 = 0) && !decide ((decX 7 b).2.1 < b.length)
def decOk (b : List Nat) : Bool := doneB b && mayB (decX 7 b).1
/-- Both readers tell the same. -/
theorem dec_same {b : List Nat} (hb : ∀ c ∈ b, c < 256) : decOk b = (mayB (decX 8 b).1 && decide (encB (decX 8 b).1 = b)) ∧ (decOk b = true → (decX 8 b).1 = (decX 7 b).1) := by
  have fwd : decOk b = true → (decX 8 b).1 = (decX 7 b).1 ∧ mayB (decX 8 b).1 = true ∧ encB (decX 8 b).1 = b := fun h => by
    simp only [decOk, doneB, Bool.and_eq_true, decide_eq_true_eq, Bool.not_eq_true', decide_eq_false_iff_not] at h
    obtain ⟨⟨h1, h2⟩, h3⟩ := h
    have h4 := dec_can hb h1 h2
    have h5 := dec_back (m := 8) (by decide) h3
    rw [h4] at h5
    rw [h5]
    exact ⟨rfl, h3, h4⟩
  refine ⟨?_, fun h => (fwd h).1⟩
  cases h : decOk b with
  | true =>
    obtain ⟨_, h2, h3⟩ := fwd h
    rw [h2, decide_eq_true h3]
    rfl
  | false =>
    cases hm : mayB (decX 8 b).1 with
    | false => rfl
    | true =>
      by_cases he : encB (decX 8 b).1 = b
      · have h5 := dec_back (m := 7) (by decide) hm
        rw [he] at h5
        have : decOk b = true := by
          simp only [decOk, doneB, Bool.and_eq_true, decide_eq_true_eq, Bool.not_eq_true', decide_eq_false_iff_not]
          rw [h5]
          exact ⟨⟨rfl, by simp⟩, hm⟩
        rw [h] at this
        cases this
      · rw [decide_eq_false he]
        rfl
theorem rdL_len {m : Int} {b : List Nat} : ∀ (n a e : Nat), (rdL m b n a e).1.length = n
  | 0, a, e => rfl
  | n + 1, a, e => by
    rw [rdL]
    dsimp only
    rw [List.length_append, rdL_len n a e]
    rfl
theorem uvN_lt {b : List Nat} {a e : Nat} (hb : ∀ c ∈ b, c < 256) : uvN b a e < 18446744073709551616 := by
  cases hr : rd 10 0 0 (src b a e) with
  | none => rw [(uv_none hr).1]; decide
  | some x =>
    obtain ⟨n, k⟩ := x
    rw [(uv_some hr).1]
    exact (rd_facts (src_bytes hb) hr).1
/-- What is read is of bytes and numbers in their ranges. -/
theorem rdL_ok {m : Int} {b : List Nat} (hb : ∀ c ∈ b, c < 256) : ∀ (n a e : Nat), ∀ s ∈ (rdL m b n a e).1, s.sq < 18446744073709551616 ∧ (∀ c ∈ s.rp, c < 256) ∧ s.rp.length ≤ 4096
  | 0, a, e => by simp [rdL]
  | n + 1, a, e => by
    intro s hs
    rw [rdL] at hs
    dsimp only at hs
    rw [List.mem_append, List.mem_singleton] at hs
    rcases hs with hs | rfl
    · exact rdL_ok hb n a e s hs
    · exact ⟨uvN_lt hb, by_lt hb, by_most (m := 4096)⟩
theorem nuN_most {b : List Nat} {a e m : Nat} : nuN b a e (m : Int) ≤ m := by
  unfold nuN
  split
  · omega
  · split <;> omega
end Go.Proofs.Ytebkfkijlopmoaa

