import Derived.Test.YtldlimakcdaoaaaHd15
import Derived.Test.YtldlimakcdaoaaaHd17
/- Plain mathematics of a chart's bytes: what is written is read back; what is read without a fault is what is written. -/
namespace Go.Proofs.Ytldlimakcdaoaaa
open SpanMath ChartMath WireMath Wi
set_option linter.unusedSimpArgs false
set_option linter.unusedVariables false

def kb (k : K) : List Nat := k.map UInt8.toNat
def ku (l : List Nat) : K := l.map UInt8.ofNat
theorem kb_lt (k : K) : ∀ c ∈ kb k, c < 256 := by
  intro c hc
  obtain ⟨x, _, rfl⟩ := List.mem_map.1 hc
  exact x.toNat_lt
theorem ku_kb (k : K) : ku (kb k) = k := by
  unfold ku kb
  rw [List.map_map]
  conv => rhs; rw [← List.map_id k]
  apply List.map_congr_left
  intro x _
  simp
theorem kb_ku {l : List Nat} (h : ∀ c ∈ l, c < 256) : kb (ku l) = l := by
  unfold ku kb
  rw [List.map_map]
  conv => rhs; rw [← List.map_id l]
  apply List.map_congr_left
  intro x hx
  have := h x hx
  simp [Nat.mod_eq_of_lt this]
theorem kb_len (k : K) : (kb k).length = k.length := by simp [kb]
theorem ku_len (l : List Nat) : (ku l).length = l.length := by simp [ku]

/-- A key's bytes, how many ahead; a range's, a chart's. -/
def sB (s : List Nat) : List Nat := uv s.length ++ s
def rB (r : Rg) : List Nat := sB (kb r.1.1) ++ sB (kb r.1.2) ++ uv r.2.1.toNat ++ uv r.2.2.toNat
def encB (l : List Rg) : List Nat := uv l.length ++ l.flatMap rB

/-- A range as it is read; where the reader stands behind it. -/
def rgAt (b : List Nat) (a e : Nat) : Rg :=
  ((ku (byL b a e 64), ku (byL b (byA b a e 64) (byE b a e 64) 64)),
    (nuN b (byA b (byA b a e 64) (byE b a e 64) 64) (byE b (byA b a e 64) (byE b a e 64) 64) 16 : Int),
    (uvN b (nuA b (byA b (byA b a e 64) (byE b a e 64) 64) (byE b (byA b a e 64) (byE b a e 64) 64) 16) (nuE b (byA b (byA b a e 64) (byE b a e 64) 64) (byE b (byA b a e 64) (byE b a e 64) 64) 16) : Int))
def rgA (b : List Nat) (a e : Nat) : Nat := uvA b (nuA b (byA b (byA b a e 64) (byE b a e 64) 64) (byE b (byA b a e 64) (byE b a e 64) 64) 16) (nuE b (byA b (byA b a e 64) (byE b a e 64) 64) (byE b (byA b a e 64) (byE b a e 64) 64) 16)
def rgX (b : List Nat) (a e : Nat) : Nat := uvE b (nuA b (byA b (byA b a e 64) (byE b a e 64) 64) (byE b (byA b a e 64) (byE b a e 64) 64) 16) (nuE b (byA b (byA b a e 64) (byE b a e 64) 64) (byE b (byA b a e 64) (byE b a e 64) 64) 16)
def rdL (b : List Nat) : Nat → Nat → Nat → List Rg × Nat × Nat
  | 0, a, e => ([], a, e)
  | n + 1, a, e => let x := rdL b n a e; (x.1 ++ [rgAt b x.2.1 x.2.2], rgA b x.2.1 x.2.2, rgX b x.2.1 x.2.2)
def decX (b : List Nat) : List Rg × Nat × Nat := rdL b (nuN b 0 0 64) (nuA b 0 0 64) (nuE b 0 0 64)

theorem src0 (b : List Nat) (a : Nat) : src b a 0 = b.drop a := by simp [src]
theorem uv_back {b rest : List Nat} {a n : Nat} (h : b.drop a = uv n ++ rest) (hn : n < 18446744073709551616) : uvN b a 0 = n ∧ uvA b a 0 = a + (uv n).length ∧ uvE b a 0 = 0 :=
  uv_some (by rw [src0, h]; exact read_back n hn rest)
theorem nu_back {b rest : List Nat} {a n : Nat} {m : Int} (h : b.drop a = uv n ++ rest) (hm : (n : Int) ≤ m) (hn : n < 18446744073709551616) : nuN b a 0 m = n ∧ nuA b a 0 m = a + (uv n).length ∧ nuE b a 0 m = 0 :=
  nu_some (by rw [src0, h]; exact read_back n hn rest) hm
theorem by_back {b rest s : List Nat} {a : Nat} {m : Int} (h : b.drop a = sB s ++ rest) (hm : (s.length : Int) ≤ m) (hn : s.length < 18446744073709551616) : byL b a 0 m = s ∧ byA b a 0 m = a + (sB s).length ∧ byE b a 0 m = 0 := by
  unfold sB at h ⊢
  rw [List.append_assoc] at h
  have hrd : rd 10 0 0 (src b a 0) = some (s.length, (uv s.length).length) := by rw [src0, h]; exact read_back _ hn _
  obtain ⟨h1, h2, h3⟩ := by_some hrd hm (by rw [src0, h]; simp)
  refine ⟨?_, by rw [h2, List.length_append], h3⟩
  rw [h1, src0, h, List.drop_left, List.take_left]
theorem uv_can {b : List Nat} {a e : Nat} (hb : ∀ c ∈ b, c < 256) (h : uvE b a e = 0) : e = 0 ∧ b.drop a = uv (uvN b a e) ++ b.drop (uvA b a e) ∧ (a ≤ b.length → uvA b a e ≤ b.length) := by
  cases hr : rd 10 0 0 (src b a e) with
  | none =>
    rw [(uv_none hr).2.2] at h
    exact absurd h (wb_ne e 5 (by decide))
  | some x =>
    obtain ⟨n, k⟩ := x
    obtain ⟨h1, h2, h3⟩ := uv_some hr
    rw [h3] at h
    subst h
    rw [src0] at hr
    have hd : ∀ c ∈ b.drop a, c < 256 := fun c hc => hb c (List.mem_of_mem_drop hc)
    obtain ⟨c1, c2, c3, c4⟩ := canonical _ hd n k hr
    obtain ⟨_, _, _, f4⟩ := rd_facts hd hr
    rw [List.length_drop] at f4
    refine ⟨rfl, ?_, fun _ => by rw [h2]; omega⟩
    rw [h1, h2, ← c1, ← List.drop_drop, List.take_append_drop]
theorem nu_can {b : List Nat} {a e : Nat} {m : Int} (hb : ∀ c ∈ b, c < 256) (h : nuE b a e m = 0) : e = 0 ∧ b.drop a = uv (nuN b a e m) ++ b.drop (nuA b a e m) ∧ (a ≤ b.length → nuA b a e m ≤ b.length) ∧ (nuN b a e m : Int) ≤ m := by
  cases hr : rd 10 0 0 (src b a e) with
  | none =>
    rw [(nu_none m hr).2.2] at h
    exact absurd h (wb_ne e 5 (by decide))
  | some x =>
    obtain ⟨n, k⟩ := x
    by_cases hm : (n : Int) ≤ m
    · obtain ⟨h1, h2, h3⟩ := nu_some hr hm
      rw [h3] at h
      subst h
      rw [src0] at hr
      have hd : ∀ c ∈ b.drop a, c < 256 := fun c hc => hb c (List.mem_of_mem_drop hc)
      obtain ⟨c1, c2, c3, c4⟩ := canonical _ hd n k hr
      obtain ⟨_, _, _, f4⟩ := rd_facts hd hr
      rw [List.length_drop] at f4
      refine ⟨rfl, ?_, fun _ => by rw [h2]; omega, by rw [h1]; exact hm⟩
      rw [h1, h2, ← c1, ← List.drop_drop, List.take_append_drop]
    · rw [(nu_long hr hm).2.2] at h
      exact absurd h (wb_ne e 3 (by decide))
theorem by_can {b : List Nat} {a e : Nat} {m : Int} (hb : ∀ c ∈ b, c < 256) (h : byE b a e m = 0) : e = 0 ∧ b.drop a = sB (byL b a e m) ++ b.drop (byA b a e m) ∧ (a ≤ b.length → byA b a e m ≤ b.length) ∧ ∀ c ∈ byL b a e m, c < 256 := by
  cases hr : rd 10 0 0 (src b a e) with
  | none =>
    rw [(by_none m hr).2.2] at h
    exact absurd h (wb_ne e 5 (by decide))
  | some x =>
    obtain ⟨n, k⟩ := x
    by_cases hm : (n : Int) ≤ m
    · by_cases hn : k + n ≤ (src b a e).length
      · obtain ⟨h1, h2, h3⟩ := by_some hr hm hn
        rw [h3] at h
        subst h
        rw [src0] at hr hn h1
        have hd : ∀ c ∈ b.drop a, c < 256 := fun c hc => hb c (List.mem_of_mem_drop hc)
        obtain ⟨c1, c2, c3, c4⟩ := canonical _ hd n k hr
        have hl : (((b.drop a).drop k).take n).length = n := by
          rw [List.length_take, List.length_drop]
          omega
        have hld := hn
        rw [List.length_drop] at hld
        refine ⟨rfl, ?_, fun _ => by rw [h2]; omega, ?_⟩
        · unfold sB
          rw [h1, h2, hl, ← c1, ← Nat.add_assoc, ← List.drop_drop, ← List.drop_drop, List.append_assoc, List.take_append_drop, List.take_append_drop]
        · intro c hc
          rw [h1] at hc
          exact hd c (List.mem_of_mem_drop (List.mem_of_mem_take hc))
      · rw [(by_few hr hm hn).2.2] at h
        exact absurd h (wb_ne e 5 (by decide))
    · rw [(by_long hr hm).2.2] at h
      exact absurd h (wb_ne e 3 (by decide))
theorem by_lt {b : List Nat} {a e : Nat} {m : Int} (hb : ∀ c ∈ b, c < 256) : ∀ c ∈ byL b a e m, c < 256 := by
  intro c hc
  unfold byL at hc
  split at hc
  · cases hc
  · split at hc
    · split at hc
      · exact src_bytes hb c (List.mem_of_mem_drop (List.mem_of_mem_take hc))
      · cases hc
    · cases hc
theorem by_most {b : List Nat} {a e m : Nat} : (byL b a e (m : Int)).length ≤ m := by
  unfold byL
  split
  · simp
  · split
    · rename_i h
      split
      · rw [List.length_take]
        omega
      · simp
    · simp

/-- A range that was written is read back. -/
theorem rg_back {b rest : List Nat} {a : Nat} {r : Rg} (h : b.drop a = rB r ++ rest) (hr : rOk r = true) : rgAt b a 0 = r ∧ rgA b a 0 = a + (rB r).length ∧ rgX b a 0 = 0 ∧ b.drop (a + (rB r).length) = rest := by
  obtain ⟨⟨f, t⟩, g, e⟩ := r
  simp only [rOk, gOk, eOk, Bool.and_eq_true, decide_eq_true_eq] at hr
  obtain ⟨⟨hmay, hg1, hg2⟩, he1, he2⟩ := hr
  obtain ⟨⟨hf, ht⟩, _⟩ := may_iff.1 hmay
  dsimp only at hf ht
  unfold rB at h ⊢
  dsimp only at h ⊢
  have hf' := kb_len f
  have ht' := kb_len t
  obtain ⟨a1, a2, a3⟩ := by_back (m := 64) (s := kb f) (rest := sB (kb t) ++ uv g.toNat ++ uv e.toNat ++ rest) (a := a) (b := b) (by rw [h]; simp only [List.append_assoc]) (by omega) (by omega)
  have d1 : b.drop (a + (sB (kb f)).length) = sB (kb t) ++ (uv g.toNat ++ uv e.toNat ++ rest) := by
    rw [← List.drop_drop, h]
    simp only [List.append_assoc, List.drop_left]
  obtain ⟨b1, b2, b3⟩ := by_back (m := 64) d1 (by omega) (by omega)
  have d2 : b.drop (a + (sB (kb f)).length + (sB (kb t)).length) = uv g.toNat ++ (uv e.toNat ++ rest) := by
    rw [← List.drop_drop, d1]
    simp only [List.append_assoc, List.drop_left]
  obtain ⟨c1, c2, c3⟩ := nu_back (m := 16) d2 (by omega) (by omega)
  have d3 : b.drop (a + (sB (kb f)).length + (sB (kb t)).length + (uv g.toNat).length) = uv e.toNat ++ rest := by
    rw [← List.drop_drop, d2, List.drop_left]
  obtain ⟨e1, e2, e3⟩ := uv_back d3 (by omega)
  unfold rgAt rgA rgX
  rw [a1, a2, a3, b1, b2, b3, c1, c2, c3, e1, e2, e3, ku_kb, ku_kb]
  refine ⟨by rw [show ((g.toNat : Nat) : Int) = g by omega, show ((e.toNat : Nat) : Int) = e by omega], ?_, rfl, ?_⟩
  · simp only [List.length_append]; omega
  · simp only [List.length_append]
    rw [show a + ((sB (kb f)).length + (sB (kb t)).length + (uv g.toNat).length + (uv e.toNat).length) = a + (sB (kb f)).length + (sB (kb t)).length + (uv g.toNat).length + (uv e.toNat).length by omega, ← List.drop_drop, d3, List.drop_left]
/-- A range that was read without a fault is the one that is written. -/
theorem rg_can {b : List Nat} {a e : Nat} (hb : ∀ c ∈ b, c < 256) (h : rgX b a e = 0) : e = 0 ∧ b.drop a = rB (rgAt b a e) ++ b.drop (rgA b a e) ∧ (a ≤ b.length → rgA b a e ≤ b.length) := by
  unfold rgX at h
  obtain ⟨h1, h2, h3⟩ := uv_can hb h
  obtain ⟨g1, g2, g3, _⟩ := nu_can hb h1
  obtain ⟨f1, f2, f3, f4⟩ := by_can hb g1
  obtain ⟨e1, e2, e3, e4⟩ := by_can hb f1
  refine ⟨e1, ?_, fun ha => ?_⟩
  · unfold rB rgAt rgA
    dsimp only
    rw [kb_ku e4, kb_ku f4, Int.toNat_natCast, Int.toNat_natCast, e2]
    simp only [List.append_assoc]
    rw [f2, g2, h2]
  · unfold rgA
    exact h3 (g3 (f3 (e3 ha)))

theorem rdL_back {b : List Nat} : ∀ (l : List Rg) (a : Nat) (rest : List Nat), b.drop a = l.flatMap rB ++ rest → (∀ r ∈ l, rOk r = true) → ∀ n, n ≤ l.length → rdL b n a 0 = (l.take n, a + ((l.take n).flatMap rB).length, 0) ∧ b.drop (a + ((l.take n).flatMap rB).length) = (l.drop n).flatMap rB ++ rest := by
  intro l a rest h hok n
  induction n with
  | zero => intro _; exact ⟨by simp [rdL], by simpa using h⟩
  | succ n ih =>
    intro hn
    obtain ⟨h1, h2⟩ := ih (by omega)
    have hx : l[n]? = some l[n] := List.getElem?_eq_getElem (by omega)
    have hd : l.drop n = l[n] :: l.drop (n + 1) := List.drop_eq_getElem_cons (by omega)
    rw [hd, List.flatMap_cons, List.append_assoc] at h2
    obtain ⟨k1, k2, k3, k4⟩ := rg_back h2 (hok _ (List.getElem_mem _))
    have ht : l.take (n + 1) = l.take n ++ [l[n]] := List.take_succ_eq_append_getElem (by omega)
    have hfl : ((l.take (n + 1)).flatMap rB).length = ((l.take n).flatMap rB).length + (rB l[n]).length := by
      rw [ht, List.flatMap_append, List.length_append]
      simp
    refine ⟨?_, ?_⟩
    · rw [rdL, h1]
      dsimp only
      rw [k1, k2, k3, hfl, ht, Nat.add_assoc]
    · rw [hfl, ← Nat.add_assoc]
      exact k4
/-- A chart that was written is read back. -/
theorem dec_back {l : List Rg} (hC : Chart l) : decX (encB l) = (l, (encB l).length, 0) := by
  have hl := hC.len
  have h0 : (encB l).drop 0 = uv l.length ++ l.flatMap rB := by simp [encB]
  obtain ⟨h1, h2, h3⟩ := nu_back (m := 64) h0 (by omega) (by omega)
  have hd : (encB l).drop (0 + (uv l.length).length) = l.flatMap rB ++ [] := by
    rw [← List.drop_drop, h0, List.drop_left, List.append_nil]
  unfold decX
  rw [h1, h2, h3]
  obtain ⟨h4, h5⟩ := rdL_back l _ [] hd hC.ok l.length (Nat.le_refl _)
  rw [h4, List.take_length]
  simp [encB]
theorem rdL_can {b : List Nat} (hb : ∀ c ∈ b, c < 256) : ∀ (n a e : Nat), (rdL b n a e).2.2 = 0 → e = 0 ∧ b.drop a = (rdL b n a e).1.flatMap rB ++ b.drop (rdL b n a e).2.1 ∧ (a ≤ b.length → (rdL b n a e).2.1 ≤ b.length) ∧ (rdL b n a e).1.length = n
  | 0, a, e, h => ⟨h, by simp [rdL], fun h => h, rfl⟩
  | n + 1, a, e, h => by
    rw [rdL] at h ⊢
    dsimp only at h ⊢
    obtain ⟨h1, h2, h3⟩ := rg_can hb h
    obtain ⟨k1, k2, k3, k4⟩ := rdL_can hb n a e h1
    refine ⟨k1, ?_, fun ha => h3 (k3 ha), by rw [List.length_append, k4]; rfl⟩
    rw [k2, h2, List.flatMap_append, List.append_assoc]
    simp
/-- What is read to its end without a fault is what is written. -/
theorem dec_can {b : List Nat} (hb : ∀ c ∈ b, c < 256) (h1 : (decX b).2.2 = 0) (h2 : ¬ (decX b).2.1 < b.length) : encB (decX b).1 = b := by
  unfold decX at h1 h2 ⊢
  obtain ⟨k1, k2, k3, k4⟩ := rdL_can hb _ _ _ h1
  obtain ⟨g1, g2, g3, g4⟩ := nu_can hb k1
  unfold encB
  rw [k4]
  have hend : b.drop (rdL b (nuN b 0 0 64) (nuA b 0 0 64) (nuE b 0 0 64)).2.1 = [] := List.drop_eq_nil_of_le (by omega)
  rw [hend, List.append_nil] at k2
  rw [← k2, ← g2]
  simp
/-- Both readers tell the same. -/
theorem dec_same {b : List Nat} (hb : ∀ c ∈ b, c < 256) (hm : mayC (decX b).1 = true) : ((decX b).2.2 = 0 ∧ ¬ (decX b).2.1 < b.length) ↔ encB (decX b).1 = b := by
  constructor
  · rintro ⟨h1, h2⟩; exact dec_can hb h1 h2
  · intro h
    have h3 := dec_back (mayC_iff.1 hm)
    rw [h] at h3
    rw [h3]
    exact ⟨rfl, by simp⟩
theorem rdL_len {b : List Nat} : ∀ (n a e : Nat), (rdL b n a e).1.length = n
  | 0, a, e => rfl
  | n + 1, a, e => by
    rw [rdL]
    dsimp only
    rw [List.length_append, rdL_len n a e]
    rfl
theorem nuN_most {b : List Nat} {a e m : Nat} : nuN b a e (m : Int) ≤ m := by
  unfold nuN
  split
  · omega
  · split <;> omega
end Go.Proofs.Ytldlimakcdaoaaa

