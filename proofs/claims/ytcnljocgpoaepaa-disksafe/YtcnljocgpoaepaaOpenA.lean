/- How acts that came in are read: each field; each slice with its own datum. -/
import Derived.Test.YtcnljocgpoaepaaOpenD
namespace Go.Proofs.Ytcnljocgpoaepaa
open Go.ChangeShapes Go.WideShapes Go.RowKit DiskMath
set_option maxRecDepth 100000
set_option linter.unusedSimpArgs false

/-- An act as it came in. -/
structure Ac where
  what : Int
  name : ByteArray
  to : ByteArray
  b : List Nat
  n : Int
  cuts : List Int

/-- An act's six values. -/
def AcV [Keep] (w : World) (x : Ac) (vs : List Value) : Prop :=
  ∃ bv cv, vs = [.int .i64 x.what, .string x.name, .string x.to, bv, .int .i64 x.n, cv] ∧ Bs w.heap.size w bv x.b ∧ Nv w cv x.cuts
def AcOk (x : Ac) : Prop := x.name.size ≤ maxLen ∧ x.to.size ≤ maxLen ∧ (∀ c ∈ x.b, c < 256)

/-- A slice of acts, as it is read. -/
def Av [Keep] (w : World) (v : Value) (l : List Ac) : Prop :=
  ∃ ao cap, v = .slice ao l.length cap ∧ ∀ (i : Nat) (x : Ac), l[i]? = some x → ∃ b off vs, ao = some ⟨b, off, none⟩ ∧ AcV w x vs ∧ ∀ (j : Nat) (u : Value), vs[j]? = some u → w.cell? ⟨b, off + i * 6 + j, none⟩ = some u
theorem AcV.below [Keep] {w w' : World} {x : Ac} {vs : List Value} (h : AcV w x vs) (hb : Below w.heap.size w w') : AcV w' x vs := by
  obtain ⟨bv, cv, h1, h2, h3⟩ := h
  exact ⟨bv, cv, h1, (h2.below hb).mono hb.size, h3.below hb⟩
theorem Av.below [Keep] {w w' : World} {v : Value} {l : List Ac} (h : Av w v l) (hb : Below w.heap.size w w') : Av w' v l := by
  obtain ⟨ao, cap, e, h2⟩ := h
  refine ⟨ao, cap, e, fun i x hx => ?_⟩
  obtain ⟨b, off, vs, r1, r2, r3⟩ := h2 i x hx
  exact ⟨b, off, vs, r1, r2.below hb, fun j u hu => (hb.cell (p := ⟨b, off + i * 6 + j, none⟩) (World.block_lt_of_cell? w _ (r3 j u hu))).trans (r3 j u hu)⟩

theorem trod_struct6 {H : Type} {enc : TypeId × Value → H} {P : Program} {w : World} {base : Nat} {spare : Nat → Bool} {held : Bool} {t : TypeId} {f0 f1 f2 f3 f4 f5 : Field} {fuel : Nat} {cs : List Value} {x : DataW H × List MemPlace} (ht : P.underlying t = some (.struct #[f0, f1, f2, f3, f4, f5])) (h : DataW.trod enc P w base spare held fuel t cs = some x) :
    ∃ y0 y1 y2 y3 y4 y5 n, x.1 = .agg [y0.1, y1.1, y2.1, y3.1, y4.1, y5.1] ∧ cs.length = P.cellsOf t ∧ DataW.trod enc P w base spare held n f0.type ((cs.drop f0.offset).take (P.cellsOf f0.type)) = some y0 ∧
      DataW.trod enc P w base spare held n f1.type ((cs.drop f1.offset).take (P.cellsOf f1.type)) = some y1 ∧ DataW.trod enc P w base spare held n f2.type ((cs.drop f2.offset).take (P.cellsOf f2.type)) = some y2 ∧
      DataW.trod enc P w base spare held n f3.type ((cs.drop f3.offset).take (P.cellsOf f3.type)) = some y3 ∧ DataW.trod enc P w base spare held n f4.type ((cs.drop f4.offset).take (P.cellsOf f4.type)) = some y4 ∧
      DataW.trod enc P w base spare held n f5.type ((cs.drop f5.offset).take (P.cellsOf f5.type)) = some y5 := by
  obtain ⟨xs, n, _, rfl, hl, hlen, hf⟩ := DataW.trod_struct ht h
  match xs, hlen with
  | [y0, y1, y2, y3, y4, y5], _ => exact ⟨y0, y1, y2, y3, y4, y5, n, by simp, hl, by simpa using hf 0 f0 rfl, by simpa using hf 1 f1 rfl, by simpa using hf 2 f2 rfl, by simpa using hf 3 f3 rfl, by simpa using hf 4 f4 rfl, by simpa using hf 5 f5 rfl⟩

/-- One act, opened. -/
theorem act_opened [Keep] {H : Type} {enc : TypeId × Value → H} {W : World} {fuel : Nat} {cs : List Value} {y : DataW H × List MemPlace} (hlen : cs.length = 6)
    (hk : ∀ b, b < W.heap.size → kOk b) (h : DataW.trod enc Try.prog W 0 (fun _ => true) true fuel 36 cs = some y) :
    ∃ x, AcV W x cs ∧ AcOk x ∧ (x.b = [] ∨ ∃ d0 d1 d2 e1 s1 d4 d5, y.1 = .agg [d0, d1, d2, .slice e1 s1, d4, d5] ∧ e1.length = x.b.length) ∧ (x.cuts = [] ∨ ∃ d0 d1 d2 d3 d4 e1 s1, y.1 = .agg [d0, d1, d2, d3, d4, .slice e1 s1] ∧ e1.length = x.cuts.length) := by
  obtain ⟨y0, y1, y2, y3, y4, y5, k, hxy, _, g0, g1, g2, g3, g4, g5⟩ := trod_struct6 Try.underlying36 h
  match cs, hlen with
  | [v0, v1, v2, v3, v4, v5], _ =>
    have g0' : DataW.trod enc Try.prog W 0 (fun _ => true) true k 3 [v0] = some y0 := g0
    have g1' : DataW.trod enc Try.prog W 0 (fun _ => true) true k 9 [v1] = some y1 := g1
    have g2' : DataW.trod enc Try.prog W 0 (fun _ => true) true k 9 [v2] = some y2 := g2
    have g3' : DataW.trod enc Try.prog W 0 (fun _ => true) true k 33 [v3] = some y3 := g3
    have g4' : DataW.trod enc Try.prog W 0 (fun _ => true) true k 3 [v4] = some y4 := g4
    have g5' : DataW.trod enc Try.prog W 0 (fun _ => true) true k 34 [v5] = some y5 := g5
    obtain ⟨z0, i0, _, _⟩ := DataW.trod_int Try.underlying3 g0'
    obtain ⟨s1, i1, _, j1⟩ := DataW.trod_string Try.underlying9 g1'
    obtain ⟨s2, i2, _, j2⟩ := DataW.trod_string Try.underlying9 g2'
    obtain ⟨bs, hbs, hbs1, hbs2⟩ := bs_opened hk g3'
    obtain ⟨z4, i4, _, _⟩ := DataW.trod_int Try.underlying3 g4'
    obtain ⟨cu, hcu, hcu2⟩ := ints_opened g5'
    simp only [List.cons.injEq, and_true] at i0 i1 i2 i4
    subst i0 i1 i2 i4
    refine ⟨⟨z0, s1, s2, bs, z4, cu⟩, ⟨v3, v5, rfl, hbs, hcu⟩, ⟨j1, j2, hbs1⟩, ?_, ?_⟩
    · rcases hbs2 with h0 | ⟨el, sp, q1, q2⟩
      · exact .inl h0
      · exact .inr ⟨_, _, _, el, sp, _, _, by rw [hxy, q1], q2⟩
    · rcases hcu2 with h0 | ⟨el, sp, q1, q2⟩
      · exact .inl h0
      · exact .inr ⟨_, _, _, _, _, el, sp, by rw [hxy, q1], q2⟩

/-- A slice of acts, opened. -/
theorem acts_opened [Keep] {H : Type} {enc : TypeId × Value → H} {W : World} {fuel : Nat} {v : Value} {x : DataW H × List MemPlace}
    (hk : ∀ b, b < W.heap.size → kOk b) (h : DataW.trod enc Try.prog W 0 (fun _ => true) true fuel 23 [v] = some x) :
    ∃ l, Av W v l ∧ (∀ r ∈ l, AcOk r) ∧ ∀ r ∈ l, (r.b ≠ [] → ∃ el sp, x.1 = .slice el sp ∧ ∃ d0 d1 d2 e1 s1 d4 d5, DataW.agg [d0, d1, d2, .slice e1 s1, d4, d5] ∈ el ∧ e1.length = r.b.length) ∧
      (r.cuts ≠ [] → ∃ el sp, x.1 = .slice el sp ∧ ∃ d0 d1 d2 d3 d4 e1 s1, DataW.agg [d0, d1, d2, d3, d4, .slice e1 s1] ∈ el ∧ e1.length = r.cuts.length) := by
  rcases Deep.open_slice Try.underlying23 h with ⟨hcs, hx⟩ | ⟨a, len, cap, m, n, D, Pl, hcs, _, hl, hm, hmm, hx, hc⟩
  · obtain rfl : v = .slice none 0 0 := by simpa using hcs
    exact ⟨[], ⟨none, 0, rfl, fun i f hf => by simp at hf⟩, by simp, by simp⟩
  · obtain rfl : v = .slice (some a) len cap := by simpa using hcs
    have hmc : m = cap := by rw [hmm]; rfl
    subst hmc
    have each : ∀ i, i < len → ∃ q : Ac, (∃ vs, AcV W q vs ∧ ∀ j u, vs[j]? = some u → W.cell? (a.add (i * 6 + j)) = some u) ∧ AcOk q ∧ (q.b = [] ∨ ∃ d0 d1 d2 e1 s1 d4 d5, D i = .agg [d0, d1, d2, .slice e1 s1, d4, d5] ∧ e1.length = q.b.length) ∧
        (q.cuts = [] ∨ ∃ d0 d1 d2 d3 d4 e1 s1, D i = .agg [d0, d1, d2, d3, d4, .slice e1 s1] ∧ e1.length = q.cuts.length) := by
      intro i hi
      obtain ⟨cs', h1, h2⟩ := hc i (by omega)
      rw [cells_act] at h1
      obtain ⟨_, hlen, hcell⟩ := World.cells?_some h1
      obtain ⟨q, r1, r2, r3, r4⟩ := act_opened hlen hk h2
      refine ⟨q, ⟨cs', r1, fun j u hu => ?_⟩, r2, r3, r4⟩
      have hj := (List.getElem?_eq_some_iff.1 hu).1
      have e := hcell j (by omega)
      rw [Deep.add_add, hu] at e
      exact e
    haveI : Inhabited Ac := ⟨⟨0, ByteArray.empty, ByteArray.empty, [], 0, []⟩⟩
    obtain ⟨Q, hQ⟩ := Deep.choose_lt (α := Ac) each
    have hzl : ((List.range len).map Q).length = len := by simp
    refine ⟨(List.range len).map Q, ⟨some a, m, by rw [hzl], fun i f hf => ?_⟩, ?_, ?_⟩
    · have hi : i < len := by
        have := (List.getElem?_eq_some_iff.1 hf).1
        simpa using this
      have e : Q i = f := by simpa [hi] using hf
      obtain ⟨⟨vs, g1, g2⟩, _⟩ := hQ i hi
      have gz : ∃ u, W.cell? (a.add (0 * 6 + 0)) = some u := by
        obtain ⟨⟨vz, ⟨bz, cz, hz, _⟩, hz2⟩, _⟩ := hQ 0 (by omega)
        exact ⟨_, hz2 0 _ (by rw [hz]; rfl)⟩
      obtain ⟨u, gz⟩ := gz
      obtain ⟨b, off, spot⟩ := a
      have hspot : spot = none := by simpa [Addr.add] using World.cell?_spot gz
      subst hspot
      rw [e] at g1
      refine ⟨b, off, vs, rfl, g1, fun j u hu => ?_⟩
      have := g2 j u hu
      rw [Addr.add_lit] at this
      rw [Nat.add_assoc]
      exact this
    · intro r hr
      obtain ⟨i, hi, rfl⟩ := List.mem_map.1 hr
      exact (hQ i (List.mem_range.1 hi)).2.1
    · intro r hr
      obtain ⟨i, hi, rfl⟩ := List.mem_map.1 hr
      obtain ⟨_, _, h3, h4⟩ := hQ i (List.mem_range.1 hi)
      refine ⟨fun hne => ?_, fun hne => ?_⟩
      · rcases h3 with h0 | ⟨d0, d1, d2, e1, s1, d4, d5, q1, q2⟩
        · exact absurd h0 hne
        · exact ⟨_, _, (Prod.mk.inj hx).1, d0, d1, d2, e1, s1, d4, d5, List.mem_map.2 ⟨i, hi, q1⟩, q2⟩
      · rcases h4 with h0 | ⟨d0, d1, d2, d3, d4, e1, s1, q1, q2⟩
        · exact absurd h0 hne
        · exact ⟨_, _, (Prod.mk.inj hx).1, d0, d1, d2, d3, d4, e1, s1, List.mem_map.2 ⟨i, hi, q1⟩, q2⟩
end Go.Proofs.Ytcnljocgpoaepaa
