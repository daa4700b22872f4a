import Derived.Test.YtjkjekhbfjjnjaaHb06
import Derived.Deep.SlicePairs
import Derived.ProofKit
import Derived.Lib.SmallJoins
import Derived.SizedLaws
/- How what came in is read: byte slices, acts; each slice with its own datum, for the form's reach. -/
namespace Go.Proofs.Ytjkjekhbfjjnjaa
open Go.ChangeShapes Go.WideShapes Go.RowKit
set_option maxRecDepth 100000
set_option linter.unusedSimpArgs false
set_option linter.unusedVariables false

theorem cells_byte : Try.prog.cellsOf 5 = 1 := by kernel_rfl
theorem cells_act : Try.prog.cellsOf 33 = 4 := by kernel_rfl

/-- A byte slice, opened. -/
theorem bs_opened [Keep] {H : Type} {enc : TypeId × Value → H} {W : World} {fuel : Nat} {sv : Value} {x : DataW H × List MemPlace}
    (hk : ∀ b, b < W.heap.size → kOk b) (h : DataW.trod enc Try.prog W 0 (fun _ => true) true fuel 31 [sv] = some x) :
    ∃ s, Bs W.heap.size W sv s ∧ (∀ c ∈ s, c < 256) ∧ (s = [] ∨ ∃ el sp, x.1 = .slice el sp ∧ el.length = s.length) := by
  rcases Deep.open_slice1 Try.underlying31 cells_byte h with ⟨hcs, hx⟩ | ⟨a, len, cap, m, n, V, D, Pl, hcs, _, hl, hm, hmm, hx, hc⟩
  · obtain rfl : sv = .slice none 0 0 := by simpa using hcs
    exact ⟨[], Bs.nil _ _, by simp, .inl rfl⟩
  · obtain rfl : sv = .slice (some a) len cap := by simpa using hcs
    have hmc : m = cap := by rw [hmm]; rfl
    subst hmc
    have each : ∀ i, i < len → ∃ c : Nat, W.cell? (a.add i) = some (.int .u8 (c : Int)) ∧ c < 256 := by
      intro i hi
      obtain ⟨h1, h2⟩ := hc i (by omega)
      obtain ⟨k, g1, g2, g3⟩ := DataW.trod_int Try.underlying5 h2
      simp only [List.cons.injEq, and_true] at g1
      have hk : 0 ≤ k ∧ k ≤ 255 := by
        have g4 : IntKind.u8.min ≤ k ∧ k ≤ IntKind.u8.max := by simpa [Lit.wf] using g3
        exact g4
      exact ⟨k.toNat, by rw [h1, g1, Int.toNat_of_nonneg hk.1], by omega⟩
    obtain ⟨Q, hQ⟩ := Deep.choose_lt (α := Nat) each
    have hzl : ((List.range len).map Q).length = len := by simp
    refine ⟨(List.range len).map Q, ⟨some a, m, by rw [hzl], by rw [hzl]; exact hl, hm, (fun h => by cases h), fun hne => ?_⟩, ?_, .inr ⟨_, _, (Prod.mk.inj hx).1, by simp⟩⟩
    · have h0 : 0 < len := by
        rcases Nat.eq_zero_or_pos len with h0 | h0
        · subst h0; simp at hne
        · exact h0
      have hc0 := (hQ 0 h0).1
      obtain ⟨b, off, spot⟩ := a
      have hspot : spot = none := by simpa [Addr.add] using World.cell?_spot hc0
      subst hspot
      refine ⟨b, off, rfl, ⟨World.block_lt_of_cell? W _ hc0, hk b (World.block_lt_of_cell? W _ hc0)⟩, fun j c hj => ?_⟩
      have hj' : j < len := by
        have := (List.getElem?_eq_some_iff.1 hj).1
        simpa using this
      have e : Q j = c := by simpa [hj'] using hj
      have g1 := (hQ j hj').1
      rw [Addr.add_lit] at g1
      rw [g1, e]
    · intro c hc
      obtain ⟨i, hi, rfl⟩ := List.mem_map.1 hc
      exact (hQ i (List.mem_range.1 hi)).2


/-- An act as it came in. -/
structure Ac where
  what : Int
  a : Int
  b : Int
  data : List Nat
/-- An act's four values. -/
def AcV (w : World) (x : Ac) (vs : List Value) : Prop :=
  ∃ bv, vs = [.int .i64 x.what, .int .i64 x.a, .int .i64 x.b, bv] ∧ @Bs keepAll w.heap.size w bv x.data
def AcOk (x : Ac) : Prop := i64 x.a ∧ i64 x.b ∧ ∀ c ∈ x.data, c < 256

/-- A slice of acts, as it is read. -/
def Av (w : World) (v : Value) (l : List Ac) : Prop :=
  ∃ ao cap, v = .slice ao l.length cap ∧ ∀ (i : Nat) (x : Ac), l[i]? = some x → ∃ b off vs, ao = some ⟨b, off, none⟩ ∧ AcV w x vs ∧ ∀ (j : Nat) (u : Value), vs[j]? = some u → w.cell? ⟨b, off + i * 4 + j, none⟩ = some u
theorem AcV.below {w w' : World} {x : Ac} {vs : List Value} (h : AcV w x vs) (hb : Below w.heap.size w w') : AcV w' x vs := by
  obtain ⟨bv, h1, h2⟩ := h
  exact ⟨bv, h1, @Bs.mono keepAll _ _ _ _ _ (@Bs.below keepAll _ _ _ _ _ h2 hb) hb.size⟩
theorem Av.below {w w' : World} {v : Value} {l : List Ac} (h : Av w v l) (hb : Below w.heap.size w w') : Av w' v l := by
  obtain ⟨ao, cap, e, h2⟩ := h
  refine ⟨ao, cap, e, fun i x hx => ?_⟩
  obtain ⟨b, off, vs, r1, r2, r3⟩ := h2 i x hx
  exact ⟨b, off, vs, r1, r2.below hb, fun j u hu => (hb.cell (p := ⟨b, off + i * 4 + j, none⟩) (World.block_lt_of_cell? w _ (r3 j u hu))).trans (r3 j u hu)⟩

theorem trod_struct4 {H : Type} {enc : TypeId × Value → H} {P : Program} {w : World} {base : Nat} {spare : Nat → Bool} {held : Bool} {t : TypeId} {f0 f1 f2 f3 : Field} {fuel : Nat} {cs : List Value} {x : DataW H × List MemPlace} (ht : P.underlying t = some (.struct #[f0, f1, f2, f3])) (h : DataW.trod enc P w base spare held fuel t cs = some x) :
    ∃ y0 y1 y2 y3 n, x.1 = .agg [y0.1, y1.1, y2.1, y3.1] ∧ cs.length = P.cellsOf t ∧ DataW.trod enc P w base spare held n f0.type ((cs.drop f0.offset).take (P.cellsOf f0.type)) = some y0 ∧
      DataW.trod enc P w base spare held n f1.type ((cs.drop f1.offset).take (P.cellsOf f1.type)) = some y1 ∧ DataW.trod enc P w base spare held n f2.type ((cs.drop f2.offset).take (P.cellsOf f2.type)) = some y2 ∧
      DataW.trod enc P w base spare held n f3.type ((cs.drop f3.offset).take (P.cellsOf f3.type)) = some y3 := by
  obtain ⟨xs, n, _, rfl, hl, hlen, hf⟩ := DataW.trod_struct ht h
  match xs, hlen with
  | [y0, y1, y2, y3], _ => exact ⟨y0, y1, y2, y3, n, by simp, hl, by simpa using hf 0 f0 rfl, by simpa using hf 1 f1 rfl, by simpa using hf 2 f2 rfl, by simpa using hf 3 f3 rfl⟩

theorem i64_of {z : Int} (h : (Lit.int .i64 z).wf = true) : i64 z := by
  have g4 : IntKind.i64.min ≤ z ∧ z ≤ IntKind.i64.max := by simpa [Lit.wf] using h
  exact g4
/-- One act, opened. -/
theorem act_opened {H : Type} {enc : TypeId × Value → H} {W : World} {fuel : Nat} {cs : List Value} {y : DataW H × List MemPlace} (hlen : cs.length = 4)
    (h : DataW.trod enc Try.prog W 0 (fun _ => true) true fuel 33 cs = some y) :
    ∃ x, AcV W x cs ∧ AcOk x ∧ (x.data = [] ∨ ∃ d0 d1 d2 e1 s1, y.1 = .agg [d0, d1, d2, .slice e1 s1] ∧ e1.length = x.data.length) := by
  obtain ⟨y0, y1, y2, y3, k, hxy, _, g0, g1, g2, g3⟩ := trod_struct4 Try.underlying33 h
  match cs, hlen with
  | [v0, v1, v2, v3], _ =>
    have g0' : DataW.trod enc Try.prog W 0 (fun _ => true) true k 3 [v0] = some y0 := g0
    have g1' : DataW.trod enc Try.prog W 0 (fun _ => true) true k 3 [v1] = some y1 := g1
    have g2' : DataW.trod enc Try.prog W 0 (fun _ => true) true k 3 [v2] = some y2 := g2
    have g3' : DataW.trod enc Try.prog W 0 (fun _ => true) true k 31 [v3] = some y3 := g3
    obtain ⟨z0, i0, _, _⟩ := DataW.trod_int Try.underlying3 g0'
    obtain ⟨z1, i1, _, j1⟩ := DataW.trod_int Try.underlying3 g1'
    obtain ⟨z2, i2, _, j2⟩ := DataW.trod_int Try.underlying3 g2'
    obtain ⟨bs, hbs, hbs1, hbs2⟩ := @bs_opened keepAll _ _ _ _ _ _ (fun _ _ => trivial) g3'
    simp only [List.cons.injEq, and_true] at i0 i1 i2
    subst i0 i1 i2
    refine ⟨⟨z0, z1, z2, bs⟩, ⟨v3, rfl, hbs⟩, ⟨i64_of j1, i64_of j2, hbs1⟩, ?_⟩
    rcases hbs2 with h0 | ⟨el, sp, q1, q2⟩
    · exact .inl h0
    · exact .inr ⟨_, _, _, el, sp, by rw [hxy, q1], q2⟩

/-- A slice of acts, opened. -/
theorem acts_opened {H : Type} {enc : TypeId × Value → H} {W : World} {fuel : Nat} {v : Value} {x : DataW H × List MemPlace}
    (h : DataW.trod enc Try.prog W 0 (fun _ => true) true fuel 22 [v] = some x) :
    ∃ l, Av W v l ∧ (∀ r ∈ l, AcOk r) := by
  rcases Deep.open_slice Try.underlying22 h with ⟨hcs, hx⟩ | ⟨a, len, cap, m, n, D, Pl, hcs, _, hl, hm, hmm, hx, hc⟩
  · obtain rfl : v = .slice none 0 0 := by simpa using hcs
    exact ⟨[], ⟨none, 0, rfl, fun i f hf => by simp at hf⟩, by simp⟩
  · obtain rfl : v = .slice (some a) len cap := by simpa using hcs
    have hmc : m = cap := by rw [hmm]; rfl
    subst hmc
    have each : ∀ i, i < len → ∃ q : Ac, (∃ vs, AcV W q vs ∧ ∀ j u, vs[j]? = some u → W.cell? (a.add (i * 4 + j)) = some u) ∧ AcOk q := by
      intro i hi
      obtain ⟨cs', h1, h2⟩ := hc i (by omega)
      rw [cells_act] at h1
      obtain ⟨_, hlen, hcell⟩ := World.cells?_some h1
      obtain ⟨q, r1, r2, r3⟩ := act_opened hlen h2
      refine ⟨q, ⟨cs', r1, fun j u hu => ?_⟩, r2⟩
      have hj := (List.getElem?_eq_some_iff.1 hu).1
      have e := hcell j (by omega)
      rw [Deep.add_add, hu] at e
      exact e
    haveI : Inhabited Ac := ⟨⟨0, 0, 0, []⟩⟩
    obtain ⟨Q, hQ⟩ := Deep.choose_lt (α := Ac) each
    have hzl : ((List.range len).map Q).length = len := by simp
    refine ⟨(List.range len).map Q, ⟨some a, m, by rw [hzl], fun i f hf => ?_⟩, ?_⟩
    · have hi : i < len := by
        have := (List.getElem?_eq_some_iff.1 hf).1
        simpa using this
      have e : Q i = f := by simpa [hi] using hf
      obtain ⟨⟨vs, g1, g2⟩, _⟩ := hQ i hi
      have gz : ∃ u, W.cell? (a.add (0 * 4 + 0)) = some u := by
        obtain ⟨⟨vz, ⟨bz, hz, _⟩, hz2⟩, _⟩ := hQ 0 (by omega)
        exact ⟨_, hz2 0 _ (by rw [hz]; rfl)⟩
      obtain ⟨u, gz⟩ := gz
      obtain ⟨b, off, spot⟩ := a
      have hspot : spot = none := by simpa [Addr.add] using World.cell?_spot gz
      subst hspot
      rw [e] at g1
      refine ⟨b, off, vs, rfl, g1, fun j u hu => ?_⟩
      have := g2 j u hu
      rw [Addr.add_lit] at this
      rw [Nat.add_assoc]
      exact this
    · intro r hr
      obtain ⟨i, hi, rfl⟩ := List.mem_map.1 hr
      exact (hQ i (List.mem_range.1 hi)).2
theorem own : ownKnob Try.prog.godebug = none := by kernel_rfl
theorem byte_bytes : Try.prog.bytesOf 5 = 1 := by kernel_rfl
end Go.Proofs.Ytjkjekhbfjjnjaa

