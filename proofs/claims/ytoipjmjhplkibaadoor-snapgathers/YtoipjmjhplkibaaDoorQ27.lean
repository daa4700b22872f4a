import Derived.Test.YtoipjmjhplkibaaDoorQ25
import Derived.Test.YtoipjmjhplkibaaDoorQ26
import Derived.Deep.Strs
import Derived.ChangeArms
import Derived.SizedLaws
/- How the chunks of SnapGathers that came in are read. -/
namespace Go.Proofs.YtoipjmjhplkibaaDoor
open Go.ChangeShapes Go.WideShapes Go.RowKit
set_option maxRecDepth 100000
set_option linter.unusedSimpArgs false

theorem cells_put : Tryd.prog.cellsOf 38 = 3 := by kernel_rfl

/-- A chunk to be put, as it came in. -/
structure Pt where
  i : Int
  els : List Nat
  own : Bool
/-- Its three values. -/
def PtV (w : World) (x : Pt) (vs : List Value) : Prop := ∃ bv, vs = [.int .i64 x.i, bv, .bool x.own] ∧ Fr.Bs w.heap.size w bv x.els
def PtOk (x : Pt) : Prop := ∀ c ∈ x.els, c < 256
/-- A slice of them, as it is read. -/
def Pv (w : World) (v : Value) (l : List Pt) : Prop :=
  ∃ ao cap, v = .slice ao l.length cap ∧ ∀ (i : Nat) (x : Pt), l[i]? = some x → ∃ b off vs, ao = some ⟨b, off, none⟩ ∧ PtV w x vs ∧ ∀ (j : Nat) (u : Value), vs[j]? = some u → w.cell? ⟨b, off + i * 3 + j, none⟩ = some u

theorem put_opened {H : Type} {enc : TypeId × Value → H} {W : World} {fuel : Nat} {cs : List Value} {y : DataW H × List MemPlace} (hlen : cs.length = 3)
    (h : DataW.trod enc Tryd.prog W 0 (fun _ => true) true fuel 38 cs = some y) : ∃ x, PtV W x cs ∧ PtOk x ∧ (x.els = [] ∨ ∃ d0 e1 s1 d2, y.1 = .agg [d0, .slice e1 s1, d2] ∧ e1.length = x.els.length) := by
  obtain ⟨y0, y1, y2, k, hxy, -, g0, g1, g2⟩ := Deep.trod_struct3 Tryd.underlying38 h
  match cs, hlen with
  | [v0, v1, v2], _ =>
    have g0' : DataW.trod enc Tryd.prog W 0 (fun _ => true) true k 3 [v0] = some y0 := g0
    have g1' : DataW.trod enc Tryd.prog W 0 (fun _ => true) true k 22 [v1] = some y1 := g1
    have g2' : DataW.trod enc Tryd.prog W 0 (fun _ => true) true k 4 [v2] = some y2 := g2
    obtain ⟨z0, i0, _, j0⟩ := DataW.trod_int Tryd.underlying3 g0'
    letI := keepAll
    obtain ⟨b, hB, hb, hfm⟩ := bs_opened (fun _ _ => trivial) g1'
    obtain ⟨o, i2, _⟩ := DataW.trod_bool Tryd.underlying4 g2'
    simp only [List.cons.injEq, and_true] at i0 i2
    subst i0 i2
    refine ⟨⟨z0, b, o⟩, ⟨v1, rfl, hB.toFr⟩, hb, ?_⟩
    rcases hfm with h0 | ⟨el, sp, h1, h2⟩
    · exact .inl h0
    · exact .inr ⟨_, el, sp, _, by rw [hxy, h1], h2⟩
theorem puts_opened {H : Type} {enc : TypeId × Value → H} {W : World} {fuel : Nat} {v : Value} {x : DataW H × List MemPlace}
    (h : DataW.trod enc Tryd.prog W 0 (fun _ => true) true fuel 30 [v] = some x) : ∃ l, Pv W v l ∧ (∀ r ∈ l, PtOk r) ∧ ∀ r ∈ l, r.els ≠ [] → ∃ el sp, x.1 = .slice el sp ∧ ∃ d0 e1 s1 d2, DataW.agg [d0, .slice e1 s1, d2] ∈ el ∧ e1.length = r.els.length := by
  rcases Deep.open_slice Tryd.underlying30 h with ⟨hcs, hx⟩ | ⟨a, len, cap, m, n, D, Pl, hcs, _, hl, hm, hmm, hx, hc⟩
  · obtain rfl : v = .slice none 0 0 := by simpa using hcs
    exact ⟨[], ⟨none, 0, rfl, fun i f hf => by simp at hf⟩, by simp, by simp⟩
  · obtain rfl : v = .slice (some a) len cap := by simpa using hcs
    have hmc : m = cap := by rw [hmm]; rfl
    subst hmc
    have each : ∀ i, i < len → ∃ q : Pt, (∃ vs, PtV W q vs ∧ ∀ j u, vs[j]? = some u → W.cell? (a.add (i * 3 + j)) = some u) ∧ PtOk q ∧ (q.els = [] ∨ ∃ d0 e1 s1 d2, D i = .agg [d0, .slice e1 s1, d2] ∧ e1.length = q.els.length) := by
      intro i hi
      obtain ⟨cs', h1, h2⟩ := hc i (by omega)
      rw [cells_put] at h1
      obtain ⟨_, hlen, hcell⟩ := World.cells?_some h1
      obtain ⟨q, r1, r2, r3⟩ := put_opened hlen h2
      refine ⟨q, ⟨cs', r1, fun j u hu => ?_⟩, r2, r3⟩
      have hj := (List.getElem?_eq_some_iff.1 hu).1
      have e := hcell j (by omega)
      rw [Deep.add_add, hu] at e
      exact e
    haveI : Inhabited Pt := ⟨⟨0, [], false⟩⟩
    obtain ⟨Q, hQ⟩ := Deep.choose_lt (α := Pt) each
    have hzl : ((List.range len).map Q).length = len := by simp
    refine ⟨(List.range len).map Q, ⟨some a, m, by rw [hzl], fun i f hf => ?_⟩, ?_, ?_⟩
    · have hi : i < len := by
        have := (List.getElem?_eq_some_iff.1 hf).1
        simpa using this
      have e : Q i = f := by simpa [hi] using hf
      obtain ⟨⟨vs, g1, g2⟩, _⟩ := hQ i hi
      have gz : ∃ u, W.cell? (a.add (0 * 3 + 0)) = some u := by
        obtain ⟨⟨vz, ⟨bz, hz, _⟩, hz2⟩, _⟩ := hQ 0 (by omega)
        exact ⟨_, hz2 0 _ (by rw [hz]; rfl)⟩
      obtain ⟨u, gz⟩ := gz
      obtain ⟨b, off, spot⟩ := a
      have hspot : spot = none := by simpa [Addr.add] using World.cell?_spot gz
      subst hspot
      rw [e] at g1
      refine ⟨b, off, vs, rfl, g1, fun j u hu => ?_⟩
      have := g2 j u hu
      rw [Addr.add_lit] at this
      rw [Nat.add_assoc]
      exact this
    · intro r hr
      obtain ⟨i, hi, rfl⟩ := List.mem_map.1 hr
      exact (hQ i (List.mem_range.1 hi)).2.1
    · intro r hr hne
      obtain ⟨i, hi, rfl⟩ := List.mem_map.1 hr
      rcases (hQ i (List.mem_range.1 hi)).2.2 with h0 | ⟨d0, e1, s1, d2, q1, q2⟩
      · exact absurd h0 hne
      · exact ⟨_, _, (Prod.mk.inj hx).1, d0, e1, s1, d2, List.mem_map.2 ⟨i, hi, q1⟩, q2⟩
theorem weights_all {H : Type} {t : TypeId} {d : DataW H} {n : Nat} (hn : n ∈ d.weights Tryd.prog t) : ∀ {l : List (DataW H)}, d ∈ l → n ∈ DataW.weightsAll Tryd.prog t l
  | [], h => by cases h
  | x :: l, h => by
    simp only [DataW.weightsAll, List.mem_append]
    rcases List.mem_cons.1 h with rfl | h
    · exact .inl hn
    · exact .inr (weights_all hn h)
theorem byte_bytes : Tryd.prog.bytesOf 5 = 1 := by kernel_rfl

theorem puts_sized {H : Type} {ts : List TypeId} {ds : List (DataW H)} {j : Nat} {el sp e1 s1 : List (DataW H)} {d0 d2 : DataW H} (h : (DataW.weightsEach Tryd.prog ts ds).all (· ≤ reachBytes) = true) (ht : ts[j]? = some 30) (hd : ds[j]? = some (.slice el sp)) (hm : DataW.agg [d0, .slice e1 s1, d2] ∈ el) : e1.length ≤ 140737488355328 := by
  have h0 : (e1.length + s1.length) * Tryd.prog.bytesOf 5 ∈ (DataW.slice e1 s1 : DataW H).weights Tryd.prog 22 := by simp [DataW.weights, Tryd.underlying22]
  have h1 : (e1.length + s1.length) * Tryd.prog.bytesOf 5 ∈ (DataW.agg [d0, .slice e1 s1, d2] : DataW H).weights Tryd.prog 38 := by
    simp only [DataW.weights, Tryd.underlying38]
    exact DataW.weights_mem_each (j := 1) rfl rfl _ h0
  have h2 := weights_all h1 hm
  have h3 : (e1.length + s1.length) * Tryd.prog.bytesOf 5 ∈ (DataW.slice el sp : DataW H).weights Tryd.prog 30 := by
    simp only [DataW.weights, Tryd.underlying30]
    exact List.mem_cons_of_mem _ (List.mem_append_left _ h2)
  have := List.all_eq_true.1 h _ (DataW.weights_mem_each ht hd _ h3)
  rw [byte_bytes] at this
  unfold reachBytes at this
  simp at this
  omega
end Go.Proofs.YtoipjmjhplkibaaDoor

