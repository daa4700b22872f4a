import Derived.Test.YtoipjmjhplkibaaGreatDoorW23
import Derived.SizedLaws
/- How the acts of WalSafe and WalActs that came in are read, and that their bytes are within the form's reach. -/
namespace Go.Proofs.YtoipjmjhplkibaaGreatDoor
open Go.ChangeShapes Go.WideShapes Go.RowKit DiskMath
set_option maxRecDepth 100000
set_option linter.unusedSimpArgs false

/-- One act, opened. -/
theorem wact_opened2 {H : Type} {enc : TypeId × Value → H} {W : World} {fuel : Nat} {cs : List Value} {y : DataW H × List MemPlace} (hlen : cs.length = 5)
    (h : DataW.trod enc Tryz.prog W 0 (fun _ => true) true fuel 35 cs = some y) : ∃ x, WcV W x cs ∧ WcOk x ∧ (x.b = [] ∨ ∃ d0 d1 d2 e1 s1 d4, y.1 = .agg [d0, d1, d2, .slice e1 s1, d4] ∧ e1.length = x.b.length) := by
  letI := keepAll
  obtain ⟨y0, y1, y2, y3, y4, k, hxy, _, g0, g1, g2, g3, g4⟩ := trod_struct5 Tryz.underlying35 h
  match cs, hlen with
  | [v0, v1, v2, v3, v4], _ =>
    have g0' : DataW.trod enc Tryz.prog W 0 (fun _ => true) true k 3 [v0] = some y0 := g0
    have g1' : DataW.trod enc Tryz.prog W 0 (fun _ => true) true k 31 [v1] = some y1 := g1
    have g2' : DataW.trod enc Tryz.prog W 0 (fun _ => true) true k 4 [v2] = some y2 := g2
    have g3' : DataW.trod enc Tryz.prog W 0 (fun _ => true) true k 32 [v3] = some y3 := g3
    have g4' : DataW.trod enc Tryz.prog W 0 (fun _ => true) true k 33 [v4] = some y4 := g4
    obtain ⟨z0, i0, _, _⟩ := DataW.trod_int Tryz.underlying3 g0'
    obtain ⟨z1, i1, _, j1⟩ := DataW.trod_int Tryz.underlying31 g1'
    obtain ⟨b, i2, _⟩ := DataW.trod_bool Tryz.underlying4 g2'
    obtain ⟨bl, hbl, hb8, hfm⟩ := bs_opened (fun _ _ => trivial) g3'
    obtain ⟨cu, hcu, _⟩ := ints_opened g4'
    simp only [List.cons.injEq, and_true] at i0 i1 i2
    subst i0 i1 i2
    obtain ⟨n1, rfl, l1⟩ := wu64_nat j1
    refine ⟨⟨z0, n1, b, bl, cu⟩, ⟨v3, v4, rfl, hbl, hcu⟩, ⟨l1, hb8⟩, ?_⟩
    rcases hfm with h0 | ⟨el, sp, h1, h2⟩
    · exact .inl h0
    · exact .inr ⟨_, _, _, el, sp, _, by rw [hxy, h1], h2⟩

/-- A slice of acts, opened. -/
theorem wacts_opened2 {H : Type} {enc : TypeId × Value → H} {W : World} {fuel : Nat} {v : Value} {x : DataW H × List MemPlace}
    (h : DataW.trod enc Tryz.prog W 0 (fun _ => true) true fuel 22 [v] = some x) : ∃ l, Wv W v l ∧ (∀ r ∈ l, WcOk r) ∧ ∀ r ∈ l, r.b ≠ [] → ∃ el sp, x.1 = .slice el sp ∧ ∃ d0 d1 d2 e1 s1 d4, DataW.agg [d0, d1, d2, .slice e1 s1, d4] ∈ el ∧ e1.length = r.b.length := by
  rcases Deep.open_slice Tryz.underlying22 h with ⟨hcs, hx⟩ | ⟨a, len, cap, m, n, D, Pl, hcs, _, hl, hm, hmm, hx, hc⟩
  · obtain rfl : v = .slice none 0 0 := by simpa using hcs
    exact ⟨[], ⟨none, 0, rfl, Nat.le_refl _, Nat.zero_le _, fun i f hf => by simp at hf⟩, by simp, by simp⟩
  · obtain rfl : v = .slice (some a) len cap := by simpa using hcs
    have hmc : m = cap := by rw [hmm]; rfl
    subst hmc
    have each : ∀ i, i < len → ∃ q : Wc, (∃ vs, WcV W q vs ∧ ∀ j u, vs[j]? = some u → W.cell? (a.add (i * 5 + j)) = some u) ∧ WcOk q ∧ (q.b = [] ∨ ∃ d0 d1 d2 e1 s1 d4, D i = .agg [d0, d1, d2, .slice e1 s1, d4] ∧ e1.length = q.b.length) := by
      intro i hi
      obtain ⟨cs', h1, h2⟩ := hc i (by omega)
      rw [cells_wact] at h1
      obtain ⟨_, hlen, hcell⟩ := World.cells?_some h1
      obtain ⟨q, r1, r2, r3⟩ := wact_opened2 hlen h2
      refine ⟨q, ⟨cs', r1, fun j u hu => ?_⟩, r2, r3⟩
      have hj := (List.getElem?_eq_some_iff.1 hu).1
      have e := hcell j (by omega)
      rw [Deep.add_add, hu] at e
      exact e
    haveI : Inhabited Wc := ⟨⟨0, 0, false, [], []⟩⟩
    obtain ⟨Q, hQ⟩ := Deep.choose_lt (α := Wc) each
    have hzl : ((List.range len).map Q).length = len := by simp
    refine ⟨(List.range len).map Q, ⟨some a, m, by rw [hzl], by rw [hzl]; omega, by omega, fun i f hf => ?_⟩, ?_, ?_⟩
    · have hi : i < len := by
        have := (List.getElem?_eq_some_iff.1 hf).1
        simpa using this
      have e : Q i = f := by simpa [hi] using hf
      obtain ⟨⟨vs, g1, g2⟩, _⟩ := hQ i hi
      have gz : ∃ u, W.cell? (a.add (0 * 5 + 0)) = some u := by
        obtain ⟨⟨vz, ⟨bz, cz, hz, _⟩, hz2⟩, _⟩ := hQ 0 (by omega)
        exact ⟨_, hz2 0 _ (by rw [hz]; rfl)⟩
      obtain ⟨u, gz⟩ := gz
      obtain ⟨b, off, spot⟩ := a
      have hspot : spot = none := by simpa [Addr.add] using World.cell?_spot gz
      subst hspot
      rw [e] at g1
      refine ⟨b, off, vs, rfl, g1, fun j u hu => ?_⟩
      have := g2 j u hu
      rw [Addr.add_lit] at this
      rw [Nat.add_assoc]
      exact this
    · intro r hr
      obtain ⟨i, hi, rfl⟩ := List.mem_map.1 hr
      exact (hQ i (List.mem_range.1 hi)).2.1
    · intro r hr hne
      obtain ⟨i, hi, rfl⟩ := List.mem_map.1 hr
      rcases (hQ i (List.mem_range.1 hi)).2.2 with h0 | ⟨d0, d1, d2, e1, s1, d4, q1, q2⟩
      · exact absurd h0 hne
      · exact ⟨_, _, (Prod.mk.inj hx).1, d0, d1, d2, e1, s1, d4, List.mem_map.2 ⟨i, hi, q1⟩, q2⟩
theorem weights_all {H : Type} {t : TypeId} {d : DataW H} {n : Nat} (hn : n ∈ d.weights Tryz.prog t) : ∀ {l : List (DataW H)}, d ∈ l → n ∈ DataW.weightsAll Tryz.prog t l
  | [], h => by cases h
  | x :: l, h => by
    simp only [DataW.weightsAll, List.mem_append]
    rcases List.mem_cons.1 h with rfl | h
    · exact .inl hn
    · exact .inr (weights_all hn h)
theorem byte_bytes : Tryz.prog.bytesOf 5 = 1 := by kernel_rfl

theorem wacts_sized {H : Type} {ts : List TypeId} {ds : List (DataW H)} {j : Nat} {el sp e1 s1 : List (DataW H)} {d0 d1 d2 d4 : DataW H} (h : (DataW.weightsEach Tryz.prog ts ds).all (· ≤ reachBytes) = true) (ht : ts[j]? = some 22) (hd : ds[j]? = some (.slice el sp)) (hm : DataW.agg [d0, d1, d2, .slice e1 s1, d4] ∈ el) : e1.length ≤ 140737488355328 := by
  have h0 : (e1.length + s1.length) * Tryz.prog.bytesOf 5 ∈ (DataW.slice e1 s1 : DataW H).weights Tryz.prog 32 := by simp [DataW.weights, Tryz.underlying32]
  have h1 : (e1.length + s1.length) * Tryz.prog.bytesOf 5 ∈ (DataW.agg [d0, d1, d2, .slice e1 s1, d4] : DataW H).weights Tryz.prog 35 := by
    simp only [DataW.weights, Tryz.underlying35]
    exact DataW.weights_mem_each (j := 3) rfl rfl _ h0
  have h2 := weights_all h1 hm
  have h3 : (e1.length + s1.length) * Tryz.prog.bytesOf 5 ∈ (DataW.slice el sp : DataW H).weights Tryz.prog 22 := by
    simp only [DataW.weights, Tryz.underlying22]
    exact List.mem_cons_of_mem _ (List.mem_append_left _ h2)
  have := List.all_eq_true.1 h _ (DataW.weights_mem_each ht hd _ h3)
  rw [byte_bytes] at this
  unfold reachBytes at this
  simp at this
  omega
end Go.Proofs.YtoipjmjhplkibaaGreatDoor

