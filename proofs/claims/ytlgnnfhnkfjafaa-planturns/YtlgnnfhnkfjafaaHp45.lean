import Derived.Test.YtlgnnfhnkfjafaaHp43
import Derived.Test.YtlgnnfhnkfjafaaHp44
import Derived.Deep.Strs
/- What came in: slices of ranges, of plans; a turn. -/
namespace Go.Proofs.Ytlgnnfhnkfjafaa
open Go.ChangeShapes Go.WideShapes Go.RowKit SpanMath ChartMath PlanMath
set_option maxRecDepth 100000
set_option linter.unusedSimpArgs false
set_option linter.unusedVariables false

/-- A slice that came in, of any element whose cells can be opened. -/
theorem slice_arg {α : Type} (E : El α) (z : α) {H : Type} {enc : TypeId × Value → H} {W : World} {base : Nat} {v : Value} {d : DataW H} {ps : List MemPlace} {t e : TypeId} (ht : Try.prog.underlying t = some (.slice e)) (hce : Try.prog.cellsOf e = E.k)
    (hop : ∀ fuel cs y, DataW.trod enc Try.prog W 0 (fun _ => true) true fuel e cs = some y → cs.length = E.k → ∃ x : α, cs = E.enc x)
    (hval : Value.okWide Try.prog W .any base t v) (h : DataW.Trod enc Try.prog W 0 (fun _ => true) true t v d ps) : ∃ l : List α, Rd E W v l ∧ (l = [] ∨ ∃ el sp, d = .slice el sp ∧ el.length = l.length) := by
  obtain ⟨a0, len0, cap0, e0⟩ := okWide_slice ht hval
  obtain ⟨fuel, hf⟩ := h
  rw [show v.cells.toList = [v] by rw [e0]; rfl] at hf
  rcases Deep.open_slice ht hf with ⟨hcs, hx⟩ | ⟨a, len, cap, m, n, D, Pl, hcs, _, hl, hm, hmm, hx, hc⟩
  · obtain rfl : v = .slice none 0 0 := by simpa using hcs
    exact ⟨[], ⟨none, 0, rfl, by simp, fun _ => rfl, fun i x j u hx => by simp at hx⟩, .inl rfl⟩
  · obtain rfl : v = .slice (some a) len cap := by simpa using hcs
    have hmc : m = cap := by rw [hmm]; rfl
    subst hmc
    have each : ∀ i, i < len → ∃ s : α, ∀ j u, (E.enc s)[j]? = some u → W.cell? (a.add (i * E.k + j)) = some u := by
      intro i hi
      obtain ⟨cs', h1, h2⟩ := hc i (by omega)
      rw [hce] at h1
      obtain ⟨_, hlen, hcell⟩ := World.cells?_some h1
      obtain ⟨s, hs⟩ := hop _ _ _ h2 hlen
      refine ⟨s, fun j u hu => ?_⟩
      have hj := (List.getElem?_eq_some_iff.1 hu).1
      rw [E.len] at hj
      have e := hcell j hj
      rw [Deep.add_add, hs, hu] at e
      exact e
    haveI : Inhabited α := ⟨z⟩
    obtain ⟨Q, hQ⟩ := Deep.choose_lt (α := α) each
    have hzl : ((List.range len).map Q).length = len := by simp
    refine ⟨(List.range len).map Q, ⟨some a, m, by rw [hzl], by rw [hzl]; exact hl, (fun h => by cases h), fun i x j u hx hu => ?_⟩, .inr ⟨_, _, (Prod.mk.inj hx).1, by simp⟩⟩
    have hi : i < len := by
      have := (List.getElem?_eq_some_iff.1 hx).1
      simpa using this
    have e : Q i = x := by simpa [hi] using hx
    have g := hQ i hi j u (by rw [e]; exact hu)
    obtain ⟨b, off, spot⟩ := a
    have hspot : spot = none := by
      have g0 := hQ 0 (by omega) 0 ((E.enc (Q 0))[0]'(by rw [E.len]; exact E.pos)) (List.getElem?_eq_getElem _)
      rw [Nat.zero_mul] at g0
      simpa [Addr.add] using World.cell?_spot g0
    subst hspot
    rw [Addr.add_lit] at g
    exact ⟨b, off, rfl, g⟩

theorem cells_range : Try.prog.cellsOf 47 = 4 := by kernel_rfl
theorem bytes_range : Try.prog.bytesOf 47 = 48 := by kernel_rfl
/-- A range's cells, opened. -/
theorem range_opened {H : Type} {enc : TypeId × Value → H} {W : World} {fuel : Nat} {cs : List Value} {y : DataW H × List MemPlace}
    (h : DataW.trod enc Try.prog W 0 (fun _ => true) true fuel 47 cs = some y) (hl : cs.length = 4) : ∃ r : Rg, cs = rgE.enc r := by
  obtain ⟨y0, y1, y2, n, _, _, g0, g1, g2⟩ := Deep.trod_struct3 Try.underlying47 h
  match cs, hl with
  | [v0, v1, v2, v3], _ =>
    have g0' : DataW.trod enc Try.prog W 0 (fun _ => true) true n 43 [v0, v1] = some y0 := g0
    have g1' : DataW.trod enc Try.prog W 0 (fun _ => true) true n 3 [v2] = some y1 := g1
    have g2' : DataW.trod enc Try.prog W 0 (fun _ => true) true n 24 [v3] = some y2 := g2
    obtain ⟨s, hs⟩ := span_opened g0'
    obtain ⟨z1, i1, _, _⟩ := DataW.trod_int Try.underlying3 g1'
    obtain ⟨z2, i2, _, _⟩ := DataW.trod_int Try.underlying24 g2'
    simp only [List.cons.injEq, and_true] at i1 i2 hs
    exact ⟨(s, z1, z2), by rw [hs.1, hs.2, i1, i2]; rfl⟩
/-- A slice of ranges that came in. -/
theorem ranges_arg {H : Type} {enc : TypeId × Value → H} {W : World} {base : Nat} {v : Value} {d : DataW H} {ps : List MemPlace} (hval : Value.okWide Try.prog W .any base 22 v)
    (h : DataW.Trod enc Try.prog W 0 (fun _ => true) true 22 v d ps) : ∃ l : List Rg, Rd rgE W v l ∧ (l = [] ∨ ∃ el sp, d = .slice el sp ∧ el.length = l.length) :=
  slice_arg rgE (([], []), 0, 0) Try.underlying22 cells_range (fun _ _ _ h hl => range_opened h hl) hval h
theorem u64_wf {z : Int} (h : (Lit.int .u64 z).wf = true) : ∃ n : Nat, z = (n : Int) ∧ n < 18446744073709551616 := by
  have g : IntKind.u64.min ≤ z ∧ z ≤ IntKind.u64.max := by simpa [Lit.wf] using h
  have g1 : (0 : Int) ≤ z := g.1
  have g2 : z ≤ 18446744073709551615 := g.2
  exact ⟨z.toNat, by omega, by omega⟩
theorem cells_plan : Try.prog.cellsOf 45 = 6 := by kernel_rfl
theorem bytes_plan : Try.prog.bytesOf 45 = 64 := by kernel_rfl
theorem plan_opened {H : Type} {enc : TypeId × Value → H} {W : World} {fuel : Nat} {cs : List Value} {y : DataW H × List MemPlace}
    (h : DataW.trod enc Try.prog W 0 (fun _ => true) true fuel 45 cs = some y) (hl : cs.length = 6) : ∃ r : Pl, cs = plE.enc r := by
  obtain ⟨xs, n, _, rfl, hl2, hlen, hf⟩ := DataW.trod_struct Try.underlying45 h
  match cs, hl, xs, hlen with
  | [v0, v1, v2, v3, v4, v5], _, [y0, y1, y2, y3, y4], _ =>
    have g0 : DataW.trod enc Try.prog W 0 (fun _ => true) true n 24 ((([v0, v1, v2, v3, v4, v5] : List Value).drop 0).take (Try.prog.cellsOf 24)) = some y0 := by simpa using hf 0 _ rfl
    have g0' : DataW.trod enc Try.prog W 0 (fun _ => true) true n 24 [v0] = some y0 := g0
    have g1 : DataW.trod enc Try.prog W 0 (fun _ => true) true n 43 ((([v0, v1, v2, v3, v4, v5] : List Value).drop 1).take (Try.prog.cellsOf 43)) = some y1 := by simpa using hf 1 _ rfl
    have g1' : DataW.trod enc Try.prog W 0 (fun _ => true) true n 43 [v1, v2] = some y1 := g1
    have g2 : DataW.trod enc Try.prog W 0 (fun _ => true) true n 3 ((([v0, v1, v2, v3, v4, v5] : List Value).drop 3).take (Try.prog.cellsOf 3)) = some y2 := by simpa using hf 2 _ rfl
    have g2' : DataW.trod enc Try.prog W 0 (fun _ => true) true n 3 [v3] = some y2 := g2
    have g3 : DataW.trod enc Try.prog W 0 (fun _ => true) true n 3 ((([v0, v1, v2, v3, v4, v5] : List Value).drop 4).take (Try.prog.cellsOf 3)) = some y3 := by simpa using hf 3 _ rfl
    have g3' : DataW.trod enc Try.prog W 0 (fun _ => true) true n 3 [v4] = some y3 := g3
    have g4 : DataW.trod enc Try.prog W 0 (fun _ => true) true n 3 ((([v0, v1, v2, v3, v4, v5] : List Value).drop 5).take (Try.prog.cellsOf 3)) = some y4 := by simpa using hf 4 _ rfl
    have g4' : DataW.trod enc Try.prog W 0 (fun _ => true) true n 3 [v5] = some y4 := g4
    obtain ⟨z0, i0, _, j0⟩ := DataW.trod_int Try.underlying24 g0'
    obtain ⟨s, hs⟩ := span_opened g1'
    obtain ⟨z2, i2, _, _⟩ := DataW.trod_int Try.underlying3 g2'
    obtain ⟨z3, i3, _, _⟩ := DataW.trod_int Try.underlying3 g3'
    obtain ⟨z4, i4, _, _⟩ := DataW.trod_int Try.underlying3 g4'
    simp only [List.cons.injEq, and_true] at i0 hs i2 i3 i4
    obtain ⟨n0, rfl, _⟩ := u64_wf j0
    exact ⟨(n0, s, z2, z3, z4), by rw [i0, hs.1, hs.2, i2, i3, i4]; rfl⟩
theorem plans_arg {H : Type} {enc : TypeId × Value → H} {W : World} {base : Nat} {v : Value} {d : DataW H} {ps : List MemPlace} (hval : Value.okWide Try.prog W .any base 23 v)
    (h : DataW.Trod enc Try.prog W 0 (fun _ => true) true 23 v d ps) : ∃ l : List Pl, Rd plE W v l ∧ (l = [] ∨ ∃ el sp, d = .slice el sp ∧ el.length = l.length) :=
  slice_arg plE (0, ([], []), 0, 0, 0) Try.underlying23 cells_plan (fun _ _ _ h hl => plan_opened h hl) hval h
theorem cells_turnP : Try.prog.cellsOf 26 = 5 := by kernel_rfl
theorem turn_arg {H : Type} {enc : TypeId × Value → H} {W : World} {base : Nat} {v : Value} {d : DataW H} {ps : List MemPlace}
    (ho : Value.okWide Try.prog W .any base 26 v) (h : DataW.Trod enc Try.prog W 0 (fun _ => true) true 26 v d ps) :
    ∃ (a : Int) (n : Nat) (k : K) (g s : Int), v = .agg #[.int .i64 a, .int .u64 (n : Int), .string (bk k), .int .i64 g, .int .i64 s] := by
  simp only [Value.okWide, Try.underlying26] at ho
  obtain ⟨cs, rfl, hsz, _⟩ := ho
  rw [cells_turnP] at hsz
  obtain ⟨fuel, hf⟩ := h
  have hf' : DataW.trod enc Try.prog W 0 (fun _ => true) true fuel 26 cs.toList = some (d, ps) := hf
  obtain ⟨xs, n, _, hxy, hl2, hlen, hg⟩ := DataW.trod_struct Try.underlying26 hf'
  have hcl : cs.toList.length = 5 := by simpa using hsz
  match hh : cs.toList, hcl, xs, hlen with
  | [v0, v1, v2, v3, v4], _, [y0, y1, y2, y3, y4], _ =>
    rw [hh] at hg
    have g0 : DataW.trod enc Try.prog W 0 (fun _ => true) true n 3 ((([v0, v1, v2, v3, v4] : List Value).drop 0).take (Try.prog.cellsOf 3)) = some y0 := by simpa using hg 0 _ rfl
    have g0' : DataW.trod enc Try.prog W 0 (fun _ => true) true n 3 [v0] = some y0 := g0
    have g1 : DataW.trod enc Try.prog W 0 (fun _ => true) true n 24 ((([v0, v1, v2, v3, v4] : List Value).drop 1).take (Try.prog.cellsOf 24)) = some y1 := by simpa using hg 1 _ rfl
    have g1' : DataW.trod enc Try.prog W 0 (fun _ => true) true n 24 [v1] = some y1 := g1
    have g2 : DataW.trod enc Try.prog W 0 (fun _ => true) true n 9 ((([v0, v1, v2, v3, v4] : List Value).drop 2).take (Try.prog.cellsOf 9)) = some y2 := by simpa using hg 2 _ rfl
    have g2' : DataW.trod enc Try.prog W 0 (fun _ => true) true n 9 [v2] = some y2 := g2
    have g3 : DataW.trod enc Try.prog W 0 (fun _ => true) true n 3 ((([v0, v1, v2, v3, v4] : List Value).drop 3).take (Try.prog.cellsOf 3)) = some y3 := by simpa using hg 3 _ rfl
    have g3' : DataW.trod enc Try.prog W 0 (fun _ => true) true n 3 [v3] = some y3 := g3
    have g4 : DataW.trod enc Try.prog W 0 (fun _ => true) true n 3 ((([v0, v1, v2, v3, v4] : List Value).drop 4).take (Try.prog.cellsOf 3)) = some y4 := by simpa using hg 4 _ rfl
    have g4' : DataW.trod enc Try.prog W 0 (fun _ => true) true n 3 [v4] = some y4 := g4
    obtain ⟨z0, i0, _, _⟩ := DataW.trod_int Try.underlying3 g0'
    obtain ⟨z1, i1, _, j1⟩ := DataW.trod_int Try.underlying24 g1'
    obtain ⟨s2, i2, _, _⟩ := DataW.trod_string Try.underlying9 g2'
    obtain ⟨z3, i3, _, _⟩ := DataW.trod_int Try.underlying3 g3'
    obtain ⟨z4, i4, _, _⟩ := DataW.trod_int Try.underlying3 g4'
    simp only [List.cons.injEq, and_true] at i0 i1 i2 i3 i4
    obtain ⟨n1, rfl, _⟩ := u64_wf j1
    obtain ⟨k2, rfl⟩ := bk_of s2
    subst i0 i1 i2 i3 i4
    exact ⟨z0, n1, k2, z3, z4, by rw [← Array.toList_inj.1 (show cs.toList = (#[_, _, _, _, _] : Array Value).toList from hh)]⟩
end Go.Proofs.Ytlgnnfhnkfjafaa

