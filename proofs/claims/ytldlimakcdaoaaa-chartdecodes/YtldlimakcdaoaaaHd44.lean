import Derived.Test.YtldlimakcdaoaaaHd41
import Derived.Test.YtldlimakcdaoaaaHd43
import Derived.Deep.Strs
/- How what came in is read: slices of ranges, of keys, of turns; great appends. -/
namespace Go.Proofs.Ytldlimakcdaoaaa
open Go.ChangeShapes Go.WideShapes Go.RowKit SpanMath ChartMath
set_option maxRecDepth 100000
set_option linter.unusedSimpArgs false
set_option linter.unusedVariables false

/-- A slice that came in, of any element whose cells can be opened. -/
theorem slice_arg {α : Type} (E : El α) (z : α) {H : Type} {enc : TypeId × Value → H} {W : World} {base : Nat} {v : Value} {d : DataW H} {ps : List MemPlace} {t e : TypeId} (ht : Try.prog.underlying t = some (.slice e)) (hce : Try.prog.cellsOf e = E.k)
    (hop : ∀ fuel cs y, DataW.trod enc Try.prog W 0 (fun _ => true) true fuel e cs = some y → cs.length = E.k → ∃ x : α, cs = E.enc x)
    (hval : Value.okWide Try.prog W .any base t v) (h : DataW.Trod enc Try.prog W 0 (fun _ => true) true t v d ps) : ∃ l : List α, Rd E W v l ∧ (l = [] ∨ ∃ el sp, d = .slice el sp ∧ el.length = l.length) := by
  obtain ⟨a0, len0, cap0, e0⟩ := okWide_slice ht hval
  obtain ⟨fuel, hf⟩ := h
  rw [show v.cells.toList = [v] by rw [e0]; rfl] at hf
  rcases Deep.open_slice ht hf with ⟨hcs, hx⟩ | ⟨a, len, cap, m, n, D, Pl, hcs, _, hl, hm, hmm, hx, hc⟩
  · obtain rfl : v = .slice none 0 0 := by simpa using hcs
    exact ⟨[], ⟨none, 0, rfl, by simp, fun _ => rfl, fun i x j u hx => by simp at hx⟩, .inl rfl⟩
  · obtain rfl : v = .slice (some a) len cap := by simpa using hcs
    have hmc : m = cap := by rw [hmm]; rfl
    subst hmc
    have each : ∀ i, i < len → ∃ s : α, ∀ j u, (E.enc s)[j]? = some u → W.cell? (a.add (i * E.k + j)) = some u := by
      intro i hi
      obtain ⟨cs', h1, h2⟩ := hc i (by omega)
      rw [hce] at h1
      obtain ⟨_, hlen, hcell⟩ := World.cells?_some h1
      obtain ⟨s, hs⟩ := hop _ _ _ h2 hlen
      refine ⟨s, fun j u hu => ?_⟩
      have hj := (List.getElem?_eq_some_iff.1 hu).1
      rw [E.len] at hj
      have e := hcell j hj
      rw [Deep.add_add, hs, hu] at e
      exact e
    haveI : Inhabited α := ⟨z⟩
    obtain ⟨Q, hQ⟩ := Deep.choose_lt (α := α) each
    have hzl : ((List.range len).map Q).length = len := by simp
    refine ⟨(List.range len).map Q, ⟨some a, m, by rw [hzl], by rw [hzl]; exact hl, (fun h => by cases h), fun i x j u hx hu => ?_⟩, .inr ⟨_, _, (Prod.mk.inj hx).1, by simp⟩⟩
    have hi : i < len := by
      have := (List.getElem?_eq_some_iff.1 hx).1
      simpa using this
    have e : Q i = x := by simpa [hi] using hx
    have g := hQ i hi j u (by rw [e]; exact hu)
    obtain ⟨b, off, spot⟩ := a
    have hspot : spot = none := by
      have g0 := hQ 0 (by omega) 0 ((E.enc (Q 0))[0]'(by rw [E.len]; exact E.pos)) (List.getElem?_eq_getElem _)
      rw [Nat.zero_mul] at g0
      simpa [Addr.add] using World.cell?_spot g0
    subst hspot
    rw [Addr.add_lit] at g
    exact ⟨b, off, rfl, g⟩

theorem cells_range : Try.prog.cellsOf 42 = 4 := by kernel_rfl
theorem cells_str : Try.prog.cellsOf 9 = 1 := by kernel_rfl
theorem bytes_range : Try.prog.bytesOf 42 = 48 := by kernel_rfl
theorem bytes_str : Try.prog.bytesOf 9 = 16 := by kernel_rfl
/-- A range's cells, opened. -/
theorem range_opened {H : Type} {enc : TypeId × Value → H} {W : World} {fuel : Nat} {cs : List Value} {y : DataW H × List MemPlace}
    (h : DataW.trod enc Try.prog W 0 (fun _ => true) true fuel 42 cs = some y) (hl : cs.length = 4) : ∃ r : Rg, cs = rgE.enc r := by
  obtain ⟨y0, y1, y2, n, _, _, g0, g1, g2⟩ := Deep.trod_struct3 Try.underlying42 h
  match cs, hl with
  | [v0, v1, v2, v3], _ =>
    have g0' : DataW.trod enc Try.prog W 0 (fun _ => true) true n 40 [v0, v1] = some y0 := g0
    have g1' : DataW.trod enc Try.prog W 0 (fun _ => true) true n 3 [v2] = some y1 := g1
    have g2' : DataW.trod enc Try.prog W 0 (fun _ => true) true n 36 [v3] = some y2 := g2
    obtain ⟨s, hs⟩ := span_opened g0'
    obtain ⟨z1, i1, _, _⟩ := DataW.trod_int Try.underlying3 g1'
    obtain ⟨z2, i2, _, _⟩ := DataW.trod_int Try.underlying36 g2'
    simp only [List.cons.injEq, and_true] at i1 i2 hs
    exact ⟨(s, z1, z2), by rw [hs.1, hs.2, i1, i2]; rfl⟩
/-- A slice of ranges that came in. -/
theorem ranges_arg {H : Type} {enc : TypeId × Value → H} {W : World} {base : Nat} {v : Value} {d : DataW H} {ps : List MemPlace} (hval : Value.okWide Try.prog W .any base 22 v)
    (h : DataW.Trod enc Try.prog W 0 (fun _ => true) true 22 v d ps) : ∃ l : List Rg, Rd rgE W v l ∧ (l = [] ∨ ∃ el sp, d = .slice el sp ∧ el.length = l.length) :=
  slice_arg rgE (([], []), 0, 0) Try.underlying22 cells_range (fun _ _ _ h hl => range_opened h hl) hval h
/-- A number that came in. -/
theorem int_arg {W : World} {base : Nat} {v : Value} (hval : Value.okWide Try.prog W .any base 3 v) : ∃ z : Int, v = .int .i64 z := by
  obtain ⟨z, rfl, _⟩ := okWide_int Try.underlying3 hval
  exact ⟨z, rfl⟩

/-- 'append([]api.Range{}, l...)', however long. -/
theorem append_great {w : World} {v x : Value} {ys : List Rg} (h : Rk rgE w 42 v []) (hx : Rd rgE w x ys) (hly : ys.length * 48 ≤ 140737488355328) :
    ∀ ty, ∃ v' w', (Builtin.append_ #[22, 22] ty #[v, x]).run Try.prog w = .ok v' w' ∧ PushT rgE 42 w v ys v' w' := by
  intro ty
  obtain ⟨i0, i1, i2, i3, i4⟩ := info_get infoRg
  obtain ⟨ao, cap, e, hc, h1, h2⟩ := id hx
  cases ao with
  | none =>
    have h0 := h1 rfl
    have hy : ys = [] := List.eq_nil_of_length_eq_zero (by omega)
    subst hy h0
    rw [e]
    refine ⟨v, w, run_append_owned_none (P := Try.prog) (w := w) 0 22 ty 42 i0 4 Try.underlying22 i1 v 0 [] h, h, ⟨rfl, rfl, rfl, Nat.le_refl _, fun _ _ _ => rfl⟩, fun k hk => .inl hk⟩
  | some a =>
    subst e
    obtain ⟨b, off, sp⟩ := a
    by_cases hy : ys = []
    · subst hy
      obtain ⟨v', w', hrun, hO, hg, hfr⟩ := run_append_own2 w 0 22 ty 42 i0 _ 4 48 Try.underlying22 i1 i2 i3 i4 rfl (by decide) v 0 [] h ⟨b, off, sp⟩ 0 cap [] (by simp) (by simp) (by simp) (by unfold maxLen; omega) (by omega) (Nat.zero_le _)
      exact ⟨v', w', hrun, hO, hg, hfr⟩
    · have hpos : 0 < ys.length := List.length_pos_iff.2 hy
      obtain ⟨b', off', r1, _⟩ := h2 0 ys[0] 0 ((rgE.enc ys[0])[0]'(by rw [rgE.len]; exact rgE.pos)) (List.getElem?_eq_getElem hpos) (List.getElem?_eq_getElem _)
      cases r1
      obtain ⟨v', w', hrun, hO, hg, hfr⟩ := run_append_own2 w 0 22 ty 42 i0 _ 4 48 Try.underlying22 i1 i2 i3 i4 rfl (by decide) v 0 [] h ⟨b, off, none⟩ ys.length cap (rgE.flat ys) (El.flat_length rgE ys) (fun j u hu => by rw [Addr.add_lit]; exact Rd.cells hx j u hu) (El.flat_mem rgE) (by unfold maxLen; omega) (by omega) (Nat.zero_le _)
      refine ⟨v', w', hrun, ?_, hg, hfr⟩
      have hO' : w'.ownsRow 0 42 4 v' (0 + ys.length) ([] ++ rgE.flat ys) := hO
      rw [Nat.zero_add, List.nil_append] at hO'
      exact hO'
end Go.Proofs.Ytldlimakcdaoaaa

