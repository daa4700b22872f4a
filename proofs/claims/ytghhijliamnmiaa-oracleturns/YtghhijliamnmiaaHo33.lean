import Derived.Test.YtghhijliamnmiaaHo31
import Derived.Test.YtghhijliamnmiaaHo32
import Derived.Test.YtghhijliamnmiaaRows
import Derived.Deep.SlicePairs
import Derived.ProofKit
import Derived.Lib.SmallJoins
/- What came in: a window, bytes, acts, numbers. -/
namespace Go.Proofs.Ytghhijliamnmiaa
open Go.ChangeShapes Go.WideShapes Go.RowKit OracleMath
set_option maxRecDepth 100000
set_option linter.unusedSimpArgs false
set_option linter.unusedVariables false

theorem laidOut : laidOutB Try.prog = true := by kernel_rfl
theorem own : ownKnob Try.prog.godebug = none := by kernel_rfl
theorem cells_byte : Try.prog.cellsOf 5 = 1 := by kernel_rfl
theorem cells_win : Try.prog.cellsOf 24 = 3 := by kernel_rfl
theorem cells_act : Try.prog.cellsOf 47 = 2 := by kernel_rfl
/-- Bytes that came in. -/
theorem bytes_opened {H : Type} {enc : TypeId × Value → H} {W : World} {fuel : Nat} {sv : Value} {x : DataW H × List MemPlace}
    (h : DataW.trod enc Try.prog W 0 (fun _ => true) true fuel 37 [sv] = some x) : ∃ s, Bn W sv s ∧ ∀ c ∈ s, c < 256 := by
  rcases Deep.open_slice1 Try.underlying37 cells_byte h with ⟨hcs, hx⟩ | ⟨a, len, cap, m, n, V, D, Pl, hcs, _, hl, hm, hmm, hx, hc⟩
  · obtain rfl : sv = .slice none 0 0 := by simpa using hcs
    exact ⟨[], Wi.Bs.nil _ _, by simp⟩
  · obtain rfl : sv = .slice (some a) len cap := by simpa using hcs
    have hmc : m = cap := by rw [hmm]; rfl
    subst hmc
    have each : ∀ i, i < len → ∃ c : Nat, W.cell? (a.add i) = some (.int .u8 (c : Int)) ∧ c < 256 := by
      intro i hi
      obtain ⟨h1, h2⟩ := hc i (by omega)
      obtain ⟨k, g1, g2, g3⟩ := DataW.trod_int Try.underlying5 h2
      simp only [List.cons.injEq, and_true] at g1
      have hk : 0 ≤ k ∧ k ≤ 255 := by
        have g4 : IntKind.u8.min ≤ k ∧ k ≤ IntKind.u8.max := by simpa [Lit.wf] using g3
        exact g4
      exact ⟨k.toNat, by rw [h1, g1, Int.toNat_of_nonneg hk.1], by omega⟩
    obtain ⟨Q, hQ⟩ := Deep.choose_lt (α := Nat) each
    have hzl : ((List.range len).map Q).length = len := by simp
    refine ⟨(List.range len).map Q, ⟨some a, m, by rw [hzl], by rw [hzl]; exact hl, hm, (fun h => by cases h), fun hne => ?_⟩, ?_⟩
    · have h0 : 0 < len := by
        rcases Nat.eq_zero_or_pos len with h0 | h0
        · subst h0; simp at hne
        · exact h0
      have hc0 := (hQ 0 h0).1
      obtain ⟨b, off, spot⟩ := a
      have hspot : spot = none := by simpa [Addr.add] using World.cell?_spot hc0
      subst hspot
      refine ⟨b, off, rfl, World.block_lt_of_cell? W _ hc0, fun j c hj => ?_⟩
      have hj' : j < len := by
        have := (List.getElem?_eq_some_iff.1 hj).1
        simpa using this
      have e : Q j = c := by simpa [hj'] using hj
      have := (hQ j hj').1
      rw [e, Addr.add_lit] at this
      exact this
    · intro c hc
      obtain ⟨i, hi, rfl⟩ := List.mem_map.1 hc
      exact (hQ i (by simpa using hi)).2
/-- A slice of any element, opened. -/
theorem slice_opened {α : Type} (E : El α) (P : α → Prop) (x0 : α) {ts t : TypeId} {H : Type} {enc : TypeId × Value → H} {W : World} (hu : Try.prog.underlying ts = some (.slice t)) (hk : Try.prog.cellsOf t = E.k)
    (hel : ∀ (fuel : Nat) (cs : List Value) (y : DataW H × List MemPlace), cs.length = E.k → DataW.trod enc Try.prog W 0 (fun _ => true) true fuel t cs = some y → ∃ z, cs = E.enc z ∧ P z)
    {fuel : Nat} {v : Value} {x : DataW H × List MemPlace} (h : DataW.trod enc Try.prog W 0 (fun _ => true) true fuel ts [v] = some x) : ∃ zs : List α, Rd E W v zs ∧ ∀ z ∈ zs, P z := by
  rcases Deep.open_slice hu h with ⟨hcs, hx⟩ | ⟨a, len, cap, m, n, D, Pl, hcs, _, hl, hm, hmm, hx, hc⟩
  · obtain rfl : v = .slice none 0 0 := by simpa using hcs
    exact ⟨[], ⟨none, 0, rfl, Nat.le_refl _, fun _ => rfl, fun i x j u hx => by simp at hx⟩, by simp⟩
  · obtain rfl : v = .slice (some a) len cap := by simpa using hcs
    have hmc : m = cap := by rw [hmm]; rfl
    subst hmc
    have each : ∀ i, i < len → ∃ z : α, (∀ j u, (E.enc z)[j]? = some u → W.cell? (a.add (i * E.k + j)) = some u) ∧ P z := by
      intro i hi
      obtain ⟨cs', h1, h2⟩ := hc i (by omega)
      rw [hk] at h1
      obtain ⟨_, hlen, hcell⟩ := World.cells?_some h1
      obtain ⟨z, hs, hp⟩ := hel _ _ _ hlen h2
      refine ⟨z, fun j u hu => ?_, hp⟩
      have hj := (List.getElem?_eq_some_iff.1 hu).1
      rw [E.len] at hj
      have e := hcell j hj
      rw [Deep.add_add, hs, hu] at e
      exact e
    haveI : Inhabited α := ⟨x0⟩
    obtain ⟨Q, hQ⟩ := Deep.choose_lt (α := α) each
    have hzl : ((List.range len).map Q).length = len := by simp
    refine ⟨(List.range len).map Q, ⟨some a, m, by rw [hzl], by rw [hzl]; exact hl, (fun h => by cases h), fun i x j u hx' hu => ?_⟩, fun z hz => ?_⟩
    · have hi : i < len := by
        have := (List.getElem?_eq_some_iff.1 hx').1
        simpa using this
      have e : Q i = x := by simpa [hi] using hx'
      have g := (hQ i hi).1 j u (by rw [e]; exact hu)
      obtain ⟨b, off, spot⟩ := a
      have hspot : spot = none := by
        have g0 := (hQ 0 (by omega)).1 0 ((E.enc (Q 0))[0]'(by rw [E.len]; exact E.pos)) (List.getElem?_eq_getElem _)
        rw [Nat.zero_mul] at g0
        simpa [Addr.add] using World.cell?_spot g0
      subst hspot
      rw [Addr.add_lit] at g
      exact ⟨b, off, rfl, g⟩
    · obtain ⟨i, hi, rfl⟩ := List.mem_map.1 hz
      exact (hQ i (by simpa using hi)).2
theorem u64_wf {z : Int} (h : (Lit.int .u64 z).wf = true) : ∃ n : Nat, z = (n : Int) ∧ n < 18446744073709551616 := by
  have g : IntKind.u64.min ≤ z ∧ z ≤ IntKind.u64.max := by simpa [Lit.wf] using h
  have g1 : (0 : Int) ≤ z := g.1
  have g2 : z ≤ 18446744073709551615 := g.2
  exact ⟨z.toNat, by omega, by omega⟩
/-- Bytes that came in. -/
theorem bytes_arg {H : Type} {enc : TypeId × Value → H} {W : World} {base : Nat} {v : Value} {d : DataW H} {ps : List MemPlace}
    (ho : Value.okWide Try.prog W .any base 37 v) (h : DataW.Trod enc Try.prog W 0 (fun _ => true) true 37 v d ps) :
    ∃ s, Bn W v s ∧ ∀ c ∈ s, c < 256 := by
  obtain ⟨a0, len0, cap0, rfl⟩ := okWide_slice Try.underlying37 ho
  obtain ⟨fuel, hf⟩ := h
  exact bytes_opened (x := (d, ps)) hf
/-- A window's cells, opened. -/
theorem win_opened {H : Type} {enc : TypeId × Value → H} {W : World} {fuel : Nat} {cs : List Value} {y : DataW H × List MemPlace}
    (h : DataW.trod enc Try.prog W 0 (fun _ => true) true fuel 24 cs = some y) (hl : cs.length = 3) : ∃ x : Wn, cs = [.int .u64 (x.1 : Int), .int .u64 (x.2.1 : Int), .bool x.2.2] ∧ OkW x := by
  obtain ⟨y0, y1, y2, n, _, _, g0, g1, g2⟩ := Deep.trod_struct3 Try.underlying24 h
  match cs, hl with
  | [v0, v1, v2], _ =>
    have g0' : DataW.trod enc Try.prog W 0 (fun _ => true) true n 22 [v0] = some y0 := g0
    have g1' : DataW.trod enc Try.prog W 0 (fun _ => true) true n 22 [v1] = some y1 := g1
    have g2' : DataW.trod enc Try.prog W 0 (fun _ => true) true n 4 [v2] = some y2 := g2
    obtain ⟨z0, i0, _, j0⟩ := DataW.trod_int Try.underlying22 g0'
    obtain ⟨z1, i1, _, j1⟩ := DataW.trod_int Try.underlying22 g1'
    obtain ⟨z2, i2, _⟩ := DataW.trod_bool Try.underlying4 g2'
    simp only [List.cons.injEq, and_true] at i0 i1 i2
    obtain ⟨n0, rfl, l0⟩ := u64_wf j0
    obtain ⟨n1, rfl, l1⟩ := u64_wf j1
    exact ⟨(n0, n1, z2), by rw [i0, i1, i2], l0, l1⟩
theorem win_arg {H : Type} {enc : TypeId × Value → H} {W : World} {base : Nat} {v : Value} {d : DataW H} {ps : List MemPlace} (hval : Value.okWide Try.prog W .any base 24 v)
    (h : DataW.Trod enc Try.prog W 0 (fun _ => true) true 24 v d ps) : ∃ x : Wn, v = wv x ∧ OkW x := by
  simp only [Value.okWide, Try.underlying24] at hval
  obtain ⟨cs, rfl, hsz, _⟩ := hval
  rw [cells_win] at hsz
  obtain ⟨fuel, hf⟩ := h
  have hf' : DataW.trod enc Try.prog W 0 (fun _ => true) true fuel 24 cs.toList = some (d, ps) := hf
  obtain ⟨x, hs, hx⟩ := win_opened hf' (by simpa using hsz)
  refine ⟨x, ?_, hx⟩
  show Value.agg cs = .agg _
  congr 1
  rw [← Array.toList_inj]
  exact hs
theorem act_opened {H : Type} {enc : TypeId × Value → H} {W : World} {fuel : Nat} {cs : List Value} {y : DataW H × List MemPlace} (hlen : cs.length = 2)
    (h : DataW.trod enc Try.prog W 0 (fun _ => true) true fuel 47 cs = some y) : ∃ z : Ac, cs = actE.enc z ∧ True := by
  obtain ⟨xs, n, _, rfl, hl2, hlen2, hf⟩ := DataW.trod_struct Try.underlying47 h
  match cs, hlen, xs, hlen2 with
  | [v0, v1], _, [y0, y1], _ =>
    have g0 : DataW.trod enc Try.prog W 0 (fun _ => true) true n 3 ((([v0, v1] : List Value).drop 0).take (Try.prog.cellsOf 3)) = some y0 := by simpa using hf 0 _ rfl
    have g1 : DataW.trod enc Try.prog W 0 (fun _ => true) true n 3 ((([v0, v1] : List Value).drop 1).take (Try.prog.cellsOf 3)) = some y1 := by simpa using hf 1 _ rfl
    have g0' : DataW.trod enc Try.prog W 0 (fun _ => true) true n 3 [v0] = some y0 := g0
    have g1' : DataW.trod enc Try.prog W 0 (fun _ => true) true n 3 [v1] = some y1 := g1
    obtain ⟨z0, i0, _, _⟩ := DataW.trod_int Try.underlying3 g0'
    obtain ⟨z1, i1, _, _⟩ := DataW.trod_int Try.underlying3 g1'
    simp only [List.cons.injEq, and_true] at i0 i1
    exact ⟨(z0, z1), by rw [i0, i1]; rfl, trivial⟩
/-- Acts that came in. -/
theorem acts_arg {H : Type} {enc : TypeId × Value → H} {W : World} {base : Nat} {v : Value} {d : DataW H} {ps : List MemPlace}
    (ho : Value.okWide Try.prog W .any base 45 v) (h : DataW.Trod enc Try.prog W 0 (fun _ => true) true 45 v d ps) :
    ∃ zs : List Ac, Rd actE W v zs ∧ True := by
  obtain ⟨a0, len0, cap0, rfl⟩ := okWide_slice Try.underlying45 ho
  obtain ⟨fuel, hf⟩ := h
  obtain ⟨zs, h1, h2⟩ := slice_opened actE (fun z => True) (0, 0) Try.underlying45 cells_act (fun fuel cs y hl h => act_opened hl h) (x := (d, ps)) hf
  exact ⟨zs, h1, trivial⟩
theorem int_arg {W : World} {base : Nat} {v : Value} (hval : Value.okWide Try.prog W .any base 3 v) : ∃ z : Int, v = .int .i64 z := by
  obtain ⟨z, rfl, _⟩ := okWide_int Try.underlying3 hval
  exact ⟨z, rfl⟩
theorem u64_arg {H : Type} {enc : TypeId × Value → H} {W : World} {base : Nat} {v : Value} {d : DataW H} {ps : List MemPlace} (hval : Value.okWide Try.prog W .any base 22 v) (h : DataW.Trod enc Try.prog W 0 (fun _ => true) true 22 v d ps) : ∃ n : Nat, v = .int .u64 (n : Int) ∧ n < 18446744073709551616 := by
  obtain ⟨z, rfl⟩ := okWide_int Try.underlying22 hval
  obtain ⟨fuel, hf⟩ := h
  have hf' : DataW.trod enc Try.prog W 0 (fun _ => true) true fuel 22 [.int .u64 z] = some (d, ps) := hf
  obtain ⟨y, e1, _, e3⟩ := DataW.trod_int Try.underlying22 hf'
  have e : z = y := by simpa using e1
  subst e
  obtain ⟨n, rfl, l⟩ := u64_wf e3
  exact ⟨n, rfl, l⟩
end Go.Proofs.Ytghhijliamnmiaa

