import Derived.Test.YtfpbgfmnjpamlaaGreatHv07
import Derived.Test.YtfpbgfmnjpamlaaGreatRows
import Derived.Deep.SlicePairs
import Derived.ProofKit
import Derived.Lib.SmallJoins
import Derived.SizedLaws
import Derived.Test.YtfpbgfmnjpamlaaGreatHv08
/- What came in: holds, marks, keys, numbers. -/
namespace Go.Proofs.YtfpbgfmnjpamlaaGreat
open Go.ChangeShapes Go.WideShapes Go.RowKit LeaseMath
set_option maxRecDepth 100000
set_option linter.unusedSimpArgs false
set_option linter.unusedVariables false

theorem laidOut : laidOutB Tryz.prog = true := by kernel_rfl
theorem own : ownKnob Tryz.prog.godebug = none := by kernel_rfl
theorem cells_hold : Tryz.prog.cellsOf 59 = 3 := by kernel_rfl
theorem cells_mark : Tryz.prog.cellsOf 61 = 2 := by kernel_rfl
theorem bytes_hold : Tryz.prog.bytesOf 59 = 32 := by kernel_rfl
theorem bytes_mark : Tryz.prog.bytesOf 61 = 24 := by kernel_rfl
theorem u64_wf {z : Int} (h : (Lit.int .u64 z).wf = true) : ∃ n : Nat, z = (n : Int) ∧ n < 18446744073709551616 := by
 have g : IntKind.u64.min ≤ z ∧ z ≤ IntKind.u64.max := by simpa [Lit.wf] using h
 have g1 : (0 : Int) ≤ z := g.1
 have g2 : z ≤ 18446744073709551615 := g.2
 exact ⟨z.toNat, by omega, by omega⟩
/-- A hold's cells, opened; a mark's. -/
theorem hold_opened {H : Type} {enc : TypeId × Value → H} {W : World} {fuel : Nat} {cs : List Value} {y : DataW H × List MemPlace}
  (h : DataW.trod enc Tryz.prog W 0 (fun _ => true) true fuel 59 cs = some y) (hl : cs.length = 3) : ∃ r : Hd, cs = holdE.enc r := by
 obtain ⟨y0, y1, y2, n, _, _, g0, g1, g2⟩ := Deep.trod_struct3 Tryz.underlying59 h
 match cs, hl with
 | [v0, v1, v2], _ =>
  have g0' : DataW.trod enc Tryz.prog W 0 (fun _ => true) true n 9 [v0] = some y0 := g0
  have g1' : DataW.trod enc Tryz.prog W 0 (fun _ => true) true n 28 [v1] = some y1 := g1
  have g2' : DataW.trod enc Tryz.prog W 0 (fun _ => true) true n 3 [v2] = some y2 := g2
  obtain ⟨s0, i0, _, _⟩ := DataW.trod_string Tryz.underlying9 g0'
  obtain ⟨z1, i1, _, j1⟩ := DataW.trod_int Tryz.underlying28 g1'
  obtain ⟨z2, i2, _, _⟩ := DataW.trod_int Tryz.underlying3 g2'
  simp only [List.cons.injEq, and_true] at i0 i1 i2
  obtain ⟨k0, rfl⟩ := bk_of s0
  obtain ⟨n1, rfl, _⟩ := u64_wf j1
  exact ⟨(k0, n1, z2), by rw [i0, i1, i2]; rfl⟩
theorem mark_opened {H : Type} {enc : TypeId × Value → H} {W : World} {fuel : Nat} {cs : List Value} {y : DataW H × List MemPlace}
  (h : DataW.trod enc Tryz.prog W 0 (fun _ => true) true fuel 61 cs = some y) (hl : cs.length = 2) : ∃ r : Mk, cs = markE.enc r := by
 obtain ⟨xs, n, _, rfl, hl2, hlen, hf⟩ := DataW.trod_struct Tryz.underlying61 h
 match cs, hl, xs, hlen with
 | [v0, v1], _, [y0, y1], _ =>
  have g0 : DataW.trod enc Tryz.prog W 0 (fun _ => true) true n 9 ((([v0, v1] : List Value).drop 0).take (Tryz.prog.cellsOf 9)) = some y0 := by simpa using hf 0 _ rfl
  have g1 : DataW.trod enc Tryz.prog W 0 (fun _ => true) true n 28 ((([v0, v1] : List Value).drop 1).take (Tryz.prog.cellsOf 28)) = some y1 := by simpa using hf 1 _ rfl
  have g0' : DataW.trod enc Tryz.prog W 0 (fun _ => true) true n 9 [v0] = some y0 := g0
  have g1' : DataW.trod enc Tryz.prog W 0 (fun _ => true) true n 28 [v1] = some y1 := g1
  obtain ⟨s0, i0, _, _⟩ := DataW.trod_string Tryz.underlying9 g0'
  obtain ⟨z1, i1, _, j1⟩ := DataW.trod_int Tryz.underlying28 g1'
  simp only [List.cons.injEq, and_true] at i0 i1
  obtain ⟨k0, rfl⟩ := bk_of s0
  obtain ⟨n1, rfl, _⟩ := u64_wf j1
  exact ⟨(k0, n1), by rw [i0, i1]; rfl⟩
end Go.Proofs.YtfpbgfmnjpamlaaGreat

/- What came in: tables, transactions. -/
namespace Go.Proofs.YtfpbgfmnjpamlaaGreat
open Go.ChangeShapes Go.WideShapes Go.RowKit LeaseMath
set_option maxRecDepth 100000
set_option linter.unusedSimpArgs false
set_option linter.unusedVariables false

/-- A slice of any element, opened, with how many there are. -/
theorem slice_openedL {α : Type} (E : El α) (x0 : α) {ts t : TypeId} {H : Type} {enc : TypeId × Value → H} {W : World} (hu : Tryz.prog.underlying ts = some (.slice t)) (hk : Tryz.prog.cellsOf t = E.k)
  (hel : ∀ (fuel : Nat) (cs : List Value) (y : DataW H × List MemPlace), cs.length = E.k → DataW.trod enc Tryz.prog W 0 (fun _ => true) true fuel t cs = some y → ∃ z, cs = E.enc z)
  {fuel : Nat} {v : Value} {x : DataW H × List MemPlace} (h : DataW.trod enc Tryz.prog W 0 (fun _ => true) true fuel ts [v] = some x) : ∃ zs : List α, Rd E W v zs ∧ (zs = [] ∨ ∃ el sp, x.1 = .slice el sp ∧ el.length = zs.length) := by
 rcases Deep.open_slice hu h with ⟨hcs, hx⟩ | ⟨a, len, cap, m, n, D, Pl, hcs, _, hl, hm, hmm, hx, hc⟩
 ·obtain rfl : v = .slice none 0 0 := by simpa using hcs
  exact ⟨[], ⟨none, 0, rfl, Nat.le_refl _, fun _ => rfl, fun i x j u hx => by simp at hx⟩, .inl rfl⟩
 ·obtain rfl : v = .slice (some a) len cap := by simpa using hcs
  have hmc : m = cap := by rw [hmm]; rfl
  subst hmc
  have each : ∀ i, i < len → ∃ z : α, (∀ j u, (E.enc z)[j]? = some u → W.cell? (a.add (i * E.k + j)) = some u) := by
   intro i hi
   obtain ⟨cs', h1, h2⟩ := hc i (by omega)
   rw [hk] at h1
   obtain ⟨_, hlen, hcell⟩ := World.cells?_some h1
   obtain ⟨z, hs⟩ := hel _ _ _ hlen h2
   refine ⟨z, fun j u hu => ?_⟩
   have hj := (List.getElem?_eq_some_iff.1 hu).1
   rw [E.len] at hj
   have e := hcell j hj
   rw [Deep.add_add, hs, hu] at e
   exact e
  haveI : Inhabited α := ⟨x0⟩
  obtain ⟨Q, hQ⟩ := Deep.choose_lt (α := α) each
  have hzl : ((List.range len).map Q).length = len := by simp
  refine ⟨(List.range len).map Q, ⟨some a, m, by rw [hzl], by rw [hzl]; exact hl, (fun h => by cases h), fun i x j u hx' hu => ?_⟩, .inr ⟨_, _, by rw [hx], by simp⟩⟩
  have hi : i < len := by
   have := (List.getElem?_eq_some_iff.1 hx').1
   simpa using this
  have e : Q i = x := by simpa [hi] using hx'
  have g := (hQ i hi) j u (by rw [e]; exact hu)
  obtain ⟨b, off, spot⟩ := a
  have hspot : spot = none := by
   have g0 := (hQ 0 (by omega)) 0 ((E.enc (Q 0))[0]'(by rw [E.len]; exact E.pos)) (List.getElem?_eq_getElem _)
   rw [Nat.zero_mul] at g0
   simpa [Addr.add] using World.cell?_spot g0
  subst hspot
  rw [Addr.add_lit] at g
  exact ⟨b, off, rfl, g⟩
theorem cells_span : Tryz.prog.cellsOf 47 = 2 := by kernel_rfl
theorem cells_intent : Tryz.prog.cellsOf 63 = 6 := by kernel_rfl
theorem cells_table : Tryz.prog.cellsOf 27 = 6 := by kernel_rfl
theorem bytes_span : Tryz.prog.bytesOf 47 = 32 := by kernel_rfl
theorem bytes_intent : Tryz.prog.bytesOf 63 = 56 := by kernel_rfl
/-- A span's cells, opened; an intent's. -/
theorem span_opened {H : Type} {enc : TypeId × Value → H} {W : World} {fuel : Nat} {cs : List Value} {y : DataW H × List MemPlace}
  (hl : cs.length = 2) (h : DataW.trod enc Tryz.prog W 0 (fun _ => true) true fuel 47 cs = some y) : ∃ r : Sp, cs = spE.enc r := by
 obtain ⟨xs, n, _, rfl, hl2, hlen, hf⟩ := DataW.trod_struct Tryz.underlying47 h
 match cs, hl, xs, hlen with
 | [v0, v1], _, [y0, y1], _ =>
  have g0 : DataW.trod enc Tryz.prog W 0 (fun _ => true) true n 9 ((([v0, v1] : List Value).drop 0).take (Tryz.prog.cellsOf 9)) = some y0 := by simpa using hf 0 _ rfl
  have g1 : DataW.trod enc Tryz.prog W 0 (fun _ => true) true n 9 ((([v0, v1] : List Value).drop 1).take (Tryz.prog.cellsOf 9)) = some y1 := by simpa using hf 1 _ rfl
  have g0' : DataW.trod enc Tryz.prog W 0 (fun _ => true) true n 9 [v0] = some y0 := g0
  have g1' : DataW.trod enc Tryz.prog W 0 (fun _ => true) true n 9 [v1] = some y1 := g1
  obtain ⟨s0, i0, _, _⟩ := DataW.trod_string Tryz.underlying9 g0'
  obtain ⟨s1, i1, _, _⟩ := DataW.trod_string Tryz.underlying9 g1'
  simp only [List.cons.injEq, and_true] at i0 i1
  obtain ⟨k0, rfl⟩ := bk_of s0
  obtain ⟨k1, rfl⟩ := bk_of s1
  exact ⟨(k0, k1), by rw [i0, i1]; rfl⟩
theorem id_struct {H : Type} {enc : TypeId × Value → H} {W : World} {fuel : Nat} {v0 v1 : Value} {x : DataW H × List MemPlace} (h : DataW.trod enc Tryz.prog W 0 (fun _ => true) true fuel 30 [v0, v1] = some x) :
  ∃ d : Cq, [v0, v1] = [.int .i64 d.1, .int .u64 (d.2 : Int)] := by
 obtain ⟨xs, n, _, rfl, hl2, hlen, hf⟩ := DataW.trod_struct Tryz.underlying30 h
 match xs, hlen with
 | [y0, y1], _ =>
  have g0 : DataW.trod enc Tryz.prog W 0 (fun _ => true) true n 3 ((([v0, v1] : List Value).drop 0).take (Tryz.prog.cellsOf 3)) = some y0 := by simpa using hf 0 _ rfl
  have g1 : DataW.trod enc Tryz.prog W 0 (fun _ => true) true n 28 ((([v0, v1] : List Value).drop 1).take (Tryz.prog.cellsOf 28)) = some y1 := by simpa using hf 1 _ rfl
  have g0' : DataW.trod enc Tryz.prog W 0 (fun _ => true) true n 3 [v0] = some y0 := g0
  have g1' : DataW.trod enc Tryz.prog W 0 (fun _ => true) true n 28 [v1] = some y1 := g1
  obtain ⟨z0, i0, _, j0⟩ := DataW.trod_int Tryz.underlying3 g0'
  obtain ⟨z1, i1, _, j1⟩ := DataW.trod_int Tryz.underlying28 g1'
  simp only [List.cons.injEq, and_true] at i0 i1
  obtain ⟨n1, rfl, _⟩ := u64_wf j1
  exact ⟨(z0, n1), by rw [i0, i1]⟩
theorem intent_opened {H : Type} {enc : TypeId × Value → H} {W : World} {fuel : Nat} {cs : List Value} {y : DataW H × List MemPlace}
  (hl : cs.length = 6) (h : DataW.trod enc Tryz.prog W 0 (fun _ => true) true fuel 63 cs = some y) : ∃ r : It, cs = itE.enc r := by
 obtain ⟨xs, n, _, rfl, hl2, hlen, hf⟩ := DataW.trod_struct Tryz.underlying63 h
 match cs, hl, xs, hlen with
 | [v0, v1, v2, v3, v4, v5], _, [y0, y1, y2, y3, y4], _ =>
  have g0 : DataW.trod enc Tryz.prog W 0 (fun _ => true) true n 9 ((([v0, v1, v2, v3, v4, v5] : List Value).drop 0).take (Tryz.prog.cellsOf 9)) = some y0 := by simpa using hf 0 _ rfl
  have g1 : DataW.trod enc Tryz.prog W 0 (fun _ => true) true n 30 ((([v0, v1, v2, v3, v4, v5] : List Value).drop 1).take (Tryz.prog.cellsOf 30)) = some y1 := by simpa using hf 1 _ rfl
  have g2 : DataW.trod enc Tryz.prog W 0 (fun _ => true) true n 3 ((([v0, v1, v2, v3, v4, v5] : List Value).drop 3).take (Tryz.prog.cellsOf 3)) = some y2 := by simpa using hf 2 _ rfl
  have g3 : DataW.trod enc Tryz.prog W 0 (fun _ => true) true n 28 ((([v0, v1, v2, v3, v4, v5] : List Value).drop 4).take (Tryz.prog.cellsOf 28)) = some y3 := by simpa using hf 3 _ rfl
  have g4 : DataW.trod enc Tryz.prog W 0 (fun _ => true) true n 3 ((([v0, v1, v2, v3, v4, v5] : List Value).drop 5).take (Tryz.prog.cellsOf 3)) = some y4 := by simpa using hf 4 _ rfl
  have g0' : DataW.trod enc Tryz.prog W 0 (fun _ => true) true n 9 [v0] = some y0 := g0
  have g1' : DataW.trod enc Tryz.prog W 0 (fun _ => true) true n 30 [v1, v2] = some y1 := g1
  have g2' : DataW.trod enc Tryz.prog W 0 (fun _ => true) true n 3 [v3] = some y2 := g2
  have g3' : DataW.trod enc Tryz.prog W 0 (fun _ => true) true n 28 [v4] = some y3 := g3
  have g4' : DataW.trod enc Tryz.prog W 0 (fun _ => true) true n 3 [v5] = some y4 := g4
  obtain ⟨s0, i0, _, _⟩ := DataW.trod_string Tryz.underlying9 g0'
  obtain ⟨d, i1⟩ := id_struct g1'
  obtain ⟨z2, i2, _, _⟩ := DataW.trod_int Tryz.underlying3 g2'
  obtain ⟨z3, i3, _, j3⟩ := DataW.trod_int Tryz.underlying28 g3'
  obtain ⟨z4, i4, _, _⟩ := DataW.trod_int Tryz.underlying3 g4'
  simp only [List.cons.injEq, and_true] at i0 i1 i2 i3 i4
  obtain ⟨k0, rfl⟩ := bk_of s0
  obtain ⟨n3, rfl, _⟩ := u64_wf j3
  exact ⟨(k0, d, z2, n3, z4), by rw [i0, i1.1, i1.2, i2, i3, i4]; rfl⟩
theorem spans_opened {H : Type} {enc : TypeId × Value → H} {W : World} {fuel : Nat} {v : Value} {x : DataW H × List MemPlace} (h : DataW.trod enc Tryz.prog W 0 (fun _ => true) true fuel 22 [v] = some x) : ∃ zs : List Sp, Rd spE W v zs ∧ (zs = [] ∨ ∃ el sp, x.1 = .slice el sp ∧ el.length = zs.length) :=
 slice_openedL spE ([], []) Tryz.underlying22 cells_span (fun _ _ _ hl h => span_opened hl h) h
theorem holds_opened {H : Type} {enc : TypeId × Value → H} {W : World} {fuel : Nat} {v : Value} {x : DataW H × List MemPlace} (h : DataW.trod enc Tryz.prog W 0 (fun _ => true) true fuel 23 [v] = some x) : ∃ zs : List Hd, Rd holdE W v zs ∧ (zs = [] ∨ ∃ el sp, x.1 = .slice el sp ∧ el.length = zs.length) :=
 slice_openedL holdE ([], 0, 0) Tryz.underlying23 cells_hold (fun _ _ _ hl h => hold_opened h hl) h
theorem marks_opened {H : Type} {enc : TypeId × Value → H} {W : World} {fuel : Nat} {v : Value} {x : DataW H × List MemPlace} (h : DataW.trod enc Tryz.prog W 0 (fun _ => true) true fuel 24 [v] = some x) : ∃ zs : List Mk, Rd markE W v zs ∧ (zs = [] ∨ ∃ el sp, x.1 = .slice el sp ∧ el.length = zs.length) :=
 slice_openedL markE ([], 0) Tryz.underlying24 cells_mark (fun _ _ _ hl h => mark_opened h hl) h
theorem intents_opened {H : Type} {enc : TypeId × Value → H} {W : World} {fuel : Nat} {v : Value} {x : DataW H × List MemPlace} (h : DataW.trod enc Tryz.prog W 0 (fun _ => true) true fuel 25 [v] = some x) : ∃ zs : List It, Rd itE W v zs ∧ (zs = [] ∨ ∃ el sp, x.1 = .slice el sp ∧ el.length = zs.length) :=
 slice_openedL itE ([], (0, 0), 0, 0, 0) Tryz.underlying25 cells_intent (fun _ _ _ hl h => intent_opened hl h) h
/-- What the weights of a slice within a struct come to. -/
theorem len_of {H : Type} {ts : List TypeId} {ds : List (DataW H)} (h : (DataW.weightsEach Tryz.prog ts ds).all (· ≤ reachBytes) = true) {α : Type} {zs : List α} {j : Nat} {t e : TypeId} {d : DataW H} (ht : ts[j]? = some t) (hd : ds[j]? = some d) (hu : Tryz.prog.underlying t = some (.slice e)) {n : Nat} (hb : Tryz.prog.bytesOf e = n) (hn : 1 ≤ n) (hz : zs = [] ∨ ∃ el sp, d = .slice el sp ∧ el.length = zs.length) : zs.length ≤ 140737488355328 := by
 rcases hz with rfl | ⟨el, sp, rfl, hl⟩
 ·simp
 ·have h9 := sized_slice h ht hd hu
  rw [hb] at h9
  unfold reachBytes at h9
  have h8 : zs.length * 1 ≤ (el.length + sp.length) * n := Nat.mul_le_mul (by omega) hn
  omega
theorem inner_of {H : Type} {ts us : List TypeId} {ds es : List (DataW H)} (h : (DataW.weightsEach Tryz.prog ts ds).all (· ≤ reachBytes) = true) {j : Nat} {t : TypeId} {fs : Array Field} (ht : ts[j]? = some t) (hd : ds[j]? = some (.agg es)) (hu : Tryz.prog.underlying t = some (.struct fs)) (he : fs.toList.map (·.type) = us) : (DataW.weightsEach Tryz.prog us es).all (· ≤ reachBytes) = true := by
 refine List.all_eq_true.2 fun n hn => List.all_eq_true.1 h n (DataW.weights_mem_each ht hd n ?_)
 simp only [DataW.weights, hu]
 rw [he]
 exact hn
/-- A table that came in. -/
theorem table_arg {H : Type} {enc : TypeId × Value → H} {W : World} {base : Nat} {v : Value} {d : DataW H} {ps : List MemPlace}
  (ho : Value.okWide Tryz.prog W .any base 27 v) (h : DataW.Trod enc Tryz.prog W 0 (fun _ => true) true 27 v d ps) :
  ∃ z : Tz, v = tv z ∧ TbR W z ∧ ∀ {ts : List TypeId} {ds : List (DataW H)} {j : Nat}, (DataW.weightsEach Tryz.prog ts ds).all (· ≤ reachBytes) = true → ts[j]? = some 27 → ds[j]? = some d → z.t.spans.length ≤ 140737488355328 ∧ z.t.frozen.length ≤ 140737488355328 ∧ z.t.holds.length ≤ 140737488355328 ∧ z.t.marks.length ≤ 140737488355328 ∧ z.t.ints.length ≤ 140737488355328 := by
 simp only [Value.okWide, Tryz.underlying27] at ho
 obtain ⟨cs, rfl, hsz, _⟩ := ho
 rw [cells_table] at hsz
 obtain ⟨fuel, hf⟩ := h
 have hf' : DataW.trod enc Tryz.prog W 0 (fun _ => true) true fuel 27 cs.toList = some (d, ps) := hf
 obtain ⟨xs, n, _, hxy, hl2, hlen, hg⟩ := DataW.trod_struct Tryz.underlying27 hf'
 have hcl : cs.toList.length = 6 := by simpa using hsz
 match hh : cs.toList, hcl, xs, hlen with
 | [v0, v1, v2, v3, v4, v5], _, [y0, y1, y2, y3, y4, y5], _ =>
  rw [hh] at hg
  have g0 : DataW.trod enc Tryz.prog W 0 (fun _ => true) true n 3 ((([v0, v1, v2, v3, v4, v5] : List Value).drop 0).take (Tryz.prog.cellsOf 3)) = some y0 := by simpa using hg 0 _ rfl
  have g1 : DataW.trod enc Tryz.prog W 0 (fun _ => true) true n 22 ((([v0, v1, v2, v3, v4, v5] : List Value).drop 1).take (Tryz.prog.cellsOf 22)) = some y1 := by simpa using hg 1 _ rfl
  have g2 : DataW.trod enc Tryz.prog W 0 (fun _ => true) true n 22 ((([v0, v1, v2, v3, v4, v5] : List Value).drop 2).take (Tryz.prog.cellsOf 22)) = some y2 := by simpa using hg 2 _ rfl
  have g3 : DataW.trod enc Tryz.prog W 0 (fun _ => true) true n 23 ((([v0, v1, v2, v3, v4, v5] : List Value).drop 3).take (Tryz.prog.cellsOf 23)) = some y3 := by simpa using hg 3 _ rfl
  have g4 : DataW.trod enc Tryz.prog W 0 (fun _ => true) true n 24 ((([v0, v1, v2, v3, v4, v5] : List Value).drop 4).take (Tryz.prog.cellsOf 24)) = some y4 := by simpa using hg 4 _ rfl
  have g5 : DataW.trod enc Tryz.prog W 0 (fun _ => true) true n 25 ((([v0, v1, v2, v3, v4, v5] : List Value).drop 5).take (Tryz.prog.cellsOf 25)) = some y5 := by simpa using hg 5 _ rfl
  have g0' : DataW.trod enc Tryz.prog W 0 (fun _ => true) true n 3 [v0] = some y0 := g0
  obtain ⟨z0, i0, _, j0⟩ := DataW.trod_int Tryz.underlying3 g0'
  obtain ⟨l1, r1, m1⟩ := spans_opened (v := v1) (x := y1) g1
  obtain ⟨l2, r2, m2⟩ := spans_opened (v := v2) (x := y2) g2
  obtain ⟨l3, r3, m3⟩ := holds_opened (v := v3) (x := y3) g3
  obtain ⟨l4, r4, m4⟩ := marks_opened (v := v4) (x := y4) g4
  obtain ⟨l5, r5, m5⟩ := intents_opened (v := v5) (x := y5) g5
  simp only [List.cons.injEq, and_true] at i0
  obtain ⟨a1, c1, q1, -, -⟩ := r1.shape
  obtain ⟨a2, c2, q2, -, -⟩ := r2.shape
  obtain ⟨a3, c3, q3, -, -⟩ := r3.shape
  obtain ⟨a4, c4, q4, -, -⟩ := r4.shape
  obtain ⟨a5, c5, q5, -, -⟩ := r5.shape
  subst i0 q1 q2 q3 q4 q5
  have hcs : cs = #[.int .i64 z0, .slice a1 l1.length c1, .slice a2 l2.length c2, .slice a3 l3.length c3, .slice a4 l4.length c4, .slice a5 l5.length c5] := by
   rw [← Array.toList_inj, hh]
  refine ⟨⟨⟨z0, l1, l2, l3, l4, l5⟩, (a1, c1), (a2, c2), (a3, c3), (a4, c4), (a5, c5)⟩, by rw [hcs], ⟨r1, r2, r3, r4, r5⟩, fun {ts ds j} hw ht hd => ?_⟩
  have hxd : d = .agg [y0.1, y1.1, y2.1, y3.1, y4.1, y5.1] := by have := congrArg Prod.fst hxy; simpa using this
  rw [hxd] at hd
  have hi := inner_of hw ht hd Tryz.underlying27 (us := [3, 22, 22, 23, 24, 25]) rfl
  exact ⟨len_of hi (j := 1) rfl rfl Tryz.underlying22 bytes_span (by decide) m1, len_of hi (j := 2) rfl rfl Tryz.underlying22 bytes_span (by decide) m2, len_of hi (j := 3) rfl rfl Tryz.underlying23 bytes_hold (by decide) m3, len_of hi (j := 4) rfl rfl Tryz.underlying24 bytes_mark (by decide) m4, len_of hi (j := 5) rfl rfl Tryz.underlying25 bytes_intent (by decide) m5⟩

/-- A transaction with its call and token. -/
@[reducible] def xv (d : Cq) (c : Cl) (a : Sa) (tk : Nat) : Value := .agg #[.int .i64 d.1, .int .u64 (d.2 : Int), .int .i64 c.kind, .slice a.1 c.keys.length a.2, .int .u64 (c.token : Int), .int .i64 c.ttl, .int .u64 (tk : Int)]
end Go.Proofs.YtfpbgfmnjpamlaaGreat

/- What came in: an id, a bool. -/
namespace Go.Proofs.YtfpbgfmnjpamlaaGreat
open Go.ChangeShapes Go.WideShapes Go.RowKit LeaseMath
set_option maxRecDepth 100000
set_option linter.unusedSimpArgs false
set_option linter.unusedVariables false

theorem cells_id : Tryz.prog.cellsOf 30 = 2 := by kernel_rfl
theorem id_arg {H : Type} {enc : TypeId × Value → H} {W : World} {base : Nat} {v : Value} {d : DataW H} {ps : List MemPlace}
  (ho : Value.okWide Tryz.prog W .any base 30 v) (h : DataW.Trod enc Tryz.prog W 0 (fun _ => true) true 30 v d ps) :
  ∃ c : Cq, v = idv c := by
 simp only [Value.okWide, Tryz.underlying30] at ho
 obtain ⟨cs, rfl, hsz, _⟩ := ho
 rw [cells_id] at hsz
 obtain ⟨fuel, hf⟩ := h
 have hf' : DataW.trod enc Tryz.prog W 0 (fun _ => true) true fuel 30 cs.toList = some (d, ps) := hf
 have hcl : cs.toList.length = 2 := by simpa using hsz
 match hh : cs.toList, hcl with
 | [v0, v1], _ =>
  rw [hh] at hf'
  obtain ⟨q, hq⟩ := id_struct hf'
  refine ⟨q, ?_⟩
  show Value.agg cs = .agg _
  congr 1
  rw [← Array.toList_inj, hh, hq]
theorem bool_arg {W : World} {base : Nat} {v : Value} (hval : Value.okWide Tryz.prog W .any base 4 v) : ∃ b : Bool, v = .bool b := okWide_bool Tryz.underlying4 hval
end Go.Proofs.YtfpbgfmnjpamlaaGreat

