import Derived.Test.YtgfoogeiancecaaGreatDoorHw16
import Derived.BigQuiet
import Derived.Laws.Cover1
import Derived.Deep.SlicePairs
import Derived.ProofKit
import Derived.Lib.SmallJoins
import Derived.Deep.Strs
import Derived.ChangeArms
import Derived.SizedLaws
/- The contract of the document's own May: which files may be, of files as they came in (how many are safe may be any number). -/
namespace Go.Proofs.YtgfoogeiancecaaGreatDoor
open Go.RowKit DiskMath
set_option maxRecDepth 100000
set_option linter.unusedSimpArgs false

/-- A file as it came in. -/
structure Raw where
  name : ByteArray
  data : List Nat
  safe : Int

/-- A slice of files that came in, as it is read. -/
def Rv [Keep] (w : World) (lv : Value) (rs : List Raw) : Prop :=
  ∃ ao cap, lv = .slice ao rs.length cap ∧ ∀ (i : Nat) (f : Raw), rs[i]? = some f → ∃ b off sv, ao = some ⟨b, off, none⟩ ∧ w.cell? ⟨b, off + i * 3, none⟩ = some (.string f.name) ∧ w.cell? ⟨b, off + i * 3 + 1, none⟩ = some sv ∧ w.cell? ⟨b, off + i * 3 + 2, none⟩ = some (.int .i64 f.safe) ∧ Bs w.heap.size w sv f.data

theorem Rv.below [Keep] {w w' : World} {lv : Value} {fs : List Raw} (h : Rv w lv fs) (hb : Below w.heap.size w w') : Rv w' lv fs := by
  obtain ⟨ao, cap, e, h2⟩ := h
  refine ⟨ao, cap, e, fun i f hf => ?_⟩
  obtain ⟨b, off, sv, r1, r2, r3, r4, r5⟩ := h2 i f hf
  exact ⟨b, off, sv, r1, (hb.cell (p := ⟨b, off + i * 3, none⟩) (World.block_lt_of_cell? w _ r2)).trans r2, (hb.cell (p := ⟨b, off + i * 3 + 1, none⟩) (World.block_lt_of_cell? w _ r3)).trans r3, (hb.cell (p := ⟨b, off + i * 3 + 2, none⟩) (World.block_lt_of_cell? w _ r4)).trans r4, (r5.below hb).mono hb.size⟩

/-- May a file stand behind another one (none: it is the first)? -/
def mayOne (p : Option ByteArray) (r : Raw) : Prop := mayName r.name = true ∧ r.data.length ≤ 65536 ∧ 0 ≤ r.safe ∧ r.safe ≤ (r.data.length : Int) ∧ ∀ q, p = some q → strOrd.lt q r.name
/-- May files be? -/
def mayFrom : Option ByteArray → List Raw → Prop
  | _, [] => True
  | p, r :: rs => mayOne p r ∧ mayFrom (some r.name) rs
def toFl (r : Raw) : File := ⟨r.name, r.data, r.safe.toNat⟩

theorem may_above : ∀ (rs : List Raw) (q : ByteArray), mayFrom (some q) rs → ∀ r ∈ rs, strOrd.lt q r.name
  | [], _, _, _, h => by cases h
  | x :: rs, q, hm, r, h => by
    have hqx := hm.1.2.2.2.2 q rfl
    rcases List.mem_cons.1 h with rfl | h
    · exact hqx
    · exact strOrd.tr _ _ _ hqx (may_above rs x.name hm.2 r h)
theorem may_rises : ∀ (rs : List Raw) (p : Option ByteArray), mayFrom p rs → Rises strOrd (rs.map toFl)
  | [], _, _ => trivial
  | x :: rs, p, hm => by
    refine ⟨fun g hg => ?_, may_rises rs _ hm.2⟩
    obtain ⟨r, hr, rfl⟩ := List.mem_map.1 hg
    exact may_above rs x.name hm.2 r hr
theorem may_each : ∀ (rs : List Raw) (p : Option ByteArray), mayFrom p rs → ∀ r ∈ rs, mayName r.name = true ∧ r.data.length ≤ 65536 ∧ 0 ≤ r.safe ∧ r.safe ≤ (r.data.length : Int)
  | [], _, _, _, h => by cases h
  | x :: rs, p, hm, r, h => by
    rcases List.mem_cons.1 h with rfl | h
    · exact ⟨hm.1.1, hm.1.2.1, hm.1.2.2.1, hm.1.2.2.2.1⟩
    · exact may_each rs _ hm.2 r h
theorem may_sound {rs : List Raw} (h64 : rs.length ≤ 64) (hm : mayFrom none rs) : SoundF (rs.map toFl) := by
  refine ⟨may_rises rs none hm, by rw [List.length_map]; exact h64, fun g hg => ?_⟩
  obtain ⟨r, hr, rfl⟩ := List.mem_map.1 hg
  obtain ⟨h1, h2, h3, h4⟩ := may_each rs none hm r hr
  exact ⟨h1, h2, by show r.safe.toNat ≤ r.data.length; omega⟩
theorem Rv.fv [Keep] {w : World} {lv : Value} {rs : List Raw} (h : Rv w lv rs) (hm : mayFrom none rs) (hk : ∀ b, b < w.heap.size → kOk b) (hf : kBase ≤ w.heap.size) : Fv w lv (rs.map toFl) := by
  obtain ⟨ao, cap, e, h2⟩ := h
  refine ⟨hf, ao, cap, by rw [List.length_map]; exact e, fun i f hf => ?_⟩
  rw [List.getElem?_map] at hf
  obtain ⟨r, hr, rfl⟩ := Option.map_eq_some_iff.1 hf
  obtain ⟨b, off, sv, r1, r2, r3, r4, r5⟩ := h2 i r hr
  obtain ⟨_, _, h3, _⟩ := may_each rs none hm r (List.mem_of_getElem? hr)
  exact ⟨b, off, sv, r1, r2, r3, by rw [r4]; show _ = some (Value.int .i64 ((r.safe.toNat : Nat) : Int)); rw [Int.toNat_of_nonneg h3], r5, hk b (World.block_lt_of_cell? w _ r2)⟩

@[go_sem] theorem dec_lt_no {a b : Int} (h : b ≤ a) : decide (a < b) = false := decide_eq_false (by omega)
@[go_sem] theorem dec_lt_yes {a b : Int} (h : a < b) : decide (a < b) = true := decide_eq_true h

end Go.Proofs.YtgfoogeiancecaaGreatDoor

/- How what came in is read: byte slices, slices of numbers, of files and of acts; each slice with its own datum, for the form's reach. -/
namespace Go.Proofs.YtgfoogeiancecaaGreatDoor
open Go.ChangeShapes Go.WideShapes Go.RowKit DiskMath
set_option maxRecDepth 100000
set_option linter.unusedSimpArgs false

theorem cells_byte : Tryz.prog.cellsOf 5 = 1 := by kernel_rfl
theorem cells_int : Tryz.prog.cellsOf 3 = 1 := by kernel_rfl
theorem cells_file : Tryz.prog.cellsOf 71 = 3 := by kernel_rfl

/-- A byte slice, opened. -/
theorem bs_opened [Keep] {H : Type} {enc : TypeId × Value → H} {W : World} {fuel : Nat} {sv : Value} {x : DataW H × List MemPlace}
    (hk : ∀ b, b < W.heap.size → kOk b) (h : DataW.trod enc Tryz.prog W 0 (fun _ => true) true fuel 32 [sv] = some x) :
    ∃ s, Bs W.heap.size W sv s ∧ (∀ c ∈ s, c < 256) ∧ (s = [] ∨ ∃ el sp, x.1 = .slice el sp ∧ el.length = s.length) := by
  rcases Deep.open_slice1 Tryz.underlying32 cells_byte h with ⟨hcs, hx⟩ | ⟨a, len, cap, m, n, V, D, Pl, hcs, _, hl, hm, hmm, hx, hc⟩
  · obtain rfl : sv = .slice none 0 0 := by simpa using hcs
    exact ⟨[], Bs.nil _ _, by simp, .inl rfl⟩
  · obtain rfl : sv = .slice (some a) len cap := by simpa using hcs
    have hmc : m = cap := by rw [hmm]; rfl
    subst hmc
    have each : ∀ i, i < len → ∃ c : Nat, W.cell? (a.add i) = some (.int .u8 (c : Int)) ∧ c < 256 := by
      intro i hi
      obtain ⟨h1, h2⟩ := hc i (by omega)
      obtain ⟨k, g1, g2, g3⟩ := DataW.trod_int Tryz.underlying5 h2
      simp only [List.cons.injEq, and_true] at g1
      have hk : 0 ≤ k ∧ k ≤ 255 := by
        have g4 : IntKind.u8.min ≤ k ∧ k ≤ IntKind.u8.max := by simpa [Lit.wf] using g3
        exact g4
      exact ⟨k.toNat, by rw [h1, g1, Int.toNat_of_nonneg hk.1], by omega⟩
    obtain ⟨Q, hQ⟩ := Deep.choose_lt (α := Nat) each
    have hzl : ((List.range len).map Q).length = len := by simp
    refine ⟨(List.range len).map Q, ⟨some a, m, by rw [hzl], by rw [hzl]; exact hl, hm, (fun h => by cases h), fun hne => ?_⟩, ?_, .inr ⟨_, _, (Prod.mk.inj hx).1, by simp⟩⟩
    · have h0 : 0 < len := by
        rcases Nat.eq_zero_or_pos len with h0 | h0
        · subst h0; simp at hne
        · exact h0
      have hc0 := (hQ 0 h0).1
      obtain ⟨b, off, spot⟩ := a
      have hspot : spot = none := by simpa [Addr.add] using World.cell?_spot hc0
      subst hspot
      refine ⟨b, off, rfl, ⟨World.block_lt_of_cell? W _ hc0, hk b (World.block_lt_of_cell? W _ hc0)⟩, fun j c hj => ?_⟩
      have hj' : j < len := by
        have := (List.getElem?_eq_some_iff.1 hj).1
        simpa using this
      have e : Q j = c := by simpa [hj'] using hj
      have g1 := (hQ j hj').1
      rw [Addr.add_lit] at g1
      rw [g1, e]
    · intro c hc
      obtain ⟨i, hi, rfl⟩ := List.mem_map.1 hc
      exact (hQ i (List.mem_range.1 hi)).2

/-- A slice of numbers, opened. -/
theorem ints_opened {H : Type} {enc : TypeId × Value → H} {W : World} {fuel : Nat} {sv : Value} {x : DataW H × List MemPlace}
    (h : DataW.trod enc Tryz.prog W 0 (fun _ => true) true fuel 33 [sv] = some x) :
    ∃ s, Nv W sv s ∧ (s = [] ∨ ∃ el sp, x.1 = .slice el sp ∧ el.length = s.length) := by
  rcases Deep.open_slice1 Tryz.underlying33 cells_int h with ⟨hcs, hx⟩ | ⟨a, len, cap, m, n, V, D, Pl, hcs, _, hl, hm, hmm, hx, hc⟩
  · obtain rfl : sv = .slice none 0 0 := by simpa using hcs
    exact ⟨[], ⟨none, 0, rfl, fun _ => rfl, fun i c hc => by simp at hc⟩, .inl rfl⟩
  · obtain rfl : sv = .slice (some a) len cap := by simpa using hcs
    have hmc : m = cap := by rw [hmm]; rfl
    subst hmc
    have each : ∀ i, i < len → ∃ c : Int, W.cell? (a.add i) = some (.int .i64 c) := by
      intro i hi
      obtain ⟨h1, h2⟩ := hc i (by omega)
      obtain ⟨k, g1, g2, g3⟩ := DataW.trod_int Tryz.underlying3 h2
      simp only [List.cons.injEq, and_true] at g1
      exact ⟨k, by rw [h1, g1]⟩
    obtain ⟨Q, hQ⟩ := Deep.choose_lt (α := Int) each
    have hzl : ((List.range len).map Q).length = len := by simp
    refine ⟨(List.range len).map Q, ⟨some a, m, by rw [hzl], (fun h => by cases h), fun i c hc => ?_⟩, .inr ⟨_, _, (Prod.mk.inj hx).1, by simp⟩⟩
    have hi : i < len := by
      have := (List.getElem?_eq_some_iff.1 hc).1
      simpa using this
    have e : Q i = c := by simpa [hi] using hc
    have g1 := hQ i hi
    have gz := hQ 0 (by omega)
    obtain ⟨b, off, spot⟩ := a
    have hspot : spot = none := by simpa [Addr.add] using World.cell?_spot gz
    subst hspot
    rw [Addr.add_lit, e] at g1
    exact ⟨b, off, rfl, g1⟩

/-- A slice of files, opened: each file's bytes with their own datum. -/
theorem files_opened [Keep] {H : Type} {enc : TypeId × Value → H} {W : World} {fuel : Nat} {v : Value} {x : DataW H × List MemPlace}
    (hk : ∀ b, b < W.heap.size → kOk b) (h : DataW.trod enc Tryz.prog W 0 (fun _ => true) true fuel 29 [v] = some x) :
    ∃ rs, Rv W v rs ∧ (∀ r ∈ rs, r.name.size ≤ maxLen ∧ (∀ c ∈ r.data, c < 256)) ∧ ∀ r ∈ rs, r.data ≠ [] → ∃ el sp, x.1 = .slice el sp ∧ ∃ d0 e1 s1 d2, DataW.agg [d0, DataW.slice e1 s1, d2] ∈ el ∧ e1.length = r.data.length := by
  rcases Deep.open_slice Tryz.underlying29 h with ⟨hcs, hx⟩ | ⟨a, len, cap, m, n, D, Pl, hcs, _, hl, hm, hmm, hx, hc⟩
  · obtain rfl : v = .slice none 0 0 := by simpa using hcs
    exact ⟨[], ⟨none, 0, rfl, fun i f hf => by simp at hf⟩, by simp, by simp⟩
  · obtain rfl : v = .slice (some a) len cap := by simpa using hcs
    have hmc : m = cap := by rw [hmm]; rfl
    subst hmc
    have each : ∀ i, i < len → ∃ q : Raw, q.name.size ≤ maxLen ∧ (∀ c ∈ q.data, c < 256) ∧ W.cell? (a.add (i * 3)) = some (.string q.name) ∧ W.cell? (a.add (i * 3 + 2)) = some (.int .i64 q.safe) ∧ (∃ sv, W.cell? (a.add (i * 3 + 1)) = some sv ∧ Bs W.heap.size W sv q.data) ∧
        (q.data = [] ∨ ∃ d0 e1 s1 d2, D i = .agg [d0, .slice e1 s1, d2] ∧ e1.length = q.data.length) := by
      intro i hi
      obtain ⟨cs', h1, h2⟩ := hc i (by omega)
      rw [cells_file] at h1
      obtain ⟨_, hlen, hcell⟩ := World.cells?_some h1
      obtain ⟨y0, y1, y2, k, hxy, _, g0, g1, g2⟩ := Deep.trod_struct3 Tryz.underlying71 h2
      match cs', hlen with
      | [v0, v1, v2], _ =>
        have e0 := hcell 0 (by omega)
        have e1 := hcell 1 (by omega)
        have e2 := hcell 2 (by omega)
        rw [Deep.add_add] at e0 e1 e2
        have g0' : DataW.trod enc Tryz.prog W 0 (fun _ => true) true k 9 [v0] = some y0 := g0
        have g1' : DataW.trod enc Tryz.prog W 0 (fun _ => true) true k 32 [v1] = some y1 := g1
        have g2' : DataW.trod enc Tryz.prog W 0 (fun _ => true) true k 3 [v2] = some y2 := g2
        obtain ⟨s, i0, _, j0⟩ := DataW.trod_string Tryz.underlying9 g0'
        obtain ⟨z, i2, _, _⟩ := DataW.trod_int Tryz.underlying3 g2'
        obtain ⟨bs, hbs, hbs1, hbs2⟩ := bs_opened hk g1'
        simp only [List.cons.injEq, and_true] at i0 i2
        simp only [Prod.mk.injEq] at hxy
        refine ⟨⟨s, bs, z⟩, j0, hbs1, ?_, ?_, ⟨v1, by simpa using e1, hbs⟩, ?_⟩
        · show _ = some (Value.string s); rw [← i0]; simpa using e0
        · show _ = some (Value.int .i64 z); rw [← i2]; simpa using e2
        · rcases hbs2 with h0 | ⟨el, sp, q1, q2⟩
          · exact .inl h0
          · exact .inr ⟨y0.1, el, sp, y2.1, by rw [hxy.1, q1], q2⟩
    haveI : Inhabited Raw := ⟨⟨ByteArray.empty, [], 0⟩⟩
    obtain ⟨Q, hQ⟩ := Deep.choose_lt (α := Raw) each
    have hzl : ((List.range len).map Q).length = len := by simp
    refine ⟨(List.range len).map Q, ⟨some a, m, by rw [hzl], fun i f hf => ?_⟩, ?_, ?_⟩
    · have hi : i < len := by
        have := (List.getElem?_eq_some_iff.1 hf).1
        simpa using this
      have e : Q i = f := by simpa [hi] using hf
      obtain ⟨_, _, g0, g2, ⟨sv, g1, gB⟩, _⟩ := hQ i hi
      have gz := (hQ 0 (by omega)).2.2.1
      obtain ⟨b, off, spot⟩ := a
      have hspot : spot = none := by simpa [Addr.add] using World.cell?_spot gz
      subst hspot
      rw [Addr.add_lit] at g0 g1 g2
      rw [e] at g0 g2 gB
      exact ⟨b, off, sv, rfl, g0, by rw [Nat.add_assoc]; exact g1, by rw [Nat.add_assoc]; exact g2, gB⟩
    · intro r hr
      obtain ⟨i, hi, rfl⟩ := List.mem_map.1 hr
      exact ⟨(hQ i (List.mem_range.1 hi)).1, (hQ i (List.mem_range.1 hi)).2.1⟩
    · intro r hr hne
      obtain ⟨i, hi, rfl⟩ := List.mem_map.1 hr
      rcases (hQ i (List.mem_range.1 hi)).2.2.2.2.2 with h0 | ⟨d0, e1, s1, d2, h1, h2⟩
      · exact absurd h0 hne
      · exact ⟨_, _, (Prod.mk.inj hx).1, d0, e1, s1, d2, List.mem_map.2 ⟨i, hi, h1⟩, h2⟩
end Go.Proofs.YtgfoogeiancecaaGreatDoor

/- How the acts of WalSafe and WalActs that came in are read; light. -/
namespace Go.Proofs.YtgfoogeiancecaaGreatDoor
open Go.ChangeShapes Go.WideShapes Go.RowKit DiskMath
set_option maxRecDepth 100000
set_option linter.unusedSimpArgs false

theorem cells_wact : Tryz.prog.cellsOf 35 = 5 := by kernel_rfl

/-- An act as it came in. -/
structure Wc where
  what : Int
  idx : Nat
  step : Bool
  b : List Nat
  cuts : List Int

/-- An act's five values. -/
def WcV (w : World) (x : Wc) (vs : List Value) : Prop :=
  ∃ bv cv, vs = [.int .i64 x.what, .int .u64 (x.idx : Int), .bool x.step, bv, cv] ∧ @Bs keepAll w.heap.size w bv x.b ∧ Nv w cv x.cuts
def WcOk (x : Wc) : Prop := x.idx < 18446744073709551616 ∧ ∀ c ∈ x.b, c < 256
/-- A slice of acts, as it is read. -/
def Wv (w : World) (v : Value) (l : List Wc) : Prop :=
  ∃ ao cap, v = .slice ao l.length cap ∧ l.length ≤ cap ∧ cap ≤ maxLen ∧ ∀ (i : Nat) (x : Wc), l[i]? = some x → ∃ b off vs, ao = some ⟨b, off, none⟩ ∧ WcV w x vs ∧ ∀ (j : Nat) (u : Value), vs[j]? = some u → w.cell? ⟨b, off + i * 5 + j, none⟩ = some u

theorem trod_struct5 {H : Type} {enc : TypeId × Value → H} {P : Program} {w : World} {base : Nat} {spare : Nat → Bool} {held : Bool} {t : TypeId} {f0 f1 f2 f3 f4 : Field} {fuel : Nat} {cs : List Value} {x : DataW H × List MemPlace} (ht : P.underlying t = some (.struct #[f0, f1, f2, f3, f4])) (h : DataW.trod enc P w base spare held fuel t cs = some x) :
    ∃ y0 y1 y2 y3 y4 n, x.1 = .agg [y0.1, y1.1, y2.1, y3.1, y4.1] ∧ cs.length = P.cellsOf t ∧ DataW.trod enc P w base spare held n f0.type ((cs.drop f0.offset).take (P.cellsOf f0.type)) = some y0 ∧
      DataW.trod enc P w base spare held n f1.type ((cs.drop f1.offset).take (P.cellsOf f1.type)) = some y1 ∧ DataW.trod enc P w base spare held n f2.type ((cs.drop f2.offset).take (P.cellsOf f2.type)) = some y2 ∧
      DataW.trod enc P w base spare held n f3.type ((cs.drop f3.offset).take (P.cellsOf f3.type)) = some y3 ∧ DataW.trod enc P w base spare held n f4.type ((cs.drop f4.offset).take (P.cellsOf f4.type)) = some y4 := by
  obtain ⟨xs, n, _, rfl, hl, hlen, hf⟩ := DataW.trod_struct ht h
  match xs, hlen with
  | [y0, y1, y2, y3, y4], _ => exact ⟨y0, y1, y2, y3, y4, n, by simp, hl, by simpa using hf 0 f0 rfl, by simpa using hf 1 f1 rfl, by simpa using hf 2 f2 rfl, by simpa using hf 3 f3 rfl, by simpa using hf 4 f4 rfl⟩

theorem wu64_nat {z : Int} (h : (Lit.int .u64 z).wf = true) : ∃ n : Nat, z = (n : Int) ∧ n < 18446744073709551616 := by
  have g : IntKind.u64.min ≤ z ∧ z ≤ IntKind.u64.max := by simpa [Lit.wf] using h
  have g1 : (0 : Int) ≤ z := g.1
  have g2 : z ≤ 18446744073709551615 := g.2
  exact ⟨z.toNat, by omega, by omega⟩

/-- One act, opened. -/
theorem wact_opened {H : Type} {enc : TypeId × Value → H} {W : World} {fuel : Nat} {cs : List Value} {y : DataW H × List MemPlace} (hlen : cs.length = 5)
    (h : DataW.trod enc Tryz.prog W 0 (fun _ => true) true fuel 35 cs = some y) : ∃ x, WcV W x cs ∧ WcOk x := by
  letI := keepAll
  obtain ⟨y0, y1, y2, y3, y4, k, hxy, _, g0, g1, g2, g3, g4⟩ := trod_struct5 Tryz.underlying35 h
  match cs, hlen with
  | [v0, v1, v2, v3, v4], _ =>
    have g0' : DataW.trod enc Tryz.prog W 0 (fun _ => true) true k 3 [v0] = some y0 := g0
    have g1' : DataW.trod enc Tryz.prog W 0 (fun _ => true) true k 31 [v1] = some y1 := g1
    have g2' : DataW.trod enc Tryz.prog W 0 (fun _ => true) true k 4 [v2] = some y2 := g2
    have g3' : DataW.trod enc Tryz.prog W 0 (fun _ => true) true k 32 [v3] = some y3 := g3
    have g4' : DataW.trod enc Tryz.prog W 0 (fun _ => true) true k 33 [v4] = some y4 := g4
    obtain ⟨z0, i0, _, _⟩ := DataW.trod_int Tryz.underlying3 g0'
    obtain ⟨z1, i1, _, j1⟩ := DataW.trod_int Tryz.underlying31 g1'
    obtain ⟨b, i2, _⟩ := DataW.trod_bool Tryz.underlying4 g2'
    obtain ⟨bl, hbl, hb8, _⟩ := bs_opened (fun _ _ => trivial) g3'
    obtain ⟨cu, hcu, _⟩ := ints_opened g4'
    simp only [List.cons.injEq, and_true] at i0 i1 i2
    subst i0 i1 i2
    obtain ⟨n1, rfl, l1⟩ := wu64_nat j1
    exact ⟨⟨z0, n1, b, bl, cu⟩, ⟨v3, v4, rfl, hbl, hcu⟩, l1, hb8⟩

/-- A slice of acts, opened. -/
theorem wacts_opened {H : Type} {enc : TypeId × Value → H} {W : World} {fuel : Nat} {v : Value} {x : DataW H × List MemPlace}
    (h : DataW.trod enc Tryz.prog W 0 (fun _ => true) true fuel 22 [v] = some x) : ∃ l, Wv W v l ∧ ∀ r ∈ l, WcOk r := by
  rcases Deep.open_slice Tryz.underlying22 h with ⟨hcs, hx⟩ | ⟨a, len, cap, m, n, D, Pl, hcs, _, hl, hm, hmm, hx, hc⟩
  · obtain rfl : v = .slice none 0 0 := by simpa using hcs
    exact ⟨[], ⟨none, 0, rfl, Nat.le_refl _, Nat.zero_le _, fun i f hf => by simp at hf⟩, by simp⟩
  · obtain rfl : v = .slice (some a) len cap := by simpa using hcs
    have hmc : m = cap := by rw [hmm]; rfl
    subst hmc
    have each : ∀ i, i < len → ∃ q : Wc, (∃ vs, WcV W q vs ∧ ∀ j u, vs[j]? = some u → W.cell? (a.add (i * 5 + j)) = some u) ∧ WcOk q := by
      intro i hi
      obtain ⟨cs', h1, h2⟩ := hc i (by omega)
      rw [cells_wact] at h1
      obtain ⟨_, hlen, hcell⟩ := World.cells?_some h1
      obtain ⟨q, r1, r2⟩ := wact_opened hlen h2
      refine ⟨q, ⟨cs', r1, fun j u hu => ?_⟩, r2⟩
      have hj := (List.getElem?_eq_some_iff.1 hu).1
      have e := hcell j (by omega)
      rw [Deep.add_add, hu] at e
      exact e
    haveI : Inhabited Wc := ⟨⟨0, 0, false, [], []⟩⟩
    obtain ⟨Q, hQ⟩ := Deep.choose_lt (α := Wc) each
    have hzl : ((List.range len).map Q).length = len := by simp
    refine ⟨(List.range len).map Q, ⟨some a, m, by rw [hzl], by rw [hzl]; omega, by omega, fun i f hf => ?_⟩, ?_⟩
    · have hi : i < len := by
        have := (List.getElem?_eq_some_iff.1 hf).1
        simpa using this
      have e : Q i = f := by simpa [hi] using hf
      obtain ⟨⟨vs, g1, g2⟩, _⟩ := hQ i hi
      have gz : ∃ u, W.cell? (a.add (0 * 5 + 0)) = some u := by
        obtain ⟨⟨vz, ⟨bz, cz, hz, _⟩, hz2⟩, _⟩ := hQ 0 (by omega)
        exact ⟨_, hz2 0 _ (by rw [hz]; rfl)⟩
      obtain ⟨u, gz⟩ := gz
      obtain ⟨b, off, spot⟩ := a
      have hspot : spot = none := by simpa [Addr.add] using World.cell?_spot gz
      subst hspot
      rw [e] at g1
      refine ⟨b, off, vs, rfl, g1, fun j u hu => ?_⟩
      have := g2 j u hu
      rw [Addr.add_lit] at this
      rw [Nat.add_assoc]
      exact this
    · intro r hr
      obtain ⟨i, hi, rfl⟩ := List.mem_map.1 hr
      exact (hQ i (List.mem_range.1 hi)).2
end Go.Proofs.YtgfoogeiancecaaGreatDoor

/- How the acts of WalSafe and WalActs that came in are read, and that their bytes are within the form's reach. -/
namespace Go.Proofs.YtgfoogeiancecaaGreatDoor
open Go.ChangeShapes Go.WideShapes Go.RowKit DiskMath
set_option maxRecDepth 100000
set_option linter.unusedSimpArgs false

/-- One act, opened. -/
theorem wact_opened2 {H : Type} {enc : TypeId × Value → H} {W : World} {fuel : Nat} {cs : List Value} {y : DataW H × List MemPlace} (hlen : cs.length = 5)
    (h : DataW.trod enc Tryz.prog W 0 (fun _ => true) true fuel 35 cs = some y) : ∃ x, WcV W x cs ∧ WcOk x ∧ (x.b = [] ∨ ∃ d0 d1 d2 e1 s1 d4, y.1 = .agg [d0, d1, d2, .slice e1 s1, d4] ∧ e1.length = x.b.length) := by
  letI := keepAll
  obtain ⟨y0, y1, y2, y3, y4, k, hxy, _, g0, g1, g2, g3, g4⟩ := trod_struct5 Tryz.underlying35 h
  match cs, hlen with
  | [v0, v1, v2, v3, v4], _ =>
    have g0' : DataW.trod enc Tryz.prog W 0 (fun _ => true) true k 3 [v0] = some y0 := g0
    have g1' : DataW.trod enc Tryz.prog W 0 (fun _ => true) true k 31 [v1] = some y1 := g1
    have g2' : DataW.trod enc Tryz.prog W 0 (fun _ => true) true k 4 [v2] = some y2 := g2
    have g3' : DataW.trod enc Tryz.prog W 0 (fun _ => true) true k 32 [v3] = some y3 := g3
    have g4' : DataW.trod enc Tryz.prog W 0 (fun _ => true) true k 33 [v4] = some y4 := g4
    obtain ⟨z0, i0, _, _⟩ := DataW.trod_int Tryz.underlying3 g0'
    obtain ⟨z1, i1, _, j1⟩ := DataW.trod_int Tryz.underlying31 g1'
    obtain ⟨b, i2, _⟩ := DataW.trod_bool Tryz.underlying4 g2'
    obtain ⟨bl, hbl, hb8, hfm⟩ := bs_opened (fun _ _ => trivial) g3'
    obtain ⟨cu, hcu, _⟩ := ints_opened g4'
    simp only [List.cons.injEq, and_true] at i0 i1 i2
    subst i0 i1 i2
    obtain ⟨n1, rfl, l1⟩ := wu64_nat j1
    refine ⟨⟨z0, n1, b, bl, cu⟩, ⟨v3, v4, rfl, hbl, hcu⟩, ⟨l1, hb8⟩, ?_⟩
    rcases hfm with h0 | ⟨el, sp, h1, h2⟩
    · exact .inl h0
    · exact .inr ⟨_, _, _, el, sp, _, by rw [hxy, h1], h2⟩

/-- A slice of acts, opened. -/
theorem wacts_opened2 {H : Type} {enc : TypeId × Value → H} {W : World} {fuel : Nat} {v : Value} {x : DataW H × List MemPlace}
    (h : DataW.trod enc Tryz.prog W 0 (fun _ => true) true fuel 22 [v] = some x) : ∃ l, Wv W v l ∧ (∀ r ∈ l, WcOk r) ∧ ∀ r ∈ l, r.b ≠ [] → ∃ el sp, x.1 = .slice el sp ∧ ∃ d0 d1 d2 e1 s1 d4, DataW.agg [d0, d1, d2, .slice e1 s1, d4] ∈ el ∧ e1.length = r.b.length := by
  rcases Deep.open_slice Tryz.underlying22 h with ⟨hcs, hx⟩ | ⟨a, len, cap, m, n, D, Pl, hcs, _, hl, hm, hmm, hx, hc⟩
  · obtain rfl : v = .slice none 0 0 := by simpa using hcs
    exact ⟨[], ⟨none, 0, rfl, Nat.le_refl _, Nat.zero_le _, fun i f hf => by simp at hf⟩, by simp, by simp⟩
  · obtain rfl : v = .slice (some a) len cap := by simpa using hcs
    have hmc : m = cap := by rw [hmm]; rfl
    subst hmc
    have each : ∀ i, i < len → ∃ q : Wc, (∃ vs, WcV W q vs ∧ ∀ j u, vs[j]? = some u → W.cell? (a.add (i * 5 + j)) = some u) ∧ WcOk q ∧ (q.b = [] ∨ ∃ d0 d1 d2 e1 s1 d4, D i = .agg [d0, d1, d2, .slice e1 s1, d4] ∧ e1.length = q.b.length) := by
      intro i hi
      obtain ⟨cs', h1, h2⟩ := hc i (by omega)
      rw [cells_wact] at h1
      obtain ⟨_, hlen, hcell⟩ := World.cells?_some h1
      obtain ⟨q, r1, r2, r3⟩ := wact_opened2 hlen h2
      refine ⟨q, ⟨cs', r1, fun j u hu => ?_⟩, r2, r3⟩
      have hj := (List.getElem?_eq_some_iff.1 hu).1
      have e := hcell j (by omega)
      rw [Deep.add_add, hu] at e
      exact e
    haveI : Inhabited Wc := ⟨⟨0, 0, false, [], []⟩⟩
    obtain ⟨Q, hQ⟩ := Deep.choose_lt (α := Wc) each
    have hzl : ((List.range len).map Q).length = len := by simp
    refine ⟨(List.range len).map Q, ⟨some a, m, by rw [hzl], by rw [hzl]; omega, by omega, fun i f hf => ?_⟩, ?_, ?_⟩
    · have hi : i < len := by
        have := (List.getElem?_eq_some_iff.1 hf).1
        simpa using this
      have e : Q i = f := by simpa [hi] using hf
      obtain ⟨⟨vs, g1, g2⟩, _⟩ := hQ i hi
      have gz : ∃ u, W.cell? (a.add (0 * 5 + 0)) = some u := by
        obtain ⟨⟨vz, ⟨bz, cz, hz, _⟩, hz2⟩, _⟩ := hQ 0 (by omega)
        exact ⟨_, hz2 0 _ (by rw [hz]; rfl)⟩
      obtain ⟨u, gz⟩ := gz
      obtain ⟨b, off, spot⟩ := a
      have hspot : spot = none := by simpa [Addr.add] using World.cell?_spot gz
      subst hspot
      rw [e] at g1
      refine ⟨b, off, vs, rfl, g1, fun j u hu => ?_⟩
      have := g2 j u hu
      rw [Addr.add_lit] at this
      rw [Nat.add_assoc]
      exact this
    · intro r hr
      obtain ⟨i, hi, rfl⟩ := List.mem_map.1 hr
      exact (hQ i (List.mem_range.1 hi)).2.1
    · intro r hr hne
      obtain ⟨i, hi, rfl⟩ := List.mem_map.1 hr
      rcases (hQ i (List.mem_range.1 hi)).2.2 with h0 | ⟨d0, d1, d2, e1, s1, d4, q1, q2⟩
      · exact absurd h0 hne
      · exact ⟨_, _, (Prod.mk.inj hx).1, d0, d1, d2, e1, s1, d4, List.mem_map.2 ⟨i, hi, q1⟩, q2⟩
theorem weights_all {H : Type} {t : TypeId} {d : DataW H} {n : Nat} (hn : n ∈ d.weights Tryz.prog t) : ∀ {l : List (DataW H)}, d ∈ l → n ∈ DataW.weightsAll Tryz.prog t l
  | [], h => by cases h
  | x :: l, h => by
    simp only [DataW.weightsAll, List.mem_append]
    rcases List.mem_cons.1 h with rfl | h
    · exact .inl hn
    · exact .inr (weights_all hn h)
theorem byte_bytes : Tryz.prog.bytesOf 5 = 1 := by kernel_rfl

theorem wacts_sized {H : Type} {ts : List TypeId} {ds : List (DataW H)} {j : Nat} {el sp e1 s1 : List (DataW H)} {d0 d1 d2 d4 : DataW H} (h : (DataW.weightsEach Tryz.prog ts ds).all (· ≤ reachBytes) = true) (ht : ts[j]? = some 22) (hd : ds[j]? = some (.slice el sp)) (hm : DataW.agg [d0, d1, d2, .slice e1 s1, d4] ∈ el) : e1.length ≤ 140737488355328 := by
  have h0 : (e1.length + s1.length) * Tryz.prog.bytesOf 5 ∈ (DataW.slice e1 s1 : DataW H).weights Tryz.prog 32 := by simp [DataW.weights, Tryz.underlying32]
  have h1 : (e1.length + s1.length) * Tryz.prog.bytesOf 5 ∈ (DataW.agg [d0, d1, d2, .slice e1 s1, d4] : DataW H).weights Tryz.prog 35 := by
    simp only [DataW.weights, Tryz.underlying35]
    exact DataW.weights_mem_each (j := 3) rfl rfl _ h0
  have h2 := weights_all h1 hm
  have h3 : (e1.length + s1.length) * Tryz.prog.bytesOf 5 ∈ (DataW.slice el sp : DataW H).weights Tryz.prog 22 := by
    simp only [DataW.weights, Tryz.underlying22]
    exact List.mem_cons_of_mem _ (List.mem_append_left _ h2)
  have := List.all_eq_true.1 h _ (DataW.weights_mem_each ht hd _ h3)
  rw [byte_bytes] at this
  unfold reachBytes at this
  simp at this
  omega
end Go.Proofs.YtgfoogeiancecaaGreatDoor

