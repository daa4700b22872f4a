import Derived.Test.YtncoandnelgkeaaGreatHc08
import Derived.Test.YtncoandnelgkeaaGreatRows
import Derived.Deep.SlicePairs
import Derived.ProofKit
import Derived.Lib.SmallJoins
/- How logs and entries that came in are read, and what the bulk bounds. -/
namespace Go.Proofs.YtncoandnelgkeaaGreat
open Go.ChangeShapes Go.WideShapes Go.RowKit RlogMath
set_option maxRecDepth 100000
set_option linter.unusedSimpArgs false
set_option linter.unusedVariables false

theorem laidOut : laidOutB Tryz.prog = true := by kernel_rfl
theorem own : ownKnob Tryz.prog.godebug = none := by kernel_rfl
theorem cells_byte : Tryz.prog.cellsOf 5 = 1 := by kernel_rfl
theorem cells_ent : Tryz.prog.cellsOf 25 = 4 := by kernel_rfl
theorem cells_int : Tryz.prog.cellsOf 3 = 1 := by kernel_rfl
theorem bulk_pos {H : Type} (d : DataW H) : 1 ≤ Rows.uptoBulk d := by
  cases d with
  | lit l => cases l <;> simp [Rows.uptoBulk]
  | _ => simp [Rows.uptoBulk]
theorem bulk_mem {H : Type} {d : DataW H} : ∀ {l : List (DataW H)}, d ∈ l → Rows.uptoBulk d ≤ Rows.uptoBulkAll l
  | [], h => by simp at h
  | x :: l, h => by
    rw [List.mem_cons] at h
    rcases h with rfl | h
    · simp only [Rows.uptoBulkAll]; omega
    · have := bulk_mem h
      simp only [Rows.uptoBulkAll]; omega
theorem bulk_len {H : Type} : ∀ (l : List (DataW H)), l.length ≤ Rows.uptoBulkAll l
  | [] => by simp
  | x :: l => by
    have h1 := bulk_pos x
    have h2 := bulk_len l
    simp only [Rows.uptoBulkAll, List.length_cons]; omega

/-- A byte slice, opened. -/
theorem bytes_opened {H : Type} {enc : TypeId × Value → H} {W : World} {fuel : Nat} {sv : Value} {x : DataW H × List MemPlace}
    (h : DataW.trod enc Tryz.prog W 0 (fun _ => true) true fuel 23 [sv] = some x) :
    ∃ s : List Nat, Rd byteE W sv s ∧ (∀ c ∈ s, c < 256) ∧ s.length ≤ Rows.uptoBulk x.1 := by
  rcases Deep.open_slice1 Tryz.underlying23 cells_byte h with ⟨hcs, hx⟩ | ⟨a, len, cap, m, n, V, D, Pl, hcs, _, hl, hm, hmm, hx, hc⟩
  · obtain rfl : sv = .slice none 0 0 := by simpa using hcs
    exact ⟨[], rdb_nil _, by simp, Nat.zero_le _⟩
  · obtain rfl : sv = .slice (some a) len cap := by simpa using hcs
    have hmc : m = cap := by rw [hmm]; rfl
    subst hmc
    have each : ∀ i, i < len → ∃ c : Nat, W.cell? (a.add i) = some (.int .u8 (c : Int)) ∧ c < 256 := by
      intro i hi
      obtain ⟨h1, h2⟩ := hc i (by omega)
      obtain ⟨k, g1, g2, g3⟩ := DataW.trod_int Tryz.underlying5 h2
      simp only [List.cons.injEq, and_true] at g1
      have hk : 0 ≤ k ∧ k ≤ 255 := by
        have g4 : IntKind.u8.min ≤ k ∧ k ≤ IntKind.u8.max := by simpa [Lit.wf] using g3
        exact g4
      exact ⟨k.toNat, by rw [h1, g1, Int.toNat_of_nonneg hk.1], by omega⟩
    obtain ⟨Q, hQ⟩ := Deep.choose_lt (α := Nat) each
    have hzl : ((List.range len).map Q).length = len := by simp
    refine ⟨(List.range len).map Q, ⟨some a, m, by rw [hzl], by rw [hzl]; exact hl, (fun h => by cases h), fun i x j u hx' hu => ?_⟩, ?_, ?_⟩
    · have hi : i < len := by
        have := (List.getElem?_eq_some_iff.1 hx').1
        simpa using this
      have e : Q i = x := by simpa [hi] using hx'
      have hj : j = 0 := by
        have := (List.getElem?_eq_some_iff.1 hu).1
        rw [byteE.len] at this
        exact Nat.lt_one_iff.1 this
      subst hj
      obtain rfl : u = .int .u8 (x : Int) := by
        have : some (Value.int .u8 (x : Int)) = some u := hu
        exact (Option.some.inj this).symm
      have g := (hQ i hi).1
      obtain ⟨b, off, spot⟩ := a
      have hspot : spot = none := by
        have g0 := (hQ 0 (by omega)).1
        simpa [Addr.add] using World.cell?_spot g0
      subst hspot
      rw [Addr.add_lit, e] at g
      exact ⟨b, off, rfl, by rw [show i * byteE.k + 0 = i from Nat.mul_one i]; exact g⟩
    · intro c hc
      obtain ⟨i, hi, rfl⟩ := List.mem_map.1 hc
      exact (hQ i (List.mem_range.1 hi)).2
    · rw [(Prod.mk.inj hx).1, hzl]
      have := bulk_len ((List.range len).map D)
      simp only [Rows.uptoBulk, List.length_map, List.length_range] at *
      omega

theorem u64_wf {z : Int} (h : (Lit.int .u64 z).wf = true) : ∃ n : Nat, z = (n : Int) ∧ n < 18446744073709551616 := by
  have g : IntKind.u64.min ≤ z ∧ z ≤ IntKind.u64.max := by simpa [Lit.wf] using h
  have g1 : (0 : Int) ≤ z := g.1
  have g2 : z ≤ 18446744073709551615 := g.2
  exact ⟨z.toNat, by omega, by omega⟩

/-- An entry's cells, opened. -/
theorem entry_opened {H : Type} {enc : TypeId × Value → H} {W : World} {fuel : Nat} {cs : List Value} {y : DataW H × List MemPlace} (hlen : cs.length = 4)
    (h : DataW.trod enc Tryz.prog W 0 (fun _ => true) true fuel 25 cs = some y) : ∃ z : Ez, cs = entE.enc z ∧ DataV W z ∧ EzOk z ∧ z.1.data.length ≤ Rows.uptoBulk y.1 := by
  obtain ⟨y0, y1, y2, y3, k, hxy, _, g0, g1, g2, g3⟩ := Joins.trod_struct4 Tryz.underlying25 h
  match cs, hlen with
  | [v0, v1, v2, v3], _ =>
    have g0' : DataW.trod enc Tryz.prog W 0 (fun _ => true) true k 22 [v0] = some y0 := g0
    have g1' : DataW.trod enc Tryz.prog W 0 (fun _ => true) true k 22 [v1] = some y1 := g1
    have g2' : DataW.trod enc Tryz.prog W 0 (fun _ => true) true k 3 [v2] = some y2 := g2
    have g3' : DataW.trod enc Tryz.prog W 0 (fun _ => true) true k 23 [v3] = some y3 := g3
    obtain ⟨z0, i0, _, j0⟩ := DataW.trod_int Tryz.underlying22 g0'
    obtain ⟨z1, i1, _, j1⟩ := DataW.trod_int Tryz.underlying22 g1'
    obtain ⟨z2, i2, _, _⟩ := DataW.trod_int Tryz.underlying3 g2'
    obtain ⟨d, hd, hd8, hdl⟩ := bytes_opened g3'
    simp only [List.cons.injEq, and_true] at i0 i1 i2
    subst i0 i1 i2
    obtain ⟨n0, rfl, l0⟩ := u64_wf j0
    obtain ⟨n1, rfl, l1⟩ := u64_wf j1
    obtain ⟨ao, cap, rfl, -, -⟩ := hd.shape
    refine ⟨(⟨n0, n1, z2, d⟩, (ao, d.length, cap)), rfl, hd, ⟨l0, l1, hd8⟩, ?_⟩
    have e : Rows.uptoBulk y.1 = _ := congrArg (fun q => Rows.uptoBulk q.1) hxy
    rw [e]
    simp only [Rows.uptoBulk, Rows.uptoBulkAll]
    show d.length ≤ _
    omega

/-- A slice of entries, opened. -/
theorem ents_opened {H : Type} {enc : TypeId × Value → H} {W : World} {fuel : Nat} {v : Value} {x : DataW H × List MemPlace}
    (h : DataW.trod enc Tryz.prog W 0 (fun _ => true) true fuel 26 [v] = some x) : ∃ zs : List Ez, EntsV W v zs ∧ (∀ z ∈ zs, EzOk z ∧ z.1.data.length ≤ Rows.uptoBulk x.1) ∧ zs.length ≤ Rows.uptoBulk x.1 := by
  rcases Deep.open_slice Tryz.underlying26 h with ⟨hcs, hx⟩ | ⟨a, len, cap, m, n, D, Pl, hcs, _, hl, hm, hmm, hx, hc⟩
  · obtain rfl : v = .slice none 0 0 := by simpa using hcs
    exact ⟨[], ents_nil _, by simp, Nat.zero_le _⟩
  · obtain rfl : v = .slice (some a) len cap := by simpa using hcs
    have hmc : m = cap := by rw [hmm]; rfl
    subst hmc
    have hbk : Rows.uptoBulkAll ((List.range len).map D) + 1 ≤ Rows.uptoBulk x.1 := by
      rw [(Prod.mk.inj hx).1]
      simp only [Rows.uptoBulk]
      omega
    have each : ∀ i, i < len → ∃ z : Ez, (∀ j u, (entE.enc z)[j]? = some u → W.cell? (a.add (i * 4 + j)) = some u) ∧ DataV W z ∧ EzOk z ∧ z.1.data.length ≤ Rows.uptoBulk (D i) := by
      intro i hi
      obtain ⟨cs', h1, h2⟩ := hc i (by omega)
      rw [cells_ent] at h1
      obtain ⟨_, hlen, hcell⟩ := World.cells?_some h1
      obtain ⟨z, hs, hd, hok, hb⟩ := entry_opened hlen h2
      refine ⟨z, fun j u hu => ?_, hd, hok, hb⟩
      have hj := (List.getElem?_eq_some_iff.1 hu).1
      rw [entE.len] at hj
      have e := hcell j hj
      rw [Deep.add_add, hs, hu] at e
      exact e
    haveI : Inhabited Ez := ⟨(zeroMe, (none, 0, 0))⟩
    obtain ⟨Q, hQ⟩ := Deep.choose_lt (α := Ez) each
    have hzl : ((List.range len).map Q).length = len := by simp
    have hin : ∀ z ∈ (List.range len).map Q, DataV W z ∧ EzOk z ∧ z.1.data.length ≤ Rows.uptoBulk x.1 := fun z hz => by
      obtain ⟨i, hi, rfl⟩ := List.mem_map.1 hz
      obtain ⟨_, r1, r2, r3⟩ := hQ i (List.mem_range.1 hi)
      have := bulk_mem (List.mem_map.2 ⟨i, hi, rfl⟩ : D i ∈ (List.range len).map D)
      exact ⟨r1, r2, by omega⟩
    refine ⟨(List.range len).map Q, ⟨⟨some a, m, by rw [hzl], by rw [hzl]; exact hl, (fun h => by cases h), fun i x j u hx' hu => ?_⟩, fun z hz => (hin z hz).1⟩, fun z hz => (hin z hz).2, ?_⟩
    · have hi : i < len := by
        have := (List.getElem?_eq_some_iff.1 hx').1
        simpa using this
      have e : Q i = x := by simpa [hi] using hx'
      have g := (hQ i hi).1 j u (by rw [e]; exact hu)
      obtain ⟨b, off, spot⟩ := a
      have hspot : spot = none := by
        have g0 := (hQ 0 (by omega)).1 0 ((entE.enc (Q 0))[0]'(by rw [entE.len]; exact entE.pos)) (List.getElem?_eq_getElem _)
        rw [Nat.zero_mul] at g0
        simpa [Addr.add] using World.cell?_spot g0
      subst hspot
      rw [Addr.add_lit] at g
      exact ⟨b, off, rfl, g⟩
    · rw [hzl]
      have := bulk_len ((List.range len).map D)
      simp only [List.length_map, List.length_range] at this
      omega

theorem lg_struct {H : Type} {enc : TypeId × Value → H} {W : World} {fuel : Nat} {cs : List Value} {x : DataW H × List MemPlace} (h : DataW.trod enc Tryz.prog W 0 (fun _ => true) true fuel 28 cs = some x) :
    ∃ y0 y1 k, x.1 = .agg [y0.1, y1.1] ∧ DataW.trod enc Tryz.prog W 0 (fun _ => true) true k 25 ((cs.drop 0).take (Tryz.prog.cellsOf 25)) = some y0 ∧ DataW.trod enc Tryz.prog W 0 (fun _ => true) true k 26 ((cs.drop 4).take (Tryz.prog.cellsOf 26)) = some y1 := by
  obtain ⟨xs, n, _, rfl, hl, hlen, hf⟩ := DataW.trod_struct Tryz.underlying28 h
  match xs, hlen with
  | [y0, y1], _ => exact ⟨y0, y1, n, by simp, by simpa using hf 0 _ rfl, by simpa using hf 1 _ rfl⟩
/-- An entry that came in. -/
theorem entry_arg {H : Type} {enc : TypeId × Value → H} {W : World} {base : Nat} {v : Value} {d : DataW H} {ps : List MemPlace}
    (ho : Value.okWide Tryz.prog W .any base 25 v) (h : DataW.Trod enc Tryz.prog W 0 (fun _ => true) true 25 v d ps) :
    ∃ b : Ez, v = ev b ∧ DataV W b ∧ EzOk b ∧ b.1.data.length ≤ Rows.uptoBulk d := by
  simp only [Value.okWide, Tryz.underlying25] at ho
  obtain ⟨cs, rfl, hsz, _⟩ := ho
  rw [cells_ent] at hsz
  obtain ⟨fuel, hf⟩ := h
  have hf' : DataW.trod enc Tryz.prog W 0 (fun _ => true) true fuel 25 cs.toList = some (d, ps) := hf
  obtain ⟨b, hb, hbd, hbo, hbl⟩ := entry_opened (by simpa using hsz) hf'
  refine ⟨b, ?_, hbd, hbo, hbl⟩
  show Value.agg cs = .agg _
  congr 1
  rw [← Array.toList_inj]
  exact hb
end Go.Proofs.YtncoandnelgkeaaGreat

