/- From the row's condition on the variable crc.halves to the table's sixteen cells; how a byte slice and an array of three numbers that came in are read. -/
import Derived.Test.YtlminobaohkalaaDoorStr
import Derived.Test.YtlminobaohkalaaDoorRows
import Derived.Test.YtlminobaohkalaaDoorCards
import Derived.Test.YtlminobaohkalaaDoorTie
import Derived.Deep.SlicePairs
import Derived.ProofKit
import Derived.Lib.SmallJoins
import Derived.OpenShut
import Derived.LaidLaws
import Derived.LaidHandle
import Derived.MakeChecks
import Derived.Lay
import Derived.SevenTiedAt
import Derived.Stop.Joined
namespace Go.Proofs.YtlminobaohkalaaDoor
open Go.ChangeShapes Go.WideShapes Go.ChangeAt Go.RowKit CrcMath
set_option maxRecDepth 100000
set_option linter.unusedSimpArgs false

theorem own : ownKnob Tryd.prog.godebug = none := by kernel_rfl
theorem laidOut : laidOutB Tryd.prog = true := by kernel_rfl
theorem byte_bytes : Tryd.prog.bytesOf 5 = 1 := by kernel_rfl
theorem cells_byte : Tryd.prog.cellsOf 5 = 1 := by kernel_rfl
theorem cells_word : Tryd.prog.cellsOf 59 = 1 := by kernel_rfl
theorem cells_half : Tryd.prog.cellsOf 45 = 1 := by kernel_rfl
theorem cells_three : Tryd.prog.cellsOf 46 = 3 := by kernel_rfl

/-- The table's words. -/
def words : List Int := [0, 498536548, 997073096, 651767980, 1994146192, 1802195444, 1303535960, 1342533948, 3988292384, 4027552580, 3604390888, 3412177804, 2607071920, 2262029012, 2685067896, 3183342108]
theorem words_are : ((List.range 16).all fun r => words.getD r 0 == (Tn 4 r : Int)) = true := by kernel_rfl
/-- What the row lists. -/
def laid : List (String × DataW Unit) := [("gudgeon/crc.halves", Rows.laid_gudgeon_crc_halves)]

theorem tab_of_laid {W : World} (h : laidMetH Tryd.prog laid W) : Tab W := by
  intro r hr
  rw [MakeChecks.laidMetH_plain _ _ _ (by kernel_rfl)] at h
  obtain ⟨ps, ⟨g, t, cs, fuel, p, q, hg, ht, hv, hd, _, _⟩, _, _⟩ := h
  obtain rfl := Option.some.inj ((show Tryd.prog.globalNamed "gudgeon/crc.halves" = some 0 by kernel_rfl).symm.trans hg)
  obtain rfl := Option.some.inj ((show (Tryd.prog.globals[0]?).map (·.type) = some 80 by kernel_rfl).symm.trans ht)
  obtain ⟨xs, m, _, ex, _, hl, hel⟩ := DataW.trod_array Tryd.underlying80 hd
  have hE := hel r hr
  rw [cells_word, Nat.mul_one, List.getElem?_eq_getElem (by omega)] at hE
  obtain ⟨z, e1, e2, _⟩ := DataW.trod_int Tryd.underlying59 hE
  have hlen : words.length = 16 := rfl
  have e3 : (xs.map (·.1)) = words.map fun n => .lit (.int .u32 n) := (DataW.agg.inj (Prod.mk.inj ex).1).symm
  have e4 : (xs.map (·.1))[r]? = (words.map fun n => (DataW.lit (.int .u32 n) : DataW Unit))[r]? := by rw [e3]
  rw [List.getElem?_map, List.getElem?_map, List.getElem?_eq_getElem (by omega : r < xs.length), List.getElem?_eq_getElem (by omega : r < words.length), e2] at e4
  have hz : z = (Tn 4 r : Int) := by
    simp only [Option.map_some, Option.some.injEq, DataW.lit.injEq, Lit.int.injEq, true_and] at e4
    have hw : words.getD r 0 = (Tn 4 r : Int) := by simpa using List.all_eq_true.1 words_are r (List.mem_range.2 hr)
    rw [e4, ← hw, List.getD, List.getElem?_eq_getElem (by omega : r < words.length)]; rfl
  rw [World.var?_cell hg hv r, ← hz]
  have : cs.toList[r]? = some (.int .u32 z) := by
    have h0 : ((cs.toList.drop r).take 1)[0]? = some (.int .u32 z) := by rw [e1]; rfl
    simpa using h0
  simpa using this

theorem met (os : Os) (args : Array Value) : laidMetH Tryd.prog laid ((World.laidAll Tryd.prog os laid).forCall (fun _ _ => 0) ⟨#[], args, []⟩).memory := by
  rw [MakeChecks.laidMetH_plain _ _ _ (by kernel_rfl)]
  exact laidMet_laidAll _ (by kernel_rfl) (by kernel_rfl)

theorem len_le_bulk {H : Type} (s : List Nat) : s.length ≤ Rows.uptoBulkAll (s.map fun (c : Nat) => DataW.lit (H := H) (.int .u8 (c : Int))) := by
  induction s with
  | nil => simp
  | cons c r ih => simp only [List.map_cons, Rows.uptoBulkAll, Rows.uptoBulk, List.length_cons]; omega

/-- A byte slice, opened. -/
theorem bs_opened {H : Type} {enc : TypeId × Value → H} {W : World} {fuel : Nat} {sv : Value} {x : DataW H × List MemPlace}
    (h : DataW.trod enc Tryd.prog W 0 (fun _ => true) true fuel 22 [sv] = some x) :
    ∃ s, Bs W.heap.size W sv s ∧ (∀ c ∈ s, c < 256) ∧ s.length ≤ Rows.uptoBulk x.1 ∧ s.length ≤ maxLen ∧ (s = [] ∨ ∃ el sp, x.1 = .slice el sp ∧ el.length = s.length) := by
  rcases Deep.open_slice1 Tryd.underlying22 cells_byte h with ⟨hcs, hx⟩ | ⟨a, len, cap, m, n, V, D, Pl, hcs, _, hl, hm, hmm, hx, hc⟩
  · obtain rfl : sv = .slice none 0 0 := by simpa using hcs
    exact ⟨[], Bs.nil _ _, by simp, Nat.zero_le _, Nat.zero_le _, .inl rfl⟩
  · obtain rfl : sv = .slice (some a) len cap := by simpa using hcs
    have hmc : m = cap := by rw [hmm]; rfl
    subst hmc
    have each : ∀ i, i < len → ∃ c : Nat, W.cell? (a.add i) = some (.int .u8 (c : Int)) ∧ D i = .lit (.int .u8 (c : Int)) ∧ c < 256 := by
      intro i hi
      obtain ⟨h1, h2⟩ := hc i (by omega)
      obtain ⟨k, g1, g2, g3⟩ := DataW.trod_int Tryd.underlying5 h2
      simp only [List.cons.injEq, and_true] at g1
      simp only [Prod.mk.injEq] at g2
      have hk : 0 ≤ k ∧ k ≤ 255 := by
        have g4 : IntKind.u8.min ≤ k ∧ k ≤ IntKind.u8.max := by simpa [Lit.wf] using g3
        exact g4
      refine ⟨k.toNat, by rw [h1, g1, Int.toNat_of_nonneg hk.1], by rw [g2.1, Int.toNat_of_nonneg hk.1], by omega⟩
    obtain ⟨Q, hQ⟩ := Deep.choose_lt (α := Nat) each
    have hzl : ((List.range len).map Q).length = len := by simp
    refine ⟨(List.range len).map Q, ⟨some a, m, by rw [hzl], by rw [hzl]; exact hl, hm, (fun h => by cases h), fun hne => ?_⟩, ?_, ?_, by rw [hzl]; omega, .inr ⟨_, _, (Prod.mk.inj hx).1, by simp⟩⟩
    · have h0 : 0 < len := by
        rcases Nat.eq_zero_or_pos len with h0 | h0
        · subst h0; simp at hne
        · exact h0
      have hc0 := (hQ 0 h0).1
      obtain ⟨b, off, spot⟩ := a
      have hspot : spot = none := by simpa [Addr.add] using World.cell?_spot hc0
      subst hspot
      have hb : b < W.heap.size := World.block_lt_of_cell? W _ hc0
      refine ⟨b, off, rfl, hb, fun j c hj => ?_⟩
      have hj' : j < len := by
        have := (List.getElem?_eq_some_iff.1 hj).1
        simpa using this
      have e : Q j = c := by simpa [hj'] using hj
      have g1 := (hQ j hj').1
      rw [Addr.add_lit] at g1
      rw [g1, e]
    · intro c hc
      obtain ⟨i, hi, rfl⟩ := List.mem_map.1 hc
      exact (hQ i (List.mem_range.1 hi)).2.2
    · have e : (List.range len).map D = ((List.range len).map Q).map fun (c : Nat) => DataW.lit (H := H) (.int .u8 (c : Int)) := by
        rw [List.map_map]
        exact List.map_congr_left fun i hi => by rw [(hQ i (List.mem_range.1 hi)).2.1]; rfl
      rw [(Prod.mk.inj hx).1, e]
      have := len_le_bulk (H := H) ((List.range len).map Q)
      simp only [Rows.uptoBulk]
      omega

/-- An array of three numbers, opened. -/
theorem three_opened {H : Type} {enc : TypeId × Value → H} {W : World} {base : Nat} {v : Value} {d : DataW H} {ps : List MemPlace}
    (ho : Value.okWide Tryd.prog W .any base 46 v) (h : DataW.Trod enc Tryd.prog W 0 (fun _ => true) true 46 v d ps) :
    ∃ b0 b1 b2 : Nat, v = .agg #[.int .u16 (b0 : Int), .int .u16 (b1 : Int), .int .u16 (b2 : Int)] ∧ b0 < 65536 ∧ b1 < 65536 ∧ b2 < 65536 := by
  simp only [Value.okWide, Tryd.underlying46] at ho
  obtain ⟨cs, rfl, hsz, _⟩ := ho
  rw [cells_three] at hsz
  obtain ⟨fuel, hf⟩ := h
  have hf' : DataW.trod enc Tryd.prog W 0 (fun _ => true) true fuel 46 cs.toList = some (d, ps) := hf
  obtain ⟨xs, m, _, ex, _, hl, hel⟩ := DataW.trod_array Tryd.underlying46 hf'
  have each : ∀ i, i < 3 → ∃ b : Nat, cs.toList[i]? = some (.int .u16 (b : Int)) ∧ b < 65536 := by
    intro i hi
    have hE := hel i hi
    rw [cells_half, Nat.mul_one, List.getElem?_eq_getElem (by omega)] at hE
    obtain ⟨z, e1, e2, e3⟩ := DataW.trod_int Tryd.underlying45 hE
    have h3 : IntKind.u16.min ≤ z ∧ z ≤ IntKind.u16.max := by simpa [Lit.wf] using e3
    have h4 : 0 ≤ z ∧ z ≤ 65535 := h3
    refine ⟨z.toNat, ?_, by omega⟩
    have h0 : ((cs.toList.drop i).take 1)[0]? = some (.int .u16 z) := by rw [e1]; rfl
    rw [Int.toNat_of_nonneg h4.1]
    simpa using h0
  obtain ⟨b0, e0, k0⟩ := each 0 (by decide)
  obtain ⟨b1, e1, k1⟩ := each 1 (by decide)
  obtain ⟨b2, e2, k2⟩ := each 2 (by decide)
  refine ⟨b0, b1, b2, ?_, k0, k1, k2⟩
  have hcs : cs.toList = [.int .u16 (b0 : Int), .int .u16 (b1 : Int), .int .u16 (b2 : Int)] := by
    apply List.ext_getElem?
    intro i
    match i with
    | 0 => exact e0
    | 1 => exact e1
    | 2 => exact e2
    | i + 3 => rw [List.getElem?_eq_none (by simp; omega), List.getElem?_eq_none (by simp)]
  have : cs = #[.int .u16 (b0 : Int), .int .u16 (b1 : Int), .int .u16 (b2 : Int)] := Array.toList_inj.1 hcs
  rw [this]

/-- A byte, opened. -/
theorem byte_opened {H : Type} {enc : TypeId × Value → H} {W : World} {base : Nat} {v : Value} {d : DataW H} {ps : List MemPlace}
    (ho : Value.okWide Tryd.prog W .any base 5 v) (h : DataW.Trod enc Tryd.prog W 0 (fun _ => true) true 5 v d ps) : ∃ k : Nat, v = .int .u8 (k : Int) ∧ k < 256 := by
  obtain ⟨n, rfl⟩ := okWide_int Tryd.underlying5 ho
  obtain ⟨fuel, hf⟩ := h
  have hf' : DataW.trod enc Tryd.prog W 0 (fun _ => true) true fuel 5 [.int .u8 n] = some (d, ps) := hf
  obtain ⟨z, e1, e2, e3⟩ := DataW.trod_int Tryd.underlying5 hf'
  have hz : n = z := by simpa using e1
  subst hz
  have h3 : IntKind.u8.min ≤ n ∧ n ≤ IntKind.u8.max := by simpa [Lit.wf] using e3
  have h4 : 0 ≤ n ∧ n ≤ 255 := h3
  exact ⟨n.toNat, by rw [Int.toNat_of_nonneg h4.1], by omega⟩
end Go.Proofs.YtlminobaohkalaaDoor
