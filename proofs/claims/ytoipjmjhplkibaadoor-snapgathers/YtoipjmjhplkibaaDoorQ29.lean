import Derived.Test.YtoipjmjhplkibaaDoorQ28
import Derived.Test.YtoipjmjhplkibaaDoorQ06
import Derived.Deep.RegionHeld3
import Derived.OwnWalk
/- A basket of the call's own, and the contract of Gather. -/
namespace Go.Proofs.YtoipjmjhplkibaaDoor
open Go.RowKit
set_option maxRecDepth 100000
set_option linter.unusedSimpArgs false
set_option linter.unusedVariables false

theorem infoBool : (Tryd.prog.info? 4).map (fun i => (i.zero, i.size, i.bytes)) = some (some (.bool false), 1, 1) := by kernel_rfl

/-- A basket: its bytes, and which chunks it has. -/
structure BkAt (w : World) (q g1 g2 : Nat) (B : List Nat) (H : List Bool) : Prop where
  box : w.heap[q]? = some (.cells #[.slice (some ⟨g1, 0, none⟩) B.length B.length, .slice (some ⟨g2, 0, none⟩) H.length H.length] 54 (0, 0))
  row : w.heap[g1]? = some (.cells (Fr.bc B).toArray 5 (0, 0))
  has : w.heap[g2]? = some (.cells (H.map Value.bool).toArray 4 (0, 0))
  len : H.length = chunks B.length
  few : B.length ≤ 32768
  ne : q ≠ g1 ∧ q ≠ g2 ∧ g1 ≠ g2

theorem gather_no (z : Int) (w : World) (h : z < 0 ∨ 32768 < z) : Calls Tryd.prog 9 #[.int .i64 z] w fun e w' => e = .returned (.tuple #[.pointer none, .int .i64 1]) ∧ w' = w := by
  have hx : z < 0 ∨ (¬ z < 0 ∧ 32768 < z) := by omega
  clear h
  rcases hx with h | ⟨h, h'⟩ <;>
  (go_enter Tryd.func9, Tryd.ntmps9
   go_wp2
   go_ret2
   exact ⟨rfl, rfl⟩)

theorem made_zero (v : Value) (hv : v.cells = #[v]) (n : Nat) : madeCells v.cells (n * 1) = (List.replicate n v).toArray := by
  unfold madeCells
  rw [hv, Nat.mul_one]
  apply Array.ext'
  simp
  apply List.ext_getElem
  · simp
  · intro i h1 h2
    simp [Nat.mod_one]

theorem three_new (W : World) (a b c : Obj) : (((W.alloc a).alloc b).alloc c).heap[W.heap.size]? = some a ∧ (((W.alloc a).alloc b).alloc c).heap[W.heap.size + 1]? = some b ∧ (((W.alloc a).alloc b).alloc c).heap[W.heap.size + 2]? = some c := by
  have s1 : (W.alloc a).heap.size = W.heap.size + 1 := by simp
  have s2 : ((W.alloc a).alloc b).heap.size = W.heap.size + 2 := by simp
  have n1 := heap_alloc_new W a
  have n2 := heap_alloc_new (W.alloc a) b
  have n3 := heap_alloc_new ((W.alloc a).alloc b) c
  rw [s1] at n2
  rw [s2] at n3
  refine ⟨?_, ?_, n3⟩
  · rw [heap_alloc_old _ _ (by omega), heap_alloc_old _ _ (by omega)]; exact n1
  · rw [heap_alloc_old _ _ (by omega)]; exact n2

set_option maxHeartbeats 2000000 in
theorem gather_of (n : Nat) (w : World) (hn : n ≤ 32768) : Calls Tryd.prog 9 #[.int .i64 (n : Int)] w fun e w' => ∃ q g1 g2, e = .returned (.tuple #[.pointer (some ⟨q, 0, none⟩), .int .i64 0]) ∧ BkAt w' q g1 g2 (List.replicate n 0) (List.replicate (chunks n) false) ∧ (w.heap.size ≤ q ∧ w.heap.size ≤ g1 ∧ w.heap.size ≤ g2) ∧ Below w.heap.size w w' := by
  have h0 : ¬ (n : Int) < 0 := by omega
  have h1 : ¬ (32768 : Int) < (n : Int) := by omega
  have kc := fun W => count_of n W (by omega)
  have hN : chunks n ≤ 200 := by unfold chunks; omega
  have hm1 : ∀ W : World, (Instr.makeSlice 22 (.int .i64 (n : Int)) (.int .i64 (n : Int))).run Tryd.prog W = .ok (.slice (some ⟨W.heap.size, 0, none⟩) n n) (W.alloc (.cells (List.replicate n (.int .u8 0)).toArray 5)) := fun W => by
    obtain ⟨i0, hi, hz0, hz1, hz2⟩ := info_parts Fr.infoByte
    have := run_make (P := Tryd.prog) W 22 5 i0 (.int .u8 0) Tryd.underlying22 hi hz0 .i64 .i64 (n : Int) (n : Int) (by omega) (Int.le_refl _) (by rw [hz2]; omega) (by omega)
    rw [Int.toNat_natCast, hz1, made_zero _ rfl] at this
    exact this
  have hm2 : ∀ W : World, (Instr.makeSlice 35 (.int .i64 (chunks n : Int)) (.int .i64 (chunks n : Int))).run Tryd.prog W = .ok (.slice (some ⟨W.heap.size, 0, none⟩) (chunks n) (chunks n)) (W.alloc (.cells (List.replicate (chunks n) (.bool false)).toArray 4)) := fun W => by
    obtain ⟨i0, hi, hz0, hz1, hz2⟩ := info_parts infoBool
    have := run_make (P := Tryd.prog) W 35 4 i0 (.bool false) Tryd.underlying35 hi hz0 .i64 .i64 (chunks n : Int) (chunks n : Int) (by omega) (Int.le_refl _) (by rw [hz2]; omega) (by omega)
    rw [Int.toNat_natCast, hz1, made_zero _ rfl] at this
    exact this
  have hlen : (List.replicate (chunks n) false).length = chunks (List.replicate n 0).length := by simp
  have e1 : (Fr.bc (List.replicate n 0)).toArray = (List.replicate n (Value.int .u8 0)).toArray := by simp [Fr.bc]
  have e2 : ((List.replicate (chunks n) false).map Value.bool).toArray = (List.replicate (chunks n) (Value.bool false)).toArray := by simp
  have hfin1 : ∀ W : World, Below w.heap.size w W → W.heap.size = w.heap.size → Hid (∃ q g1 g2, (Ending.returned (.tuple #[.pointer (some ⟨W.heap.size + 2, 0, none⟩), .int .i64 0]) : Ending) = .returned (.tuple #[.pointer (some ⟨q, 0, none⟩), .int .i64 0]) ∧ BkAt (((W.alloc (.cells (List.replicate n (.int .u8 0)).toArray 5)).alloc (.cells (List.replicate (chunks n) (.bool false)).toArray 4)).alloc (.cells #[.slice (some ⟨W.heap.size, 0, none⟩) n n, .slice (some ⟨W.heap.size + 1, 0, none⟩) (chunks n) (chunks n)] 54)) q g1 g2 (List.replicate n 0) (List.replicate (chunks n) false) ∧ (w.heap.size ≤ q ∧ w.heap.size ≤ g1 ∧ w.heap.size ≤ g2) ∧ Below w.heap.size w (((W.alloc (.cells (List.replicate n (.int .u8 0)).toArray 5)).alloc (.cells (List.replicate (chunks n) (.bool false)).toArray 4)).alloc (.cells #[.slice (some ⟨W.heap.size, 0, none⟩) n n, .slice (some ⟨W.heap.size + 1, 0, none⟩) (chunks n) (chunks n)] 54))) := fun W hb hs => by
    have a1 := hb.alloc (by omega) (.cells (List.replicate n (.int .u8 0)).toArray 5)
    have a2 := a1.alloc (by simp; omega) (.cells (List.replicate (chunks n) (.bool false)).toArray 4)
    have a3 := a2.alloc (by simp; omega) (.cells #[.slice (some ⟨W.heap.size, 0, none⟩) n n, .slice (some ⟨W.heap.size + 1, 0, none⟩) (chunks n) (chunks n)] 54)
    refine ⟨W.heap.size + 2, W.heap.size, W.heap.size + 1, rfl, ⟨?_, ?_, ?_, hlen, by simpa using hn, by omega⟩, ⟨by omega, by omega, by omega⟩, a3⟩
    · rw [List.length_replicate, List.length_replicate]
      exact (three_new W _ _ _).2.2
    · rw [e1]; exact (three_new W _ _ _).1
    · rw [e2]; exact (three_new W _ _ _).2.1
  have hfin2 : ∀ W : World, Below w.heap.size w W → W.heap.size = w.heap.size → Hid (∃ q g1 g2, (Ending.returned (.tuple #[.pointer (some ⟨W.heap.size + 2, 0, none⟩), .int .i64 0]) : Ending) = .returned (.tuple #[.pointer (some ⟨q, 0, none⟩), .int .i64 0]) ∧ BkAt (((W.alloc (.cells (List.replicate (chunks n) (.bool false)).toArray 4)).alloc (.cells (List.replicate n (.int .u8 0)).toArray 5)).alloc (.cells #[.slice (some ⟨W.heap.size + 1, 0, none⟩) n n, .slice (some ⟨W.heap.size, 0, none⟩) (chunks n) (chunks n)] 54)) q g1 g2 (List.replicate n 0) (List.replicate (chunks n) false) ∧ (w.heap.size ≤ q ∧ w.heap.size ≤ g1 ∧ w.heap.size ≤ g2) ∧ Below w.heap.size w (((W.alloc (.cells (List.replicate (chunks n) (.bool false)).toArray 4)).alloc (.cells (List.replicate n (.int .u8 0)).toArray 5)).alloc (.cells #[.slice (some ⟨W.heap.size + 1, 0, none⟩) n n, .slice (some ⟨W.heap.size, 0, none⟩) (chunks n) (chunks n)] 54))) := fun W hb hs => by
    have a1 := hb.alloc (by omega) (.cells (List.replicate (chunks n) (.bool false)).toArray 4)
    have a2 := a1.alloc (by simp; omega) (.cells (List.replicate n (.int .u8 0)).toArray 5)
    have a3 := a2.alloc (by simp; omega) (.cells #[.slice (some ⟨W.heap.size + 1, 0, none⟩) n n, .slice (some ⟨W.heap.size, 0, none⟩) (chunks n) (chunks n)] 54)
    refine ⟨W.heap.size + 2, W.heap.size + 1, W.heap.size, rfl, ⟨?_, ?_, ?_, hlen, by simpa using hn, by omega⟩, ⟨by omega, by omega, by omega⟩, a3⟩
    · rw [List.length_replicate, List.length_replicate]
      exact (three_new W _ _ _).2.2
    · rw [e1]; exact (three_new W _ _ _).2.1
    · rw [e2]; exact (three_new W _ _ _).1
  have hd1 := hfin1 w.drew (Below.refl _ _).drew rfl
  have hd2 := hfin2 w.drew (Below.refl _ _).drew rfl
  clear hfin1 hfin2 hlen e1 e2
  generalize chunks n = N at *
  go_enter Tryd.func9, Tryd.ntmps9
  go_wp2
  go_region_with (go_at_call 8; refine (kc _).mono ?_; rintro e wc ⟨rfl, rfl⟩)
  all_goals go_wp2
  all_goals (try simp only [Exit.inBlock, Exit.then])
  all_goals (try go_ret2)
  all_goals first | exact hd1.out | exact hd2.out
end Go.Proofs.YtoipjmjhplkibaaDoor

