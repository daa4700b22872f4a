import Derived.Test.YtebkfkijlopmoaaHs17
import Derived.Deep.RegionWith
import Derived.PlainAid
import Derived.Laws.Bits64b
/- The contract of the law's own written: an item's bytes behind what was there, by the program, and by the document; what lay in memory before stays as it was. -/
namespace Go.Proofs.Ytebkfkijlopmoaa.Wi
open Go.RowKit WireMath
set_option maxRecDepth 100000
set_option linter.unusedSimpArgs false

/-- A number's bits with a sign. -/
def s64 (n : Nat) : Int := if n < 9223372036854775808 then n else (n : Int) - 18446744073709551616
theorem s64_ge {n : Nat} (h : n < 18446744073709551616) : -9223372036854775808 ≤ s64 n ∧ s64 n ≤ 9223372036854775807 := by
  unfold s64
  split <;> omega

/-- An item's bytes. -/
def itB (d : Int) (n : Nat) (s : List Nat) : List Nat :=
  if d = 0 then uv n else if d = 1 then uv (zz (s64 n)) else if d = 2 then fx 4 (n % 4294967296) else if d = 3 then fx 8 n else if d = 6 then uv s.length ++ s else []

/-- What the law's written leaves: both answers, and old memory as it was. -/
def Wrote (w : World) (v : Value) (l r : List Nat) (e : Ending) (w' : World) : Prop :=
  ∃ v1 v2, e = .returned (.tuple #[v1, v2]) ∧ (∀ k, v1.ownBlock = some k → (w.heap.size ≤ k ∧ k < w'.heap.size) ∨ v.ownBlock = some k) ∧ Bs w'.heap.size w' v1 (l ++ r) ∧ Bs w'.heap.size w' v2 r ∧ Below w.heap.size w w'

theorem box_below {w : World} {o : Obj} {w1 : World} (h : Below (w.alloc o).drew.heap.size (w.alloc o).drew w1) : Below w.heap.size w w1 :=
  ((Below.refl _ w).alloc (Nat.le_refl _) o).drew.trans (h.mono (by show w.heap.size ≤ (w.alloc o).heap.size; simp))
theorem box_base {w : World} {o : Obj} {k : Nat} (h : (w.alloc o).drew.heap.size ≤ k) : w.heap.size ≤ k := by
  have h1 : (w.alloc o).heap.size ≤ k := h
  simp at h1
  omega
theorem box_cell {w : World} {cs : Array Value} {t : TypeId} {w1 : World} (h : Below (w.alloc (.cells cs t)).drew.heap.size (w.alloc (.cells cs t)).drew w1) (i : Nat) : w1.cell? ⟨w.heap.size, i, none⟩ = cs[i]? := by
  rw [h.cell (p := ⟨w.heap.size, i, none⟩) (by show w.heap.size < (w.alloc _).heap.size; simp)]
  exact cells_of_block (show (w.alloc (.cells cs t)).drew.heap[w.heap.size]? = _ from heap_alloc_new w _) i

end Go.Proofs.Ytebkfkijlopmoaa.Wi

