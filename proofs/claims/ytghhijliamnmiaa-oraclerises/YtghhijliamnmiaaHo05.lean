import Derived.Test.YtghhijliamnmiaaHo01
import Derived.Test.YtghhijliamnmiaaHo04
/- Windows as values and in boxes. -/
namespace Go.Proofs.Ytghhijliamnmiaa
open Go.RowKit OracleMath
set_option maxRecDepth 100000
set_option linter.unusedSimpArgs false
set_option linter.unusedVariables false

theorem keep_step {n : Nat} {w W w' : World} (h1 : Below n w W) (hn : n ≤ w.heap.size) (h2 : Below W.heap.size W w') : Below n w w' := h1.trans (h2.mono (Nat.le_trans hn h1.size))
/-- A window's value; its box. -/
@[reducible] def wv (x : Wn) : Value := .agg #[.int .u64 (x.1 : Int), .int .u64 (x.2.1 : Int), .bool x.2.2]
@[reducible] def wc (x : Wn) : Obj := .cells #[.int .u64 (x.1 : Int), .int .u64 (x.2.1 : Int), .bool x.2.2] 24
theorem wn_box (w : World) (x : Wn) : (w.alloc (wc x)).heap.size = w.heap.size + 1 ∧ Below w.heap.size w (w.alloc (wc x)) ∧ ∀ W, Below (w.heap.size + 1) (w.alloc (wc x)) W → W.cell? ⟨w.heap.size, 0, none⟩ = some (.int .u64 (x.1 : Int)) ∧ W.cell? ⟨w.heap.size, 1, none⟩ = some (.int .u64 (x.2.1 : Int)) ∧ W.cell? ⟨w.heap.size, 2, none⟩ = some (.bool x.2.2) := by
  obtain ⟨h1, h2, h3⟩ := one_box w (wc x)
  refine ⟨h1, h3, fun W hW => ?_⟩
  have := (hW.block w.heap.size (Nat.lt_succ_self _)).trans h2
  exact ⟨by rw [cells_of_block this]; rfl, by rw [cells_of_block this]; rfl, by rw [cells_of_block this]; rfl⟩
theorem results_w1 {fn : Func} {p : Tmp} (h : fn.results = #[.cell p 24]) (tmps : Array Value) (w : World) (g : Nat) (a b c : Value)
    (hp : tmps.getD p undef = .pointer (some ⟨g, 0, none⟩)) (hg : w.heap[g]? = some (.cells #[a, b, c] 24 (0, 0))) :
    (results fn tmps).run Try.prog w = .ok (.agg #[a, b, c]) w := by
  have hp' : tmps[p]?.getD undef = .pointer (some ⟨g, 0, none⟩) := by simpa using hp
  simp [results, h, hp', asAddr, run_loadVar_row w g 24 24 #[a, b, c] (0, 0) _ hg Try.underlying24 rfl (by kernel_rfl)]
theorem results_w2 {fn : Func} {p u : Tmp} (h : fn.results = #[.cell p 24, .tmp u]) (tmps : Array Value) (w : World) (g : Nat) (a b c : Value)
    (hp : tmps.getD p undef = .pointer (some ⟨g, 0, none⟩)) (hg : w.heap[g]? = some (.cells #[a, b, c] 24 (0, 0))) :
    (results fn tmps).run Try.prog w = .ok (.tuple #[.agg #[a, b, c], tmps.getD u undef]) w := by
  have hp' : tmps[p]?.getD undef = .pointer (some ⟨g, 0, none⟩) := by simpa using hp
  simp [results, h, hp', asAddr, run_loadVar_row w g 24 24 #[a, b, c] (0, 0) _ hg Try.underlying24 rfl (by kernel_rfl)]
theorem results_w3 {fn : Func} {p u v : Tmp} (h : fn.results = #[.cell p 24, .tmp u, .tmp v]) (tmps : Array Value) (w : World) (g : Nat) (a b c : Value)
    (hp : tmps.getD p undef = .pointer (some ⟨g, 0, none⟩)) (hg : w.heap[g]? = some (.cells #[a, b, c] 24 (0, 0))) :
    (results fn tmps).run Try.prog w = .ok (.tuple #[.agg #[a, b, c], tmps.getD u undef, tmps.getD v undef]) w := by
  have hp' : tmps[p]?.getD undef = .pointer (some ⟨g, 0, none⟩) := by simpa using hp
  simp [results, h, hp', asAddr, run_loadVar_row w g 24 24 #[a, b, c] (0, 0) _ hg Try.underlying24 rfl (by kernel_rfl)]
theorem h_set {w : World} {g : Nat} {a b c : Value} {t : TypeId} (h : w.heap[g]? = some (.cells #[a, b, c] t (0, 0))) (x y z : Value) : (((w.setCell ⟨g, 0, none⟩ x).setCell ⟨g, 1, none⟩ y).setCell ⟨g, 2, none⟩ z).heap[g]? = some (.cells #[x, y, z] t (0, 0)) := by
  simp [World.setCell, Array.getElem?_modify, h]
theorem h_cells {w : World} {g : Nat} {a b c : Value} {t : TypeId} (h : w.heap[g]? = some (.cells #[a, b, c] t (0, 0))) : (w.frozen? ⟨g, 0, none⟩ = false ∧ w.frozen? ⟨g, 1, none⟩ = false ∧ w.frozen? ⟨g, 2, none⟩ = false) ∧ w.cell? ⟨g, 0, none⟩ = some a ∧ w.cell? ⟨g, 1, none⟩ = some b ∧ w.cell? ⟨g, 2, none⟩ = some c :=
  ⟨⟨frozen_of h 0, frozen_of h 1, frozen_of h 2⟩, by rw [cells_of_block h]; rfl, by rw [cells_of_block h]; rfl, by rw [cells_of_block h]; rfl⟩
theorem h_below {n g : Nat} {w0 w : World} (x y z : Value) (hB : Below n w0 w) (hn : n ≤ g) : Below n w0 (((w.setCell ⟨g, 0, none⟩ x).setCell ⟨g, 1, none⟩ y).setCell ⟨g, 2, none⟩ z) := ((hB.setCell (p := ⟨g, 0, none⟩) hn _).setCell (p := ⟨g, 1, none⟩) hn _).setCell (p := ⟨g, 2, none⟩) hn _
end Go.Proofs.Ytghhijliamnmiaa

