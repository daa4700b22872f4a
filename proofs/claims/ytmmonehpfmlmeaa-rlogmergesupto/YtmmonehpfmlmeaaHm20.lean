import Derived.Test.YtmmonehpfmlmeaaHm19
/- Logs as results. -/
namespace Go.Proofs.Ytmmonehpfmlmeaa
open Go.RowKit QuorumMath RlogMath
set_option maxRecDepth 100000
set_option linter.unusedSimpArgs false
set_option linter.unusedVariables false

theorem results_lg {fn : Func} {p u : Tmp} (h : fn.results = #[.cell p 28, .tmp u]) (tmps : Array Value) (w : World) (g : Nat) (a b c d e : Value)
    (hp : tmps.getD p undef = .pointer (some ⟨g, 0, none⟩)) (hg : w.heap[g]? = some (.cells #[a, b, c, d, e] 28 (0, 0))) :
    (results fn tmps).run Try.prog w = .ok (.tuple #[.agg #[a, b, c, d, e], tmps.getD u undef]) w := by
  have hp' : tmps[p]?.getD undef = .pointer (some ⟨g, 0, none⟩) := by simpa using hp
  simp [results, h, hp', asAddr, run_loadVar_row w g 28 28 #[a, b, c, d, e] (0, 0) _ hg Try.underlying28 rfl (by kernel_rfl)]
theorem results_lg3 {fn : Func} {p u x : Tmp} (h : fn.results = #[.cell p 28, .tmp u, .tmp x]) (tmps : Array Value) (w : World) (g : Nat) (a b c d e : Value)
    (hp : tmps.getD p undef = .pointer (some ⟨g, 0, none⟩)) (hg : w.heap[g]? = some (.cells #[a, b, c, d, e] 28 (0, 0))) :
    (results fn tmps).run Try.prog w = .ok (.tuple #[.agg #[a, b, c, d, e], tmps.getD u undef, tmps.getD x undef]) w := by
  have hp' : tmps[p]?.getD undef = .pointer (some ⟨g, 0, none⟩) := by simpa using hp
  simp [results, h, hp', asAddr, run_loadVar_row w g 28 28 #[a, b, c, d, e] (0, 0) _ hg Try.underlying28 rfl (by kernel_rfl)]
theorem lg_set {w : World} {g : Nat} {a b c d e : Value} {t : TypeId} (h : w.heap[g]? = some (.cells #[a, b, c, d, e] t (0, 0))) (x0 x1 x2 x3 x4 : Value) : (((((w.setCell ⟨g, 0, none⟩ x0).setCell ⟨g, 1, none⟩ x1).setCell ⟨g, 2, none⟩ x2).setCell ⟨g, 3, none⟩ x3).setCell ⟨g, 4, none⟩ x4).heap[g]? = some (.cells #[x0, x1, x2, x3, x4] t (0, 0)) := by
  simp [World.setCell, Array.getElem?_modify, h]
theorem lg_set_below {n : Nat} {w w' : World} (h : Below n w w') {g : Nat} (hg : n ≤ g) (x0 x1 x2 x3 x4 : Value) : Below n w (((((w'.setCell ⟨g, 0, none⟩ x0).setCell ⟨g, 1, none⟩ x1).setCell ⟨g, 2, none⟩ x2).setCell ⟨g, 3, none⟩ x3).setCell ⟨g, 4, none⟩ x4) :=
  ((((h.setCell (p := ⟨g, 0, none⟩) hg _).setCell (p := ⟨g, 1, none⟩) hg _).setCell (p := ⟨g, 2, none⟩) hg _).setCell (p := ⟨g, 3, none⟩) hg _).setCell (p := ⟨g, 4, none⟩) hg _
/-- A log's value, by what it says. -/
def LogM (w : World) (v : Value) (b : Me) (l : List Me) : Prop := ∃ (s : Sl) (zs : List Ez) (lv : Value), v = lgv (b, s) lv ∧ DataV w (b, s) ∧ EntsV w lv zs ∧ mes zs = l
theorem LogM.below {w w' : World} {v : Value} {b : Me} {l : List Me} (h : LogM w v b l) (hb : Below w.heap.size w w') : LogM w' v b l := by
  obtain ⟨s, zs, lv, h1, h2, h3, h4⟩ := h
  exact ⟨s, zs, lv, h1, h2.below hb, h3.below hb, h4⟩
theorem rdb_nil (w : World) : Rd byteE w (.slice none 0 0) [] := ⟨none, 0, rfl, by simp, fun _ => rfl, fun i x j u hx => by simp at hx⟩
theorem ents_nil (w : World) : EntsV w (.slice none 0 0) [] := ⟨⟨none, 0, rfl, by simp, fun _ => rfl, fun i x j u hx => by simp at hx⟩, fun z hz => by simp at hz⟩
theorem log_zero (w : World) : LogM w (.agg #[.int .u64 0, .int .u64 0, .int .i64 0, .slice none 0 0, .slice none 0 0]) zeroMe [] := ⟨(none, 0, 0), [], .slice none 0 0, rfl, rdb_nil w, ents_nil w, rfl⟩
/-- What Append tells. -/
def LgT (r : Int × Me × List Me) (e : Ending) (w' : World) : Prop := ∃ v, e = .returned (.tuple #[v, .int .i64 r.1]) ∧ LogM w' v r.2.1 r.2.2
end Go.Proofs.Ytmmonehpfmlmeaa

