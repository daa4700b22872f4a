import Derived.Test.YtoipjmjhplkibaaDoorQ22
/- The contracts of the document's own out, Read, Sync, Cut, Rename and Remove. -/
namespace Go.Proofs.YtoipjmjhplkibaaDoor
open Go.RowKit DiskMath
set_option maxRecDepth 100000
set_option linter.unusedSimpArgs false

theorem out_cons (f : File) (l : Files) (n : ByteArray) : DiskMath.out (f :: l) n = (if f.name = n then [] else [f]) ++ DiskMath.out l n := by
  unfold DiskMath.out
  by_cases h : f.name = n <;> simp [h]

/-- What Read tells. -/
def RdTold [Keep] (w : World) (o : Option File) (e : Ending) : Prop :=
  match o with
  | none => e = .returned (.tuple #[.slice none 0 0, .bool false])
  | some f => ∃ sv, e = .returned (.tuple #[sv, .bool true]) ∧ Bs w.heap.size w sv f.data

/-- What is told beside the files: the list, and the error. -/
def Told [Keep] (w : World) (R : Files × Nat) (e : Ending) (w' : World) : Prop := ∃ lv, e = .returned (.tuple #[lv, .int .i64 (R.2 : Int)]) ∧ Fv w' lv R.1 ∧ Below w.heap.size w w'

end Go.Proofs.YtoipjmjhplkibaaDoor

/- The contracts of the document's own Sync, Cut, Rename and Append. -/
namespace Go.Proofs.YtoipjmjhplkibaaDoor
open Go.RowKit DiskMath
set_option maxRecDepth 100000
set_option linter.unusedSimpArgs false

end Go.Proofs.YtoipjmjhplkibaaDoor

/- The contract of the document's own Append. -/
namespace Go.Proofs.YtoipjmjhplkibaaDoor
open Go.RowKit DiskMath
set_option maxRecDepth 100000
set_option linter.unusedSimpArgs false

theorem set_grown (q i : Nat) (v : Value) (w : World) : w.grownBy (w.setCell ⟨q, i, none⟩ v) (some q) :=
  ⟨rfl, rfl, rfl, by simp [World.setCell], fun k _ hk => Below.heap_setCell _ _ _ _ (fun e => hk (by simp [e]))⟩
theorem box_data {w : World} {g : Nat} {a b c : Value} {t : TypeId} (h : w.heap[g]? = some (.cells #[a, b, c] t (0, 0))) (x : Value) : (w.setCell ⟨g, 1, none⟩ x).heap[g]? = some (.cells #[a, x, c] t (0, 0)) := by
  simp [World.setCell, Array.getElem?_modify, h]

end Go.Proofs.YtoipjmjhplkibaaDoor

/- The contract of the document's own Crash. -/
namespace Go.Proofs.YtoipjmjhplkibaaDoor
open Go.RowKit DiskMath
set_option maxRecDepth 100000
set_option linter.unusedSimpArgs false

/-- A slice of numbers, as it is read. -/
def Nv (w : World) (v : Value) (l : List Int) : Prop :=
  ∃ ao cap, v = .slice ao l.length cap ∧ (ao = none → cap = 0) ∧ ∀ (i : Nat) (c : Int), l[i]? = some c → ∃ b off, ao = some ⟨b, off, none⟩ ∧ w.cell? ⟨b, off + i, none⟩ = some (.int .i64 c)
theorem Nv.below {w w' : World} {v : Value} {l : List Int} (h : Nv w v l) (hb : Below w.heap.size w w') : Nv w' v l := by
  obtain ⟨ao, cap, e, h0, h2⟩ := h
  refine ⟨ao, cap, e, h0, fun i c hc => ?_⟩
  obtain ⟨b, off, r1, r2⟩ := h2 i c hc
  exact ⟨b, off, r1, (hb.cell (p := ⟨b, off + i, none⟩) (World.block_lt_of_cell? w _ r2)).trans r2⟩

theorem crash_cons (f : File) (l : Files) (cuts : List Int) (i : Nat) : crash (f :: l) (cuts.drop i) = crashOne f cuts[i]? :: crash l (cuts.drop (i + 1)) := by
  rw [crash, List.head?_drop, List.tail_drop]

end Go.Proofs.YtoipjmjhplkibaaDoor

