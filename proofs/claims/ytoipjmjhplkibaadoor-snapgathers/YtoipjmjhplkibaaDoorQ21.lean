import Derived.Test.YtoipjmjhplkibaaDoorQ20
import Derived.Test.YtoipjmjhplkibaaDoorQ02
/- The contracts of the document's own Name and place: which names may be; which one a file is; nothing turns. -/
namespace Go.Proofs.YtoipjmjhplkibaaDoor
open Go.RowKit DiskMath
set_option maxRecDepth 100000
set_option linter.unusedSimpArgs false

end Go.Proofs.YtoipjmjhplkibaaDoor

/- Slices of files, as they are read and as they are made; the contracts of the document's own place and Read. -/
namespace Go.Proofs.YtoipjmjhplkibaaDoor
open Go.RowKit DiskMath
set_option maxRecDepth 100000
set_option linter.unusedSimpArgs false

/-- A slice of files, as it is read. -/
def Fv [Keep] (w : World) (lv : Value) (fs : Files) : Prop :=
  kBase ≤ w.heap.size ∧ ∃ ao cap, lv = .slice ao fs.length cap ∧ ∀ (i : Nat) (f : File), fs[i]? = some f → ∃ b off sv, ao = some ⟨b, off, none⟩ ∧ w.cell? ⟨b, off + i * 3, none⟩ = some (.string f.name) ∧ w.cell? ⟨b, off + i * 3 + 1, none⟩ = some sv ∧ w.cell? ⟨b, off + i * 3 + 2, none⟩ = some (.int .i64 (f.safe : Int)) ∧ Bs w.heap.size w sv f.data ∧ kOk b

theorem Fv.below [Keep] {w w' : World} {lv : Value} {fs : Files} (h : Fv w lv fs) (hb : Below w.heap.size w w') : Fv w' lv fs := by
  obtain ⟨h0, ao, cap, e, h2⟩ := h
  refine ⟨Nat.le_trans h0 hb.size, ao, cap, e, fun i f hf => ?_⟩
  obtain ⟨b, off, sv, r1, r2, r3, r4, r5, r6⟩ := h2 i f hf
  exact ⟨b, off, sv, r1, (hb.cell (p := ⟨b, off + i * 3, none⟩) (World.block_lt_of_cell? w _ r2)).trans r2, (hb.cell (p := ⟨b, off + i * 3 + 1, none⟩) (World.block_lt_of_cell? w _ r3)).trans r3, (hb.cell (p := ⟨b, off + i * 3 + 2, none⟩) (World.block_lt_of_cell? w _ r4)).trans r4, (r5.below hb).mono hb.size, r6⟩

theorem Fv.imp {K K' : Keep} {w : World} {lv : Value} {fs : Files} (h : @Fv K w lv fs) (hk : ∀ b, b < w.heap.size → @kOk K b → @kOk K' b) (hf : @kBase K' ≤ w.heap.size) : @Fv K' w lv fs := by
  obtain ⟨_, ao, cap, e, h2⟩ := h
  refine ⟨hf, ao, cap, e, fun i f hf => ?_⟩
  obtain ⟨b, off, sv, r1, r2, r3, r4, r5, r6⟩ := h2 i f hf
  exact ⟨b, off, sv, r1, r2, r3, r4, r5.imp hk, hk b (World.block_lt_of_cell? w _ r2) r6⟩

theorem toList_ne {a b : ByteArray} (h : a ≠ b) : (a.toList == b.toList) = false := by
  rw [beq_eq_false_iff_ne]
  intro e
  rw [ByteArray.toList_eq, ByteArray.toList_eq] at e
  exact h (ByteArray.ext (Array.toList_inj.1 e))

theorem get_first {fs : Files} {n : ByteArray} {i : Nat} {f : File} (hf : fs[i]? = some f) (hn : f.name = n) (hj : ∀ (j : Nat) (g : File), j < i → fs[j]? = some g → g.name ≠ n) : get fs n = some f := by
  unfold DiskMath.get
  rw [List.find?_eq_some_iff_getElem]
  have hi := (List.getElem?_eq_some_iff.1 hf).1
  have e : fs[i] = f := by rw [List.getElem?_eq_getElem hi] at hf; exact Option.some.inj hf
  refine ⟨by simpa using hn, i, hi, e, fun j hji => ?_⟩
  simpa using hj j fs[j] hji (List.getElem?_eq_getElem (by omega))

end Go.Proofs.YtoipjmjhplkibaaDoor

