import Derived.Test.YtoipjmjhplkibaaDoorQ22
import Derived.BigQuiet
import Derived.Laws.Cover1
/- The contract of the document's own May: which files may be, of files as they came in (how many are safe may be any number). -/
namespace Go.Proofs.YtoipjmjhplkibaaDoor
open Go.RowKit DiskMath
set_option maxRecDepth 100000
set_option linter.unusedSimpArgs false

/-- A file as it came in. -/
structure Raw where
  name : ByteArray
  data : List Nat
  safe : Int

/-- A slice of files that came in, as it is read. -/
def Rv [Keep] (w : World) (lv : Value) (rs : List Raw) : Prop :=
  ∃ ao cap, lv = .slice ao rs.length cap ∧ ∀ (i : Nat) (f : Raw), rs[i]? = some f → ∃ b off sv, ao = some ⟨b, off, none⟩ ∧ w.cell? ⟨b, off + i * 3, none⟩ = some (.string f.name) ∧ w.cell? ⟨b, off + i * 3 + 1, none⟩ = some sv ∧ w.cell? ⟨b, off + i * 3 + 2, none⟩ = some (.int .i64 f.safe) ∧ Bs w.heap.size w sv f.data

theorem Rv.below [Keep] {w w' : World} {lv : Value} {fs : List Raw} (h : Rv w lv fs) (hb : Below w.heap.size w w') : Rv w' lv fs := by
  obtain ⟨ao, cap, e, h2⟩ := h
  refine ⟨ao, cap, e, fun i f hf => ?_⟩
  obtain ⟨b, off, sv, r1, r2, r3, r4, r5⟩ := h2 i f hf
  exact ⟨b, off, sv, r1, (hb.cell (p := ⟨b, off + i * 3, none⟩) (World.block_lt_of_cell? w _ r2)).trans r2, (hb.cell (p := ⟨b, off + i * 3 + 1, none⟩) (World.block_lt_of_cell? w _ r3)).trans r3, (hb.cell (p := ⟨b, off + i * 3 + 2, none⟩) (World.block_lt_of_cell? w _ r4)).trans r4, (r5.below hb).mono hb.size⟩

/-- May a file stand behind another one (none: it is the first)? -/
def mayOne (p : Option ByteArray) (r : Raw) : Prop := mayName r.name = true ∧ r.data.length ≤ 65536 ∧ 0 ≤ r.safe ∧ r.safe ≤ (r.data.length : Int) ∧ ∀ q, p = some q → strOrd.lt q r.name
/-- May files be? -/
def mayFrom : Option ByteArray → List Raw → Prop
  | _, [] => True
  | p, r :: rs => mayOne p r ∧ mayFrom (some r.name) rs
def toFl (r : Raw) : File := ⟨r.name, r.data, r.safe.toNat⟩

theorem may_above : ∀ (rs : List Raw) (q : ByteArray), mayFrom (some q) rs → ∀ r ∈ rs, strOrd.lt q r.name
  | [], _, _, _, h => by cases h
  | x :: rs, q, hm, r, h => by
    have hqx := hm.1.2.2.2.2 q rfl
    rcases List.mem_cons.1 h with rfl | h
    · exact hqx
    · exact strOrd.tr _ _ _ hqx (may_above rs x.name hm.2 r h)
theorem may_rises : ∀ (rs : List Raw) (p : Option ByteArray), mayFrom p rs → Rises strOrd (rs.map toFl)
  | [], _, _ => trivial
  | x :: rs, p, hm => by
    refine ⟨fun g hg => ?_, may_rises rs _ hm.2⟩
    obtain ⟨r, hr, rfl⟩ := List.mem_map.1 hg
    exact may_above rs x.name hm.2 r hr
theorem may_each : ∀ (rs : List Raw) (p : Option ByteArray), mayFrom p rs → ∀ r ∈ rs, mayName r.name = true ∧ r.data.length ≤ 65536 ∧ 0 ≤ r.safe ∧ r.safe ≤ (r.data.length : Int)
  | [], _, _, _, h => by cases h
  | x :: rs, p, hm, r, h => by
    rcases List.mem_cons.1 h with rfl | h
    · exact ⟨hm.1.1, hm.1.2.1, hm.1.2.2.1, hm.1.2.2.2.1⟩
    · exact may_each rs _ hm.2 r h
theorem may_sound {rs : List Raw} (h64 : rs.length ≤ 64) (hm : mayFrom none rs) : SoundF (rs.map toFl) := by
  refine ⟨may_rises rs none hm, by rw [List.length_map]; exact h64, fun g hg => ?_⟩
  obtain ⟨r, hr, rfl⟩ := List.mem_map.1 hg
  obtain ⟨h1, h2, h3, h4⟩ := may_each rs none hm r hr
  exact ⟨h1, h2, by show r.safe.toNat ≤ r.data.length; omega⟩
theorem Rv.fv [Keep] {w : World} {lv : Value} {rs : List Raw} (h : Rv w lv rs) (hm : mayFrom none rs) (hk : ∀ b, b < w.heap.size → kOk b) (hf : kBase ≤ w.heap.size) : Fv w lv (rs.map toFl) := by
  obtain ⟨ao, cap, e, h2⟩ := h
  refine ⟨hf, ao, cap, by rw [List.length_map]; exact e, fun i f hf => ?_⟩
  rw [List.getElem?_map] at hf
  obtain ⟨r, hr, rfl⟩ := Option.map_eq_some_iff.1 hf
  obtain ⟨b, off, sv, r1, r2, r3, r4, r5⟩ := h2 i r hr
  obtain ⟨_, _, h3, _⟩ := may_each rs none hm r (List.mem_of_getElem? hr)
  exact ⟨b, off, sv, r1, r2, r3, by rw [r4]; show _ = some (Value.int .i64 ((r.safe.toNat : Nat) : Int)); rw [Int.toNat_of_nonneg h3], r5, hk b (World.block_lt_of_cell? w _ r2)⟩

@[go_sem] theorem dec_lt_no {a b : Int} (h : b ≤ a) : decide (a < b) = false := decide_eq_false (by omega)
@[go_sem] theorem dec_lt_yes {a b : Int} (h : a < b) : decide (a < b) = true := decide_eq_true h

end Go.Proofs.YtoipjmjhplkibaaDoor

