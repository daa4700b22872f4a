import Derived.Test.YtfpbgfmnjpamlaaGreatHu36
import Derived.Test.YtfpbgfmnjpamlaaGreatHu32
import Derived.Test.YtfpbgfmnjpamlaaGreatHu39
import Derived.Test.YtfpbgfmnjpamlaaGreatHu40
/- The law TableAll: what its calls tell. -/
namespace Go.Proofs.YtfpbgfmnjpamlaaGreat
open Go.RowKit LeaseMath
set_option maxRecDepth 100000
set_option linter.unusedSimpArgs false
set_option linter.unusedVariables false

theorem cells7 {w : World} {g : Nat} {a b c d e f h : Value} {t : TypeId} (H : w.heap[g]? = some (.cells #[a, b, c, d, e, f, h] t (0, 0))) : w.cell? ⟨g, 0, none⟩ = some a ∧ w.cell? ⟨g, 1, none⟩ = some b ∧ w.cell? ⟨g, 2, none⟩ = some c ∧ w.cell? ⟨g, 3, none⟩ = some d ∧ w.cell? ⟨g, 4, none⟩ = some e ∧ w.cell? ⟨g, 5, none⟩ = some f ∧ w.cell? ⟨g, 6, none⟩ = some h := by
 refine ⟨?_, ?_, ?_, ?_, ?_, ?_, ?_⟩ <;> rw [cells_of_block H] <;> rfl
theorem cells6 {w : World} {g : Nat} {a b c d e f : Value} {t : TypeId} (H : w.heap[g]? = some (.cells #[a, b, c, d, e, f] t (0, 0))) : w.cell? ⟨g, 0, none⟩ = some a ∧ w.cell? ⟨g, 1, none⟩ = some b ∧ w.cell? ⟨g, 2, none⟩ = some c ∧ w.cell? ⟨g, 3, none⟩ = some d ∧ w.cell? ⟨g, 4, none⟩ = some e ∧ w.cell? ⟨g, 5, none⟩ = some f := by
 refine ⟨?_, ?_, ?_, ?_, ?_, ?_⟩ <;> rw [cells_of_block H] <;> rfl
/-- What Prepare tells, with the document's list. -/
def prepW (t : Tb) (d : Cq) (c : Cl) (tk : Nat) : Tb × Int := prepM t d c tk (mrg t.ints (moreM c.keys d c.kind (tokM c.kind c.token tk) c.ttl))
theorem light_iff {t : Tb} : lightT t = true ↔ t.holds.length + t.marks.length + t.ints.length ≤ 100 ∧ t.spans.length + t.frozen.length ≤ 24 := by
 unfold lightT locksN
 simp
theorem prep_law (z : Tz) (d : Cq) (c : Cl) (a : Sa) (tk : Nat) (w : World) (hR : TbR w z) (hK : Rd kyE w (.slice a.1 c.keys.length a.2) c.keys) (hl : lightT z.t = true) (hk : c.keys.length ≤ 40) :
  Calls Tryz.prog 11 #[tv z, idv d, cv c a, .int .u64 (tk : Int)] w fun e w' => PrepT w.heap.size (prepW z.t d c tk) e w' ∧ Below w.heap.size w w' := by
 obtain ⟨l1, l2⟩ := light_iff.1 hl
 exact prepare_of z d c a tk _ w hR hK (by omega) (by omega) (by omega) (by omega) fun h1 h2 _ _ _ h6 => mrg_ok h1 h2 h6
theorem prep_no {t : Tb} {d : Cq} {c : Cl} {tk : Nat} (h : (prepW t d c tk).2 ≠ 0) : (prepW t d c tk).1 = noT := by
 unfold prepW prepM at h ⊢
 split at h
 ·rename_i h0; rw [if_pos h0]
 ·rename_i h0
  rw [if_neg h0]
  split at h
  ·rename_i h1
   rw [if_pos h1]
   split at h
   ·exact absurd rfl h
   ·rename_i h2; rw [if_neg h2]
  ·rename_i h1
   rw [if_neg h1]
   split at h
   ·rename_i h2; rw [if_pos h2]
   ·rename_i h2
    rw [if_neg h2]
    split at h
    ·rename_i h3; rw [if_pos h3]
    ·exact absurd rfl h
theorem prepW_ok {t : Tb} {d : Cq} {c : Cl} {tk : Nat} (h : (prepW t d c tk).2 = 0) : okT (prepW t d c tk).1 = true ∧ (mineM (prepW t d c tk).1.ints d).length = c.keys.length ∧ (mineM (prepW t d c tk).1.ints d).length ≠ 0 := by
 obtain ⟨h1, h2, h3⟩ := prep_ok (M := mrg t.ints (moreM c.keys d c.kind (tokM c.kind c.token tk) c.ttl)) (fun h1 h2 _ _ _ h6 => mrg_ok h1 h2 h6) h
 have h4 := congrArg List.length h2
 rw [List.length_map] at h4
 have h5 := (keysB_len h3).1
 unfold prepW
 exact ⟨h1, h4, by omega⟩
theorem ok_sizes {t : Tb} (h : okT t = true) : t.spans.length ≤ 64 ∧ t.frozen.length ≤ 64 ∧ t.holds.length ≤ 1024 ∧ t.marks.length ≤ 1024 ∧ t.ints.length ≤ 1024 := by
 have s1 := okT_spans h
 have s2 := (okT_iff.1 h).2.2.1
 unfold locksN at s2
 exact ⟨s1.1, s1.2, by omega, by omega, by omega⟩
end Go.Proofs.YtfpbgfmnjpamlaaGreat

