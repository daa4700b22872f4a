/- The contracts of the document's own out, Read, Sync, Cut, Rename and Remove. -/
import Derived.Test.YtcnljocgpoaepaaPut
namespace Go.Proofs.Ytcnljocgpoaepaa
open Go.RowKit DiskMath
set_option maxRecDepth 100000
set_option linter.unusedSimpArgs false

theorem out_cons (f : File) (l : Files) (n : ByteArray) : DiskMath.out (f :: l) n = (if f.name = n then [] else [f]) ++ DiskMath.out l n := by
  unfold DiskMath.out
  by_cases h : f.name = n <;> simp [h]

set_option maxHeartbeats 1000000 in
theorem out_of [Keep] (fs : Files) (n : ByteArray) (lv : Value) (w : World) (hF : Fv w lv fs) (hlen : fs.length ≤ 1000) :
    Calls Try.prog 42 #[lv, .string n] w fun e w' => ∃ ov, e = .returned ov ∧ Fo w.heap.size w' ov (DiskMath.out fs n) ∧ Below w.heap.size w w' := by
  obtain ⟨hf, ao, cap, rfl, h2⟩ := id hF
  obtain ⟨R, HR⟩ : ∃ R, Hid (R = DiskMath.out fs n) := ⟨_, rfl⟩
  rw [← HR.out]
  have hF0 := Fo.none w hf
  clear hf
  have hb0 := (Below.refl w.heap.size w).alloc (Nat.le_refl _) (.cells #[] 46)
  go_enter Try.func42, Try.ntmps42
  go_wp2
  go_loopg [5, 6] fs.length (fun g s5 s6 wr => ∃ (i : Nat) (bl : Files), i + g = fs.length ∧ bl.length ≤ i ∧ s6 = .int .i64 (i : Int) ∧ Fo w.heap.size wr s5 bl ∧ Below w.heap.size w wr ∧ Hid (R = bl ++ DiskMath.out (fs.drop i) n))
  case atStart => exact ⟨0, [], by simp, by simp, rfl, hF0, hb0, by show _ = _; rw [HR.out]; rfl⟩
  case round =>
    clear hF0 hb0 HR
    obtain ⟨i, bl, hi, hbl, rfl, hO, hbel, E⟩ := hrel
    obtain ⟨ai, ci, rfl⟩ := hO.shape
    by_cases hlt : i < fs.length
    · have hlti : (i : Int) < (fs.length : Int) := by omega
      have hx : fs[i]? = some fs[i] := List.getElem?_eq_getElem hlt
      obtain ⟨b, off, sg, rfl, c0, c1, c2, hBg, -⟩ := h2 i fs[i] hx
      rw [drop_at hlt, out_cons] at E
      generalize fs[i] = g at *
      obtain ⟨asg, csg, rfl, -⟩ := id hBg
      have c0' := (hbel.cell (p := ⟨b, off + i * 3, none⟩) (World.block_lt_of_cell? w _ c0)).trans c0
      have c1' := (hbel.cell (p := ⟨b, off + i * 3 + 1, none⟩) (World.block_lt_of_cell? w _ c1)).trans c1
      have c2' := (hbel.cell (p := ⟨b, off + i * 3 + 2, none⟩) (World.block_lt_of_cell? w _ c2)).trans c2
      have hbl1 : bl.length ≤ 1000000 := by omega
      have hs1 := hbel.size
      have hBg1 := (hBg.below hbel).mono hs1
      have hkg := apart hBg (Nat.le_refl _) hO hs1
      clear hx c0 c1 c2 h2 hF
      by_cases hnm : g.name = n
      · have hne : (g.name.toList == n.toList) = true := by rw [hnm]; simp
        rw [if_pos hnm] at E
        go_wp2
        go_roundg (gk - 1)
        case measure => omega
        case rel => exact ⟨i + 1, bl, by omega, by omega, by go_num, hO, hbel, E⟩
      · have hne := toList_ne hnm
        rw [if_neg hnm] at E
        have E' : Hid (R = (bl ++ [g]) ++ DiskMath.out (fs.drop (i + 1)) n) := by show _ = _; rw [E.out]; simp
        go_wp2_with (at_builtin; refine wp_push_file rfl _ _ rfl w.heap.size _ bl g _ hO hs1 hbl1 hBg1 hkg rfl rfl ?_)
        intro ov8 w8 hO8 hb8
        go_wp2
        go_roundg (gk - 1)
        case measure => omega
        case rel => exact ⟨i + 1, bl ++ [g], by omega, by simp; omega, by go_num, hO8, hbel.trans hb8, E'⟩
    · have hlti : ¬ (i : Int) < (fs.length : Int) := by omega
      have E' : Hid (R = bl) := by show _ = _; rw [E.out, List.drop_eq_nil_of_le (by omega)]; simp [DiskMath.out]
      clear h2 hF
      go_wp2
      go_ret
      rw [E'.out]
      exact ⟨_, rfl, hO, hbel⟩

/-- What Read tells. -/
def RdTold [Keep] (w : World) (o : Option File) (e : Ending) : Prop :=
  match o with
  | none => e = .returned (.tuple #[.slice none 0 0, .bool false])
  | some f => ∃ sv, e = .returned (.tuple #[sv, .bool true]) ∧ Bs w.heap.size w sv f.data

set_option maxHeartbeats 1000000 in
theorem refRead_of [Keep] (fs : Files) (n : ByteArray) (lv : Value) (w : World) (hF : Fv w lv fs) (hlen : fs.length ≤ 1000) :
    Calls Try.prog 13 #[lv, .string n] w fun e w' => RdTold w (get fs n) e ∧ w' = w := by
  have hp := place_of fs n lv w hF (by omega)
  obtain ⟨hf, ao, cap, rfl, h2⟩ := id hF
  go_enter Try.func13, Try.ntmps13
  go_wp2_with fail
  refine hp.mono ?_
  rintro e w1 ⟨hor, hw1⟩
  rw [hw1]
  clear hw1 w1
  rcases hor with ⟨hg, rfl⟩ | ⟨i, f, hx, hg, rfl⟩
  · have hgH : Hid (get fs n = none) := hg
    clear hg h2 hF hp
    go_wp2
    go_ret2
    rw [hgH.out]
    exact ⟨rfl, rfl⟩
  · have hgH : Hid (get fs n = some f) := hg
    have hi := (List.getElem?_eq_some_iff.1 hx).1
    have hii : (i : Int) < (fs.length : Int) := by omega
    obtain ⟨b, off, sg, rfl, c0, c1, c2, hBg, -⟩ := h2 i f hx
    clear hg h2 hF hp hx
    go_wp2
    go_ret2
    rw [hgH.out]
    exact ⟨⟨_, rfl, hBg⟩, rfl⟩

/-- What is told beside the files: the list, and the error. -/
def Told [Keep] (w : World) (R : Files × Nat) (e : Ending) (w' : World) : Prop := ∃ lv, e = .returned (.tuple #[lv, .int .i64 (R.2 : Int)]) ∧ Fv w' lv R.1 ∧ Below w.heap.size w w'

set_option maxHeartbeats 1000000 in
theorem remove_of [Keep] (fs : Files) (n : ByteArray) (lv : Value) (w : World) (hF : Fv w lv fs) (hlen : fs.length ≤ 1000) :
    Calls Try.prog 30 #[lv, .string n] w (Told w (dRemove fs n)) := by
  have hp := place_of fs n lv w hF (by omega)
  have ho := out_of fs n lv w hF hlen
  obtain ⟨hf, ao, cap, rfl, h2⟩ := id hF
  obtain ⟨R, HR⟩ : ∃ R, Hid (R = dRemove fs n) := ⟨_, rfl⟩
  rw [← HR.out]
  go_enter Try.func30, Try.ntmps30
  go_wp2_with fail
  refine hp.mono ?_
  rintro e w1 ⟨hor, hw1⟩
  rw [hw1]
  clear hw1 w1
  rcases hor with ⟨hg, rfl⟩ | ⟨i, f, hx, hg, rfl⟩
  · have E : Hid (R = (fs, 4)) := by show _ = _; rw [HR.out]; unfold dRemove; rw [hg]
    clear hg h2 hp HR ho
    go_wp2
    go_ret2
    rw [E.out]
    exact ⟨_, rfl, hF, Below.refl _ _⟩
  · have E : Hid (R = (DiskMath.out fs n, 0)) := by show _ = _; rw [HR.out]; unfold dRemove; rw [hg]
    have hii : ¬ (i : Int) < 0 := by omega
    clear hg h2 hF hp hx HR
    go_wp2_with fail
    refine ho.mono ?_
    rintro e w2 ⟨ov, rfl, hO, hb⟩
    go_wp2
    go_ret2
    rw [E.out]
    exact ⟨_, rfl, hO.fv, hb⟩
end Go.Proofs.Ytcnljocgpoaepaa
