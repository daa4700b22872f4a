import Derived.Test.YtoipjmjhplkibaaGreatDoorW20
/- The contracts of the document's own out, Read, Sync, Cut, Rename and Remove. -/
namespace Go.Proofs.YtoipjmjhplkibaaGreatDoor
open Go.RowKit DiskMath
set_option maxRecDepth 100000
set_option linter.unusedSimpArgs false

theorem out_cons (f : File) (l : Files) (n : ByteArray) : DiskMath.out (f :: l) n = (if f.name = n then [] else [f]) ++ DiskMath.out l n := by
  unfold DiskMath.out
  by_cases h : f.name = n <;> simp [h]

set_option maxHeartbeats 1000000 in
theorem out_of [Keep] (fs : Files) (n : ByteArray) (lv : Value) (w : World) (hF : Fv w lv fs) (hlen : fs.length ≤ 1000) :
    Calls Tryz.prog 92 #[lv, .string n] w fun e w' => ∃ ov, e = .returned ov ∧ Fo w.heap.size w' ov (DiskMath.out fs n) ∧ Below w.heap.size w w' := by
  obtain ⟨hf, ao, cap, rfl, h2⟩ := id hF
  obtain ⟨R, HR⟩ : ∃ R, Hid (R = DiskMath.out fs n) := ⟨_, rfl⟩
  rw [← HR.out]
  have hF0 := Fo.none w hf
  clear hf
  have hb0 := (Below.refl w.heap.size w).alloc (Nat.le_refl _) (.cells #[] 67)
  go_enter Tryz.func92, Tryz.ntmps92
  go_wp2
  go_loopg [5, 6] fs.length (fun g s5 s6 wr => ∃ (i : Nat) (bl : Files), i + g = fs.length ∧ bl.length ≤ i ∧ s6 = .int .i64 (i : Int) ∧ Fo w.heap.size wr s5 bl ∧ Below w.heap.size w wr ∧ Hid (R = bl ++ DiskMath.out (fs.drop i) n))
  case atStart => exact ⟨0, [], by simp, by simp, rfl, hF0, hb0, by show _ = _; rw [HR.out]; rfl⟩
  case round =>
    clear hF0 hb0 HR
    obtain ⟨i, bl, hi, hbl, rfl, hO, hbel, E⟩ := hrel
    obtain ⟨ai, ci, rfl⟩ := hO.shape
    by_cases hlt : i < fs.length
    · have hlti : (i : Int) < (fs.length : Int) := by omega
      have hx : fs[i]? = some fs[i] := List.getElem?_eq_getElem hlt
      obtain ⟨b, off, sg, rfl, c0, c1, c2, hBg, -⟩ := h2 i fs[i] hx
      rw [drop_at hlt, out_cons] at E
      generalize fs[i] = g at *
      obtain ⟨asg, csg, rfl, -⟩ := id hBg
      have c0' := (hbel.cell (p := ⟨b, off + i * 3, none⟩) (World.block_lt_of_cell? w _ c0)).trans c0
      have c1' := (hbel.cell (p := ⟨b, off + i * 3 + 1, none⟩) (World.block_lt_of_cell? w _ c1)).trans c1
      have c2' := (hbel.cell (p := ⟨b, off + i * 3 + 2, none⟩) (World.block_lt_of_cell? w _ c2)).trans c2
      have hbl1 : bl.length ≤ 1000000 := by omega
      have hs1 := hbel.size
      have hBg1 := (hBg.below hbel).mono hs1
      have hkg := apart hBg (Nat.le_refl _) hO hs1
      clear hx c0 c1 c2 h2 hF
      by_cases hnm : g.name = n
      · have hne : (g.name.toList == n.toList) = true := by rw [hnm]; simp
        rw [if_pos hnm] at E
        go_wp2
        go_roundg (gk - 1)
        case measure => omega
        case rel => exact ⟨i + 1, bl, by omega, by omega, by go_num, hO, hbel, E⟩
      · have hne := toList_ne hnm
        rw [if_neg hnm] at E
        have E' : Hid (R = (bl ++ [g]) ++ DiskMath.out (fs.drop (i + 1)) n) := by show _ = _; rw [E.out]; simp
        go_wp2_with (at_builtin; refine wp_push_file rfl _ _ rfl w.heap.size _ bl g _ hO hs1 hbl1 hBg1 hkg rfl rfl ?_)
        intro ov8 w8 hO8 hb8
        go_wp2
        go_roundg (gk - 1)
        case measure => omega
        case rel => exact ⟨i + 1, bl ++ [g], by omega, by simp; omega, by go_num, hO8, hbel.trans hb8, E'⟩
    · have hlti : ¬ (i : Int) < (fs.length : Int) := by omega
      have E' : Hid (R = bl) := by show _ = _; rw [E.out, List.drop_eq_nil_of_le (by omega)]; simp [DiskMath.out]
      clear h2 hF
      go_wp2
      go_ret
      rw [E'.out]
      exact ⟨_, rfl, hO, hbel⟩

/-- What Read tells. -/
def RdTold [Keep] (w : World) (o : Option File) (e : Ending) : Prop :=
  match o with
  | none => e = .returned (.tuple #[.slice none 0 0, .bool false])
  | some f => ∃ sv, e = .returned (.tuple #[sv, .bool true]) ∧ Bs w.heap.size w sv f.data

set_option maxHeartbeats 1000000 in
theorem refRead_of [Keep] (fs : Files) (n : ByteArray) (lv : Value) (w : World) (hF : Fv w lv fs) (hlen : fs.length ≤ 1000) :
    Calls Tryz.prog 82 #[lv, .string n] w fun e w' => RdTold w (get fs n) e ∧ w' = w := by
  have hp := place_of fs n lv w hF (by omega)
  obtain ⟨hf, ao, cap, rfl, h2⟩ := id hF
  go_enter Tryz.func82, Tryz.ntmps82
  go_wp2_with fail
  refine hp.mono ?_
  rintro e w1 ⟨hor, hw1⟩
  rw [hw1]
  clear hw1 w1
  rcases hor with ⟨hg, rfl⟩ | ⟨i, f, hx, hg, rfl⟩
  · have hgH : Hid (get fs n = none) := hg
    clear hg h2 hF hp
    go_wp2
    go_ret2
    rw [hgH.out]
    exact ⟨rfl, rfl⟩
  · have hgH : Hid (get fs n = some f) := hg
    have hi := (List.getElem?_eq_some_iff.1 hx).1
    have hii : (i : Int) < (fs.length : Int) := by omega
    obtain ⟨b, off, sg, rfl, c0, c1, c2, hBg, -⟩ := h2 i f hx
    clear hg h2 hF hp hx
    go_wp2
    go_ret2
    rw [hgH.out]
    exact ⟨⟨_, rfl, hBg⟩, rfl⟩

/-- What is told beside the files: the list, and the error. -/
def Told [Keep] (w : World) (R : Files × Nat) (e : Ending) (w' : World) : Prop := ∃ lv, e = .returned (.tuple #[lv, .int .i64 (R.2 : Int)]) ∧ Fv w' lv R.1 ∧ Below w.heap.size w w'

set_option maxHeartbeats 1000000 in
theorem remove_of [Keep] (fs : Files) (n : ByteArray) (lv : Value) (w : World) (hF : Fv w lv fs) (hlen : fs.length ≤ 1000) :
    Calls Tryz.prog 45 #[lv, .string n] w (Told w (dRemove fs n)) := by
  have hp := place_of fs n lv w hF (by omega)
  have ho := out_of fs n lv w hF hlen
  obtain ⟨hf, ao, cap, rfl, h2⟩ := id hF
  obtain ⟨R, HR⟩ : ∃ R, Hid (R = dRemove fs n) := ⟨_, rfl⟩
  rw [← HR.out]
  go_enter Tryz.func45, Tryz.ntmps45
  go_wp2_with fail
  refine hp.mono ?_
  rintro e w1 ⟨hor, hw1⟩
  rw [hw1]
  clear hw1 w1
  rcases hor with ⟨hg, rfl⟩ | ⟨i, f, hx, hg, rfl⟩
  · have E : Hid (R = (fs, 4)) := by show _ = _; rw [HR.out]; unfold dRemove; rw [hg]
    clear hg h2 hp HR ho
    go_wp2
    go_ret2
    rw [E.out]
    exact ⟨_, rfl, hF, Below.refl _ _⟩
  · have E : Hid (R = (DiskMath.out fs n, 0)) := by show _ = _; rw [HR.out]; unfold dRemove; rw [hg]
    have hii : ¬ (i : Int) < 0 := by omega
    clear hg h2 hF hp hx HR
    go_wp2_with fail
    refine ho.mono ?_
    rintro e w2 ⟨ov, rfl, hO, hb⟩
    go_wp2
    go_ret2
    rw [E.out]
    exact ⟨_, rfl, hO.fv, hb⟩
end Go.Proofs.YtoipjmjhplkibaaGreatDoor

/- The contracts of the document's own Sync, Cut, Rename and Append. -/
namespace Go.Proofs.YtoipjmjhplkibaaGreatDoor
open Go.RowKit DiskMath
set_option maxRecDepth 100000
set_option linter.unusedSimpArgs false

set_option maxHeartbeats 1000000 in
theorem sync_of [Keep] (fs : Files) (n : ByteArray) (lv : Value) (w : World) (hF : Fv w lv fs) (hlen : fs.length ≤ 1000) :
    Calls Tryz.prog 41 #[lv, .string n] w (Told w (dSync fs n)) := by
  have hp := place_of fs n lv w hF (by omega)
  have kp : ∀ f sv w', Below w.heap.size w w' → Bs w'.heap.size w' sv f.data → Calls Tryz.prog 91 #[lv, .agg #[.string f.name, sv, .int .i64 (f.safe : Int)]] w' fun e w'' => ∃ ov, e = .returned ov ∧ Fo (w'.heap.size + 1) w'' ov (putF fs f) ∧ Below w'.heap.size w' w'' := fun f sv w' hb hB => put_of fs f lv sv w' (hF.below hb) hB hlen
  obtain ⟨hf, ao, cap, rfl, h2⟩ := id hF
  obtain ⟨R, HR⟩ : ∃ R, Hid (R = dSync fs n) := ⟨_, rfl⟩
  rw [← HR.out]
  go_enter Tryz.func41, Tryz.ntmps41
  go_wp2_with fail
  refine hp.mono ?_
  rintro e w1 ⟨hor, hw1⟩
  rw [hw1]
  clear hw1 w1
  rcases hor with ⟨hg, rfl⟩ | ⟨i, f, hx, hg, rfl⟩
  · have E : Hid (R = (fs, 4)) := by show _ = _; rw [HR.out]; unfold dSync; rw [hg]
    clear hg h2 hp HR kp
    go_wp2
    go_ret2
    rw [E.out]
    exact ⟨_, rfl, hF, Below.refl _ _⟩
  · have E : Hid (R = (putF fs ⟨f.name, f.data, f.data.length⟩, 0)) := by show _ = _; rw [HR.out]; unfold dSync; rw [hg, get_name hg]
    have hi := (List.getElem?_eq_some_iff.1 hx).1
    have hii : (i : Int) < (fs.length : Int) := by omega
    have hi0 : ¬ (i : Int) < 0 := by omega
    obtain ⟨b, off, sg, rfl, c0, c1, c2, hBg, -⟩ := h2 i f hx
    obtain ⟨asg, csg, rfl, -⟩ := id hBg
    have hb1 := (Below.refl w.heap.size w).alloc (Nat.le_refl _) (.cells #[.string f.name, .slice asg f.data.length csg, .int .i64 (f.data.length : Int)] 67)
    have k1 := kp ⟨f.name, f.data, f.data.length⟩ (.slice asg f.data.length csg) _ hb1 ((hBg.below hb1).mono hb1.size)
    dsimp only at k1
    clear hg h2 hp hx HR kp
    go_wp2_with fail
    refine k1.mono ?_
    rintro e w2 ⟨ov, rfl, hO, hb⟩
    go_wp2
    go_ret2
    rw [E.out]
    exact ⟨_, rfl, hO.fv, hb1.trans (hb.mono hb1.size)⟩

set_option maxHeartbeats 2000000 in
theorem cut_of [Keep] (fs : Files) (n : ByteArray) (k : Int) (lv : Value) (w : World) (hF : Fv w lv fs) (hlen : fs.length ≤ 1000) :
    Calls Tryz.prog 46 #[lv, .string n, .int .i64 k] w (Told w (dCut fs n k)) := by
  have hp := place_of fs n lv w hF (by omega)
  have kp : ∀ f sv w', Below w.heap.size w w' → Bs w'.heap.size w' sv f.data → Calls Tryz.prog 91 #[lv, .agg #[.string f.name, sv, .int .i64 (f.safe : Int)]] w' fun e w'' => ∃ ov, e = .returned ov ∧ Fo (w'.heap.size + 1) w'' ov (putF fs f) ∧ Below w'.heap.size w' w'' := fun f sv w' hb hB => put_of fs f lv sv w' (hF.below hb) hB hlen
  have hFb : ∀ w', Below w.heap.size w w' → Fv w' lv fs := fun w' hb => hF.below hb
  obtain ⟨hf, ao, cap, rfl, h2⟩ := id hF
  obtain ⟨R, HR⟩ : ∃ R, Hid (R = dCut fs n k) := ⟨_, rfl⟩
  rw [← HR.out]
  go_enter Tryz.func46, Tryz.ntmps46
  go_wp2_with fail
  refine hp.mono ?_
  rintro e w1 ⟨hor, hw1⟩
  rw [hw1]
  clear hw1 w1
  rcases hor with ⟨hg, rfl⟩ | ⟨i, f, hx, hg, rfl⟩
  · have E : Hid (R = (fs, 4)) := by show _ = _; rw [HR.out]; unfold dCut; rw [hg]
    clear hg h2 hp HR kp
    go_wp2
    go_ret2
    rw [E.out]
    exact ⟨_, rfl, hF, Below.refl _ _⟩
  · have E0 : Hid (R = if k < 0 ∨ (f.data.length : Int) < k then (fs, 1) else (putF fs ⟨f.name, f.data.take k.toNat, min f.safe k.toNat⟩, 0)) := by show _ = _; rw [HR.out]; unfold dCut; rw [hg, get_name hg]
    have hi := (List.getElem?_eq_some_iff.1 hx).1
    have hii : (i : Int) < (fs.length : Int) := by omega
    have hi0 : ¬ (i : Int) < 0 := by omega
    obtain ⟨b, off, sg, rfl, c0, c1, c2, hBg, -⟩ := h2 i f hx
    have hcap : ∃ asg csg, sg = .slice asg f.data.length csg ∧ f.data.length ≤ csg ∧ csg ≤ maxLen := by obtain ⟨a, c, e1, e2, e3, _⟩ := id hBg; exact ⟨a, c, e1, e2, e3⟩
    obtain ⟨asg, csg, rfl, hc1, hc2⟩ := hcap
    have hc3 : (csg : Int) ≤ 9223372036854775807 := by unfold maxLen at hc2; omega
    have hbox := (Below.refl w.heap.size w).alloc (Nat.le_refl _) (.cells #[.string f.name, .slice asg f.data.length csg, .int .i64 (f.safe : Int)] 67)
    by_cases hk : k < 0 ∨ (f.data.length : Int) < k
    · have E : Hid (R = (fs, 1)) := by show _ = _; rw [E0.out, if_pos hk]
      have hF1 := hFb _ hbox
      by_cases hk0 : k < 0
      · clear hg h2 hp hx HR kp E0 hk hFb
        go_wp2
        go_ret2
        rw [E.out]
        exact ⟨_, rfl, hF1, hbox⟩
      · have hk1 : (f.data.length : Int) < k := by omega
        clear hg h2 hp hx HR kp E0 hk hFb
        go_wp2
        go_ret2
        rw [E.out]
        exact ⟨_, rfl, hF1, hbox⟩
    · have E : Hid (R = (putF fs ⟨f.name, f.data.take k.toNat, min f.safe k.toNat⟩, 0)) := by show _ = _; rw [E0.out, if_neg hk]
      obtain ⟨m, rfl⟩ : ∃ m : Nat, k = (m : Int) := ⟨k.toNat, by omega⟩
      rw [Int.toNat_natCast] at E
      have hm : m ≤ f.data.length := by omega
      have hk0 : ¬ (m : Int) < 0 := by omega
      have hk1 : ¬ (f.data.length : Int) < (m : Int) := by omega
      have hmc : (m : Int) ≤ (csg : Int) := by omega
      have hmc2 : m ≤ csg := by omega
      have hBm := Bs.took hBg hm
      by_cases hs : m < f.safe
      · have hsi : (m : Int) < (f.safe : Int) := by omega
        have hb1 := (Below.refl w.heap.size w).alloc (Nat.le_refl _) (.cells #[.string f.name, .slice asg m csg, .int .i64 (m : Int)] 67)
        have k1 := kp ⟨f.name, f.data.take m, m⟩ (.slice asg m csg) _ hb1 ((hBm.below hb1).mono hb1.size)
        dsimp only at k1
        have E' : Hid (R = (putF fs ⟨f.name, f.data.take m, m⟩, 0)) := by show _ = _; rw [E.out, Nat.min_eq_right (by omega)]
        clear hg h2 hp hx HR kp E0 hk E hBm hbox hFb
        go_wp2_with fail
        refine k1.mono ?_
        rintro e w2 ⟨ov, rfl, hO, hb⟩
        go_wp2
        go_ret2
        rw [E'.out]
        exact ⟨_, rfl, hO.fv, hb1.trans (hb.mono hb1.size)⟩
      · have hsi : ¬ (m : Int) < (f.safe : Int) := by omega
        have hb1 := (Below.refl w.heap.size w).alloc (Nat.le_refl _) (.cells #[.string f.name, .slice asg m csg, .int .i64 (f.safe : Int)] 67)
        have k1 := kp ⟨f.name, f.data.take m, f.safe⟩ (.slice asg m csg) _ hb1 ((hBm.below hb1).mono hb1.size)
        dsimp only at k1
        have E' : Hid (R = (putF fs ⟨f.name, f.data.take m, f.safe⟩, 0)) := by show _ = _; rw [E.out, Nat.min_eq_left (by omega)]
        clear hg h2 hp hx HR kp E0 hk E hBm hbox hFb
        go_wp2_with fail
        refine k1.mono ?_
        rintro e w2 ⟨ov, rfl, hO, hb⟩
        go_wp2
        go_ret2
        rw [E'.out]
        exact ⟨_, rfl, hO.fv, hb1.trans (hb.mono hb1.size)⟩

set_option maxHeartbeats 2000000 in
theorem rename_of [Keep] (fs : Files) (n t : ByteArray) (lv : Value) (w : World) (hF : Fv w lv fs) (hlen : fs.length ≤ 1000) :
    Calls Tryz.prog 81 #[lv, .string n, .string t] w (Told w (dRename fs n t)) := by
  have hp := place_of fs n lv w hF (by omega)
  have hnm := name_of t w
  have ho : ∀ w', Below w.heap.size w w' → Calls Tryz.prog 92 #[lv, .string n] w' _ := fun w' hb => out_of fs n lv w' (hF.below hb) hlen
  have kp : ∀ f ov sv w', Fv w' ov (DiskMath.out fs n) → Bs w'.heap.size w' sv f.data → Calls Tryz.prog 91 #[ov, .agg #[.string f.name, sv, .int .i64 (f.safe : Int)]] w' fun e w'' => ∃ ov', e = .returned ov' ∧ Fo (w'.heap.size + 1) w'' ov' (putF (DiskMath.out fs n) f) ∧ Below w'.heap.size w' w'' := fun f ov sv w' hF' hB => put_of _ f ov sv w' hF' hB (Nat.le_trans (out_length fs n) hlen)
  have hFb : ∀ w', Below w.heap.size w w' → Fv w' lv fs := fun w' hb => hF.below hb
  obtain ⟨hf, ao, cap, rfl, h2⟩ := id hF
  obtain ⟨R, HR⟩ : ∃ R, Hid (R = dRename fs n t) := ⟨_, rfl⟩
  rw [← HR.out]
  go_enter Tryz.func81, Tryz.ntmps81
  go_wp2_with fail
  refine hp.mono ?_
  rintro e w1 ⟨hor, hw1⟩
  rw [hw1]
  clear hw1 w1
  rcases hor with ⟨hg, rfl⟩ | ⟨i, f, hx, hg, rfl⟩
  · have E : Hid (R = (fs, 4)) := by show _ = _; rw [HR.out]; unfold dRename; rw [hg]
    clear hg h2 hp HR kp
    go_wp2
    go_ret2
    rw [E.out]
    exact ⟨_, rfl, hF, Below.refl _ _⟩
  · have E0 : Hid (R = if mayName t = false then (fs, 1) else (putF (DiskMath.out fs n) ⟨t, f.data, f.safe⟩, 0)) := by show _ = _; rw [HR.out]; unfold dRename; rw [hg]
    have hi := (List.getElem?_eq_some_iff.1 hx).1
    have hii : (i : Int) < (fs.length : Int) := by omega
    have hi0 : ¬ (i : Int) < 0 := by omega
    obtain ⟨b, off, sg, rfl, c0, c1, c2, hBg, -⟩ := h2 i f hx
    obtain ⟨asg, csg, rfl, -⟩ := id hBg
    cases hmt : mayName t with
    | false =>
      have E : Hid (R = (fs, 1)) := by show _ = _; rw [E0.out, if_pos hmt]
      rw [hmt] at hnm
      clear hg h2 hp hx HR kp E0 ho hFb hmt
      go_wp2_with fail
      refine hnm.mono ?_
      rintro e w2 ⟨rfl, hw2⟩
      rw [hw2]
      clear hw2 w2
      go_wp2
      go_ret2
      rw [E.out]
      exact ⟨_, rfl, hF, Below.refl _ _⟩
    | true =>
      have E : Hid (R = (putF (DiskMath.out fs n) ⟨t, f.data, f.safe⟩, 0)) := by show _ = _; rw [E0.out, if_neg (by simp [hmt])]
      rw [hmt] at hnm
      have hb1 := (Below.refl w.heap.size w).alloc (Nat.le_refl _) (.cells #[.string t, .slice asg f.data.length csg, .int .i64 (f.safe : Int)] 67)
      have hbx := heap_alloc_new w (.cells #[.string t, .slice asg f.data.length csg, .int .i64 (f.safe : Int)] 67)
      have hszx : w.heap.size < (w.alloc (.cells #[.string t, .slice asg f.data.length csg, .int .i64 (f.safe : Int)] 67)).heap.size := by simp
      clear hg h2 hp hx HR E0 hFb hmt hF
      go_wp2_with fail
      refine hnm.mono ?_
      rintro e w2 ⟨rfl, hw2⟩
      rw [hw2]
      clear hw2 w2
      go_wp2
      generalize w.alloc (.cells #[.string t, .slice asg f.data.length csg, .int .i64 (f.safe : Int)] 67) = wX at *
      have hd : Below wX.heap.size wX wX.drew := (Below.refl _ _).drew
      have ho1 := ho wX.drew hb1.drew
      have hS : ∀ w', Below wX.heap.size wX w' → w'.cell? ⟨w.heap.size, 0, none⟩ = some (.string t) ∧ w'.cell? ⟨w.heap.size, 1, none⟩ = some (.slice asg f.data.length csg) ∧ w'.cell? ⟨w.heap.size, 2, none⟩ = some (.int .i64 (f.safe : Int)) := fun w' hb => by
        have hbk := (hb.block w.heap.size hszx).trans hbx
        exact ⟨by rw [cells_of_block hbk]; rfl, by rw [cells_of_block hbk]; rfl, by rw [cells_of_block hbk]; rfl⟩
      have k1 : ∀ w3 ov, Below w.heap.size w w3 → Fv w3 ov (DiskMath.out fs n) → Calls Tryz.prog 91 #[ov, .agg #[.string t, .slice asg f.data.length csg, .int .i64 (f.safe : Int)]] w3 fun e w'' => ∃ ov', e = .returned ov' ∧ Fo (w3.heap.size + 1) w'' ov' (putF (DiskMath.out fs n) ⟨t, f.data, f.safe⟩) ∧ Below w3.heap.size w3 w'' := fun w3 ov hb hf => kp ⟨t, f.data, f.safe⟩ ov _ w3 hf ((hBg.below hb).mono hb.size)
      clear kp ho
      go_region_held3 (fun w' => w'.cell? ⟨w.heap.size, 0, none⟩ = some (.string t) ∧ w'.cell? ⟨w.heap.size, 1, none⟩ = some (.slice asg f.data.length csg) ∧ w'.cell? ⟨w.heap.size, 2, none⟩ = some (.int .i64 (f.safe : Int)))
        (first | exact x4 | exact x3 | exact hS _ hd)
        (first | (go_at_call 92; refine ho1.mono ?_; rintro e w3 ⟨ov, rfl, hO, hb3⟩; have hbx3 := hd.trans hb3; have x3 := hS _ hbx3; have hbw3 := hb1.trans (hbx3.mono hb1.size); have k2 := k1 w3 ov hbw3 hO.fv) | (go_at_call 91; refine k2.mono ?_; rintro e w4 ⟨ov4, rfl, hO4, hb4⟩; have x4 := hS _ (hbx3.trans (hb4.mono hbx3.size))))
      go_wp2
      go_ret2
      rw [E.out]
      exact ⟨_, rfl, hO4.fv, hbw3.trans (hb4.mono hbw3.size)⟩
end Go.Proofs.YtoipjmjhplkibaaGreatDoor

/- The contract of the document's own Append. -/
namespace Go.Proofs.YtoipjmjhplkibaaGreatDoor
open Go.RowKit DiskMath
set_option maxRecDepth 100000
set_option linter.unusedSimpArgs false

theorem set_grown (q i : Nat) (v : Value) (w : World) : w.grownBy (w.setCell ⟨q, i, none⟩ v) (some q) :=
  ⟨rfl, rfl, rfl, by simp [World.setCell], fun k _ hk => Below.heap_setCell _ _ _ _ (fun e => hk (by simp [e]))⟩
theorem box_data {w : World} {g : Nat} {a b c : Value} {t : TypeId} (h : w.heap[g]? = some (.cells #[a, b, c] t (0, 0))) (x : Value) : (w.setCell ⟨g, 1, none⟩ x).heap[g]? = some (.cells #[a, x, c] t (0, 0)) := by
  simp [World.setCell, Array.getElem?_modify, h]

set_option maxHeartbeats 2000000 in
theorem append_of [Keep] (fs : Files) (n : ByteArray) (bl : List Nat) (lv bv : Value) (w : World) (hF : Fv w lv fs) (hB : Bs w.heap.size w bv bl) (hlen : fs.length ≤ 1000) (hbl : bl.length ≤ 140737488355328) (hfd : ∀ f ∈ fs, f.data.length ≤ 65536) :
    Calls Tryz.prog 61 #[lv, .string n, bv] w (Told w (dAppend fs n bl)) := by
  have hp := place_of fs n lv w hF (by omega)
  have hnm := name_of n w
  have kp : ∀ f sv w', Below w.heap.size w w' → Bs w'.heap.size w' sv f.data → Calls Tryz.prog 91 #[lv, .agg #[.string f.name, sv, .int .i64 (f.safe : Int)]] w' fun e w'' => ∃ ov, e = .returned ov ∧ Fo (w'.heap.size + 1) w'' ov (putF fs f) ∧ Below w'.heap.size w' w'' := fun f sv w' hb hB => put_of fs f lv sv w' (hF.below hb) hB hlen
  have hFb : ∀ w', Below w.heap.size w w' → Fv w' lv fs := fun w' hb => hF.below hb
  obtain ⟨hf, ao, cap, rfl, h2⟩ := id hF
  obtain ⟨ab, cb, rfl, -⟩ := id hB
  obtain ⟨R, HR⟩ : ∃ R, Hid (R = dAppend fs n bl) := ⟨_, rfl⟩
  rw [← HR.out]
  cases hmt : mayName n with
  | false =>
    have E : Hid (R = (fs, 1)) := by show _ = _; rw [HR.out]; unfold dAppend; rw [if_pos hmt]
    rw [hmt] at hnm
    clear h2 hp HR kp hmt
    go_enter Tryz.func61, Tryz.ntmps61
    go_wp2_with fail
    refine hnm.mono ?_
    rintro e w2 ⟨rfl, hw2⟩
    rw [hw2]
    clear hw2 w2
    go_wp2
    go_ret2
    rw [E.out]
    exact ⟨_, rfl, hF, Below.refl _ _⟩
  | true =>
    rw [hmt] at hnm
    have hmf : ¬ mayName n = false := by simp [hmt]
    go_enter Tryz.func61, Tryz.ntmps61
    go_wp2_with fail
    refine hnm.mono ?_
    rintro e w2 ⟨rfl, hw2⟩
    rw [hw2]
    clear hw2 w2
    go_wp2_with fail
    refine hp.mono ?_
    rintro e w1 ⟨hor, hw1⟩
    rw [hw1]
    clear hw1 w1 hp hnm
    rcases hor with ⟨hg, rfl⟩ | ⟨i, f, hx, hg, rfl⟩
    · have E0 : Hid (R = if 64 ≤ fs.length ∨ 65536 < bl.length then (fs, 2) else (putF fs ⟨n, bl, 0⟩, 0)) := by show _ = _; rw [HR.out]; unfold dAppend; rw [if_neg hmf, hg]
      have hbox := (Below.refl w.heap.size w).alloc (Nat.le_refl _) (.cells #[.string n, .slice none 0 0, .int .i64 0] 67)
      have hbx := heap_alloc_new w (.cells #[.string n, .slice none 0 0, .int .i64 0] 67)
      have hszx : (w.alloc (.cells #[.string n, .slice none 0 0, .int .i64 0] 67)).heap.size = w.heap.size + 1 := by simp
      have hF1 := hFb _ hbox
      have q1 : IntKind.i64.wrap (bl.length : Int) = (bl.length : Int) := IntWalk.i64_in _ (by omega)
      clear hg hmt hmf h2 HR
      by_cases hfull : 64 ≤ fs.length ∨ 65536 < bl.length
      · have E : Hid (R = (fs, 2)) := by show _ = _; rw [E0.out, if_pos hfull]
        by_cases h64 : 64 ≤ fs.length
        · have h64i : (64 : Int) ≤ (fs.length : Int) := by omega
          go_wp2
          go_ret2
          rw [E.out]
          exact ⟨_, rfl, hF1, hbox⟩
        · have h64i : ¬ (64 : Int) ≤ (fs.length : Int) := by omega
          have hbi : (65536 : Int) < (bl.length : Int) := by omega
          go_wp2
          go_ret2
          rw [E.out]
          exact ⟨_, rfl, hF1, hbox⟩
      · have E : Hid (R = (putF fs ⟨n, bl, 0⟩, 0)) := by show _ = _; rw [E0.out, if_neg hfull]
        have h64i : ¬ (64 : Int) ≤ (fs.length : Int) := by omega
        have hbi : ¬ (65536 : Int) < (bl.length : Int) := by omega
        clear hfull E0 hF1 hFb
        have hO1 := own_new (w.alloc (.cells #[.string n, .slice none 0 0, .int .i64 0] 67)) #[] [] rfl (by simp)
        have hbO := (Below.refl _ (w.alloc (.cells #[.string n, .slice none 0 0, .int .i64 0] 67))).alloc (Nat.le_refl _) (.cells #[] 5)
        rw [hszx] at hO1 hbO
        have hsO : w.heap.size + 1 ≤ ((w.alloc (.cells #[.string n, .slice none 0 0, .int .i64 0] 67)).alloc (.cells #[] 5)).heap.size := by simp
        have hbwO : Below w.heap.size w ((w.alloc (.cells #[.string n, .slice none 0 0, .int .i64 0] 67)).alloc (.cells #[] 5)) := hbox.trans (hbO.mono (Nat.le_succ _))
        have hBb : ∀ w', Below w.heap.size w w' → Bs w.heap.size w' (.slice ab bl.length cb) bl := fun w' hb => hB.below hb
        have hB3 := hBb _ hbwO
        have hc3 : ([] : List Nat).length + bl.length ≤ 140737488355328 := by simp; omega
        go_wp2_with (at_builtin; refine wpList_append_bs rfl _ _ rfl (w.heap.size + 1) _ [] rfl hO1 hsO w.heap.size _ bl rfl hB3 hc3 ?_)
        intro v4 w4 hO4 hb4
        have hbX4 := hbO.trans hb4
        have hbk4 := (hbX4.block w.heap.size (Nat.lt_succ_self _)).trans hbx
        have d0 : w4.cell? ⟨w.heap.size, 0, none⟩ = some (.string n) := by rw [cells_of_block hbk4]; rfl
        have d1 : w4.cell? ⟨w.heap.size, 1, none⟩ = some (.slice none 0 0) := by rw [cells_of_block hbk4]; rfl
        have d2 : w4.cell? ⟨w.heap.size, 2, none⟩ = some (.int .i64 0) := by rw [cells_of_block hbk4]; rfl
        have g1 := frozen_of hbk4 1
        have hbw4 : Below w.heap.size w w4 := hbox.trans (hbX4.mono (Nat.le_succ _))
        have hbw5 := hbw4.setCell (p := ⟨w.heap.size, 1, none⟩) (Nat.le_refl _) v4
        have hB5 : Bs (w4.setCell ⟨w.heap.size, 1, none⟩ v4).heap.size (w4.setCell ⟨w.heap.size, 1, none⟩ v4) v4 (([] : List Nat) ++ bl) := by
          have := (hO4.bs (Nat.le_succ_of_le hf)).grown (set_grown w.heap.size 1 v4 w4) (fun k hk e => by
            have := (World.ownsRow.lt hO4 k hk).1
            cases e
            omega)
          have hsz5 : (w4.setCell ⟨w.heap.size, 1, none⟩ v4).heap.size = w4.heap.size := by simp [World.setCell]
          rw [hsz5]
          simpa using this
        have hbk5 := box_data hbk4 v4
        have e0 : (w4.setCell ⟨w.heap.size, 1, none⟩ v4).cell? ⟨w.heap.size, 0, none⟩ = some (.string n) := by rw [cells_of_block hbk5]; rfl
        have e1 : (w4.setCell ⟨w.heap.size, 1, none⟩ v4).cell? ⟨w.heap.size, 1, none⟩ = some v4 := by rw [cells_of_block hbk5]; rfl
        have e2 : (w4.setCell ⟨w.heap.size, 1, none⟩ v4).cell? ⟨w.heap.size, 2, none⟩ = some (.int .i64 0) := by rw [cells_of_block hbk5]; rfl
        have k1 := kp ⟨n, ([] : List Nat) ++ bl, 0⟩ v4 _ hbw5 hB5
        dsimp only at k1
        obtain ⟨a4, c4, rfl⟩ := hO4.shape
        clear hO4 hO1 hB5 hbk5 hbk4 hbX4 kp
        go_wp2_with fail
        refine k1.mono ?_
        rintro e w6 ⟨ov, rfl, hO6, hb6⟩
        go_wp2
        go_ret2
        rw [E.out]
        exact ⟨_, rfl, hO6.fv, hbw5.trans (hb6.mono hbw5.size)⟩
    · have E0 : Hid (R = if 65536 < f.data.length + bl.length then (fs, 2) else (putF fs ⟨f.name, f.data ++ bl, f.safe⟩, 0)) := by show _ = _; rw [HR.out]; unfold dAppend; rw [if_neg hmf, hg, get_name hg]
      have hi := (List.getElem?_eq_some_iff.1 hx).1
      have hii : (i : Int) < (fs.length : Int) := by omega
      have hi0 : ¬ (i : Int) < 0 := by omega
      have hi1 : (0 : Int) ≤ (i : Int) := by omega
      have hfl := hfd f (List.mem_of_getElem? hx)
      obtain ⟨b, off, sg, rfl, c0, c1, c2, hBg, -⟩ := h2 i f hx
      obtain ⟨asg, csg, rfl, -⟩ := id hBg
      have hb00 := (Below.refl w.heap.size w).alloc (Nat.le_refl _) (.cells #[.string n, .slice none 0 0, .int .i64 0] 67)
      have c0' := (hb00.cell (p := ⟨b, off + i * 3, none⟩) (World.block_lt_of_cell? w _ c0)).trans c0
      have c1' := (hb00.cell (p := ⟨b, off + i * 3 + 1, none⟩) (World.block_lt_of_cell? w _ c1)).trans c1
      have c2' := (hb00.cell (p := ⟨b, off + i * 3 + 2, none⟩) (World.block_lt_of_cell? w _ c2)).trans c2
      clear c0 c1 c2
      have hbox := (Below.refl w.heap.size w).alloc (Nat.le_refl _) (.cells #[.string f.name, .slice asg f.data.length csg, .int .i64 (f.safe : Int)] 67)
      have hbx := heap_alloc_new w (.cells #[.string f.name, .slice asg f.data.length csg, .int .i64 (f.safe : Int)] 67)
      have hszx : (w.alloc (.cells #[.string f.name, .slice asg f.data.length csg, .int .i64 (f.safe : Int)] 67)).heap.size = w.heap.size + 1 := by simp
      have hF1 := hFb _ hbox
      have q1 : IntKind.i64.wrap ((f.data.length : Int) + (bl.length : Int)) = (f.data.length : Int) + (bl.length : Int) := IntWalk.i64_in _ (by omega)
      clear hg hmt hmf h2 HR hx
      by_cases hfull : 65536 < f.data.length + bl.length
      · have E : Hid (R = (fs, 2)) := by show _ = _; rw [E0.out, if_pos hfull]
        have hbi : (65536 : Int) < (f.data.length : Int) + (bl.length : Int) := by omega
        go_wp2
        go_ret2
        rw [E.out]
        exact ⟨_, rfl, hF1, hbox⟩
      · have E : Hid (R = (putF fs ⟨f.name, f.data ++ bl, f.safe⟩, 0)) := by show _ = _; rw [E0.out, if_neg hfull]
        have hbi : ¬ (65536 : Int) < (f.data.length : Int) + (bl.length : Int) := by omega
        clear hfull E0 hF1 hFb
        have hO1 := own_new (w.alloc (.cells #[.string f.name, .slice asg f.data.length csg, .int .i64 (f.safe : Int)] 67)) #[] [] rfl (by simp)
        have hbO := (Below.refl _ (w.alloc (.cells #[.string f.name, .slice asg f.data.length csg, .int .i64 (f.safe : Int)] 67))).alloc (Nat.le_refl _) (.cells #[] 5)
        rw [hszx] at hO1 hbO
        have hsO : w.heap.size + 1 ≤ ((w.alloc (.cells #[.string f.name, .slice asg f.data.length csg, .int .i64 (f.safe : Int)] 67)).alloc (.cells #[] 5)).heap.size := by simp
        have hbwO : Below w.heap.size w ((w.alloc (.cells #[.string f.name, .slice asg f.data.length csg, .int .i64 (f.safe : Int)] 67)).alloc (.cells #[] 5)) := hbox.trans (hbO.mono (Nat.le_succ _))
        have hD1 : Bs w.heap.size ((w.alloc (.cells #[.string f.name, .slice asg f.data.length csg, .int .i64 (f.safe : Int)] 67)).alloc (.cells #[] 5)) (.slice asg f.data.length csg) f.data := hBg.below hbwO
        have hBb : ∀ w', Below w.heap.size w w' → Bs w.heap.size w' (.slice ab bl.length cb) bl := fun w' hb => hB.below hb
        have hc1 : ([] : List Nat).length + f.data.length ≤ 140737488355328 := by simp; try omega
        have hc2 : f.data.length + bl.length ≤ 140737488355328 := by omega
        go_wp2_with (at_builtin; refine wpList_append_bs rfl _ _ rfl (w.heap.size + 1) _ [] rfl hO1 hsO w.heap.size _ f.data rfl hD1 hc1 ?_)
        intro v3 w3 hO3 hb3
        have hbX3 := hbO.trans hb3
        have hbw3 : Below w.heap.size w w3 := hbox.trans (hbX3.mono (Nat.le_succ _))
        have hs3 : w.heap.size + 1 ≤ w3.heap.size := Nat.le_trans hsO hb3.size
        have hB3 := hBb w3 hbw3
        have hO3' : Own (w.heap.size + 1) w3 v3 f.data := hO3
        clear hO3
        go_wp2_with (at_builtin; refine wpList_append_bs rfl _ _ rfl (w.heap.size + 1) _ f.data rfl hO3' hs3 w.heap.size _ bl rfl hB3 hc2 ?_)
        intro v4 w4 hO4 hb4
        have hbX4 := hbX3.trans hb4
        have hbk4 := (hbX4.block w.heap.size (Nat.lt_succ_self _)).trans hbx
        have d0 : w4.cell? ⟨w.heap.size, 0, none⟩ = some (.string f.name) := by rw [cells_of_block hbk4]; rfl
        have d1 : w4.cell? ⟨w.heap.size, 1, none⟩ = some (.slice asg f.data.length csg) := by rw [cells_of_block hbk4]; rfl
        have d2 : w4.cell? ⟨w.heap.size, 2, none⟩ = some (.int .i64 (f.safe : Int)) := by rw [cells_of_block hbk4]; rfl
        have g1 := frozen_of hbk4 1
        have hbw4 : Below w.heap.size w w4 := hbox.trans (hbX4.mono (Nat.le_succ _))
        have hbw5 := hbw4.setCell (p := ⟨w.heap.size, 1, none⟩) (Nat.le_refl _) v4
        have hB5 : Bs (w4.setCell ⟨w.heap.size, 1, none⟩ v4).heap.size (w4.setCell ⟨w.heap.size, 1, none⟩ v4) v4 (f.data ++ bl) := by
          have := (hO4.bs (Nat.le_succ_of_le hf)).grown (set_grown w.heap.size 1 v4 w4) (fun k hk e => by
            have := (World.ownsRow.lt hO4 k hk).1
            cases e
            omega)
          have hsz5 : (w4.setCell ⟨w.heap.size, 1, none⟩ v4).heap.size = w4.heap.size := by simp [World.setCell]
          rw [hsz5]
          simpa using this
        have hbk5 := box_data hbk4 v4
        have e0 : (w4.setCell ⟨w.heap.size, 1, none⟩ v4).cell? ⟨w.heap.size, 0, none⟩ = some (.string f.name) := by rw [cells_of_block hbk5]; rfl
        have e1 : (w4.setCell ⟨w.heap.size, 1, none⟩ v4).cell? ⟨w.heap.size, 1, none⟩ = some v4 := by rw [cells_of_block hbk5]; rfl
        have e2 : (w4.setCell ⟨w.heap.size, 1, none⟩ v4).cell? ⟨w.heap.size, 2, none⟩ = some (.int .i64 (f.safe : Int)) := by rw [cells_of_block hbk5]; rfl
        have k1 := kp ⟨f.name, f.data ++ bl, f.safe⟩ v4 _ hbw5 hB5
        dsimp only at k1
        obtain ⟨a4, c4, e4⟩ := hO4.shape
        rw [List.length_append] at e4
        subst e4
        clear hO4 hO3' hO1 hB5 hbk5 hbk4 hbX4 hD1 kp
        go_wp2_with fail
        refine k1.mono ?_
        rintro e w6 ⟨ov, rfl, hO6, hb6⟩
        go_wp2
        go_ret2
        rw [E.out]
        exact ⟨_, rfl, hO6.fv, hbw5.trans (hb6.mono hbw5.size)⟩
end Go.Proofs.YtoipjmjhplkibaaGreatDoor

/- The contract of the document's own Crash. -/
namespace Go.Proofs.YtoipjmjhplkibaaGreatDoor
open Go.RowKit DiskMath
set_option maxRecDepth 100000
set_option linter.unusedSimpArgs false

/-- A slice of numbers, as it is read. -/
def Nv (w : World) (v : Value) (l : List Int) : Prop :=
  ∃ ao cap, v = .slice ao l.length cap ∧ (ao = none → cap = 0) ∧ ∀ (i : Nat) (c : Int), l[i]? = some c → ∃ b off, ao = some ⟨b, off, none⟩ ∧ w.cell? ⟨b, off + i, none⟩ = some (.int .i64 c)
theorem Nv.below {w w' : World} {v : Value} {l : List Int} (h : Nv w v l) (hb : Below w.heap.size w w') : Nv w' v l := by
  obtain ⟨ao, cap, e, h0, h2⟩ := h
  refine ⟨ao, cap, e, h0, fun i c hc => ?_⟩
  obtain ⟨b, off, r1, r2⟩ := h2 i c hc
  exact ⟨b, off, r1, (hb.cell (p := ⟨b, off + i, none⟩) (World.block_lt_of_cell? w _ r2)).trans r2⟩

theorem crash_cons (f : File) (l : Files) (cuts : List Int) (i : Nat) : crash (f :: l) (cuts.drop i) = crashOne f cuts[i]? :: crash l (cuts.drop (i + 1)) := by
  rw [crash, List.head?_drop, List.tail_drop]

set_option maxHeartbeats 2000000 in
theorem crash_of [Keep] (fs : Files) (cuts : List Int) (lv cv : Value) (w : World) (hF : Fv w lv fs) (hC : Nv w cv cuts) (hlen : fs.length ≤ 1000) (hs : ∀ f ∈ fs, f.safe ≤ f.data.length ∧ f.data.length ≤ 65536) :
    Calls Tryz.prog 19 #[lv, cv] w fun e w' => ∃ ov, e = .returned ov ∧ Fo w.heap.size w' ov (crash fs cuts) ∧ Below w.heap.size w w' := by
  obtain ⟨hf, ao, cap, rfl, h2⟩ := id hF
  obtain ⟨ac, cc, rfl, -, hcc⟩ := id hC
  obtain ⟨R, HR⟩ : ∃ R, Hid (R = crash fs cuts) := ⟨_, rfl⟩
  rw [← HR.out]
  have hF0 := Fo.none w hf
  clear hf
  have hb0 := (Below.refl w.heap.size w).alloc (Nat.le_refl _) (.cells #[] 67)
  go_enter Tryz.func19, Tryz.ntmps19
  go_wp2
  go_loopg [5, 6] fs.length (fun g s5 s6 wr => ∃ (i : Nat) (bl : Files), i + g = fs.length ∧ bl.length ≤ i ∧ s6 = .int .i64 (i : Int) ∧ Fo w.heap.size wr s5 bl ∧ Below w.heap.size w wr ∧ Hid (R = bl ++ crash (fs.drop i) (cuts.drop i)))
  case atStart => exact ⟨0, [], by simp, by simp, rfl, hF0, hb0, by show _ = _; rw [HR.out]; rfl⟩
  case round =>
    clear hF0 hb0 HR
    obtain ⟨i, bl, hi, hbl, rfl, hO, hbel, E⟩ := hrel
    obtain ⟨ai, ci, rfl⟩ := hO.shape
    by_cases hlt : i < fs.length
    · have hlti : (i : Int) < (fs.length : Int) := by omega
      have hx : fs[i]? = some fs[i] := List.getElem?_eq_getElem hlt
      obtain ⟨b, off, sg, rfl, c0, c1, c2, hBg, -⟩ := h2 i fs[i] hx
      have hsd := hs fs[i] (List.getElem_mem hlt)
      rw [drop_at hlt, crash_cons] at E
      generalize fs[i] = g at *
      have hcap : ∃ asg csg, sg = .slice asg g.data.length csg ∧ g.data.length ≤ csg ∧ csg ≤ maxLen := by obtain ⟨a, c, e1, e2, e3, _⟩ := id hBg; exact ⟨a, c, e1, e2, e3⟩
      obtain ⟨asg, csg, rfl, hc1, hc2⟩ := hcap
      have c0' := (hbel.cell (p := ⟨b, off + i * 3, none⟩) (World.block_lt_of_cell? w _ c0)).trans c0
      have c1' := (hbel.cell (p := ⟨b, off + i * 3 + 1, none⟩) (World.block_lt_of_cell? w _ c1)).trans c1
      have c2' := (hbel.cell (p := ⟨b, off + i * 3 + 2, none⟩) (World.block_lt_of_cell? w _ c2)).trans c2
      clear hx c0 c1 c2 h2 hF
      by_cases hic : i < cuts.length
      · have hici : (i : Int) < (cuts.length : Int) := by omega
        have hcx : cuts[i]? = some cuts[i] := List.getElem?_eq_getElem hic
        obtain ⟨bc, oc, rfl, k0⟩ := hcc i cuts[i] hcx
        have k0' := (hbel.cell (p := ⟨bc, oc + i, none⟩) (World.block_lt_of_cell? w _ k0)).trans k0
        rw [hcx] at E
        generalize cuts[i] = q at *
        clear hcx hcc hC k0
        have hbX := (Below.refl wr.heap.size wr).alloc (Nat.le_refl _) (.cells #[.string g.name, .slice asg g.data.length csg, .int .i64 (g.safe : Int)] 67)
        have k1 := (hbX.cell (p := ⟨bc, oc + i, none⟩) (World.block_lt_of_cell? wr _ k0')).trans k0'
        obtain ⟨g0, hg0⟩ : ∃ g0, g0 = gk := ⟨_, rfl⟩
        subst hg0
        obtain ⟨w0, hw0⟩ : ∃ x, x = wr := ⟨_, rfl⟩
        subst hw0
        go_wp2
        go_loopg [8, 9] g.data.length (fun gg s8 s9 wq => ∃ c m : Nat, c + gg = g.data.length ∧ Hid (m = g.safe + c) ∧ s9 = .int .i64 (c : Int) ∧ s8 = .int .i64 (m : Int) ∧ m ≤ g.data.length ∧ c ≤ q.toNat ∧ wq = w0.alloc (.cells #[.string g.name, .slice asg g.data.length csg, .int .i64 (g.safe : Int)] 67))
        case atStart => exact ⟨0, g.safe, by simp, rfl, rfl, rfl, by omega, by omega, rfl⟩
        case round =>
          obtain ⟨c, m, hcg, Hm, rfl, rfl, hcl, hcq, rfl⟩ := hrel
          by_cases hgo : (c : Int) < q ∧ m < g.data.length
          · obtain ⟨y1, y2⟩ := hgo
            have y2i : (m : Int) < (g.data.length : Int) := by omega
            have hcl2 : c < g.data.length := by
              have hm := Hm.out
              omega
            have Hm' : Hid (m + 1 = g.safe + (c + 1)) := by show _ = _; rw [Hm.out]; omega
            go_wp2
            go_roundg (gk - 1)
            case measure => omega
            case rel => exact ⟨c + 1, m + 1, by omega, Hm', by go_num, by go_num, by omega, by omega, rfl⟩
          · have hleft : Hid (left g (some q) = m) := by
              have hm := Hm.out
              show _ = _
              unfold left
              simp only
              omega
            by_cases y1 : (c : Int) < q
            · have y2 : ¬ (m : Int) < (g.data.length : Int) := by omega
              clear hgo
              have hE : Hid (R = (bl ++ [⟨g.name, g.data.take m, m⟩]) ++ crash (fs.drop (i + 1)) (cuts.drop (i + 1))) := by
                show _ = _
                rw [E.out, show crashOne g (some q) = ⟨g.name, g.data.take m, m⟩ by unfold crashOne; rw [hleft.out]]
                simp
              have hml : m ≤ g.data.length := by omega
              have hmc : (m : Int) ≤ (csg : Int) := by omega
              have hmc2 : m ≤ csg := by omega
              have hcm : (csg : Int) ≤ 9223372036854775807 := by unfold maxLen at hc2; omega
              have hbY := (Below.refl w0.heap.size w0).alloc (Nat.le_refl _) (.cells #[.string g.name, .slice asg m csg, .int .i64 (m : Int)] 67)
              have hszY : (w0.alloc (.cells #[.string g.name, .slice asg m csg, .int .i64 (m : Int)] 67)).heap.size = w0.heap.size + 1 := by simp
              have hOY := hO.below hbY
              have hbwY := hbel.trans (hbY.mono hbel.size)
              have hBm := Bs.took hBg hml
              have hkg := apart (d := (⟨g.name, g.data.take m, m⟩ : File).data) hBm (Nat.le_refl _) hOY hbwY.size
              have hBY : Bs (w0.alloc (.cells #[.string g.name, .slice asg m csg, .int .i64 (m : Int)] 67)).heap.size (w0.alloc (.cells #[.string g.name, .slice asg m csg, .int .i64 (m : Int)] 67)) (.slice asg m csg) (⟨g.name, g.data.take m, m⟩ : File).data := (hBm.below hbwY).mono hbwY.size
              have hbl1 : bl.length ≤ 1000000 := by omega
              clear hO hBm E
              go_wp2_with (at_builtin; refine wp_push_file rfl _ _ rfl w.heap.size _ bl ⟨g.name, g.data.take m, m⟩ _ hOY hbwY.size hbl1 hBY hkg rfl (by rw [hszY]; rfl) ?_)
              intro ov8 w8 hO8 hb8
              go_wp2
              go_roundg (g0 - 1)
              case measure => omega
              case rel => exact ⟨i + 1, bl ++ [⟨g.name, g.data.take m, m⟩], by omega, by simp; omega, by go_num, hO8, hbwY.trans hb8, hE⟩
            · clear hgo
              have hE : Hid (R = (bl ++ [⟨g.name, g.data.take m, m⟩]) ++ crash (fs.drop (i + 1)) (cuts.drop (i + 1))) := by
                show _ = _
                rw [E.out, show crashOne g (some q) = ⟨g.name, g.data.take m, m⟩ by unfold crashOne; rw [hleft.out]]
                simp
              have hml : m ≤ g.data.length := by omega
              have hmc : (m : Int) ≤ (csg : Int) := by omega
              have hmc2 : m ≤ csg := by omega
              have hcm : (csg : Int) ≤ 9223372036854775807 := by unfold maxLen at hc2; omega
              have hbY := (Below.refl w0.heap.size w0).alloc (Nat.le_refl _) (.cells #[.string g.name, .slice asg m csg, .int .i64 (m : Int)] 67)
              have hszY : (w0.alloc (.cells #[.string g.name, .slice asg m csg, .int .i64 (m : Int)] 67)).heap.size = w0.heap.size + 1 := by simp
              have hOY := hO.below hbY
              have hbwY := hbel.trans (hbY.mono hbel.size)
              have hBm := Bs.took hBg hml
              have hkg := apart (d := (⟨g.name, g.data.take m, m⟩ : File).data) hBm (Nat.le_refl _) hOY hbwY.size
              have hBY : Bs (w0.alloc (.cells #[.string g.name, .slice asg m csg, .int .i64 (m : Int)] 67)).heap.size (w0.alloc (.cells #[.string g.name, .slice asg m csg, .int .i64 (m : Int)] 67)) (.slice asg m csg) (⟨g.name, g.data.take m, m⟩ : File).data := (hBm.below hbwY).mono hbwY.size
              have hbl1 : bl.length ≤ 1000000 := by omega
              clear hO hBm E
              go_wp2_with (at_builtin; refine wp_push_file rfl _ _ rfl w.heap.size _ bl ⟨g.name, g.data.take m, m⟩ _ hOY hbwY.size hbl1 hBY hkg rfl (by rw [hszY]; rfl) ?_)
              intro ov8 w8 hO8 hb8
              go_wp2
              go_roundg (g0 - 1)
              case measure => omega
              case rel => exact ⟨i + 1, bl ++ [⟨g.name, g.data.take m, m⟩], by omega, by simp; omega, by go_num, hO8, hbwY.trans hb8, hE⟩
      · have hici : ¬ (i : Int) < (cuts.length : Int) := by omega
        have hcx : cuts[i]? = none := List.getElem?_eq_none (by omega)
        rw [hcx] at E
        obtain ⟨m, hm⟩ : ∃ m, m = g.safe := ⟨_, rfl⟩
        have hmH : Hid (m = g.safe) := hm
        rw [← hm] at c2'
        have hml0 : m ≤ g.data.length := by omega
        clear hcx hcc hC hm
        have hE : Hid (R = (bl ++ [⟨g.name, g.data.take m, m⟩]) ++ crash (fs.drop (i + 1)) (cuts.drop (i + 1))) := by
          show _ = _
          rw [E.out, show crashOne g none = ⟨g.name, g.data.take m, m⟩ by unfold crashOne left; rw [hmH.out]]
          simp
        have hml : m ≤ g.data.length := by omega
        have hmc : (m : Int) ≤ (csg : Int) := by omega
        have hmc2 : m ≤ csg := by omega
        have hcm : (csg : Int) ≤ 9223372036854775807 := by unfold maxLen at hc2; omega
        have hbY := (Below.refl wr.heap.size wr).alloc (Nat.le_refl _) (.cells #[.string g.name, .slice asg m csg, .int .i64 (m : Int)] 67)
        have hszY : (wr.alloc (.cells #[.string g.name, .slice asg m csg, .int .i64 (m : Int)] 67)).heap.size = wr.heap.size + 1 := by simp
        have hOY := hO.below hbY
        have hbwY := hbel.trans (hbY.mono hbel.size)
        have hBm := Bs.took hBg hml
        have hkg := apart (d := (⟨g.name, g.data.take m, m⟩ : File).data) hBm (Nat.le_refl _) hOY hbwY.size
        have hBY : Bs (wr.alloc (.cells #[.string g.name, .slice asg m csg, .int .i64 (m : Int)] 67)).heap.size (wr.alloc (.cells #[.string g.name, .slice asg m csg, .int .i64 (m : Int)] 67)) (.slice asg m csg) (⟨g.name, g.data.take m, m⟩ : File).data := (hBm.below hbwY).mono hbwY.size
        have hbl1 : bl.length ≤ 1000000 := by omega
        clear hO hBm E
        go_wp2_with (at_builtin; refine wp_push_file rfl _ _ rfl w.heap.size _ bl ⟨g.name, g.data.take m, m⟩ _ hOY hbwY.size hbl1 hBY hkg rfl (by rw [hszY]; rfl) ?_)
        intro ov8 w8 hO8 hb8
        go_wp2
        go_roundg (gk - 1)
        case measure => omega
        case rel => exact ⟨i + 1, bl ++ [⟨g.name, g.data.take m, m⟩], by omega, by simp; omega, by go_num, hO8, hbwY.trans hb8, hE⟩
    · have hlti : ¬ (i : Int) < (fs.length : Int) := by omega
      have E' : Hid (R = bl) := by show _ = _; rw [E.out, List.drop_eq_nil_of_le (by omega)]; simp [crash]
      clear h2 hF
      go_wp2
      go_ret
      rw [E'.out]
      exact ⟨_, rfl, hO, hbel⟩
end Go.Proofs.YtoipjmjhplkibaaGreatDoor

