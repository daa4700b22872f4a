import Derived.Test.YtdcpdcnipmfdjaaGreatDoorP24
/- The contracts of the document's own out, Read, Sync, Cut, Rename and Remove. -/
namespace Go.Proofs.YtdcpdcnipmfdjaaGreatDoor
open Go.RowKit DiskMath
set_option maxRecDepth 100000
set_option linter.unusedSimpArgs false

theorem out_cons (f : File) (l : Files) (n : ByteArray) : DiskMath.out (f :: l) n = (if f.name = n then [] else [f]) ++ DiskMath.out l n := by
  unfold DiskMath.out
  by_cases h : f.name = n <;> simp [h]

set_option maxHeartbeats 1000000 in
theorem out_of [Keep] (fs : Files) (n : ByteArray) (lv : Value) (w : World) (hF : Fv w lv fs) (hlen : fs.length ≤ 1000) :
    Calls Tryz.prog 100 #[lv, .string n] w fun e w' => ∃ ov, e = .returned ov ∧ Fo w.heap.size w' ov (DiskMath.out fs n) ∧ Below w.heap.size w w' := by
  obtain ⟨hf, ao, cap, rfl, h2⟩ := id hF
  obtain ⟨R, HR⟩ : ∃ R, Hid (R = DiskMath.out fs n) := ⟨_, rfl⟩
  rw [← HR.out]
  have hF0 := Fo.none w hf
  clear hf
  have hb0 := (Below.refl w.heap.size w).alloc (Nat.le_refl _) (.cells #[] 94)
  go_enter Tryz.func100, Tryz.ntmps100
  go_wp2
  go_loopg [5, 6] fs.length (fun g s5 s6 wr => ∃ (i : Nat) (bl : Files), i + g = fs.length ∧ bl.length ≤ i ∧ s6 = .int .i64 (i : Int) ∧ Fo w.heap.size wr s5 bl ∧ Below w.heap.size w wr ∧ Hid (R = bl ++ DiskMath.out (fs.drop i) n))
  case atStart => exact ⟨0, [], by simp, by simp, rfl, hF0, hb0, by show _ = _; rw [HR.out]; rfl⟩
  case round =>
    clear hF0 hb0 HR
    obtain ⟨i, bl, hi, hbl, rfl, hO, hbel, E⟩ := hrel
    obtain ⟨ai, ci, rfl⟩ := hO.shape
    by_cases hlt : i < fs.length
    · have hlti : (i : Int) < (fs.length : Int) := by omega
      have hx : fs[i]? = some fs[i] := List.getElem?_eq_getElem hlt
      obtain ⟨b, off, sg, rfl, c0, c1, c2, hBg, -⟩ := h2 i fs[i] hx
      rw [drop_at hlt, out_cons] at E
      generalize fs[i] = g at *
      obtain ⟨asg, csg, rfl, -⟩ := id hBg
      have c0' := (hbel.cell (p := ⟨b, off + i * 3, none⟩) (World.block_lt_of_cell? w _ c0)).trans c0
      have c1' := (hbel.cell (p := ⟨b, off + i * 3 + 1, none⟩) (World.block_lt_of_cell? w _ c1)).trans c1
      have c2' := (hbel.cell (p := ⟨b, off + i * 3 + 2, none⟩) (World.block_lt_of_cell? w _ c2)).trans c2
      have hbl1 : bl.length ≤ 1000000 := by omega
      have hs1 := hbel.size
      have hBg1 := (hBg.below hbel).mono hs1
      have hkg := apart hBg (Nat.le_refl _) hO hs1
      clear hx c0 c1 c2 h2 hF
      by_cases hnm : g.name = n
      · have hne : (g.name.toList == n.toList) = true := by rw [hnm]; simp
        rw [if_pos hnm] at E
        go_wp2
        go_roundg (gk - 1)
        case measure => omega
        case rel => exact ⟨i + 1, bl, by omega, by omega, by go_num, hO, hbel, E⟩
      · have hne := toList_ne hnm
        rw [if_neg hnm] at E
        have E' : Hid (R = (bl ++ [g]) ++ DiskMath.out (fs.drop (i + 1)) n) := by show _ = _; rw [E.out]; simp
        go_wp2_with (at_builtin; refine wp_push_file rfl _ _ rfl w.heap.size _ bl g _ hO hs1 hbl1 hBg1 hkg rfl rfl ?_)
        intro ov8 w8 hO8 hb8
        go_wp2
        go_roundg (gk - 1)
        case measure => omega
        case rel => exact ⟨i + 1, bl ++ [g], by omega, by simp; omega, by go_num, hO8, hbel.trans hb8, E'⟩
    · have hlti : ¬ (i : Int) < (fs.length : Int) := by omega
      have E' : Hid (R = bl) := by show _ = _; rw [E.out, List.drop_eq_nil_of_le (by omega)]; simp [DiskMath.out]
      clear h2 hF
      go_wp2
      go_ret
      rw [E'.out]
      exact ⟨_, rfl, hO, hbel⟩

/-- What Read tells. -/
def RdTold [Keep] (w : World) (o : Option File) (e : Ending) : Prop :=
  match o with
  | none => e = .returned (.tuple #[.slice none 0 0, .bool false])
  | some f => ∃ sv, e = .returned (.tuple #[sv, .bool true]) ∧ Bs w.heap.size w sv f.data

set_option maxHeartbeats 1000000 in
theorem refRead_of [Keep] (fs : Files) (n : ByteArray) (lv : Value) (w : World) (hF : Fv w lv fs) (hlen : fs.length ≤ 1000) :
    Calls Tryz.prog 34 #[lv, .string n] w fun e w' => RdTold w (get fs n) e ∧ w' = w := by
  have hp := place_of fs n lv w hF (by omega)
  obtain ⟨hf, ao, cap, rfl, h2⟩ := id hF
  go_enter Tryz.func34, Tryz.ntmps34
  go_wp2_with fail
  refine hp.mono ?_
  rintro e w1 ⟨hor, hw1⟩
  rw [hw1]
  clear hw1 w1
  rcases hor with ⟨hg, rfl⟩ | ⟨i, f, hx, hg, rfl⟩
  · have hgH : Hid (get fs n = none) := hg
    clear hg h2 hF hp
    go_wp2
    go_ret2
    rw [hgH.out]
    exact ⟨rfl, rfl⟩
  · have hgH : Hid (get fs n = some f) := hg
    have hi := (List.getElem?_eq_some_iff.1 hx).1
    have hii : (i : Int) < (fs.length : Int) := by omega
    obtain ⟨b, off, sg, rfl, c0, c1, c2, hBg, -⟩ := h2 i f hx
    clear hg h2 hF hp hx
    go_wp2
    go_ret2
    rw [hgH.out]
    exact ⟨⟨_, rfl, hBg⟩, rfl⟩

/-- What is told beside the files: the list, and the error. -/
def Told [Keep] (w : World) (R : Files × Nat) (e : Ending) (w' : World) : Prop := ∃ lv, e = .returned (.tuple #[lv, .int .i64 (R.2 : Int)]) ∧ Fv w' lv R.1 ∧ Below w.heap.size w w'

set_option maxHeartbeats 1000000 in
theorem remove_of [Keep] (fs : Files) (n : ByteArray) (lv : Value) (w : World) (hF : Fv w lv fs) (hlen : fs.length ≤ 1000) :
    Calls Tryz.prog 49 #[lv, .string n] w (Told w (dRemove fs n)) := by
  have hp := place_of fs n lv w hF (by omega)
  have ho := out_of fs n lv w hF hlen
  obtain ⟨hf, ao, cap, rfl, h2⟩ := id hF
  obtain ⟨R, HR⟩ : ∃ R, Hid (R = dRemove fs n) := ⟨_, rfl⟩
  rw [← HR.out]
  go_enter Tryz.func49, Tryz.ntmps49
  go_wp2_with fail
  refine hp.mono ?_
  rintro e w1 ⟨hor, hw1⟩
  rw [hw1]
  clear hw1 w1
  rcases hor with ⟨hg, rfl⟩ | ⟨i, f, hx, hg, rfl⟩
  · have E : Hid (R = (fs, 4)) := by show _ = _; rw [HR.out]; unfold dRemove; rw [hg]
    clear hg h2 hp HR ho
    go_wp2
    go_ret2
    rw [E.out]
    exact ⟨_, rfl, hF, Below.refl _ _⟩
  · have E : Hid (R = (DiskMath.out fs n, 0)) := by show _ = _; rw [HR.out]; unfold dRemove; rw [hg]
    have hii : ¬ (i : Int) < 0 := by omega
    clear hg h2 hF hp hx HR
    go_wp2_with fail
    refine ho.mono ?_
    rintro e w2 ⟨ov, rfl, hO, hb⟩
    go_wp2
    go_ret2
    rw [E.out]
    exact ⟨_, rfl, hO.fv, hb⟩
end Go.Proofs.YtdcpdcnipmfdjaaGreatDoor

/- The contracts of the document's own Sync, Cut, Rename and Append. -/
namespace Go.Proofs.YtdcpdcnipmfdjaaGreatDoor
open Go.RowKit DiskMath
set_option maxRecDepth 100000
set_option linter.unusedSimpArgs false

set_option maxHeartbeats 1000000 in
theorem sync_of [Keep] (fs : Files) (n : ByteArray) (lv : Value) (w : World) (hF : Fv w lv fs) (hlen : fs.length ≤ 1000) :
    Calls Tryz.prog 45 #[lv, .string n] w (Told w (dSync fs n)) := by
  have hp := place_of fs n lv w hF (by omega)
  have kp : ∀ f sv w', Below w.heap.size w w' → Bs w'.heap.size w' sv f.data → Calls Tryz.prog 99 #[lv, .agg #[.string f.name, sv, .int .i64 (f.safe : Int)]] w' fun e w'' => ∃ ov, e = .returned ov ∧ Fo (w'.heap.size + 1) w'' ov (putF fs f) ∧ Below w'.heap.size w' w'' := fun f sv w' hb hB => put_of fs f lv sv w' (hF.below hb) hB hlen
  obtain ⟨hf, ao, cap, rfl, h2⟩ := id hF
  obtain ⟨R, HR⟩ : ∃ R, Hid (R = dSync fs n) := ⟨_, rfl⟩
  rw [← HR.out]
  go_enter Tryz.func45, Tryz.ntmps45
  go_wp2_with fail
  refine hp.mono ?_
  rintro e w1 ⟨hor, hw1⟩
  rw [hw1]
  clear hw1 w1
  rcases hor with ⟨hg, rfl⟩ | ⟨i, f, hx, hg, rfl⟩
  · have E : Hid (R = (fs, 4)) := by show _ = _; rw [HR.out]; unfold dSync; rw [hg]
    clear hg h2 hp HR kp
    go_wp2
    go_ret2
    rw [E.out]
    exact ⟨_, rfl, hF, Below.refl _ _⟩
  · have E : Hid (R = (putF fs ⟨f.name, f.data, f.data.length⟩, 0)) := by show _ = _; rw [HR.out]; unfold dSync; rw [hg, get_name hg]
    have hi := (List.getElem?_eq_some_iff.1 hx).1
    have hii : (i : Int) < (fs.length : Int) := by omega
    have hi0 : ¬ (i : Int) < 0 := by omega
    obtain ⟨b, off, sg, rfl, c0, c1, c2, hBg, -⟩ := h2 i f hx
    obtain ⟨asg, csg, rfl, -⟩ := id hBg
    have hb1 := (Below.refl w.heap.size w).alloc (Nat.le_refl _) (.cells #[.string f.name, .slice asg f.data.length csg, .int .i64 (f.data.length : Int)] 94)
    have k1 := kp ⟨f.name, f.data, f.data.length⟩ (.slice asg f.data.length csg) _ hb1 ((hBg.below hb1).mono hb1.size)
    dsimp only at k1
    clear hg h2 hp hx HR kp
    go_wp2_with fail
    refine k1.mono ?_
    rintro e w2 ⟨ov, rfl, hO, hb⟩
    go_wp2
    go_ret2
    rw [E.out]
    exact ⟨_, rfl, hO.fv, hb1.trans (hb.mono hb1.size)⟩

set_option maxHeartbeats 2000000 in
theorem cut_of [Keep] (fs : Files) (n : ByteArray) (k : Int) (lv : Value) (w : World) (hF : Fv w lv fs) (hlen : fs.length ≤ 1000) :
    Calls Tryz.prog 50 #[lv, .string n, .int .i64 k] w (Told w (dCut fs n k)) := by
  have hp := place_of fs n lv w hF (by omega)
  have kp : ∀ f sv w', Below w.heap.size w w' → Bs w'.heap.size w' sv f.data → Calls Tryz.prog 99 #[lv, .agg #[.string f.name, sv, .int .i64 (f.safe : Int)]] w' fun e w'' => ∃ ov, e = .returned ov ∧ Fo (w'.heap.size + 1) w'' ov (putF fs f) ∧ Below w'.heap.size w' w'' := fun f sv w' hb hB => put_of fs f lv sv w' (hF.below hb) hB hlen
  have hFb : ∀ w', Below w.heap.size w w' → Fv w' lv fs := fun w' hb => hF.below hb
  obtain ⟨hf, ao, cap, rfl, h2⟩ := id hF
  obtain ⟨R, HR⟩ : ∃ R, Hid (R = dCut fs n k) := ⟨_, rfl⟩
  rw [← HR.out]
  go_enter Tryz.func50, Tryz.ntmps50
  go_wp2_with fail
  refine hp.mono ?_
  rintro e w1 ⟨hor, hw1⟩
  rw [hw1]
  clear hw1 w1
  rcases hor with ⟨hg, rfl⟩ | ⟨i, f, hx, hg, rfl⟩
  · have E : Hid (R = (fs, 4)) := by show _ = _; rw [HR.out]; unfold dCut; rw [hg]
    clear hg h2 hp HR kp
    go_wp2
    go_ret2
    rw [E.out]
    exact ⟨_, rfl, hF, Below.refl _ _⟩
  · have E0 : Hid (R = if k < 0 ∨ (f.data.length : Int) < k then (fs, 1) else (putF fs ⟨f.name, f.data.take k.toNat, min f.safe k.toNat⟩, 0)) := by show _ = _; rw [HR.out]; unfold dCut; rw [hg, get_name hg]
    have hi := (List.getElem?_eq_some_iff.1 hx).1
    have hii : (i : Int) < (fs.length : Int) := by omega
    have hi0 : ¬ (i : Int) < 0 := by omega
    obtain ⟨b, off, sg, rfl, c0, c1, c2, hBg, -⟩ := h2 i f hx
    have hcap : ∃ asg csg, sg = .slice asg f.data.length csg ∧ f.data.length ≤ csg ∧ csg ≤ maxLen := by obtain ⟨a, c, e1, e2, e3, _⟩ := id hBg; exact ⟨a, c, e1, e2, e3⟩
    obtain ⟨asg, csg, rfl, hc1, hc2⟩ := hcap
    have hc3 : (csg : Int) ≤ 9223372036854775807 := by unfold maxLen at hc2; omega
    have hbox := (Below.refl w.heap.size w).alloc (Nat.le_refl _) (.cells #[.string f.name, .slice asg f.data.length csg, .int .i64 (f.safe : Int)] 94)
    by_cases hk : k < 0 ∨ (f.data.length : Int) < k
    · have E : Hid (R = (fs, 1)) := by show _ = _; rw [E0.out, if_pos hk]
      have hF1 := hFb _ hbox
      by_cases hk0 : k < 0
      · clear hg h2 hp hx HR kp E0 hk hFb
        go_wp2
        go_ret2
        rw [E.out]
        exact ⟨_, rfl, hF1, hbox⟩
      · have hk1 : (f.data.length : Int) < k := by omega
        clear hg h2 hp hx HR kp E0 hk hFb
        go_wp2
        go_ret2
        rw [E.out]
        exact ⟨_, rfl, hF1, hbox⟩
    · have E : Hid (R = (putF fs ⟨f.name, f.data.take k.toNat, min f.safe k.toNat⟩, 0)) := by show _ = _; rw [E0.out, if_neg hk]
      obtain ⟨m, rfl⟩ : ∃ m : Nat, k = (m : Int) := ⟨k.toNat, by omega⟩
      rw [Int.toNat_natCast] at E
      have hm : m ≤ f.data.length := by omega
      have hk0 : ¬ (m : Int) < 0 := by omega
      have hk1 : ¬ (f.data.length : Int) < (m : Int) := by omega
      have hmc : (m : Int) ≤ (csg : Int) := by omega
      have hmc2 : m ≤ csg := by omega
      have hBm := Bs.took hBg hm
      by_cases hs : m < f.safe
      · have hsi : (m : Int) < (f.safe : Int) := by omega
        have hb1 := (Below.refl w.heap.size w).alloc (Nat.le_refl _) (.cells #[.string f.name, .slice asg m csg, .int .i64 (m : Int)] 94)
        have k1 := kp ⟨f.name, f.data.take m, m⟩ (.slice asg m csg) _ hb1 ((hBm.below hb1).mono hb1.size)
        dsimp only at k1
        have E' : Hid (R = (putF fs ⟨f.name, f.data.take m, m⟩, 0)) := by show _ = _; rw [E.out, Nat.min_eq_right (by omega)]
        clear hg h2 hp hx HR kp E0 hk E hBm hbox hFb
        go_wp2_with fail
        refine k1.mono ?_
        rintro e w2 ⟨ov, rfl, hO, hb⟩
        go_wp2
        go_ret2
        rw [E'.out]
        exact ⟨_, rfl, hO.fv, hb1.trans (hb.mono hb1.size)⟩
      · have hsi : ¬ (m : Int) < (f.safe : Int) := by omega
        have hb1 := (Below.refl w.heap.size w).alloc (Nat.le_refl _) (.cells #[.string f.name, .slice asg m csg, .int .i64 (f.safe : Int)] 94)
        have k1 := kp ⟨f.name, f.data.take m, f.safe⟩ (.slice asg m csg) _ hb1 ((hBm.below hb1).mono hb1.size)
        dsimp only at k1
        have E' : Hid (R = (putF fs ⟨f.name, f.data.take m, f.safe⟩, 0)) := by show _ = _; rw [E.out, Nat.min_eq_left (by omega)]
        clear hg h2 hp hx HR kp E0 hk E hBm hbox hFb
        go_wp2_with fail
        refine k1.mono ?_
        rintro e w2 ⟨ov, rfl, hO, hb⟩
        go_wp2
        go_ret2
        rw [E'.out]
        exact ⟨_, rfl, hO.fv, hb1.trans (hb.mono hb1.size)⟩

set_option maxHeartbeats 2000000 in
theorem rename_of [Keep] (fs : Files) (n t : ByteArray) (lv : Value) (w : World) (hF : Fv w lv fs) (hlen : fs.length ≤ 1000) :
    Calls Tryz.prog 91 #[lv, .string n, .string t] w (Told w (dRename fs n t)) := by
  have hp := place_of fs n lv w hF (by omega)
  have hnm := name_of t w
  have ho : ∀ w', Below w.heap.size w w' → Calls Tryz.prog 100 #[lv, .string n] w' _ := fun w' hb => out_of fs n lv w' (hF.below hb) hlen
  have kp : ∀ f ov sv w', Fv w' ov (DiskMath.out fs n) → Bs w'.heap.size w' sv f.data → Calls Tryz.prog 99 #[ov, .agg #[.string f.name, sv, .int .i64 (f.safe : Int)]] w' fun e w'' => ∃ ov', e = .returned ov' ∧ Fo (w'.heap.size + 1) w'' ov' (putF (DiskMath.out fs n) f) ∧ Below w'.heap.size w' w'' := fun f ov sv w' hF' hB => put_of _ f ov sv w' hF' hB (Nat.le_trans (out_length fs n) hlen)
  have hFb : ∀ w', Below w.heap.size w w' → Fv w' lv fs := fun w' hb => hF.below hb
  obtain ⟨hf, ao, cap, rfl, h2⟩ := id hF
  obtain ⟨R, HR⟩ : ∃ R, Hid (R = dRename fs n t) := ⟨_, rfl⟩
  rw [← HR.out]
  go_enter Tryz.func91, Tryz.ntmps91
  go_wp2_with fail
  refine hp.mono ?_
  rintro e w1 ⟨hor, hw1⟩
  rw [hw1]
  clear hw1 w1
  rcases hor with ⟨hg, rfl⟩ | ⟨i, f, hx, hg, rfl⟩
  · have E : Hid (R = (fs, 4)) := by show _ = _; rw [HR.out]; unfold dRename; rw [hg]
    clear hg h2 hp HR kp
    go_wp2
    go_ret2
    rw [E.out]
    exact ⟨_, rfl, hF, Below.refl _ _⟩
  · have E0 : Hid (R = if mayName t = false then (fs, 1) else (putF (DiskMath.out fs n) ⟨t, f.data, f.safe⟩, 0)) := by show _ = _; rw [HR.out]; unfold dRename; rw [hg]
    have hi := (List.getElem?_eq_some_iff.1 hx).1
    have hii : (i : Int) < (fs.length : Int) := by omega
    have hi0 : ¬ (i : Int) < 0 := by omega
    obtain ⟨b, off, sg, rfl, c0, c1, c2, hBg, -⟩ := h2 i f hx
    obtain ⟨asg, csg, rfl, -⟩ := id hBg
    cases hmt : mayName t with
    | false =>
      have E : Hid (R = (fs, 1)) := by show _ = _; rw [E0.out, if_pos hmt]
      rw [hmt] at hnm
      clear hg h2 hp hx HR kp E0 ho hFb hmt
      go_wp2_with fail
      refine hnm.mono ?_
      rintro e w2 ⟨rfl, hw2⟩
      rw [hw2]
      clear hw2 w2
      go_wp2
      go_ret2
      rw [E.out]
      exact ⟨_, rfl, hF, Below.refl _ _⟩
    | true =>
      have E : Hid (R = (putF (DiskMath.out fs n) ⟨t, f.data, f.safe⟩, 0)) := by show _ = _; rw [E0.out, if_neg (by simp [hmt])]
      rw [hmt] at hnm
      have hb1 := (Below.refl w.heap.size w).alloc (Nat.le_refl _) (.cells #[.string t, .slice asg f.data.length csg, .int .i64 (f.safe : Int)] 94)
      have hbx := heap_alloc_new w (.cells #[.string t, .slice asg f.data.length csg, .int .i64 (f.safe : Int)] 94)
      have hszx : w.heap.size < (w.alloc (.cells #[.string t, .slice asg f.data.length csg, .int .i64 (f.safe : Int)] 94)).heap.size := by simp
      clear hg h2 hp hx HR E0 hFb hmt hF
      go_wp2_with fail
      refine hnm.mono ?_
      rintro e w2 ⟨rfl, hw2⟩
      rw [hw2]
      clear hw2 w2
      go_wp2
      generalize w.alloc (.cells #[.string t, .slice asg f.data.length csg, .int .i64 (f.safe : Int)] 94) = wX at *
      have hd : Below wX.heap.size wX wX.drew := (Below.refl _ _).drew
      have ho1 := ho wX.drew hb1.drew
      have hS : ∀ w', Below wX.heap.size wX w' → w'.cell? ⟨w.heap.size, 0, none⟩ = some (.string t) ∧ w'.cell? ⟨w.heap.size, 1, none⟩ = some (.slice asg f.data.length csg) ∧ w'.cell? ⟨w.heap.size, 2, none⟩ = some (.int .i64 (f.safe : Int)) := fun w' hb => by
        have hbk := (hb.block w.heap.size hszx).trans hbx
        exact ⟨by rw [cells_of_block hbk]; rfl, by rw [cells_of_block hbk]; rfl, by rw [cells_of_block hbk]; rfl⟩
      have k1 : ∀ w3 ov, Below w.heap.size w w3 → Fv w3 ov (DiskMath.out fs n) → Calls Tryz.prog 99 #[ov, .agg #[.string t, .slice asg f.data.length csg, .int .i64 (f.safe : Int)]] w3 fun e w'' => ∃ ov', e = .returned ov' ∧ Fo (w3.heap.size + 1) w'' ov' (putF (DiskMath.out fs n) ⟨t, f.data, f.safe⟩) ∧ Below w3.heap.size w3 w'' := fun w3 ov hb hf => kp ⟨t, f.data, f.safe⟩ ov _ w3 hf ((hBg.below hb).mono hb.size)
      clear kp ho
      go_region_held3 (fun w' => w'.cell? ⟨w.heap.size, 0, none⟩ = some (.string t) ∧ w'.cell? ⟨w.heap.size, 1, none⟩ = some (.slice asg f.data.length csg) ∧ w'.cell? ⟨w.heap.size, 2, none⟩ = some (.int .i64 (f.safe : Int)))
        (first | exact x4 | exact x3 | exact hS _ hd)
        (first | (go_at_call 100; refine ho1.mono ?_; rintro e w3 ⟨ov, rfl, hO, hb3⟩; have hbx3 := hd.trans hb3; have x3 := hS _ hbx3; have hbw3 := hb1.trans (hbx3.mono hb1.size); have k2 := k1 w3 ov hbw3 hO.fv) | (go_at_call 99; refine k2.mono ?_; rintro e w4 ⟨ov4, rfl, hO4, hb4⟩; have x4 := hS _ (hbx3.trans (hb4.mono hbx3.size))))
      go_wp2
      go_ret2
      rw [E.out]
      exact ⟨_, rfl, hO4.fv, hbw3.trans (hb4.mono hbw3.size)⟩
end Go.Proofs.YtdcpdcnipmfdjaaGreatDoor

