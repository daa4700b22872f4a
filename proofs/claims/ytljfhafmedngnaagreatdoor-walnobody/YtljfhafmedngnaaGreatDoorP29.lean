import Derived.Test.YtljfhafmedngnaaGreatDoorP28
/- The contract of the document's own Append. -/
namespace Go.Proofs.YtljfhafmedngnaaGreatDoor
open Go.RowKit DiskMath
set_option maxRecDepth 100000
set_option linter.unusedSimpArgs false

theorem set_grown (q i : Nat) (v : Value) (w : World) : w.grownBy (w.setCell ⟨q, i, none⟩ v) (some q) :=
  ⟨rfl, rfl, rfl, by simp [World.setCell], fun k _ hk => Below.heap_setCell _ _ _ _ (fun e => hk (by simp [e]))⟩
theorem box_data {w : World} {g : Nat} {a b c : Value} {t : TypeId} (h : w.heap[g]? = some (.cells #[a, b, c] t (0, 0))) (x : Value) : (w.setCell ⟨g, 1, none⟩ x).heap[g]? = some (.cells #[a, x, c] t (0, 0)) := by
  simp [World.setCell, Array.getElem?_modify, h]

set_option maxHeartbeats 2000000 in
theorem append_of [Keep] (fs : Files) (n : ByteArray) (bl : List Nat) (lv bv : Value) (w : World) (hF : Fv w lv fs) (hB : Bs w.heap.size w bv bl) (hlen : fs.length ≤ 1000) (hbl : bl.length ≤ 140737488355328) (hfd : ∀ f ∈ fs, f.data.length ≤ 65536) :
    Calls Tryz.prog 59 #[lv, .string n, bv] w (Told w (dAppend fs n bl)) := by
  have hp := place_of fs n lv w hF (by omega)
  have hnm := name_of n w
  have kp : ∀ f sv w', Below w.heap.size w w' → Bs w'.heap.size w' sv f.data → Calls Tryz.prog 78 #[lv, .agg #[.string f.name, sv, .int .i64 (f.safe : Int)]] w' fun e w'' => ∃ ov, e = .returned ov ∧ Fo (w'.heap.size + 1) w'' ov (putF fs f) ∧ Below w'.heap.size w' w'' := fun f sv w' hb hB => put_of fs f lv sv w' (hF.below hb) hB hlen
  have hFb : ∀ w', Below w.heap.size w w' → Fv w' lv fs := fun w' hb => hF.below hb
  obtain ⟨hf, ao, cap, rfl, h2⟩ := id hF
  obtain ⟨ab, cb, rfl, -⟩ := id hB
  obtain ⟨R, HR⟩ : ∃ R, Hid (R = dAppend fs n bl) := ⟨_, rfl⟩
  rw [← HR.out]
  cases hmt : mayName n with
  | false =>
    have E : Hid (R = (fs, 1)) := by show _ = _; rw [HR.out]; unfold dAppend; rw [if_pos hmt]
    rw [hmt] at hnm
    clear h2 hp HR kp hmt
    go_enter Tryz.func59, Tryz.ntmps59
    go_wp2_with fail
    refine hnm.mono ?_
    rintro e w2 ⟨rfl, hw2⟩
    rw [hw2]
    clear hw2 w2
    go_wp2
    go_ret2
    rw [E.out]
    exact ⟨_, rfl, hF, Below.refl _ _⟩
  | true =>
    rw [hmt] at hnm
    have hmf : ¬ mayName n = false := by simp [hmt]
    go_enter Tryz.func59, Tryz.ntmps59
    go_wp2_with fail
    refine hnm.mono ?_
    rintro e w2 ⟨rfl, hw2⟩
    rw [hw2]
    clear hw2 w2
    go_wp2_with fail
    refine hp.mono ?_
    rintro e w1 ⟨hor, hw1⟩
    rw [hw1]
    clear hw1 w1 hp hnm
    rcases hor with ⟨hg, rfl⟩ | ⟨i, f, hx, hg, rfl⟩
    · have E0 : Hid (R = if 64 ≤ fs.length ∨ 65536 < bl.length then (fs, 2) else (putF fs ⟨n, bl, 0⟩, 0)) := by show _ = _; rw [HR.out]; unfold dAppend; rw [if_neg hmf, hg]
      have hbox := (Below.refl w.heap.size w).alloc (Nat.le_refl _) (.cells #[.string n, .slice none 0 0, .int .i64 0] 54)
      have hbx := heap_alloc_new w (.cells #[.string n, .slice none 0 0, .int .i64 0] 54)
      have hszx : (w.alloc (.cells #[.string n, .slice none 0 0, .int .i64 0] 54)).heap.size = w.heap.size + 1 := by simp
      have hF1 := hFb _ hbox
      have q1 : IntKind.i64.wrap (bl.length : Int) = (bl.length : Int) := IntWalk.i64_in _ (by omega)
      clear hg hmt hmf h2 HR
      by_cases hfull : 64 ≤ fs.length ∨ 65536 < bl.length
      · have E : Hid (R = (fs, 2)) := by show _ = _; rw [E0.out, if_pos hfull]
        by_cases h64 : 64 ≤ fs.length
        · have h64i : (64 : Int) ≤ (fs.length : Int) := by omega
          go_wp2
          go_ret2
          rw [E.out]
          exact ⟨_, rfl, hF1, hbox⟩
        · have h64i : ¬ (64 : Int) ≤ (fs.length : Int) := by omega
          have hbi : (65536 : Int) < (bl.length : Int) := by omega
          go_wp2
          go_ret2
          rw [E.out]
          exact ⟨_, rfl, hF1, hbox⟩
      · have E : Hid (R = (putF fs ⟨n, bl, 0⟩, 0)) := by show _ = _; rw [E0.out, if_neg hfull]
        have h64i : ¬ (64 : Int) ≤ (fs.length : Int) := by omega
        have hbi : ¬ (65536 : Int) < (bl.length : Int) := by omega
        clear hfull E0 hF1 hFb
        have hO1 := own_new (w.alloc (.cells #[.string n, .slice none 0 0, .int .i64 0] 54)) #[] [] rfl (by simp)
        have hbO := (Below.refl _ (w.alloc (.cells #[.string n, .slice none 0 0, .int .i64 0] 54))).alloc (Nat.le_refl _) (.cells #[] 5)
        rw [hszx] at hO1 hbO
        have hsO : w.heap.size + 1 ≤ ((w.alloc (.cells #[.string n, .slice none 0 0, .int .i64 0] 54)).alloc (.cells #[] 5)).heap.size := by simp
        have hbwO : Below w.heap.size w ((w.alloc (.cells #[.string n, .slice none 0 0, .int .i64 0] 54)).alloc (.cells #[] 5)) := hbox.trans (hbO.mono (Nat.le_succ _))
        have hBb : ∀ w', Below w.heap.size w w' → Bs w.heap.size w' (.slice ab bl.length cb) bl := fun w' hb => hB.below hb
        have hB3 := hBb _ hbwO
        have hc3 : ([] : List Nat).length + bl.length ≤ 140737488355328 := by simp; omega
        go_wp2_with (at_builtin; refine wpList_append_bs rfl _ _ rfl (w.heap.size + 1) _ [] rfl hO1 hsO w.heap.size _ bl rfl hB3 hc3 ?_)
        intro v4 w4 hO4 hb4
        have hbX4 := hbO.trans hb4
        have hbk4 := (hbX4.block w.heap.size (Nat.lt_succ_self _)).trans hbx
        have d0 : w4.cell? ⟨w.heap.size, 0, none⟩ = some (.string n) := by rw [cells_of_block hbk4]; rfl
        have d1 : w4.cell? ⟨w.heap.size, 1, none⟩ = some (.slice none 0 0) := by rw [cells_of_block hbk4]; rfl
        have d2 : w4.cell? ⟨w.heap.size, 2, none⟩ = some (.int .i64 0) := by rw [cells_of_block hbk4]; rfl
        have g1 := frozen_of hbk4 1
        have hbw4 : Below w.heap.size w w4 := hbox.trans (hbX4.mono (Nat.le_succ _))
        have hbw5 := hbw4.setCell (p := ⟨w.heap.size, 1, none⟩) (Nat.le_refl _) v4
        have hB5 : Bs (w4.setCell ⟨w.heap.size, 1, none⟩ v4).heap.size (w4.setCell ⟨w.heap.size, 1, none⟩ v4) v4 (([] : List Nat) ++ bl) := by
          have := (hO4.bs (Nat.le_succ_of_le hf)).grown (set_grown w.heap.size 1 v4 w4) (fun k hk e => by
            have := (World.ownsRow.lt hO4 k hk).1
            cases e
            omega)
          have hsz5 : (w4.setCell ⟨w.heap.size, 1, none⟩ v4).heap.size = w4.heap.size := by simp [World.setCell]
          rw [hsz5]
          simpa using this
        have hbk5 := box_data hbk4 v4
        have e0 : (w4.setCell ⟨w.heap.size, 1, none⟩ v4).cell? ⟨w.heap.size, 0, none⟩ = some (.string n) := by rw [cells_of_block hbk5]; rfl
        have e1 : (w4.setCell ⟨w.heap.size, 1, none⟩ v4).cell? ⟨w.heap.size, 1, none⟩ = some v4 := by rw [cells_of_block hbk5]; rfl
        have e2 : (w4.setCell ⟨w.heap.size, 1, none⟩ v4).cell? ⟨w.heap.size, 2, none⟩ = some (.int .i64 0) := by rw [cells_of_block hbk5]; rfl
        have k1 := kp ⟨n, ([] : List Nat) ++ bl, 0⟩ v4 _ hbw5 hB5
        dsimp only at k1
        obtain ⟨a4, c4, rfl⟩ := hO4.shape
        clear hO4 hO1 hB5 hbk5 hbk4 hbX4 kp
        go_wp2_with fail
        refine k1.mono ?_
        rintro e w6 ⟨ov, rfl, hO6, hb6⟩
        go_wp2
        go_ret2
        rw [E.out]
        exact ⟨_, rfl, hO6.fv, hbw5.trans (hb6.mono hbw5.size)⟩
    · have E0 : Hid (R = if 65536 < f.data.length + bl.length then (fs, 2) else (putF fs ⟨f.name, f.data ++ bl, f.safe⟩, 0)) := by show _ = _; rw [HR.out]; unfold dAppend; rw [if_neg hmf, hg, get_name hg]
      have hi := (List.getElem?_eq_some_iff.1 hx).1
      have hii : (i : Int) < (fs.length : Int) := by omega
      have hi0 : ¬ (i : Int) < 0 := by omega
      have hi1 : (0 : Int) ≤ (i : Int) := by omega
      have hfl := hfd f (List.mem_of_getElem? hx)
      obtain ⟨b, off, sg, rfl, c0, c1, c2, hBg, -⟩ := h2 i f hx
      obtain ⟨asg, csg, rfl, -⟩ := id hBg
      have hb00 := (Below.refl w.heap.size w).alloc (Nat.le_refl _) (.cells #[.string n, .slice none 0 0, .int .i64 0] 54)
      have c0' := (hb00.cell (p := ⟨b, off + i * 3, none⟩) (World.block_lt_of_cell? w _ c0)).trans c0
      have c1' := (hb00.cell (p := ⟨b, off + i * 3 + 1, none⟩) (World.block_lt_of_cell? w _ c1)).trans c1
      have c2' := (hb00.cell (p := ⟨b, off + i * 3 + 2, none⟩) (World.block_lt_of_cell? w _ c2)).trans c2
      clear c0 c1 c2
      have hbox := (Below.refl w.heap.size w).alloc (Nat.le_refl _) (.cells #[.string f.name, .slice asg f.data.length csg, .int .i64 (f.safe : Int)] 54)
      have hbx := heap_alloc_new w (.cells #[.string f.name, .slice asg f.data.length csg, .int .i64 (f.safe : Int)] 54)
      have hszx : (w.alloc (.cells #[.string f.name, .slice asg f.data.length csg, .int .i64 (f.safe : Int)] 54)).heap.size = w.heap.size + 1 := by simp
      have hF1 := hFb _ hbox
      have q1 : IntKind.i64.wrap ((f.data.length : Int) + (bl.length : Int)) = (f.data.length : Int) + (bl.length : Int) := IntWalk.i64_in _ (by omega)
      clear hg hmt hmf h2 HR hx
      by_cases hfull : 65536 < f.data.length + bl.length
      · have E : Hid (R = (fs, 2)) := by show _ = _; rw [E0.out, if_pos hfull]
        have hbi : (65536 : Int) < (f.data.length : Int) + (bl.length : Int) := by omega
        go_wp2
        go_ret2
        rw [E.out]
        exact ⟨_, rfl, hF1, hbox⟩
      · have E : Hid (R = (putF fs ⟨f.name, f.data ++ bl, f.safe⟩, 0)) := by show _ = _; rw [E0.out, if_neg hfull]
        have hbi : ¬ (65536 : Int) < (f.data.length : Int) + (bl.length : Int) := by omega
        clear hfull E0 hF1 hFb
        have hO1 := own_new (w.alloc (.cells #[.string f.name, .slice asg f.data.length csg, .int .i64 (f.safe : Int)] 54)) #[] [] rfl (by simp)
        have hbO := (Below.refl _ (w.alloc (.cells #[.string f.name, .slice asg f.data.length csg, .int .i64 (f.safe : Int)] 54))).alloc (Nat.le_refl _) (.cells #[] 5)
        rw [hszx] at hO1 hbO
        have hsO : w.heap.size + 1 ≤ ((w.alloc (.cells #[.string f.name, .slice asg f.data.length csg, .int .i64 (f.safe : Int)] 54)).alloc (.cells #[] 5)).heap.size := by simp
        have hbwO : Below w.heap.size w ((w.alloc (.cells #[.string f.name, .slice asg f.data.length csg, .int .i64 (f.safe : Int)] 54)).alloc (.cells #[] 5)) := hbox.trans (hbO.mono (Nat.le_succ _))
        have hD1 : Bs w.heap.size ((w.alloc (.cells #[.string f.name, .slice asg f.data.length csg, .int .i64 (f.safe : Int)] 54)).alloc (.cells #[] 5)) (.slice asg f.data.length csg) f.data := hBg.below hbwO
        have hBb : ∀ w', Below w.heap.size w w' → Bs w.heap.size w' (.slice ab bl.length cb) bl := fun w' hb => hB.below hb
        have hc1 : ([] : List Nat).length + f.data.length ≤ 140737488355328 := by simp; try omega
        have hc2 : f.data.length + bl.length ≤ 140737488355328 := by omega
        go_wp2_with (at_builtin; refine wpList_append_bs rfl _ _ rfl (w.heap.size + 1) _ [] rfl hO1 hsO w.heap.size _ f.data rfl hD1 hc1 ?_)
        intro v3 w3 hO3 hb3
        have hbX3 := hbO.trans hb3
        have hbw3 : Below w.heap.size w w3 := hbox.trans (hbX3.mono (Nat.le_succ _))
        have hs3 : w.heap.size + 1 ≤ w3.heap.size := Nat.le_trans hsO hb3.size
        have hB3 := hBb w3 hbw3
        have hO3' : Own (w.heap.size + 1) w3 v3 f.data := hO3
        clear hO3
        go_wp2_with (at_builtin; refine wpList_append_bs rfl _ _ rfl (w.heap.size + 1) _ f.data rfl hO3' hs3 w.heap.size _ bl rfl hB3 hc2 ?_)
        intro v4 w4 hO4 hb4
        have hbX4 := hbX3.trans hb4
        have hbk4 := (hbX4.block w.heap.size (Nat.lt_succ_self _)).trans hbx
        have d0 : w4.cell? ⟨w.heap.size, 0, none⟩ = some (.string f.name) := by rw [cells_of_block hbk4]; rfl
        have d1 : w4.cell? ⟨w.heap.size, 1, none⟩ = some (.slice asg f.data.length csg) := by rw [cells_of_block hbk4]; rfl
        have d2 : w4.cell? ⟨w.heap.size, 2, none⟩ = some (.int .i64 (f.safe : Int)) := by rw [cells_of_block hbk4]; rfl
        have g1 := frozen_of hbk4 1
        have hbw4 : Below w.heap.size w w4 := hbox.trans (hbX4.mono (Nat.le_succ _))
        have hbw5 := hbw4.setCell (p := ⟨w.heap.size, 1, none⟩) (Nat.le_refl _) v4
        have hB5 : Bs (w4.setCell ⟨w.heap.size, 1, none⟩ v4).heap.size (w4.setCell ⟨w.heap.size, 1, none⟩ v4) v4 (f.data ++ bl) := by
          have := (hO4.bs (Nat.le_succ_of_le hf)).grown (set_grown w.heap.size 1 v4 w4) (fun k hk e => by
            have := (World.ownsRow.lt hO4 k hk).1
            cases e
            omega)
          have hsz5 : (w4.setCell ⟨w.heap.size, 1, none⟩ v4).heap.size = w4.heap.size := by simp [World.setCell]
          rw [hsz5]
          simpa using this
        have hbk5 := box_data hbk4 v4
        have e0 : (w4.setCell ⟨w.heap.size, 1, none⟩ v4).cell? ⟨w.heap.size, 0, none⟩ = some (.string f.name) := by rw [cells_of_block hbk5]; rfl
        have e1 : (w4.setCell ⟨w.heap.size, 1, none⟩ v4).cell? ⟨w.heap.size, 1, none⟩ = some v4 := by rw [cells_of_block hbk5]; rfl
        have e2 : (w4.setCell ⟨w.heap.size, 1, none⟩ v4).cell? ⟨w.heap.size, 2, none⟩ = some (.int .i64 (f.safe : Int)) := by rw [cells_of_block hbk5]; rfl
        have k1 := kp ⟨f.name, f.data ++ bl, f.safe⟩ v4 _ hbw5 hB5
        dsimp only at k1
        obtain ⟨a4, c4, e4⟩ := hO4.shape
        rw [List.length_append] at e4
        subst e4
        clear hO4 hO3' hO1 hB5 hbk5 hbk4 hbX4 hD1 kp
        go_wp2_with fail
        refine k1.mono ?_
        rintro e w6 ⟨ov, rfl, hO6, hb6⟩
        go_wp2
        go_ret2
        rw [E.out]
        exact ⟨_, rfl, hO6.fv, hbw5.trans (hb6.mono hbw5.size)⟩
end Go.Proofs.YtljfhafmedngnaaGreatDoor

