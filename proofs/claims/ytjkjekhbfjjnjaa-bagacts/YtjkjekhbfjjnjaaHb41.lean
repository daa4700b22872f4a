import Derived.Test.YtjkjekhbfjjnjaaHb40
/- The law BagActs answers true and leaves all memory as it was: the walk. -/
namespace Go.Proofs.Ytjkjekhbfjjnjaa
open Go.RowKit Go.Maps
set_option maxRecDepth 100000
set_option linter.unusedSimpArgs false
set_option linter.unusedVariables false

set_option maxHeartbeats 16000000 in
theorem acts_law (lv : Value) (acts : List Ac) (w : World) (hAv : Av w lv acts) (hok : ∀ x ∈ acts, AcOk x) :
    Calls Try.prog 3 #[lv] w fun e w' => e = .returned (.bool true) ∧ Below w.heap.size w w' := by
  have k0 := new_of w
  have ka := awake_of
  obtain ⟨al, cl, hlv, -⟩ := id hAv
  have hact : ∀ i (x : Ac), acts[i]? = some x → ∃ b off sa sc, al = some ⟨b, off, none⟩ ∧ ∀ W, Below w.heap.size w W → (W.cell? ⟨b, off + i * 4, none⟩ = some (.int .i64 x.what) ∧ W.cell? ⟨b, off + i * 4 + 1, none⟩ = some (.int .i64 x.a) ∧ W.cell? ⟨b, off + i * 4 + 2, none⟩ = some (.int .i64 x.b) ∧ W.cell? ⟨b, off + i * 4 + 3, none⟩ = some (.slice sa x.data.length sc)) ∧ @Bs keepAll W.heap.size W (.slice sa x.data.length sc) x.data := fun i x hx => by
    obtain ⟨ao, cap, e, h2⟩ := hAv
    rw [hlv] at e
    cases e
    obtain ⟨b, off, vs, r1, ⟨bv, hvs, hBv⟩, r3⟩ := h2 i x hx
    obtain ⟨sa, sc, hbv, -⟩ := id hBv
    subst hbv hvs
    refine ⟨b, off, sa, sc, r1, fun W hW => ?_⟩
    have up : ∀ j u, w.cell? ⟨b, off + i * 4 + j, none⟩ = some u → W.cell? ⟨b, off + i * 4 + j, none⟩ = some u := fun j u hu => (hW.cell (p := ⟨b, off + i * 4 + j, none⟩) (World.block_lt_of_cell? w _ hu)).trans hu
    exact ⟨⟨up 0 _ (r3 0 _ rfl), up 1 _ (r3 1 _ rfl), up 2 _ (r3 2 _ rfl), up 3 _ (r3 3 _ rfl)⟩, @Bs.mono keepAll _ _ _ _ _ (@Bs.below keepAll _ _ _ _ _ hBv hW) hW.size⟩
  go_enter Try.func3, Try.ntmps3
  rw [hlv]
  go_wp2_with fail
  refine k0.mono ?_
  rintro e w1 ⟨p, m, fv, rfl, hA, hM, hb1⟩
  have a1 := (Below.refl w1.heap.size w1).alloc (Nat.le_refl _) (.cells #[.slice none 0 0, .slice none 0 0] 29)
  have hn1 := heap_alloc_new w1 (.cells #[.slice none 0 0, .slice none 0 0] 29)
  obtain ⟨q, hq⟩ : ∃ q, q = w1.heap.size := ⟨_, rfl⟩
  have hS1 : ASt w.heap.size (w1.alloc (.cells #[.slice none 0 0, .slice none 0 0] 29)) p m q [] [] 0 := by
    subst hq
    refine ⟨⟨fv, hA.below a1, hM⟩, ⟨.slice none 0 0, .slice none 0 0, ⟨hn1, Rk.nil _ _ _, Rk.nil _ _ _, by simp⟩, fun k hk => ?_⟩, Nat.le_refl _, Nat.le_refl _⟩
    rcases hk with rfl | h | h
    · exact hb1.size
    · cases h
    · cases h
  have hw1 := hb1.trans (a1.mono hb1.size)
  clear k0 hA hM a1 hn1
  go_wp2
  rw [← hq]
  go_loopg [5] acts.length (fun g s5 wr => ∃ (i : Nat) (l : List Msg) (ps : List (Int × Int)), i + g = acts.length ∧ i ≤ 500 ∧ s5 = .int .i64 (i : Int) ∧ ASt w.heap.size wr p m q l ps i ∧ Below w.heap.size w wr)
  case atStart => exact ⟨0, [], [], by omega, by omega, rfl, hS1, hw1⟩
  case round =>
    obtain ⟨i, l, ps, hig, hi5, rfl, hS, hb⟩ := hrel
    clear hS1 hw1 hq
    by_cases hlt : i < acts.length ∧ i < 500
    · obtain ⟨hlt, h500⟩ := hlt
      have hlti : (i : Int) < (acts.length : Int) := by omega
      have h500i : (i : Int) < 500 := by omega
      obtain ⟨x, hx⟩ : ∃ x, acts[i]? = some x := ⟨acts[i], List.getElem?_eq_getElem hlt⟩
      have hokx := hok x (List.mem_of_getElem? hx)
      obtain ⟨b, off, sa, sc, rfl, hcells⟩ := hact i x hx
      have hbd : Below w.heap.size w wr.drew := hb.drew
      have hcell : ∀ W, Below w.heap.size w W → (fun w' : World => w'.cell? ⟨b, off + i * 4, none⟩ = some (.int .i64 x.what) ∧ w'.cell? ⟨b, off + i * 4 + 1, none⟩ = some (.int .i64 x.a) ∧ w'.cell? ⟨b, off + i * 4 + 2, none⟩ = some (.int .i64 x.b) ∧ w'.cell? ⟨b, off + i * 4 + 3, none⟩ = some (.slice sa x.data.length sc)) W := fun W hW => (hcells W hW).1
      have kdo := does_of (hS.below (Below.refl wr.heap.size wr).drew) hbd.size (by omega) x hokx sa sc (fun W hW => (hcells W (hbd.trans hW)).2)
      clear ka hact hok hAv hS hcells
      go_wp2
      refine wp_region_L (fun w' => w'.cell? ⟨b, off + i * 4, none⟩ = some (.int .i64 x.what) ∧ w'.cell? ⟨b, off + i * 4 + 1, none⟩ = some (.int .i64 x.a) ∧ w'.cell? ⟨b, off + i * 4 + 2, none⟩ = some (.int .i64 x.b) ∧ w'.cell? ⟨b, off + i * 4 + 3, none⟩ = some (.slice sa x.data.length sc)) [] (by kernel_rfl) ?_
      have yS : (fun w' : World => w'.cell? ⟨b, off + i * 4, none⟩ = some (.int .i64 x.what) ∧ w'.cell? ⟨b, off + i * 4 + 1, none⟩ = some (.int .i64 x.a) ∧ w'.cell? ⟨b, off + i * 4 + 2, none⟩ = some (.int .i64 x.b) ∧ w'.cell? ⟨b, off + i * 4 + 3, none⟩ = some (.slice sa x.data.length sc)) wr.drew := hcell _ hbd
      refine wpAnyL_take 0 rfl (by kernel_rfl) (by kernel_rfl) (by kernel_rfl) (by kernel_rfl) (fun _ _ _ h => h) (by kernel_rfl) (by intro w' hS'; obtain ⟨x1, x2, x3, x4⟩ := hS'; go_simp <;> rfl) yS ?_
      try simp only [Act.put, List.setIfInBounds_toArray, List.set_cons_zero, List.set_cons_succ]
      refine wpAnyL_take 1 rfl (by kernel_rfl) (by kernel_rfl) (by kernel_rfl) (by kernel_rfl) (fun _ _ _ h => h) (by kernel_rfl) (by intro w' hS'; obtain ⟨x1, x2, x3, x4⟩ := hS'; go_simp <;> rfl) yS ?_
      try simp only [Act.put, List.setIfInBounds_toArray, List.set_cons_zero, List.set_cons_succ]
      refine wpAnyL_take 2 rfl (by kernel_rfl) (by kernel_rfl) (by kernel_rfl) (by kernel_rfl) (fun _ _ _ h => h) (by kernel_rfl) (by intro w' hS'; obtain ⟨x1, x2, x3, x4⟩ := hS'; go_simp <;> rfl) yS ?_
      try simp only [Act.put, List.setIfInBounds_toArray, List.set_cons_zero, List.set_cons_succ]
      refine wpAnyL_take 3 rfl (by kernel_rfl) (by kernel_rfl) (by kernel_rfl) (by kernel_rfl) (fun _ _ _ h => h) (by kernel_rfl) (by intro w' hS'; obtain ⟨x1, x2, x3, x4⟩ := hS'; go_simp <;> rfl) yS ?_
      try simp only [Act.put, List.setIfInBounds_toArray, List.set_cons_zero, List.set_cons_succ]
      refine wpAnyL_take 4 rfl (by kernel_rfl) (by kernel_rfl) (by kernel_rfl) (by kernel_rfl) (fun _ _ _ h => h) (by kernel_rfl) (by intro w' hS'; obtain ⟨x1, x2, x3, x4⟩ := hS'; go_simp <;> rfl) yS ?_
      try simp only [Act.put, List.setIfInBounds_toArray, List.set_cons_zero, List.set_cons_succ]
      refine wpAnyL_take 5 rfl (by kernel_rfl) (by kernel_rfl) (by kernel_rfl) (by kernel_rfl) (fun _ _ _ h => h) (by kernel_rfl) (by intro w' hS'; obtain ⟨x1, x2, x3, x4⟩ := hS'; go_simp <;> rfl) yS ?_
      try simp only [Act.put, List.setIfInBounds_toArray, List.set_cons_zero, List.set_cons_succ]
      refine wpAnyL_one 6 (by kernel_rfl) rfl (by rfl) ?_
      intro K' hK'
      go_simp
      go_at_call 9
      refine kdo.mono ?_
      rintro e W2 ⟨rfl, l2, ps2, hS2, hbW⟩
      have hw2 := hbd.trans hbW
      refine hK'.out _ _ (.inr (hcell W2 hw2)) ?_
      clear hK' K' yS kdo
      obtain ⟨lv2, pv2, hM2, hMn2⟩ := hS2.mod
      obtain ⟨fv2, hB2, hAn2⟩ := hS2.bag
      obtain ⟨la, lc, hlv2, -⟩ := hM2.lrow.shape
      have q0 := hM2.cells.1
      rw [hlv2] at q0
      obtain ⟨p0, p1, p2⟩ := hB2.cells
      obtain ⟨fa, fc, hfv2, -⟩ := hB2.row.shape
      rw [hfv2] at p0
      have klen := len_of p0 p1
      have kpd := fun W (hW : Below W2.heap.size W2 W) => parted_of (hB2.below hW) x.a x.b hokx.1 hokx.2.1
      have kmp := fun W (hW : Below W2.heap.size W2 W) => mparted_of (hM2.below hW) x.a x.b hokx.1 hokx.2.1 (by have := hS2.lenp; omega)
      rw [mparted_eq] at kmp
      have HSt : Hid (∀ W, Below W2.heap.size W2 W → ASt w.heap.size W p m q l2 ps2 (i + 1) ∧ Below w.heap.size w W) := fun W hW => ⟨hS2.below hW, hw2.trans (hW.mono hw2.size)⟩
      have hcell2 : ∀ W, Below W2.heap.size W2 W → (fun w' : World => w'.cell? ⟨b, off + i * 4, none⟩ = some (.int .i64 x.what) ∧ w'.cell? ⟨b, off + i * 4 + 1, none⟩ = some (.int .i64 x.a) ∧ w'.cell? ⟨b, off + i * 4 + 2, none⟩ = some (.int .i64 x.b) ∧ w'.cell? ⟨b, off + i * 4 + 3, none⟩ = some (.slice sa x.data.length sc) ∧ w'.cell? ⟨q, 0, none⟩ = some (.slice la l2.length lc)) W := fun W hW => by
        obtain ⟨s1, s2, s3, s4⟩ := hcell W (hw2.trans (hW.mono hw2.size))
        exact ⟨s1, s2, s3, s4, (hW.cell (p := ⟨q, 0, none⟩) (hM2.lt q (.inl rfl))).trans q0⟩
      have yS2 := hcell2 W2 (Below.refl _ _)
      generalize partsOf ps2 (lo x.a x.b) (hi x.a x.b) = R at *
      clear hM2 hB2 hS2 hAn2 hMn2 hcell
      refine wpAnyL_mono (S' := fun w' => w'.cell? ⟨b, off + i * 4, none⟩ = some (.int .i64 x.what) ∧ w'.cell? ⟨b, off + i * 4 + 1, none⟩ = some (.int .i64 x.a) ∧ w'.cell? ⟨b, off + i * 4 + 2, none⟩ = some (.int .i64 x.b) ∧ w'.cell? ⟨b, off + i * 4 + 3, none⟩ = some (.slice sa x.data.length sc) ∧ w'.cell? ⟨q, 0, none⟩ = some (.slice la l2.length lc)) (fun w' h => ⟨h.1, h.2.1, h.2.2.1, h.2.2.2.1⟩) _ _ _ _ ?_
      try simp only [Act.put, List.setIfInBounds_toArray, List.set_cons_zero, List.set_cons_succ]
      refine wpAnyL_take 7 rfl (by kernel_rfl) (by kernel_rfl) (by kernel_rfl) (by kernel_rfl) (fun _ _ _ h => h) (by kernel_rfl) (by intro w' hS'; obtain ⟨x1, x2, x3, x4, x5⟩ := hS'; go_simp <;> rfl) yS2 ?_
      try simp only [Act.put, List.setIfInBounds_toArray, List.set_cons_zero, List.set_cons_succ]
      refine wpAnyL_take 8 rfl (by kernel_rfl) (by kernel_rfl) (by kernel_rfl) (by kernel_rfl) (fun _ _ _ h => h) (by kernel_rfl) (by intro w' hS'; obtain ⟨x1, x2, x3, x4, x5⟩ := hS'; go_simp <;> rfl) yS2 ?_
      try simp only [Act.put, List.setIfInBounds_toArray, List.set_cons_zero, List.set_cons_succ]
      refine wpAnyL_take 9 rfl (by kernel_rfl) (by kernel_rfl) (by kernel_rfl) (by kernel_rfl) (fun _ _ _ h => h) (by kernel_rfl) (by intro w' hS'; obtain ⟨x1, x2, x3, x4, x5⟩ := hS'; go_simp <;> rfl) yS2 ?_
      try simp only [Act.put, List.setIfInBounds_toArray, List.set_cons_zero, List.set_cons_succ]
      refine wpAnyL_take 11 rfl (by kernel_rfl) (by kernel_rfl) (by kernel_rfl) (by kernel_rfl) (fun _ _ _ h => h) (by kernel_rfl) (by intro w' hS'; obtain ⟨x1, x2, x3, x4, x5⟩ := hS'; go_simp <;> rfl) yS2 ?_
      try simp only [Act.put, List.setIfInBounds_toArray, List.set_cons_zero, List.set_cons_succ]
      refine wpAnyL_take 12 rfl (by kernel_rfl) (by kernel_rfl) (by kernel_rfl) (by kernel_rfl) (fun _ _ _ h => h) (by kernel_rfl) (by intro w' hS'; obtain ⟨x1, x2, x3, x4, x5⟩ := hS'; go_simp <;> rfl) yS2 ?_
      try simp only [Act.put, List.setIfInBounds_toArray, List.set_cons_zero, List.set_cons_succ]
      refine wpAnyL_take 13 rfl (by kernel_rfl) (by kernel_rfl) (by kernel_rfl) (by kernel_rfl) (fun _ _ _ h => h) (by kernel_rfl) (by intro w' hS'; obtain ⟨x1, x2, x3, x4, x5⟩ := hS'; go_simp <;> rfl) yS2 ?_
      try simp only [Act.put, List.setIfInBounds_toArray, List.set_cons_zero, List.set_cons_succ]
      refine wpAnyL_take 14 rfl (by kernel_rfl) (by kernel_rfl) (by kernel_rfl) (by kernel_rfl) (fun _ _ _ h => h) (by kernel_rfl) (by intro w' hS'; obtain ⟨x1, x2, x3, x4, x5⟩ := hS'; go_simp <;> rfl) yS2 ?_
      try simp only [Act.put, List.setIfInBounds_toArray, List.set_cons_zero, List.set_cons_succ]
      refine wpAnyL_take 15 rfl (by kernel_rfl) (by kernel_rfl) (by kernel_rfl) (by kernel_rfl) (fun _ _ _ h => h) (by kernel_rfl) (by intro w' hS'; obtain ⟨x1, x2, x3, x4, x5⟩ := hS'; go_simp <;> rfl) yS2 ?_
      try simp only [Act.put, List.setIfInBounds_toArray, List.set_cons_zero, List.set_cons_succ]
      refine wpAnyL_one 10 (by kernel_rfl) rfl (by kernel_rfl) ?_
      intro K' hK'
      go_simp
      go_at_call 10
      refine klen.mono ?_
      rintro e wq ⟨rfl, hwq⟩
      rw [hwq]
      clear hwq wq
      refine hK'.out _ _ (.inr yS2) ?_
      clear hK' K' klen
      try simp only [Act.put, List.setIfInBounds_toArray, List.set_cons_zero, List.set_cons_succ]
      refine wpAnyL_take 16 rfl (by kernel_rfl) (by kernel_rfl) (by kernel_rfl) (by kernel_rfl) (fun _ _ _ h => h) (by kernel_rfl) (by intro w' hS'; obtain ⟨x1, x2, x3, x4, x5⟩ := hS'; go_simp <;> rfl) yS2 ?_
      try simp only [Act.put, List.setIfInBounds_toArray, List.set_cons_zero, List.set_cons_succ]
      refine wpAnyL_take 17 rfl (by kernel_rfl) (by kernel_rfl) (by kernel_rfl) (by kernel_rfl) (fun _ _ _ h => h) (by kernel_rfl) (by intro w' hS'; obtain ⟨x1, x2, x3, x4, x5⟩ := hS'; go_simp <;> rfl) yS2 ?_
      try simp only [Act.put, List.setIfInBounds_toArray, List.set_cons_zero, List.set_cons_succ]
      refine wpAnyL_take 18 rfl (by kernel_rfl) (by kernel_rfl) (by kernel_rfl) (by kernel_rfl) (fun _ _ _ h => h) (by kernel_rfl) (by intro w' hS'; obtain ⟨x1, x2, x3, x4, x5⟩ := hS'; go_simp <;> rfl) yS2 ?_
      try simp only [Act.put, List.setIfInBounds_toArray, List.set_cons_zero, List.set_cons_succ]
      refine wpAnyL_take 19 rfl (by kernel_rfl) (by kernel_rfl) (by kernel_rfl) (by kernel_rfl) (fun _ _ _ h => h) (by kernel_rfl) (by intro w' hS'; obtain ⟨x1, x2, x3, x4, x5⟩ := hS'; go_simp <;> rfl) yS2 ?_
      try simp only [Act.put, List.setIfInBounds_toArray, List.set_cons_zero, List.set_cons_succ]
      refine wpAnyL_take 20 rfl (by kernel_rfl) (by kernel_rfl) (by kernel_rfl) (by kernel_rfl) (fun _ _ _ h => h) (by kernel_rfl) (by intro w' hS'; obtain ⟨x1, x2, x3, x4, x5⟩ := hS'; go_simp <;> rfl) yS2 ?_
      try simp only [Act.put, List.setIfInBounds_toArray, List.set_cons_zero, List.set_cons_succ]
      refine wpAnyL_take 21 rfl (by kernel_rfl) (by kernel_rfl) (by kernel_rfl) (by kernel_rfl) (fun _ _ _ h => h) (by kernel_rfl) (by intro w' hS'; obtain ⟨x1, x2, x3, x4, x5⟩ := hS'; go_simp <;> rfl) yS2 ?_
      try simp only [Act.put, List.setIfInBounds_toArray, List.set_cons_zero, List.set_cons_succ]
      refine wpAnyL_take 22 rfl (by kernel_rfl) (by kernel_rfl) (by kernel_rfl) (by kernel_rfl) (fun _ _ _ h => h) (by kernel_rfl) (by intro w' hS'; obtain ⟨x1, x2, x3, x4, x5⟩ := hS'; go_simp <;> rfl) yS2 ?_
      try simp only [Act.put, List.setIfInBounds_toArray, List.set_cons_zero, List.set_cons_succ]
      refine wpAnyL_take 23 rfl (by kernel_rfl) (by kernel_rfl) (by kernel_rfl) (by kernel_rfl) (fun _ _ _ h => h) (by kernel_rfl) (by intro w' hS'; obtain ⟨x1, x2, x3, x4, x5⟩ := hS'; go_simp <;> rfl) yS2 ?_
      try simp only [Act.put, List.setIfInBounds_toArray, List.set_cons_zero, List.set_cons_succ]
      refine wpAnyL_take 24 rfl (by kernel_rfl) (by kernel_rfl) (by kernel_rfl) (by kernel_rfl) (fun _ _ _ h => h) (by kernel_rfl) (by intro w' hS'; obtain ⟨x1, x2, x3, x4, x5⟩ := hS'; go_simp <;> rfl) yS2 ?_
      try simp only [Act.put, List.setIfInBounds_toArray, List.set_cons_zero, List.set_cons_succ]
      refine wpAnyL_take 25 rfl (by kernel_rfl) (by kernel_rfl) (by kernel_rfl) (by kernel_rfl) (fun _ _ _ h => h) (by kernel_rfl) (by intro w' hS'; obtain ⟨x1, x2, x3, x4, x5⟩ := hS'; go_simp <;> rfl) yS2 ?_
      try simp only [Act.put, List.setIfInBounds_toArray, List.set_cons_zero, List.set_cons_succ]
      refine wpAnyL_take 26 rfl (by kernel_rfl) (by kernel_rfl) (by kernel_rfl) (by kernel_rfl) (fun _ _ _ h => h) (by kernel_rfl) (by intro w' hS'; obtain ⟨x1, x2, x3, x4, x5⟩ := hS'; go_simp <;> rfl) yS2 ?_
      try simp only [Act.put, List.setIfInBounds_toArray, List.set_cons_zero, List.set_cons_succ]
      refine wpAnyL_take 27 rfl (by kernel_rfl) (by kernel_rfl) (by kernel_rfl) (by kernel_rfl) (fun _ _ _ h => h) (by kernel_rfl) (by intro w' hS'; obtain ⟨x1, x2, x3, x4, x5⟩ := hS'; go_simp <;> rfl) yS2 ?_
      try simp only [Act.put, List.setIfInBounds_toArray, List.set_cons_zero, List.set_cons_succ]
      refine wpAnyL_take 28 rfl (by kernel_rfl) (by kernel_rfl) (by kernel_rfl) (by kernel_rfl) (fun _ _ _ h => h) (by kernel_rfl) (by intro w' hS'; obtain ⟨x1, x2, x3, x4, x5⟩ := hS'; go_simp <;> rfl) yS2 ?_
      try simp only [Act.put, List.setIfInBounds_toArray, List.set_cons_zero, List.set_cons_succ]
      refine wpAnyL_take 29 rfl (by kernel_rfl) (by kernel_rfl) (by kernel_rfl) (by kernel_rfl) (fun _ _ _ h => h) (by kernel_rfl) (by intro w' hS'; obtain ⟨x1, x2, x3, x4, x5⟩ := hS'; go_simp <;> rfl) yS2 ?_
      try simp only [Act.put, List.setIfInBounds_toArray, List.set_cons_zero, List.set_cons_succ]
      refine wpAnyL_take 31 rfl (by kernel_rfl) (by kernel_rfl) (by kernel_rfl) (by kernel_rfl) (fun _ _ _ h => h) (by kernel_rfl) (by intro w' hS'; obtain ⟨x1, x2, x3, x4, x5⟩ := hS'; go_simp <;> rfl) yS2 ?_
      try simp only [Act.put, List.setIfInBounds_toArray, List.set_cons_zero, List.set_cons_succ]
      refine wpAnyL_take 32 rfl (by kernel_rfl) (by kernel_rfl) (by kernel_rfl) (by kernel_rfl) (fun _ _ _ h => h) (by kernel_rfl) (by intro w' hS'; obtain ⟨x1, x2, x3, x4, x5⟩ := hS'; go_simp <;> rfl) yS2 ?_
      try simp only [Act.put, List.setIfInBounds_toArray, List.set_cons_zero, List.set_cons_succ]
      refine wpAnyL_take 33 rfl (by kernel_rfl) (by kernel_rfl) (by kernel_rfl) (by kernel_rfl) (fun _ _ _ h => h) (by kernel_rfl) (by intro w' hS'; obtain ⟨x1, x2, x3, x4, x5⟩ := hS'; go_simp <;> rfl) yS2 ?_
      try simp only [Act.put, List.setIfInBounds_toArray, List.set_cons_zero, List.set_cons_succ]
      refine wpAnyL_take 34 rfl (by kernel_rfl) (by kernel_rfl) (by kernel_rfl) (by kernel_rfl) (fun _ _ _ h => h) (by kernel_rfl) (by intro w' hS'; obtain ⟨x1, x2, x3, x4, x5⟩ := hS'; go_simp <;> rfl) yS2 ?_
      try simp only [Act.put, List.setIfInBounds_toArray, List.set_cons_zero, List.set_cons_succ]
      refine wpAnyL_take 35 rfl (by kernel_rfl) (by kernel_rfl) (by kernel_rfl) (by kernel_rfl) (fun _ _ _ h => h) (by kernel_rfl) (by intro w' hS'; obtain ⟨x1, x2, x3, x4, x5⟩ := hS'; go_simp <;> rfl) yS2 ?_
      try simp only [Act.put, List.setIfInBounds_toArray, List.set_cons_zero, List.set_cons_succ]
      refine wpAnyL_take 36 rfl (by kernel_rfl) (by kernel_rfl) (by kernel_rfl) (by kernel_rfl) (fun _ _ _ h => h) (by kernel_rfl) (by intro w' hS'; obtain ⟨x1, x2, x3, x4, x5⟩ := hS'; go_simp <;> rfl) yS2 ?_
      try simp only [Act.put, List.setIfInBounds_toArray, List.set_cons_zero, List.set_cons_succ]
      refine wpAnyL_take 37 rfl (by kernel_rfl) (by kernel_rfl) (by kernel_rfl) (by kernel_rfl) (fun _ _ _ h => h) (by kernel_rfl) (by intro w' hS'; obtain ⟨x1, x2, x3, x4, x5⟩ := hS'; go_simp <;> rfl) yS2 ?_
      try simp only [Act.put, List.setIfInBounds_toArray, List.set_cons_zero, List.set_cons_succ]
      refine wpAnyL_take 38 rfl (by kernel_rfl) (by kernel_rfl) (by kernel_rfl) (by kernel_rfl) (fun _ _ _ h => h) (by kernel_rfl) (by intro w' hS'; obtain ⟨x1, x2, x3, x4, x5⟩ := hS'; go_simp <;> rfl) yS2 ?_
      try simp only [Act.put, List.setIfInBounds_toArray, List.set_cons_zero, List.set_cons_succ]
      refine wpAnyL_take 39 rfl (by kernel_rfl) (by kernel_rfl) (by kernel_rfl) (by kernel_rfl) (fun _ _ _ h => h) (by kernel_rfl) (by intro w' hS'; obtain ⟨x1, x2, x3, x4, x5⟩ := hS'; go_simp <;> rfl) yS2 ?_
      try simp only [Act.put, List.setIfInBounds_toArray, List.set_cons_zero, List.set_cons_succ]
      refine wpAnyL_take 40 rfl (by kernel_rfl) (by kernel_rfl) (by kernel_rfl) (by kernel_rfl) (fun _ _ _ h => h) (by kernel_rfl) (by intro w' hS'; obtain ⟨x1, x2, x3, x4, x5⟩ := hS'; go_simp <;> rfl) yS2 ?_
      try simp only [Act.put, List.setIfInBounds_toArray, List.set_cons_zero, List.set_cons_succ]
      refine wpAnyL_take 41 rfl (by kernel_rfl) (by kernel_rfl) (by kernel_rfl) (by kernel_rfl) (fun _ _ _ h => h) (by kernel_rfl) (by intro w' hS'; obtain ⟨x1, x2, x3, x4, x5⟩ := hS'; go_simp <;> rfl) yS2 ?_
      try simp only [Act.put, List.setIfInBounds_toArray, List.set_cons_zero, List.set_cons_succ]
      refine wpAnyL_one 30 (by kernel_rfl) rfl (by kernel_rfl) ?_
      intro K' hK'
      go_simp
      go_at_call 11
      refine (kpd _ (Below.refl _ _)).mono ?_
      rintro e W3 ⟨rfl, hb3⟩
      refine hK'.out _ _ (.inr (hcell2 W3 hb3)) ?_
      clear hK' K'
      try simp only [Act.put, List.setIfInBounds_toArray, List.set_cons_zero, List.set_cons_succ]
      have yS3 := hcell2 W3 hb3
      refine wpAnyL_one 42 (by kernel_rfl) rfl (by kernel_rfl) ?_
      intro K' hK'
      go_simp
      go_at_call 12
      refine (kmp _ hb3).mono ?_
      rintro e wq ⟨rfl, hwq⟩
      rw [hwq]
      clear hwq wq
      refine hK'.out _ _ (.inr (hcell2 _ hb3)) ?_
      clear hK' K'
      try simp only [Act.put, List.setIfInBounds_toArray, List.set_cons_zero, List.set_cons_succ]
      refine wpAnyL_take 43 rfl (by kernel_rfl) (by kernel_rfl) (by kernel_rfl) (by kernel_rfl) (fun _ _ _ h => h) (by kernel_rfl) (by intro w' hS'; obtain ⟨x1, x2, x3, x4, x5⟩ := hS'; go_simp <;> rfl) yS3 ?_
      try simp only [Act.put, List.setIfInBounds_toArray, List.set_cons_zero, List.set_cons_succ]
      refine wpAnyL_take 44 rfl (by kernel_rfl) (by kernel_rfl) (by kernel_rfl) (by kernel_rfl) (fun _ _ _ h => h) (by kernel_rfl) (by intro w' hS'; obtain ⟨x1, x2, x3, x4, x5⟩ := hS'; go_simp <;> rfl) yS3 ?_
      try simp only [Act.put, List.setIfInBounds_toArray, List.set_cons_zero, List.set_cons_succ]
      refine wpAnyL_done (by kernel_rfl) (NoPanic.normal ?_) _
      obtain ⟨hSt3, hb3w⟩ := HSt.out W3 hb3
      have HA : Hid _ := hSt3
      clear hSt3 HSt kpd kmp hcell2 yS2
      go_wp2
      go_roundg (gk - 1)
      case measure => omega
      case rel => exact ⟨i + 1, l2, ps2, by omega, by omega, by go_num, HA.out, hb3w⟩
    · obtain ⟨wE, hwE⟩ : ∃ wE : World, wE = wr := ⟨wr, rfl⟩
      subst hwE
      clear hact hAv
      obtain ⟨lv2, pv2, hM2, hMn2⟩ := hS.mod
      obtain ⟨fv2, hB2, hAn2⟩ := hS.bag
      have hlen := hS.len
      obtain ⟨la, lc, hlv2, hlc, -⟩ := hM2.lrow.shape
      have hq0 : ∀ W, Below wE.heap.size wE W → W.cell? ⟨q, 0, none⟩ = some (.slice la l.length lc) := fun W hW => by
        have := (hM2.below hW).cells.1
        rw [hlv2] at this
        exact this
      have hql := hM2.lt q (.inl rfl)
      have kno : ∀ W (i : Int), Below wE.heap.size wE W → ¬ (0 ≤ i ∧ i < (l.length : Int)) → Calls Try.prog 13 #[.pointer (some ⟨p, 0, none⟩), .int .i64 i] W fun e w' => NoT e ∧ w' = W := fun W i hW hi => look_no (hB2.below hW) i hi
      have kyes : ∀ W (j : Nat) (x : Msg), Below wE.heap.size wE W → l[j]? = some x → MsgOk x ∧ Calls Try.prog 13 #[.pointer (some ⟨p, 0, none⟩), .int .i64 (j : Int)] W (LookT W x) := fun W j x hW hx => ⟨hB2.ok x (List.mem_of_getElem? hx), look_yes (hB2.below hW) j x hx (by omega)⟩
      have hel : ∀ W (j : Nat) (x : Msg), Below wE.heap.size wE W → l[j]? = some x → ∃ g, la = some ⟨g, 0, none⟩ ∧ g < wE.heap.size ∧ W.cell? ⟨g, j * 3, none⟩ = some (.int .i64 x.1) ∧ W.cell? ⟨g, j * 3 + 1, none⟩ = some (.int .i64 x.2.1) ∧ W.cell? ⟨g, j * 3 + 2, none⟩ = some (.string (str x.2.2)) := fun W j x hW hx => by
        obtain ⟨g, cap', e, -, -, -, x0, x1, x2, -⟩ := msg_cells (hM2.below hW).lrow hx
        rw [hlv2] at e
        cases e
        have hg := hM2.lrow.lt (k := g) (by rw [hlv2]; rfl)
        exact ⟨g, rfl, hg, x0, x1, x2⟩
      have hcv0 : ∀ W, (convert 31 9 (.slice none 0 0)).run Try.prog W = .ok (.string ⟨#[]⟩) W := fun W => str_nil W
      have HE : Hid (∀ W, Below wE.heap.size wE W → Below w.heap.size w W) := fun W hW => hb.trans (hW.mono hb.size)
      have hl6 : (l.length : Int) ≤ 500 := by omega
      clear hS hM2 hMn2 hB2 hAn2 hb hlv2
      have hend : ¬ ((i : Int) < (acts.length : Int) ∧ (i : Int) < 500) := by omega
      have hz0 := hq0 wE (Below.refl _ _)
      have hout : (i : Int) < (acts.length : Int) → ¬ (i : Int) < 500 := fun h1 h2 => hend ⟨h1, h2⟩
      clear hlt hend
      by_cases hlt1 : (i : Int) < (acts.length : Int)
      · have h500i := hout hlt1
        clear hout
        go_wp2
        go_loopg [6] (l.length + 2) (fun g s6 W => ∃ k : Int, -1 ≤ k ∧ k + 1 + (g : Int) = (l.length : Int) + 2 ∧ s6 = .int .i64 k ∧ Below wE.heap.size wE W)
        case atStart => exact ⟨-1, by omega, by omega, rfl, Below.refl _ _⟩
        case round =>
          obtain ⟨k, hkl, hkg, rfl, hbW⟩ := hrel
          have z0 := hq0 wr hbW
          have az := (Below.refl wr.heap.size wr).alloc (Nat.le_refl _) (.cells #[.int .i64 0, .int .i64 0, .string ⟨#[]⟩] 39)
          have HB : Hid (Below wE.heap.size wE (wr.alloc (.cells #[.int .i64 0, .int .i64 0, .string ⟨#[]⟩] 39))) := hbW.trans (az.mono hbW.size)
          have hqW : q < wr.heap.size := Nat.lt_of_lt_of_le hql hbW.size
          clear hz0 az
          by_cases hk0 : 0 ≤ k
          · by_cases hk1 : k < (l.length : Int)
            · obtain ⟨j, rfl⟩ : ∃ j : Nat, k = (j : Int) := ⟨k.toNat, by omega⟩
              have hjl : j < l.length := by omega
              obtain ⟨x, hx⟩ : ∃ x, l[j]? = some x := ⟨l[j], List.getElem?_eq_getElem hjl⟩
              obtain ⟨hxok, kl⟩ := kyes wr j x hbW hx
              have k2 : ∀ W2 v, Nb wr.heap.size W2 v x.2.2 → Below wr.heap.size wr W2 → Hid (∃ g va vn vc, la = some ⟨g, 0, none⟩ ∧ v = .slice va vn vc ∧ g < W2.heap.size ∧ q < W2.heap.size ∧ W2.cell? ⟨q, 0, none⟩ = some (.slice la l.length lc) ∧ W2.cell? ⟨g, j * 3, none⟩ = some (.int .i64 x.1) ∧ W2.cell? ⟨g, j * 3 + 1, none⟩ = some (.int .i64 x.2.1) ∧ W2.cell? ⟨g, j * 3 + 2, none⟩ = some (.string (str x.2.2)) ∧ (∀ W3, Below W2.heap.size W2 W3 → (convert 31 9 (.slice va vn vc)).run Try.prog W3 = .ok (.string (str x.2.2)) W3) ∧ Below wE.heap.size wE W2) := fun W2 v hN hb2 => by
                have hbx := hbW.trans (hb2.mono hbW.size)
                obtain ⟨g, e1, hg, x0, x1, x2⟩ := hel W2 j x hbx hx
                obtain ⟨a, c, hv, -⟩ := hN.bs
                exact ⟨g, a, _, c, e1, hv, Nat.lt_of_lt_of_le hg hbx.size, Nat.lt_of_lt_of_le hql hbx.size, hq0 W2 hbx, x0, x1, x2, fun W3 hb3 => @str_of keepAll _ _ _ _ (hv ▸ (hN.below hb3).bs) hxok.2.2.1, hbx⟩
              have hle1 : (j : Int) ≤ (l.length : Int) := by omega
              clear kyes kno hel hq0 ka hx hxok HB
              go_wp2_with (go_at_call 13; refine kl.mono ?_; rintro e W2 ⟨v2, rfl, hN2, hb2⟩; obtain ⟨g, va, vn, vc, rfl, rfl, hgl, hql2, y0, y1, y2, y3, hcv, hb22⟩ := (k2 W2 v2 hN2 hb2).out; have hcv3 := hcv _ ((Below.refl W2.heap.size W2).alloc (Nat.le_refl _) (.cells #[.int .i64 x.1, .int .i64 x.2.1, .string (str x.2.2)] 39)); have HB2 : Hid (Below wE.heap.size wE (W2.alloc (.cells #[.int .i64 x.1, .int .i64 x.2.1, .string (str x.2.2)] 39))) := hb22.trans (((Below.refl W2.heap.size W2).alloc (Nat.le_refl _) _).mono hb22.size); clear hN2 hb2 k2 hb22 hcv; generalize str x.2.2 = sx at *)
              go_roundg (gk - 1)
              case measure => omega
              case rel => exact ⟨(j : Int) + 1, by omega, by omega, rfl, HB2.out⟩
            · by_cases hk2 : k = (l.length : Int)
              · subst hk2
                have kl := kno wr (l.length : Int) hbW (by omega)
                clear kyes kno hel hq0 ka
                go_wp2_with (go_at_call 13; refine kl.mono ?_; rintro e wq ⟨rfl, hwq⟩; rw [hwq]; clear hwq wq)
                go_roundg (gk - 1)
                case measure => omega
                case rel => exact ⟨(l.length : Int) + 1, by omega, by omega, rfl, HB.out⟩
              · have hk3 : ¬ k ≤ (l.length : Int) := by omega
                have ha := ka wr
                have hw := HE.out wr hbW
                clear kyes kno hel hq0 ka HB
                go_wp2_with (go_at_call 14; refine ha.mono ?_; rintro e wq ⟨rfl, hwq⟩)
                go_ret
                exact ⟨rfl, hw.trans (hwq.mono hw.size)⟩
          · obtain rfl : k = -1 := by omega
            have kl := kno wr (-1) hbW (by omega)
            have hle1 : (-1 : Int) ≤ (l.length : Int) := by omega
            clear kyes kno hel hq0 ka
            go_wp2_with (go_at_call 13; refine kl.mono ?_; rintro e wq ⟨rfl, hwq⟩; rw [hwq]; clear hwq wq)
            go_roundg (gk - 1)
            case measure => omega
            case rel => exact ⟨0, by omega, by omega, rfl, HB.out⟩
      · clear hout
        go_wp2
        go_loopg [6] (l.length + 2) (fun g s6 W => ∃ k : Int, -1 ≤ k ∧ k + 1 + (g : Int) = (l.length : Int) + 2 ∧ s6 = .int .i64 k ∧ Below wE.heap.size wE W)
        case atStart => exact ⟨-1, by omega, by omega, rfl, Below.refl _ _⟩
        case round =>
          obtain ⟨k, hkl, hkg, rfl, hbW⟩ := hrel
          have z0 := hq0 wr hbW
          have az := (Below.refl wr.heap.size wr).alloc (Nat.le_refl _) (.cells #[.int .i64 0, .int .i64 0, .string ⟨#[]⟩] 39)
          have HB : Hid (Below wE.heap.size wE (wr.alloc (.cells #[.int .i64 0, .int .i64 0, .string ⟨#[]⟩] 39))) := hbW.trans (az.mono hbW.size)
          have hqW : q < wr.heap.size := Nat.lt_of_lt_of_le hql hbW.size
          clear hz0 az
          by_cases hk0 : 0 ≤ k
          · by_cases hk1 : k < (l.length : Int)
            · obtain ⟨j, rfl⟩ : ∃ j : Nat, k = (j : Int) := ⟨k.toNat, by omega⟩
              have hjl : j < l.length := by omega
              obtain ⟨x, hx⟩ : ∃ x, l[j]? = some x := ⟨l[j], List.getElem?_eq_getElem hjl⟩
              obtain ⟨hxok, kl⟩ := kyes wr j x hbW hx
              have k2 : ∀ W2 v, Nb wr.heap.size W2 v x.2.2 → Below wr.heap.size wr W2 → Hid (∃ g va vn vc, la = some ⟨g, 0, none⟩ ∧ v = .slice va vn vc ∧ g < W2.heap.size ∧ q < W2.heap.size ∧ W2.cell? ⟨q, 0, none⟩ = some (.slice la l.length lc) ∧ W2.cell? ⟨g, j * 3, none⟩ = some (.int .i64 x.1) ∧ W2.cell? ⟨g, j * 3 + 1, none⟩ = some (.int .i64 x.2.1) ∧ W2.cell? ⟨g, j * 3 + 2, none⟩ = some (.string (str x.2.2)) ∧ (∀ W3, Below W2.heap.size W2 W3 → (convert 31 9 (.slice va vn vc)).run Try.prog W3 = .ok (.string (str x.2.2)) W3) ∧ Below wE.heap.size wE W2) := fun W2 v hN hb2 => by
                have hbx := hbW.trans (hb2.mono hbW.size)
                obtain ⟨g, e1, hg, x0, x1, x2⟩ := hel W2 j x hbx hx
                obtain ⟨a, c, hv, -⟩ := hN.bs
                exact ⟨g, a, _, c, e1, hv, Nat.lt_of_lt_of_le hg hbx.size, Nat.lt_of_lt_of_le hql hbx.size, hq0 W2 hbx, x0, x1, x2, fun W3 hb3 => @str_of keepAll _ _ _ _ (hv ▸ (hN.below hb3).bs) hxok.2.2.1, hbx⟩
              have hle1 : (j : Int) ≤ (l.length : Int) := by omega
              clear kyes kno hel hq0 ka hx hxok HB
              go_wp2_with (go_at_call 13; refine kl.mono ?_; rintro e W2 ⟨v2, rfl, hN2, hb2⟩; obtain ⟨g, va, vn, vc, rfl, rfl, hgl, hql2, y0, y1, y2, y3, hcv, hb22⟩ := (k2 W2 v2 hN2 hb2).out; have hcv3 := hcv _ ((Below.refl W2.heap.size W2).alloc (Nat.le_refl _) (.cells #[.int .i64 x.1, .int .i64 x.2.1, .string (str x.2.2)] 39)); have HB2 : Hid (Below wE.heap.size wE (W2.alloc (.cells #[.int .i64 x.1, .int .i64 x.2.1, .string (str x.2.2)] 39))) := hb22.trans (((Below.refl W2.heap.size W2).alloc (Nat.le_refl _) _).mono hb22.size); clear hN2 hb2 k2 hb22 hcv; generalize str x.2.2 = sx at *)
              go_roundg (gk - 1)
              case measure => omega
              case rel => exact ⟨(j : Int) + 1, by omega, by omega, rfl, HB2.out⟩
            · by_cases hk2 : k = (l.length : Int)
              · subst hk2
                have kl := kno wr (l.length : Int) hbW (by omega)
                clear kyes kno hel hq0 ka
                go_wp2_with (go_at_call 13; refine kl.mono ?_; rintro e wq ⟨rfl, hwq⟩; rw [hwq]; clear hwq wq)
                go_roundg (gk - 1)
                case measure => omega
                case rel => exact ⟨(l.length : Int) + 1, by omega, by omega, rfl, HB.out⟩
              · have hk3 : ¬ k ≤ (l.length : Int) := by omega
                have ha := ka wr
                have hw := HE.out wr hbW
                clear kyes kno hel hq0 ka HB
                go_wp2_with (go_at_call 14; refine ha.mono ?_; rintro e wq ⟨rfl, hwq⟩)
                go_ret
                exact ⟨rfl, hw.trans (hwq.mono hw.size)⟩
          · obtain rfl : k = -1 := by omega
            have kl := kno wr (-1) hbW (by omega)
            have hle1 : (-1 : Int) ≤ (l.length : Int) := by omega
            clear kyes kno hel hq0 ka
            go_wp2_with (go_at_call 13; refine kl.mono ?_; rintro e wq ⟨rfl, hwq⟩; rw [hwq]; clear hwq wq)
            go_roundg (gk - 1)
            case measure => omega
            case rel => exact ⟨0, by omega, by omega, rfl, HB.out⟩
end Go.Proofs.Ytjkjekhbfjjnjaa

