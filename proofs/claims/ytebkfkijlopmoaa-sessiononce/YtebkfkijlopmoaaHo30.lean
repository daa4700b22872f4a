import Derived.Test.YtebkfkijlopmoaaHo28
/- The program's Check; the document's May. -/
namespace Go.Proofs.Ytebkfkijlopmoaa
open Go.RowKit SessionMath
set_option maxRecDepth 100000
set_option linter.unusedSimpArgs false
set_option linter.unusedVariables false

theorem keep_step {n : Nat} {w W w' : World} (h1 : Below n w W) (hn : n ≤ w.heap.size) (h2 : Below W.heap.size W w') : Below n w w' := h1.trans (h2.mono (Nat.le_trans hn h1.size))
set_option maxHeartbeats 4000000 in
theorem check_of (zs : List Sz) (lv : Value) (w : World) (hL : SeatsV w lv zs) (hlen : zs.length ≤ 1000000) : Calls Try.prog 11 #[lv] w fun e w' => e = .returned (.int .i64 (if mayB (mes zs) then 0 else 1)) ∧ Below w.heap.size w w' := by
  obtain ⟨B, HB⟩ : ∃ B : Int, Hid (B = if walk (prev (mes zs) 0) ((mes zs).drop 0) then 0 else 1) := ⟨_, rfl⟩
  have HB0 : B = if mayB (mes zs) then 0 else 1 := HB.out
  rw [← HB0]
  clear HB0
  have HL : Hid (SeatsV w lv zs) := hL
  obtain ⟨ao, cap, rfl, -, -⟩ := hL.1.shape
  clear hL
  go_enter Try.func11, Try.ntmps11
  go_wp2
  go_loopg [7] zs.length (fun g s7 wr => ∃ i : Nat, i + g = zs.length ∧ s7 = .int .i64 (i : Int) ∧ Below w.heap.size w wr ∧ Hid (B = if walk (prev (mes zs) i) ((mes zs).drop i) then 0 else 1))
  case atStart => exact ⟨0, by simp, rfl, Below.refl _ _, HB⟩
  case round =>
    obtain ⟨i, hig, rfl, hb, HP⟩ := hrel
    by_cases hlt : i < zs.length
    · have hlti : (i : Int) < (zs.length : Int) := by omega
      have hx : zs[i]? = some zs[i] := List.getElem?_eq_getElem hlt
      obtain ⟨z, hzz⟩ : ∃ z, z = zs[i] := ⟨_, rfl⟩
      rw [← hzz] at hx
      clear hzz
      obtain ⟨b, off, rfl, cc⟩ := rds_at HL.out.1 hx
      obtain ⟨c0, c1, c2⟩ := cc wr hb
      have hxH : Hid ((mes zs)[i]? = some z.1) := mes_at hx
      have hzl := (HL.out.2 z (List.mem_of_getElem? hx)).len
      obtain ⟨⟨c, q, r⟩, sa, sn, sc⟩ := z
      dsimp only at *
      subst hzl
      clear hx cc
      obtain ⟨hsz, hbb, cl0⟩ := st_box wr (⟨c, q, r⟩, sa, r.length, sc)
      dsimp only [ec] at hsz hbb cl0
      go_wp2
      generalize hwb : wr.alloc (.cells #[.int .i64 c, .int .u64 (q : Int), .slice sa r.length sc] 49) = wb at *
      clear hwb
      have hbw : ∀ W, Below (wr.heap.size + 1) wb W → Below w.heap.size w W := fun W hW => hb.trans ((hbb.trans (hW.mono (Nat.le_succ _))).mono hb.size)
      have cl : ∀ W, Below (wr.heap.size + 1) wb W → W.cell? ⟨wr.heap.size, 0, none⟩ = some (.int .i64 c) ∧ W.cell? ⟨wr.heap.size, 1, none⟩ = some (.int .u64 (q : Int)) ∧ W.cell? ⟨wr.heap.size, 2, none⟩ = some (.slice sa r.length sc) := cl0
      have kst : ∀ W w', Below (wr.heap.size + 1) wb W → Below W.heap.size W w' → Below (wr.heap.size + 1) wb w' := fun W w' h1 h2 => keep_step h1 (Nat.le_of_eq hsz.symm) h2
      clear c0 c1 c2 cl0
      cases hm : seatB ⟨c, q, r⟩ with
      | false =>
        have E : Hid (B = 1) := by show _ = _; rw [HP.out, walk_at hxH.out, hm]; simp
        have kc : ∀ W, (fun W => (W.cell? ⟨wr.heap.size, 0, none⟩ = some (.int .i64 c) ∧ W.cell? ⟨wr.heap.size, 1, none⟩ = some (.int .u64 (q : Int)) ∧ W.cell? ⟨wr.heap.size, 2, none⟩ = some (.slice sa r.length sc)) ∧ Below (wr.heap.size + 1) wb W) W → Calls Try.prog 20 #[.agg #[.int .i64 c, .int .u64 (q : Int), .slice sa r.length sc]] W fun e w' => e = .returned (.bool false) ∧ (fun W => (W.cell? ⟨wr.heap.size, 0, none⟩ = some (.int .i64 c) ∧ W.cell? ⟨wr.heap.size, 1, none⟩ = some (.int .u64 (q : Int)) ∧ W.cell? ⟨wr.heap.size, 2, none⟩ = some (.slice sa r.length sc)) ∧ Below (wr.heap.size + 1) wb W) w' := fun W hW => by
          refine (mayBe_of (⟨c, q, r⟩, sa, r.length, sc) W rfl).mono ?_
          rintro e w' ⟨rfl, hb'⟩
          exact ⟨by rw [hm], cl w' (kst W w' hW.2 hb'), kst W w' hW.2 hb'⟩
        have hS0 : (fun W => (W.cell? ⟨wr.heap.size, 0, none⟩ = some (.int .i64 c) ∧ W.cell? ⟨wr.heap.size, 1, none⟩ = some (.int .u64 (q : Int)) ∧ W.cell? ⟨wr.heap.size, 2, none⟩ = some (.slice sa r.length sc)) ∧ Below (wr.heap.size + 1) wb W) wb.drew := ⟨cl _ (Below.refl _ wb).drew, (Below.refl _ wb).drew⟩
        clear HP hm kst cl hxH HL hsz hbb HB
        refine wp_region_L (fun W => (W.cell? ⟨wr.heap.size, 0, none⟩ = some (.int .i64 c) ∧ W.cell? ⟨wr.heap.size, 1, none⟩ = some (.int .u64 (q : Int)) ∧ W.cell? ⟨wr.heap.size, 2, none⟩ = some (.slice sa r.length sc)) ∧ Below (wr.heap.size + 1) wb W) [] (by kernel_rfl) ?_
        have yS : (fun W => (W.cell? ⟨wr.heap.size, 0, none⟩ = some (.int .i64 c) ∧ W.cell? ⟨wr.heap.size, 1, none⟩ = some (.int .u64 (q : Int)) ∧ W.cell? ⟨wr.heap.size, 2, none⟩ = some (.slice sa r.length sc)) ∧ Below (wr.heap.size + 1) wb W) wb.drew := hS0
        refine wpAnyL_take 0 rfl (by kernel_rfl) (by kernel_rfl) (by kernel_rfl) (by kernel_rfl) (fun _ _ _ h => h) (by kernel_rfl) (by intro w' hS'; obtain ⟨⟨x0, x1, x2⟩, xb⟩ := hS'; go_simp <;> rfl) yS ?_
        try simp only [List.getElem_toArray, List.getElem_cons_succ, List.getElem_cons_zero, Act.put, List.setIfInBounds_toArray, List.set_cons_zero, List.set_cons_succ]
        refine wpAnyL_one 1 (by kernel_rfl) rfl (by kernel_rfl) ?_
        intro K' hK'
        go_simp
        go_at_call 20
        refine (kc _ yS).mono ?_
        rintro e W1 ⟨rfl, hS1⟩
        refine hK'.out _ _ (.inr hS1) ?_
        clear hK' K'
        try simp only [List.getElem_toArray, List.getElem_cons_succ, List.getElem_cons_zero, Act.put, List.setIfInBounds_toArray, List.set_cons_zero, List.set_cons_succ]
        refine wpAnyL_take 2 rfl (by kernel_rfl) (by kernel_rfl) (by kernel_rfl) (by kernel_rfl) (fun _ _ _ h => h) (by kernel_rfl) (by intro w' hS'; obtain ⟨⟨x0, x1, x2⟩, xb⟩ := hS'; go_simp <;> rfl) hS1 ?_
        try simp only [List.getElem_toArray, List.getElem_cons_succ, List.getElem_cons_zero, Act.put, List.setIfInBounds_toArray, List.set_cons_zero, List.set_cons_succ]
        refine wpAnyL_take 3 rfl (by kernel_rfl) (by kernel_rfl) (by kernel_rfl) (by kernel_rfl) (fun _ _ _ h => h) (by kernel_rfl) (by intro w' hS'; obtain ⟨⟨x0, x1, x2⟩, xb⟩ := hS'; go_simp <;> rfl) hS1 ?_
        try simp only [List.getElem_toArray, List.getElem_cons_succ, List.getElem_cons_zero, Act.put, List.setIfInBounds_toArray, List.set_cons_zero, List.set_cons_succ]
        refine wpAnyL_skip 4 rfl (by kernel_rfl) (by kernel_rfl) (by kernel_rfl) (by kernel_rfl) (fun _ _ _ h => h) (by kernel_rfl) hS1 ?_
        try simp only [List.getElem_toArray, List.getElem_cons_succ, List.getElem_cons_zero, Act.put, List.setIfInBounds_toArray, List.set_cons_zero, List.set_cons_succ]
        refine wpAnyL_skip 5 rfl (by kernel_rfl) (by kernel_rfl) (by kernel_rfl) (by kernel_rfl) (fun _ _ _ h => h) (by kernel_rfl) hS1 ?_
        try simp only [List.getElem_toArray, List.getElem_cons_succ, List.getElem_cons_zero, Act.put, List.setIfInBounds_toArray, List.set_cons_zero, List.set_cons_succ]
        refine wpAnyL_skip 6 rfl (by kernel_rfl) (by kernel_rfl) (by kernel_rfl) (by kernel_rfl) (fun _ _ _ h => h) (by kernel_rfl) hS1 ?_
        try simp only [List.getElem_toArray, List.getElem_cons_succ, List.getElem_cons_zero, Act.put, List.setIfInBounds_toArray, List.set_cons_zero, List.set_cons_succ]
        refine wpAnyL_skip 7 rfl (by kernel_rfl) (by kernel_rfl) (by kernel_rfl) (by kernel_rfl) (fun _ _ _ h => h) (by kernel_rfl) hS1 ?_
        try simp only [List.getElem_toArray, List.getElem_cons_succ, List.getElem_cons_zero, Act.put, List.setIfInBounds_toArray, List.set_cons_zero, List.set_cons_succ]
        refine wpAnyL_skip 8 rfl (by kernel_rfl) (by kernel_rfl) (by kernel_rfl) (by kernel_rfl) (fun _ _ _ h => h) (by kernel_rfl) hS1 ?_
        try simp only [List.getElem_toArray, List.getElem_cons_succ, List.getElem_cons_zero, Act.put, List.setIfInBounds_toArray, List.set_cons_zero, List.set_cons_succ]
        refine wpAnyL_skip 9 rfl (by kernel_rfl) (by kernel_rfl) (by kernel_rfl) (by kernel_rfl) (fun _ _ _ h => h) (by kernel_rfl) hS1 ?_
        try simp only [List.getElem_toArray, List.getElem_cons_succ, List.getElem_cons_zero, Act.put, List.setIfInBounds_toArray, List.set_cons_zero, List.set_cons_succ]
        refine wpAnyL_skip 10 rfl (by kernel_rfl) (by kernel_rfl) (by kernel_rfl) (by kernel_rfl) (fun _ _ _ h => h) (by kernel_rfl) hS1 ?_
        try simp only [List.getElem_toArray, List.getElem_cons_succ, List.getElem_cons_zero, Act.put, List.setIfInBounds_toArray, List.set_cons_zero, List.set_cons_succ]
        refine wpAnyL_skip 11 rfl (by kernel_rfl) (by kernel_rfl) (by kernel_rfl) (by kernel_rfl) (fun _ _ _ h => h) (by kernel_rfl) hS1 ?_
        try simp only [List.getElem_toArray, List.getElem_cons_succ, List.getElem_cons_zero, Act.put, List.setIfInBounds_toArray, List.set_cons_zero, List.set_cons_succ]
        refine wpAnyL_skip 12 rfl (by kernel_rfl) (by kernel_rfl) (by kernel_rfl) (by kernel_rfl) (fun _ _ _ h => h) (by kernel_rfl) hS1 ?_
        try simp only [List.getElem_toArray, List.getElem_cons_succ, List.getElem_cons_zero, Act.put, List.setIfInBounds_toArray, List.set_cons_zero, List.set_cons_succ]
        refine wpAnyL_skip 13 rfl (by kernel_rfl) (by kernel_rfl) (by kernel_rfl) (by kernel_rfl) (fun _ _ _ h => h) (by kernel_rfl) hS1 ?_
        try simp only [List.getElem_toArray, List.getElem_cons_succ, List.getElem_cons_zero, Act.put, List.setIfInBounds_toArray, List.set_cons_zero, List.set_cons_succ]
        refine wpAnyL_skip 14 rfl (by kernel_rfl) (by kernel_rfl) (by kernel_rfl) (by kernel_rfl) (fun _ _ _ h => h) (by kernel_rfl) hS1 ?_
        try simp only [List.getElem_toArray, List.getElem_cons_succ, List.getElem_cons_zero, Act.put, List.setIfInBounds_toArray, List.set_cons_zero, List.set_cons_succ]
        refine wpAnyL_skip 15 rfl (by kernel_rfl) (by kernel_rfl) (by kernel_rfl) (by kernel_rfl) (fun _ _ _ h => h) (by kernel_rfl) hS1 ?_
        try simp only [List.getElem_toArray, List.getElem_cons_succ, List.getElem_cons_zero, Act.put, List.setIfInBounds_toArray, List.set_cons_zero, List.set_cons_succ]
        refine wpAnyL_skip 16 rfl (by kernel_rfl) (by kernel_rfl) (by kernel_rfl) (by kernel_rfl) (fun _ _ _ h => h) (by kernel_rfl) hS1 ?_
        try simp only [List.getElem_toArray, List.getElem_cons_succ, List.getElem_cons_zero, Act.put, List.setIfInBounds_toArray, List.set_cons_zero, List.set_cons_succ]
        refine wpAnyL_take 17 rfl (by kernel_rfl) (by kernel_rfl) (by kernel_rfl) (by kernel_rfl) (fun _ _ _ h => h) (by kernel_rfl) (by intro w' hS'; obtain ⟨⟨x0, x1, x2⟩, xb⟩ := hS'; go_simp <;> rfl) hS1 ?_
        try simp only [List.getElem_toArray, List.getElem_cons_succ, List.getElem_cons_zero, Act.put, List.setIfInBounds_toArray, List.set_cons_zero, List.set_cons_succ]
        refine wpAnyL_done (by kernel_rfl) (NoPanic.normal ?_) _
        go_wp2
        go_ret
        exact ⟨by rw [E.out]; rfl, hbw _ hS1.2⟩
      | true =>
        by_cases hi0 : i = 0
        · subst hi0
          have HN : Hid (B = if walk (prev (mes zs) (0 + 1)) ((mes zs).drop (0 + 1)) then 0 else 1) := by show _ = _; rw [HP.out, walk_at hxH.out, hm, prev_succ hxH.out]; simp [prev, lnk]
          have kc : ∀ W, (fun W => (W.cell? ⟨wr.heap.size, 0, none⟩ = some (.int .i64 c) ∧ W.cell? ⟨wr.heap.size, 1, none⟩ = some (.int .u64 (q : Int)) ∧ W.cell? ⟨wr.heap.size, 2, none⟩ = some (.slice sa r.length sc)) ∧ Below (wr.heap.size + 1) wb W) W → Calls Try.prog 20 #[.agg #[.int .i64 c, .int .u64 (q : Int), .slice sa r.length sc]] W fun e w' => e = .returned (.bool true) ∧ (fun W => (W.cell? ⟨wr.heap.size, 0, none⟩ = some (.int .i64 c) ∧ W.cell? ⟨wr.heap.size, 1, none⟩ = some (.int .u64 (q : Int)) ∧ W.cell? ⟨wr.heap.size, 2, none⟩ = some (.slice sa r.length sc)) ∧ Below (wr.heap.size + 1) wb W) w' := fun W hW => by
            refine (mayBe_of (⟨c, q, r⟩, sa, r.length, sc) W rfl).mono ?_
            rintro e w' ⟨rfl, hb'⟩
            exact ⟨by rw [hm], cl w' (kst W w' hW.2 hb'), kst W w' hW.2 hb'⟩
          have hS0 : (fun W => (W.cell? ⟨wr.heap.size, 0, none⟩ = some (.int .i64 c) ∧ W.cell? ⟨wr.heap.size, 1, none⟩ = some (.int .u64 (q : Int)) ∧ W.cell? ⟨wr.heap.size, 2, none⟩ = some (.slice sa r.length sc)) ∧ Below (wr.heap.size + 1) wb W) wb.drew := ⟨cl _ (Below.refl _ wb).drew, (Below.refl _ wb).drew⟩
          clear HP hm kst cl hxH HL hsz hbb HB
          refine wp_region_L (fun W => (W.cell? ⟨wr.heap.size, 0, none⟩ = some (.int .i64 c) ∧ W.cell? ⟨wr.heap.size, 1, none⟩ = some (.int .u64 (q : Int)) ∧ W.cell? ⟨wr.heap.size, 2, none⟩ = some (.slice sa r.length sc)) ∧ Below (wr.heap.size + 1) wb W) [] (by kernel_rfl) ?_
          have yS : (fun W => (W.cell? ⟨wr.heap.size, 0, none⟩ = some (.int .i64 c) ∧ W.cell? ⟨wr.heap.size, 1, none⟩ = some (.int .u64 (q : Int)) ∧ W.cell? ⟨wr.heap.size, 2, none⟩ = some (.slice sa r.length sc)) ∧ Below (wr.heap.size + 1) wb W) wb.drew := hS0
          refine wpAnyL_take 0 rfl (by kernel_rfl) (by kernel_rfl) (by kernel_rfl) (by kernel_rfl) (fun _ _ _ h => h) (by kernel_rfl) (by intro w' hS'; obtain ⟨⟨x0, x1, x2⟩, xb⟩ := hS'; go_simp <;> rfl) yS ?_
          try simp only [List.getElem_toArray, List.getElem_cons_succ, List.getElem_cons_zero, Act.put, List.setIfInBounds_toArray, List.set_cons_zero, List.set_cons_succ]
          refine wpAnyL_one 1 (by kernel_rfl) rfl (by kernel_rfl) ?_
          intro K' hK'
          go_simp
          go_at_call 20
          refine (kc _ yS).mono ?_
          rintro e W1 ⟨rfl, hS1⟩
          refine hK'.out _ _ (.inr hS1) ?_
          clear hK' K'
          try simp only [List.getElem_toArray, List.getElem_cons_succ, List.getElem_cons_zero, Act.put, List.setIfInBounds_toArray, List.set_cons_zero, List.set_cons_succ]
          refine wpAnyL_take 2 rfl (by kernel_rfl) (by kernel_rfl) (by kernel_rfl) (by kernel_rfl) (fun _ _ _ h => h) (by kernel_rfl) (by intro w' hS'; obtain ⟨⟨x0, x1, x2⟩, xb⟩ := hS'; go_simp <;> rfl) hS1 ?_
          try simp only [List.getElem_toArray, List.getElem_cons_succ, List.getElem_cons_zero, Act.put, List.setIfInBounds_toArray, List.set_cons_zero, List.set_cons_succ]
          refine wpAnyL_take 3 rfl (by kernel_rfl) (by kernel_rfl) (by kernel_rfl) (by kernel_rfl) (fun _ _ _ h => h) (by kernel_rfl) (by intro w' hS'; obtain ⟨⟨x0, x1, x2⟩, xb⟩ := hS'; go_simp <;> rfl) hS1 ?_
          try simp only [List.getElem_toArray, List.getElem_cons_succ, List.getElem_cons_zero, Act.put, List.setIfInBounds_toArray, List.set_cons_zero, List.set_cons_succ]
          refine wpAnyL_take 4 rfl (by kernel_rfl) (by kernel_rfl) (by kernel_rfl) (by kernel_rfl) (fun _ _ _ h => h) (by kernel_rfl) (by intro w' hS'; obtain ⟨⟨x0, x1, x2⟩, xb⟩ := hS'; go_simp <;> rfl) hS1 ?_
          try simp only [List.getElem_toArray, List.getElem_cons_succ, List.getElem_cons_zero, Act.put, List.setIfInBounds_toArray, List.set_cons_zero, List.set_cons_succ]
          refine wpAnyL_take 5 rfl (by kernel_rfl) (by kernel_rfl) (by kernel_rfl) (by kernel_rfl) (fun _ _ _ h => h) (by kernel_rfl) (by intro w' hS'; obtain ⟨⟨x0, x1, x2⟩, xb⟩ := hS'; go_simp <;> rfl) hS1 ?_
          try simp only [List.getElem_toArray, List.getElem_cons_succ, List.getElem_cons_zero, Act.put, List.setIfInBounds_toArray, List.set_cons_zero, List.set_cons_succ]
          refine wpAnyL_take 6 rfl (by kernel_rfl) (by kernel_rfl) (by kernel_rfl) (by kernel_rfl) (fun _ _ _ h => h) (by kernel_rfl) (by intro w' hS'; obtain ⟨⟨x0, x1, x2⟩, xb⟩ := hS'; go_simp <;> rfl) hS1 ?_
          try simp only [List.getElem_toArray, List.getElem_cons_succ, List.getElem_cons_zero, Act.put, List.setIfInBounds_toArray, List.set_cons_zero, List.set_cons_succ]
          refine wpAnyL_skip 7 rfl (by kernel_rfl) (by kernel_rfl) (by kernel_rfl) (by kernel_rfl) (fun _ _ _ h => h) (by kernel_rfl) hS1 ?_
          try simp only [List.getElem_toArray, List.getElem_cons_succ, List.getElem_cons_zero, Act.put, List.setIfInBounds_toArray, List.set_cons_zero, List.set_cons_succ]
          refine wpAnyL_skip 8 rfl (by kernel_rfl) (by kernel_rfl) (by kernel_rfl) (by kernel_rfl) (fun _ _ _ h => h) (by kernel_rfl) hS1 ?_
          try simp only [List.getElem_toArray, List.getElem_cons_succ, List.getElem_cons_zero, Act.put, List.setIfInBounds_toArray, List.set_cons_zero, List.set_cons_succ]
          refine wpAnyL_skip 9 rfl (by kernel_rfl) (by kernel_rfl) (by kernel_rfl) (by kernel_rfl) (fun _ _ _ h => h) (by kernel_rfl) hS1 ?_
          try simp only [List.getElem_toArray, List.getElem_cons_succ, List.getElem_cons_zero, Act.put, List.setIfInBounds_toArray, List.set_cons_zero, List.set_cons_succ]
          refine wpAnyL_skip 10 rfl (by kernel_rfl) (by kernel_rfl) (by kernel_rfl) (by kernel_rfl) (fun _ _ _ h => h) (by kernel_rfl) hS1 ?_
          try simp only [List.getElem_toArray, List.getElem_cons_succ, List.getElem_cons_zero, Act.put, List.setIfInBounds_toArray, List.set_cons_zero, List.set_cons_succ]
          refine wpAnyL_skip 11 rfl (by kernel_rfl) (by kernel_rfl) (by kernel_rfl) (by kernel_rfl) (fun _ _ _ h => h) (by kernel_rfl) hS1 ?_
          try simp only [List.getElem_toArray, List.getElem_cons_succ, List.getElem_cons_zero, Act.put, List.setIfInBounds_toArray, List.set_cons_zero, List.set_cons_succ]
          refine wpAnyL_skip 12 rfl (by kernel_rfl) (by kernel_rfl) (by kernel_rfl) (by kernel_rfl) (fun _ _ _ h => h) (by kernel_rfl) hS1 ?_
          try simp only [List.getElem_toArray, List.getElem_cons_succ, List.getElem_cons_zero, Act.put, List.setIfInBounds_toArray, List.set_cons_zero, List.set_cons_succ]
          refine wpAnyL_skip 13 rfl (by kernel_rfl) (by kernel_rfl) (by kernel_rfl) (by kernel_rfl) (fun _ _ _ h => h) (by kernel_rfl) hS1 ?_
          try simp only [List.getElem_toArray, List.getElem_cons_succ, List.getElem_cons_zero, Act.put, List.setIfInBounds_toArray, List.set_cons_zero, List.set_cons_succ]
          refine wpAnyL_skip 14 rfl (by kernel_rfl) (by kernel_rfl) (by kernel_rfl) (by kernel_rfl) (fun _ _ _ h => h) (by kernel_rfl) hS1 ?_
          try simp only [List.getElem_toArray, List.getElem_cons_succ, List.getElem_cons_zero, Act.put, List.setIfInBounds_toArray, List.set_cons_zero, List.set_cons_succ]
          refine wpAnyL_skip 15 rfl (by kernel_rfl) (by kernel_rfl) (by kernel_rfl) (by kernel_rfl) (fun _ _ _ h => h) (by kernel_rfl) hS1 ?_
          try simp only [List.getElem_toArray, List.getElem_cons_succ, List.getElem_cons_zero, Act.put, List.setIfInBounds_toArray, List.set_cons_zero, List.set_cons_succ]
          refine wpAnyL_take 16 rfl (by kernel_rfl) (by kernel_rfl) (by kernel_rfl) (by kernel_rfl) (fun _ _ _ h => h) (by kernel_rfl) (by intro w' hS'; obtain ⟨⟨x0, x1, x2⟩, xb⟩ := hS'; go_simp <;> rfl) hS1 ?_
          try simp only [List.getElem_toArray, List.getElem_cons_succ, List.getElem_cons_zero, Act.put, List.setIfInBounds_toArray, List.set_cons_zero, List.set_cons_succ]
          refine wpAnyL_take 17 rfl (by kernel_rfl) (by kernel_rfl) (by kernel_rfl) (by kernel_rfl) (fun _ _ _ h => h) (by kernel_rfl) (by intro w' hS'; obtain ⟨⟨x0, x1, x2⟩, xb⟩ := hS'; go_simp <;> rfl) hS1 ?_
          try simp only [List.getElem_toArray, List.getElem_cons_succ, List.getElem_cons_zero, Act.put, List.setIfInBounds_toArray, List.set_cons_zero, List.set_cons_succ]
          refine wpAnyL_done (by kernel_rfl) (NoPanic.normal ?_) _
          go_wp2
          go_roundg (gk - 1)
          case measure => omega
          case rel => exact ⟨0 + 1, by omega, by go_num, hbw _ hS1.2, HN⟩
        · have hi0i : (0 : Int) < (i : Int) := by omega
          have hi0n : 0 < i := by omega
          have hi1 : (1 : Int) ≤ (i : Int) := by omega
          have hi1n : 1 ≤ i := by omega
          have hr : zs[i - 1]? = some zs[i - 1] := List.getElem?_eq_getElem (by omega)
          obtain ⟨p, hp⟩ : ∃ p, p = zs[i - 1] := ⟨_, rfl⟩
          rw [← hp] at hr
          clear hp
          obtain ⟨b', off', e', cp⟩ := rds_at HL.out.1 hr
          cases e'
          have hpv : Hid (prev (mes zs) i = some p.1) := by show _ = _; unfold prev; rw [if_neg hi0]; exact mes_at hr
          obtain ⟨⟨pc, pq, pr⟩, psl⟩ := p
          dsimp only at cp hpv
          replace cl : ∀ W, Below (wr.heap.size + 1) wb W → W.cell? ⟨wr.heap.size, 0, none⟩ = some (.int .i64 c) ∧ W.cell? ⟨wr.heap.size, 1, none⟩ = some (.int .u64 (q : Int)) ∧ W.cell? ⟨wr.heap.size, 2, none⟩ = some (.slice sa r.length sc) ∧ W.cell? ⟨b, off + (i - 1) * 3, none⟩ = some (.int .i64 pc) := fun W hW => ⟨(cl W hW).1, (cl W hW).2.1, (cl W hW).2.2, (cp W (hbw W hW)).1⟩
          have j1 : IntKind.i64.wrap ((i : Int) - 1) = (i : Int) - 1 := IntWalk.i64_in _ (by omega)
          have j2 : (0 : Int) ≤ (i : Int) - 1 := by omega
          have j3 : (i : Int) - 1 < (zs.length : Int) := by omega
          have j4 : ((i : Int) - 1).toNat = i - 1 := by omega
          clear hr cp
          by_cases hcc : pc < c
          · have HN : Hid (B = if walk (prev (mes zs) (i + 1)) ((mes zs).drop (i + 1)) then 0 else 1) := by show _ = _; rw [HP.out, walk_at hxH.out, hm, hpv.out, prev_succ hxH.out]; simp [lnk, hcc]
            have hcd : ¬ c ≤ pc := by omega
            have hcd2 : decide (c ≤ pc) = false := decide_eq_false hcd
            have kc : ∀ W, (fun W => (W.cell? ⟨wr.heap.size, 0, none⟩ = some (.int .i64 c) ∧ W.cell? ⟨wr.heap.size, 1, none⟩ = some (.int .u64 (q : Int)) ∧ W.cell? ⟨wr.heap.size, 2, none⟩ = some (.slice sa r.length sc) ∧ W.cell? ⟨b, off + (i - 1) * 3, none⟩ = some (.int .i64 pc)) ∧ Below (wr.heap.size + 1) wb W) W → Calls Try.prog 20 #[.agg #[.int .i64 c, .int .u64 (q : Int), .slice sa r.length sc]] W fun e w' => e = .returned (.bool true) ∧ (fun W => (W.cell? ⟨wr.heap.size, 0, none⟩ = some (.int .i64 c) ∧ W.cell? ⟨wr.heap.size, 1, none⟩ = some (.int .u64 (q : Int)) ∧ W.cell? ⟨wr.heap.size, 2, none⟩ = some (.slice sa r.length sc) ∧ W.cell? ⟨b, off + (i - 1) * 3, none⟩ = some (.int .i64 pc)) ∧ Below (wr.heap.size + 1) wb W) w' := fun W hW => by
              refine (mayBe_of (⟨c, q, r⟩, sa, r.length, sc) W rfl).mono ?_
              rintro e w' ⟨rfl, hb'⟩
              exact ⟨by rw [hm], cl w' (kst W w' hW.2 hb'), kst W w' hW.2 hb'⟩
            have hS0 : (fun W => (W.cell? ⟨wr.heap.size, 0, none⟩ = some (.int .i64 c) ∧ W.cell? ⟨wr.heap.size, 1, none⟩ = some (.int .u64 (q : Int)) ∧ W.cell? ⟨wr.heap.size, 2, none⟩ = some (.slice sa r.length sc) ∧ W.cell? ⟨b, off + (i - 1) * 3, none⟩ = some (.int .i64 pc)) ∧ Below (wr.heap.size + 1) wb W) wb.drew := ⟨cl _ (Below.refl _ wb).drew, (Below.refl _ wb).drew⟩
            clear HP hm kst cl hxH HL hsz hbb HB
            clear hpv hi0
            refine wp_region_L (fun W => (W.cell? ⟨wr.heap.size, 0, none⟩ = some (.int .i64 c) ∧ W.cell? ⟨wr.heap.size, 1, none⟩ = some (.int .u64 (q : Int)) ∧ W.cell? ⟨wr.heap.size, 2, none⟩ = some (.slice sa r.length sc) ∧ W.cell? ⟨b, off + (i - 1) * 3, none⟩ = some (.int .i64 pc)) ∧ Below (wr.heap.size + 1) wb W) [] (by kernel_rfl) ?_
            have yS : (fun W => (W.cell? ⟨wr.heap.size, 0, none⟩ = some (.int .i64 c) ∧ W.cell? ⟨wr.heap.size, 1, none⟩ = some (.int .u64 (q : Int)) ∧ W.cell? ⟨wr.heap.size, 2, none⟩ = some (.slice sa r.length sc) ∧ W.cell? ⟨b, off + (i - 1) * 3, none⟩ = some (.int .i64 pc)) ∧ Below (wr.heap.size + 1) wb W) wb.drew := hS0
            refine wpAnyL_take 0 rfl (by kernel_rfl) (by kernel_rfl) (by kernel_rfl) (by kernel_rfl) (fun _ _ _ h => h) (by kernel_rfl) (by intro w' hS'; obtain ⟨⟨x0, x1, x2, y0⟩, xb⟩ := hS'; go_simp <;> rfl) yS ?_
            try simp only [List.getElem_toArray, List.getElem_cons_succ, List.getElem_cons_zero, Act.put, List.setIfInBounds_toArray, List.set_cons_zero, List.set_cons_succ]
            refine wpAnyL_one 1 (by kernel_rfl) rfl (by kernel_rfl) ?_
            intro K' hK'
            go_simp
            go_at_call 20
            refine (kc _ yS).mono ?_
            rintro e W1 ⟨rfl, hS1⟩
            refine hK'.out _ _ (.inr hS1) ?_
            clear hK' K'
            try simp only [List.getElem_toArray, List.getElem_cons_succ, List.getElem_cons_zero, Act.put, List.setIfInBounds_toArray, List.set_cons_zero, List.set_cons_succ]
            refine wpAnyL_take 2 rfl (by kernel_rfl) (by kernel_rfl) (by kernel_rfl) (by kernel_rfl) (fun _ _ _ h => h) (by kernel_rfl) (by intro w' hS'; obtain ⟨⟨x0, x1, x2, y0⟩, xb⟩ := hS'; go_simp <;> rfl) hS1 ?_
            try simp only [List.getElem_toArray, List.getElem_cons_succ, List.getElem_cons_zero, Act.put, List.setIfInBounds_toArray, List.set_cons_zero, List.set_cons_succ]
            refine wpAnyL_take 3 rfl (by kernel_rfl) (by kernel_rfl) (by kernel_rfl) (by kernel_rfl) (fun _ _ _ h => h) (by kernel_rfl) (by intro w' hS'; obtain ⟨⟨x0, x1, x2, y0⟩, xb⟩ := hS'; go_simp <;> rfl) hS1 ?_
            try simp only [List.getElem_toArray, List.getElem_cons_succ, List.getElem_cons_zero, Act.put, List.setIfInBounds_toArray, List.set_cons_zero, List.set_cons_succ]
            refine wpAnyL_take 4 rfl (by kernel_rfl) (by kernel_rfl) (by kernel_rfl) (by kernel_rfl) (fun _ _ _ h => h) (by kernel_rfl) (by intro w' hS'; obtain ⟨⟨x0, x1, x2, y0⟩, xb⟩ := hS'; go_simp <;> rfl) hS1 ?_
            try simp only [List.getElem_toArray, List.getElem_cons_succ, List.getElem_cons_zero, Act.put, List.setIfInBounds_toArray, List.set_cons_zero, List.set_cons_succ]
            refine wpAnyL_take 5 rfl (by kernel_rfl) (by kernel_rfl) (by kernel_rfl) (by kernel_rfl) (fun _ _ _ h => h) (by kernel_rfl) (by intro w' hS'; obtain ⟨⟨x0, x1, x2, y0⟩, xb⟩ := hS'; go_simp <;> rfl) hS1 ?_
            try simp only [List.getElem_toArray, List.getElem_cons_succ, List.getElem_cons_zero, Act.put, List.setIfInBounds_toArray, List.set_cons_zero, List.set_cons_succ]
            refine wpAnyL_take 6 rfl (by kernel_rfl) (by kernel_rfl) (by kernel_rfl) (by kernel_rfl) (fun _ _ _ h => h) (by kernel_rfl) (by intro w' hS'; obtain ⟨⟨x0, x1, x2, y0⟩, xb⟩ := hS'; go_simp <;> rfl) hS1 ?_
            try simp only [List.getElem_toArray, List.getElem_cons_succ, List.getElem_cons_zero, Act.put, List.setIfInBounds_toArray, List.set_cons_zero, List.set_cons_succ]
            refine wpAnyL_take 7 rfl (by kernel_rfl) (by kernel_rfl) (by kernel_rfl) (by kernel_rfl) (fun _ _ _ h => h) (by kernel_rfl) (by intro w' hS'; obtain ⟨⟨x0, x1, x2, y0⟩, xb⟩ := hS'; go_simp <;> rfl) hS1 ?_
            try simp only [List.getElem_toArray, List.getElem_cons_succ, List.getElem_cons_zero, Act.put, List.setIfInBounds_toArray, List.set_cons_zero, List.set_cons_succ]
            refine wpAnyL_take 8 rfl (by kernel_rfl) (by kernel_rfl) (by kernel_rfl) (by kernel_rfl) (fun _ _ _ h => h) (by kernel_rfl) (by intro w' hS'; obtain ⟨⟨x0, x1, x2, y0⟩, xb⟩ := hS'; go_simp <;> rfl) hS1 ?_
            try simp only [List.getElem_toArray, List.getElem_cons_succ, List.getElem_cons_zero, Act.put, List.setIfInBounds_toArray, List.set_cons_zero, List.set_cons_succ]
            refine wpAnyL_take 9 rfl (by kernel_rfl) (by kernel_rfl) (by kernel_rfl) (by kernel_rfl) (fun _ _ _ h => h) (by kernel_rfl) (by intro w' hS'; obtain ⟨⟨x0, x1, x2, y0⟩, xb⟩ := hS'; go_simp <;> rfl) hS1 ?_
            try simp only [List.getElem_toArray, List.getElem_cons_succ, List.getElem_cons_zero, Act.put, List.setIfInBounds_toArray, List.set_cons_zero, List.set_cons_succ]
            refine wpAnyL_take 10 rfl (by kernel_rfl) (by kernel_rfl) (by kernel_rfl) (by kernel_rfl) (fun _ _ _ h => h) (by kernel_rfl) (by intro w' hS'; obtain ⟨⟨x0, x1, x2, y0⟩, xb⟩ := hS'; go_simp <;> rfl) hS1 ?_
            try simp only [List.getElem_toArray, List.getElem_cons_succ, List.getElem_cons_zero, Act.put, List.setIfInBounds_toArray, List.set_cons_zero, List.set_cons_succ]
            refine wpAnyL_take 11 rfl (by kernel_rfl) (by kernel_rfl) (by kernel_rfl) (by kernel_rfl) (fun _ _ _ h => h) (by kernel_rfl) (by intro w' hS'; obtain ⟨⟨x0, x1, x2, y0⟩, xb⟩ := hS'; go_simp <;> rfl) hS1 ?_
            try simp only [List.getElem_toArray, List.getElem_cons_succ, List.getElem_cons_zero, Act.put, List.setIfInBounds_toArray, List.set_cons_zero, List.set_cons_succ]
            refine wpAnyL_take 12 rfl (by kernel_rfl) (by kernel_rfl) (by kernel_rfl) (by kernel_rfl) (fun _ _ _ h => h) (by kernel_rfl) (by intro w' hS'; obtain ⟨⟨x0, x1, x2, y0⟩, xb⟩ := hS'; go_simp <;> rfl) hS1 ?_
            try simp only [List.getElem_toArray, List.getElem_cons_succ, List.getElem_cons_zero, Act.put, List.setIfInBounds_toArray, List.set_cons_zero, List.set_cons_succ]
            refine wpAnyL_take 13 rfl (by kernel_rfl) (by kernel_rfl) (by kernel_rfl) (by kernel_rfl) (fun _ _ _ h => h) (by kernel_rfl) (by intro w' hS'; obtain ⟨⟨x0, x1, x2, y0⟩, xb⟩ := hS'; go_simp <;> rfl) hS1 ?_
            try simp only [List.getElem_toArray, List.getElem_cons_succ, List.getElem_cons_zero, Act.put, List.setIfInBounds_toArray, List.set_cons_zero, List.set_cons_succ]
            refine wpAnyL_take 14 rfl (by kernel_rfl) (by kernel_rfl) (by kernel_rfl) (by kernel_rfl) (fun _ _ _ h => h) (by kernel_rfl) (by intro w' hS'; obtain ⟨⟨x0, x1, x2, y0⟩, xb⟩ := hS'; go_simp <;> rfl) hS1 ?_
            try simp only [List.getElem_toArray, List.getElem_cons_succ, List.getElem_cons_zero, Act.put, List.setIfInBounds_toArray, List.set_cons_zero, List.set_cons_succ]
            refine wpAnyL_take 15 rfl (by kernel_rfl) (by kernel_rfl) (by kernel_rfl) (by kernel_rfl) (fun _ _ _ h => h) (by kernel_rfl) (by intro w' hS'; obtain ⟨⟨x0, x1, x2, y0⟩, xb⟩ := hS'; go_simp <;> rfl) hS1 ?_
            try simp only [List.getElem_toArray, List.getElem_cons_succ, List.getElem_cons_zero, Act.put, List.setIfInBounds_toArray, List.set_cons_zero, List.set_cons_succ]
            refine wpAnyL_take 16 rfl (by kernel_rfl) (by kernel_rfl) (by kernel_rfl) (by kernel_rfl) (fun _ _ _ h => h) (by kernel_rfl) (by intro w' hS'; obtain ⟨⟨x0, x1, x2, y0⟩, xb⟩ := hS'; go_simp <;> rfl) hS1 ?_
            try simp only [List.getElem_toArray, List.getElem_cons_succ, List.getElem_cons_zero, Act.put, List.setIfInBounds_toArray, List.set_cons_zero, List.set_cons_succ]
            refine wpAnyL_take 17 rfl (by kernel_rfl) (by kernel_rfl) (by kernel_rfl) (by kernel_rfl) (fun _ _ _ h => h) (by kernel_rfl) (by intro w' hS'; obtain ⟨⟨x0, x1, x2, y0⟩, xb⟩ := hS'; go_simp <;> rfl) hS1 ?_
            try simp only [List.getElem_toArray, List.getElem_cons_succ, List.getElem_cons_zero, Act.put, List.setIfInBounds_toArray, List.set_cons_zero, List.set_cons_succ]
            refine wpAnyL_done (by kernel_rfl) (NoPanic.normal ?_) _
            go_wp2
            go_roundg (gk - 1)
            case measure => omega
            case rel => exact ⟨i + 1, by omega, by go_num, hbw _ hS1.2, HN⟩
          · have E : Hid (B = 1) := by show _ = _; rw [HP.out, walk_at hxH.out, hm, hpv.out]; simp [lnk, hcc]
            have hcd : c ≤ pc := by omega
            have kc : ∀ W, (fun W => (W.cell? ⟨wr.heap.size, 0, none⟩ = some (.int .i64 c) ∧ W.cell? ⟨wr.heap.size, 1, none⟩ = some (.int .u64 (q : Int)) ∧ W.cell? ⟨wr.heap.size, 2, none⟩ = some (.slice sa r.length sc) ∧ W.cell? ⟨b, off + (i - 1) * 3, none⟩ = some (.int .i64 pc)) ∧ Below (wr.heap.size + 1) wb W) W → Calls Try.prog 20 #[.agg #[.int .i64 c, .int .u64 (q : Int), .slice sa r.length sc]] W fun e w' => e = .returned (.bool true) ∧ (fun W => (W.cell? ⟨wr.heap.size, 0, none⟩ = some (.int .i64 c) ∧ W.cell? ⟨wr.heap.size, 1, none⟩ = some (.int .u64 (q : Int)) ∧ W.cell? ⟨wr.heap.size, 2, none⟩ = some (.slice sa r.length sc) ∧ W.cell? ⟨b, off + (i - 1) * 3, none⟩ = some (.int .i64 pc)) ∧ Below (wr.heap.size + 1) wb W) w' := fun W hW => by
              refine (mayBe_of (⟨c, q, r⟩, sa, r.length, sc) W rfl).mono ?_
              rintro e w' ⟨rfl, hb'⟩
              exact ⟨by rw [hm], cl w' (kst W w' hW.2 hb'), kst W w' hW.2 hb'⟩
            have hS0 : (fun W => (W.cell? ⟨wr.heap.size, 0, none⟩ = some (.int .i64 c) ∧ W.cell? ⟨wr.heap.size, 1, none⟩ = some (.int .u64 (q : Int)) ∧ W.cell? ⟨wr.heap.size, 2, none⟩ = some (.slice sa r.length sc) ∧ W.cell? ⟨b, off + (i - 1) * 3, none⟩ = some (.int .i64 pc)) ∧ Below (wr.heap.size + 1) wb W) wb.drew := ⟨cl _ (Below.refl _ wb).drew, (Below.refl _ wb).drew⟩
            clear HP hm kst cl hxH HL hsz hbb HB
            clear hpv hi0
            refine wp_region_L (fun W => (W.cell? ⟨wr.heap.size, 0, none⟩ = some (.int .i64 c) ∧ W.cell? ⟨wr.heap.size, 1, none⟩ = some (.int .u64 (q : Int)) ∧ W.cell? ⟨wr.heap.size, 2, none⟩ = some (.slice sa r.length sc) ∧ W.cell? ⟨b, off + (i - 1) * 3, none⟩ = some (.int .i64 pc)) ∧ Below (wr.heap.size + 1) wb W) [] (by kernel_rfl) ?_
            have yS : (fun W => (W.cell? ⟨wr.heap.size, 0, none⟩ = some (.int .i64 c) ∧ W.cell? ⟨wr.heap.size, 1, none⟩ = some (.int .u64 (q : Int)) ∧ W.cell? ⟨wr.heap.size, 2, none⟩ = some (.slice sa r.length sc) ∧ W.cell? ⟨b, off + (i - 1) * 3, none⟩ = some (.int .i64 pc)) ∧ Below (wr.heap.size + 1) wb W) wb.drew := hS0
            refine wpAnyL_take 0 rfl (by kernel_rfl) (by kernel_rfl) (by kernel_rfl) (by kernel_rfl) (fun _ _ _ h => h) (by kernel_rfl) (by intro w' hS'; obtain ⟨⟨x0, x1, x2, y0⟩, xb⟩ := hS'; go_simp <;> rfl) yS ?_
            try simp only [List.getElem_toArray, List.getElem_cons_succ, List.getElem_cons_zero, Act.put, List.setIfInBounds_toArray, List.set_cons_zero, List.set_cons_succ]
            refine wpAnyL_one 1 (by kernel_rfl) rfl (by kernel_rfl) ?_
            intro K' hK'
            go_simp
            go_at_call 20
            refine (kc _ yS).mono ?_
            rintro e W1 ⟨rfl, hS1⟩
            refine hK'.out _ _ (.inr hS1) ?_
            clear hK' K'
            try simp only [List.getElem_toArray, List.getElem_cons_succ, List.getElem_cons_zero, Act.put, List.setIfInBounds_toArray, List.set_cons_zero, List.set_cons_succ]
            refine wpAnyL_take 2 rfl (by kernel_rfl) (by kernel_rfl) (by kernel_rfl) (by kernel_rfl) (fun _ _ _ h => h) (by kernel_rfl) (by intro w' hS'; obtain ⟨⟨x0, x1, x2, y0⟩, xb⟩ := hS'; go_simp <;> rfl) hS1 ?_
            try simp only [List.getElem_toArray, List.getElem_cons_succ, List.getElem_cons_zero, Act.put, List.setIfInBounds_toArray, List.set_cons_zero, List.set_cons_succ]
            refine wpAnyL_take 3 rfl (by kernel_rfl) (by kernel_rfl) (by kernel_rfl) (by kernel_rfl) (fun _ _ _ h => h) (by kernel_rfl) (by intro w' hS'; obtain ⟨⟨x0, x1, x2, y0⟩, xb⟩ := hS'; go_simp <;> rfl) hS1 ?_
            try simp only [List.getElem_toArray, List.getElem_cons_succ, List.getElem_cons_zero, Act.put, List.setIfInBounds_toArray, List.set_cons_zero, List.set_cons_succ]
            refine wpAnyL_take 4 rfl (by kernel_rfl) (by kernel_rfl) (by kernel_rfl) (by kernel_rfl) (fun _ _ _ h => h) (by kernel_rfl) (by intro w' hS'; obtain ⟨⟨x0, x1, x2, y0⟩, xb⟩ := hS'; go_simp <;> rfl) hS1 ?_
            try simp only [List.getElem_toArray, List.getElem_cons_succ, List.getElem_cons_zero, Act.put, List.setIfInBounds_toArray, List.set_cons_zero, List.set_cons_succ]
            refine wpAnyL_take 5 rfl (by kernel_rfl) (by kernel_rfl) (by kernel_rfl) (by kernel_rfl) (fun _ _ _ h => h) (by kernel_rfl) (by intro w' hS'; obtain ⟨⟨x0, x1, x2, y0⟩, xb⟩ := hS'; go_simp <;> rfl) hS1 ?_
            try simp only [List.getElem_toArray, List.getElem_cons_succ, List.getElem_cons_zero, Act.put, List.setIfInBounds_toArray, List.set_cons_zero, List.set_cons_succ]
            refine wpAnyL_take 6 rfl (by kernel_rfl) (by kernel_rfl) (by kernel_rfl) (by kernel_rfl) (fun _ _ _ h => h) (by kernel_rfl) (by intro w' hS'; obtain ⟨⟨x0, x1, x2, y0⟩, xb⟩ := hS'; go_simp <;> rfl) hS1 ?_
            try simp only [List.getElem_toArray, List.getElem_cons_succ, List.getElem_cons_zero, Act.put, List.setIfInBounds_toArray, List.set_cons_zero, List.set_cons_succ]
            refine wpAnyL_take 7 rfl (by kernel_rfl) (by kernel_rfl) (by kernel_rfl) (by kernel_rfl) (fun _ _ _ h => h) (by kernel_rfl) (by intro w' hS'; obtain ⟨⟨x0, x1, x2, y0⟩, xb⟩ := hS'; go_simp <;> rfl) hS1 ?_
            try simp only [List.getElem_toArray, List.getElem_cons_succ, List.getElem_cons_zero, Act.put, List.setIfInBounds_toArray, List.set_cons_zero, List.set_cons_succ]
            refine wpAnyL_take 8 rfl (by kernel_rfl) (by kernel_rfl) (by kernel_rfl) (by kernel_rfl) (fun _ _ _ h => h) (by kernel_rfl) (by intro w' hS'; obtain ⟨⟨x0, x1, x2, y0⟩, xb⟩ := hS'; go_simp <;> rfl) hS1 ?_
            try simp only [List.getElem_toArray, List.getElem_cons_succ, List.getElem_cons_zero, Act.put, List.setIfInBounds_toArray, List.set_cons_zero, List.set_cons_succ]
            refine wpAnyL_take 9 rfl (by kernel_rfl) (by kernel_rfl) (by kernel_rfl) (by kernel_rfl) (fun _ _ _ h => h) (by kernel_rfl) (by intro w' hS'; obtain ⟨⟨x0, x1, x2, y0⟩, xb⟩ := hS'; go_simp <;> rfl) hS1 ?_
            try simp only [List.getElem_toArray, List.getElem_cons_succ, List.getElem_cons_zero, Act.put, List.setIfInBounds_toArray, List.set_cons_zero, List.set_cons_succ]
            refine wpAnyL_take 10 rfl (by kernel_rfl) (by kernel_rfl) (by kernel_rfl) (by kernel_rfl) (fun _ _ _ h => h) (by kernel_rfl) (by intro w' hS'; obtain ⟨⟨x0, x1, x2, y0⟩, xb⟩ := hS'; go_simp <;> rfl) hS1 ?_
            try simp only [List.getElem_toArray, List.getElem_cons_succ, List.getElem_cons_zero, Act.put, List.setIfInBounds_toArray, List.set_cons_zero, List.set_cons_succ]
            refine wpAnyL_take 11 rfl (by kernel_rfl) (by kernel_rfl) (by kernel_rfl) (by kernel_rfl) (fun _ _ _ h => h) (by kernel_rfl) (by intro w' hS'; obtain ⟨⟨x0, x1, x2, y0⟩, xb⟩ := hS'; go_simp <;> rfl) hS1 ?_
            try simp only [List.getElem_toArray, List.getElem_cons_succ, List.getElem_cons_zero, Act.put, List.setIfInBounds_toArray, List.set_cons_zero, List.set_cons_succ]
            refine wpAnyL_take 12 rfl (by kernel_rfl) (by kernel_rfl) (by kernel_rfl) (by kernel_rfl) (fun _ _ _ h => h) (by kernel_rfl) (by intro w' hS'; obtain ⟨⟨x0, x1, x2, y0⟩, xb⟩ := hS'; go_simp <;> rfl) hS1 ?_
            try simp only [List.getElem_toArray, List.getElem_cons_succ, List.getElem_cons_zero, Act.put, List.setIfInBounds_toArray, List.set_cons_zero, List.set_cons_succ]
            refine wpAnyL_take 13 rfl (by kernel_rfl) (by kernel_rfl) (by kernel_rfl) (by kernel_rfl) (fun _ _ _ h => h) (by kernel_rfl) (by intro w' hS'; obtain ⟨⟨x0, x1, x2, y0⟩, xb⟩ := hS'; go_simp <;> rfl) hS1 ?_
            try simp only [List.getElem_toArray, List.getElem_cons_succ, List.getElem_cons_zero, Act.put, List.setIfInBounds_toArray, List.set_cons_zero, List.set_cons_succ]
            refine wpAnyL_take 14 rfl (by kernel_rfl) (by kernel_rfl) (by kernel_rfl) (by kernel_rfl) (fun _ _ _ h => h) (by kernel_rfl) (by intro w' hS'; obtain ⟨⟨x0, x1, x2, y0⟩, xb⟩ := hS'; go_simp <;> rfl) hS1 ?_
            try simp only [List.getElem_toArray, List.getElem_cons_succ, List.getElem_cons_zero, Act.put, List.setIfInBounds_toArray, List.set_cons_zero, List.set_cons_succ]
            refine wpAnyL_take 15 rfl (by kernel_rfl) (by kernel_rfl) (by kernel_rfl) (by kernel_rfl) (fun _ _ _ h => h) (by kernel_rfl) (by intro w' hS'; obtain ⟨⟨x0, x1, x2, y0⟩, xb⟩ := hS'; go_simp <;> rfl) hS1 ?_
            try simp only [List.getElem_toArray, List.getElem_cons_succ, List.getElem_cons_zero, Act.put, List.setIfInBounds_toArray, List.set_cons_zero, List.set_cons_succ]
            refine wpAnyL_take 16 rfl (by kernel_rfl) (by kernel_rfl) (by kernel_rfl) (by kernel_rfl) (fun _ _ _ h => h) (by kernel_rfl) (by intro w' hS'; obtain ⟨⟨x0, x1, x2, y0⟩, xb⟩ := hS'; go_simp <;> rfl) hS1 ?_
            try simp only [List.getElem_toArray, List.getElem_cons_succ, List.getElem_cons_zero, Act.put, List.setIfInBounds_toArray, List.set_cons_zero, List.set_cons_succ]
            refine wpAnyL_take 17 rfl (by kernel_rfl) (by kernel_rfl) (by kernel_rfl) (by kernel_rfl) (fun _ _ _ h => h) (by kernel_rfl) (by intro w' hS'; obtain ⟨⟨x0, x1, x2, y0⟩, xb⟩ := hS'; go_simp <;> rfl) hS1 ?_
            try simp only [List.getElem_toArray, List.getElem_cons_succ, List.getElem_cons_zero, Act.put, List.setIfInBounds_toArray, List.set_cons_zero, List.set_cons_succ]
            refine wpAnyL_done (by kernel_rfl) (NoPanic.normal ?_) _
            go_wp2
            go_ret
            exact ⟨by rw [E.out]; rfl, hbw _ hS1.2⟩
    · have hlti : ¬ (i : Int) < (zs.length : Int) := by omega
      have E : Hid (B = 0) := by show _ = _; rw [HP.out, List.drop_eq_nil_of_le (by simp; omega)]; simp [walk]
      clear HL HP HB
      go_wp2
      go_ret
      exact ⟨by rw [E.out]; rfl, hb⟩

end Go.Proofs.Ytebkfkijlopmoaa

