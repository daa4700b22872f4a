import Derived.Test.YtmmonehpfmlmeaaHm35
import Derived.Test.YtmmonehpfmlmeaaHm39
/- The law RlogMerges. -/
namespace Go.Proofs.Ytmmonehpfmlmeaa
open Go.RowKit QuorumMath RlogMath
set_option maxRecDepth 100000
set_option linter.unusedSimpArgs false
set_option linter.unusedVariables false

theorem logC_out2 {n : Nat} {w : World} {a0 a1 a2 st : Value} {sa : Option Addr} {sn sc : Nat} {b : Me} {l : List Me} (h : LogC n w (.agg #[a0, a1, a2, .slice sa sn sc, st]) b l) : ∃ cur, DataV w (b, (sa, sn, sc)) ∧ EntsV w st cur ∧ mes cur = l ∧ True := by
  obtain ⟨s, cur, st', hv, h2, h3⟩ := h
  obtain ⟨ta, tn, tc⟩ := s
  cases hv
  exact ⟨cur, h2.data, h3.ents, h3.2.1, trivial⟩

set_option maxHeartbeats 16000000 in
theorem merges_law (b : Ez) (zs : List Ez) (lv : Value) (at_ : Ez) (ys : List Ez) (yv : Value) (w : World) (hD : DataV w b) (hL : EntsV w lv zs) (hbo : EzOk b) (hok : ∀ z ∈ zs, EzOk z) (hlen : zs.length ≤ 2000000) (hdl : b.1.data.length ≤ 1000000000) (hdz : ∀ z ∈ zs, z.1.data.length ≤ 1000000000) (hAD : DataV w at_) (hAo : EzOk at_) (hAl : at_.1.data.length ≤ 1000000000) (hY : EntsV w yv ys) (hoy : ∀ z ∈ ys, EzOk z) (hleny : ys.length ≤ 2000000) (hdy : ∀ z ∈ ys, z.1.data.length ≤ 1000000000) : Calls Try.prog 5 #[lgv b lv, ev at_, yv] w fun e w' => e = .returned (.bool true) ∧ Below w.heap.size w w' := by
  have ka := fun W => awake_of W
  obtain ⟨hs, hb0, cl⟩ := lg_box w b lv
  obtain ⟨q1, q2, q3⟩ := one_box (w.alloc (lgc b lv)) (.cells #[.int .u64 (at_.1.idx : Int), .int .u64 (at_.1.term : Int), .int .i64 at_.1.kind, .slice at_.2.1 at_.2.2.1 at_.2.2.2] 25)
  rw [hs] at q1 q2 q3
  have hbB := hb0.trans (q3.mono (Nat.le_succ _))
  have KL1 : Hid (∀ W, Below w.heap.size w W → _) := fun W hW => light_of b zs lv W (hL.below hW) (by omega) (fun z hz => by have := hdz z hz; omega)
  have KL2 : Hid (∀ W, Below w.heap.size w W → _) := fun W hW => light_of (zeroMe, (none, 0, 0)) ys yv W (hY.below hW) (by omega) (fun z hz => by have := hdy z hz; omega)
  have KP : Hid (∀ (a : Option Addr) (c : Nat) W, Below w.heap.size w W → Rd entE W (.slice a ys.length c) ys → _) := fun a c W hW hR => pmerge_c b zs lv at_.1.idx at_.1.term ys (.slice a ys.length c) W (hD.below hW) (hL.below hW) ⟨hR, (hY.below hW).2⟩ hbo hok hoy hAo.1 hlen hleny hdl hdz hdy
  have KR : Hid (∀ W, Below w.heap.size w W → _) := fun W hW => rmerge_of b zs lv at_.1.idx at_.1.term ys yv W (hD.below hW) (hL.below hW) (hY.below hW) hbo hok hoy hAo.1 hlen hleny hdl
  have HXW : Hid (∀ W, Below w.heap.size w W → Rd entE W yv ys) := fun W hW => (hY.below hW).1
  have hRok := merge_okM (b := b.1) (l := mes zs) (x := at_.1.idx) (t := at_.1.term) (es := mes ys) ⟨hbo.1, hbo.2.1, hbo.2.2, hdl⟩ (mes_okM hok hdz) (mes_okM hoy hdy)
  have hmz : (mes zs).length = zs.length := by simp [mes]
  have hmy : (mes ys).length = ys.length := by simp [mes]
  rw [hmz, hmy] at hRok
  generalize mergeM b.1 (mes zs) at_.1.idx at_.1.term (mes ys) = R at *
  obtain ⟨rc, ⟨mi, mt, mk, md⟩, rl, rn⟩ := R
  obtain ⟨ya, yc, rfl, -, -⟩ := hY.1.shape
  obtain ⟨hRo, hRl, hRn⟩ := hRok
  dsimp only at hRo hRl hRn
  have hxn := hAD.len
  obtain ⟨la, lc, rfl, -, -⟩ := hL.1.shape
  obtain ⟨⟨ix, tm, kd, dt⟩, sa, sn, sc⟩ := b
  obtain ⟨⟨xi, xt, xk, xd⟩, xa, xn, xc⟩ := at_
  dsimp only [lgc, lgv, ev] at *
  subst hxn
  have HCL : Hid (∀ W, Below (w.heap.size + 2) ((w.alloc (.cells #[.int .u64 (ix : Int), .int .u64 (tm : Int), .int .i64 kd, .slice sa sn sc, .slice la zs.length lc] 28)).alloc (.cells #[.int .u64 (xi : Int), .int .u64 (xt : Int), .int .i64 xk, .slice xa xd.length xc] 25)) W → W.cell? ⟨w.heap.size, 0, none⟩ = some (.int .u64 (ix : Int)) ∧ W.cell? ⟨w.heap.size, 1, none⟩ = some (.int .u64 (tm : Int)) ∧ W.cell? ⟨w.heap.size, 2, none⟩ = some (.int .i64 kd) ∧ W.cell? ⟨w.heap.size, 3, none⟩ = some (.slice sa sn sc) ∧ W.cell? ⟨w.heap.size, 4, none⟩ = some (.slice la zs.length lc) ∧ W.cell? ⟨w.heap.size + 1, 0, none⟩ = some (.int .u64 (xi : Int)) ∧ W.cell? ⟨w.heap.size + 1, 1, none⟩ = some (.int .u64 (xt : Int)) ∧ W.cell? ⟨w.heap.size + 1, 2, none⟩ = some (.int .i64 xk) ∧ W.cell? ⟨w.heap.size + 1, 3, none⟩ = some (.slice xa xd.length xc)) := fun W hW => by
    have h1 := (hW.block (w.heap.size + 1) (by omega)).trans q2
    obtain ⟨e0, e1, e2, e3, e4⟩ := cl W (q3.trans (hW.mono (by omega)))
    exact ⟨e0, e1, e2, e3, e4, by rw [cells_of_block h1]; rfl, by rw [cells_of_block h1]; rfl, by rw [cells_of_block h1]; rfl, by rw [cells_of_block h1]; rfl⟩
  have HIN : Hid (∀ W, Below (w.heap.size + 2) ((w.alloc (.cells #[.int .u64 (ix : Int), .int .u64 (tm : Int), .int .i64 kd, .slice sa sn sc, .slice la zs.length lc] 28)).alloc (.cells #[.int .u64 (xi : Int), .int .u64 (xt : Int), .int .i64 xk, .slice xa xd.length xc] 25)) W → Below w.heap.size w W) := fun W hW => hbB.trans (hW.mono (by omega))
  obtain ⟨c0, c1, c2, c3, c4, d0, d1, d2, d3⟩ := HCL.out _ (Below.refl _ _)
  have kl := KL1.out _ hbB
  clear hs hb0 cl q2 q3 hD hL hbo hok hAD hAo hdz hdl KL1 hmz hY hoy hdy hmy
  go_enter Try.func5, Try.ntmps5
  generalize hwB : (w.alloc (.cells #[.int .u64 (ix : Int), .int .u64 (tm : Int), .int .i64 kd, .slice sa sn sc, .slice la zs.length lc] 28)).alloc (.cells #[.int .u64 (xi : Int), .int .u64 (xt : Int), .int .i64 xk, .slice xa xd.length xc] 25) = wB at *
  have hszB : w.heap.size + 2 ≤ wB.heap.size := by omega
  go_wp2_with fail
  clear hwB q1
  refine kl.mono ?_
  rintro e w1 ⟨Bl, rfl, -, hb1⟩
  have hS1 : Below (w.heap.size + 2) wB w1 := hb1.mono hszB
  have hI1 := HIN.out _ hS1
  obtain ⟨c0, c1, c2, c3, c4, d0, d1, d2, d3⟩ := HCL.out _ hS1
  clear kl hb1
  cases Bl with
  | false =>
    clear KP KR HCL HIN HXW
    go_wp2_with fail
    refine (ka _).mono ?_
    rintro e w5 ⟨rfl, hb5⟩
    go_wp2
    go_ret
    exact ⟨rfl, hI1.trans (hb5.mono hI1.size)⟩
  | true =>
    have kl2 := KL2.out w1 hI1
    dsimp only [zeroMe] at kl2
    clear KL2
    go_wp2_with fail
    refine kl2.mono ?_
    rintro e w1' ⟨Bl, rfl, -, hb1'⟩
    have hS1' : Below (w.heap.size + 2) wB w1' := keep9 hS1 hb1'
    have hI1' := HIN.out _ hS1'
    obtain ⟨c0, c1, c2, c3, c4, d0, d1, d2, d3⟩ := HCL.out _ hS1'
    clear kl2 hb1' hS1 hI1
    have hI1 := hI1'
    clear hI1'
    cases Bl with
    | false =>
      clear KP KR HCL HIN HXW
      go_wp2_with fail
      refine (ka _).mono ?_
      rintro e w5 ⟨rfl, hb5⟩
      go_wp2
      go_ret
      exact ⟨rfl, hI1.trans (hb5.mono hI1.size)⟩
    | true =>
      have HXD : Hid (∀ W, Below (w.heap.size + 2) wB W → _) := fun W hW => HXW.out W (HIN.out _ hW)
      have hxl : ys.length ≤ 10000000000 := by omega
      clear HXW hI1
      have hSN : Below (w.heap.size + 2) wB w1' := hS1'
      clear hS1'
      generalize w1' = wN at *
      go_wp2
      clear c0 c1 c2 c3 c4 d0 d1 d2 d3
      (try simp only [Exit.inBlock, Exit.then])
      refine wp_region_L (fun W => Below (w.heap.size + 2) wB W) [] (by kernel_rfl) ?_
      have hS0 : (fun W => Below (w.heap.size + 2) wB W) wN.drew := hSN.drew
      generalize wN.drew = W0 at *
      refine wpAnyL_take 0 rfl (by kernel_rfl) (by kernel_rfl) (by kernel_rfl) (by kernel_rfl) (fun _ _ _ h => h) (by kernel_rfl) (by intro w' hS'; have hz := hS'; obtain ⟨c0, c1, c2, c3, c4, d0, d1, d2, d3⟩ := HCL.out _ hz; go_simp <;> rfl) hS0 ?_
      try simp only [List.getElem_toArray, List.getElem_cons_succ, List.getElem_cons_zero, Act.put, List.setIfInBounds_toArray, List.set_cons_zero, List.set_cons_succ]
      refine wpAnyL_take 1 rfl (by kernel_rfl) (by kernel_rfl) (by kernel_rfl) (by kernel_rfl) (fun _ _ _ h => h) (by kernel_rfl) (by intro w' hS'; have hz := hS'; obtain ⟨c0, c1, c2, c3, c4, d0, d1, d2, d3⟩ := HCL.out _ hz; go_simp <;> rfl) hS0 ?_
      try simp only [List.getElem_toArray, List.getElem_cons_succ, List.getElem_cons_zero, Act.put, List.setIfInBounds_toArray, List.set_cons_zero, List.set_cons_succ]
      refine wpAnyL_take 2 rfl (by kernel_rfl) (by kernel_rfl) (by kernel_rfl) (by kernel_rfl) (fun _ _ _ h => h) (by kernel_rfl) (by intro w' hS'; have hz := hS'; obtain ⟨c0, c1, c2, c3, c4, d0, d1, d2, d3⟩ := HCL.out _ hz; go_simp <;> rfl) hS0 ?_
      try simp only [List.getElem_toArray, List.getElem_cons_succ, List.getElem_cons_zero, Act.put, List.setIfInBounds_toArray, List.set_cons_zero, List.set_cons_succ]
      refine wpAnyL_take 3 rfl (by kernel_rfl) (by kernel_rfl) (by kernel_rfl) (by kernel_rfl) (fun _ _ _ h => h) (by kernel_rfl) (by intro w' hS'; have hz := hS'; obtain ⟨c0, c1, c2, c3, c4, d0, d1, d2, d3⟩ := HCL.out _ hz; go_simp <;> rfl) hS0 ?_
      try simp only [List.getElem_toArray, List.getElem_cons_succ, List.getElem_cons_zero, Act.put, List.setIfInBounds_toArray, List.set_cons_zero, List.set_cons_succ]
      refine wpAnyL_take 4 rfl (by kernel_rfl) (by kernel_rfl) (by kernel_rfl) (by kernel_rfl) (fun _ _ _ h => h) (by kernel_rfl) (by intro w' hS'; have hz := hS'; obtain ⟨c0, c1, c2, c3, c4, d0, d1, d2, d3⟩ := HCL.out _ hz; go_simp <;> rfl) hS0 ?_
      try simp only [List.getElem_toArray, List.getElem_cons_succ, List.getElem_cons_zero, Act.put, List.setIfInBounds_toArray, List.set_cons_zero, List.set_cons_succ]
      refine wpAnyL_take 6 rfl (by kernel_rfl) (by kernel_rfl) (by kernel_rfl) (by kernel_rfl) (fun _ _ _ h => h) (by kernel_rfl) (by intro w' hS'; have hz := hS'; obtain ⟨c0, c1, c2, c3, c4, d0, d1, d2, d3⟩ := HCL.out _ hz; go_simp <;> rfl) hS0 ?_
      try simp only [List.getElem_toArray, List.getElem_cons_succ, List.getElem_cons_zero, Act.put, List.setIfInBounds_toArray, List.set_cons_zero, List.set_cons_succ]
      refine wpAnyL_two 5 13 (by kernel_rfl) rfl rfl (by kernel_rfl) (by kernel_rfl) ?_ ?_
      · intro K' hK'
        go_simp
        have hS1 : (fun W => Below (w.heap.size + 2) wB W) (W0.alloc (.cells #[] 25)) := hS0.alloc (Nat.le_trans hszB hS0.size) _
        have R1 : Rk entE (W0.alloc (.cells #[] 25)) 25 (.slice (some ⟨W0.heap.size, 0, none⟩) 0 0) [] := Rk.made (E := entE) (xs := []) (heap_alloc_new _ _) rfl (by unfold maxLen; simp)
        have hv0 : w.heap.size + 2 ≤ W0.heap.size := (Nat.le_trans hszB hS0.size)
        refine hK'.out _ _ (.inr hS1) ?_
        clear hK' K'
        try simp only [List.getElem_toArray, List.getElem_cons_succ, List.getElem_cons_zero, Act.put, List.setIfInBounds_toArray, List.set_cons_zero, List.set_cons_succ]
        generalize W0.alloc (.cells #[] 25) = W1 at *
        refine wpAnyL_two 7 13 (by kernel_rfl) rfl rfl (by kernel_rfl) (by kernel_rfl) ?_ ?_
        · intro K' hK'
          have rH : Hid _ := app_ents R1 (HXD.out _ hS1) (by simp) hxl
          refine op_by _ _ _ rfl _ _ rfl rfl rH.out ?_
          intro v9 W2 p2
          have hS2 : (fun W => Below (w.heap.size + 2) wB W) W2 := hS1.trans (grown_below p2.2.1 (Nat.le_trans hszB hS1.size) (fun k hk => by cases hk; exact hv0))
          have R2 := p2.1
          rw [List.nil_append] at R2
          obtain ⟨va9, vc9, hv9, -⟩ := R2.shape
          subst hv9
          clear rH p2
          refine hK'.out _ _ (.inr hS2) ?_
          clear hK' K'
          try simp only [List.getElem_toArray, List.getElem_cons_succ, List.getElem_cons_zero, Act.put, List.setIfInBounds_toArray, List.set_cons_zero, List.set_cons_succ]
          refine wpAnyL_two 8 13 (by kernel_rfl) rfl rfl (by kernel_rfl) (by kernel_rfl) ?_ ?_
          · intro K' hK'
            go_simp
            go_at_call 29
            refine (KP.out va9 vc9 _ (HIN.out _ hS2) R2.rd).mono ?_
            rintro e W3 ⟨⟨v8, rfl, C3⟩, hb3⟩
            dsimp only at *
            have hS3 : (fun W => Below (w.heap.size + 2) wB W) W3 := keep9 hS2 hb3
            obtain ⟨⟨s8a, s8n, s8c⟩, cur8, st8, hv8, -, hCC⟩ := id C3
            obtain ⟨ta8, tc8, hst8, -⟩ := hCC.1.1.shape
            generalize cur8.length = n8 at hst8
            dsimp only [lgv] at hv8
            subst hst8
            subst hv8
            clear hCC hb3 R2 KP
            refine hK'.out _ _ (.inr hS3) ?_
            clear hK' K'
            try simp only [List.getElem_toArray, List.getElem_cons_succ, List.getElem_cons_zero, Act.put, List.setIfInBounds_toArray, List.set_cons_zero, List.set_cons_succ]
            refine wpAnyL_take 9 rfl (by kernel_rfl) (by kernel_rfl) (by kernel_rfl) (by kernel_rfl) (fun _ _ _ h => h) (by kernel_rfl) (by intro w' hS'; have hz := hS'; obtain ⟨c0, c1, c2, c3, c4, d0, d1, d2, d3⟩ := HCL.out _ hz; go_simp <;> rfl) hS3 ?_
            try simp only [List.getElem_toArray, List.getElem_cons_succ, List.getElem_cons_zero, Act.put, List.setIfInBounds_toArray, List.set_cons_zero, List.set_cons_succ]
            refine wpAnyL_take 10 rfl (by kernel_rfl) (by kernel_rfl) (by kernel_rfl) (by kernel_rfl) (fun _ _ _ h => h) (by kernel_rfl) (by intro w' hS'; have hz := hS'; obtain ⟨c0, c1, c2, c3, c4, d0, d1, d2, d3⟩ := HCL.out _ hz; go_simp <;> rfl) hS3 ?_
            try simp only [List.getElem_toArray, List.getElem_cons_succ, List.getElem_cons_zero, Act.put, List.setIfInBounds_toArray, List.set_cons_zero, List.set_cons_succ]
            refine wpAnyL_take 11 rfl (by kernel_rfl) (by kernel_rfl) (by kernel_rfl) (by kernel_rfl) (fun _ _ _ h => h) (by kernel_rfl) (by intro w' hS'; have hz := hS'; obtain ⟨c0, c1, c2, c3, c4, d0, d1, d2, d3⟩ := HCL.out _ hz; go_simp <;> rfl) hS3 ?_
            try simp only [List.getElem_toArray, List.getElem_cons_succ, List.getElem_cons_zero, Act.put, List.setIfInBounds_toArray, List.set_cons_zero, List.set_cons_succ]
            refine wpAnyL_take 12 rfl (by kernel_rfl) (by kernel_rfl) (by kernel_rfl) (by kernel_rfl) (fun _ _ _ h => h) (by kernel_rfl) (by intro w' hS'; have hz := hS'; obtain ⟨c0, c1, c2, c3, c4, d0, d1, d2, d3⟩ := HCL.out _ hz; go_simp <;> rfl) hS3 ?_
            try simp only [List.getElem_toArray, List.getElem_cons_succ, List.getElem_cons_zero, Act.put, List.setIfInBounds_toArray, List.set_cons_zero, List.set_cons_succ]
            refine wpAnyL_one 13 (by kernel_rfl) rfl (by kernel_rfl) ?_
            intro K' hK'
            go_simp
            have hS4 : (fun W => Below (w.heap.size + 2) wB W) (W3.alloc (.cells #[.int .u64 0, .int .u64 0, .int .i64 0, .slice none 0 0, .slice none 0 0] 28)) := hS3.alloc (Nat.le_trans hszB hS3.size) _
            have G4 : (W3.alloc (.cells #[.int .u64 0, .int .u64 0, .int .i64 0, .slice none 0 0, .slice none 0 0] 28)).heap[W3.heap.size]? = _ := heap_alloc_new _ _
            have hgg : w.heap.size + 2 ≤ W3.heap.size := (Nat.le_trans hszB hS3.size)
            have C4 := C3.below ((Below.refl _ W3).alloc (Nat.le_refl _) (.cells #[.int .u64 0, .int .u64 0, .int .i64 0, .slice none 0 0, .slice none 0 0] 28))
            refine hK'.out _ _ (.inr hS4) ?_
            clear hK' K'
            try simp only [List.getElem_toArray, List.getElem_cons_succ, List.getElem_cons_zero, Act.put, List.setIfInBounds_toArray, List.set_cons_zero, List.set_cons_succ]
            generalize W3.alloc (.cells #[.int .u64 0, .int .u64 0, .int .i64 0, .slice none 0 0, .slice none 0 0] 28) = W4 at *
            refine wpAnyL_one 14 (by kernel_rfl) rfl (by kernel_rfl) ?_
            intro K' hK'
            go_simp
            obtain ⟨⟨f0, f1, f2, f3, f4⟩, o0, o1, o2, o3, o4⟩ := lg_cells G4
            have hS9 : (fun W => Below (w.heap.size + 2) wB W) _ := lg_set_below hS4 (g := W3.heap.size) hgg (.int .u64 (mi : Int)) (.int .u64 (mt : Int)) (.int .i64 mk) (.slice s8a s8n s8c) (.slice ta8 n8 tc8)
            have HF := lg_set G4 (.int .u64 (mi : Int)) (.int .u64 (mt : Int)) (.int .i64 mk) (.slice s8a s8n s8c) (.slice ta8 n8 tc8)
            have C9 := LogC.farT5 C4 G4 (.int .u64 (mi : Int)) (.int .u64 (mt : Int)) (.int .i64 mk) (.slice s8a s8n s8c) (.slice ta8 n8 tc8)
            go_simp
            refine hK'.out _ _ (.inr hS9) ?_
            clear hK' K'
            try simp only [List.getElem_toArray, List.getElem_cons_succ, List.getElem_cons_zero, Act.put, List.setIfInBounds_toArray, List.set_cons_zero, List.set_cons_succ]
            refine wpAnyL_take 15 rfl (by kernel_rfl) (by kernel_rfl) (by kernel_rfl) (by kernel_rfl) (fun _ _ _ h => h) (by kernel_rfl) (by intro w' hS'; have hz := hS'; obtain ⟨c0, c1, c2, c3, c4, d0, d1, d2, d3⟩ := HCL.out _ hz; go_simp <;> rfl) hS9 ?_
            try simp only [List.getElem_toArray, List.getElem_cons_succ, List.getElem_cons_zero, Act.put, List.setIfInBounds_toArray, List.set_cons_zero, List.set_cons_succ]
            refine wpAnyL_take 16 rfl (by kernel_rfl) (by kernel_rfl) (by kernel_rfl) (by kernel_rfl) (fun _ _ _ h => h) (by kernel_rfl) (by intro w' hS'; have hz := hS'; obtain ⟨c0, c1, c2, c3, c4, d0, d1, d2, d3⟩ := HCL.out _ hz; go_simp <;> rfl) hS9 ?_
            try simp only [List.getElem_toArray, List.getElem_cons_succ, List.getElem_cons_zero, Act.put, List.setIfInBounds_toArray, List.set_cons_zero, List.set_cons_succ]
            refine wpAnyL_done (by kernel_rfl) (NoPanic.normal ?_) _
            generalize (((((W4.setCell ⟨W3.heap.size, 0, none⟩ (.int .u64 (mi : Int))).setCell ⟨W3.heap.size, 1, none⟩ (.int .u64 (mt : Int))).setCell ⟨W3.heap.size, 2, none⟩ (.int .i64 mk)).setCell ⟨W3.heap.size, 3, none⟩ (.slice s8a s8n s8c)).setCell ⟨W3.heap.size, 4, none⟩ (.slice ta8 n8 tc8)) = w9 at *
            generalize W3.heap.size = g9 at *
            clear G4 C4 f0 f1 f2 f3 f4 o0 o1 o2 o3 o4
            have hI9 := HIN.out _ hS9
            obtain ⟨cur9, hD9, hE9, hm9, hn9⟩ := logC_out2 C9
            have HC9 : Hid (∀ W, Below w9.heap.size w9 W → W.cell? ⟨g9, 0, none⟩ = some (.int .u64 (mi : Int)) ∧ W.cell? ⟨g9, 1, none⟩ = some (.int .u64 (mt : Int)) ∧ W.cell? ⟨g9, 2, none⟩ = some (.int .i64 mk) ∧ W.cell? ⟨g9, 3, none⟩ = some (.slice s8a s8n s8c) ∧ W.cell? ⟨g9, 4, none⟩ = some (.slice ta8 n8 tc8)) := fun W hW => (lg_cells ((hW.block g9 (Array.getElem?_eq_some_iff.1 HF).1).trans HF)).2
            have kr := KR.out w9 hI9
            obtain ⟨c0, c1, c2, c3, c4, d0, d1, d2, d3⟩ := HCL.out _ hS9
            clear C9 HF KR
            go_wp2_with fail
            refine kr.mono ?_
            rintro e w10 ⟨⟨v10, rfl, s10, zs10, lv10, rfl, hD10, hE10, hm10⟩, hb10⟩
            dsimp only at hm10 hD10
            obtain ⟨hs11, hbx11, cl11⟩ := lg_box w10 (⟨mi, mt, mk, md⟩, s10) lv10
            have hb911 := hb10.trans (hbx11.mono hb10.size)
            have hok9 := okz_of hm9 hRl
            have hln9 : cur9.length ≤ 8000000 := by have := congrArg List.length hm9; simp [mes] at this; omega
            have ks := same_of ⟨mi, mt, mk, md⟩ (s8a, s8n, s8c) s10 cur9 zs10 (.slice ta8 n8 tc8) lv10 (w10.alloc (lgc (⟨mi, mt, mk, md⟩, s10) lv10)) (hD9.below hb911) (hD10.below hbx11) hRo.2.2.1 (hE9.below hb911) (hE10.below hbx11) (hm9.trans hm10.symm) (fun z hz => (hok9 z hz).1) (by omega)
            obtain ⟨ua, uc, rfl, -, -⟩ := hE10.1.shape
            obtain ⟨s10a, s10n, s10c⟩ := s10
            dsimp only [lgc, lgv] at *
            obtain ⟨a0, a1, a2, a3, a4⟩ := HC9.out _ hb911
            obtain ⟨b0, b1, b2, b3, b4⟩ := cl11 _ (Below.refl _ _)
            have hI11 := hI9.trans (hb911.mono hI9.size)
            clear kr cl11 HC9 hb10 hbx11 hs11 hD9 hE9 hm9 hD10 hE10 hm10 hok9 HCL HIN hS9 hn9 hln9 c0 c1 c2 c3 c4 d0 d1 d2 d3
            go_wp2_with fail
            refine ks.mono ?_
            rintro e w12 ⟨rfl, hb12⟩
            have hI12 := hI11.trans (hb12.mono hI11.size)
            clear ks a0 a1 a2 a3 a4 b0 b1 b2 b3 b4
            go_wp2_with fail
            refine (ka _).mono ?_
            rintro e w13 ⟨rfl, hb13⟩
            go_wp2
            go_ret
            exact ⟨rfl, hI12.trans (hb13.mono hI12.size)⟩
          · intro K' hK'
            go_simp
            have hS3 : (fun W => Below (w.heap.size + 2) wB W) (W2.alloc (.cells #[.int .u64 0, .int .u64 0, .int .i64 0, .slice none 0 0, .slice none 0 0] 28)) := hS2.alloc (Nat.le_trans hszB hS2.size) _
            have G3 : (W2.alloc (.cells #[.int .u64 0, .int .u64 0, .int .i64 0, .slice none 0 0, .slice none 0 0] 28)).heap[W2.heap.size]? = _ := heap_alloc_new _ _
            have hgg : w.heap.size + 2 ≤ W2.heap.size := (Nat.le_trans hszB hS2.size)
            have R3 := Rk.same (w' := W2.alloc (.cells #[.int .u64 0, .int .u64 0, .int .i64 0, .slice none 0 0, .slice none 0 0] 28)) R2 fun k hk => heap_alloc_old _ _ (R2.lt hk)
            refine hK'.out _ _ (.inr hS3) ?_
            clear hK' K'
            try simp only [List.getElem_toArray, List.getElem_cons_succ, List.getElem_cons_zero, Act.put, List.setIfInBounds_toArray, List.set_cons_zero, List.set_cons_succ]
            generalize W2.alloc (.cells #[.int .u64 0, .int .u64 0, .int .i64 0, .slice none 0 0, .slice none 0 0] 28) = W3 at *
            refine wpAnyL_one 8 (by kernel_rfl) rfl (by kernel_rfl) ?_
            intro K' hK'
            go_simp
            go_at_call 29
            refine (KP.out va9 vc9 _ (HIN.out _ hS3) R3.rd).mono ?_
            rintro e W4 ⟨⟨v8, rfl, C4⟩, hb4⟩
            dsimp only at *
            have hS4 : (fun W => Below (w.heap.size + 2) wB W) W4 := keep9 hS3 hb4
            have G4 := (hb4.block W2.heap.size ((Array.getElem?_eq_some_iff.1 G3).1)).trans G3
            obtain ⟨⟨s8a, s8n, s8c⟩, cur8, st8, hv8, -, hCC⟩ := id C4
            obtain ⟨ta8, tc8, hst8, -⟩ := hCC.1.1.shape
            generalize cur8.length = n8 at hst8
            dsimp only [lgv] at hv8
            subst hst8
            subst hv8
            clear hCC hb4 R3 KP
            refine hK'.out _ _ (.inr hS4) ?_
            clear hK' K'
            try simp only [List.getElem_toArray, List.getElem_cons_succ, List.getElem_cons_zero, Act.put, List.setIfInBounds_toArray, List.set_cons_zero, List.set_cons_succ]
            refine wpAnyL_take 9 rfl (by kernel_rfl) (by kernel_rfl) (by kernel_rfl) (by kernel_rfl) (fun _ _ _ h => h) (by kernel_rfl) (by intro w' hS'; have hz := hS'; obtain ⟨c0, c1, c2, c3, c4, d0, d1, d2, d3⟩ := HCL.out _ hz; go_simp <;> rfl) hS4 ?_
            try simp only [List.getElem_toArray, List.getElem_cons_succ, List.getElem_cons_zero, Act.put, List.setIfInBounds_toArray, List.set_cons_zero, List.set_cons_succ]
            refine wpAnyL_take 10 rfl (by kernel_rfl) (by kernel_rfl) (by kernel_rfl) (by kernel_rfl) (fun _ _ _ h => h) (by kernel_rfl) (by intro w' hS'; have hz := hS'; obtain ⟨c0, c1, c2, c3, c4, d0, d1, d2, d3⟩ := HCL.out _ hz; go_simp <;> rfl) hS4 ?_
            try simp only [List.getElem_toArray, List.getElem_cons_succ, List.getElem_cons_zero, Act.put, List.setIfInBounds_toArray, List.set_cons_zero, List.set_cons_succ]
            refine wpAnyL_take 11 rfl (by kernel_rfl) (by kernel_rfl) (by kernel_rfl) (by kernel_rfl) (fun _ _ _ h => h) (by kernel_rfl) (by intro w' hS'; have hz := hS'; obtain ⟨c0, c1, c2, c3, c4, d0, d1, d2, d3⟩ := HCL.out _ hz; go_simp <;> rfl) hS4 ?_
            try simp only [List.getElem_toArray, List.getElem_cons_succ, List.getElem_cons_zero, Act.put, List.setIfInBounds_toArray, List.set_cons_zero, List.set_cons_succ]
            refine wpAnyL_take 12 rfl (by kernel_rfl) (by kernel_rfl) (by kernel_rfl) (by kernel_rfl) (fun _ _ _ h => h) (by kernel_rfl) (by intro w' hS'; have hz := hS'; obtain ⟨c0, c1, c2, c3, c4, d0, d1, d2, d3⟩ := HCL.out _ hz; go_simp <;> rfl) hS4 ?_
            try simp only [List.getElem_toArray, List.getElem_cons_succ, List.getElem_cons_zero, Act.put, List.setIfInBounds_toArray, List.set_cons_zero, List.set_cons_succ]
            refine wpAnyL_one 14 (by kernel_rfl) rfl (by kernel_rfl) ?_
            intro K' hK'
            go_simp
            obtain ⟨⟨f0, f1, f2, f3, f4⟩, o0, o1, o2, o3, o4⟩ := lg_cells G4
            have hS9 : (fun W => Below (w.heap.size + 2) wB W) _ := lg_set_below hS4 (g := W2.heap.size) hgg (.int .u64 (mi : Int)) (.int .u64 (mt : Int)) (.int .i64 mk) (.slice s8a s8n s8c) (.slice ta8 n8 tc8)
            have HF := lg_set G4 (.int .u64 (mi : Int)) (.int .u64 (mt : Int)) (.int .i64 mk) (.slice s8a s8n s8c) (.slice ta8 n8 tc8)
            have C9 := LogC.farT5 C4 G4 (.int .u64 (mi : Int)) (.int .u64 (mt : Int)) (.int .i64 mk) (.slice s8a s8n s8c) (.slice ta8 n8 tc8)
            go_simp
            refine hK'.out _ _ (.inr hS9) ?_
            clear hK' K'
            try simp only [List.getElem_toArray, List.getElem_cons_succ, List.getElem_cons_zero, Act.put, List.setIfInBounds_toArray, List.set_cons_zero, List.set_cons_succ]
            refine wpAnyL_take 15 rfl (by kernel_rfl) (by kernel_rfl) (by kernel_rfl) (by kernel_rfl) (fun _ _ _ h => h) (by kernel_rfl) (by intro w' hS'; have hz := hS'; obtain ⟨c0, c1, c2, c3, c4, d0, d1, d2, d3⟩ := HCL.out _ hz; go_simp <;> rfl) hS9 ?_
            try simp only [List.getElem_toArray, List.getElem_cons_succ, List.getElem_cons_zero, Act.put, List.setIfInBounds_toArray, List.set_cons_zero, List.set_cons_succ]
            refine wpAnyL_take 16 rfl (by kernel_rfl) (by kernel_rfl) (by kernel_rfl) (by kernel_rfl) (fun _ _ _ h => h) (by kernel_rfl) (by intro w' hS'; have hz := hS'; obtain ⟨c0, c1, c2, c3, c4, d0, d1, d2, d3⟩ := HCL.out _ hz; go_simp <;> rfl) hS9 ?_
            try simp only [List.getElem_toArray, List.getElem_cons_succ, List.getElem_cons_zero, Act.put, List.setIfInBounds_toArray, List.set_cons_zero, List.set_cons_succ]
            refine wpAnyL_done (by kernel_rfl) (NoPanic.normal ?_) _
            generalize (((((W4.setCell ⟨W2.heap.size, 0, none⟩ (.int .u64 (mi : Int))).setCell ⟨W2.heap.size, 1, none⟩ (.int .u64 (mt : Int))).setCell ⟨W2.heap.size, 2, none⟩ (.int .i64 mk)).setCell ⟨W2.heap.size, 3, none⟩ (.slice s8a s8n s8c)).setCell ⟨W2.heap.size, 4, none⟩ (.slice ta8 n8 tc8)) = w9 at *
            generalize W2.heap.size = g9 at *
            clear G4 C4 f0 f1 f2 f3 f4 o0 o1 o2 o3 o4
            have hI9 := HIN.out _ hS9
            obtain ⟨cur9, hD9, hE9, hm9, hn9⟩ := logC_out2 C9
            have HC9 : Hid (∀ W, Below w9.heap.size w9 W → W.cell? ⟨g9, 0, none⟩ = some (.int .u64 (mi : Int)) ∧ W.cell? ⟨g9, 1, none⟩ = some (.int .u64 (mt : Int)) ∧ W.cell? ⟨g9, 2, none⟩ = some (.int .i64 mk) ∧ W.cell? ⟨g9, 3, none⟩ = some (.slice s8a s8n s8c) ∧ W.cell? ⟨g9, 4, none⟩ = some (.slice ta8 n8 tc8)) := fun W hW => (lg_cells ((hW.block g9 (Array.getElem?_eq_some_iff.1 HF).1).trans HF)).2
            have kr := KR.out w9 hI9
            obtain ⟨c0, c1, c2, c3, c4, d0, d1, d2, d3⟩ := HCL.out _ hS9
            clear C9 HF KR
            go_wp2_with fail
            refine kr.mono ?_
            rintro e w10 ⟨⟨v10, rfl, s10, zs10, lv10, rfl, hD10, hE10, hm10⟩, hb10⟩
            dsimp only at hm10 hD10
            obtain ⟨hs11, hbx11, cl11⟩ := lg_box w10 (⟨mi, mt, mk, md⟩, s10) lv10
            have hb911 := hb10.trans (hbx11.mono hb10.size)
            have hok9 := okz_of hm9 hRl
            have hln9 : cur9.length ≤ 8000000 := by have := congrArg List.length hm9; simp [mes] at this; omega
            have ks := same_of ⟨mi, mt, mk, md⟩ (s8a, s8n, s8c) s10 cur9 zs10 (.slice ta8 n8 tc8) lv10 (w10.alloc (lgc (⟨mi, mt, mk, md⟩, s10) lv10)) (hD9.below hb911) (hD10.below hbx11) hRo.2.2.1 (hE9.below hb911) (hE10.below hbx11) (hm9.trans hm10.symm) (fun z hz => (hok9 z hz).1) (by omega)
            obtain ⟨ua, uc, rfl, -, -⟩ := hE10.1.shape
            obtain ⟨s10a, s10n, s10c⟩ := s10
            dsimp only [lgc, lgv] at *
            obtain ⟨a0, a1, a2, a3, a4⟩ := HC9.out _ hb911
            obtain ⟨b0, b1, b2, b3, b4⟩ := cl11 _ (Below.refl _ _)
            have hI11 := hI9.trans (hb911.mono hI9.size)
            clear kr cl11 HC9 hb10 hbx11 hs11 hD9 hE9 hm9 hD10 hE10 hm10 hok9 HCL HIN hS9 hn9 hln9 c0 c1 c2 c3 c4 d0 d1 d2 d3
            go_wp2_with fail
            refine ks.mono ?_
            rintro e w12 ⟨rfl, hb12⟩
            have hI12 := hI11.trans (hb12.mono hI11.size)
            clear ks a0 a1 a2 a3 a4 b0 b1 b2 b3 b4
            go_wp2_with fail
            refine (ka _).mono ?_
            rintro e w13 ⟨rfl, hb13⟩
            go_wp2
            go_ret
            exact ⟨rfl, hI12.trans (hb13.mono hI12.size)⟩
        · intro K' hK'
          go_simp
          have hS2 : (fun W => Below (w.heap.size + 2) wB W) (W1.alloc (.cells #[.int .u64 0, .int .u64 0, .int .i64 0, .slice none 0 0, .slice none 0 0] 28)) := hS1.alloc (Nat.le_trans hszB hS1.size) _
          have G2 : (W1.alloc (.cells #[.int .u64 0, .int .u64 0, .int .i64 0, .slice none 0 0, .slice none 0 0] 28)).heap[W1.heap.size]? = _ := heap_alloc_new _ _
          have hgg : w.heap.size + 2 ≤ W1.heap.size := (Nat.le_trans hszB hS1.size)
          have R2 := Rk.same (w' := W1.alloc (.cells #[.int .u64 0, .int .u64 0, .int .i64 0, .slice none 0 0, .slice none 0 0] 28)) R1 fun k hk => heap_alloc_old _ _ (R1.lt hk)
          refine hK'.out _ _ (.inr hS2) ?_
          clear hK' K'
          try simp only [List.getElem_toArray, List.getElem_cons_succ, List.getElem_cons_zero, Act.put, List.setIfInBounds_toArray, List.set_cons_zero, List.set_cons_succ]
          generalize W1.alloc (.cells #[.int .u64 0, .int .u64 0, .int .i64 0, .slice none 0 0, .slice none 0 0] 28) = W2 at *
          refine wpAnyL_one 7 (by kernel_rfl) rfl (by kernel_rfl) ?_
          intro K' hK'
          have rH : Hid _ := app_ents R2 (HXD.out _ hS2) (by simp) hxl
          refine op_by _ _ _ rfl _ _ rfl rfl rH.out ?_
          intro v9 W3 p3
          have hS3 : (fun W => Below (w.heap.size + 2) wB W) W3 := hS2.trans (grown_below p3.2.1 (Nat.le_trans hszB hS2.size) (fun k hk => by cases hk; exact hv0))
          have G3 := (p3.2.1.block W1.heap.size ((Array.getElem?_eq_some_iff.1 G2).1) (fun e => by
            obtain ⟨cs, hc⟩ := Rk.block R2 e.symm
            rw [G2] at hc
            simp at hc)).trans G2
          have R3 := p3.1
          rw [List.nil_append] at R3
          obtain ⟨va9, vc9, hv9, -⟩ := R3.shape
          subst hv9
          clear rH p3
          refine hK'.out _ _ (.inr hS3) ?_
          clear hK' K'
          try simp only [List.getElem_toArray, List.getElem_cons_succ, List.getElem_cons_zero, Act.put, List.setIfInBounds_toArray, List.set_cons_zero, List.set_cons_succ]
          refine wpAnyL_one 8 (by kernel_rfl) rfl (by kernel_rfl) ?_
          intro K' hK'
          go_simp
          go_at_call 29
          refine (KP.out va9 vc9 _ (HIN.out _ hS3) R3.rd).mono ?_
          rintro e W4 ⟨⟨v8, rfl, C4⟩, hb4⟩
          dsimp only at *
          have hS4 : (fun W => Below (w.heap.size + 2) wB W) W4 := keep9 hS3 hb4
          have G4 := (hb4.block W1.heap.size ((Array.getElem?_eq_some_iff.1 G3).1)).trans G3
          obtain ⟨⟨s8a, s8n, s8c⟩, cur8, st8, hv8, -, hCC⟩ := id C4
          obtain ⟨ta8, tc8, hst8, -⟩ := hCC.1.1.shape
          generalize cur8.length = n8 at hst8
          dsimp only [lgv] at hv8
          subst hst8
          subst hv8
          clear hCC hb4 R3 KP
          refine hK'.out _ _ (.inr hS4) ?_
          clear hK' K'
          try simp only [List.getElem_toArray, List.getElem_cons_succ, List.getElem_cons_zero, Act.put, List.setIfInBounds_toArray, List.set_cons_zero, List.set_cons_succ]
          refine wpAnyL_take 9 rfl (by kernel_rfl) (by kernel_rfl) (by kernel_rfl) (by kernel_rfl) (fun _ _ _ h => h) (by kernel_rfl) (by intro w' hS'; have hz := hS'; obtain ⟨c0, c1, c2, c3, c4, d0, d1, d2, d3⟩ := HCL.out _ hz; go_simp <;> rfl) hS4 ?_
          try simp only [List.getElem_toArray, List.getElem_cons_succ, List.getElem_cons_zero, Act.put, List.setIfInBounds_toArray, List.set_cons_zero, List.set_cons_succ]
          refine wpAnyL_take 10 rfl (by kernel_rfl) (by kernel_rfl) (by kernel_rfl) (by kernel_rfl) (fun _ _ _ h => h) (by kernel_rfl) (by intro w' hS'; have hz := hS'; obtain ⟨c0, c1, c2, c3, c4, d0, d1, d2, d3⟩ := HCL.out _ hz; go_simp <;> rfl) hS4 ?_
          try simp only [List.getElem_toArray, List.getElem_cons_succ, List.getElem_cons_zero, Act.put, List.setIfInBounds_toArray, List.set_cons_zero, List.set_cons_succ]
          refine wpAnyL_take 11 rfl (by kernel_rfl) (by kernel_rfl) (by kernel_rfl) (by kernel_rfl) (fun _ _ _ h => h) (by kernel_rfl) (by intro w' hS'; have hz := hS'; obtain ⟨c0, c1, c2, c3, c4, d0, d1, d2, d3⟩ := HCL.out _ hz; go_simp <;> rfl) hS4 ?_
          try simp only [List.getElem_toArray, List.getElem_cons_succ, List.getElem_cons_zero, Act.put, List.setIfInBounds_toArray, List.set_cons_zero, List.set_cons_succ]
          refine wpAnyL_take 12 rfl (by kernel_rfl) (by kernel_rfl) (by kernel_rfl) (by kernel_rfl) (fun _ _ _ h => h) (by kernel_rfl) (by intro w' hS'; have hz := hS'; obtain ⟨c0, c1, c2, c3, c4, d0, d1, d2, d3⟩ := HCL.out _ hz; go_simp <;> rfl) hS4 ?_
          try simp only [List.getElem_toArray, List.getElem_cons_succ, List.getElem_cons_zero, Act.put, List.setIfInBounds_toArray, List.set_cons_zero, List.set_cons_succ]
          refine wpAnyL_one 14 (by kernel_rfl) rfl (by kernel_rfl) ?_
          intro K' hK'
          go_simp
          obtain ⟨⟨f0, f1, f2, f3, f4⟩, o0, o1, o2, o3, o4⟩ := lg_cells G4
          have hS9 : (fun W => Below (w.heap.size + 2) wB W) _ := lg_set_below hS4 (g := W1.heap.size) hgg (.int .u64 (mi : Int)) (.int .u64 (mt : Int)) (.int .i64 mk) (.slice s8a s8n s8c) (.slice ta8 n8 tc8)
          have HF := lg_set G4 (.int .u64 (mi : Int)) (.int .u64 (mt : Int)) (.int .i64 mk) (.slice s8a s8n s8c) (.slice ta8 n8 tc8)
          have C9 := LogC.farT5 C4 G4 (.int .u64 (mi : Int)) (.int .u64 (mt : Int)) (.int .i64 mk) (.slice s8a s8n s8c) (.slice ta8 n8 tc8)
          go_simp
          refine hK'.out _ _ (.inr hS9) ?_
          clear hK' K'
          try simp only [List.getElem_toArray, List.getElem_cons_succ, List.getElem_cons_zero, Act.put, List.setIfInBounds_toArray, List.set_cons_zero, List.set_cons_succ]
          refine wpAnyL_take 15 rfl (by kernel_rfl) (by kernel_rfl) (by kernel_rfl) (by kernel_rfl) (fun _ _ _ h => h) (by kernel_rfl) (by intro w' hS'; have hz := hS'; obtain ⟨c0, c1, c2, c3, c4, d0, d1, d2, d3⟩ := HCL.out _ hz; go_simp <;> rfl) hS9 ?_
          try simp only [List.getElem_toArray, List.getElem_cons_succ, List.getElem_cons_zero, Act.put, List.setIfInBounds_toArray, List.set_cons_zero, List.set_cons_succ]
          refine wpAnyL_take 16 rfl (by kernel_rfl) (by kernel_rfl) (by kernel_rfl) (by kernel_rfl) (fun _ _ _ h => h) (by kernel_rfl) (by intro w' hS'; have hz := hS'; obtain ⟨c0, c1, c2, c3, c4, d0, d1, d2, d3⟩ := HCL.out _ hz; go_simp <;> rfl) hS9 ?_
          try simp only [List.getElem_toArray, List.getElem_cons_succ, List.getElem_cons_zero, Act.put, List.setIfInBounds_toArray, List.set_cons_zero, List.set_cons_succ]
          refine wpAnyL_done (by kernel_rfl) (NoPanic.normal ?_) _
          generalize (((((W4.setCell ⟨W1.heap.size, 0, none⟩ (.int .u64 (mi : Int))).setCell ⟨W1.heap.size, 1, none⟩ (.int .u64 (mt : Int))).setCell ⟨W1.heap.size, 2, none⟩ (.int .i64 mk)).setCell ⟨W1.heap.size, 3, none⟩ (.slice s8a s8n s8c)).setCell ⟨W1.heap.size, 4, none⟩ (.slice ta8 n8 tc8)) = w9 at *
          generalize W1.heap.size = g9 at *
          clear G4 C4 f0 f1 f2 f3 f4 o0 o1 o2 o3 o4
          have hI9 := HIN.out _ hS9
          obtain ⟨cur9, hD9, hE9, hm9, hn9⟩ := logC_out2 C9
          have HC9 : Hid (∀ W, Below w9.heap.size w9 W → W.cell? ⟨g9, 0, none⟩ = some (.int .u64 (mi : Int)) ∧ W.cell? ⟨g9, 1, none⟩ = some (.int .u64 (mt : Int)) ∧ W.cell? ⟨g9, 2, none⟩ = some (.int .i64 mk) ∧ W.cell? ⟨g9, 3, none⟩ = some (.slice s8a s8n s8c) ∧ W.cell? ⟨g9, 4, none⟩ = some (.slice ta8 n8 tc8)) := fun W hW => (lg_cells ((hW.block g9 (Array.getElem?_eq_some_iff.1 HF).1).trans HF)).2
          have kr := KR.out w9 hI9
          obtain ⟨c0, c1, c2, c3, c4, d0, d1, d2, d3⟩ := HCL.out _ hS9
          clear C9 HF KR
          go_wp2_with fail
          refine kr.mono ?_
          rintro e w10 ⟨⟨v10, rfl, s10, zs10, lv10, rfl, hD10, hE10, hm10⟩, hb10⟩
          dsimp only at hm10 hD10
          obtain ⟨hs11, hbx11, cl11⟩ := lg_box w10 (⟨mi, mt, mk, md⟩, s10) lv10
          have hb911 := hb10.trans (hbx11.mono hb10.size)
          have hok9 := okz_of hm9 hRl
          have hln9 : cur9.length ≤ 8000000 := by have := congrArg List.length hm9; simp [mes] at this; omega
          have ks := same_of ⟨mi, mt, mk, md⟩ (s8a, s8n, s8c) s10 cur9 zs10 (.slice ta8 n8 tc8) lv10 (w10.alloc (lgc (⟨mi, mt, mk, md⟩, s10) lv10)) (hD9.below hb911) (hD10.below hbx11) hRo.2.2.1 (hE9.below hb911) (hE10.below hbx11) (hm9.trans hm10.symm) (fun z hz => (hok9 z hz).1) (by omega)
          obtain ⟨ua, uc, rfl, -, -⟩ := hE10.1.shape
          obtain ⟨s10a, s10n, s10c⟩ := s10
          dsimp only [lgc, lgv] at *
          obtain ⟨a0, a1, a2, a3, a4⟩ := HC9.out _ hb911
          obtain ⟨b0, b1, b2, b3, b4⟩ := cl11 _ (Below.refl _ _)
          have hI11 := hI9.trans (hb911.mono hI9.size)
          clear kr cl11 HC9 hb10 hbx11 hs11 hD9 hE9 hm9 hD10 hE10 hm10 hok9 HCL HIN hS9 hn9 hln9 c0 c1 c2 c3 c4 d0 d1 d2 d3
          go_wp2_with fail
          refine ks.mono ?_
          rintro e w12 ⟨rfl, hb12⟩
          have hI12 := hI11.trans (hb12.mono hI11.size)
          clear ks a0 a1 a2 a3 a4 b0 b1 b2 b3 b4
          go_wp2_with fail
          refine (ka _).mono ?_
          rintro e w13 ⟨rfl, hb13⟩
          go_wp2
          go_ret
          exact ⟨rfl, hI12.trans (hb13.mono hI12.size)⟩
      · intro K' hK'
        go_simp
        have hS1 : (fun W => Below (w.heap.size + 2) wB W) (W0.alloc (.cells #[.int .u64 0, .int .u64 0, .int .i64 0, .slice none 0 0, .slice none 0 0] 28)) := hS0.alloc (Nat.le_trans hszB hS0.size) _
        have G1 : (W0.alloc (.cells #[.int .u64 0, .int .u64 0, .int .i64 0, .slice none 0 0, .slice none 0 0] 28)).heap[W0.heap.size]? = _ := heap_alloc_new _ _
        have hgg : w.heap.size + 2 ≤ W0.heap.size := (Nat.le_trans hszB hS0.size)
        refine hK'.out _ _ (.inr hS1) ?_
        clear hK' K'
        try simp only [List.getElem_toArray, List.getElem_cons_succ, List.getElem_cons_zero, Act.put, List.setIfInBounds_toArray, List.set_cons_zero, List.set_cons_succ]
        generalize W0.alloc (.cells #[.int .u64 0, .int .u64 0, .int .i64 0, .slice none 0 0, .slice none 0 0] 28) = W1 at *
        refine wpAnyL_one 5 (by kernel_rfl) rfl (by kernel_rfl) ?_
        intro K' hK'
        go_simp
        have hS2 : (fun W => Below (w.heap.size + 2) wB W) (W1.alloc (.cells #[] 25)) := hS1.alloc (Nat.le_trans hszB hS1.size) _
        have R2 : Rk entE (W1.alloc (.cells #[] 25)) 25 (.slice (some ⟨W1.heap.size, 0, none⟩) 0 0) [] := Rk.made (E := entE) (xs := []) (heap_alloc_new _ _) rfl (by unfold maxLen; simp)
        have hv0 : w.heap.size + 2 ≤ W1.heap.size := (Nat.le_trans hszB hS1.size)
        have G2 : (W1.alloc (.cells #[] 25)).heap[W0.heap.size]? = _ := (heap_alloc_old _ _ ((Array.getElem?_eq_some_iff.1 G1).1)).trans G1
        refine hK'.out _ _ (.inr hS2) ?_
        clear hK' K'
        try simp only [List.getElem_toArray, List.getElem_cons_succ, List.getElem_cons_zero, Act.put, List.setIfInBounds_toArray, List.set_cons_zero, List.set_cons_succ]
        generalize W1.alloc (.cells #[] 25) = W2 at *
        refine wpAnyL_one 7 (by kernel_rfl) rfl (by kernel_rfl) ?_
        intro K' hK'
        have rH : Hid _ := app_ents R2 (HXD.out _ hS2) (by simp) hxl
        refine op_by _ _ _ rfl _ _ rfl rfl rH.out ?_
        intro v9 W3 p3
        have hS3 : (fun W => Below (w.heap.size + 2) wB W) W3 := hS2.trans (grown_below p3.2.1 (Nat.le_trans hszB hS2.size) (fun k hk => by cases hk; exact hv0))
        have G3 := (p3.2.1.block W0.heap.size ((Array.getElem?_eq_some_iff.1 G2).1) (fun e => by
          obtain ⟨cs, hc⟩ := Rk.block R2 e.symm
          rw [G2] at hc
          simp at hc)).trans G2
        have R3 := p3.1
        rw [List.nil_append] at R3
        obtain ⟨va9, vc9, hv9, -⟩ := R3.shape
        subst hv9
        clear rH p3
        refine hK'.out _ _ (.inr hS3) ?_
        clear hK' K'
        try simp only [List.getElem_toArray, List.getElem_cons_succ, List.getElem_cons_zero, Act.put, List.setIfInBounds_toArray, List.set_cons_zero, List.set_cons_succ]
        refine wpAnyL_one 8 (by kernel_rfl) rfl (by kernel_rfl) ?_
        intro K' hK'
        go_simp
        go_at_call 29
        refine (KP.out va9 vc9 _ (HIN.out _ hS3) R3.rd).mono ?_
        rintro e W4 ⟨⟨v8, rfl, C4⟩, hb4⟩
        dsimp only at *
        have hS4 : (fun W => Below (w.heap.size + 2) wB W) W4 := keep9 hS3 hb4
        have G4 := (hb4.block W0.heap.size ((Array.getElem?_eq_some_iff.1 G3).1)).trans G3
        obtain ⟨⟨s8a, s8n, s8c⟩, cur8, st8, hv8, -, hCC⟩ := id C4
        obtain ⟨ta8, tc8, hst8, -⟩ := hCC.1.1.shape
        generalize cur8.length = n8 at hst8
        dsimp only [lgv] at hv8
        subst hst8
        subst hv8
        clear hCC hb4 R3 KP
        refine hK'.out _ _ (.inr hS4) ?_
        clear hK' K'
        try simp only [List.getElem_toArray, List.getElem_cons_succ, List.getElem_cons_zero, Act.put, List.setIfInBounds_toArray, List.set_cons_zero, List.set_cons_succ]
        refine wpAnyL_take 9 rfl (by kernel_rfl) (by kernel_rfl) (by kernel_rfl) (by kernel_rfl) (fun _ _ _ h => h) (by kernel_rfl) (by intro w' hS'; have hz := hS'; obtain ⟨c0, c1, c2, c3, c4, d0, d1, d2, d3⟩ := HCL.out _ hz; go_simp <;> rfl) hS4 ?_
        try simp only [List.getElem_toArray, List.getElem_cons_succ, List.getElem_cons_zero, Act.put, List.setIfInBounds_toArray, List.set_cons_zero, List.set_cons_succ]
        refine wpAnyL_take 10 rfl (by kernel_rfl) (by kernel_rfl) (by kernel_rfl) (by kernel_rfl) (fun _ _ _ h => h) (by kernel_rfl) (by intro w' hS'; have hz := hS'; obtain ⟨c0, c1, c2, c3, c4, d0, d1, d2, d3⟩ := HCL.out _ hz; go_simp <;> rfl) hS4 ?_
        try simp only [List.getElem_toArray, List.getElem_cons_succ, List.getElem_cons_zero, Act.put, List.setIfInBounds_toArray, List.set_cons_zero, List.set_cons_succ]
        refine wpAnyL_take 11 rfl (by kernel_rfl) (by kernel_rfl) (by kernel_rfl) (by kernel_rfl) (fun _ _ _ h => h) (by kernel_rfl) (by intro w' hS'; have hz := hS'; obtain ⟨c0, c1, c2, c3, c4, d0, d1, d2, d3⟩ := HCL.out _ hz; go_simp <;> rfl) hS4 ?_
        try simp only [List.getElem_toArray, List.getElem_cons_succ, List.getElem_cons_zero, Act.put, List.setIfInBounds_toArray, List.set_cons_zero, List.set_cons_succ]
        refine wpAnyL_take 12 rfl (by kernel_rfl) (by kernel_rfl) (by kernel_rfl) (by kernel_rfl) (fun _ _ _ h => h) (by kernel_rfl) (by intro w' hS'; have hz := hS'; obtain ⟨c0, c1, c2, c3, c4, d0, d1, d2, d3⟩ := HCL.out _ hz; go_simp <;> rfl) hS4 ?_
        try simp only [List.getElem_toArray, List.getElem_cons_succ, List.getElem_cons_zero, Act.put, List.setIfInBounds_toArray, List.set_cons_zero, List.set_cons_succ]
        refine wpAnyL_one 14 (by kernel_rfl) rfl (by kernel_rfl) ?_
        intro K' hK'
        go_simp
        obtain ⟨⟨f0, f1, f2, f3, f4⟩, o0, o1, o2, o3, o4⟩ := lg_cells G4
        have hS9 : (fun W => Below (w.heap.size + 2) wB W) _ := lg_set_below hS4 (g := W0.heap.size) hgg (.int .u64 (mi : Int)) (.int .u64 (mt : Int)) (.int .i64 mk) (.slice s8a s8n s8c) (.slice ta8 n8 tc8)
        have HF := lg_set G4 (.int .u64 (mi : Int)) (.int .u64 (mt : Int)) (.int .i64 mk) (.slice s8a s8n s8c) (.slice ta8 n8 tc8)
        have C9 := LogC.farT5 C4 G4 (.int .u64 (mi : Int)) (.int .u64 (mt : Int)) (.int .i64 mk) (.slice s8a s8n s8c) (.slice ta8 n8 tc8)
        go_simp
        refine hK'.out _ _ (.inr hS9) ?_
        clear hK' K'
        try simp only [List.getElem_toArray, List.getElem_cons_succ, List.getElem_cons_zero, Act.put, List.setIfInBounds_toArray, List.set_cons_zero, List.set_cons_succ]
        refine wpAnyL_take 15 rfl (by kernel_rfl) (by kernel_rfl) (by kernel_rfl) (by kernel_rfl) (fun _ _ _ h => h) (by kernel_rfl) (by intro w' hS'; have hz := hS'; obtain ⟨c0, c1, c2, c3, c4, d0, d1, d2, d3⟩ := HCL.out _ hz; go_simp <;> rfl) hS9 ?_
        try simp only [List.getElem_toArray, List.getElem_cons_succ, List.getElem_cons_zero, Act.put, List.setIfInBounds_toArray, List.set_cons_zero, List.set_cons_succ]
        refine wpAnyL_take 16 rfl (by kernel_rfl) (by kernel_rfl) (by kernel_rfl) (by kernel_rfl) (fun _ _ _ h => h) (by kernel_rfl) (by intro w' hS'; have hz := hS'; obtain ⟨c0, c1, c2, c3, c4, d0, d1, d2, d3⟩ := HCL.out _ hz; go_simp <;> rfl) hS9 ?_
        try simp only [List.getElem_toArray, List.getElem_cons_succ, List.getElem_cons_zero, Act.put, List.setIfInBounds_toArray, List.set_cons_zero, List.set_cons_succ]
        refine wpAnyL_done (by kernel_rfl) (NoPanic.normal ?_) _
        generalize (((((W4.setCell ⟨W0.heap.size, 0, none⟩ (.int .u64 (mi : Int))).setCell ⟨W0.heap.size, 1, none⟩ (.int .u64 (mt : Int))).setCell ⟨W0.heap.size, 2, none⟩ (.int .i64 mk)).setCell ⟨W0.heap.size, 3, none⟩ (.slice s8a s8n s8c)).setCell ⟨W0.heap.size, 4, none⟩ (.slice ta8 n8 tc8)) = w9 at *
        generalize W0.heap.size = g9 at *
        clear G4 C4 f0 f1 f2 f3 f4 o0 o1 o2 o3 o4
        have hI9 := HIN.out _ hS9
        obtain ⟨cur9, hD9, hE9, hm9, hn9⟩ := logC_out2 C9
        have HC9 : Hid (∀ W, Below w9.heap.size w9 W → W.cell? ⟨g9, 0, none⟩ = some (.int .u64 (mi : Int)) ∧ W.cell? ⟨g9, 1, none⟩ = some (.int .u64 (mt : Int)) ∧ W.cell? ⟨g9, 2, none⟩ = some (.int .i64 mk) ∧ W.cell? ⟨g9, 3, none⟩ = some (.slice s8a s8n s8c) ∧ W.cell? ⟨g9, 4, none⟩ = some (.slice ta8 n8 tc8)) := fun W hW => (lg_cells ((hW.block g9 (Array.getElem?_eq_some_iff.1 HF).1).trans HF)).2
        have kr := KR.out w9 hI9
        obtain ⟨c0, c1, c2, c3, c4, d0, d1, d2, d3⟩ := HCL.out _ hS9
        clear C9 HF KR
        go_wp2_with fail
        refine kr.mono ?_
        rintro e w10 ⟨⟨v10, rfl, s10, zs10, lv10, rfl, hD10, hE10, hm10⟩, hb10⟩
        dsimp only at hm10 hD10
        obtain ⟨hs11, hbx11, cl11⟩ := lg_box w10 (⟨mi, mt, mk, md⟩, s10) lv10
        have hb911 := hb10.trans (hbx11.mono hb10.size)
        have hok9 := okz_of hm9 hRl
        have hln9 : cur9.length ≤ 8000000 := by have := congrArg List.length hm9; simp [mes] at this; omega
        have ks := same_of ⟨mi, mt, mk, md⟩ (s8a, s8n, s8c) s10 cur9 zs10 (.slice ta8 n8 tc8) lv10 (w10.alloc (lgc (⟨mi, mt, mk, md⟩, s10) lv10)) (hD9.below hb911) (hD10.below hbx11) hRo.2.2.1 (hE9.below hb911) (hE10.below hbx11) (hm9.trans hm10.symm) (fun z hz => (hok9 z hz).1) (by omega)
        obtain ⟨ua, uc, rfl, -, -⟩ := hE10.1.shape
        obtain ⟨s10a, s10n, s10c⟩ := s10
        dsimp only [lgc, lgv] at *
        obtain ⟨a0, a1, a2, a3, a4⟩ := HC9.out _ hb911
        obtain ⟨b0, b1, b2, b3, b4⟩ := cl11 _ (Below.refl _ _)
        have hI11 := hI9.trans (hb911.mono hI9.size)
        clear kr cl11 HC9 hb10 hbx11 hs11 hD9 hE9 hm9 hD10 hE10 hm10 hok9 HCL HIN hS9 hn9 hln9 c0 c1 c2 c3 c4 d0 d1 d2 d3
        go_wp2_with fail
        refine ks.mono ?_
        rintro e w12 ⟨rfl, hb12⟩
        have hI12 := hI11.trans (hb12.mono hI11.size)
        clear ks a0 a1 a2 a3 a4 b0 b1 b2 b3 b4
        go_wp2_with fail
        refine (ka _).mono ?_
        rintro e w13 ⟨rfl, hb13⟩
        go_wp2
        go_ret
        exact ⟨rfl, hI12.trans (hb13.mono hI12.size)⟩
end Go.Proofs.Ytmmonehpfmlmeaa

