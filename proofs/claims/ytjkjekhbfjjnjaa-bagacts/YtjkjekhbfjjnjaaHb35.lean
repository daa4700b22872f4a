import Derived.Test.YtjkjekhbfjjnjaaHb31
import Derived.Laws.Cover1
/- The contract of the law's 'does': Part. -/
namespace Go.Proofs.Ytjkjekhbfjjnjaa
open Go.RowKit Go.Maps
set_option maxRecDepth 100000
set_option linter.unusedSimpArgs false
set_option linter.unusedVariables false

set_option maxHeartbeats 8000000 in
theorem does_4 {n : Nat} {w : World} {p m q : Nat} {l : List Msg} {ps : List (Int × Int)} {N : Nat} (h : ASt n w p m q l ps N) (hn : n ≤ w.heap.size) (hN : N ≤ 1000) (A B : Int) (hAi : i64 A) (hBi : i64 B) (sa : Option Addr) (dl sc : Nat) (hab : A ≠ B) :
    Calls Try.prog 9 #[.pointer (some ⟨p, 0, none⟩), .pointer (some ⟨q, 0, none⟩), .agg #[.int .i64 4, .int .i64 A, .int .i64 B, .slice sa dl sc]] w (DoesT n w p m q N) := by
  have a1 := (Below.refl w.heap.size w).alloc (Nat.le_refl _) (.cells #[.int .i64 4, .int .i64 A, .int .i64 B, .slice sa dl sc] 33)
  have nb := heap_alloc_new w (.cells #[.int .i64 4, .int .i64 A, .int .i64 B, .slice sa dl sc] 33)
  obtain ⟨lv, pv, hMod, hMn⟩ := h.mod
  obtain ⟨fv, hBag, hAn⟩ := h.bag
  have hlen := h.len
  have hlenp := h.lenp
  have q0 := (hMod.below a1).cells.1
  obtain ⟨al, cal, hlv, hlec, -⟩ := hMod.lrow.shape
  rw [hlv] at q0
  have b1 : (w.alloc (.cells #[.int .i64 4, .int .i64 A, .int .i64 B, .slice sa dl sc] 33)).cell? ⟨w.heap.size, 1, none⟩ = some (.int .i64 A) := by rw [cells_of_block nb]; rfl
  by_cases hlo : 0 ≤ A
  · have hlod : decide (0 ≤ A) = true := by simpa using hlo
    have hle0 : ¬ A < 0 := by omega
    go_enter Try.func9, Try.ntmps9
    go_wp2
    go_quiet (fail)
    obtain ⟨W1, hW1⟩ : ∃ W1, W1 = (w.alloc (.cells #[.int .i64 4, .int .i64 A, .int .i64 B, .slice sa dl sc] 33)).drewN nq := ⟨_, rfl⟩
    rw [← hW1]
    have hb1 : Below w.heap.size w W1 := by rw [hW1]; exact below_drewN a1 nq
    have nb1 : W1.heap[w.heap.size]? = some (.cells #[.int .i64 4, .int .i64 A, .int .i64 B, .slice sa dl sc] 33 (0, 0)) := by rw [hW1]; exact nb
    clear hW1 nq a1 nb b1 q0
    have hn1 := Nat.le_trans hn hb1.size
    have hBag1 := hBag.below hb1
    have hMod1 := hMod.below hb1
    have c0 : W1.cell? ⟨w.heap.size, 0, none⟩ = some (.int .i64 4) := by rw [cells_of_block nb1]; rfl
    have c1 : W1.cell? ⟨w.heap.size, 1, none⟩ = some (.int .i64 A) := by rw [cells_of_block nb1]; rfl
    have c2 : W1.cell? ⟨w.heap.size, 2, none⟩ = some (.int .i64 B) := by rw [cells_of_block nb1]; rfl
    have c3 : W1.cell? ⟨w.heap.size, 3, none⟩ = some (.slice sa dl sc) := by rw [cells_of_block nb1]; rfl
    have hpo : partsOf (ps ++ [(A, B)]) = partP (partsOf ps) (lo A B) (hi A B) := by rw [partsOf_snoc, if_neg hab]
    have kpa : Calls Try.prog 19 #[.pointer (some ⟨p, 0, none⟩), .int .i64 A, .int .i64 B] W1 (fun e W2 => e = .returned (.tuple #[]) ∧ Did W1 p m fv l (partsOf (ps ++ [(A, B)])) (N + 1) W2) := by
      refine (part_of hBag1 A B hAi hBi hab (by omega)).mono ?_
      rintro e W2 ⟨rfl, hD⟩
      exact ⟨rfl, by rw [hpo]; exact hD⟩
    
    obtain ⟨ap, cap, hpv, hpc, -⟩ := hMod1.prow.shape
    have hR : mparted (ps ++ [(A, B)]) A B = true := by
      rw [mparted_eq]
      rw [hpo]
      simp [partP]
    have k2 : ∀ W2, Did W1 p m fv l (partsOf (ps ++ [(A, B)])) (N + 1) W2 → Hid ((∀ W, Below n w W ∧ W.heap[w.heap.size]? = W1.heap[w.heap.size]? ∧ W.heap[q]? = W1.heap[q]? → W.cell? ⟨q, 1, none⟩ = some (.slice ap ps.length cap) ∧ W.cell? ⟨w.heap.size, 1, none⟩ = some (.int .i64 A) ∧ W.cell? ⟨w.heap.size, 2, none⟩ = some (.int .i64 B)) ∧ (Below n w W2.drew ∧ W2.drew.heap[w.heap.size]? = W1.heap[w.heap.size]? ∧ W2.drew.heap[q]? = W1.heap[q]?) ∧ (Below n w (W2.alloc (.cells #[.int .i64 A, .int .i64 B] 55)).drew ∧ (W2.alloc (.cells #[.int .i64 A, .int .i64 B] 55)).drew.heap[w.heap.size]? = W1.heap[w.heap.size]? ∧ (W2.alloc (.cells #[.int .i64 A, .int .i64 B] 55)).drew.heap[q]? = W1.heap[q]?) ∧
        (∀ ty, ∃ v' w', (Builtin.append_ #[27, 27] ty #[.slice ap ps.length cap, .slice (some ⟨W2.heap.size, 0, none⟩) 1 1]).run Try.prog (W2.alloc (.cells #[.int .i64 A, .int .i64 B] 55)).drew = .ok v' w' ∧ ((∃ a n c, v' = .slice a n c) ∧ w'.cell? ⟨q, 1, none⟩ = some (.slice ap ps.length cap) ∧ w'.frozen? ⟨q, 1, none⟩ = false ∧ (Below n w w' ∧ w'.heap[w.heap.size]? = W1.heap[w.heap.size]? ∧ w'.heap[q]? = W1.heap[q]?) ∧ Hid (W2.heap.size ≤ w'.heap.size ∧ (∀ W, Below (w'.setCell ⟨q, 1, none⟩ v').heap.size (w'.setCell ⟨q, 1, none⟩ v') W → W.cell? ⟨w.heap.size, 1, none⟩ = some (.int .i64 A) ∧ W.cell? ⟨w.heap.size, 2, none⟩ = some (.int .i64 B)) ∧ (∀ W, Below (w'.setCell ⟨q, 1, none⟩ v').heap.size (w'.setCell ⟨q, 1, none⟩ v') W → Calls Try.prog 11 #[.pointer (some ⟨p, 0, none⟩), .int .i64 A, .int .i64 B] W (fun e W4 => e = .returned (.bool true) ∧ Below W.heap.size W W4)) ∧ ∀ W, Below (w'.setCell ⟨q, 1, none⟩ v').heap.size (w'.setCell ⟨q, 1, none⟩ v') W → Hid (DoesT n w p m q N (.returned (.bool true)) W))))) := fun W2 hD => by
      obtain ⟨fv2, d1, d2, d3⟩ := id hD
      have hM2 := hMod1.kept hBag1 d2
      have hnbx : ¬ Mine p m fv w.heap.size := fun e => by have := hBag.lt _ e; omega
      have hnq : ¬ Mine p m fv q := fun e => apart hBag1 hMod1 e (.inl rfl)
      have nb2 := d2.block w.heap.size (Array.getElem?_eq_some_iff.1 nb1).1 hnbx
      have nq2 := d2.block q (hMod1.lt q (.inl rfl)) hnq
      have hlx : w.heap.size < W2.heap.size := Nat.lt_of_lt_of_le (Array.getElem?_eq_some_iff.1 nb1).1 d2.size
      have hlq : q < W2.heap.size := Nat.lt_of_lt_of_le (hMod1.lt q (.inl rfl)) d2.size
      obtain ⟨hB2, hbD⟩ := BagNew.did (l := l) hn1 hAn hD
      have hw2 := (hb1.mono hn).trans hbD
      have q1' := hM2.cells.2.1
      rw [hpv] at q1'
      refine ⟨fun W hW => ?_, ⟨hw2.drew, nb2, nq2⟩, ⟨(hw2.alloc (Nat.le_trans hn hw2.size) _).drew, (heap_alloc_old _ _ hlx).trans nb2, (heap_alloc_old _ _ hlq).trans nq2⟩, fun ty => ?_⟩
      · have hx := hW.2.1.trans nb1
        exact ⟨(World.cell?_of_block (hW.2.2.trans nq2.symm)).trans q1', by rw [cells_of_block hx]; rfl, by rw [cells_of_block hx]; rfl⟩
      · obtain ⟨v', w', r1, r2, r3, r4⟩ := push_pair W2.drew ty pv ps (A, B) (hM2.prow.same fun k hk => rfl) (by omega)
        have hg : W2.grownBy w' pv.ownBlock := grown_of_below (Below.refl _ _).drew r3
        rw [hpv] at r1
        obtain ⟨a, c, e, -⟩ := r2.shape
        have hne := hM2.ne.2.1
        have hnot : pv.ownBlock ≠ some w.heap.size := fun e => by have := hMod.lt _ (.inr (.inr e)); omega
        have hgb : Below n W2 w' := (grown_kept hg).below (Nat.le_trans hn hw2.size) fun b hb => hMn b (.inr (.inr hb))
        have hm := hM2.storedP (grown_kept hg) r2 r4 (fun c hc => by
          rcases List.mem_append.1 hc with hc | hc
          · exact hMod1.ok c hc
          · rw [List.mem_singleton.1 hc]; exact ⟨hAi, hBi⟩)
        obtain ⟨s1, s2⟩ := ASt.bagMod hn1 hBag1 hAn hMod1 hMn hD hm (by omega) (by simp; omega)
        have hwx : w'.heap[w.heap.size]? = W1.heap[w.heap.size]? := (hg.block _ hlx (fun e => hnot e.symm)).trans nb2
        refine ⟨v', w', r1, ⟨a, _, c, e⟩, cell_grown hg q1' hne, ?_, ⟨hw2.trans hgb, hwx, (hg.block q hlq (fun e => hne e.symm)).trans nq2⟩, hg.size, fun W hW => ?_, fun W hW => ?_, fun W hW => ?_⟩
        · rw [frozen_same 1 (hg.block q hlq fun e => hne e.symm)]
          exact hM2.cells.2.2 1
        · have hxb : (w'.setCell ⟨q, 1, none⟩ v').heap[w.heap.size]? = _ := (Below.heap_setCell _ _ _ _ (fun e => by have e' : w.heap.size = q := e; have := hMod.lt q (.inl rfl); omega)).trans (hwx.trans nb1)
          have hx := (hW.block w.heap.size (Array.getElem?_eq_some_iff.1 hxb).1).trans hxb
          exact ⟨by rw [cells_of_block hx]; rfl, by rw [cells_of_block hx]; rfl⟩
        · obtain ⟨fv5, g1, g2⟩ := s1.bag
          have := parted_of (g1.below hW) A B hAi hBi
          rw [← mparted_eq, hR] at this
          exact this
        · exact ⟨rfl, _, _, s1.below hW, ((hb1.mono hn).trans s2).trans (hW.mono (Nat.le_trans hn ((hb1.mono hn).trans s2).size))⟩
    clear hBag1 hMod1 hBag hMod h nb1 hMn hAn hpo hR
    generalize DoesT n w p m q N = T at *
    have habd : (A != B) = true := by simp [hab]
    go_wp2_with (go_at_call 19; refine kpa.mono ?_; rintro e W2 ⟨rfl, hD2⟩; obtain ⟨hSW, hSW1, hSW2, kp⟩ := (k2 W2 hD2).out; clear hD2)
    clear k2 kpa
    refine wp_region_L (fun w' => w'.cell? ⟨q, 1, none⟩ = some (.slice ap ps.length cap) ∧ w'.cell? ⟨w.heap.size, 1, none⟩ = some (.int .i64 A) ∧ w'.cell? ⟨w.heap.size, 2, none⟩ = some (.int .i64 B)) [14] (by kernel_rfl) ?_
    have yS : (fun w' : World => w'.cell? ⟨q, 1, none⟩ = some (.slice ap ps.length cap) ∧ w'.cell? ⟨w.heap.size, 1, none⟩ = some (.int .i64 A) ∧ w'.cell? ⟨w.heap.size, 2, none⟩ = some (.int .i64 B)) W2.drew := hSW _ hSW1
    refine wpAnyL_take 0 rfl (by kernel_rfl) (by kernel_rfl) (by kernel_rfl) (by kernel_rfl) (fun _ _ _ h => h) (by rfl) (by intro w' hS'; obtain ⟨x1, x2, x3⟩ := hS'; go_simp <;> rfl) yS ?_
    try simp only [Act.put, List.setIfInBounds_toArray, List.set_cons_zero, List.set_cons_succ]
    refine wpAnyL_take 1 rfl (by kernel_rfl) (by kernel_rfl) (by kernel_rfl) (by kernel_rfl) (fun _ _ _ h => h) (by rfl) (by intro w' hS'; obtain ⟨x1, x2, x3⟩ := hS'; go_simp <;> rfl) yS ?_
    try simp only [Act.put, List.setIfInBounds_toArray, List.set_cons_zero, List.set_cons_succ]
    refine wpAnyL_take 2 rfl (by kernel_rfl) (by kernel_rfl) (by kernel_rfl) (by kernel_rfl) (fun _ _ _ h => h) (by rfl) (by intro w' hS'; obtain ⟨x1, x2, x3⟩ := hS'; go_simp <;> rfl) yS ?_
    try simp only [Act.put, List.setIfInBounds_toArray, List.set_cons_zero, List.set_cons_succ]
    refine wpAnyL_take 3 rfl (by kernel_rfl) (by kernel_rfl) (by kernel_rfl) (by kernel_rfl) (fun _ _ _ h => h) (by rfl) (by intro w' hS'; obtain ⟨x1, x2, x3⟩ := hS'; go_simp <;> rfl) yS ?_
    try simp only [Act.put, List.setIfInBounds_toArray, List.set_cons_zero, List.set_cons_succ]
    refine wpAnyL_take 4 rfl (by kernel_rfl) (by kernel_rfl) (by kernel_rfl) (by kernel_rfl) (fun _ _ _ h => h) (by rfl) (by intro w' hS'; obtain ⟨x1, x2, x3⟩ := hS'; go_simp <;> rfl) yS ?_
    try simp only [Act.put, List.setIfInBounds_toArray, List.set_cons_zero, List.set_cons_succ]
    refine wpAnyL_take 5 rfl (by kernel_rfl) (by kernel_rfl) (by kernel_rfl) (by kernel_rfl) (fun _ _ _ h => h) (by rfl) (by intro w' hS'; obtain ⟨x1, x2, x3⟩ := hS'; go_simp <;> rfl) yS ?_
    try simp only [Act.put, List.setIfInBounds_toArray, List.set_cons_zero, List.set_cons_succ]
    refine wpAnyL_take 6 rfl (by kernel_rfl) (by kernel_rfl) (by kernel_rfl) (by kernel_rfl) (fun _ _ _ h => h) (by rfl) (by intro w' hS'; obtain ⟨x1, x2, x3⟩ := hS'; go_simp <;> rfl) yS ?_
    try simp only [Act.put, List.setIfInBounds_toArray, List.set_cons_zero, List.set_cons_succ]
    refine wpAnyL_take 7 rfl (by kernel_rfl) (by kernel_rfl) (by kernel_rfl) (by kernel_rfl) (fun _ _ _ h => h) (by rfl) (by intro w' hS'; obtain ⟨x1, x2, x3⟩ := hS'; go_simp <;> rfl) yS ?_
    try simp only [Act.put, List.setIfInBounds_toArray, List.set_cons_zero, List.set_cons_succ]
    refine wpAnyL_take 8 rfl (by kernel_rfl) (by kernel_rfl) (by kernel_rfl) (by kernel_rfl) (fun _ _ _ h => h) (by rfl) (by intro w' hS'; obtain ⟨x1, x2, x3⟩ := hS'; go_simp <;> rfl) yS ?_
    try simp only [Act.put, List.setIfInBounds_toArray, List.set_cons_zero, List.set_cons_succ]
    refine wpAnyL_take 9 rfl (by kernel_rfl) (by kernel_rfl) (by kernel_rfl) (by kernel_rfl) (fun _ _ _ h => h) (by rfl) (by intro w' hS'; obtain ⟨x1, x2, x3⟩ := hS'; go_simp <;> rfl) yS ?_
    try simp only [Act.put, List.setIfInBounds_toArray, List.set_cons_zero, List.set_cons_succ]
    refine wpAnyL_one 10 (by kernel_rfl) rfl (by rfl) ?_
    intro K' hK'
    go_simp
    refine hK'.out _ _ (.inr (hSW _ hSW2)) ?_
    clear hK' K' yS
    try simp only [Act.put, List.setIfInBounds_toArray, List.set_cons_zero, List.set_cons_succ]
    refine wpAnyL_one 11 (by kernel_rfl) rfl (by rfl) ?_
    intro K' hK'
    refine op_by _ _ _ rfl _ _ rfl rfl kp ?_
    rintro v3 w3 ⟨⟨a3, n3, c3', rfl⟩, z0, z1, z2, hfin⟩
    refine hK'.out _ _ (.inr (hSW _ z2)) ?_
    clear hK' K'
    try simp only [Act.put, List.setIfInBounds_toArray, List.set_cons_zero, List.set_cons_succ]
    refine wpAnyL_one 12 (by kernel_rfl) rfl (by rfl) ?_
    intro K' hK'
    go_simp
    refine hK'.out _ _ (.inr (hSW _ z2)) ?_
    clear hK' K'
    try simp only [Act.put, List.setIfInBounds_toArray, List.set_cons_zero, List.set_cons_succ]
    refine wpAnyL_one 13 (by kernel_rfl) rfl (by rfl) ?_
    intro K' hK'
    go_simp
    refine hK'.out _ _ (.inr (hSW _ z2)) ?_
    clear hK' K'
    try simp only [Act.put, List.setIfInBounds_toArray, List.set_cons_zero, List.set_cons_succ]
    refine wpAnyL_one 14 (by kernel_rfl) rfl (by rfl) ?_
    intro K' hK'
    go_simp
    refine hK'.out _ _ (.inl (by simp)) ?_
    clear hK' K' z0 z1 z2
    refine wpAnyL_done (by kernel_rfl) (NoPanic.normal ?_) _
    obtain ⟨zs, y12, kpd, hT⟩ := hfin.out
    have y0 := y12 _ (Below.refl _ _)
    have hszW : (w3.setCell ⟨q, 1, none⟩ (.slice a3 n3 c3')).heap.size = w3.heap.size := by simp [World.setCell]
    generalize w3.setCell ⟨q, 1, none⟩ (.slice a3 n3 c3') = W3 at *
    have HT : Hid _ := hT
    have HD : Hid _ := kpd
    have hB0 : Below W3.heap.size W3 W3 := Below.refl _ _
    have hB2 : ∀ W, Below W3.heap.size W3 W → Below W3.heap.size W3 W.drew := fun W hW => hW.drew
    have hB3 : ∀ W W', Below W3.heap.size W3 W → Below W.heap.size W W' → Below W3.heap.size W3 W' := fun W W' h1 h2 => h1.trans (h2.mono h1.size)
    clear kp hfin hSW hSW1 hSW2 hT kpd hszW
    go_wp2
    go_region_held3 (fun w' => w'.cell? ⟨w.heap.size, 1, none⟩ = some (.int .i64 A) ∧ w'.cell? ⟨w.heap.size, 2, none⟩ = some (.int .i64 B)) (first | exact y12 _ (hB2 _ hB0) | exact y12 _ hb4') ((go_at_call 11; refine (HD.out _ (hB2 _ hB0)).mono ?_; rintro e W4 ⟨rfl, hb4⟩; have hb4' := hB3 _ _ (hB2 _ hB0) hb4; have hT4 := HT.out _ hb4'))
    all_goals (
      go_wp2 <;> first | exact hT4.out | (go_ret; exact hT4.out))
  · have hlod : decide (0 ≤ A) = false := by simpa using hlo
    go_enter Try.func9, Try.ntmps9
    go_wp2
    go_big_quiet (fail)
    obtain ⟨W1, hW1⟩ : ∃ W1, W1 = (w.alloc (.cells #[.int .i64 4, .int .i64 A, .int .i64 B, .slice sa dl sc] 33)).drewN nq := ⟨_, rfl⟩
    rw [← hW1]
    have hb1 : Below w.heap.size w W1 := by rw [hW1]; exact below_drewN a1 nq
    have nb1 : W1.heap[w.heap.size]? = some (.cells #[.int .i64 4, .int .i64 A, .int .i64 B, .slice sa dl sc] 33 (0, 0)) := by rw [hW1]; exact nb
    clear hW1 nq a1 nb b1 q0
    have hn1 := Nat.le_trans hn hb1.size
    have hBag1 := hBag.below hb1
    have hMod1 := hMod.below hb1
    have c0 : W1.cell? ⟨w.heap.size, 0, none⟩ = some (.int .i64 4) := by rw [cells_of_block nb1]; rfl
    have c1 : W1.cell? ⟨w.heap.size, 1, none⟩ = some (.int .i64 A) := by rw [cells_of_block nb1]; rfl
    have c2 : W1.cell? ⟨w.heap.size, 2, none⟩ = some (.int .i64 B) := by rw [cells_of_block nb1]; rfl
    have c3 : W1.cell? ⟨w.heap.size, 3, none⟩ = some (.slice sa dl sc) := by rw [cells_of_block nb1]; rfl
    have hpo : partsOf (ps ++ [(A, B)]) = partP (partsOf ps) (lo A B) (hi A B) := by rw [partsOf_snoc, if_neg hab]
    have kpa : Calls Try.prog 19 #[.pointer (some ⟨p, 0, none⟩), .int .i64 A, .int .i64 B] W1 (fun e W2 => e = .returned (.tuple #[]) ∧ Did W1 p m fv l (partsOf (ps ++ [(A, B)])) (N + 1) W2) := by
      refine (part_of hBag1 A B hAi hBi hab (by omega)).mono ?_
      rintro e W2 ⟨rfl, hD⟩
      exact ⟨rfl, by rw [hpo]; exact hD⟩
    
    obtain ⟨ap, cap, hpv, hpc, -⟩ := hMod1.prow.shape
    have hR : mparted (ps ++ [(A, B)]) A B = true := by
      rw [mparted_eq]
      rw [hpo]
      simp [partP]
    have k2 : ∀ W2, Did W1 p m fv l (partsOf (ps ++ [(A, B)])) (N + 1) W2 → Hid ((∀ W, Below n w W ∧ W.heap[w.heap.size]? = W1.heap[w.heap.size]? ∧ W.heap[q]? = W1.heap[q]? → W.cell? ⟨q, 1, none⟩ = some (.slice ap ps.length cap) ∧ W.cell? ⟨w.heap.size, 1, none⟩ = some (.int .i64 A) ∧ W.cell? ⟨w.heap.size, 2, none⟩ = some (.int .i64 B)) ∧ (Below n w W2.drew ∧ W2.drew.heap[w.heap.size]? = W1.heap[w.heap.size]? ∧ W2.drew.heap[q]? = W1.heap[q]?) ∧ (Below n w (W2.alloc (.cells #[.int .i64 A, .int .i64 B] 55)).drew ∧ (W2.alloc (.cells #[.int .i64 A, .int .i64 B] 55)).drew.heap[w.heap.size]? = W1.heap[w.heap.size]? ∧ (W2.alloc (.cells #[.int .i64 A, .int .i64 B] 55)).drew.heap[q]? = W1.heap[q]?) ∧
        (∀ ty, ∃ v' w', (Builtin.append_ #[27, 27] ty #[.slice ap ps.length cap, .slice (some ⟨W2.heap.size, 0, none⟩) 1 1]).run Try.prog (W2.alloc (.cells #[.int .i64 A, .int .i64 B] 55)).drew = .ok v' w' ∧ ((∃ a n c, v' = .slice a n c) ∧ w'.cell? ⟨q, 1, none⟩ = some (.slice ap ps.length cap) ∧ w'.frozen? ⟨q, 1, none⟩ = false ∧ (Below n w w' ∧ w'.heap[w.heap.size]? = W1.heap[w.heap.size]? ∧ w'.heap[q]? = W1.heap[q]?) ∧ Hid (W2.heap.size ≤ w'.heap.size ∧ (∀ W, Below (w'.setCell ⟨q, 1, none⟩ v').heap.size (w'.setCell ⟨q, 1, none⟩ v') W → W.cell? ⟨w.heap.size, 1, none⟩ = some (.int .i64 A) ∧ W.cell? ⟨w.heap.size, 2, none⟩ = some (.int .i64 B)) ∧ (∀ W, Below (w'.setCell ⟨q, 1, none⟩ v').heap.size (w'.setCell ⟨q, 1, none⟩ v') W → Calls Try.prog 11 #[.pointer (some ⟨p, 0, none⟩), .int .i64 A, .int .i64 B] W (fun e W4 => e = .returned (.bool true) ∧ Below W.heap.size W W4)) ∧ ∀ W, Below (w'.setCell ⟨q, 1, none⟩ v').heap.size (w'.setCell ⟨q, 1, none⟩ v') W → Hid (DoesT n w p m q N (.returned (.bool true)) W))))) := fun W2 hD => by
      obtain ⟨fv2, d1, d2, d3⟩ := id hD
      have hM2 := hMod1.kept hBag1 d2
      have hnbx : ¬ Mine p m fv w.heap.size := fun e => by have := hBag.lt _ e; omega
      have hnq : ¬ Mine p m fv q := fun e => apart hBag1 hMod1 e (.inl rfl)
      have nb2 := d2.block w.heap.size (Array.getElem?_eq_some_iff.1 nb1).1 hnbx
      have nq2 := d2.block q (hMod1.lt q (.inl rfl)) hnq
      have hlx : w.heap.size < W2.heap.size := Nat.lt_of_lt_of_le (Array.getElem?_eq_some_iff.1 nb1).1 d2.size
      have hlq : q < W2.heap.size := Nat.lt_of_lt_of_le (hMod1.lt q (.inl rfl)) d2.size
      obtain ⟨hB2, hbD⟩ := BagNew.did (l := l) hn1 hAn hD
      have hw2 := (hb1.mono hn).trans hbD
      have q1' := hM2.cells.2.1
      rw [hpv] at q1'
      refine ⟨fun W hW => ?_, ⟨hw2.drew, nb2, nq2⟩, ⟨(hw2.alloc (Nat.le_trans hn hw2.size) _).drew, (heap_alloc_old _ _ hlx).trans nb2, (heap_alloc_old _ _ hlq).trans nq2⟩, fun ty => ?_⟩
      · have hx := hW.2.1.trans nb1
        exact ⟨(World.cell?_of_block (hW.2.2.trans nq2.symm)).trans q1', by rw [cells_of_block hx]; rfl, by rw [cells_of_block hx]; rfl⟩
      · obtain ⟨v', w', r1, r2, r3, r4⟩ := push_pair W2.drew ty pv ps (A, B) (hM2.prow.same fun k hk => rfl) (by omega)
        have hg : W2.grownBy w' pv.ownBlock := grown_of_below (Below.refl _ _).drew r3
        rw [hpv] at r1
        obtain ⟨a, c, e, -⟩ := r2.shape
        have hne := hM2.ne.2.1
        have hnot : pv.ownBlock ≠ some w.heap.size := fun e => by have := hMod.lt _ (.inr (.inr e)); omega
        have hgb : Below n W2 w' := (grown_kept hg).below (Nat.le_trans hn hw2.size) fun b hb => hMn b (.inr (.inr hb))
        have hm := hM2.storedP (grown_kept hg) r2 r4 (fun c hc => by
          rcases List.mem_append.1 hc with hc | hc
          · exact hMod1.ok c hc
          · rw [List.mem_singleton.1 hc]; exact ⟨hAi, hBi⟩)
        obtain ⟨s1, s2⟩ := ASt.bagMod hn1 hBag1 hAn hMod1 hMn hD hm (by omega) (by simp; omega)
        have hwx : w'.heap[w.heap.size]? = W1.heap[w.heap.size]? := (hg.block _ hlx (fun e => hnot e.symm)).trans nb2
        refine ⟨v', w', r1, ⟨a, _, c, e⟩, cell_grown hg q1' hne, ?_, ⟨hw2.trans hgb, hwx, (hg.block q hlq (fun e => hne e.symm)).trans nq2⟩, hg.size, fun W hW => ?_, fun W hW => ?_, fun W hW => ?_⟩
        · rw [frozen_same 1 (hg.block q hlq fun e => hne e.symm)]
          exact hM2.cells.2.2 1
        · have hxb : (w'.setCell ⟨q, 1, none⟩ v').heap[w.heap.size]? = _ := (Below.heap_setCell _ _ _ _ (fun e => by have e' : w.heap.size = q := e; have := hMod.lt q (.inl rfl); omega)).trans (hwx.trans nb1)
          have hx := (hW.block w.heap.size (Array.getElem?_eq_some_iff.1 hxb).1).trans hxb
          exact ⟨by rw [cells_of_block hx]; rfl, by rw [cells_of_block hx]; rfl⟩
        · obtain ⟨fv5, g1, g2⟩ := s1.bag
          have := parted_of (g1.below hW) A B hAi hBi
          rw [← mparted_eq, hR] at this
          exact this
        · exact ⟨rfl, _, _, s1.below hW, ((hb1.mono hn).trans s2).trans (hW.mono (Nat.le_trans hn ((hb1.mono hn).trans s2).size))⟩
    clear hBag1 hMod1 hBag hMod h nb1 hMn hAn hpo hR
    generalize DoesT n w p m q N = T at *
    have habd : (A != B) = true := by simp [hab]
    go_wp2_with (go_at_call 19; refine kpa.mono ?_; rintro e W2 ⟨rfl, hD2⟩; obtain ⟨hSW, hSW1, hSW2, kp⟩ := (k2 W2 hD2).out; clear hD2)
    clear k2 kpa
    refine wp_region_L (fun w' => w'.cell? ⟨q, 1, none⟩ = some (.slice ap ps.length cap) ∧ w'.cell? ⟨w.heap.size, 1, none⟩ = some (.int .i64 A) ∧ w'.cell? ⟨w.heap.size, 2, none⟩ = some (.int .i64 B)) [14] (by kernel_rfl) ?_
    have yS : (fun w' : World => w'.cell? ⟨q, 1, none⟩ = some (.slice ap ps.length cap) ∧ w'.cell? ⟨w.heap.size, 1, none⟩ = some (.int .i64 A) ∧ w'.cell? ⟨w.heap.size, 2, none⟩ = some (.int .i64 B)) W2.drew := hSW _ hSW1
    refine wpAnyL_take 0 rfl (by kernel_rfl) (by kernel_rfl) (by kernel_rfl) (by kernel_rfl) (fun _ _ _ h => h) (by rfl) (by intro w' hS'; obtain ⟨x1, x2, x3⟩ := hS'; go_simp <;> rfl) yS ?_
    try simp only [Act.put, List.setIfInBounds_toArray, List.set_cons_zero, List.set_cons_succ]
    refine wpAnyL_take 1 rfl (by kernel_rfl) (by kernel_rfl) (by kernel_rfl) (by kernel_rfl) (fun _ _ _ h => h) (by rfl) (by intro w' hS'; obtain ⟨x1, x2, x3⟩ := hS'; go_simp <;> rfl) yS ?_
    try simp only [Act.put, List.setIfInBounds_toArray, List.set_cons_zero, List.set_cons_succ]
    refine wpAnyL_take 2 rfl (by kernel_rfl) (by kernel_rfl) (by kernel_rfl) (by kernel_rfl) (fun _ _ _ h => h) (by rfl) (by intro w' hS'; obtain ⟨x1, x2, x3⟩ := hS'; go_simp <;> rfl) yS ?_
    try simp only [Act.put, List.setIfInBounds_toArray, List.set_cons_zero, List.set_cons_succ]
    refine wpAnyL_take 3 rfl (by kernel_rfl) (by kernel_rfl) (by kernel_rfl) (by kernel_rfl) (fun _ _ _ h => h) (by rfl) (by intro w' hS'; obtain ⟨x1, x2, x3⟩ := hS'; go_simp <;> rfl) yS ?_
    try simp only [Act.put, List.setIfInBounds_toArray, List.set_cons_zero, List.set_cons_succ]
    refine wpAnyL_take 4 rfl (by kernel_rfl) (by kernel_rfl) (by kernel_rfl) (by kernel_rfl) (fun _ _ _ h => h) (by rfl) (by intro w' hS'; obtain ⟨x1, x2, x3⟩ := hS'; go_simp <;> rfl) yS ?_
    try simp only [Act.put, List.setIfInBounds_toArray, List.set_cons_zero, List.set_cons_succ]
    refine wpAnyL_take 5 rfl (by kernel_rfl) (by kernel_rfl) (by kernel_rfl) (by kernel_rfl) (fun _ _ _ h => h) (by rfl) (by intro w' hS'; obtain ⟨x1, x2, x3⟩ := hS'; go_simp <;> rfl) yS ?_
    try simp only [Act.put, List.setIfInBounds_toArray, List.set_cons_zero, List.set_cons_succ]
    refine wpAnyL_take 6 rfl (by kernel_rfl) (by kernel_rfl) (by kernel_rfl) (by kernel_rfl) (fun _ _ _ h => h) (by rfl) (by intro w' hS'; obtain ⟨x1, x2, x3⟩ := hS'; go_simp <;> rfl) yS ?_
    try simp only [Act.put, List.setIfInBounds_toArray, List.set_cons_zero, List.set_cons_succ]
    refine wpAnyL_take 7 rfl (by kernel_rfl) (by kernel_rfl) (by kernel_rfl) (by kernel_rfl) (fun _ _ _ h => h) (by rfl) (by intro w' hS'; obtain ⟨x1, x2, x3⟩ := hS'; go_simp <;> rfl) yS ?_
    try simp only [Act.put, List.setIfInBounds_toArray, List.set_cons_zero, List.set_cons_succ]
    refine wpAnyL_take 8 rfl (by kernel_rfl) (by kernel_rfl) (by kernel_rfl) (by kernel_rfl) (fun _ _ _ h => h) (by rfl) (by intro w' hS'; obtain ⟨x1, x2, x3⟩ := hS'; go_simp <;> rfl) yS ?_
    try simp only [Act.put, List.setIfInBounds_toArray, List.set_cons_zero, List.set_cons_succ]
    refine wpAnyL_take 9 rfl (by kernel_rfl) (by kernel_rfl) (by kernel_rfl) (by kernel_rfl) (fun _ _ _ h => h) (by rfl) (by intro w' hS'; obtain ⟨x1, x2, x3⟩ := hS'; go_simp <;> rfl) yS ?_
    try simp only [Act.put, List.setIfInBounds_toArray, List.set_cons_zero, List.set_cons_succ]
    refine wpAnyL_one 10 (by kernel_rfl) rfl (by rfl) ?_
    intro K' hK'
    go_simp
    refine hK'.out _ _ (.inr (hSW _ hSW2)) ?_
    clear hK' K' yS
    try simp only [Act.put, List.setIfInBounds_toArray, List.set_cons_zero, List.set_cons_succ]
    refine wpAnyL_one 11 (by kernel_rfl) rfl (by rfl) ?_
    intro K' hK'
    refine op_by _ _ _ rfl _ _ rfl rfl kp ?_
    rintro v3 w3 ⟨⟨a3, n3, c3', rfl⟩, z0, z1, z2, hfin⟩
    refine hK'.out _ _ (.inr (hSW _ z2)) ?_
    clear hK' K'
    try simp only [Act.put, List.setIfInBounds_toArray, List.set_cons_zero, List.set_cons_succ]
    refine wpAnyL_one 12 (by kernel_rfl) rfl (by rfl) ?_
    intro K' hK'
    go_simp
    refine hK'.out _ _ (.inr (hSW _ z2)) ?_
    clear hK' K'
    try simp only [Act.put, List.setIfInBounds_toArray, List.set_cons_zero, List.set_cons_succ]
    refine wpAnyL_one 13 (by kernel_rfl) rfl (by rfl) ?_
    intro K' hK'
    go_simp
    refine hK'.out _ _ (.inr (hSW _ z2)) ?_
    clear hK' K'
    try simp only [Act.put, List.setIfInBounds_toArray, List.set_cons_zero, List.set_cons_succ]
    refine wpAnyL_one 14 (by kernel_rfl) rfl (by rfl) ?_
    intro K' hK'
    go_simp
    refine hK'.out _ _ (.inl (by simp)) ?_
    clear hK' K' z0 z1 z2
    refine wpAnyL_done (by kernel_rfl) (NoPanic.normal ?_) _
    obtain ⟨zs, y12, kpd, hT⟩ := hfin.out
    have y0 := y12 _ (Below.refl _ _)
    have hszW : (w3.setCell ⟨q, 1, none⟩ (.slice a3 n3 c3')).heap.size = w3.heap.size := by simp [World.setCell]
    generalize w3.setCell ⟨q, 1, none⟩ (.slice a3 n3 c3') = W3 at *
    have HT : Hid _ := hT
    have HD : Hid _ := kpd
    have hB0 : Below W3.heap.size W3 W3 := Below.refl _ _
    have hB2 : ∀ W, Below W3.heap.size W3 W → Below W3.heap.size W3 W.drew := fun W hW => hW.drew
    have hB3 : ∀ W W', Below W3.heap.size W3 W → Below W.heap.size W W' → Below W3.heap.size W3 W' := fun W W' h1 h2 => h1.trans (h2.mono h1.size)
    clear kp hfin hSW hSW1 hSW2 hT kpd hszW
    go_wp2
    go_region_held3 (fun w' => w'.cell? ⟨w.heap.size, 1, none⟩ = some (.int .i64 A) ∧ w'.cell? ⟨w.heap.size, 2, none⟩ = some (.int .i64 B)) (first | exact y12 _ (hB2 _ hB0) | exact y12 _ hb4') ((go_at_call 11; refine (HD.out _ (hB2 _ hB0)).mono ?_; rintro e W4 ⟨rfl, hb4⟩; have hb4' := hB3 _ _ (hB2 _ hB0) hb4; have hT4 := HT.out _ hb4'))
    all_goals (
      go_wp2 <;> first | exact hT4.out | (go_ret; exact hT4.out))
end Go.Proofs.Ytjkjekhbfjjnjaa

