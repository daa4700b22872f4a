import Derived.Test.YtjkjekhbfjjnjaaHb31
import Derived.Laws.Cover1
/- The contract of the law's 'does': Post. -/
namespace Go.Proofs.Ytjkjekhbfjjnjaa
open Go.RowKit Go.Maps
set_option maxRecDepth 100000
set_option linter.unusedSimpArgs false
set_option linter.unusedVariables false

set_option maxHeartbeats 8000000 in
theorem does_7 {n : Nat} {w : World} {p m q : Nat} {l : List Msg} {ps : List (Int × Int)} {N : Nat} (h : ASt n w p m q l ps N) (hn : n ≤ w.heap.size) (hN : N ≤ 1000) (Do : Int) (hDo : Do ≠ 1 ∧ Do ≠ 2 ∧ Do ≠ 3 ∧ Do ≠ 4 ∧ Do ≠ 5 ∧ Do ≠ 6) (A B : Int) (hAi : i64 A) (hBi : i64 B) (sa : Option Addr) (dl sc : Nat) (D : List Nat) (hBs : ∀ W, Below n w W → @Bs keepAll W.heap.size W (.slice sa dl sc) D) (hD : ∀ c ∈ D, c < 256) (hdm : D.length ≤ maxLen) :
    Calls Try.prog 9 #[.pointer (some ⟨p, 0, none⟩), .pointer (some ⟨q, 0, none⟩), .agg #[.int .i64 Do, .int .i64 A, .int .i64 B, .slice sa dl sc]] w (DoesT n w p m q N) := by
  have a1 := (Below.refl w.heap.size w).alloc (Nat.le_refl _) (.cells #[.int .i64 Do, .int .i64 A, .int .i64 B, .slice sa dl sc] 33)
  have nb := heap_alloc_new w (.cells #[.int .i64 Do, .int .i64 A, .int .i64 B, .slice sa dl sc] 33)
  obtain ⟨lv, pv, hMod, hMn⟩ := h.mod
  obtain ⟨fv, hBag, hAn⟩ := h.bag
  have hlen := h.len
  have hlenp := h.lenp
  have q0 := (hMod.below a1).cells.1
  obtain ⟨al, cal, hlv, hlec, -⟩ := hMod.lrow.shape
  rw [hlv] at q0
  have b1 : (w.alloc (.cells #[.int .i64 Do, .int .i64 A, .int .i64 B, .slice sa dl sc] 33)).cell? ⟨w.heap.size, 1, none⟩ = some (.int .i64 A) := by rw [cells_of_block nb]; rfl
  obtain ⟨d1, d2, d3, d4, d5, d6⟩ := hDo
  have e1 : (Do == 1) = false := by simpa using d1
  have e2 : (Do == 2) = false := by simpa using d2
  have e3 : (Do == 3) = false := by simpa using d3
  have e4 : (Do == 4) = false := by simpa using d4
  have e5 : (Do == 5) = false := by simpa using d5
  have e6 : (Do == 6) = false := by simpa using d6
  by_cases hlo : 0 ≤ A
  · have hlod : decide (0 ≤ A) = true := by simpa using hlo
    have hle0 : ¬ A < 0 := by omega
    go_enter Try.func9, Try.ntmps9
    go_wp2
    go_quiet (fail)
    obtain ⟨W1, hW1⟩ : ∃ W1, W1 = (w.alloc (.cells #[.int .i64 Do, .int .i64 A, .int .i64 B, .slice sa dl sc] 33)).drewN nq := ⟨_, rfl⟩
    rw [← hW1]
    have hb1 : Below w.heap.size w W1 := by rw [hW1]; exact below_drewN a1 nq
    have nb1 : W1.heap[w.heap.size]? = some (.cells #[.int .i64 Do, .int .i64 A, .int .i64 B, .slice sa dl sc] 33 (0, 0)) := by rw [hW1]; exact nb
    clear hW1 nq a1 nb b1 q0
    have hn1 := Nat.le_trans hn hb1.size
    have hBag1 := hBag.below hb1
    have hMod1 := hMod.below hb1
    have c0 : W1.cell? ⟨w.heap.size, 0, none⟩ = some (.int .i64 Do) := by rw [cells_of_block nb1]; rfl
    have c1 : W1.cell? ⟨w.heap.size, 1, none⟩ = some (.int .i64 A) := by rw [cells_of_block nb1]; rfl
    have c2 : W1.cell? ⟨w.heap.size, 2, none⟩ = some (.int .i64 B) := by rw [cells_of_block nb1]; rfl
    have c3 : W1.cell? ⟨w.heap.size, 3, none⟩ = some (.slice sa dl sc) := by rw [cells_of_block nb1]; rfl
    have hok : MsgOk (A, B, D) := ⟨hAi, hBi, hD, hdm⟩
    have q0' := hMod1.cells.1
    have q2' := hMod1.cells.2.2
    rw [hlv] at q0'
    have lq := hMod1.lt q (.inl rfl)
    have hne := hMod1.ne.1
    have hcv : (convert 31 9 (.slice sa dl sc)).run Try.prog W1.drew = .ok (.string (str D)) W1.drew := @str_of keepAll _ _ _ _ (hBs W1.drew ((hb1.mono hn).trans (Below.refl _ _).drew)) hD
    have hSW : ∀ W, Below n w W ∧ W.heap[w.heap.size]? = W1.heap[w.heap.size]? ∧ W.heap[q]? = W1.heap[q]? → W.cell? ⟨q, 0, none⟩ = some (.slice al l.length cal) ∧ W.cell? ⟨w.heap.size, 1, none⟩ = some (.int .i64 A) ∧ W.cell? ⟨w.heap.size, 2, none⟩ = some (.int .i64 B) ∧ W.cell? ⟨w.heap.size, 3, none⟩ = some (.slice sa dl sc) ∧ (convert 31 9 (.slice sa dl sc)).run Try.prog W = .ok (.string (str D)) W := fun W hW => by
      have hx := hW.2.1.trans nb1
      refine ⟨(World.cell?_of_block hW.2.2).trans q0', by rw [cells_of_block hx]; rfl, by rw [cells_of_block hx]; rfl, by rw [cells_of_block hx]; rfl, @str_of keepAll _ _ _ _ (hBs W hW.1) hD⟩
    have hbw := hb1.mono hn
    have hSW1 : Below n w W1.drew ∧ W1.drew.heap[w.heap.size]? = W1.heap[w.heap.size]? ∧ W1.drew.heap[q]? = W1.heap[q]? := ⟨hbw.trans (Below.refl _ _).drew, rfl, rfl⟩
    have hSW2 : Below n w (W1.alloc (.cells #[.int .i64 A, .int .i64 B, .string (str D)] 39)).drew ∧ (W1.alloc (.cells #[.int .i64 A, .int .i64 B, .string (str D)] 39)).drew.heap[w.heap.size]? = W1.heap[w.heap.size]? ∧ (W1.alloc (.cells #[.int .i64 A, .int .i64 B, .string (str D)] 39)).drew.heap[q]? = W1.heap[q]? := ⟨(hbw.alloc hn1 _).drew, heap_alloc_old _ _ (Array.getElem?_eq_some_iff.1 nb1).1, heap_alloc_old _ _ lq⟩
    have kp : ∀ ty, ∃ v' w', (Builtin.append_ #[26, 26] ty #[.slice al l.length cal, .slice (some ⟨W1.heap.size, 0, none⟩) 1 1]).run Try.prog (W1.alloc (.cells #[.int .i64 A, .int .i64 B, .string (str D)] 39)).drew = .ok v' w' ∧ ((∃ a n c, v' = .slice a n c) ∧ w'.cell? ⟨q, 0, none⟩ = some (.slice al l.length cal) ∧ w'.frozen? ⟨q, 0, none⟩ = false ∧ (Below n w w' ∧ w'.heap[w.heap.size]? = W1.heap[w.heap.size]? ∧ w'.heap[q]? = W1.heap[q]?) ∧ Hid (MDid W1 q lv pv (l ++ [(A, B, D)]) ps (w'.setCell ⟨q, 0, none⟩ v'))) := fun ty => by
      obtain ⟨v', w', r1, r2, r3, r4⟩ := push_lmsg W1.drew ty lv l (A, B, D) (hMod1.lrow.same fun k hk => rfl) (by omega)
      have hg : W1.grownBy w' lv.ownBlock := grown_of_below (Below.refl _ _).drew r3
      rw [hlv] at r1
      obtain ⟨a, c, e, -⟩ := r2.shape
      have hnot : lv.ownBlock ≠ some w.heap.size := fun e => by have := hMod.lt _ (.inr (.inl e)); omega
      have hgb : Below n W1 w' := (grown_kept hg).below hn1 fun b hb => hMn b (.inr (.inl hb))
      refine ⟨v', w', r1, ⟨a, _, c, e⟩, cell_grown hg q0' hne, ?_, ⟨hbw.trans hgb, hg.block _ (Array.getElem?_eq_some_iff.1 nb1).1 (fun e => hnot e.symm), hg.block q lq (fun e => hne e.symm)⟩, hMod1.storedL (grown_kept hg) r2 r4⟩
      rw [frozen_same 0 (hg.block q lq fun e => hne e.symm)]
      exact q2' 0
    have k2 : ∀ W2, Hid (MDid W1 q lv pv (l ++ [(A, B, D)]) ps W2) → Hid (W2.cell? ⟨w.heap.size, 1, none⟩ = some (.int .i64 A) ∧ W2.cell? ⟨w.heap.size, 2, none⟩ = some (.int .i64 B) ∧ W2.cell? ⟨w.heap.size, 3, none⟩ = some (.slice sa dl sc) ∧ Calls Try.prog 17 #[.pointer (some ⟨p, 0, none⟩), .int .i64 A, .int .i64 B, .slice sa dl sc] W2 (fun e W3 => e = .returned (.bool true) ∧ Hid (DoesT n w p m q N (.returned (.bool true)) W3))) := fun W2 hm => by
      obtain ⟨lv', pv', m1, m2, m3⟩ := id hm.out
      have hnot : ¬ MineM q lv pv w.heap.size := fun e => by have := hMod.lt _ e; omega
      have nb2 := (m2.block w.heap.size (Array.getElem?_eq_some_iff.1 nb1).1 hnot).trans nb1
      have hbW := (hb1.mono hn).trans (m2.below hn1 hMn)
      refine ⟨by rw [cells_of_block nb2]; rfl, by rw [cells_of_block nb2]; rfl, by rw [cells_of_block nb2]; rfl, ?_⟩
      refine (post_yes (hBag1.kept hMod1 m2) A B _ D (hBs W2 hbW) hok (by omega)).mono ?_
      rintro e W3 ⟨rfl, hD3⟩
      obtain ⟨r1, r2⟩ := ASt.modBag hn1 hBag1 hAn hMod1 hMn hm.out (fun _ => hD3.more (by omega)) (by simp; omega) (by omega)
      exact ⟨rfl, rfl, _, _, r1, (hb1.mono hn).trans r2⟩
    clear hBag1 hMod1 hBag hMod h nb1 hMn hAn hok hBs hne hcv
    generalize DoesT n w p m q N = T at *
    go_wp2
    refine wp_region_L (fun w' => w'.cell? ⟨q, 0, none⟩ = some (.slice al l.length cal) ∧ w'.cell? ⟨w.heap.size, 1, none⟩ = some (.int .i64 A) ∧ w'.cell? ⟨w.heap.size, 2, none⟩ = some (.int .i64 B) ∧ w'.cell? ⟨w.heap.size, 3, none⟩ = some (.slice sa dl sc) ∧ (convert 31 9 (.slice sa dl sc)).run Try.prog w' = .ok (.string (str D)) w') [17] (by kernel_rfl) ?_
    have yS : (fun w' : World => w'.cell? ⟨q, 0, none⟩ = some (.slice al l.length cal) ∧ w'.cell? ⟨w.heap.size, 1, none⟩ = some (.int .i64 A) ∧ w'.cell? ⟨w.heap.size, 2, none⟩ = some (.int .i64 B) ∧ w'.cell? ⟨w.heap.size, 3, none⟩ = some (.slice sa dl sc) ∧ (convert 31 9 (.slice sa dl sc)).run Try.prog w' = .ok (.string (str D)) w') W1.drew := hSW _ hSW1
    refine wpAnyL_take 0 rfl (by kernel_rfl) (by kernel_rfl) (by kernel_rfl) (by kernel_rfl) (fun _ _ _ h => h) (by rfl) (by intro w' hS'; obtain ⟨x1, x2, x3, x4, x5⟩ := hS'; go_simp <;> rfl) yS ?_
    try simp only [Act.put, List.setIfInBounds_toArray, List.set_cons_zero, List.set_cons_succ]
    refine wpAnyL_take 1 rfl (by kernel_rfl) (by kernel_rfl) (by kernel_rfl) (by kernel_rfl) (fun _ _ _ h => h) (by rfl) (by intro w' hS'; obtain ⟨x1, x2, x3, x4, x5⟩ := hS'; go_simp <;> rfl) yS ?_
    try simp only [Act.put, List.setIfInBounds_toArray, List.set_cons_zero, List.set_cons_succ]
    refine wpAnyL_take 2 rfl (by kernel_rfl) (by kernel_rfl) (by kernel_rfl) (by kernel_rfl) (fun _ _ _ h => h) (by rfl) (by intro w' hS'; obtain ⟨x1, x2, x3, x4, x5⟩ := hS'; go_simp <;> rfl) yS ?_
    try simp only [Act.put, List.setIfInBounds_toArray, List.set_cons_zero, List.set_cons_succ]
    refine wpAnyL_take 3 rfl (by kernel_rfl) (by kernel_rfl) (by kernel_rfl) (by kernel_rfl) (fun _ _ _ h => h) (by rfl) (by intro w' hS'; obtain ⟨x1, x2, x3, x4, x5⟩ := hS'; go_simp <;> rfl) yS ?_
    try simp only [Act.put, List.setIfInBounds_toArray, List.set_cons_zero, List.set_cons_succ]
    refine wpAnyL_take 4 rfl (by kernel_rfl) (by kernel_rfl) (by kernel_rfl) (by kernel_rfl) (fun _ _ _ h => h) (by rfl) (by intro w' hS'; obtain ⟨x1, x2, x3, x4, x5⟩ := hS'; go_simp <;> rfl) yS ?_
    try simp only [Act.put, List.setIfInBounds_toArray, List.set_cons_zero, List.set_cons_succ]
    refine wpAnyL_take 5 rfl (by kernel_rfl) (by kernel_rfl) (by kernel_rfl) (by kernel_rfl) (fun _ _ _ h => h) (by rfl) (by intro w' hS'; obtain ⟨x1, x2, x3, x4, x5⟩ := hS'; go_simp <;> rfl) yS ?_
    try simp only [Act.put, List.setIfInBounds_toArray, List.set_cons_zero, List.set_cons_succ]
    refine wpAnyL_take 6 rfl (by kernel_rfl) (by kernel_rfl) (by kernel_rfl) (by kernel_rfl) (fun _ _ _ h => h) (by rfl) (by intro w' hS'; obtain ⟨x1, x2, x3, x4, x5⟩ := hS'; go_simp <;> rfl) yS ?_
    try simp only [Act.put, List.setIfInBounds_toArray, List.set_cons_zero, List.set_cons_succ]
    refine wpAnyL_take 7 rfl (by kernel_rfl) (by kernel_rfl) (by kernel_rfl) (by kernel_rfl) (fun _ _ _ h => h) (by rfl) (by intro w' hS'; obtain ⟨x1, x2, x3, x4, x5⟩ := hS'; go_simp <;> rfl) yS ?_
    try simp only [Act.put, List.setIfInBounds_toArray, List.set_cons_zero, List.set_cons_succ]
    refine wpAnyL_take 8 rfl (by kernel_rfl) (by kernel_rfl) (by kernel_rfl) (by kernel_rfl) (fun _ _ _ h => h) (by rfl) (by intro w' hS'; obtain ⟨x1, x2, x3, x4, x5⟩ := hS'; go_simp <;> rfl) yS ?_
    try simp only [Act.put, List.setIfInBounds_toArray, List.set_cons_zero, List.set_cons_succ]
    refine wpAnyL_take 9 rfl (by kernel_rfl) (by kernel_rfl) (by kernel_rfl) (by kernel_rfl) (fun _ _ _ h => h) (by rfl) (by intro w' hS'; obtain ⟨x1, x2, x3, x4, x5⟩ := hS'; go_simp <;> rfl) yS ?_
    try simp only [Act.put, List.setIfInBounds_toArray, List.set_cons_zero, List.set_cons_succ]
    refine wpAnyL_take 10 rfl (by kernel_rfl) (by kernel_rfl) (by kernel_rfl) (by kernel_rfl) (fun _ _ _ h => h) (by rfl) (by intro w' hS'; obtain ⟨x1, x2, x3, x4, x5⟩ := hS'; go_simp <;> rfl) yS ?_
    try simp only [Act.put, List.setIfInBounds_toArray, List.set_cons_zero, List.set_cons_succ]
    refine wpAnyL_take 11 rfl (by kernel_rfl) (by kernel_rfl) (by kernel_rfl) (by kernel_rfl) (fun _ _ _ h => h) (by rfl) (by intro w' hS'; obtain ⟨x1, x2, x3, x4, x5⟩ := hS'; go_simp <;> rfl) yS ?_
    try simp only [Act.put, List.setIfInBounds_toArray, List.set_cons_zero, List.set_cons_succ]
    refine wpAnyL_take 12 rfl (by kernel_rfl) (by kernel_rfl) (by kernel_rfl) (by kernel_rfl) (fun _ _ _ h => h) (by rfl) (by intro w' hS'; obtain ⟨x1, x2, x3, x4, x5⟩ := hS'; go_simp <;> rfl) yS ?_
    try simp only [Act.put, List.setIfInBounds_toArray, List.set_cons_zero, List.set_cons_succ]
    refine wpAnyL_one 13 (by kernel_rfl) rfl (by rfl) ?_
    intro K' hK'
    go_simp
    refine hK'.out _ _ (.inr (hSW _ hSW2)) ?_
    clear hK' K' yS
    try simp only [Act.put, List.setIfInBounds_toArray, List.set_cons_zero, List.set_cons_succ]
    refine wpAnyL_one 14 (by kernel_rfl) rfl (by rfl) ?_
    intro K' hK'
    refine op_by _ _ _ rfl _ _ rfl rfl kp ?_
    rintro v3 w3 ⟨⟨a3, n3, c3', rfl⟩, z0, z1, z2, hfin⟩
    refine hK'.out _ _ (.inr (hSW _ z2)) ?_
    clear hK' K'
    try simp only [Act.put, List.setIfInBounds_toArray, List.set_cons_zero, List.set_cons_succ]
    refine wpAnyL_one 15 (by kernel_rfl) rfl (by rfl) ?_
    intro K' hK'
    go_simp
    refine hK'.out _ _ (.inr (hSW _ z2)) ?_
    clear hK' K'
    try simp only [Act.put, List.setIfInBounds_toArray, List.set_cons_zero, List.set_cons_succ]
    refine wpAnyL_one 16 (by kernel_rfl) rfl (by rfl) ?_
    intro K' hK'
    go_simp
    refine hK'.out _ _ (.inr (hSW _ z2)) ?_
    clear hK' K'
    try simp only [Act.put, List.setIfInBounds_toArray, List.set_cons_zero, List.set_cons_succ]
    refine wpAnyL_one 17 (by kernel_rfl) rfl (by rfl) ?_
    intro K' hK'
    go_simp
    refine hK'.out _ _ (.inl (by simp)) ?_
    clear hK' K' z0 z1 z2
    refine wpAnyL_done (by kernel_rfl) (NoPanic.normal ?_) _
    obtain ⟨y1, y2, y3, kpo⟩ := (k2 _ hfin).out
    generalize w3.setCell ⟨q, 0, none⟩ (.slice a3 n3 c3') = W2 at *
    clear k2 kp hfin hSW hSW1 hSW2
    go_wp2_with (go_at_call 17; refine kpo.mono ?_; rintro e W3 ⟨rfl, hT⟩)
    first | exact hT.out | (go_ret; exact hT.out)
  · have hlod : decide (0 ≤ A) = false := by simpa using hlo
    go_enter Try.func9, Try.ntmps9
    go_wp2
    go_big_quiet (fail)
    obtain ⟨W1, hW1⟩ : ∃ W1, W1 = (w.alloc (.cells #[.int .i64 Do, .int .i64 A, .int .i64 B, .slice sa dl sc] 33)).drewN nq := ⟨_, rfl⟩
    rw [← hW1]
    have hb1 : Below w.heap.size w W1 := by rw [hW1]; exact below_drewN a1 nq
    have nb1 : W1.heap[w.heap.size]? = some (.cells #[.int .i64 Do, .int .i64 A, .int .i64 B, .slice sa dl sc] 33 (0, 0)) := by rw [hW1]; exact nb
    clear hW1 nq a1 nb b1 q0
    have hn1 := Nat.le_trans hn hb1.size
    have hBag1 := hBag.below hb1
    have hMod1 := hMod.below hb1
    have c0 : W1.cell? ⟨w.heap.size, 0, none⟩ = some (.int .i64 Do) := by rw [cells_of_block nb1]; rfl
    have c1 : W1.cell? ⟨w.heap.size, 1, none⟩ = some (.int .i64 A) := by rw [cells_of_block nb1]; rfl
    have c2 : W1.cell? ⟨w.heap.size, 2, none⟩ = some (.int .i64 B) := by rw [cells_of_block nb1]; rfl
    have c3 : W1.cell? ⟨w.heap.size, 3, none⟩ = some (.slice sa dl sc) := by rw [cells_of_block nb1]; rfl
    have hok : MsgOk (A, B, D) := ⟨hAi, hBi, hD, hdm⟩
    have q0' := hMod1.cells.1
    have q2' := hMod1.cells.2.2
    rw [hlv] at q0'
    have lq := hMod1.lt q (.inl rfl)
    have hne := hMod1.ne.1
    have hcv : (convert 31 9 (.slice sa dl sc)).run Try.prog W1.drew = .ok (.string (str D)) W1.drew := @str_of keepAll _ _ _ _ (hBs W1.drew ((hb1.mono hn).trans (Below.refl _ _).drew)) hD
    have hSW : ∀ W, Below n w W ∧ W.heap[w.heap.size]? = W1.heap[w.heap.size]? ∧ W.heap[q]? = W1.heap[q]? → W.cell? ⟨q, 0, none⟩ = some (.slice al l.length cal) ∧ W.cell? ⟨w.heap.size, 1, none⟩ = some (.int .i64 A) ∧ W.cell? ⟨w.heap.size, 2, none⟩ = some (.int .i64 B) ∧ W.cell? ⟨w.heap.size, 3, none⟩ = some (.slice sa dl sc) ∧ (convert 31 9 (.slice sa dl sc)).run Try.prog W = .ok (.string (str D)) W := fun W hW => by
      have hx := hW.2.1.trans nb1
      refine ⟨(World.cell?_of_block hW.2.2).trans q0', by rw [cells_of_block hx]; rfl, by rw [cells_of_block hx]; rfl, by rw [cells_of_block hx]; rfl, @str_of keepAll _ _ _ _ (hBs W hW.1) hD⟩
    have hbw := hb1.mono hn
    have hSW1 : Below n w W1.drew ∧ W1.drew.heap[w.heap.size]? = W1.heap[w.heap.size]? ∧ W1.drew.heap[q]? = W1.heap[q]? := ⟨hbw.trans (Below.refl _ _).drew, rfl, rfl⟩
    have hSW2 : Below n w (W1.alloc (.cells #[.int .i64 A, .int .i64 B, .string (str D)] 39)).drew ∧ (W1.alloc (.cells #[.int .i64 A, .int .i64 B, .string (str D)] 39)).drew.heap[w.heap.size]? = W1.heap[w.heap.size]? ∧ (W1.alloc (.cells #[.int .i64 A, .int .i64 B, .string (str D)] 39)).drew.heap[q]? = W1.heap[q]? := ⟨(hbw.alloc hn1 _).drew, heap_alloc_old _ _ (Array.getElem?_eq_some_iff.1 nb1).1, heap_alloc_old _ _ lq⟩
    have kp : ∀ ty, ∃ v' w', (Builtin.append_ #[26, 26] ty #[.slice al l.length cal, .slice (some ⟨W1.heap.size, 0, none⟩) 1 1]).run Try.prog (W1.alloc (.cells #[.int .i64 A, .int .i64 B, .string (str D)] 39)).drew = .ok v' w' ∧ ((∃ a n c, v' = .slice a n c) ∧ w'.cell? ⟨q, 0, none⟩ = some (.slice al l.length cal) ∧ w'.frozen? ⟨q, 0, none⟩ = false ∧ (Below n w w' ∧ w'.heap[w.heap.size]? = W1.heap[w.heap.size]? ∧ w'.heap[q]? = W1.heap[q]?) ∧ Hid (MDid W1 q lv pv (l ++ [(A, B, D)]) ps (w'.setCell ⟨q, 0, none⟩ v'))) := fun ty => by
      obtain ⟨v', w', r1, r2, r3, r4⟩ := push_lmsg W1.drew ty lv l (A, B, D) (hMod1.lrow.same fun k hk => rfl) (by omega)
      have hg : W1.grownBy w' lv.ownBlock := grown_of_below (Below.refl _ _).drew r3
      rw [hlv] at r1
      obtain ⟨a, c, e, -⟩ := r2.shape
      have hnot : lv.ownBlock ≠ some w.heap.size := fun e => by have := hMod.lt _ (.inr (.inl e)); omega
      have hgb : Below n W1 w' := (grown_kept hg).below hn1 fun b hb => hMn b (.inr (.inl hb))
      refine ⟨v', w', r1, ⟨a, _, c, e⟩, cell_grown hg q0' hne, ?_, ⟨hbw.trans hgb, hg.block _ (Array.getElem?_eq_some_iff.1 nb1).1 (fun e => hnot e.symm), hg.block q lq (fun e => hne e.symm)⟩, hMod1.storedL (grown_kept hg) r2 r4⟩
      rw [frozen_same 0 (hg.block q lq fun e => hne e.symm)]
      exact q2' 0
    have k2 : ∀ W2, Hid (MDid W1 q lv pv (l ++ [(A, B, D)]) ps W2) → Hid (W2.cell? ⟨w.heap.size, 1, none⟩ = some (.int .i64 A) ∧ W2.cell? ⟨w.heap.size, 2, none⟩ = some (.int .i64 B) ∧ W2.cell? ⟨w.heap.size, 3, none⟩ = some (.slice sa dl sc) ∧ Calls Try.prog 17 #[.pointer (some ⟨p, 0, none⟩), .int .i64 A, .int .i64 B, .slice sa dl sc] W2 (fun e W3 => e = .returned (.bool true) ∧ Hid (DoesT n w p m q N (.returned (.bool true)) W3))) := fun W2 hm => by
      obtain ⟨lv', pv', m1, m2, m3⟩ := id hm.out
      have hnot : ¬ MineM q lv pv w.heap.size := fun e => by have := hMod.lt _ e; omega
      have nb2 := (m2.block w.heap.size (Array.getElem?_eq_some_iff.1 nb1).1 hnot).trans nb1
      have hbW := (hb1.mono hn).trans (m2.below hn1 hMn)
      refine ⟨by rw [cells_of_block nb2]; rfl, by rw [cells_of_block nb2]; rfl, by rw [cells_of_block nb2]; rfl, ?_⟩
      refine (post_yes (hBag1.kept hMod1 m2) A B _ D (hBs W2 hbW) hok (by omega)).mono ?_
      rintro e W3 ⟨rfl, hD3⟩
      obtain ⟨r1, r2⟩ := ASt.modBag hn1 hBag1 hAn hMod1 hMn hm.out (fun _ => hD3.more (by omega)) (by simp; omega) (by omega)
      exact ⟨rfl, rfl, _, _, r1, (hb1.mono hn).trans r2⟩
    clear hBag1 hMod1 hBag hMod h nb1 hMn hAn hok hBs hne hcv
    generalize DoesT n w p m q N = T at *
    go_wp2
    refine wp_region_L (fun w' => w'.cell? ⟨q, 0, none⟩ = some (.slice al l.length cal) ∧ w'.cell? ⟨w.heap.size, 1, none⟩ = some (.int .i64 A) ∧ w'.cell? ⟨w.heap.size, 2, none⟩ = some (.int .i64 B) ∧ w'.cell? ⟨w.heap.size, 3, none⟩ = some (.slice sa dl sc) ∧ (convert 31 9 (.slice sa dl sc)).run Try.prog w' = .ok (.string (str D)) w') [17] (by kernel_rfl) ?_
    have yS : (fun w' : World => w'.cell? ⟨q, 0, none⟩ = some (.slice al l.length cal) ∧ w'.cell? ⟨w.heap.size, 1, none⟩ = some (.int .i64 A) ∧ w'.cell? ⟨w.heap.size, 2, none⟩ = some (.int .i64 B) ∧ w'.cell? ⟨w.heap.size, 3, none⟩ = some (.slice sa dl sc) ∧ (convert 31 9 (.slice sa dl sc)).run Try.prog w' = .ok (.string (str D)) w') W1.drew := hSW _ hSW1
    refine wpAnyL_take 0 rfl (by kernel_rfl) (by kernel_rfl) (by kernel_rfl) (by kernel_rfl) (fun _ _ _ h => h) (by rfl) (by intro w' hS'; obtain ⟨x1, x2, x3, x4, x5⟩ := hS'; go_simp <;> rfl) yS ?_
    try simp only [Act.put, List.setIfInBounds_toArray, List.set_cons_zero, List.set_cons_succ]
    refine wpAnyL_take 1 rfl (by kernel_rfl) (by kernel_rfl) (by kernel_rfl) (by kernel_rfl) (fun _ _ _ h => h) (by rfl) (by intro w' hS'; obtain ⟨x1, x2, x3, x4, x5⟩ := hS'; go_simp <;> rfl) yS ?_
    try simp only [Act.put, List.setIfInBounds_toArray, List.set_cons_zero, List.set_cons_succ]
    refine wpAnyL_take 2 rfl (by kernel_rfl) (by kernel_rfl) (by kernel_rfl) (by kernel_rfl) (fun _ _ _ h => h) (by rfl) (by intro w' hS'; obtain ⟨x1, x2, x3, x4, x5⟩ := hS'; go_simp <;> rfl) yS ?_
    try simp only [Act.put, List.setIfInBounds_toArray, List.set_cons_zero, List.set_cons_succ]
    refine wpAnyL_take 3 rfl (by kernel_rfl) (by kernel_rfl) (by kernel_rfl) (by kernel_rfl) (fun _ _ _ h => h) (by rfl) (by intro w' hS'; obtain ⟨x1, x2, x3, x4, x5⟩ := hS'; go_simp <;> rfl) yS ?_
    try simp only [Act.put, List.setIfInBounds_toArray, List.set_cons_zero, List.set_cons_succ]
    refine wpAnyL_take 4 rfl (by kernel_rfl) (by kernel_rfl) (by kernel_rfl) (by kernel_rfl) (fun _ _ _ h => h) (by rfl) (by intro w' hS'; obtain ⟨x1, x2, x3, x4, x5⟩ := hS'; go_simp <;> rfl) yS ?_
    try simp only [Act.put, List.setIfInBounds_toArray, List.set_cons_zero, List.set_cons_succ]
    refine wpAnyL_take 5 rfl (by kernel_rfl) (by kernel_rfl) (by kernel_rfl) (by kernel_rfl) (fun _ _ _ h => h) (by rfl) (by intro w' hS'; obtain ⟨x1, x2, x3, x4, x5⟩ := hS'; go_simp <;> rfl) yS ?_
    try simp only [Act.put, List.setIfInBounds_toArray, List.set_cons_zero, List.set_cons_succ]
    refine wpAnyL_take 6 rfl (by kernel_rfl) (by kernel_rfl) (by kernel_rfl) (by kernel_rfl) (fun _ _ _ h => h) (by rfl) (by intro w' hS'; obtain ⟨x1, x2, x3, x4, x5⟩ := hS'; go_simp <;> rfl) yS ?_
    try simp only [Act.put, List.setIfInBounds_toArray, List.set_cons_zero, List.set_cons_succ]
    refine wpAnyL_take 7 rfl (by kernel_rfl) (by kernel_rfl) (by kernel_rfl) (by kernel_rfl) (fun _ _ _ h => h) (by rfl) (by intro w' hS'; obtain ⟨x1, x2, x3, x4, x5⟩ := hS'; go_simp <;> rfl) yS ?_
    try simp only [Act.put, List.setIfInBounds_toArray, List.set_cons_zero, List.set_cons_succ]
    refine wpAnyL_take 8 rfl (by kernel_rfl) (by kernel_rfl) (by kernel_rfl) (by kernel_rfl) (fun _ _ _ h => h) (by rfl) (by intro w' hS'; obtain ⟨x1, x2, x3, x4, x5⟩ := hS'; go_simp <;> rfl) yS ?_
    try simp only [Act.put, List.setIfInBounds_toArray, List.set_cons_zero, List.set_cons_succ]
    refine wpAnyL_take 9 rfl (by kernel_rfl) (by kernel_rfl) (by kernel_rfl) (by kernel_rfl) (fun _ _ _ h => h) (by rfl) (by intro w' hS'; obtain ⟨x1, x2, x3, x4, x5⟩ := hS'; go_simp <;> rfl) yS ?_
    try simp only [Act.put, List.setIfInBounds_toArray, List.set_cons_zero, List.set_cons_succ]
    refine wpAnyL_take 10 rfl (by kernel_rfl) (by kernel_rfl) (by kernel_rfl) (by kernel_rfl) (fun _ _ _ h => h) (by rfl) (by intro w' hS'; obtain ⟨x1, x2, x3, x4, x5⟩ := hS'; go_simp <;> rfl) yS ?_
    try simp only [Act.put, List.setIfInBounds_toArray, List.set_cons_zero, List.set_cons_succ]
    refine wpAnyL_take 11 rfl (by kernel_rfl) (by kernel_rfl) (by kernel_rfl) (by kernel_rfl) (fun _ _ _ h => h) (by rfl) (by intro w' hS'; obtain ⟨x1, x2, x3, x4, x5⟩ := hS'; go_simp <;> rfl) yS ?_
    try simp only [Act.put, List.setIfInBounds_toArray, List.set_cons_zero, List.set_cons_succ]
    refine wpAnyL_take 12 rfl (by kernel_rfl) (by kernel_rfl) (by kernel_rfl) (by kernel_rfl) (fun _ _ _ h => h) (by rfl) (by intro w' hS'; obtain ⟨x1, x2, x3, x4, x5⟩ := hS'; go_simp <;> rfl) yS ?_
    try simp only [Act.put, List.setIfInBounds_toArray, List.set_cons_zero, List.set_cons_succ]
    refine wpAnyL_one 13 (by kernel_rfl) rfl (by rfl) ?_
    intro K' hK'
    go_simp
    refine hK'.out _ _ (.inr (hSW _ hSW2)) ?_
    clear hK' K' yS
    try simp only [Act.put, List.setIfInBounds_toArray, List.set_cons_zero, List.set_cons_succ]
    refine wpAnyL_one 14 (by kernel_rfl) rfl (by rfl) ?_
    intro K' hK'
    refine op_by _ _ _ rfl _ _ rfl rfl kp ?_
    rintro v3 w3 ⟨⟨a3, n3, c3', rfl⟩, z0, z1, z2, hfin⟩
    refine hK'.out _ _ (.inr (hSW _ z2)) ?_
    clear hK' K'
    try simp only [Act.put, List.setIfInBounds_toArray, List.set_cons_zero, List.set_cons_succ]
    refine wpAnyL_one 15 (by kernel_rfl) rfl (by rfl) ?_
    intro K' hK'
    go_simp
    refine hK'.out _ _ (.inr (hSW _ z2)) ?_
    clear hK' K'
    try simp only [Act.put, List.setIfInBounds_toArray, List.set_cons_zero, List.set_cons_succ]
    refine wpAnyL_one 16 (by kernel_rfl) rfl (by rfl) ?_
    intro K' hK'
    go_simp
    refine hK'.out _ _ (.inr (hSW _ z2)) ?_
    clear hK' K'
    try simp only [Act.put, List.setIfInBounds_toArray, List.set_cons_zero, List.set_cons_succ]
    refine wpAnyL_one 17 (by kernel_rfl) rfl (by rfl) ?_
    intro K' hK'
    go_simp
    refine hK'.out _ _ (.inl (by simp)) ?_
    clear hK' K' z0 z1 z2
    refine wpAnyL_done (by kernel_rfl) (NoPanic.normal ?_) _
    obtain ⟨y1, y2, y3, kpo⟩ := (k2 _ hfin).out
    generalize w3.setCell ⟨q, 0, none⟩ (.slice a3 n3 c3') = W2 at *
    clear k2 kp hfin hSW hSW1 hSW2
    go_wp2_with (go_at_call 17; refine kpo.mono ?_; rintro e W3 ⟨rfl, hT⟩)
    first | exact hT.out | (go_ret; exact hT.out)
end Go.Proofs.Ytjkjekhbfjjnjaa

