import Derived.Test.YtjkjekhbfjjnjaaHb31
import Derived.Laws.Cover1
/- The contract of the law's 'does': Twice. -/
namespace Go.Proofs.Ytjkjekhbfjjnjaa
open Go.RowKit Go.Maps
set_option maxRecDepth 100000
set_option linter.unusedSimpArgs false
set_option linter.unusedVariables false

set_option maxHeartbeats 8000000 in
theorem does_3 {n : Nat} {w : World} {p m q : Nat} {l : List Msg} {ps : List (Int × Int)} {N : Nat} (h : ASt n w p m q l ps N) (hn : n ≤ w.heap.size) (hN : N ≤ 1000) (A B : Int) (hAi : i64 A) (hBi : i64 B) (sa : Option Addr) (dl sc : Nat) :
    Calls Try.prog 9 #[.pointer (some ⟨p, 0, none⟩), .pointer (some ⟨q, 0, none⟩), .agg #[.int .i64 3, .int .i64 A, .int .i64 B, .slice sa dl sc]] w (DoesT n w p m q N) := by
  have a1 := (Below.refl w.heap.size w).alloc (Nat.le_refl _) (.cells #[.int .i64 3, .int .i64 A, .int .i64 B, .slice sa dl sc] 33)
  have nb := heap_alloc_new w (.cells #[.int .i64 3, .int .i64 A, .int .i64 B, .slice sa dl sc] 33)
  obtain ⟨lv, pv, hMod, hMn⟩ := h.mod
  obtain ⟨fv, hBag, hAn⟩ := h.bag
  have hlen := h.len
  have hlenp := h.lenp
  have q0 := (hMod.below a1).cells.1
  obtain ⟨al, cal, hlv, hlec, -⟩ := hMod.lrow.shape
  rw [hlv] at q0
  have b1 : (w.alloc (.cells #[.int .i64 3, .int .i64 A, .int .i64 B, .slice sa dl sc] 33)).cell? ⟨w.heap.size, 1, none⟩ = some (.int .i64 A) := by rw [cells_of_block nb]; rfl
  by_cases hlo : 0 ≤ A
  · have hlod : decide (0 ≤ A) = true := by simpa using hlo
    have hle0 : ¬ A < 0 := by omega
    by_cases hhi : A < (l.length : Int)
    · have hhid : decide (A < (l.length : Int)) = true := by simpa using hhi
      go_enter Try.func9, Try.ntmps9
      go_wp2
      go_quiet (fail)
      obtain ⟨W1, hW1⟩ : ∃ W1, W1 = (w.alloc (.cells #[.int .i64 3, .int .i64 A, .int .i64 B, .slice sa dl sc] 33)).drewN nq := ⟨_, rfl⟩
      rw [← hW1]
      have hb1 : Below w.heap.size w W1 := by rw [hW1]; exact below_drewN a1 nq
      have nb1 : W1.heap[w.heap.size]? = some (.cells #[.int .i64 3, .int .i64 A, .int .i64 B, .slice sa dl sc] 33 (0, 0)) := by rw [hW1]; exact nb
      clear hW1 nq a1 nb b1 q0
      have hn1 := Nat.le_trans hn hb1.size
      have hBag1 := hBag.below hb1
      have hMod1 := hMod.below hb1
      have c0 : W1.cell? ⟨w.heap.size, 0, none⟩ = some (.int .i64 3) := by rw [cells_of_block nb1]; rfl
      have c1 : W1.cell? ⟨w.heap.size, 1, none⟩ = some (.int .i64 A) := by rw [cells_of_block nb1]; rfl
      have c2 : W1.cell? ⟨w.heap.size, 2, none⟩ = some (.int .i64 B) := by rw [cells_of_block nb1]; rfl
      have c3 : W1.cell? ⟨w.heap.size, 3, none⟩ = some (.slice sa dl sc) := by rw [cells_of_block nb1]; rfl
      obtain ⟨j, hj⟩ : ∃ j : Nat, A = (j : Int) := ⟨A.toNat, by omega⟩
      have hjl : j < l.length := by omega
      obtain ⟨y, hy⟩ : ∃ y, l[j]? = some y := ⟨l[j], List.getElem?_eq_getElem hjl⟩
      subst hj
      obtain ⟨g, cal', hlv', -, -, hgl, -⟩ := msg_cells hMod1.lrow hy
      rw [hlv] at hlv'
      cases hlv'
      have kt := twice_yes hBag1 j y hy (by omega)
      have k2 : ∀ W2, Did W1 p m fv (l ++ [y]) (partsOf ps) N W2 → Hid (W2.cell? ⟨q, 0, none⟩ = some (.slice (some ⟨g, 0, none⟩) l.length cal) ∧ W2.cell? ⟨w.heap.size, 1, none⟩ = some (.int .i64 (j : Int)) ∧ W2.cell? ⟨g, j * 3, none⟩ = some (.int .i64 y.1) ∧ W2.cell? ⟨g, j * 3 + 1, none⟩ = some (.int .i64 y.2.1) ∧ W2.cell? ⟨g, j * 3 + 2, none⟩ = some (.string (str y.2.2)) ∧ w.heap.size < W2.heap.size ∧ g < W2.heap.size ∧ q < W2.heap.size ∧
          (∀ ty, ∃ v' w', (Builtin.append_ #[26, 26] ty #[.slice (some ⟨g, 0, none⟩) l.length cal, .slice (some ⟨W2.heap.size, 0, none⟩) 1 1]).run Try.prog (W2.drew.alloc (.cells #[.int .i64 y.1, .int .i64 y.2.1, .string (str y.2.2)] 39)) = .ok v' w' ∧ ((∃ a n c, v' = .slice a n c) ∧ w'.cell? ⟨q, 0, none⟩ = some (.slice (some ⟨g, 0, none⟩) l.length cal) ∧ w'.frozen? ⟨q, 0, none⟩ = false ∧ Hid (DoesT n w p m q N (.returned (.bool true)) (w'.setCell ⟨q, 0, none⟩ v'))))) := fun W2 hD => by
        obtain ⟨fv2, d1, d2, d3⟩ := id hD
        have hM2 := hMod1.kept hBag1 d2
        have hnbx : ¬ Mine p m fv w.heap.size := fun e => by have := hBag.lt _ e; omega
        have nb2 := (d2.block w.heap.size (Array.getElem?_eq_some_iff.1 nb1).1 hnbx).trans nb1
        obtain ⟨g', cal', hlv', -, -, hgl', x0, x1, x2, -⟩ := msg_cells hM2.lrow hy
        rw [hlv] at hlv'
        cases hlv'
        have q0' := hM2.cells.1
        rw [hlv] at q0'
        have hlx := (Array.getElem?_eq_some_iff.1 nb2).1
        refine ⟨q0', by rw [cells_of_block nb2]; rfl, x0, x1, x2, hlx, hgl', hM2.lt q (.inl rfl), fun ty => ?_⟩
        obtain ⟨v', w', r1, r2, r3, r4⟩ := push_lmsg W2.drew ty lv l y (hM2.lrow.same fun k hk => rfl) (by omega)
        have hg : W2.grownBy w' lv.ownBlock := grown_of_below (Below.refl _ _).drew r3
        rw [hlv] at r1
        obtain ⟨a, c, e, -⟩ := r2.shape
        have hne := hM2.ne
        have hm := hM2.storedL (grown_kept hg) r2 r4
        obtain ⟨s1, s2⟩ := ASt.bagMod hn1 hBag1 hAn hMod1 hMn (hD.more (by omega)) hm (by simp; omega) (by omega)
        have hqb := hg.block q (hM2.lt q (.inl rfl)) fun e => hne.1 e.symm
        refine ⟨v', w', r1, ⟨a, _, c, e⟩, cell_grown hg q0' hne.1, ?_, rfl, _, _, s1, (hb1.mono hn).trans s2⟩
        rw [frozen_same 0 hqb]
        exact hM2.cells.2.2 0
      have hl16 : (l.length : Int) < 16384 := by omega
      have hjl' : (j : Int) < (l.length : Int) := by omega
      clear hBag1 hMod1 hBag hMod h nb1 hMn hAn hhi hlo hle0 hlod hhid hy
      generalize DoesT n w p m q N = T at *
      generalize str y.2.2 = s2 at *
      generalize y.2.1 = y1 at *
      generalize y.1 = y0 at *
      go_wp2_with (go_at_call 16; refine kt.mono ?_; rintro e W2 ⟨rfl, hD2⟩; obtain ⟨z0, z1, z2, z3, z4, l1, l2, l3, kp⟩ := (k2 W2 hD2).out; clear hD2)
      clear k2 kt
      go_region_law (first
          | (refine step_by (by rfl) _ _ _ (by rfl) (.slice (some ⟨g, 0, none⟩) l.length cal) _ (by simp [Act.eval, Act.put]) (by simp [Act.eval, Act.put]) kp ?_; rintro v3 w3 ⟨⟨a3, n3, c3', rfl⟩, r4, r5, hfin⟩))
      all_goals (go_wp2 <;> first | exact hfin.out | (go_ret; exact hfin.out))
    · have hhid : decide (A < (l.length : Int)) = false := by simpa using hhi
      have hout : ¬ (0 ≤ A ∧ A < (l.length : Int)) := fun e => hhi e.2
      go_enter Try.func9, Try.ntmps9
      go_wp2
      go_quiet (fail)
      obtain ⟨W1, hW1⟩ : ∃ W1, W1 = (w.alloc (.cells #[.int .i64 3, .int .i64 A, .int .i64 B, .slice sa dl sc] 33)).drewN nq := ⟨_, rfl⟩
      rw [← hW1]
      have hb1 : Below w.heap.size w W1 := by rw [hW1]; exact below_drewN a1 nq
      have nb1 : W1.heap[w.heap.size]? = some (.cells #[.int .i64 3, .int .i64 A, .int .i64 B, .slice sa dl sc] 33 (0, 0)) := by rw [hW1]; exact nb
      clear hW1 nq a1 nb b1 q0
      have hn1 := Nat.le_trans hn hb1.size
      have hBag1 := hBag.below hb1
      have hMod1 := hMod.below hb1
      have c0 : W1.cell? ⟨w.heap.size, 0, none⟩ = some (.int .i64 3) := by rw [cells_of_block nb1]; rfl
      have c1 : W1.cell? ⟨w.heap.size, 1, none⟩ = some (.int .i64 A) := by rw [cells_of_block nb1]; rfl
      have c2 : W1.cell? ⟨w.heap.size, 2, none⟩ = some (.int .i64 B) := by rw [cells_of_block nb1]; rfl
      have c3 : W1.cell? ⟨w.heap.size, 3, none⟩ = some (.slice sa dl sc) := by rw [cells_of_block nb1]; rfl
      have kd := twice_no hBag1 A (.inl hout)
      have HF : Hid (DoesT n w p m q N (.returned (.bool true)) W1) := ⟨rfl, l, ps, (h.below hb1).more, hb1.mono hn⟩
      clear hBag1 hMod1 hBag hMod h nb1 hMn hAn hlo hout
      generalize DoesT n w p m q N = T at *
      go_wp2_with (go_at_call 16; refine kd.mono ?_; rintro e wq ⟨rfl, hwq⟩; rw [hwq]; clear hwq wq)
      first | exact HF.out | (go_ret; exact HF.out)
  · have hlod : decide (0 ≤ A) = false := by simpa using hlo
    have hout : ¬ (0 ≤ A ∧ A < (l.length : Int)) := fun e => hlo e.1
    go_enter Try.func9, Try.ntmps9
    go_wp2
    go_big_quiet (fail)
    obtain ⟨W1, hW1⟩ : ∃ W1, W1 = (w.alloc (.cells #[.int .i64 3, .int .i64 A, .int .i64 B, .slice sa dl sc] 33)).drewN nq := ⟨_, rfl⟩
    rw [← hW1]
    have hb1 : Below w.heap.size w W1 := by rw [hW1]; exact below_drewN a1 nq
    have nb1 : W1.heap[w.heap.size]? = some (.cells #[.int .i64 3, .int .i64 A, .int .i64 B, .slice sa dl sc] 33 (0, 0)) := by rw [hW1]; exact nb
    clear hW1 nq a1 nb b1 q0
    have hn1 := Nat.le_trans hn hb1.size
    have hBag1 := hBag.below hb1
    have hMod1 := hMod.below hb1
    have c0 : W1.cell? ⟨w.heap.size, 0, none⟩ = some (.int .i64 3) := by rw [cells_of_block nb1]; rfl
    have c1 : W1.cell? ⟨w.heap.size, 1, none⟩ = some (.int .i64 A) := by rw [cells_of_block nb1]; rfl
    have c2 : W1.cell? ⟨w.heap.size, 2, none⟩ = some (.int .i64 B) := by rw [cells_of_block nb1]; rfl
    have c3 : W1.cell? ⟨w.heap.size, 3, none⟩ = some (.slice sa dl sc) := by rw [cells_of_block nb1]; rfl
    have kd := twice_no hBag1 A (.inl hout)
    have HF : Hid (DoesT n w p m q N (.returned (.bool true)) W1) := ⟨rfl, l, ps, (h.below hb1).more, hb1.mono hn⟩
    clear hBag1 hMod1 hBag hMod h nb1 hMn hAn hlo hout
    generalize DoesT n w p m q N = T at *
    go_wp2_with (go_at_call 16; refine kd.mono ?_; rintro e wq ⟨rfl, hwq⟩; rw [hwq]; clear hwq wq)
    first | exact HF.out | (go_ret; exact HF.out)
end Go.Proofs.Ytjkjekhbfjjnjaa

