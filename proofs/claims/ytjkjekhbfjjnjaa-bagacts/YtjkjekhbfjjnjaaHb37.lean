import Derived.Test.YtjkjekhbfjjnjaaHb31
import Derived.Laws.Cover1
/- The contract of the law's 'does': Heal. -/
namespace Go.Proofs.Ytjkjekhbfjjnjaa
open Go.RowKit Go.Maps
set_option maxRecDepth 100000
set_option linter.unusedSimpArgs false
set_option linter.unusedVariables false

set_option maxHeartbeats 8000000 in
theorem does_5 {n : Nat} {w : World} {p m q : Nat} {l : List Msg} {ps : List (Int × Int)} {N : Nat} (h : ASt n w p m q l ps N) (hn : n ≤ w.heap.size) (hN : N ≤ 1000) (A B : Int) (hAi : i64 A) (hBi : i64 B) (sa : Option Addr) (dl sc : Nat) :
    Calls Try.prog 9 #[.pointer (some ⟨p, 0, none⟩), .pointer (some ⟨q, 0, none⟩), .agg #[.int .i64 5, .int .i64 A, .int .i64 B, .slice sa dl sc]] w (DoesT n w p m q N) := by
  have a1 := (Below.refl w.heap.size w).alloc (Nat.le_refl _) (.cells #[.int .i64 5, .int .i64 A, .int .i64 B, .slice sa dl sc] 33)
  have nb := heap_alloc_new w (.cells #[.int .i64 5, .int .i64 A, .int .i64 B, .slice sa dl sc] 33)
  obtain ⟨lv, pv, hMod, hMn⟩ := h.mod
  obtain ⟨fv, hBag, hAn⟩ := h.bag
  have hlen := h.len
  have hlenp := h.lenp
  have q0 := (hMod.below a1).cells.1
  obtain ⟨al, cal, hlv, hlec, -⟩ := hMod.lrow.shape
  rw [hlv] at q0
  have b1 : (w.alloc (.cells #[.int .i64 5, .int .i64 A, .int .i64 B, .slice sa dl sc] 33)).cell? ⟨w.heap.size, 1, none⟩ = some (.int .i64 A) := by rw [cells_of_block nb]; rfl
  by_cases hlo : 0 ≤ A
  · have hlod : decide (0 ≤ A) = true := by simpa using hlo
    have hle0 : ¬ A < 0 := by omega
    go_enter Try.func9, Try.ntmps9
    go_wp2
    go_quiet (fail)
    obtain ⟨W1, hW1⟩ : ∃ W1, W1 = (w.alloc (.cells #[.int .i64 5, .int .i64 A, .int .i64 B, .slice sa dl sc] 33)).drewN nq := ⟨_, rfl⟩
    rw [← hW1]
    have hb1 : Below w.heap.size w W1 := by rw [hW1]; exact below_drewN a1 nq
    have nb1 : W1.heap[w.heap.size]? = some (.cells #[.int .i64 5, .int .i64 A, .int .i64 B, .slice sa dl sc] 33 (0, 0)) := by rw [hW1]; exact nb
    clear hW1 nq a1 nb b1 q0
    have hn1 := Nat.le_trans hn hb1.size
    have hBag1 := hBag.below hb1
    have hMod1 := hMod.below hb1
    have c0 : W1.cell? ⟨w.heap.size, 0, none⟩ = some (.int .i64 5) := by rw [cells_of_block nb1]; rfl
    have c1 : W1.cell? ⟨w.heap.size, 1, none⟩ = some (.int .i64 A) := by rw [cells_of_block nb1]; rfl
    have c2 : W1.cell? ⟨w.heap.size, 2, none⟩ = some (.int .i64 B) := by rw [cells_of_block nb1]; rfl
    have c3 : W1.cell? ⟨w.heap.size, 3, none⟩ = some (.slice sa dl sc) := by rw [cells_of_block nb1]; rfl
    have kh := heal_of hBag1
    have k2 : ∀ W2, Did W1 p m fv l (fun _ _ => false) N W2 → Hid (∃ u, W2.cell? ⟨q, 1, none⟩ = some u ∧ W2.frozen? ⟨q, 1, none⟩ = false ∧ ∃ l' ps', ASt n (W2.setCell ⟨q, 1, none⟩ (.slice none 0 0)) p m q l' ps' (N + 1) ∧ Below n w (W2.setCell ⟨q, 1, none⟩ (.slice none 0 0))) := fun W2 hD => by
      obtain ⟨fv2, d1, d2, d3⟩ := id hD
      have hM2 := hMod1.kept hBag1 d2
      have hm := hM2.storedP (Kept.refl _ _) (Rk.nil pairE W2 55) (fun k hk => by cases hk) (ps' := []) (by simp)
      obtain ⟨r1, r2⟩ := ASt.bagMod hn1 hBag1 hAn hMod1 hMn (ps' := []) (hD.more (by omega)) hm (by omega) (by simp)
      exact ⟨_, hM2.cells.2.1, hM2.cells.2.2 1, l, [], r1, (hb1.mono hn).trans r2⟩
    clear hBag1 hMod1 hBag hMod h nb1 hMn hAn
    go_wp2_with (go_at_call 20; refine kh.mono ?_; rintro e W2 ⟨rfl, hD⟩; obtain ⟨u2, z0, z1, hfin⟩ := (k2 W2 hD).out; have HF : Hid _ := hfin; clear hfin)
    go_ret
    exact ⟨rfl, HF.out⟩
  · have hlod : decide (0 ≤ A) = false := by simpa using hlo
    go_enter Try.func9, Try.ntmps9
    go_wp2
    go_big_quiet (fail)
    obtain ⟨W1, hW1⟩ : ∃ W1, W1 = (w.alloc (.cells #[.int .i64 5, .int .i64 A, .int .i64 B, .slice sa dl sc] 33)).drewN nq := ⟨_, rfl⟩
    rw [← hW1]
    have hb1 : Below w.heap.size w W1 := by rw [hW1]; exact below_drewN a1 nq
    have nb1 : W1.heap[w.heap.size]? = some (.cells #[.int .i64 5, .int .i64 A, .int .i64 B, .slice sa dl sc] 33 (0, 0)) := by rw [hW1]; exact nb
    clear hW1 nq a1 nb b1 q0
    have hn1 := Nat.le_trans hn hb1.size
    have hBag1 := hBag.below hb1
    have hMod1 := hMod.below hb1
    have c0 : W1.cell? ⟨w.heap.size, 0, none⟩ = some (.int .i64 5) := by rw [cells_of_block nb1]; rfl
    have c1 : W1.cell? ⟨w.heap.size, 1, none⟩ = some (.int .i64 A) := by rw [cells_of_block nb1]; rfl
    have c2 : W1.cell? ⟨w.heap.size, 2, none⟩ = some (.int .i64 B) := by rw [cells_of_block nb1]; rfl
    have c3 : W1.cell? ⟨w.heap.size, 3, none⟩ = some (.slice sa dl sc) := by rw [cells_of_block nb1]; rfl
    have kh := heal_of hBag1
    have k2 : ∀ W2, Did W1 p m fv l (fun _ _ => false) N W2 → Hid (∃ u, W2.cell? ⟨q, 1, none⟩ = some u ∧ W2.frozen? ⟨q, 1, none⟩ = false ∧ ∃ l' ps', ASt n (W2.setCell ⟨q, 1, none⟩ (.slice none 0 0)) p m q l' ps' (N + 1) ∧ Below n w (W2.setCell ⟨q, 1, none⟩ (.slice none 0 0))) := fun W2 hD => by
      obtain ⟨fv2, d1, d2, d3⟩ := id hD
      have hM2 := hMod1.kept hBag1 d2
      have hm := hM2.storedP (Kept.refl _ _) (Rk.nil pairE W2 55) (fun k hk => by cases hk) (ps' := []) (by simp)
      obtain ⟨r1, r2⟩ := ASt.bagMod hn1 hBag1 hAn hMod1 hMn (ps' := []) (hD.more (by omega)) hm (by omega) (by simp)
      exact ⟨_, hM2.cells.2.1, hM2.cells.2.2 1, l, [], r1, (hb1.mono hn).trans r2⟩
    clear hBag1 hMod1 hBag hMod h nb1 hMn hAn
    go_wp2_with (go_at_call 20; refine kh.mono ?_; rintro e W2 ⟨rfl, hD⟩; obtain ⟨u2, z0, z1, hfin⟩ := (k2 W2 hD).out; have HF : Hid _ := hfin; clear hfin)
    go_ret
    exact ⟨rfl, HF.out⟩
end Go.Proofs.Ytjkjekhbfjjnjaa

