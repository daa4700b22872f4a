import Derived.Test.YtjkjekhbfjjnjaaHb31
import Derived.Laws.Cover1
/- The contract of the law's 'does': Drop. -/
namespace Go.Proofs.Ytjkjekhbfjjnjaa
open Go.RowKit Go.Maps
set_option maxRecDepth 100000
set_option linter.unusedSimpArgs false
set_option linter.unusedVariables false

set_option maxHeartbeats 8000000 in
theorem does_2 {n : Nat} {w : World} {p m q : Nat} {l : List Msg} {ps : List (Int × Int)} {N : Nat} (h : ASt n w p m q l ps N) (hn : n ≤ w.heap.size) (hN : N ≤ 1000) (A B : Int) (hAi : i64 A) (hBi : i64 B) (sa : Option Addr) (dl sc : Nat) :
    Calls Try.prog 9 #[.pointer (some ⟨p, 0, none⟩), .pointer (some ⟨q, 0, none⟩), .agg #[.int .i64 2, .int .i64 A, .int .i64 B, .slice sa dl sc]] w (DoesT n w p m q N) := by
  have a1 := (Below.refl w.heap.size w).alloc (Nat.le_refl _) (.cells #[.int .i64 2, .int .i64 A, .int .i64 B, .slice sa dl sc] 33)
  have nb := heap_alloc_new w (.cells #[.int .i64 2, .int .i64 A, .int .i64 B, .slice sa dl sc] 33)
  obtain ⟨lv, pv, hMod, hMn⟩ := h.mod
  obtain ⟨fv, hBag, hAn⟩ := h.bag
  have hlen := h.len
  have hlenp := h.lenp
  have q0 := (hMod.below a1).cells.1
  obtain ⟨al, cal, hlv, hlec, -⟩ := hMod.lrow.shape
  rw [hlv] at q0
  have b1 : (w.alloc (.cells #[.int .i64 2, .int .i64 A, .int .i64 B, .slice sa dl sc] 33)).cell? ⟨w.heap.size, 1, none⟩ = some (.int .i64 A) := by rw [cells_of_block nb]; rfl
  by_cases hlo : 0 ≤ A
  · have hlod : decide (0 ≤ A) = true := by simpa using hlo
    have hle0 : ¬ A < 0 := by omega
    by_cases hhi : A < (l.length : Int)
    · have hhid : decide (A < (l.length : Int)) = true := by simpa using hhi
      go_enter Try.func9, Try.ntmps9
      go_wp2
      go_quiet (fail)
      obtain ⟨W1, hW1⟩ : ∃ W1, W1 = (w.alloc (.cells #[.int .i64 2, .int .i64 A, .int .i64 B, .slice sa dl sc] 33)).drewN nq := ⟨_, rfl⟩
      rw [← hW1]
      have hb1 : Below w.heap.size w W1 := by rw [hW1]; exact below_drewN a1 nq
      have nb1 : W1.heap[w.heap.size]? = some (.cells #[.int .i64 2, .int .i64 A, .int .i64 B, .slice sa dl sc] 33 (0, 0)) := by rw [hW1]; exact nb
      clear hW1 nq a1 nb b1 q0
      have hn1 := Nat.le_trans hn hb1.size
      have hBag1 := hBag.below hb1
      have hMod1 := hMod.below hb1
      have c0 : W1.cell? ⟨w.heap.size, 0, none⟩ = some (.int .i64 2) := by rw [cells_of_block nb1]; rfl
      have c1 : W1.cell? ⟨w.heap.size, 1, none⟩ = some (.int .i64 A) := by rw [cells_of_block nb1]; rfl
      have c2 : W1.cell? ⟨w.heap.size, 2, none⟩ = some (.int .i64 B) := by rw [cells_of_block nb1]; rfl
      have c3 : W1.cell? ⟨w.heap.size, 3, none⟩ = some (.slice sa dl sc) := by rw [cells_of_block nb1]; rfl
      obtain ⟨j, hj⟩ : ∃ j : Nat, A = (j : Int) := ⟨A.toNat, by omega⟩
      have hjl : j < l.length := by omega
      obtain ⟨y, hy⟩ : ∃ y, l[j]? = some y := ⟨l[j], List.getElem?_eq_getElem hjl⟩
      have ko : Calls Try.prog 22 #[.pointer (some ⟨q, 0, none⟩), .int .i64 A] W1 _ := hj ▸ out_of hMod1 j hjl (by omega)
      have k2 : ∀ W2, MDid W1 q lv pv (l.eraseIdx j) ps W2 → Hid (W2.cell? ⟨w.heap.size, 1, none⟩ = some (.int .i64 A) ∧ Calls Try.prog 18 #[.pointer (some ⟨p, 0, none⟩), .int .i64 A] W2 (fun e W3 => e = .returned (.bool true) ∧ Hid (DoesT n w p m q N (.returned (.bool true)) W3))) := fun W2 hm => by
        obtain ⟨lv', pv', m1, m2, m3⟩ := id hm
        have hnot : ¬ MineM q lv pv w.heap.size := fun e => by have := hMod.lt _ e; omega
        have nb2 := (m2.block w.heap.size (Array.getElem?_eq_some_iff.1 nb1).1 hnot).trans nb1
        refine ⟨by rw [cells_of_block nb2]; rfl, ?_⟩
        rw [hj]
        refine (drop_yes (hBag1.kept hMod1 m2) j hjl (by omega)).mono ?_
        rintro e W3 ⟨rfl, hD3⟩
        obtain ⟨r1, r2⟩ := ASt.modBag hn1 hBag1 hAn hMod1 hMn hm (fun _ => hD3.more (by omega)) (by rw [List.length_eraseIdx_of_lt hjl]; omega) (by omega)
        exact ⟨rfl, rfl, _, _, r1, (hb1.mono hn).trans r2⟩
      clear hBag1 hMod1 hBag hMod h nb1 hMn hAn hy hj hhi hlo hle0
      generalize DoesT n w p m q N = T at *
      go_wp2_with (first | (go_at_call 22; refine ko.mono ?_; rintro e W2 ⟨rfl, hm⟩; obtain ⟨y1, kd⟩ := (k2 W2 hm).out) | (go_at_call 18; refine kd.mono ?_; rintro e W3 ⟨rfl, hT⟩))
      first | exact hT.out | (go_ret; exact hT.out)
    · have hhid : decide (A < (l.length : Int)) = false := by simpa using hhi
      have hout : ¬ (0 ≤ A ∧ A < (l.length : Int)) := fun e => hhi e.2
      go_enter Try.func9, Try.ntmps9
      go_wp2
      go_quiet (fail)
      obtain ⟨W1, hW1⟩ : ∃ W1, W1 = (w.alloc (.cells #[.int .i64 2, .int .i64 A, .int .i64 B, .slice sa dl sc] 33)).drewN nq := ⟨_, rfl⟩
      rw [← hW1]
      have hb1 : Below w.heap.size w W1 := by rw [hW1]; exact below_drewN a1 nq
      have nb1 : W1.heap[w.heap.size]? = some (.cells #[.int .i64 2, .int .i64 A, .int .i64 B, .slice sa dl sc] 33 (0, 0)) := by rw [hW1]; exact nb
      clear hW1 nq a1 nb b1 q0
      have hn1 := Nat.le_trans hn hb1.size
      have hBag1 := hBag.below hb1
      have hMod1 := hMod.below hb1
      have c0 : W1.cell? ⟨w.heap.size, 0, none⟩ = some (.int .i64 2) := by rw [cells_of_block nb1]; rfl
      have c1 : W1.cell? ⟨w.heap.size, 1, none⟩ = some (.int .i64 A) := by rw [cells_of_block nb1]; rfl
      have c2 : W1.cell? ⟨w.heap.size, 2, none⟩ = some (.int .i64 B) := by rw [cells_of_block nb1]; rfl
      have c3 : W1.cell? ⟨w.heap.size, 3, none⟩ = some (.slice sa dl sc) := by rw [cells_of_block nb1]; rfl
      have kd := drop_no hBag1 A hout
      have HF : Hid (DoesT n w p m q N (.returned (.bool true)) W1) := ⟨rfl, l, ps, (h.below hb1).more, hb1.mono hn⟩
      clear hBag1 hMod1 hBag hMod h nb1 hMn hAn hlo hout
      generalize DoesT n w p m q N = T at *
      go_wp2_with (go_at_call 18; refine kd.mono ?_; rintro e wq ⟨rfl, hwq⟩; rw [hwq]; clear hwq wq)
      first | exact HF.out | (go_ret; exact HF.out)
  · have hlod : decide (0 ≤ A) = false := by simpa using hlo
    have hout : ¬ (0 ≤ A ∧ A < (l.length : Int)) := fun e => hlo e.1
    go_enter Try.func9, Try.ntmps9
    go_wp2
    go_big_quiet (fail)
    obtain ⟨W1, hW1⟩ : ∃ W1, W1 = (w.alloc (.cells #[.int .i64 2, .int .i64 A, .int .i64 B, .slice sa dl sc] 33)).drewN nq := ⟨_, rfl⟩
    rw [← hW1]
    have hb1 : Below w.heap.size w W1 := by rw [hW1]; exact below_drewN a1 nq
    have nb1 : W1.heap[w.heap.size]? = some (.cells #[.int .i64 2, .int .i64 A, .int .i64 B, .slice sa dl sc] 33 (0, 0)) := by rw [hW1]; exact nb
    clear hW1 nq a1 nb b1 q0
    have hn1 := Nat.le_trans hn hb1.size
    have hBag1 := hBag.below hb1
    have hMod1 := hMod.below hb1
    have c0 : W1.cell? ⟨w.heap.size, 0, none⟩ = some (.int .i64 2) := by rw [cells_of_block nb1]; rfl
    have c1 : W1.cell? ⟨w.heap.size, 1, none⟩ = some (.int .i64 A) := by rw [cells_of_block nb1]; rfl
    have c2 : W1.cell? ⟨w.heap.size, 2, none⟩ = some (.int .i64 B) := by rw [cells_of_block nb1]; rfl
    have c3 : W1.cell? ⟨w.heap.size, 3, none⟩ = some (.slice sa dl sc) := by rw [cells_of_block nb1]; rfl
    have kd := drop_no hBag1 A hout
    have HF : Hid (DoesT n w p m q N (.returned (.bool true)) W1) := ⟨rfl, l, ps, (h.below hb1).more, hb1.mono hn⟩
    clear hBag1 hMod1 hBag hMod h nb1 hMn hAn hlo hout
    generalize DoesT n w p m q N = T at *
    go_wp2_with (go_at_call 18; refine kd.mono ?_; rintro e wq ⟨rfl, hwq⟩; rw [hwq]; clear hwq wq)
    first | exact HF.out | (go_ret; exact HF.out)
end Go.Proofs.Ytjkjekhbfjjnjaa

