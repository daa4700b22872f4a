import Derived.Test.YtfpbgfmnjpamlaaGreatHv05
/- The contract of the document's own Form. -/
namespace Go.Proofs.YtfpbgfmnjpamlaaGreat
open Go.RowKit SpanMath
set_option maxRecDepth 100000
set_option linter.unusedSimpArgs false
set_option linter.unusedVariables false

set_option maxHeartbeats 4000000 in
theorem refForm_of (l : List Sp) (lv : Value) (w : World) (hF : Sv w lv l) : Calls Tryz.prog 79 #[lv] w fun e w' => e = .returned (.bool (formB l)) ∧ Below w.heap.size w w' := by
 obtain ⟨ao, cap, rfl, h2⟩ := id hF
 obtain ⟨B, HB⟩ : ∃ B, Hid (B = formB l) := ⟨_, rfl⟩
 rw [← HB.out]
 by_cases hlen : 64 < l.length
 ·have E : Hid (B = false) := by show _ = _; rw [HB.out]; unfold formB; rw [decide_eq_false (by omega)]; rfl
  have hi : (64 : Int) < (l.length : Int) := by omega
  clear HB h2
  go_enter Tryz.func79, Tryz.ntmps79
  go_wp2
  go_ret
  exact ⟨by rw [E.out]; rfl, Below.refl _ _⟩
 ·have hi : ¬ (64 : Int) < (l.length : Int) := by omega
  go_enter Tryz.func79, Tryz.ntmps79
  go_wp2
  go_loopg [3] l.length (fun g s3 wr => ∃ i : Nat, i + g = l.length ∧ s3 = .int .i64 (i : Int) ∧ Below w.heap.size w wr ∧ Hid (Pre l i))
  case atStart => exact ⟨0, by simp, rfl, Below.refl _ _, ⟨by simp, by simp⟩⟩
  case round =>
   obtain ⟨i, hig, rfl, hb, HP⟩ := hrel
   by_cases hlt : i < l.length
   ·have hlti : (i : Int) < (l.length : Int) := by omega
    have hx : l[i]? = some l[i] := List.getElem?_eq_getElem hlt
    obtain ⟨b, off, rfl, d0, d1⟩ := h2 i l[i] hx
    obtain ⟨s, hs⟩ : ∃ s, s = l[i] := ⟨_, rfl⟩
    rw [← hs] at hx d0 d1
    have hxH : Hid (l[i]? = some s) := hx
    obtain ⟨s1, s2⟩ := s
    have cl : ∀ W, Below wr.heap.size wr W → W.cell? ⟨b, off + i * 2, none⟩ = some (.string (bk s1)) ∧ W.cell? ⟨b, off + i * 2 + 1, none⟩ = some (.string (bk s2)) := fun W hW =>
     ⟨((hb.trans (hW.mono hb.size)).cell (p := ⟨b, off + i * 2, none⟩) (World.block_lt_of_cell? w _ d0)).trans d0, ((hb.trans (hW.mono hb.size)).cell (p := ⟨b, off + i * 2 + 1, none⟩) (World.block_lt_of_cell? w _ d1)).trans d1⟩
    clear hx hs d0 d1
    go_wp2
    cases hm : may (s1, s2) with
    | false =>
     have E : Hid (B = false) := by show _ = _; rw [HB.out]; exact form_not (next_not hxH.out hm)
     have kc : ∀ W, (fun W => (W.cell? ⟨b, off + i * 2, none⟩ = some (.string (bk s1)) ∧ W.cell? ⟨b, off + i * 2 + 1, none⟩ = some (.string (bk s2))) ∧ Below wr.heap.size wr W) W → Calls Tryz.prog 55 #[.agg #[.string (bk s1), .string (bk s2)]] W fun e w' => e = .returned (.bool false) ∧ (fun W => (W.cell? ⟨b, off + i * 2, none⟩ = some (.string (bk s1)) ∧ W.cell? ⟨b, off + i * 2 + 1, none⟩ = some (.string (bk s2))) ∧ Below wr.heap.size wr W) w' := fun W hW => by
      refine (may_of (s1, s2) W).mono ?_
      rintro e w' ⟨rfl, hb'⟩
      exact ⟨by rw [hm], cl w' (keep_step hW.2 (Nat.le_refl _) hb'), keep_step hW.2 (Nat.le_refl _) hb'⟩
     have hS0 : (fun W => (W.cell? ⟨b, off + i * 2, none⟩ = some (.string (bk s1)) ∧ W.cell? ⟨b, off + i * 2 + 1, none⟩ = some (.string (bk s2))) ∧ Below wr.heap.size wr W) wr.drew := ⟨cl _ (Below.refl _ wr).drew, (Below.refl _ wr).drew⟩
     clear HB HP hm cl hxH h2 hF
     refine wp_region_L (fun W => (W.cell? ⟨b, off + i * 2, none⟩ = some (.string (bk s1)) ∧ W.cell? ⟨b, off + i * 2 + 1, none⟩ = some (.string (bk s2))) ∧ Below wr.heap.size wr W) [] (by kernel_rfl) ?_
     have yS : (fun W => (W.cell? ⟨b, off + i * 2, none⟩ = some (.string (bk s1)) ∧ W.cell? ⟨b, off + i * 2 + 1, none⟩ = some (.string (bk s2))) ∧ Below wr.heap.size wr W) wr.drew := hS0
     refine tkg 0 rfl (by intro w' hS'; obtain ⟨⟨x0, x1⟩, x2⟩ := hS'; go_simp <;> rfl) yS ?_
     try simp only [pa, pb, pc, Act.put, pd, pe, pf]
     refine tkg 1 rfl (by intro w' hS'; obtain ⟨⟨x0, x1⟩, x2⟩ := hS'; go_simp <;> rfl) yS ?_
     try simp only [pa, pb, pc, Act.put, pd, pe, pf]
     refine tkg 2 rfl (by intro w' hS'; obtain ⟨⟨x0, x1⟩, x2⟩ := hS'; go_simp <;> rfl) yS ?_
     try simp only [pa, pb, pc, Act.put, pd, pe, pf]
     refine tkg 3 rfl (by intro w' hS'; obtain ⟨⟨x0, x1⟩, x2⟩ := hS'; go_simp <;> rfl) yS ?_
     try simp only [pa, pb, pc, Act.put, pd, pe, pf]
     refine wpAnyL_one 4 (by kernel_rfl) rfl (by kernel_rfl) ?_
     intro K' hK'
     go_simp
     go_at_call 55
     refine (kc _ yS).mono ?_
     rintro e W1 ⟨rfl, hS1⟩
     refine hK'.out _ _ (.inr hS1) ?_
     clear hK' K'
     try simp only [pa, pb, pc, Act.put, pd, pe, pf]
     refine tkg 5 rfl (by intro w' hS'; obtain ⟨⟨x0, x1⟩, x2⟩ := hS'; go_simp <;> rfl) hS1 ?_
     try simp only [pa, pb, pc, Act.put, pd, pe, pf]
     refine tkg 6 rfl (by intro w' hS'; obtain ⟨⟨x0, x1⟩, x2⟩ := hS'; go_simp <;> rfl) hS1 ?_
     try simp only [pa, pb, pc, Act.put, pd, pe, pf]
     refine skg 7 rfl hS1 ?_
     try simp only [pa, pb, pc, Act.put, pd, pe, pf]
     refine skg 8 rfl hS1 ?_
     try simp only [pa, pb, pc, Act.put, pd, pe, pf]
     refine skg 9 rfl hS1 ?_
     try simp only [pa, pb, pc, Act.put, pd, pe, pf]
     refine skg 10 rfl hS1 ?_
     try simp only [pa, pb, pc, Act.put, pd, pe, pf]
     refine skg 11 rfl hS1 ?_
     try simp only [pa, pb, pc, Act.put, pd, pe, pf]
     refine skg 12 rfl hS1 ?_
     try simp only [pa, pb, pc, Act.put, pd, pe, pf]
     refine skg 13 rfl hS1 ?_
     try simp only [pa, pb, pc, Act.put, pd, pe, pf]
     refine skg 14 rfl hS1 ?_
     try simp only [pa, pb, pc, Act.put, pd, pe, pf]
     refine skg 15 rfl hS1 ?_
     try simp only [pa, pb, pc, Act.put, pd, pe, pf]
     refine skg 16 rfl hS1 ?_
     try simp only [pa, pb, pc, Act.put, pd, pe, pf]
     refine skg 17 rfl hS1 ?_
     try simp only [pa, pb, pc, Act.put, pd, pe, pf]
     refine skg 18 rfl hS1 ?_
     try simp only [pa, pb, pc, Act.put, pd, pe, pf]
     refine skg 19 rfl hS1 ?_
     try simp only [pa, pb, pc, Act.put, pd, pe, pf]
     refine skg 20 rfl hS1 ?_
     try simp only [pa, pb, pc, Act.put, pd, pe, pf]
     refine skg 21 rfl hS1 ?_
     try simp only [pa, pb, pc, Act.put, pd, pe, pf]
     refine skg 22 rfl hS1 ?_
     try simp only [pa, pb, pc, Act.put, pd, pe, pf]
     refine skg 23 rfl hS1 ?_
     try simp only [pa, pb, pc, Act.put, pd, pe, pf]
     refine skg 24 rfl hS1 ?_
     try simp only [pa, pb, pc, Act.put, pd, pe, pf]
     refine skg 25 rfl hS1 ?_
     try simp only [pa, pb, pc, Act.put, pd, pe, pf]
     refine skg 26 rfl hS1 ?_
     try simp only [pa, pb, pc, Act.put, pd, pe, pf]
     refine skg 27 rfl hS1 ?_
     try simp only [pa, pb, pc, Act.put, pd, pe, pf]
     refine skg 28 rfl hS1 ?_
     try simp only [pa, pb, pc, Act.put, pd, pe, pf]
     refine skg 29 rfl hS1 ?_
     try simp only [pa, pb, pc, Act.put, pd, pe, pf]
     refine skg 30 rfl hS1 ?_
     try simp only [pa, pb, pc, Act.put, pd, pe, pf]
     refine skg 31 rfl hS1 ?_
     try simp only [pa, pb, pc, Act.put, pd, pe, pf]
     refine tkg 32 rfl (by intro w' hS'; obtain ⟨⟨x0, x1⟩, x2⟩ := hS'; go_simp <;> rfl) hS1 ?_
     try simp only [pa, pb, pc, Act.put, pd, pe, pf]
     refine wpAnyL_done (by kernel_rfl) (NoPanic.normal ?_) _
     go_wp2
     go_ret
     exact ⟨by rw [E.out]; rfl, hb.trans (hS1.2.mono hb.size)⟩
    | true =>
     by_cases hi0 : i = 0
     ·have HN : Hid (Pre l (i + 1)) := form_next HP.out (by subst hi0; exact next_first hxH.out hm)
      subst hi0
      replace cl : ∀ W, Below wr.heap.size wr W → W.cell? ⟨b, off, none⟩ = some (.string (bk s1)) ∧ W.cell? ⟨b, off + 1, none⟩ = some (.string (bk s2)) := fun W hW => by simpa using cl W hW
      have kc : ∀ W, (fun W => (W.cell? ⟨b, off, none⟩ = some (.string (bk s1)) ∧ W.cell? ⟨b, off + 1, none⟩ = some (.string (bk s2))) ∧ Below wr.heap.size wr W) W → Calls Tryz.prog 55 #[.agg #[.string (bk s1), .string (bk s2)]] W fun e w' => e = .returned (.bool true) ∧ (fun W => (W.cell? ⟨b, off, none⟩ = some (.string (bk s1)) ∧ W.cell? ⟨b, off + 1, none⟩ = some (.string (bk s2))) ∧ Below wr.heap.size wr W) w' := fun W hW => by
       refine (may_of (s1, s2) W).mono ?_
       rintro e w' ⟨rfl, hb'⟩
       exact ⟨by rw [hm], cl w' (keep_step hW.2 (Nat.le_refl _) hb'), keep_step hW.2 (Nat.le_refl _) hb'⟩
      have hS0 : (fun W => (W.cell? ⟨b, off, none⟩ = some (.string (bk s1)) ∧ W.cell? ⟨b, off + 1, none⟩ = some (.string (bk s2))) ∧ Below wr.heap.size wr W) wr.drew := ⟨cl _ (Below.refl _ wr).drew, (Below.refl _ wr).drew⟩
      clear HB HP hm cl hxH h2 hF
      refine wp_region_L (fun W => (W.cell? ⟨b, off, none⟩ = some (.string (bk s1)) ∧ W.cell? ⟨b, off + 1, none⟩ = some (.string (bk s2))) ∧ Below wr.heap.size wr W) [] (by kernel_rfl) ?_
      have yS : (fun W => (W.cell? ⟨b, off, none⟩ = some (.string (bk s1)) ∧ W.cell? ⟨b, off + 1, none⟩ = some (.string (bk s2))) ∧ Below wr.heap.size wr W) wr.drew := hS0
      refine tkg 0 rfl (by intro w' hS'; obtain ⟨⟨x0, x1⟩, x2⟩ := hS'; go_simp <;> rfl) yS ?_
      try simp only [pa, pb, pc, Act.put, pd, pe, pf]
      refine tkg 1 rfl (by intro w' hS'; obtain ⟨⟨x0, x1⟩, x2⟩ := hS'; go_simp <;> rfl) yS ?_
      try simp only [pa, pb, pc, Act.put, pd, pe, pf]
      refine tkg 2 rfl (by intro w' hS'; obtain ⟨⟨x0, x1⟩, x2⟩ := hS'; go_simp <;> rfl) yS ?_
      try simp only [pa, pb, pc, Act.put, pd, pe, pf]
      refine tkg 3 rfl (by intro w' hS'; obtain ⟨⟨x0, x1⟩, x2⟩ := hS'; go_simp <;> rfl) yS ?_
      try simp only [pa, pb, pc, Act.put, pd, pe, pf]
      refine wpAnyL_one 4 (by kernel_rfl) rfl (by kernel_rfl) ?_
      intro K' hK'
      go_simp
      go_at_call 55
      refine (kc _ yS).mono ?_
      rintro e W1 ⟨rfl, hS1⟩
      refine hK'.out _ _ (.inr hS1) ?_
      clear hK' K'
      try simp only [pa, pb, pc, Act.put, pd, pe, pf]
      refine tkg 5 rfl (by intro w' hS'; obtain ⟨⟨x0, x1⟩, x2⟩ := hS'; go_simp <;> rfl) hS1 ?_
      try simp only [pa, pb, pc, Act.put, pd, pe, pf]
      refine tkg 6 rfl (by intro w' hS'; obtain ⟨⟨x0, x1⟩, x2⟩ := hS'; go_simp <;> rfl) hS1 ?_
      try simp only [pa, pb, pc, Act.put, pd, pe, pf]
      refine tkg 7 rfl (by intro w' hS'; obtain ⟨⟨x0, x1⟩, x2⟩ := hS'; go_simp <;> rfl) hS1 ?_
      try simp only [pa, pb, pc, Act.put, pd, pe, pf]
      refine tkg 8 rfl (by intro w' hS'; obtain ⟨⟨x0, x1⟩, x2⟩ := hS'; go_simp <;> rfl) hS1 ?_
      try simp only [pa, pb, pc, Act.put, pd, pe, pf]
      refine tkg 9 rfl (by intro w' hS'; obtain ⟨⟨x0, x1⟩, x2⟩ := hS'; go_simp <;> rfl) hS1 ?_
      try simp only [pa, pb, pc, Act.put, pd, pe, pf]
      refine skg 10 rfl hS1 ?_
      try simp only [pa, pb, pc, Act.put, pd, pe, pf]
      refine skg 11 rfl hS1 ?_
      try simp only [pa, pb, pc, Act.put, pd, pe, pf]
      refine skg 12 rfl hS1 ?_
      try simp only [pa, pb, pc, Act.put, pd, pe, pf]
      refine skg 13 rfl hS1 ?_
      try simp only [pa, pb, pc, Act.put, pd, pe, pf]
      refine skg 14 rfl hS1 ?_
      try simp only [pa, pb, pc, Act.put, pd, pe, pf]
      refine skg 15 rfl hS1 ?_
      try simp only [pa, pb, pc, Act.put, pd, pe, pf]
      refine skg 16 rfl hS1 ?_
      try simp only [pa, pb, pc, Act.put, pd, pe, pf]
      refine skg 17 rfl hS1 ?_
      try simp only [pa, pb, pc, Act.put, pd, pe, pf]
      refine skg 18 rfl hS1 ?_
      try simp only [pa, pb, pc, Act.put, pd, pe, pf]
      refine skg 19 rfl hS1 ?_
      try simp only [pa, pb, pc, Act.put, pd, pe, pf]
      refine skg 20 rfl hS1 ?_
      try simp only [pa, pb, pc, Act.put, pd, pe, pf]
      refine skg 21 rfl hS1 ?_
      try simp only [pa, pb, pc, Act.put, pd, pe, pf]
      refine skg 22 rfl hS1 ?_
      try simp only [pa, pb, pc, Act.put, pd, pe, pf]
      refine skg 23 rfl hS1 ?_
      try simp only [pa, pb, pc, Act.put, pd, pe, pf]
      refine skg 24 rfl hS1 ?_
      try simp only [pa, pb, pc, Act.put, pd, pe, pf]
      refine skg 25 rfl hS1 ?_
      try simp only [pa, pb, pc, Act.put, pd, pe, pf]
      refine skg 26 rfl hS1 ?_
      try simp only [pa, pb, pc, Act.put, pd, pe, pf]
      refine skg 27 rfl hS1 ?_
      try simp only [pa, pb, pc, Act.put, pd, pe, pf]
      refine skg 28 rfl hS1 ?_
      try simp only [pa, pb, pc, Act.put, pd, pe, pf]
      refine skg 29 rfl hS1 ?_
      try simp only [pa, pb, pc, Act.put, pd, pe, pf]
      refine skg 30 rfl hS1 ?_
      try simp only [pa, pb, pc, Act.put, pd, pe, pf]
      refine tkg 31 rfl (by intro w' hS'; obtain ⟨⟨x0, x1⟩, x2⟩ := hS'; go_simp <;> rfl) hS1 ?_
      try simp only [pa, pb, pc, Act.put, pd, pe, pf]
      refine tkg 32 rfl (by intro w' hS'; obtain ⟨⟨x0, x1⟩, x2⟩ := hS'; go_simp <;> rfl) hS1 ?_
      try simp only [pa, pb, pc, Act.put, pd, pe, pf]
      refine wpAnyL_done (by kernel_rfl) (NoPanic.normal ?_) _
      go_wp2
      go_roundg (gk - 1)
      case measure => omega
      case rel => exact ⟨0 + 1, by omega, by go_num, hb.trans (hS1.2.mono hb.size), HN⟩
     ·have hi0i : (0 : Int) < (i : Int) := by omega
      have hi0n : 0 < i := by omega
      have hi1 : (1 : Int) ≤ (i : Int) := by omega
      have hi1n : 1 ≤ i := by omega
      have hr : l[i - 1]? = some l[i - 1] := List.getElem?_eq_getElem (by omega)
      obtain ⟨b', off', e', d0, d1⟩ := h2 (i - 1) l[i - 1] hr
      cases e'
      obtain ⟨r, hr'⟩ : ∃ r, r = l[i - 1] := ⟨_, rfl⟩
      rw [← hr'] at hr d0 d1
      obtain ⟨r1, r2⟩ := r
      have hrH : Hid (l[i - 1]? = some (r1, r2)) := hr
      clear hr hr'
      have cl2 : ∀ W, Below wr.heap.size wr W → W.cell? ⟨b, off + (i - 1) * 2, none⟩ = some (.string (bk r1)) ∧ W.cell? ⟨b, off + (i - 1) * 2 + 1, none⟩ = some (.string (bk r2)) := fun W hW =>
       ⟨((hb.trans (hW.mono hb.size)).cell (p := ⟨b, off + (i - 1) * 2, none⟩) (World.block_lt_of_cell? w _ d0)).trans d0, ((hb.trans (hW.mono hb.size)).cell (p := ⟨b, off + (i - 1) * 2 + 1, none⟩) (World.block_lt_of_cell? w _ d1)).trans d1⟩
      replace cl : ∀ W, Below wr.heap.size wr W → W.cell? ⟨b, off + i * 2, none⟩ = some (.string (bk s1)) ∧ W.cell? ⟨b, off + i * 2 + 1, none⟩ = some (.string (bk s2)) ∧ W.cell? ⟨b, off + (i - 1) * 2, none⟩ = some (.string (bk r1)) ∧ W.cell? ⟨b, off + (i - 1) * 2 + 1, none⟩ = some (.string (bk r2)) := fun W hW => ⟨(cl W hW).1, (cl W hW).2, (cl2 W hW).1, (cl2 W hW).2⟩
      have i1 : IntKind.i64.wrap ((i : Int) - 1) = (i : Int) - 1 := IntWalk.i64_in _ (by omega)
      have i2 : (0 : Int) ≤ (i : Int) - 1 := by omega
      have i3 : (i : Int) - 1 < (l.length : Int) := by omega
      have i4 : ((i : Int) - 1).toNat = i - 1 := by omega
      clear cl2 d0 d1
      have kc : ∀ W, (fun W => (W.cell? ⟨b, off + i * 2, none⟩ = some (.string (bk s1)) ∧ W.cell? ⟨b, off + i * 2 + 1, none⟩ = some (.string (bk s2)) ∧ W.cell? ⟨b, off + (i - 1) * 2, none⟩ = some (.string (bk r1)) ∧ W.cell? ⟨b, off + (i - 1) * 2 + 1, none⟩ = some (.string (bk r2))) ∧ Below wr.heap.size wr W) W → Calls Tryz.prog 55 #[.agg #[.string (bk s1), .string (bk s2)]] W fun e w' => e = .returned (.bool true) ∧ (fun W => (W.cell? ⟨b, off + i * 2, none⟩ = some (.string (bk s1)) ∧ W.cell? ⟨b, off + i * 2 + 1, none⟩ = some (.string (bk s2)) ∧ W.cell? ⟨b, off + (i - 1) * 2, none⟩ = some (.string (bk r1)) ∧ W.cell? ⟨b, off + (i - 1) * 2 + 1, none⟩ = some (.string (bk r2))) ∧ Below wr.heap.size wr W) w' := fun W hW => by
       refine (may_of (s1, s2) W).mono ?_
       rintro e w' ⟨rfl, hb'⟩
       exact ⟨by rw [hm], cl w' (keep_step hW.2 (Nat.le_refl _) hb'), keep_step hW.2 (Nat.le_refl _) hb'⟩
      have hS0 : (fun W => (W.cell? ⟨b, off + i * 2, none⟩ = some (.string (bk s1)) ∧ W.cell? ⟨b, off + i * 2 + 1, none⟩ = some (.string (bk s2)) ∧ W.cell? ⟨b, off + (i - 1) * 2, none⟩ = some (.string (bk r1)) ∧ W.cell? ⟨b, off + (i - 1) * 2 + 1, none⟩ = some (.string (bk r2))) ∧ Below wr.heap.size wr W) wr.drew := ⟨cl _ (Below.refl _ wr).drew, (Below.refl _ wr).drew⟩
      by_cases hr2 : r2 = []
      ·have E : Hid (B = false) := by show _ = _; rw [HB.out]; exact form_not (next_not2 (by omega) hxH.out hrH.out (by simp [apt, hr2]))
       have dr : decide (r2 = []) = true := by simpa using hr2
       clear HB HP hm cl hxH hrH h2 hF hi0 hr2
       refine wp_region_L (fun W => (W.cell? ⟨b, off + i * 2, none⟩ = some (.string (bk s1)) ∧ W.cell? ⟨b, off + i * 2 + 1, none⟩ = some (.string (bk s2)) ∧ W.cell? ⟨b, off + (i - 1) * 2, none⟩ = some (.string (bk r1)) ∧ W.cell? ⟨b, off + (i - 1) * 2 + 1, none⟩ = some (.string (bk r2))) ∧ Below wr.heap.size wr W) [] (by kernel_rfl) ?_
       have yS : (fun W => (W.cell? ⟨b, off + i * 2, none⟩ = some (.string (bk s1)) ∧ W.cell? ⟨b, off + i * 2 + 1, none⟩ = some (.string (bk s2)) ∧ W.cell? ⟨b, off + (i - 1) * 2, none⟩ = some (.string (bk r1)) ∧ W.cell? ⟨b, off + (i - 1) * 2 + 1, none⟩ = some (.string (bk r2))) ∧ Below wr.heap.size wr W) wr.drew := hS0
       refine tkg 0 rfl (by intro w' hS'; obtain ⟨⟨x0, x1, x3, x4⟩, x2⟩ := hS'; go_simp <;> rfl) yS ?_
       try simp only [pa, pb, pc, Act.put, pd, pe, pf]
       refine tkg 1 rfl (by intro w' hS'; obtain ⟨⟨x0, x1, x3, x4⟩, x2⟩ := hS'; go_simp <;> rfl) yS ?_
       try simp only [pa, pb, pc, Act.put, pd, pe, pf]
       refine tkg 2 rfl (by intro w' hS'; obtain ⟨⟨x0, x1, x3, x4⟩, x2⟩ := hS'; go_simp <;> rfl) yS ?_
       try simp only [pa, pb, pc, Act.put, pd, pe, pf]
       refine tkg 3 rfl (by intro w' hS'; obtain ⟨⟨x0, x1, x3, x4⟩, x2⟩ := hS'; go_simp <;> rfl) yS ?_
       try simp only [pa, pb, pc, Act.put, pd, pe, pf]
       refine wpAnyL_one 4 (by kernel_rfl) rfl (by kernel_rfl) ?_
       intro K' hK'
       go_simp
       go_at_call 55
       refine (kc _ yS).mono ?_
       rintro e W1 ⟨rfl, hS1⟩
       refine hK'.out _ _ (.inr hS1) ?_
       clear hK' K'
       try simp only [pa, pb, pc, Act.put, pd, pe, pf]
       refine tkg 5 rfl (by intro w' hS'; obtain ⟨⟨x0, x1, x3, x4⟩, x2⟩ := hS'; go_simp <;> rfl) hS1 ?_
       try simp only [pa, pb, pc, Act.put, pd, pe, pf]
       refine tkg 6 rfl (by intro w' hS'; obtain ⟨⟨x0, x1, x3, x4⟩, x2⟩ := hS'; go_simp <;> rfl) hS1 ?_
       try simp only [pa, pb, pc, Act.put, pd, pe, pf]
       refine tkg 7 rfl (by intro w' hS'; obtain ⟨⟨x0, x1, x3, x4⟩, x2⟩ := hS'; go_simp <;> rfl) hS1 ?_
       try simp only [pa, pb, pc, Act.put, pd, pe, pf]
       refine tkg 8 rfl (by intro w' hS'; obtain ⟨⟨x0, x1, x3, x4⟩, x2⟩ := hS'; go_simp <;> rfl) hS1 ?_
       try simp only [pa, pb, pc, Act.put, pd, pe, pf]
       refine tkg 9 rfl (by intro w' hS'; obtain ⟨⟨x0, x1, x3, x4⟩, x2⟩ := hS'; go_simp <;> rfl) hS1 ?_
       try simp only [pa, pb, pc, Act.put, pd, pe, pf]
       refine tkg 10 rfl (by intro w' hS'; obtain ⟨⟨x0, x1, x3, x4⟩, x2⟩ := hS'; go_simp <;> rfl) hS1 ?_
       try simp only [pa, pb, pc, Act.put, pd, pe, pf]
       refine tkg 11 rfl (by intro w' hS'; obtain ⟨⟨x0, x1, x3, x4⟩, x2⟩ := hS'; go_simp <;> rfl) hS1 ?_
       try simp only [pa, pb, pc, Act.put, pd, pe, pf]
       refine tkg 12 rfl (by intro w' hS'; obtain ⟨⟨x0, x1, x3, x4⟩, x2⟩ := hS'; go_simp <;> rfl) hS1 ?_
       try simp only [pa, pb, pc, Act.put, pd, pe, pf]
       refine tkg 13 rfl (by intro w' hS'; obtain ⟨⟨x0, x1, x3, x4⟩, x2⟩ := hS'; go_simp <;> rfl) hS1 ?_
       try simp only [pa, pb, pc, Act.put, pd, pe, pf]
       refine tkg 14 rfl (by intro w' hS'; obtain ⟨⟨x0, x1, x3, x4⟩, x2⟩ := hS'; go_simp <;> rfl) hS1 ?_
       try simp only [pa, pb, pc, Act.put, pd, pe, pf]
       refine tkg 15 rfl (by intro w' hS'; obtain ⟨⟨x0, x1, x3, x4⟩, x2⟩ := hS'; go_simp <;> rfl) hS1 ?_
       try simp only [pa, pb, pc, Act.put, pd, pe, pf]
       refine tkg 16 rfl (by intro w' hS'; obtain ⟨⟨x0, x1, x3, x4⟩, x2⟩ := hS'; go_simp <;> rfl) hS1 ?_
       try simp only [pa, pb, pc, Act.put, pd, pe, pf]
       refine tkg 17 rfl (by intro w' hS'; obtain ⟨⟨x0, x1, x3, x4⟩, x2⟩ := hS'; go_simp <;> rfl) hS1 ?_
       try simp only [pa, pb, pc, Act.put, pd, pe, pf]
       refine skg 18 rfl hS1 ?_
       try simp only [pa, pb, pc, Act.put, pd, pe, pf]
       refine skg 19 rfl hS1 ?_
       try simp only [pa, pb, pc, Act.put, pd, pe, pf]
       refine skg 20 rfl hS1 ?_
       try simp only [pa, pb, pc, Act.put, pd, pe, pf]
       refine skg 21 rfl hS1 ?_
       try simp only [pa, pb, pc, Act.put, pd, pe, pf]
       refine skg 22 rfl hS1 ?_
       try simp only [pa, pb, pc, Act.put, pd, pe, pf]
       refine skg 23 rfl hS1 ?_
       try simp only [pa, pb, pc, Act.put, pd, pe, pf]
       refine skg 24 rfl hS1 ?_
       try simp only [pa, pb, pc, Act.put, pd, pe, pf]
       refine skg 25 rfl hS1 ?_
       try simp only [pa, pb, pc, Act.put, pd, pe, pf]
       refine skg 26 rfl hS1 ?_
       try simp only [pa, pb, pc, Act.put, pd, pe, pf]
       refine skg 27 rfl hS1 ?_
       try simp only [pa, pb, pc, Act.put, pd, pe, pf]
       refine skg 28 rfl hS1 ?_
       try simp only [pa, pb, pc, Act.put, pd, pe, pf]
       refine skg 29 rfl hS1 ?_
       try simp only [pa, pb, pc, Act.put, pd, pe, pf]
       refine tkg 30 rfl (by intro w' hS'; obtain ⟨⟨x0, x1, x3, x4⟩, x2⟩ := hS'; go_simp <;> rfl) hS1 ?_
       try simp only [pa, pb, pc, Act.put, pd, pe, pf]
       refine tkg 31 rfl (by intro w' hS'; obtain ⟨⟨x0, x1, x3, x4⟩, x2⟩ := hS'; go_simp <;> rfl) hS1 ?_
       try simp only [pa, pb, pc, Act.put, pd, pe, pf]
       refine tkg 32 rfl (by intro w' hS'; obtain ⟨⟨x0, x1, x3, x4⟩, x2⟩ := hS'; go_simp <;> rfl) hS1 ?_
       try simp only [pa, pb, pc, Act.put, pd, pe, pf]
       refine wpAnyL_done (by kernel_rfl) (NoPanic.normal ?_) _
       go_wp2
       go_ret
       exact ⟨by rw [E.out]; rfl, hb.trans (hS1.2.mono hb.size)⟩
      ·have dr : decide (r2 = []) = false := by simpa using hr2
       by_cases hsr : s1 ≤ r2
       ·have E : Hid (B = false) := by show _ = _; rw [HB.out]; exact form_not (next_not2 (by omega) hxH.out hrH.out (by unfold apt; rw [decide_eq_false]; simp only; grind))
        have ds : decide (s1 ≤ r2) = true := by simpa using hsr
        clear HB HP hm cl hxH hrH h2 hF hi0 hr2 hsr
        refine wp_region_L (fun W => (W.cell? ⟨b, off + i * 2, none⟩ = some (.string (bk s1)) ∧ W.cell? ⟨b, off + i * 2 + 1, none⟩ = some (.string (bk s2)) ∧ W.cell? ⟨b, off + (i - 1) * 2, none⟩ = some (.string (bk r1)) ∧ W.cell? ⟨b, off + (i - 1) * 2 + 1, none⟩ = some (.string (bk r2))) ∧ Below wr.heap.size wr W) [] (by kernel_rfl) ?_
        have yS : (fun W => (W.cell? ⟨b, off + i * 2, none⟩ = some (.string (bk s1)) ∧ W.cell? ⟨b, off + i * 2 + 1, none⟩ = some (.string (bk s2)) ∧ W.cell? ⟨b, off + (i - 1) * 2, none⟩ = some (.string (bk r1)) ∧ W.cell? ⟨b, off + (i - 1) * 2 + 1, none⟩ = some (.string (bk r2))) ∧ Below wr.heap.size wr W) wr.drew := hS0
        refine tkg 0 rfl (by intro w' hS'; obtain ⟨⟨x0, x1, x3, x4⟩, x2⟩ := hS'; go_simp <;> rfl) yS ?_
        try simp only [pa, pb, pc, Act.put, pd, pe, pf]
        refine tkg 1 rfl (by intro w' hS'; obtain ⟨⟨x0, x1, x3, x4⟩, x2⟩ := hS'; go_simp <;> rfl) yS ?_
        try simp only [pa, pb, pc, Act.put, pd, pe, pf]
        refine tkg 2 rfl (by intro w' hS'; obtain ⟨⟨x0, x1, x3, x4⟩, x2⟩ := hS'; go_simp <;> rfl) yS ?_
        try simp only [pa, pb, pc, Act.put, pd, pe, pf]
        refine tkg 3 rfl (by intro w' hS'; obtain ⟨⟨x0, x1, x3, x4⟩, x2⟩ := hS'; go_simp <;> rfl) yS ?_
        try simp only [pa, pb, pc, Act.put, pd, pe, pf]
        refine wpAnyL_one 4 (by kernel_rfl) rfl (by kernel_rfl) ?_
        intro K' hK'
        go_simp
        go_at_call 55
        refine (kc _ yS).mono ?_
        rintro e W1 ⟨rfl, hS1⟩
        refine hK'.out _ _ (.inr hS1) ?_
        clear hK' K'
        try simp only [pa, pb, pc, Act.put, pd, pe, pf]
        refine tkg 5 rfl (by intro w' hS'; obtain ⟨⟨x0, x1, x3, x4⟩, x2⟩ := hS'; go_simp <;> rfl) hS1 ?_
        try simp only [pa, pb, pc, Act.put, pd, pe, pf]
        refine tkg 6 rfl (by intro w' hS'; obtain ⟨⟨x0, x1, x3, x4⟩, x2⟩ := hS'; go_simp <;> rfl) hS1 ?_
        try simp only [pa, pb, pc, Act.put, pd, pe, pf]
        refine tkg 7 rfl (by intro w' hS'; obtain ⟨⟨x0, x1, x3, x4⟩, x2⟩ := hS'; go_simp <;> rfl) hS1 ?_
        try simp only [pa, pb, pc, Act.put, pd, pe, pf]
        refine tkg 8 rfl (by intro w' hS'; obtain ⟨⟨x0, x1, x3, x4⟩, x2⟩ := hS'; go_simp <;> rfl) hS1 ?_
        try simp only [pa, pb, pc, Act.put, pd, pe, pf]
        refine tkg 9 rfl (by intro w' hS'; obtain ⟨⟨x0, x1, x3, x4⟩, x2⟩ := hS'; go_simp <;> rfl) hS1 ?_
        try simp only [pa, pb, pc, Act.put, pd, pe, pf]
        refine tkg 10 rfl (by intro w' hS'; obtain ⟨⟨x0, x1, x3, x4⟩, x2⟩ := hS'; go_simp <;> rfl) hS1 ?_
        try simp only [pa, pb, pc, Act.put, pd, pe, pf]
        refine tkg 11 rfl (by intro w' hS'; obtain ⟨⟨x0, x1, x3, x4⟩, x2⟩ := hS'; go_simp <;> rfl) hS1 ?_
        try simp only [pa, pb, pc, Act.put, pd, pe, pf]
        refine tkg 12 rfl (by intro w' hS'; obtain ⟨⟨x0, x1, x3, x4⟩, x2⟩ := hS'; go_simp <;> rfl) hS1 ?_
        try simp only [pa, pb, pc, Act.put, pd, pe, pf]
        refine tkg 13 rfl (by intro w' hS'; obtain ⟨⟨x0, x1, x3, x4⟩, x2⟩ := hS'; go_simp <;> rfl) hS1 ?_
        try simp only [pa, pb, pc, Act.put, pd, pe, pf]
        refine tkg 14 rfl (by intro w' hS'; obtain ⟨⟨x0, x1, x3, x4⟩, x2⟩ := hS'; go_simp <;> rfl) hS1 ?_
        try simp only [pa, pb, pc, Act.put, pd, pe, pf]
        refine tkg 15 rfl (by intro w' hS'; obtain ⟨⟨x0, x1, x3, x4⟩, x2⟩ := hS'; go_simp <;> rfl) hS1 ?_
        try simp only [pa, pb, pc, Act.put, pd, pe, pf]
        refine tkg 16 rfl (by intro w' hS'; obtain ⟨⟨x0, x1, x3, x4⟩, x2⟩ := hS'; go_simp <;> rfl) hS1 ?_
        try simp only [pa, pb, pc, Act.put, pd, pe, pf]
        refine tkg 17 rfl (by intro w' hS'; obtain ⟨⟨x0, x1, x3, x4⟩, x2⟩ := hS'; go_simp <;> rfl) hS1 ?_
        try simp only [pa, pb, pc, Act.put, pd, pe, pf]
        refine tkg 18 rfl (by intro w' hS'; obtain ⟨⟨x0, x1, x3, x4⟩, x2⟩ := hS'; go_simp <;> rfl) hS1 ?_
        try simp only [pa, pb, pc, Act.put, pd, pe, pf]
        refine tkg 19 rfl (by intro w' hS'; obtain ⟨⟨x0, x1, x3, x4⟩, x2⟩ := hS'; go_simp <;> rfl) hS1 ?_
        try simp only [pa, pb, pc, Act.put, pd, pe, pf]
        refine tkg 20 rfl (by intro w' hS'; obtain ⟨⟨x0, x1, x3, x4⟩, x2⟩ := hS'; go_simp <;> rfl) hS1 ?_
        try simp only [pa, pb, pc, Act.put, pd, pe, pf]
        refine tkg 21 rfl (by intro w' hS'; obtain ⟨⟨x0, x1, x3, x4⟩, x2⟩ := hS'; go_simp <;> rfl) hS1 ?_
        try simp only [pa, pb, pc, Act.put, pd, pe, pf]
        refine tkg 22 rfl (by intro w' hS'; obtain ⟨⟨x0, x1, x3, x4⟩, x2⟩ := hS'; go_simp <;> rfl) hS1 ?_
        try simp only [pa, pb, pc, Act.put, pd, pe, pf]
        refine tkg 23 rfl (by intro w' hS'; obtain ⟨⟨x0, x1, x3, x4⟩, x2⟩ := hS'; go_simp <;> rfl) hS1 ?_
        try simp only [pa, pb, pc, Act.put, pd, pe, pf]
        refine tkg 24 rfl (by intro w' hS'; obtain ⟨⟨x0, x1, x3, x4⟩, x2⟩ := hS'; go_simp <;> rfl) hS1 ?_
        try simp only [pa, pb, pc, Act.put, pd, pe, pf]
        refine tkg 25 rfl (by intro w' hS'; obtain ⟨⟨x0, x1, x3, x4⟩, x2⟩ := hS'; go_simp <;> rfl) hS1 ?_
        try simp only [pa, pb, pc, Act.put, pd, pe, pf]
        refine tkg 26 rfl (by intro w' hS'; obtain ⟨⟨x0, x1, x3, x4⟩, x2⟩ := hS'; go_simp <;> rfl) hS1 ?_
        try simp only [pa, pb, pc, Act.put, pd, pe, pf]
        refine tkg 27 rfl (by intro w' hS'; obtain ⟨⟨x0, x1, x3, x4⟩, x2⟩ := hS'; go_simp <;> rfl) hS1 ?_
        try simp only [pa, pb, pc, Act.put, pd, pe, pf]
        refine tkg 28 rfl (by intro w' hS'; obtain ⟨⟨x0, x1, x3, x4⟩, x2⟩ := hS'; go_simp <;> rfl) hS1 ?_
        try simp only [pa, pb, pc, Act.put, pd, pe, pf]
        refine tkg 29 rfl (by intro w' hS'; obtain ⟨⟨x0, x1, x3, x4⟩, x2⟩ := hS'; go_simp <;> rfl) hS1 ?_
        try simp only [pa, pb, pc, Act.put, pd, pe, pf]
        refine tkg 30 rfl (by intro w' hS'; obtain ⟨⟨x0, x1, x3, x4⟩, x2⟩ := hS'; go_simp <;> rfl) hS1 ?_
        try simp only [pa, pb, pc, Act.put, pd, pe, pf]
        refine tkg 31 rfl (by intro w' hS'; obtain ⟨⟨x0, x1, x3, x4⟩, x2⟩ := hS'; go_simp <;> rfl) hS1 ?_
        try simp only [pa, pb, pc, Act.put, pd, pe, pf]
        refine tkg 32 rfl (by intro w' hS'; obtain ⟨⟨x0, x1, x3, x4⟩, x2⟩ := hS'; go_simp <;> rfl) hS1 ?_
        try simp only [pa, pb, pc, Act.put, pd, pe, pf]
        refine wpAnyL_done (by kernel_rfl) (NoPanic.normal ?_) _
        go_wp2
        go_ret
        exact ⟨by rw [E.out]; rfl, hb.trans (hS1.2.mono hb.size)⟩
       ·have HN : Hid (Pre l (i + 1)) := form_next HP.out (next_more hxH.out hm hrH.out (by rw [apt_iff]; refine ⟨hr2, ?_⟩; simp only; grind))
        have ds : decide (s1 ≤ r2) = false := by simpa using hsr
        clear HB HP hm cl hxH hrH h2 hF hi0 hr2 hsr
        refine wp_region_L (fun W => (W.cell? ⟨b, off + i * 2, none⟩ = some (.string (bk s1)) ∧ W.cell? ⟨b, off + i * 2 + 1, none⟩ = some (.string (bk s2)) ∧ W.cell? ⟨b, off + (i - 1) * 2, none⟩ = some (.string (bk r1)) ∧ W.cell? ⟨b, off + (i - 1) * 2 + 1, none⟩ = some (.string (bk r2))) ∧ Below wr.heap.size wr W) [] (by kernel_rfl) ?_
        have yS : (fun W => (W.cell? ⟨b, off + i * 2, none⟩ = some (.string (bk s1)) ∧ W.cell? ⟨b, off + i * 2 + 1, none⟩ = some (.string (bk s2)) ∧ W.cell? ⟨b, off + (i - 1) * 2, none⟩ = some (.string (bk r1)) ∧ W.cell? ⟨b, off + (i - 1) * 2 + 1, none⟩ = some (.string (bk r2))) ∧ Below wr.heap.size wr W) wr.drew := hS0
        refine tkg 0 rfl (by intro w' hS'; obtain ⟨⟨x0, x1, x3, x4⟩, x2⟩ := hS'; go_simp <;> rfl) yS ?_
        try simp only [pa, pb, pc, Act.put, pd, pe, pf]
        refine tkg 1 rfl (by intro w' hS'; obtain ⟨⟨x0, x1, x3, x4⟩, x2⟩ := hS'; go_simp <;> rfl) yS ?_
        try simp only [pa, pb, pc, Act.put, pd, pe, pf]
        refine tkg 2 rfl (by intro w' hS'; obtain ⟨⟨x0, x1, x3, x4⟩, x2⟩ := hS'; go_simp <;> rfl) yS ?_
        try simp only [pa, pb, pc, Act.put, pd, pe, pf]
        refine tkg 3 rfl (by intro w' hS'; obtain ⟨⟨x0, x1, x3, x4⟩, x2⟩ := hS'; go_simp <;> rfl) yS ?_
        try simp only [pa, pb, pc, Act.put, pd, pe, pf]
        refine wpAnyL_one 4 (by kernel_rfl) rfl (by kernel_rfl) ?_
        intro K' hK'
        go_simp
        go_at_call 55
        refine (kc _ yS).mono ?_
        rintro e W1 ⟨rfl, hS1⟩
        refine hK'.out _ _ (.inr hS1) ?_
        clear hK' K'
        try simp only [pa, pb, pc, Act.put, pd, pe, pf]
        refine tkg 5 rfl (by intro w' hS'; obtain ⟨⟨x0, x1, x3, x4⟩, x2⟩ := hS'; go_simp <;> rfl) hS1 ?_
        try simp only [pa, pb, pc, Act.put, pd, pe, pf]
        refine tkg 6 rfl (by intro w' hS'; obtain ⟨⟨x0, x1, x3, x4⟩, x2⟩ := hS'; go_simp <;> rfl) hS1 ?_
        try simp only [pa, pb, pc, Act.put, pd, pe, pf]
        refine tkg 7 rfl (by intro w' hS'; obtain ⟨⟨x0, x1, x3, x4⟩, x2⟩ := hS'; go_simp <;> rfl) hS1 ?_
        try simp only [pa, pb, pc, Act.put, pd, pe, pf]
        refine tkg 8 rfl (by intro w' hS'; obtain ⟨⟨x0, x1, x3, x4⟩, x2⟩ := hS'; go_simp <;> rfl) hS1 ?_
        try simp only [pa, pb, pc, Act.put, pd, pe, pf]
        refine tkg 9 rfl (by intro w' hS'; obtain ⟨⟨x0, x1, x3, x4⟩, x2⟩ := hS'; go_simp <;> rfl) hS1 ?_
        try simp only [pa, pb, pc, Act.put, pd, pe, pf]
        refine tkg 10 rfl (by intro w' hS'; obtain ⟨⟨x0, x1, x3, x4⟩, x2⟩ := hS'; go_simp <;> rfl) hS1 ?_
        try simp only [pa, pb, pc, Act.put, pd, pe, pf]
        refine tkg 11 rfl (by intro w' hS'; obtain ⟨⟨x0, x1, x3, x4⟩, x2⟩ := hS'; go_simp <;> rfl) hS1 ?_
        try simp only [pa, pb, pc, Act.put, pd, pe, pf]
        refine tkg 12 rfl (by intro w' hS'; obtain ⟨⟨x0, x1, x3, x4⟩, x2⟩ := hS'; go_simp <;> rfl) hS1 ?_
        try simp only [pa, pb, pc, Act.put, pd, pe, pf]
        refine tkg 13 rfl (by intro w' hS'; obtain ⟨⟨x0, x1, x3, x4⟩, x2⟩ := hS'; go_simp <;> rfl) hS1 ?_
        try simp only [pa, pb, pc, Act.put, pd, pe, pf]
        refine tkg 14 rfl (by intro w' hS'; obtain ⟨⟨x0, x1, x3, x4⟩, x2⟩ := hS'; go_simp <;> rfl) hS1 ?_
        try simp only [pa, pb, pc, Act.put, pd, pe, pf]
        refine tkg 15 rfl (by intro w' hS'; obtain ⟨⟨x0, x1, x3, x4⟩, x2⟩ := hS'; go_simp <;> rfl) hS1 ?_
        try simp only [pa, pb, pc, Act.put, pd, pe, pf]
        refine tkg 16 rfl (by intro w' hS'; obtain ⟨⟨x0, x1, x3, x4⟩, x2⟩ := hS'; go_simp <;> rfl) hS1 ?_
        try simp only [pa, pb, pc, Act.put, pd, pe, pf]
        refine tkg 17 rfl (by intro w' hS'; obtain ⟨⟨x0, x1, x3, x4⟩, x2⟩ := hS'; go_simp <;> rfl) hS1 ?_
        try simp only [pa, pb, pc, Act.put, pd, pe, pf]
        refine tkg 18 rfl (by intro w' hS'; obtain ⟨⟨x0, x1, x3, x4⟩, x2⟩ := hS'; go_simp <;> rfl) hS1 ?_
        try simp only [pa, pb, pc, Act.put, pd, pe, pf]
        refine tkg 19 rfl (by intro w' hS'; obtain ⟨⟨x0, x1, x3, x4⟩, x2⟩ := hS'; go_simp <;> rfl) hS1 ?_
        try simp only [pa, pb, pc, Act.put, pd, pe, pf]
        refine tkg 20 rfl (by intro w' hS'; obtain ⟨⟨x0, x1, x3, x4⟩, x2⟩ := hS'; go_simp <;> rfl) hS1 ?_
        try simp only [pa, pb, pc, Act.put, pd, pe, pf]
        refine tkg 21 rfl (by intro w' hS'; obtain ⟨⟨x0, x1, x3, x4⟩, x2⟩ := hS'; go_simp <;> rfl) hS1 ?_
        try simp only [pa, pb, pc, Act.put, pd, pe, pf]
        refine tkg 22 rfl (by intro w' hS'; obtain ⟨⟨x0, x1, x3, x4⟩, x2⟩ := hS'; go_simp <;> rfl) hS1 ?_
        try simp only [pa, pb, pc, Act.put, pd, pe, pf]
        refine tkg 23 rfl (by intro w' hS'; obtain ⟨⟨x0, x1, x3, x4⟩, x2⟩ := hS'; go_simp <;> rfl) hS1 ?_
        try simp only [pa, pb, pc, Act.put, pd, pe, pf]
        refine tkg 24 rfl (by intro w' hS'; obtain ⟨⟨x0, x1, x3, x4⟩, x2⟩ := hS'; go_simp <;> rfl) hS1 ?_
        try simp only [pa, pb, pc, Act.put, pd, pe, pf]
        refine tkg 25 rfl (by intro w' hS'; obtain ⟨⟨x0, x1, x3, x4⟩, x2⟩ := hS'; go_simp <;> rfl) hS1 ?_
        try simp only [pa, pb, pc, Act.put, pd, pe, pf]
        refine tkg 26 rfl (by intro w' hS'; obtain ⟨⟨x0, x1, x3, x4⟩, x2⟩ := hS'; go_simp <;> rfl) hS1 ?_
        try simp only [pa, pb, pc, Act.put, pd, pe, pf]
        refine tkg 27 rfl (by intro w' hS'; obtain ⟨⟨x0, x1, x3, x4⟩, x2⟩ := hS'; go_simp <;> rfl) hS1 ?_
        try simp only [pa, pb, pc, Act.put, pd, pe, pf]
        refine tkg 28 rfl (by intro w' hS'; obtain ⟨⟨x0, x1, x3, x4⟩, x2⟩ := hS'; go_simp <;> rfl) hS1 ?_
        try simp only [pa, pb, pc, Act.put, pd, pe, pf]
        refine tkg 29 rfl (by intro w' hS'; obtain ⟨⟨x0, x1, x3, x4⟩, x2⟩ := hS'; go_simp <;> rfl) hS1 ?_
        try simp only [pa, pb, pc, Act.put, pd, pe, pf]
        refine tkg 30 rfl (by intro w' hS'; obtain ⟨⟨x0, x1, x3, x4⟩, x2⟩ := hS'; go_simp <;> rfl) hS1 ?_
        try simp only [pa, pb, pc, Act.put, pd, pe, pf]
        refine tkg 31 rfl (by intro w' hS'; obtain ⟨⟨x0, x1, x3, x4⟩, x2⟩ := hS'; go_simp <;> rfl) hS1 ?_
        try simp only [pa, pb, pc, Act.put, pd, pe, pf]
        refine tkg 32 rfl (by intro w' hS'; obtain ⟨⟨x0, x1, x3, x4⟩, x2⟩ := hS'; go_simp <;> rfl) hS1 ?_
        try simp only [pa, pb, pc, Act.put, pd, pe, pf]
        refine wpAnyL_done (by kernel_rfl) (NoPanic.normal ?_) _
        go_wp2
        go_roundg (gk - 1)
        case measure => omega
        case rel => exact ⟨i + 1, by omega, by go_num, hb.trans (hS1.2.mono hb.size), HN⟩
   ·have hlti : ¬ (i : Int) < (l.length : Int) := by omega
    obtain rfl : i = l.length := by omega
    have E : Hid (B = true) := by show _ = _; rw [HB.out]; exact pre_all (by omega) HP.out
    clear HB h2 HP
    go_wp2
    go_ret
    exact ⟨by rw [E.out]; rfl, hb⟩
end Go.Proofs.YtfpbgfmnjpamlaaGreat

