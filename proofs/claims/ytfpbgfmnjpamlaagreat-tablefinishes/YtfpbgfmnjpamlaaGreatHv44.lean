import Derived.Test.YtfpbgfmnjpamlaaGreatHv18
/- The document's May. -/
namespace Go.Proofs.YtfpbgfmnjpamlaaGreat
open Go.RowKit LeaseMath
set_option maxRecDepth 100000
set_option linter.unusedSimpArgs false
set_option linter.unusedVariables false

set_option maxHeartbeats 4000000 in
theorem rmay_of (zs : List Hd) (lv : Value) (w : World) (hL : Rd holdE w lv zs) : Calls Tryz.prog 80 #[lv] w fun e w' => e = .returned (.bool (mayB holdB zs)) ∧ Below w.heap.size w w' := by
 obtain ⟨B, HB⟩ : ∃ B, Hid (B = mayB holdB zs) := ⟨_, rfl⟩
 rw [← HB.out]
 have HL : Hid (Rd holdE w lv zs) := hL
 obtain ⟨ao, cap, rfl, -, -⟩ := hL.shape
 clear hL
 by_cases hl : zs.length ≤ 1024
 ·have HB1 : Hid (B = walk holdB (prev zs 0) (zs.drop 0)) := by show _ = _; rw [HB.out]; simp [mayB, hl, prev]
  have hli : ¬ (1024 : Int) < (zs.length : Int) := by omega
  clear HB
  go_enter Tryz.func80, Tryz.ntmps80
  go_wp2
  go_loopg [3] zs.length (fun g s3 wr => ∃ i : Nat, i + g = zs.length ∧ s3 = .int .i64 (i : Int) ∧ Below w.heap.size w wr ∧ Hid (B = walk holdB (prev zs i) (zs.drop i)))
  case atStart => exact ⟨0, by omega, rfl, Below.refl _ _, HB1⟩
  case round =>
   obtain ⟨i, hig, rfl, hb, HP⟩ := hrel
   clear HB1
   by_cases hlt : i < zs.length
   ·have hlti : (i : Int) < (zs.length : Int) := by omega
    have hx : zs[i]? = some zs[i] := List.getElem?_eq_getElem hlt
    obtain ⟨z, hzz⟩ : ∃ z, z = zs[i] := ⟨_, rfl⟩
    rw [← hzz] at hx
    clear hzz
    obtain ⟨b, off, rfl, cc⟩ := rdh_at HL.out hx
    have hxH : Hid (zs[i]? = some z) := hx
    obtain ⟨k, t, u⟩ := z
    dsimp only at cc
    have cl : ∀ W, Below w.heap.size w W → (W.cell? ⟨b, off + i * 3, none⟩ = some (.string (bk k)) ∧ W.cell? ⟨b, off + i * 3 + 1, none⟩ = some (.int .u64 (t : Int)) ∧ W.cell? ⟨b, off + i * 3 + 2, none⟩ = some (.int .i64 u)) := cc
    clear hx cc
    cases hm : holdB (k, t, u) with
    | false =>
     have E : Hid (B = false) := by show _ = _; rw [HP.out, walk_at hxH.out, hm]; simp
     have kc : ∀ W, (fun W => (W.cell? ⟨b, off + i * 3, none⟩ = some (.string (bk k)) ∧ W.cell? ⟨b, off + i * 3 + 1, none⟩ = some (.int .u64 (t : Int)) ∧ W.cell? ⟨b, off + i * 3 + 2, none⟩ = some (.int .i64 u)) ∧ Below w.heap.size w W) W → Calls Tryz.prog 143 #[.agg #[.string (bk k), .int .u64 (t : Int), .int .i64 u]] W fun e w' => e = .returned (.bool false) ∧ (fun W => (W.cell? ⟨b, off + i * 3, none⟩ = some (.string (bk k)) ∧ W.cell? ⟨b, off + i * 3 + 1, none⟩ = some (.int .u64 (t : Int)) ∧ W.cell? ⟨b, off + i * 3 + 2, none⟩ = some (.int .i64 u)) ∧ Below w.heap.size w W) w' := fun W hW => by
      refine (rhold_of (k, t, u) W).mono ?_
      rintro e w' ⟨rfl, hb'⟩
      exact ⟨by rw [hm], cl w' (keep_step hW.2 (Nat.le_refl _) hb'), keep_step hW.2 (Nat.le_refl _) hb'⟩
     have hS0 : (fun W => (W.cell? ⟨b, off + i * 3, none⟩ = some (.string (bk k)) ∧ W.cell? ⟨b, off + i * 3 + 1, none⟩ = some (.int .u64 (t : Int)) ∧ W.cell? ⟨b, off + i * 3 + 2, none⟩ = some (.int .i64 u)) ∧ Below w.heap.size w W) wr.drew := ⟨cl _ hb.drew, hb.drew⟩
     clear HP hm cl hxH HL
     go_wp2
     refine wp_region_L (fun W => (W.cell? ⟨b, off + i * 3, none⟩ = some (.string (bk k)) ∧ W.cell? ⟨b, off + i * 3 + 1, none⟩ = some (.int .u64 (t : Int)) ∧ W.cell? ⟨b, off + i * 3 + 2, none⟩ = some (.int .i64 u)) ∧ Below w.heap.size w W) [] (by kernel_rfl) ?_
     have yS : (fun W => (W.cell? ⟨b, off + i * 3, none⟩ = some (.string (bk k)) ∧ W.cell? ⟨b, off + i * 3 + 1, none⟩ = some (.int .u64 (t : Int)) ∧ W.cell? ⟨b, off + i * 3 + 2, none⟩ = some (.int .i64 u)) ∧ Below w.heap.size w W) wr.drew := hS0
     refine tkg 0 rfl (by intro w' hS'; obtain ⟨⟨x0, x1, x2⟩, xb⟩ := hS'; go_simp <;> rfl) yS ?_
     try simp only [pa, pb, pc, Act.put, pd, pe, pf]
     refine tkg 1 rfl (by intro w' hS'; obtain ⟨⟨x0, x1, x2⟩, xb⟩ := hS'; go_simp <;> rfl) yS ?_
     try simp only [pa, pb, pc, Act.put, pd, pe, pf]
     refine tkg 2 rfl (by intro w' hS'; obtain ⟨⟨x0, x1, x2⟩, xb⟩ := hS'; go_simp <;> rfl) yS ?_
     try simp only [pa, pb, pc, Act.put, pd, pe, pf]
     refine tkg 3 rfl (by intro w' hS'; obtain ⟨⟨x0, x1, x2⟩, xb⟩ := hS'; go_simp <;> rfl) yS ?_
     try simp only [pa, pb, pc, Act.put, pd, pe, pf]
     refine wpAnyL_one 4 (by kernel_rfl) rfl (by kernel_rfl) ?_
     intro K' hK'
     go_simp
     go_at_call 143
     refine (kc _ yS).mono ?_
     rintro e W1 ⟨rfl, hS1⟩
     refine hK'.out _ _ (.inr hS1) ?_
     clear hK' K'
     try simp only [pa, pb, pc, Act.put, pd, pe, pf]
     refine tkg 5 rfl (by intro w' hS'; obtain ⟨⟨x0, x1, x2⟩, xb⟩ := hS'; go_simp <;> rfl) hS1 ?_
     try simp only [pa, pb, pc, Act.put, pd, pe, pf]
     refine tkg 6 rfl (by intro w' hS'; obtain ⟨⟨x0, x1, x2⟩, xb⟩ := hS'; go_simp <;> rfl) hS1 ?_
     try simp only [pa, pb, pc, Act.put, pd, pe, pf]
     refine skg 7 rfl hS1 ?_
     try simp only [pa, pb, pc, Act.put, pd, pe, pf]
     refine skg 8 rfl hS1 ?_
     try simp only [pa, pb, pc, Act.put, pd, pe, pf]
     refine skg 9 rfl hS1 ?_
     try simp only [pa, pb, pc, Act.put, pd, pe, pf]
     refine skg 10 rfl hS1 ?_
     try simp only [pa, pb, pc, Act.put, pd, pe, pf]
     refine skg 11 rfl hS1 ?_
     try simp only [pa, pb, pc, Act.put, pd, pe, pf]
     refine skg 12 rfl hS1 ?_
     try simp only [pa, pb, pc, Act.put, pd, pe, pf]
     refine skg 13 rfl hS1 ?_
     try simp only [pa, pb, pc, Act.put, pd, pe, pf]
     refine skg 14 rfl hS1 ?_
     try simp only [pa, pb, pc, Act.put, pd, pe, pf]
     refine skg 15 rfl hS1 ?_
     try simp only [pa, pb, pc, Act.put, pd, pe, pf]
     refine skg 16 rfl hS1 ?_
     try simp only [pa, pb, pc, Act.put, pd, pe, pf]
     refine skg 17 rfl hS1 ?_
     try simp only [pa, pb, pc, Act.put, pd, pe, pf]
     refine skg 18 rfl hS1 ?_
     try simp only [pa, pb, pc, Act.put, pd, pe, pf]
     refine skg 19 rfl hS1 ?_
     try simp only [pa, pb, pc, Act.put, pd, pe, pf]
     refine skg 20 rfl hS1 ?_
     try simp only [pa, pb, pc, Act.put, pd, pe, pf]
     refine skg 21 rfl hS1 ?_
     try simp only [pa, pb, pc, Act.put, pd, pe, pf]
     refine skg 22 rfl hS1 ?_
     try simp only [pa, pb, pc, Act.put, pd, pe, pf]
     refine tkg 23 rfl (by intro w' hS'; obtain ⟨⟨x0, x1, x2⟩, xb⟩ := hS'; go_simp <;> rfl) hS1 ?_
     try simp only [pa, pb, pc, Act.put, pd, pe, pf]
     refine wpAnyL_done (by kernel_rfl) (NoPanic.normal ?_) _
     go_wp2
     go_ret
     exact ⟨by rw [E.out]; rfl, hS1.2⟩
    | true =>
     by_cases hi0 : i = 0
     ·have HN : Hid (B = walk holdB (prev zs (i + 1)) (zs.drop (i + 1))) := by show _ = _; rw [HP.out, walk_at hxH.out, hm, prev_succ hxH.out]; simp [prev, lnk, hi0]
      have hi0i : ¬ (0 : Int) < (i : Int) := by omega
      have hi0d : decide ((0 : Int) < (i : Int)) = false := decide_eq_false hi0i
      have hi0n : ¬ 0 < i := by omega
      have hi0dn : decide (0 < i) = false := decide_eq_false hi0n
      have kc : ∀ W, (fun W => (W.cell? ⟨b, off + i * 3, none⟩ = some (.string (bk k)) ∧ W.cell? ⟨b, off + i * 3 + 1, none⟩ = some (.int .u64 (t : Int)) ∧ W.cell? ⟨b, off + i * 3 + 2, none⟩ = some (.int .i64 u)) ∧ Below w.heap.size w W) W → Calls Tryz.prog 143 #[.agg #[.string (bk k), .int .u64 (t : Int), .int .i64 u]] W fun e w' => e = .returned (.bool true) ∧ (fun W => (W.cell? ⟨b, off + i * 3, none⟩ = some (.string (bk k)) ∧ W.cell? ⟨b, off + i * 3 + 1, none⟩ = some (.int .u64 (t : Int)) ∧ W.cell? ⟨b, off + i * 3 + 2, none⟩ = some (.int .i64 u)) ∧ Below w.heap.size w W) w' := fun W hW => by
       refine (rhold_of (k, t, u) W).mono ?_
       rintro e w' ⟨rfl, hb'⟩
       exact ⟨by rw [hm], cl w' (keep_step hW.2 (Nat.le_refl _) hb'), keep_step hW.2 (Nat.le_refl _) hb'⟩
      have hS0 : (fun W => (W.cell? ⟨b, off + i * 3, none⟩ = some (.string (bk k)) ∧ W.cell? ⟨b, off + i * 3 + 1, none⟩ = some (.int .u64 (t : Int)) ∧ W.cell? ⟨b, off + i * 3 + 2, none⟩ = some (.int .i64 u)) ∧ Below w.heap.size w W) wr.drew := ⟨cl _ hb.drew, hb.drew⟩
      clear hi0
      clear HP hm cl hxH HL
      go_wp2
      refine wp_region_L (fun W => (W.cell? ⟨b, off + i * 3, none⟩ = some (.string (bk k)) ∧ W.cell? ⟨b, off + i * 3 + 1, none⟩ = some (.int .u64 (t : Int)) ∧ W.cell? ⟨b, off + i * 3 + 2, none⟩ = some (.int .i64 u)) ∧ Below w.heap.size w W) [] (by kernel_rfl) ?_
      have yS : (fun W => (W.cell? ⟨b, off + i * 3, none⟩ = some (.string (bk k)) ∧ W.cell? ⟨b, off + i * 3 + 1, none⟩ = some (.int .u64 (t : Int)) ∧ W.cell? ⟨b, off + i * 3 + 2, none⟩ = some (.int .i64 u)) ∧ Below w.heap.size w W) wr.drew := hS0
      refine tkg 0 rfl (by intro w' hS'; obtain ⟨⟨x0, x1, x2⟩, xb⟩ := hS'; go_simp <;> rfl) yS ?_
      try simp only [pa, pb, pc, Act.put, pd, pe, pf]
      refine tkg 1 rfl (by intro w' hS'; obtain ⟨⟨x0, x1, x2⟩, xb⟩ := hS'; go_simp <;> rfl) yS ?_
      try simp only [pa, pb, pc, Act.put, pd, pe, pf]
      refine tkg 2 rfl (by intro w' hS'; obtain ⟨⟨x0, x1, x2⟩, xb⟩ := hS'; go_simp <;> rfl) yS ?_
      try simp only [pa, pb, pc, Act.put, pd, pe, pf]
      refine tkg 3 rfl (by intro w' hS'; obtain ⟨⟨x0, x1, x2⟩, xb⟩ := hS'; go_simp <;> rfl) yS ?_
      try simp only [pa, pb, pc, Act.put, pd, pe, pf]
      refine wpAnyL_one 4 (by kernel_rfl) rfl (by kernel_rfl) ?_
      intro K' hK'
      go_simp
      go_at_call 143
      refine (kc _ yS).mono ?_
      rintro e W1 ⟨rfl, hS1⟩
      refine hK'.out _ _ (.inr hS1) ?_
      clear hK' K'
      try simp only [pa, pb, pc, Act.put, pd, pe, pf]
      refine tkg 5 rfl (by intro w' hS'; obtain ⟨⟨x0, x1, x2⟩, xb⟩ := hS'; go_simp <;> rfl) hS1 ?_
      try simp only [pa, pb, pc, Act.put, pd, pe, pf]
      refine tkg 6 rfl (by intro w' hS'; obtain ⟨⟨x0, x1, x2⟩, xb⟩ := hS'; go_simp <;> rfl) hS1 ?_
      try simp only [pa, pb, pc, Act.put, pd, pe, pf]
      refine tkg 7 rfl (by intro w' hS'; obtain ⟨⟨x0, x1, x2⟩, xb⟩ := hS'; go_simp <;> rfl) hS1 ?_
      try simp only [pa, pb, pc, Act.put, pd, pe, pf]
      refine tkg 8 rfl (by intro w' hS'; obtain ⟨⟨x0, x1, x2⟩, xb⟩ := hS'; go_simp <;> rfl) hS1 ?_
      try simp only [pa, pb, pc, Act.put, pd, pe, pf]
      refine tkg 9 rfl (by intro w' hS'; obtain ⟨⟨x0, x1, x2⟩, xb⟩ := hS'; go_simp <;> rfl) hS1 ?_
      try simp only [pa, pb, pc, Act.put, pd, pe, pf]
      refine skg 10 rfl hS1 ?_
      try simp only [pa, pb, pc, Act.put, pd, pe, pf]
      refine skg 11 rfl hS1 ?_
      try simp only [pa, pb, pc, Act.put, pd, pe, pf]
      refine skg 12 rfl hS1 ?_
      try simp only [pa, pb, pc, Act.put, pd, pe, pf]
      refine skg 13 rfl hS1 ?_
      try simp only [pa, pb, pc, Act.put, pd, pe, pf]
      refine skg 14 rfl hS1 ?_
      try simp only [pa, pb, pc, Act.put, pd, pe, pf]
      refine skg 15 rfl hS1 ?_
      try simp only [pa, pb, pc, Act.put, pd, pe, pf]
      refine skg 16 rfl hS1 ?_
      try simp only [pa, pb, pc, Act.put, pd, pe, pf]
      refine skg 17 rfl hS1 ?_
      try simp only [pa, pb, pc, Act.put, pd, pe, pf]
      refine skg 18 rfl hS1 ?_
      try simp only [pa, pb, pc, Act.put, pd, pe, pf]
      refine skg 19 rfl hS1 ?_
      try simp only [pa, pb, pc, Act.put, pd, pe, pf]
      refine skg 20 rfl hS1 ?_
      try simp only [pa, pb, pc, Act.put, pd, pe, pf]
      refine skg 21 rfl hS1 ?_
      try simp only [pa, pb, pc, Act.put, pd, pe, pf]
      refine tkg 22 rfl (by intro w' hS'; obtain ⟨⟨x0, x1, x2⟩, xb⟩ := hS'; go_simp <;> rfl) hS1 ?_
      try simp only [pa, pb, pc, Act.put, pd, pe, pf]
      refine tkg 23 rfl (by intro w' hS'; obtain ⟨⟨x0, x1, x2⟩, xb⟩ := hS'; go_simp <;> rfl) hS1 ?_
      try simp only [pa, pb, pc, Act.put, pd, pe, pf]
      refine wpAnyL_done (by kernel_rfl) (NoPanic.normal ?_) _
      go_wp2
      go_roundg (gk - 1)
      case measure => omega
      case rel => exact ⟨i + 1, by omega, by go_num, hS1.2, HN⟩
     ·have hi0i : (0 : Int) < (i : Int) := by omega
      have hi0n : 0 < i := by omega
      have hi1 : (1 : Int) ≤ (i : Int) := by omega
      have hi1n : 1 ≤ i := by omega
      have hr : zs[i - 1]? = some zs[i - 1] := List.getElem?_eq_getElem (by omega)
      obtain ⟨p, hp⟩ : ∃ p, p = zs[i - 1] := ⟨_, rfl⟩
      rw [← hp] at hr
      clear hp
      obtain ⟨b', off', e', cp⟩ := rdh_at HL.out hr
      cases e'
      have hpv : Hid (prev zs i = some p) := by show _ = _; unfold prev; rw [if_neg hi0]; exact hr
      obtain ⟨yk, yt, yu⟩ := p
      dsimp only at cp hpv
      replace cl : ∀ W, Below w.heap.size w W → (W.cell? ⟨b, off + i * 3, none⟩ = some (.string (bk k)) ∧ W.cell? ⟨b, off + i * 3 + 1, none⟩ = some (.int .u64 (t : Int)) ∧ W.cell? ⟨b, off + i * 3 + 2, none⟩ = some (.int .i64 u)) ∧ W.cell? ⟨b, off + (i - 1) * 3, none⟩ = some (.string (bk yk)) := fun W hW => ⟨cl W hW, (cp W hW).1⟩
      have j1 : IntKind.i64.wrap ((i : Int) - 1) = (i : Int) - 1 := IntWalk.i64_in _ (by omega)
      have j2 : (0 : Int) ≤ (i : Int) - 1 := by omega
      have j3 : (i : Int) - 1 < (zs.length : Int) := by omega
      have j4 : ((i : Int) - 1).toNat = i - 1 := by omega
      clear hr cp
      by_cases hcc : yk < k
      ·have HN : Hid (B = walk holdB (prev zs (i + 1)) (zs.drop (i + 1))) := by show _ = _; rw [HP.out, walk_at hxH.out, hm, hpv.out, prev_succ hxH.out]; simp [lnk, hcc]
       have hcd : ¬ k ≤ yk := by grind
       have hcd2 : decide (k ≤ yk) = false := decide_eq_false hcd
       have kc : ∀ W, (fun W => ((W.cell? ⟨b, off + i * 3, none⟩ = some (.string (bk k)) ∧ W.cell? ⟨b, off + i * 3 + 1, none⟩ = some (.int .u64 (t : Int)) ∧ W.cell? ⟨b, off + i * 3 + 2, none⟩ = some (.int .i64 u)) ∧ W.cell? ⟨b, off + (i - 1) * 3, none⟩ = some (.string (bk yk))) ∧ Below w.heap.size w W) W → Calls Tryz.prog 143 #[.agg #[.string (bk k), .int .u64 (t : Int), .int .i64 u]] W fun e w' => e = .returned (.bool true) ∧ (fun W => ((W.cell? ⟨b, off + i * 3, none⟩ = some (.string (bk k)) ∧ W.cell? ⟨b, off + i * 3 + 1, none⟩ = some (.int .u64 (t : Int)) ∧ W.cell? ⟨b, off + i * 3 + 2, none⟩ = some (.int .i64 u)) ∧ W.cell? ⟨b, off + (i - 1) * 3, none⟩ = some (.string (bk yk))) ∧ Below w.heap.size w W) w' := fun W hW => by
        refine (rhold_of (k, t, u) W).mono ?_
        rintro e w' ⟨rfl, hb'⟩
        exact ⟨by rw [hm], cl w' (keep_step hW.2 (Nat.le_refl _) hb'), keep_step hW.2 (Nat.le_refl _) hb'⟩
       have hS0 : (fun W => ((W.cell? ⟨b, off + i * 3, none⟩ = some (.string (bk k)) ∧ W.cell? ⟨b, off + i * 3 + 1, none⟩ = some (.int .u64 (t : Int)) ∧ W.cell? ⟨b, off + i * 3 + 2, none⟩ = some (.int .i64 u)) ∧ W.cell? ⟨b, off + (i - 1) * 3, none⟩ = some (.string (bk yk))) ∧ Below w.heap.size w W) wr.drew := ⟨cl _ hb.drew, hb.drew⟩
       clear hpv hi0
       clear HP hm cl hxH HL
       go_wp2
       refine wp_region_L (fun W => ((W.cell? ⟨b, off + i * 3, none⟩ = some (.string (bk k)) ∧ W.cell? ⟨b, off + i * 3 + 1, none⟩ = some (.int .u64 (t : Int)) ∧ W.cell? ⟨b, off + i * 3 + 2, none⟩ = some (.int .i64 u)) ∧ W.cell? ⟨b, off + (i - 1) * 3, none⟩ = some (.string (bk yk))) ∧ Below w.heap.size w W) [] (by kernel_rfl) ?_
       have yS : (fun W => ((W.cell? ⟨b, off + i * 3, none⟩ = some (.string (bk k)) ∧ W.cell? ⟨b, off + i * 3 + 1, none⟩ = some (.int .u64 (t : Int)) ∧ W.cell? ⟨b, off + i * 3 + 2, none⟩ = some (.int .i64 u)) ∧ W.cell? ⟨b, off + (i - 1) * 3, none⟩ = some (.string (bk yk))) ∧ Below w.heap.size w W) wr.drew := hS0
       refine tkg 0 rfl (by intro w' hS'; obtain ⟨⟨⟨x0, x1, x2⟩, y0⟩, xb⟩ := hS'; go_simp <;> rfl) yS ?_
       try simp only [pa, pb, pc, Act.put, pd, pe, pf]
       refine tkg 1 rfl (by intro w' hS'; obtain ⟨⟨⟨x0, x1, x2⟩, y0⟩, xb⟩ := hS'; go_simp <;> rfl) yS ?_
       try simp only [pa, pb, pc, Act.put, pd, pe, pf]
       refine tkg 2 rfl (by intro w' hS'; obtain ⟨⟨⟨x0, x1, x2⟩, y0⟩, xb⟩ := hS'; go_simp <;> rfl) yS ?_
       try simp only [pa, pb, pc, Act.put, pd, pe, pf]
       refine tkg 3 rfl (by intro w' hS'; obtain ⟨⟨⟨x0, x1, x2⟩, y0⟩, xb⟩ := hS'; go_simp <;> rfl) yS ?_
       try simp only [pa, pb, pc, Act.put, pd, pe, pf]
       refine wpAnyL_one 4 (by kernel_rfl) rfl (by kernel_rfl) ?_
       intro K' hK'
       go_simp
       go_at_call 143
       refine (kc _ yS).mono ?_
       rintro e W1 ⟨rfl, hS1⟩
       refine hK'.out _ _ (.inr hS1) ?_
       clear hK' K'
       try simp only [pa, pb, pc, Act.put, pd, pe, pf]
       refine tkg 5 rfl (by intro w' hS'; obtain ⟨⟨⟨x0, x1, x2⟩, y0⟩, xb⟩ := hS'; go_simp <;> rfl) hS1 ?_
       try simp only [pa, pb, pc, Act.put, pd, pe, pf]
       refine tkg 6 rfl (by intro w' hS'; obtain ⟨⟨⟨x0, x1, x2⟩, y0⟩, xb⟩ := hS'; go_simp <;> rfl) hS1 ?_
       try simp only [pa, pb, pc, Act.put, pd, pe, pf]
       refine tkg 7 rfl (by intro w' hS'; obtain ⟨⟨⟨x0, x1, x2⟩, y0⟩, xb⟩ := hS'; go_simp <;> rfl) hS1 ?_
       try simp only [pa, pb, pc, Act.put, pd, pe, pf]
       refine tkg 8 rfl (by intro w' hS'; obtain ⟨⟨⟨x0, x1, x2⟩, y0⟩, xb⟩ := hS'; go_simp <;> rfl) hS1 ?_
       try simp only [pa, pb, pc, Act.put, pd, pe, pf]
       refine tkg 9 rfl (by intro w' hS'; obtain ⟨⟨⟨x0, x1, x2⟩, y0⟩, xb⟩ := hS'; go_simp <;> rfl) hS1 ?_
       try simp only [pa, pb, pc, Act.put, pd, pe, pf]
       refine tkg 10 rfl (by intro w' hS'; obtain ⟨⟨⟨x0, x1, x2⟩, y0⟩, xb⟩ := hS'; go_simp <;> rfl) hS1 ?_
       try simp only [pa, pb, pc, Act.put, pd, pe, pf]
       refine tkg 11 rfl (by intro w' hS'; obtain ⟨⟨⟨x0, x1, x2⟩, y0⟩, xb⟩ := hS'; go_simp <;> rfl) hS1 ?_
       try simp only [pa, pb, pc, Act.put, pd, pe, pf]
       refine tkg 12 rfl (by intro w' hS'; obtain ⟨⟨⟨x0, x1, x2⟩, y0⟩, xb⟩ := hS'; go_simp <;> rfl) hS1 ?_
       try simp only [pa, pb, pc, Act.put, pd, pe, pf]
       refine tkg 13 rfl (by intro w' hS'; obtain ⟨⟨⟨x0, x1, x2⟩, y0⟩, xb⟩ := hS'; go_simp <;> rfl) hS1 ?_
       try simp only [pa, pb, pc, Act.put, pd, pe, pf]
       refine tkg 14 rfl (by intro w' hS'; obtain ⟨⟨⟨x0, x1, x2⟩, y0⟩, xb⟩ := hS'; go_simp <;> rfl) hS1 ?_
       try simp only [pa, pb, pc, Act.put, pd, pe, pf]
       refine tkg 15 rfl (by intro w' hS'; obtain ⟨⟨⟨x0, x1, x2⟩, y0⟩, xb⟩ := hS'; go_simp <;> rfl) hS1 ?_
       try simp only [pa, pb, pc, Act.put, pd, pe, pf]
       refine tkg 16 rfl (by intro w' hS'; obtain ⟨⟨⟨x0, x1, x2⟩, y0⟩, xb⟩ := hS'; go_simp <;> rfl) hS1 ?_
       try simp only [pa, pb, pc, Act.put, pd, pe, pf]
       refine tkg 17 rfl (by intro w' hS'; obtain ⟨⟨⟨x0, x1, x2⟩, y0⟩, xb⟩ := hS'; go_simp <;> rfl) hS1 ?_
       try simp only [pa, pb, pc, Act.put, pd, pe, pf]
       refine tkg 18 rfl (by intro w' hS'; obtain ⟨⟨⟨x0, x1, x2⟩, y0⟩, xb⟩ := hS'; go_simp <;> rfl) hS1 ?_
       try simp only [pa, pb, pc, Act.put, pd, pe, pf]
       refine tkg 19 rfl (by intro w' hS'; obtain ⟨⟨⟨x0, x1, x2⟩, y0⟩, xb⟩ := hS'; go_simp <;> rfl) hS1 ?_
       try simp only [pa, pb, pc, Act.put, pd, pe, pf]
       refine tkg 20 rfl (by intro w' hS'; obtain ⟨⟨⟨x0, x1, x2⟩, y0⟩, xb⟩ := hS'; go_simp <;> rfl) hS1 ?_
       try simp only [pa, pb, pc, Act.put, pd, pe, pf]
       refine tkg 21 rfl (by intro w' hS'; obtain ⟨⟨⟨x0, x1, x2⟩, y0⟩, xb⟩ := hS'; go_simp <;> rfl) hS1 ?_
       try simp only [pa, pb, pc, Act.put, pd, pe, pf]
       refine tkg 22 rfl (by intro w' hS'; obtain ⟨⟨⟨x0, x1, x2⟩, y0⟩, xb⟩ := hS'; go_simp <;> rfl) hS1 ?_
       try simp only [pa, pb, pc, Act.put, pd, pe, pf]
       refine tkg 23 rfl (by intro w' hS'; obtain ⟨⟨⟨x0, x1, x2⟩, y0⟩, xb⟩ := hS'; go_simp <;> rfl) hS1 ?_
       try simp only [pa, pb, pc, Act.put, pd, pe, pf]
       refine wpAnyL_done (by kernel_rfl) (NoPanic.normal ?_) _
       go_wp2
       go_roundg (gk - 1)
       case measure => omega
       case rel => exact ⟨i + 1, by omega, by go_num, hS1.2, HN⟩
      ·have E : Hid (B = false) := by show _ = _; rw [HP.out, walk_at hxH.out, hm, hpv.out]; simp [lnk, hcc]
       have hcd : k ≤ yk := by grind
       have hcd2 : decide (k ≤ yk) = true := decide_eq_true hcd
       have kc : ∀ W, (fun W => ((W.cell? ⟨b, off + i * 3, none⟩ = some (.string (bk k)) ∧ W.cell? ⟨b, off + i * 3 + 1, none⟩ = some (.int .u64 (t : Int)) ∧ W.cell? ⟨b, off + i * 3 + 2, none⟩ = some (.int .i64 u)) ∧ W.cell? ⟨b, off + (i - 1) * 3, none⟩ = some (.string (bk yk))) ∧ Below w.heap.size w W) W → Calls Tryz.prog 143 #[.agg #[.string (bk k), .int .u64 (t : Int), .int .i64 u]] W fun e w' => e = .returned (.bool true) ∧ (fun W => ((W.cell? ⟨b, off + i * 3, none⟩ = some (.string (bk k)) ∧ W.cell? ⟨b, off + i * 3 + 1, none⟩ = some (.int .u64 (t : Int)) ∧ W.cell? ⟨b, off + i * 3 + 2, none⟩ = some (.int .i64 u)) ∧ W.cell? ⟨b, off + (i - 1) * 3, none⟩ = some (.string (bk yk))) ∧ Below w.heap.size w W) w' := fun W hW => by
        refine (rhold_of (k, t, u) W).mono ?_
        rintro e w' ⟨rfl, hb'⟩
        exact ⟨by rw [hm], cl w' (keep_step hW.2 (Nat.le_refl _) hb'), keep_step hW.2 (Nat.le_refl _) hb'⟩
       have hS0 : (fun W => ((W.cell? ⟨b, off + i * 3, none⟩ = some (.string (bk k)) ∧ W.cell? ⟨b, off + i * 3 + 1, none⟩ = some (.int .u64 (t : Int)) ∧ W.cell? ⟨b, off + i * 3 + 2, none⟩ = some (.int .i64 u)) ∧ W.cell? ⟨b, off + (i - 1) * 3, none⟩ = some (.string (bk yk))) ∧ Below w.heap.size w W) wr.drew := ⟨cl _ hb.drew, hb.drew⟩
       clear hpv hi0
       clear HP hm cl hxH HL
       go_wp2
       refine wp_region_L (fun W => ((W.cell? ⟨b, off + i * 3, none⟩ = some (.string (bk k)) ∧ W.cell? ⟨b, off + i * 3 + 1, none⟩ = some (.int .u64 (t : Int)) ∧ W.cell? ⟨b, off + i * 3 + 2, none⟩ = some (.int .i64 u)) ∧ W.cell? ⟨b, off + (i - 1) * 3, none⟩ = some (.string (bk yk))) ∧ Below w.heap.size w W) [] (by kernel_rfl) ?_
       have yS : (fun W => ((W.cell? ⟨b, off + i * 3, none⟩ = some (.string (bk k)) ∧ W.cell? ⟨b, off + i * 3 + 1, none⟩ = some (.int .u64 (t : Int)) ∧ W.cell? ⟨b, off + i * 3 + 2, none⟩ = some (.int .i64 u)) ∧ W.cell? ⟨b, off + (i - 1) * 3, none⟩ = some (.string (bk yk))) ∧ Below w.heap.size w W) wr.drew := hS0
       refine tkg 0 rfl (by intro w' hS'; obtain ⟨⟨⟨x0, x1, x2⟩, y0⟩, xb⟩ := hS'; go_simp <;> rfl) yS ?_
       try simp only [pa, pb, pc, Act.put, pd, pe, pf]
       refine tkg 1 rfl (by intro w' hS'; obtain ⟨⟨⟨x0, x1, x2⟩, y0⟩, xb⟩ := hS'; go_simp <;> rfl) yS ?_
       try simp only [pa, pb, pc, Act.put, pd, pe, pf]
       refine tkg 2 rfl (by intro w' hS'; obtain ⟨⟨⟨x0, x1, x2⟩, y0⟩, xb⟩ := hS'; go_simp <;> rfl) yS ?_
       try simp only [pa, pb, pc, Act.put, pd, pe, pf]
       refine tkg 3 rfl (by intro w' hS'; obtain ⟨⟨⟨x0, x1, x2⟩, y0⟩, xb⟩ := hS'; go_simp <;> rfl) yS ?_
       try simp only [pa, pb, pc, Act.put, pd, pe, pf]
       refine wpAnyL_one 4 (by kernel_rfl) rfl (by kernel_rfl) ?_
       intro K' hK'
       go_simp
       go_at_call 143
       refine (kc _ yS).mono ?_
       rintro e W1 ⟨rfl, hS1⟩
       refine hK'.out _ _ (.inr hS1) ?_
       clear hK' K'
       try simp only [pa, pb, pc, Act.put, pd, pe, pf]
       refine tkg 5 rfl (by intro w' hS'; obtain ⟨⟨⟨x0, x1, x2⟩, y0⟩, xb⟩ := hS'; go_simp <;> rfl) hS1 ?_
       try simp only [pa, pb, pc, Act.put, pd, pe, pf]
       refine tkg 6 rfl (by intro w' hS'; obtain ⟨⟨⟨x0, x1, x2⟩, y0⟩, xb⟩ := hS'; go_simp <;> rfl) hS1 ?_
       try simp only [pa, pb, pc, Act.put, pd, pe, pf]
       refine tkg 7 rfl (by intro w' hS'; obtain ⟨⟨⟨x0, x1, x2⟩, y0⟩, xb⟩ := hS'; go_simp <;> rfl) hS1 ?_
       try simp only [pa, pb, pc, Act.put, pd, pe, pf]
       refine tkg 8 rfl (by intro w' hS'; obtain ⟨⟨⟨x0, x1, x2⟩, y0⟩, xb⟩ := hS'; go_simp <;> rfl) hS1 ?_
       try simp only [pa, pb, pc, Act.put, pd, pe, pf]
       refine tkg 9 rfl (by intro w' hS'; obtain ⟨⟨⟨x0, x1, x2⟩, y0⟩, xb⟩ := hS'; go_simp <;> rfl) hS1 ?_
       try simp only [pa, pb, pc, Act.put, pd, pe, pf]
       refine tkg 10 rfl (by intro w' hS'; obtain ⟨⟨⟨x0, x1, x2⟩, y0⟩, xb⟩ := hS'; go_simp <;> rfl) hS1 ?_
       try simp only [pa, pb, pc, Act.put, pd, pe, pf]
       refine tkg 11 rfl (by intro w' hS'; obtain ⟨⟨⟨x0, x1, x2⟩, y0⟩, xb⟩ := hS'; go_simp <;> rfl) hS1 ?_
       try simp only [pa, pb, pc, Act.put, pd, pe, pf]
       refine tkg 12 rfl (by intro w' hS'; obtain ⟨⟨⟨x0, x1, x2⟩, y0⟩, xb⟩ := hS'; go_simp <;> rfl) hS1 ?_
       try simp only [pa, pb, pc, Act.put, pd, pe, pf]
       refine tkg 13 rfl (by intro w' hS'; obtain ⟨⟨⟨x0, x1, x2⟩, y0⟩, xb⟩ := hS'; go_simp <;> rfl) hS1 ?_
       try simp only [pa, pb, pc, Act.put, pd, pe, pf]
       refine tkg 14 rfl (by intro w' hS'; obtain ⟨⟨⟨x0, x1, x2⟩, y0⟩, xb⟩ := hS'; go_simp <;> rfl) hS1 ?_
       try simp only [pa, pb, pc, Act.put, pd, pe, pf]
       refine tkg 15 rfl (by intro w' hS'; obtain ⟨⟨⟨x0, x1, x2⟩, y0⟩, xb⟩ := hS'; go_simp <;> rfl) hS1 ?_
       try simp only [pa, pb, pc, Act.put, pd, pe, pf]
       refine tkg 16 rfl (by intro w' hS'; obtain ⟨⟨⟨x0, x1, x2⟩, y0⟩, xb⟩ := hS'; go_simp <;> rfl) hS1 ?_
       try simp only [pa, pb, pc, Act.put, pd, pe, pf]
       refine tkg 17 rfl (by intro w' hS'; obtain ⟨⟨⟨x0, x1, x2⟩, y0⟩, xb⟩ := hS'; go_simp <;> rfl) hS1 ?_
       try simp only [pa, pb, pc, Act.put, pd, pe, pf]
       refine tkg 18 rfl (by intro w' hS'; obtain ⟨⟨⟨x0, x1, x2⟩, y0⟩, xb⟩ := hS'; go_simp <;> rfl) hS1 ?_
       try simp only [pa, pb, pc, Act.put, pd, pe, pf]
       refine tkg 19 rfl (by intro w' hS'; obtain ⟨⟨⟨x0, x1, x2⟩, y0⟩, xb⟩ := hS'; go_simp <;> rfl) hS1 ?_
       try simp only [pa, pb, pc, Act.put, pd, pe, pf]
       refine tkg 20 rfl (by intro w' hS'; obtain ⟨⟨⟨x0, x1, x2⟩, y0⟩, xb⟩ := hS'; go_simp <;> rfl) hS1 ?_
       try simp only [pa, pb, pc, Act.put, pd, pe, pf]
       refine tkg 21 rfl (by intro w' hS'; obtain ⟨⟨⟨x0, x1, x2⟩, y0⟩, xb⟩ := hS'; go_simp <;> rfl) hS1 ?_
       try simp only [pa, pb, pc, Act.put, pd, pe, pf]
       refine tkg 22 rfl (by intro w' hS'; obtain ⟨⟨⟨x0, x1, x2⟩, y0⟩, xb⟩ := hS'; go_simp <;> rfl) hS1 ?_
       try simp only [pa, pb, pc, Act.put, pd, pe, pf]
       refine tkg 23 rfl (by intro w' hS'; obtain ⟨⟨⟨x0, x1, x2⟩, y0⟩, xb⟩ := hS'; go_simp <;> rfl) hS1 ?_
       try simp only [pa, pb, pc, Act.put, pd, pe, pf]
       refine wpAnyL_done (by kernel_rfl) (NoPanic.normal ?_) _
       go_wp2
       go_ret
       exact ⟨by rw [E.out]; rfl, hS1.2⟩
   ·have hlti : ¬ (i : Int) < (zs.length : Int) := by omega
    have E : Hid (B = true) := by show _ = _; rw [HP.out, walk_end (by omega)]
    clear HL HP
    go_wp2
    go_ret
    exact ⟨by rw [E.out]; rfl, hb⟩
 ·have E : Hid (B = false) := by show _ = _; rw [HB.out]; simp [mayB, hl]
  have hli : (1024 : Int) < (zs.length : Int) := by omega
  clear HB HL hl
  go_enter Tryz.func80, Tryz.ntmps80
  go_wp2
  go_ret
  exact ⟨by rw [E.out]; rfl, Below.refl _ _⟩
end Go.Proofs.YtfpbgfmnjpamlaaGreat

