import Derived.Test.YtfpbgfmnjpamlaaGreatHv18
/- The document's Marks. -/
namespace Go.Proofs.YtfpbgfmnjpamlaaGreat
open Go.RowKit LeaseMath
set_option maxRecDepth 100000
set_option linter.unusedSimpArgs false
set_option linter.unusedVariables false

set_option maxHeartbeats 4000000 in
theorem rmarks_of (zs : List Mk) (lv : Value) (w : World) (hL : Rd markE w lv zs) : Calls Tryz.prog 81 #[lv] w fun e w' => e = .returned (.bool (mayB markB zs)) ∧ Below w.heap.size w w' := by
 obtain ⟨B, HB⟩ : ∃ B, Hid (B = mayB markB zs) := ⟨_, rfl⟩
 rw [← HB.out]
 have HL : Hid (Rd markE w lv zs) := hL
 obtain ⟨ao, cap, rfl, -, -⟩ := hL.shape
 clear hL
 by_cases hl : zs.length ≤ 1024
 ·have HB1 : Hid (B = walk markB (prev zs 0) (zs.drop 0)) := by show _ = _; rw [HB.out]; simp [mayB, hl, prev]
  have hli : ¬ (1024 : Int) < (zs.length : Int) := by omega
  clear HB
  go_enter Tryz.func81, Tryz.ntmps81
  go_wp2
  go_loopg [3] zs.length (fun g s3 wr => ∃ i : Nat, i + g = zs.length ∧ s3 = .int .i64 (i : Int) ∧ Below w.heap.size w wr ∧ Hid (B = walk markB (prev zs i) (zs.drop i)))
  case atStart => exact ⟨0, by omega, rfl, Below.refl _ _, HB1⟩
  case round =>
   obtain ⟨i, hig, rfl, hb, HP⟩ := hrel
   clear HB1
   by_cases hlt : i < zs.length
   ·have hlti : (i : Int) < (zs.length : Int) := by omega
    have hx : zs[i]? = some zs[i] := List.getElem?_eq_getElem hlt
    obtain ⟨z, hzz⟩ : ∃ z, z = zs[i] := ⟨_, rfl⟩
    rw [← hzz] at hx
    clear hzz
    obtain ⟨b, off, rfl, cc⟩ := rdm_at HL.out hx
    have hxH : Hid (zs[i]? = some z) := hx
    obtain ⟨k, t⟩ := z
    dsimp only at cc
    have cl : ∀ W, Below w.heap.size w W → (W.cell? ⟨b, off + i * 2, none⟩ = some (.string (bk k)) ∧ W.cell? ⟨b, off + i * 2 + 1, none⟩ = some (.int .u64 (t : Int))) := cc
    clear hx cc
    by_cases hm : k.length ≤ 64
    ·have hmi : ¬ (64 : Int) < (k.length : Int) := by omega
     have hmd : decide ((64 : Int) < (k.length : Int)) = false := decide_eq_false hmi
     by_cases ht : t = 0
     ·have E : Hid (B = false) := by show _ = _; rw [HP.out, walk_at hxH.out]; simp [markB, ht]
      have hti : (t : Int) = 0 := by omega
      have htb : ((t : Int) == 0) = true := by simpa using ht
      have hS0 : (fun W => (W.cell? ⟨b, off + i * 2, none⟩ = some (.string (bk k)) ∧ W.cell? ⟨b, off + i * 2 + 1, none⟩ = some (.int .u64 (t : Int))) ∧ Below w.heap.size w W) wr.drew := ⟨cl _ hb.drew, hb.drew⟩
      clear HP ht cl hxH HL
      go_wp2
      refine wp_region_L (fun W => (W.cell? ⟨b, off + i * 2, none⟩ = some (.string (bk k)) ∧ W.cell? ⟨b, off + i * 2 + 1, none⟩ = some (.int .u64 (t : Int))) ∧ Below w.heap.size w W) [] (by kernel_rfl) ?_
      have yS : (fun W => (W.cell? ⟨b, off + i * 2, none⟩ = some (.string (bk k)) ∧ W.cell? ⟨b, off + i * 2 + 1, none⟩ = some (.int .u64 (t : Int))) ∧ Below w.heap.size w W) wr.drew := hS0
      refine tkg 0 rfl (by intro w' hS'; obtain ⟨⟨x0, x1⟩, xb⟩ := hS'; go_simp <;> rfl) yS ?_
      try simp only [pa, pb, pc, Act.put, pd, pe, pf]
      refine tkg 1 rfl (by intro w' hS'; obtain ⟨⟨x0, x1⟩, xb⟩ := hS'; go_simp <;> rfl) yS ?_
      try simp only [pa, pb, pc, Act.put, pd, pe, pf]
      refine tkg 2 rfl (by intro w' hS'; obtain ⟨⟨x0, x1⟩, xb⟩ := hS'; go_simp <;> rfl) yS ?_
      try simp only [pa, pb, pc, Act.put, pd, pe, pf]
      refine tkg 3 rfl (by intro w' hS'; obtain ⟨⟨x0, x1⟩, xb⟩ := hS'; go_simp <;> rfl) yS ?_
      try simp only [pa, pb, pc, Act.put, pd, pe, pf]
      refine tkg 4 rfl (by intro w' hS'; obtain ⟨⟨x0, x1⟩, xb⟩ := hS'; go_simp <;> rfl) yS ?_
      try simp only [pa, pb, pc, Act.put, pd, pe, pf]
      refine tkg 5 rfl (by intro w' hS'; obtain ⟨⟨x0, x1⟩, xb⟩ := hS'; go_simp <;> rfl) yS ?_
      try simp only [pa, pb, pc, Act.put, pd, pe, pf]
      refine tkg 6 rfl (by intro w' hS'; obtain ⟨⟨x0, x1⟩, xb⟩ := hS'; go_simp <;> rfl) yS ?_
      try simp only [pa, pb, pc, Act.put, pd, pe, pf]
      refine tkg 7 rfl (by intro w' hS'; obtain ⟨⟨x0, x1⟩, xb⟩ := hS'; go_simp <;> rfl) yS ?_
      try simp only [pa, pb, pc, Act.put, pd, pe, pf]
      refine tkg 8 rfl (by intro w' hS'; obtain ⟨⟨x0, x1⟩, xb⟩ := hS'; go_simp <;> rfl) yS ?_
      try simp only [pa, pb, pc, Act.put, pd, pe, pf]
      refine tkg 9 rfl (by intro w' hS'; obtain ⟨⟨x0, x1⟩, xb⟩ := hS'; go_simp <;> rfl) yS ?_
      try simp only [pa, pb, pc, Act.put, pd, pe, pf]
      refine tkg 10 rfl (by intro w' hS'; obtain ⟨⟨x0, x1⟩, xb⟩ := hS'; go_simp <;> rfl) yS ?_
      try simp only [pa, pb, pc, Act.put, pd, pe, pf]
      refine tkg 11 rfl (by intro w' hS'; obtain ⟨⟨x0, x1⟩, xb⟩ := hS'; go_simp <;> rfl) yS ?_
      try simp only [pa, pb, pc, Act.put, pd, pe, pf]
      refine tkg 12 rfl (by intro w' hS'; obtain ⟨⟨x0, x1⟩, xb⟩ := hS'; go_simp <;> rfl) yS ?_
      try simp only [pa, pb, pc, Act.put, pd, pe, pf]
      refine tkg 13 rfl (by intro w' hS'; obtain ⟨⟨x0, x1⟩, xb⟩ := hS'; go_simp <;> rfl) yS ?_
      try simp only [pa, pb, pc, Act.put, pd, pe, pf]
      refine tkg 14 rfl (by intro w' hS'; obtain ⟨⟨x0, x1⟩, xb⟩ := hS'; go_simp <;> rfl) yS ?_
      try simp only [pa, pb, pc, Act.put, pd, pe, pf]
      refine tkg 15 rfl (by intro w' hS'; obtain ⟨⟨x0, x1⟩, xb⟩ := hS'; go_simp <;> rfl) yS ?_
      try simp only [pa, pb, pc, Act.put, pd, pe, pf]
      refine skg 16 rfl yS ?_
      try simp only [pa, pb, pc, Act.put, pd, pe, pf]
      refine skg 17 rfl yS ?_
      try simp only [pa, pb, pc, Act.put, pd, pe, pf]
      refine skg 18 rfl yS ?_
      try simp only [pa, pb, pc, Act.put, pd, pe, pf]
      refine skg 19 rfl yS ?_
      try simp only [pa, pb, pc, Act.put, pd, pe, pf]
      refine skg 20 rfl yS ?_
      try simp only [pa, pb, pc, Act.put, pd, pe, pf]
      refine skg 21 rfl yS ?_
      try simp only [pa, pb, pc, Act.put, pd, pe, pf]
      refine skg 22 rfl yS ?_
      try simp only [pa, pb, pc, Act.put, pd, pe, pf]
      refine skg 23 rfl yS ?_
      try simp only [pa, pb, pc, Act.put, pd, pe, pf]
      refine skg 24 rfl yS ?_
      try simp only [pa, pb, pc, Act.put, pd, pe, pf]
      refine skg 25 rfl yS ?_
      try simp only [pa, pb, pc, Act.put, pd, pe, pf]
      refine skg 26 rfl yS ?_
      try simp only [pa, pb, pc, Act.put, pd, pe, pf]
      refine skg 27 rfl yS ?_
      try simp only [pa, pb, pc, Act.put, pd, pe, pf]
      refine skg 28 rfl yS ?_
      try simp only [pa, pb, pc, Act.put, pd, pe, pf]
      refine skg 29 rfl yS ?_
      try simp only [pa, pb, pc, Act.put, pd, pe, pf]
      refine skg 30 rfl yS ?_
      try simp only [pa, pb, pc, Act.put, pd, pe, pf]
      refine skg 31 rfl yS ?_
      try simp only [pa, pb, pc, Act.put, pd, pe, pf]
      refine tkg 32 rfl (by intro w' hS'; obtain ⟨⟨x0, x1⟩, xb⟩ := hS'; go_simp <;> rfl) yS ?_
      try simp only [pa, pb, pc, Act.put, pd, pe, pf]
      refine wpAnyL_done (by kernel_rfl) (NoPanic.normal ?_) _
      go_wp2
      go_ret
      exact ⟨by rw [E.out]; rfl, hS0.2⟩
     ·have hti : ¬ (t : Int) = 0 := by omega
      have htb : ((t : Int) == 0) = false := by simpa using ht
      have HOK : Hid (markB (k, t) = true) := mark_iff.2 ⟨hm, ht⟩
      by_cases hi0 : i = 0
      ·have HN : Hid (B = walk markB (prev zs (i + 1)) (zs.drop (i + 1))) := by show _ = _; rw [HP.out, walk_at hxH.out, HOK.out, prev_succ hxH.out]; simp [prev, lnk, hi0]
       have hi0i : ¬ (0 : Int) < (i : Int) := by omega
       have hi0d : decide ((0 : Int) < (i : Int)) = false := decide_eq_false hi0i
       have hi0n : ¬ 0 < i := by omega
       have hi0dn : decide (0 < i) = false := decide_eq_false hi0n
       have hS0 : (fun W => (W.cell? ⟨b, off + i * 2, none⟩ = some (.string (bk k)) ∧ W.cell? ⟨b, off + i * 2 + 1, none⟩ = some (.int .u64 (t : Int))) ∧ Below w.heap.size w W) wr.drew := ⟨cl _ hb.drew, hb.drew⟩
       clear hi0 HOK ht
       clear HP hm cl hxH HL
       go_wp2
       refine wp_region_L (fun W => (W.cell? ⟨b, off + i * 2, none⟩ = some (.string (bk k)) ∧ W.cell? ⟨b, off + i * 2 + 1, none⟩ = some (.int .u64 (t : Int))) ∧ Below w.heap.size w W) [] (by kernel_rfl) ?_
       have yS : (fun W => (W.cell? ⟨b, off + i * 2, none⟩ = some (.string (bk k)) ∧ W.cell? ⟨b, off + i * 2 + 1, none⟩ = some (.int .u64 (t : Int))) ∧ Below w.heap.size w W) wr.drew := hS0
       refine tkg 0 rfl (by intro w' hS'; obtain ⟨⟨x0, x1⟩, xb⟩ := hS'; go_simp <;> rfl) yS ?_
       try simp only [pa, pb, pc, Act.put, pd, pe, pf]
       refine tkg 1 rfl (by intro w' hS'; obtain ⟨⟨x0, x1⟩, xb⟩ := hS'; go_simp <;> rfl) yS ?_
       try simp only [pa, pb, pc, Act.put, pd, pe, pf]
       refine tkg 2 rfl (by intro w' hS'; obtain ⟨⟨x0, x1⟩, xb⟩ := hS'; go_simp <;> rfl) yS ?_
       try simp only [pa, pb, pc, Act.put, pd, pe, pf]
       refine tkg 3 rfl (by intro w' hS'; obtain ⟨⟨x0, x1⟩, xb⟩ := hS'; go_simp <;> rfl) yS ?_
       try simp only [pa, pb, pc, Act.put, pd, pe, pf]
       refine tkg 4 rfl (by intro w' hS'; obtain ⟨⟨x0, x1⟩, xb⟩ := hS'; go_simp <;> rfl) yS ?_
       try simp only [pa, pb, pc, Act.put, pd, pe, pf]
       refine tkg 5 rfl (by intro w' hS'; obtain ⟨⟨x0, x1⟩, xb⟩ := hS'; go_simp <;> rfl) yS ?_
       try simp only [pa, pb, pc, Act.put, pd, pe, pf]
       refine tkg 6 rfl (by intro w' hS'; obtain ⟨⟨x0, x1⟩, xb⟩ := hS'; go_simp <;> rfl) yS ?_
       try simp only [pa, pb, pc, Act.put, pd, pe, pf]
       refine tkg 7 rfl (by intro w' hS'; obtain ⟨⟨x0, x1⟩, xb⟩ := hS'; go_simp <;> rfl) yS ?_
       try simp only [pa, pb, pc, Act.put, pd, pe, pf]
       refine tkg 8 rfl (by intro w' hS'; obtain ⟨⟨x0, x1⟩, xb⟩ := hS'; go_simp <;> rfl) yS ?_
       try simp only [pa, pb, pc, Act.put, pd, pe, pf]
       refine tkg 9 rfl (by intro w' hS'; obtain ⟨⟨x0, x1⟩, xb⟩ := hS'; go_simp <;> rfl) yS ?_
       try simp only [pa, pb, pc, Act.put, pd, pe, pf]
       refine tkg 10 rfl (by intro w' hS'; obtain ⟨⟨x0, x1⟩, xb⟩ := hS'; go_simp <;> rfl) yS ?_
       try simp only [pa, pb, pc, Act.put, pd, pe, pf]
       refine tkg 11 rfl (by intro w' hS'; obtain ⟨⟨x0, x1⟩, xb⟩ := hS'; go_simp <;> rfl) yS ?_
       try simp only [pa, pb, pc, Act.put, pd, pe, pf]
       refine tkg 12 rfl (by intro w' hS'; obtain ⟨⟨x0, x1⟩, xb⟩ := hS'; go_simp <;> rfl) yS ?_
       try simp only [pa, pb, pc, Act.put, pd, pe, pf]
       refine tkg 13 rfl (by intro w' hS'; obtain ⟨⟨x0, x1⟩, xb⟩ := hS'; go_simp <;> rfl) yS ?_
       try simp only [pa, pb, pc, Act.put, pd, pe, pf]
       refine tkg 14 rfl (by intro w' hS'; obtain ⟨⟨x0, x1⟩, xb⟩ := hS'; go_simp <;> rfl) yS ?_
       try simp only [pa, pb, pc, Act.put, pd, pe, pf]
       refine tkg 15 rfl (by intro w' hS'; obtain ⟨⟨x0, x1⟩, xb⟩ := hS'; go_simp <;> rfl) yS ?_
       try simp only [pa, pb, pc, Act.put, pd, pe, pf]
       refine tkg 16 rfl (by intro w' hS'; obtain ⟨⟨x0, x1⟩, xb⟩ := hS'; go_simp <;> rfl) yS ?_
       try simp only [pa, pb, pc, Act.put, pd, pe, pf]
       refine tkg 17 rfl (by intro w' hS'; obtain ⟨⟨x0, x1⟩, xb⟩ := hS'; go_simp <;> rfl) yS ?_
       try simp only [pa, pb, pc, Act.put, pd, pe, pf]
       refine tkg 18 rfl (by intro w' hS'; obtain ⟨⟨x0, x1⟩, xb⟩ := hS'; go_simp <;> rfl) yS ?_
       try simp only [pa, pb, pc, Act.put, pd, pe, pf]
       refine skg 19 rfl yS ?_
       try simp only [pa, pb, pc, Act.put, pd, pe, pf]
       refine skg 20 rfl yS ?_
       try simp only [pa, pb, pc, Act.put, pd, pe, pf]
       refine skg 21 rfl yS ?_
       try simp only [pa, pb, pc, Act.put, pd, pe, pf]
       refine skg 22 rfl yS ?_
       try simp only [pa, pb, pc, Act.put, pd, pe, pf]
       refine skg 23 rfl yS ?_
       try simp only [pa, pb, pc, Act.put, pd, pe, pf]
       refine skg 24 rfl yS ?_
       try simp only [pa, pb, pc, Act.put, pd, pe, pf]
       refine skg 25 rfl yS ?_
       try simp only [pa, pb, pc, Act.put, pd, pe, pf]
       refine skg 26 rfl yS ?_
       try simp only [pa, pb, pc, Act.put, pd, pe, pf]
       refine skg 27 rfl yS ?_
       try simp only [pa, pb, pc, Act.put, pd, pe, pf]
       refine skg 28 rfl yS ?_
       try simp only [pa, pb, pc, Act.put, pd, pe, pf]
       refine skg 29 rfl yS ?_
       try simp only [pa, pb, pc, Act.put, pd, pe, pf]
       refine skg 30 rfl yS ?_
       try simp only [pa, pb, pc, Act.put, pd, pe, pf]
       refine tkg 31 rfl (by intro w' hS'; obtain ⟨⟨x0, x1⟩, xb⟩ := hS'; go_simp <;> rfl) yS ?_
       try simp only [pa, pb, pc, Act.put, pd, pe, pf]
       refine tkg 32 rfl (by intro w' hS'; obtain ⟨⟨x0, x1⟩, xb⟩ := hS'; go_simp <;> rfl) yS ?_
       try simp only [pa, pb, pc, Act.put, pd, pe, pf]
       refine wpAnyL_done (by kernel_rfl) (NoPanic.normal ?_) _
       go_wp2
       go_roundg (gk - 1)
       case measure => omega
       case rel => exact ⟨i + 1, by omega, by go_num, hS0.2, HN⟩
      ·have hi0i : (0 : Int) < (i : Int) := by omega
       have hi0n : 0 < i := by omega
       have hi1 : (1 : Int) ≤ (i : Int) := by omega
       have hi1n : 1 ≤ i := by omega
       have hr : zs[i - 1]? = some zs[i - 1] := List.getElem?_eq_getElem (by omega)
       obtain ⟨p, hp⟩ : ∃ p, p = zs[i - 1] := ⟨_, rfl⟩
       rw [← hp] at hr
       clear hp
       obtain ⟨b', off', e', cp⟩ := rdm_at HL.out hr
       cases e'
       have hpv : Hid (prev zs i = some p) := by show _ = _; unfold prev; rw [if_neg hi0]; exact hr
       obtain ⟨yk, yt⟩ := p
       dsimp only at cp hpv
       replace cl : ∀ W, Below w.heap.size w W → (W.cell? ⟨b, off + i * 2, none⟩ = some (.string (bk k)) ∧ W.cell? ⟨b, off + i * 2 + 1, none⟩ = some (.int .u64 (t : Int))) ∧ W.cell? ⟨b, off + (i - 1) * 2, none⟩ = some (.string (bk yk)) := fun W hW => ⟨cl W hW, (cp W hW).1⟩
       have j1 : IntKind.i64.wrap ((i : Int) - 1) = (i : Int) - 1 := IntWalk.i64_in _ (by omega)
       have j2 : (0 : Int) ≤ (i : Int) - 1 := by omega
       have j3 : (i : Int) - 1 < (zs.length : Int) := by omega
       have j4 : ((i : Int) - 1).toNat = i - 1 := by omega
       clear hr cp
       by_cases hcc : yk < k
       ·have HN : Hid (B = walk markB (prev zs (i + 1)) (zs.drop (i + 1))) := by show _ = _; rw [HP.out, walk_at hxH.out, HOK.out, hpv.out, prev_succ hxH.out]; simp [lnk, hcc]
        have hcd : ¬ k ≤ yk := by grind
        have hcd2 : decide (k ≤ yk) = false := decide_eq_false hcd
        have hS0 : (fun W => ((W.cell? ⟨b, off + i * 2, none⟩ = some (.string (bk k)) ∧ W.cell? ⟨b, off + i * 2 + 1, none⟩ = some (.int .u64 (t : Int))) ∧ W.cell? ⟨b, off + (i - 1) * 2, none⟩ = some (.string (bk yk))) ∧ Below w.heap.size w W) wr.drew := ⟨cl _ hb.drew, hb.drew⟩
        clear hpv hi0 HOK ht
        clear HP hm cl hxH HL
        go_wp2
        refine wp_region_L (fun W => ((W.cell? ⟨b, off + i * 2, none⟩ = some (.string (bk k)) ∧ W.cell? ⟨b, off + i * 2 + 1, none⟩ = some (.int .u64 (t : Int))) ∧ W.cell? ⟨b, off + (i - 1) * 2, none⟩ = some (.string (bk yk))) ∧ Below w.heap.size w W) [] (by kernel_rfl) ?_
        have yS : (fun W => ((W.cell? ⟨b, off + i * 2, none⟩ = some (.string (bk k)) ∧ W.cell? ⟨b, off + i * 2 + 1, none⟩ = some (.int .u64 (t : Int))) ∧ W.cell? ⟨b, off + (i - 1) * 2, none⟩ = some (.string (bk yk))) ∧ Below w.heap.size w W) wr.drew := hS0
        refine tkg 0 rfl (by intro w' hS'; obtain ⟨⟨⟨x0, x1⟩, y0⟩, xb⟩ := hS'; go_simp <;> rfl) yS ?_
        try simp only [pa, pb, pc, Act.put, pd, pe, pf]
        refine tkg 1 rfl (by intro w' hS'; obtain ⟨⟨⟨x0, x1⟩, y0⟩, xb⟩ := hS'; go_simp <;> rfl) yS ?_
        try simp only [pa, pb, pc, Act.put, pd, pe, pf]
        refine tkg 2 rfl (by intro w' hS'; obtain ⟨⟨⟨x0, x1⟩, y0⟩, xb⟩ := hS'; go_simp <;> rfl) yS ?_
        try simp only [pa, pb, pc, Act.put, pd, pe, pf]
        refine tkg 3 rfl (by intro w' hS'; obtain ⟨⟨⟨x0, x1⟩, y0⟩, xb⟩ := hS'; go_simp <;> rfl) yS ?_
        try simp only [pa, pb, pc, Act.put, pd, pe, pf]
        refine tkg 4 rfl (by intro w' hS'; obtain ⟨⟨⟨x0, x1⟩, y0⟩, xb⟩ := hS'; go_simp <;> rfl) yS ?_
        try simp only [pa, pb, pc, Act.put, pd, pe, pf]
        refine tkg 5 rfl (by intro w' hS'; obtain ⟨⟨⟨x0, x1⟩, y0⟩, xb⟩ := hS'; go_simp <;> rfl) yS ?_
        try simp only [pa, pb, pc, Act.put, pd, pe, pf]
        refine tkg 6 rfl (by intro w' hS'; obtain ⟨⟨⟨x0, x1⟩, y0⟩, xb⟩ := hS'; go_simp <;> rfl) yS ?_
        try simp only [pa, pb, pc, Act.put, pd, pe, pf]
        refine tkg 7 rfl (by intro w' hS'; obtain ⟨⟨⟨x0, x1⟩, y0⟩, xb⟩ := hS'; go_simp <;> rfl) yS ?_
        try simp only [pa, pb, pc, Act.put, pd, pe, pf]
        refine tkg 8 rfl (by intro w' hS'; obtain ⟨⟨⟨x0, x1⟩, y0⟩, xb⟩ := hS'; go_simp <;> rfl) yS ?_
        try simp only [pa, pb, pc, Act.put, pd, pe, pf]
        refine tkg 9 rfl (by intro w' hS'; obtain ⟨⟨⟨x0, x1⟩, y0⟩, xb⟩ := hS'; go_simp <;> rfl) yS ?_
        try simp only [pa, pb, pc, Act.put, pd, pe, pf]
        refine tkg 10 rfl (by intro w' hS'; obtain ⟨⟨⟨x0, x1⟩, y0⟩, xb⟩ := hS'; go_simp <;> rfl) yS ?_
        try simp only [pa, pb, pc, Act.put, pd, pe, pf]
        refine tkg 11 rfl (by intro w' hS'; obtain ⟨⟨⟨x0, x1⟩, y0⟩, xb⟩ := hS'; go_simp <;> rfl) yS ?_
        try simp only [pa, pb, pc, Act.put, pd, pe, pf]
        refine tkg 12 rfl (by intro w' hS'; obtain ⟨⟨⟨x0, x1⟩, y0⟩, xb⟩ := hS'; go_simp <;> rfl) yS ?_
        try simp only [pa, pb, pc, Act.put, pd, pe, pf]
        refine tkg 13 rfl (by intro w' hS'; obtain ⟨⟨⟨x0, x1⟩, y0⟩, xb⟩ := hS'; go_simp <;> rfl) yS ?_
        try simp only [pa, pb, pc, Act.put, pd, pe, pf]
        refine tkg 14 rfl (by intro w' hS'; obtain ⟨⟨⟨x0, x1⟩, y0⟩, xb⟩ := hS'; go_simp <;> rfl) yS ?_
        try simp only [pa, pb, pc, Act.put, pd, pe, pf]
        refine tkg 15 rfl (by intro w' hS'; obtain ⟨⟨⟨x0, x1⟩, y0⟩, xb⟩ := hS'; go_simp <;> rfl) yS ?_
        try simp only [pa, pb, pc, Act.put, pd, pe, pf]
        refine tkg 16 rfl (by intro w' hS'; obtain ⟨⟨⟨x0, x1⟩, y0⟩, xb⟩ := hS'; go_simp <;> rfl) yS ?_
        try simp only [pa, pb, pc, Act.put, pd, pe, pf]
        refine tkg 17 rfl (by intro w' hS'; obtain ⟨⟨⟨x0, x1⟩, y0⟩, xb⟩ := hS'; go_simp <;> rfl) yS ?_
        try simp only [pa, pb, pc, Act.put, pd, pe, pf]
        refine tkg 18 rfl (by intro w' hS'; obtain ⟨⟨⟨x0, x1⟩, y0⟩, xb⟩ := hS'; go_simp <;> rfl) yS ?_
        try simp only [pa, pb, pc, Act.put, pd, pe, pf]
        refine tkg 19 rfl (by intro w' hS'; obtain ⟨⟨⟨x0, x1⟩, y0⟩, xb⟩ := hS'; go_simp <;> rfl) yS ?_
        try simp only [pa, pb, pc, Act.put, pd, pe, pf]
        refine tkg 20 rfl (by intro w' hS'; obtain ⟨⟨⟨x0, x1⟩, y0⟩, xb⟩ := hS'; go_simp <;> rfl) yS ?_
        try simp only [pa, pb, pc, Act.put, pd, pe, pf]
        refine tkg 21 rfl (by intro w' hS'; obtain ⟨⟨⟨x0, x1⟩, y0⟩, xb⟩ := hS'; go_simp <;> rfl) yS ?_
        try simp only [pa, pb, pc, Act.put, pd, pe, pf]
        refine tkg 22 rfl (by intro w' hS'; obtain ⟨⟨⟨x0, x1⟩, y0⟩, xb⟩ := hS'; go_simp <;> rfl) yS ?_
        try simp only [pa, pb, pc, Act.put, pd, pe, pf]
        refine tkg 23 rfl (by intro w' hS'; obtain ⟨⟨⟨x0, x1⟩, y0⟩, xb⟩ := hS'; go_simp <;> rfl) yS ?_
        try simp only [pa, pb, pc, Act.put, pd, pe, pf]
        refine tkg 24 rfl (by intro w' hS'; obtain ⟨⟨⟨x0, x1⟩, y0⟩, xb⟩ := hS'; go_simp <;> rfl) yS ?_
        try simp only [pa, pb, pc, Act.put, pd, pe, pf]
        refine tkg 25 rfl (by intro w' hS'; obtain ⟨⟨⟨x0, x1⟩, y0⟩, xb⟩ := hS'; go_simp <;> rfl) yS ?_
        try simp only [pa, pb, pc, Act.put, pd, pe, pf]
        refine tkg 26 rfl (by intro w' hS'; obtain ⟨⟨⟨x0, x1⟩, y0⟩, xb⟩ := hS'; go_simp <;> rfl) yS ?_
        try simp only [pa, pb, pc, Act.put, pd, pe, pf]
        refine tkg 27 rfl (by intro w' hS'; obtain ⟨⟨⟨x0, x1⟩, y0⟩, xb⟩ := hS'; go_simp <;> rfl) yS ?_
        try simp only [pa, pb, pc, Act.put, pd, pe, pf]
        refine tkg 28 rfl (by intro w' hS'; obtain ⟨⟨⟨x0, x1⟩, y0⟩, xb⟩ := hS'; go_simp <;> rfl) yS ?_
        try simp only [pa, pb, pc, Act.put, pd, pe, pf]
        refine tkg 29 rfl (by intro w' hS'; obtain ⟨⟨⟨x0, x1⟩, y0⟩, xb⟩ := hS'; go_simp <;> rfl) yS ?_
        try simp only [pa, pb, pc, Act.put, pd, pe, pf]
        refine tkg 30 rfl (by intro w' hS'; obtain ⟨⟨⟨x0, x1⟩, y0⟩, xb⟩ := hS'; go_simp <;> rfl) yS ?_
        try simp only [pa, pb, pc, Act.put, pd, pe, pf]
        refine tkg 31 rfl (by intro w' hS'; obtain ⟨⟨⟨x0, x1⟩, y0⟩, xb⟩ := hS'; go_simp <;> rfl) yS ?_
        try simp only [pa, pb, pc, Act.put, pd, pe, pf]
        refine tkg 32 rfl (by intro w' hS'; obtain ⟨⟨⟨x0, x1⟩, y0⟩, xb⟩ := hS'; go_simp <;> rfl) yS ?_
        try simp only [pa, pb, pc, Act.put, pd, pe, pf]
        refine wpAnyL_done (by kernel_rfl) (NoPanic.normal ?_) _
        go_wp2
        go_roundg (gk - 1)
        case measure => omega
        case rel => exact ⟨i + 1, by omega, by go_num, hS0.2, HN⟩
       ·have E : Hid (B = false) := by show _ = _; rw [HP.out, walk_at hxH.out, HOK.out, hpv.out]; simp [lnk, hcc]
        have hcd : k ≤ yk := by grind
        have hcd2 : decide (k ≤ yk) = true := decide_eq_true hcd
        have hS0 : (fun W => ((W.cell? ⟨b, off + i * 2, none⟩ = some (.string (bk k)) ∧ W.cell? ⟨b, off + i * 2 + 1, none⟩ = some (.int .u64 (t : Int))) ∧ W.cell? ⟨b, off + (i - 1) * 2, none⟩ = some (.string (bk yk))) ∧ Below w.heap.size w W) wr.drew := ⟨cl _ hb.drew, hb.drew⟩
        clear hpv hi0 HOK ht
        clear HP hm cl hxH HL
        go_wp2
        refine wp_region_L (fun W => ((W.cell? ⟨b, off + i * 2, none⟩ = some (.string (bk k)) ∧ W.cell? ⟨b, off + i * 2 + 1, none⟩ = some (.int .u64 (t : Int))) ∧ W.cell? ⟨b, off + (i - 1) * 2, none⟩ = some (.string (bk yk))) ∧ Below w.heap.size w W) [] (by kernel_rfl) ?_
        have yS : (fun W => ((W.cell? ⟨b, off + i * 2, none⟩ = some (.string (bk k)) ∧ W.cell? ⟨b, off + i * 2 + 1, none⟩ = some (.int .u64 (t : Int))) ∧ W.cell? ⟨b, off + (i - 1) * 2, none⟩ = some (.string (bk yk))) ∧ Below w.heap.size w W) wr.drew := hS0
        refine tkg 0 rfl (by intro w' hS'; obtain ⟨⟨⟨x0, x1⟩, y0⟩, xb⟩ := hS'; go_simp <;> rfl) yS ?_
        try simp only [pa, pb, pc, Act.put, pd, pe, pf]
        refine tkg 1 rfl (by intro w' hS'; obtain ⟨⟨⟨x0, x1⟩, y0⟩, xb⟩ := hS'; go_simp <;> rfl) yS ?_
        try simp only [pa, pb, pc, Act.put, pd, pe, pf]
        refine tkg 2 rfl (by intro w' hS'; obtain ⟨⟨⟨x0, x1⟩, y0⟩, xb⟩ := hS'; go_simp <;> rfl) yS ?_
        try simp only [pa, pb, pc, Act.put, pd, pe, pf]
        refine tkg 3 rfl (by intro w' hS'; obtain ⟨⟨⟨x0, x1⟩, y0⟩, xb⟩ := hS'; go_simp <;> rfl) yS ?_
        try simp only [pa, pb, pc, Act.put, pd, pe, pf]
        refine tkg 4 rfl (by intro w' hS'; obtain ⟨⟨⟨x0, x1⟩, y0⟩, xb⟩ := hS'; go_simp <;> rfl) yS ?_
        try simp only [pa, pb, pc, Act.put, pd, pe, pf]
        refine tkg 5 rfl (by intro w' hS'; obtain ⟨⟨⟨x0, x1⟩, y0⟩, xb⟩ := hS'; go_simp <;> rfl) yS ?_
        try simp only [pa, pb, pc, Act.put, pd, pe, pf]
        refine tkg 6 rfl (by intro w' hS'; obtain ⟨⟨⟨x0, x1⟩, y0⟩, xb⟩ := hS'; go_simp <;> rfl) yS ?_
        try simp only [pa, pb, pc, Act.put, pd, pe, pf]
        refine tkg 7 rfl (by intro w' hS'; obtain ⟨⟨⟨x0, x1⟩, y0⟩, xb⟩ := hS'; go_simp <;> rfl) yS ?_
        try simp only [pa, pb, pc, Act.put, pd, pe, pf]
        refine tkg 8 rfl (by intro w' hS'; obtain ⟨⟨⟨x0, x1⟩, y0⟩, xb⟩ := hS'; go_simp <;> rfl) yS ?_
        try simp only [pa, pb, pc, Act.put, pd, pe, pf]
        refine tkg 9 rfl (by intro w' hS'; obtain ⟨⟨⟨x0, x1⟩, y0⟩, xb⟩ := hS'; go_simp <;> rfl) yS ?_
        try simp only [pa, pb, pc, Act.put, pd, pe, pf]
        refine tkg 10 rfl (by intro w' hS'; obtain ⟨⟨⟨x0, x1⟩, y0⟩, xb⟩ := hS'; go_simp <;> rfl) yS ?_
        try simp only [pa, pb, pc, Act.put, pd, pe, pf]
        refine tkg 11 rfl (by intro w' hS'; obtain ⟨⟨⟨x0, x1⟩, y0⟩, xb⟩ := hS'; go_simp <;> rfl) yS ?_
        try simp only [pa, pb, pc, Act.put, pd, pe, pf]
        refine tkg 12 rfl (by intro w' hS'; obtain ⟨⟨⟨x0, x1⟩, y0⟩, xb⟩ := hS'; go_simp <;> rfl) yS ?_
        try simp only [pa, pb, pc, Act.put, pd, pe, pf]
        refine tkg 13 rfl (by intro w' hS'; obtain ⟨⟨⟨x0, x1⟩, y0⟩, xb⟩ := hS'; go_simp <;> rfl) yS ?_
        try simp only [pa, pb, pc, Act.put, pd, pe, pf]
        refine tkg 14 rfl (by intro w' hS'; obtain ⟨⟨⟨x0, x1⟩, y0⟩, xb⟩ := hS'; go_simp <;> rfl) yS ?_
        try simp only [pa, pb, pc, Act.put, pd, pe, pf]
        refine tkg 15 rfl (by intro w' hS'; obtain ⟨⟨⟨x0, x1⟩, y0⟩, xb⟩ := hS'; go_simp <;> rfl) yS ?_
        try simp only [pa, pb, pc, Act.put, pd, pe, pf]
        refine tkg 16 rfl (by intro w' hS'; obtain ⟨⟨⟨x0, x1⟩, y0⟩, xb⟩ := hS'; go_simp <;> rfl) yS ?_
        try simp only [pa, pb, pc, Act.put, pd, pe, pf]
        refine tkg 17 rfl (by intro w' hS'; obtain ⟨⟨⟨x0, x1⟩, y0⟩, xb⟩ := hS'; go_simp <;> rfl) yS ?_
        try simp only [pa, pb, pc, Act.put, pd, pe, pf]
        refine tkg 18 rfl (by intro w' hS'; obtain ⟨⟨⟨x0, x1⟩, y0⟩, xb⟩ := hS'; go_simp <;> rfl) yS ?_
        try simp only [pa, pb, pc, Act.put, pd, pe, pf]
        refine tkg 19 rfl (by intro w' hS'; obtain ⟨⟨⟨x0, x1⟩, y0⟩, xb⟩ := hS'; go_simp <;> rfl) yS ?_
        try simp only [pa, pb, pc, Act.put, pd, pe, pf]
        refine tkg 20 rfl (by intro w' hS'; obtain ⟨⟨⟨x0, x1⟩, y0⟩, xb⟩ := hS'; go_simp <;> rfl) yS ?_
        try simp only [pa, pb, pc, Act.put, pd, pe, pf]
        refine tkg 21 rfl (by intro w' hS'; obtain ⟨⟨⟨x0, x1⟩, y0⟩, xb⟩ := hS'; go_simp <;> rfl) yS ?_
        try simp only [pa, pb, pc, Act.put, pd, pe, pf]
        refine tkg 22 rfl (by intro w' hS'; obtain ⟨⟨⟨x0, x1⟩, y0⟩, xb⟩ := hS'; go_simp <;> rfl) yS ?_
        try simp only [pa, pb, pc, Act.put, pd, pe, pf]
        refine tkg 23 rfl (by intro w' hS'; obtain ⟨⟨⟨x0, x1⟩, y0⟩, xb⟩ := hS'; go_simp <;> rfl) yS ?_
        try simp only [pa, pb, pc, Act.put, pd, pe, pf]
        refine tkg 24 rfl (by intro w' hS'; obtain ⟨⟨⟨x0, x1⟩, y0⟩, xb⟩ := hS'; go_simp <;> rfl) yS ?_
        try simp only [pa, pb, pc, Act.put, pd, pe, pf]
        refine tkg 25 rfl (by intro w' hS'; obtain ⟨⟨⟨x0, x1⟩, y0⟩, xb⟩ := hS'; go_simp <;> rfl) yS ?_
        try simp only [pa, pb, pc, Act.put, pd, pe, pf]
        refine tkg 26 rfl (by intro w' hS'; obtain ⟨⟨⟨x0, x1⟩, y0⟩, xb⟩ := hS'; go_simp <;> rfl) yS ?_
        try simp only [pa, pb, pc, Act.put, pd, pe, pf]
        refine tkg 27 rfl (by intro w' hS'; obtain ⟨⟨⟨x0, x1⟩, y0⟩, xb⟩ := hS'; go_simp <;> rfl) yS ?_
        try simp only [pa, pb, pc, Act.put, pd, pe, pf]
        refine tkg 28 rfl (by intro w' hS'; obtain ⟨⟨⟨x0, x1⟩, y0⟩, xb⟩ := hS'; go_simp <;> rfl) yS ?_
        try simp only [pa, pb, pc, Act.put, pd, pe, pf]
        refine tkg 29 rfl (by intro w' hS'; obtain ⟨⟨⟨x0, x1⟩, y0⟩, xb⟩ := hS'; go_simp <;> rfl) yS ?_
        try simp only [pa, pb, pc, Act.put, pd, pe, pf]
        refine tkg 30 rfl (by intro w' hS'; obtain ⟨⟨⟨x0, x1⟩, y0⟩, xb⟩ := hS'; go_simp <;> rfl) yS ?_
        try simp only [pa, pb, pc, Act.put, pd, pe, pf]
        refine tkg 31 rfl (by intro w' hS'; obtain ⟨⟨⟨x0, x1⟩, y0⟩, xb⟩ := hS'; go_simp <;> rfl) yS ?_
        try simp only [pa, pb, pc, Act.put, pd, pe, pf]
        refine tkg 32 rfl (by intro w' hS'; obtain ⟨⟨⟨x0, x1⟩, y0⟩, xb⟩ := hS'; go_simp <;> rfl) yS ?_
        try simp only [pa, pb, pc, Act.put, pd, pe, pf]
        refine wpAnyL_done (by kernel_rfl) (NoPanic.normal ?_) _
        go_wp2
        go_ret
        exact ⟨by rw [E.out]; rfl, hS0.2⟩
    ·have E : Hid (B = false) := by show _ = _; rw [HP.out, walk_at hxH.out]; simp [markB, hm]
     have hmi : (64 : Int) < (k.length : Int) := by omega
     have hmd : decide ((64 : Int) < (k.length : Int)) = true := decide_eq_true hmi
     have hS0 : (fun W => (W.cell? ⟨b, off + i * 2, none⟩ = some (.string (bk k)) ∧ W.cell? ⟨b, off + i * 2 + 1, none⟩ = some (.int .u64 (t : Int))) ∧ Below w.heap.size w W) wr.drew := ⟨cl _ hb.drew, hb.drew⟩
     clear HP hm cl hxH HL
     go_wp2
     refine wp_region_L (fun W => (W.cell? ⟨b, off + i * 2, none⟩ = some (.string (bk k)) ∧ W.cell? ⟨b, off + i * 2 + 1, none⟩ = some (.int .u64 (t : Int))) ∧ Below w.heap.size w W) [] (by kernel_rfl) ?_
     have yS : (fun W => (W.cell? ⟨b, off + i * 2, none⟩ = some (.string (bk k)) ∧ W.cell? ⟨b, off + i * 2 + 1, none⟩ = some (.int .u64 (t : Int))) ∧ Below w.heap.size w W) wr.drew := hS0
     refine tkg 0 rfl (by intro w' hS'; obtain ⟨⟨x0, x1⟩, xb⟩ := hS'; go_simp <;> rfl) yS ?_
     try simp only [pa, pb, pc, Act.put, pd, pe, pf]
     refine tkg 1 rfl (by intro w' hS'; obtain ⟨⟨x0, x1⟩, xb⟩ := hS'; go_simp <;> rfl) yS ?_
     try simp only [pa, pb, pc, Act.put, pd, pe, pf]
     refine tkg 2 rfl (by intro w' hS'; obtain ⟨⟨x0, x1⟩, xb⟩ := hS'; go_simp <;> rfl) yS ?_
     try simp only [pa, pb, pc, Act.put, pd, pe, pf]
     refine tkg 3 rfl (by intro w' hS'; obtain ⟨⟨x0, x1⟩, xb⟩ := hS'; go_simp <;> rfl) yS ?_
     try simp only [pa, pb, pc, Act.put, pd, pe, pf]
     refine tkg 4 rfl (by intro w' hS'; obtain ⟨⟨x0, x1⟩, xb⟩ := hS'; go_simp <;> rfl) yS ?_
     try simp only [pa, pb, pc, Act.put, pd, pe, pf]
     refine tkg 5 rfl (by intro w' hS'; obtain ⟨⟨x0, x1⟩, xb⟩ := hS'; go_simp <;> rfl) yS ?_
     try simp only [pa, pb, pc, Act.put, pd, pe, pf]
     refine tkg 6 rfl (by intro w' hS'; obtain ⟨⟨x0, x1⟩, xb⟩ := hS'; go_simp <;> rfl) yS ?_
     try simp only [pa, pb, pc, Act.put, pd, pe, pf]
     refine tkg 7 rfl (by intro w' hS'; obtain ⟨⟨x0, x1⟩, xb⟩ := hS'; go_simp <;> rfl) yS ?_
     try simp only [pa, pb, pc, Act.put, pd, pe, pf]
     refine skg 8 rfl yS ?_
     try simp only [pa, pb, pc, Act.put, pd, pe, pf]
     refine skg 9 rfl yS ?_
     try simp only [pa, pb, pc, Act.put, pd, pe, pf]
     refine skg 10 rfl yS ?_
     try simp only [pa, pb, pc, Act.put, pd, pe, pf]
     refine skg 11 rfl yS ?_
     try simp only [pa, pb, pc, Act.put, pd, pe, pf]
     refine skg 12 rfl yS ?_
     try simp only [pa, pb, pc, Act.put, pd, pe, pf]
     refine skg 13 rfl yS ?_
     try simp only [pa, pb, pc, Act.put, pd, pe, pf]
     refine tkg 14 rfl (by intro w' hS'; obtain ⟨⟨x0, x1⟩, xb⟩ := hS'; go_simp <;> rfl) yS ?_
     try simp only [pa, pb, pc, Act.put, pd, pe, pf]
     refine tkg 15 rfl (by intro w' hS'; obtain ⟨⟨x0, x1⟩, xb⟩ := hS'; go_simp <;> rfl) yS ?_
     try simp only [pa, pb, pc, Act.put, pd, pe, pf]
     refine skg 16 rfl yS ?_
     try simp only [pa, pb, pc, Act.put, pd, pe, pf]
     refine skg 17 rfl yS ?_
     try simp only [pa, pb, pc, Act.put, pd, pe, pf]
     refine skg 18 rfl yS ?_
     try simp only [pa, pb, pc, Act.put, pd, pe, pf]
     refine skg 19 rfl yS ?_
     try simp only [pa, pb, pc, Act.put, pd, pe, pf]
     refine skg 20 rfl yS ?_
     try simp only [pa, pb, pc, Act.put, pd, pe, pf]
     refine skg 21 rfl yS ?_
     try simp only [pa, pb, pc, Act.put, pd, pe, pf]
     refine skg 22 rfl yS ?_
     try simp only [pa, pb, pc, Act.put, pd, pe, pf]
     refine skg 23 rfl yS ?_
     try simp only [pa, pb, pc, Act.put, pd, pe, pf]
     refine skg 24 rfl yS ?_
     try simp only [pa, pb, pc, Act.put, pd, pe, pf]
     refine skg 25 rfl yS ?_
     try simp only [pa, pb, pc, Act.put, pd, pe, pf]
     refine skg 26 rfl yS ?_
     try simp only [pa, pb, pc, Act.put, pd, pe, pf]
     refine skg 27 rfl yS ?_
     try simp only [pa, pb, pc, Act.put, pd, pe, pf]
     refine skg 28 rfl yS ?_
     try simp only [pa, pb, pc, Act.put, pd, pe, pf]
     refine skg 29 rfl yS ?_
     try simp only [pa, pb, pc, Act.put, pd, pe, pf]
     refine skg 30 rfl yS ?_
     try simp only [pa, pb, pc, Act.put, pd, pe, pf]
     refine skg 31 rfl yS ?_
     try simp only [pa, pb, pc, Act.put, pd, pe, pf]
     refine tkg 32 rfl (by intro w' hS'; obtain ⟨⟨x0, x1⟩, xb⟩ := hS'; go_simp <;> rfl) yS ?_
     try simp only [pa, pb, pc, Act.put, pd, pe, pf]
     refine wpAnyL_done (by kernel_rfl) (NoPanic.normal ?_) _
     go_wp2
     go_ret
     exact ⟨by rw [E.out]; rfl, hS0.2⟩
   ·have hlti : ¬ (i : Int) < (zs.length : Int) := by omega
    have E : Hid (B = true) := by show _ = _; rw [HP.out, walk_end (by omega)]
    clear HL HP
    go_wp2
    go_ret
    exact ⟨by rw [E.out]; rfl, hb⟩
 ·have E : Hid (B = false) := by show _ = _; rw [HB.out]; simp [mayB, hl]
  have hli : (1024 : Int) < (zs.length : Int) := by omega
  clear HB HL hl
  go_enter Tryz.func81, Tryz.ntmps81
  go_wp2
  go_ret
  exact ⟨by rw [E.out]; rfl, Below.refl _ _⟩
end Go.Proofs.YtfpbgfmnjpamlaaGreat

