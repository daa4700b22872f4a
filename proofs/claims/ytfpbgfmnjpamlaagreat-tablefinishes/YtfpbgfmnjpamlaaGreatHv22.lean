import Derived.Test.YtfpbgfmnjpamlaaGreatHv18
/- The program's Check and CheckMarks; the document's May and Marks. -/
namespace Go.Proofs.YtfpbgfmnjpamlaaGreat
open Go.RowKit LeaseMath
set_option maxRecDepth 100000
set_option linter.unusedSimpArgs false
set_option linter.unusedVariables false

set_option maxHeartbeats 4000000 in
theorem inFormh_of (zs : List Hd) (lv : Value) (w : World) (hL : Rd holdE w lv zs) : Calls Tryz.prog 167 #[lv, .func (.func 152) #[] #[]] w fun e w' => e = .returned (.bool (formB zs)) ∧ Below w.heap.size w w' := by
 obtain ⟨B, HB⟩ : ∃ B, Hid (B = formB zs) := ⟨_, rfl⟩
 rw [← HB.out]
 have HL : Hid (Rd holdE w lv zs) := hL
 obtain ⟨ao, cap, rfl, -, -⟩ := hL.shape
 clear hL
 by_cases hl : zs.length ≤ 1024
 ·have HB1 : Hid (B = walk (fun _ => true) (prev zs 1) (zs.drop 1)) := by show _ = _; rw [HB.out, walk_one]; simp [formB, hl]
  have hli : ¬ (1024 : Int) < (zs.length : Int) := by omega
  clear HB
  go_enter Tryz.func167, Tryz.ntmps167
  go_wp2
  go_loopg [5] zs.length (fun g s5 wr => ∃ i : Nat, i + g = zs.length + 1 ∧ 1 ≤ i ∧ s5 = .int .i64 (i : Int) ∧ Below w.heap.size w wr ∧ Hid (B = walk (fun _ => true) (prev zs i) (zs.drop i)))
  case atStart => exact ⟨1, by omega, Nat.le_refl _, rfl, Below.refl _ _, HB1⟩
  case round =>
   obtain ⟨i, hig, hi1n, rfl, hb, HP⟩ := hrel
   clear HB1
   by_cases hlt : i < zs.length
   ·have hlti : (i : Int) < (zs.length : Int) := by omega
    have hx : zs[i]? = some zs[i] := List.getElem?_eq_getElem hlt
    obtain ⟨z, hzz⟩ : ∃ z, z = zs[i] := ⟨_, rfl⟩
    rw [← hzz] at hx
    clear hzz
    obtain ⟨b, off, rfl, cc⟩ := rdh_at HL.out hx
    have hxH : Hid (zs[i]? = some z) := hx
    have hi1 : (1 : Int) ≤ (i : Int) := by omega
    have hr : zs[i - 1]? = some zs[i - 1] := List.getElem?_eq_getElem (by omega)
    obtain ⟨p, hp⟩ : ∃ p, p = zs[i - 1] := ⟨_, rfl⟩
    rw [← hp] at hr
    clear hp
    obtain ⟨b', off', e', cp⟩ := rdh_at HL.out hr
    cases e'
    have hpv : Hid (prev zs i = some p) := by show _ = _; unfold prev; rw [if_neg (by omega)]; exact hr
    obtain ⟨k, t, u⟩ := z
    obtain ⟨yk, yt, yu⟩ := p
    dsimp only at cc cp
    have cl : ∀ W, Below w.heap.size w W → (W.cell? ⟨b, off + i * 3, none⟩ = some (.string (bk k)) ∧ W.cell? ⟨b, off + i * 3 + 1, none⟩ = some (.int .u64 (t : Int)) ∧ W.cell? ⟨b, off + i * 3 + 2, none⟩ = some (.int .i64 u)) ∧ (W.cell? ⟨b, off + (i - 1) * 3, none⟩ = some (.string (bk yk)) ∧ W.cell? ⟨b, off + (i - 1) * 3 + 1, none⟩ = some (.int .u64 (yt : Int)) ∧ W.cell? ⟨b, off + (i - 1) * 3 + 2, none⟩ = some (.int .i64 yu)) := fun W hW => ⟨cc W hW, cp W hW⟩
    have j1 : IntKind.i64.wrap ((i : Int) - 1) = (i : Int) - 1 := IntWalk.i64_in _ (by omega)
    have j2 : (0 : Int) ≤ (i : Int) - 1 := by omega
    have j3 : (i : Int) - 1 < (zs.length : Int) := by omega
    have j4 : ((i : Int) - 1).toNat = i - 1 := by omega
    clear hr cp hx cc
    have kp : ∀ W, (fun W => ((W.cell? ⟨b, off + i * 3, none⟩ = some (.string (bk k)) ∧ W.cell? ⟨b, off + i * 3 + 1, none⟩ = some (.int .u64 (t : Int)) ∧ W.cell? ⟨b, off + i * 3 + 2, none⟩ = some (.int .i64 u)) ∧ (W.cell? ⟨b, off + (i - 1) * 3, none⟩ = some (.string (bk yk)) ∧ W.cell? ⟨b, off + (i - 1) * 3 + 1, none⟩ = some (.int .u64 (yt : Int)) ∧ W.cell? ⟨b, off + (i - 1) * 3 + 2, none⟩ = some (.int .i64 yu))) ∧ Below w.heap.size w W) W → Calls Tryz.prog 152 #[.agg #[.string (bk yk), .int .u64 (yt : Int), .int .i64 yu]] W fun e w' => e = .returned (.string (bk yk)) ∧ (fun W => ((W.cell? ⟨b, off + i * 3, none⟩ = some (.string (bk k)) ∧ W.cell? ⟨b, off + i * 3 + 1, none⟩ = some (.int .u64 (t : Int)) ∧ W.cell? ⟨b, off + i * 3 + 2, none⟩ = some (.int .i64 u)) ∧ (W.cell? ⟨b, off + (i - 1) * 3, none⟩ = some (.string (bk yk)) ∧ W.cell? ⟨b, off + (i - 1) * 3 + 1, none⟩ = some (.int .u64 (yt : Int)) ∧ W.cell? ⟨b, off + (i - 1) * 3 + 2, none⟩ = some (.int .i64 yu))) ∧ Below w.heap.size w W) w' := fun W hW => by
     refine (keyh_of (yk, yt, yu) W).mono ?_
     rintro e w' ⟨rfl, hb'⟩
     exact ⟨rfl, cl w' (keep_step hW.2 (Nat.le_refl _) hb'), keep_step hW.2 (Nat.le_refl _) hb'⟩
    have kz : ∀ W, (fun W => ((W.cell? ⟨b, off + i * 3, none⟩ = some (.string (bk k)) ∧ W.cell? ⟨b, off + i * 3 + 1, none⟩ = some (.int .u64 (t : Int)) ∧ W.cell? ⟨b, off + i * 3 + 2, none⟩ = some (.int .i64 u)) ∧ (W.cell? ⟨b, off + (i - 1) * 3, none⟩ = some (.string (bk yk)) ∧ W.cell? ⟨b, off + (i - 1) * 3 + 1, none⟩ = some (.int .u64 (yt : Int)) ∧ W.cell? ⟨b, off + (i - 1) * 3 + 2, none⟩ = some (.int .i64 yu))) ∧ Below w.heap.size w W) W → Calls Tryz.prog 152 #[.agg #[.string (bk k), .int .u64 (t : Int), .int .i64 u]] W fun e w' => e = .returned (.string (bk k)) ∧ (fun W => ((W.cell? ⟨b, off + i * 3, none⟩ = some (.string (bk k)) ∧ W.cell? ⟨b, off + i * 3 + 1, none⟩ = some (.int .u64 (t : Int)) ∧ W.cell? ⟨b, off + i * 3 + 2, none⟩ = some (.int .i64 u)) ∧ (W.cell? ⟨b, off + (i - 1) * 3, none⟩ = some (.string (bk yk)) ∧ W.cell? ⟨b, off + (i - 1) * 3 + 1, none⟩ = some (.int .u64 (yt : Int)) ∧ W.cell? ⟨b, off + (i - 1) * 3 + 2, none⟩ = some (.int .i64 yu))) ∧ Below w.heap.size w W) w' := fun W hW => by
     refine (keyh_of (k, t, u) W).mono ?_
     rintro e w' ⟨rfl, hb'⟩
     exact ⟨rfl, cl w' (keep_step hW.2 (Nat.le_refl _) hb'), keep_step hW.2 (Nat.le_refl _) hb'⟩
    have hS0 : (fun W => ((W.cell? ⟨b, off + i * 3, none⟩ = some (.string (bk k)) ∧ W.cell? ⟨b, off + i * 3 + 1, none⟩ = some (.int .u64 (t : Int)) ∧ W.cell? ⟨b, off + i * 3 + 2, none⟩ = some (.int .i64 u)) ∧ (W.cell? ⟨b, off + (i - 1) * 3, none⟩ = some (.string (bk yk)) ∧ W.cell? ⟨b, off + (i - 1) * 3 + 1, none⟩ = some (.int .u64 (yt : Int)) ∧ W.cell? ⟨b, off + (i - 1) * 3 + 2, none⟩ = some (.int .i64 yu))) ∧ Below w.heap.size w W) wr.drew := ⟨cl _ hb.drew, hb.drew⟩
    by_cases hcc : yk < k
    ·have HN : Hid (B = walk (fun _ => true) (prev zs (i + 1)) (zs.drop (i + 1))) := by show _ = _; rw [HP.out, walk_at hxH.out, hpv.out, prev_succ hxH.out]; simp [lnk, hcc]
     have hcd : ¬ k ≤ yk := by grind
     have hcd2 : decide (k ≤ yk) = false := decide_eq_false hcd
     clear HP cl hxH HL hpv
     go_wp2
     refine wp_region_L (fun W => ((W.cell? ⟨b, off + i * 3, none⟩ = some (.string (bk k)) ∧ W.cell? ⟨b, off + i * 3 + 1, none⟩ = some (.int .u64 (t : Int)) ∧ W.cell? ⟨b, off + i * 3 + 2, none⟩ = some (.int .i64 u)) ∧ (W.cell? ⟨b, off + (i - 1) * 3, none⟩ = some (.string (bk yk)) ∧ W.cell? ⟨b, off + (i - 1) * 3 + 1, none⟩ = some (.int .u64 (yt : Int)) ∧ W.cell? ⟨b, off + (i - 1) * 3 + 2, none⟩ = some (.int .i64 yu))) ∧ Below w.heap.size w W) [] (by kernel_rfl) ?_
     have yS : (fun W => ((W.cell? ⟨b, off + i * 3, none⟩ = some (.string (bk k)) ∧ W.cell? ⟨b, off + i * 3 + 1, none⟩ = some (.int .u64 (t : Int)) ∧ W.cell? ⟨b, off + i * 3 + 2, none⟩ = some (.int .i64 u)) ∧ (W.cell? ⟨b, off + (i - 1) * 3, none⟩ = some (.string (bk yk)) ∧ W.cell? ⟨b, off + (i - 1) * 3 + 1, none⟩ = some (.int .u64 (yt : Int)) ∧ W.cell? ⟨b, off + (i - 1) * 3 + 2, none⟩ = some (.int .i64 yu))) ∧ Below w.heap.size w W) wr.drew := hS0
     refine tkg 0 rfl (by intro w' hS'; obtain ⟨⟨⟨x0, x1, x2⟩, ⟨y0, y1, y2⟩⟩, xb⟩ := hS'; go_simp <;> rfl) yS ?_
     try simp only [pa, pb, pc, Act.put, pd, pe, pf]
     refine tkg 1 rfl (by intro w' hS'; obtain ⟨⟨⟨x0, x1, x2⟩, ⟨y0, y1, y2⟩⟩, xb⟩ := hS'; go_simp <;> rfl) yS ?_
     try simp only [pa, pb, pc, Act.put, pd, pe, pf]
     refine tkg 2 rfl (by intro w' hS'; obtain ⟨⟨⟨x0, x1, x2⟩, ⟨y0, y1, y2⟩⟩, xb⟩ := hS'; go_simp <;> rfl) yS ?_
     try simp only [pa, pb, pc, Act.put, pd, pe, pf]
     refine tkg 3 rfl (by intro w' hS'; obtain ⟨⟨⟨x0, x1, x2⟩, ⟨y0, y1, y2⟩⟩, xb⟩ := hS'; go_simp <;> rfl) yS ?_
     try simp only [pa, pb, pc, Act.put, pd, pe, pf]
     refine tkg 4 rfl (by intro w' hS'; obtain ⟨⟨⟨x0, x1, x2⟩, ⟨y0, y1, y2⟩⟩, xb⟩ := hS'; go_simp <;> rfl) yS ?_
     try simp only [pa, pb, pc, Act.put, pd, pe, pf]
     refine tkg 5 rfl (by intro w' hS'; obtain ⟨⟨⟨x0, x1, x2⟩, ⟨y0, y1, y2⟩⟩, xb⟩ := hS'; go_simp <;> rfl) yS ?_
     try simp only [pa, pb, pc, Act.put, pd, pe, pf]
     refine tkg 7 rfl (by intro w' hS'; obtain ⟨⟨⟨x0, x1, x2⟩, ⟨y0, y1, y2⟩⟩, xb⟩ := hS'; go_simp <;> rfl) yS ?_
     try simp only [pa, pb, pc, Act.put, pd, pe, pf]
     refine tkg 8 rfl (by intro w' hS'; obtain ⟨⟨⟨x0, x1, x2⟩, ⟨y0, y1, y2⟩⟩, xb⟩ := hS'; go_simp <;> rfl) yS ?_
     try simp only [pa, pb, pc, Act.put, pd, pe, pf]
     refine tkg 9 rfl (by intro w' hS'; obtain ⟨⟨⟨x0, x1, x2⟩, ⟨y0, y1, y2⟩⟩, xb⟩ := hS'; go_simp <;> rfl) yS ?_
     try simp only [pa, pb, pc, Act.put, pd, pe, pf]
     refine tkg 10 rfl (by intro w' hS'; obtain ⟨⟨⟨x0, x1, x2⟩, ⟨y0, y1, y2⟩⟩, xb⟩ := hS'; go_simp <;> rfl) yS ?_
     try simp only [pa, pb, pc, Act.put, pd, pe, pf]
     refine tkg 11 rfl (by intro w' hS'; obtain ⟨⟨⟨x0, x1, x2⟩, ⟨y0, y1, y2⟩⟩, xb⟩ := hS'; go_simp <;> rfl) yS ?_
     try simp only [pa, pb, pc, Act.put, pd, pe, pf]
     refine wpAnyL_one 6 (by kernel_rfl) rfl (by kernel_rfl) ?_
     intro K' hK'
     go_simp
     go_at_call 152
     refine (kp _ yS).mono ?_
     rintro e W1 ⟨rfl, hS1⟩
     refine hK'.out _ _ (.inr hS1) ?_
     clear hK' K'
     try simp only [pa, pb, pc, Act.put, pd, pe, pf]
     refine wpAnyL_one 12 (by kernel_rfl) rfl (by kernel_rfl) ?_
     intro K' hK'
     go_simp
     go_at_call 152
     refine (kz _ hS1).mono ?_
     rintro e W2 ⟨rfl, hS2⟩
     refine hK'.out _ _ (.inr hS2) ?_
     clear hK' K'
     try simp only [pa, pb, pc, Act.put, pd, pe, pf]
     refine tkg 13 rfl (by intro w' hS'; obtain ⟨⟨⟨x0, x1, x2⟩, ⟨y0, y1, y2⟩⟩, xb⟩ := hS'; go_simp <;> rfl) hS2 ?_
     try simp only [pa, pb, pc, Act.put, pd, pe, pf]
     refine wpAnyL_done (by kernel_rfl) (NoPanic.normal ?_) _
     go_wp2
     go_roundg (gk - 1)
     case measure => omega
     case rel => exact ⟨i + 1, by omega, by omega, by go_num, hS2.2, HN⟩
    ·have E : Hid (B = false) := by show _ = _; rw [HP.out, walk_at hxH.out, hpv.out]; simp [lnk, hcc]
     have hcd : k ≤ yk := by grind
     have hcd2 : decide (k ≤ yk) = true := decide_eq_true hcd
     clear HP cl hxH HL hpv
     go_wp2
     refine wp_region_L (fun W => ((W.cell? ⟨b, off + i * 3, none⟩ = some (.string (bk k)) ∧ W.cell? ⟨b, off + i * 3 + 1, none⟩ = some (.int .u64 (t : Int)) ∧ W.cell? ⟨b, off + i * 3 + 2, none⟩ = some (.int .i64 u)) ∧ (W.cell? ⟨b, off + (i - 1) * 3, none⟩ = some (.string (bk yk)) ∧ W.cell? ⟨b, off + (i - 1) * 3 + 1, none⟩ = some (.int .u64 (yt : Int)) ∧ W.cell? ⟨b, off + (i - 1) * 3 + 2, none⟩ = some (.int .i64 yu))) ∧ Below w.heap.size w W) [] (by kernel_rfl) ?_
     have yS : (fun W => ((W.cell? ⟨b, off + i * 3, none⟩ = some (.string (bk k)) ∧ W.cell? ⟨b, off + i * 3 + 1, none⟩ = some (.int .u64 (t : Int)) ∧ W.cell? ⟨b, off + i * 3 + 2, none⟩ = some (.int .i64 u)) ∧ (W.cell? ⟨b, off + (i - 1) * 3, none⟩ = some (.string (bk yk)) ∧ W.cell? ⟨b, off + (i - 1) * 3 + 1, none⟩ = some (.int .u64 (yt : Int)) ∧ W.cell? ⟨b, off + (i - 1) * 3 + 2, none⟩ = some (.int .i64 yu))) ∧ Below w.heap.size w W) wr.drew := hS0
     refine tkg 0 rfl (by intro w' hS'; obtain ⟨⟨⟨x0, x1, x2⟩, ⟨y0, y1, y2⟩⟩, xb⟩ := hS'; go_simp <;> rfl) yS ?_
     try simp only [pa, pb, pc, Act.put, pd, pe, pf]
     refine tkg 1 rfl (by intro w' hS'; obtain ⟨⟨⟨x0, x1, x2⟩, ⟨y0, y1, y2⟩⟩, xb⟩ := hS'; go_simp <;> rfl) yS ?_
     try simp only [pa, pb, pc, Act.put, pd, pe, pf]
     refine tkg 2 rfl (by intro w' hS'; obtain ⟨⟨⟨x0, x1, x2⟩, ⟨y0, y1, y2⟩⟩, xb⟩ := hS'; go_simp <;> rfl) yS ?_
     try simp only [pa, pb, pc, Act.put, pd, pe, pf]
     refine tkg 3 rfl (by intro w' hS'; obtain ⟨⟨⟨x0, x1, x2⟩, ⟨y0, y1, y2⟩⟩, xb⟩ := hS'; go_simp <;> rfl) yS ?_
     try simp only [pa, pb, pc, Act.put, pd, pe, pf]
     refine tkg 4 rfl (by intro w' hS'; obtain ⟨⟨⟨x0, x1, x2⟩, ⟨y0, y1, y2⟩⟩, xb⟩ := hS'; go_simp <;> rfl) yS ?_
     try simp only [pa, pb, pc, Act.put, pd, pe, pf]
     refine tkg 5 rfl (by intro w' hS'; obtain ⟨⟨⟨x0, x1, x2⟩, ⟨y0, y1, y2⟩⟩, xb⟩ := hS'; go_simp <;> rfl) yS ?_
     try simp only [pa, pb, pc, Act.put, pd, pe, pf]
     refine tkg 7 rfl (by intro w' hS'; obtain ⟨⟨⟨x0, x1, x2⟩, ⟨y0, y1, y2⟩⟩, xb⟩ := hS'; go_simp <;> rfl) yS ?_
     try simp only [pa, pb, pc, Act.put, pd, pe, pf]
     refine tkg 8 rfl (by intro w' hS'; obtain ⟨⟨⟨x0, x1, x2⟩, ⟨y0, y1, y2⟩⟩, xb⟩ := hS'; go_simp <;> rfl) yS ?_
     try simp only [pa, pb, pc, Act.put, pd, pe, pf]
     refine tkg 9 rfl (by intro w' hS'; obtain ⟨⟨⟨x0, x1, x2⟩, ⟨y0, y1, y2⟩⟩, xb⟩ := hS'; go_simp <;> rfl) yS ?_
     try simp only [pa, pb, pc, Act.put, pd, pe, pf]
     refine tkg 10 rfl (by intro w' hS'; obtain ⟨⟨⟨x0, x1, x2⟩, ⟨y0, y1, y2⟩⟩, xb⟩ := hS'; go_simp <;> rfl) yS ?_
     try simp only [pa, pb, pc, Act.put, pd, pe, pf]
     refine tkg 11 rfl (by intro w' hS'; obtain ⟨⟨⟨x0, x1, x2⟩, ⟨y0, y1, y2⟩⟩, xb⟩ := hS'; go_simp <;> rfl) yS ?_
     try simp only [pa, pb, pc, Act.put, pd, pe, pf]
     refine wpAnyL_one 6 (by kernel_rfl) rfl (by kernel_rfl) ?_
     intro K' hK'
     go_simp
     go_at_call 152
     refine (kp _ yS).mono ?_
     rintro e W1 ⟨rfl, hS1⟩
     refine hK'.out _ _ (.inr hS1) ?_
     clear hK' K'
     try simp only [pa, pb, pc, Act.put, pd, pe, pf]
     refine wpAnyL_one 12 (by kernel_rfl) rfl (by kernel_rfl) ?_
     intro K' hK'
     go_simp
     go_at_call 152
     refine (kz _ hS1).mono ?_
     rintro e W2 ⟨rfl, hS2⟩
     refine hK'.out _ _ (.inr hS2) ?_
     clear hK' K'
     try simp only [pa, pb, pc, Act.put, pd, pe, pf]
     refine tkg 13 rfl (by intro w' hS'; obtain ⟨⟨⟨x0, x1, x2⟩, ⟨y0, y1, y2⟩⟩, xb⟩ := hS'; go_simp <;> rfl) hS2 ?_
     try simp only [pa, pb, pc, Act.put, pd, pe, pf]
     refine wpAnyL_done (by kernel_rfl) (NoPanic.normal ?_) _
     go_wp2
     go_ret
     exact ⟨by rw [E.out]; rfl, hS2.2⟩
   ·have hlti : ¬ (i : Int) < (zs.length : Int) := by omega
    have E : Hid (B = true) := by show _ = _; rw [HP.out, walk_end (by omega)]
    clear HL HP
    go_wp2
    go_ret
    exact ⟨by rw [E.out]; rfl, hb⟩
 ·have E : Hid (B = false) := by show _ = _; rw [HB.out]; simp [formB, hl]
  have hli : (1024 : Int) < (zs.length : Int) := by omega
  clear HB HL hl
  go_enter Tryz.func167, Tryz.ntmps167
  go_wp2
  go_ret
  exact ⟨by rw [E.out]; rfl, Below.refl _ _⟩

/-- Whether one may not be. -/
theorem all1h_of {w : World} {q : Nat} (hq : w.cell? ⟨q, 0, none⟩ = some (.func (.func 160) #[] #[])) (z : Hd) : Calls Tryz.prog 184 #[hv z, .pointer (some ⟨q, 0, none⟩)] w fun e w' => e = .returned (.bool (!holdB z)) ∧ Below w.heap.size w w' := by
 have hql := World.block_lt_of_cell? w _ hq
 dsimp only at hql
 obtain ⟨hs, hb, cl⟩ := hd_box w z
 obtain ⟨c0, c1, c2⟩ := cl _ (Below.refl _ _)
 have hq1 := (hb.cell (p := ⟨q, 0, none⟩) hql).trans hq
 have km := mayHold_of z (w.alloc (hc z))
 rw [hs] at km
 obtain ⟨k, t, u⟩ := z
 dsimp only [hv, hc] at *
 generalize holdB (k, t, u) = B at *
 clear cl hq
 go_enter Tryz.func184, Tryz.ntmps184
 go_wp2_with fail
 refine km.mono ?_
 rintro e w1 ⟨rfl, hb1⟩
 go_wp2
 go_ret
 exact ⟨rfl, hb.trans (hb1.mono (Nat.le_succ _))⟩

/-- Whether one of them may not be. -/
def idxh (l : List Hd) (e : Ending) : Prop := ∃ z : Int, e = .returned (.int .i64 z) ∧ decide (0 ≤ z) = !l.all holdB
set_option maxHeartbeats 2000000 in
theorem indexh_of {w : World} {v : Value} {l : List Hd} (h : Rd holdE w v l) {q : Nat} (hq : w.cell? ⟨q, 0, none⟩ = some (.func (.func 160) #[] #[])) (hlen : l.length ≤ 1024) :
  Calls Tryz.prog 171 #[v, .func (.func 184) #[] #[.pointer (some ⟨q, 0, none⟩)]] w fun e w' => idxh l e ∧ Below w.heap.size w w' := by
 have hql := World.block_lt_of_cell? w _ hq
 dsimp only at hql
 have hqW : ∀ W, Below w.heap.size w W → W.cell? ⟨q, 0, none⟩ = some (.func (.func 160) #[] #[]) := fun W hW => (hW.cell (p := ⟨q, 0, none⟩) hql).trans hq
 have HL : Hid (Rd holdE w v l) := h
 obtain ⟨ao, cap, rfl, -, -⟩ := h.shape
 clear h
 go_enter Tryz.func171, Tryz.ntmps171
 go_wp2
 go_loopg [8] l.length (fun g s8 wr => ∃ i : Nat, i + g = l.length ∧ s8 = .int .i64 (i : Int) ∧ Below w.heap.size w wr ∧ Hid ((l.drop i).all holdB = l.all holdB))
 case atStart => exact ⟨0, by simp, rfl, Below.refl _ _, rfl⟩
 case round =>
  obtain ⟨i, hig, rfl, hb, hfi⟩ := hrel
  by_cases hlt : i < l.length
  ·have hlti : (i : Int) < (l.length : Int) := by omega
   obtain ⟨x, hx⟩ : ∃ x, l[i]? = some x := ⟨l[i], List.getElem?_eq_getElem hlt⟩
   obtain ⟨g, off, rfl, c⟩ := rdh_at HL.out hx
   obtain ⟨c0, c1, c2⟩ := c wr hb
   have kf := all1h_of (hqW wr hb) x
   have hat : (l.drop i).all holdB = (holdB x && (l.drop (i + 1)).all holdB) := by
    obtain ⟨h1, rfl⟩ := List.getElem?_eq_some_iff.1 hx
    rw [List.drop_eq_getElem_cons h1, List.all_cons]
   cases ht : holdB x with
   | false =>
    have HR : Hid (idxh l (.returned (.int .i64 (i : Int)))) := by
     show idxh _ _
     refine ⟨_, rfl, ?_⟩
     rw [← hfi.out, hat, ht]
     simp
    rw [ht] at kf
    obtain ⟨k, t, u⟩ := x
    dsimp only [hv] at *
    clear ht hat hx c hfi HL
    go_wp2_with fail
    refine kf.mono ?_
    rintro e wc ⟨rfl, hbc⟩
    have hb2 := hb.trans (hbc.mono hb.size)
    go_wp2
    go_ret
    exact ⟨HR.out, hb2⟩
   | true =>
    have HR : Hid ((l.drop (i + 1)).all holdB = l.all holdB) := by
     show _ = _
     rw [← hfi.out, hat, ht]
     simp
    rw [ht] at kf
    obtain ⟨k, t, u⟩ := x
    dsimp only [hv] at *
    clear ht hat hx c hfi HL
    go_wp2_with fail
    refine kf.mono ?_
    rintro e wc ⟨rfl, hbc⟩
    have hb2 := hb.trans (hbc.mono hb.size)
    clear kf hbc
    go_wp2
    go_roundg (gk - 1)
    case measure => omega
    case rel => exact ⟨i + 1, by omega, by go_num, hb2, HR⟩
  ·have hlti : ¬ (i : Int) < (l.length : Int) := by omega
   have HR : Hid (idxh l (.returned (.int .i64 (-1)))) := by
    show idxh _ _
    refine ⟨_, rfl, ?_⟩
    rw [← hfi.out, List.drop_of_length_le (by omega)]
    rfl
   clear hfi HL
   go_wp2
   go_ret
   exact ⟨HR.out, hb⟩

theorem containsh_of {w : World} {v : Value} {l : List Hd} (h : Rd holdE w v l) {q : Nat} (hq : w.cell? ⟨q, 0, none⟩ = some (.func (.func 160) #[] #[])) (hlen : l.length ≤ 1024) :
  Calls Tryz.prog 131 #[v, .func (.func 184) #[] #[.pointer (some ⟨q, 0, none⟩)]] w fun e w' => e = .returned (.bool (!l.all holdB)) ∧ Below w.heap.size w w' := by
 have ki := indexh_of h hq hlen
 obtain ⟨ao, cap, rfl, -, -⟩ := h.shape
 clear h hq
 go_enter Tryz.func131, Tryz.ntmps131
 go_wp2_with fail
 refine ki.mono ?_
 rintro e w1 ⟨⟨z, rfl, hz⟩, hb1⟩
 have hzH : Hid (decide (0 ≤ z) = !l.all holdB) := hz
 clear ki hz
 go_wp2
 go_ret
 exact ⟨by rw [← hzH.out]; rfl, hb1⟩

set_option maxHeartbeats 1000000 in
theorem allh_of {w : World} {v : Value} {l : List Hd} (h : Rd holdE w v l) (hlen : l.length ≤ 1024) :
  Calls Tryz.prog 168 #[v, .func (.func 160) #[] #[]] w fun e w' => e = .returned (.bool (l.all holdB)) ∧ Below w.heap.size w w' := by
 obtain ⟨q1, q2, q3⟩ := one_box w (.cells #[.func (.func 160) #[] #[]] 107)
 have hq0 : (w.alloc (.cells #[.func (.func 160) #[] #[]] 107)).cell? ⟨w.heap.size, 0, none⟩ = some (.func (.func 160) #[] #[]) := by rw [cells_of_block q2]; rfl
 have ki := containsh_of (h.below q3) hq0 hlen
 rw [q1] at ki
 obtain ⟨ao, cap, rfl, -, -⟩ := h.shape
 generalize l.all holdB = B at *
 clear h hq0 q2
 go_enter Tryz.func168, Tryz.ntmps168
 go_wp2_with fail
 refine ki.mono ?_
 rintro e w1 ⟨rfl, hb1⟩
 clear ki
 go_wp2
 go_ret
 exact ⟨by simp, q3.trans (hb1.mono (Nat.le_succ _))⟩

set_option maxHeartbeats 1000000 in
theorem checkh_of {w : World} {v : Value} {l : List Hd} (h : Rd holdE w v l) :
  Calls Tryz.prog 127 #[v] w fun e w' => e = .returned (.int .i64 (if mayB holdB l then 0 else 1)) ∧ Below w.heap.size w w' := by
 have ki := inFormh_of l v w h
 have HL : Hid (Rd holdE w v l) := h
 obtain ⟨ao, cap, rfl, -, -⟩ := h.shape
 rw [may_eq]
 clear h
 cases hf : formB l with
 | false =>
  rw [hf] at ki
  simp only [Bool.false_and, Bool.false_eq_true, if_false]
  clear hf HL
  go_enter Tryz.func127, Tryz.ntmps127
  go_wp2_with fail
  refine ki.mono ?_
  rintro e w1 ⟨rfl, hb1⟩
  clear ki
  go_wp2
  go_ret
  exact ⟨rfl, hb1⟩
 | true =>
  rw [hf] at ki
  have hlen := (form_iff.1 hf).1
  have ka : ∀ W, Below w.heap.size w W → _ := fun W hW => allh_of (HL.out.below hW) hlen
  simp only [Bool.true_and]
  clear hf HL hlen
  generalize l.all holdB = B at *
  go_enter Tryz.func127, Tryz.ntmps127
  go_wp2_with fail
  refine ki.mono ?_
  rintro e w1 ⟨rfl, hb1⟩
  have ka1 := ka w1 hb1
  clear ki ka
  go_wp2_with fail
  refine ka1.mono ?_
  rintro e w2 ⟨rfl, hb2⟩
  have hb3 := hb1.trans (hb2.mono hb1.size)
  clear ka1 hb1 hb2
  cases B
  ·go_wp2
   go_ret
   exact ⟨rfl, hb3⟩
  ·go_wp2
   go_ret
   exact ⟨rfl, hb3⟩

set_option maxHeartbeats 4000000 in
theorem inFormm_of (zs : List Mk) (lv : Value) (w : World) (hL : Rd markE w lv zs) : Calls Tryz.prog 169 #[lv, .func (.func 155) #[] #[]] w fun e w' => e = .returned (.bool (formB zs)) ∧ Below w.heap.size w w' := by
 obtain ⟨B, HB⟩ : ∃ B, Hid (B = formB zs) := ⟨_, rfl⟩
 rw [← HB.out]
 have HL : Hid (Rd markE w lv zs) := hL
 obtain ⟨ao, cap, rfl, -, -⟩ := hL.shape
 clear hL
 by_cases hl : zs.length ≤ 1024
 ·have HB1 : Hid (B = walk (fun _ => true) (prev zs 1) (zs.drop 1)) := by show _ = _; rw [HB.out, walk_one]; simp [formB, hl]
  have hli : ¬ (1024 : Int) < (zs.length : Int) := by omega
  clear HB
  go_enter Tryz.func169, Tryz.ntmps169
  go_wp2
  go_loopg [5] zs.length (fun g s5 wr => ∃ i : Nat, i + g = zs.length + 1 ∧ 1 ≤ i ∧ s5 = .int .i64 (i : Int) ∧ Below w.heap.size w wr ∧ Hid (B = walk (fun _ => true) (prev zs i) (zs.drop i)))
  case atStart => exact ⟨1, by omega, Nat.le_refl _, rfl, Below.refl _ _, HB1⟩
  case round =>
   obtain ⟨i, hig, hi1n, rfl, hb, HP⟩ := hrel
   clear HB1
   by_cases hlt : i < zs.length
   ·have hlti : (i : Int) < (zs.length : Int) := by omega
    have hx : zs[i]? = some zs[i] := List.getElem?_eq_getElem hlt
    obtain ⟨z, hzz⟩ : ∃ z, z = zs[i] := ⟨_, rfl⟩
    rw [← hzz] at hx
    clear hzz
    obtain ⟨b, off, rfl, cc⟩ := rdm_at HL.out hx
    have hxH : Hid (zs[i]? = some z) := hx
    have hi1 : (1 : Int) ≤ (i : Int) := by omega
    have hr : zs[i - 1]? = some zs[i - 1] := List.getElem?_eq_getElem (by omega)
    obtain ⟨p, hp⟩ : ∃ p, p = zs[i - 1] := ⟨_, rfl⟩
    rw [← hp] at hr
    clear hp
    obtain ⟨b', off', e', cp⟩ := rdm_at HL.out hr
    cases e'
    have hpv : Hid (prev zs i = some p) := by show _ = _; unfold prev; rw [if_neg (by omega)]; exact hr
    obtain ⟨k, t⟩ := z
    obtain ⟨yk, yt⟩ := p
    dsimp only at cc cp
    have cl : ∀ W, Below w.heap.size w W → (W.cell? ⟨b, off + i * 2, none⟩ = some (.string (bk k)) ∧ W.cell? ⟨b, off + i * 2 + 1, none⟩ = some (.int .u64 (t : Int))) ∧ (W.cell? ⟨b, off + (i - 1) * 2, none⟩ = some (.string (bk yk)) ∧ W.cell? ⟨b, off + (i - 1) * 2 + 1, none⟩ = some (.int .u64 (yt : Int))) := fun W hW => ⟨cc W hW, cp W hW⟩
    have j1 : IntKind.i64.wrap ((i : Int) - 1) = (i : Int) - 1 := IntWalk.i64_in _ (by omega)
    have j2 : (0 : Int) ≤ (i : Int) - 1 := by omega
    have j3 : (i : Int) - 1 < (zs.length : Int) := by omega
    have j4 : ((i : Int) - 1).toNat = i - 1 := by omega
    clear hr cp hx cc
    have kp : ∀ W, (fun W => ((W.cell? ⟨b, off + i * 2, none⟩ = some (.string (bk k)) ∧ W.cell? ⟨b, off + i * 2 + 1, none⟩ = some (.int .u64 (t : Int))) ∧ (W.cell? ⟨b, off + (i - 1) * 2, none⟩ = some (.string (bk yk)) ∧ W.cell? ⟨b, off + (i - 1) * 2 + 1, none⟩ = some (.int .u64 (yt : Int)))) ∧ Below w.heap.size w W) W → Calls Tryz.prog 155 #[.agg #[.string (bk yk), .int .u64 (yt : Int)]] W fun e w' => e = .returned (.string (bk yk)) ∧ (fun W => ((W.cell? ⟨b, off + i * 2, none⟩ = some (.string (bk k)) ∧ W.cell? ⟨b, off + i * 2 + 1, none⟩ = some (.int .u64 (t : Int))) ∧ (W.cell? ⟨b, off + (i - 1) * 2, none⟩ = some (.string (bk yk)) ∧ W.cell? ⟨b, off + (i - 1) * 2 + 1, none⟩ = some (.int .u64 (yt : Int)))) ∧ Below w.heap.size w W) w' := fun W hW => by
     refine (keym_of (yk, yt) W).mono ?_
     rintro e w' ⟨rfl, hb'⟩
     exact ⟨rfl, cl w' (keep_step hW.2 (Nat.le_refl _) hb'), keep_step hW.2 (Nat.le_refl _) hb'⟩
    have kz : ∀ W, (fun W => ((W.cell? ⟨b, off + i * 2, none⟩ = some (.string (bk k)) ∧ W.cell? ⟨b, off + i * 2 + 1, none⟩ = some (.int .u64 (t : Int))) ∧ (W.cell? ⟨b, off + (i - 1) * 2, none⟩ = some (.string (bk yk)) ∧ W.cell? ⟨b, off + (i - 1) * 2 + 1, none⟩ = some (.int .u64 (yt : Int)))) ∧ Below w.heap.size w W) W → Calls Tryz.prog 155 #[.agg #[.string (bk k), .int .u64 (t : Int)]] W fun e w' => e = .returned (.string (bk k)) ∧ (fun W => ((W.cell? ⟨b, off + i * 2, none⟩ = some (.string (bk k)) ∧ W.cell? ⟨b, off + i * 2 + 1, none⟩ = some (.int .u64 (t : Int))) ∧ (W.cell? ⟨b, off + (i - 1) * 2, none⟩ = some (.string (bk yk)) ∧ W.cell? ⟨b, off + (i - 1) * 2 + 1, none⟩ = some (.int .u64 (yt : Int)))) ∧ Below w.heap.size w W) w' := fun W hW => by
     refine (keym_of (k, t) W).mono ?_
     rintro e w' ⟨rfl, hb'⟩
     exact ⟨rfl, cl w' (keep_step hW.2 (Nat.le_refl _) hb'), keep_step hW.2 (Nat.le_refl _) hb'⟩
    have hS0 : (fun W => ((W.cell? ⟨b, off + i * 2, none⟩ = some (.string (bk k)) ∧ W.cell? ⟨b, off + i * 2 + 1, none⟩ = some (.int .u64 (t : Int))) ∧ (W.cell? ⟨b, off + (i - 1) * 2, none⟩ = some (.string (bk yk)) ∧ W.cell? ⟨b, off + (i - 1) * 2 + 1, none⟩ = some (.int .u64 (yt : Int)))) ∧ Below w.heap.size w W) wr.drew := ⟨cl _ hb.drew, hb.drew⟩
    by_cases hcc : yk < k
    ·have HN : Hid (B = walk (fun _ => true) (prev zs (i + 1)) (zs.drop (i + 1))) := by show _ = _; rw [HP.out, walk_at hxH.out, hpv.out, prev_succ hxH.out]; simp [lnk, hcc]
     have hcd : ¬ k ≤ yk := by grind
     have hcd2 : decide (k ≤ yk) = false := decide_eq_false hcd
     clear HP cl hxH HL hpv
     go_wp2
     refine wp_region_L (fun W => ((W.cell? ⟨b, off + i * 2, none⟩ = some (.string (bk k)) ∧ W.cell? ⟨b, off + i * 2 + 1, none⟩ = some (.int .u64 (t : Int))) ∧ (W.cell? ⟨b, off + (i - 1) * 2, none⟩ = some (.string (bk yk)) ∧ W.cell? ⟨b, off + (i - 1) * 2 + 1, none⟩ = some (.int .u64 (yt : Int)))) ∧ Below w.heap.size w W) [] (by kernel_rfl) ?_
     have yS : (fun W => ((W.cell? ⟨b, off + i * 2, none⟩ = some (.string (bk k)) ∧ W.cell? ⟨b, off + i * 2 + 1, none⟩ = some (.int .u64 (t : Int))) ∧ (W.cell? ⟨b, off + (i - 1) * 2, none⟩ = some (.string (bk yk)) ∧ W.cell? ⟨b, off + (i - 1) * 2 + 1, none⟩ = some (.int .u64 (yt : Int)))) ∧ Below w.heap.size w W) wr.drew := hS0
     refine tkg 0 rfl (by intro w' hS'; obtain ⟨⟨⟨x0, x1⟩, ⟨y0, y1⟩⟩, xb⟩ := hS'; go_simp <;> rfl) yS ?_
     try simp only [pa, pb, pc, Act.put, pd, pe, pf]
     refine tkg 1 rfl (by intro w' hS'; obtain ⟨⟨⟨x0, x1⟩, ⟨y0, y1⟩⟩, xb⟩ := hS'; go_simp <;> rfl) yS ?_
     try simp only [pa, pb, pc, Act.put, pd, pe, pf]
     refine tkg 2 rfl (by intro w' hS'; obtain ⟨⟨⟨x0, x1⟩, ⟨y0, y1⟩⟩, xb⟩ := hS'; go_simp <;> rfl) yS ?_
     try simp only [pa, pb, pc, Act.put, pd, pe, pf]
     refine tkg 3 rfl (by intro w' hS'; obtain ⟨⟨⟨x0, x1⟩, ⟨y0, y1⟩⟩, xb⟩ := hS'; go_simp <;> rfl) yS ?_
     try simp only [pa, pb, pc, Act.put, pd, pe, pf]
     refine tkg 4 rfl (by intro w' hS'; obtain ⟨⟨⟨x0, x1⟩, ⟨y0, y1⟩⟩, xb⟩ := hS'; go_simp <;> rfl) yS ?_
     try simp only [pa, pb, pc, Act.put, pd, pe, pf]
     refine tkg 5 rfl (by intro w' hS'; obtain ⟨⟨⟨x0, x1⟩, ⟨y0, y1⟩⟩, xb⟩ := hS'; go_simp <;> rfl) yS ?_
     try simp only [pa, pb, pc, Act.put, pd, pe, pf]
     refine tkg 7 rfl (by intro w' hS'; obtain ⟨⟨⟨x0, x1⟩, ⟨y0, y1⟩⟩, xb⟩ := hS'; go_simp <;> rfl) yS ?_
     try simp only [pa, pb, pc, Act.put, pd, pe, pf]
     refine tkg 8 rfl (by intro w' hS'; obtain ⟨⟨⟨x0, x1⟩, ⟨y0, y1⟩⟩, xb⟩ := hS'; go_simp <;> rfl) yS ?_
     try simp only [pa, pb, pc, Act.put, pd, pe, pf]
     refine tkg 9 rfl (by intro w' hS'; obtain ⟨⟨⟨x0, x1⟩, ⟨y0, y1⟩⟩, xb⟩ := hS'; go_simp <;> rfl) yS ?_
     try simp only [pa, pb, pc, Act.put, pd, pe, pf]
     refine tkg 10 rfl (by intro w' hS'; obtain ⟨⟨⟨x0, x1⟩, ⟨y0, y1⟩⟩, xb⟩ := hS'; go_simp <;> rfl) yS ?_
     try simp only [pa, pb, pc, Act.put, pd, pe, pf]
     refine tkg 11 rfl (by intro w' hS'; obtain ⟨⟨⟨x0, x1⟩, ⟨y0, y1⟩⟩, xb⟩ := hS'; go_simp <;> rfl) yS ?_
     try simp only [pa, pb, pc, Act.put, pd, pe, pf]
     refine wpAnyL_one 6 (by kernel_rfl) rfl (by kernel_rfl) ?_
     intro K' hK'
     go_simp
     go_at_call 155
     refine (kp _ yS).mono ?_
     rintro e W1 ⟨rfl, hS1⟩
     refine hK'.out _ _ (.inr hS1) ?_
     clear hK' K'
     try simp only [pa, pb, pc, Act.put, pd, pe, pf]
     refine wpAnyL_one 12 (by kernel_rfl) rfl (by kernel_rfl) ?_
     intro K' hK'
     go_simp
     go_at_call 155
     refine (kz _ hS1).mono ?_
     rintro e W2 ⟨rfl, hS2⟩
     refine hK'.out _ _ (.inr hS2) ?_
     clear hK' K'
     try simp only [pa, pb, pc, Act.put, pd, pe, pf]
     refine tkg 13 rfl (by intro w' hS'; obtain ⟨⟨⟨x0, x1⟩, ⟨y0, y1⟩⟩, xb⟩ := hS'; go_simp <;> rfl) hS2 ?_
     try simp only [pa, pb, pc, Act.put, pd, pe, pf]
     refine wpAnyL_done (by kernel_rfl) (NoPanic.normal ?_) _
     go_wp2
     go_roundg (gk - 1)
     case measure => omega
     case rel => exact ⟨i + 1, by omega, by omega, by go_num, hS2.2, HN⟩
    ·have E : Hid (B = false) := by show _ = _; rw [HP.out, walk_at hxH.out, hpv.out]; simp [lnk, hcc]
     have hcd : k ≤ yk := by grind
     have hcd2 : decide (k ≤ yk) = true := decide_eq_true hcd
     clear HP cl hxH HL hpv
     go_wp2
     refine wp_region_L (fun W => ((W.cell? ⟨b, off + i * 2, none⟩ = some (.string (bk k)) ∧ W.cell? ⟨b, off + i * 2 + 1, none⟩ = some (.int .u64 (t : Int))) ∧ (W.cell? ⟨b, off + (i - 1) * 2, none⟩ = some (.string (bk yk)) ∧ W.cell? ⟨b, off + (i - 1) * 2 + 1, none⟩ = some (.int .u64 (yt : Int)))) ∧ Below w.heap.size w W) [] (by kernel_rfl) ?_
     have yS : (fun W => ((W.cell? ⟨b, off + i * 2, none⟩ = some (.string (bk k)) ∧ W.cell? ⟨b, off + i * 2 + 1, none⟩ = some (.int .u64 (t : Int))) ∧ (W.cell? ⟨b, off + (i - 1) * 2, none⟩ = some (.string (bk yk)) ∧ W.cell? ⟨b, off + (i - 1) * 2 + 1, none⟩ = some (.int .u64 (yt : Int)))) ∧ Below w.heap.size w W) wr.drew := hS0
     refine tkg 0 rfl (by intro w' hS'; obtain ⟨⟨⟨x0, x1⟩, ⟨y0, y1⟩⟩, xb⟩ := hS'; go_simp <;> rfl) yS ?_
     try simp only [pa, pb, pc, Act.put, pd, pe, pf]
     refine tkg 1 rfl (by intro w' hS'; obtain ⟨⟨⟨x0, x1⟩, ⟨y0, y1⟩⟩, xb⟩ := hS'; go_simp <;> rfl) yS ?_
     try simp only [pa, pb, pc, Act.put, pd, pe, pf]
     refine tkg 2 rfl (by intro w' hS'; obtain ⟨⟨⟨x0, x1⟩, ⟨y0, y1⟩⟩, xb⟩ := hS'; go_simp <;> rfl) yS ?_
     try simp only [pa, pb, pc, Act.put, pd, pe, pf]
     refine tkg 3 rfl (by intro w' hS'; obtain ⟨⟨⟨x0, x1⟩, ⟨y0, y1⟩⟩, xb⟩ := hS'; go_simp <;> rfl) yS ?_
     try simp only [pa, pb, pc, Act.put, pd, pe, pf]
     refine tkg 4 rfl (by intro w' hS'; obtain ⟨⟨⟨x0, x1⟩, ⟨y0, y1⟩⟩, xb⟩ := hS'; go_simp <;> rfl) yS ?_
     try simp only [pa, pb, pc, Act.put, pd, pe, pf]
     refine tkg 5 rfl (by intro w' hS'; obtain ⟨⟨⟨x0, x1⟩, ⟨y0, y1⟩⟩, xb⟩ := hS'; go_simp <;> rfl) yS ?_
     try simp only [pa, pb, pc, Act.put, pd, pe, pf]
     refine tkg 7 rfl (by intro w' hS'; obtain ⟨⟨⟨x0, x1⟩, ⟨y0, y1⟩⟩, xb⟩ := hS'; go_simp <;> rfl) yS ?_
     try simp only [pa, pb, pc, Act.put, pd, pe, pf]
     refine tkg 8 rfl (by intro w' hS'; obtain ⟨⟨⟨x0, x1⟩, ⟨y0, y1⟩⟩, xb⟩ := hS'; go_simp <;> rfl) yS ?_
     try simp only [pa, pb, pc, Act.put, pd, pe, pf]
     refine tkg 9 rfl (by intro w' hS'; obtain ⟨⟨⟨x0, x1⟩, ⟨y0, y1⟩⟩, xb⟩ := hS'; go_simp <;> rfl) yS ?_
     try simp only [pa, pb, pc, Act.put, pd, pe, pf]
     refine tkg 10 rfl (by intro w' hS'; obtain ⟨⟨⟨x0, x1⟩, ⟨y0, y1⟩⟩, xb⟩ := hS'; go_simp <;> rfl) yS ?_
     try simp only [pa, pb, pc, Act.put, pd, pe, pf]
     refine tkg 11 rfl (by intro w' hS'; obtain ⟨⟨⟨x0, x1⟩, ⟨y0, y1⟩⟩, xb⟩ := hS'; go_simp <;> rfl) yS ?_
     try simp only [pa, pb, pc, Act.put, pd, pe, pf]
     refine wpAnyL_one 6 (by kernel_rfl) rfl (by kernel_rfl) ?_
     intro K' hK'
     go_simp
     go_at_call 155
     refine (kp _ yS).mono ?_
     rintro e W1 ⟨rfl, hS1⟩
     refine hK'.out _ _ (.inr hS1) ?_
     clear hK' K'
     try simp only [pa, pb, pc, Act.put, pd, pe, pf]
     refine wpAnyL_one 12 (by kernel_rfl) rfl (by kernel_rfl) ?_
     intro K' hK'
     go_simp
     go_at_call 155
     refine (kz _ hS1).mono ?_
     rintro e W2 ⟨rfl, hS2⟩
     refine hK'.out _ _ (.inr hS2) ?_
     clear hK' K'
     try simp only [pa, pb, pc, Act.put, pd, pe, pf]
     refine tkg 13 rfl (by intro w' hS'; obtain ⟨⟨⟨x0, x1⟩, ⟨y0, y1⟩⟩, xb⟩ := hS'; go_simp <;> rfl) hS2 ?_
     try simp only [pa, pb, pc, Act.put, pd, pe, pf]
     refine wpAnyL_done (by kernel_rfl) (NoPanic.normal ?_) _
     go_wp2
     go_ret
     exact ⟨by rw [E.out]; rfl, hS2.2⟩
   ·have hlti : ¬ (i : Int) < (zs.length : Int) := by omega
    have E : Hid (B = true) := by show _ = _; rw [HP.out, walk_end (by omega)]
    clear HL HP
    go_wp2
    go_ret
    exact ⟨by rw [E.out]; rfl, hb⟩
 ·have E : Hid (B = false) := by show _ = _; rw [HB.out]; simp [formB, hl]
  have hli : (1024 : Int) < (zs.length : Int) := by omega
  clear HB HL hl
  go_enter Tryz.func169, Tryz.ntmps169
  go_wp2
  go_ret
  exact ⟨by rw [E.out]; rfl, Below.refl _ _⟩

/-- Whether one may not be. -/
theorem all1m_of {w : World} {q : Nat} (hq : w.cell? ⟨q, 0, none⟩ = some (.func (.func 163) #[] #[])) (z : Mk) : Calls Tryz.prog 185 #[mv z, .pointer (some ⟨q, 0, none⟩)] w fun e w' => e = .returned (.bool (!markB z)) ∧ Below w.heap.size w w' := by
 have hql := World.block_lt_of_cell? w _ hq
 dsimp only at hql
 obtain ⟨hs, hb, cl⟩ := mk_box w z
 obtain ⟨c0, c1⟩ := cl _ (Below.refl _ _)
 have hq1 := (hb.cell (p := ⟨q, 0, none⟩) hql).trans hq
 have km := mayMark_of z (w.alloc (mc z))
 rw [hs] at km
 obtain ⟨k, t⟩ := z
 dsimp only [mv, mc] at *
 generalize markB (k, t) = B at *
 clear cl hq
 go_enter Tryz.func185, Tryz.ntmps185
 go_wp2_with fail
 refine km.mono ?_
 rintro e w1 ⟨rfl, hb1⟩
 go_wp2
 go_ret
 exact ⟨rfl, hb.trans (hb1.mono (Nat.le_succ _))⟩

/-- Whether one of them may not be. -/
def idxm (l : List Mk) (e : Ending) : Prop := ∃ z : Int, e = .returned (.int .i64 z) ∧ decide (0 ≤ z) = !l.all markB
set_option maxHeartbeats 2000000 in
theorem indexm_of {w : World} {v : Value} {l : List Mk} (h : Rd markE w v l) {q : Nat} (hq : w.cell? ⟨q, 0, none⟩ = some (.func (.func 163) #[] #[])) (hlen : l.length ≤ 1024) :
  Calls Tryz.prog 162 #[v, .func (.func 185) #[] #[.pointer (some ⟨q, 0, none⟩)]] w fun e w' => idxm l e ∧ Below w.heap.size w w' := by
 have hql := World.block_lt_of_cell? w _ hq
 dsimp only at hql
 have hqW : ∀ W, Below w.heap.size w W → W.cell? ⟨q, 0, none⟩ = some (.func (.func 163) #[] #[]) := fun W hW => (hW.cell (p := ⟨q, 0, none⟩) hql).trans hq
 have HL : Hid (Rd markE w v l) := h
 obtain ⟨ao, cap, rfl, -, -⟩ := h.shape
 clear h
 go_enter Tryz.func162, Tryz.ntmps162
 go_wp2
 go_loopg [8] l.length (fun g s8 wr => ∃ i : Nat, i + g = l.length ∧ s8 = .int .i64 (i : Int) ∧ Below w.heap.size w wr ∧ Hid ((l.drop i).all markB = l.all markB))
 case atStart => exact ⟨0, by simp, rfl, Below.refl _ _, rfl⟩
 case round =>
  obtain ⟨i, hig, rfl, hb, hfi⟩ := hrel
  by_cases hlt : i < l.length
  ·have hlti : (i : Int) < (l.length : Int) := by omega
   obtain ⟨x, hx⟩ : ∃ x, l[i]? = some x := ⟨l[i], List.getElem?_eq_getElem hlt⟩
   obtain ⟨g, off, rfl, c⟩ := rdm_at HL.out hx
   obtain ⟨c0, c1⟩ := c wr hb
   have kf := all1m_of (hqW wr hb) x
   have hat : (l.drop i).all markB = (markB x && (l.drop (i + 1)).all markB) := by
    obtain ⟨h1, rfl⟩ := List.getElem?_eq_some_iff.1 hx
    rw [List.drop_eq_getElem_cons h1, List.all_cons]
   cases ht : markB x with
   | false =>
    have HR : Hid (idxm l (.returned (.int .i64 (i : Int)))) := by
     show idxm _ _
     refine ⟨_, rfl, ?_⟩
     rw [← hfi.out, hat, ht]
     simp
    rw [ht] at kf
    obtain ⟨k, t⟩ := x
    dsimp only [mv] at *
    clear ht hat hx c hfi HL
    go_wp2_with fail
    refine kf.mono ?_
    rintro e wc ⟨rfl, hbc⟩
    have hb2 := hb.trans (hbc.mono hb.size)
    go_wp2
    go_ret
    exact ⟨HR.out, hb2⟩
   | true =>
    have HR : Hid ((l.drop (i + 1)).all markB = l.all markB) := by
     show _ = _
     rw [← hfi.out, hat, ht]
     simp
    rw [ht] at kf
    obtain ⟨k, t⟩ := x
    dsimp only [mv] at *
    clear ht hat hx c hfi HL
    go_wp2_with fail
    refine kf.mono ?_
    rintro e wc ⟨rfl, hbc⟩
    have hb2 := hb.trans (hbc.mono hb.size)
    clear kf hbc
    go_wp2
    go_roundg (gk - 1)
    case measure => omega
    case rel => exact ⟨i + 1, by omega, by go_num, hb2, HR⟩
  ·have hlti : ¬ (i : Int) < (l.length : Int) := by omega
   have HR : Hid (idxm l (.returned (.int .i64 (-1)))) := by
    show idxm _ _
    refine ⟨_, rfl, ?_⟩
    rw [← hfi.out, List.drop_of_length_le (by omega)]
    rfl
   clear hfi HL
   go_wp2
   go_ret
   exact ⟨HR.out, hb⟩

theorem containsm_of {w : World} {v : Value} {l : List Mk} (h : Rd markE w v l) {q : Nat} (hq : w.cell? ⟨q, 0, none⟩ = some (.func (.func 163) #[] #[])) (hlen : l.length ≤ 1024) :
  Calls Tryz.prog 129 #[v, .func (.func 185) #[] #[.pointer (some ⟨q, 0, none⟩)]] w fun e w' => e = .returned (.bool (!l.all markB)) ∧ Below w.heap.size w w' := by
 have ki := indexm_of h hq hlen
 obtain ⟨ao, cap, rfl, -, -⟩ := h.shape
 clear h hq
 go_enter Tryz.func129, Tryz.ntmps129
 go_wp2_with fail
 refine ki.mono ?_
 rintro e w1 ⟨⟨z, rfl, hz⟩, hb1⟩
 have hzH : Hid (decide (0 ≤ z) = !l.all markB) := hz
 clear ki hz
 go_wp2
 go_ret
 exact ⟨by rw [← hzH.out]; rfl, hb1⟩

set_option maxHeartbeats 1000000 in
theorem allm_of {w : World} {v : Value} {l : List Mk} (h : Rd markE w v l) (hlen : l.length ≤ 1024) :
  Calls Tryz.prog 170 #[v, .func (.func 163) #[] #[]] w fun e w' => e = .returned (.bool (l.all markB)) ∧ Below w.heap.size w w' := by
 obtain ⟨q1, q2, q3⟩ := one_box w (.cells #[.func (.func 163) #[] #[]] 112)
 have hq0 : (w.alloc (.cells #[.func (.func 163) #[] #[]] 112)).cell? ⟨w.heap.size, 0, none⟩ = some (.func (.func 163) #[] #[]) := by rw [cells_of_block q2]; rfl
 have ki := containsm_of (h.below q3) hq0 hlen
 rw [q1] at ki
 obtain ⟨ao, cap, rfl, -, -⟩ := h.shape
 generalize l.all markB = B at *
 clear h hq0 q2
 go_enter Tryz.func170, Tryz.ntmps170
 go_wp2_with fail
 refine ki.mono ?_
 rintro e w1 ⟨rfl, hb1⟩
 clear ki
 go_wp2
 go_ret
 exact ⟨by simp, q3.trans (hb1.mono (Nat.le_succ _))⟩

set_option maxHeartbeats 1000000 in
theorem checkm_of {w : World} {v : Value} {l : List Mk} (h : Rd markE w v l) :
  Calls Tryz.prog 128 #[v] w fun e w' => e = .returned (.int .i64 (if mayB markB l then 0 else 1)) ∧ Below w.heap.size w w' := by
 have ki := inFormm_of l v w h
 have HL : Hid (Rd markE w v l) := h
 obtain ⟨ao, cap, rfl, -, -⟩ := h.shape
 rw [may_eq]
 clear h
 cases hf : formB l with
 | false =>
  rw [hf] at ki
  simp only [Bool.false_and, Bool.false_eq_true, if_false]
  clear hf HL
  go_enter Tryz.func128, Tryz.ntmps128
  go_wp2_with fail
  refine ki.mono ?_
  rintro e w1 ⟨rfl, hb1⟩
  clear ki
  go_wp2
  go_ret
  exact ⟨rfl, hb1⟩
 | true =>
  rw [hf] at ki
  have hlen := (form_iff.1 hf).1
  have ka : ∀ W, Below w.heap.size w W → _ := fun W hW => allm_of (HL.out.below hW) hlen
  simp only [Bool.true_and]
  clear hf HL hlen
  generalize l.all markB = B at *
  go_enter Tryz.func128, Tryz.ntmps128
  go_wp2_with fail
  refine ki.mono ?_
  rintro e w1 ⟨rfl, hb1⟩
  have ka1 := ka w1 hb1
  clear ki ka
  go_wp2_with fail
  refine ka1.mono ?_
  rintro e w2 ⟨rfl, hb2⟩
  have hb3 := hb1.trans (hb2.mono hb1.size)
  clear ka1 hb1 hb2
  cases B
  ·go_wp2
   go_ret
   exact ⟨rfl, hb3⟩
  ·go_wp2
   go_ret
   exact ⟨rfl, hb3⟩
end Go.Proofs.YtfpbgfmnjpamlaaGreat

