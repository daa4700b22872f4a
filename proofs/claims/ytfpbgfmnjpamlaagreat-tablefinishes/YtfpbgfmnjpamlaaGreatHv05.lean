import Derived.Test.YtfpbgfmnjpamlaaGreatHv04
import Derived.Test.YtfpbgfmnjpamlaaGreatHv01
/- The contracts of Join and Split. -/
namespace Go.Proofs.YtfpbgfmnjpamlaaGreat
open Go.RowKit SpanMath
set_option maxRecDepth 100000
set_option linter.unusedSimpArgs false
set_option linter.unusedVariables false

end Go.Proofs.YtfpbgfmnjpamlaaGreat

/- The contract of Split. -/
namespace Go.Proofs.YtfpbgfmnjpamlaaGreat
open Go.RowKit SpanMath
set_option maxRecDepth 100000
set_option linter.unusedSimpArgs false
set_option linter.unusedVariables false

end Go.Proofs.YtfpbgfmnjpamlaaGreat

/- Slices of spans as they are read; the contract of Form. -/
namespace Go.Proofs.YtfpbgfmnjpamlaaGreat
open Go.RowKit SpanMath
set_option maxRecDepth 100000
set_option linter.unusedSimpArgs false
set_option linter.unusedVariables false

/-- A slice of spans, as it is read. -/
def Sv (w : World) (v : Value) (l : List Sp) : Prop :=
 ∃ ao cap, v = .slice ao l.length cap ∧ ∀ (i : Nat) (s : Sp), l[i]? = some s → ∃ b off, ao = some ⟨b, off, none⟩ ∧ w.cell? ⟨b, off + i * 2, none⟩ = some (.string (bk s.1)) ∧ w.cell? ⟨b, off + i * 2 + 1, none⟩ = some (.string (bk s.2))
theorem Sv.below {w w' : World} {v : Value} {l : List Sp} (h : Sv w v l) (hb : Below w.heap.size w w') : Sv w' v l := by
 obtain ⟨ao, cap, e, h2⟩ := h
 refine ⟨ao, cap, e, fun i s hs => ?_⟩
 obtain ⟨b, off, r1, r2, r3⟩ := h2 i s hs
 exact ⟨b, off, r1, (hb.cell (p := ⟨b, off + i * 2, none⟩) (World.block_lt_of_cell? w _ r2)).trans r2, (hb.cell (p := ⟨b, off + i * 2 + 1, none⟩) (World.block_lt_of_cell? w _ r3)).trans r3⟩
/-- Spans as elements. -/
def spE : El Sp := ⟨fun s => [.string (bk s.1), .string (bk s.2)], 2, fun _ => rfl, fun x u hu => by
 simp only [List.mem_cons, List.not_mem_nil, or_false] at hu
 rcases hu with rfl | rfl <;> rfl, by decide⟩
theorem Rk.sv {w : World} {v : Value} {l : List Sp} (h : Rk spE w 47 v l) : Sv w v l := by
 by_cases hl : 0 < l.length
 ·obtain ⟨g, cap, cur, e, _, _, _, _, _, hc, _⟩ := Rk.cells h hl
  refine ⟨_, cap, e, fun i s hs => ⟨g, 0, rfl, ?_, ?_⟩⟩
  ·have := hc i s 0 hs (by decide)
   rw [Nat.zero_add]
   exact this
  ·have := hc i s 1 hs (by decide)
   rw [Nat.zero_add]
   exact this
 ·have e0 : l = [] := List.eq_nil_of_length_eq_zero (by omega)
  obtain ⟨ao, cap, e, _⟩ := Rk.shape h
  exact ⟨ao, cap, e, fun i s hs => by rw [e0] at hs; simp at hs⟩
/-- What a world keeps: all below N is as it was. -/
theorem keep_step {N : Nat} {wb W w' : World} (h : Below N wb W) (hN : N ≤ wb.heap.size) (hb : Below W.heap.size W w') : Below N wb w' := h.trans (hb.mono (Nat.le_trans hN h.size))

theorem next_first {l : List Sp} {s : Sp} (hs : l[0]? = some s) (hm : may s = true) : nextOk l 0 := by
 intro s' hs'
 rw [hs] at hs'
 cases hs'
 exact ⟨hm, fun r h0 => by omega⟩
theorem next_more {l : List Sp} {i : Nat} {s r : Sp} (hs : l[i]? = some s) (hm : may s = true) (hr : l[i - 1]? = some r) (ha : apt r s = true) : nextOk l i := by
 intro s' hs'
 rw [hs] at hs'
 cases hs'
 refine ⟨hm, fun r' _ hr' => ?_⟩
 rw [hr] at hr'
 cases hr'
 exact ha
theorem next_not {l : List Sp} {i : Nat} {s : Sp} (hs : l[i]? = some s) (hm : may s = false) : ¬ nextOk l i := fun h => by
 have := (h s hs).1
 rw [hm] at this
 cases this
theorem next_not2 {l : List Sp} {i : Nat} {s r : Sp} (h0 : 0 < i) (hs : l[i]? = some s) (hr : l[i - 1]? = some r) (ha : apt r s = false) : ¬ nextOk l i := fun h => by
 have := (h s hs).2 r h0 hr
 rw [ha] at this
 cases this
/-- The spans ahead of i are in form. -/
def Pre (l : List Sp) (i : Nat) : Prop := (∀ s ∈ l.take i, may s = true) ∧ (l.take i).Pairwise (fun a b => apt a b = true)
theorem pre_all {l : List Sp} (hl : l.length ≤ 64) (h : Pre l l.length) : formB l = true := by
 unfold Pre at h
 rw [List.take_length] at h
 unfold formB
 simp only [Bool.and_eq_true, decide_eq_true_eq]
 exact ⟨⟨hl, h.1⟩, h.2⟩

set_option maxHeartbeats 4000000 in
theorem form_of (l : List Sp) (lv : Value) (w : World) (hF : Sv w lv l) : Calls Tryz.prog 116 #[lv] w fun e w' => e = .returned (.bool (formB l)) ∧ Below w.heap.size w w' := by
 obtain ⟨ao, cap, rfl, h2⟩ := id hF
 obtain ⟨B, HB⟩ : ∃ B, Hid (B = formB l) := ⟨_, rfl⟩
 rw [← HB.out]
 by_cases hlen : 64 < l.length
 ·have E : Hid (B = false) := by show _ = _; rw [HB.out]; unfold formB; rw [decide_eq_false (by omega)]; rfl
  have hi : (64 : Int) < (l.length : Int) := by omega
  clear HB h2
  go_enter Tryz.func116, Tryz.ntmps116
  go_wp2
  go_ret
  exact ⟨by rw [E.out]; rfl, Below.refl _ _⟩
 ·have hi : ¬ (64 : Int) < (l.length : Int) := by omega
  go_enter Tryz.func116, Tryz.ntmps116
  go_wp2
  go_loopg [10] l.length (fun g s10 wr => ∃ i : Nat, i + g = l.length ∧ s10 = .int .i64 (i : Int) ∧ Below w.heap.size w wr ∧ Hid (Pre l i))
  case atStart => exact ⟨0, by simp, rfl, Below.refl _ _, ⟨by simp, by simp⟩⟩
  case round =>
   obtain ⟨i, hig, rfl, hb, HP⟩ := hrel
   by_cases hlt : i < l.length
   ·have hlti : (i : Int) < (l.length : Int) := by omega
    have hx : l[i]? = some l[i] := List.getElem?_eq_getElem hlt
    obtain ⟨b, off, rfl, d0, d1⟩ := h2 i l[i] hx
    obtain ⟨s, hs⟩ : ∃ s, s = l[i] := ⟨_, rfl⟩
    rw [← hs] at hx d0 d1
    have hxH : Hid (l[i]? = some s) := hx
    obtain ⟨s1, s2⟩ := s
    have c0 := (hb.cell (p := ⟨b, off + i * 2, none⟩) (World.block_lt_of_cell? w _ d0)).trans d0
    have c1 := (hb.cell (p := ⟨b, off + i * 2 + 1, none⟩) (World.block_lt_of_cell? w _ d1)).trans d1
    clear hx hs d0 d1
    have hn0 := heap_alloc_new wr (.cells #[.string (bk s1), .string (bk s2)] 47)
    have hsz : (wr.alloc (.cells #[.string (bk s1), .string (bk s2)] 47)).heap.size = wr.heap.size + 1 := by simp
    have hbb : Below wr.heap.size wr (wr.alloc (.cells #[.string (bk s1), .string (bk s2)] 47)) := (Below.refl _ _).alloc (Nat.le_refl _) _
    go_wp2
    generalize hwb : wr.alloc (.cells #[.string (bk s1), .string (bk s2)] 47) = wb at *
    clear hwb
    have hbw : ∀ W, Below (wr.heap.size + 1) wb W → Below w.heap.size w W := fun W hW => hb.trans ((hbb.trans (hW.mono (Nat.le_succ _))).mono hb.size)
    have cl : ∀ W, Below (wr.heap.size + 1) wb W → W.cell? ⟨wr.heap.size, 0, none⟩ = some (.string (bk s1)) ∧ W.cell? ⟨wr.heap.size, 1, none⟩ = some (.string (bk s2)) := fun W hW => by
     have := (hW.block wr.heap.size (Nat.lt_succ_self _)).trans hn0
     exact ⟨by rw [cells_of_block this]; rfl, by rw [cells_of_block this]; rfl⟩
    have kst : ∀ W w', Below (wr.heap.size + 1) wb W → Below W.heap.size W w' → Below (wr.heap.size + 1) wb w' := fun W w' h1 h2 => keep_step h1 (Nat.le_of_eq hsz.symm) h2
    clear c0 c1 hn0
    cases hm : may (s1, s2) with
    | false =>
     have E : Hid (B = false) := by show _ = _; rw [HB.out]; exact form_not (next_not hxH.out hm)
     have kc : ∀ W, (fun W => (W.cell? ⟨wr.heap.size, 0, none⟩ = some (.string (bk s1)) ∧ W.cell? ⟨wr.heap.size, 1, none⟩ = some (.string (bk s2))) ∧ Below (wr.heap.size + 1) wb W) W → Calls Tryz.prog 68 #[.agg #[.string (bk s1), .string (bk s2)]] W fun e w' => e = .returned (.int .i64 1) ∧ (fun W => (W.cell? ⟨wr.heap.size, 0, none⟩ = some (.string (bk s1)) ∧ W.cell? ⟨wr.heap.size, 1, none⟩ = some (.string (bk s2))) ∧ Below (wr.heap.size + 1) wb W) w' := fun W hW => by
      refine (check_no hm W).mono ?_
      rintro e w' ⟨rfl, hb'⟩
      exact ⟨rfl, cl w' (kst W w' hW.2 hb'), kst W w' hW.2 hb'⟩
     have hS0 : (fun W => (W.cell? ⟨wr.heap.size, 0, none⟩ = some (.string (bk s1)) ∧ W.cell? ⟨wr.heap.size, 1, none⟩ = some (.string (bk s2))) ∧ Below (wr.heap.size + 1) wb W) wb.drew := ⟨cl _ (Below.refl _ wb).drew, (Below.refl _ wb).drew⟩
     clear HB HP hm kst cl hxH h2 hF hsz hbb
     refine wp_region_L (fun W => (W.cell? ⟨wr.heap.size, 0, none⟩ = some (.string (bk s1)) ∧ W.cell? ⟨wr.heap.size, 1, none⟩ = some (.string (bk s2))) ∧ Below (wr.heap.size + 1) wb W) [] (by kernel_rfl) ?_
     have yS : (fun W => (W.cell? ⟨wr.heap.size, 0, none⟩ = some (.string (bk s1)) ∧ W.cell? ⟨wr.heap.size, 1, none⟩ = some (.string (bk s2))) ∧ Below (wr.heap.size + 1) wb W) wb.drew := hS0
     refine tkg 0 rfl (by intro w' hS'; obtain ⟨⟨x0, x1⟩, x2⟩ := hS'; go_simp <;> rfl) yS ?_
     try simp only [pa, pb, pc, Act.put, pd, pe, pf]
     refine wpAnyL_one 1 (by kernel_rfl) rfl (by kernel_rfl) ?_
     intro K' hK'
     go_simp
     go_at_call 68
     refine (kc _ yS).mono ?_
     rintro e W1 ⟨rfl, hS1⟩
     refine hK'.out _ _ (.inr hS1) ?_
     clear hK' K'
     try simp only [pa, pb, pc, Act.put, pd, pe, pf]
     refine tkg 2 rfl (by intro w' hS'; obtain ⟨⟨x0, x1⟩, x2⟩ := hS'; go_simp <;> rfl) hS1 ?_
     try simp only [pa, pb, pc, Act.put, pd, pe, pf]
     refine tkg 3 rfl (by intro w' hS'; obtain ⟨⟨x0, x1⟩, x2⟩ := hS'; go_simp <;> rfl) hS1 ?_
     try simp only [pa, pb, pc, Act.put, pd, pe, pf]
     refine skg 4 rfl hS1 ?_
     try simp only [pa, pb, pc, Act.put, pd, pe, pf]
     refine skg 5 rfl hS1 ?_
     try simp only [pa, pb, pc, Act.put, pd, pe, pf]
     refine skg 6 rfl hS1 ?_
     try simp only [pa, pb, pc, Act.put, pd, pe, pf]
     refine skg 7 rfl hS1 ?_
     try simp only [pa, pb, pc, Act.put, pd, pe, pf]
     refine skg 8 rfl hS1 ?_
     try simp only [pa, pb, pc, Act.put, pd, pe, pf]
     refine skg 9 rfl hS1 ?_
     try simp only [pa, pb, pc, Act.put, pd, pe, pf]
     refine skg 10 rfl hS1 ?_
     try simp only [pa, pb, pc, Act.put, pd, pe, pf]
     refine skg 11 rfl hS1 ?_
     try simp only [pa, pb, pc, Act.put, pd, pe, pf]
     refine skg 12 rfl hS1 ?_
     try simp only [pa, pb, pc, Act.put, pd, pe, pf]
     refine skg 13 rfl hS1 ?_
     try simp only [pa, pb, pc, Act.put, pd, pe, pf]
     refine skg 14 rfl hS1 ?_
     try simp only [pa, pb, pc, Act.put, pd, pe, pf]
     refine skg 15 rfl hS1 ?_
     try simp only [pa, pb, pc, Act.put, pd, pe, pf]
     refine tkg 16 rfl (by intro w' hS'; obtain ⟨⟨x0, x1⟩, x2⟩ := hS'; go_simp <;> rfl) hS1 ?_
     try simp only [pa, pb, pc, Act.put, pd, pe, pf]
     refine wpAnyL_done (by kernel_rfl) (NoPanic.normal ?_) _
     go_wp2
     go_ret
     exact ⟨by rw [E.out]; rfl, hbw _ hS1.2⟩
    | true =>
     by_cases hi0 : i = 0
     ·have HN : Hid (Pre l (i + 1)) := form_next HP.out (by subst hi0; exact next_first hxH.out hm)
      subst hi0
      have hb1 := hb
      have kc : ∀ W, (fun W => (W.cell? ⟨wr.heap.size, 0, none⟩ = some (.string (bk s1)) ∧ W.cell? ⟨wr.heap.size, 1, none⟩ = some (.string (bk s2))) ∧ Below (wr.heap.size + 1) wb W) W → Calls Tryz.prog 68 #[.agg #[.string (bk s1), .string (bk s2)]] W fun e w' => e = .returned (.int .i64 0) ∧ (fun W => (W.cell? ⟨wr.heap.size, 0, none⟩ = some (.string (bk s1)) ∧ W.cell? ⟨wr.heap.size, 1, none⟩ = some (.string (bk s2))) ∧ Below (wr.heap.size + 1) wb W) w' := fun W hW => by
       refine (check_yes hm W).mono ?_
       rintro e w' ⟨rfl, hb'⟩
       exact ⟨rfl, cl w' (kst W w' hW.2 hb'), kst W w' hW.2 hb'⟩
      have hS0 : (fun W => (W.cell? ⟨wr.heap.size, 0, none⟩ = some (.string (bk s1)) ∧ W.cell? ⟨wr.heap.size, 1, none⟩ = some (.string (bk s2))) ∧ Below (wr.heap.size + 1) wb W) wb.drew := ⟨cl _ (Below.refl _ wb).drew, (Below.refl _ wb).drew⟩
      clear HB HP hm kst cl hxH h2 hF hsz hbb
      refine wp_region_L (fun W => (W.cell? ⟨wr.heap.size, 0, none⟩ = some (.string (bk s1)) ∧ W.cell? ⟨wr.heap.size, 1, none⟩ = some (.string (bk s2))) ∧ Below (wr.heap.size + 1) wb W) [] (by kernel_rfl) ?_
      have yS : (fun W => (W.cell? ⟨wr.heap.size, 0, none⟩ = some (.string (bk s1)) ∧ W.cell? ⟨wr.heap.size, 1, none⟩ = some (.string (bk s2))) ∧ Below (wr.heap.size + 1) wb W) wb.drew := hS0
      refine tkg 0 rfl (by intro w' hS'; obtain ⟨⟨x0, x1⟩, x2⟩ := hS'; go_simp <;> rfl) yS ?_
      try simp only [pa, pb, pc, Act.put, pd, pe, pf]
      refine wpAnyL_one 1 (by kernel_rfl) rfl (by kernel_rfl) ?_
      intro K' hK'
      go_simp
      go_at_call 68
      refine (kc _ yS).mono ?_
      rintro e W1 ⟨rfl, hS1⟩
      refine hK'.out _ _ (.inr hS1) ?_
      clear hK' K'
      try simp only [pa, pb, pc, Act.put, pd, pe, pf]
      refine tkg 2 rfl (by intro w' hS'; obtain ⟨⟨x0, x1⟩, x2⟩ := hS'; go_simp <;> rfl) hS1 ?_
      try simp only [pa, pb, pc, Act.put, pd, pe, pf]
      refine tkg 3 rfl (by intro w' hS'; obtain ⟨⟨x0, x1⟩, x2⟩ := hS'; go_simp <;> rfl) hS1 ?_
      try simp only [pa, pb, pc, Act.put, pd, pe, pf]
      refine tkg 4 rfl (by intro w' hS'; obtain ⟨⟨x0, x1⟩, x2⟩ := hS'; go_simp <;> rfl) hS1 ?_
      try simp only [pa, pb, pc, Act.put, pd, pe, pf]
      refine tkg 5 rfl (by intro w' hS'; obtain ⟨⟨x0, x1⟩, x2⟩ := hS'; go_simp <;> rfl) hS1 ?_
      try simp only [pa, pb, pc, Act.put, pd, pe, pf]
      refine tkg 6 rfl (by intro w' hS'; obtain ⟨⟨x0, x1⟩, x2⟩ := hS'; go_simp <;> rfl) hS1 ?_
      try simp only [pa, pb, pc, Act.put, pd, pe, pf]
      refine skg 7 rfl hS1 ?_
      try simp only [pa, pb, pc, Act.put, pd, pe, pf]
      refine skg 8 rfl hS1 ?_
      try simp only [pa, pb, pc, Act.put, pd, pe, pf]
      refine skg 9 rfl hS1 ?_
      try simp only [pa, pb, pc, Act.put, pd, pe, pf]
      refine skg 10 rfl hS1 ?_
      try simp only [pa, pb, pc, Act.put, pd, pe, pf]
      refine skg 11 rfl hS1 ?_
      try simp only [pa, pb, pc, Act.put, pd, pe, pf]
      refine skg 12 rfl hS1 ?_
      try simp only [pa, pb, pc, Act.put, pd, pe, pf]
      refine skg 13 rfl hS1 ?_
      try simp only [pa, pb, pc, Act.put, pd, pe, pf]
      refine skg 14 rfl hS1 ?_
      try simp only [pa, pb, pc, Act.put, pd, pe, pf]
      refine tkg 15 rfl (by intro w' hS'; obtain ⟨⟨x0, x1⟩, x2⟩ := hS'; go_simp <;> rfl) hS1 ?_
      try simp only [pa, pb, pc, Act.put, pd, pe, pf]
      refine tkg 16 rfl (by intro w' hS'; obtain ⟨⟨x0, x1⟩, x2⟩ := hS'; go_simp <;> rfl) hS1 ?_
      try simp only [pa, pb, pc, Act.put, pd, pe, pf]
      refine wpAnyL_done (by kernel_rfl) (NoPanic.normal ?_) _
      go_wp2
      go_roundg (gk - 1)
      case measure => omega
      case rel => exact ⟨0 + 1, by omega, by go_num, hbw _ hS1.2, HN⟩
     ·have hi0i : (0 : Int) < (i : Int) := by omega
      have hi0n : 0 < i := by omega
      have hi1 : (1 : Int) ≤ (i : Int) := by omega
      have hi1n : 1 ≤ i := by omega
      have hr : l[i - 1]? = some l[i - 1] := List.getElem?_eq_getElem (by omega)
      obtain ⟨b', off', e', d0, d1⟩ := h2 (i - 1) l[i - 1] hr
      cases e'
      obtain ⟨r, hr'⟩ : ∃ r, r = l[i - 1] := ⟨_, rfl⟩
      rw [← hr'] at hr d0 d1
      obtain ⟨r1, r2⟩ := r
      have hrH : Hid (l[i - 1]? = some (r1, r2)) := hr
      clear hr hr'
      have cl2 : ∀ W, Below (wr.heap.size + 1) wb W → W.cell? ⟨b, off + (i - 1) * 2, none⟩ = some (.string (bk r1)) ∧ W.cell? ⟨b, off + (i - 1) * 2 + 1, none⟩ = some (.string (bk r2)) := fun W hW =>
       ⟨((hbw W hW).cell (p := ⟨b, off + (i - 1) * 2, none⟩) (World.block_lt_of_cell? w _ d0)).trans d0, ((hbw W hW).cell (p := ⟨b, off + (i - 1) * 2 + 1, none⟩) (World.block_lt_of_cell? w _ d1)).trans d1⟩
      replace cl : ∀ W, Below (wr.heap.size + 1) wb W → W.cell? ⟨wr.heap.size, 0, none⟩ = some (.string (bk s1)) ∧ W.cell? ⟨wr.heap.size, 1, none⟩ = some (.string (bk s2)) ∧ W.cell? ⟨b, off + (i - 1) * 2, none⟩ = some (.string (bk r1)) ∧ W.cell? ⟨b, off + (i - 1) * 2 + 1, none⟩ = some (.string (bk r2)) := fun W hW => ⟨(cl W hW).1, (cl W hW).2, (cl2 W hW).1, (cl2 W hW).2⟩
      have i1 : IntKind.i64.wrap ((i : Int) - 1) = (i : Int) - 1 := IntWalk.i64_in _ (by omega)
      have i2 : (0 : Int) ≤ (i : Int) - 1 := by omega
      have i3 : (i : Int) - 1 < (l.length : Int) := by omega
      have i4 : ((i : Int) - 1).toNat = i - 1 := by omega
      clear cl2 d0 d1
      cases hap : apt (r1, r2) (s1, s2) with
      | false =>
       have E : Hid (B = false) := by show _ = _; rw [HB.out]; exact form_not (next_not2 (by omega) hxH.out hrH.out hap)
       have kc : ∀ W, (fun W => (W.cell? ⟨wr.heap.size, 0, none⟩ = some (.string (bk s1)) ∧ W.cell? ⟨wr.heap.size, 1, none⟩ = some (.string (bk s2)) ∧ W.cell? ⟨b, off + (i - 1) * 2, none⟩ = some (.string (bk r1)) ∧ W.cell? ⟨b, off + (i - 1) * 2 + 1, none⟩ = some (.string (bk r2))) ∧ Below (wr.heap.size + 1) wb W) W → Calls Tryz.prog 68 #[.agg #[.string (bk s1), .string (bk s2)]] W fun e w' => e = .returned (.int .i64 0) ∧ (fun W => (W.cell? ⟨wr.heap.size, 0, none⟩ = some (.string (bk s1)) ∧ W.cell? ⟨wr.heap.size, 1, none⟩ = some (.string (bk s2)) ∧ W.cell? ⟨b, off + (i - 1) * 2, none⟩ = some (.string (bk r1)) ∧ W.cell? ⟨b, off + (i - 1) * 2 + 1, none⟩ = some (.string (bk r2))) ∧ Below (wr.heap.size + 1) wb W) w' := fun W hW => by
        refine (check_yes hm W).mono ?_
        rintro e w' ⟨rfl, hb'⟩
        exact ⟨rfl, cl w' (kst W w' hW.2 hb'), kst W w' hW.2 hb'⟩
       have ka : ∀ W, (fun W => (W.cell? ⟨wr.heap.size, 0, none⟩ = some (.string (bk s1)) ∧ W.cell? ⟨wr.heap.size, 1, none⟩ = some (.string (bk s2)) ∧ W.cell? ⟨b, off + (i - 1) * 2, none⟩ = some (.string (bk r1)) ∧ W.cell? ⟨b, off + (i - 1) * 2 + 1, none⟩ = some (.string (bk r2))) ∧ Below (wr.heap.size + 1) wb W) W → Calls Tryz.prog 117 #[.agg #[.string (bk r1), .string (bk r2)], .agg #[.string (bk s1), .string (bk s2)]] W fun e w' => e = .returned (.bool false) ∧ (fun W => (W.cell? ⟨wr.heap.size, 0, none⟩ = some (.string (bk s1)) ∧ W.cell? ⟨wr.heap.size, 1, none⟩ = some (.string (bk s2)) ∧ W.cell? ⟨b, off + (i - 1) * 2, none⟩ = some (.string (bk r1)) ∧ W.cell? ⟨b, off + (i - 1) * 2 + 1, none⟩ = some (.string (bk r2))) ∧ Below (wr.heap.size + 1) wb W) w' := fun W hW => by
        refine (apart_of (r1, r2) (s1, s2) W).mono ?_
        rintro e w' ⟨rfl, hb'⟩
        exact ⟨by rw [hap], cl w' (kst W w' hW.2 hb'), kst W w' hW.2 hb'⟩
       have hS0 : (fun W => (W.cell? ⟨wr.heap.size, 0, none⟩ = some (.string (bk s1)) ∧ W.cell? ⟨wr.heap.size, 1, none⟩ = some (.string (bk s2)) ∧ W.cell? ⟨b, off + (i - 1) * 2, none⟩ = some (.string (bk r1)) ∧ W.cell? ⟨b, off + (i - 1) * 2 + 1, none⟩ = some (.string (bk r2))) ∧ Below (wr.heap.size + 1) wb W) wb.drew := ⟨cl _ (Below.refl _ wb).drew, (Below.refl _ wb).drew⟩
       clear HB HP hm hap kst cl hxH hrH h2 hF hsz hbb hi0
       refine wp_region_L (fun W => (W.cell? ⟨wr.heap.size, 0, none⟩ = some (.string (bk s1)) ∧ W.cell? ⟨wr.heap.size, 1, none⟩ = some (.string (bk s2)) ∧ W.cell? ⟨b, off + (i - 1) * 2, none⟩ = some (.string (bk r1)) ∧ W.cell? ⟨b, off + (i - 1) * 2 + 1, none⟩ = some (.string (bk r2))) ∧ Below (wr.heap.size + 1) wb W) [] (by kernel_rfl) ?_
       have yS : (fun W => (W.cell? ⟨wr.heap.size, 0, none⟩ = some (.string (bk s1)) ∧ W.cell? ⟨wr.heap.size, 1, none⟩ = some (.string (bk s2)) ∧ W.cell? ⟨b, off + (i - 1) * 2, none⟩ = some (.string (bk r1)) ∧ W.cell? ⟨b, off + (i - 1) * 2 + 1, none⟩ = some (.string (bk r2))) ∧ Below (wr.heap.size + 1) wb W) wb.drew := hS0
       refine tkg 0 rfl (by intro w' hS'; obtain ⟨⟨x0, x1, x3, x4⟩, x2⟩ := hS'; go_simp <;> rfl) yS ?_
       try simp only [pa, pb, pc, Act.put, pd, pe, pf]
       refine wpAnyL_one 1 (by kernel_rfl) rfl (by kernel_rfl) ?_
       intro K' hK'
       go_simp
       go_at_call 68
       refine (kc _ yS).mono ?_
       rintro e W1 ⟨rfl, hS1⟩
       refine hK'.out _ _ (.inr hS1) ?_
       clear hK' K'
       try simp only [pa, pb, pc, Act.put, pd, pe, pf]
       refine tkg 2 rfl (by intro w' hS'; obtain ⟨⟨x0, x1, x3, x4⟩, x2⟩ := hS'; go_simp <;> rfl) hS1 ?_
       try simp only [pa, pb, pc, Act.put, pd, pe, pf]
       refine tkg 3 rfl (by intro w' hS'; obtain ⟨⟨x0, x1, x3, x4⟩, x2⟩ := hS'; go_simp <;> rfl) hS1 ?_
       try simp only [pa, pb, pc, Act.put, pd, pe, pf]
       refine tkg 4 rfl (by intro w' hS'; obtain ⟨⟨x0, x1, x3, x4⟩, x2⟩ := hS'; go_simp <;> rfl) hS1 ?_
       try simp only [pa, pb, pc, Act.put, pd, pe, pf]
       refine tkg 5 rfl (by intro w' hS'; obtain ⟨⟨x0, x1, x3, x4⟩, x2⟩ := hS'; go_simp <;> rfl) hS1 ?_
       try simp only [pa, pb, pc, Act.put, pd, pe, pf]
       refine tkg 6 rfl (by intro w' hS'; obtain ⟨⟨x0, x1, x3, x4⟩, x2⟩ := hS'; go_simp <;> rfl) hS1 ?_
       try simp only [pa, pb, pc, Act.put, pd, pe, pf]
       refine tkg 7 rfl (by intro w' hS'; obtain ⟨⟨x0, x1, x3, x4⟩, x2⟩ := hS'; go_simp <;> rfl) hS1 ?_
       try simp only [pa, pb, pc, Act.put, pd, pe, pf]
       refine tkg 8 rfl (by intro w' hS'; obtain ⟨⟨x0, x1, x3, x4⟩, x2⟩ := hS'; go_simp <;> rfl) hS1 ?_
       try simp only [pa, pb, pc, Act.put, pd, pe, pf]
       refine tkg 9 rfl (by intro w' hS'; obtain ⟨⟨x0, x1, x3, x4⟩, x2⟩ := hS'; go_simp <;> rfl) hS1 ?_
       try simp only [pa, pb, pc, Act.put, pd, pe, pf]
       refine tkg 10 rfl (by intro w' hS'; obtain ⟨⟨x0, x1, x3, x4⟩, x2⟩ := hS'; go_simp <;> rfl) hS1 ?_
       try simp only [pa, pb, pc, Act.put, pd, pe, pf]
       refine tkg 11 rfl (by intro w' hS'; obtain ⟨⟨x0, x1, x3, x4⟩, x2⟩ := hS'; go_simp <;> rfl) hS1 ?_
       try simp only [pa, pb, pc, Act.put, pd, pe, pf]
       refine tkg 12 rfl (by intro w' hS'; obtain ⟨⟨x0, x1, x3, x4⟩, x2⟩ := hS'; go_simp <;> rfl) hS1 ?_
       try simp only [pa, pb, pc, Act.put, pd, pe, pf]
       refine wpAnyL_one 13 (by kernel_rfl) rfl (by kernel_rfl) ?_
       intro K' hK'
       go_simp
       go_at_call 117
       refine (ka _ hS1).mono ?_
       rintro e W2 ⟨rfl, hS2⟩
       refine hK'.out _ _ (.inr hS2) ?_
       clear hK' K'
       try simp only [pa, pb, pc, Act.put, pd, pe, pf]
       refine tkg 14 rfl (by intro w' hS'; obtain ⟨⟨x0, x1, x3, x4⟩, x2⟩ := hS'; go_simp <;> rfl) hS2 ?_
       try simp only [pa, pb, pc, Act.put, pd, pe, pf]
       refine tkg 15 rfl (by intro w' hS'; obtain ⟨⟨x0, x1, x3, x4⟩, x2⟩ := hS'; go_simp <;> rfl) hS2 ?_
       try simp only [pa, pb, pc, Act.put, pd, pe, pf]
       refine tkg 16 rfl (by intro w' hS'; obtain ⟨⟨x0, x1, x3, x4⟩, x2⟩ := hS'; go_simp <;> rfl) hS2 ?_
       try simp only [pa, pb, pc, Act.put, pd, pe, pf]
       refine wpAnyL_done (by kernel_rfl) (NoPanic.normal ?_) _
       go_wp2
       go_ret
       exact ⟨by rw [E.out]; rfl, hbw _ hS2.2⟩
      | true =>
       have HN : Hid (Pre l (i + 1)) := form_next HP.out (next_more hxH.out hm hrH.out hap)
       have kc : ∀ W, (fun W => (W.cell? ⟨wr.heap.size, 0, none⟩ = some (.string (bk s1)) ∧ W.cell? ⟨wr.heap.size, 1, none⟩ = some (.string (bk s2)) ∧ W.cell? ⟨b, off + (i - 1) * 2, none⟩ = some (.string (bk r1)) ∧ W.cell? ⟨b, off + (i - 1) * 2 + 1, none⟩ = some (.string (bk r2))) ∧ Below (wr.heap.size + 1) wb W) W → Calls Tryz.prog 68 #[.agg #[.string (bk s1), .string (bk s2)]] W fun e w' => e = .returned (.int .i64 0) ∧ (fun W => (W.cell? ⟨wr.heap.size, 0, none⟩ = some (.string (bk s1)) ∧ W.cell? ⟨wr.heap.size, 1, none⟩ = some (.string (bk s2)) ∧ W.cell? ⟨b, off + (i - 1) * 2, none⟩ = some (.string (bk r1)) ∧ W.cell? ⟨b, off + (i - 1) * 2 + 1, none⟩ = some (.string (bk r2))) ∧ Below (wr.heap.size + 1) wb W) w' := fun W hW => by
        refine (check_yes hm W).mono ?_
        rintro e w' ⟨rfl, hb'⟩
        exact ⟨rfl, cl w' (kst W w' hW.2 hb'), kst W w' hW.2 hb'⟩
       have ka : ∀ W, (fun W => (W.cell? ⟨wr.heap.size, 0, none⟩ = some (.string (bk s1)) ∧ W.cell? ⟨wr.heap.size, 1, none⟩ = some (.string (bk s2)) ∧ W.cell? ⟨b, off + (i - 1) * 2, none⟩ = some (.string (bk r1)) ∧ W.cell? ⟨b, off + (i - 1) * 2 + 1, none⟩ = some (.string (bk r2))) ∧ Below (wr.heap.size + 1) wb W) W → Calls Tryz.prog 117 #[.agg #[.string (bk r1), .string (bk r2)], .agg #[.string (bk s1), .string (bk s2)]] W fun e w' => e = .returned (.bool true) ∧ (fun W => (W.cell? ⟨wr.heap.size, 0, none⟩ = some (.string (bk s1)) ∧ W.cell? ⟨wr.heap.size, 1, none⟩ = some (.string (bk s2)) ∧ W.cell? ⟨b, off + (i - 1) * 2, none⟩ = some (.string (bk r1)) ∧ W.cell? ⟨b, off + (i - 1) * 2 + 1, none⟩ = some (.string (bk r2))) ∧ Below (wr.heap.size + 1) wb W) w' := fun W hW => by
        refine (apart_of (r1, r2) (s1, s2) W).mono ?_
        rintro e w' ⟨rfl, hb'⟩
        exact ⟨by rw [hap], cl w' (kst W w' hW.2 hb'), kst W w' hW.2 hb'⟩
       have hS0 : (fun W => (W.cell? ⟨wr.heap.size, 0, none⟩ = some (.string (bk s1)) ∧ W.cell? ⟨wr.heap.size, 1, none⟩ = some (.string (bk s2)) ∧ W.cell? ⟨b, off + (i - 1) * 2, none⟩ = some (.string (bk r1)) ∧ W.cell? ⟨b, off + (i - 1) * 2 + 1, none⟩ = some (.string (bk r2))) ∧ Below (wr.heap.size + 1) wb W) wb.drew := ⟨cl _ (Below.refl _ wb).drew, (Below.refl _ wb).drew⟩
       clear HB HP hm hap kst cl hxH hrH h2 hF hsz hbb hi0
       refine wp_region_L (fun W => (W.cell? ⟨wr.heap.size, 0, none⟩ = some (.string (bk s1)) ∧ W.cell? ⟨wr.heap.size, 1, none⟩ = some (.string (bk s2)) ∧ W.cell? ⟨b, off + (i - 1) * 2, none⟩ = some (.string (bk r1)) ∧ W.cell? ⟨b, off + (i - 1) * 2 + 1, none⟩ = some (.string (bk r2))) ∧ Below (wr.heap.size + 1) wb W) [] (by kernel_rfl) ?_
       have yS : (fun W => (W.cell? ⟨wr.heap.size, 0, none⟩ = some (.string (bk s1)) ∧ W.cell? ⟨wr.heap.size, 1, none⟩ = some (.string (bk s2)) ∧ W.cell? ⟨b, off + (i - 1) * 2, none⟩ = some (.string (bk r1)) ∧ W.cell? ⟨b, off + (i - 1) * 2 + 1, none⟩ = some (.string (bk r2))) ∧ Below (wr.heap.size + 1) wb W) wb.drew := hS0
       refine tkg 0 rfl (by intro w' hS'; obtain ⟨⟨x0, x1, x3, x4⟩, x2⟩ := hS'; go_simp <;> rfl) yS ?_
       try simp only [pa, pb, pc, Act.put, pd, pe, pf]
       refine wpAnyL_one 1 (by kernel_rfl) rfl (by kernel_rfl) ?_
       intro K' hK'
       go_simp
       go_at_call 68
       refine (kc _ yS).mono ?_
       rintro e W1 ⟨rfl, hS1⟩
       refine hK'.out _ _ (.inr hS1) ?_
       clear hK' K'
       try simp only [pa, pb, pc, Act.put, pd, pe, pf]
       refine tkg 2 rfl (by intro w' hS'; obtain ⟨⟨x0, x1, x3, x4⟩, x2⟩ := hS'; go_simp <;> rfl) hS1 ?_
       try simp only [pa, pb, pc, Act.put, pd, pe, pf]
       refine tkg 3 rfl (by intro w' hS'; obtain ⟨⟨x0, x1, x3, x4⟩, x2⟩ := hS'; go_simp <;> rfl) hS1 ?_
       try simp only [pa, pb, pc, Act.put, pd, pe, pf]
       refine tkg 4 rfl (by intro w' hS'; obtain ⟨⟨x0, x1, x3, x4⟩, x2⟩ := hS'; go_simp <;> rfl) hS1 ?_
       try simp only [pa, pb, pc, Act.put, pd, pe, pf]
       refine tkg 5 rfl (by intro w' hS'; obtain ⟨⟨x0, x1, x3, x4⟩, x2⟩ := hS'; go_simp <;> rfl) hS1 ?_
       try simp only [pa, pb, pc, Act.put, pd, pe, pf]
       refine tkg 6 rfl (by intro w' hS'; obtain ⟨⟨x0, x1, x3, x4⟩, x2⟩ := hS'; go_simp <;> rfl) hS1 ?_
       try simp only [pa, pb, pc, Act.put, pd, pe, pf]
       refine tkg 7 rfl (by intro w' hS'; obtain ⟨⟨x0, x1, x3, x4⟩, x2⟩ := hS'; go_simp <;> rfl) hS1 ?_
       try simp only [pa, pb, pc, Act.put, pd, pe, pf]
       refine tkg 8 rfl (by intro w' hS'; obtain ⟨⟨x0, x1, x3, x4⟩, x2⟩ := hS'; go_simp <;> rfl) hS1 ?_
       try simp only [pa, pb, pc, Act.put, pd, pe, pf]
       refine tkg 9 rfl (by intro w' hS'; obtain ⟨⟨x0, x1, x3, x4⟩, x2⟩ := hS'; go_simp <;> rfl) hS1 ?_
       try simp only [pa, pb, pc, Act.put, pd, pe, pf]
       refine tkg 10 rfl (by intro w' hS'; obtain ⟨⟨x0, x1, x3, x4⟩, x2⟩ := hS'; go_simp <;> rfl) hS1 ?_
       try simp only [pa, pb, pc, Act.put, pd, pe, pf]
       refine tkg 11 rfl (by intro w' hS'; obtain ⟨⟨x0, x1, x3, x4⟩, x2⟩ := hS'; go_simp <;> rfl) hS1 ?_
       try simp only [pa, pb, pc, Act.put, pd, pe, pf]
       refine tkg 12 rfl (by intro w' hS'; obtain ⟨⟨x0, x1, x3, x4⟩, x2⟩ := hS'; go_simp <;> rfl) hS1 ?_
       try simp only [pa, pb, pc, Act.put, pd, pe, pf]
       refine wpAnyL_one 13 (by kernel_rfl) rfl (by kernel_rfl) ?_
       intro K' hK'
       go_simp
       go_at_call 117
       refine (ka _ hS1).mono ?_
       rintro e W2 ⟨rfl, hS2⟩
       refine hK'.out _ _ (.inr hS2) ?_
       clear hK' K'
       try simp only [pa, pb, pc, Act.put, pd, pe, pf]
       refine tkg 14 rfl (by intro w' hS'; obtain ⟨⟨x0, x1, x3, x4⟩, x2⟩ := hS'; go_simp <;> rfl) hS2 ?_
       try simp only [pa, pb, pc, Act.put, pd, pe, pf]
       refine tkg 15 rfl (by intro w' hS'; obtain ⟨⟨x0, x1, x3, x4⟩, x2⟩ := hS'; go_simp <;> rfl) hS2 ?_
       try simp only [pa, pb, pc, Act.put, pd, pe, pf]
       refine tkg 16 rfl (by intro w' hS'; obtain ⟨⟨x0, x1, x3, x4⟩, x2⟩ := hS'; go_simp <;> rfl) hS2 ?_
       try simp only [pa, pb, pc, Act.put, pd, pe, pf]
       refine wpAnyL_done (by kernel_rfl) (NoPanic.normal ?_) _
       go_wp2
       go_roundg (gk - 1)
       case measure => omega
       case rel => exact ⟨i + 1, by omega, by go_num, hbw _ hS2.2, HN⟩
   ·have hlti : ¬ (i : Int) < (l.length : Int) := by omega
    obtain rfl : i = l.length := by omega
    have E : Hid (B = true) := by show _ = _; rw [HB.out]; exact pre_all (by omega) HP.out
    clear HB h2 HP
    go_wp2
    go_ret
    exact ⟨by rw [E.out]; rfl, hb⟩
end Go.Proofs.YtfpbgfmnjpamlaaGreat

