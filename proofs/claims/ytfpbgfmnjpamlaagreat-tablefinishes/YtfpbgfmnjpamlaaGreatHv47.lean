import Derived.Test.YtfpbgfmnjpamlaaGreatHv43
import Derived.Test.YtfpbgfmnjpamlaaGreatHv44
import Derived.Test.YtfpbgfmnjpamlaaGreatHv45
import Derived.Test.YtfpbgfmnjpamlaaGreatHv46
import Derived.Test.YtfpbgfmnjpamlaaGreatHv01
/- The document's May. -/
namespace Go.Proofs.YtfpbgfmnjpamlaaGreat
open Go.RowKit LeaseMath
set_option maxRecDepth 100000
set_option linter.unusedSimpArgs false
set_option linter.unusedVariables false

set_option maxHeartbeats 16000000 in
theorem rtmay_of (z : Tz) (w : World) (hR : TbR w z) (g4 : z.t.ints.length ≤ 1000000000) : Calls Tryz.prog 23 #[tv z] w fun e w' => e = .returned (.bool (okT z.t)) ∧ Below w.heap.size w w' := by
 obtain ⟨B, HB⟩ : ∃ B, Hid (B = okT z.t) := ⟨_, rfl⟩
 rw [← HB.out]
 replace HB : Hid (B = rmayT z.t) := by show _ = _; rw [HB.out, rmay_same]
 have HR : Hid (TbR w z) := hR
 have kf1 : Hid (∀ W, Below w.heap.size w W → _) := fun W hW => refForm_of z.t.spans _ W ((HR.out.1.below hW).sv)
 have kf2 : Hid (∀ W, Below w.heap.size w W → _) := fun W hW => refForm_of z.t.frozen _ W ((HR.out.2.1.below hW).sv)
 have kh : Hid (∀ W, Below w.heap.size w W → _) := fun W hW => rmay_of z.t.holds _ W (HR.out.2.2.1.below hW)
 have km : Hid (∀ W, Below w.heap.size w W → _) := fun W hW => rmarks_of z.t.marks _ W (HR.out.2.2.2.1.below hW)
 have kc : Hid (SpanMath.formB z.t.spans = true → SpanMath.formB z.t.frozen = true → ∀ s ∈ z.t.frozen, ∀ W, Below w.heap.size w W → _) := fun h1 h2 s hs W hW => rcov_of z.t.spans _ s W ((HR.out.1.below hW).sv) (SpanMath.formB_iff.1 h1).1 (SpanMath.formB_iff.1 h1).2.2.2 ((SpanMath.formB_iff.1 h2).2.2.2 s hs)
 have kw : Hid (SpanMath.formB z.t.spans = true → mayB holdB z.t.holds = true → mayB markB z.t.marks = true → ∀ W, Below w.heap.size w W → _) := fun h1 h2 h3 W hW => within_of z.t.spans z.t.holds z.t.marks _ _ _ W (HR.out.1.below hW) (HR.out.2.2.1.below hW) (HR.out.2.2.2.1.below hW) (by have := (SpanMath.formB_iff.1 h1).1; omega) (by have := (may_iff.1 h2).1; omega) (by have := (may_iff.1 h3).1; omega)
 have ki : Hid (SpanMath.formB z.t.spans = true → ∀ k W, Below w.heap.size w W → _) := fun h1 k W hW => refIn_of z.t.spans _ k W ((HR.out.1.below hW).sv) (by have := (SpanMath.formB_iff.1 h1).1; omega)
 have kn : Hid (mayB holdB z.t.holds = true → mayB markB z.t.marks = true → z.t.holds.length ≤ 1024 ∧ z.t.marks.length ≤ 1024) := fun h1 h2 => ⟨(may_iff.1 h1).1, (may_iff.1 h2).1⟩
 obtain ⟨hs, hb, cl0⟩ := tb_box w z
 obtain ⟨⟨nw, sp, fr, hs_, ms, is⟩, ⟨sa, sc⟩, ⟨fa, fc⟩, ⟨ha, hc⟩, ⟨ma, mc⟩, ⟨ia, ic_⟩⟩ := z
 dsimp only [tv, tc] at *
 obtain ⟨w0, hw0⟩ : ∃ W, w.alloc (.cells #[.int .i64 nw, .slice sa sp.length sc, .slice fa fr.length fc, .slice ha hs_.length hc, .slice ma ms.length mc, .slice ia is.length ic_] 27) = W := ⟨_, rfl⟩
 rw [hw0] at hs hb cl0
 have HW : Hid (∀ W, Below (w.heap.size + 1) w0 W → Below w.heap.size w W) := fun W hW => hb.trans (hW.mono (by omega))
 have HC : Hid (∀ W, Below (w.heap.size + 1) w0 W → _) := cl0
 have hb0 : Below (w.heap.size + 1) w0 w0 := Below.refl _ _
 have hz : w.heap.size + 1 ≤ w0.heap.size := by omega
 replace HB : Hid (B = _) := HB.out.trans (show _ = (timeB nw && (SpanMath.formB sp && (SpanMath.formB fr && (mayB holdB hs_ && (mayB markB ms && ((fr.all fun s => rcovB sp s) && (withB sp hs_ ms && (decide (hs_.length + ms.length + is.length ≤ 1024) && walk (rintB sp) none is)))))))) from rfl)
 have kcl : Hid (∀ s, decide (SpanMath.leftOf sp [s] = []) = rcovB sp s) := fun _ => rfl
 clear hs hb cl0 hR
 obtain ⟨F1, HF1⟩ : ∃ b, Hid (SpanMath.formB sp = b) := ⟨_, rfl⟩
 obtain ⟨F2, HF2⟩ : ∃ b, Hid (SpanMath.formB fr = b) := ⟨_, rfl⟩
 obtain ⟨H1, HH1⟩ : ∃ b, Hid (mayB holdB hs_ = b) := ⟨_, rfl⟩
 obtain ⟨M1, HM1⟩ : ∃ b, Hid (mayB markB ms = b) := ⟨_, rfl⟩
 rw [HF1.out] at kf1 kc kw ki HB
 rw [HF2.out] at kf2 kc HB
 rw [HH1.out] at kh kw kn HB
 rw [HM1.out] at km kw kn HB
 obtain ⟨c0, c1, c2, c3, c4, c5⟩ := HC.out _ hb0
 by_cases h1 : nw < 0
 ·have h1d : decide (nw < 0) = true := decide_eq_true h1
  have E : Hid (B = false) := by show _ = _; rw [HB.out]; rw [show timeB nw = false by unfold timeB; rw [decide_eq_false (by omega : ¬ 0 ≤ nw)]; rfl]; rfl
  clear HB kf1 kf2 kh km kc kw ki kn
  go_enter Tryz.func23, Tryz.ntmps23
  go_wp2
  go_ret
  exact ⟨by rw [E.out]; rfl, HW.out _ hb0⟩
 by_cases h2 : 2147483647 < nw
 ·have h1d : decide (nw < 0) = false := decide_eq_false h1
  have h2d : decide (2147483647 < nw) = true := decide_eq_true h2
  have E : Hid (B = false) := by show _ = _; rw [HB.out]; rw [show timeB nw = false by unfold timeB; rw [decide_eq_false (by omega : ¬ nw ≤ 2147483647)]; simp]; rfl
  clear HB kf1 kf2 kh km kc kw ki kn
  go_enter Tryz.func23, Tryz.ntmps23
  go_wp2
  go_ret
  exact ⟨by rw [E.out]; rfl, HW.out _ hb0⟩
 have h1d : decide (nw < 0) = false := decide_eq_false h1
 have h2d : decide (2147483647 < nw) = false := decide_eq_false h2
 replace HB : Hid (B = (F1 && (F2 && (H1 && (M1 && ((fr.all fun s => rcovB sp s) && (withB sp hs_ ms && (decide (hs_.length + ms.length + is.length ≤ 1024) && walk (rintB sp) none is)))))))) := by show _ = _; rw [HB.out, time_iff.2 ⟨by omega, by omega⟩]; rfl
 cases F1 with
 | false =>
  have E : Hid (B = false) := by show _ = _; rw [HB.out]; rfl
  clear HB kf2 kh km kc kw ki kn
  go_enter Tryz.func23, Tryz.ntmps23
  go_wp2_with fail
  refine (kf1.out _ (HW.out _ hb0)).mono ?_
  rintro e w1 ⟨rfl, hbc⟩
  have hb1 := keep_step hb0 hz hbc
  clear hbc
  clear c0 c1 c2 c3 c4 c5
  obtain ⟨c0, c1, c2, c3, c4, c5⟩ := HC.out _ hb1
  go_wp2
  go_ret
  exact ⟨by rw [E.out]; rfl, HW.out _ hb1⟩
 | true =>
  cases F2 with
  | false =>
   have E : Hid (B = false) := by show _ = _; rw [HB.out]; rfl
   clear HB kh km kc kw ki kn
   go_enter Tryz.func23, Tryz.ntmps23
   go_wp2_with fail
   refine (kf1.out _ (HW.out _ hb0)).mono ?_
   rintro e w1 ⟨rfl, hbc⟩
   have hb1 := keep_step hb0 hz hbc
   clear hbc
   clear c0 c1 c2 c3 c4 c5
   obtain ⟨c0, c1, c2, c3, c4, c5⟩ := HC.out _ hb1
   go_wp2_with fail
   refine (kf2.out _ (HW.out _ hb1)).mono ?_
   rintro e w2 ⟨rfl, hbc⟩
   have hb2 := keep_step hb1 hz hbc
   clear hbc
   clear c0 c1 c2 c3 c4 c5
   obtain ⟨c0, c1, c2, c3, c4, c5⟩ := HC.out _ hb2
   go_wp2
   go_ret
   exact ⟨by rw [E.out]; rfl, HW.out _ hb2⟩
  | true =>
   cases H1 with
   | false =>
    have E : Hid (B = false) := by show _ = _; rw [HB.out]; rfl
    clear HB km kc kw ki kn
    go_enter Tryz.func23, Tryz.ntmps23
    go_wp2_with fail
    refine (kf1.out _ (HW.out _ hb0)).mono ?_
    rintro e w1 ⟨rfl, hbc⟩
    have hb1 := keep_step hb0 hz hbc
    clear hbc
    clear c0 c1 c2 c3 c4 c5
    obtain ⟨c0, c1, c2, c3, c4, c5⟩ := HC.out _ hb1
    go_wp2_with fail
    refine (kf2.out _ (HW.out _ hb1)).mono ?_
    rintro e w2 ⟨rfl, hbc⟩
    have hb2 := keep_step hb1 hz hbc
    clear hbc
    clear c0 c1 c2 c3 c4 c5
    obtain ⟨c0, c1, c2, c3, c4, c5⟩ := HC.out _ hb2
    go_wp2_with fail
    refine (kh.out _ (HW.out _ hb2)).mono ?_
    rintro e w3 ⟨rfl, hbc⟩
    have hb3 := keep_step hb2 hz hbc
    clear hbc
    clear c0 c1 c2 c3 c4 c5
    obtain ⟨c0, c1, c2, c3, c4, c5⟩ := HC.out _ hb3
    go_wp2
    go_ret
    exact ⟨by rw [E.out]; rfl, HW.out _ hb3⟩
   | true =>
    cases M1 with
    | false =>
     have E : Hid (B = false) := by show _ = _; rw [HB.out]; rfl
     clear HB kc kw ki kn
     go_enter Tryz.func23, Tryz.ntmps23
     go_wp2_with fail
     refine (kf1.out _ (HW.out _ hb0)).mono ?_
     rintro e w1 ⟨rfl, hbc⟩
     have hb1 := keep_step hb0 hz hbc
     clear hbc
     clear c0 c1 c2 c3 c4 c5
     obtain ⟨c0, c1, c2, c3, c4, c5⟩ := HC.out _ hb1
     go_wp2_with fail
     refine (kf2.out _ (HW.out _ hb1)).mono ?_
     rintro e w2 ⟨rfl, hbc⟩
     have hb2 := keep_step hb1 hz hbc
     clear hbc
     clear c0 c1 c2 c3 c4 c5
     obtain ⟨c0, c1, c2, c3, c4, c5⟩ := HC.out _ hb2
     go_wp2_with fail
     refine (kh.out _ (HW.out _ hb2)).mono ?_
     rintro e w3 ⟨rfl, hbc⟩
     have hb3 := keep_step hb2 hz hbc
     clear hbc
     clear c0 c1 c2 c3 c4 c5
     obtain ⟨c0, c1, c2, c3, c4, c5⟩ := HC.out _ hb3
     go_wp2_with fail
     refine (km.out _ (HW.out _ hb3)).mono ?_
     rintro e w4 ⟨rfl, hbc⟩
     have hb4 := keep_step hb3 hz hbc
     clear hbc
     clear c0 c1 c2 c3 c4 c5
     obtain ⟨c0, c1, c2, c3, c4, c5⟩ := HC.out _ hb4
     go_wp2
     go_ret
     exact ⟨by rw [E.out]; rfl, HW.out _ hb4⟩
    | true =>
     have hfl := (SpanMath.formB_iff.1 HF2.out).1
     have HB1 : Hid (B = ((fr.drop 0).all (fun s => rcovB sp s) && (withB sp hs_ ms && (decide (hs_.length + ms.length + is.length ≤ 1024) && walk (rintB sp) none is)))) := by show _ = _; rw [HB.out]; rfl
     replace kc : Hid _ := kc.out rfl rfl
     replace kw : Hid _ := kw.out rfl rfl rfl
     replace ki : Hid _ := ki.out rfl
     replace kn : Hid _ := kn.out rfl rfl
     clear HB
     go_enter Tryz.func23, Tryz.ntmps23
     go_wp2_with fail
     refine (kf1.out _ (HW.out _ hb0)).mono ?_
     rintro e w1 ⟨rfl, hbc⟩
     have hb1 := keep_step hb0 hz hbc
     clear hbc
     clear c0 c1 c2 c3 c4 c5
     obtain ⟨c0, c1, c2, c3, c4, c5⟩ := HC.out _ hb1
     go_wp2_with fail
     refine (kf2.out _ (HW.out _ hb1)).mono ?_
     rintro e w2 ⟨rfl, hbc⟩
     have hb2 := keep_step hb1 hz hbc
     clear hbc
     clear c0 c1 c2 c3 c4 c5
     obtain ⟨c0, c1, c2, c3, c4, c5⟩ := HC.out _ hb2
     go_wp2_with fail
     refine (kh.out _ (HW.out _ hb2)).mono ?_
     rintro e w3 ⟨rfl, hbc⟩
     have hb3 := keep_step hb2 hz hbc
     clear hbc
     clear c0 c1 c2 c3 c4 c5
     obtain ⟨c0, c1, c2, c3, c4, c5⟩ := HC.out _ hb3
     go_wp2_with fail
     refine (km.out _ (HW.out _ hb3)).mono ?_
     rintro e w4 ⟨rfl, hbc⟩
     have hb4 := keep_step hb3 hz hbc
     clear hbc
     clear c0 c1 c2 c3 c4 c5
     obtain ⟨c0, c1, c2, c3, c4, c5⟩ := HC.out _ hb4
     clear hb0 hb1 hb2 hb3
     go_wp2
     clear c0 c1 c2 c3 c4 c5
     go_loopg [3] fr.length (fun g s3 wr => ∃ i : Nat, i + g = fr.length ∧ s3 = .int .i64 (i : Int) ∧ Below (w.heap.size + 1) w0 wr ∧ Hid (B = ((fr.drop i).all (fun s => rcovB sp s) && (withB sp hs_ ms && (decide (hs_.length + ms.length + is.length ≤ 1024) && walk (rintB sp) none is)))))
     case atStart => exact ⟨0, by omega, rfl, hb4, HB1⟩
     case round =>
      obtain ⟨i, hig, rfl, hb, HP⟩ := hrel
      clear HB1
      obtain ⟨e0, e1, e2, e3, e4, e5⟩ := HC.out _ hb
      by_cases hlt : i < fr.length
      ·have hlti : (i : Int) < (fr.length : Int) := by omega
       have hx : fr[i]? = some fr[i] := List.getElem?_eq_getElem hlt
       obtain ⟨s, hss⟩ : ∃ z, z = fr[i] := ⟨_, rfl⟩
       rw [← hss] at hx
       clear hss
       have hmem := List.mem_of_getElem? hx
       obtain ⟨b, off, ea, cc⟩ := rdq_at HR.out.2.1 hx
       subst ea
       have HA := all_at (p := fun s => rcovB sp s) hx
       obtain ⟨s1, s2⟩ := s
       dsimp only at cc HA
       have cl : ∀ W, Below (w.heap.size + 1) w0 W → (W.cell? ⟨w.heap.size, 1, none⟩ = some (.slice sa sp.length sc) ∧ W.cell? ⟨w.heap.size, 2, none⟩ = some (.slice (some ⟨b, off, none⟩) fr.length fc) ∧ W.cell? ⟨b, off + i * 2, none⟩ = some (.string (bk s1)) ∧ W.cell? ⟨b, off + i * 2 + 1, none⟩ = some (.string (bk s2))) := fun W hW => ⟨(HC.out _ hW).2.1, (HC.out _ hW).2.2.1, (cc W (HW.out _ hW)).1, (cc W (HW.out _ hW)).2⟩
       cases hcv : rcovB sp (s1, s2) with
       | false =>
        have E : Hid (B = false) := by show _ = _; rw [HP.out, HA, hcv]; rfl
        have kcc : ∀ W, (fun W => (W.cell? ⟨w.heap.size, 1, none⟩ = some (.slice sa sp.length sc) ∧ W.cell? ⟨w.heap.size, 2, none⟩ = some (.slice (some ⟨b, off, none⟩) fr.length fc) ∧ W.cell? ⟨b, off + i * 2, none⟩ = some (.string (bk s1)) ∧ W.cell? ⟨b, off + i * 2 + 1, none⟩ = some (.string (bk s2))) ∧ Below (w.heap.size + 1) w0 W) W → Calls Tryz.prog 56 #[.slice sa sp.length sc, .agg #[.string (bk s1), .string (bk s2)]] W fun e w' => e = .returned (.bool false) ∧ (fun W => (W.cell? ⟨w.heap.size, 1, none⟩ = some (.slice sa sp.length sc) ∧ W.cell? ⟨w.heap.size, 2, none⟩ = some (.slice (some ⟨b, off, none⟩) fr.length fc) ∧ W.cell? ⟨b, off + i * 2, none⟩ = some (.string (bk s1)) ∧ W.cell? ⟨b, off + i * 2 + 1, none⟩ = some (.string (bk s2))) ∧ Below (w.heap.size + 1) w0 W) w' := fun W hW => by
         refine (kc.out (s1, s2) hmem W (HW.out _ hW.2)).mono ?_
         rintro e w' ⟨rfl, hb'⟩
         exact ⟨by rw [kcl.out, hcv], cl w' (keep_step hW.2 hz hb'), keep_step hW.2 hz hb'⟩
        have hS0 : (fun W => (W.cell? ⟨w.heap.size, 1, none⟩ = some (.slice sa sp.length sc) ∧ W.cell? ⟨w.heap.size, 2, none⟩ = some (.slice (some ⟨b, off, none⟩) fr.length fc) ∧ W.cell? ⟨b, off + i * 2, none⟩ = some (.string (bk s1)) ∧ W.cell? ⟨b, off + i * 2 + 1, none⟩ = some (.string (bk s2))) ∧ Below (w.heap.size + 1) w0 W) wr.drew := ⟨cl _ hb.drew, hb.drew⟩
        clear HP HA cl hx HR kf1 kf2 kh km kw ki kn hmem
        go_wp2
        refine wp_region_L (fun W => (W.cell? ⟨w.heap.size, 1, none⟩ = some (.slice sa sp.length sc) ∧ W.cell? ⟨w.heap.size, 2, none⟩ = some (.slice (some ⟨b, off, none⟩) fr.length fc) ∧ W.cell? ⟨b, off + i * 2, none⟩ = some (.string (bk s1)) ∧ W.cell? ⟨b, off + i * 2 + 1, none⟩ = some (.string (bk s2))) ∧ Below (w.heap.size + 1) w0 W) [] (by kernel_rfl) ?_
        have yS : (fun W => (W.cell? ⟨w.heap.size, 1, none⟩ = some (.slice sa sp.length sc) ∧ W.cell? ⟨w.heap.size, 2, none⟩ = some (.slice (some ⟨b, off, none⟩) fr.length fc) ∧ W.cell? ⟨b, off + i * 2, none⟩ = some (.string (bk s1)) ∧ W.cell? ⟨b, off + i * 2 + 1, none⟩ = some (.string (bk s2))) ∧ Below (w.heap.size + 1) w0 W) wr.drew := hS0
        refine tkg 0 rfl (by intro w' hS'; obtain ⟨⟨x0, x1, x2, x3⟩, xb⟩ := hS'; go_simp <;> rfl) yS ?_
        try simp only [pa, pb, pc, Act.put, pd, pe, pf]
        refine tkg 1 rfl (by intro w' hS'; obtain ⟨⟨x0, x1, x2, x3⟩, xb⟩ := hS'; go_simp <;> rfl) yS ?_
        try simp only [pa, pb, pc, Act.put, pd, pe, pf]
        refine tkg 2 rfl (by intro w' hS'; obtain ⟨⟨x0, x1, x2, x3⟩, xb⟩ := hS'; go_simp <;> rfl) yS ?_
        try simp only [pa, pb, pc, Act.put, pd, pe, pf]
        refine tkg 3 rfl (by intro w' hS'; obtain ⟨⟨x0, x1, x2, x3⟩, xb⟩ := hS'; go_simp <;> rfl) yS ?_
        try simp only [pa, pb, pc, Act.put, pd, pe, pf]
        refine tkg 4 rfl (by intro w' hS'; obtain ⟨⟨x0, x1, x2, x3⟩, xb⟩ := hS'; go_simp <;> rfl) yS ?_
        try simp only [pa, pb, pc, Act.put, pd, pe, pf]
        refine tkg 5 rfl (by intro w' hS'; obtain ⟨⟨x0, x1, x2, x3⟩, xb⟩ := hS'; go_simp <;> rfl) yS ?_
        try simp only [pa, pb, pc, Act.put, pd, pe, pf]
        refine tkg 6 rfl (by intro w' hS'; obtain ⟨⟨x0, x1, x2, x3⟩, xb⟩ := hS'; go_simp <;> rfl) yS ?_
        try simp only [pa, pb, pc, Act.put, pd, pe, pf]
        refine wpAnyL_one 7 (by kernel_rfl) rfl (by kernel_rfl) ?_
        intro K' hK'
        go_simp
        go_at_call 56
        refine (kcc _ yS).mono ?_
        rintro e W1 ⟨rfl, hS1⟩
        refine hK'.out _ _ (.inr hS1) ?_
        clear hK' K'
        try simp only [pa, pb, pc, Act.put, pd, pe, pf]
        refine tkg 8 rfl (by intro w' hS'; obtain ⟨⟨x0, x1, x2, x3⟩, xb⟩ := hS'; go_simp <;> rfl) hS1 ?_
        try simp only [pa, pb, pc, Act.put, pd, pe, pf]
        refine wpAnyL_done (by kernel_rfl) (NoPanic.normal ?_) _
        go_wp2
        go_ret
        exact ⟨by rw [E.out]; rfl, HW.out _ hS1.2⟩
       | true =>
        have HN : Hid (B = ((fr.drop (i + 1)).all (fun s => rcovB sp s) && (withB sp hs_ ms && (decide (hs_.length + ms.length + is.length ≤ 1024) && walk (rintB sp) none is)))) := by show _ = _; rw [HP.out, HA, hcv]; rfl
        have kcc : ∀ W, (fun W => (W.cell? ⟨w.heap.size, 1, none⟩ = some (.slice sa sp.length sc) ∧ W.cell? ⟨w.heap.size, 2, none⟩ = some (.slice (some ⟨b, off, none⟩) fr.length fc) ∧ W.cell? ⟨b, off + i * 2, none⟩ = some (.string (bk s1)) ∧ W.cell? ⟨b, off + i * 2 + 1, none⟩ = some (.string (bk s2))) ∧ Below (w.heap.size + 1) w0 W) W → Calls Tryz.prog 56 #[.slice sa sp.length sc, .agg #[.string (bk s1), .string (bk s2)]] W fun e w' => e = .returned (.bool true) ∧ (fun W => (W.cell? ⟨w.heap.size, 1, none⟩ = some (.slice sa sp.length sc) ∧ W.cell? ⟨w.heap.size, 2, none⟩ = some (.slice (some ⟨b, off, none⟩) fr.length fc) ∧ W.cell? ⟨b, off + i * 2, none⟩ = some (.string (bk s1)) ∧ W.cell? ⟨b, off + i * 2 + 1, none⟩ = some (.string (bk s2))) ∧ Below (w.heap.size + 1) w0 W) w' := fun W hW => by
         refine (kc.out (s1, s2) hmem W (HW.out _ hW.2)).mono ?_
         rintro e w' ⟨rfl, hb'⟩
         exact ⟨by rw [kcl.out, hcv], cl w' (keep_step hW.2 hz hb'), keep_step hW.2 hz hb'⟩
        have hS0 : (fun W => (W.cell? ⟨w.heap.size, 1, none⟩ = some (.slice sa sp.length sc) ∧ W.cell? ⟨w.heap.size, 2, none⟩ = some (.slice (some ⟨b, off, none⟩) fr.length fc) ∧ W.cell? ⟨b, off + i * 2, none⟩ = some (.string (bk s1)) ∧ W.cell? ⟨b, off + i * 2 + 1, none⟩ = some (.string (bk s2))) ∧ Below (w.heap.size + 1) w0 W) wr.drew := ⟨cl _ hb.drew, hb.drew⟩
        clear HP HA cl hx HR kf1 kf2 kh km kw ki kn hmem
        go_wp2
        refine wp_region_L (fun W => (W.cell? ⟨w.heap.size, 1, none⟩ = some (.slice sa sp.length sc) ∧ W.cell? ⟨w.heap.size, 2, none⟩ = some (.slice (some ⟨b, off, none⟩) fr.length fc) ∧ W.cell? ⟨b, off + i * 2, none⟩ = some (.string (bk s1)) ∧ W.cell? ⟨b, off + i * 2 + 1, none⟩ = some (.string (bk s2))) ∧ Below (w.heap.size + 1) w0 W) [] (by kernel_rfl) ?_
        have yS : (fun W => (W.cell? ⟨w.heap.size, 1, none⟩ = some (.slice sa sp.length sc) ∧ W.cell? ⟨w.heap.size, 2, none⟩ = some (.slice (some ⟨b, off, none⟩) fr.length fc) ∧ W.cell? ⟨b, off + i * 2, none⟩ = some (.string (bk s1)) ∧ W.cell? ⟨b, off + i * 2 + 1, none⟩ = some (.string (bk s2))) ∧ Below (w.heap.size + 1) w0 W) wr.drew := hS0
        refine tkg 0 rfl (by intro w' hS'; obtain ⟨⟨x0, x1, x2, x3⟩, xb⟩ := hS'; go_simp <;> rfl) yS ?_
        try simp only [pa, pb, pc, Act.put, pd, pe, pf]
        refine tkg 1 rfl (by intro w' hS'; obtain ⟨⟨x0, x1, x2, x3⟩, xb⟩ := hS'; go_simp <;> rfl) yS ?_
        try simp only [pa, pb, pc, Act.put, pd, pe, pf]
        refine tkg 2 rfl (by intro w' hS'; obtain ⟨⟨x0, x1, x2, x3⟩, xb⟩ := hS'; go_simp <;> rfl) yS ?_
        try simp only [pa, pb, pc, Act.put, pd, pe, pf]
        refine tkg 3 rfl (by intro w' hS'; obtain ⟨⟨x0, x1, x2, x3⟩, xb⟩ := hS'; go_simp <;> rfl) yS ?_
        try simp only [pa, pb, pc, Act.put, pd, pe, pf]
        refine tkg 4 rfl (by intro w' hS'; obtain ⟨⟨x0, x1, x2, x3⟩, xb⟩ := hS'; go_simp <;> rfl) yS ?_
        try simp only [pa, pb, pc, Act.put, pd, pe, pf]
        refine tkg 5 rfl (by intro w' hS'; obtain ⟨⟨x0, x1, x2, x3⟩, xb⟩ := hS'; go_simp <;> rfl) yS ?_
        try simp only [pa, pb, pc, Act.put, pd, pe, pf]
        refine tkg 6 rfl (by intro w' hS'; obtain ⟨⟨x0, x1, x2, x3⟩, xb⟩ := hS'; go_simp <;> rfl) yS ?_
        try simp only [pa, pb, pc, Act.put, pd, pe, pf]
        refine wpAnyL_one 7 (by kernel_rfl) rfl (by kernel_rfl) ?_
        intro K' hK'
        go_simp
        go_at_call 56
        refine (kcc _ yS).mono ?_
        rintro e W1 ⟨rfl, hS1⟩
        refine hK'.out _ _ (.inr hS1) ?_
        clear hK' K'
        try simp only [pa, pb, pc, Act.put, pd, pe, pf]
        refine tkg 8 rfl (by intro w' hS'; obtain ⟨⟨x0, x1, x2, x3⟩, xb⟩ := hS'; go_simp <;> rfl) hS1 ?_
        try simp only [pa, pb, pc, Act.put, pd, pe, pf]
        refine wpAnyL_done (by kernel_rfl) (NoPanic.normal ?_) _
        go_wp2
        go_roundg (gk - 1)
        case measure => omega
        case rel => exact ⟨i + 1, by omega, by go_num, hS1.2, HN⟩
      ·have hlti : ¬ (i : Int) < (fr.length : Int) := by omega
       have HB2 : Hid (B = (withB sp hs_ ms && (decide (hs_.length + ms.length + is.length ≤ 1024) && walk (rintB sp) none is))) := by show _ = _; rw [HP.out, List.drop_of_length_le (by omega)]; rfl
       obtain ⟨n1, n2⟩ := kn.out
       have j1 : IntKind.i64.wrap ((hs_.length : Int) + (ms.length : Int)) = (hs_.length : Int) + (ms.length : Int) := IntWalk.i64_in _ (by omega)
       have j2 : IntKind.i64.wrap ((hs_.length : Int) + (ms.length : Int) + (is.length : Int)) = (hs_.length : Int) + (ms.length : Int) + (is.length : Int) := IntWalk.i64_in _ (by omega)
       have KW := kw.out wr (HW.out _ hb)
       obtain ⟨WB, HWB⟩ : ∃ b, Hid (withB sp hs_ ms = b) := ⟨_, rfl⟩
       rw [HWB.out] at KW HB2
       clear HP kf1 kf2 kh km kc kw kcl hig
       cases WB with
       | false =>
        have E : Hid (B = false) := by show _ = _; rw [HB2.out]; rfl
        clear HB2 ki kn
        go_wp2_with fail
        refine KW.mono ?_
        rintro e w1 ⟨rfl, hbc⟩
        have hb1 := keep_step hb hz hbc
        go_wp2
        go_ret
        exact ⟨by rw [E.out]; rfl, HW.out _ hb1⟩
       | true =>
        go_wp2_with fail
        refine KW.mono ?_
        rintro e w1 ⟨rfl, hbc⟩
        have hb1 := keep_step hb hz hbc
        clear hbc e0 e1 e2 e3 e4 e5 KW hb
        obtain ⟨e0, e1, e2, e3, e4, e5⟩ := HC.out _ hb1
        by_cases hn : hs_.length + ms.length + is.length ≤ 1024
        ·have hni : ¬ (1024 : Int) < (hs_.length : Int) + (ms.length : Int) + (is.length : Int) := by omega
         have hnd : decide ((1024 : Int) < (hs_.length : Int) + (ms.length : Int) + (is.length : Int)) = false := decide_eq_false hni
         have HB3 : Hid (B = walk (rintB sp) (prev is 0) (is.drop 0)) := by show _ = _; rw [HB2.out, decide_eq_true hn]; rfl
         clear HB2 hn
         go_wp2
         clear j1 j2 hni hnd n1 n2
         go_loopg [4] is.length (fun g s4 wr => ∃ i : Nat, i + g = is.length ∧ s4 = .int .i64 (i : Int) ∧ Below (w.heap.size + 1) w0 wr ∧ Hid (B = walk (rintB sp) (prev is i) (is.drop i)))
         case atStart => exact ⟨0, by omega, rfl, hb1, HB3⟩
         case round =>
          obtain ⟨i, hig, rfl, hb, HP⟩ := hrel
          clear HB3
          obtain ⟨e0, e1, e2, e3, e4, e5⟩ := HC.out _ hb
          by_cases hlt : i < is.length
          ·have hlti : (i : Int) < (is.length : Int) := by omega
           have hx : is[i]? = some is[i] := List.getElem?_eq_getElem hlt
           obtain ⟨x, hss⟩ : ∃ z, z = is[i] := ⟨_, rfl⟩
           rw [← hss] at hx
           clear hss
           have hxH : Hid (is[i]? = some x) := hx
           obtain ⟨b, off, ea, cc⟩ := rdx_at HR.out.2.2.2.2 hx
           subst ea
           have HA := rint_at (sp := sp) hx
           obtain ⟨d0, d1, d2, d3, d4, d5⟩ := cc wr (HW.out _ hb)
           obtain ⟨hsy, hby, cly⟩ := it_box wr x
           obtain ⟨k, ⟨q1, q2⟩, kd, tk, tt⟩ := x
           dsimp only [ic] at *
           obtain ⟨wy, hwy⟩ : ∃ W, wr.alloc (.cells #[.string (bk k), .int .i64 q1, .int .u64 (q2 : Int), .int .i64 kd, .int .u64 (tk : Int), .int .i64 tt] 63) = W := ⟨_, rfl⟩
           rw [hwy] at hsy hby cly
           obtain ⟨yb, hyb⟩ : ∃ n, wr.heap.size = n := ⟨_, rfl⟩
           rw [hyb] at hsy hby cly
           have BY0 : Hid (∀ W, Below wy.heap.size wy W → Below (w.heap.size + 1) w0 W) := fun W hW => (hb.trans (hby.mono (by rw [← hyb]; exact Nat.le_trans hz hb.size))).trans (hW.mono (by have := hb.size; omega))
           have BYW : Hid (∀ W, Below wy.heap.size wy W → Below w.heap.size w W) := fun W hW => HW.out _ (BY0.out _ hW)
           have cl : ∀ W, Below wy.heap.size wy W → (W.cell? ⟨yb, 0, none⟩ = some (.string (bk k)) ∧ W.cell? ⟨yb, 1, none⟩ = some (.int .i64 q1) ∧ W.cell? ⟨yb, 2, none⟩ = some (.int .u64 (q2 : Int)) ∧ W.cell? ⟨yb, 3, none⟩ = some (.int .i64 kd) ∧ W.cell? ⟨yb, 4, none⟩ = some (.int .u64 (tk : Int)) ∧ W.cell? ⟨yb, 5, none⟩ = some (.int .i64 tt)) ∧ (W.cell? ⟨w.heap.size, 1, none⟩ = some (.slice sa sp.length sc) ∧ W.cell? ⟨w.heap.size, 5, none⟩ = some (.slice (some ⟨b, off, none⟩) is.length ic_)) := fun W hW => ⟨cly W (hW.mono (by omega)), (HC.out _ (BY0.out _ hW)).2.1, (HC.out _ (BY0.out _ hW)).2.2.2.2.2⟩
           clear hx cly hsy hby
           obtain ⟨ID, HID⟩ : ∃ b, Hid (idB (q1, q2) = b) := ⟨_, rfl⟩
           obtain ⟨LA, HLA⟩ : ∃ b, Hid (turnB kd tt = b) := ⟨_, rfl⟩
           obtain ⟨IN, HIN⟩ : ∃ b, Hid (SpanMath.isIn sp k = b) := ⟨_, rfl⟩
           by_cases hk : 64 < k.length
           ·have hki : (64 : Int) < (k.length : Int) := by omega
            have hkd : decide ((64 : Int) < (k.length : Int)) = true := decide_eq_true hki
            have HX : Hid (rintB sp (k, (q1, q2), kd, tk, tt) = false) := by show (decide (k.length ≤ 64) && idB (q1, q2) && turnB kd tt && decide (tk ≠ 0) && SpanMath.isIn sp k) = false; rw [decide_eq_false (by omega : ¬ k.length ≤ 64)]; rfl
            have E : Hid (B = false) := by show _ = _; rw [HP.out, HA, HX.out]; rfl
            clear cc hk
            have hS0 : (fun W => ((W.cell? ⟨yb, 0, none⟩ = some (.string (bk k)) ∧ W.cell? ⟨yb, 1, none⟩ = some (.int .i64 q1) ∧ W.cell? ⟨yb, 2, none⟩ = some (.int .u64 (q2 : Int)) ∧ W.cell? ⟨yb, 3, none⟩ = some (.int .i64 kd) ∧ W.cell? ⟨yb, 4, none⟩ = some (.int .u64 (tk : Int)) ∧ W.cell? ⟨yb, 5, none⟩ = some (.int .i64 tt)) ∧ (W.cell? ⟨w.heap.size, 1, none⟩ = some (.slice sa sp.length sc) ∧ W.cell? ⟨w.heap.size, 5, none⟩ = some (.slice (some ⟨b, off, none⟩) is.length ic_))) ∧ Below wy.heap.size wy W) wy.drew := ⟨cl _ (Below.refl _ _).drew, (Below.refl _ _).drew⟩
            clear HP HA cl hxH ki kn HC
            go_wp2
            refine wp_region_L (fun W => ((W.cell? ⟨yb, 0, none⟩ = some (.string (bk k)) ∧ W.cell? ⟨yb, 1, none⟩ = some (.int .i64 q1) ∧ W.cell? ⟨yb, 2, none⟩ = some (.int .u64 (q2 : Int)) ∧ W.cell? ⟨yb, 3, none⟩ = some (.int .i64 kd) ∧ W.cell? ⟨yb, 4, none⟩ = some (.int .u64 (tk : Int)) ∧ W.cell? ⟨yb, 5, none⟩ = some (.int .i64 tt)) ∧ (W.cell? ⟨w.heap.size, 1, none⟩ = some (.slice sa sp.length sc) ∧ W.cell? ⟨w.heap.size, 5, none⟩ = some (.slice (some ⟨b, off, none⟩) is.length ic_))) ∧ Below wy.heap.size wy W) [] (by kernel_rfl) ?_
            have yS : (fun W => ((W.cell? ⟨yb, 0, none⟩ = some (.string (bk k)) ∧ W.cell? ⟨yb, 1, none⟩ = some (.int .i64 q1) ∧ W.cell? ⟨yb, 2, none⟩ = some (.int .u64 (q2 : Int)) ∧ W.cell? ⟨yb, 3, none⟩ = some (.int .i64 kd) ∧ W.cell? ⟨yb, 4, none⟩ = some (.int .u64 (tk : Int)) ∧ W.cell? ⟨yb, 5, none⟩ = some (.int .i64 tt)) ∧ (W.cell? ⟨w.heap.size, 1, none⟩ = some (.slice sa sp.length sc) ∧ W.cell? ⟨w.heap.size, 5, none⟩ = some (.slice (some ⟨b, off, none⟩) is.length ic_))) ∧ Below wy.heap.size wy W) wy.drew := hS0
            refine tkg 0 rfl (by intro w' hS'; obtain ⟨⟨⟨x0, x1, x2, x3, x4, x5⟩, x6, x7⟩, xb⟩ := hS'; go_simp <;> rfl) yS ?_
            try simp only [pa, pb, pc, Act.put, pd, pe, pf]
            refine tkg 1 rfl (by intro w' hS'; obtain ⟨⟨⟨x0, x1, x2, x3, x4, x5⟩, x6, x7⟩, xb⟩ := hS'; go_simp <;> rfl) yS ?_
            try simp only [pa, pb, pc, Act.put, pd, pe, pf]
            refine tkg 2 rfl (by intro w' hS'; obtain ⟨⟨⟨x0, x1, x2, x3, x4, x5⟩, x6, x7⟩, xb⟩ := hS'; go_simp <;> rfl) yS ?_
            try simp only [pa, pb, pc, Act.put, pd, pe, pf]
            refine tkg 3 rfl (by intro w' hS'; obtain ⟨⟨⟨x0, x1, x2, x3, x4, x5⟩, x6, x7⟩, xb⟩ := hS'; go_simp <;> rfl) yS ?_
            try simp only [pa, pb, pc, Act.put, pd, pe, pf]
            refine tkg 4 rfl (by intro w' hS'; obtain ⟨⟨⟨x0, x1, x2, x3, x4, x5⟩, x6, x7⟩, xb⟩ := hS'; go_simp <;> rfl) yS ?_
            try simp only [pa, pb, pc, Act.put, pd, pe, pf]
            refine skg 5 rfl yS ?_
            try simp only [pa, pb, pc, Act.put, pd, pe, pf]
            refine skg 6 rfl yS ?_
            try simp only [pa, pb, pc, Act.put, pd, pe, pf]
            refine skg 7 rfl yS ?_
            try simp only [pa, pb, pc, Act.put, pd, pe, pf]
            refine skg 8 rfl yS ?_
            try simp only [pa, pb, pc, Act.put, pd, pe, pf]
            refine tkg 9 rfl (by intro w' hS'; obtain ⟨⟨⟨x0, x1, x2, x3, x4, x5⟩, x6, x7⟩, xb⟩ := hS'; go_simp <;> rfl) yS ?_
            try simp only [pa, pb, pc, Act.put, pd, pe, pf]
            refine tkg 10 rfl (by intro w' hS'; obtain ⟨⟨⟨x0, x1, x2, x3, x4, x5⟩, x6, x7⟩, xb⟩ := hS'; go_simp <;> rfl) yS ?_
            try simp only [pa, pb, pc, Act.put, pd, pe, pf]
            refine skg 11 rfl yS ?_
            try simp only [pa, pb, pc, Act.put, pd, pe, pf]
            refine skg 12 rfl yS ?_
            try simp only [pa, pb, pc, Act.put, pd, pe, pf]
            refine skg 13 rfl yS ?_
            try simp only [pa, pb, pc, Act.put, pd, pe, pf]
            refine skg 14 rfl yS ?_
            try simp only [pa, pb, pc, Act.put, pd, pe, pf]
            refine skg 15 rfl yS ?_
            try simp only [pa, pb, pc, Act.put, pd, pe, pf]
            refine skg 16 rfl yS ?_
            try simp only [pa, pb, pc, Act.put, pd, pe, pf]
            refine tkg 17 rfl (by intro w' hS'; obtain ⟨⟨⟨x0, x1, x2, x3, x4, x5⟩, x6, x7⟩, xb⟩ := hS'; go_simp <;> rfl) yS ?_
            try simp only [pa, pb, pc, Act.put, pd, pe, pf]
            refine tkg 18 rfl (by intro w' hS'; obtain ⟨⟨⟨x0, x1, x2, x3, x4, x5⟩, x6, x7⟩, xb⟩ := hS'; go_simp <;> rfl) yS ?_
            try simp only [pa, pb, pc, Act.put, pd, pe, pf]
            refine skg 19 rfl yS ?_
            try simp only [pa, pb, pc, Act.put, pd, pe, pf]
            refine skg 20 rfl yS ?_
            try simp only [pa, pb, pc, Act.put, pd, pe, pf]
            refine skg 21 rfl yS ?_
            try simp only [pa, pb, pc, Act.put, pd, pe, pf]
            refine tkg 22 rfl (by intro w' hS'; obtain ⟨⟨⟨x0, x1, x2, x3, x4, x5⟩, x6, x7⟩, xb⟩ := hS'; go_simp <;> rfl) yS ?_
            try simp only [pa, pb, pc, Act.put, pd, pe, pf]
            refine tkg 23 rfl (by intro w' hS'; obtain ⟨⟨⟨x0, x1, x2, x3, x4, x5⟩, x6, x7⟩, xb⟩ := hS'; go_simp <;> rfl) yS ?_
            try simp only [pa, pb, pc, Act.put, pd, pe, pf]
            refine skg 24 rfl yS ?_
            try simp only [pa, pb, pc, Act.put, pd, pe, pf]
            refine skg 25 rfl yS ?_
            try simp only [pa, pb, pc, Act.put, pd, pe, pf]
            refine skg 26 rfl yS ?_
            try simp only [pa, pb, pc, Act.put, pd, pe, pf]
            refine skg 27 rfl yS ?_
            try simp only [pa, pb, pc, Act.put, pd, pe, pf]
            refine skg 28 rfl yS ?_
            try simp only [pa, pb, pc, Act.put, pd, pe, pf]
            refine skg 29 rfl yS ?_
            try simp only [pa, pb, pc, Act.put, pd, pe, pf]
            refine tkg 30 rfl (by intro w' hS'; obtain ⟨⟨⟨x0, x1, x2, x3, x4, x5⟩, x6, x7⟩, xb⟩ := hS'; go_simp <;> rfl) yS ?_
            try simp only [pa, pb, pc, Act.put, pd, pe, pf]
            refine tkg 31 rfl (by intro w' hS'; obtain ⟨⟨⟨x0, x1, x2, x3, x4, x5⟩, x6, x7⟩, xb⟩ := hS'; go_simp <;> rfl) yS ?_
            try simp only [pa, pb, pc, Act.put, pd, pe, pf]
            refine skg 32 rfl yS ?_
            try simp only [pa, pb, pc, Act.put, pd, pe, pf]
            refine skg 33 rfl yS ?_
            try simp only [pa, pb, pc, Act.put, pd, pe, pf]
            refine skg 34 rfl yS ?_
            try simp only [pa, pb, pc, Act.put, pd, pe, pf]
            refine skg 35 rfl yS ?_
            try simp only [pa, pb, pc, Act.put, pd, pe, pf]
            refine skg 36 rfl yS ?_
            try simp only [pa, pb, pc, Act.put, pd, pe, pf]
            refine skg 37 rfl yS ?_
            try simp only [pa, pb, pc, Act.put, pd, pe, pf]
            refine skg 38 rfl yS ?_
            try simp only [pa, pb, pc, Act.put, pd, pe, pf]
            refine skg 39 rfl yS ?_
            try simp only [pa, pb, pc, Act.put, pd, pe, pf]
            refine skg 40 rfl yS ?_
            try simp only [pa, pb, pc, Act.put, pd, pe, pf]
            refine skg 41 rfl yS ?_
            try simp only [pa, pb, pc, Act.put, pd, pe, pf]
            refine skg 42 rfl yS ?_
            try simp only [pa, pb, pc, Act.put, pd, pe, pf]
            refine skg 43 rfl yS ?_
            try simp only [pa, pb, pc, Act.put, pd, pe, pf]
            refine skg 44 rfl yS ?_
            try simp only [pa, pb, pc, Act.put, pd, pe, pf]
            refine skg 45 rfl yS ?_
            try simp only [pa, pb, pc, Act.put, pd, pe, pf]
            refine tkg 46 rfl (by intro w' hS'; obtain ⟨⟨⟨x0, x1, x2, x3, x4, x5⟩, x6, x7⟩, xb⟩ := hS'; go_simp <;> rfl) yS ?_
            try simp only [pa, pb, pc, Act.put, pd, pe, pf]
            refine wpAnyL_done (by kernel_rfl) (NoPanic.normal ?_) _
            go_wp2
            go_ret
            exact ⟨by rw [E.out]; rfl, BYW.out _ yS.2⟩
           have hki : ¬ (64 : Int) < (k.length : Int) := by omega
           have hkd : decide ((64 : Int) < (k.length : Int)) = false := decide_eq_false hki
           have hk64 : Hid (decide (k.length ≤ 64) = true) := decide_eq_true (by omega)
           clear hk
           cases ID with
           | false =>
            have HX : Hid (rintB sp (k, (q1, q2), kd, tk, tt) = false) := by show (decide (k.length ≤ 64) && idB (q1, q2) && turnB kd tt && decide (tk ≠ 0) && SpanMath.isIn sp k) = false; rw [HID.out]; simp
            have E : Hid (B = false) := by show _ = _; rw [HP.out, HA, HX.out]; rfl
            clear cc
            have kq : ∀ W, (fun W => ((W.cell? ⟨yb, 0, none⟩ = some (.string (bk k)) ∧ W.cell? ⟨yb, 1, none⟩ = some (.int .i64 q1) ∧ W.cell? ⟨yb, 2, none⟩ = some (.int .u64 (q2 : Int)) ∧ W.cell? ⟨yb, 3, none⟩ = some (.int .i64 kd) ∧ W.cell? ⟨yb, 4, none⟩ = some (.int .u64 (tk : Int)) ∧ W.cell? ⟨yb, 5, none⟩ = some (.int .i64 tt)) ∧ (W.cell? ⟨w.heap.size, 1, none⟩ = some (.slice sa sp.length sc) ∧ W.cell? ⟨w.heap.size, 5, none⟩ = some (.slice (some ⟨b, off, none⟩) is.length ic_))) ∧ Below wy.heap.size wy W) W → Calls Tryz.prog 43 #[.agg #[.int .i64 q1, .int .u64 (q2 : Int)]] W fun e w' => e = .returned (.bool false) ∧ (fun W => ((W.cell? ⟨yb, 0, none⟩ = some (.string (bk k)) ∧ W.cell? ⟨yb, 1, none⟩ = some (.int .i64 q1) ∧ W.cell? ⟨yb, 2, none⟩ = some (.int .u64 (q2 : Int)) ∧ W.cell? ⟨yb, 3, none⟩ = some (.int .i64 kd) ∧ W.cell? ⟨yb, 4, none⟩ = some (.int .u64 (tk : Int)) ∧ W.cell? ⟨yb, 5, none⟩ = some (.int .i64 tt)) ∧ (W.cell? ⟨w.heap.size, 1, none⟩ = some (.slice sa sp.length sc) ∧ W.cell? ⟨w.heap.size, 5, none⟩ = some (.slice (some ⟨b, off, none⟩) is.length ic_))) ∧ Below wy.heap.size wy W) w' := fun W hW => by
             refine (rid_of (q1, q2) W).mono ?_
             rintro e w' ⟨rfl, hb'⟩
             exact ⟨by rw [HID.out], cl w' (keep_step hW.2 (Nat.le_refl _) hb'), keep_step hW.2 (Nat.le_refl _) hb'⟩
            have hS0 : (fun W => ((W.cell? ⟨yb, 0, none⟩ = some (.string (bk k)) ∧ W.cell? ⟨yb, 1, none⟩ = some (.int .i64 q1) ∧ W.cell? ⟨yb, 2, none⟩ = some (.int .u64 (q2 : Int)) ∧ W.cell? ⟨yb, 3, none⟩ = some (.int .i64 kd) ∧ W.cell? ⟨yb, 4, none⟩ = some (.int .u64 (tk : Int)) ∧ W.cell? ⟨yb, 5, none⟩ = some (.int .i64 tt)) ∧ (W.cell? ⟨w.heap.size, 1, none⟩ = some (.slice sa sp.length sc) ∧ W.cell? ⟨w.heap.size, 5, none⟩ = some (.slice (some ⟨b, off, none⟩) is.length ic_))) ∧ Below wy.heap.size wy W) wy.drew := ⟨cl _ (Below.refl _ _).drew, (Below.refl _ _).drew⟩
            clear HP HA cl hxH ki kn HC
            go_wp2
            refine wp_region_L (fun W => ((W.cell? ⟨yb, 0, none⟩ = some (.string (bk k)) ∧ W.cell? ⟨yb, 1, none⟩ = some (.int .i64 q1) ∧ W.cell? ⟨yb, 2, none⟩ = some (.int .u64 (q2 : Int)) ∧ W.cell? ⟨yb, 3, none⟩ = some (.int .i64 kd) ∧ W.cell? ⟨yb, 4, none⟩ = some (.int .u64 (tk : Int)) ∧ W.cell? ⟨yb, 5, none⟩ = some (.int .i64 tt)) ∧ (W.cell? ⟨w.heap.size, 1, none⟩ = some (.slice sa sp.length sc) ∧ W.cell? ⟨w.heap.size, 5, none⟩ = some (.slice (some ⟨b, off, none⟩) is.length ic_))) ∧ Below wy.heap.size wy W) [] (by kernel_rfl) ?_
            have yS : (fun W => ((W.cell? ⟨yb, 0, none⟩ = some (.string (bk k)) ∧ W.cell? ⟨yb, 1, none⟩ = some (.int .i64 q1) ∧ W.cell? ⟨yb, 2, none⟩ = some (.int .u64 (q2 : Int)) ∧ W.cell? ⟨yb, 3, none⟩ = some (.int .i64 kd) ∧ W.cell? ⟨yb, 4, none⟩ = some (.int .u64 (tk : Int)) ∧ W.cell? ⟨yb, 5, none⟩ = some (.int .i64 tt)) ∧ (W.cell? ⟨w.heap.size, 1, none⟩ = some (.slice sa sp.length sc) ∧ W.cell? ⟨w.heap.size, 5, none⟩ = some (.slice (some ⟨b, off, none⟩) is.length ic_))) ∧ Below wy.heap.size wy W) wy.drew := hS0
            refine tkg 0 rfl (by intro w' hS'; obtain ⟨⟨⟨x0, x1, x2, x3, x4, x5⟩, x6, x7⟩, xb⟩ := hS'; go_simp <;> rfl) yS ?_
            try simp only [pa, pb, pc, Act.put, pd, pe, pf]
            refine tkg 1 rfl (by intro w' hS'; obtain ⟨⟨⟨x0, x1, x2, x3, x4, x5⟩, x6, x7⟩, xb⟩ := hS'; go_simp <;> rfl) yS ?_
            try simp only [pa, pb, pc, Act.put, pd, pe, pf]
            refine tkg 2 rfl (by intro w' hS'; obtain ⟨⟨⟨x0, x1, x2, x3, x4, x5⟩, x6, x7⟩, xb⟩ := hS'; go_simp <;> rfl) yS ?_
            try simp only [pa, pb, pc, Act.put, pd, pe, pf]
            refine tkg 3 rfl (by intro w' hS'; obtain ⟨⟨⟨x0, x1, x2, x3, x4, x5⟩, x6, x7⟩, xb⟩ := hS'; go_simp <;> rfl) yS ?_
            try simp only [pa, pb, pc, Act.put, pd, pe, pf]
            refine tkg 4 rfl (by intro w' hS'; obtain ⟨⟨⟨x0, x1, x2, x3, x4, x5⟩, x6, x7⟩, xb⟩ := hS'; go_simp <;> rfl) yS ?_
            try simp only [pa, pb, pc, Act.put, pd, pe, pf]
            refine tkg 5 rfl (by intro w' hS'; obtain ⟨⟨⟨x0, x1, x2, x3, x4, x5⟩, x6, x7⟩, xb⟩ := hS'; go_simp <;> rfl) yS ?_
            try simp only [pa, pb, pc, Act.put, pd, pe, pf]
            refine tkg 6 rfl (by intro w' hS'; obtain ⟨⟨⟨x0, x1, x2, x3, x4, x5⟩, x6, x7⟩, xb⟩ := hS'; go_simp <;> rfl) yS ?_
            try simp only [pa, pb, pc, Act.put, pd, pe, pf]
            refine wpAnyL_one 7 (by kernel_rfl) rfl (by kernel_rfl) ?_
            intro K' hK'
            go_simp
            go_at_call 43
            refine (kq _ yS).mono ?_
            rintro e W1 ⟨rfl, hS1⟩
            refine hK'.out _ _ (.inr hS1) ?_
            clear hK' K'
            try simp only [pa, pb, pc, Act.put, pd, pe, pf]
            refine tkg 8 rfl (by intro w' hS'; obtain ⟨⟨⟨x0, x1, x2, x3, x4, x5⟩, x6, x7⟩, xb⟩ := hS'; go_simp <;> rfl) hS1 ?_
            try simp only [pa, pb, pc, Act.put, pd, pe, pf]
            refine tkg 9 rfl (by intro w' hS'; obtain ⟨⟨⟨x0, x1, x2, x3, x4, x5⟩, x6, x7⟩, xb⟩ := hS'; go_simp <;> rfl) hS1 ?_
            try simp only [pa, pb, pc, Act.put, pd, pe, pf]
            refine tkg 10 rfl (by intro w' hS'; obtain ⟨⟨⟨x0, x1, x2, x3, x4, x5⟩, x6, x7⟩, xb⟩ := hS'; go_simp <;> rfl) hS1 ?_
            try simp only [pa, pb, pc, Act.put, pd, pe, pf]
            refine skg 11 rfl hS1 ?_
            try simp only [pa, pb, pc, Act.put, pd, pe, pf]
            refine skg 12 rfl hS1 ?_
            try simp only [pa, pb, pc, Act.put, pd, pe, pf]
            refine skg 13 rfl hS1 ?_
            try simp only [pa, pb, pc, Act.put, pd, pe, pf]
            refine skg 14 rfl hS1 ?_
            try simp only [pa, pb, pc, Act.put, pd, pe, pf]
            refine skg 15 rfl hS1 ?_
            try simp only [pa, pb, pc, Act.put, pd, pe, pf]
            refine skg 16 rfl hS1 ?_
            try simp only [pa, pb, pc, Act.put, pd, pe, pf]
            refine tkg 17 rfl (by intro w' hS'; obtain ⟨⟨⟨x0, x1, x2, x3, x4, x5⟩, x6, x7⟩, xb⟩ := hS'; go_simp <;> rfl) hS1 ?_
            try simp only [pa, pb, pc, Act.put, pd, pe, pf]
            refine tkg 18 rfl (by intro w' hS'; obtain ⟨⟨⟨x0, x1, x2, x3, x4, x5⟩, x6, x7⟩, xb⟩ := hS'; go_simp <;> rfl) hS1 ?_
            try simp only [pa, pb, pc, Act.put, pd, pe, pf]
            refine skg 19 rfl hS1 ?_
            try simp only [pa, pb, pc, Act.put, pd, pe, pf]
            refine skg 20 rfl hS1 ?_
            try simp only [pa, pb, pc, Act.put, pd, pe, pf]
            refine skg 21 rfl hS1 ?_
            try simp only [pa, pb, pc, Act.put, pd, pe, pf]
            refine tkg 22 rfl (by intro w' hS'; obtain ⟨⟨⟨x0, x1, x2, x3, x4, x5⟩, x6, x7⟩, xb⟩ := hS'; go_simp <;> rfl) hS1 ?_
            try simp only [pa, pb, pc, Act.put, pd, pe, pf]
            refine tkg 23 rfl (by intro w' hS'; obtain ⟨⟨⟨x0, x1, x2, x3, x4, x5⟩, x6, x7⟩, xb⟩ := hS'; go_simp <;> rfl) hS1 ?_
            try simp only [pa, pb, pc, Act.put, pd, pe, pf]
            refine skg 24 rfl hS1 ?_
            try simp only [pa, pb, pc, Act.put, pd, pe, pf]
            refine skg 25 rfl hS1 ?_
            try simp only [pa, pb, pc, Act.put, pd, pe, pf]
            refine skg 26 rfl hS1 ?_
            try simp only [pa, pb, pc, Act.put, pd, pe, pf]
            refine skg 27 rfl hS1 ?_
            try simp only [pa, pb, pc, Act.put, pd, pe, pf]
            refine skg 28 rfl hS1 ?_
            try simp only [pa, pb, pc, Act.put, pd, pe, pf]
            refine skg 29 rfl hS1 ?_
            try simp only [pa, pb, pc, Act.put, pd, pe, pf]
            refine tkg 30 rfl (by intro w' hS'; obtain ⟨⟨⟨x0, x1, x2, x3, x4, x5⟩, x6, x7⟩, xb⟩ := hS'; go_simp <;> rfl) hS1 ?_
            try simp only [pa, pb, pc, Act.put, pd, pe, pf]
            refine tkg 31 rfl (by intro w' hS'; obtain ⟨⟨⟨x0, x1, x2, x3, x4, x5⟩, x6, x7⟩, xb⟩ := hS'; go_simp <;> rfl) hS1 ?_
            try simp only [pa, pb, pc, Act.put, pd, pe, pf]
            refine skg 32 rfl hS1 ?_
            try simp only [pa, pb, pc, Act.put, pd, pe, pf]
            refine skg 33 rfl hS1 ?_
            try simp only [pa, pb, pc, Act.put, pd, pe, pf]
            refine skg 34 rfl hS1 ?_
            try simp only [pa, pb, pc, Act.put, pd, pe, pf]
            refine skg 35 rfl hS1 ?_
            try simp only [pa, pb, pc, Act.put, pd, pe, pf]
            refine skg 36 rfl hS1 ?_
            try simp only [pa, pb, pc, Act.put, pd, pe, pf]
            refine skg 37 rfl hS1 ?_
            try simp only [pa, pb, pc, Act.put, pd, pe, pf]
            refine skg 38 rfl hS1 ?_
            try simp only [pa, pb, pc, Act.put, pd, pe, pf]
            refine skg 39 rfl hS1 ?_
            try simp only [pa, pb, pc, Act.put, pd, pe, pf]
            refine skg 40 rfl hS1 ?_
            try simp only [pa, pb, pc, Act.put, pd, pe, pf]
            refine skg 41 rfl hS1 ?_
            try simp only [pa, pb, pc, Act.put, pd, pe, pf]
            refine skg 42 rfl hS1 ?_
            try simp only [pa, pb, pc, Act.put, pd, pe, pf]
            refine skg 43 rfl hS1 ?_
            try simp only [pa, pb, pc, Act.put, pd, pe, pf]
            refine skg 44 rfl hS1 ?_
            try simp only [pa, pb, pc, Act.put, pd, pe, pf]
            refine skg 45 rfl hS1 ?_
            try simp only [pa, pb, pc, Act.put, pd, pe, pf]
            refine tkg 46 rfl (by intro w' hS'; obtain ⟨⟨⟨x0, x1, x2, x3, x4, x5⟩, x6, x7⟩, xb⟩ := hS'; go_simp <;> rfl) hS1 ?_
            try simp only [pa, pb, pc, Act.put, pd, pe, pf]
            refine wpAnyL_done (by kernel_rfl) (NoPanic.normal ?_) _
            go_wp2
            go_ret
            exact ⟨by rw [E.out]; rfl, BYW.out _ hS1.2⟩
           | true =>
            cases LA with
            | false =>
             have HX : Hid (rintB sp (k, (q1, q2), kd, tk, tt) = false) := by show (decide (k.length ≤ 64) && idB (q1, q2) && turnB kd tt && decide (tk ≠ 0) && SpanMath.isIn sp k) = false; rw [HLA.out]; simp
             have E : Hid (B = false) := by show _ = _; rw [HP.out, HA, HX.out]; rfl
             clear cc
             have kq : ∀ W, (fun W => ((W.cell? ⟨yb, 0, none⟩ = some (.string (bk k)) ∧ W.cell? ⟨yb, 1, none⟩ = some (.int .i64 q1) ∧ W.cell? ⟨yb, 2, none⟩ = some (.int .u64 (q2 : Int)) ∧ W.cell? ⟨yb, 3, none⟩ = some (.int .i64 kd) ∧ W.cell? ⟨yb, 4, none⟩ = some (.int .u64 (tk : Int)) ∧ W.cell? ⟨yb, 5, none⟩ = some (.int .i64 tt)) ∧ (W.cell? ⟨w.heap.size, 1, none⟩ = some (.slice sa sp.length sc) ∧ W.cell? ⟨w.heap.size, 5, none⟩ = some (.slice (some ⟨b, off, none⟩) is.length ic_))) ∧ Below wy.heap.size wy W) W → Calls Tryz.prog 43 #[.agg #[.int .i64 q1, .int .u64 (q2 : Int)]] W fun e w' => e = .returned (.bool true) ∧ (fun W => ((W.cell? ⟨yb, 0, none⟩ = some (.string (bk k)) ∧ W.cell? ⟨yb, 1, none⟩ = some (.int .i64 q1) ∧ W.cell? ⟨yb, 2, none⟩ = some (.int .u64 (q2 : Int)) ∧ W.cell? ⟨yb, 3, none⟩ = some (.int .i64 kd) ∧ W.cell? ⟨yb, 4, none⟩ = some (.int .u64 (tk : Int)) ∧ W.cell? ⟨yb, 5, none⟩ = some (.int .i64 tt)) ∧ (W.cell? ⟨w.heap.size, 1, none⟩ = some (.slice sa sp.length sc) ∧ W.cell? ⟨w.heap.size, 5, none⟩ = some (.slice (some ⟨b, off, none⟩) is.length ic_))) ∧ Below wy.heap.size wy W) w' := fun W hW => by
              refine (rid_of (q1, q2) W).mono ?_
              rintro e w' ⟨rfl, hb'⟩
              exact ⟨by rw [HID.out], cl w' (keep_step hW.2 (Nat.le_refl _) hb'), keep_step hW.2 (Nat.le_refl _) hb'⟩
             have kl : ∀ W, (fun W => ((W.cell? ⟨yb, 0, none⟩ = some (.string (bk k)) ∧ W.cell? ⟨yb, 1, none⟩ = some (.int .i64 q1) ∧ W.cell? ⟨yb, 2, none⟩ = some (.int .u64 (q2 : Int)) ∧ W.cell? ⟨yb, 3, none⟩ = some (.int .i64 kd) ∧ W.cell? ⟨yb, 4, none⟩ = some (.int .u64 (tk : Int)) ∧ W.cell? ⟨yb, 5, none⟩ = some (.int .i64 tt)) ∧ (W.cell? ⟨w.heap.size, 1, none⟩ = some (.slice sa sp.length sc) ∧ W.cell? ⟨w.heap.size, 5, none⟩ = some (.slice (some ⟨b, off, none⟩) is.length ic_))) ∧ Below wy.heap.size wy W) W → Calls Tryz.prog 83 #[.int .i64 kd, .int .i64 tt] W fun e w' => e = .returned (.bool false) ∧ (fun W => ((W.cell? ⟨yb, 0, none⟩ = some (.string (bk k)) ∧ W.cell? ⟨yb, 1, none⟩ = some (.int .i64 q1) ∧ W.cell? ⟨yb, 2, none⟩ = some (.int .u64 (q2 : Int)) ∧ W.cell? ⟨yb, 3, none⟩ = some (.int .i64 kd) ∧ W.cell? ⟨yb, 4, none⟩ = some (.int .u64 (tk : Int)) ∧ W.cell? ⟨yb, 5, none⟩ = some (.int .i64 tt)) ∧ (W.cell? ⟨w.heap.size, 1, none⟩ = some (.slice sa sp.length sc) ∧ W.cell? ⟨w.heap.size, 5, none⟩ = some (.slice (some ⟨b, off, none⟩) is.length ic_))) ∧ Below wy.heap.size wy W) w' := fun W hW => by
              refine (lasts_of kd tt W).mono ?_
              rintro e w' ⟨rfl, hw'⟩
              subst hw'
              exact ⟨by rw [HLA.out], hW⟩
             have hS0 : (fun W => ((W.cell? ⟨yb, 0, none⟩ = some (.string (bk k)) ∧ W.cell? ⟨yb, 1, none⟩ = some (.int .i64 q1) ∧ W.cell? ⟨yb, 2, none⟩ = some (.int .u64 (q2 : Int)) ∧ W.cell? ⟨yb, 3, none⟩ = some (.int .i64 kd) ∧ W.cell? ⟨yb, 4, none⟩ = some (.int .u64 (tk : Int)) ∧ W.cell? ⟨yb, 5, none⟩ = some (.int .i64 tt)) ∧ (W.cell? ⟨w.heap.size, 1, none⟩ = some (.slice sa sp.length sc) ∧ W.cell? ⟨w.heap.size, 5, none⟩ = some (.slice (some ⟨b, off, none⟩) is.length ic_))) ∧ Below wy.heap.size wy W) wy.drew := ⟨cl _ (Below.refl _ _).drew, (Below.refl _ _).drew⟩
             clear HP HA cl hxH ki kn HC
             go_wp2
             refine wp_region_L (fun W => ((W.cell? ⟨yb, 0, none⟩ = some (.string (bk k)) ∧ W.cell? ⟨yb, 1, none⟩ = some (.int .i64 q1) ∧ W.cell? ⟨yb, 2, none⟩ = some (.int .u64 (q2 : Int)) ∧ W.cell? ⟨yb, 3, none⟩ = some (.int .i64 kd) ∧ W.cell? ⟨yb, 4, none⟩ = some (.int .u64 (tk : Int)) ∧ W.cell? ⟨yb, 5, none⟩ = some (.int .i64 tt)) ∧ (W.cell? ⟨w.heap.size, 1, none⟩ = some (.slice sa sp.length sc) ∧ W.cell? ⟨w.heap.size, 5, none⟩ = some (.slice (some ⟨b, off, none⟩) is.length ic_))) ∧ Below wy.heap.size wy W) [] (by kernel_rfl) ?_
             have yS : (fun W => ((W.cell? ⟨yb, 0, none⟩ = some (.string (bk k)) ∧ W.cell? ⟨yb, 1, none⟩ = some (.int .i64 q1) ∧ W.cell? ⟨yb, 2, none⟩ = some (.int .u64 (q2 : Int)) ∧ W.cell? ⟨yb, 3, none⟩ = some (.int .i64 kd) ∧ W.cell? ⟨yb, 4, none⟩ = some (.int .u64 (tk : Int)) ∧ W.cell? ⟨yb, 5, none⟩ = some (.int .i64 tt)) ∧ (W.cell? ⟨w.heap.size, 1, none⟩ = some (.slice sa sp.length sc) ∧ W.cell? ⟨w.heap.size, 5, none⟩ = some (.slice (some ⟨b, off, none⟩) is.length ic_))) ∧ Below wy.heap.size wy W) wy.drew := hS0
             refine tkg 0 rfl (by intro w' hS'; obtain ⟨⟨⟨x0, x1, x2, x3, x4, x5⟩, x6, x7⟩, xb⟩ := hS'; go_simp <;> rfl) yS ?_
             try simp only [pa, pb, pc, Act.put, pd, pe, pf]
             refine tkg 1 rfl (by intro w' hS'; obtain ⟨⟨⟨x0, x1, x2, x3, x4, x5⟩, x6, x7⟩, xb⟩ := hS'; go_simp <;> rfl) yS ?_
             try simp only [pa, pb, pc, Act.put, pd, pe, pf]
             refine tkg 2 rfl (by intro w' hS'; obtain ⟨⟨⟨x0, x1, x2, x3, x4, x5⟩, x6, x7⟩, xb⟩ := hS'; go_simp <;> rfl) yS ?_
             try simp only [pa, pb, pc, Act.put, pd, pe, pf]
             refine tkg 3 rfl (by intro w' hS'; obtain ⟨⟨⟨x0, x1, x2, x3, x4, x5⟩, x6, x7⟩, xb⟩ := hS'; go_simp <;> rfl) yS ?_
             try simp only [pa, pb, pc, Act.put, pd, pe, pf]
             refine tkg 4 rfl (by intro w' hS'; obtain ⟨⟨⟨x0, x1, x2, x3, x4, x5⟩, x6, x7⟩, xb⟩ := hS'; go_simp <;> rfl) yS ?_
             try simp only [pa, pb, pc, Act.put, pd, pe, pf]
             refine tkg 5 rfl (by intro w' hS'; obtain ⟨⟨⟨x0, x1, x2, x3, x4, x5⟩, x6, x7⟩, xb⟩ := hS'; go_simp <;> rfl) yS ?_
             try simp only [pa, pb, pc, Act.put, pd, pe, pf]
             refine tkg 6 rfl (by intro w' hS'; obtain ⟨⟨⟨x0, x1, x2, x3, x4, x5⟩, x6, x7⟩, xb⟩ := hS'; go_simp <;> rfl) yS ?_
             try simp only [pa, pb, pc, Act.put, pd, pe, pf]
             refine wpAnyL_one 7 (by kernel_rfl) rfl (by kernel_rfl) ?_
             intro K' hK'
             go_simp
             go_at_call 43
             refine (kq _ yS).mono ?_
             rintro e W1 ⟨rfl, hS1⟩
             refine hK'.out _ _ (.inr hS1) ?_
             clear hK' K'
             try simp only [pa, pb, pc, Act.put, pd, pe, pf]
             refine tkg 8 rfl (by intro w' hS'; obtain ⟨⟨⟨x0, x1, x2, x3, x4, x5⟩, x6, x7⟩, xb⟩ := hS'; go_simp <;> rfl) hS1 ?_
             try simp only [pa, pb, pc, Act.put, pd, pe, pf]
             refine tkg 9 rfl (by intro w' hS'; obtain ⟨⟨⟨x0, x1, x2, x3, x4, x5⟩, x6, x7⟩, xb⟩ := hS'; go_simp <;> rfl) hS1 ?_
             try simp only [pa, pb, pc, Act.put, pd, pe, pf]
             refine tkg 10 rfl (by intro w' hS'; obtain ⟨⟨⟨x0, x1, x2, x3, x4, x5⟩, x6, x7⟩, xb⟩ := hS'; go_simp <;> rfl) hS1 ?_
             try simp only [pa, pb, pc, Act.put, pd, pe, pf]
             refine tkg 11 rfl (by intro w' hS'; obtain ⟨⟨⟨x0, x1, x2, x3, x4, x5⟩, x6, x7⟩, xb⟩ := hS'; go_simp <;> rfl) hS1 ?_
             try simp only [pa, pb, pc, Act.put, pd, pe, pf]
             refine tkg 12 rfl (by intro w' hS'; obtain ⟨⟨⟨x0, x1, x2, x3, x4, x5⟩, x6, x7⟩, xb⟩ := hS'; go_simp <;> rfl) hS1 ?_
             try simp only [pa, pb, pc, Act.put, pd, pe, pf]
             refine tkg 13 rfl (by intro w' hS'; obtain ⟨⟨⟨x0, x1, x2, x3, x4, x5⟩, x6, x7⟩, xb⟩ := hS'; go_simp <;> rfl) hS1 ?_
             try simp only [pa, pb, pc, Act.put, pd, pe, pf]
             refine tkg 14 rfl (by intro w' hS'; obtain ⟨⟨⟨x0, x1, x2, x3, x4, x5⟩, x6, x7⟩, xb⟩ := hS'; go_simp <;> rfl) hS1 ?_
             try simp only [pa, pb, pc, Act.put, pd, pe, pf]
             refine wpAnyL_one 15 (by kernel_rfl) rfl (by kernel_rfl) ?_
             intro K' hK'
             go_simp
             go_at_call 83
             refine (kl _ hS1).mono ?_
             rintro e W2 ⟨rfl, hS2⟩
             refine hK'.out _ _ (.inr hS2) ?_
             clear hK' K'
             try simp only [pa, pb, pc, Act.put, pd, pe, pf]
             refine tkg 16 rfl (by intro w' hS'; obtain ⟨⟨⟨x0, x1, x2, x3, x4, x5⟩, x6, x7⟩, xb⟩ := hS'; go_simp <;> rfl) hS2 ?_
             try simp only [pa, pb, pc, Act.put, pd, pe, pf]
             refine tkg 17 rfl (by intro w' hS'; obtain ⟨⟨⟨x0, x1, x2, x3, x4, x5⟩, x6, x7⟩, xb⟩ := hS'; go_simp <;> rfl) hS2 ?_
             try simp only [pa, pb, pc, Act.put, pd, pe, pf]
             refine tkg 18 rfl (by intro w' hS'; obtain ⟨⟨⟨x0, x1, x2, x3, x4, x5⟩, x6, x7⟩, xb⟩ := hS'; go_simp <;> rfl) hS2 ?_
             try simp only [pa, pb, pc, Act.put, pd, pe, pf]
             refine skg 19 rfl hS2 ?_
             try simp only [pa, pb, pc, Act.put, pd, pe, pf]
             refine skg 20 rfl hS2 ?_
             try simp only [pa, pb, pc, Act.put, pd, pe, pf]
             refine skg 21 rfl hS2 ?_
             try simp only [pa, pb, pc, Act.put, pd, pe, pf]
             refine tkg 22 rfl (by intro w' hS'; obtain ⟨⟨⟨x0, x1, x2, x3, x4, x5⟩, x6, x7⟩, xb⟩ := hS'; go_simp <;> rfl) hS2 ?_
             try simp only [pa, pb, pc, Act.put, pd, pe, pf]
             refine tkg 23 rfl (by intro w' hS'; obtain ⟨⟨⟨x0, x1, x2, x3, x4, x5⟩, x6, x7⟩, xb⟩ := hS'; go_simp <;> rfl) hS2 ?_
             try simp only [pa, pb, pc, Act.put, pd, pe, pf]
             refine skg 24 rfl hS2 ?_
             try simp only [pa, pb, pc, Act.put, pd, pe, pf]
             refine skg 25 rfl hS2 ?_
             try simp only [pa, pb, pc, Act.put, pd, pe, pf]
             refine skg 26 rfl hS2 ?_
             try simp only [pa, pb, pc, Act.put, pd, pe, pf]
             refine skg 27 rfl hS2 ?_
             try simp only [pa, pb, pc, Act.put, pd, pe, pf]
             refine skg 28 rfl hS2 ?_
             try simp only [pa, pb, pc, Act.put, pd, pe, pf]
             refine skg 29 rfl hS2 ?_
             try simp only [pa, pb, pc, Act.put, pd, pe, pf]
             refine tkg 30 rfl (by intro w' hS'; obtain ⟨⟨⟨x0, x1, x2, x3, x4, x5⟩, x6, x7⟩, xb⟩ := hS'; go_simp <;> rfl) hS2 ?_
             try simp only [pa, pb, pc, Act.put, pd, pe, pf]
             refine tkg 31 rfl (by intro w' hS'; obtain ⟨⟨⟨x0, x1, x2, x3, x4, x5⟩, x6, x7⟩, xb⟩ := hS'; go_simp <;> rfl) hS2 ?_
             try simp only [pa, pb, pc, Act.put, pd, pe, pf]
             refine skg 32 rfl hS2 ?_
             try simp only [pa, pb, pc, Act.put, pd, pe, pf]
             refine skg 33 rfl hS2 ?_
             try simp only [pa, pb, pc, Act.put, pd, pe, pf]
             refine skg 34 rfl hS2 ?_
             try simp only [pa, pb, pc, Act.put, pd, pe, pf]
             refine skg 35 rfl hS2 ?_
             try simp only [pa, pb, pc, Act.put, pd, pe, pf]
             refine skg 36 rfl hS2 ?_
             try simp only [pa, pb, pc, Act.put, pd, pe, pf]
             refine skg 37 rfl hS2 ?_
             try simp only [pa, pb, pc, Act.put, pd, pe, pf]
             refine skg 38 rfl hS2 ?_
             try simp only [pa, pb, pc, Act.put, pd, pe, pf]
             refine skg 39 rfl hS2 ?_
             try simp only [pa, pb, pc, Act.put, pd, pe, pf]
             refine skg 40 rfl hS2 ?_
             try simp only [pa, pb, pc, Act.put, pd, pe, pf]
             refine skg 41 rfl hS2 ?_
             try simp only [pa, pb, pc, Act.put, pd, pe, pf]
             refine skg 42 rfl hS2 ?_
             try simp only [pa, pb, pc, Act.put, pd, pe, pf]
             refine skg 43 rfl hS2 ?_
             try simp only [pa, pb, pc, Act.put, pd, pe, pf]
             refine skg 44 rfl hS2 ?_
             try simp only [pa, pb, pc, Act.put, pd, pe, pf]
             refine skg 45 rfl hS2 ?_
             try simp only [pa, pb, pc, Act.put, pd, pe, pf]
             refine tkg 46 rfl (by intro w' hS'; obtain ⟨⟨⟨x0, x1, x2, x3, x4, x5⟩, x6, x7⟩, xb⟩ := hS'; go_simp <;> rfl) hS2 ?_
             try simp only [pa, pb, pc, Act.put, pd, pe, pf]
             refine wpAnyL_done (by kernel_rfl) (NoPanic.normal ?_) _
             go_wp2
             go_ret
             exact ⟨by rw [E.out]; rfl, BYW.out _ hS2.2⟩
            | true =>
             by_cases htk : tk = 0
             ·have htb : ((tk : Int) == 0) = true := by simpa using htk
              have HX : Hid (rintB sp (k, (q1, q2), kd, tk, tt) = false) := by show (decide (k.length ≤ 64) && idB (q1, q2) && turnB kd tt && decide (tk ≠ 0) && SpanMath.isIn sp k) = false; rw [decide_eq_false (show ¬ (tk ≠ 0) from fun h => h htk)]; simp
              have E : Hid (B = false) := by show _ = _; rw [HP.out, HA, HX.out]; rfl
              clear cc htk
              have kq : ∀ W, (fun W => ((W.cell? ⟨yb, 0, none⟩ = some (.string (bk k)) ∧ W.cell? ⟨yb, 1, none⟩ = some (.int .i64 q1) ∧ W.cell? ⟨yb, 2, none⟩ = some (.int .u64 (q2 : Int)) ∧ W.cell? ⟨yb, 3, none⟩ = some (.int .i64 kd) ∧ W.cell? ⟨yb, 4, none⟩ = some (.int .u64 (tk : Int)) ∧ W.cell? ⟨yb, 5, none⟩ = some (.int .i64 tt)) ∧ (W.cell? ⟨w.heap.size, 1, none⟩ = some (.slice sa sp.length sc) ∧ W.cell? ⟨w.heap.size, 5, none⟩ = some (.slice (some ⟨b, off, none⟩) is.length ic_))) ∧ Below wy.heap.size wy W) W → Calls Tryz.prog 43 #[.agg #[.int .i64 q1, .int .u64 (q2 : Int)]] W fun e w' => e = .returned (.bool true) ∧ (fun W => ((W.cell? ⟨yb, 0, none⟩ = some (.string (bk k)) ∧ W.cell? ⟨yb, 1, none⟩ = some (.int .i64 q1) ∧ W.cell? ⟨yb, 2, none⟩ = some (.int .u64 (q2 : Int)) ∧ W.cell? ⟨yb, 3, none⟩ = some (.int .i64 kd) ∧ W.cell? ⟨yb, 4, none⟩ = some (.int .u64 (tk : Int)) ∧ W.cell? ⟨yb, 5, none⟩ = some (.int .i64 tt)) ∧ (W.cell? ⟨w.heap.size, 1, none⟩ = some (.slice sa sp.length sc) ∧ W.cell? ⟨w.heap.size, 5, none⟩ = some (.slice (some ⟨b, off, none⟩) is.length ic_))) ∧ Below wy.heap.size wy W) w' := fun W hW => by
               refine (rid_of (q1, q2) W).mono ?_
               rintro e w' ⟨rfl, hb'⟩
               exact ⟨by rw [HID.out], cl w' (keep_step hW.2 (Nat.le_refl _) hb'), keep_step hW.2 (Nat.le_refl _) hb'⟩
              have kl : ∀ W, (fun W => ((W.cell? ⟨yb, 0, none⟩ = some (.string (bk k)) ∧ W.cell? ⟨yb, 1, none⟩ = some (.int .i64 q1) ∧ W.cell? ⟨yb, 2, none⟩ = some (.int .u64 (q2 : Int)) ∧ W.cell? ⟨yb, 3, none⟩ = some (.int .i64 kd) ∧ W.cell? ⟨yb, 4, none⟩ = some (.int .u64 (tk : Int)) ∧ W.cell? ⟨yb, 5, none⟩ = some (.int .i64 tt)) ∧ (W.cell? ⟨w.heap.size, 1, none⟩ = some (.slice sa sp.length sc) ∧ W.cell? ⟨w.heap.size, 5, none⟩ = some (.slice (some ⟨b, off, none⟩) is.length ic_))) ∧ Below wy.heap.size wy W) W → Calls Tryz.prog 83 #[.int .i64 kd, .int .i64 tt] W fun e w' => e = .returned (.bool true) ∧ (fun W => ((W.cell? ⟨yb, 0, none⟩ = some (.string (bk k)) ∧ W.cell? ⟨yb, 1, none⟩ = some (.int .i64 q1) ∧ W.cell? ⟨yb, 2, none⟩ = some (.int .u64 (q2 : Int)) ∧ W.cell? ⟨yb, 3, none⟩ = some (.int .i64 kd) ∧ W.cell? ⟨yb, 4, none⟩ = some (.int .u64 (tk : Int)) ∧ W.cell? ⟨yb, 5, none⟩ = some (.int .i64 tt)) ∧ (W.cell? ⟨w.heap.size, 1, none⟩ = some (.slice sa sp.length sc) ∧ W.cell? ⟨w.heap.size, 5, none⟩ = some (.slice (some ⟨b, off, none⟩) is.length ic_))) ∧ Below wy.heap.size wy W) w' := fun W hW => by
               refine (lasts_of kd tt W).mono ?_
               rintro e w' ⟨rfl, hw'⟩
               subst hw'
               exact ⟨by rw [HLA.out], hW⟩
              have hS0 : (fun W => ((W.cell? ⟨yb, 0, none⟩ = some (.string (bk k)) ∧ W.cell? ⟨yb, 1, none⟩ = some (.int .i64 q1) ∧ W.cell? ⟨yb, 2, none⟩ = some (.int .u64 (q2 : Int)) ∧ W.cell? ⟨yb, 3, none⟩ = some (.int .i64 kd) ∧ W.cell? ⟨yb, 4, none⟩ = some (.int .u64 (tk : Int)) ∧ W.cell? ⟨yb, 5, none⟩ = some (.int .i64 tt)) ∧ (W.cell? ⟨w.heap.size, 1, none⟩ = some (.slice sa sp.length sc) ∧ W.cell? ⟨w.heap.size, 5, none⟩ = some (.slice (some ⟨b, off, none⟩) is.length ic_))) ∧ Below wy.heap.size wy W) wy.drew := ⟨cl _ (Below.refl _ _).drew, (Below.refl _ _).drew⟩
              clear HP HA cl hxH ki kn HC
              go_wp2
              refine wp_region_L (fun W => ((W.cell? ⟨yb, 0, none⟩ = some (.string (bk k)) ∧ W.cell? ⟨yb, 1, none⟩ = some (.int .i64 q1) ∧ W.cell? ⟨yb, 2, none⟩ = some (.int .u64 (q2 : Int)) ∧ W.cell? ⟨yb, 3, none⟩ = some (.int .i64 kd) ∧ W.cell? ⟨yb, 4, none⟩ = some (.int .u64 (tk : Int)) ∧ W.cell? ⟨yb, 5, none⟩ = some (.int .i64 tt)) ∧ (W.cell? ⟨w.heap.size, 1, none⟩ = some (.slice sa sp.length sc) ∧ W.cell? ⟨w.heap.size, 5, none⟩ = some (.slice (some ⟨b, off, none⟩) is.length ic_))) ∧ Below wy.heap.size wy W) [] (by kernel_rfl) ?_
              have yS : (fun W => ((W.cell? ⟨yb, 0, none⟩ = some (.string (bk k)) ∧ W.cell? ⟨yb, 1, none⟩ = some (.int .i64 q1) ∧ W.cell? ⟨yb, 2, none⟩ = some (.int .u64 (q2 : Int)) ∧ W.cell? ⟨yb, 3, none⟩ = some (.int .i64 kd) ∧ W.cell? ⟨yb, 4, none⟩ = some (.int .u64 (tk : Int)) ∧ W.cell? ⟨yb, 5, none⟩ = some (.int .i64 tt)) ∧ (W.cell? ⟨w.heap.size, 1, none⟩ = some (.slice sa sp.length sc) ∧ W.cell? ⟨w.heap.size, 5, none⟩ = some (.slice (some ⟨b, off, none⟩) is.length ic_))) ∧ Below wy.heap.size wy W) wy.drew := hS0
              refine tkg 0 rfl (by intro w' hS'; obtain ⟨⟨⟨x0, x1, x2, x3, x4, x5⟩, x6, x7⟩, xb⟩ := hS'; go_simp <;> rfl) yS ?_
              try simp only [pa, pb, pc, Act.put, pd, pe, pf]
              refine tkg 1 rfl (by intro w' hS'; obtain ⟨⟨⟨x0, x1, x2, x3, x4, x5⟩, x6, x7⟩, xb⟩ := hS'; go_simp <;> rfl) yS ?_
              try simp only [pa, pb, pc, Act.put, pd, pe, pf]
              refine tkg 2 rfl (by intro w' hS'; obtain ⟨⟨⟨x0, x1, x2, x3, x4, x5⟩, x6, x7⟩, xb⟩ := hS'; go_simp <;> rfl) yS ?_
              try simp only [pa, pb, pc, Act.put, pd, pe, pf]
              refine tkg 3 rfl (by intro w' hS'; obtain ⟨⟨⟨x0, x1, x2, x3, x4, x5⟩, x6, x7⟩, xb⟩ := hS'; go_simp <;> rfl) yS ?_
              try simp only [pa, pb, pc, Act.put, pd, pe, pf]
              refine tkg 4 rfl (by intro w' hS'; obtain ⟨⟨⟨x0, x1, x2, x3, x4, x5⟩, x6, x7⟩, xb⟩ := hS'; go_simp <;> rfl) yS ?_
              try simp only [pa, pb, pc, Act.put, pd, pe, pf]
              refine tkg 5 rfl (by intro w' hS'; obtain ⟨⟨⟨x0, x1, x2, x3, x4, x5⟩, x6, x7⟩, xb⟩ := hS'; go_simp <;> rfl) yS ?_
              try simp only [pa, pb, pc, Act.put, pd, pe, pf]
              refine tkg 6 rfl (by intro w' hS'; obtain ⟨⟨⟨x0, x1, x2, x3, x4, x5⟩, x6, x7⟩, xb⟩ := hS'; go_simp <;> rfl) yS ?_
              try simp only [pa, pb, pc, Act.put, pd, pe, pf]
              refine wpAnyL_one 7 (by kernel_rfl) rfl (by kernel_rfl) ?_
              intro K' hK'
              go_simp
              go_at_call 43
              refine (kq _ yS).mono ?_
              rintro e W1 ⟨rfl, hS1⟩
              refine hK'.out _ _ (.inr hS1) ?_
              clear hK' K'
              try simp only [pa, pb, pc, Act.put, pd, pe, pf]
              refine tkg 8 rfl (by intro w' hS'; obtain ⟨⟨⟨x0, x1, x2, x3, x4, x5⟩, x6, x7⟩, xb⟩ := hS'; go_simp <;> rfl) hS1 ?_
              try simp only [pa, pb, pc, Act.put, pd, pe, pf]
              refine tkg 9 rfl (by intro w' hS'; obtain ⟨⟨⟨x0, x1, x2, x3, x4, x5⟩, x6, x7⟩, xb⟩ := hS'; go_simp <;> rfl) hS1 ?_
              try simp only [pa, pb, pc, Act.put, pd, pe, pf]
              refine tkg 10 rfl (by intro w' hS'; obtain ⟨⟨⟨x0, x1, x2, x3, x4, x5⟩, x6, x7⟩, xb⟩ := hS'; go_simp <;> rfl) hS1 ?_
              try simp only [pa, pb, pc, Act.put, pd, pe, pf]
              refine tkg 11 rfl (by intro w' hS'; obtain ⟨⟨⟨x0, x1, x2, x3, x4, x5⟩, x6, x7⟩, xb⟩ := hS'; go_simp <;> rfl) hS1 ?_
              try simp only [pa, pb, pc, Act.put, pd, pe, pf]
              refine tkg 12 rfl (by intro w' hS'; obtain ⟨⟨⟨x0, x1, x2, x3, x4, x5⟩, x6, x7⟩, xb⟩ := hS'; go_simp <;> rfl) hS1 ?_
              try simp only [pa, pb, pc, Act.put, pd, pe, pf]
              refine tkg 13 rfl (by intro w' hS'; obtain ⟨⟨⟨x0, x1, x2, x3, x4, x5⟩, x6, x7⟩, xb⟩ := hS'; go_simp <;> rfl) hS1 ?_
              try simp only [pa, pb, pc, Act.put, pd, pe, pf]
              refine tkg 14 rfl (by intro w' hS'; obtain ⟨⟨⟨x0, x1, x2, x3, x4, x5⟩, x6, x7⟩, xb⟩ := hS'; go_simp <;> rfl) hS1 ?_
              try simp only [pa, pb, pc, Act.put, pd, pe, pf]
              refine wpAnyL_one 15 (by kernel_rfl) rfl (by kernel_rfl) ?_
              intro K' hK'
              go_simp
              go_at_call 83
              refine (kl _ hS1).mono ?_
              rintro e W2 ⟨rfl, hS2⟩
              refine hK'.out _ _ (.inr hS2) ?_
              clear hK' K'
              try simp only [pa, pb, pc, Act.put, pd, pe, pf]
              refine tkg 16 rfl (by intro w' hS'; obtain ⟨⟨⟨x0, x1, x2, x3, x4, x5⟩, x6, x7⟩, xb⟩ := hS'; go_simp <;> rfl) hS2 ?_
              try simp only [pa, pb, pc, Act.put, pd, pe, pf]
              refine tkg 17 rfl (by intro w' hS'; obtain ⟨⟨⟨x0, x1, x2, x3, x4, x5⟩, x6, x7⟩, xb⟩ := hS'; go_simp <;> rfl) hS2 ?_
              try simp only [pa, pb, pc, Act.put, pd, pe, pf]
              refine tkg 18 rfl (by intro w' hS'; obtain ⟨⟨⟨x0, x1, x2, x3, x4, x5⟩, x6, x7⟩, xb⟩ := hS'; go_simp <;> rfl) hS2 ?_
              try simp only [pa, pb, pc, Act.put, pd, pe, pf]
              refine tkg 19 rfl (by intro w' hS'; obtain ⟨⟨⟨x0, x1, x2, x3, x4, x5⟩, x6, x7⟩, xb⟩ := hS'; go_simp <;> rfl) hS2 ?_
              try simp only [pa, pb, pc, Act.put, pd, pe, pf]
              refine tkg 20 rfl (by intro w' hS'; obtain ⟨⟨⟨x0, x1, x2, x3, x4, x5⟩, x6, x7⟩, xb⟩ := hS'; go_simp <;> rfl) hS2 ?_
              try simp only [pa, pb, pc, Act.put, pd, pe, pf]
              refine tkg 21 rfl (by intro w' hS'; obtain ⟨⟨⟨x0, x1, x2, x3, x4, x5⟩, x6, x7⟩, xb⟩ := hS'; go_simp <;> rfl) hS2 ?_
              try simp only [pa, pb, pc, Act.put, pd, pe, pf]
              refine tkg 22 rfl (by intro w' hS'; obtain ⟨⟨⟨x0, x1, x2, x3, x4, x5⟩, x6, x7⟩, xb⟩ := hS'; go_simp <;> rfl) hS2 ?_
              try simp only [pa, pb, pc, Act.put, pd, pe, pf]
              refine tkg 23 rfl (by intro w' hS'; obtain ⟨⟨⟨x0, x1, x2, x3, x4, x5⟩, x6, x7⟩, xb⟩ := hS'; go_simp <;> rfl) hS2 ?_
              try simp only [pa, pb, pc, Act.put, pd, pe, pf]
              refine skg 24 rfl hS2 ?_
              try simp only [pa, pb, pc, Act.put, pd, pe, pf]
              refine skg 25 rfl hS2 ?_
              try simp only [pa, pb, pc, Act.put, pd, pe, pf]
              refine skg 26 rfl hS2 ?_
              try simp only [pa, pb, pc, Act.put, pd, pe, pf]
              refine skg 27 rfl hS2 ?_
              try simp only [pa, pb, pc, Act.put, pd, pe, pf]
              refine skg 28 rfl hS2 ?_
              try simp only [pa, pb, pc, Act.put, pd, pe, pf]
              refine skg 29 rfl hS2 ?_
              try simp only [pa, pb, pc, Act.put, pd, pe, pf]
              refine tkg 30 rfl (by intro w' hS'; obtain ⟨⟨⟨x0, x1, x2, x3, x4, x5⟩, x6, x7⟩, xb⟩ := hS'; go_simp <;> rfl) hS2 ?_
              try simp only [pa, pb, pc, Act.put, pd, pe, pf]
              refine tkg 31 rfl (by intro w' hS'; obtain ⟨⟨⟨x0, x1, x2, x3, x4, x5⟩, x6, x7⟩, xb⟩ := hS'; go_simp <;> rfl) hS2 ?_
              try simp only [pa, pb, pc, Act.put, pd, pe, pf]
              refine skg 32 rfl hS2 ?_
              try simp only [pa, pb, pc, Act.put, pd, pe, pf]
              refine skg 33 rfl hS2 ?_
              try simp only [pa, pb, pc, Act.put, pd, pe, pf]
              refine skg 34 rfl hS2 ?_
              try simp only [pa, pb, pc, Act.put, pd, pe, pf]
              refine skg 35 rfl hS2 ?_
              try simp only [pa, pb, pc, Act.put, pd, pe, pf]
              refine skg 36 rfl hS2 ?_
              try simp only [pa, pb, pc, Act.put, pd, pe, pf]
              refine skg 37 rfl hS2 ?_
              try simp only [pa, pb, pc, Act.put, pd, pe, pf]
              refine skg 38 rfl hS2 ?_
              try simp only [pa, pb, pc, Act.put, pd, pe, pf]
              refine skg 39 rfl hS2 ?_
              try simp only [pa, pb, pc, Act.put, pd, pe, pf]
              refine skg 40 rfl hS2 ?_
              try simp only [pa, pb, pc, Act.put, pd, pe, pf]
              refine skg 41 rfl hS2 ?_
              try simp only [pa, pb, pc, Act.put, pd, pe, pf]
              refine skg 42 rfl hS2 ?_
              try simp only [pa, pb, pc, Act.put, pd, pe, pf]
              refine skg 43 rfl hS2 ?_
              try simp only [pa, pb, pc, Act.put, pd, pe, pf]
              refine skg 44 rfl hS2 ?_
              try simp only [pa, pb, pc, Act.put, pd, pe, pf]
              refine skg 45 rfl hS2 ?_
              try simp only [pa, pb, pc, Act.put, pd, pe, pf]
              refine tkg 46 rfl (by intro w' hS'; obtain ⟨⟨⟨x0, x1, x2, x3, x4, x5⟩, x6, x7⟩, xb⟩ := hS'; go_simp <;> rfl) hS2 ?_
              try simp only [pa, pb, pc, Act.put, pd, pe, pf]
              refine wpAnyL_done (by kernel_rfl) (NoPanic.normal ?_) _
              go_wp2
              go_ret
              exact ⟨by rw [E.out]; rfl, BYW.out _ hS2.2⟩
             ·have htb : ((tk : Int) == 0) = false := by simpa using htk
              have htd : Hid (decide (tk ≠ 0) = true) := decide_eq_true htk
              clear htk
              cases IN with
              | false =>
               have HX : Hid (rintB sp (k, (q1, q2), kd, tk, tt) = false) := by show (decide (k.length ≤ 64) && idB (q1, q2) && turnB kd tt && decide (tk ≠ 0) && SpanMath.isIn sp k) = false; rw [HIN.out]; simp
               have E : Hid (B = false) := by show _ = _; rw [HP.out, HA, HX.out]; rfl
               clear cc
               have kq : ∀ W, (fun W => ((W.cell? ⟨yb, 0, none⟩ = some (.string (bk k)) ∧ W.cell? ⟨yb, 1, none⟩ = some (.int .i64 q1) ∧ W.cell? ⟨yb, 2, none⟩ = some (.int .u64 (q2 : Int)) ∧ W.cell? ⟨yb, 3, none⟩ = some (.int .i64 kd) ∧ W.cell? ⟨yb, 4, none⟩ = some (.int .u64 (tk : Int)) ∧ W.cell? ⟨yb, 5, none⟩ = some (.int .i64 tt)) ∧ (W.cell? ⟨w.heap.size, 1, none⟩ = some (.slice sa sp.length sc) ∧ W.cell? ⟨w.heap.size, 5, none⟩ = some (.slice (some ⟨b, off, none⟩) is.length ic_))) ∧ Below wy.heap.size wy W) W → Calls Tryz.prog 43 #[.agg #[.int .i64 q1, .int .u64 (q2 : Int)]] W fun e w' => e = .returned (.bool true) ∧ (fun W => ((W.cell? ⟨yb, 0, none⟩ = some (.string (bk k)) ∧ W.cell? ⟨yb, 1, none⟩ = some (.int .i64 q1) ∧ W.cell? ⟨yb, 2, none⟩ = some (.int .u64 (q2 : Int)) ∧ W.cell? ⟨yb, 3, none⟩ = some (.int .i64 kd) ∧ W.cell? ⟨yb, 4, none⟩ = some (.int .u64 (tk : Int)) ∧ W.cell? ⟨yb, 5, none⟩ = some (.int .i64 tt)) ∧ (W.cell? ⟨w.heap.size, 1, none⟩ = some (.slice sa sp.length sc) ∧ W.cell? ⟨w.heap.size, 5, none⟩ = some (.slice (some ⟨b, off, none⟩) is.length ic_))) ∧ Below wy.heap.size wy W) w' := fun W hW => by
                refine (rid_of (q1, q2) W).mono ?_
                rintro e w' ⟨rfl, hb'⟩
                exact ⟨by rw [HID.out], cl w' (keep_step hW.2 (Nat.le_refl _) hb'), keep_step hW.2 (Nat.le_refl _) hb'⟩
               have kl : ∀ W, (fun W => ((W.cell? ⟨yb, 0, none⟩ = some (.string (bk k)) ∧ W.cell? ⟨yb, 1, none⟩ = some (.int .i64 q1) ∧ W.cell? ⟨yb, 2, none⟩ = some (.int .u64 (q2 : Int)) ∧ W.cell? ⟨yb, 3, none⟩ = some (.int .i64 kd) ∧ W.cell? ⟨yb, 4, none⟩ = some (.int .u64 (tk : Int)) ∧ W.cell? ⟨yb, 5, none⟩ = some (.int .i64 tt)) ∧ (W.cell? ⟨w.heap.size, 1, none⟩ = some (.slice sa sp.length sc) ∧ W.cell? ⟨w.heap.size, 5, none⟩ = some (.slice (some ⟨b, off, none⟩) is.length ic_))) ∧ Below wy.heap.size wy W) W → Calls Tryz.prog 83 #[.int .i64 kd, .int .i64 tt] W fun e w' => e = .returned (.bool true) ∧ (fun W => ((W.cell? ⟨yb, 0, none⟩ = some (.string (bk k)) ∧ W.cell? ⟨yb, 1, none⟩ = some (.int .i64 q1) ∧ W.cell? ⟨yb, 2, none⟩ = some (.int .u64 (q2 : Int)) ∧ W.cell? ⟨yb, 3, none⟩ = some (.int .i64 kd) ∧ W.cell? ⟨yb, 4, none⟩ = some (.int .u64 (tk : Int)) ∧ W.cell? ⟨yb, 5, none⟩ = some (.int .i64 tt)) ∧ (W.cell? ⟨w.heap.size, 1, none⟩ = some (.slice sa sp.length sc) ∧ W.cell? ⟨w.heap.size, 5, none⟩ = some (.slice (some ⟨b, off, none⟩) is.length ic_))) ∧ Below wy.heap.size wy W) w' := fun W hW => by
                refine (lasts_of kd tt W).mono ?_
                rintro e w' ⟨rfl, hw'⟩
                subst hw'
                exact ⟨by rw [HLA.out], hW⟩
               have kx : ∀ W, (fun W => ((W.cell? ⟨yb, 0, none⟩ = some (.string (bk k)) ∧ W.cell? ⟨yb, 1, none⟩ = some (.int .i64 q1) ∧ W.cell? ⟨yb, 2, none⟩ = some (.int .u64 (q2 : Int)) ∧ W.cell? ⟨yb, 3, none⟩ = some (.int .i64 kd) ∧ W.cell? ⟨yb, 4, none⟩ = some (.int .u64 (tk : Int)) ∧ W.cell? ⟨yb, 5, none⟩ = some (.int .i64 tt)) ∧ (W.cell? ⟨w.heap.size, 1, none⟩ = some (.slice sa sp.length sc) ∧ W.cell? ⟨w.heap.size, 5, none⟩ = some (.slice (some ⟨b, off, none⟩) is.length ic_))) ∧ Below wy.heap.size wy W) W → Calls Tryz.prog 84 #[.slice sa sp.length sc, .string (bk k)] W fun e w' => e = .returned (.bool false) ∧ (fun W => ((W.cell? ⟨yb, 0, none⟩ = some (.string (bk k)) ∧ W.cell? ⟨yb, 1, none⟩ = some (.int .i64 q1) ∧ W.cell? ⟨yb, 2, none⟩ = some (.int .u64 (q2 : Int)) ∧ W.cell? ⟨yb, 3, none⟩ = some (.int .i64 kd) ∧ W.cell? ⟨yb, 4, none⟩ = some (.int .u64 (tk : Int)) ∧ W.cell? ⟨yb, 5, none⟩ = some (.int .i64 tt)) ∧ (W.cell? ⟨w.heap.size, 1, none⟩ = some (.slice sa sp.length sc) ∧ W.cell? ⟨w.heap.size, 5, none⟩ = some (.slice (some ⟨b, off, none⟩) is.length ic_))) ∧ Below wy.heap.size wy W) w' := fun W hW => by
                refine (ki.out k W (BYW.out _ hW.2)).mono ?_
                rintro e w' ⟨rfl, hb'⟩
                exact ⟨by rw [HIN.out], cl w' (keep_step hW.2 (Nat.le_refl _) hb'), keep_step hW.2 (Nat.le_refl _) hb'⟩
               have hS0 : (fun W => ((W.cell? ⟨yb, 0, none⟩ = some (.string (bk k)) ∧ W.cell? ⟨yb, 1, none⟩ = some (.int .i64 q1) ∧ W.cell? ⟨yb, 2, none⟩ = some (.int .u64 (q2 : Int)) ∧ W.cell? ⟨yb, 3, none⟩ = some (.int .i64 kd) ∧ W.cell? ⟨yb, 4, none⟩ = some (.int .u64 (tk : Int)) ∧ W.cell? ⟨yb, 5, none⟩ = some (.int .i64 tt)) ∧ (W.cell? ⟨w.heap.size, 1, none⟩ = some (.slice sa sp.length sc) ∧ W.cell? ⟨w.heap.size, 5, none⟩ = some (.slice (some ⟨b, off, none⟩) is.length ic_))) ∧ Below wy.heap.size wy W) wy.drew := ⟨cl _ (Below.refl _ _).drew, (Below.refl _ _).drew⟩
               clear HP HA cl hxH ki kn HC
               go_wp2
               refine wp_region_L (fun W => ((W.cell? ⟨yb, 0, none⟩ = some (.string (bk k)) ∧ W.cell? ⟨yb, 1, none⟩ = some (.int .i64 q1) ∧ W.cell? ⟨yb, 2, none⟩ = some (.int .u64 (q2 : Int)) ∧ W.cell? ⟨yb, 3, none⟩ = some (.int .i64 kd) ∧ W.cell? ⟨yb, 4, none⟩ = some (.int .u64 (tk : Int)) ∧ W.cell? ⟨yb, 5, none⟩ = some (.int .i64 tt)) ∧ (W.cell? ⟨w.heap.size, 1, none⟩ = some (.slice sa sp.length sc) ∧ W.cell? ⟨w.heap.size, 5, none⟩ = some (.slice (some ⟨b, off, none⟩) is.length ic_))) ∧ Below wy.heap.size wy W) [] (by kernel_rfl) ?_
               have yS : (fun W => ((W.cell? ⟨yb, 0, none⟩ = some (.string (bk k)) ∧ W.cell? ⟨yb, 1, none⟩ = some (.int .i64 q1) ∧ W.cell? ⟨yb, 2, none⟩ = some (.int .u64 (q2 : Int)) ∧ W.cell? ⟨yb, 3, none⟩ = some (.int .i64 kd) ∧ W.cell? ⟨yb, 4, none⟩ = some (.int .u64 (tk : Int)) ∧ W.cell? ⟨yb, 5, none⟩ = some (.int .i64 tt)) ∧ (W.cell? ⟨w.heap.size, 1, none⟩ = some (.slice sa sp.length sc) ∧ W.cell? ⟨w.heap.size, 5, none⟩ = some (.slice (some ⟨b, off, none⟩) is.length ic_))) ∧ Below wy.heap.size wy W) wy.drew := hS0
               refine tkg 0 rfl (by intro w' hS'; obtain ⟨⟨⟨x0, x1, x2, x3, x4, x5⟩, x6, x7⟩, xb⟩ := hS'; go_simp <;> rfl) yS ?_
               try simp only [pa, pb, pc, Act.put, pd, pe, pf]
               refine tkg 1 rfl (by intro w' hS'; obtain ⟨⟨⟨x0, x1, x2, x3, x4, x5⟩, x6, x7⟩, xb⟩ := hS'; go_simp <;> rfl) yS ?_
               try simp only [pa, pb, pc, Act.put, pd, pe, pf]
               refine tkg 2 rfl (by intro w' hS'; obtain ⟨⟨⟨x0, x1, x2, x3, x4, x5⟩, x6, x7⟩, xb⟩ := hS'; go_simp <;> rfl) yS ?_
               try simp only [pa, pb, pc, Act.put, pd, pe, pf]
               refine tkg 3 rfl (by intro w' hS'; obtain ⟨⟨⟨x0, x1, x2, x3, x4, x5⟩, x6, x7⟩, xb⟩ := hS'; go_simp <;> rfl) yS ?_
               try simp only [pa, pb, pc, Act.put, pd, pe, pf]
               refine tkg 4 rfl (by intro w' hS'; obtain ⟨⟨⟨x0, x1, x2, x3, x4, x5⟩, x6, x7⟩, xb⟩ := hS'; go_simp <;> rfl) yS ?_
               try simp only [pa, pb, pc, Act.put, pd, pe, pf]
               refine tkg 5 rfl (by intro w' hS'; obtain ⟨⟨⟨x0, x1, x2, x3, x4, x5⟩, x6, x7⟩, xb⟩ := hS'; go_simp <;> rfl) yS ?_
               try simp only [pa, pb, pc, Act.put, pd, pe, pf]
               refine tkg 6 rfl (by intro w' hS'; obtain ⟨⟨⟨x0, x1, x2, x3, x4, x5⟩, x6, x7⟩, xb⟩ := hS'; go_simp <;> rfl) yS ?_
               try simp only [pa, pb, pc, Act.put, pd, pe, pf]
               refine wpAnyL_one 7 (by kernel_rfl) rfl (by kernel_rfl) ?_
               intro K' hK'
               go_simp
               go_at_call 43
               refine (kq _ yS).mono ?_
               rintro e W1 ⟨rfl, hS1⟩
               refine hK'.out _ _ (.inr hS1) ?_
               clear hK' K'
               try simp only [pa, pb, pc, Act.put, pd, pe, pf]
               refine tkg 8 rfl (by intro w' hS'; obtain ⟨⟨⟨x0, x1, x2, x3, x4, x5⟩, x6, x7⟩, xb⟩ := hS'; go_simp <;> rfl) hS1 ?_
               try simp only [pa, pb, pc, Act.put, pd, pe, pf]
               refine tkg 9 rfl (by intro w' hS'; obtain ⟨⟨⟨x0, x1, x2, x3, x4, x5⟩, x6, x7⟩, xb⟩ := hS'; go_simp <;> rfl) hS1 ?_
               try simp only [pa, pb, pc, Act.put, pd, pe, pf]
               refine tkg 10 rfl (by intro w' hS'; obtain ⟨⟨⟨x0, x1, x2, x3, x4, x5⟩, x6, x7⟩, xb⟩ := hS'; go_simp <;> rfl) hS1 ?_
               try simp only [pa, pb, pc, Act.put, pd, pe, pf]
               refine tkg 11 rfl (by intro w' hS'; obtain ⟨⟨⟨x0, x1, x2, x3, x4, x5⟩, x6, x7⟩, xb⟩ := hS'; go_simp <;> rfl) hS1 ?_
               try simp only [pa, pb, pc, Act.put, pd, pe, pf]
               refine tkg 12 rfl (by intro w' hS'; obtain ⟨⟨⟨x0, x1, x2, x3, x4, x5⟩, x6, x7⟩, xb⟩ := hS'; go_simp <;> rfl) hS1 ?_
               try simp only [pa, pb, pc, Act.put, pd, pe, pf]
               refine tkg 13 rfl (by intro w' hS'; obtain ⟨⟨⟨x0, x1, x2, x3, x4, x5⟩, x6, x7⟩, xb⟩ := hS'; go_simp <;> rfl) hS1 ?_
               try simp only [pa, pb, pc, Act.put, pd, pe, pf]
               refine tkg 14 rfl (by intro w' hS'; obtain ⟨⟨⟨x0, x1, x2, x3, x4, x5⟩, x6, x7⟩, xb⟩ := hS'; go_simp <;> rfl) hS1 ?_
               try simp only [pa, pb, pc, Act.put, pd, pe, pf]
               refine wpAnyL_one 15 (by kernel_rfl) rfl (by kernel_rfl) ?_
               intro K' hK'
               go_simp
               go_at_call 83
               refine (kl _ hS1).mono ?_
               rintro e W2 ⟨rfl, hS2⟩
               refine hK'.out _ _ (.inr hS2) ?_
               clear hK' K'
               try simp only [pa, pb, pc, Act.put, pd, pe, pf]
               refine tkg 16 rfl (by intro w' hS'; obtain ⟨⟨⟨x0, x1, x2, x3, x4, x5⟩, x6, x7⟩, xb⟩ := hS'; go_simp <;> rfl) hS2 ?_
               try simp only [pa, pb, pc, Act.put, pd, pe, pf]
               refine tkg 17 rfl (by intro w' hS'; obtain ⟨⟨⟨x0, x1, x2, x3, x4, x5⟩, x6, x7⟩, xb⟩ := hS'; go_simp <;> rfl) hS2 ?_
               try simp only [pa, pb, pc, Act.put, pd, pe, pf]
               refine tkg 18 rfl (by intro w' hS'; obtain ⟨⟨⟨x0, x1, x2, x3, x4, x5⟩, x6, x7⟩, xb⟩ := hS'; go_simp <;> rfl) hS2 ?_
               try simp only [pa, pb, pc, Act.put, pd, pe, pf]
               refine tkg 19 rfl (by intro w' hS'; obtain ⟨⟨⟨x0, x1, x2, x3, x4, x5⟩, x6, x7⟩, xb⟩ := hS'; go_simp <;> rfl) hS2 ?_
               try simp only [pa, pb, pc, Act.put, pd, pe, pf]
               refine tkg 20 rfl (by intro w' hS'; obtain ⟨⟨⟨x0, x1, x2, x3, x4, x5⟩, x6, x7⟩, xb⟩ := hS'; go_simp <;> rfl) hS2 ?_
               try simp only [pa, pb, pc, Act.put, pd, pe, pf]
               refine tkg 21 rfl (by intro w' hS'; obtain ⟨⟨⟨x0, x1, x2, x3, x4, x5⟩, x6, x7⟩, xb⟩ := hS'; go_simp <;> rfl) hS2 ?_
               try simp only [pa, pb, pc, Act.put, pd, pe, pf]
               refine tkg 22 rfl (by intro w' hS'; obtain ⟨⟨⟨x0, x1, x2, x3, x4, x5⟩, x6, x7⟩, xb⟩ := hS'; go_simp <;> rfl) hS2 ?_
               try simp only [pa, pb, pc, Act.put, pd, pe, pf]
               refine tkg 23 rfl (by intro w' hS'; obtain ⟨⟨⟨x0, x1, x2, x3, x4, x5⟩, x6, x7⟩, xb⟩ := hS'; go_simp <;> rfl) hS2 ?_
               try simp only [pa, pb, pc, Act.put, pd, pe, pf]
               refine tkg 24 rfl (by intro w' hS'; obtain ⟨⟨⟨x0, x1, x2, x3, x4, x5⟩, x6, x7⟩, xb⟩ := hS'; go_simp <;> rfl) hS2 ?_
               try simp only [pa, pb, pc, Act.put, pd, pe, pf]
               refine tkg 25 rfl (by intro w' hS'; obtain ⟨⟨⟨x0, x1, x2, x3, x4, x5⟩, x6, x7⟩, xb⟩ := hS'; go_simp <;> rfl) hS2 ?_
               try simp only [pa, pb, pc, Act.put, pd, pe, pf]
               refine tkg 26 rfl (by intro w' hS'; obtain ⟨⟨⟨x0, x1, x2, x3, x4, x5⟩, x6, x7⟩, xb⟩ := hS'; go_simp <;> rfl) hS2 ?_
               try simp only [pa, pb, pc, Act.put, pd, pe, pf]
               refine tkg 27 rfl (by intro w' hS'; obtain ⟨⟨⟨x0, x1, x2, x3, x4, x5⟩, x6, x7⟩, xb⟩ := hS'; go_simp <;> rfl) hS2 ?_
               try simp only [pa, pb, pc, Act.put, pd, pe, pf]
               refine wpAnyL_one 28 (by kernel_rfl) rfl (by kernel_rfl) ?_
               intro K' hK'
               go_simp
               go_at_call 84
               refine (kx _ hS2).mono ?_
               rintro e W3 ⟨rfl, hS3⟩
               refine hK'.out _ _ (.inr hS3) ?_
               clear hK' K'
               try simp only [pa, pb, pc, Act.put, pd, pe, pf]
               refine tkg 29 rfl (by intro w' hS'; obtain ⟨⟨⟨x0, x1, x2, x3, x4, x5⟩, x6, x7⟩, xb⟩ := hS'; go_simp <;> rfl) hS3 ?_
               try simp only [pa, pb, pc, Act.put, pd, pe, pf]
               refine tkg 30 rfl (by intro w' hS'; obtain ⟨⟨⟨x0, x1, x2, x3, x4, x5⟩, x6, x7⟩, xb⟩ := hS'; go_simp <;> rfl) hS3 ?_
               try simp only [pa, pb, pc, Act.put, pd, pe, pf]
               refine tkg 31 rfl (by intro w' hS'; obtain ⟨⟨⟨x0, x1, x2, x3, x4, x5⟩, x6, x7⟩, xb⟩ := hS'; go_simp <;> rfl) hS3 ?_
               try simp only [pa, pb, pc, Act.put, pd, pe, pf]
               refine skg 32 rfl hS3 ?_
               try simp only [pa, pb, pc, Act.put, pd, pe, pf]
               refine skg 33 rfl hS3 ?_
               try simp only [pa, pb, pc, Act.put, pd, pe, pf]
               refine skg 34 rfl hS3 ?_
               try simp only [pa, pb, pc, Act.put, pd, pe, pf]
               refine skg 35 rfl hS3 ?_
               try simp only [pa, pb, pc, Act.put, pd, pe, pf]
               refine skg 36 rfl hS3 ?_
               try simp only [pa, pb, pc, Act.put, pd, pe, pf]
               refine skg 37 rfl hS3 ?_
               try simp only [pa, pb, pc, Act.put, pd, pe, pf]
               refine skg 38 rfl hS3 ?_
               try simp only [pa, pb, pc, Act.put, pd, pe, pf]
               refine skg 39 rfl hS3 ?_
               try simp only [pa, pb, pc, Act.put, pd, pe, pf]
               refine skg 40 rfl hS3 ?_
               try simp only [pa, pb, pc, Act.put, pd, pe, pf]
               refine skg 41 rfl hS3 ?_
               try simp only [pa, pb, pc, Act.put, pd, pe, pf]
               refine skg 42 rfl hS3 ?_
               try simp only [pa, pb, pc, Act.put, pd, pe, pf]
               refine skg 43 rfl hS3 ?_
               try simp only [pa, pb, pc, Act.put, pd, pe, pf]
               refine skg 44 rfl hS3 ?_
               try simp only [pa, pb, pc, Act.put, pd, pe, pf]
               refine skg 45 rfl hS3 ?_
               try simp only [pa, pb, pc, Act.put, pd, pe, pf]
               refine tkg 46 rfl (by intro w' hS'; obtain ⟨⟨⟨x0, x1, x2, x3, x4, x5⟩, x6, x7⟩, xb⟩ := hS'; go_simp <;> rfl) hS3 ?_
               try simp only [pa, pb, pc, Act.put, pd, pe, pf]
               refine wpAnyL_done (by kernel_rfl) (NoPanic.normal ?_) _
               go_wp2
               go_ret
               exact ⟨by rw [E.out]; rfl, BYW.out _ hS3.2⟩
              | true =>
               have HOK : Hid (rintB sp (k, (q1, q2), kd, tk, tt) = true) := by show (decide (k.length ≤ 64) && idB (q1, q2) && turnB kd tt && decide (tk ≠ 0) && SpanMath.isIn sp k) = true; rw [hk64.out, HID.out, HLA.out, htd.out, HIN.out]; rfl
               by_cases hi0 : i = 0
               ·have HN : Hid (B = walk (rintB sp) (prev is (i + 1)) (is.drop (i + 1))) := by show _ = _; rw [HP.out, HA, HOK.out]; simp [prev, lnk, hi0]
                have hi0i : ¬ (0 : Int) < (i : Int) := by omega
                have hi0d : decide ((0 : Int) < (i : Int)) = false := decide_eq_false hi0i
                have hi0n : ¬ 0 < i := by omega
                have hi0dn : decide (0 < i) = false := decide_eq_false hi0n
                clear cc hi0
                have kq : ∀ W, (fun W => ((W.cell? ⟨yb, 0, none⟩ = some (.string (bk k)) ∧ W.cell? ⟨yb, 1, none⟩ = some (.int .i64 q1) ∧ W.cell? ⟨yb, 2, none⟩ = some (.int .u64 (q2 : Int)) ∧ W.cell? ⟨yb, 3, none⟩ = some (.int .i64 kd) ∧ W.cell? ⟨yb, 4, none⟩ = some (.int .u64 (tk : Int)) ∧ W.cell? ⟨yb, 5, none⟩ = some (.int .i64 tt)) ∧ (W.cell? ⟨w.heap.size, 1, none⟩ = some (.slice sa sp.length sc) ∧ W.cell? ⟨w.heap.size, 5, none⟩ = some (.slice (some ⟨b, off, none⟩) is.length ic_))) ∧ Below wy.heap.size wy W) W → Calls Tryz.prog 43 #[.agg #[.int .i64 q1, .int .u64 (q2 : Int)]] W fun e w' => e = .returned (.bool true) ∧ (fun W => ((W.cell? ⟨yb, 0, none⟩ = some (.string (bk k)) ∧ W.cell? ⟨yb, 1, none⟩ = some (.int .i64 q1) ∧ W.cell? ⟨yb, 2, none⟩ = some (.int .u64 (q2 : Int)) ∧ W.cell? ⟨yb, 3, none⟩ = some (.int .i64 kd) ∧ W.cell? ⟨yb, 4, none⟩ = some (.int .u64 (tk : Int)) ∧ W.cell? ⟨yb, 5, none⟩ = some (.int .i64 tt)) ∧ (W.cell? ⟨w.heap.size, 1, none⟩ = some (.slice sa sp.length sc) ∧ W.cell? ⟨w.heap.size, 5, none⟩ = some (.slice (some ⟨b, off, none⟩) is.length ic_))) ∧ Below wy.heap.size wy W) w' := fun W hW => by
                 refine (rid_of (q1, q2) W).mono ?_
                 rintro e w' ⟨rfl, hb'⟩
                 exact ⟨by rw [HID.out], cl w' (keep_step hW.2 (Nat.le_refl _) hb'), keep_step hW.2 (Nat.le_refl _) hb'⟩
                have kl : ∀ W, (fun W => ((W.cell? ⟨yb, 0, none⟩ = some (.string (bk k)) ∧ W.cell? ⟨yb, 1, none⟩ = some (.int .i64 q1) ∧ W.cell? ⟨yb, 2, none⟩ = some (.int .u64 (q2 : Int)) ∧ W.cell? ⟨yb, 3, none⟩ = some (.int .i64 kd) ∧ W.cell? ⟨yb, 4, none⟩ = some (.int .u64 (tk : Int)) ∧ W.cell? ⟨yb, 5, none⟩ = some (.int .i64 tt)) ∧ (W.cell? ⟨w.heap.size, 1, none⟩ = some (.slice sa sp.length sc) ∧ W.cell? ⟨w.heap.size, 5, none⟩ = some (.slice (some ⟨b, off, none⟩) is.length ic_))) ∧ Below wy.heap.size wy W) W → Calls Tryz.prog 83 #[.int .i64 kd, .int .i64 tt] W fun e w' => e = .returned (.bool true) ∧ (fun W => ((W.cell? ⟨yb, 0, none⟩ = some (.string (bk k)) ∧ W.cell? ⟨yb, 1, none⟩ = some (.int .i64 q1) ∧ W.cell? ⟨yb, 2, none⟩ = some (.int .u64 (q2 : Int)) ∧ W.cell? ⟨yb, 3, none⟩ = some (.int .i64 kd) ∧ W.cell? ⟨yb, 4, none⟩ = some (.int .u64 (tk : Int)) ∧ W.cell? ⟨yb, 5, none⟩ = some (.int .i64 tt)) ∧ (W.cell? ⟨w.heap.size, 1, none⟩ = some (.slice sa sp.length sc) ∧ W.cell? ⟨w.heap.size, 5, none⟩ = some (.slice (some ⟨b, off, none⟩) is.length ic_))) ∧ Below wy.heap.size wy W) w' := fun W hW => by
                 refine (lasts_of kd tt W).mono ?_
                 rintro e w' ⟨rfl, hw'⟩
                 subst hw'
                 exact ⟨by rw [HLA.out], hW⟩
                have kx : ∀ W, (fun W => ((W.cell? ⟨yb, 0, none⟩ = some (.string (bk k)) ∧ W.cell? ⟨yb, 1, none⟩ = some (.int .i64 q1) ∧ W.cell? ⟨yb, 2, none⟩ = some (.int .u64 (q2 : Int)) ∧ W.cell? ⟨yb, 3, none⟩ = some (.int .i64 kd) ∧ W.cell? ⟨yb, 4, none⟩ = some (.int .u64 (tk : Int)) ∧ W.cell? ⟨yb, 5, none⟩ = some (.int .i64 tt)) ∧ (W.cell? ⟨w.heap.size, 1, none⟩ = some (.slice sa sp.length sc) ∧ W.cell? ⟨w.heap.size, 5, none⟩ = some (.slice (some ⟨b, off, none⟩) is.length ic_))) ∧ Below wy.heap.size wy W) W → Calls Tryz.prog 84 #[.slice sa sp.length sc, .string (bk k)] W fun e w' => e = .returned (.bool true) ∧ (fun W => ((W.cell? ⟨yb, 0, none⟩ = some (.string (bk k)) ∧ W.cell? ⟨yb, 1, none⟩ = some (.int .i64 q1) ∧ W.cell? ⟨yb, 2, none⟩ = some (.int .u64 (q2 : Int)) ∧ W.cell? ⟨yb, 3, none⟩ = some (.int .i64 kd) ∧ W.cell? ⟨yb, 4, none⟩ = some (.int .u64 (tk : Int)) ∧ W.cell? ⟨yb, 5, none⟩ = some (.int .i64 tt)) ∧ (W.cell? ⟨w.heap.size, 1, none⟩ = some (.slice sa sp.length sc) ∧ W.cell? ⟨w.heap.size, 5, none⟩ = some (.slice (some ⟨b, off, none⟩) is.length ic_))) ∧ Below wy.heap.size wy W) w' := fun W hW => by
                 refine (ki.out k W (BYW.out _ hW.2)).mono ?_
                 rintro e w' ⟨rfl, hb'⟩
                 exact ⟨by rw [HIN.out], cl w' (keep_step hW.2 (Nat.le_refl _) hb'), keep_step hW.2 (Nat.le_refl _) hb'⟩
                have hS0 : (fun W => ((W.cell? ⟨yb, 0, none⟩ = some (.string (bk k)) ∧ W.cell? ⟨yb, 1, none⟩ = some (.int .i64 q1) ∧ W.cell? ⟨yb, 2, none⟩ = some (.int .u64 (q2 : Int)) ∧ W.cell? ⟨yb, 3, none⟩ = some (.int .i64 kd) ∧ W.cell? ⟨yb, 4, none⟩ = some (.int .u64 (tk : Int)) ∧ W.cell? ⟨yb, 5, none⟩ = some (.int .i64 tt)) ∧ (W.cell? ⟨w.heap.size, 1, none⟩ = some (.slice sa sp.length sc) ∧ W.cell? ⟨w.heap.size, 5, none⟩ = some (.slice (some ⟨b, off, none⟩) is.length ic_))) ∧ Below wy.heap.size wy W) wy.drew := ⟨cl _ (Below.refl _ _).drew, (Below.refl _ _).drew⟩
                clear HP HA cl hxH ki kn HC
                go_wp2
                refine wp_region_L (fun W => ((W.cell? ⟨yb, 0, none⟩ = some (.string (bk k)) ∧ W.cell? ⟨yb, 1, none⟩ = some (.int .i64 q1) ∧ W.cell? ⟨yb, 2, none⟩ = some (.int .u64 (q2 : Int)) ∧ W.cell? ⟨yb, 3, none⟩ = some (.int .i64 kd) ∧ W.cell? ⟨yb, 4, none⟩ = some (.int .u64 (tk : Int)) ∧ W.cell? ⟨yb, 5, none⟩ = some (.int .i64 tt)) ∧ (W.cell? ⟨w.heap.size, 1, none⟩ = some (.slice sa sp.length sc) ∧ W.cell? ⟨w.heap.size, 5, none⟩ = some (.slice (some ⟨b, off, none⟩) is.length ic_))) ∧ Below wy.heap.size wy W) [] (by kernel_rfl) ?_
                have yS : (fun W => ((W.cell? ⟨yb, 0, none⟩ = some (.string (bk k)) ∧ W.cell? ⟨yb, 1, none⟩ = some (.int .i64 q1) ∧ W.cell? ⟨yb, 2, none⟩ = some (.int .u64 (q2 : Int)) ∧ W.cell? ⟨yb, 3, none⟩ = some (.int .i64 kd) ∧ W.cell? ⟨yb, 4, none⟩ = some (.int .u64 (tk : Int)) ∧ W.cell? ⟨yb, 5, none⟩ = some (.int .i64 tt)) ∧ (W.cell? ⟨w.heap.size, 1, none⟩ = some (.slice sa sp.length sc) ∧ W.cell? ⟨w.heap.size, 5, none⟩ = some (.slice (some ⟨b, off, none⟩) is.length ic_))) ∧ Below wy.heap.size wy W) wy.drew := hS0
                refine tkg 0 rfl (by intro w' hS'; obtain ⟨⟨⟨x0, x1, x2, x3, x4, x5⟩, x6, x7⟩, xb⟩ := hS'; go_simp <;> rfl) yS ?_
                try simp only [pa, pb, pc, Act.put, pd, pe, pf]
                refine tkg 1 rfl (by intro w' hS'; obtain ⟨⟨⟨x0, x1, x2, x3, x4, x5⟩, x6, x7⟩, xb⟩ := hS'; go_simp <;> rfl) yS ?_
                try simp only [pa, pb, pc, Act.put, pd, pe, pf]
                refine tkg 2 rfl (by intro w' hS'; obtain ⟨⟨⟨x0, x1, x2, x3, x4, x5⟩, x6, x7⟩, xb⟩ := hS'; go_simp <;> rfl) yS ?_
                try simp only [pa, pb, pc, Act.put, pd, pe, pf]
                refine tkg 3 rfl (by intro w' hS'; obtain ⟨⟨⟨x0, x1, x2, x3, x4, x5⟩, x6, x7⟩, xb⟩ := hS'; go_simp <;> rfl) yS ?_
                try simp only [pa, pb, pc, Act.put, pd, pe, pf]
                refine tkg 4 rfl (by intro w' hS'; obtain ⟨⟨⟨x0, x1, x2, x3, x4, x5⟩, x6, x7⟩, xb⟩ := hS'; go_simp <;> rfl) yS ?_
                try simp only [pa, pb, pc, Act.put, pd, pe, pf]
                refine tkg 5 rfl (by intro w' hS'; obtain ⟨⟨⟨x0, x1, x2, x3, x4, x5⟩, x6, x7⟩, xb⟩ := hS'; go_simp <;> rfl) yS ?_
                try simp only [pa, pb, pc, Act.put, pd, pe, pf]
                refine tkg 6 rfl (by intro w' hS'; obtain ⟨⟨⟨x0, x1, x2, x3, x4, x5⟩, x6, x7⟩, xb⟩ := hS'; go_simp <;> rfl) yS ?_
                try simp only [pa, pb, pc, Act.put, pd, pe, pf]
                refine wpAnyL_one 7 (by kernel_rfl) rfl (by kernel_rfl) ?_
                intro K' hK'
                go_simp
                go_at_call 43
                refine (kq _ yS).mono ?_
                rintro e W1 ⟨rfl, hS1⟩
                refine hK'.out _ _ (.inr hS1) ?_
                clear hK' K'
                try simp only [pa, pb, pc, Act.put, pd, pe, pf]
                refine tkg 8 rfl (by intro w' hS'; obtain ⟨⟨⟨x0, x1, x2, x3, x4, x5⟩, x6, x7⟩, xb⟩ := hS'; go_simp <;> rfl) hS1 ?_
                try simp only [pa, pb, pc, Act.put, pd, pe, pf]
                refine tkg 9 rfl (by intro w' hS'; obtain ⟨⟨⟨x0, x1, x2, x3, x4, x5⟩, x6, x7⟩, xb⟩ := hS'; go_simp <;> rfl) hS1 ?_
                try simp only [pa, pb, pc, Act.put, pd, pe, pf]
                refine tkg 10 rfl (by intro w' hS'; obtain ⟨⟨⟨x0, x1, x2, x3, x4, x5⟩, x6, x7⟩, xb⟩ := hS'; go_simp <;> rfl) hS1 ?_
                try simp only [pa, pb, pc, Act.put, pd, pe, pf]
                refine tkg 11 rfl (by intro w' hS'; obtain ⟨⟨⟨x0, x1, x2, x3, x4, x5⟩, x6, x7⟩, xb⟩ := hS'; go_simp <;> rfl) hS1 ?_
                try simp only [pa, pb, pc, Act.put, pd, pe, pf]
                refine tkg 12 rfl (by intro w' hS'; obtain ⟨⟨⟨x0, x1, x2, x3, x4, x5⟩, x6, x7⟩, xb⟩ := hS'; go_simp <;> rfl) hS1 ?_
                try simp only [pa, pb, pc, Act.put, pd, pe, pf]
                refine tkg 13 rfl (by intro w' hS'; obtain ⟨⟨⟨x0, x1, x2, x3, x4, x5⟩, x6, x7⟩, xb⟩ := hS'; go_simp <;> rfl) hS1 ?_
                try simp only [pa, pb, pc, Act.put, pd, pe, pf]
                refine tkg 14 rfl (by intro w' hS'; obtain ⟨⟨⟨x0, x1, x2, x3, x4, x5⟩, x6, x7⟩, xb⟩ := hS'; go_simp <;> rfl) hS1 ?_
                try simp only [pa, pb, pc, Act.put, pd, pe, pf]
                refine wpAnyL_one 15 (by kernel_rfl) rfl (by kernel_rfl) ?_
                intro K' hK'
                go_simp
                go_at_call 83
                refine (kl _ hS1).mono ?_
                rintro e W2 ⟨rfl, hS2⟩
                refine hK'.out _ _ (.inr hS2) ?_
                clear hK' K'
                try simp only [pa, pb, pc, Act.put, pd, pe, pf]
                refine tkg 16 rfl (by intro w' hS'; obtain ⟨⟨⟨x0, x1, x2, x3, x4, x5⟩, x6, x7⟩, xb⟩ := hS'; go_simp <;> rfl) hS2 ?_
                try simp only [pa, pb, pc, Act.put, pd, pe, pf]
                refine tkg 17 rfl (by intro w' hS'; obtain ⟨⟨⟨x0, x1, x2, x3, x4, x5⟩, x6, x7⟩, xb⟩ := hS'; go_simp <;> rfl) hS2 ?_
                try simp only [pa, pb, pc, Act.put, pd, pe, pf]
                refine tkg 18 rfl (by intro w' hS'; obtain ⟨⟨⟨x0, x1, x2, x3, x4, x5⟩, x6, x7⟩, xb⟩ := hS'; go_simp <;> rfl) hS2 ?_
                try simp only [pa, pb, pc, Act.put, pd, pe, pf]
                refine tkg 19 rfl (by intro w' hS'; obtain ⟨⟨⟨x0, x1, x2, x3, x4, x5⟩, x6, x7⟩, xb⟩ := hS'; go_simp <;> rfl) hS2 ?_
                try simp only [pa, pb, pc, Act.put, pd, pe, pf]
                refine tkg 20 rfl (by intro w' hS'; obtain ⟨⟨⟨x0, x1, x2, x3, x4, x5⟩, x6, x7⟩, xb⟩ := hS'; go_simp <;> rfl) hS2 ?_
                try simp only [pa, pb, pc, Act.put, pd, pe, pf]
                refine tkg 21 rfl (by intro w' hS'; obtain ⟨⟨⟨x0, x1, x2, x3, x4, x5⟩, x6, x7⟩, xb⟩ := hS'; go_simp <;> rfl) hS2 ?_
                try simp only [pa, pb, pc, Act.put, pd, pe, pf]
                refine tkg 22 rfl (by intro w' hS'; obtain ⟨⟨⟨x0, x1, x2, x3, x4, x5⟩, x6, x7⟩, xb⟩ := hS'; go_simp <;> rfl) hS2 ?_
                try simp only [pa, pb, pc, Act.put, pd, pe, pf]
                refine tkg 23 rfl (by intro w' hS'; obtain ⟨⟨⟨x0, x1, x2, x3, x4, x5⟩, x6, x7⟩, xb⟩ := hS'; go_simp <;> rfl) hS2 ?_
                try simp only [pa, pb, pc, Act.put, pd, pe, pf]
                refine tkg 24 rfl (by intro w' hS'; obtain ⟨⟨⟨x0, x1, x2, x3, x4, x5⟩, x6, x7⟩, xb⟩ := hS'; go_simp <;> rfl) hS2 ?_
                try simp only [pa, pb, pc, Act.put, pd, pe, pf]
                refine tkg 25 rfl (by intro w' hS'; obtain ⟨⟨⟨x0, x1, x2, x3, x4, x5⟩, x6, x7⟩, xb⟩ := hS'; go_simp <;> rfl) hS2 ?_
                try simp only [pa, pb, pc, Act.put, pd, pe, pf]
                refine tkg 26 rfl (by intro w' hS'; obtain ⟨⟨⟨x0, x1, x2, x3, x4, x5⟩, x6, x7⟩, xb⟩ := hS'; go_simp <;> rfl) hS2 ?_
                try simp only [pa, pb, pc, Act.put, pd, pe, pf]
                refine tkg 27 rfl (by intro w' hS'; obtain ⟨⟨⟨x0, x1, x2, x3, x4, x5⟩, x6, x7⟩, xb⟩ := hS'; go_simp <;> rfl) hS2 ?_
                try simp only [pa, pb, pc, Act.put, pd, pe, pf]
                refine wpAnyL_one 28 (by kernel_rfl) rfl (by kernel_rfl) ?_
                intro K' hK'
                go_simp
                go_at_call 84
                refine (kx _ hS2).mono ?_
                rintro e W3 ⟨rfl, hS3⟩
                refine hK'.out _ _ (.inr hS3) ?_
                clear hK' K'
                try simp only [pa, pb, pc, Act.put, pd, pe, pf]
                refine tkg 29 rfl (by intro w' hS'; obtain ⟨⟨⟨x0, x1, x2, x3, x4, x5⟩, x6, x7⟩, xb⟩ := hS'; go_simp <;> rfl) hS3 ?_
                try simp only [pa, pb, pc, Act.put, pd, pe, pf]
                refine tkg 30 rfl (by intro w' hS'; obtain ⟨⟨⟨x0, x1, x2, x3, x4, x5⟩, x6, x7⟩, xb⟩ := hS'; go_simp <;> rfl) hS3 ?_
                try simp only [pa, pb, pc, Act.put, pd, pe, pf]
                refine tkg 31 rfl (by intro w' hS'; obtain ⟨⟨⟨x0, x1, x2, x3, x4, x5⟩, x6, x7⟩, xb⟩ := hS'; go_simp <;> rfl) hS3 ?_
                try simp only [pa, pb, pc, Act.put, pd, pe, pf]
                refine tkg 32 rfl (by intro w' hS'; obtain ⟨⟨⟨x0, x1, x2, x3, x4, x5⟩, x6, x7⟩, xb⟩ := hS'; go_simp <;> rfl) hS3 ?_
                try simp only [pa, pb, pc, Act.put, pd, pe, pf]
                refine tkg 33 rfl (by intro w' hS'; obtain ⟨⟨⟨x0, x1, x2, x3, x4, x5⟩, x6, x7⟩, xb⟩ := hS'; go_simp <;> rfl) hS3 ?_
                try simp only [pa, pb, pc, Act.put, pd, pe, pf]
                refine tkg 34 rfl (by intro w' hS'; obtain ⟨⟨⟨x0, x1, x2, x3, x4, x5⟩, x6, x7⟩, xb⟩ := hS'; go_simp <;> rfl) hS3 ?_
                try simp only [pa, pb, pc, Act.put, pd, pe, pf]
                refine skg 35 rfl hS3 ?_
                try simp only [pa, pb, pc, Act.put, pd, pe, pf]
                refine skg 36 rfl hS3 ?_
                try simp only [pa, pb, pc, Act.put, pd, pe, pf]
                refine skg 37 rfl hS3 ?_
                try simp only [pa, pb, pc, Act.put, pd, pe, pf]
                refine skg 38 rfl hS3 ?_
                try simp only [pa, pb, pc, Act.put, pd, pe, pf]
                refine skg 39 rfl hS3 ?_
                try simp only [pa, pb, pc, Act.put, pd, pe, pf]
                refine skg 40 rfl hS3 ?_
                try simp only [pa, pb, pc, Act.put, pd, pe, pf]
                refine skg 41 rfl hS3 ?_
                try simp only [pa, pb, pc, Act.put, pd, pe, pf]
                refine skg 42 rfl hS3 ?_
                try simp only [pa, pb, pc, Act.put, pd, pe, pf]
                refine skg 43 rfl hS3 ?_
                try simp only [pa, pb, pc, Act.put, pd, pe, pf]
                refine skg 44 rfl hS3 ?_
                try simp only [pa, pb, pc, Act.put, pd, pe, pf]
                refine tkg 45 rfl (by intro w' hS'; obtain ⟨⟨⟨x0, x1, x2, x3, x4, x5⟩, x6, x7⟩, xb⟩ := hS'; go_simp <;> rfl) hS3 ?_
                try simp only [pa, pb, pc, Act.put, pd, pe, pf]
                refine tkg 46 rfl (by intro w' hS'; obtain ⟨⟨⟨x0, x1, x2, x3, x4, x5⟩, x6, x7⟩, xb⟩ := hS'; go_simp <;> rfl) hS3 ?_
                try simp only [pa, pb, pc, Act.put, pd, pe, pf]
                refine wpAnyL_done (by kernel_rfl) (NoPanic.normal ?_) _
                go_wp2
                go_roundg (gk - 1)
                case measure => omega
                case rel => exact ⟨i + 1, by omega, by go_num, BY0.out _ hS3.2, HN⟩
               ·have hi0i : (0 : Int) < (i : Int) := by omega
                have hi0n : 0 < i := by omega
                have hi1 : (1 : Int) ≤ (i : Int) := by omega
                have hi1n : 1 ≤ i := by omega
                have hr : is[i - 1]? = some is[i - 1] := List.getElem?_eq_getElem (by omega)
                obtain ⟨y, hp⟩ : ∃ p, p = is[i - 1] := ⟨_, rfl⟩
                rw [← hp] at hr
                clear hp
                obtain ⟨b', off', e', cp⟩ := rdx_at HR.out.2.2.2.2 hr
                cases e'
                have HLk : Hid (lnk (prev is i) (k, (q1, q2), kd, tk, tt) = decide (y.1 < k)) := by
                 show _ = _
                 unfold prev
                 rw [if_neg hi0, hr]
                 rfl
                obtain ⟨yk, yr⟩ := y
                dsimp only at cp HLk
                have j1 : IntKind.i64.wrap ((i : Int) - 1) = (i : Int) - 1 := IntWalk.i64_in _ (by omega)
                have j2 : (0 : Int) ≤ (i : Int) - 1 := by omega
                have j3 : (i : Int) - 1 < (is.length : Int) := by omega
                have j4 : ((i : Int) - 1).toNat = i - 1 := by omega
                replace cl : ∀ W, Below wy.heap.size wy W → (W.cell? ⟨yb, 0, none⟩ = some (.string (bk k)) ∧ W.cell? ⟨yb, 1, none⟩ = some (.int .i64 q1) ∧ W.cell? ⟨yb, 2, none⟩ = some (.int .u64 (q2 : Int)) ∧ W.cell? ⟨yb, 3, none⟩ = some (.int .i64 kd) ∧ W.cell? ⟨yb, 4, none⟩ = some (.int .u64 (tk : Int)) ∧ W.cell? ⟨yb, 5, none⟩ = some (.int .i64 tt)) ∧ (W.cell? ⟨w.heap.size, 1, none⟩ = some (.slice sa sp.length sc) ∧ W.cell? ⟨w.heap.size, 5, none⟩ = some (.slice (some ⟨b, off, none⟩) is.length ic_)) ∧ W.cell? ⟨b, off + (i - 1) * 6, none⟩ = some (.string (bk yk)) := fun W hW => ⟨(cl W hW).1, (cl W hW).2, (cp W (BYW.out _ hW)).1⟩
                clear hr cp cc
                by_cases hcc : yk < k
                ·have HN : Hid (B = walk (rintB sp) (prev is (i + 1)) (is.drop (i + 1))) := by show _ = _; rw [HP.out, HA, HOK.out, HLk.out]; simp [hcc]
                 have hcd : ¬ k ≤ yk := by grind
                 have hcd2 : decide (k ≤ yk) = false := decide_eq_false hcd
                 clear hi0 hcc HLk
                 have kq : ∀ W, (fun W => ((W.cell? ⟨yb, 0, none⟩ = some (.string (bk k)) ∧ W.cell? ⟨yb, 1, none⟩ = some (.int .i64 q1) ∧ W.cell? ⟨yb, 2, none⟩ = some (.int .u64 (q2 : Int)) ∧ W.cell? ⟨yb, 3, none⟩ = some (.int .i64 kd) ∧ W.cell? ⟨yb, 4, none⟩ = some (.int .u64 (tk : Int)) ∧ W.cell? ⟨yb, 5, none⟩ = some (.int .i64 tt)) ∧ (W.cell? ⟨w.heap.size, 1, none⟩ = some (.slice sa sp.length sc) ∧ W.cell? ⟨w.heap.size, 5, none⟩ = some (.slice (some ⟨b, off, none⟩) is.length ic_)) ∧ W.cell? ⟨b, off + (i - 1) * 6, none⟩ = some (.string (bk yk))) ∧ Below wy.heap.size wy W) W → Calls Tryz.prog 43 #[.agg #[.int .i64 q1, .int .u64 (q2 : Int)]] W fun e w' => e = .returned (.bool true) ∧ (fun W => ((W.cell? ⟨yb, 0, none⟩ = some (.string (bk k)) ∧ W.cell? ⟨yb, 1, none⟩ = some (.int .i64 q1) ∧ W.cell? ⟨yb, 2, none⟩ = some (.int .u64 (q2 : Int)) ∧ W.cell? ⟨yb, 3, none⟩ = some (.int .i64 kd) ∧ W.cell? ⟨yb, 4, none⟩ = some (.int .u64 (tk : Int)) ∧ W.cell? ⟨yb, 5, none⟩ = some (.int .i64 tt)) ∧ (W.cell? ⟨w.heap.size, 1, none⟩ = some (.slice sa sp.length sc) ∧ W.cell? ⟨w.heap.size, 5, none⟩ = some (.slice (some ⟨b, off, none⟩) is.length ic_)) ∧ W.cell? ⟨b, off + (i - 1) * 6, none⟩ = some (.string (bk yk))) ∧ Below wy.heap.size wy W) w' := fun W hW => by
                  refine (rid_of (q1, q2) W).mono ?_
                  rintro e w' ⟨rfl, hb'⟩
                  exact ⟨by rw [HID.out], cl w' (keep_step hW.2 (Nat.le_refl _) hb'), keep_step hW.2 (Nat.le_refl _) hb'⟩
                 have kl : ∀ W, (fun W => ((W.cell? ⟨yb, 0, none⟩ = some (.string (bk k)) ∧ W.cell? ⟨yb, 1, none⟩ = some (.int .i64 q1) ∧ W.cell? ⟨yb, 2, none⟩ = some (.int .u64 (q2 : Int)) ∧ W.cell? ⟨yb, 3, none⟩ = some (.int .i64 kd) ∧ W.cell? ⟨yb, 4, none⟩ = some (.int .u64 (tk : Int)) ∧ W.cell? ⟨yb, 5, none⟩ = some (.int .i64 tt)) ∧ (W.cell? ⟨w.heap.size, 1, none⟩ = some (.slice sa sp.length sc) ∧ W.cell? ⟨w.heap.size, 5, none⟩ = some (.slice (some ⟨b, off, none⟩) is.length ic_)) ∧ W.cell? ⟨b, off + (i - 1) * 6, none⟩ = some (.string (bk yk))) ∧ Below wy.heap.size wy W) W → Calls Tryz.prog 83 #[.int .i64 kd, .int .i64 tt] W fun e w' => e = .returned (.bool true) ∧ (fun W => ((W.cell? ⟨yb, 0, none⟩ = some (.string (bk k)) ∧ W.cell? ⟨yb, 1, none⟩ = some (.int .i64 q1) ∧ W.cell? ⟨yb, 2, none⟩ = some (.int .u64 (q2 : Int)) ∧ W.cell? ⟨yb, 3, none⟩ = some (.int .i64 kd) ∧ W.cell? ⟨yb, 4, none⟩ = some (.int .u64 (tk : Int)) ∧ W.cell? ⟨yb, 5, none⟩ = some (.int .i64 tt)) ∧ (W.cell? ⟨w.heap.size, 1, none⟩ = some (.slice sa sp.length sc) ∧ W.cell? ⟨w.heap.size, 5, none⟩ = some (.slice (some ⟨b, off, none⟩) is.length ic_)) ∧ W.cell? ⟨b, off + (i - 1) * 6, none⟩ = some (.string (bk yk))) ∧ Below wy.heap.size wy W) w' := fun W hW => by
                  refine (lasts_of kd tt W).mono ?_
                  rintro e w' ⟨rfl, hw'⟩
                  subst hw'
                  exact ⟨by rw [HLA.out], hW⟩
                 have kx : ∀ W, (fun W => ((W.cell? ⟨yb, 0, none⟩ = some (.string (bk k)) ∧ W.cell? ⟨yb, 1, none⟩ = some (.int .i64 q1) ∧ W.cell? ⟨yb, 2, none⟩ = some (.int .u64 (q2 : Int)) ∧ W.cell? ⟨yb, 3, none⟩ = some (.int .i64 kd) ∧ W.cell? ⟨yb, 4, none⟩ = some (.int .u64 (tk : Int)) ∧ W.cell? ⟨yb, 5, none⟩ = some (.int .i64 tt)) ∧ (W.cell? ⟨w.heap.size, 1, none⟩ = some (.slice sa sp.length sc) ∧ W.cell? ⟨w.heap.size, 5, none⟩ = some (.slice (some ⟨b, off, none⟩) is.length ic_)) ∧ W.cell? ⟨b, off + (i - 1) * 6, none⟩ = some (.string (bk yk))) ∧ Below wy.heap.size wy W) W → Calls Tryz.prog 84 #[.slice sa sp.length sc, .string (bk k)] W fun e w' => e = .returned (.bool true) ∧ (fun W => ((W.cell? ⟨yb, 0, none⟩ = some (.string (bk k)) ∧ W.cell? ⟨yb, 1, none⟩ = some (.int .i64 q1) ∧ W.cell? ⟨yb, 2, none⟩ = some (.int .u64 (q2 : Int)) ∧ W.cell? ⟨yb, 3, none⟩ = some (.int .i64 kd) ∧ W.cell? ⟨yb, 4, none⟩ = some (.int .u64 (tk : Int)) ∧ W.cell? ⟨yb, 5, none⟩ = some (.int .i64 tt)) ∧ (W.cell? ⟨w.heap.size, 1, none⟩ = some (.slice sa sp.length sc) ∧ W.cell? ⟨w.heap.size, 5, none⟩ = some (.slice (some ⟨b, off, none⟩) is.length ic_)) ∧ W.cell? ⟨b, off + (i - 1) * 6, none⟩ = some (.string (bk yk))) ∧ Below wy.heap.size wy W) w' := fun W hW => by
                  refine (ki.out k W (BYW.out _ hW.2)).mono ?_
                  rintro e w' ⟨rfl, hb'⟩
                  exact ⟨by rw [HIN.out], cl w' (keep_step hW.2 (Nat.le_refl _) hb'), keep_step hW.2 (Nat.le_refl _) hb'⟩
                 have hS0 : (fun W => ((W.cell? ⟨yb, 0, none⟩ = some (.string (bk k)) ∧ W.cell? ⟨yb, 1, none⟩ = some (.int .i64 q1) ∧ W.cell? ⟨yb, 2, none⟩ = some (.int .u64 (q2 : Int)) ∧ W.cell? ⟨yb, 3, none⟩ = some (.int .i64 kd) ∧ W.cell? ⟨yb, 4, none⟩ = some (.int .u64 (tk : Int)) ∧ W.cell? ⟨yb, 5, none⟩ = some (.int .i64 tt)) ∧ (W.cell? ⟨w.heap.size, 1, none⟩ = some (.slice sa sp.length sc) ∧ W.cell? ⟨w.heap.size, 5, none⟩ = some (.slice (some ⟨b, off, none⟩) is.length ic_)) ∧ W.cell? ⟨b, off + (i - 1) * 6, none⟩ = some (.string (bk yk))) ∧ Below wy.heap.size wy W) wy.drew := ⟨cl _ (Below.refl _ _).drew, (Below.refl _ _).drew⟩
                 clear HP HA cl hxH ki kn HC
                 go_wp2
                 refine wp_region_L (fun W => ((W.cell? ⟨yb, 0, none⟩ = some (.string (bk k)) ∧ W.cell? ⟨yb, 1, none⟩ = some (.int .i64 q1) ∧ W.cell? ⟨yb, 2, none⟩ = some (.int .u64 (q2 : Int)) ∧ W.cell? ⟨yb, 3, none⟩ = some (.int .i64 kd) ∧ W.cell? ⟨yb, 4, none⟩ = some (.int .u64 (tk : Int)) ∧ W.cell? ⟨yb, 5, none⟩ = some (.int .i64 tt)) ∧ (W.cell? ⟨w.heap.size, 1, none⟩ = some (.slice sa sp.length sc) ∧ W.cell? ⟨w.heap.size, 5, none⟩ = some (.slice (some ⟨b, off, none⟩) is.length ic_)) ∧ W.cell? ⟨b, off + (i - 1) * 6, none⟩ = some (.string (bk yk))) ∧ Below wy.heap.size wy W) [] (by kernel_rfl) ?_
                 have yS : (fun W => ((W.cell? ⟨yb, 0, none⟩ = some (.string (bk k)) ∧ W.cell? ⟨yb, 1, none⟩ = some (.int .i64 q1) ∧ W.cell? ⟨yb, 2, none⟩ = some (.int .u64 (q2 : Int)) ∧ W.cell? ⟨yb, 3, none⟩ = some (.int .i64 kd) ∧ W.cell? ⟨yb, 4, none⟩ = some (.int .u64 (tk : Int)) ∧ W.cell? ⟨yb, 5, none⟩ = some (.int .i64 tt)) ∧ (W.cell? ⟨w.heap.size, 1, none⟩ = some (.slice sa sp.length sc) ∧ W.cell? ⟨w.heap.size, 5, none⟩ = some (.slice (some ⟨b, off, none⟩) is.length ic_)) ∧ W.cell? ⟨b, off + (i - 1) * 6, none⟩ = some (.string (bk yk))) ∧ Below wy.heap.size wy W) wy.drew := hS0
                 refine tkg 0 rfl (by intro w' hS'; obtain ⟨⟨⟨x0, x1, x2, x3, x4, x5⟩, ⟨x6, x7⟩, x8⟩, xb⟩ := hS'; go_simp <;> rfl) yS ?_
                 try simp only [pa, pb, pc, Act.put, pd, pe, pf]
                 refine tkg 1 rfl (by intro w' hS'; obtain ⟨⟨⟨x0, x1, x2, x3, x4, x5⟩, ⟨x6, x7⟩, x8⟩, xb⟩ := hS'; go_simp <;> rfl) yS ?_
                 try simp only [pa, pb, pc, Act.put, pd, pe, pf]
                 refine tkg 2 rfl (by intro w' hS'; obtain ⟨⟨⟨x0, x1, x2, x3, x4, x5⟩, ⟨x6, x7⟩, x8⟩, xb⟩ := hS'; go_simp <;> rfl) yS ?_
                 try simp only [pa, pb, pc, Act.put, pd, pe, pf]
                 refine tkg 3 rfl (by intro w' hS'; obtain ⟨⟨⟨x0, x1, x2, x3, x4, x5⟩, ⟨x6, x7⟩, x8⟩, xb⟩ := hS'; go_simp <;> rfl) yS ?_
                 try simp only [pa, pb, pc, Act.put, pd, pe, pf]
                 refine tkg 4 rfl (by intro w' hS'; obtain ⟨⟨⟨x0, x1, x2, x3, x4, x5⟩, ⟨x6, x7⟩, x8⟩, xb⟩ := hS'; go_simp <;> rfl) yS ?_
                 try simp only [pa, pb, pc, Act.put, pd, pe, pf]
                 refine tkg 5 rfl (by intro w' hS'; obtain ⟨⟨⟨x0, x1, x2, x3, x4, x5⟩, ⟨x6, x7⟩, x8⟩, xb⟩ := hS'; go_simp <;> rfl) yS ?_
                 try simp only [pa, pb, pc, Act.put, pd, pe, pf]
                 refine tkg 6 rfl (by intro w' hS'; obtain ⟨⟨⟨x0, x1, x2, x3, x4, x5⟩, ⟨x6, x7⟩, x8⟩, xb⟩ := hS'; go_simp <;> rfl) yS ?_
                 try simp only [pa, pb, pc, Act.put, pd, pe, pf]
                 refine wpAnyL_one 7 (by kernel_rfl) rfl (by kernel_rfl) ?_
                 intro K' hK'
                 go_simp
                 go_at_call 43
                 refine (kq _ yS).mono ?_
                 rintro e W1 ⟨rfl, hS1⟩
                 refine hK'.out _ _ (.inr hS1) ?_
                 clear hK' K'
                 try simp only [pa, pb, pc, Act.put, pd, pe, pf]
                 refine tkg 8 rfl (by intro w' hS'; obtain ⟨⟨⟨x0, x1, x2, x3, x4, x5⟩, ⟨x6, x7⟩, x8⟩, xb⟩ := hS'; go_simp <;> rfl) hS1 ?_
                 try simp only [pa, pb, pc, Act.put, pd, pe, pf]
                 refine tkg 9 rfl (by intro w' hS'; obtain ⟨⟨⟨x0, x1, x2, x3, x4, x5⟩, ⟨x6, x7⟩, x8⟩, xb⟩ := hS'; go_simp <;> rfl) hS1 ?_
                 try simp only [pa, pb, pc, Act.put, pd, pe, pf]
                 refine tkg 10 rfl (by intro w' hS'; obtain ⟨⟨⟨x0, x1, x2, x3, x4, x5⟩, ⟨x6, x7⟩, x8⟩, xb⟩ := hS'; go_simp <;> rfl) hS1 ?_
                 try simp only [pa, pb, pc, Act.put, pd, pe, pf]
                 refine tkg 11 rfl (by intro w' hS'; obtain ⟨⟨⟨x0, x1, x2, x3, x4, x5⟩, ⟨x6, x7⟩, x8⟩, xb⟩ := hS'; go_simp <;> rfl) hS1 ?_
                 try simp only [pa, pb, pc, Act.put, pd, pe, pf]
                 refine tkg 12 rfl (by intro w' hS'; obtain ⟨⟨⟨x0, x1, x2, x3, x4, x5⟩, ⟨x6, x7⟩, x8⟩, xb⟩ := hS'; go_simp <;> rfl) hS1 ?_
                 try simp only [pa, pb, pc, Act.put, pd, pe, pf]
                 refine tkg 13 rfl (by intro w' hS'; obtain ⟨⟨⟨x0, x1, x2, x3, x4, x5⟩, ⟨x6, x7⟩, x8⟩, xb⟩ := hS'; go_simp <;> rfl) hS1 ?_
                 try simp only [pa, pb, pc, Act.put, pd, pe, pf]
                 refine tkg 14 rfl (by intro w' hS'; obtain ⟨⟨⟨x0, x1, x2, x3, x4, x5⟩, ⟨x6, x7⟩, x8⟩, xb⟩ := hS'; go_simp <;> rfl) hS1 ?_
                 try simp only [pa, pb, pc, Act.put, pd, pe, pf]
                 refine wpAnyL_one 15 (by kernel_rfl) rfl (by kernel_rfl) ?_
                 intro K' hK'
                 go_simp
                 go_at_call 83
                 refine (kl _ hS1).mono ?_
                 rintro e W2 ⟨rfl, hS2⟩
                 refine hK'.out _ _ (.inr hS2) ?_
                 clear hK' K'
                 try simp only [pa, pb, pc, Act.put, pd, pe, pf]
                 refine tkg 16 rfl (by intro w' hS'; obtain ⟨⟨⟨x0, x1, x2, x3, x4, x5⟩, ⟨x6, x7⟩, x8⟩, xb⟩ := hS'; go_simp <;> rfl) hS2 ?_
                 try simp only [pa, pb, pc, Act.put, pd, pe, pf]
                 refine tkg 17 rfl (by intro w' hS'; obtain ⟨⟨⟨x0, x1, x2, x3, x4, x5⟩, ⟨x6, x7⟩, x8⟩, xb⟩ := hS'; go_simp <;> rfl) hS2 ?_
                 try simp only [pa, pb, pc, Act.put, pd, pe, pf]
                 refine tkg 18 rfl (by intro w' hS'; obtain ⟨⟨⟨x0, x1, x2, x3, x4, x5⟩, ⟨x6, x7⟩, x8⟩, xb⟩ := hS'; go_simp <;> rfl) hS2 ?_
                 try simp only [pa, pb, pc, Act.put, pd, pe, pf]
                 refine tkg 19 rfl (by intro w' hS'; obtain ⟨⟨⟨x0, x1, x2, x3, x4, x5⟩, ⟨x6, x7⟩, x8⟩, xb⟩ := hS'; go_simp <;> rfl) hS2 ?_
                 try simp only [pa, pb, pc, Act.put, pd, pe, pf]
                 refine tkg 20 rfl (by intro w' hS'; obtain ⟨⟨⟨x0, x1, x2, x3, x4, x5⟩, ⟨x6, x7⟩, x8⟩, xb⟩ := hS'; go_simp <;> rfl) hS2 ?_
                 try simp only [pa, pb, pc, Act.put, pd, pe, pf]
                 refine tkg 21 rfl (by intro w' hS'; obtain ⟨⟨⟨x0, x1, x2, x3, x4, x5⟩, ⟨x6, x7⟩, x8⟩, xb⟩ := hS'; go_simp <;> rfl) hS2 ?_
                 try simp only [pa, pb, pc, Act.put, pd, pe, pf]
                 refine tkg 22 rfl (by intro w' hS'; obtain ⟨⟨⟨x0, x1, x2, x3, x4, x5⟩, ⟨x6, x7⟩, x8⟩, xb⟩ := hS'; go_simp <;> rfl) hS2 ?_
                 try simp only [pa, pb, pc, Act.put, pd, pe, pf]
                 refine tkg 23 rfl (by intro w' hS'; obtain ⟨⟨⟨x0, x1, x2, x3, x4, x5⟩, ⟨x6, x7⟩, x8⟩, xb⟩ := hS'; go_simp <;> rfl) hS2 ?_
                 try simp only [pa, pb, pc, Act.put, pd, pe, pf]
                 refine tkg 24 rfl (by intro w' hS'; obtain ⟨⟨⟨x0, x1, x2, x3, x4, x5⟩, ⟨x6, x7⟩, x8⟩, xb⟩ := hS'; go_simp <;> rfl) hS2 ?_
                 try simp only [pa, pb, pc, Act.put, pd, pe, pf]
                 refine tkg 25 rfl (by intro w' hS'; obtain ⟨⟨⟨x0, x1, x2, x3, x4, x5⟩, ⟨x6, x7⟩, x8⟩, xb⟩ := hS'; go_simp <;> rfl) hS2 ?_
                 try simp only [pa, pb, pc, Act.put, pd, pe, pf]
                 refine tkg 26 rfl (by intro w' hS'; obtain ⟨⟨⟨x0, x1, x2, x3, x4, x5⟩, ⟨x6, x7⟩, x8⟩, xb⟩ := hS'; go_simp <;> rfl) hS2 ?_
                 try simp only [pa, pb, pc, Act.put, pd, pe, pf]
                 refine tkg 27 rfl (by intro w' hS'; obtain ⟨⟨⟨x0, x1, x2, x3, x4, x5⟩, ⟨x6, x7⟩, x8⟩, xb⟩ := hS'; go_simp <;> rfl) hS2 ?_
                 try simp only [pa, pb, pc, Act.put, pd, pe, pf]
                 refine wpAnyL_one 28 (by kernel_rfl) rfl (by kernel_rfl) ?_
                 intro K' hK'
                 go_simp
                 go_at_call 84
                 refine (kx _ hS2).mono ?_
                 rintro e W3 ⟨rfl, hS3⟩
                 refine hK'.out _ _ (.inr hS3) ?_
                 clear hK' K'
                 try simp only [pa, pb, pc, Act.put, pd, pe, pf]
                 refine tkg 29 rfl (by intro w' hS'; obtain ⟨⟨⟨x0, x1, x2, x3, x4, x5⟩, ⟨x6, x7⟩, x8⟩, xb⟩ := hS'; go_simp <;> rfl) hS3 ?_
                 try simp only [pa, pb, pc, Act.put, pd, pe, pf]
                 refine tkg 30 rfl (by intro w' hS'; obtain ⟨⟨⟨x0, x1, x2, x3, x4, x5⟩, ⟨x6, x7⟩, x8⟩, xb⟩ := hS'; go_simp <;> rfl) hS3 ?_
                 try simp only [pa, pb, pc, Act.put, pd, pe, pf]
                 refine tkg 31 rfl (by intro w' hS'; obtain ⟨⟨⟨x0, x1, x2, x3, x4, x5⟩, ⟨x6, x7⟩, x8⟩, xb⟩ := hS'; go_simp <;> rfl) hS3 ?_
                 try simp only [pa, pb, pc, Act.put, pd, pe, pf]
                 refine tkg 32 rfl (by intro w' hS'; obtain ⟨⟨⟨x0, x1, x2, x3, x4, x5⟩, ⟨x6, x7⟩, x8⟩, xb⟩ := hS'; go_simp <;> rfl) hS3 ?_
                 try simp only [pa, pb, pc, Act.put, pd, pe, pf]
                 refine tkg 33 rfl (by intro w' hS'; obtain ⟨⟨⟨x0, x1, x2, x3, x4, x5⟩, ⟨x6, x7⟩, x8⟩, xb⟩ := hS'; go_simp <;> rfl) hS3 ?_
                 try simp only [pa, pb, pc, Act.put, pd, pe, pf]
                 refine tkg 34 rfl (by intro w' hS'; obtain ⟨⟨⟨x0, x1, x2, x3, x4, x5⟩, ⟨x6, x7⟩, x8⟩, xb⟩ := hS'; go_simp <;> rfl) hS3 ?_
                 try simp only [pa, pb, pc, Act.put, pd, pe, pf]
                 refine tkg 35 rfl (by intro w' hS'; obtain ⟨⟨⟨x0, x1, x2, x3, x4, x5⟩, ⟨x6, x7⟩, x8⟩, xb⟩ := hS'; go_simp <;> rfl) hS3 ?_
                 try simp only [pa, pb, pc, Act.put, pd, pe, pf]
                 refine tkg 36 rfl (by intro w' hS'; obtain ⟨⟨⟨x0, x1, x2, x3, x4, x5⟩, ⟨x6, x7⟩, x8⟩, xb⟩ := hS'; go_simp <;> rfl) hS3 ?_
                 try simp only [pa, pb, pc, Act.put, pd, pe, pf]
                 refine tkg 37 rfl (by intro w' hS'; obtain ⟨⟨⟨x0, x1, x2, x3, x4, x5⟩, ⟨x6, x7⟩, x8⟩, xb⟩ := hS'; go_simp <;> rfl) hS3 ?_
                 try simp only [pa, pb, pc, Act.put, pd, pe, pf]
                 refine tkg 38 rfl (by intro w' hS'; obtain ⟨⟨⟨x0, x1, x2, x3, x4, x5⟩, ⟨x6, x7⟩, x8⟩, xb⟩ := hS'; go_simp <;> rfl) hS3 ?_
                 try simp only [pa, pb, pc, Act.put, pd, pe, pf]
                 refine tkg 39 rfl (by intro w' hS'; obtain ⟨⟨⟨x0, x1, x2, x3, x4, x5⟩, ⟨x6, x7⟩, x8⟩, xb⟩ := hS'; go_simp <;> rfl) hS3 ?_
                 try simp only [pa, pb, pc, Act.put, pd, pe, pf]
                 refine tkg 40 rfl (by intro w' hS'; obtain ⟨⟨⟨x0, x1, x2, x3, x4, x5⟩, ⟨x6, x7⟩, x8⟩, xb⟩ := hS'; go_simp <;> rfl) hS3 ?_
                 try simp only [pa, pb, pc, Act.put, pd, pe, pf]
                 refine tkg 41 rfl (by intro w' hS'; obtain ⟨⟨⟨x0, x1, x2, x3, x4, x5⟩, ⟨x6, x7⟩, x8⟩, xb⟩ := hS'; go_simp <;> rfl) hS3 ?_
                 try simp only [pa, pb, pc, Act.put, pd, pe, pf]
                 refine tkg 42 rfl (by intro w' hS'; obtain ⟨⟨⟨x0, x1, x2, x3, x4, x5⟩, ⟨x6, x7⟩, x8⟩, xb⟩ := hS'; go_simp <;> rfl) hS3 ?_
                 try simp only [pa, pb, pc, Act.put, pd, pe, pf]
                 refine tkg 43 rfl (by intro w' hS'; obtain ⟨⟨⟨x0, x1, x2, x3, x4, x5⟩, ⟨x6, x7⟩, x8⟩, xb⟩ := hS'; go_simp <;> rfl) hS3 ?_
                 try simp only [pa, pb, pc, Act.put, pd, pe, pf]
                 refine tkg 44 rfl (by intro w' hS'; obtain ⟨⟨⟨x0, x1, x2, x3, x4, x5⟩, ⟨x6, x7⟩, x8⟩, xb⟩ := hS'; go_simp <;> rfl) hS3 ?_
                 try simp only [pa, pb, pc, Act.put, pd, pe, pf]
                 refine tkg 45 rfl (by intro w' hS'; obtain ⟨⟨⟨x0, x1, x2, x3, x4, x5⟩, ⟨x6, x7⟩, x8⟩, xb⟩ := hS'; go_simp <;> rfl) hS3 ?_
                 try simp only [pa, pb, pc, Act.put, pd, pe, pf]
                 refine tkg 46 rfl (by intro w' hS'; obtain ⟨⟨⟨x0, x1, x2, x3, x4, x5⟩, ⟨x6, x7⟩, x8⟩, xb⟩ := hS'; go_simp <;> rfl) hS3 ?_
                 try simp only [pa, pb, pc, Act.put, pd, pe, pf]
                 refine wpAnyL_done (by kernel_rfl) (NoPanic.normal ?_) _
                 go_wp2
                 go_roundg (gk - 1)
                 case measure => omega
                 case rel => exact ⟨i + 1, by omega, by go_num, BY0.out _ hS3.2, HN⟩
                ·have E : Hid (B = false) := by show _ = _; rw [HP.out, HA, HLk.out]; simp [hcc]
                 have hcd : k ≤ yk := by grind
                 have hcd2 : decide (k ≤ yk) = true := decide_eq_true hcd
                 clear hi0 hcc HLk
                 have kq : ∀ W, (fun W => ((W.cell? ⟨yb, 0, none⟩ = some (.string (bk k)) ∧ W.cell? ⟨yb, 1, none⟩ = some (.int .i64 q1) ∧ W.cell? ⟨yb, 2, none⟩ = some (.int .u64 (q2 : Int)) ∧ W.cell? ⟨yb, 3, none⟩ = some (.int .i64 kd) ∧ W.cell? ⟨yb, 4, none⟩ = some (.int .u64 (tk : Int)) ∧ W.cell? ⟨yb, 5, none⟩ = some (.int .i64 tt)) ∧ (W.cell? ⟨w.heap.size, 1, none⟩ = some (.slice sa sp.length sc) ∧ W.cell? ⟨w.heap.size, 5, none⟩ = some (.slice (some ⟨b, off, none⟩) is.length ic_)) ∧ W.cell? ⟨b, off + (i - 1) * 6, none⟩ = some (.string (bk yk))) ∧ Below wy.heap.size wy W) W → Calls Tryz.prog 43 #[.agg #[.int .i64 q1, .int .u64 (q2 : Int)]] W fun e w' => e = .returned (.bool true) ∧ (fun W => ((W.cell? ⟨yb, 0, none⟩ = some (.string (bk k)) ∧ W.cell? ⟨yb, 1, none⟩ = some (.int .i64 q1) ∧ W.cell? ⟨yb, 2, none⟩ = some (.int .u64 (q2 : Int)) ∧ W.cell? ⟨yb, 3, none⟩ = some (.int .i64 kd) ∧ W.cell? ⟨yb, 4, none⟩ = some (.int .u64 (tk : Int)) ∧ W.cell? ⟨yb, 5, none⟩ = some (.int .i64 tt)) ∧ (W.cell? ⟨w.heap.size, 1, none⟩ = some (.slice sa sp.length sc) ∧ W.cell? ⟨w.heap.size, 5, none⟩ = some (.slice (some ⟨b, off, none⟩) is.length ic_)) ∧ W.cell? ⟨b, off + (i - 1) * 6, none⟩ = some (.string (bk yk))) ∧ Below wy.heap.size wy W) w' := fun W hW => by
                  refine (rid_of (q1, q2) W).mono ?_
                  rintro e w' ⟨rfl, hb'⟩
                  exact ⟨by rw [HID.out], cl w' (keep_step hW.2 (Nat.le_refl _) hb'), keep_step hW.2 (Nat.le_refl _) hb'⟩
                 have kl : ∀ W, (fun W => ((W.cell? ⟨yb, 0, none⟩ = some (.string (bk k)) ∧ W.cell? ⟨yb, 1, none⟩ = some (.int .i64 q1) ∧ W.cell? ⟨yb, 2, none⟩ = some (.int .u64 (q2 : Int)) ∧ W.cell? ⟨yb, 3, none⟩ = some (.int .i64 kd) ∧ W.cell? ⟨yb, 4, none⟩ = some (.int .u64 (tk : Int)) ∧ W.cell? ⟨yb, 5, none⟩ = some (.int .i64 tt)) ∧ (W.cell? ⟨w.heap.size, 1, none⟩ = some (.slice sa sp.length sc) ∧ W.cell? ⟨w.heap.size, 5, none⟩ = some (.slice (some ⟨b, off, none⟩) is.length ic_)) ∧ W.cell? ⟨b, off + (i - 1) * 6, none⟩ = some (.string (bk yk))) ∧ Below wy.heap.size wy W) W → Calls Tryz.prog 83 #[.int .i64 kd, .int .i64 tt] W fun e w' => e = .returned (.bool true) ∧ (fun W => ((W.cell? ⟨yb, 0, none⟩ = some (.string (bk k)) ∧ W.cell? ⟨yb, 1, none⟩ = some (.int .i64 q1) ∧ W.cell? ⟨yb, 2, none⟩ = some (.int .u64 (q2 : Int)) ∧ W.cell? ⟨yb, 3, none⟩ = some (.int .i64 kd) ∧ W.cell? ⟨yb, 4, none⟩ = some (.int .u64 (tk : Int)) ∧ W.cell? ⟨yb, 5, none⟩ = some (.int .i64 tt)) ∧ (W.cell? ⟨w.heap.size, 1, none⟩ = some (.slice sa sp.length sc) ∧ W.cell? ⟨w.heap.size, 5, none⟩ = some (.slice (some ⟨b, off, none⟩) is.length ic_)) ∧ W.cell? ⟨b, off + (i - 1) * 6, none⟩ = some (.string (bk yk))) ∧ Below wy.heap.size wy W) w' := fun W hW => by
                  refine (lasts_of kd tt W).mono ?_
                  rintro e w' ⟨rfl, hw'⟩
                  subst hw'
                  exact ⟨by rw [HLA.out], hW⟩
                 have kx : ∀ W, (fun W => ((W.cell? ⟨yb, 0, none⟩ = some (.string (bk k)) ∧ W.cell? ⟨yb, 1, none⟩ = some (.int .i64 q1) ∧ W.cell? ⟨yb, 2, none⟩ = some (.int .u64 (q2 : Int)) ∧ W.cell? ⟨yb, 3, none⟩ = some (.int .i64 kd) ∧ W.cell? ⟨yb, 4, none⟩ = some (.int .u64 (tk : Int)) ∧ W.cell? ⟨yb, 5, none⟩ = some (.int .i64 tt)) ∧ (W.cell? ⟨w.heap.size, 1, none⟩ = some (.slice sa sp.length sc) ∧ W.cell? ⟨w.heap.size, 5, none⟩ = some (.slice (some ⟨b, off, none⟩) is.length ic_)) ∧ W.cell? ⟨b, off + (i - 1) * 6, none⟩ = some (.string (bk yk))) ∧ Below wy.heap.size wy W) W → Calls Tryz.prog 84 #[.slice sa sp.length sc, .string (bk k)] W fun e w' => e = .returned (.bool true) ∧ (fun W => ((W.cell? ⟨yb, 0, none⟩ = some (.string (bk k)) ∧ W.cell? ⟨yb, 1, none⟩ = some (.int .i64 q1) ∧ W.cell? ⟨yb, 2, none⟩ = some (.int .u64 (q2 : Int)) ∧ W.cell? ⟨yb, 3, none⟩ = some (.int .i64 kd) ∧ W.cell? ⟨yb, 4, none⟩ = some (.int .u64 (tk : Int)) ∧ W.cell? ⟨yb, 5, none⟩ = some (.int .i64 tt)) ∧ (W.cell? ⟨w.heap.size, 1, none⟩ = some (.slice sa sp.length sc) ∧ W.cell? ⟨w.heap.size, 5, none⟩ = some (.slice (some ⟨b, off, none⟩) is.length ic_)) ∧ W.cell? ⟨b, off + (i - 1) * 6, none⟩ = some (.string (bk yk))) ∧ Below wy.heap.size wy W) w' := fun W hW => by
                  refine (ki.out k W (BYW.out _ hW.2)).mono ?_
                  rintro e w' ⟨rfl, hb'⟩
                  exact ⟨by rw [HIN.out], cl w' (keep_step hW.2 (Nat.le_refl _) hb'), keep_step hW.2 (Nat.le_refl _) hb'⟩
                 have hS0 : (fun W => ((W.cell? ⟨yb, 0, none⟩ = some (.string (bk k)) ∧ W.cell? ⟨yb, 1, none⟩ = some (.int .i64 q1) ∧ W.cell? ⟨yb, 2, none⟩ = some (.int .u64 (q2 : Int)) ∧ W.cell? ⟨yb, 3, none⟩ = some (.int .i64 kd) ∧ W.cell? ⟨yb, 4, none⟩ = some (.int .u64 (tk : Int)) ∧ W.cell? ⟨yb, 5, none⟩ = some (.int .i64 tt)) ∧ (W.cell? ⟨w.heap.size, 1, none⟩ = some (.slice sa sp.length sc) ∧ W.cell? ⟨w.heap.size, 5, none⟩ = some (.slice (some ⟨b, off, none⟩) is.length ic_)) ∧ W.cell? ⟨b, off + (i - 1) * 6, none⟩ = some (.string (bk yk))) ∧ Below wy.heap.size wy W) wy.drew := ⟨cl _ (Below.refl _ _).drew, (Below.refl _ _).drew⟩
                 clear HP HA cl hxH ki kn HC
                 go_wp2
                 refine wp_region_L (fun W => ((W.cell? ⟨yb, 0, none⟩ = some (.string (bk k)) ∧ W.cell? ⟨yb, 1, none⟩ = some (.int .i64 q1) ∧ W.cell? ⟨yb, 2, none⟩ = some (.int .u64 (q2 : Int)) ∧ W.cell? ⟨yb, 3, none⟩ = some (.int .i64 kd) ∧ W.cell? ⟨yb, 4, none⟩ = some (.int .u64 (tk : Int)) ∧ W.cell? ⟨yb, 5, none⟩ = some (.int .i64 tt)) ∧ (W.cell? ⟨w.heap.size, 1, none⟩ = some (.slice sa sp.length sc) ∧ W.cell? ⟨w.heap.size, 5, none⟩ = some (.slice (some ⟨b, off, none⟩) is.length ic_)) ∧ W.cell? ⟨b, off + (i - 1) * 6, none⟩ = some (.string (bk yk))) ∧ Below wy.heap.size wy W) [] (by kernel_rfl) ?_
                 have yS : (fun W => ((W.cell? ⟨yb, 0, none⟩ = some (.string (bk k)) ∧ W.cell? ⟨yb, 1, none⟩ = some (.int .i64 q1) ∧ W.cell? ⟨yb, 2, none⟩ = some (.int .u64 (q2 : Int)) ∧ W.cell? ⟨yb, 3, none⟩ = some (.int .i64 kd) ∧ W.cell? ⟨yb, 4, none⟩ = some (.int .u64 (tk : Int)) ∧ W.cell? ⟨yb, 5, none⟩ = some (.int .i64 tt)) ∧ (W.cell? ⟨w.heap.size, 1, none⟩ = some (.slice sa sp.length sc) ∧ W.cell? ⟨w.heap.size, 5, none⟩ = some (.slice (some ⟨b, off, none⟩) is.length ic_)) ∧ W.cell? ⟨b, off + (i - 1) * 6, none⟩ = some (.string (bk yk))) ∧ Below wy.heap.size wy W) wy.drew := hS0
                 refine tkg 0 rfl (by intro w' hS'; obtain ⟨⟨⟨x0, x1, x2, x3, x4, x5⟩, ⟨x6, x7⟩, x8⟩, xb⟩ := hS'; go_simp <;> rfl) yS ?_
                 try simp only [pa, pb, pc, Act.put, pd, pe, pf]
                 refine tkg 1 rfl (by intro w' hS'; obtain ⟨⟨⟨x0, x1, x2, x3, x4, x5⟩, ⟨x6, x7⟩, x8⟩, xb⟩ := hS'; go_simp <;> rfl) yS ?_
                 try simp only [pa, pb, pc, Act.put, pd, pe, pf]
                 refine tkg 2 rfl (by intro w' hS'; obtain ⟨⟨⟨x0, x1, x2, x3, x4, x5⟩, ⟨x6, x7⟩, x8⟩, xb⟩ := hS'; go_simp <;> rfl) yS ?_
                 try simp only [pa, pb, pc, Act.put, pd, pe, pf]
                 refine tkg 3 rfl (by intro w' hS'; obtain ⟨⟨⟨x0, x1, x2, x3, x4, x5⟩, ⟨x6, x7⟩, x8⟩, xb⟩ := hS'; go_simp <;> rfl) yS ?_
                 try simp only [pa, pb, pc, Act.put, pd, pe, pf]
                 refine tkg 4 rfl (by intro w' hS'; obtain ⟨⟨⟨x0, x1, x2, x3, x4, x5⟩, ⟨x6, x7⟩, x8⟩, xb⟩ := hS'; go_simp <;> rfl) yS ?_
                 try simp only [pa, pb, pc, Act.put, pd, pe, pf]
                 refine tkg 5 rfl (by intro w' hS'; obtain ⟨⟨⟨x0, x1, x2, x3, x4, x5⟩, ⟨x6, x7⟩, x8⟩, xb⟩ := hS'; go_simp <;> rfl) yS ?_
                 try simp only [pa, pb, pc, Act.put, pd, pe, pf]
                 refine tkg 6 rfl (by intro w' hS'; obtain ⟨⟨⟨x0, x1, x2, x3, x4, x5⟩, ⟨x6, x7⟩, x8⟩, xb⟩ := hS'; go_simp <;> rfl) yS ?_
                 try simp only [pa, pb, pc, Act.put, pd, pe, pf]
                 refine wpAnyL_one 7 (by kernel_rfl) rfl (by kernel_rfl) ?_
                 intro K' hK'
                 go_simp
                 go_at_call 43
                 refine (kq _ yS).mono ?_
                 rintro e W1 ⟨rfl, hS1⟩
                 refine hK'.out _ _ (.inr hS1) ?_
                 clear hK' K'
                 try simp only [pa, pb, pc, Act.put, pd, pe, pf]
                 refine tkg 8 rfl (by intro w' hS'; obtain ⟨⟨⟨x0, x1, x2, x3, x4, x5⟩, ⟨x6, x7⟩, x8⟩, xb⟩ := hS'; go_simp <;> rfl) hS1 ?_
                 try simp only [pa, pb, pc, Act.put, pd, pe, pf]
                 refine tkg 9 rfl (by intro w' hS'; obtain ⟨⟨⟨x0, x1, x2, x3, x4, x5⟩, ⟨x6, x7⟩, x8⟩, xb⟩ := hS'; go_simp <;> rfl) hS1 ?_
                 try simp only [pa, pb, pc, Act.put, pd, pe, pf]
                 refine tkg 10 rfl (by intro w' hS'; obtain ⟨⟨⟨x0, x1, x2, x3, x4, x5⟩, ⟨x6, x7⟩, x8⟩, xb⟩ := hS'; go_simp <;> rfl) hS1 ?_
                 try simp only [pa, pb, pc, Act.put, pd, pe, pf]
                 refine tkg 11 rfl (by intro w' hS'; obtain ⟨⟨⟨x0, x1, x2, x3, x4, x5⟩, ⟨x6, x7⟩, x8⟩, xb⟩ := hS'; go_simp <;> rfl) hS1 ?_
                 try simp only [pa, pb, pc, Act.put, pd, pe, pf]
                 refine tkg 12 rfl (by intro w' hS'; obtain ⟨⟨⟨x0, x1, x2, x3, x4, x5⟩, ⟨x6, x7⟩, x8⟩, xb⟩ := hS'; go_simp <;> rfl) hS1 ?_
                 try simp only [pa, pb, pc, Act.put, pd, pe, pf]
                 refine tkg 13 rfl (by intro w' hS'; obtain ⟨⟨⟨x0, x1, x2, x3, x4, x5⟩, ⟨x6, x7⟩, x8⟩, xb⟩ := hS'; go_simp <;> rfl) hS1 ?_
                 try simp only [pa, pb, pc, Act.put, pd, pe, pf]
                 refine tkg 14 rfl (by intro w' hS'; obtain ⟨⟨⟨x0, x1, x2, x3, x4, x5⟩, ⟨x6, x7⟩, x8⟩, xb⟩ := hS'; go_simp <;> rfl) hS1 ?_
                 try simp only [pa, pb, pc, Act.put, pd, pe, pf]
                 refine wpAnyL_one 15 (by kernel_rfl) rfl (by kernel_rfl) ?_
                 intro K' hK'
                 go_simp
                 go_at_call 83
                 refine (kl _ hS1).mono ?_
                 rintro e W2 ⟨rfl, hS2⟩
                 refine hK'.out _ _ (.inr hS2) ?_
                 clear hK' K'
                 try simp only [pa, pb, pc, Act.put, pd, pe, pf]
                 refine tkg 16 rfl (by intro w' hS'; obtain ⟨⟨⟨x0, x1, x2, x3, x4, x5⟩, ⟨x6, x7⟩, x8⟩, xb⟩ := hS'; go_simp <;> rfl) hS2 ?_
                 try simp only [pa, pb, pc, Act.put, pd, pe, pf]
                 refine tkg 17 rfl (by intro w' hS'; obtain ⟨⟨⟨x0, x1, x2, x3, x4, x5⟩, ⟨x6, x7⟩, x8⟩, xb⟩ := hS'; go_simp <;> rfl) hS2 ?_
                 try simp only [pa, pb, pc, Act.put, pd, pe, pf]
                 refine tkg 18 rfl (by intro w' hS'; obtain ⟨⟨⟨x0, x1, x2, x3, x4, x5⟩, ⟨x6, x7⟩, x8⟩, xb⟩ := hS'; go_simp <;> rfl) hS2 ?_
                 try simp only [pa, pb, pc, Act.put, pd, pe, pf]
                 refine tkg 19 rfl (by intro w' hS'; obtain ⟨⟨⟨x0, x1, x2, x3, x4, x5⟩, ⟨x6, x7⟩, x8⟩, xb⟩ := hS'; go_simp <;> rfl) hS2 ?_
                 try simp only [pa, pb, pc, Act.put, pd, pe, pf]
                 refine tkg 20 rfl (by intro w' hS'; obtain ⟨⟨⟨x0, x1, x2, x3, x4, x5⟩, ⟨x6, x7⟩, x8⟩, xb⟩ := hS'; go_simp <;> rfl) hS2 ?_
                 try simp only [pa, pb, pc, Act.put, pd, pe, pf]
                 refine tkg 21 rfl (by intro w' hS'; obtain ⟨⟨⟨x0, x1, x2, x3, x4, x5⟩, ⟨x6, x7⟩, x8⟩, xb⟩ := hS'; go_simp <;> rfl) hS2 ?_
                 try simp only [pa, pb, pc, Act.put, pd, pe, pf]
                 refine tkg 22 rfl (by intro w' hS'; obtain ⟨⟨⟨x0, x1, x2, x3, x4, x5⟩, ⟨x6, x7⟩, x8⟩, xb⟩ := hS'; go_simp <;> rfl) hS2 ?_
                 try simp only [pa, pb, pc, Act.put, pd, pe, pf]
                 refine tkg 23 rfl (by intro w' hS'; obtain ⟨⟨⟨x0, x1, x2, x3, x4, x5⟩, ⟨x6, x7⟩, x8⟩, xb⟩ := hS'; go_simp <;> rfl) hS2 ?_
                 try simp only [pa, pb, pc, Act.put, pd, pe, pf]
                 refine tkg 24 rfl (by intro w' hS'; obtain ⟨⟨⟨x0, x1, x2, x3, x4, x5⟩, ⟨x6, x7⟩, x8⟩, xb⟩ := hS'; go_simp <;> rfl) hS2 ?_
                 try simp only [pa, pb, pc, Act.put, pd, pe, pf]
                 refine tkg 25 rfl (by intro w' hS'; obtain ⟨⟨⟨x0, x1, x2, x3, x4, x5⟩, ⟨x6, x7⟩, x8⟩, xb⟩ := hS'; go_simp <;> rfl) hS2 ?_
                 try simp only [pa, pb, pc, Act.put, pd, pe, pf]
                 refine tkg 26 rfl (by intro w' hS'; obtain ⟨⟨⟨x0, x1, x2, x3, x4, x5⟩, ⟨x6, x7⟩, x8⟩, xb⟩ := hS'; go_simp <;> rfl) hS2 ?_
                 try simp only [pa, pb, pc, Act.put, pd, pe, pf]
                 refine tkg 27 rfl (by intro w' hS'; obtain ⟨⟨⟨x0, x1, x2, x3, x4, x5⟩, ⟨x6, x7⟩, x8⟩, xb⟩ := hS'; go_simp <;> rfl) hS2 ?_
                 try simp only [pa, pb, pc, Act.put, pd, pe, pf]
                 refine wpAnyL_one 28 (by kernel_rfl) rfl (by kernel_rfl) ?_
                 intro K' hK'
                 go_simp
                 go_at_call 84
                 refine (kx _ hS2).mono ?_
                 rintro e W3 ⟨rfl, hS3⟩
                 refine hK'.out _ _ (.inr hS3) ?_
                 clear hK' K'
                 try simp only [pa, pb, pc, Act.put, pd, pe, pf]
                 refine tkg 29 rfl (by intro w' hS'; obtain ⟨⟨⟨x0, x1, x2, x3, x4, x5⟩, ⟨x6, x7⟩, x8⟩, xb⟩ := hS'; go_simp <;> rfl) hS3 ?_
                 try simp only [pa, pb, pc, Act.put, pd, pe, pf]
                 refine tkg 30 rfl (by intro w' hS'; obtain ⟨⟨⟨x0, x1, x2, x3, x4, x5⟩, ⟨x6, x7⟩, x8⟩, xb⟩ := hS'; go_simp <;> rfl) hS3 ?_
                 try simp only [pa, pb, pc, Act.put, pd, pe, pf]
                 refine tkg 31 rfl (by intro w' hS'; obtain ⟨⟨⟨x0, x1, x2, x3, x4, x5⟩, ⟨x6, x7⟩, x8⟩, xb⟩ := hS'; go_simp <;> rfl) hS3 ?_
                 try simp only [pa, pb, pc, Act.put, pd, pe, pf]
                 refine tkg 32 rfl (by intro w' hS'; obtain ⟨⟨⟨x0, x1, x2, x3, x4, x5⟩, ⟨x6, x7⟩, x8⟩, xb⟩ := hS'; go_simp <;> rfl) hS3 ?_
                 try simp only [pa, pb, pc, Act.put, pd, pe, pf]
                 refine tkg 33 rfl (by intro w' hS'; obtain ⟨⟨⟨x0, x1, x2, x3, x4, x5⟩, ⟨x6, x7⟩, x8⟩, xb⟩ := hS'; go_simp <;> rfl) hS3 ?_
                 try simp only [pa, pb, pc, Act.put, pd, pe, pf]
                 refine tkg 34 rfl (by intro w' hS'; obtain ⟨⟨⟨x0, x1, x2, x3, x4, x5⟩, ⟨x6, x7⟩, x8⟩, xb⟩ := hS'; go_simp <;> rfl) hS3 ?_
                 try simp only [pa, pb, pc, Act.put, pd, pe, pf]
                 refine tkg 35 rfl (by intro w' hS'; obtain ⟨⟨⟨x0, x1, x2, x3, x4, x5⟩, ⟨x6, x7⟩, x8⟩, xb⟩ := hS'; go_simp <;> rfl) hS3 ?_
                 try simp only [pa, pb, pc, Act.put, pd, pe, pf]
                 refine tkg 36 rfl (by intro w' hS'; obtain ⟨⟨⟨x0, x1, x2, x3, x4, x5⟩, ⟨x6, x7⟩, x8⟩, xb⟩ := hS'; go_simp <;> rfl) hS3 ?_
                 try simp only [pa, pb, pc, Act.put, pd, pe, pf]
                 refine tkg 37 rfl (by intro w' hS'; obtain ⟨⟨⟨x0, x1, x2, x3, x4, x5⟩, ⟨x6, x7⟩, x8⟩, xb⟩ := hS'; go_simp <;> rfl) hS3 ?_
                 try simp only [pa, pb, pc, Act.put, pd, pe, pf]
                 refine tkg 38 rfl (by intro w' hS'; obtain ⟨⟨⟨x0, x1, x2, x3, x4, x5⟩, ⟨x6, x7⟩, x8⟩, xb⟩ := hS'; go_simp <;> rfl) hS3 ?_
                 try simp only [pa, pb, pc, Act.put, pd, pe, pf]
                 refine tkg 39 rfl (by intro w' hS'; obtain ⟨⟨⟨x0, x1, x2, x3, x4, x5⟩, ⟨x6, x7⟩, x8⟩, xb⟩ := hS'; go_simp <;> rfl) hS3 ?_
                 try simp only [pa, pb, pc, Act.put, pd, pe, pf]
                 refine tkg 40 rfl (by intro w' hS'; obtain ⟨⟨⟨x0, x1, x2, x3, x4, x5⟩, ⟨x6, x7⟩, x8⟩, xb⟩ := hS'; go_simp <;> rfl) hS3 ?_
                 try simp only [pa, pb, pc, Act.put, pd, pe, pf]
                 refine tkg 41 rfl (by intro w' hS'; obtain ⟨⟨⟨x0, x1, x2, x3, x4, x5⟩, ⟨x6, x7⟩, x8⟩, xb⟩ := hS'; go_simp <;> rfl) hS3 ?_
                 try simp only [pa, pb, pc, Act.put, pd, pe, pf]
                 refine tkg 42 rfl (by intro w' hS'; obtain ⟨⟨⟨x0, x1, x2, x3, x4, x5⟩, ⟨x6, x7⟩, x8⟩, xb⟩ := hS'; go_simp <;> rfl) hS3 ?_
                 try simp only [pa, pb, pc, Act.put, pd, pe, pf]
                 refine tkg 43 rfl (by intro w' hS'; obtain ⟨⟨⟨x0, x1, x2, x3, x4, x5⟩, ⟨x6, x7⟩, x8⟩, xb⟩ := hS'; go_simp <;> rfl) hS3 ?_
                 try simp only [pa, pb, pc, Act.put, pd, pe, pf]
                 refine tkg 44 rfl (by intro w' hS'; obtain ⟨⟨⟨x0, x1, x2, x3, x4, x5⟩, ⟨x6, x7⟩, x8⟩, xb⟩ := hS'; go_simp <;> rfl) hS3 ?_
                 try simp only [pa, pb, pc, Act.put, pd, pe, pf]
                 refine tkg 45 rfl (by intro w' hS'; obtain ⟨⟨⟨x0, x1, x2, x3, x4, x5⟩, ⟨x6, x7⟩, x8⟩, xb⟩ := hS'; go_simp <;> rfl) hS3 ?_
                 try simp only [pa, pb, pc, Act.put, pd, pe, pf]
                 refine tkg 46 rfl (by intro w' hS'; obtain ⟨⟨⟨x0, x1, x2, x3, x4, x5⟩, ⟨x6, x7⟩, x8⟩, xb⟩ := hS'; go_simp <;> rfl) hS3 ?_
                 try simp only [pa, pb, pc, Act.put, pd, pe, pf]
                 refine wpAnyL_done (by kernel_rfl) (NoPanic.normal ?_) _
                 go_wp2
                 go_ret
                 exact ⟨by rw [E.out]; rfl, BYW.out _ hS3.2⟩
          ·have hlti : ¬ (i : Int) < (is.length : Int) := by omega
           have E : Hid (B = true) := by show _ = _; rw [HP.out, walk_end (by omega)]
           clear HP
           go_wp2
           go_ret
           exact ⟨by rw [E.out]; rfl, HW.out _ hb⟩
        ·have hni : (1024 : Int) < (hs_.length : Int) + (ms.length : Int) + (is.length : Int) := by omega
         have hnd : decide ((1024 : Int) < (hs_.length : Int) + (ms.length : Int) + (is.length : Int)) = true := decide_eq_true hni
         have E : Hid (B = false) := by show _ = _; rw [HB2.out, decide_eq_false hn]; rfl
         clear HB2 hn ki
         go_wp2
         go_ret
         exact ⟨by rw [E.out]; rfl, HW.out _ hb1⟩
end Go.Proofs.YtfpbgfmnjpamlaaGreat

