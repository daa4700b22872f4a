import Derived.Test.YtglbjimpaoikfaaHx48
import Derived.Test.YtglbjimpaoikfaaHx22
import Derived.Test.YtglbjimpaoikfaaHx33
import Derived.Test.YtglbjimpaoikfaaHx01
/- The law TxnChecks answers true. -/
namespace Go.Proofs.Ytglbjimpaoikfaa
open Go.RowKit LeaseMath
set_option maxRecDepth 100000
set_option linter.unusedSimpArgs false
set_option linter.unusedVariables false

theorem wanted_none {o : Oper} {y : Nat → Option Bool} (h : o.guard = none) : Region.wanted o y = true := by
 unfold Region.wanted
 rw [h]
theorem ask_len (x : Tx) : (askM x).length ≤ x.groups.length := by
 unfold askM
 split
 ·exact List.length_filter_le _ _
 ·simp
theorem tell_len (x : Tx) : (tellM x).length ≤ x.groups.length := by
 unfold tellM
 split
 ·exact List.length_filter_le _ _
 ·simp
theorem light_facts {x : Tx} (h : lightX x = true) : x.keys.length ≤ 40 ∧ x.groups.length ≤ 40 ∧ x.yes.length ≤ 40 ∧ x.done.length ≤ 40 := by
 unfold lightX at h
 simp only [Bool.and_eq_true, decide_eq_true_eq] at h
 exact ⟨h.1.1.1, h.1.1.2, h.1.2, h.2⟩
set_option maxHeartbeats 16000000 in
theorem checks_law (z : Xz) (w : World) (hR : XR w z) (gk : z.t.keys.length ≤ 140737488355328) (g1 : z.t.groups.length ≤ 140737488355328) (g2 : z.t.yes.length ≤ 140737488355328) (g3 : z.t.done.length ≤ 140737488355328) : Calls Try.prog 3 #[xv z] w fun e w' => e = .returned (.bool true) ∧ Below w.heap.size w w' := by
 obtain ⟨q1, q2, q3⟩ := x_box w z
 obtain ⟨w0, hw0⟩ : ∃ W, w.alloc (xc z) = W := ⟨_, rfl⟩
 rw [hw0] at q1 q2 q3
 have k0 := light_of z w0 gk g1 g2 g3
 have HL : Hid (lightX z.t = true → _) := fun h => light_facts h
 have HA : Hid (∀ W, Below (w.heap.size + 1) w0 W → Below w.heap.size w W ∧ W.heap[w.heap.size]? = some (xc z)) := fun W hW => ⟨q3.trans (hW.mono (by omega)), (hW.block w.heap.size (by omega)).trans q2⟩
 have hn : Hid (w.heap.size + 1 ≤ w0.heap.size) := by show _ ≤ _; omega
 have hb0 : Below (w.heap.size + 1) w0 w0 := Below.refl _ _
 generalize hlx : lightX z.t = lx at *
 cases lx with
 | false =>
  clear HL hlx gk g1 g2 g3 hR
  obtain ⟨⟨⟨i1, i2⟩, kd, ks, tk, tt, gs, st, ys, ds, cd⟩, ⟨ka, kc⟩, ⟨ga, gc⟩, ⟨ya, yc⟩, ⟨da, dc⟩⟩ := z
  dsimp only [xv, xc] at *
  obtain ⟨c0, c1, c2, c3, c4, c5, c6, c7, c8, c9, c10⟩ := cells11 q2
  clear q1 q2 q3
  go_enter Try.func3, Try.ntmps3
  go_wp2_with fail
  refine k0.mono ?_
  rintro e w1 ⟨rfl, hbc⟩
  have hb1 := keep_step hb0 hn.out hbc
  have k1 := awake_of w1
  clear k0 hbc
  go_wp2_with fail
  refine k1.mono ?_
  rintro e w2 ⟨rfl, hbc⟩
  go_wp2
  go_ret
  exact ⟨rfl, (HA.out _ (keep_step hb1 hn.out hbc)).1⟩
 | true =>
  obtain ⟨gk', g1', g2', g3'⟩ := HL.out rfl
  have A1 : Hid (∀ W, Below w.heap.size w W → _) := fun W hW => reply_of z W (hR.below hW) (by omega) (by omega) (by omega) (by omega)
  have A2 : Hid (∀ W, Below w.heap.size w W → _) := fun W hW => rreply_of z W (hR.below hW) (by omega) (by omega) (by omega) (by omega)
  have A3 : Hid (∀ W, Below w.heap.size w W → _) := fun W hW => xcheck_of z W (hR.below hW) (by omega) (by omega) (by omega) (by omega)
  have A4 : Hid (∀ W, Below w.heap.size w W → _) := fun W hW => rmay_of z W (hR.below hW) (by omega) (by omega) (by omega) (by omega)
  have A5 : Hid (∀ W, Below w.heap.size w W → _) := fun W hW => ask_of z W (hR.below hW) (by omega) (by omega) (by omega) (by omega)
  have A6 : Hid (∀ W, Below w.heap.size w W → _) := fun W hW => rask_of z W (hR.below hW) (by omega) (by omega) (by omega) (by omega)
  have A7 : Hid (∀ W, Below w.heap.size w W → _) := fun W hW => tell_of z W (hR.below hW) (by omega) (by omega) (by omega) (by omega)
  have A8 : Hid (∀ W, Below w.heap.size w W → _) := fun W hW => rtell_of z W (hR.below hW) (by omega) (by omega) (by omega) (by omega)
  have A9 : Hid (∀ W, Below w.heap.size w W → _) := fun W hW => pcallv_of z W (hR.below hW).1 (by omega)
  have AA : Hid (∀ W, Below w.heap.size w W → _) := fun W hW => rcallv_of z W
  have AB : Hid (∀ (a : Sa) W, Rd kyE W (.slice a.1 z.t.keys.length a.2) z.t.keys → Below w.heap.size w W → _) := fun a W ha hW => sameCall_of (callM z.t) a z.k W ha (hR.below hW).1 (by show z.t.keys.length ≤ _; omega)
  have AC : Hid (∀ W, Below w.heap.size w W → _) := fun W hW => xsame_of z.t z.k z.g z.y z.d z.k z.g z.y z.d W (hR.below hW) (hR.below hW) (by omega) (by omega) (by omega) (by omega)
  have AD : Hid (∀ W, Below w.heap.size w W → _) := fun W hW => awake_of W
  have AE : Hid (∀ (u v : Value) W, Rd intE W u (askM z.t) → Rd intE W v (askM z.t) → _) := fun u v W h1 h2 => intsS_of (askM z.t) u v W h1 h2 (by have := ask_len z.t; omega)
  have AF : Hid (∀ (u v : Value) W, Rd intE W u (tellM z.t) → Rd intE W v (tellM z.t) → _) := fun u v W h1 h2 => intsS_of (tellM z.t) u v W h1 h2 (by have := tell_len z.t; omega)
  have AG : Hid (∀ W, _) := fun W => sameReply_of (replyM z.t).1 (replyM z.t).2.1 W
  have hB : ((if okX z.t = true then (0 : Int) else 1) == 0) = okX z.t := by cases okX z.t <;> rfl
  generalize askM z.t = AL at *
  generalize tellM z.t = TL at *
  generalize (if okX z.t = true then (0 : Int) else 1) = BI at *
  generalize okX z.t = b at *
  generalize replyM z.t = P at *
  obtain ⟨pc, pt, pb⟩ := P
  have hbb : (b != b) = false := by simp
  have hpp : (pb != pb) = false := by simp
  clear HL hlx gk g1 g2 g3 gk' g1' g2' g3'
  have HRZ : Hid (XR w z) := hR
  clear hR HRZ
  obtain ⟨⟨⟨i1, i2⟩, kd, ks, tk, tt, gs, st, ys, ds, cd⟩, ⟨ka, kc⟩, ⟨ga, gc⟩, ⟨ya, yc⟩, ⟨da, dc⟩⟩ := z
  dsimp only [xv, xc, rpv] at *
  obtain ⟨c0, c1, c2, c3, c4, c5, c6, c7, c8, c9, c10⟩ := cells11 q2
  clear q1 q2 q3
  go_enter Try.func3, Try.ntmps3
  go_wp2_with fail
  refine k0.mono ?_
  rintro e w1 ⟨rfl, hbc⟩
  have hb1 := keep_step hb0 hn.out hbc
  obtain ⟨b1, X1⟩ := HA.out _ hb1
  obtain ⟨c0, c1, c2, c3, c4, c5, c6, c7, c8, c9, c10⟩ := cells11 X1
  have k1 := A1.out w1 b1
  clear k0 hbc hb0 X1 b1 A1
  go_wp2_with fail
  refine k1.mono ?_
  rintro e w2 ⟨rfl, hbc⟩
  have hb2 := keep_step hb1 hn.out hbc
  have hn2 : w.heap.size + 1 ≤ w2.heap.size := Nat.le_trans hn.out hb2.size
  obtain ⟨s2, r2, p2⟩ := one_box w2 (.cells #[.int .i64 pc, .int .u64 (pt : Int), .slice none 0 0] 34)
  have hbv2 := keep_step hb2 hn.out p2
  obtain ⟨b2, X2⟩ := HA.out _ hbv2
  obtain ⟨c0, c1, c2, c3, c4, c5, c6, c7, c8, c9, c10⟩ := cells11 X2
  have k2 := A2.out _ b2
  have HV2 : Hid (∀ W, Below (w2.alloc (.cells #[.int .i64 pc, .int .u64 (pt : Int), .slice none 0 0] 34)).heap.size (w2.alloc (.cells #[.int .i64 pc, .int .u64 (pt : Int), .slice none 0 0] 34)) W → Below (w.heap.size + 1) w0 W ∧ w2.heap.size < W.heap.size ∧ W.heap[w2.heap.size]? = some (.cells #[.int .i64 pc, .int .u64 (pt : Int), .slice none 0 0] 34 (0, 0))) := fun W hW => ⟨keep_step hbv2 hn.out hW, by have := hW.size; omega, (hW.block w2.heap.size (by omega)).trans r2⟩
  clear k1 hbc hb1 hb2 hn2 s2 r2 p2 hbv2 b2 X2 A2
  go_wp2_with fail
  refine k2.mono ?_
  rintro e w3 ⟨rfl, hbc⟩
  obtain ⟨hb3, hn3, r3⟩ := HV2.out w3 hbc
  obtain ⟨s4, r4, p4⟩ := one_box w3 (.cells #[.int .i64 pc, .int .u64 (pt : Int), .slice none 0 0] 34)
  have hb4 := keep_step hb3 hn.out p4
  have r3' := (p4.block w2.heap.size hn3).trans r3
  obtain ⟨wd, hwd⟩ : ∃ W, (w3.alloc (.cells #[.int .i64 pc, .int .u64 (pt : Int), .slice none 0 0] 34)).drew = W := ⟨_, rfl⟩
  have hb5 : Below (w.heap.size + 1) w0 wd := by rw [← hwd]; exact hb4.drew
  have t3 : wd.heap[w2.heap.size]? = some (.cells #[.int .i64 pc, .int .u64 (pt : Int), .slice none 0 0] 34 (0, 0)) := by rw [← hwd]; exact r3'
  have t4 : wd.heap[w3.heap.size]? = some (.cells #[.int .i64 pc, .int .u64 (pt : Int), .slice none 0 0] 34 (0, 0)) := by rw [← hwd]; exact r4
  obtain ⟨-, t0⟩ := HA.out _ hb5
  have HB : Hid (∀ W, Below wd.heap.size wd W → Below w.heap.size w W) := fun W hW => (HA.out _ (keep_step hb5 hn.out hW)).1
  have cl : Hid (∀ W, Below wd.heap.size wd W → (W.cell? ⟨w.heap.size, 0, none⟩ = some (.int .i64 i1) ∧ W.cell? ⟨w.heap.size, 1, none⟩ = some (.int .u64 (i2 : Int)) ∧ W.cell? ⟨w.heap.size, 2, none⟩ = some (.int .i64 kd) ∧ W.cell? ⟨w.heap.size, 3, none⟩ = some (.slice ka ks.length kc) ∧ W.cell? ⟨w.heap.size, 4, none⟩ = some (.int .u64 (tk : Int)) ∧ W.cell? ⟨w.heap.size, 5, none⟩ = some (.int .i64 tt) ∧ W.cell? ⟨w.heap.size, 6, none⟩ = some (.slice ga gs.length gc) ∧ W.cell? ⟨w.heap.size, 7, none⟩ = some (.int .i64 st) ∧ W.cell? ⟨w.heap.size, 8, none⟩ = some (.slice ya ys.length yc) ∧ W.cell? ⟨w.heap.size, 9, none⟩ = some (.slice da ds.length dc) ∧ W.cell? ⟨w.heap.size, 10, none⟩ = some (.int .i64 cd)) ∧ (W.cell? ⟨w2.heap.size, 0, none⟩ = some (.int .i64 pc) ∧ W.cell? ⟨w2.heap.size, 1, none⟩ = some (.int .u64 (pt : Int)) ∧ W.cell? ⟨w2.heap.size, 2, none⟩ = some (.slice none 0 0)) ∧ (W.cell? ⟨w3.heap.size, 0, none⟩ = some (.int .i64 pc) ∧ W.cell? ⟨w3.heap.size, 1, none⟩ = some (.int .u64 (pt : Int)) ∧ W.cell? ⟨w3.heap.size, 2, none⟩ = some (.slice none 0 0))) := fun W hW => ⟨cells11 ((hW.block _ (Array.getElem?_eq_some_iff.1 t0).1).trans t0), cells3 ((hW.block _ (Array.getElem?_eq_some_iff.1 t3).1).trans t3), cells3 ((hW.block _ (Array.getElem?_eq_some_iff.1 t4).1).trans t4)⟩
  clear k2 hbc hb3 hn3 r3 s4 r4 p4 hb4 r3' hb5 t3 t4 t0 HA HV2 hn c0 c1 c2 c3 c4 c5 c6 c7 c8 c9 c10
  have hy0 : Below wd.heap.size wd wd := Below.refl _ _
  go_wp2_with fail
  refine wp_region_L (fun W : World => ((W.cell? ⟨w.heap.size, 0, none⟩ = some (.int .i64 i1) ∧ W.cell? ⟨w.heap.size, 1, none⟩ = some (.int .u64 (i2 : Int)) ∧ W.cell? ⟨w.heap.size, 2, none⟩ = some (.int .i64 kd) ∧ W.cell? ⟨w.heap.size, 3, none⟩ = some (.slice ka ks.length kc) ∧ W.cell? ⟨w.heap.size, 4, none⟩ = some (.int .u64 (tk : Int)) ∧ W.cell? ⟨w.heap.size, 5, none⟩ = some (.int .i64 tt) ∧ W.cell? ⟨w.heap.size, 6, none⟩ = some (.slice ga gs.length gc) ∧ W.cell? ⟨w.heap.size, 7, none⟩ = some (.int .i64 st) ∧ W.cell? ⟨w.heap.size, 8, none⟩ = some (.slice ya ys.length yc) ∧ W.cell? ⟨w.heap.size, 9, none⟩ = some (.slice da ds.length dc) ∧ W.cell? ⟨w.heap.size, 10, none⟩ = some (.int .i64 cd)) ∧ (W.cell? ⟨w2.heap.size, 0, none⟩ = some (.int .i64 pc) ∧ W.cell? ⟨w2.heap.size, 1, none⟩ = some (.int .u64 (pt : Int)) ∧ W.cell? ⟨w2.heap.size, 2, none⟩ = some (.slice none 0 0)) ∧ (W.cell? ⟨w3.heap.size, 0, none⟩ = some (.int .i64 pc) ∧ W.cell? ⟨w3.heap.size, 1, none⟩ = some (.int .u64 (pt : Int)) ∧ W.cell? ⟨w3.heap.size, 2, none⟩ = some (.slice none 0 0))) ∧ Below wd.heap.size wd W) [] (by kernel_rfl) ?_
  rw [hwd]
  have yS0 : (fun W : World => ((W.cell? ⟨w.heap.size, 0, none⟩ = some (.int .i64 i1) ∧ W.cell? ⟨w.heap.size, 1, none⟩ = some (.int .u64 (i2 : Int)) ∧ W.cell? ⟨w.heap.size, 2, none⟩ = some (.int .i64 kd) ∧ W.cell? ⟨w.heap.size, 3, none⟩ = some (.slice ka ks.length kc) ∧ W.cell? ⟨w.heap.size, 4, none⟩ = some (.int .u64 (tk : Int)) ∧ W.cell? ⟨w.heap.size, 5, none⟩ = some (.int .i64 tt) ∧ W.cell? ⟨w.heap.size, 6, none⟩ = some (.slice ga gs.length gc) ∧ W.cell? ⟨w.heap.size, 7, none⟩ = some (.int .i64 st) ∧ W.cell? ⟨w.heap.size, 8, none⟩ = some (.slice ya ys.length yc) ∧ W.cell? ⟨w.heap.size, 9, none⟩ = some (.slice da ds.length dc) ∧ W.cell? ⟨w.heap.size, 10, none⟩ = some (.int .i64 cd)) ∧ (W.cell? ⟨w2.heap.size, 0, none⟩ = some (.int .i64 pc) ∧ W.cell? ⟨w2.heap.size, 1, none⟩ = some (.int .u64 (pt : Int)) ∧ W.cell? ⟨w2.heap.size, 2, none⟩ = some (.slice none 0 0)) ∧ (W.cell? ⟨w3.heap.size, 0, none⟩ = some (.int .i64 pc) ∧ W.cell? ⟨w3.heap.size, 1, none⟩ = some (.int .u64 (pt : Int)) ∧ W.cell? ⟨w3.heap.size, 2, none⟩ = some (.slice none 0 0))) ∧ Below wd.heap.size wd W) wd := ⟨cl.out _ hy0, hy0⟩
  refine wpAnyL_take 0 rfl (by kernel_rfl) (by kernel_rfl) (by kernel_rfl) (by kernel_rfl) (fun _ _ _ h => h) (wanted_none rfl) (by intro w' hS'; obtain ⟨⟨⟨x0, x1, x2, x3, x4, x5, x6, x7, x8, x9, x10⟩, ⟨r0, r1, r2⟩, ⟨s0, s1, s2⟩⟩, xb⟩ := hS'; go_simp <;> rfl) yS0 ?_
  try simp only [pa, pb, pc, Act.put, pd, pe, pf]
  refine wpAnyL_take 3 rfl (by kernel_rfl) (by kernel_rfl) (by kernel_rfl) (by kernel_rfl) (fun _ _ _ h => h) (wanted_none rfl) (by intro w' hS'; obtain ⟨⟨⟨x0, x1, x2, x3, x4, x5, x6, x7, x8, x9, x10⟩, ⟨r0, r1, r2⟩, ⟨s0, s1, s2⟩⟩, xb⟩ := hS'; go_simp <;> rfl) yS0 ?_
  try simp only [pa, pb, pc, Act.put, pd, pe, pf]
  refine wpAnyL_one 1 (by kernel_rfl) rfl (wanted_none rfl) ?_
  intro K' hK'
  go_simp
  go_at_call 11
  refine (A3.out _ (HB.out _ hy0)).mono ?_
  rintro e wc1 ⟨rfl, hbc⟩
  clear A3
  have hy1 := hy0.trans (hbc.mono hy0.size)
  have yS1 : (fun W : World => ((W.cell? ⟨w.heap.size, 0, none⟩ = some (.int .i64 i1) ∧ W.cell? ⟨w.heap.size, 1, none⟩ = some (.int .u64 (i2 : Int)) ∧ W.cell? ⟨w.heap.size, 2, none⟩ = some (.int .i64 kd) ∧ W.cell? ⟨w.heap.size, 3, none⟩ = some (.slice ka ks.length kc) ∧ W.cell? ⟨w.heap.size, 4, none⟩ = some (.int .u64 (tk : Int)) ∧ W.cell? ⟨w.heap.size, 5, none⟩ = some (.int .i64 tt) ∧ W.cell? ⟨w.heap.size, 6, none⟩ = some (.slice ga gs.length gc) ∧ W.cell? ⟨w.heap.size, 7, none⟩ = some (.int .i64 st) ∧ W.cell? ⟨w.heap.size, 8, none⟩ = some (.slice ya ys.length yc) ∧ W.cell? ⟨w.heap.size, 9, none⟩ = some (.slice da ds.length dc) ∧ W.cell? ⟨w.heap.size, 10, none⟩ = some (.int .i64 cd)) ∧ (W.cell? ⟨w2.heap.size, 0, none⟩ = some (.int .i64 pc) ∧ W.cell? ⟨w2.heap.size, 1, none⟩ = some (.int .u64 (pt : Int)) ∧ W.cell? ⟨w2.heap.size, 2, none⟩ = some (.slice none 0 0)) ∧ (W.cell? ⟨w3.heap.size, 0, none⟩ = some (.int .i64 pc) ∧ W.cell? ⟨w3.heap.size, 1, none⟩ = some (.int .u64 (pt : Int)) ∧ W.cell? ⟨w3.heap.size, 2, none⟩ = some (.slice none 0 0))) ∧ Below wd.heap.size wd W) wc1 := ⟨cl.out _ hy1, hy1⟩
  clear hbc
  refine hK'.out _ _ (.inr yS1) ?_
  clear hK' K'
  try simp only [pa, pb, pc, Act.put, pd, pe, pf]
  refine wpAnyL_take 2 rfl (by kernel_rfl) (by kernel_rfl) (by kernel_rfl) (by kernel_rfl) (fun _ _ _ h => h) (wanted_none rfl) (by intro w' hS'; obtain ⟨⟨⟨x0, x1, x2, x3, x4, x5, x6, x7, x8, x9, x10⟩, ⟨r0, r1, r2⟩, ⟨s0, s1, s2⟩⟩, xb⟩ := hS'; go_simp <;> rfl) yS1 ?_
  try simp only [pa, pb, pc, Act.put, pd, pe, pf]
  refine wpAnyL_one 4 (by kernel_rfl) rfl (wanted_none rfl) ?_
  intro K' hK'
  go_simp
  go_at_call 12
  refine (A4.out _ (HB.out _ hy1)).mono ?_
  rintro e wc2 ⟨rfl, hbc⟩
  clear A4
  have hy2 := hy1.trans (hbc.mono hy1.size)
  have yS2 : (fun W : World => ((W.cell? ⟨w.heap.size, 0, none⟩ = some (.int .i64 i1) ∧ W.cell? ⟨w.heap.size, 1, none⟩ = some (.int .u64 (i2 : Int)) ∧ W.cell? ⟨w.heap.size, 2, none⟩ = some (.int .i64 kd) ∧ W.cell? ⟨w.heap.size, 3, none⟩ = some (.slice ka ks.length kc) ∧ W.cell? ⟨w.heap.size, 4, none⟩ = some (.int .u64 (tk : Int)) ∧ W.cell? ⟨w.heap.size, 5, none⟩ = some (.int .i64 tt) ∧ W.cell? ⟨w.heap.size, 6, none⟩ = some (.slice ga gs.length gc) ∧ W.cell? ⟨w.heap.size, 7, none⟩ = some (.int .i64 st) ∧ W.cell? ⟨w.heap.size, 8, none⟩ = some (.slice ya ys.length yc) ∧ W.cell? ⟨w.heap.size, 9, none⟩ = some (.slice da ds.length dc) ∧ W.cell? ⟨w.heap.size, 10, none⟩ = some (.int .i64 cd)) ∧ (W.cell? ⟨w2.heap.size, 0, none⟩ = some (.int .i64 pc) ∧ W.cell? ⟨w2.heap.size, 1, none⟩ = some (.int .u64 (pt : Int)) ∧ W.cell? ⟨w2.heap.size, 2, none⟩ = some (.slice none 0 0)) ∧ (W.cell? ⟨w3.heap.size, 0, none⟩ = some (.int .i64 pc) ∧ W.cell? ⟨w3.heap.size, 1, none⟩ = some (.int .u64 (pt : Int)) ∧ W.cell? ⟨w3.heap.size, 2, none⟩ = some (.slice none 0 0))) ∧ Below wd.heap.size wd W) wc2 := ⟨cl.out _ hy2, hy2⟩
  clear hbc
  refine hK'.out _ _ (.inr yS2) ?_
  clear hK' K'
  try simp only [pa, pb, pc, Act.put, pd, pe, pf]
  refine wpAnyL_take 5 rfl (by kernel_rfl) (by kernel_rfl) (by kernel_rfl) (by kernel_rfl) (fun _ _ _ h => h) (wanted_none rfl) (by intro w' hS'; obtain ⟨⟨⟨x0, x1, x2, x3, x4, x5, x6, x7, x8, x9, x10⟩, ⟨r0, r1, r2⟩, ⟨s0, s1, s2⟩⟩, xb⟩ := hS'; go_simp <;> rfl) yS2 ?_
  try simp only [pa, pb, pc, Act.put, pd, pe, pf]
  refine wpAnyL_take 6 rfl (by kernel_rfl) (by kernel_rfl) (by kernel_rfl) (by kernel_rfl) (fun _ _ _ h => h) (wanted_none rfl) (by intro w' hS'; obtain ⟨⟨⟨x0, x1, x2, x3, x4, x5, x6, x7, x8, x9, x10⟩, ⟨r0, r1, r2⟩, ⟨s0, s1, s2⟩⟩, xb⟩ := hS'; go_simp <;> rfl) yS2 ?_
  try simp only [pa, pb, pc, Act.put, pd, pe, pf]
  refine tkg 7 rfl (by intro w' hS'; obtain ⟨⟨⟨x0, x1, x2, x3, x4, x5, x6, x7, x8, x9, x10⟩, ⟨r0, r1, r2⟩, ⟨s0, s1, s2⟩⟩, xb⟩ := hS'; go_simp <;> rfl) yS2 ?_
  try simp only [pa, pb, pc, Act.put, pd, pe, pf]
  refine tkg 8 rfl (by intro w' hS'; obtain ⟨⟨⟨x0, x1, x2, x3, x4, x5, x6, x7, x8, x9, x10⟩, ⟨r0, r1, r2⟩, ⟨s0, s1, s2⟩⟩, xb⟩ := hS'; go_simp <;> rfl) yS2 ?_
  try simp only [pa, pb, pc, Act.put, pd, pe, pf]
  refine tkg 9 rfl (by intro w' hS'; obtain ⟨⟨⟨x0, x1, x2, x3, x4, x5, x6, x7, x8, x9, x10⟩, ⟨r0, r1, r2⟩, ⟨s0, s1, s2⟩⟩, xb⟩ := hS'; go_simp <;> rfl) yS2 ?_
  try simp only [pa, pb, pc, Act.put, pd, pe, pf]
  refine wpAnyL_take 10 rfl (by kernel_rfl) (by kernel_rfl) (by kernel_rfl) (by kernel_rfl) (fun _ _ _ h => h) (wanted_none rfl) (by intro w' hS'; obtain ⟨⟨⟨x0, x1, x2, x3, x4, x5, x6, x7, x8, x9, x10⟩, ⟨r0, r1, r2⟩, ⟨s0, s1, s2⟩⟩, xb⟩ := hS'; go_simp <;> rfl) yS2 ?_
  try simp only [pa, pb, pc, Act.put, pd, pe, pf]
  refine wpAnyL_take 11 rfl (by kernel_rfl) (by kernel_rfl) (by kernel_rfl) (by kernel_rfl) (fun _ _ _ h => h) (wanted_none rfl) (by intro w' hS'; obtain ⟨⟨⟨x0, x1, x2, x3, x4, x5, x6, x7, x8, x9, x10⟩, ⟨r0, r1, r2⟩, ⟨s0, s1, s2⟩⟩, xb⟩ := hS'; go_simp <;> rfl) yS2 ?_
  try simp only [pa, pb, pc, Act.put, pd, pe, pf]
  refine tkg 12 rfl (by intro w' hS'; obtain ⟨⟨⟨x0, x1, x2, x3, x4, x5, x6, x7, x8, x9, x10⟩, ⟨r0, r1, r2⟩, ⟨s0, s1, s2⟩⟩, xb⟩ := hS'; go_simp <;> rfl) yS2 ?_
  try simp only [pa, pb, pc, Act.put, pd, pe, pf]
  refine tkg 13 rfl (by intro w' hS'; obtain ⟨⟨⟨x0, x1, x2, x3, x4, x5, x6, x7, x8, x9, x10⟩, ⟨r0, r1, r2⟩, ⟨s0, s1, s2⟩⟩, xb⟩ := hS'; go_simp <;> rfl) yS2 ?_
  try simp only [pa, pb, pc, Act.put, pd, pe, pf]
  refine wpAnyL_one 14 (by kernel_rfl) rfl (by kernel_rfl) ?_
  intro K' hK'
  go_simp
  go_at_call 13
  refine (AG.out _).mono ?_
  rintro e wc3 ⟨rfl, hbc⟩
  clear AG
  have hy3 := hy2.trans (hbc.mono hy2.size)
  have yS3 : (fun W : World => ((W.cell? ⟨w.heap.size, 0, none⟩ = some (.int .i64 i1) ∧ W.cell? ⟨w.heap.size, 1, none⟩ = some (.int .u64 (i2 : Int)) ∧ W.cell? ⟨w.heap.size, 2, none⟩ = some (.int .i64 kd) ∧ W.cell? ⟨w.heap.size, 3, none⟩ = some (.slice ka ks.length kc) ∧ W.cell? ⟨w.heap.size, 4, none⟩ = some (.int .u64 (tk : Int)) ∧ W.cell? ⟨w.heap.size, 5, none⟩ = some (.int .i64 tt) ∧ W.cell? ⟨w.heap.size, 6, none⟩ = some (.slice ga gs.length gc) ∧ W.cell? ⟨w.heap.size, 7, none⟩ = some (.int .i64 st) ∧ W.cell? ⟨w.heap.size, 8, none⟩ = some (.slice ya ys.length yc) ∧ W.cell? ⟨w.heap.size, 9, none⟩ = some (.slice da ds.length dc) ∧ W.cell? ⟨w.heap.size, 10, none⟩ = some (.int .i64 cd)) ∧ (W.cell? ⟨w2.heap.size, 0, none⟩ = some (.int .i64 pc) ∧ W.cell? ⟨w2.heap.size, 1, none⟩ = some (.int .u64 (pt : Int)) ∧ W.cell? ⟨w2.heap.size, 2, none⟩ = some (.slice none 0 0)) ∧ (W.cell? ⟨w3.heap.size, 0, none⟩ = some (.int .i64 pc) ∧ W.cell? ⟨w3.heap.size, 1, none⟩ = some (.int .u64 (pt : Int)) ∧ W.cell? ⟨w3.heap.size, 2, none⟩ = some (.slice none 0 0))) ∧ Below wd.heap.size wd W) wc3 := ⟨cl.out _ hy3, hy3⟩
  clear hbc
  refine hK'.out _ _ (.inr yS3) ?_
  clear hK' K'
  try simp only [pa, pb, pc, Act.put, pd, pe, pf]
  refine tkg 15 rfl (by intro w' hS'; obtain ⟨⟨⟨x0, x1, x2, x3, x4, x5, x6, x7, x8, x9, x10⟩, ⟨r0, r1, r2⟩, ⟨s0, s1, s2⟩⟩, xb⟩ := hS'; go_simp <;> rfl) yS3 ?_
  try simp only [pa, pb, pc, Act.put, pd, pe, pf]
  refine wpAnyL_take 16 rfl (by kernel_rfl) (by kernel_rfl) (by kernel_rfl) (by kernel_rfl) (fun _ _ _ h => h) (wanted_none rfl) (by intro w' hS'; obtain ⟨⟨⟨x0, x1, x2, x3, x4, x5, x6, x7, x8, x9, x10⟩, ⟨r0, r1, r2⟩, ⟨s0, s1, s2⟩⟩, xb⟩ := hS'; go_simp <;> rfl) yS3 ?_
  try simp only [pa, pb, pc, Act.put, pd, pe, pf]
  refine wpAnyL_take 17 rfl (by kernel_rfl) (by kernel_rfl) (by kernel_rfl) (by kernel_rfl) (fun _ _ _ h => h) (wanted_none rfl) (by intro w' hS'; obtain ⟨⟨⟨x0, x1, x2, x3, x4, x5, x6, x7, x8, x9, x10⟩, ⟨r0, r1, r2⟩, ⟨s0, s1, s2⟩⟩, xb⟩ := hS'; go_simp <;> rfl) yS3 ?_
  try simp only [pa, pb, pc, Act.put, pd, pe, pf]
  refine tkg 18 rfl (by intro w' hS'; obtain ⟨⟨⟨x0, x1, x2, x3, x4, x5, x6, x7, x8, x9, x10⟩, ⟨r0, r1, r2⟩, ⟨s0, s1, s2⟩⟩, xb⟩ := hS'; go_simp <;> rfl) yS3 ?_
  try simp only [pa, pb, pc, Act.put, pd, pe, pf]
  refine tkg 20 rfl (by intro w' hS'; obtain ⟨⟨⟨x0, x1, x2, x3, x4, x5, x6, x7, x8, x9, x10⟩, ⟨r0, r1, r2⟩, ⟨s0, s1, s2⟩⟩, xb⟩ := hS'; go_simp <;> rfl) yS3 ?_
  try simp only [pa, pb, pc, Act.put, pd, pe, pf]
  refine wpAnyL_one 19 (by kernel_rfl) rfl (by kernel_rfl) ?_
  intro K' hK'
  go_simp
  go_at_call 15
  refine (A5.out _ (HB.out _ hy3)).mono ?_
  rintro e wc4 ⟨u, rfl, O1, hbc⟩
  obtain ⟨O1a, O1c, rfl, -⟩ := O1.1.shape
  clear A5
  have O1r : Hid _ := O1.1.rd
  clear O1
  have hy4 := hy3.trans (hbc.mono hy3.size)
  have yS4 : (fun W : World => ((W.cell? ⟨w.heap.size, 0, none⟩ = some (.int .i64 i1) ∧ W.cell? ⟨w.heap.size, 1, none⟩ = some (.int .u64 (i2 : Int)) ∧ W.cell? ⟨w.heap.size, 2, none⟩ = some (.int .i64 kd) ∧ W.cell? ⟨w.heap.size, 3, none⟩ = some (.slice ka ks.length kc) ∧ W.cell? ⟨w.heap.size, 4, none⟩ = some (.int .u64 (tk : Int)) ∧ W.cell? ⟨w.heap.size, 5, none⟩ = some (.int .i64 tt) ∧ W.cell? ⟨w.heap.size, 6, none⟩ = some (.slice ga gs.length gc) ∧ W.cell? ⟨w.heap.size, 7, none⟩ = some (.int .i64 st) ∧ W.cell? ⟨w.heap.size, 8, none⟩ = some (.slice ya ys.length yc) ∧ W.cell? ⟨w.heap.size, 9, none⟩ = some (.slice da ds.length dc) ∧ W.cell? ⟨w.heap.size, 10, none⟩ = some (.int .i64 cd)) ∧ (W.cell? ⟨w2.heap.size, 0, none⟩ = some (.int .i64 pc) ∧ W.cell? ⟨w2.heap.size, 1, none⟩ = some (.int .u64 (pt : Int)) ∧ W.cell? ⟨w2.heap.size, 2, none⟩ = some (.slice none 0 0)) ∧ (W.cell? ⟨w3.heap.size, 0, none⟩ = some (.int .i64 pc) ∧ W.cell? ⟨w3.heap.size, 1, none⟩ = some (.int .u64 (pt : Int)) ∧ W.cell? ⟨w3.heap.size, 2, none⟩ = some (.slice none 0 0))) ∧ Below wd.heap.size wd W) wc4 := ⟨cl.out _ hy4, hy4⟩
  clear hbc
  refine hK'.out _ _ (.inr yS4) ?_
  clear hK' K'
  try simp only [pa, pb, pc, Act.put, pd, pe, pf]
  refine wpAnyL_one 21 (by kernel_rfl) rfl (by kernel_rfl) ?_
  intro K' hK'
  go_simp
  go_at_call 16
  refine (A6.out _ (HB.out _ hy4)).mono ?_
  rintro e wc5 ⟨u, rfl, O2, hbc⟩
  obtain ⟨O2a, O2c, rfl, -⟩ := O2.1.shape
  clear A6
  have O2r : Hid _ := O2.1.rd
  clear O2
  have O1s : Hid _ := Rd.below O1r.out hbc
  clear O1r
  have hy5 := hy4.trans (hbc.mono hy4.size)
  have yS5 : (fun W : World => ((W.cell? ⟨w.heap.size, 0, none⟩ = some (.int .i64 i1) ∧ W.cell? ⟨w.heap.size, 1, none⟩ = some (.int .u64 (i2 : Int)) ∧ W.cell? ⟨w.heap.size, 2, none⟩ = some (.int .i64 kd) ∧ W.cell? ⟨w.heap.size, 3, none⟩ = some (.slice ka ks.length kc) ∧ W.cell? ⟨w.heap.size, 4, none⟩ = some (.int .u64 (tk : Int)) ∧ W.cell? ⟨w.heap.size, 5, none⟩ = some (.int .i64 tt) ∧ W.cell? ⟨w.heap.size, 6, none⟩ = some (.slice ga gs.length gc) ∧ W.cell? ⟨w.heap.size, 7, none⟩ = some (.int .i64 st) ∧ W.cell? ⟨w.heap.size, 8, none⟩ = some (.slice ya ys.length yc) ∧ W.cell? ⟨w.heap.size, 9, none⟩ = some (.slice da ds.length dc) ∧ W.cell? ⟨w.heap.size, 10, none⟩ = some (.int .i64 cd)) ∧ (W.cell? ⟨w2.heap.size, 0, none⟩ = some (.int .i64 pc) ∧ W.cell? ⟨w2.heap.size, 1, none⟩ = some (.int .u64 (pt : Int)) ∧ W.cell? ⟨w2.heap.size, 2, none⟩ = some (.slice none 0 0)) ∧ (W.cell? ⟨w3.heap.size, 0, none⟩ = some (.int .i64 pc) ∧ W.cell? ⟨w3.heap.size, 1, none⟩ = some (.int .u64 (pt : Int)) ∧ W.cell? ⟨w3.heap.size, 2, none⟩ = some (.slice none 0 0))) ∧ Below wd.heap.size wd W) wc5 := ⟨cl.out _ hy5, hy5⟩
  clear hbc
  refine hK'.out _ _ (.inr yS5) ?_
  clear hK' K'
  try simp only [pa, pb, pc, Act.put, pd, pe, pf]
  refine wpAnyL_one 22 (by kernel_rfl) rfl (by kernel_rfl) ?_
  intro K' hK'
  go_simp
  go_at_call 14
  refine (AE.out _ _ _ O1s.out O2r.out).mono ?_
  rintro e wc6 ⟨rfl, hbc⟩
  clear AE O1s O2r
  have hy6 := hy5.trans (hbc.mono hy5.size)
  have yS6 : (fun W : World => ((W.cell? ⟨w.heap.size, 0, none⟩ = some (.int .i64 i1) ∧ W.cell? ⟨w.heap.size, 1, none⟩ = some (.int .u64 (i2 : Int)) ∧ W.cell? ⟨w.heap.size, 2, none⟩ = some (.int .i64 kd) ∧ W.cell? ⟨w.heap.size, 3, none⟩ = some (.slice ka ks.length kc) ∧ W.cell? ⟨w.heap.size, 4, none⟩ = some (.int .u64 (tk : Int)) ∧ W.cell? ⟨w.heap.size, 5, none⟩ = some (.int .i64 tt) ∧ W.cell? ⟨w.heap.size, 6, none⟩ = some (.slice ga gs.length gc) ∧ W.cell? ⟨w.heap.size, 7, none⟩ = some (.int .i64 st) ∧ W.cell? ⟨w.heap.size, 8, none⟩ = some (.slice ya ys.length yc) ∧ W.cell? ⟨w.heap.size, 9, none⟩ = some (.slice da ds.length dc) ∧ W.cell? ⟨w.heap.size, 10, none⟩ = some (.int .i64 cd)) ∧ (W.cell? ⟨w2.heap.size, 0, none⟩ = some (.int .i64 pc) ∧ W.cell? ⟨w2.heap.size, 1, none⟩ = some (.int .u64 (pt : Int)) ∧ W.cell? ⟨w2.heap.size, 2, none⟩ = some (.slice none 0 0)) ∧ (W.cell? ⟨w3.heap.size, 0, none⟩ = some (.int .i64 pc) ∧ W.cell? ⟨w3.heap.size, 1, none⟩ = some (.int .u64 (pt : Int)) ∧ W.cell? ⟨w3.heap.size, 2, none⟩ = some (.slice none 0 0))) ∧ Below wd.heap.size wd W) wc6 := ⟨cl.out _ hy6, hy6⟩
  clear hbc
  refine hK'.out _ _ (.inr yS6) ?_
  clear hK' K'
  try simp only [pa, pb, pc, Act.put, pd, pe, pf]
  refine tkg 23 rfl (by intro w' hS'; obtain ⟨⟨⟨x0, x1, x2, x3, x4, x5, x6, x7, x8, x9, x10⟩, ⟨r0, r1, r2⟩, ⟨s0, s1, s2⟩⟩, xb⟩ := hS'; go_simp <;> rfl) yS6 ?_
  try simp only [pa, pb, pc, Act.put, pd, pe, pf]
  refine wpAnyL_take 24 rfl (by kernel_rfl) (by kernel_rfl) (by kernel_rfl) (by kernel_rfl) (fun _ _ _ h => h) (wanted_none rfl) (by intro w' hS'; obtain ⟨⟨⟨x0, x1, x2, x3, x4, x5, x6, x7, x8, x9, x10⟩, ⟨r0, r1, r2⟩, ⟨s0, s1, s2⟩⟩, xb⟩ := hS'; go_simp <;> rfl) yS6 ?_
  try simp only [pa, pb, pc, Act.put, pd, pe, pf]
  refine wpAnyL_take 25 rfl (by kernel_rfl) (by kernel_rfl) (by kernel_rfl) (by kernel_rfl) (fun _ _ _ h => h) (wanted_none rfl) (by intro w' hS'; obtain ⟨⟨⟨x0, x1, x2, x3, x4, x5, x6, x7, x8, x9, x10⟩, ⟨r0, r1, r2⟩, ⟨s0, s1, s2⟩⟩, xb⟩ := hS'; go_simp <;> rfl) yS6 ?_
  try simp only [pa, pb, pc, Act.put, pd, pe, pf]
  refine tkg 26 rfl (by intro w' hS'; obtain ⟨⟨⟨x0, x1, x2, x3, x4, x5, x6, x7, x8, x9, x10⟩, ⟨r0, r1, r2⟩, ⟨s0, s1, s2⟩⟩, xb⟩ := hS'; go_simp <;> rfl) yS6 ?_
  try simp only [pa, pb, pc, Act.put, pd, pe, pf]
  refine tkg 28 rfl (by intro w' hS'; obtain ⟨⟨⟨x0, x1, x2, x3, x4, x5, x6, x7, x8, x9, x10⟩, ⟨r0, r1, r2⟩, ⟨s0, s1, s2⟩⟩, xb⟩ := hS'; go_simp <;> rfl) yS6 ?_
  try simp only [pa, pb, pc, Act.put, pd, pe, pf]
  refine wpAnyL_one 27 (by kernel_rfl) rfl (by kernel_rfl) ?_
  intro K' hK'
  go_simp
  go_at_call 17
  refine (A7.out _ (HB.out _ hy6)).mono ?_
  rintro e wc7 ⟨u, rfl, O3, hbc⟩
  obtain ⟨O3a, O3c, rfl, -⟩ := O3.1.shape
  clear A7
  have O3r : Hid _ := O3.1.rd
  clear O3
  have hy7 := hy6.trans (hbc.mono hy6.size)
  have yS7 : (fun W : World => ((W.cell? ⟨w.heap.size, 0, none⟩ = some (.int .i64 i1) ∧ W.cell? ⟨w.heap.size, 1, none⟩ = some (.int .u64 (i2 : Int)) ∧ W.cell? ⟨w.heap.size, 2, none⟩ = some (.int .i64 kd) ∧ W.cell? ⟨w.heap.size, 3, none⟩ = some (.slice ka ks.length kc) ∧ W.cell? ⟨w.heap.size, 4, none⟩ = some (.int .u64 (tk : Int)) ∧ W.cell? ⟨w.heap.size, 5, none⟩ = some (.int .i64 tt) ∧ W.cell? ⟨w.heap.size, 6, none⟩ = some (.slice ga gs.length gc) ∧ W.cell? ⟨w.heap.size, 7, none⟩ = some (.int .i64 st) ∧ W.cell? ⟨w.heap.size, 8, none⟩ = some (.slice ya ys.length yc) ∧ W.cell? ⟨w.heap.size, 9, none⟩ = some (.slice da ds.length dc) ∧ W.cell? ⟨w.heap.size, 10, none⟩ = some (.int .i64 cd)) ∧ (W.cell? ⟨w2.heap.size, 0, none⟩ = some (.int .i64 pc) ∧ W.cell? ⟨w2.heap.size, 1, none⟩ = some (.int .u64 (pt : Int)) ∧ W.cell? ⟨w2.heap.size, 2, none⟩ = some (.slice none 0 0)) ∧ (W.cell? ⟨w3.heap.size, 0, none⟩ = some (.int .i64 pc) ∧ W.cell? ⟨w3.heap.size, 1, none⟩ = some (.int .u64 (pt : Int)) ∧ W.cell? ⟨w3.heap.size, 2, none⟩ = some (.slice none 0 0))) ∧ Below wd.heap.size wd W) wc7 := ⟨cl.out _ hy7, hy7⟩
  clear hbc
  refine hK'.out _ _ (.inr yS7) ?_
  clear hK' K'
  try simp only [pa, pb, pc, Act.put, pd, pe, pf]
  refine wpAnyL_one 29 (by kernel_rfl) rfl (by kernel_rfl) ?_
  intro K' hK'
  go_simp
  go_at_call 18
  refine (A8.out _ (HB.out _ hy7)).mono ?_
  rintro e wc8 ⟨u, rfl, O4, hbc⟩
  obtain ⟨O4a, O4c, rfl, -⟩ := O4.1.shape
  clear A8
  have O4r : Hid _ := O4.1.rd
  clear O4
  have O3s : Hid _ := Rd.below O3r.out hbc
  clear O3r
  have hy8 := hy7.trans (hbc.mono hy7.size)
  have yS8 : (fun W : World => ((W.cell? ⟨w.heap.size, 0, none⟩ = some (.int .i64 i1) ∧ W.cell? ⟨w.heap.size, 1, none⟩ = some (.int .u64 (i2 : Int)) ∧ W.cell? ⟨w.heap.size, 2, none⟩ = some (.int .i64 kd) ∧ W.cell? ⟨w.heap.size, 3, none⟩ = some (.slice ka ks.length kc) ∧ W.cell? ⟨w.heap.size, 4, none⟩ = some (.int .u64 (tk : Int)) ∧ W.cell? ⟨w.heap.size, 5, none⟩ = some (.int .i64 tt) ∧ W.cell? ⟨w.heap.size, 6, none⟩ = some (.slice ga gs.length gc) ∧ W.cell? ⟨w.heap.size, 7, none⟩ = some (.int .i64 st) ∧ W.cell? ⟨w.heap.size, 8, none⟩ = some (.slice ya ys.length yc) ∧ W.cell? ⟨w.heap.size, 9, none⟩ = some (.slice da ds.length dc) ∧ W.cell? ⟨w.heap.size, 10, none⟩ = some (.int .i64 cd)) ∧ (W.cell? ⟨w2.heap.size, 0, none⟩ = some (.int .i64 pc) ∧ W.cell? ⟨w2.heap.size, 1, none⟩ = some (.int .u64 (pt : Int)) ∧ W.cell? ⟨w2.heap.size, 2, none⟩ = some (.slice none 0 0)) ∧ (W.cell? ⟨w3.heap.size, 0, none⟩ = some (.int .i64 pc) ∧ W.cell? ⟨w3.heap.size, 1, none⟩ = some (.int .u64 (pt : Int)) ∧ W.cell? ⟨w3.heap.size, 2, none⟩ = some (.slice none 0 0))) ∧ Below wd.heap.size wd W) wc8 := ⟨cl.out _ hy8, hy8⟩
  clear hbc
  refine hK'.out _ _ (.inr yS8) ?_
  clear hK' K'
  try simp only [pa, pb, pc, Act.put, pd, pe, pf]
  refine wpAnyL_one 30 (by kernel_rfl) rfl (by kernel_rfl) ?_
  intro K' hK'
  go_simp
  go_at_call 14
  refine (AF.out _ _ _ O3s.out O4r.out).mono ?_
  rintro e wc9 ⟨rfl, hbc⟩
  clear AF O3s O4r
  have hy9 := hy8.trans (hbc.mono hy8.size)
  have yS9 : (fun W : World => ((W.cell? ⟨w.heap.size, 0, none⟩ = some (.int .i64 i1) ∧ W.cell? ⟨w.heap.size, 1, none⟩ = some (.int .u64 (i2 : Int)) ∧ W.cell? ⟨w.heap.size, 2, none⟩ = some (.int .i64 kd) ∧ W.cell? ⟨w.heap.size, 3, none⟩ = some (.slice ka ks.length kc) ∧ W.cell? ⟨w.heap.size, 4, none⟩ = some (.int .u64 (tk : Int)) ∧ W.cell? ⟨w.heap.size, 5, none⟩ = some (.int .i64 tt) ∧ W.cell? ⟨w.heap.size, 6, none⟩ = some (.slice ga gs.length gc) ∧ W.cell? ⟨w.heap.size, 7, none⟩ = some (.int .i64 st) ∧ W.cell? ⟨w.heap.size, 8, none⟩ = some (.slice ya ys.length yc) ∧ W.cell? ⟨w.heap.size, 9, none⟩ = some (.slice da ds.length dc) ∧ W.cell? ⟨w.heap.size, 10, none⟩ = some (.int .i64 cd)) ∧ (W.cell? ⟨w2.heap.size, 0, none⟩ = some (.int .i64 pc) ∧ W.cell? ⟨w2.heap.size, 1, none⟩ = some (.int .u64 (pt : Int)) ∧ W.cell? ⟨w2.heap.size, 2, none⟩ = some (.slice none 0 0)) ∧ (W.cell? ⟨w3.heap.size, 0, none⟩ = some (.int .i64 pc) ∧ W.cell? ⟨w3.heap.size, 1, none⟩ = some (.int .u64 (pt : Int)) ∧ W.cell? ⟨w3.heap.size, 2, none⟩ = some (.slice none 0 0))) ∧ Below wd.heap.size wd W) wc9 := ⟨cl.out _ hy9, hy9⟩
  clear hbc
  refine hK'.out _ _ (.inr yS9) ?_
  clear hK' K'
  try simp only [pa, pb, pc, Act.put, pd, pe, pf]
  refine tkg 31 rfl (by intro w' hS'; obtain ⟨⟨⟨x0, x1, x2, x3, x4, x5, x6, x7, x8, x9, x10⟩, ⟨r0, r1, r2⟩, ⟨s0, s1, s2⟩⟩, xb⟩ := hS'; go_simp <;> rfl) yS9 ?_
  try simp only [pa, pb, pc, Act.put, pd, pe, pf]
  refine wpAnyL_take 32 rfl (by kernel_rfl) (by kernel_rfl) (by kernel_rfl) (by kernel_rfl) (fun _ _ _ h => h) (wanted_none rfl) (by intro w' hS'; obtain ⟨⟨⟨x0, x1, x2, x3, x4, x5, x6, x7, x8, x9, x10⟩, ⟨r0, r1, r2⟩, ⟨s0, s1, s2⟩⟩, xb⟩ := hS'; go_simp <;> rfl) yS9 ?_
  try simp only [pa, pb, pc, Act.put, pd, pe, pf]
  refine wpAnyL_done (by kernel_rfl) (NoPanic.normal ?_) _
  go_wp2_with fail
  refine wp_region_L (fun W : World => ((W.cell? ⟨w.heap.size, 0, none⟩ = some (.int .i64 i1) ∧ W.cell? ⟨w.heap.size, 1, none⟩ = some (.int .u64 (i2 : Int)) ∧ W.cell? ⟨w.heap.size, 2, none⟩ = some (.int .i64 kd) ∧ W.cell? ⟨w.heap.size, 3, none⟩ = some (.slice ka ks.length kc) ∧ W.cell? ⟨w.heap.size, 4, none⟩ = some (.int .u64 (tk : Int)) ∧ W.cell? ⟨w.heap.size, 5, none⟩ = some (.int .i64 tt) ∧ W.cell? ⟨w.heap.size, 6, none⟩ = some (.slice ga gs.length gc) ∧ W.cell? ⟨w.heap.size, 7, none⟩ = some (.int .i64 st) ∧ W.cell? ⟨w.heap.size, 8, none⟩ = some (.slice ya ys.length yc) ∧ W.cell? ⟨w.heap.size, 9, none⟩ = some (.slice da ds.length dc) ∧ W.cell? ⟨w.heap.size, 10, none⟩ = some (.int .i64 cd)) ∧ (W.cell? ⟨w2.heap.size, 0, none⟩ = some (.int .i64 pc) ∧ W.cell? ⟨w2.heap.size, 1, none⟩ = some (.int .u64 (pt : Int)) ∧ W.cell? ⟨w2.heap.size, 2, none⟩ = some (.slice none 0 0)) ∧ (W.cell? ⟨w3.heap.size, 0, none⟩ = some (.int .i64 pc) ∧ W.cell? ⟨w3.heap.size, 1, none⟩ = some (.int .u64 (pt : Int)) ∧ W.cell? ⟨w3.heap.size, 2, none⟩ = some (.slice none 0 0))) ∧ Below wd.heap.size wd W) [] (by kernel_rfl) ?_
  have hyd := hy9.drew
  generalize wc9.drew = we at *
  have yT0 : (fun W : World => ((W.cell? ⟨w.heap.size, 0, none⟩ = some (.int .i64 i1) ∧ W.cell? ⟨w.heap.size, 1, none⟩ = some (.int .u64 (i2 : Int)) ∧ W.cell? ⟨w.heap.size, 2, none⟩ = some (.int .i64 kd) ∧ W.cell? ⟨w.heap.size, 3, none⟩ = some (.slice ka ks.length kc) ∧ W.cell? ⟨w.heap.size, 4, none⟩ = some (.int .u64 (tk : Int)) ∧ W.cell? ⟨w.heap.size, 5, none⟩ = some (.int .i64 tt) ∧ W.cell? ⟨w.heap.size, 6, none⟩ = some (.slice ga gs.length gc) ∧ W.cell? ⟨w.heap.size, 7, none⟩ = some (.int .i64 st) ∧ W.cell? ⟨w.heap.size, 8, none⟩ = some (.slice ya ys.length yc) ∧ W.cell? ⟨w.heap.size, 9, none⟩ = some (.slice da ds.length dc) ∧ W.cell? ⟨w.heap.size, 10, none⟩ = some (.int .i64 cd)) ∧ (W.cell? ⟨w2.heap.size, 0, none⟩ = some (.int .i64 pc) ∧ W.cell? ⟨w2.heap.size, 1, none⟩ = some (.int .u64 (pt : Int)) ∧ W.cell? ⟨w2.heap.size, 2, none⟩ = some (.slice none 0 0)) ∧ (W.cell? ⟨w3.heap.size, 0, none⟩ = some (.int .i64 pc) ∧ W.cell? ⟨w3.heap.size, 1, none⟩ = some (.int .u64 (pt : Int)) ∧ W.cell? ⟨w3.heap.size, 2, none⟩ = some (.slice none 0 0))) ∧ Below wd.heap.size wd W) we := ⟨cl.out _ hyd, hyd⟩
  have hv0 := hyd
  refine wpAnyL_take 0 rfl (by kernel_rfl) (by kernel_rfl) (by kernel_rfl) (by kernel_rfl) (fun _ _ _ h => h) (wanted_none rfl) (by intro w' hS'; obtain ⟨⟨⟨x0, x1, x2, x3, x4, x5, x6, x7, x8, x9, x10⟩, ⟨r0, r1, r2⟩, ⟨s0, s1, s2⟩⟩, xb⟩ := hS'; go_simp <;> rfl) yT0 ?_
  try simp only [pa, pb, pc, Act.put, pd, pe, pf]
  refine wpAnyL_take 2 rfl (by kernel_rfl) (by kernel_rfl) (by kernel_rfl) (by kernel_rfl) (fun _ _ _ h => h) (wanted_none rfl) (by intro w' hS'; obtain ⟨⟨⟨x0, x1, x2, x3, x4, x5, x6, x7, x8, x9, x10⟩, ⟨r0, r1, r2⟩, ⟨s0, s1, s2⟩⟩, xb⟩ := hS'; go_simp <;> rfl) yT0 ?_
  try simp only [pa, pb, pc, Act.put, pd, pe, pf]
  refine wpAnyL_one 1 (by kernel_rfl) rfl (wanted_none rfl) ?_
  intro K' hK'
  go_simp
  go_at_call 20
  refine (A9.out _ (HB.out _ hv0)).mono ?_
  rintro e wf1 ⟨⟨⟨aa, ac⟩, rfl, O5⟩, hbc⟩
  have O5r : Hid _ := O5.1.rd
  clear O5 A9
  have hv1 := hv0.trans (hbc.mono hv0.size)
  have yT1 : (fun W : World => ((W.cell? ⟨w.heap.size, 0, none⟩ = some (.int .i64 i1) ∧ W.cell? ⟨w.heap.size, 1, none⟩ = some (.int .u64 (i2 : Int)) ∧ W.cell? ⟨w.heap.size, 2, none⟩ = some (.int .i64 kd) ∧ W.cell? ⟨w.heap.size, 3, none⟩ = some (.slice ka ks.length kc) ∧ W.cell? ⟨w.heap.size, 4, none⟩ = some (.int .u64 (tk : Int)) ∧ W.cell? ⟨w.heap.size, 5, none⟩ = some (.int .i64 tt) ∧ W.cell? ⟨w.heap.size, 6, none⟩ = some (.slice ga gs.length gc) ∧ W.cell? ⟨w.heap.size, 7, none⟩ = some (.int .i64 st) ∧ W.cell? ⟨w.heap.size, 8, none⟩ = some (.slice ya ys.length yc) ∧ W.cell? ⟨w.heap.size, 9, none⟩ = some (.slice da ds.length dc) ∧ W.cell? ⟨w.heap.size, 10, none⟩ = some (.int .i64 cd)) ∧ (W.cell? ⟨w2.heap.size, 0, none⟩ = some (.int .i64 pc) ∧ W.cell? ⟨w2.heap.size, 1, none⟩ = some (.int .u64 (pt : Int)) ∧ W.cell? ⟨w2.heap.size, 2, none⟩ = some (.slice none 0 0)) ∧ (W.cell? ⟨w3.heap.size, 0, none⟩ = some (.int .i64 pc) ∧ W.cell? ⟨w3.heap.size, 1, none⟩ = some (.int .u64 (pt : Int)) ∧ W.cell? ⟨w3.heap.size, 2, none⟩ = some (.slice none 0 0))) ∧ Below wd.heap.size wd W) wf1 := ⟨cl.out _ hv1, hv1⟩
  clear hbc
  refine hK'.out _ _ (.inr yT1) ?_
  clear hK' K'
  try simp only [pa, pb, pc, Act.put, pd, pe, pf]
  refine wpAnyL_one 3 (by kernel_rfl) rfl (wanted_none rfl) ?_
  intro K' hK'
  go_simp
  go_at_call 21
  refine (AA.out _ (HB.out _ hv1)).mono ?_
  rintro e wf2 ⟨rfl, hbc⟩
  clear AA
  have O5s : Hid _ := Rd.below O5r.out hbc
  clear O5r
  have hv2 := hv1.trans (hbc.mono hv1.size)
  have yT2 : (fun W : World => ((W.cell? ⟨w.heap.size, 0, none⟩ = some (.int .i64 i1) ∧ W.cell? ⟨w.heap.size, 1, none⟩ = some (.int .u64 (i2 : Int)) ∧ W.cell? ⟨w.heap.size, 2, none⟩ = some (.int .i64 kd) ∧ W.cell? ⟨w.heap.size, 3, none⟩ = some (.slice ka ks.length kc) ∧ W.cell? ⟨w.heap.size, 4, none⟩ = some (.int .u64 (tk : Int)) ∧ W.cell? ⟨w.heap.size, 5, none⟩ = some (.int .i64 tt) ∧ W.cell? ⟨w.heap.size, 6, none⟩ = some (.slice ga gs.length gc) ∧ W.cell? ⟨w.heap.size, 7, none⟩ = some (.int .i64 st) ∧ W.cell? ⟨w.heap.size, 8, none⟩ = some (.slice ya ys.length yc) ∧ W.cell? ⟨w.heap.size, 9, none⟩ = some (.slice da ds.length dc) ∧ W.cell? ⟨w.heap.size, 10, none⟩ = some (.int .i64 cd)) ∧ (W.cell? ⟨w2.heap.size, 0, none⟩ = some (.int .i64 pc) ∧ W.cell? ⟨w2.heap.size, 1, none⟩ = some (.int .u64 (pt : Int)) ∧ W.cell? ⟨w2.heap.size, 2, none⟩ = some (.slice none 0 0)) ∧ (W.cell? ⟨w3.heap.size, 0, none⟩ = some (.int .i64 pc) ∧ W.cell? ⟨w3.heap.size, 1, none⟩ = some (.int .u64 (pt : Int)) ∧ W.cell? ⟨w3.heap.size, 2, none⟩ = some (.slice none 0 0))) ∧ Below wd.heap.size wd W) wf2 := ⟨cl.out _ hv2, hv2⟩
  clear hbc
  refine hK'.out _ _ (.inr yT2) ?_
  clear hK' K'
  try simp only [pa, pb, pc, Act.put, pd, pe, pf]
  refine wpAnyL_one 4 (by kernel_rfl) rfl (wanted_none rfl) ?_
  intro K' hK'
  go_simp
  go_at_call 19
  refine (AB.out (aa, ac) _ O5s.out (HB.out _ hv2)).mono ?_
  rintro e wf3 ⟨rfl, hbc⟩
  clear AB O5s
  have hv3 := hv2.trans (hbc.mono hv2.size)
  have yT3 : (fun W : World => ((W.cell? ⟨w.heap.size, 0, none⟩ = some (.int .i64 i1) ∧ W.cell? ⟨w.heap.size, 1, none⟩ = some (.int .u64 (i2 : Int)) ∧ W.cell? ⟨w.heap.size, 2, none⟩ = some (.int .i64 kd) ∧ W.cell? ⟨w.heap.size, 3, none⟩ = some (.slice ka ks.length kc) ∧ W.cell? ⟨w.heap.size, 4, none⟩ = some (.int .u64 (tk : Int)) ∧ W.cell? ⟨w.heap.size, 5, none⟩ = some (.int .i64 tt) ∧ W.cell? ⟨w.heap.size, 6, none⟩ = some (.slice ga gs.length gc) ∧ W.cell? ⟨w.heap.size, 7, none⟩ = some (.int .i64 st) ∧ W.cell? ⟨w.heap.size, 8, none⟩ = some (.slice ya ys.length yc) ∧ W.cell? ⟨w.heap.size, 9, none⟩ = some (.slice da ds.length dc) ∧ W.cell? ⟨w.heap.size, 10, none⟩ = some (.int .i64 cd)) ∧ (W.cell? ⟨w2.heap.size, 0, none⟩ = some (.int .i64 pc) ∧ W.cell? ⟨w2.heap.size, 1, none⟩ = some (.int .u64 (pt : Int)) ∧ W.cell? ⟨w2.heap.size, 2, none⟩ = some (.slice none 0 0)) ∧ (W.cell? ⟨w3.heap.size, 0, none⟩ = some (.int .i64 pc) ∧ W.cell? ⟨w3.heap.size, 1, none⟩ = some (.int .u64 (pt : Int)) ∧ W.cell? ⟨w3.heap.size, 2, none⟩ = some (.slice none 0 0))) ∧ Below wd.heap.size wd W) wf3 := ⟨cl.out _ hv3, hv3⟩
  clear hbc
  refine hK'.out _ _ (.inr yT3) ?_
  clear hK' K'
  try simp only [pa, pb, pc, Act.put, pd, pe, pf]
  refine wpAnyL_take 5 rfl (by kernel_rfl) (by kernel_rfl) (by kernel_rfl) (by kernel_rfl) (fun _ _ _ h => h) (wanted_none rfl) (by intro w' hS'; obtain ⟨⟨⟨x0, x1, x2, x3, x4, x5, x6, x7, x8, x9, x10⟩, ⟨r0, r1, r2⟩, ⟨s0, s1, s2⟩⟩, xb⟩ := hS'; go_simp <;> rfl) yT3 ?_
  try simp only [pa, pb, pc, Act.put, pd, pe, pf]
  refine tkg 6 rfl (by intro w' hS'; obtain ⟨⟨⟨x0, x1, x2, x3, x4, x5, x6, x7, x8, x9, x10⟩, ⟨r0, r1, r2⟩, ⟨s0, s1, s2⟩⟩, xb⟩ := hS'; go_simp <;> rfl) yT3 ?_
  try simp only [pa, pb, pc, Act.put, pd, pe, pf]
  refine tkg 7 rfl (by intro w' hS'; obtain ⟨⟨⟨x0, x1, x2, x3, x4, x5, x6, x7, x8, x9, x10⟩, ⟨r0, r1, r2⟩, ⟨s0, s1, s2⟩⟩, xb⟩ := hS'; go_simp <;> rfl) yT3 ?_
  try simp only [pa, pb, pc, Act.put, pd, pe, pf]
  refine wpAnyL_one 8 (by kernel_rfl) rfl (by kernel_rfl) ?_
  intro K' hK'
  go_simp
  go_at_call 22
  refine (AC.out _ (HB.out _ hv3)).mono ?_
  rintro e wf4 ⟨rfl, hbc⟩
  clear AC
  have hv4 := hv3.trans (hbc.mono hv3.size)
  have yT4 : (fun W : World => ((W.cell? ⟨w.heap.size, 0, none⟩ = some (.int .i64 i1) ∧ W.cell? ⟨w.heap.size, 1, none⟩ = some (.int .u64 (i2 : Int)) ∧ W.cell? ⟨w.heap.size, 2, none⟩ = some (.int .i64 kd) ∧ W.cell? ⟨w.heap.size, 3, none⟩ = some (.slice ka ks.length kc) ∧ W.cell? ⟨w.heap.size, 4, none⟩ = some (.int .u64 (tk : Int)) ∧ W.cell? ⟨w.heap.size, 5, none⟩ = some (.int .i64 tt) ∧ W.cell? ⟨w.heap.size, 6, none⟩ = some (.slice ga gs.length gc) ∧ W.cell? ⟨w.heap.size, 7, none⟩ = some (.int .i64 st) ∧ W.cell? ⟨w.heap.size, 8, none⟩ = some (.slice ya ys.length yc) ∧ W.cell? ⟨w.heap.size, 9, none⟩ = some (.slice da ds.length dc) ∧ W.cell? ⟨w.heap.size, 10, none⟩ = some (.int .i64 cd)) ∧ (W.cell? ⟨w2.heap.size, 0, none⟩ = some (.int .i64 pc) ∧ W.cell? ⟨w2.heap.size, 1, none⟩ = some (.int .u64 (pt : Int)) ∧ W.cell? ⟨w2.heap.size, 2, none⟩ = some (.slice none 0 0)) ∧ (W.cell? ⟨w3.heap.size, 0, none⟩ = some (.int .i64 pc) ∧ W.cell? ⟨w3.heap.size, 1, none⟩ = some (.int .u64 (pt : Int)) ∧ W.cell? ⟨w3.heap.size, 2, none⟩ = some (.slice none 0 0))) ∧ Below wd.heap.size wd W) wf4 := ⟨cl.out _ hv4, hv4⟩
  clear hbc
  refine hK'.out _ _ (.inr yT4) ?_
  clear hK' K'
  try simp only [pa, pb, pc, Act.put, pd, pe, pf]
  refine wpAnyL_take 9 rfl (by kernel_rfl) (by kernel_rfl) (by kernel_rfl) (by kernel_rfl) (fun _ _ _ h => h) (wanted_none rfl) (by intro w' hS'; obtain ⟨⟨⟨x0, x1, x2, x3, x4, x5, x6, x7, x8, x9, x10⟩, ⟨r0, r1, r2⟩, ⟨s0, s1, s2⟩⟩, xb⟩ := hS'; go_simp <;> rfl) yT4 ?_
  try simp only [pa, pb, pc, Act.put, pd, pe, pf]
  refine wpAnyL_take 10 rfl (by kernel_rfl) (by kernel_rfl) (by kernel_rfl) (by kernel_rfl) (fun _ _ _ h => h) (wanted_none rfl) (by intro w' hS'; obtain ⟨⟨⟨x0, x1, x2, x3, x4, x5, x6, x7, x8, x9, x10⟩, ⟨r0, r1, r2⟩, ⟨s0, s1, s2⟩⟩, xb⟩ := hS'; go_simp <;> rfl) yT4 ?_
  try simp only [pa, pb, pc, Act.put, pd, pe, pf]
  refine wpAnyL_one 11 (by kernel_rfl) rfl (by kernel_rfl) ?_
  intro K' hK'
  go_simp
  go_at_call 8
  refine (AD.out _ (HB.out _ hv4)).mono ?_
  rintro e wf5 ⟨rfl, hbc⟩
  clear AD
  have hv5 := hv4.trans (hbc.mono hv4.size)
  have yT5 : (fun W : World => ((W.cell? ⟨w.heap.size, 0, none⟩ = some (.int .i64 i1) ∧ W.cell? ⟨w.heap.size, 1, none⟩ = some (.int .u64 (i2 : Int)) ∧ W.cell? ⟨w.heap.size, 2, none⟩ = some (.int .i64 kd) ∧ W.cell? ⟨w.heap.size, 3, none⟩ = some (.slice ka ks.length kc) ∧ W.cell? ⟨w.heap.size, 4, none⟩ = some (.int .u64 (tk : Int)) ∧ W.cell? ⟨w.heap.size, 5, none⟩ = some (.int .i64 tt) ∧ W.cell? ⟨w.heap.size, 6, none⟩ = some (.slice ga gs.length gc) ∧ W.cell? ⟨w.heap.size, 7, none⟩ = some (.int .i64 st) ∧ W.cell? ⟨w.heap.size, 8, none⟩ = some (.slice ya ys.length yc) ∧ W.cell? ⟨w.heap.size, 9, none⟩ = some (.slice da ds.length dc) ∧ W.cell? ⟨w.heap.size, 10, none⟩ = some (.int .i64 cd)) ∧ (W.cell? ⟨w2.heap.size, 0, none⟩ = some (.int .i64 pc) ∧ W.cell? ⟨w2.heap.size, 1, none⟩ = some (.int .u64 (pt : Int)) ∧ W.cell? ⟨w2.heap.size, 2, none⟩ = some (.slice none 0 0)) ∧ (W.cell? ⟨w3.heap.size, 0, none⟩ = some (.int .i64 pc) ∧ W.cell? ⟨w3.heap.size, 1, none⟩ = some (.int .u64 (pt : Int)) ∧ W.cell? ⟨w3.heap.size, 2, none⟩ = some (.slice none 0 0))) ∧ Below wd.heap.size wd W) wf5 := ⟨cl.out _ hv5, hv5⟩
  clear hbc
  refine hK'.out _ _ (.inr yT5) ?_
  clear hK' K'
  try simp only [pa, pb, pc, Act.put, pd, pe, pf]
  refine wpAnyL_take 12 rfl (by kernel_rfl) (by kernel_rfl) (by kernel_rfl) (by kernel_rfl) (fun _ _ _ h => h) (wanted_none rfl) (by intro w' hS'; obtain ⟨⟨⟨x0, x1, x2, x3, x4, x5, x6, x7, x8, x9, x10⟩, ⟨r0, r1, r2⟩, ⟨s0, s1, s2⟩⟩, xb⟩ := hS'; go_simp <;> rfl) yT5 ?_
  try simp only [pa, pb, pc, Act.put, pd, pe, pf]
  refine wpAnyL_take 13 rfl (by kernel_rfl) (by kernel_rfl) (by kernel_rfl) (by kernel_rfl) (fun _ _ _ h => h) (wanted_none rfl) (by intro w' hS'; obtain ⟨⟨⟨x0, x1, x2, x3, x4, x5, x6, x7, x8, x9, x10⟩, ⟨r0, r1, r2⟩, ⟨s0, s1, s2⟩⟩, xb⟩ := hS'; go_simp <;> rfl) yT5 ?_
  try simp only [pa, pb, pc, Act.put, pd, pe, pf]
  refine wpAnyL_done (by kernel_rfl) (NoPanic.normal ?_) _
  go_wp2
  go_ret
  exact ⟨rfl, HB.out _ hv5⟩
end Go.Proofs.Ytglbjimpaoikfaa

