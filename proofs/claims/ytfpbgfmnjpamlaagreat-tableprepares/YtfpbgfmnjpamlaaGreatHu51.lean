import Derived.Test.YtfpbgfmnjpamlaaGreatHu50
import Derived.Test.YtfpbgfmnjpamlaaGreatHu01
/- The document's Prepare. -/
namespace Go.Proofs.YtfpbgfmnjpamlaaGreat
open Go.RowKit LeaseMath
set_option maxRecDepth 100000
set_option linter.unusedSimpArgs false
set_option linter.unusedVariables false

theorem cells2 {w : World} {g : Nat} {a b : Value} {t : TypeId} (H : w.heap[g]? = some (.cells #[a, b] t (0, 0))) : w.cell? ⟨g, 0, none⟩ = some a ∧ w.cell? ⟨g, 1, none⟩ = some b := by
 refine ⟨?_, ?_⟩ <;> rw [cells_of_block H] <;> rfl
set_option maxHeartbeats 32000000 in
theorem rprep_of (z : Tz) (d : Cq) (c : Cl) (a : Sa) (tk : Nat) (w : World) (hR : TbR w z) (hK : Rd kyE w (.slice a.1 c.keys.length a.2) c.keys) (g4 : z.t.ints.length ≤ 1000000) (g5 : c.keys.length ≤ 1000000) :
  Calls Tryz.prog 12 #[tv z, idv d, cv c a, .int .u64 (tk : Int)] w fun e w' => RPrepT (prepW z.t d c tk) e w' ∧ Below w.heap.size w w' := by
 obtain ⟨PM, HPM⟩ : ∃ PM, Hid (PM = prepW z.t d c tk) := ⟨_, rfl⟩
 rw [← HPM.out]
 have HR : Hid (∀ W, Below w.heap.size w W → TbR W z) := fun W hW => hR.below hW
 have HK : Hid (∀ W, Below w.heap.size w W → Rd kyE W (.slice a.1 c.keys.length a.2) c.keys) := fun W hW => hK.below hW
 have kM : Hid (∀ W, Below w.heap.size w W → _) := fun W hW => rtmay_of z W (HR.out _ hW) (by omega)
 have kC : Hid (∀ W, Below w.heap.size w W → _) := fun W hW => rcall_of c a W (HK.out _ hW) (by omega)
 have kI : Hid (∀ W, Below w.heap.size w W → _) := fun W (_ : Below w.heap.size w W) => rid_of d W
 have kF : Hid (okT z.t = true → callB c = true → ∀ k ∈ c.keys, ∀ W, Below w.heap.size w W → _) := fun h1 h2 k hk W hW => refused_law z k c a tk W (HR.out _ hW) h1 h2 hk
 have kS : Hid (okT z.t = true → z.t.spans.length ≤ 64 ∧ z.t.frozen.length ≤ 64 ∧ z.t.holds.length ≤ 1024 ∧ z.t.marks.length ≤ 1024 ∧ z.t.ints.length ≤ 1024) := ok_sizes
 have kL : Hid (callB c = true → c.keys.length ≤ 16) := fun h => (keysB_len (callB_iff.1 h).2.1).2
 obtain ⟨MM, HMM⟩ : ∃ M, Hid (M = mrg z.t.ints (moreM c.keys d c.kind (tokM c.kind c.token tk) c.ttl)) := ⟨_, rfl⟩
 have HPE : Hid (prepW z.t d c tk = (if (okT z.t && callB c && idB d && decide (tk ≠ 0)) = false then (noT, 1)
  else if 0 < (keysM z.t.ints d).length then (if keysM z.t.ints d = c.keys then (z.t, 0) else (noT, 9))
  else if refAll z.t c.kind c.token tk c.keys ≠ 0 then (noT, refAll z.t c.kind c.token tk c.keys)
  else if 1024 < locksN z.t + c.keys.length then (noT, 2)
  else ({ z.t with ints := MM }, 0))) := by show _ = _; rw [HMM.out]; unfold prepW prepM keysM; rw [List.length_map]
 replace HPM : Hid (PM = _) := HPM.out.trans HPE.out
 obtain ⟨RA, HRA⟩ : ∃ f : Nat → Int, Hid (∀ i, f i = refAll z.t c.kind c.token tk (c.keys.drop i)) := ⟨_, fun _ => rfl⟩
 obtain ⟨RO, HRO⟩ : ∃ f : K → Int, Hid (∀ k, f k = refOne z.t c.kind c.token tk k) := ⟨_, fun _ => rfl⟩
 have HRS : Hid (∀ i k, c.keys[i]? = some k → RA i = if RO k ≠ 0 then RO k else RA (i + 1)) := fun i k h => by rw [HRA.out, HRA.out, HRO.out, refAll_at h]
 have HRE : Hid (RA c.keys.length = 0) := by show _ = _; rw [HRA.out, List.drop_of_length_le (Nat.le_refl _)]; rfl
 have HR0 : Hid (refAll z.t c.kind c.token tk c.keys = RA 0) := by show _ = _; rw [HRA.out, List.drop_zero]
 rw [HR0.out] at HPM
 replace kF : Hid (okT z.t = true → callB c = true → ∀ k ∈ c.keys, ∀ W, Below w.heap.size w W → Calls Tryz.prog 44 #[tv z, .string (bk k), cv c a, .int .u64 (tk : Int)] W fun e w' => e = .returned (.int .i64 (RO k)) ∧ Below W.heap.size W w') := fun h1 h2 k hk W hW => by rw [HRO.out]; exact kF.out h1 h2 k hk W hW
 clear HPE HRA HRO HR0
 obtain ⟨O, HO⟩ : ∃ O, Hid (okT z.t = O) := ⟨_, rfl⟩
 obtain ⟨C, HCB⟩ : ∃ O, Hid (callB c = O) := ⟨_, rfl⟩
 obtain ⟨I, HI⟩ : ∃ O, Hid (idB d = O) := ⟨_, rfl⟩
 rw [HO.out] at kM kF kS HPM
 rw [HCB.out] at kC kF kL HPM
 rw [HI.out] at kI HPM
 clear hR hK
 obtain ⟨q1, q2, q3, q4, q5, q6⟩ := four_boxes w (tc z) (idc d) (cc_ c a) (.cells #[.int .i64 0, .slice none 0 0, .slice none 0 0, .slice none 0 0, .slice none 0 0, .slice none 0 0] 27)
 obtain ⟨w0, hw0⟩ : ∃ W, (((w.alloc (tc z)).alloc (idc d)).alloc (cc_ c a)).alloc (.cells #[.int .i64 0, .slice none 0 0, .slice none 0 0, .slice none 0 0, .slice none 0 0, .slice none 0 0] 27) = W := ⟨_, rfl⟩
 rw [hw0] at q1 q2 q3 q4 q5 q6
 obtain ⟨⟨nw, sp, fr, hs_, ms, is⟩, ⟨sa, sc⟩, ⟨fa, fc⟩, ⟨ha, hc⟩, ⟨ma, mc⟩, ⟨ia, ic_⟩⟩ := z
 obtain ⟨d1, d2⟩ := d
 obtain ⟨kd, ks, ct, tt⟩ := c
 obtain ⟨ca, cb⟩ := a
 have HLK : Hid (locksN ⟨nw, sp, fr, hs_, ms, is⟩ = hs_.length + ms.length + is.length) := rfl
 dsimp only [tv, tc, cv, cc_, idv, idc] at *
 rw [HLK.out] at HPM
 have HC : Hid (∀ W, Below (w.heap.size + 4) w0 W → Below w.heap.size w W ∧ W.heap[w.heap.size]? = _ ∧ W.heap[w.heap.size + 1]? = _ ∧ W.heap[w.heap.size + 2]? = _ ∧ W.heap[w.heap.size + 3]? = _) := fun W hW => ⟨q6.trans (hW.mono (by omega)), (hW.block w.heap.size (by omega)).trans q2, (hW.block (w.heap.size + 1) (by omega)).trans q3, (hW.block (w.heap.size + 2) (by omega)).trans q4, (hW.block (w.heap.size + 3) (by omega)).trans q5⟩
 have hz : w.heap.size + 4 ≤ w0.heap.size := by omega
 have hb0 : Below (w.heap.size + 4) w0 w0 := Below.refl _ _
 clear q1 q2 q3 q4 q5 q6 HLK
 obtain ⟨-, bT, bI, bC, bZ⟩ := HC.out _ hb0
 obtain ⟨c0, c1, c2, c3, c4, c5⟩ := cells6 bT
 obtain ⟨i0, i1⟩ := cells2 bI
 obtain ⟨k0, k1, k2, k3⟩ := cells4 bC
 go_enter Tryz.func12, Tryz.ntmps12
 go_wp2_with fail
 refine (kM.out _ (HC.out _ hb0).1).mono ?_
 rintro e w1 ⟨rfl, hbc⟩
 have hb1 := keep_step hb0 hz hbc
 clear hbc kM hb0
 clear c0 c1 c2 c3 c4 c5 i0 i1 k0 k1 k2 k3 bT bI bC bZ
 obtain ⟨-, bT, bI, bC, bZ⟩ := HC.out _ hb1
 obtain ⟨c0, c1, c2, c3, c4, c5⟩ := cells6 bT
 obtain ⟨i0, i1⟩ := cells2 bI
 obtain ⟨k0, k1, k2, k3⟩ := cells4 bC
 cases O with
 | false =>
  have E : Hid (PM = (noT, 1)) := by show _ = _; rw [HPM.out]; simp
  clear HPM kF kS kL HR HK HRS HRE HMM
  clear kC kI
  have hbw := (HC.out _ hb1).1
  obtain ⟨⟨f0, f1, f2, f3, f4, f5⟩, z0, z1, z2, z3, z4, z5⟩ := t_cells bZ
  have S6 := set6_block bZ (.int .i64 0) (.slice none 0 0) (.slice none 0 0) (.slice none 0 0) (.slice none 0 0) (.slice none 0 0)
  have B6 := set6_below (.int .i64 0) (.slice none 0 0) (.slice none 0 0) (.slice none 0 0) (.slice none 0 0) (.slice none 0 0) (g := w.heap.size + 3) hbw (by omega)
  unfold set6 at S6 B6
  go_wp2
  (try simp only [Exit.inBlock, Exit.then])
  refine bodyPost_ret (results_tbe rfl _ _ (w.heap.size + 3) _ _ _ _ _ _ rfl S6) rfl ?_
  exact ⟨RPrepT.mk (z := noZ) E.out rfl (noZ_r _), B6⟩
 | true =>
  go_wp2_with fail
  refine (kC.out _ (HC.out _ hb1).1).mono ?_
  rintro e w2 ⟨rfl, hbc⟩
  have hb2 := keep_step hb1 hz hbc
  clear hbc kC hb1
  clear c0 c1 c2 c3 c4 c5 i0 i1 k0 k1 k2 k3 bT bI bC bZ
  obtain ⟨-, bT, bI, bC, bZ⟩ := HC.out _ hb2
  obtain ⟨c0, c1, c2, c3, c4, c5⟩ := cells6 bT
  obtain ⟨i0, i1⟩ := cells2 bI
  obtain ⟨k0, k1, k2, k3⟩ := cells4 bC
  cases C with
  | false =>
   have E : Hid (PM = (noT, 1)) := by show _ = _; rw [HPM.out]; simp
   clear HPM kF kS kL HR HK HRS HRE HMM
   clear kI
   have hbw := (HC.out _ hb2).1
   obtain ⟨⟨f0, f1, f2, f3, f4, f5⟩, z0, z1, z2, z3, z4, z5⟩ := t_cells bZ
   have S6 := set6_block bZ (.int .i64 0) (.slice none 0 0) (.slice none 0 0) (.slice none 0 0) (.slice none 0 0) (.slice none 0 0)
   have B6 := set6_below (.int .i64 0) (.slice none 0 0) (.slice none 0 0) (.slice none 0 0) (.slice none 0 0) (.slice none 0 0) (g := w.heap.size + 3) hbw (by omega)
   unfold set6 at S6 B6
   go_wp2
   (try simp only [Exit.inBlock, Exit.then])
   refine bodyPost_ret (results_tbe rfl _ _ (w.heap.size + 3) _ _ _ _ _ _ rfl S6) rfl ?_
   exact ⟨RPrepT.mk (z := noZ) E.out rfl (noZ_r _), B6⟩
  | true =>
   go_wp2_with fail
   refine (kI.out _ (HC.out _ hb2).1).mono ?_
   rintro e w3 ⟨rfl, hbc⟩
   have hb3 := keep_step hb2 hz hbc
   clear hbc kI hb2
   clear c0 c1 c2 c3 c4 c5 i0 i1 k0 k1 k2 k3 bT bI bC bZ
   obtain ⟨-, bT, bI, bC, bZ⟩ := HC.out _ hb3
   obtain ⟨c0, c1, c2, c3, c4, c5⟩ := cells6 bT
   obtain ⟨i0, i1⟩ := cells2 bI
   obtain ⟨k0, k1, k2, k3⟩ := cells4 bC
   cases I with
   | false =>
    have E : Hid (PM = (noT, 1)) := by show _ = _; rw [HPM.out]; simp
    clear HPM kF kS kL HR HK HRS HRE HMM
    have hbw := (HC.out _ hb3).1
    obtain ⟨⟨f0, f1, f2, f3, f4, f5⟩, z0, z1, z2, z3, z4, z5⟩ := t_cells bZ
    have S6 := set6_block bZ (.int .i64 0) (.slice none 0 0) (.slice none 0 0) (.slice none 0 0) (.slice none 0 0) (.slice none 0 0)
    have B6 := set6_below (.int .i64 0) (.slice none 0 0) (.slice none 0 0) (.slice none 0 0) (.slice none 0 0) (.slice none 0 0) (g := w.heap.size + 3) hbw (by omega)
    unfold set6 at S6 B6
    go_wp2
    (try simp only [Exit.inBlock, Exit.then])
    refine bodyPost_ret (results_tbe rfl _ _ (w.heap.size + 3) _ _ _ _ _ _ rfl S6) rfl ?_
    exact ⟨RPrepT.mk (z := noZ) E.out rfl (noZ_r _), B6⟩
   | true =>
    by_cases htk : tk = 0
    ·have htb : ((tk : Int) == 0) = true := by simpa using htk
     have E : Hid (PM = (noT, 1)) := by show _ = _; rw [HPM.out, htk]; rfl
     clear HPM kF kS kL HR HK HRS HRE HMM htk
     have hbw := (HC.out _ hb3).1
     obtain ⟨⟨f0, f1, f2, f3, f4, f5⟩, z0, z1, z2, z3, z4, z5⟩ := t_cells bZ
     have S6 := set6_block bZ (.int .i64 0) (.slice none 0 0) (.slice none 0 0) (.slice none 0 0) (.slice none 0 0) (.slice none 0 0)
     have B6 := set6_below (.int .i64 0) (.slice none 0 0) (.slice none 0 0) (.slice none 0 0) (.slice none 0 0) (.slice none 0 0) (g := w.heap.size + 3) hbw (by omega)
     unfold set6 at S6 B6
     go_wp2
     (try simp only [Exit.inBlock, Exit.then])
     refine bodyPost_ret (results_tbe rfl _ _ (w.heap.size + 3) _ _ _ _ _ _ rfl S6) rfl ?_
     exact ⟨RPrepT.mk (z := noZ) E.out rfl (noZ_r _), B6⟩
    have htb : ((tk : Int) == 0) = false := by simpa using htk
    have HQ1 : Hid (PM = (if 0 < (keysM is (d1, d2)).length then (if keysM is (d1, d2) = ks then (⟨nw, sp, fr, hs_, ms, is⟩, 0) else (noT, 9))
      else if RA 0 ≠ 0 then (noT, RA 0)
      else if 1024 < hs_.length + ms.length + is.length + ks.length then (noT, 2)
      else (⟨nw, sp, fr, hs_, ms, MM⟩, 0))) := by show _ = _; rw [HPM.out, decide_eq_true htk]; rfl
    replace kF : Hid _ := kF.out (by first | rfl | trivial) (by first | rfl | trivial)
    obtain ⟨n1, n2, n3, n4, n5⟩ := kS.out (by first | rfl | trivial)
    have n6 := kL.out (by first | rfl | trivial)
    clear HPM kS kL htk HO HCB HI g4 g5
    obtain ⟨e1_, e2_, e3_⟩ := one_box w3 (.cells #[] 9)
    have HK0 : Ow kyE 9 (w.heap.size + 4) (w3.alloc (.cells #[] 9)) (.slice (some ⟨w3.heap.size, 0, none⟩) 0 0) (keysM (is.take 0) (d1, d2)) := by
     rw [List.take_zero]
     exact ⟨Rk.made (E := kyE) (xs := []) e2_ rfl (by unfold maxLen; simp), fun k hk => by cases hk; exact Nat.le_trans hz hb3.size⟩
    have hb4 := hb3.trans (e3_.mono (Nat.le_trans hz hb3.size))
    clear e1_ e2_ e3_ hb3
    go_wp2
    clear c0 c1 c2 c3 c4 c5 i0 i1 k0 k1 k2 k3 bT bI bC bZ
    go_loopg [10, 11] is.length (fun g s10 s11 wr => ∃ (i : Nat) (v : Value), i + g = is.length ∧ s11 = .int .i64 (i : Int) ∧ v = s10 ∧ Ow kyE 9 (w.heap.size + 4) wr v (keysM (is.take i) (d1, d2)) ∧ Below (w.heap.size + 4) w0 wr)
    case atStart => exact ⟨0, _, by omega, rfl, rfl, HK0, hb4⟩
    case round =>
     obtain ⟨i, v, hig, rfl, rfl, hO, hb⟩ := hrel
     clear HK0 hb4
     obtain ⟨-, bT, bI, bC, bZ⟩ := HC.out _ hb
     obtain ⟨c0, c1, c2, c3, c4, c5⟩ := cells6 bT
     obtain ⟨i0, i1⟩ := cells2 bI
     obtain ⟨k0, k1, k2, k3⟩ := cells4 bC
     obtain ⟨va, vc, hva, -⟩ := hO.1.shape
     by_cases hlt : i < is.length
     ·have hlti : (i : Int) < (is.length : Int) := by omega
      have hx : is[i]? = some is[i] := List.getElem?_eq_getElem hlt
      obtain ⟨x, hxx⟩ : ∃ x, x = is[i] := ⟨_, rfl⟩
      rw [← hxx] at hx
      clear hxx
      obtain ⟨b, off, ea, cc⟩ := rdx_at (HR.out wr (HC.out _ hb).1).2.2.2.2 hx
      have hkl := keysM_len is (d1, d2) i
      have hyes := fun h => keys_yes (d := (d1, d2)) hx h
      have hno := fun h => keys_no (d := (d1, d2)) hx h
      subst ea
      obtain ⟨k, ⟨x1, x2⟩, xr⟩ := x
      dsimp only at hyes hno cc
      have hdr : Below wr.heap.size wr wr.drew := (Below.refl _ wr).drew
      have hwz := hb.size
      have bT' := (hdr.block w.heap.size (by omega)).trans bT
      have bI' := (hdr.block (w.heap.size + 1) (by omega)).trans bI
      have hS0 : (fun W => ((W.cell? ⟨w.heap.size, 5, none⟩ = some (.slice (some ⟨b, off, none⟩) is.length ic_) ∧ W.cell? ⟨w.heap.size + 1, 0, none⟩ = some (.int .i64 d1) ∧ W.cell? ⟨w.heap.size + 1, 1, none⟩ = some (.int .u64 (d2 : Int))) ∧ (W.cell? ⟨b, off + i * 6, none⟩ = some (.string (bk k)) ∧ W.cell? ⟨b, off + i * 6 + 1, none⟩ = some (.int .i64 x1) ∧ W.cell? ⟨b, off + i * 6 + 2, none⟩ = some (.int .u64 (x2 : Int)))) ∧ Below wr.heap.size wr W) wr.drew := ⟨⟨⟨(cells6 bT').2.2.2.2.2, (cells2 bI').1, (cells2 bI').2⟩, (cc _ hdr).1, (cc _ hdr).2.1, (cc _ hdr).2.2.1⟩, hdr⟩
      clear bT' bI' hdr hwz
      have hbd := hb.drew
      have hOd := hO.below (Below.refl _ wr).drew
      clear hx hO
      by_cases hd : (x1, x2) = (d1, d2)
      ·have HY : Hid _ := hyes hd
       obtain ⟨h1, h2⟩ : x1 = d1 ∧ x2 = d2 := by simpa using hd
       have h1d : decide (x1 = d1) = true := decide_eq_true h1
       have h2d : decide (x2 = d2) = true := decide_eq_true h2
       clear hyes hno hd h1 h2
       go_wp2
       refine wp_region_L (fun W => ((W.cell? ⟨w.heap.size, 5, none⟩ = some (.slice (some ⟨b, off, none⟩) is.length ic_) ∧ W.cell? ⟨w.heap.size + 1, 0, none⟩ = some (.int .i64 d1) ∧ W.cell? ⟨w.heap.size + 1, 1, none⟩ = some (.int .u64 (d2 : Int))) ∧ (W.cell? ⟨b, off + i * 6, none⟩ = some (.string (bk k)) ∧ W.cell? ⟨b, off + i * 6 + 1, none⟩ = some (.int .i64 x1) ∧ W.cell? ⟨b, off + i * 6 + 2, none⟩ = some (.int .u64 (x2 : Int)))) ∧ Below wr.heap.size wr W) [] (by kernel_rfl) ?_
       have yS : (fun W => ((W.cell? ⟨w.heap.size, 5, none⟩ = some (.slice (some ⟨b, off, none⟩) is.length ic_) ∧ W.cell? ⟨w.heap.size + 1, 0, none⟩ = some (.int .i64 d1) ∧ W.cell? ⟨w.heap.size + 1, 1, none⟩ = some (.int .u64 (d2 : Int))) ∧ (W.cell? ⟨b, off + i * 6, none⟩ = some (.string (bk k)) ∧ W.cell? ⟨b, off + i * 6 + 1, none⟩ = some (.int .i64 x1) ∧ W.cell? ⟨b, off + i * 6 + 2, none⟩ = some (.int .u64 (x2 : Int)))) ∧ Below wr.heap.size wr W) wr.drew := hS0
       refine tkg 0 rfl (by intro w' hS'; obtain ⟨⟨⟨x0, x1_, x2_⟩, x3_, x4_, x5_⟩, xb⟩ := hS'; go_simp <;> rfl) yS ?_
       try simp only [pa, pb, pc, Act.put, pd, pe, pf]
       refine tkg 1 rfl (by intro w' hS'; obtain ⟨⟨⟨x0, x1_, x2_⟩, x3_, x4_, x5_⟩, xb⟩ := hS'; go_simp <;> rfl) yS ?_
       try simp only [pa, pb, pc, Act.put, pd, pe, pf]
       refine tkg 2 rfl (by intro w' hS'; obtain ⟨⟨⟨x0, x1_, x2_⟩, x3_, x4_, x5_⟩, xb⟩ := hS'; go_simp <;> rfl) yS ?_
       try simp only [pa, pb, pc, Act.put, pd, pe, pf]
       refine tkg 3 rfl (by intro w' hS'; obtain ⟨⟨⟨x0, x1_, x2_⟩, x3_, x4_, x5_⟩, xb⟩ := hS'; go_simp <;> rfl) yS ?_
       try simp only [pa, pb, pc, Act.put, pd, pe, pf]
       refine tkg 4 rfl (by intro w' hS'; obtain ⟨⟨⟨x0, x1_, x2_⟩, x3_, x4_, x5_⟩, xb⟩ := hS'; go_simp <;> rfl) yS ?_
       try simp only [pa, pb, pc, Act.put, pd, pe, pf]
       refine tkg 5 rfl (by intro w' hS'; obtain ⟨⟨⟨x0, x1_, x2_⟩, x3_, x4_, x5_⟩, xb⟩ := hS'; go_simp <;> rfl) yS ?_
       try simp only [pa, pb, pc, Act.put, pd, pe, pf]
       refine tkg 6 rfl (by intro w' hS'; obtain ⟨⟨⟨x0, x1_, x2_⟩, x3_, x4_, x5_⟩, xb⟩ := hS'; go_simp <;> rfl) yS ?_
       try simp only [pa, pb, pc, Act.put, pd, pe, pf]
       refine tkg 7 rfl (by intro w' hS'; obtain ⟨⟨⟨x0, x1_, x2_⟩, x3_, x4_, x5_⟩, xb⟩ := hS'; go_simp <;> rfl) yS ?_
       try simp only [pa, pb, pc, Act.put, pd, pe, pf]
       refine wpAnyL_done (by kernel_rfl) (NoPanic.normal ?_) _
       have hw9 : Below wr.heap.size wr wr.drew := (Below.refl _ wr).drew
       clear c0 c1 c2 c3 c4 c5 i0 i1 k0 k1 k2 k3 bT bI bC bZ
       obtain ⟨-, bT, bI, bC, bZ⟩ := HC.out _ hbd
       obtain ⟨c0, c1, c2, c3, c4, c5⟩ := cells6 bT
       obtain ⟨i0, i1⟩ := cells2 bI
       obtain ⟨k0, k1, k2, k3⟩ := cells4 bC
       obtain ⟨u0, -⟩ := cc _ hw9
       have hrunH : Hid _ := push_ky k hOd.1 (by omega)
       have HGP : Hid (∀ v' w', PushT kyE 9 wr.drew v (keysM (is.take i) (d1, d2) ++ [k]) v' w' → Ow kyE 9 (w.heap.size + 4) w' v' (keysM (is.take (i + 1)) (d1, d2)) ∧ Below (w.heap.size + 4) wr.drew w') := fun v' w' hp => by
        rw [HY.out]
        exact hOd.push (Nat.le_trans hz hbd.size) hp
       clear hOd cc HY hw9
       generalize (keysM (is.take i) (d1, d2)).length = kl at *
       subst hva
       go_wp2_with (at_builtin; refine wp_by rfl _ _ _ rfl _ _ rfl rfl hrunH.out ?_)
       intro v6 w6 hp6
       obtain ⟨hO6, hb6⟩ := HGP.out v6 w6 hp6
       have hb06 := hbd.trans hb6
       clear hrunH hp6 hb6 HGP hb hbd
       go_wp2
       go_roundg (gk - 1)
       case measure => omega
       case rel => exact ⟨i + 1, v6, by omega, by go_num, rfl, hO6, hb06⟩
      ·have HN : Hid _ := hno hd
       have hOn : Ow kyE 9 (w.heap.size + 4) wr.drew v (keysM (is.take (i + 1)) (d1, d2)) := by rw [HN.out]; exact hOd
       clear hyes hno HN hOd hkl
       by_cases h1 : x1 = d1
       ·have h2 : ¬ x2 = d2 := fun h2 => hd (by rw [h1, h2])
        have h1d : decide (x1 = d1) = true := decide_eq_true h1
        have h2d : decide (x2 = d2) = false := decide_eq_false h2
        clear hd h1
        go_wp2
        refine wp_region_L (fun W => ((W.cell? ⟨w.heap.size, 5, none⟩ = some (.slice (some ⟨b, off, none⟩) is.length ic_) ∧ W.cell? ⟨w.heap.size + 1, 0, none⟩ = some (.int .i64 d1) ∧ W.cell? ⟨w.heap.size + 1, 1, none⟩ = some (.int .u64 (d2 : Int))) ∧ (W.cell? ⟨b, off + i * 6, none⟩ = some (.string (bk k)) ∧ W.cell? ⟨b, off + i * 6 + 1, none⟩ = some (.int .i64 x1) ∧ W.cell? ⟨b, off + i * 6 + 2, none⟩ = some (.int .u64 (x2 : Int)))) ∧ Below wr.heap.size wr W) [] (by kernel_rfl) ?_
        have yS : (fun W => ((W.cell? ⟨w.heap.size, 5, none⟩ = some (.slice (some ⟨b, off, none⟩) is.length ic_) ∧ W.cell? ⟨w.heap.size + 1, 0, none⟩ = some (.int .i64 d1) ∧ W.cell? ⟨w.heap.size + 1, 1, none⟩ = some (.int .u64 (d2 : Int))) ∧ (W.cell? ⟨b, off + i * 6, none⟩ = some (.string (bk k)) ∧ W.cell? ⟨b, off + i * 6 + 1, none⟩ = some (.int .i64 x1) ∧ W.cell? ⟨b, off + i * 6 + 2, none⟩ = some (.int .u64 (x2 : Int)))) ∧ Below wr.heap.size wr W) wr.drew := hS0
        refine tkg 0 rfl (by intro w' hS'; obtain ⟨⟨⟨x0, x1_, x2_⟩, x3_, x4_, x5_⟩, xb⟩ := hS'; go_simp <;> rfl) yS ?_
        try simp only [pa, pb, pc, Act.put, pd, pe, pf]
        refine tkg 1 rfl (by intro w' hS'; obtain ⟨⟨⟨x0, x1_, x2_⟩, x3_, x4_, x5_⟩, xb⟩ := hS'; go_simp <;> rfl) yS ?_
        try simp only [pa, pb, pc, Act.put, pd, pe, pf]
        refine tkg 2 rfl (by intro w' hS'; obtain ⟨⟨⟨x0, x1_, x2_⟩, x3_, x4_, x5_⟩, xb⟩ := hS'; go_simp <;> rfl) yS ?_
        try simp only [pa, pb, pc, Act.put, pd, pe, pf]
        refine tkg 3 rfl (by intro w' hS'; obtain ⟨⟨⟨x0, x1_, x2_⟩, x3_, x4_, x5_⟩, xb⟩ := hS'; go_simp <;> rfl) yS ?_
        try simp only [pa, pb, pc, Act.put, pd, pe, pf]
        refine tkg 4 rfl (by intro w' hS'; obtain ⟨⟨⟨x0, x1_, x2_⟩, x3_, x4_, x5_⟩, xb⟩ := hS'; go_simp <;> rfl) yS ?_
        try simp only [pa, pb, pc, Act.put, pd, pe, pf]
        refine tkg 5 rfl (by intro w' hS'; obtain ⟨⟨⟨x0, x1_, x2_⟩, x3_, x4_, x5_⟩, xb⟩ := hS'; go_simp <;> rfl) yS ?_
        try simp only [pa, pb, pc, Act.put, pd, pe, pf]
        refine tkg 6 rfl (by intro w' hS'; obtain ⟨⟨⟨x0, x1_, x2_⟩, x3_, x4_, x5_⟩, xb⟩ := hS'; go_simp <;> rfl) yS ?_
        try simp only [pa, pb, pc, Act.put, pd, pe, pf]
        refine tkg 7 rfl (by intro w' hS'; obtain ⟨⟨⟨x0, x1_, x2_⟩, x3_, x4_, x5_⟩, xb⟩ := hS'; go_simp <;> rfl) yS ?_
        try simp only [pa, pb, pc, Act.put, pd, pe, pf]
        refine wpAnyL_done (by kernel_rfl) (NoPanic.normal ?_) _
        go_wp2
        go_roundg (gk - 1)
        case measure => omega
        case rel => exact ⟨i + 1, v, by omega, by go_num, hva, hOn, hbd⟩
       ·have h1d : decide (x1 = d1) = false := decide_eq_false h1
        clear hd
        go_wp2
        refine wp_region_L (fun W => ((W.cell? ⟨w.heap.size, 5, none⟩ = some (.slice (some ⟨b, off, none⟩) is.length ic_) ∧ W.cell? ⟨w.heap.size + 1, 0, none⟩ = some (.int .i64 d1) ∧ W.cell? ⟨w.heap.size + 1, 1, none⟩ = some (.int .u64 (d2 : Int))) ∧ (W.cell? ⟨b, off + i * 6, none⟩ = some (.string (bk k)) ∧ W.cell? ⟨b, off + i * 6 + 1, none⟩ = some (.int .i64 x1) ∧ W.cell? ⟨b, off + i * 6 + 2, none⟩ = some (.int .u64 (x2 : Int)))) ∧ Below wr.heap.size wr W) [] (by kernel_rfl) ?_
        have yS : (fun W => ((W.cell? ⟨w.heap.size, 5, none⟩ = some (.slice (some ⟨b, off, none⟩) is.length ic_) ∧ W.cell? ⟨w.heap.size + 1, 0, none⟩ = some (.int .i64 d1) ∧ W.cell? ⟨w.heap.size + 1, 1, none⟩ = some (.int .u64 (d2 : Int))) ∧ (W.cell? ⟨b, off + i * 6, none⟩ = some (.string (bk k)) ∧ W.cell? ⟨b, off + i * 6 + 1, none⟩ = some (.int .i64 x1) ∧ W.cell? ⟨b, off + i * 6 + 2, none⟩ = some (.int .u64 (x2 : Int)))) ∧ Below wr.heap.size wr W) wr.drew := hS0
        refine tkg 0 rfl (by intro w' hS'; obtain ⟨⟨⟨x0, x1_, x2_⟩, x3_, x4_, x5_⟩, xb⟩ := hS'; go_simp <;> rfl) yS ?_
        try simp only [pa, pb, pc, Act.put, pd, pe, pf]
        refine tkg 1 rfl (by intro w' hS'; obtain ⟨⟨⟨x0, x1_, x2_⟩, x3_, x4_, x5_⟩, xb⟩ := hS'; go_simp <;> rfl) yS ?_
        try simp only [pa, pb, pc, Act.put, pd, pe, pf]
        refine tkg 2 rfl (by intro w' hS'; obtain ⟨⟨⟨x0, x1_, x2_⟩, x3_, x4_, x5_⟩, xb⟩ := hS'; go_simp <;> rfl) yS ?_
        try simp only [pa, pb, pc, Act.put, pd, pe, pf]
        refine tkg 3 rfl (by intro w' hS'; obtain ⟨⟨⟨x0, x1_, x2_⟩, x3_, x4_, x5_⟩, xb⟩ := hS'; go_simp <;> rfl) yS ?_
        try simp only [pa, pb, pc, Act.put, pd, pe, pf]
        refine tkg 4 rfl (by intro w' hS'; obtain ⟨⟨⟨x0, x1_, x2_⟩, x3_, x4_, x5_⟩, xb⟩ := hS'; go_simp <;> rfl) yS ?_
        try simp only [pa, pb, pc, Act.put, pd, pe, pf]
        refine tkg 5 rfl (by intro w' hS'; obtain ⟨⟨⟨x0, x1_, x2_⟩, x3_, x4_, x5_⟩, xb⟩ := hS'; go_simp <;> rfl) yS ?_
        try simp only [pa, pb, pc, Act.put, pd, pe, pf]
        refine tkg 6 rfl (by intro w' hS'; obtain ⟨⟨⟨x0, x1_, x2_⟩, x3_, x4_, x5_⟩, xb⟩ := hS'; go_simp <;> rfl) yS ?_
        try simp only [pa, pb, pc, Act.put, pd, pe, pf]
        refine tkg 7 rfl (by intro w' hS'; obtain ⟨⟨⟨x0, x1_, x2_⟩, x3_, x4_, x5_⟩, xb⟩ := hS'; go_simp <;> rfl) yS ?_
        try simp only [pa, pb, pc, Act.put, pd, pe, pf]
        refine wpAnyL_done (by kernel_rfl) (NoPanic.normal ?_) _
        go_wp2
        go_roundg (gk - 1)
        case measure => omega
        case rel => exact ⟨i + 1, v, by omega, by go_num, hva, hOn, hbd⟩
     ·have hlti : ¬ (i : Int) < (is.length : Int) := by omega
      rw [List.take_of_length_le (by omega)] at hO hva
      obtain ⟨KM, HKM⟩ : ∃ l, Hid (keysM is (d1, d2) = l) := ⟨_, rfl⟩
      have hKL : KM.length ≤ 1024 := by rw [← HKM.out]; have := keysM_len is (d1, d2) is.length; rw [List.take_length] at this; omega
      rw [HKM.out] at hO hva HQ1
      have HOK : Hid (Ow kyE 9 (w.heap.size + 4) wr v KM) := hO
      subst hva
      clear hO
      by_cases hkm : 0 < KM.length
      ·have hkmi : (0 : Int) < (KM.length : Int) := by omega
       have HQ2 : Hid (PM = (if KM = ks then (⟨nw, sp, fr, hs_, ms, is⟩, 0) else (noT, 9))) := by show _ = _; rw [HQ1.out, if_pos hkm]
       clear HQ1 kF HRS HRE HMM HKM
       by_cases hle : KM.length = ks.length
       ·have hleb : ((KM.length : Int) != (ks.length : Int)) = false := by simp [hle]
        have HLE : Hid (KM.length = ks.length) := hle
        clear hle
        have hOR : Rd kyE wr (.slice va KM.length vc) KM := HOK.out.1.rd
        have HORW : Hid (∀ W, Below wr.heap.size wr W → Rd kyE W (.slice va KM.length vc) KM) := fun W hW => hOR.below hW
        clear HOK hOR
        obtain ⟨w4, hw4⟩ : ∃ W, W = wr := ⟨_, rfl⟩
        subst hw4
        go_wp2
        go_loopg [12] KM.length (fun g s12 ws => ∃ j : Nat, j + g = KM.length ∧ s12 = .int .i64 (j : Int) ∧ Below w4.heap.size w4 ws ∧ Hid (KM.take j = ks.take j))
        case atStart => exact ⟨0, by omega, rfl, Below.refl _ _, by show _ = _; simp⟩
        case round =>
         obtain ⟨j, hjg, rfl, hbs, HT⟩ := hrel
         obtain ⟨ws, hws⟩ : ∃ W, W = wr := ⟨_, rfl⟩
         subst hws
         have hbS := hb.trans (hbs.mono (Nat.le_trans hz hb.size))
         clear c0 c1 c2 c3 c4 c5 i0 i1 k0 k1 k2 k3 bT bI bC bZ
         obtain ⟨-, bT, bI, bC, bZ⟩ := HC.out _ hbS
         obtain ⟨c0, c1, c2, c3, c4, c5⟩ := cells6 bT
         obtain ⟨i0, i1⟩ := cells2 bI
         obtain ⟨k0, k1, k2, k3⟩ := cells4 bC
         by_cases hj : j < KM.length
         ·have hji : (j : Int) < (KM.length : Int) := by omega
          have hji2 : (j : Int) < (ks.length : Int) := by have := HLE.out; omega
          have hx : KM[j]? = some KM[j] := List.getElem?_eq_getElem hj
          obtain ⟨x, hxx⟩ : ∃ x, x = KM[j] := ⟨_, rfl⟩
          rw [← hxx] at hx
          clear hxx
          have hy : ks[j]? = some (ks[j]'(by have := HLE.out; omega)) := List.getElem?_eq_getElem (by have := HLE.out; omega)
          obtain ⟨y, hyy⟩ : ∃ x, x = ks[j]'(by have := HLE.out; omega) := ⟨_, rfl⟩
          rw [← hyy] at hy
          clear hyy
          obtain ⟨kb, koff, ea, cy⟩ := rds_at (HK.out ws (HC.out _ hbS).1) hy
          obtain ⟨vb, voff, ev, cx⟩ := rds_at (HORW.out ws hbs) hx
          subst ea ev
          have hdr : Below ws.heap.size ws ws.drew := (Below.refl _ ws).drew
          have hS0 : (fun W => ((W.cell? ⟨w.heap.size + 2, 1, none⟩ = some (.slice (some ⟨kb, koff, none⟩) ks.length cb) ∧ W.cell? ⟨kb, koff + j, none⟩ = some (.string (bk y))) ∧ W.cell? ⟨vb, voff + j, none⟩ = some (.string (bk x))) ∧ Below ws.heap.size ws W) ws.drew := ⟨⟨⟨(cells4 ((hdr.block (w.heap.size + 2) (by have := hbS.size; omega)).trans bC)).2.1, cy _ hdr⟩, cx _ hdr⟩, hdr⟩
          have hbd := hbs.drew
          by_cases hxy : x = y
          ·have HN : Hid (KM.take (j + 1) = ks.take (j + 1)) := eq_take (by rw [hx, hxy]) hy HT.out
           have hxyd : decide (x = y) = true := decide_eq_true hxy
           clear hx hy cx cy HT hxy
           go_wp2
           refine wp_region_L (fun W => ((W.cell? ⟨w.heap.size + 2, 1, none⟩ = some (.slice (some ⟨kb, koff, none⟩) ks.length cb) ∧ W.cell? ⟨kb, koff + j, none⟩ = some (.string (bk y))) ∧ W.cell? ⟨vb, voff + j, none⟩ = some (.string (bk x))) ∧ Below ws.heap.size ws W) [] (by kernel_rfl) ?_
           have yS : (fun W => ((W.cell? ⟨w.heap.size + 2, 1, none⟩ = some (.slice (some ⟨kb, koff, none⟩) ks.length cb) ∧ W.cell? ⟨kb, koff + j, none⟩ = some (.string (bk y))) ∧ W.cell? ⟨vb, voff + j, none⟩ = some (.string (bk x))) ∧ Below ws.heap.size ws W) ws.drew := hS0
           refine tkg 0 rfl (by intro w' hS'; obtain ⟨⟨⟨x0, x1_⟩, x2_⟩, xb⟩ := hS'; go_simp <;> rfl) yS ?_
           try simp only [pa, pb, pc, Act.put, pd, pe, pf]
           refine tkg 1 rfl (by intro w' hS'; obtain ⟨⟨⟨x0, x1_⟩, x2_⟩, xb⟩ := hS'; go_simp <;> rfl) yS ?_
           try simp only [pa, pb, pc, Act.put, pd, pe, pf]
           refine tkg 2 rfl (by intro w' hS'; obtain ⟨⟨⟨x0, x1_⟩, x2_⟩, xb⟩ := hS'; go_simp <;> rfl) yS ?_
           try simp only [pa, pb, pc, Act.put, pd, pe, pf]
           refine tkg 3 rfl (by intro w' hS'; obtain ⟨⟨⟨x0, x1_⟩, x2_⟩, xb⟩ := hS'; go_simp <;> rfl) yS ?_
           try simp only [pa, pb, pc, Act.put, pd, pe, pf]
           refine tkg 4 rfl (by intro w' hS'; obtain ⟨⟨⟨x0, x1_⟩, x2_⟩, xb⟩ := hS'; go_simp <;> rfl) yS ?_
           try simp only [pa, pb, pc, Act.put, pd, pe, pf]
           refine tkg 5 rfl (by intro w' hS'; obtain ⟨⟨⟨x0, x1_⟩, x2_⟩, xb⟩ := hS'; go_simp <;> rfl) yS ?_
           try simp only [pa, pb, pc, Act.put, pd, pe, pf]
           refine tkg 6 rfl (by intro w' hS'; obtain ⟨⟨⟨x0, x1_⟩, x2_⟩, xb⟩ := hS'; go_simp <;> rfl) yS ?_
           try simp only [pa, pb, pc, Act.put, pd, pe, pf]
           refine tkg 7 rfl (by intro w' hS'; obtain ⟨⟨⟨x0, x1_⟩, x2_⟩, xb⟩ := hS'; go_simp <;> rfl) yS ?_
           try simp only [pa, pb, pc, Act.put, pd, pe, pf]
           refine tkg 8 rfl (by intro w' hS'; obtain ⟨⟨⟨x0, x1_⟩, x2_⟩, xb⟩ := hS'; go_simp <;> rfl) yS ?_
           try simp only [pa, pb, pc, Act.put, pd, pe, pf]
           refine tkg 9 rfl (by intro w' hS'; obtain ⟨⟨⟨x0, x1_⟩, x2_⟩, xb⟩ := hS'; go_simp <;> rfl) yS ?_
           try simp only [pa, pb, pc, Act.put, pd, pe, pf]
           refine wpAnyL_done (by kernel_rfl) (NoPanic.normal ?_) _
           go_wp2
           go_roundg (gk - 1)
           case measure => omega
           case rel => exact ⟨j + 1, by omega, by go_num, hbd, HN⟩
          ·have hxyd : decide (x = y) = false := decide_eq_false hxy
           have E : Hid (PM = (noT, 9)) := by
            show _ = _
            rw [HQ2.out, if_neg]
            intro h
            rw [h] at hx
            rw [hx] at hy
            cases hy
            exact hxy rfl
           have hbZ := (hdr.block (w.heap.size + 3) (by have := hbS.size; omega)).trans bZ
           have hbF := hbS.drew
           clear hx hy cx cy HT HQ2
           go_wp2
           refine wp_region_L (fun W => ((W.cell? ⟨w.heap.size + 2, 1, none⟩ = some (.slice (some ⟨kb, koff, none⟩) ks.length cb) ∧ W.cell? ⟨kb, koff + j, none⟩ = some (.string (bk y))) ∧ W.cell? ⟨vb, voff + j, none⟩ = some (.string (bk x))) ∧ Below ws.heap.size ws W) [] (by kernel_rfl) ?_
           have yS : (fun W => ((W.cell? ⟨w.heap.size + 2, 1, none⟩ = some (.slice (some ⟨kb, koff, none⟩) ks.length cb) ∧ W.cell? ⟨kb, koff + j, none⟩ = some (.string (bk y))) ∧ W.cell? ⟨vb, voff + j, none⟩ = some (.string (bk x))) ∧ Below ws.heap.size ws W) ws.drew := hS0
           refine tkg 0 rfl (by intro w' hS'; obtain ⟨⟨⟨x0, x1_⟩, x2_⟩, xb⟩ := hS'; go_simp <;> rfl) yS ?_
           try simp only [pa, pb, pc, Act.put, pd, pe, pf]
           refine tkg 1 rfl (by intro w' hS'; obtain ⟨⟨⟨x0, x1_⟩, x2_⟩, xb⟩ := hS'; go_simp <;> rfl) yS ?_
           try simp only [pa, pb, pc, Act.put, pd, pe, pf]
           refine tkg 2 rfl (by intro w' hS'; obtain ⟨⟨⟨x0, x1_⟩, x2_⟩, xb⟩ := hS'; go_simp <;> rfl) yS ?_
           try simp only [pa, pb, pc, Act.put, pd, pe, pf]
           refine tkg 3 rfl (by intro w' hS'; obtain ⟨⟨⟨x0, x1_⟩, x2_⟩, xb⟩ := hS'; go_simp <;> rfl) yS ?_
           try simp only [pa, pb, pc, Act.put, pd, pe, pf]
           refine tkg 4 rfl (by intro w' hS'; obtain ⟨⟨⟨x0, x1_⟩, x2_⟩, xb⟩ := hS'; go_simp <;> rfl) yS ?_
           try simp only [pa, pb, pc, Act.put, pd, pe, pf]
           refine tkg 5 rfl (by intro w' hS'; obtain ⟨⟨⟨x0, x1_⟩, x2_⟩, xb⟩ := hS'; go_simp <;> rfl) yS ?_
           try simp only [pa, pb, pc, Act.put, pd, pe, pf]
           refine tkg 6 rfl (by intro w' hS'; obtain ⟨⟨⟨x0, x1_⟩, x2_⟩, xb⟩ := hS'; go_simp <;> rfl) yS ?_
           try simp only [pa, pb, pc, Act.put, pd, pe, pf]
           refine tkg 7 rfl (by intro w' hS'; obtain ⟨⟨⟨x0, x1_⟩, x2_⟩, xb⟩ := hS'; go_simp <;> rfl) yS ?_
           try simp only [pa, pb, pc, Act.put, pd, pe, pf]
           refine tkg 8 rfl (by intro w' hS'; obtain ⟨⟨⟨x0, x1_⟩, x2_⟩, xb⟩ := hS'; go_simp <;> rfl) yS ?_
           try simp only [pa, pb, pc, Act.put, pd, pe, pf]
           refine tkg 9 rfl (by intro w' hS'; obtain ⟨⟨⟨x0, x1_⟩, x2_⟩, xb⟩ := hS'; go_simp <;> rfl) yS ?_
           try simp only [pa, pb, pc, Act.put, pd, pe, pf]
           refine wpAnyL_done (by kernel_rfl) (NoPanic.normal ?_) _
           clear c0 c1 c2 c3 c4 c5 i0 i1 k0 k1 k2 k3 bT bI bC bZ
           have bZ := hbZ
           clear hbZ hbS hbs HORW HLE hji hji2 hjg hxyd
           generalize ws.drew = wd at *
           have hbw := (HC.out _ hbF).1
           obtain ⟨⟨f0, f1, f2, f3, f4, f5⟩, z0, z1, z2, z3, z4, z5⟩ := t_cells bZ
           have S6 := set6_block bZ (.int .i64 0) (.slice none 0 0) (.slice none 0 0) (.slice none 0 0) (.slice none 0 0) (.slice none 0 0)
           have B6 := set6_below (.int .i64 0) (.slice none 0 0) (.slice none 0 0) (.slice none 0 0) (.slice none 0 0) (.slice none 0 0) (g := w.heap.size + 3) hbw (by omega)
           unfold set6 at S6 B6
           go_wp2
           (try simp only [Exit.inBlock, Exit.then])
           refine bodyPost_ret (results_tbe rfl _ _ (w.heap.size + 3) _ _ _ _ _ _ rfl S6) rfl ?_
           exact ⟨RPrepT.mk (z := noZ) E.out rfl (noZ_r _), B6⟩
         ·have hji : ¬ (j : Int) < (KM.length : Int) := by omega
          have E : Hid (PM = (⟨nw, sp, fr, hs_, ms, is⟩, 0)) := by
           show _ = _
           have := HT.out
           rw [List.take_of_length_le (by omega), List.take_of_length_le (by have := HLE.out; omega)] at this
           rw [HQ2.out, if_pos this]
          have hbw := (HC.out _ hbS).1
          obtain ⟨⟨f0, f1, f2, f3, f4, f5⟩, z0, z1, z2, z3, z4, z5⟩ := t_cells bZ
          have S6 := set6_block bZ (.int .i64 nw) (.slice sa sp.length sc) (.slice fa fr.length fc) (.slice ha hs_.length hc) (.slice ma ms.length mc) (.slice ia is.length ic_)
          have B6 := set6_below (.int .i64 nw) (.slice sa sp.length sc) (.slice fa fr.length fc) (.slice ha hs_.length hc) (.slice ma ms.length mc) (.slice ia is.length ic_) (g := w.heap.size + 3) hbw (by omega)
          unfold set6 at S6 B6
          clear HT HQ2
          go_wp2
          (try simp only [Exit.inBlock, Exit.then])
          refine bodyPost_ret (results_tbe rfl _ _ (w.heap.size + 3) _ _ _ _ _ _ rfl S6) rfl ?_
          exact ⟨RPrepT.mk (z := ⟨⟨nw, sp, fr, hs_, ms, is⟩, (sa, sc), (fa, fc), (ha, hc), (ma, mc), (ia, ic_)⟩) E.out rfl (HR.out _ B6), B6⟩
       ·have hleb : ((KM.length : Int) != (ks.length : Int)) = true := by rw [bne_iff_ne]; omega
        have E : Hid (PM = (noT, 9)) := by show _ = _; rw [HQ2.out, if_neg (fun h => hle (by rw [h]))]
        clear HQ2 HOK
        have hbw := (HC.out _ hb).1
        obtain ⟨⟨f0, f1, f2, f3, f4, f5⟩, z0, z1, z2, z3, z4, z5⟩ := t_cells bZ
        have S6 := set6_block bZ (.int .i64 0) (.slice none 0 0) (.slice none 0 0) (.slice none 0 0) (.slice none 0 0) (.slice none 0 0)
        have B6 := set6_below (.int .i64 0) (.slice none 0 0) (.slice none 0 0) (.slice none 0 0) (.slice none 0 0) (.slice none 0 0) (g := w.heap.size + 3) hbw (by omega)
        unfold set6 at S6 B6
        go_wp2
        (try simp only [Exit.inBlock, Exit.then])
        refine bodyPost_ret (results_tbe rfl _ _ (w.heap.size + 3) _ _ _ _ _ _ rfl S6) rfl ?_
        exact ⟨RPrepT.mk (z := noZ) E.out rfl (noZ_r _), B6⟩
      have hkmi : ¬ (0 : Int) < (KM.length : Int) := by omega
      have HQ2 : Hid (PM = (if RA 0 ≠ 0 then (noT, RA 0) else if 1024 < hs_.length + ms.length + is.length + ks.length then (noT, 2) else (⟨nw, sp, fr, hs_, ms, MM⟩, 0))) := by show _ = _; rw [HQ1.out, if_neg hkm]
      clear HQ1 HOK HKM hkm
      go_wp2
      clear c0 c1 c2 c3 c4 c5 i0 i1 k0 k1 k2 k3 bT bI bC bZ
      go_loopg [13] ks.length (fun g s13 ws => ∃ j : Nat, j + g = ks.length ∧ s13 = .int .i64 (j : Int) ∧ Below (w.heap.size + 4) w0 ws ∧ Hid (RA 0 = RA j))
      case atStart => exact ⟨0, by omega, rfl, hb, by show _ = _; rfl⟩
      case round =>
       obtain ⟨j, hjg, rfl, hbs, HT⟩ := hrel
       clear hb
       obtain ⟨-, bT, bI, bC, bZ⟩ := HC.out _ hbs
       obtain ⟨c0, c1, c2, c3, c4, c5⟩ := cells6 bT
       obtain ⟨i0, i1⟩ := cells2 bI
       obtain ⟨k0, k1, k2, k3⟩ := cells4 bC
       by_cases hj : j < ks.length
       ·have hji : (j : Int) < (ks.length : Int) := by omega
        have hy : ks[j]? = some ks[j] := List.getElem?_eq_getElem hj
        obtain ⟨y, hyy⟩ : ∃ x, x = ks[j] := ⟨_, rfl⟩
        rw [← hyy] at hy
        clear hyy
        have HS := HRS.out j y hy
        obtain ⟨kb, koff, ea, cy⟩ := rds_at (HK.out w (Below.refl _ _)) hy
        subst ea
        have hmem := List.mem_of_getElem? hy
        have cl : ∀ W, Below (w.heap.size + 4) w0 W → (fun W => (W.cell? ⟨w.heap.size, 0, none⟩ = some (.int .i64 nw) ∧ W.cell? ⟨w.heap.size, 1, none⟩ = some (.slice sa sp.length sc) ∧ W.cell? ⟨w.heap.size, 2, none⟩ = some (.slice fa fr.length fc) ∧ W.cell? ⟨w.heap.size, 3, none⟩ = some (.slice ha hs_.length hc) ∧ W.cell? ⟨w.heap.size, 4, none⟩ = some (.slice ma ms.length mc) ∧ W.cell? ⟨w.heap.size, 5, none⟩ = some (.slice ia is.length ic_)) ∧ (W.cell? ⟨w.heap.size + 2, 0, none⟩ = some (.int .i64 kd) ∧ W.cell? ⟨w.heap.size + 2, 1, none⟩ = some (.slice (some ⟨kb, koff, none⟩) ks.length cb) ∧ W.cell? ⟨w.heap.size + 2, 2, none⟩ = some (.int .u64 (ct : Int)) ∧ W.cell? ⟨w.heap.size + 2, 3, none⟩ = some (.int .i64 tt) ∧ W.cell? ⟨kb, koff + j, none⟩ = some (.string (bk y))) ∧ Below (w.heap.size + 4) w0 W) W := fun W hW => ⟨cells6 (HC.out _ hW).2.1, ⟨(cells4 (HC.out _ hW).2.2.2.1).1, (cells4 (HC.out _ hW).2.2.2.1).2.1, (cells4 (HC.out _ hW).2.2.2.1).2.2.1, (cells4 (HC.out _ hW).2.2.2.1).2.2.2, cy _ (HC.out _ hW).1⟩, hW⟩
        have kf : ∀ W, (fun W => (W.cell? ⟨w.heap.size, 0, none⟩ = some (.int .i64 nw) ∧ W.cell? ⟨w.heap.size, 1, none⟩ = some (.slice sa sp.length sc) ∧ W.cell? ⟨w.heap.size, 2, none⟩ = some (.slice fa fr.length fc) ∧ W.cell? ⟨w.heap.size, 3, none⟩ = some (.slice ha hs_.length hc) ∧ W.cell? ⟨w.heap.size, 4, none⟩ = some (.slice ma ms.length mc) ∧ W.cell? ⟨w.heap.size, 5, none⟩ = some (.slice ia is.length ic_)) ∧ (W.cell? ⟨w.heap.size + 2, 0, none⟩ = some (.int .i64 kd) ∧ W.cell? ⟨w.heap.size + 2, 1, none⟩ = some (.slice (some ⟨kb, koff, none⟩) ks.length cb) ∧ W.cell? ⟨w.heap.size + 2, 2, none⟩ = some (.int .u64 (ct : Int)) ∧ W.cell? ⟨w.heap.size + 2, 3, none⟩ = some (.int .i64 tt) ∧ W.cell? ⟨kb, koff + j, none⟩ = some (.string (bk y))) ∧ Below (w.heap.size + 4) w0 W) W → Calls Tryz.prog 44 #[.agg #[.int .i64 nw, .slice sa sp.length sc, .slice fa fr.length fc, .slice ha hs_.length hc, .slice ma ms.length mc, .slice ia is.length ic_], .string (bk y), .agg #[.int .i64 kd, .slice (some ⟨kb, koff, none⟩) ks.length cb, .int .u64 (ct : Int), .int .i64 tt], .int .u64 (tk : Int)] W fun e w' => e = .returned (.int .i64 (RO y)) ∧ (fun W => (W.cell? ⟨w.heap.size, 0, none⟩ = some (.int .i64 nw) ∧ W.cell? ⟨w.heap.size, 1, none⟩ = some (.slice sa sp.length sc) ∧ W.cell? ⟨w.heap.size, 2, none⟩ = some (.slice fa fr.length fc) ∧ W.cell? ⟨w.heap.size, 3, none⟩ = some (.slice ha hs_.length hc) ∧ W.cell? ⟨w.heap.size, 4, none⟩ = some (.slice ma ms.length mc) ∧ W.cell? ⟨w.heap.size, 5, none⟩ = some (.slice ia is.length ic_)) ∧ (W.cell? ⟨w.heap.size + 2, 0, none⟩ = some (.int .i64 kd) ∧ W.cell? ⟨w.heap.size + 2, 1, none⟩ = some (.slice (some ⟨kb, koff, none⟩) ks.length cb) ∧ W.cell? ⟨w.heap.size + 2, 2, none⟩ = some (.int .u64 (ct : Int)) ∧ W.cell? ⟨w.heap.size + 2, 3, none⟩ = some (.int .i64 tt) ∧ W.cell? ⟨kb, koff + j, none⟩ = some (.string (bk y))) ∧ Below (w.heap.size + 4) w0 W) w' := fun W hW => by
         refine (kF.out y hmem W (HC.out _ hW.2.2).1).mono ?_
         rintro e w' ⟨rfl, hb'⟩
         exact ⟨rfl, cl w' (keep_step hW.2.2 hz hb')⟩
        have hS0 : (fun W => (W.cell? ⟨w.heap.size, 0, none⟩ = some (.int .i64 nw) ∧ W.cell? ⟨w.heap.size, 1, none⟩ = some (.slice sa sp.length sc) ∧ W.cell? ⟨w.heap.size, 2, none⟩ = some (.slice fa fr.length fc) ∧ W.cell? ⟨w.heap.size, 3, none⟩ = some (.slice ha hs_.length hc) ∧ W.cell? ⟨w.heap.size, 4, none⟩ = some (.slice ma ms.length mc) ∧ W.cell? ⟨w.heap.size, 5, none⟩ = some (.slice ia is.length ic_)) ∧ (W.cell? ⟨w.heap.size + 2, 0, none⟩ = some (.int .i64 kd) ∧ W.cell? ⟨w.heap.size + 2, 1, none⟩ = some (.slice (some ⟨kb, koff, none⟩) ks.length cb) ∧ W.cell? ⟨w.heap.size + 2, 2, none⟩ = some (.int .u64 (ct : Int)) ∧ W.cell? ⟨w.heap.size + 2, 3, none⟩ = some (.int .i64 tt) ∧ W.cell? ⟨kb, koff + j, none⟩ = some (.string (bk y))) ∧ Below (w.heap.size + 4) w0 W) wr.drew := cl _ hbs.drew
        clear hy cy hmem cl
        by_cases hro : RO y = 0
        ·have HN : Hid (RA 0 = RA (j + 1)) := by show _ = _; rw [HT.out, HS, if_neg (fun h => h hro)]
         have hrob : (RO y != 0) = false := by simp [hro]
         clear HS HT hro kF
         go_wp2
         refine wp_region_L (fun W => (W.cell? ⟨w.heap.size, 0, none⟩ = some (.int .i64 nw) ∧ W.cell? ⟨w.heap.size, 1, none⟩ = some (.slice sa sp.length sc) ∧ W.cell? ⟨w.heap.size, 2, none⟩ = some (.slice fa fr.length fc) ∧ W.cell? ⟨w.heap.size, 3, none⟩ = some (.slice ha hs_.length hc) ∧ W.cell? ⟨w.heap.size, 4, none⟩ = some (.slice ma ms.length mc) ∧ W.cell? ⟨w.heap.size, 5, none⟩ = some (.slice ia is.length ic_)) ∧ (W.cell? ⟨w.heap.size + 2, 0, none⟩ = some (.int .i64 kd) ∧ W.cell? ⟨w.heap.size + 2, 1, none⟩ = some (.slice (some ⟨kb, koff, none⟩) ks.length cb) ∧ W.cell? ⟨w.heap.size + 2, 2, none⟩ = some (.int .u64 (ct : Int)) ∧ W.cell? ⟨w.heap.size + 2, 3, none⟩ = some (.int .i64 tt) ∧ W.cell? ⟨kb, koff + j, none⟩ = some (.string (bk y))) ∧ Below (w.heap.size + 4) w0 W) [] (by kernel_rfl) ?_
         have yS : (fun W => (W.cell? ⟨w.heap.size, 0, none⟩ = some (.int .i64 nw) ∧ W.cell? ⟨w.heap.size, 1, none⟩ = some (.slice sa sp.length sc) ∧ W.cell? ⟨w.heap.size, 2, none⟩ = some (.slice fa fr.length fc) ∧ W.cell? ⟨w.heap.size, 3, none⟩ = some (.slice ha hs_.length hc) ∧ W.cell? ⟨w.heap.size, 4, none⟩ = some (.slice ma ms.length mc) ∧ W.cell? ⟨w.heap.size, 5, none⟩ = some (.slice ia is.length ic_)) ∧ (W.cell? ⟨w.heap.size + 2, 0, none⟩ = some (.int .i64 kd) ∧ W.cell? ⟨w.heap.size + 2, 1, none⟩ = some (.slice (some ⟨kb, koff, none⟩) ks.length cb) ∧ W.cell? ⟨w.heap.size + 2, 2, none⟩ = some (.int .u64 (ct : Int)) ∧ W.cell? ⟨w.heap.size + 2, 3, none⟩ = some (.int .i64 tt) ∧ W.cell? ⟨kb, koff + j, none⟩ = some (.string (bk y))) ∧ Below (w.heap.size + 4) w0 W) wr.drew := hS0
         refine tkg 0 rfl (by intro w' hS'; obtain ⟨⟨x0, x1_, x2_, x3_, x4_, x5_⟩, ⟨x6_, x7_, x8_, x9_, xa_⟩, xb⟩ := hS'; go_simp <;> rfl) yS ?_
         try simp only [pa, pb, pc, Act.put, pd, pe, pf]
         refine tkg 1 rfl (by intro w' hS'; obtain ⟨⟨x0, x1_, x2_, x3_, x4_, x5_⟩, ⟨x6_, x7_, x8_, x9_, xa_⟩, xb⟩ := hS'; go_simp <;> rfl) yS ?_
         try simp only [pa, pb, pc, Act.put, pd, pe, pf]
         refine tkg 2 rfl (by intro w' hS'; obtain ⟨⟨x0, x1_, x2_, x3_, x4_, x5_⟩, ⟨x6_, x7_, x8_, x9_, xa_⟩, xb⟩ := hS'; go_simp <;> rfl) yS ?_
         try simp only [pa, pb, pc, Act.put, pd, pe, pf]
         refine tkg 3 rfl (by intro w' hS'; obtain ⟨⟨x0, x1_, x2_, x3_, x4_, x5_⟩, ⟨x6_, x7_, x8_, x9_, xa_⟩, xb⟩ := hS'; go_simp <;> rfl) yS ?_
         try simp only [pa, pb, pc, Act.put, pd, pe, pf]
         refine tkg 4 rfl (by intro w' hS'; obtain ⟨⟨x0, x1_, x2_, x3_, x4_, x5_⟩, ⟨x6_, x7_, x8_, x9_, xa_⟩, xb⟩ := hS'; go_simp <;> rfl) yS ?_
         try simp only [pa, pb, pc, Act.put, pd, pe, pf]
         refine tkg 5 rfl (by intro w' hS'; obtain ⟨⟨x0, x1_, x2_, x3_, x4_, x5_⟩, ⟨x6_, x7_, x8_, x9_, xa_⟩, xb⟩ := hS'; go_simp <;> rfl) yS ?_
         try simp only [pa, pb, pc, Act.put, pd, pe, pf]
         refine tkg 6 rfl (by intro w' hS'; obtain ⟨⟨x0, x1_, x2_, x3_, x4_, x5_⟩, ⟨x6_, x7_, x8_, x9_, xa_⟩, xb⟩ := hS'; go_simp <;> rfl) yS ?_
         try simp only [pa, pb, pc, Act.put, pd, pe, pf]
         refine tkg 7 rfl (by intro w' hS'; obtain ⟨⟨x0, x1_, x2_, x3_, x4_, x5_⟩, ⟨x6_, x7_, x8_, x9_, xa_⟩, xb⟩ := hS'; go_simp <;> rfl) yS ?_
         try simp only [pa, pb, pc, Act.put, pd, pe, pf]
         refine wpAnyL_one 8 (by kernel_rfl) rfl (by kernel_rfl) ?_
         intro K' hK'
         go_simp
         go_at_call 44
         refine (kf _ yS).mono ?_
         rintro e W1 ⟨rfl, hS1⟩
         refine hK'.out _ _ (.inr hS1) ?_
         clear hK' K'
         try simp only [pa, pb, pc, Act.put, pd, pe, pf]
         refine tkg 9 rfl (by intro w' hS'; obtain ⟨⟨x0, x1_, x2_, x3_, x4_, x5_⟩, ⟨x6_, x7_, x8_, x9_, xa_⟩, xb⟩ := hS'; go_simp <;> rfl) hS1 ?_
         try simp only [pa, pb, pc, Act.put, pd, pe, pf]
         refine wpAnyL_done (by kernel_rfl) (NoPanic.normal ?_) _
         go_wp2
         go_roundg (gk - 1)
         case measure => omega
         case rel => exact ⟨j + 1, by omega, by go_num, hS1.2.2, HN⟩
        ·have hrob : (RO y != 0) = true := by simpa using hro
         have E : Hid (PM = (noT, RO y)) := by show _ = _; rw [HQ2.out, HT.out, HS, if_pos hro, if_pos hro]
         clear HS HT hro kF HQ2
         go_wp2
         refine wp_region_L (fun W => (W.cell? ⟨w.heap.size, 0, none⟩ = some (.int .i64 nw) ∧ W.cell? ⟨w.heap.size, 1, none⟩ = some (.slice sa sp.length sc) ∧ W.cell? ⟨w.heap.size, 2, none⟩ = some (.slice fa fr.length fc) ∧ W.cell? ⟨w.heap.size, 3, none⟩ = some (.slice ha hs_.length hc) ∧ W.cell? ⟨w.heap.size, 4, none⟩ = some (.slice ma ms.length mc) ∧ W.cell? ⟨w.heap.size, 5, none⟩ = some (.slice ia is.length ic_)) ∧ (W.cell? ⟨w.heap.size + 2, 0, none⟩ = some (.int .i64 kd) ∧ W.cell? ⟨w.heap.size + 2, 1, none⟩ = some (.slice (some ⟨kb, koff, none⟩) ks.length cb) ∧ W.cell? ⟨w.heap.size + 2, 2, none⟩ = some (.int .u64 (ct : Int)) ∧ W.cell? ⟨w.heap.size + 2, 3, none⟩ = some (.int .i64 tt) ∧ W.cell? ⟨kb, koff + j, none⟩ = some (.string (bk y))) ∧ Below (w.heap.size + 4) w0 W) [] (by kernel_rfl) ?_
         have yS : (fun W => (W.cell? ⟨w.heap.size, 0, none⟩ = some (.int .i64 nw) ∧ W.cell? ⟨w.heap.size, 1, none⟩ = some (.slice sa sp.length sc) ∧ W.cell? ⟨w.heap.size, 2, none⟩ = some (.slice fa fr.length fc) ∧ W.cell? ⟨w.heap.size, 3, none⟩ = some (.slice ha hs_.length hc) ∧ W.cell? ⟨w.heap.size, 4, none⟩ = some (.slice ma ms.length mc) ∧ W.cell? ⟨w.heap.size, 5, none⟩ = some (.slice ia is.length ic_)) ∧ (W.cell? ⟨w.heap.size + 2, 0, none⟩ = some (.int .i64 kd) ∧ W.cell? ⟨w.heap.size + 2, 1, none⟩ = some (.slice (some ⟨kb, koff, none⟩) ks.length cb) ∧ W.cell? ⟨w.heap.size + 2, 2, none⟩ = some (.int .u64 (ct : Int)) ∧ W.cell? ⟨w.heap.size + 2, 3, none⟩ = some (.int .i64 tt) ∧ W.cell? ⟨kb, koff + j, none⟩ = some (.string (bk y))) ∧ Below (w.heap.size + 4) w0 W) wr.drew := hS0
         refine tkg 0 rfl (by intro w' hS'; obtain ⟨⟨x0, x1_, x2_, x3_, x4_, x5_⟩, ⟨x6_, x7_, x8_, x9_, xa_⟩, xb⟩ := hS'; go_simp <;> rfl) yS ?_
         try simp only [pa, pb, pc, Act.put, pd, pe, pf]
         refine tkg 1 rfl (by intro w' hS'; obtain ⟨⟨x0, x1_, x2_, x3_, x4_, x5_⟩, ⟨x6_, x7_, x8_, x9_, xa_⟩, xb⟩ := hS'; go_simp <;> rfl) yS ?_
         try simp only [pa, pb, pc, Act.put, pd, pe, pf]
         refine tkg 2 rfl (by intro w' hS'; obtain ⟨⟨x0, x1_, x2_, x3_, x4_, x5_⟩, ⟨x6_, x7_, x8_, x9_, xa_⟩, xb⟩ := hS'; go_simp <;> rfl) yS ?_
         try simp only [pa, pb, pc, Act.put, pd, pe, pf]
         refine tkg 3 rfl (by intro w' hS'; obtain ⟨⟨x0, x1_, x2_, x3_, x4_, x5_⟩, ⟨x6_, x7_, x8_, x9_, xa_⟩, xb⟩ := hS'; go_simp <;> rfl) yS ?_
         try simp only [pa, pb, pc, Act.put, pd, pe, pf]
         refine tkg 4 rfl (by intro w' hS'; obtain ⟨⟨x0, x1_, x2_, x3_, x4_, x5_⟩, ⟨x6_, x7_, x8_, x9_, xa_⟩, xb⟩ := hS'; go_simp <;> rfl) yS ?_
         try simp only [pa, pb, pc, Act.put, pd, pe, pf]
         refine tkg 5 rfl (by intro w' hS'; obtain ⟨⟨x0, x1_, x2_, x3_, x4_, x5_⟩, ⟨x6_, x7_, x8_, x9_, xa_⟩, xb⟩ := hS'; go_simp <;> rfl) yS ?_
         try simp only [pa, pb, pc, Act.put, pd, pe, pf]
         refine tkg 6 rfl (by intro w' hS'; obtain ⟨⟨x0, x1_, x2_, x3_, x4_, x5_⟩, ⟨x6_, x7_, x8_, x9_, xa_⟩, xb⟩ := hS'; go_simp <;> rfl) yS ?_
         try simp only [pa, pb, pc, Act.put, pd, pe, pf]
         refine tkg 7 rfl (by intro w' hS'; obtain ⟨⟨x0, x1_, x2_, x3_, x4_, x5_⟩, ⟨x6_, x7_, x8_, x9_, xa_⟩, xb⟩ := hS'; go_simp <;> rfl) yS ?_
         try simp only [pa, pb, pc, Act.put, pd, pe, pf]
         refine wpAnyL_one 8 (by kernel_rfl) rfl (by kernel_rfl) ?_
         intro K' hK'
         go_simp
         go_at_call 44
         refine (kf _ yS).mono ?_
         rintro e W1 ⟨rfl, hS1⟩
         refine hK'.out _ _ (.inr hS1) ?_
         clear hK' K'
         try simp only [pa, pb, pc, Act.put, pd, pe, pf]
         refine tkg 9 rfl (by intro w' hS'; obtain ⟨⟨x0, x1_, x2_, x3_, x4_, x5_⟩, ⟨x6_, x7_, x8_, x9_, xa_⟩, xb⟩ := hS'; go_simp <;> rfl) hS1 ?_
         try simp only [pa, pb, pc, Act.put, pd, pe, pf]
         refine wpAnyL_done (by kernel_rfl) (NoPanic.normal ?_) _
         have hb1 := hS1.2.2
         clear c0 c1 c2 c3 c4 c5 i0 i1 k0 k1 k2 k3 bT bI bC bZ
         obtain ⟨-, bT, bI, bC, bZ⟩ := HC.out _ hb1
         obtain ⟨c0, c1, c2, c3, c4, c5⟩ := cells6 bT
         obtain ⟨i0, i1⟩ := cells2 bI
         obtain ⟨k0, k1, k2, k3⟩ := cells4 bC
         have hbw := (HC.out _ hb1).1
         obtain ⟨⟨f0, f1, f2, f3, f4, f5⟩, z0, z1, z2, z3, z4, z5⟩ := t_cells bZ
         have S6 := set6_block bZ (.int .i64 0) (.slice none 0 0) (.slice none 0 0) (.slice none 0 0) (.slice none 0 0) (.slice none 0 0)
         have B6 := set6_below (.int .i64 0) (.slice none 0 0) (.slice none 0 0) (.slice none 0 0) (.slice none 0 0) (.slice none 0 0) (g := w.heap.size + 3) hbw (by omega)
         unfold set6 at S6 B6
         go_wp2
         (try simp only [Exit.inBlock, Exit.then])
         refine bodyPost_ret (results_tbe rfl _ _ (w.heap.size + 3) _ _ _ _ _ _ rfl S6) rfl ?_
         exact ⟨RPrepT.mk (z := noZ) E.out rfl (noZ_r _), B6⟩
       ·have hji : ¬ (j : Int) < (ks.length : Int) := by omega
        have hjl : j = ks.length := by omega
        have HQ3 : Hid (PM = (if 1024 < hs_.length + ms.length + is.length + ks.length then (noT, 2) else (⟨nw, sp, fr, hs_, ms, MM⟩, 0))) := by show _ = _; rw [HQ2.out, HT.out, hjl, HRE.out, if_neg (fun h => h rfl)]
        clear HQ2 HT HRS HRE kF hjl
        have j1 : IntKind.i64.wrap ((hs_.length : Int) + (ms.length : Int)) = (hs_.length : Int) + (ms.length : Int) := IntWalk.i64_in _ (by omega)
        have j2 : IntKind.i64.wrap ((hs_.length : Int) + (ms.length : Int) + (is.length : Int)) = (hs_.length : Int) + (ms.length : Int) + (is.length : Int) := IntWalk.i64_in _ (by omega)
        have j3 : IntKind.i64.wrap ((hs_.length : Int) + (ms.length : Int) + (is.length : Int) + (ks.length : Int)) = (hs_.length : Int) + (ms.length : Int) + (is.length : Int) + (ks.length : Int) := IntWalk.i64_in _ (by omega)
        by_cases hfl : 1024 < hs_.length + ms.length + is.length + ks.length
        ·have hfi : (1024 : Int) < (hs_.length : Int) + (ms.length : Int) + (is.length : Int) + (ks.length : Int) := by omega
         have hfd : decide ((1024 : Int) < (hs_.length : Int) + (ms.length : Int) + (is.length : Int) + (ks.length : Int)) = true := decide_eq_true hfi
         have E : Hid (PM = (noT, 2)) := by show _ = _; rw [HQ3.out, if_pos hfl]
         clear HQ3 hfl
         have hbw := (HC.out _ hbs).1
         obtain ⟨⟨f0, f1, f2, f3, f4, f5⟩, z0, z1, z2, z3, z4, z5⟩ := t_cells bZ
         have S6 := set6_block bZ (.int .i64 0) (.slice none 0 0) (.slice none 0 0) (.slice none 0 0) (.slice none 0 0) (.slice none 0 0)
         have B6 := set6_below (.int .i64 0) (.slice none 0 0) (.slice none 0 0) (.slice none 0 0) (.slice none 0 0) (.slice none 0 0) (g := w.heap.size + 3) hbw (by omega)
         unfold set6 at S6 B6
         go_wp2
         (try simp only [Exit.inBlock, Exit.then])
         refine bodyPost_ret (results_tbe rfl _ _ (w.heap.size + 3) _ _ _ _ _ _ rfl S6) rfl ?_
         exact ⟨RPrepT.mk (z := noZ) E.out rfl (noZ_r _), B6⟩
        ·have hfi : ¬ (1024 : Int) < (hs_.length : Int) + (ms.length : Int) + (is.length : Int) + (ks.length : Int) := by omega
         have hfd : decide ((1024 : Int) < (hs_.length : Int) + (ms.length : Int) + (is.length : Int) + (ks.length : Int)) = false := decide_eq_false hfi
         have E : Hid (PM = (⟨nw, sp, fr, hs_, ms, MM⟩, 0)) := by show _ = _; rw [HQ3.out, if_neg hfl]
         clear HQ3 hfl
         go_wp2
         clear j1 j2 j3 hfi hfd hji
         clear c0 c1 c2 c3 c4 c5 i0 i1 k0 k1 k2 k3 bT bI bC bZ
         obtain ⟨e1_, e2_, e3_⟩ := one_box wr (.cells #[] 63)
         have HO0 : Ow itE 63 (w.heap.size + 4) (wr.alloc (.cells #[] 63)) (.slice (some ⟨wr.heap.size, 0, none⟩) 0 0) ([] : List It) := ⟨Rk.made (E := itE) (xs := []) e2_ rfl (by unfold maxLen; simp), fun k hk => by cases hk; exact Nat.le_trans hz hbs.size⟩
         have hbO := hbs.trans (e3_.mono (Nat.le_trans hz hbs.size))
         obtain ⟨MO, HMO⟩ : ∃ l, Hid (moreM ks (d1, d2) kd (tokM kd ct tk) tt = l) := ⟨_, rfl⟩
         have HML : Hid (MO.length = ks.length) := by show _ = _; rw [← HMO.out, more_length]
         have HMG : Hid (∀ (i : Nat) (k : K), ks[i]? = some k → MO[i]? = some (k, (d1, d2), kd, tokM kd ct tk, tt)) := fun i k h => by rw [← HMO.out]; exact more_get h
         have HM0 : Hid (([] : List It) ++ mrg (is.drop 0) (MO.drop 0) = MM) := by show _ = _; rw [HMM.out, HMO.out]; rfl
         clear HMM HMO e1_ e2_ e3_ hbs hjg
         go_loopg [15, 16, 17] (is.length + 1) (fun g s15 s16 s17 wo => ∃ (i m : Nat) (v : Value) (OUT : List It), i + g = is.length + 1 ∧ s17 = .int .i64 (i : Int) ∧ s16 = .int .i64 (m : Int) ∧ v = s15 ∧ Ow itE 63 (w.heap.size + 4) wo v OUT ∧ Below (w.heap.size + 4) w0 wo ∧ m ≤ ks.length ∧ Hid (OUT ++ mrg (is.drop i) (MO.drop m) = MM) ∧ Hid (i = is.length + 1 → m = ks.length) ∧ OUT.length ≤ i + m)
         case atStart => exact ⟨0, 0, _, [], by omega, rfl, rfl, rfl, HO0, hbO, Nat.zero_le _, HM0, (fun h => by omega), Nat.zero_le _⟩
         case round =>
          obtain ⟨i, m0, v, OUT, hig, rfl, rfl, rfl, hO, hb, hm0, HT, HI, hol⟩ := hrel
          clear HO0 hbO HM0
          obtain ⟨-, bT, bI, bC, bZ⟩ := HC.out _ hb
          obtain ⟨c0, c1, c2, c3, c4, c5⟩ := cells6 bT
          obtain ⟨i0, i1⟩ := cells2 bI
          obtain ⟨k0, k1, k2, k3⟩ := cells4 bC
          by_cases hil : i ≤ is.length
          ·have hili : (i : Int) ≤ (is.length : Int) := by omega
           obtain ⟨gE, hgE⟩ : ∃ gE, gE = gk := ⟨_, rfl⟩
           subst hgE
           clear HI
           go_wp2
           clear c0 c1 c2 c3 c4 c5 i0 i1 k0 k1 k2 k3 bT bI bC bZ
           go_loopg [15, 16] (ks.length - m0) (fun g s15 s16 wi => ∃ (m : Nat) (v : Value) (OUT : List It), m + g = ks.length ∧ s16 = .int .i64 (m : Int) ∧ v = s15 ∧ Ow itE 63 (w.heap.size + 4) wi v OUT ∧ Below (w.heap.size + 4) w0 wi ∧ Hid (OUT ++ mrg (is.drop i) (MO.drop m) = MM) ∧ OUT.length ≤ i + m)
           case atStart => exact ⟨m0, _, OUT, by omega, rfl, rfl, hO, hb, HT, hol⟩
           case round =>
            obtain ⟨m, v, OUT, hmg, rfl, rfl, hO, hb, HT, hol⟩ := hrel
            obtain ⟨-, bT, bI, bC, bZ⟩ := HC.out _ hb
            obtain ⟨c0, c1, c2, c3, c4, c5⟩ := cells6 bT
            obtain ⟨i0, i1⟩ := cells2 bI
            obtain ⟨k0, k1, k2, k3⟩ := cells4 bC
            by_cases hm : m < ks.length
            ·have hmi : (m : Int) < (ks.length : Int) := by omega
             have hy : ks[m]? = some ks[m] := List.getElem?_eq_getElem hm
             obtain ⟨k, hkk⟩ : ∃ x, x = ks[m] := ⟨_, rfl⟩
             rw [← hkk] at hy
             clear hkk
             have hyk : Hid (ks[m]? = some k) := hy
             obtain ⟨kb, koff, ea, cyk⟩ := rds_at (HK.out w (Below.refl _ _)) hy
             subst ea
             clear hy
             by_cases hi2 : i < is.length
             ·have hx : is[i]? = some is[i] := List.getElem?_eq_getElem hi2
              obtain ⟨x, hxx⟩ : ∃ x, x = is[i] := ⟨_, rfl⟩
              rw [← hxx] at hx
              clear hxx
              have HX : Hid (is[i]? = some x) := hx
              obtain ⟨b, off, ea, cx⟩ := rdx_at (HR.out w (Below.refl _ _)).2.2.2.2 hx
              subst ea
              clear hx
              obtain ⟨xk, ⟨x1, x2⟩, xkd, xtk, xtt⟩ := x
              dsimp only at cx
              have hi2i : (i : Int) < (is.length : Int) := by omega
              have hib : ((i : Int) == (is.length : Int)) = false := by simp; omega
              by_cases hlt : k < xk
              ·have hltd : decide (k < xk) = true := decide_eq_true hlt
               have HLT : Hid (k < xk) := hlt
               clear hlt
               have hdr : Below wr.heap.size wr wr.drew := (Below.refl _ wr).drew
               have hbd := hb.drew
               have hOd := hO.below hdr
               have hwd : Below w.heap.size w wr.drew := (HC.out _ hbd).1
               obtain ⟨-, bT', bI', bC', bZ'⟩ := HC.out _ hbd
               have hS0 : (fun W => ((W.cell? ⟨w.heap.size + 2, 0, none⟩ = some (.int .i64 kd) ∧ W.cell? ⟨w.heap.size + 2, 1, none⟩ = some (.slice (some ⟨kb, koff, none⟩) ks.length cb) ∧ W.cell? ⟨w.heap.size + 2, 2, none⟩ = some (.int .u64 (ct : Int)) ∧ W.cell? ⟨w.heap.size + 2, 3, none⟩ = some (.int .i64 tt)) ∧ W.cell? ⟨w.heap.size, 5, none⟩ = some (.slice (some ⟨b, off, none⟩) is.length ic_) ∧ W.cell? ⟨kb, koff + m, none⟩ = some (.string (bk k)) ∧ W.cell? ⟨b, off + i * 6, none⟩ = some (.string (bk xk))) ∧ Below wr.heap.size wr W) wr.drew := ⟨⟨cells4 bC', (cells6 bT').2.2.2.2.2, cyk _ hwd, (cx _ hwd).1⟩, hdr⟩
               clear bT' bI' bC' bZ' hdr hO
               go_wp2
               refine wp_region_L (fun W => ((W.cell? ⟨w.heap.size + 2, 0, none⟩ = some (.int .i64 kd) ∧ W.cell? ⟨w.heap.size + 2, 1, none⟩ = some (.slice (some ⟨kb, koff, none⟩) ks.length cb) ∧ W.cell? ⟨w.heap.size + 2, 2, none⟩ = some (.int .u64 (ct : Int)) ∧ W.cell? ⟨w.heap.size + 2, 3, none⟩ = some (.int .i64 tt)) ∧ W.cell? ⟨w.heap.size, 5, none⟩ = some (.slice (some ⟨b, off, none⟩) is.length ic_) ∧ W.cell? ⟨kb, koff + m, none⟩ = some (.string (bk k)) ∧ W.cell? ⟨b, off + i * 6, none⟩ = some (.string (bk xk))) ∧ Below wr.heap.size wr W) [] (by kernel_rfl) ?_
               have yS : (fun W => ((W.cell? ⟨w.heap.size + 2, 0, none⟩ = some (.int .i64 kd) ∧ W.cell? ⟨w.heap.size + 2, 1, none⟩ = some (.slice (some ⟨kb, koff, none⟩) ks.length cb) ∧ W.cell? ⟨w.heap.size + 2, 2, none⟩ = some (.int .u64 (ct : Int)) ∧ W.cell? ⟨w.heap.size + 2, 3, none⟩ = some (.int .i64 tt)) ∧ W.cell? ⟨w.heap.size, 5, none⟩ = some (.slice (some ⟨b, off, none⟩) is.length ic_) ∧ W.cell? ⟨kb, koff + m, none⟩ = some (.string (bk k)) ∧ W.cell? ⟨b, off + i * 6, none⟩ = some (.string (bk xk))) ∧ Below wr.heap.size wr W) wr.drew := hS0
               refine tkg 0 rfl (by intro w' hS'; obtain ⟨⟨⟨x0, x1_, x2_, x3_⟩, x4_, x5_, x6_⟩, xb⟩ := hS'; go_simp <;> rfl) yS ?_
               try simp only [pa, pb, pc, Act.put, pd, pe, pf]
               refine tkg 1 rfl (by intro w' hS'; obtain ⟨⟨⟨x0, x1_, x2_, x3_⟩, x4_, x5_, x6_⟩, xb⟩ := hS'; go_simp <;> rfl) yS ?_
               try simp only [pa, pb, pc, Act.put, pd, pe, pf]
               refine tkg 2 rfl (by intro w' hS'; obtain ⟨⟨⟨x0, x1_, x2_, x3_⟩, x4_, x5_, x6_⟩, xb⟩ := hS'; go_simp <;> rfl) yS ?_
               try simp only [pa, pb, pc, Act.put, pd, pe, pf]
               refine tkg 3 rfl (by intro w' hS'; obtain ⟨⟨⟨x0, x1_, x2_, x3_⟩, x4_, x5_, x6_⟩, xb⟩ := hS'; go_simp <;> rfl) yS ?_
               try simp only [pa, pb, pc, Act.put, pd, pe, pf]
               refine tkg 4 rfl (by intro w' hS'; obtain ⟨⟨⟨x0, x1_, x2_, x3_⟩, x4_, x5_, x6_⟩, xb⟩ := hS'; go_simp <;> rfl) yS ?_
               try simp only [pa, pb, pc, Act.put, pd, pe, pf]
               refine tkg 5 rfl (by intro w' hS'; obtain ⟨⟨⟨x0, x1_, x2_, x3_⟩, x4_, x5_, x6_⟩, xb⟩ := hS'; go_simp <;> rfl) yS ?_
               try simp only [pa, pb, pc, Act.put, pd, pe, pf]
               refine tkg 6 rfl (by intro w' hS'; obtain ⟨⟨⟨x0, x1_, x2_, x3_⟩, x4_, x5_, x6_⟩, xb⟩ := hS'; go_simp <;> rfl) yS ?_
               try simp only [pa, pb, pc, Act.put, pd, pe, pf]
               refine tkg 7 rfl (by intro w' hS'; obtain ⟨⟨⟨x0, x1_, x2_, x3_⟩, x4_, x5_, x6_⟩, xb⟩ := hS'; go_simp <;> rfl) yS ?_
               try simp only [pa, pb, pc, Act.put, pd, pe, pf]
               refine tkg 8 rfl (by intro w' hS'; obtain ⟨⟨⟨x0, x1_, x2_, x3_⟩, x4_, x5_, x6_⟩, xb⟩ := hS'; go_simp <;> rfl) yS ?_
               try simp only [pa, pb, pc, Act.put, pd, pe, pf]
               refine tkg 9 rfl (by intro w' hS'; obtain ⟨⟨⟨x0, x1_, x2_, x3_⟩, x4_, x5_, x6_⟩, xb⟩ := hS'; go_simp <;> rfl) yS ?_
               try simp only [pa, pb, pc, Act.put, pd, pe, pf]
               refine tkg 10 rfl (by intro w' hS'; obtain ⟨⟨⟨x0, x1_, x2_, x3_⟩, x4_, x5_, x6_⟩, xb⟩ := hS'; go_simp <;> rfl) yS ?_
               try simp only [pa, pb, pc, Act.put, pd, pe, pf]
               refine tkg 11 rfl (by intro w' hS'; obtain ⟨⟨⟨x0, x1_, x2_, x3_⟩, x4_, x5_, x6_⟩, xb⟩ := hS'; go_simp <;> rfl) yS ?_
               try simp only [pa, pb, pc, Act.put, pd, pe, pf]
               refine tkg 12 rfl (by intro w' hS'; obtain ⟨⟨⟨x0, x1_, x2_, x3_⟩, x4_, x5_, x6_⟩, xb⟩ := hS'; go_simp <;> rfl) yS ?_
               try simp only [pa, pb, pc, Act.put, pd, pe, pf]
               refine tkg 13 rfl (by intro w' hS'; obtain ⟨⟨⟨x0, x1_, x2_, x3_⟩, x4_, x5_, x6_⟩, xb⟩ := hS'; go_simp <;> rfl) yS ?_
               try simp only [pa, pb, pc, Act.put, pd, pe, pf]
               refine tkg 14 rfl (by intro w' hS'; obtain ⟨⟨⟨x0, x1_, x2_, x3_⟩, x4_, x5_, x6_⟩, xb⟩ := hS'; go_simp <;> rfl) yS ?_
               try simp only [pa, pb, pc, Act.put, pd, pe, pf]
               refine tkg 15 rfl (by intro w' hS'; obtain ⟨⟨⟨x0, x1_, x2_, x3_⟩, x4_, x5_, x6_⟩, xb⟩ := hS'; go_simp <;> rfl) yS ?_
               try simp only [pa, pb, pc, Act.put, pd, pe, pf]
               refine tkg 16 rfl (by intro w' hS'; obtain ⟨⟨⟨x0, x1_, x2_, x3_⟩, x4_, x5_, x6_⟩, xb⟩ := hS'; go_simp <;> rfl) yS ?_
               try simp only [pa, pb, pc, Act.put, pd, pe, pf]
               refine tkg 17 rfl (by intro w' hS'; obtain ⟨⟨⟨x0, x1_, x2_, x3_⟩, x4_, x5_, x6_⟩, xb⟩ := hS'; go_simp <;> rfl) yS ?_
               try simp only [pa, pb, pc, Act.put, pd, pe, pf]
               refine tkg 18 rfl (by intro w' hS'; obtain ⟨⟨⟨x0, x1_, x2_, x3_⟩, x4_, x5_, x6_⟩, xb⟩ := hS'; go_simp <;> rfl) yS ?_
               try simp only [pa, pb, pc, Act.put, pd, pe, pf]
               refine tkg 19 rfl (by intro w' hS'; obtain ⟨⟨⟨x0, x1_, x2_, x3_⟩, x4_, x5_, x6_⟩, xb⟩ := hS'; go_simp <;> rfl) yS ?_
               try simp only [pa, pb, pc, Act.put, pd, pe, pf]
               refine tkg 20 rfl (by intro w' hS'; obtain ⟨⟨⟨x0, x1_, x2_, x3_⟩, x4_, x5_, x6_⟩, xb⟩ := hS'; go_simp <;> rfl) yS ?_
               try simp only [pa, pb, pc, Act.put, pd, pe, pf]
               refine tkg 21 rfl (by intro w' hS'; obtain ⟨⟨⟨x0, x1_, x2_, x3_⟩, x4_, x5_, x6_⟩, xb⟩ := hS'; go_simp <;> rfl) yS ?_
               try simp only [pa, pb, pc, Act.put, pd, pe, pf]
               refine tkg 22 rfl (by intro w' hS'; obtain ⟨⟨⟨x0, x1_, x2_, x3_⟩, x4_, x5_, x6_⟩, xb⟩ := hS'; go_simp <;> rfl) yS ?_
               try simp only [pa, pb, pc, Act.put, pd, pe, pf]
               refine tkg 23 rfl (by intro w' hS'; obtain ⟨⟨⟨x0, x1_, x2_, x3_⟩, x4_, x5_, x6_⟩, xb⟩ := hS'; go_simp <;> rfl) yS ?_
               try simp only [pa, pb, pc, Act.put, pd, pe, pf]
               refine tkg 24 rfl (by intro w' hS'; obtain ⟨⟨⟨x0, x1_, x2_, x3_⟩, x4_, x5_, x6_⟩, xb⟩ := hS'; go_simp <;> rfl) yS ?_
               try simp only [pa, pb, pc, Act.put, pd, pe, pf]
               refine tkg 25 rfl (by intro w' hS'; obtain ⟨⟨⟨x0, x1_, x2_, x3_⟩, x4_, x5_, x6_⟩, xb⟩ := hS'; go_simp <;> rfl) yS ?_
               try simp only [pa, pb, pc, Act.put, pd, pe, pf]
               refine wpAnyL_done (by kernel_rfl) (NoPanic.normal ?_) _
               clear hS0 yS
               have HN0 : Hid ((OUT ++ [(k, (d1, d2), kd, tokM kd ct tk, tt)]) ++ mrg (is.drop i) (MO.drop (m + 1)) = MM) := mrg_new (HMG.out m k hyk.out) (.inr ⟨_, HX.out, HLT.out⟩) HT.out
               have hbe := hbd.drew
               have hOe := hOd.below ((Below.refl wr.drew.heap.size wr.drew).drew)
               have hwe : Below w.heap.size w wr.drew.drew := (HC.out _ hbe).1
               clear HT hbd hOd hwd
               clear c0 c1 c2 c3 c4 c5 i0 i1 k0 k1 k2 k3 bT bI bC bZ
               go_wp2
               refine wp_region_L (fun W => ((W.cell? ⟨w.heap.size + 2, 0, none⟩ = some (.int .i64 kd) ∧ W.cell? ⟨w.heap.size + 2, 1, none⟩ = some (.slice (some ⟨kb, koff, none⟩) ks.length cb) ∧ W.cell? ⟨w.heap.size + 2, 2, none⟩ = some (.int .u64 (ct : Int)) ∧ W.cell? ⟨w.heap.size + 2, 3, none⟩ = some (.int .i64 tt)) ∧ (W.cell? ⟨w.heap.size + 1, 0, none⟩ = some (.int .i64 d1) ∧ W.cell? ⟨w.heap.size + 1, 1, none⟩ = some (.int .u64 (d2 : Int))) ∧ W.cell? ⟨kb, koff + m, none⟩ = some (.string (bk k))) ∧ Below wr.drew.drew.heap.size wr.drew.drew W) [13] (by kernel_rfl) ?_
               generalize wr.drew.drew = ve at *
               obtain ⟨-, bT, bI, bC, bZ⟩ := HC.out _ hbe
               obtain ⟨c0, c1, c2, c3, c4, c5⟩ := cells6 bT
               obtain ⟨i0, i1⟩ := cells2 bI
               obtain ⟨k0, k1, k2, k3⟩ := cells4 bC
               obtain ⟨q1, q2, q3⟩ := one_box ve (.cells #[.string { data := #[] }, .int .i64 0, .int .u64 0, .int .i64 0, .int .u64 0, .int .i64 0] 63)
               obtain ⟨wz, hwz⟩ : ∃ W, ve.alloc (.cells #[.string { data := #[] }, .int .i64 0, .int .u64 0, .int .i64 0, .int .u64 0, .int .i64 0] 63) = W := ⟨_, rfl⟩
               rw [hwz] at q1 q2 q3
               have yk := cyk _ hwe
               have yT : (fun W => ((W.cell? ⟨w.heap.size + 2, 0, none⟩ = some (.int .i64 kd) ∧ W.cell? ⟨w.heap.size + 2, 1, none⟩ = some (.slice (some ⟨kb, koff, none⟩) ks.length cb) ∧ W.cell? ⟨w.heap.size + 2, 2, none⟩ = some (.int .u64 (ct : Int)) ∧ W.cell? ⟨w.heap.size + 2, 3, none⟩ = some (.int .i64 tt)) ∧ (W.cell? ⟨w.heap.size + 1, 0, none⟩ = some (.int .i64 d1) ∧ W.cell? ⟨w.heap.size + 1, 1, none⟩ = some (.int .u64 (d2 : Int))) ∧ W.cell? ⟨kb, koff + m, none⟩ = some (.string (bk k))) ∧ Below ve.heap.size ve W) ve := ⟨⟨⟨k0, k1, k2, k3⟩, ⟨i0, i1⟩, yk⟩, Below.refl _ _⟩
               have hT1 : (fun W => ((W.cell? ⟨w.heap.size + 2, 0, none⟩ = some (.int .i64 kd) ∧ W.cell? ⟨w.heap.size + 2, 1, none⟩ = some (.slice (some ⟨kb, koff, none⟩) ks.length cb) ∧ W.cell? ⟨w.heap.size + 2, 2, none⟩ = some (.int .u64 (ct : Int)) ∧ W.cell? ⟨w.heap.size + 2, 3, none⟩ = some (.int .i64 tt)) ∧ (W.cell? ⟨w.heap.size + 1, 0, none⟩ = some (.int .i64 d1) ∧ W.cell? ⟨w.heap.size + 1, 1, none⟩ = some (.int .u64 (d2 : Int))) ∧ W.cell? ⟨kb, koff + m, none⟩ = some (.string (bk k))) ∧ Below ve.heap.size ve W) wz := by
                have e1 := (q3.block (w.heap.size + 2) (by have := hbe.size; omega)).trans bC
                have e2 := (q3.block (w.heap.size + 1) (by have := hbe.size; omega)).trans bI
                exact ⟨⟨cells4 e1, cells2 e2, cyk _ (hwe.trans (q3.mono hwe.size))⟩, q3⟩
               have bCz := (q3.block (w.heap.size + 2) (by have := hbe.size; omega)).trans bC
               clear c0 c1 c2 c3 c4 c5 bT bI bZ
               refine tkg 0 rfl (by intro w' hS'; obtain ⟨⟨⟨x0, x1_, x2_, x3_⟩, ⟨x4_, x5_⟩, x6_⟩, xb⟩ := hS'; go_simp <;> rfl) yT ?_
               try simp only [pa, pb, pc, Act.put, pd, pe, pf]
               refine tkg 1 rfl (by intro w' hS'; obtain ⟨⟨⟨x0, x1_, x2_, x3_⟩, ⟨x4_, x5_⟩, x6_⟩, xb⟩ := hS'; go_simp <;> rfl) yT ?_
               try simp only [pa, pb, pc, Act.put, pd, pe, pf]
               refine tkg 2 rfl (by intro w' hS'; obtain ⟨⟨⟨x0, x1_, x2_, x3_⟩, ⟨x4_, x5_⟩, x6_⟩, xb⟩ := hS'; go_simp <;> rfl) yT ?_
               try simp only [pa, pb, pc, Act.put, pd, pe, pf]
               refine tkg 3 rfl (by intro w' hS'; obtain ⟨⟨⟨x0, x1_, x2_, x3_⟩, ⟨x4_, x5_⟩, x6_⟩, xb⟩ := hS'; go_simp <;> rfl) yT ?_
               try simp only [pa, pb, pc, Act.put, pd, pe, pf]
               refine tkg 4 rfl (by intro w' hS'; obtain ⟨⟨⟨x0, x1_, x2_, x3_⟩, ⟨x4_, x5_⟩, x6_⟩, xb⟩ := hS'; go_simp <;> rfl) yT ?_
               try simp only [pa, pb, pc, Act.put, pd, pe, pf]
               refine tkg 5 rfl (by intro w' hS'; obtain ⟨⟨⟨x0, x1_, x2_, x3_⟩, ⟨x4_, x5_⟩, x6_⟩, xb⟩ := hS'; go_simp <;> rfl) yT ?_
               try simp only [pa, pb, pc, Act.put, pd, pe, pf]
               refine tkg 6 rfl (by intro w' hS'; obtain ⟨⟨⟨x0, x1_, x2_, x3_⟩, ⟨x4_, x5_⟩, x6_⟩, xb⟩ := hS'; go_simp <;> rfl) yT ?_
               try simp only [pa, pb, pc, Act.put, pd, pe, pf]
               refine tkg 7 rfl (by intro w' hS'; obtain ⟨⟨⟨x0, x1_, x2_, x3_⟩, ⟨x4_, x5_⟩, x6_⟩, xb⟩ := hS'; go_simp <;> rfl) yT ?_
               try simp only [pa, pb, pc, Act.put, pd, pe, pf]
               refine tkg 8 rfl (by intro w' hS'; obtain ⟨⟨⟨x0, x1_, x2_, x3_⟩, ⟨x4_, x5_⟩, x6_⟩, xb⟩ := hS'; go_simp <;> rfl) yT ?_
               try simp only [pa, pb, pc, Act.put, pd, pe, pf]
               refine tkg 9 rfl (by intro w' hS'; obtain ⟨⟨⟨x0, x1_, x2_, x3_⟩, ⟨x4_, x5_⟩, x6_⟩, xb⟩ := hS'; go_simp <;> rfl) yT ?_
               try simp only [pa, pb, pc, Act.put, pd, pe, pf]
               refine tkg 10 rfl (by intro w' hS'; obtain ⟨⟨⟨x0, x1_, x2_, x3_⟩, ⟨x4_, x5_⟩, x6_⟩, xb⟩ := hS'; go_simp <;> rfl) yT ?_
               try simp only [pa, pb, pc, Act.put, pd, pe, pf]
               refine tkg 11 rfl (by intro w' hS'; obtain ⟨⟨⟨x0, x1_, x2_, x3_⟩, ⟨x4_, x5_⟩, x6_⟩, xb⟩ := hS'; go_simp <;> rfl) yT ?_
               try simp only [pa, pb, pc, Act.put, pd, pe, pf]
               refine wpAnyL_one 12 (by kernel_rfl) rfl (by kernel_rfl) ?_
               intro K' hK'
               go_simp
               refine hK'.out _ _ (.inr hT1) ?_
               clear hK' K'
               try simp only [pa, pb, pc, Act.put, pd, pe, pf]
               obtain ⟨⟨f0, f1, f2, f3, f4, f5⟩, z0, z1, z2, z3, z4, z5⟩ := t_cells q2
               have P5 := set6_block q2 (.string (bk k)) (.int .i64 d1) (.int .u64 (d2 : Int)) (.int .i64 kd) (.int .u64 (tk : Int)) (.int .i64 tt)
               have Bw5 := set6_below (.string (bk k)) (.int .i64 d1) (.int .u64 (d2 : Int)) (.int .i64 kd) (.int .u64 (tk : Int)) (.int .i64 tt) (g := ve.heap.size) q3 (Nat.le_refl _)
               unfold set6 at P5 Bw5
               obtain ⟨w5, hw5⟩ : ∃ W, ((((((wz.setCell ⟨ve.heap.size, 0, none⟩ (.string (bk k))).setCell ⟨ve.heap.size, 1, none⟩ (.int .i64 d1)).setCell ⟨ve.heap.size, 2, none⟩ (.int .u64 (d2 : Int))).setCell ⟨ve.heap.size, 3, none⟩ (.int .i64 kd)).setCell ⟨ve.heap.size, 4, none⟩ (.int .u64 (tk : Int))).setCell ⟨ve.heap.size, 5, none⟩ (.int .i64 tt)) = W := ⟨_, rfl⟩
               rw [hw5] at P5 Bw5
               refine wpAnyL_one 13 (by kernel_rfl) rfl (by kernel_rfl) ?_
               intro K' hK'
               go_simp
               refine hK'.out _ _ (.inl (by decide)) ?_
               clear hK' K'
               try simp only [pa, pb, pc, Act.put, pd, pe, pf]
               refine wpAnyL_done (by kernel_rfl) (NoPanic.normal ?_) _
               have bC5 := (Bw5.block (w.heap.size + 2) (by have := hbe.size; omega)).trans bC
               clear f0 f1 f2 f3 f4 f5 z0 z1 z2 z3 z4 z5 q1 q2 q3 yT hT1 bC bCz i0 i1 k0 k1 k2 k3 yk hwz hw5
               obtain ⟨k0, k1, k2, k3⟩ := cells4 bC5
               obtain ⟨⟨f0, f1, f2, f3, f4, f5⟩, z0, z1, z2, z3, z4, z5⟩ := t_cells P5
               by_cases hk1 : kd = 1
               ·have hkb : (kd != 1) = false := by simp [hk1]
                have HN : Hid ((OUT ++ [(k, (d1, d2), kd, tk, tt)]) ++ mrg (is.drop i) (MO.drop (m + 1)) = MM) := by
                 show _ = _
                 have := HN0.out
                 rw [show tokM kd ct tk = tk by unfold tokM; rw [if_pos hk1]] at this
                 exact this
                clear HN0 hk1
                have HOW : Ow itE 63 (w.heap.size + 4) w5 v OUT := hOe.below Bw5
                have hbW := hbe.trans (Bw5.mono (Nat.le_trans hz hbe.size))
                have hrunH : Hid _ := push_it (k, (d1, d2), kd, tk, tt) HOW.1 (by omega)
                have HGP : Hid (∀ v' w', PushT itE 63 w5 v (OUT ++ [(k, (d1, d2), kd, tk, tt)]) v' w' → Ow itE 63 (w.heap.size + 4) w' v' (OUT ++ [(k, (d1, d2), kd, tk, tt)]) ∧ Below (w.heap.size + 4) w5 w') := fun v' w' hp => HOW.push (Nat.le_trans hz hbW.size) hp
                have hol2 : (OUT ++ [(k, (d1, d2), kd, tk, tt)]).length ≤ i + (m + 1) := by rw [List.length_append]; simp; omega
                obtain ⟨va, vc, hva, -⟩ := HOW.1.shape
                clear HOW hOe
                generalize OUT ++ [(k, (d1, d2), kd, tk, tt)] = OUT2 at *
                generalize OUT.length = kl at *
                subst hva
                go_wp2_with (at_builtin; refine wp_by rfl _ _ _ rfl _ _ rfl rfl hrunH.out ?_)
                intro v6 w6 hp6
                obtain ⟨hO6, hb6⟩ := HGP.out v6 w6 hp6
                have hb06 := hbW.trans hb6
                clear hrunH hp6 hb6 HGP hbW
                go_wp2
                go_roundg (gk - 1)
                case measure => omega
                case rel => exact ⟨m + 1, v6, OUT2, by omega, by go_num, rfl, hO6, hb06, HN, hol2⟩
               ·have hkb : (kd != 1) = true := by simpa using hk1
                have HN : Hid ((OUT ++ [(k, (d1, d2), kd, ct, tt)]) ++ mrg (is.drop i) (MO.drop (m + 1)) = MM) := by
                 show _ = _
                 have := HN0.out
                 rw [show tokM kd ct tk = ct by unfold tokM; rw [if_neg hk1]] at this
                 exact this
                have P7 := set_block P5 (j := 4) (.int .u64 (ct : Int))
                have Bw7 := Bw5.setCell (p := ⟨ve.heap.size, 4, none⟩) (Nat.le_refl _) (.int .u64 (ct : Int))
                obtain ⟨w7, hw7⟩ : ∃ W, w5.setCell ⟨ve.heap.size, 4, none⟩ (.int .u64 (ct : Int)) = W := ⟨_, rfl⟩
                rw [hw7] at P7 Bw7
                have P7' : w7.heap[ve.heap.size]? = some (.cells #[.string (bk k), .int .i64 d1, .int .u64 (d2 : Int), .int .i64 kd, .int .u64 (ct : Int), .int .i64 tt] 63 (0, 0)) := P7
                obtain ⟨y0, y1, y2, y3, y4, y5⟩ := cells6 P7'
                clear HN0 hk1
                have HOW : Ow itE 63 (w.heap.size + 4) w7 v OUT := hOe.below Bw7
                have hbW := hbe.trans (Bw7.mono (Nat.le_trans hz hbe.size))
                have hrunH : Hid _ := push_it (k, (d1, d2), kd, ct, tt) HOW.1 (by omega)
                have HGP : Hid (∀ v' w', PushT itE 63 w7 v (OUT ++ [(k, (d1, d2), kd, ct, tt)]) v' w' → Ow itE 63 (w.heap.size + 4) w' v' (OUT ++ [(k, (d1, d2), kd, ct, tt)]) ∧ Below (w.heap.size + 4) w7 w') := fun v' w' hp => HOW.push (Nat.le_trans hz hbW.size) hp
                have hol2 : (OUT ++ [(k, (d1, d2), kd, ct, tt)]).length ≤ i + (m + 1) := by rw [List.length_append]; simp; omega
                obtain ⟨va, vc, hva, -⟩ := HOW.1.shape
                clear HOW hOe
                generalize OUT ++ [(k, (d1, d2), kd, ct, tt)] = OUT2 at *
                generalize OUT.length = kl at *
                subst hva
                go_wp2_with (at_builtin; refine wp_by rfl _ _ _ rfl _ _ rfl rfl hrunH.out ?_)
                intro v6 w6 hp6
                obtain ⟨hO6, hb6⟩ := HGP.out v6 w6 hp6
                have hb06 := hbW.trans hb6
                clear hrunH hp6 hb6 HGP hbW
                go_wp2
                go_roundg (gk - 1)
                case measure => omega
                case rel => exact ⟨m + 1, v6, OUT2, by omega, by go_num, rfl, hO6, hb06, HN, hol2⟩
              ·have hltd : decide (k < xk) = false := decide_eq_false hlt
               have HN9 : Hid (MO.length ≤ m ∨ ∃ y, MO[m]? = some y ∧ ¬ y.1 < xk) := .inr ⟨_, HMG.out m k hyk.out, hlt⟩
               clear hlt
               have hdr : Below wr.heap.size wr wr.drew := (Below.refl _ wr).drew
               have hbd := hb.drew
               have hOd := hO.below hdr
               have hwd : Below w.heap.size w wr.drew := (HC.out _ hbd).1
               obtain ⟨-, bT', bI', bC', bZ'⟩ := HC.out _ hbd
               have hS0 : (fun W => ((W.cell? ⟨w.heap.size + 2, 0, none⟩ = some (.int .i64 kd) ∧ W.cell? ⟨w.heap.size + 2, 1, none⟩ = some (.slice (some ⟨kb, koff, none⟩) ks.length cb) ∧ W.cell? ⟨w.heap.size + 2, 2, none⟩ = some (.int .u64 (ct : Int)) ∧ W.cell? ⟨w.heap.size + 2, 3, none⟩ = some (.int .i64 tt)) ∧ W.cell? ⟨w.heap.size, 5, none⟩ = some (.slice (some ⟨b, off, none⟩) is.length ic_) ∧ W.cell? ⟨kb, koff + m, none⟩ = some (.string (bk k)) ∧ W.cell? ⟨b, off + i * 6, none⟩ = some (.string (bk xk))) ∧ Below wr.heap.size wr W) wr.drew := ⟨⟨cells4 bC', (cells6 bT').2.2.2.2.2, cyk _ hwd, (cx _ hwd).1⟩, hdr⟩
               clear bT' bI' bC' bZ' hdr hO
               go_wp2
               refine wp_region_L (fun W => ((W.cell? ⟨w.heap.size + 2, 0, none⟩ = some (.int .i64 kd) ∧ W.cell? ⟨w.heap.size + 2, 1, none⟩ = some (.slice (some ⟨kb, koff, none⟩) ks.length cb) ∧ W.cell? ⟨w.heap.size + 2, 2, none⟩ = some (.int .u64 (ct : Int)) ∧ W.cell? ⟨w.heap.size + 2, 3, none⟩ = some (.int .i64 tt)) ∧ W.cell? ⟨w.heap.size, 5, none⟩ = some (.slice (some ⟨b, off, none⟩) is.length ic_) ∧ W.cell? ⟨kb, koff + m, none⟩ = some (.string (bk k)) ∧ W.cell? ⟨b, off + i * 6, none⟩ = some (.string (bk xk))) ∧ Below wr.heap.size wr W) [] (by kernel_rfl) ?_
               have yS : (fun W => ((W.cell? ⟨w.heap.size + 2, 0, none⟩ = some (.int .i64 kd) ∧ W.cell? ⟨w.heap.size + 2, 1, none⟩ = some (.slice (some ⟨kb, koff, none⟩) ks.length cb) ∧ W.cell? ⟨w.heap.size + 2, 2, none⟩ = some (.int .u64 (ct : Int)) ∧ W.cell? ⟨w.heap.size + 2, 3, none⟩ = some (.int .i64 tt)) ∧ W.cell? ⟨w.heap.size, 5, none⟩ = some (.slice (some ⟨b, off, none⟩) is.length ic_) ∧ W.cell? ⟨kb, koff + m, none⟩ = some (.string (bk k)) ∧ W.cell? ⟨b, off + i * 6, none⟩ = some (.string (bk xk))) ∧ Below wr.heap.size wr W) wr.drew := hS0
               refine tkg 0 rfl (by intro w' hS'; obtain ⟨⟨⟨x0, x1_, x2_, x3_⟩, x4_, x5_, x6_⟩, xb⟩ := hS'; go_simp <;> rfl) yS ?_
               try simp only [pa, pb, pc, Act.put, pd, pe, pf]
               refine tkg 1 rfl (by intro w' hS'; obtain ⟨⟨⟨x0, x1_, x2_, x3_⟩, x4_, x5_, x6_⟩, xb⟩ := hS'; go_simp <;> rfl) yS ?_
               try simp only [pa, pb, pc, Act.put, pd, pe, pf]
               refine tkg 2 rfl (by intro w' hS'; obtain ⟨⟨⟨x0, x1_, x2_, x3_⟩, x4_, x5_, x6_⟩, xb⟩ := hS'; go_simp <;> rfl) yS ?_
               try simp only [pa, pb, pc, Act.put, pd, pe, pf]
               refine tkg 3 rfl (by intro w' hS'; obtain ⟨⟨⟨x0, x1_, x2_, x3_⟩, x4_, x5_, x6_⟩, xb⟩ := hS'; go_simp <;> rfl) yS ?_
               try simp only [pa, pb, pc, Act.put, pd, pe, pf]
               refine tkg 4 rfl (by intro w' hS'; obtain ⟨⟨⟨x0, x1_, x2_, x3_⟩, x4_, x5_, x6_⟩, xb⟩ := hS'; go_simp <;> rfl) yS ?_
               try simp only [pa, pb, pc, Act.put, pd, pe, pf]
               refine tkg 5 rfl (by intro w' hS'; obtain ⟨⟨⟨x0, x1_, x2_, x3_⟩, x4_, x5_, x6_⟩, xb⟩ := hS'; go_simp <;> rfl) yS ?_
               try simp only [pa, pb, pc, Act.put, pd, pe, pf]
               refine tkg 6 rfl (by intro w' hS'; obtain ⟨⟨⟨x0, x1_, x2_, x3_⟩, x4_, x5_, x6_⟩, xb⟩ := hS'; go_simp <;> rfl) yS ?_
               try simp only [pa, pb, pc, Act.put, pd, pe, pf]
               refine tkg 7 rfl (by intro w' hS'; obtain ⟨⟨⟨x0, x1_, x2_, x3_⟩, x4_, x5_, x6_⟩, xb⟩ := hS'; go_simp <;> rfl) yS ?_
               try simp only [pa, pb, pc, Act.put, pd, pe, pf]
               refine tkg 8 rfl (by intro w' hS'; obtain ⟨⟨⟨x0, x1_, x2_, x3_⟩, x4_, x5_, x6_⟩, xb⟩ := hS'; go_simp <;> rfl) yS ?_
               try simp only [pa, pb, pc, Act.put, pd, pe, pf]
               refine tkg 9 rfl (by intro w' hS'; obtain ⟨⟨⟨x0, x1_, x2_, x3_⟩, x4_, x5_, x6_⟩, xb⟩ := hS'; go_simp <;> rfl) yS ?_
               try simp only [pa, pb, pc, Act.put, pd, pe, pf]
               refine tkg 10 rfl (by intro w' hS'; obtain ⟨⟨⟨x0, x1_, x2_, x3_⟩, x4_, x5_, x6_⟩, xb⟩ := hS'; go_simp <;> rfl) yS ?_
               try simp only [pa, pb, pc, Act.put, pd, pe, pf]
               refine tkg 11 rfl (by intro w' hS'; obtain ⟨⟨⟨x0, x1_, x2_, x3_⟩, x4_, x5_, x6_⟩, xb⟩ := hS'; go_simp <;> rfl) yS ?_
               try simp only [pa, pb, pc, Act.put, pd, pe, pf]
               refine tkg 12 rfl (by intro w' hS'; obtain ⟨⟨⟨x0, x1_, x2_, x3_⟩, x4_, x5_, x6_⟩, xb⟩ := hS'; go_simp <;> rfl) yS ?_
               try simp only [pa, pb, pc, Act.put, pd, pe, pf]
               refine tkg 13 rfl (by intro w' hS'; obtain ⟨⟨⟨x0, x1_, x2_, x3_⟩, x4_, x5_, x6_⟩, xb⟩ := hS'; go_simp <;> rfl) yS ?_
               try simp only [pa, pb, pc, Act.put, pd, pe, pf]
               refine tkg 14 rfl (by intro w' hS'; obtain ⟨⟨⟨x0, x1_, x2_, x3_⟩, x4_, x5_, x6_⟩, xb⟩ := hS'; go_simp <;> rfl) yS ?_
               try simp only [pa, pb, pc, Act.put, pd, pe, pf]
               refine tkg 15 rfl (by intro w' hS'; obtain ⟨⟨⟨x0, x1_, x2_, x3_⟩, x4_, x5_, x6_⟩, xb⟩ := hS'; go_simp <;> rfl) yS ?_
               try simp only [pa, pb, pc, Act.put, pd, pe, pf]
               refine tkg 16 rfl (by intro w' hS'; obtain ⟨⟨⟨x0, x1_, x2_, x3_⟩, x4_, x5_, x6_⟩, xb⟩ := hS'; go_simp <;> rfl) yS ?_
               try simp only [pa, pb, pc, Act.put, pd, pe, pf]
               refine tkg 17 rfl (by intro w' hS'; obtain ⟨⟨⟨x0, x1_, x2_, x3_⟩, x4_, x5_, x6_⟩, xb⟩ := hS'; go_simp <;> rfl) yS ?_
               try simp only [pa, pb, pc, Act.put, pd, pe, pf]
               refine tkg 18 rfl (by intro w' hS'; obtain ⟨⟨⟨x0, x1_, x2_, x3_⟩, x4_, x5_, x6_⟩, xb⟩ := hS'; go_simp <;> rfl) yS ?_
               try simp only [pa, pb, pc, Act.put, pd, pe, pf]
               refine tkg 19 rfl (by intro w' hS'; obtain ⟨⟨⟨x0, x1_, x2_, x3_⟩, x4_, x5_, x6_⟩, xb⟩ := hS'; go_simp <;> rfl) yS ?_
               try simp only [pa, pb, pc, Act.put, pd, pe, pf]
               refine tkg 20 rfl (by intro w' hS'; obtain ⟨⟨⟨x0, x1_, x2_, x3_⟩, x4_, x5_, x6_⟩, xb⟩ := hS'; go_simp <;> rfl) yS ?_
               try simp only [pa, pb, pc, Act.put, pd, pe, pf]
               refine tkg 21 rfl (by intro w' hS'; obtain ⟨⟨⟨x0, x1_, x2_, x3_⟩, x4_, x5_, x6_⟩, xb⟩ := hS'; go_simp <;> rfl) yS ?_
               try simp only [pa, pb, pc, Act.put, pd, pe, pf]
               refine tkg 22 rfl (by intro w' hS'; obtain ⟨⟨⟨x0, x1_, x2_, x3_⟩, x4_, x5_, x6_⟩, xb⟩ := hS'; go_simp <;> rfl) yS ?_
               try simp only [pa, pb, pc, Act.put, pd, pe, pf]
               refine tkg 23 rfl (by intro w' hS'; obtain ⟨⟨⟨x0, x1_, x2_, x3_⟩, x4_, x5_, x6_⟩, xb⟩ := hS'; go_simp <;> rfl) yS ?_
               try simp only [pa, pb, pc, Act.put, pd, pe, pf]
               refine tkg 24 rfl (by intro w' hS'; obtain ⟨⟨⟨x0, x1_, x2_, x3_⟩, x4_, x5_, x6_⟩, xb⟩ := hS'; go_simp <;> rfl) yS ?_
               try simp only [pa, pb, pc, Act.put, pd, pe, pf]
               refine tkg 25 rfl (by intro w' hS'; obtain ⟨⟨⟨x0, x1_, x2_, x3_⟩, x4_, x5_, x6_⟩, xb⟩ := hS'; go_simp <;> rfl) yS ?_
               try simp only [pa, pb, pc, Act.put, pd, pe, pf]
               refine wpAnyL_done (by kernel_rfl) (NoPanic.normal ?_) _
               clear hS0 yS
               have HT2 : Hid ((OUT ++ [(xk, (x1, x2), xkd, xtk, xtt)]) ++ mrg (is.drop (i + 1)) (MO.drop m) = MM) := mrg_old HX.out HN9.out HT.out
               clear HT HN9
               generalize wr.drew = wd at *
               clear c0 c1 c2 c3 c4 c5 i0 i1 k0 k1 k2 k3 bT bI bC bZ
               obtain ⟨-, bT, bI, bC, bZ⟩ := HC.out _ hbd
               obtain ⟨c0, c1, c2, c3, c4, c5⟩ := cells6 bT
               obtain ⟨i0, i1⟩ := cells2 bI
               obtain ⟨k0, k1, k2, k3⟩ := cells4 bC
               obtain ⟨u0, u1, u2, u3, u4, u5⟩ := cx _ hwd
               have hrunH : Hid _ := push_it (xk, (x1, x2), xkd, xtk, xtt) hOd.1 (by omega)
               have HGP : Hid (∀ v' w', PushT itE 63 wd v (OUT ++ [(xk, (x1, x2), xkd, xtk, xtt)]) v' w' → Ow itE 63 (w.heap.size + 4) w' v' (OUT ++ [(xk, (x1, x2), xkd, xtk, xtt)]) ∧ Below (w.heap.size + 4) wd w') := fun v' w' hp => hOd.push (Nat.le_trans hz hbd.size) hp
               have hol2 : (OUT ++ [(xk, (x1, x2), xkd, xtk, xtt)]).length ≤ (i + 1) + m := by rw [List.length_append]; simp; omega
               obtain ⟨va, vc, hva, -⟩ := hOd.1.shape
               clear hOd HX cx
               generalize OUT ++ [(xk, (x1, x2), xkd, xtk, xtt)] = OUT2 at *
               generalize OUT.length = kl at *
               subst hva
               go_wp2_with (at_builtin; refine wp_by rfl _ _ _ rfl _ _ rfl rfl hrunH.out ?_)
               intro v6 w6 hp6
               obtain ⟨hO6, hb6⟩ := HGP.out v6 w6 hp6
               have hb06 := hbd.trans hb6
               clear hrunH hp6 hb6 HGP hbd
               go_wp2
               go_roundg (gE - 1)
               case measure => omega
               case rel => exact ⟨i + 1, m, v6, OUT2, by omega, by go_num, rfl, rfl, hO6, hb06, by omega, HT2, (fun h => by omega), hol2⟩
             ·have hie : i = is.length := by omega
              have hib : ((i : Int) == (is.length : Int)) = true := by simp; omega
              have HIE : Hid (i = is.length) := hie
              clear hie
              have hdr : Below wr.heap.size wr wr.drew := (Below.refl _ wr).drew
              have hbd := hb.drew
              have hOd := hO.below hdr
              have hwd : Below w.heap.size w wr.drew := (HC.out _ hbd).1
              obtain ⟨-, bT', bI', bC', bZ'⟩ := HC.out _ hbd
              have hS0 : (fun W => ((W.cell? ⟨w.heap.size + 2, 0, none⟩ = some (.int .i64 kd) ∧ W.cell? ⟨w.heap.size + 2, 1, none⟩ = some (.slice (some ⟨kb, koff, none⟩) ks.length cb) ∧ W.cell? ⟨w.heap.size + 2, 2, none⟩ = some (.int .u64 (ct : Int)) ∧ W.cell? ⟨w.heap.size + 2, 3, none⟩ = some (.int .i64 tt)) ∧ W.cell? ⟨w.heap.size, 5, none⟩ = some (.slice ia is.length ic_)) ∧ Below wr.heap.size wr W) wr.drew := ⟨⟨cells4 bC', (cells6 bT').2.2.2.2.2⟩, hdr⟩
              clear bT' bI' bC' bZ' hdr hO
              go_wp2
              refine wp_region_L (fun W => ((W.cell? ⟨w.heap.size + 2, 0, none⟩ = some (.int .i64 kd) ∧ W.cell? ⟨w.heap.size + 2, 1, none⟩ = some (.slice (some ⟨kb, koff, none⟩) ks.length cb) ∧ W.cell? ⟨w.heap.size + 2, 2, none⟩ = some (.int .u64 (ct : Int)) ∧ W.cell? ⟨w.heap.size + 2, 3, none⟩ = some (.int .i64 tt)) ∧ W.cell? ⟨w.heap.size, 5, none⟩ = some (.slice ia is.length ic_)) ∧ Below wr.heap.size wr W) [] (by kernel_rfl) ?_
              have yS : (fun W => ((W.cell? ⟨w.heap.size + 2, 0, none⟩ = some (.int .i64 kd) ∧ W.cell? ⟨w.heap.size + 2, 1, none⟩ = some (.slice (some ⟨kb, koff, none⟩) ks.length cb) ∧ W.cell? ⟨w.heap.size + 2, 2, none⟩ = some (.int .u64 (ct : Int)) ∧ W.cell? ⟨w.heap.size + 2, 3, none⟩ = some (.int .i64 tt)) ∧ W.cell? ⟨w.heap.size, 5, none⟩ = some (.slice ia is.length ic_)) ∧ Below wr.heap.size wr W) wr.drew := hS0
              refine tkg 0 rfl (by intro w' hS'; obtain ⟨⟨⟨x0, x1_, x2_, x3_⟩, x4_⟩, xb⟩ := hS'; go_simp <;> rfl) yS ?_
              try simp only [pa, pb, pc, Act.put, pd, pe, pf]
              refine tkg 1 rfl (by intro w' hS'; obtain ⟨⟨⟨x0, x1_, x2_, x3_⟩, x4_⟩, xb⟩ := hS'; go_simp <;> rfl) yS ?_
              try simp only [pa, pb, pc, Act.put, pd, pe, pf]
              refine tkg 2 rfl (by intro w' hS'; obtain ⟨⟨⟨x0, x1_, x2_, x3_⟩, x4_⟩, xb⟩ := hS'; go_simp <;> rfl) yS ?_
              try simp only [pa, pb, pc, Act.put, pd, pe, pf]
              refine tkg 3 rfl (by intro w' hS'; obtain ⟨⟨⟨x0, x1_, x2_, x3_⟩, x4_⟩, xb⟩ := hS'; go_simp <;> rfl) yS ?_
              try simp only [pa, pb, pc, Act.put, pd, pe, pf]
              refine tkg 4 rfl (by intro w' hS'; obtain ⟨⟨⟨x0, x1_, x2_, x3_⟩, x4_⟩, xb⟩ := hS'; go_simp <;> rfl) yS ?_
              try simp only [pa, pb, pc, Act.put, pd, pe, pf]
              refine tkg 5 rfl (by intro w' hS'; obtain ⟨⟨⟨x0, x1_, x2_, x3_⟩, x4_⟩, xb⟩ := hS'; go_simp <;> rfl) yS ?_
              try simp only [pa, pb, pc, Act.put, pd, pe, pf]
              refine tkg 6 rfl (by intro w' hS'; obtain ⟨⟨⟨x0, x1_, x2_, x3_⟩, x4_⟩, xb⟩ := hS'; go_simp <;> rfl) yS ?_
              try simp only [pa, pb, pc, Act.put, pd, pe, pf]
              refine tkg 7 rfl (by intro w' hS'; obtain ⟨⟨⟨x0, x1_, x2_, x3_⟩, x4_⟩, xb⟩ := hS'; go_simp <;> rfl) yS ?_
              try simp only [pa, pb, pc, Act.put, pd, pe, pf]
              refine tkg 8 rfl (by intro w' hS'; obtain ⟨⟨⟨x0, x1_, x2_, x3_⟩, x4_⟩, xb⟩ := hS'; go_simp <;> rfl) yS ?_
              try simp only [pa, pb, pc, Act.put, pd, pe, pf]
              refine tkg 9 rfl (by intro w' hS'; obtain ⟨⟨⟨x0, x1_, x2_, x3_⟩, x4_⟩, xb⟩ := hS'; go_simp <;> rfl) yS ?_
              try simp only [pa, pb, pc, Act.put, pd, pe, pf]
              refine tkg 10 rfl (by intro w' hS'; obtain ⟨⟨⟨x0, x1_, x2_, x3_⟩, x4_⟩, xb⟩ := hS'; go_simp <;> rfl) yS ?_
              try simp only [pa, pb, pc, Act.put, pd, pe, pf]
              refine tkg 11 rfl (by intro w' hS'; obtain ⟨⟨⟨x0, x1_, x2_, x3_⟩, x4_⟩, xb⟩ := hS'; go_simp <;> rfl) yS ?_
              try simp only [pa, pb, pc, Act.put, pd, pe, pf]
              refine skg 12 rfl yS ?_
              try simp only [pa, pb, pc, Act.put, pd, pe, pf]
              refine skg 13 rfl yS ?_
              try simp only [pa, pb, pc, Act.put, pd, pe, pf]
              refine skg 14 rfl yS ?_
              try simp only [pa, pb, pc, Act.put, pd, pe, pf]
              refine skg 15 rfl yS ?_
              try simp only [pa, pb, pc, Act.put, pd, pe, pf]
              refine skg 16 rfl yS ?_
              try simp only [pa, pb, pc, Act.put, pd, pe, pf]
              refine skg 17 rfl yS ?_
              try simp only [pa, pb, pc, Act.put, pd, pe, pf]
              refine skg 18 rfl yS ?_
              try simp only [pa, pb, pc, Act.put, pd, pe, pf]
              refine skg 19 rfl yS ?_
              try simp only [pa, pb, pc, Act.put, pd, pe, pf]
              refine skg 20 rfl yS ?_
              try simp only [pa, pb, pc, Act.put, pd, pe, pf]
              refine skg 21 rfl yS ?_
              try simp only [pa, pb, pc, Act.put, pd, pe, pf]
              refine skg 22 rfl yS ?_
              try simp only [pa, pb, pc, Act.put, pd, pe, pf]
              refine skg 23 rfl yS ?_
              try simp only [pa, pb, pc, Act.put, pd, pe, pf]
              refine tkg 24 rfl (by intro w' hS'; obtain ⟨⟨⟨x0, x1_, x2_, x3_⟩, x4_⟩, xb⟩ := hS'; go_simp <;> rfl) yS ?_
              try simp only [pa, pb, pc, Act.put, pd, pe, pf]
              refine tkg 25 rfl (by intro w' hS'; obtain ⟨⟨⟨x0, x1_, x2_, x3_⟩, x4_⟩, xb⟩ := hS'; go_simp <;> rfl) yS ?_
              try simp only [pa, pb, pc, Act.put, pd, pe, pf]
              refine wpAnyL_done (by kernel_rfl) (NoPanic.normal ?_) _
              clear hS0 yS
              have HN0 : Hid ((OUT ++ [(k, (d1, d2), kd, tokM kd ct tk, tt)]) ++ mrg (is.drop i) (MO.drop (m + 1)) = MM) := mrg_new (HMG.out m k hyk.out) (.inl (by have := HIE.out; omega)) HT.out
              have hbe := hbd.drew
              have hOe := hOd.below ((Below.refl wr.drew.heap.size wr.drew).drew)
              have hwe : Below w.heap.size w wr.drew.drew := (HC.out _ hbe).1
              clear HT hbd hOd hwd
              clear c0 c1 c2 c3 c4 c5 i0 i1 k0 k1 k2 k3 bT bI bC bZ
              go_wp2
              refine wp_region_L (fun W => ((W.cell? ⟨w.heap.size + 2, 0, none⟩ = some (.int .i64 kd) ∧ W.cell? ⟨w.heap.size + 2, 1, none⟩ = some (.slice (some ⟨kb, koff, none⟩) ks.length cb) ∧ W.cell? ⟨w.heap.size + 2, 2, none⟩ = some (.int .u64 (ct : Int)) ∧ W.cell? ⟨w.heap.size + 2, 3, none⟩ = some (.int .i64 tt)) ∧ (W.cell? ⟨w.heap.size + 1, 0, none⟩ = some (.int .i64 d1) ∧ W.cell? ⟨w.heap.size + 1, 1, none⟩ = some (.int .u64 (d2 : Int))) ∧ W.cell? ⟨kb, koff + m, none⟩ = some (.string (bk k))) ∧ Below wr.drew.drew.heap.size wr.drew.drew W) [13] (by kernel_rfl) ?_
              generalize wr.drew.drew = ve at *
              obtain ⟨-, bT, bI, bC, bZ⟩ := HC.out _ hbe
              obtain ⟨c0, c1, c2, c3, c4, c5⟩ := cells6 bT
              obtain ⟨i0, i1⟩ := cells2 bI
              obtain ⟨k0, k1, k2, k3⟩ := cells4 bC
              obtain ⟨q1, q2, q3⟩ := one_box ve (.cells #[.string { data := #[] }, .int .i64 0, .int .u64 0, .int .i64 0, .int .u64 0, .int .i64 0] 63)
              obtain ⟨wz, hwz⟩ : ∃ W, ve.alloc (.cells #[.string { data := #[] }, .int .i64 0, .int .u64 0, .int .i64 0, .int .u64 0, .int .i64 0] 63) = W := ⟨_, rfl⟩
              rw [hwz] at q1 q2 q3
              have yk := cyk _ hwe
              have yT : (fun W => ((W.cell? ⟨w.heap.size + 2, 0, none⟩ = some (.int .i64 kd) ∧ W.cell? ⟨w.heap.size + 2, 1, none⟩ = some (.slice (some ⟨kb, koff, none⟩) ks.length cb) ∧ W.cell? ⟨w.heap.size + 2, 2, none⟩ = some (.int .u64 (ct : Int)) ∧ W.cell? ⟨w.heap.size + 2, 3, none⟩ = some (.int .i64 tt)) ∧ (W.cell? ⟨w.heap.size + 1, 0, none⟩ = some (.int .i64 d1) ∧ W.cell? ⟨w.heap.size + 1, 1, none⟩ = some (.int .u64 (d2 : Int))) ∧ W.cell? ⟨kb, koff + m, none⟩ = some (.string (bk k))) ∧ Below ve.heap.size ve W) ve := ⟨⟨⟨k0, k1, k2, k3⟩, ⟨i0, i1⟩, yk⟩, Below.refl _ _⟩
              have hT1 : (fun W => ((W.cell? ⟨w.heap.size + 2, 0, none⟩ = some (.int .i64 kd) ∧ W.cell? ⟨w.heap.size + 2, 1, none⟩ = some (.slice (some ⟨kb, koff, none⟩) ks.length cb) ∧ W.cell? ⟨w.heap.size + 2, 2, none⟩ = some (.int .u64 (ct : Int)) ∧ W.cell? ⟨w.heap.size + 2, 3, none⟩ = some (.int .i64 tt)) ∧ (W.cell? ⟨w.heap.size + 1, 0, none⟩ = some (.int .i64 d1) ∧ W.cell? ⟨w.heap.size + 1, 1, none⟩ = some (.int .u64 (d2 : Int))) ∧ W.cell? ⟨kb, koff + m, none⟩ = some (.string (bk k))) ∧ Below ve.heap.size ve W) wz := by
               have e1 := (q3.block (w.heap.size + 2) (by have := hbe.size; omega)).trans bC
               have e2 := (q3.block (w.heap.size + 1) (by have := hbe.size; omega)).trans bI
               exact ⟨⟨cells4 e1, cells2 e2, cyk _ (hwe.trans (q3.mono hwe.size))⟩, q3⟩
              have bCz := (q3.block (w.heap.size + 2) (by have := hbe.size; omega)).trans bC
              clear c0 c1 c2 c3 c4 c5 bT bI bZ
              refine tkg 0 rfl (by intro w' hS'; obtain ⟨⟨⟨x0, x1_, x2_, x3_⟩, ⟨x4_, x5_⟩, x6_⟩, xb⟩ := hS'; go_simp <;> rfl) yT ?_
              try simp only [pa, pb, pc, Act.put, pd, pe, pf]
              refine tkg 1 rfl (by intro w' hS'; obtain ⟨⟨⟨x0, x1_, x2_, x3_⟩, ⟨x4_, x5_⟩, x6_⟩, xb⟩ := hS'; go_simp <;> rfl) yT ?_
              try simp only [pa, pb, pc, Act.put, pd, pe, pf]
              refine tkg 2 rfl (by intro w' hS'; obtain ⟨⟨⟨x0, x1_, x2_, x3_⟩, ⟨x4_, x5_⟩, x6_⟩, xb⟩ := hS'; go_simp <;> rfl) yT ?_
              try simp only [pa, pb, pc, Act.put, pd, pe, pf]
              refine tkg 3 rfl (by intro w' hS'; obtain ⟨⟨⟨x0, x1_, x2_, x3_⟩, ⟨x4_, x5_⟩, x6_⟩, xb⟩ := hS'; go_simp <;> rfl) yT ?_
              try simp only [pa, pb, pc, Act.put, pd, pe, pf]
              refine tkg 4 rfl (by intro w' hS'; obtain ⟨⟨⟨x0, x1_, x2_, x3_⟩, ⟨x4_, x5_⟩, x6_⟩, xb⟩ := hS'; go_simp <;> rfl) yT ?_
              try simp only [pa, pb, pc, Act.put, pd, pe, pf]
              refine tkg 5 rfl (by intro w' hS'; obtain ⟨⟨⟨x0, x1_, x2_, x3_⟩, ⟨x4_, x5_⟩, x6_⟩, xb⟩ := hS'; go_simp <;> rfl) yT ?_
              try simp only [pa, pb, pc, Act.put, pd, pe, pf]
              refine tkg 6 rfl (by intro w' hS'; obtain ⟨⟨⟨x0, x1_, x2_, x3_⟩, ⟨x4_, x5_⟩, x6_⟩, xb⟩ := hS'; go_simp <;> rfl) yT ?_
              try simp only [pa, pb, pc, Act.put, pd, pe, pf]
              refine tkg 7 rfl (by intro w' hS'; obtain ⟨⟨⟨x0, x1_, x2_, x3_⟩, ⟨x4_, x5_⟩, x6_⟩, xb⟩ := hS'; go_simp <;> rfl) yT ?_
              try simp only [pa, pb, pc, Act.put, pd, pe, pf]
              refine tkg 8 rfl (by intro w' hS'; obtain ⟨⟨⟨x0, x1_, x2_, x3_⟩, ⟨x4_, x5_⟩, x6_⟩, xb⟩ := hS'; go_simp <;> rfl) yT ?_
              try simp only [pa, pb, pc, Act.put, pd, pe, pf]
              refine tkg 9 rfl (by intro w' hS'; obtain ⟨⟨⟨x0, x1_, x2_, x3_⟩, ⟨x4_, x5_⟩, x6_⟩, xb⟩ := hS'; go_simp <;> rfl) yT ?_
              try simp only [pa, pb, pc, Act.put, pd, pe, pf]
              refine tkg 10 rfl (by intro w' hS'; obtain ⟨⟨⟨x0, x1_, x2_, x3_⟩, ⟨x4_, x5_⟩, x6_⟩, xb⟩ := hS'; go_simp <;> rfl) yT ?_
              try simp only [pa, pb, pc, Act.put, pd, pe, pf]
              refine tkg 11 rfl (by intro w' hS'; obtain ⟨⟨⟨x0, x1_, x2_, x3_⟩, ⟨x4_, x5_⟩, x6_⟩, xb⟩ := hS'; go_simp <;> rfl) yT ?_
              try simp only [pa, pb, pc, Act.put, pd, pe, pf]
              refine wpAnyL_one 12 (by kernel_rfl) rfl (by kernel_rfl) ?_
              intro K' hK'
              go_simp
              refine hK'.out _ _ (.inr hT1) ?_
              clear hK' K'
              try simp only [pa, pb, pc, Act.put, pd, pe, pf]
              obtain ⟨⟨f0, f1, f2, f3, f4, f5⟩, z0, z1, z2, z3, z4, z5⟩ := t_cells q2
              have P5 := set6_block q2 (.string (bk k)) (.int .i64 d1) (.int .u64 (d2 : Int)) (.int .i64 kd) (.int .u64 (tk : Int)) (.int .i64 tt)
              have Bw5 := set6_below (.string (bk k)) (.int .i64 d1) (.int .u64 (d2 : Int)) (.int .i64 kd) (.int .u64 (tk : Int)) (.int .i64 tt) (g := ve.heap.size) q3 (Nat.le_refl _)
              unfold set6 at P5 Bw5
              obtain ⟨w5, hw5⟩ : ∃ W, ((((((wz.setCell ⟨ve.heap.size, 0, none⟩ (.string (bk k))).setCell ⟨ve.heap.size, 1, none⟩ (.int .i64 d1)).setCell ⟨ve.heap.size, 2, none⟩ (.int .u64 (d2 : Int))).setCell ⟨ve.heap.size, 3, none⟩ (.int .i64 kd)).setCell ⟨ve.heap.size, 4, none⟩ (.int .u64 (tk : Int))).setCell ⟨ve.heap.size, 5, none⟩ (.int .i64 tt)) = W := ⟨_, rfl⟩
              rw [hw5] at P5 Bw5
              refine wpAnyL_one 13 (by kernel_rfl) rfl (by kernel_rfl) ?_
              intro K' hK'
              go_simp
              refine hK'.out _ _ (.inl (by decide)) ?_
              clear hK' K'
              try simp only [pa, pb, pc, Act.put, pd, pe, pf]
              refine wpAnyL_done (by kernel_rfl) (NoPanic.normal ?_) _
              have bC5 := (Bw5.block (w.heap.size + 2) (by have := hbe.size; omega)).trans bC
              clear f0 f1 f2 f3 f4 f5 z0 z1 z2 z3 z4 z5 q1 q2 q3 yT hT1 bC bCz i0 i1 k0 k1 k2 k3 yk hwz hw5
              obtain ⟨k0, k1, k2, k3⟩ := cells4 bC5
              obtain ⟨⟨f0, f1, f2, f3, f4, f5⟩, z0, z1, z2, z3, z4, z5⟩ := t_cells P5
              by_cases hk1 : kd = 1
              ·have hkb : (kd != 1) = false := by simp [hk1]
               have HN : Hid ((OUT ++ [(k, (d1, d2), kd, tk, tt)]) ++ mrg (is.drop i) (MO.drop (m + 1)) = MM) := by
                show _ = _
                have := HN0.out
                rw [show tokM kd ct tk = tk by unfold tokM; rw [if_pos hk1]] at this
                exact this
               clear HN0 hk1
               have HOW : Ow itE 63 (w.heap.size + 4) w5 v OUT := hOe.below Bw5
               have hbW := hbe.trans (Bw5.mono (Nat.le_trans hz hbe.size))
               have hrunH : Hid _ := push_it (k, (d1, d2), kd, tk, tt) HOW.1 (by omega)
               have HGP : Hid (∀ v' w', PushT itE 63 w5 v (OUT ++ [(k, (d1, d2), kd, tk, tt)]) v' w' → Ow itE 63 (w.heap.size + 4) w' v' (OUT ++ [(k, (d1, d2), kd, tk, tt)]) ∧ Below (w.heap.size + 4) w5 w') := fun v' w' hp => HOW.push (Nat.le_trans hz hbW.size) hp
               have hol2 : (OUT ++ [(k, (d1, d2), kd, tk, tt)]).length ≤ i + (m + 1) := by rw [List.length_append]; simp; omega
               obtain ⟨va, vc, hva, -⟩ := HOW.1.shape
               clear HOW hOe
               generalize OUT ++ [(k, (d1, d2), kd, tk, tt)] = OUT2 at *
               generalize OUT.length = kl at *
               subst hva
               go_wp2_with (at_builtin; refine wp_by rfl _ _ _ rfl _ _ rfl rfl hrunH.out ?_)
               intro v6 w6 hp6
               obtain ⟨hO6, hb6⟩ := HGP.out v6 w6 hp6
               have hb06 := hbW.trans hb6
               clear hrunH hp6 hb6 HGP hbW
               go_wp2
               go_roundg (gk - 1)
               case measure => omega
               case rel => exact ⟨m + 1, v6, OUT2, by omega, by go_num, rfl, hO6, hb06, HN, hol2⟩
              ·have hkb : (kd != 1) = true := by simpa using hk1
               have HN : Hid ((OUT ++ [(k, (d1, d2), kd, ct, tt)]) ++ mrg (is.drop i) (MO.drop (m + 1)) = MM) := by
                show _ = _
                have := HN0.out
                rw [show tokM kd ct tk = ct by unfold tokM; rw [if_neg hk1]] at this
                exact this
               have P7 := set_block P5 (j := 4) (.int .u64 (ct : Int))
               have Bw7 := Bw5.setCell (p := ⟨ve.heap.size, 4, none⟩) (Nat.le_refl _) (.int .u64 (ct : Int))
               obtain ⟨w7, hw7⟩ : ∃ W, w5.setCell ⟨ve.heap.size, 4, none⟩ (.int .u64 (ct : Int)) = W := ⟨_, rfl⟩
               rw [hw7] at P7 Bw7
               have P7' : w7.heap[ve.heap.size]? = some (.cells #[.string (bk k), .int .i64 d1, .int .u64 (d2 : Int), .int .i64 kd, .int .u64 (ct : Int), .int .i64 tt] 63 (0, 0)) := P7
               obtain ⟨y0, y1, y2, y3, y4, y5⟩ := cells6 P7'
               clear HN0 hk1
               have HOW : Ow itE 63 (w.heap.size + 4) w7 v OUT := hOe.below Bw7
               have hbW := hbe.trans (Bw7.mono (Nat.le_trans hz hbe.size))
               have hrunH : Hid _ := push_it (k, (d1, d2), kd, ct, tt) HOW.1 (by omega)
               have HGP : Hid (∀ v' w', PushT itE 63 w7 v (OUT ++ [(k, (d1, d2), kd, ct, tt)]) v' w' → Ow itE 63 (w.heap.size + 4) w' v' (OUT ++ [(k, (d1, d2), kd, ct, tt)]) ∧ Below (w.heap.size + 4) w7 w') := fun v' w' hp => HOW.push (Nat.le_trans hz hbW.size) hp
               have hol2 : (OUT ++ [(k, (d1, d2), kd, ct, tt)]).length ≤ i + (m + 1) := by rw [List.length_append]; simp; omega
               obtain ⟨va, vc, hva, -⟩ := HOW.1.shape
               clear HOW hOe
               generalize OUT ++ [(k, (d1, d2), kd, ct, tt)] = OUT2 at *
               generalize OUT.length = kl at *
               subst hva
               go_wp2_with (at_builtin; refine wp_by rfl _ _ _ rfl _ _ rfl rfl hrunH.out ?_)
               intro v6 w6 hp6
               obtain ⟨hO6, hb6⟩ := HGP.out v6 w6 hp6
               have hb06 := hbW.trans hb6
               clear hrunH hp6 hb6 HGP hbW
               go_wp2
               go_roundg (gk - 1)
               case measure => omega
               case rel => exact ⟨m + 1, v6, OUT2, by omega, by go_num, rfl, hO6, hb06, HN, hol2⟩
            ·have hmi : ¬ (m : Int) < (ks.length : Int) := by omega
             have hdr : Below wr.heap.size wr wr.drew := (Below.refl _ wr).drew
             have hbd := hb.drew
             have hOd := hO.below hdr
             have hwd : Below w.heap.size w wr.drew := (HC.out _ hbd).1
             obtain ⟨-, bT', bI', bC', bZ'⟩ := HC.out _ hbd
             have hS0 : (fun W => ((W.cell? ⟨w.heap.size + 2, 0, none⟩ = some (.int .i64 kd) ∧ W.cell? ⟨w.heap.size + 2, 1, none⟩ = some (.slice ca ks.length cb) ∧ W.cell? ⟨w.heap.size + 2, 2, none⟩ = some (.int .u64 (ct : Int)) ∧ W.cell? ⟨w.heap.size + 2, 3, none⟩ = some (.int .i64 tt)) ∧ W.cell? ⟨w.heap.size, 5, none⟩ = some (.slice ia is.length ic_)) ∧ Below wr.heap.size wr W) wr.drew := ⟨⟨cells4 bC', (cells6 bT').2.2.2.2.2⟩, hdr⟩
             clear bT' bI' bC' bZ' hdr hO
             go_wp2
             refine wp_region_L (fun W => ((W.cell? ⟨w.heap.size + 2, 0, none⟩ = some (.int .i64 kd) ∧ W.cell? ⟨w.heap.size + 2, 1, none⟩ = some (.slice ca ks.length cb) ∧ W.cell? ⟨w.heap.size + 2, 2, none⟩ = some (.int .u64 (ct : Int)) ∧ W.cell? ⟨w.heap.size + 2, 3, none⟩ = some (.int .i64 tt)) ∧ W.cell? ⟨w.heap.size, 5, none⟩ = some (.slice ia is.length ic_)) ∧ Below wr.heap.size wr W) [] (by kernel_rfl) ?_
             have yS : (fun W => ((W.cell? ⟨w.heap.size + 2, 0, none⟩ = some (.int .i64 kd) ∧ W.cell? ⟨w.heap.size + 2, 1, none⟩ = some (.slice ca ks.length cb) ∧ W.cell? ⟨w.heap.size + 2, 2, none⟩ = some (.int .u64 (ct : Int)) ∧ W.cell? ⟨w.heap.size + 2, 3, none⟩ = some (.int .i64 tt)) ∧ W.cell? ⟨w.heap.size, 5, none⟩ = some (.slice ia is.length ic_)) ∧ Below wr.heap.size wr W) wr.drew := hS0
             refine tkg 0 rfl (by intro w' hS'; obtain ⟨⟨⟨x0, x1_, x2_, x3_⟩, x4_⟩, xb⟩ := hS'; go_simp <;> rfl) yS ?_
             try simp only [pa, pb, pc, Act.put, pd, pe, pf]
             refine tkg 1 rfl (by intro w' hS'; obtain ⟨⟨⟨x0, x1_, x2_, x3_⟩, x4_⟩, xb⟩ := hS'; go_simp <;> rfl) yS ?_
             try simp only [pa, pb, pc, Act.put, pd, pe, pf]
             refine tkg 2 rfl (by intro w' hS'; obtain ⟨⟨⟨x0, x1_, x2_, x3_⟩, x4_⟩, xb⟩ := hS'; go_simp <;> rfl) yS ?_
             try simp only [pa, pb, pc, Act.put, pd, pe, pf]
             refine tkg 3 rfl (by intro w' hS'; obtain ⟨⟨⟨x0, x1_, x2_, x3_⟩, x4_⟩, xb⟩ := hS'; go_simp <;> rfl) yS ?_
             try simp only [pa, pb, pc, Act.put, pd, pe, pf]
             refine tkg 4 rfl (by intro w' hS'; obtain ⟨⟨⟨x0, x1_, x2_, x3_⟩, x4_⟩, xb⟩ := hS'; go_simp <;> rfl) yS ?_
             try simp only [pa, pb, pc, Act.put, pd, pe, pf]
             refine tkg 5 rfl (by intro w' hS'; obtain ⟨⟨⟨x0, x1_, x2_, x3_⟩, x4_⟩, xb⟩ := hS'; go_simp <;> rfl) yS ?_
             try simp only [pa, pb, pc, Act.put, pd, pe, pf]
             refine skg 6 rfl yS ?_
             try simp only [pa, pb, pc, Act.put, pd, pe, pf]
             refine skg 7 rfl yS ?_
             try simp only [pa, pb, pc, Act.put, pd, pe, pf]
             refine skg 8 rfl yS ?_
             try simp only [pa, pb, pc, Act.put, pd, pe, pf]
             refine skg 9 rfl yS ?_
             try simp only [pa, pb, pc, Act.put, pd, pe, pf]
             refine skg 10 rfl yS ?_
             try simp only [pa, pb, pc, Act.put, pd, pe, pf]
             refine skg 11 rfl yS ?_
             try simp only [pa, pb, pc, Act.put, pd, pe, pf]
             refine skg 12 rfl yS ?_
             try simp only [pa, pb, pc, Act.put, pd, pe, pf]
             refine skg 13 rfl yS ?_
             try simp only [pa, pb, pc, Act.put, pd, pe, pf]
             refine skg 14 rfl yS ?_
             try simp only [pa, pb, pc, Act.put, pd, pe, pf]
             refine skg 15 rfl yS ?_
             try simp only [pa, pb, pc, Act.put, pd, pe, pf]
             refine skg 16 rfl yS ?_
             try simp only [pa, pb, pc, Act.put, pd, pe, pf]
             refine skg 17 rfl yS ?_
             try simp only [pa, pb, pc, Act.put, pd, pe, pf]
             refine skg 18 rfl yS ?_
             try simp only [pa, pb, pc, Act.put, pd, pe, pf]
             refine skg 19 rfl yS ?_
             try simp only [pa, pb, pc, Act.put, pd, pe, pf]
             refine skg 20 rfl yS ?_
             try simp only [pa, pb, pc, Act.put, pd, pe, pf]
             refine skg 21 rfl yS ?_
             try simp only [pa, pb, pc, Act.put, pd, pe, pf]
             refine skg 22 rfl yS ?_
             try simp only [pa, pb, pc, Act.put, pd, pe, pf]
             refine skg 23 rfl yS ?_
             try simp only [pa, pb, pc, Act.put, pd, pe, pf]
             refine skg 24 rfl yS ?_
             try simp only [pa, pb, pc, Act.put, pd, pe, pf]
             refine tkg 25 rfl (by intro w' hS'; obtain ⟨⟨⟨x0, x1_, x2_, x3_⟩, x4_⟩, xb⟩ := hS'; go_simp <;> rfl) yS ?_
             try simp only [pa, pb, pc, Act.put, pd, pe, pf]
             refine wpAnyL_done (by kernel_rfl) (NoPanic.normal ?_) _
             clear hS0 yS
             by_cases hi2 : i < is.length
             ·have hx : is[i]? = some is[i] := List.getElem?_eq_getElem hi2
              obtain ⟨x, hxx⟩ : ∃ x, x = is[i] := ⟨_, rfl⟩
              rw [← hxx] at hx
              clear hxx
              have HX : Hid (is[i]? = some x) := hx
              obtain ⟨b, off, ea, cx⟩ := rdx_at (HR.out w (Below.refl _ _)).2.2.2.2 hx
              subst ea
              clear hx
              obtain ⟨xk, ⟨x1, x2⟩, xkd, xtk, xtt⟩ := x
              dsimp only at cx
              have hi2i : (i : Int) < (is.length : Int) := by omega
              have HN9 : Hid (MO.length ≤ m ∨ ∃ y, MO[m]? = some y ∧ ¬ y.1 < xk) := .inl (by rw [HML.out]; omega)
              have HT2 : Hid ((OUT ++ [(xk, (x1, x2), xkd, xtk, xtt)]) ++ mrg (is.drop (i + 1)) (MO.drop m) = MM) := mrg_old HX.out HN9.out HT.out
              clear HT HN9
              generalize wr.drew = wd at *
              clear c0 c1 c2 c3 c4 c5 i0 i1 k0 k1 k2 k3 bT bI bC bZ
              obtain ⟨-, bT, bI, bC, bZ⟩ := HC.out _ hbd
              obtain ⟨c0, c1, c2, c3, c4, c5⟩ := cells6 bT
              obtain ⟨i0, i1⟩ := cells2 bI
              obtain ⟨k0, k1, k2, k3⟩ := cells4 bC
              obtain ⟨u0, u1, u2, u3, u4, u5⟩ := cx _ hwd
              have hrunH : Hid _ := push_it (xk, (x1, x2), xkd, xtk, xtt) hOd.1 (by omega)
              have HGP : Hid (∀ v' w', PushT itE 63 wd v (OUT ++ [(xk, (x1, x2), xkd, xtk, xtt)]) v' w' → Ow itE 63 (w.heap.size + 4) w' v' (OUT ++ [(xk, (x1, x2), xkd, xtk, xtt)]) ∧ Below (w.heap.size + 4) wd w') := fun v' w' hp => hOd.push (Nat.le_trans hz hbd.size) hp
              have hol2 : (OUT ++ [(xk, (x1, x2), xkd, xtk, xtt)]).length ≤ (i + 1) + m := by rw [List.length_append]; simp; omega
              obtain ⟨va, vc, hva, -⟩ := hOd.1.shape
              clear hOd HX cx
              generalize OUT ++ [(xk, (x1, x2), xkd, xtk, xtt)] = OUT2 at *
              generalize OUT.length = kl at *
              subst hva
              go_wp2_with (at_builtin; refine wp_by rfl _ _ _ rfl _ _ rfl rfl hrunH.out ?_)
              intro v6 w6 hp6
              obtain ⟨hO6, hb6⟩ := HGP.out v6 w6 hp6
              have hb06 := hbd.trans hb6
              clear hrunH hp6 hb6 HGP hbd
              go_wp2
              go_roundg (gE - 1)
              case measure => omega
              case rel => exact ⟨i + 1, m, v6, OUT2, by omega, by go_num, rfl, rfl, hO6, hb06, by omega, HT2, (fun h => by omega), hol2⟩
             ·have hi2i : ¬ (i : Int) < (is.length : Int) := by omega
              have HT2 : Hid (OUT ++ mrg (is.drop (i + 1)) (MO.drop m) = MM) := by
               show _ = _
               have := HT.out
               rw [List.drop_of_length_le (by omega : is.length ≤ i)] at this
               rw [List.drop_of_length_le (by omega : is.length ≤ i + 1)]
               exact this
              have hol2 : OUT.length ≤ (i + 1) + m := by omega
              have HME : Hid (m = ks.length) := by show _ = _; omega
              generalize wr.drew = wd at *
              clear c0 c1 c2 c3 c4 c5 i0 i1 k0 k1 k2 k3 bT bI bC bZ
              obtain ⟨-, bT, bI, bC, bZ⟩ := HC.out _ hbd
              obtain ⟨c0, c1, c2, c3, c4, c5⟩ := cells6 bT
              obtain ⟨i0, i1⟩ := cells2 bI
              obtain ⟨k0, k1, k2, k3⟩ := cells4 bC
              clear HT
              go_wp2
              go_roundg (gE - 1)
              case measure => omega
              case rel => exact ⟨i + 1, m, v, OUT, by omega, by go_num, rfl, rfl, hOd, hbd, by have := HME.out; omega, HT2, (fun _ => HME.out), hol2⟩
          ·have hili : ¬ (i : Int) ≤ (is.length : Int) := by omega
           have hie : i = is.length + 1 := by omega
           have hme := HI.out hie
           have HOU : Hid (OUT = MM) := by
            show _ = _
            have := HT.out
            rw [List.drop_of_length_le (by omega), List.drop_of_length_le (by rw [HML.out]; omega)] at this
            rw [← this]
            simp [mrg]
           clear HT HI HMG HML hie hme
           obtain ⟨va, vc, hva, -⟩ := hO.1.shape
           rw [HOU.out] at hO hva hol
           subst hva
           have hOR : Rd itE wr (.slice va MM.length vc) MM := hO.1.rd
           have hlt5 : w.heap.size < w.heap.size + 4 := by omega
           have P5 := set_block bT (j := 5) (.slice va MM.length vc)
           have B5 := (HC.out _ hb).1.setCell (p := ⟨w.heap.size, 5, none⟩) (Nat.le_refl _) (.slice va MM.length vc)
           have O5 : Ow itE 63 (w.heap.size + 4) (wr.setCell ⟨w.heap.size, 5, none⟩ (.slice va MM.length vc)) (.slice va MM.length vc) MM := hO.keep fun k hk _ => set_other (by omega)
           have Z5 : (wr.setCell ⟨w.heap.size, 5, none⟩ (.slice va MM.length vc)).heap[w.heap.size + 3]? = _ := (set_other (by omega)).trans bZ
           obtain ⟨⟨f0, f1, f2, f3, f4, f5⟩, -⟩ := t_cells bT
           obtain ⟨w5, hw5⟩ : ∃ W, wr.setCell ⟨w.heap.size, 5, none⟩ (.slice va MM.length vc) = W := ⟨_, rfl⟩
           rw [hw5] at P5 B5 O5 Z5
           have P5' : w5.heap[w.heap.size]? = some (.cells #[.int .i64 nw, .slice sa sp.length sc, .slice fa fr.length fc, .slice ha hs_.length hc, .slice ma ms.length mc, .slice va MM.length vc] 27 (0, 0)) := P5
           obtain ⟨l0, l1, l2, l3, l4, l5⟩ := cells6 P5'
           obtain ⟨⟨z0', z1', z2', z3', z4', z5'⟩, z0, z1, z2, z3, z4, z5⟩ := t_cells Z5
           have S6 := set6_block Z5 (.int .i64 nw) (.slice sa sp.length sc) (.slice fa fr.length fc) (.slice ha hs_.length hc) (.slice ma ms.length mc) (.slice va MM.length vc)
           have B6 := set6_below (.int .i64 nw) (.slice sa sp.length sc) (.slice fa fr.length fc) (.slice ha hs_.length hc) (.slice ma ms.length mc) (.slice va MM.length vc) (g := w.heap.size + 3) B5 (by omega)
           have O6 : Ow itE 63 (w.heap.size + 4) (set6 w5 (w.heap.size + 3) (.int .i64 nw) (.slice sa sp.length sc) (.slice fa fr.length fc) (.slice ha hs_.length hc) (.slice ma ms.length mc) (.slice va MM.length vc)) (.slice va MM.length vc) MM := O5.keep fun k hk _ => set6_other _ _ _ _ _ _ (by omega)
           unfold set6 at S6 B6 O6
           have HRR := HR.out _ B6
           clear P5 P5' B5 O5 Z5 hO hOR HC HK HR HOU hb
           go_wp2
           (try simp only [Exit.inBlock, Exit.then])
           refine bodyPost_ret (results_tbe rfl _ _ (w.heap.size + 3) _ _ _ _ _ _ rfl S6) rfl ?_
           exact ⟨RPrepT.mk (z := ⟨⟨nw, sp, fr, hs_, ms, MM⟩, (sa, sc), (fa, fc), (ha, hc), (ma, mc), (va, vc)⟩) E.out rfl ⟨HRR.1, HRR.2.1, HRR.2.2.1, HRR.2.2.2.1, O6.1.rd⟩, B6⟩
end Go.Proofs.YtfpbgfmnjpamlaaGreat

