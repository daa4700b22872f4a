import Derived.Test.YtfpbgfmnjpamlaaGreatHv10
import Derived.Test.YtfpbgfmnjpamlaaGreatHv29
import Derived.Test.YtfpbgfmnjpamlaaGreatHv11
import Derived.Test.YtfpbgfmnjpamlaaGreatHv24
/- refusal: what the first of a call's keys that may not turn is refused with. -/
namespace Go.Proofs.YtfpbgfmnjpamlaaGreat
open Go.RowKit LeaseMath Go.Maps
set_option maxRecDepth 100000
set_option linter.unusedSimpArgs false
set_option linter.unusedVariables false

/-- A key is refused. -/
def refOne (t : Tb) (kd : Int) (ct tk : Nat) (k : K) : Int :=
 if inP t.spans k = false then 10
 else if (inP t.frozen k || itdB t.ints k) = true then 9
 else if kd = 1 then (if heldN t.holds k ≠ 0 then 8 else if tk ≤ lastM t.marks k then 9 else 0)
 else (if heldN t.holds k ≠ ct then 4 else 0)
def refAll (t : Tb) (kd : Int) (ct tk : Nat) : List K → Int
 | [] => 0
 | k :: l => if refOne t kd ct tk k ≠ 0 then refOne t kd ct tk k else refAll t kd ct tk l
theorem refAll_at {t : Tb} {kd : Int} {ct tk : Nat} {l : List K} {i : Nat} {k : K} (h : l[i]? = some k) : refAll t kd ct tk (l.drop i) = if refOne t kd ct tk k ≠ 0 then refOne t kd ct tk k else refAll t kd ct tk (l.drop (i + 1)) := by
 obtain ⟨hi, rfl⟩ := List.getElem?_eq_some_iff.1 h
 rw [List.drop_eq_getElem_cons hi, refAll]
theorem look_held {w : World} {b c : Nat} {hs : List Hd} (h : Mp w b (hM hs) c) (k : K) (hk : k.length ≤ 64) : (Instr.lookup 57 (.map (some b)) (.string (bk k)) false).run Tryz.prog w = .ok (.int .u64 (heldN hs k : Int)) w := by
 obtain ⟨D, h1, h2, h3⟩ := h
 obtain ⟨v, ps, hrun, hv⟩ := h1.lookup keyed Tryz.underlying57 (zeroU64 w) (zd := .held (.int .u64 0)) (zp := []) rfl (key_of (s := bk k) (by rw [bk_size]; unfold maxLen; omega))
 have hd := heldElem_inv hv
 rw [h3] at hd
 have e1 : v = (hM hs (bk k)).getD (.int .u64 0) := by
  cases hms : hM hs (bk k) with
  | none => rw [hms] at hd; injection hd with hd; exact hd.symm
  | some u => rw [hms] at hd; injection hd with hd; exact hd.symm
 rw [hrun, e1, hM_at]

set_option maxHeartbeats 8000000 in
theorem refusal_of (z : Tz) (c : Cl) (a : Sa) (tk : Nat) (w : World) (hR : TbR w z) (hK : Rd kyE w (.slice a.1 c.keys.length a.2) c.keys) (hm : mayB holdB z.t.holds = true) (g3 : z.t.marks.length ≤ 1000000) (g4 : z.t.ints.length ≤ 1000000) (g5 : c.keys.length ≤ 1000000) (g6 : ∀ k ∈ c.keys, k.length ≤ 64) :
  Calls Tryz.prog 39 #[tv z, cv c a, .int .u64 (tk : Int)] w fun e w' => e = .returned (.int .i64 (refAll z.t c.kind c.token tk c.keys)) ∧ Below w.heap.size w w' := by
 obtain ⟨T, HT⟩ : ∃ T : Int, Hid (T = refAll z.t c.kind c.token tk c.keys) := ⟨_, rfl⟩
 rw [← HT.out]
 have hRH : Hid (TbR w z) := hR
 have hKH : Hid (Rd kyE w (.slice a.1 c.keys.length a.2) c.keys) := hK
 have HG : Hid (∀ k ∈ c.keys, k.length ≤ 64) := g6
 have k0 : Hid (∀ W, Below w.heap.size w W → _) := fun W hW => holders_of z.t.holds _ W (hRH.out.2.2.1.below hW) hm
 have k1 : Hid (∀ k W, Below w.heap.size w W → _) := fun k W hW => in_of z.t.spans _ k W ((hRH.out.1.below hW).sv)
 have k2 : Hid (∀ k W, Below w.heap.size w W → _) := fun k W hW => in_of z.t.frozen _ k W ((hRH.out.2.1.below hW).sv)
 have k3 : Hid (∀ k W, Below w.heap.size w W → _) := fun k W hW => intended_of z k W (hRH.out.below hW) (by omega)
 have k4 : Hid (∀ k W, Below w.heap.size w W → _) := fun k W hW => last_of z.t.marks _ k W (hRH.out.2.2.2.1.below hW) (by omega)
 obtain ⟨⟨nw, sp, fr, hs_, ms, is⟩, ⟨sa, sc⟩, ⟨fa, fc⟩, ⟨ha, hc⟩, ⟨ma, mc⟩, ⟨ia, ic_⟩⟩ := z
 obtain ⟨kd, ks, ct, tt⟩ := c
 obtain ⟨ca, cb⟩ := a
 dsimp only [tv, cv] at *
 clear hR hK hm g3 g4 g6
 obtain ⟨q1, q2, q3, q4⟩ := two_boxes6 w (.cells #[.int .i64 nw, .slice sa sp.length sc, .slice fa fr.length fc, .slice ha hs_.length hc, .slice ma ms.length mc, .slice ia is.length ic_] 27) (.cells #[.int .i64 kd, .slice ca ks.length cb, .int .u64 (ct : Int), .int .i64 tt] 33)
 obtain ⟨W2, hW2⟩ : ∃ W, (w.alloc (.cells #[.int .i64 nw, .slice sa sp.length sc, .slice fa fr.length fc, .slice ha hs_.length hc, .slice ma ms.length mc, .slice ia is.length ic_] 27)).alloc (.cells #[.int .i64 kd, .slice ca ks.length cb, .int .u64 (ct : Int), .int .i64 tt] 33) = W := ⟨_, rfl⟩
 rw [hW2] at q1 q2 q3 q4
 have HA : Hid (∀ W, Below (w.heap.size + 2) W2 W → Below w.heap.size w W ∧ W.cell? ⟨w.heap.size, 0, none⟩ = some (.int .i64 nw) ∧ W.cell? ⟨w.heap.size, 1, none⟩ = some (.slice sa sp.length sc) ∧ W.cell? ⟨w.heap.size, 2, none⟩ = some (.slice fa fr.length fc) ∧ W.cell? ⟨w.heap.size, 3, none⟩ = some (.slice ha hs_.length hc) ∧ W.cell? ⟨w.heap.size, 4, none⟩ = some (.slice ma ms.length mc) ∧ W.cell? ⟨w.heap.size, 5, none⟩ = some (.slice ia is.length ic_) ∧ W.cell? ⟨w.heap.size + 1, 0, none⟩ = some (.int .i64 kd) ∧ W.cell? ⟨w.heap.size + 1, 1, none⟩ = some (.slice ca ks.length cb) ∧ W.cell? ⟨w.heap.size + 1, 2, none⟩ = some (.int .u64 (ct : Int)) ∧ W.cell? ⟨w.heap.size + 1, 3, none⟩ = some (.int .i64 tt)) := fun W hW => by
  have e1 := (hW.block w.heap.size (by omega)).trans q2
  have e2 := (hW.block (w.heap.size + 1) (by omega)).trans q3
  exact ⟨q4.trans (hW.mono (by omega)), by rw [cells_of_block e1]; rfl, by rw [cells_of_block e1]; rfl, by rw [cells_of_block e1]; rfl, by rw [cells_of_block e1]; rfl, by rw [cells_of_block e1]; rfl, by rw [cells_of_block e1]; rfl, by rw [cells_of_block e2]; rfl, by rw [cells_of_block e2]; rfl, by rw [cells_of_block e2]; rfl, by rw [cells_of_block e2]; rfl⟩
 have hz2 : w.heap.size + 2 ≤ W2.heap.size := by omega
 have K0 := k0.out W2 q4
 obtain ⟨-, c0, c1, c2, c3, c4, c5, d0, d1, d2, d3⟩ := HA.out W2 (Below.refl _ _)
 clear q1 q2 q3 q4 k0
 go_enter Tryz.func39, Tryz.ntmps39
 go_wp2_with fail
 refine K0.mono ?_
 rintro e w3 ⟨⟨b, rfl, hbn, hMp⟩, hb3⟩
 have hb3' := keep_step (Below.refl _ _) hz2 hb3
 have HB : Hid (∀ W, Below w3.heap.size w3 W → Below w.heap.size w W ∧ W.cell? ⟨w.heap.size, 0, none⟩ = some (.int .i64 nw) ∧ W.cell? ⟨w.heap.size, 1, none⟩ = some (.slice sa sp.length sc) ∧ W.cell? ⟨w.heap.size, 2, none⟩ = some (.slice fa fr.length fc) ∧ W.cell? ⟨w.heap.size, 3, none⟩ = some (.slice ha hs_.length hc) ∧ W.cell? ⟨w.heap.size, 4, none⟩ = some (.slice ma ms.length mc) ∧ W.cell? ⟨w.heap.size, 5, none⟩ = some (.slice ia is.length ic_) ∧ W.cell? ⟨w.heap.size + 1, 0, none⟩ = some (.int .i64 kd) ∧ W.cell? ⟨w.heap.size + 1, 1, none⟩ = some (.slice ca ks.length cb) ∧ W.cell? ⟨w.heap.size + 1, 2, none⟩ = some (.int .u64 (ct : Int)) ∧ W.cell? ⟨w.heap.size + 1, 3, none⟩ = some (.int .i64 tt) ∧ Mp W b (hM hs_) hs_.length) := fun W hW => by
  obtain ⟨x0, x1, x2, x3, x4, x5, x6, x7, x8, x9, x10⟩ := HA.out W (keep_step hb3' hz2 hW)
  exact ⟨x0, x1, x2, x3, x4, x5, x6, x7, x8, x9, x10, hMp.below hW⟩
 clear K0 hbn hMp HA hb3 hb3' hz2 c0 c1 c2 c3 c4 c5 d0 d1 d2 d3
 obtain ⟨-, c0, c1, c2, c3, c4, c5, d0, d1, d2, d3, -⟩ := HB.out w3 (Below.refl _ _)
 have HT0 : Hid (refAll ⟨nw, sp, fr, hs_, ms, is⟩ kd ct tk (ks.drop 0) = T) := by show _ = _; rw [List.drop_zero, HT.out]
 clear HT
 go_wp2
 go_loopg [16] ks.length (fun g s16 wr => ∃ i : Nat, i + g = ks.length ∧ s16 = .int .i64 (i : Int) ∧ Below w3.heap.size w3 wr ∧ Hid (refAll ⟨nw, sp, fr, hs_, ms, is⟩ kd ct tk (ks.drop i) = T))
 case atStart => exact ⟨0, by omega, rfl, Below.refl _ _, HT0⟩
 case round =>
  obtain ⟨i, hig, rfl, hb0, HP⟩ := hrel
  clear HT0 c0 c1 c2 c3 c4 c5 d0 d1 d2 d3
  obtain ⟨hbw, c0, c1, c2, c3, c4, c5, d0, d1, d2, d3, -⟩ := HB.out wr hb0
  by_cases hlt : i < ks.length
  ·have hlti : (i : Int) < (ks.length : Int) := by omega
   have hx : ks[i]? = some ks[i] := List.getElem?_eq_getElem hlt
   obtain ⟨k, hkk⟩ : ∃ k, k = ks[i] := ⟨_, rfl⟩
   rw [← hkk] at hx
   clear hkk
   obtain ⟨b', off, rfl, cc⟩ := rds_at hKH.out hx
   have a0 := cc wr hbw
   have hk : k.length ≤ 64 := HG.out k (List.mem_of_getElem? hx)
   have HA := refAll_at (t := ⟨nw, sp, fr, hs_, ms, is⟩) (kd := kd) (ct := ct) (tk := tk) hx
   have HO : Hid (refOne ⟨nw, sp, fr, hs_, ms, is⟩ kd ct tk k = (if inP sp k = false then 10 else if (inP fr k || itdB is k) = true then 9 else if kd = 1 then (if heldN hs_ k ≠ 0 then 8 else if tk ≤ lastM ms k then 9 else 0) else (if heldN hs_ k ≠ ct then 4 else 0))) := rfl
   have KS : Hid (∀ W, Below w3.heap.size w3 W → _) := fun W hW => k1.out k W (HB.out W hW).1
   have KF : Hid (∀ W, Below w3.heap.size w3 W → _) := fun W hW => k2.out k W (HB.out W hW).1
   have KI : Hid (∀ W, Below w3.heap.size w3 W → _) := fun W hW => k3.out k W (HB.out W hW).1
   have KL : Hid (∀ W, Below w3.heap.size w3 W → _) := fun W hW => k4.out k W (HB.out W hW).1
   obtain ⟨N, HN_⟩ : ∃ N, Hid (N = heldN hs_ k) := ⟨_, rfl⟩
   obtain ⟨L, HL_⟩ : ∃ L, Hid (L = lastM ms k) := ⟨_, rfl⟩
   rw [← HL_.out] at KL
   have look_held : ∀ {w : World} {c : Nat}, Mp w b (hM hs_) c → ∀ k' : K, k'.length ≤ 64 → k' = k → (Instr.lookup 57 (.map (some b)) (.string (bk k')) false).run Tryz.prog w = .ok (.int .u64 (N : Int)) w := fun h k' hk' e => by rw [HN_.out, ← e]; exact look_held h k' hk'
   clear hx cc hbw k1 k2 k3 k4 hKH HG
   cases h1 : inP sp k with
   | false =>
    have E : Hid (T = 10) := by show _ = _; rw [← HP.out, HA, HO.out, h1]; rfl
    clear HP HA HO
    go_wp2_with fail
    refine (KS.out _ hb0).mono ?_
    rintro e w1 ⟨rfl, hbc⟩
    rw [h1]
    have hb1 := keep_step hb0 (Nat.le_refl _) hbc
    obtain ⟨-, c0, c1, c2, c3, c4, c5, d0, d1, d2, d3, hMp⟩ := HB.out w1 hb1
    have LK := look_held hMp k hk rfl
    clear hbc hMp
    go_wp2
    go_ret
    exact ⟨by rw [E.out]; first | rfl | simp, (HB.out _ hb1).1⟩
   | true =>
    cases h2 : inP fr k with
    | true =>
     have E : Hid (T = 9) := by show _ = _; rw [← HP.out, HA, HO.out, h1, h2]; rfl
     clear HP HA HO
     go_wp2_with fail
     refine (KS.out _ hb0).mono ?_
     rintro e w1 ⟨rfl, hbc⟩
     rw [h1]
     have hb1 := keep_step hb0 (Nat.le_refl _) hbc
     obtain ⟨-, c0, c1, c2, c3, c4, c5, d0, d1, d2, d3, hMp⟩ := HB.out w1 hb1
     have LK := look_held hMp k hk rfl
     clear hbc hMp
     go_wp2_with fail
     refine (KF.out _ hb1).mono ?_
     rintro e w2 ⟨rfl, hbc⟩
     rw [h2]
     have hb2 := keep_step hb1 (Nat.le_refl _) hbc
     obtain ⟨-, c0, c1, c2, c3, c4, c5, d0, d1, d2, d3, hMp⟩ := HB.out w2 hb2
     have LK := look_held hMp k hk rfl
     clear hbc hMp
     go_wp2
     go_ret
     exact ⟨by rw [E.out]; first | rfl | simp, (HB.out _ hb2).1⟩
    | false =>
     cases h3 : itdB is k with
     | true =>
      have E : Hid (T = 9) := by show _ = _; rw [← HP.out, HA, HO.out, h1, h2, h3]; rfl
      clear HP HA HO
      go_wp2_with fail
      refine (KS.out _ hb0).mono ?_
      rintro e w1 ⟨rfl, hbc⟩
      rw [h1]
      have hb1 := keep_step hb0 (Nat.le_refl _) hbc
      obtain ⟨-, c0, c1, c2, c3, c4, c5, d0, d1, d2, d3, hMp⟩ := HB.out w1 hb1
      have LK := look_held hMp k hk rfl
      clear hbc hMp
      go_wp2_with fail
      refine (KF.out _ hb1).mono ?_
      rintro e w2 ⟨rfl, hbc⟩
      rw [h2]
      have hb2 := keep_step hb1 (Nat.le_refl _) hbc
      obtain ⟨-, c0, c1, c2, c3, c4, c5, d0, d1, d2, d3, hMp⟩ := HB.out w2 hb2
      have LK := look_held hMp k hk rfl
      clear hbc hMp
      go_wp2_with fail
      refine (KI.out _ hb2).mono ?_
      rintro e w3 ⟨rfl, hbc⟩
      rw [h3]
      have hb3 := keep_step hb2 (Nat.le_refl _) hbc
      obtain ⟨-, c0, c1, c2, c3, c4, c5, d0, d1, d2, d3, hMp⟩ := HB.out w3 hb3
      have LK := look_held hMp k hk rfl
      clear hbc hMp
      go_wp2
      go_ret
      exact ⟨by rw [E.out]; first | rfl | simp, (HB.out _ hb3).1⟩
     | false =>
      have HO2 : Hid (refOne ⟨nw, sp, fr, hs_, ms, is⟩ kd ct tk k = (if kd = 1 then (if N ≠ 0 then 8 else if tk ≤ L then 9 else 0) else (if N ≠ ct then 4 else 0))) := by show _ = _; rw [HO.out, h1, h2, h3, HN_.out, HL_.out]; rfl
      clear HO
      by_cases h4 : kd = 1
      ·have h4d : (kd == 1) = true := by simpa using h4
       have h4e : (kd != 1) = false := by simpa using h4
       by_cases h5 : N = 0
       ·have h5d : ((N : Int) != 0) = false := by simp [h5]
        have h5e : ((N : Int) == 0) = true := by simp [h5]
        by_cases h6 : tk ≤ L
        ·have h6d : decide ((tk : Int) ≤ (L : Int)) = true := decide_eq_true (by omega)
         have E : Hid (T = 9) := by show _ = _; rw [← HP.out, HA, HO2.out]; simp only [if_pos h4, if_neg (show ¬ N ≠ 0 from fun h => h h5), if_pos h6]; rfl
         clear HP HA HO2 h4 h5 HN_ HL_
         go_wp2_with fail
         refine (KS.out _ hb0).mono ?_
         rintro e w1 ⟨rfl, hbc⟩
         rw [h1]
         have hb1 := keep_step hb0 (Nat.le_refl _) hbc
         obtain ⟨-, c0, c1, c2, c3, c4, c5, d0, d1, d2, d3, hMp⟩ := HB.out w1 hb1
         have LK := look_held hMp k hk rfl
         clear hbc hMp
         go_wp2_with fail
         refine (KF.out _ hb1).mono ?_
         rintro e w2 ⟨rfl, hbc⟩
         rw [h2]
         have hb2 := keep_step hb1 (Nat.le_refl _) hbc
         obtain ⟨-, c0, c1, c2, c3, c4, c5, d0, d1, d2, d3, hMp⟩ := HB.out w2 hb2
         have LK := look_held hMp k hk rfl
         clear hbc hMp
         go_wp2_with fail
         refine (KI.out _ hb2).mono ?_
         rintro e w3 ⟨rfl, hbc⟩
         rw [h3]
         have hb3 := keep_step hb2 (Nat.le_refl _) hbc
         obtain ⟨-, c0, c1, c2, c3, c4, c5, d0, d1, d2, d3, hMp⟩ := HB.out w3 hb3
         have LK := look_held hMp k hk rfl
         clear hbc hMp
         go_wp2_with fail
         refine (KL.out _ hb3).mono ?_
         rintro e w4 ⟨rfl, hbc⟩

         have hb4 := keep_step hb3 (Nat.le_refl _) hbc
         obtain ⟨-, c0, c1, c2, c3, c4, c5, d0, d1, d2, d3, hMp⟩ := HB.out w4 hb4
         have LK := look_held hMp k hk rfl
         clear hbc hMp
         go_wp2
         go_ret
         exact ⟨by rw [E.out]; first | rfl | simp, (HB.out _ hb4).1⟩
        ·have h6d : decide ((tk : Int) ≤ (L : Int)) = false := decide_eq_false (by omega)
         have HN : Hid (refAll ⟨nw, sp, fr, hs_, ms, is⟩ kd ct tk (ks.drop (i + 1)) = T) := by show _ = _; rw [← HP.out, HA, HO2.out]; simp only [if_pos h4, if_neg (show ¬ N ≠ 0 from fun h => h h5), if_neg h6]; rfl
         clear HP HA HO2 h4 h5 HN_ HL_
         go_wp2_with fail
         refine (KS.out _ hb0).mono ?_
         rintro e w1 ⟨rfl, hbc⟩
         rw [h1]
         have hb1 := keep_step hb0 (Nat.le_refl _) hbc
         obtain ⟨-, c0, c1, c2, c3, c4, c5, d0, d1, d2, d3, hMp⟩ := HB.out w1 hb1
         have LK := look_held hMp k hk rfl
         clear hbc hMp
         go_wp2_with fail
         refine (KF.out _ hb1).mono ?_
         rintro e w2 ⟨rfl, hbc⟩
         rw [h2]
         have hb2 := keep_step hb1 (Nat.le_refl _) hbc
         obtain ⟨-, c0, c1, c2, c3, c4, c5, d0, d1, d2, d3, hMp⟩ := HB.out w2 hb2
         have LK := look_held hMp k hk rfl
         clear hbc hMp
         go_wp2_with fail
         refine (KI.out _ hb2).mono ?_
         rintro e w3 ⟨rfl, hbc⟩
         rw [h3]
         have hb3 := keep_step hb2 (Nat.le_refl _) hbc
         obtain ⟨-, c0, c1, c2, c3, c4, c5, d0, d1, d2, d3, hMp⟩ := HB.out w3 hb3
         have LK := look_held hMp k hk rfl
         clear hbc hMp
         go_wp2_with fail
         refine (KL.out _ hb3).mono ?_
         rintro e w4 ⟨rfl, hbc⟩

         have hb4 := keep_step hb3 (Nat.le_refl _) hbc
         obtain ⟨-, c0, c1, c2, c3, c4, c5, d0, d1, d2, d3, hMp⟩ := HB.out w4 hb4
         have LK := look_held hMp k hk rfl
         clear hbc hMp
         go_wp2
         go_roundg (gk - 1)
         case measure => omega
         case rel => exact ⟨i + 1, by omega, by go_num, hb4, HN⟩
       ·have h5d : ((N : Int) != 0) = true := by simpa using h5
        have h5e : ((N : Int) == 0) = false := by simpa using h5
        have E : Hid (T = 8) := by show _ = _; rw [← HP.out, HA, HO2.out]; simp only [if_pos h4, if_pos (show N ≠ 0 from h5)]; rfl
        clear HP HA HO2 h4 h5 HN_ HL_
        go_wp2_with fail
        refine (KS.out _ hb0).mono ?_
        rintro e w1 ⟨rfl, hbc⟩
        rw [h1]
        have hb1 := keep_step hb0 (Nat.le_refl _) hbc
        obtain ⟨-, c0, c1, c2, c3, c4, c5, d0, d1, d2, d3, hMp⟩ := HB.out w1 hb1
        have LK := look_held hMp k hk rfl
        clear hbc hMp
        go_wp2_with fail
        refine (KF.out _ hb1).mono ?_
        rintro e w2 ⟨rfl, hbc⟩
        rw [h2]
        have hb2 := keep_step hb1 (Nat.le_refl _) hbc
        obtain ⟨-, c0, c1, c2, c3, c4, c5, d0, d1, d2, d3, hMp⟩ := HB.out w2 hb2
        have LK := look_held hMp k hk rfl
        clear hbc hMp
        go_wp2_with fail
        refine (KI.out _ hb2).mono ?_
        rintro e w3 ⟨rfl, hbc⟩
        rw [h3]
        have hb3 := keep_step hb2 (Nat.le_refl _) hbc
        obtain ⟨-, c0, c1, c2, c3, c4, c5, d0, d1, d2, d3, hMp⟩ := HB.out w3 hb3
        have LK := look_held hMp k hk rfl
        clear hbc hMp
        go_wp2
        go_ret
        exact ⟨by rw [E.out]; first | rfl | simp, (HB.out _ hb3).1⟩
      ·have h4d : (kd == 1) = false := by simpa using h4
       have h4e : (kd != 1) = true := by simpa using h4
       by_cases h5 : N = ct
       ·have h5d : ((N : Int) != (N : Int)) = false := by simp
        have h5e : ((N : Int) == (N : Int)) = true := by simp
        have HN : Hid (refAll ⟨nw, sp, fr, hs_, ms, is⟩ kd ct tk (ks.drop (i + 1)) = T) := by show _ = _; rw [← HP.out, HA, HO2.out]; simp only [if_neg h4, if_neg (show ¬ N ≠ ct from fun h => h h5)]; rfl
        clear HP HA HO2 h4 HN_ HL_
        subst h5
        go_wp2_with fail
        refine (KS.out _ hb0).mono ?_
        rintro e w1 ⟨rfl, hbc⟩
        rw [h1]
        have hb1 := keep_step hb0 (Nat.le_refl _) hbc
        obtain ⟨-, c0, c1, c2, c3, c4, c5, d0, d1, d2, d3, hMp⟩ := HB.out w1 hb1
        have LK := look_held hMp k hk rfl
        clear hbc hMp
        go_wp2_with fail
        refine (KF.out _ hb1).mono ?_
        rintro e w2 ⟨rfl, hbc⟩
        rw [h2]
        have hb2 := keep_step hb1 (Nat.le_refl _) hbc
        obtain ⟨-, c0, c1, c2, c3, c4, c5, d0, d1, d2, d3, hMp⟩ := HB.out w2 hb2
        have LK := look_held hMp k hk rfl
        clear hbc hMp
        go_wp2_with fail
        refine (KI.out _ hb2).mono ?_
        rintro e w3 ⟨rfl, hbc⟩
        rw [h3]
        have hb3 := keep_step hb2 (Nat.le_refl _) hbc
        obtain ⟨-, c0, c1, c2, c3, c4, c5, d0, d1, d2, d3, hMp⟩ := HB.out w3 hb3
        have LK := look_held hMp k hk rfl
        clear hbc hMp
        go_wp2
        go_roundg (gk - 1)
        case measure => omega
        case rel => exact ⟨i + 1, by omega, by go_num, hb3, HN⟩
       ·have h5d : ((N : Int) != (ct : Int)) = true := by simpa using (by omega : ¬ (N : Int) = (ct : Int))
        have h5e : ((N : Int) == (ct : Int)) = false := by simpa using (by omega : ¬ (N : Int) = (ct : Int))
        have E : Hid (T = 4) := by show _ = _; rw [← HP.out, HA, HO2.out]; simp only [if_neg h4, if_pos (show N ≠ ct from h5)]; rfl
        clear HP HA HO2 h4 h5 HN_ HL_
        go_wp2_with fail
        refine (KS.out _ hb0).mono ?_
        rintro e w1 ⟨rfl, hbc⟩
        rw [h1]
        have hb1 := keep_step hb0 (Nat.le_refl _) hbc
        obtain ⟨-, c0, c1, c2, c3, c4, c5, d0, d1, d2, d3, hMp⟩ := HB.out w1 hb1
        have LK := look_held hMp k hk rfl
        clear hbc hMp
        go_wp2_with fail
        refine (KF.out _ hb1).mono ?_
        rintro e w2 ⟨rfl, hbc⟩
        rw [h2]
        have hb2 := keep_step hb1 (Nat.le_refl _) hbc
        obtain ⟨-, c0, c1, c2, c3, c4, c5, d0, d1, d2, d3, hMp⟩ := HB.out w2 hb2
        have LK := look_held hMp k hk rfl
        clear hbc hMp
        go_wp2_with fail
        refine (KI.out _ hb2).mono ?_
        rintro e w3 ⟨rfl, hbc⟩
        rw [h3]
        have hb3 := keep_step hb2 (Nat.le_refl _) hbc
        obtain ⟨-, c0, c1, c2, c3, c4, c5, d0, d1, d2, d3, hMp⟩ := HB.out w3 hb3
        have LK := look_held hMp k hk rfl
        clear hbc hMp
        go_wp2
        go_ret
        exact ⟨by rw [E.out]; first | rfl | simp, (HB.out _ hb3).1⟩
  ·have hlti : ¬ (i : Int) < (ks.length : Int) := by omega
   have E : Hid (T = 0) := by show _ = _; rw [← HP.out, List.drop_of_length_le (by omega)]; rfl
   clear HP
   go_wp2
   go_ret
   exact ⟨by rw [E.out]; rfl, hbw⟩
end Go.Proofs.YtfpbgfmnjpamlaaGreat

