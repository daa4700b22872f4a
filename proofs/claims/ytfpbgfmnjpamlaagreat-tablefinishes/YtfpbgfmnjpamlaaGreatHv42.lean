import Derived.Test.YtfpbgfmnjpamlaaGreatHv38
/- The document's own Piece: by cutting the keys where any span begins or ends. -/
namespace Go.Proofs.YtfpbgfmnjpamlaaGreat
open Go.RowKit SpanMath
set_option maxRecDepth 100000
set_option linter.unusedSimpArgs false
set_option linter.unusedVariables false

theorem append_spH {w : World} {v x : Value} {xs ys : List Sp} (h : Rk spE w 47 v xs) (hx : Rd spE w x ys) (hlen : xs.length ≤ 1000000) (hly : ys.length ≤ 1000000) :
  Hid (∀ ty, ∃ v' w', (Builtin.append_ #[22, 22] ty #[v, x]).run Tryz.prog w = .ok v' w' ∧ PushT spE 47 w v (xs ++ ys) v' w') := append_sp h hx hlen hly
/-- What stands open. -/
def opl : Option K → List Sp
 | none => []
 | some f => [(f, [])]
/-- The open one's end is laid. -/
theorem own_set {n : Nat} {w : World} {v : Value} {D : List Sp} {f : K} (h : Own n w v (D ++ opl (some f))) (q : K) : ∃ g cap, v = .slice (some ⟨g, 0, none⟩) (D.length + 1) cap ∧ w.cell? ⟨g, D.length * 2 + 1, none⟩ = some (.string (bk [])) ∧ w.frozen? ⟨g, D.length * 2 + 1, none⟩ = false ∧ Own n (w.setCell ⟨g, D.length * 2 + 1, none⟩ (.string (bk q))) v (D ++ [(f, q)]) ∧ Below n w (w.setCell ⟨g, D.length * 2 + 1, none⟩ (.string (bk q))) := by
 obtain ⟨⟨hl, ⟨_, h0⟩ | ⟨g, cap, cur, e, _, hbk, hle, hm, hcs, ht⟩⟩, hO⟩ := h
 ·simp [opl] at h0
 ·have hlen : (D ++ opl (some f)).length = D.length + 1 := by simp [opl]
  have hk2 : spE.k = 2 := rfl
  rw [hlen] at e hle ht
  rw [hk2] at hcs ht
  have hi : D.length * 2 + 1 < cur.size := by rw [hcs]; omega
  have hfl : spE.flat (D ++ opl (some f)) = spE.flat D ++ [.string (bk f), .string (bk [])] := by rw [El.flat_append]; rfl
  have hDl : (spE.flat D).length = D.length * 2 := El.flat_length _ _
  have hcell : w.cell? ⟨g, D.length * 2 + 1, none⟩ = some (.string (bk [])) := by
   rw [cells_of_block hbk]
   have : (cur.toList.take ((D.length + 1) * 2))[D.length * 2 + 1]? = some (.string (bk [])) := by
    rw [ht, hfl, List.getElem?_append_right (by omega), hDl]
    simp
   rw [List.getElem?_take_of_lt (by omega)] at this
   simpa using this
  have hn : n ≤ g := hO g (by rw [e]; rfl)
  refine ⟨g, cap, e, hcell, frozen_of hbk _, ⟨⟨El.flat_length _ _, .inr ⟨g, cap, cur.setIfInBounds (D.length * 2 + 1) (.string (bk q)), ?_, Nat.zero_le _, ?_, ?_, hm, ?_, ?_⟩⟩, hO⟩, (Below.refl n w).setCell (p := ⟨g, D.length * 2 + 1, none⟩) hn _⟩
  ·rw [e]; simp
  ·simp [World.setCell, Array.getElem?_modify, hbk]
  ·simpa using hle
  ·rw [Array.size_setIfInBounds, hk2]; exact hcs
  ·rw [Array.toList_setIfInBounds, hk2, show (D ++ [(f, q)]).length = D.length + 1 by simp, List.take_set, ht, hfl, El.flat_append]
   rw [List.set_append_right _ _ (by omega), hDl, show D.length * 2 + 1 - D.length * 2 = 1 by omega]
   rfl

set_option maxHeartbeats 16000000 in
theorem piece_of (l : List Sp) (lv : Value) (s : Sp) (kind : Nat) (hk : kind = 0 ∨ kind = 1 ∨ kind = 2) (w : World) (hF : Rd spE w lv l) (hlen : l.length ≤ 100) : Calls Tryz.prog 26 #[lv, sv s, .int .i64 (kind : Int)] w fun e w' => ∃ v, e = .returned v ∧ Rd spE w' v (piece l s kind) ∧ Below w.heap.size w w' := by
 obtain ⟨R, HR⟩ : ∃ R, Hid (R = piece l s kind) := ⟨_, rfl⟩
 rw [← HR.out]
 have hSl := hF.sv
 obtain ⟨ao, cap, rfl, -⟩ := id hF
 obtain ⟨s1, s2⟩ := s
 obtain ⟨P, HP⟩ : ∃ P, Hid (P = plc (l ++ [(s1, s2)])) := ⟨_, rfl⟩
 have HR0 : Hid (R = [] ++ scan (chi l (s1, s2) kind) none (P.drop 0)) := by show _ = _; rw [HR.out, HP.out]; rfl
 clear HR
 obtain ⟨hs0, g0, hb0⟩ := one_box w (.cells #[.string (bk s1), .string (bk s2)] 47)
 go_enter Tryz.func26, Tryz.ntmps26
 go_wp2
 generalize w.alloc (.cells #[.string (bk s1), .string (bk s2)] 47) = w0 at *
 have cl0 : Hid (∀ W, Below (w.heap.size + 1) w0 W → W.cell? ⟨w.heap.size, 0, none⟩ = some (.string (bk s1)) ∧ W.cell? ⟨w.heap.size, 1, none⟩ = some (.string (bk s2))) := fun W hW => by
  have := (hW.block w.heap.size (Nat.lt_succ_self _)).trans g0
  exact ⟨by rw [cells_of_block this]; rfl, by rw [cells_of_block this]; rfl⟩
 have cl := cl0.out
 have hNN : ∀ W, Below (w.heap.size + 1) w0 W → w.heap.size + 1 ≤ W.heap.size := fun W hW => by have := hW.size; omega
 have hlR : ∀ W, Below (w.heap.size + 1) w0 W → Rd spE W (.slice ao l.length cap) l := fun W hW => hF.below (hb0.trans (hW.mono (Nat.le_succ _)))
 clear hF g0
 refine wp_region_L (fun W => Below (w.heap.size + 1) w0 W) [] (by kernel_rfl) ?_
 have hbd : Below (w.heap.size + 1) w0 w0.drew := (Below.refl _ w0).drew
 generalize w0.drew = wd at *
 refine tkg 1 rfl (by intro w' hS'; obtain ⟨x0, x1⟩ := cl w' hS'; go_simp <;> rfl) hbd ?_
 try simp only [pa, pb, pc, Act.put, pd, pe, pf]
 refine tkg 3 rfl (by intro w' hS'; obtain ⟨x0, x1⟩ := cl w' hS'; go_simp <;> rfl) hbd ?_
 try simp only [pa, pb, pc, Act.put, pd, pe, pf]
 refine wpAnyL_two 0 4 (by kernel_rfl) rfl rfl (by kernel_rfl) (by kernel_rfl) ?_ ?_
 ·obtain ⟨q1, q2, q3⟩ := one_box wd (.cells #[] 47)
  have hbA : Below (w.heap.size + 1) w0 (wd.alloc (.cells #[] 47)) := hbd.trans (q3.mono (hNN _ hbd))
  have hsA : (wd.alloc (.cells #[] 47)).heap.size = wd.heap.size + 1 := q1
  have hbase : Rk spE (wd.alloc (.cells #[] 47)) 47 (.slice (some ⟨wd.heap.size, 0, none⟩) 0 0) [] := Rk.made (E := spE) (xs := []) q2 rfl (by unfold maxLen; simp)
  have hOw0 : ∀ k, (Value.slice (some ⟨wd.heap.size, 0, none⟩) 0 0).ownBlock = some k → w.heap.size + 1 ≤ k := fun k hk => by cases hk; exact hNN _ hbd
  clear q1 q2 q3
  intro K' hK'
  go_simp
  refine hK'.out _ _ (.inr hbA) ?_
  clear hK' K'
  try simp only [pa, pb, pc, Act.put, pd, pe, pf]
  generalize wd.alloc (.cells #[] 47) = W0 at *
  refine wpAnyL_two 2 4 (by kernel_rfl) rfl rfl (by kernel_rfl) (by kernel_rfl) ?_ ?_
  ·have r2 := append_spH hbase (hlR W0 hbA) (by simp) (by omega)
   intro K' hK'
   refine op_run r2 _ _ rfl (by rfl) (by rfl) ?_
   intro v2 w2 hp2
   have hS2 := hbA.trans (grown_below hp2.2.1 (hNN _ hbA) hOw0)
   refine hK'.out _ _ (.inr hS2) ?_
   clear hK' K'
   try simp only [pa, pb, pc, Act.put, pd, pe, pf]
   have hOw2 := own_up hp2 (hNN _ hbA) hOw0
   obtain ⟨q1, q2, q3⟩ := one_box w2 (.cells #[.string (bk s1), .string (bk s2)] 47)
   have hR2 := hp2.1.same fun k hk => q3.block k (hp2.1.lt hk)
   have hSr : Rk spE (w2.alloc (.cells #[.string (bk s1), .string (bk s2)] 47)) 47 (.slice (some ⟨w2.heap.size, 0, none⟩) 1 1) [(s1, s2)] := Rk.made (E := spE) (xs := [(s1, s2)]) q2 rfl (by unfold maxLen; simp)
   have hS4 := hS2.trans (q3.mono (hNN _ hS2))
   clear q1 q2 q3 hp2 r2
   refine wpAnyL_one 4 (by kernel_rfl) rfl (by kernel_rfl) ?_
   intro K' hK'
   go_simp
   refine hK'.out _ _ (.inr hS4) ?_
   clear hK' K'
   try simp only [pa, pb, pc, Act.put, pd, pe, pf]
   generalize w2.alloc (.cells #[.string (bk s1), .string (bk s2)] 47) = w4 at *
   clear hS2
   have r5 := append_spH hR2 hSr.rd (by simp; omega) (by simp)
   refine wpAnyL_one 5 (by kernel_rfl) rfl (by kernel_rfl) ?_
   intro K' hK'
   refine op_run r5 _ _ rfl (by rfl) (by rfl) ?_
   intro v5 w5 hp5
   have hS5 := hS4.trans (grown_below hp5.2.1 (hNN _ hS4) hOw2)
   refine hK'.out _ _ (.inr hS5) ?_
   clear hK' K'
   try simp only [pa, pb, pc, Act.put, pd, pe, pf]
   have kp := places_of _ v5 w5 hp5.1.rd.sv (by simp; omega)
   rw [List.nil_append] at kp
   clear r5 hR2 hSr
   obtain ⟨a5, c5, hv5, -⟩ : ∃ a5 c5, v5 = .slice a5 (l.length + 1) c5 ∧ True := by
    obtain ⟨a, c, e, _⟩ := hp5.1.shape
    exact ⟨a, c, by rw [e]; simp, trivial⟩
   subst hv5
   clear hp5
   refine wpAnyL_one 6 (by kernel_rfl) rfl (by kernel_rfl) ?_
   intro K' hK'
   go_simp
   go_at_call 86
   refine kp.mono ?_
   rintro e w3 ⟨pv, rfl, hPR, hb3⟩
   have hb6 := hS5.trans (hb3.mono (hNN _ hS5))
   refine hK'.out _ _ (.inr hb6) ?_
   clear hK' K' kp
   try simp only [pa, pb, pc, Act.put, pd, pe, pf]
   refine tkg 7 rfl (by intro w' hS'; obtain ⟨x0, x1⟩ := cl w' hS'; go_simp <;> rfl) hb6 ?_
   try simp only [pa, pb, pc, Act.put, pd, pe, pf]
   refine wpAnyL_done (by kernel_rfl) (NoPanic.normal ?_) _
   have hPl := plc_len (l ++ [(s1, s2)])
   rw [← HP.out] at hPR hPl
   clear hb3 hS5 cl
   obtain ⟨ap, cpp, hpv, -, -, hpc⟩ := id hPR
   obtain ⟨pb, po, rfl, -⟩ : ∃ pb po, ap = some ⟨pb, po, none⟩ ∧ True := by
    obtain ⟨b', o', r, _⟩ := hpc 0 (P[0]'hPl.2) 0 _ (List.getElem?_eq_getElem hPl.2) rfl
    exact ⟨b', o', r, trivial⟩
   subst hpv
   have hpl : P.length ≤ 1000 := by have := hPl.1; simp at this; omega
   have hpcl : ∀ W, Below w3.heap.size w3 W → ∀ i q, P[i]? = some q → W.cell? ⟨pb, po + i, none⟩ = some (.string (bk q)) := fun W hW i q hq => by
    obtain ⟨b', o', r1, r2⟩ := hpc i q 0 _ hq rfl
    cases r1
    have hk1 : strE.k = 1 := rfl
    rw [hk1] at r2
    simp only [Nat.mul_one, Nat.add_zero] at r2
    exact (hW.cell (p := ⟨pb, po + i, none⟩) (World.block_lt_of_cell? w3 _ r2)).trans r2
   have hN3 : w.heap.size + 1 ≤ w3.heap.size := hNN _ hb6
   have hbxW : ∀ W, Below w3.heap.size w3 W → W.cell? ⟨w.heap.size, 0, none⟩ = some (.string (bk s1)) ∧ W.cell? ⟨w.heap.size, 1, none⟩ = some (.string (bk s2)) := fun W hW => cl0.out W (hb6.trans (hW.mono hN3))
   have hlW : ∀ W, Below w3.heap.size w3 W → Sv W (.slice ao l.length cap) l := fun W hW => hSl.below (hb0.trans ((hb6.trans (hW.mono hN3)).mono (Nat.le_succ _)))
   have hwW : Below w.heap.size w w3 := hb0.trans (hb6.mono (Nat.le_succ _))
   obtain ⟨q1, q2, q3⟩ := one_box w3 (.cells #[] 47)
   have hO0 : Own w3.heap.size (w3.alloc (.cells #[] 47)) (.slice (some ⟨w3.heap.size, 0, none⟩) 0 0) ([] ++ opl none) := ⟨Rk.made (E := spE) (xs := []) q2 rfl (by unfold maxLen; simp), fun k hk => by cases hk; exact Nat.le_refl _⟩
   clear q1 q2 hpc hPR hPl HP hb6 hb0 hSl
   go_wp2
   go_loopg [8, 9, 10] P.length (fun g s8 s9 s10 wr => ∃ (i : Nat) (ov : Value) (D : List Sp) (op : Option K), i + g = P.length ∧ s10 = .int .i64 (i : Int) ∧ ov = s8 ∧ s9 = .bool op.isSome ∧ Own w3.heap.size wr ov (D ++ opl op) ∧ Below w3.heap.size w3 wr ∧ Hid (R = D ++ scan (chi l (s1, s2) kind) op (P.drop i)) ∧ (D ++ opl op).length ≤ i)
   case atStart => exact ⟨0, _, [], none, by simp, rfl, rfl, rfl, hO0, q3, HR0, by simp [opl]⟩
   case round =>
    obtain ⟨i, ov, D, op, hig, rfl, rfl, rfl, hO, hb, HR, hDl⟩ := hrel
    clear hO0 q3 HR0
    by_cases hlt : i < P.length
    ·have hlti : (i : Int) < (P.length : Int) := by omega
     have hx : P[i]? = some P[i] := List.getElem?_eq_getElem hlt
     obtain ⟨q, hs⟩ : ∃ s, s = P[i] := ⟨_, rfl⟩
     have hdr : P.drop i = q :: P.drop (i + 1) := by rw [hs]; exact List.drop_eq_getElem_cons hlt
     rw [← hs] at hx
     have clq : ∀ W, Below wr.heap.size wr W → (fun W => (W.cell? ⟨pb, po + i, none⟩ = some (.string (bk q)) ∧ W.cell? ⟨w.heap.size, 0, none⟩ = some (.string (bk s1)) ∧ W.cell? ⟨w.heap.size, 1, none⟩ = some (.string (bk s2))) ∧ Below wr.heap.size wr W) W := fun W hW => by
      have h := hb.trans (hW.mono hb.size)
      exact ⟨⟨hpcl W h i q hx, hbxW W h⟩, hW⟩
     have kin : ∀ W, (fun W => (W.cell? ⟨pb, po + i, none⟩ = some (.string (bk q)) ∧ W.cell? ⟨w.heap.size, 0, none⟩ = some (.string (bk s1)) ∧ W.cell? ⟨w.heap.size, 1, none⟩ = some (.string (bk s2))) ∧ Below wr.heap.size wr W) W → Calls Tryz.prog 84 #[.slice ao l.length cap, .string (bk q)] W fun e w' => e = .returned (.bool (isIn l q)) ∧ (fun W => (W.cell? ⟨pb, po + i, none⟩ = some (.string (bk q)) ∧ W.cell? ⟨w.heap.size, 0, none⟩ = some (.string (bk s1)) ∧ W.cell? ⟨w.heap.size, 1, none⟩ = some (.string (bk s2))) ∧ Below wr.heap.size wr W) w' := fun W hW => by
      refine (refIn_of l _ q W (hlW W (hb.trans (hW.2.mono hb.size))) (by omega)).mono ?_
      rintro e w' ⟨rfl, hb'⟩
      exact ⟨rfl, clq w' (keep_step hW.2 (Nat.le_refl _) hb')⟩
     have khs : ∀ W, (fun W => (W.cell? ⟨pb, po + i, none⟩ = some (.string (bk q)) ∧ W.cell? ⟨w.heap.size, 0, none⟩ = some (.string (bk s1)) ∧ W.cell? ⟨w.heap.size, 1, none⟩ = some (.string (bk s2))) ∧ Below wr.heap.size wr W) W → Calls Tryz.prog 27 #[.agg #[.string (bk s1), .string (bk s2)], .string (bk q)] W fun e w' => e = .returned (.bool (has (s1, s2) q)) ∧ (fun W => (W.cell? ⟨pb, po + i, none⟩ = some (.string (bk q)) ∧ W.cell? ⟨w.heap.size, 0, none⟩ = some (.string (bk s1)) ∧ W.cell? ⟨w.heap.size, 1, none⟩ = some (.string (bk s2))) ∧ Below wr.heap.size wr W) w' := fun W hW => by
      refine (refHas_of (s1, s2) q W).mono ?_
      rintro e w' ⟨rfl, hb'⟩
      exact ⟨rfl, clq w' (keep_step hW.2 (Nat.le_refl _) hb')⟩
     clear hx hs
     go_wp2
     refine wp_region_L (fun W => (W.cell? ⟨pb, po + i, none⟩ = some (.string (bk q)) ∧ W.cell? ⟨w.heap.size, 0, none⟩ = some (.string (bk s1)) ∧ W.cell? ⟨w.heap.size, 1, none⟩ = some (.string (bk s2))) ∧ Below wr.heap.size wr W) [] (by kernel_rfl) ?_
     have yS : (fun W => (W.cell? ⟨pb, po + i, none⟩ = some (.string (bk q)) ∧ W.cell? ⟨w.heap.size, 0, none⟩ = some (.string (bk s1)) ∧ W.cell? ⟨w.heap.size, 1, none⟩ = some (.string (bk s2))) ∧ Below wr.heap.size wr W) wr.drew := clq _ (Below.refl _ wr).drew
     refine tkg 0 rfl (by intro w' hS'; obtain ⟨⟨x0, x1, x2⟩, x3⟩ := hS'; go_simp <;> rfl) yS ?_
     try simp only [pa, pb, pc, Act.put, pd, pe, pf]
     refine tkg 1 rfl (by intro w' hS'; obtain ⟨⟨x0, x1, x2⟩, x3⟩ := hS'; go_simp <;> rfl) yS ?_
     try simp only [pa, pb, pc, Act.put, pd, pe, pf]
     refine tkg 2 rfl (by intro w' hS'; obtain ⟨⟨x0, x1, x2⟩, x3⟩ := hS'; go_simp <;> rfl) yS ?_
     try simp only [pa, pb, pc, Act.put, pd, pe, pf]
     refine tkg 3 rfl (by intro w' hS'; obtain ⟨⟨x0, x1, x2⟩, x3⟩ := hS'; go_simp <;> rfl) yS ?_
     try simp only [pa, pb, pc, Act.put, pd, pe, pf]
     refine tkg 4 rfl (by intro w' hS'; obtain ⟨⟨x0, x1, x2⟩, x3⟩ := hS'; go_simp <;> rfl) yS ?_
     try simp only [pa, pb, pc, Act.put, pd, pe, pf]
     refine tkg 6 rfl (by intro w' hS'; obtain ⟨⟨x0, x1, x2⟩, x3⟩ := hS'; go_simp <;> rfl) yS ?_
     try simp only [pa, pb, pc, Act.put, pd, pe, pf]
     refine tkg 7 rfl (by intro w' hS'; obtain ⟨⟨x0, x1, x2⟩, x3⟩ := hS'; go_simp <;> rfl) yS ?_
     try simp only [pa, pb, pc, Act.put, pd, pe, pf]
     refine tkg 8 rfl (by intro w' hS'; obtain ⟨⟨x0, x1, x2⟩, x3⟩ := hS'; go_simp <;> rfl) yS ?_
     try simp only [pa, pb, pc, Act.put, pd, pe, pf]
     refine tkg 9 rfl (by intro w' hS'; obtain ⟨⟨x0, x1, x2⟩, x3⟩ := hS'; go_simp <;> rfl) yS ?_
     try simp only [pa, pb, pc, Act.put, pd, pe, pf]
     refine tkg 10 rfl (by intro w' hS'; obtain ⟨⟨x0, x1, x2⟩, x3⟩ := hS'; go_simp <;> rfl) yS ?_
     try simp only [pa, pb, pc, Act.put, pd, pe, pf]
     refine wpAnyL_one 5 (by kernel_rfl) rfl (by kernel_rfl) ?_
     intro K' hK'
     go_simp
     go_at_call 84
     refine (kin _ yS).mono ?_
     rintro e W1 ⟨rfl, hS1⟩
     refine hK'.out _ _ (.inr hS1) ?_
     clear hK' K'
     try simp only [pa, pb, pc, Act.put, pd, pe, pf]
     refine wpAnyL_one 11 (by kernel_rfl) rfl (by kernel_rfl) ?_
     intro K' hK'
     go_simp
     go_at_call 27
     refine (khs _ hS1).mono ?_
     rintro e W2 ⟨rfl, hS2⟩
     refine hK'.out _ _ (.inr hS2) ?_
     clear hK' K'
     try simp only [pa, pb, pc, Act.put, pd, pe, pf]
     refine tkg 12 rfl (by intro w' hS'; obtain ⟨⟨x0, x1, x2⟩, x3⟩ := hS'; go_simp <;> rfl) hS2 ?_
     try simp only [pa, pb, pc, Act.put, pd, pe, pf]
     refine tkg 13 rfl (by intro w' hS'; obtain ⟨⟨x0, x1, x2⟩, x3⟩ := hS'; go_simp <;> rfl) hS2 ?_
     try simp only [pa, pb, pc, Act.put, pd, pe, pf]
     refine wpAnyL_done (by kernel_rfl) (NoPanic.normal ?_) _
     have hO2 := hO.below hS2.2
     have hb2 := hb.trans (hS2.2.mono hb.size)
     obtain ⟨⟨y0, -, -⟩, -⟩ := hS2
     clear hS1 kin khs clq hO hpcl hbxW hlW
     rcases hk with rfl | rfl | rfl
     ·cases op with
      | none =>
       cases hAA : isIn l q with
       | false =>
        cases hBB : has (s1, s2) q with
        | false =>
         have HC : Hid (chi l (s1, s2) 0 q = false) := by show _ = _; unfold chi; rw [hAA, hBB]; rfl
         have HR2 : Hid (R = D ++ scan (chi l (s1, s2) 0) none (P.drop (i + 1))) := by show _ = _; rw [HR.out, hdr, scan, HC.out]; rfl
         clear HC HR hdr hAA hBB
         have hDl2 : D.length ≤ i := by simp [opl] at hDl; omega
         go_wp2
         go_roundg (gk - 1)
         case measure => omega
         case rel => exact ⟨i + 1, ov, D, none, by omega, by go_num, rfl, rfl, hO2, hb2, HR2, by omega⟩
        | true =>
         have HC : Hid (chi l (s1, s2) 0 q = true) := by show _ = _; unfold chi; rw [hAA, hBB]; rfl
         have HR2 : Hid (R = D ++ scan (chi l (s1, s2) 0) (some q) (P.drop (i + 1))) := by show _ = _; rw [HR.out, hdr, scan, HC.out]; rfl
         clear HC HR hdr hAA hBB
         have hDl2 : D.length ≤ i := by simp [opl] at hDl; omega
         have hrunH := push_at (q, []) (w := W2) rfl (bk q) { data := #[] } rfl rfl hO2.1 (by omega)
         go_wp2_with (at_builtin; refine wp_by rfl _ _ _ rfl _ _ rfl rfl hrunH.out ?_)
         intro v6 w6 hp6
         obtain ⟨hO6, hb26⟩ := hO2.push hb2.size hp6
         clear hrunH hp6 hO2
         go_wp2
         go_roundg (gk - 1)
         case measure => omega
         case rel => exact ⟨i + 1, v6, D, some q, by omega, by go_num, rfl, rfl, by simpa [opl] using hO6, hb2.trans hb26, HR2, by simp [opl] at hDl ⊢; omega⟩
       | true =>
        cases hBB : has (s1, s2) q with
        | false =>
         have HC : Hid (chi l (s1, s2) 0 q = true) := by show _ = _; unfold chi; rw [hAA, hBB]; rfl
         have HR2 : Hid (R = D ++ scan (chi l (s1, s2) 0) (some q) (P.drop (i + 1))) := by show _ = _; rw [HR.out, hdr, scan, HC.out]; rfl
         clear HC HR hdr hAA hBB
         have hDl2 : D.length ≤ i := by simp [opl] at hDl; omega
         have hrunH := push_at (q, []) (w := W2) rfl (bk q) { data := #[] } rfl rfl hO2.1 (by omega)
         go_wp2_with (at_builtin; refine wp_by rfl _ _ _ rfl _ _ rfl rfl hrunH.out ?_)
         intro v6 w6 hp6
         obtain ⟨hO6, hb26⟩ := hO2.push hb2.size hp6
         clear hrunH hp6 hO2
         go_wp2
         go_roundg (gk - 1)
         case measure => omega
         case rel => exact ⟨i + 1, v6, D, some q, by omega, by go_num, rfl, rfl, by simpa [opl] using hO6, hb2.trans hb26, HR2, by simp [opl] at hDl ⊢; omega⟩
        | true =>
         have HC : Hid (chi l (s1, s2) 0 q = true) := by show _ = _; unfold chi; rw [hAA, hBB]; rfl
         have HR2 : Hid (R = D ++ scan (chi l (s1, s2) 0) (some q) (P.drop (i + 1))) := by show _ = _; rw [HR.out, hdr, scan, HC.out]; rfl
         clear HC HR hdr hAA hBB
         have hDl2 : D.length ≤ i := by simp [opl] at hDl; omega
         have hrunH := push_at (q, []) (w := W2) rfl (bk q) { data := #[] } rfl rfl hO2.1 (by omega)
         go_wp2_with (at_builtin; refine wp_by rfl _ _ _ rfl _ _ rfl rfl hrunH.out ?_)
         intro v6 w6 hp6
         obtain ⟨hO6, hb26⟩ := hO2.push hb2.size hp6
         clear hrunH hp6 hO2
         go_wp2
         go_roundg (gk - 1)
         case measure => omega
         case rel => exact ⟨i + 1, v6, D, some q, by omega, by go_num, rfl, rfl, by simpa [opl] using hO6, hb2.trans hb26, HR2, by simp [opl] at hDl ⊢; omega⟩
      | some f =>
       cases hAA : isIn l q with
       | false =>
        cases hBB : has (s1, s2) q with
        | false =>
         have HC : Hid (chi l (s1, s2) 0 q = false) := by show _ = _; unfold chi; rw [hAA, hBB]; rfl
         have HR2 : Hid (R = (D ++ [(f, q)]) ++ scan (chi l (s1, s2) 0) none (P.drop (i + 1))) := by show _ = _; rw [HR.out, hdr, scan, HC.out]; simp
         clear HC HR hdr hAA hBB
         have hDl2 : D.length ≤ i := by simp [opl] at hDl; omega
         have hset := own_set hO2 q
         obtain ⟨g, cp, hov, hgc, hgf, hset2⟩ := hset
         subst hov
         have hb26 := hset2.2
         have hD1 : IntKind.i64.wrap ((D.length : Int) + 1 - 1) = (D.length : Int) := by rw [Int.add_sub_cancel]; exact IntWalk.i64_in _ (by omega)
         have hD2 : (0 : Int) ≤ (D.length : Int) := by omega
         have hD3 : (D.length : Int) < (D.length : Int) + 1 := by omega
         have hD4 : ((D.length : Int)).toNat = D.length := by omega
         clear hO2
         go_wp2
         go_roundg (gk - 1)
         case measure => omega
         case rel => exact ⟨i + 1, _, D ++ [(f, q)], none, by omega, by go_num, rfl, rfl, by simpa [opl] using hset2.1, hb2.trans hb26, HR2, by simp [opl] at hDl ⊢; omega⟩
        | true =>
         have HC : Hid (chi l (s1, s2) 0 q = true) := by show _ = _; unfold chi; rw [hAA, hBB]; rfl
         have HR2 : Hid (R = D ++ scan (chi l (s1, s2) 0) (some f) (P.drop (i + 1))) := by show _ = _; rw [HR.out, hdr, scan, HC.out]; rfl
         clear HC HR hdr hAA hBB
         have hDl2 : D.length ≤ i := by simp [opl] at hDl; omega
         go_wp2
         go_roundg (gk - 1)
         case measure => omega
         case rel => exact ⟨i + 1, ov, D, some f, by omega, by go_num, rfl, rfl, hO2, hb2, HR2, by omega⟩
       | true =>
        cases hBB : has (s1, s2) q with
        | false =>
         have HC : Hid (chi l (s1, s2) 0 q = true) := by show _ = _; unfold chi; rw [hAA, hBB]; rfl
         have HR2 : Hid (R = D ++ scan (chi l (s1, s2) 0) (some f) (P.drop (i + 1))) := by show _ = _; rw [HR.out, hdr, scan, HC.out]; rfl
         clear HC HR hdr hAA hBB
         have hDl2 : D.length ≤ i := by simp [opl] at hDl; omega
         go_wp2
         go_roundg (gk - 1)
         case measure => omega
         case rel => exact ⟨i + 1, ov, D, some f, by omega, by go_num, rfl, rfl, hO2, hb2, HR2, by omega⟩
        | true =>
         have HC : Hid (chi l (s1, s2) 0 q = true) := by show _ = _; unfold chi; rw [hAA, hBB]; rfl
         have HR2 : Hid (R = D ++ scan (chi l (s1, s2) 0) (some f) (P.drop (i + 1))) := by show _ = _; rw [HR.out, hdr, scan, HC.out]; rfl
         clear HC HR hdr hAA hBB
         have hDl2 : D.length ≤ i := by simp [opl] at hDl; omega
         go_wp2
         go_roundg (gk - 1)
         case measure => omega
         case rel => exact ⟨i + 1, ov, D, some f, by omega, by go_num, rfl, rfl, hO2, hb2, HR2, by omega⟩
     ·cases op with
      | none =>
       cases hAA : isIn l q with
       | false =>
        cases hBB : has (s1, s2) q with
        | false =>
         have HC : Hid (chi l (s1, s2) 1 q = false) := by show _ = _; unfold chi; rw [hAA, hBB]; rfl
         have HR2 : Hid (R = D ++ scan (chi l (s1, s2) 1) none (P.drop (i + 1))) := by show _ = _; rw [HR.out, hdr, scan, HC.out]; rfl
         clear HC HR hdr hAA hBB
         have hDl2 : D.length ≤ i := by simp [opl] at hDl; omega
         go_wp2
         go_roundg (gk - 1)
         case measure => omega
         case rel => exact ⟨i + 1, ov, D, none, by omega, by go_num, rfl, rfl, hO2, hb2, HR2, by omega⟩
        | true =>
         have HC : Hid (chi l (s1, s2) 1 q = false) := by show _ = _; unfold chi; rw [hAA, hBB]; rfl
         have HR2 : Hid (R = D ++ scan (chi l (s1, s2) 1) none (P.drop (i + 1))) := by show _ = _; rw [HR.out, hdr, scan, HC.out]; rfl
         clear HC HR hdr hAA hBB
         have hDl2 : D.length ≤ i := by simp [opl] at hDl; omega
         go_wp2
         go_roundg (gk - 1)
         case measure => omega
         case rel => exact ⟨i + 1, ov, D, none, by omega, by go_num, rfl, rfl, hO2, hb2, HR2, by omega⟩
       | true =>
        cases hBB : has (s1, s2) q with
        | false =>
         have HC : Hid (chi l (s1, s2) 1 q = true) := by show _ = _; unfold chi; rw [hAA, hBB]; rfl
         have HR2 : Hid (R = D ++ scan (chi l (s1, s2) 1) (some q) (P.drop (i + 1))) := by show _ = _; rw [HR.out, hdr, scan, HC.out]; rfl
         clear HC HR hdr hAA hBB
         have hDl2 : D.length ≤ i := by simp [opl] at hDl; omega
         have hrunH := push_at (q, []) (w := W2) rfl (bk q) { data := #[] } rfl rfl hO2.1 (by omega)
         go_wp2_with (at_builtin; refine wp_by rfl _ _ _ rfl _ _ rfl rfl hrunH.out ?_)
         intro v6 w6 hp6
         obtain ⟨hO6, hb26⟩ := hO2.push hb2.size hp6
         clear hrunH hp6 hO2
         go_wp2
         go_roundg (gk - 1)
         case measure => omega
         case rel => exact ⟨i + 1, v6, D, some q, by omega, by go_num, rfl, rfl, by simpa [opl] using hO6, hb2.trans hb26, HR2, by simp [opl] at hDl ⊢; omega⟩
        | true =>
         have HC : Hid (chi l (s1, s2) 1 q = false) := by show _ = _; unfold chi; rw [hAA, hBB]; rfl
         have HR2 : Hid (R = D ++ scan (chi l (s1, s2) 1) none (P.drop (i + 1))) := by show _ = _; rw [HR.out, hdr, scan, HC.out]; rfl
         clear HC HR hdr hAA hBB
         have hDl2 : D.length ≤ i := by simp [opl] at hDl; omega
         go_wp2
         go_roundg (gk - 1)
         case measure => omega
         case rel => exact ⟨i + 1, ov, D, none, by omega, by go_num, rfl, rfl, hO2, hb2, HR2, by omega⟩
      | some f =>
       cases hAA : isIn l q with
       | false =>
        cases hBB : has (s1, s2) q with
        | false =>
         have HC : Hid (chi l (s1, s2) 1 q = false) := by show _ = _; unfold chi; rw [hAA, hBB]; rfl
         have HR2 : Hid (R = (D ++ [(f, q)]) ++ scan (chi l (s1, s2) 1) none (P.drop (i + 1))) := by show _ = _; rw [HR.out, hdr, scan, HC.out]; simp
         clear HC HR hdr hAA hBB
         have hDl2 : D.length ≤ i := by simp [opl] at hDl; omega
         have hset := own_set hO2 q
         obtain ⟨g, cp, hov, hgc, hgf, hset2⟩ := hset
         subst hov
         have hb26 := hset2.2
         have hD1 : IntKind.i64.wrap ((D.length : Int) + 1 - 1) = (D.length : Int) := by rw [Int.add_sub_cancel]; exact IntWalk.i64_in _ (by omega)
         have hD2 : (0 : Int) ≤ (D.length : Int) := by omega
         have hD3 : (D.length : Int) < (D.length : Int) + 1 := by omega
         have hD4 : ((D.length : Int)).toNat = D.length := by omega
         clear hO2
         go_wp2
         go_roundg (gk - 1)
         case measure => omega
         case rel => exact ⟨i + 1, _, D ++ [(f, q)], none, by omega, by go_num, rfl, rfl, by simpa [opl] using hset2.1, hb2.trans hb26, HR2, by simp [opl] at hDl ⊢; omega⟩
        | true =>
         have HC : Hid (chi l (s1, s2) 1 q = false) := by show _ = _; unfold chi; rw [hAA, hBB]; rfl
         have HR2 : Hid (R = (D ++ [(f, q)]) ++ scan (chi l (s1, s2) 1) none (P.drop (i + 1))) := by show _ = _; rw [HR.out, hdr, scan, HC.out]; simp
         clear HC HR hdr hAA hBB
         have hDl2 : D.length ≤ i := by simp [opl] at hDl; omega
         have hset := own_set hO2 q
         obtain ⟨g, cp, hov, hgc, hgf, hset2⟩ := hset
         subst hov
         have hb26 := hset2.2
         have hD1 : IntKind.i64.wrap ((D.length : Int) + 1 - 1) = (D.length : Int) := by rw [Int.add_sub_cancel]; exact IntWalk.i64_in _ (by omega)
         have hD2 : (0 : Int) ≤ (D.length : Int) := by omega
         have hD3 : (D.length : Int) < (D.length : Int) + 1 := by omega
         have hD4 : ((D.length : Int)).toNat = D.length := by omega
         clear hO2
         go_wp2
         go_roundg (gk - 1)
         case measure => omega
         case rel => exact ⟨i + 1, _, D ++ [(f, q)], none, by omega, by go_num, rfl, rfl, by simpa [opl] using hset2.1, hb2.trans hb26, HR2, by simp [opl] at hDl ⊢; omega⟩
       | true =>
        cases hBB : has (s1, s2) q with
        | false =>
         have HC : Hid (chi l (s1, s2) 1 q = true) := by show _ = _; unfold chi; rw [hAA, hBB]; rfl
         have HR2 : Hid (R = D ++ scan (chi l (s1, s2) 1) (some f) (P.drop (i + 1))) := by show _ = _; rw [HR.out, hdr, scan, HC.out]; rfl
         clear HC HR hdr hAA hBB
         have hDl2 : D.length ≤ i := by simp [opl] at hDl; omega
         go_wp2
         go_roundg (gk - 1)
         case measure => omega
         case rel => exact ⟨i + 1, ov, D, some f, by omega, by go_num, rfl, rfl, hO2, hb2, HR2, by omega⟩
        | true =>
         have HC : Hid (chi l (s1, s2) 1 q = false) := by show _ = _; unfold chi; rw [hAA, hBB]; rfl
         have HR2 : Hid (R = (D ++ [(f, q)]) ++ scan (chi l (s1, s2) 1) none (P.drop (i + 1))) := by show _ = _; rw [HR.out, hdr, scan, HC.out]; simp
         clear HC HR hdr hAA hBB
         have hDl2 : D.length ≤ i := by simp [opl] at hDl; omega
         have hset := own_set hO2 q
         obtain ⟨g, cp, hov, hgc, hgf, hset2⟩ := hset
         subst hov
         have hb26 := hset2.2
         have hD1 : IntKind.i64.wrap ((D.length : Int) + 1 - 1) = (D.length : Int) := by rw [Int.add_sub_cancel]; exact IntWalk.i64_in _ (by omega)
         have hD2 : (0 : Int) ≤ (D.length : Int) := by omega
         have hD3 : (D.length : Int) < (D.length : Int) + 1 := by omega
         have hD4 : ((D.length : Int)).toNat = D.length := by omega
         clear hO2
         go_wp2
         go_roundg (gk - 1)
         case measure => omega
         case rel => exact ⟨i + 1, _, D ++ [(f, q)], none, by omega, by go_num, rfl, rfl, by simpa [opl] using hset2.1, hb2.trans hb26, HR2, by simp [opl] at hDl ⊢; omega⟩
     ·cases op with
      | none =>
       cases hAA : isIn l q with
       | false =>
        cases hBB : has (s1, s2) q with
        | false =>
         have HC : Hid (chi l (s1, s2) 2 q = false) := by show _ = _; unfold chi; rw [hAA, hBB]; rfl
         have HR2 : Hid (R = D ++ scan (chi l (s1, s2) 2) none (P.drop (i + 1))) := by show _ = _; rw [HR.out, hdr, scan, HC.out]; rfl
         clear HC HR hdr hAA hBB
         have hDl2 : D.length ≤ i := by simp [opl] at hDl; omega
         go_wp2
         go_roundg (gk - 1)
         case measure => omega
         case rel => exact ⟨i + 1, ov, D, none, by omega, by go_num, rfl, rfl, hO2, hb2, HR2, by omega⟩
        | true =>
         have HC : Hid (chi l (s1, s2) 2 q = false) := by show _ = _; unfold chi; rw [hAA, hBB]; rfl
         have HR2 : Hid (R = D ++ scan (chi l (s1, s2) 2) none (P.drop (i + 1))) := by show _ = _; rw [HR.out, hdr, scan, HC.out]; rfl
         clear HC HR hdr hAA hBB
         have hDl2 : D.length ≤ i := by simp [opl] at hDl; omega
         go_wp2
         go_roundg (gk - 1)
         case measure => omega
         case rel => exact ⟨i + 1, ov, D, none, by omega, by go_num, rfl, rfl, hO2, hb2, HR2, by omega⟩
       | true =>
        cases hBB : has (s1, s2) q with
        | false =>
         have HC : Hid (chi l (s1, s2) 2 q = false) := by show _ = _; unfold chi; rw [hAA, hBB]; rfl
         have HR2 : Hid (R = D ++ scan (chi l (s1, s2) 2) none (P.drop (i + 1))) := by show _ = _; rw [HR.out, hdr, scan, HC.out]; rfl
         clear HC HR hdr hAA hBB
         have hDl2 : D.length ≤ i := by simp [opl] at hDl; omega
         go_wp2
         go_roundg (gk - 1)
         case measure => omega
         case rel => exact ⟨i + 1, ov, D, none, by omega, by go_num, rfl, rfl, hO2, hb2, HR2, by omega⟩
        | true =>
         have HC : Hid (chi l (s1, s2) 2 q = true) := by show _ = _; unfold chi; rw [hAA, hBB]; rfl
         have HR2 : Hid (R = D ++ scan (chi l (s1, s2) 2) (some q) (P.drop (i + 1))) := by show _ = _; rw [HR.out, hdr, scan, HC.out]; rfl
         clear HC HR hdr hAA hBB
         have hDl2 : D.length ≤ i := by simp [opl] at hDl; omega
         have hrunH := push_at (q, []) (w := W2) rfl (bk q) { data := #[] } rfl rfl hO2.1 (by omega)
         go_wp2_with (at_builtin; refine wp_by rfl _ _ _ rfl _ _ rfl rfl hrunH.out ?_)
         intro v6 w6 hp6
         obtain ⟨hO6, hb26⟩ := hO2.push hb2.size hp6
         clear hrunH hp6 hO2
         go_wp2
         go_roundg (gk - 1)
         case measure => omega
         case rel => exact ⟨i + 1, v6, D, some q, by omega, by go_num, rfl, rfl, by simpa [opl] using hO6, hb2.trans hb26, HR2, by simp [opl] at hDl ⊢; omega⟩
      | some f =>
       cases hAA : isIn l q with
       | false =>
        cases hBB : has (s1, s2) q with
        | false =>
         have HC : Hid (chi l (s1, s2) 2 q = false) := by show _ = _; unfold chi; rw [hAA, hBB]; rfl
         have HR2 : Hid (R = (D ++ [(f, q)]) ++ scan (chi l (s1, s2) 2) none (P.drop (i + 1))) := by show _ = _; rw [HR.out, hdr, scan, HC.out]; simp
         clear HC HR hdr hAA hBB
         have hDl2 : D.length ≤ i := by simp [opl] at hDl; omega
         have hset := own_set hO2 q
         obtain ⟨g, cp, hov, hgc, hgf, hset2⟩ := hset
         subst hov
         have hb26 := hset2.2
         have hD1 : IntKind.i64.wrap ((D.length : Int) + 1 - 1) = (D.length : Int) := by rw [Int.add_sub_cancel]; exact IntWalk.i64_in _ (by omega)
         have hD2 : (0 : Int) ≤ (D.length : Int) := by omega
         have hD3 : (D.length : Int) < (D.length : Int) + 1 := by omega
         have hD4 : ((D.length : Int)).toNat = D.length := by omega
         clear hO2
         go_wp2
         go_roundg (gk - 1)
         case measure => omega
         case rel => exact ⟨i + 1, _, D ++ [(f, q)], none, by omega, by go_num, rfl, rfl, by simpa [opl] using hset2.1, hb2.trans hb26, HR2, by simp [opl] at hDl ⊢; omega⟩
        | true =>
         have HC : Hid (chi l (s1, s2) 2 q = false) := by show _ = _; unfold chi; rw [hAA, hBB]; rfl
         have HR2 : Hid (R = (D ++ [(f, q)]) ++ scan (chi l (s1, s2) 2) none (P.drop (i + 1))) := by show _ = _; rw [HR.out, hdr, scan, HC.out]; simp
         clear HC HR hdr hAA hBB
         have hDl2 : D.length ≤ i := by simp [opl] at hDl; omega
         have hset := own_set hO2 q
         obtain ⟨g, cp, hov, hgc, hgf, hset2⟩ := hset
         subst hov
         have hb26 := hset2.2
         have hD1 : IntKind.i64.wrap ((D.length : Int) + 1 - 1) = (D.length : Int) := by rw [Int.add_sub_cancel]; exact IntWalk.i64_in _ (by omega)
         have hD2 : (0 : Int) ≤ (D.length : Int) := by omega
         have hD3 : (D.length : Int) < (D.length : Int) + 1 := by omega
         have hD4 : ((D.length : Int)).toNat = D.length := by omega
         clear hO2
         go_wp2
         go_roundg (gk - 1)
         case measure => omega
         case rel => exact ⟨i + 1, _, D ++ [(f, q)], none, by omega, by go_num, rfl, rfl, by simpa [opl] using hset2.1, hb2.trans hb26, HR2, by simp [opl] at hDl ⊢; omega⟩
       | true =>
        cases hBB : has (s1, s2) q with
        | false =>
         have HC : Hid (chi l (s1, s2) 2 q = false) := by show _ = _; unfold chi; rw [hAA, hBB]; rfl
         have HR2 : Hid (R = (D ++ [(f, q)]) ++ scan (chi l (s1, s2) 2) none (P.drop (i + 1))) := by show _ = _; rw [HR.out, hdr, scan, HC.out]; simp
         clear HC HR hdr hAA hBB
         have hDl2 : D.length ≤ i := by simp [opl] at hDl; omega
         have hset := own_set hO2 q
         obtain ⟨g, cp, hov, hgc, hgf, hset2⟩ := hset
         subst hov
         have hb26 := hset2.2
         have hD1 : IntKind.i64.wrap ((D.length : Int) + 1 - 1) = (D.length : Int) := by rw [Int.add_sub_cancel]; exact IntWalk.i64_in _ (by omega)
         have hD2 : (0 : Int) ≤ (D.length : Int) := by omega
         have hD3 : (D.length : Int) < (D.length : Int) + 1 := by omega
         have hD4 : ((D.length : Int)).toNat = D.length := by omega
         clear hO2
         go_wp2
         go_roundg (gk - 1)
         case measure => omega
         case rel => exact ⟨i + 1, _, D ++ [(f, q)], none, by omega, by go_num, rfl, rfl, by simpa [opl] using hset2.1, hb2.trans hb26, HR2, by simp [opl] at hDl ⊢; omega⟩
        | true =>
         have HC : Hid (chi l (s1, s2) 2 q = true) := by show _ = _; unfold chi; rw [hAA, hBB]; rfl
         have HR2 : Hid (R = D ++ scan (chi l (s1, s2) 2) (some f) (P.drop (i + 1))) := by show _ = _; rw [HR.out, hdr, scan, HC.out]; rfl
         clear HC HR hdr hAA hBB
         have hDl2 : D.length ≤ i := by simp [opl] at hDl; omega
         go_wp2
         go_roundg (gk - 1)
         case measure => omega
         case rel => exact ⟨i + 1, ov, D, some f, by omega, by go_num, rfl, rfl, hO2, hb2, HR2, by omega⟩
    ·have hlti : ¬ (i : Int) < (P.length : Int) := by omega
     have hend : P.drop i = [] := List.drop_eq_nil_of_le (by omega)
     have E : Hid (R = D ++ opl op) := by show _ = _; rw [HR.out, hend]; cases op <;> rfl
     clear HR hend hpcl hbxW hlW
     go_wp2
     go_ret
     rw [E.out]
     exact ⟨_, rfl, hO.1.rd, hwW.trans (hb.mono hwW.size)⟩
  ·obtain ⟨q1, q2, q3⟩ := one_box W0 (.cells #[.string (bk s1), .string (bk s2)] 47)
   have hb1 := hbase.same fun k hk => q3.block k (hbase.lt hk)
   have hSr0 : Rk spE (W0.alloc (.cells #[.string (bk s1), .string (bk s2)] 47)) 47 (.slice (some ⟨W0.heap.size, 0, none⟩) 1 1) [(s1, s2)] := Rk.made (E := spE) (xs := [(s1, s2)]) q2 rfl (by unfold maxLen; simp)
   have hbB := hbA.trans (q3.mono (hNN _ hbA))
   rw [hsA] at hSr0
   clear q1 q2 q3
   intro K' hK'
   go_simp
   refine hK'.out _ _ (.inr hbB) ?_
   clear hK' K'
   try simp only [pa, pb, pc, Act.put, pd, pe, pf]
   generalize W0.alloc (.cells #[.string (bk s1), .string (bk s2)] 47) = W1 at *
   have r2 := append_spH hb1 (hlR W1 hbB) (by simp) (by omega)
   refine wpAnyL_one 2 (by kernel_rfl) rfl (by kernel_rfl) ?_
   intro K' hK'
   refine op_run r2 _ _ rfl (by rfl) (by rfl) ?_
   intro v4 w4 hp4
   have hS4 := hbB.trans (grown_below hp4.2.1 (hNN _ hbB) hOw0)
   refine hK'.out _ _ (.inr hS4) ?_
   clear hK' K'
   try simp only [pa, pb, pc, Act.put, pd, pe, pf]
   have hOw2 := own_up hp4 (hNN _ hbB) hOw0
   have hR2 := hp4.1
   have hSr := hSr0.same fun k hk => hp4.2.1.block k (hSr0.lt hk) (fun e => by simp only [Value.ownBlock, Option.some.injEq] at hk e; omega)
   clear r2 hp4 hSr0
   have r5 := append_spH hR2 hSr.rd (by simp; omega) (by simp)
   refine wpAnyL_one 5 (by kernel_rfl) rfl (by kernel_rfl) ?_
   intro K' hK'
   refine op_run r5 _ _ rfl (by rfl) (by rfl) ?_
   intro v5 w5 hp5
   have hS5 := hS4.trans (grown_below hp5.2.1 (hNN _ hS4) hOw2)
   refine hK'.out _ _ (.inr hS5) ?_
   clear hK' K'
   try simp only [pa, pb, pc, Act.put, pd, pe, pf]
   have kp := places_of _ v5 w5 hp5.1.rd.sv (by simp; omega)
   rw [List.nil_append] at kp
   clear r5 hR2 hSr
   obtain ⟨a5, c5, hv5, -⟩ : ∃ a5 c5, v5 = .slice a5 (l.length + 1) c5 ∧ True := by
    obtain ⟨a, c, e, _⟩ := hp5.1.shape
    exact ⟨a, c, by rw [e]; simp, trivial⟩
   subst hv5
   clear hp5
   refine wpAnyL_one 6 (by kernel_rfl) rfl (by kernel_rfl) ?_
   intro K' hK'
   go_simp
   go_at_call 86
   refine kp.mono ?_
   rintro e w3 ⟨pv, rfl, hPR, hb3⟩
   have hb6 := hS5.trans (hb3.mono (hNN _ hS5))
   refine hK'.out _ _ (.inr hb6) ?_
   clear hK' K' kp
   try simp only [pa, pb, pc, Act.put, pd, pe, pf]
   refine tkg 7 rfl (by intro w' hS'; obtain ⟨x0, x1⟩ := cl w' hS'; go_simp <;> rfl) hb6 ?_
   try simp only [pa, pb, pc, Act.put, pd, pe, pf]
   refine wpAnyL_done (by kernel_rfl) (NoPanic.normal ?_) _
   have hPl := plc_len (l ++ [(s1, s2)])
   rw [← HP.out] at hPR hPl
   clear hb3 hS5 cl
   obtain ⟨ap, cpp, hpv, -, -, hpc⟩ := id hPR
   obtain ⟨pb, po, rfl, -⟩ : ∃ pb po, ap = some ⟨pb, po, none⟩ ∧ True := by
    obtain ⟨b', o', r, _⟩ := hpc 0 (P[0]'hPl.2) 0 _ (List.getElem?_eq_getElem hPl.2) rfl
    exact ⟨b', o', r, trivial⟩
   subst hpv
   have hpl : P.length ≤ 1000 := by have := hPl.1; simp at this; omega
   have hpcl : ∀ W, Below w3.heap.size w3 W → ∀ i q, P[i]? = some q → W.cell? ⟨pb, po + i, none⟩ = some (.string (bk q)) := fun W hW i q hq => by
    obtain ⟨b', o', r1, r2⟩ := hpc i q 0 _ hq rfl
    cases r1
    have hk1 : strE.k = 1 := rfl
    rw [hk1] at r2
    simp only [Nat.mul_one, Nat.add_zero] at r2
    exact (hW.cell (p := ⟨pb, po + i, none⟩) (World.block_lt_of_cell? w3 _ r2)).trans r2
   have hN3 : w.heap.size + 1 ≤ w3.heap.size := hNN _ hb6
   have hbxW : ∀ W, Below w3.heap.size w3 W → W.cell? ⟨w.heap.size, 0, none⟩ = some (.string (bk s1)) ∧ W.cell? ⟨w.heap.size, 1, none⟩ = some (.string (bk s2)) := fun W hW => cl0.out W (hb6.trans (hW.mono hN3))
   have hlW : ∀ W, Below w3.heap.size w3 W → Sv W (.slice ao l.length cap) l := fun W hW => hSl.below (hb0.trans ((hb6.trans (hW.mono hN3)).mono (Nat.le_succ _)))
   have hwW : Below w.heap.size w w3 := hb0.trans (hb6.mono (Nat.le_succ _))
   obtain ⟨q1, q2, q3⟩ := one_box w3 (.cells #[] 47)
   have hO0 : Own w3.heap.size (w3.alloc (.cells #[] 47)) (.slice (some ⟨w3.heap.size, 0, none⟩) 0 0) ([] ++ opl none) := ⟨Rk.made (E := spE) (xs := []) q2 rfl (by unfold maxLen; simp), fun k hk => by cases hk; exact Nat.le_refl _⟩
   clear q1 q2 hpc hPR hPl HP hb6 hb0 hSl
   go_wp2
   go_loopg [8, 9, 10] P.length (fun g s8 s9 s10 wr => ∃ (i : Nat) (ov : Value) (D : List Sp) (op : Option K), i + g = P.length ∧ s10 = .int .i64 (i : Int) ∧ ov = s8 ∧ s9 = .bool op.isSome ∧ Own w3.heap.size wr ov (D ++ opl op) ∧ Below w3.heap.size w3 wr ∧ Hid (R = D ++ scan (chi l (s1, s2) kind) op (P.drop i)) ∧ (D ++ opl op).length ≤ i)
   case atStart => exact ⟨0, _, [], none, by simp, rfl, rfl, rfl, hO0, q3, HR0, by simp [opl]⟩
   case round =>
    obtain ⟨i, ov, D, op, hig, rfl, rfl, rfl, hO, hb, HR, hDl⟩ := hrel
    clear hO0 q3 HR0
    by_cases hlt : i < P.length
    ·have hlti : (i : Int) < (P.length : Int) := by omega
     have hx : P[i]? = some P[i] := List.getElem?_eq_getElem hlt
     obtain ⟨q, hs⟩ : ∃ s, s = P[i] := ⟨_, rfl⟩
     have hdr : P.drop i = q :: P.drop (i + 1) := by rw [hs]; exact List.drop_eq_getElem_cons hlt
     rw [← hs] at hx
     have clq : ∀ W, Below wr.heap.size wr W → (fun W => (W.cell? ⟨pb, po + i, none⟩ = some (.string (bk q)) ∧ W.cell? ⟨w.heap.size, 0, none⟩ = some (.string (bk s1)) ∧ W.cell? ⟨w.heap.size, 1, none⟩ = some (.string (bk s2))) ∧ Below wr.heap.size wr W) W := fun W hW => by
      have h := hb.trans (hW.mono hb.size)
      exact ⟨⟨hpcl W h i q hx, hbxW W h⟩, hW⟩
     have kin : ∀ W, (fun W => (W.cell? ⟨pb, po + i, none⟩ = some (.string (bk q)) ∧ W.cell? ⟨w.heap.size, 0, none⟩ = some (.string (bk s1)) ∧ W.cell? ⟨w.heap.size, 1, none⟩ = some (.string (bk s2))) ∧ Below wr.heap.size wr W) W → Calls Tryz.prog 84 #[.slice ao l.length cap, .string (bk q)] W fun e w' => e = .returned (.bool (isIn l q)) ∧ (fun W => (W.cell? ⟨pb, po + i, none⟩ = some (.string (bk q)) ∧ W.cell? ⟨w.heap.size, 0, none⟩ = some (.string (bk s1)) ∧ W.cell? ⟨w.heap.size, 1, none⟩ = some (.string (bk s2))) ∧ Below wr.heap.size wr W) w' := fun W hW => by
      refine (refIn_of l _ q W (hlW W (hb.trans (hW.2.mono hb.size))) (by omega)).mono ?_
      rintro e w' ⟨rfl, hb'⟩
      exact ⟨rfl, clq w' (keep_step hW.2 (Nat.le_refl _) hb')⟩
     have khs : ∀ W, (fun W => (W.cell? ⟨pb, po + i, none⟩ = some (.string (bk q)) ∧ W.cell? ⟨w.heap.size, 0, none⟩ = some (.string (bk s1)) ∧ W.cell? ⟨w.heap.size, 1, none⟩ = some (.string (bk s2))) ∧ Below wr.heap.size wr W) W → Calls Tryz.prog 27 #[.agg #[.string (bk s1), .string (bk s2)], .string (bk q)] W fun e w' => e = .returned (.bool (has (s1, s2) q)) ∧ (fun W => (W.cell? ⟨pb, po + i, none⟩ = some (.string (bk q)) ∧ W.cell? ⟨w.heap.size, 0, none⟩ = some (.string (bk s1)) ∧ W.cell? ⟨w.heap.size, 1, none⟩ = some (.string (bk s2))) ∧ Below wr.heap.size wr W) w' := fun W hW => by
      refine (refHas_of (s1, s2) q W).mono ?_
      rintro e w' ⟨rfl, hb'⟩
      exact ⟨rfl, clq w' (keep_step hW.2 (Nat.le_refl _) hb')⟩
     clear hx hs
     go_wp2
     refine wp_region_L (fun W => (W.cell? ⟨pb, po + i, none⟩ = some (.string (bk q)) ∧ W.cell? ⟨w.heap.size, 0, none⟩ = some (.string (bk s1)) ∧ W.cell? ⟨w.heap.size, 1, none⟩ = some (.string (bk s2))) ∧ Below wr.heap.size wr W) [] (by kernel_rfl) ?_
     have yS : (fun W => (W.cell? ⟨pb, po + i, none⟩ = some (.string (bk q)) ∧ W.cell? ⟨w.heap.size, 0, none⟩ = some (.string (bk s1)) ∧ W.cell? ⟨w.heap.size, 1, none⟩ = some (.string (bk s2))) ∧ Below wr.heap.size wr W) wr.drew := clq _ (Below.refl _ wr).drew
     refine tkg 0 rfl (by intro w' hS'; obtain ⟨⟨x0, x1, x2⟩, x3⟩ := hS'; go_simp <;> rfl) yS ?_
     try simp only [pa, pb, pc, Act.put, pd, pe, pf]
     refine tkg 1 rfl (by intro w' hS'; obtain ⟨⟨x0, x1, x2⟩, x3⟩ := hS'; go_simp <;> rfl) yS ?_
     try simp only [pa, pb, pc, Act.put, pd, pe, pf]
     refine tkg 2 rfl (by intro w' hS'; obtain ⟨⟨x0, x1, x2⟩, x3⟩ := hS'; go_simp <;> rfl) yS ?_
     try simp only [pa, pb, pc, Act.put, pd, pe, pf]
     refine tkg 3 rfl (by intro w' hS'; obtain ⟨⟨x0, x1, x2⟩, x3⟩ := hS'; go_simp <;> rfl) yS ?_
     try simp only [pa, pb, pc, Act.put, pd, pe, pf]
     refine tkg 4 rfl (by intro w' hS'; obtain ⟨⟨x0, x1, x2⟩, x3⟩ := hS'; go_simp <;> rfl) yS ?_
     try simp only [pa, pb, pc, Act.put, pd, pe, pf]
     refine tkg 6 rfl (by intro w' hS'; obtain ⟨⟨x0, x1, x2⟩, x3⟩ := hS'; go_simp <;> rfl) yS ?_
     try simp only [pa, pb, pc, Act.put, pd, pe, pf]
     refine tkg 7 rfl (by intro w' hS'; obtain ⟨⟨x0, x1, x2⟩, x3⟩ := hS'; go_simp <;> rfl) yS ?_
     try simp only [pa, pb, pc, Act.put, pd, pe, pf]
     refine tkg 8 rfl (by intro w' hS'; obtain ⟨⟨x0, x1, x2⟩, x3⟩ := hS'; go_simp <;> rfl) yS ?_
     try simp only [pa, pb, pc, Act.put, pd, pe, pf]
     refine tkg 9 rfl (by intro w' hS'; obtain ⟨⟨x0, x1, x2⟩, x3⟩ := hS'; go_simp <;> rfl) yS ?_
     try simp only [pa, pb, pc, Act.put, pd, pe, pf]
     refine tkg 10 rfl (by intro w' hS'; obtain ⟨⟨x0, x1, x2⟩, x3⟩ := hS'; go_simp <;> rfl) yS ?_
     try simp only [pa, pb, pc, Act.put, pd, pe, pf]
     refine wpAnyL_one 5 (by kernel_rfl) rfl (by kernel_rfl) ?_
     intro K' hK'
     go_simp
     go_at_call 84
     refine (kin _ yS).mono ?_
     rintro e W1 ⟨rfl, hS1⟩
     refine hK'.out _ _ (.inr hS1) ?_
     clear hK' K'
     try simp only [pa, pb, pc, Act.put, pd, pe, pf]
     refine wpAnyL_one 11 (by kernel_rfl) rfl (by kernel_rfl) ?_
     intro K' hK'
     go_simp
     go_at_call 27
     refine (khs _ hS1).mono ?_
     rintro e W2 ⟨rfl, hS2⟩
     refine hK'.out _ _ (.inr hS2) ?_
     clear hK' K'
     try simp only [pa, pb, pc, Act.put, pd, pe, pf]
     refine tkg 12 rfl (by intro w' hS'; obtain ⟨⟨x0, x1, x2⟩, x3⟩ := hS'; go_simp <;> rfl) hS2 ?_
     try simp only [pa, pb, pc, Act.put, pd, pe, pf]
     refine tkg 13 rfl (by intro w' hS'; obtain ⟨⟨x0, x1, x2⟩, x3⟩ := hS'; go_simp <;> rfl) hS2 ?_
     try simp only [pa, pb, pc, Act.put, pd, pe, pf]
     refine wpAnyL_done (by kernel_rfl) (NoPanic.normal ?_) _
     have hO2 := hO.below hS2.2
     have hb2 := hb.trans (hS2.2.mono hb.size)
     obtain ⟨⟨y0, -, -⟩, -⟩ := hS2
     clear hS1 kin khs clq hO hpcl hbxW hlW
     rcases hk with rfl | rfl | rfl
     ·cases op with
      | none =>
       cases hAA : isIn l q with
       | false =>
        cases hBB : has (s1, s2) q with
        | false =>
         have HC : Hid (chi l (s1, s2) 0 q = false) := by show _ = _; unfold chi; rw [hAA, hBB]; rfl
         have HR2 : Hid (R = D ++ scan (chi l (s1, s2) 0) none (P.drop (i + 1))) := by show _ = _; rw [HR.out, hdr, scan, HC.out]; rfl
         clear HC HR hdr hAA hBB
         have hDl2 : D.length ≤ i := by simp [opl] at hDl; omega
         go_wp2
         go_roundg (gk - 1)
         case measure => omega
         case rel => exact ⟨i + 1, ov, D, none, by omega, by go_num, rfl, rfl, hO2, hb2, HR2, by omega⟩
        | true =>
         have HC : Hid (chi l (s1, s2) 0 q = true) := by show _ = _; unfold chi; rw [hAA, hBB]; rfl
         have HR2 : Hid (R = D ++ scan (chi l (s1, s2) 0) (some q) (P.drop (i + 1))) := by show _ = _; rw [HR.out, hdr, scan, HC.out]; rfl
         clear HC HR hdr hAA hBB
         have hDl2 : D.length ≤ i := by simp [opl] at hDl; omega
         have hrunH := push_at (q, []) (w := W2) rfl (bk q) { data := #[] } rfl rfl hO2.1 (by omega)
         go_wp2_with (at_builtin; refine wp_by rfl _ _ _ rfl _ _ rfl rfl hrunH.out ?_)
         intro v6 w6 hp6
         obtain ⟨hO6, hb26⟩ := hO2.push hb2.size hp6
         clear hrunH hp6 hO2
         go_wp2
         go_roundg (gk - 1)
         case measure => omega
         case rel => exact ⟨i + 1, v6, D, some q, by omega, by go_num, rfl, rfl, by simpa [opl] using hO6, hb2.trans hb26, HR2, by simp [opl] at hDl ⊢; omega⟩
       | true =>
        cases hBB : has (s1, s2) q with
        | false =>
         have HC : Hid (chi l (s1, s2) 0 q = true) := by show _ = _; unfold chi; rw [hAA, hBB]; rfl
         have HR2 : Hid (R = D ++ scan (chi l (s1, s2) 0) (some q) (P.drop (i + 1))) := by show _ = _; rw [HR.out, hdr, scan, HC.out]; rfl
         clear HC HR hdr hAA hBB
         have hDl2 : D.length ≤ i := by simp [opl] at hDl; omega
         have hrunH := push_at (q, []) (w := W2) rfl (bk q) { data := #[] } rfl rfl hO2.1 (by omega)
         go_wp2_with (at_builtin; refine wp_by rfl _ _ _ rfl _ _ rfl rfl hrunH.out ?_)
         intro v6 w6 hp6
         obtain ⟨hO6, hb26⟩ := hO2.push hb2.size hp6
         clear hrunH hp6 hO2
         go_wp2
         go_roundg (gk - 1)
         case measure => omega
         case rel => exact ⟨i + 1, v6, D, some q, by omega, by go_num, rfl, rfl, by simpa [opl] using hO6, hb2.trans hb26, HR2, by simp [opl] at hDl ⊢; omega⟩
        | true =>
         have HC : Hid (chi l (s1, s2) 0 q = true) := by show _ = _; unfold chi; rw [hAA, hBB]; rfl
         have HR2 : Hid (R = D ++ scan (chi l (s1, s2) 0) (some q) (P.drop (i + 1))) := by show _ = _; rw [HR.out, hdr, scan, HC.out]; rfl
         clear HC HR hdr hAA hBB
         have hDl2 : D.length ≤ i := by simp [opl] at hDl; omega
         have hrunH := push_at (q, []) (w := W2) rfl (bk q) { data := #[] } rfl rfl hO2.1 (by omega)
         go_wp2_with (at_builtin; refine wp_by rfl _ _ _ rfl _ _ rfl rfl hrunH.out ?_)
         intro v6 w6 hp6
         obtain ⟨hO6, hb26⟩ := hO2.push hb2.size hp6
         clear hrunH hp6 hO2
         go_wp2
         go_roundg (gk - 1)
         case measure => omega
         case rel => exact ⟨i + 1, v6, D, some q, by omega, by go_num, rfl, rfl, by simpa [opl] using hO6, hb2.trans hb26, HR2, by simp [opl] at hDl ⊢; omega⟩
      | some f =>
       cases hAA : isIn l q with
       | false =>
        cases hBB : has (s1, s2) q with
        | false =>
         have HC : Hid (chi l (s1, s2) 0 q = false) := by show _ = _; unfold chi; rw [hAA, hBB]; rfl
         have HR2 : Hid (R = (D ++ [(f, q)]) ++ scan (chi l (s1, s2) 0) none (P.drop (i + 1))) := by show _ = _; rw [HR.out, hdr, scan, HC.out]; simp
         clear HC HR hdr hAA hBB
         have hDl2 : D.length ≤ i := by simp [opl] at hDl; omega
         have hset := own_set hO2 q
         obtain ⟨g, cp, hov, hgc, hgf, hset2⟩ := hset
         subst hov
         have hb26 := hset2.2
         have hD1 : IntKind.i64.wrap ((D.length : Int) + 1 - 1) = (D.length : Int) := by rw [Int.add_sub_cancel]; exact IntWalk.i64_in _ (by omega)
         have hD2 : (0 : Int) ≤ (D.length : Int) := by omega
         have hD3 : (D.length : Int) < (D.length : Int) + 1 := by omega
         have hD4 : ((D.length : Int)).toNat = D.length := by omega
         clear hO2
         go_wp2
         go_roundg (gk - 1)
         case measure => omega
         case rel => exact ⟨i + 1, _, D ++ [(f, q)], none, by omega, by go_num, rfl, rfl, by simpa [opl] using hset2.1, hb2.trans hb26, HR2, by simp [opl] at hDl ⊢; omega⟩
        | true =>
         have HC : Hid (chi l (s1, s2) 0 q = true) := by show _ = _; unfold chi; rw [hAA, hBB]; rfl
         have HR2 : Hid (R = D ++ scan (chi l (s1, s2) 0) (some f) (P.drop (i + 1))) := by show _ = _; rw [HR.out, hdr, scan, HC.out]; rfl
         clear HC HR hdr hAA hBB
         have hDl2 : D.length ≤ i := by simp [opl] at hDl; omega
         go_wp2
         go_roundg (gk - 1)
         case measure => omega
         case rel => exact ⟨i + 1, ov, D, some f, by omega, by go_num, rfl, rfl, hO2, hb2, HR2, by omega⟩
       | true =>
        cases hBB : has (s1, s2) q with
        | false =>
         have HC : Hid (chi l (s1, s2) 0 q = true) := by show _ = _; unfold chi; rw [hAA, hBB]; rfl
         have HR2 : Hid (R = D ++ scan (chi l (s1, s2) 0) (some f) (P.drop (i + 1))) := by show _ = _; rw [HR.out, hdr, scan, HC.out]; rfl
         clear HC HR hdr hAA hBB
         have hDl2 : D.length ≤ i := by simp [opl] at hDl; omega
         go_wp2
         go_roundg (gk - 1)
         case measure => omega
         case rel => exact ⟨i + 1, ov, D, some f, by omega, by go_num, rfl, rfl, hO2, hb2, HR2, by omega⟩
        | true =>
         have HC : Hid (chi l (s1, s2) 0 q = true) := by show _ = _; unfold chi; rw [hAA, hBB]; rfl
         have HR2 : Hid (R = D ++ scan (chi l (s1, s2) 0) (some f) (P.drop (i + 1))) := by show _ = _; rw [HR.out, hdr, scan, HC.out]; rfl
         clear HC HR hdr hAA hBB
         have hDl2 : D.length ≤ i := by simp [opl] at hDl; omega
         go_wp2
         go_roundg (gk - 1)
         case measure => omega
         case rel => exact ⟨i + 1, ov, D, some f, by omega, by go_num, rfl, rfl, hO2, hb2, HR2, by omega⟩
     ·cases op with
      | none =>
       cases hAA : isIn l q with
       | false =>
        cases hBB : has (s1, s2) q with
        | false =>
         have HC : Hid (chi l (s1, s2) 1 q = false) := by show _ = _; unfold chi; rw [hAA, hBB]; rfl
         have HR2 : Hid (R = D ++ scan (chi l (s1, s2) 1) none (P.drop (i + 1))) := by show _ = _; rw [HR.out, hdr, scan, HC.out]; rfl
         clear HC HR hdr hAA hBB
         have hDl2 : D.length ≤ i := by simp [opl] at hDl; omega
         go_wp2
         go_roundg (gk - 1)
         case measure => omega
         case rel => exact ⟨i + 1, ov, D, none, by omega, by go_num, rfl, rfl, hO2, hb2, HR2, by omega⟩
        | true =>
         have HC : Hid (chi l (s1, s2) 1 q = false) := by show _ = _; unfold chi; rw [hAA, hBB]; rfl
         have HR2 : Hid (R = D ++ scan (chi l (s1, s2) 1) none (P.drop (i + 1))) := by show _ = _; rw [HR.out, hdr, scan, HC.out]; rfl
         clear HC HR hdr hAA hBB
         have hDl2 : D.length ≤ i := by simp [opl] at hDl; omega
         go_wp2
         go_roundg (gk - 1)
         case measure => omega
         case rel => exact ⟨i + 1, ov, D, none, by omega, by go_num, rfl, rfl, hO2, hb2, HR2, by omega⟩
       | true =>
        cases hBB : has (s1, s2) q with
        | false =>
         have HC : Hid (chi l (s1, s2) 1 q = true) := by show _ = _; unfold chi; rw [hAA, hBB]; rfl
         have HR2 : Hid (R = D ++ scan (chi l (s1, s2) 1) (some q) (P.drop (i + 1))) := by show _ = _; rw [HR.out, hdr, scan, HC.out]; rfl
         clear HC HR hdr hAA hBB
         have hDl2 : D.length ≤ i := by simp [opl] at hDl; omega
         have hrunH := push_at (q, []) (w := W2) rfl (bk q) { data := #[] } rfl rfl hO2.1 (by omega)
         go_wp2_with (at_builtin; refine wp_by rfl _ _ _ rfl _ _ rfl rfl hrunH.out ?_)
         intro v6 w6 hp6
         obtain ⟨hO6, hb26⟩ := hO2.push hb2.size hp6
         clear hrunH hp6 hO2
         go_wp2
         go_roundg (gk - 1)
         case measure => omega
         case rel => exact ⟨i + 1, v6, D, some q, by omega, by go_num, rfl, rfl, by simpa [opl] using hO6, hb2.trans hb26, HR2, by simp [opl] at hDl ⊢; omega⟩
        | true =>
         have HC : Hid (chi l (s1, s2) 1 q = false) := by show _ = _; unfold chi; rw [hAA, hBB]; rfl
         have HR2 : Hid (R = D ++ scan (chi l (s1, s2) 1) none (P.drop (i + 1))) := by show _ = _; rw [HR.out, hdr, scan, HC.out]; rfl
         clear HC HR hdr hAA hBB
         have hDl2 : D.length ≤ i := by simp [opl] at hDl; omega
         go_wp2
         go_roundg (gk - 1)
         case measure => omega
         case rel => exact ⟨i + 1, ov, D, none, by omega, by go_num, rfl, rfl, hO2, hb2, HR2, by omega⟩
      | some f =>
       cases hAA : isIn l q with
       | false =>
        cases hBB : has (s1, s2) q with
        | false =>
         have HC : Hid (chi l (s1, s2) 1 q = false) := by show _ = _; unfold chi; rw [hAA, hBB]; rfl
         have HR2 : Hid (R = (D ++ [(f, q)]) ++ scan (chi l (s1, s2) 1) none (P.drop (i + 1))) := by show _ = _; rw [HR.out, hdr, scan, HC.out]; simp
         clear HC HR hdr hAA hBB
         have hDl2 : D.length ≤ i := by simp [opl] at hDl; omega
         have hset := own_set hO2 q
         obtain ⟨g, cp, hov, hgc, hgf, hset2⟩ := hset
         subst hov
         have hb26 := hset2.2
         have hD1 : IntKind.i64.wrap ((D.length : Int) + 1 - 1) = (D.length : Int) := by rw [Int.add_sub_cancel]; exact IntWalk.i64_in _ (by omega)
         have hD2 : (0 : Int) ≤ (D.length : Int) := by omega
         have hD3 : (D.length : Int) < (D.length : Int) + 1 := by omega
         have hD4 : ((D.length : Int)).toNat = D.length := by omega
         clear hO2
         go_wp2
         go_roundg (gk - 1)
         case measure => omega
         case rel => exact ⟨i + 1, _, D ++ [(f, q)], none, by omega, by go_num, rfl, rfl, by simpa [opl] using hset2.1, hb2.trans hb26, HR2, by simp [opl] at hDl ⊢; omega⟩
        | true =>
         have HC : Hid (chi l (s1, s2) 1 q = false) := by show _ = _; unfold chi; rw [hAA, hBB]; rfl
         have HR2 : Hid (R = (D ++ [(f, q)]) ++ scan (chi l (s1, s2) 1) none (P.drop (i + 1))) := by show _ = _; rw [HR.out, hdr, scan, HC.out]; simp
         clear HC HR hdr hAA hBB
         have hDl2 : D.length ≤ i := by simp [opl] at hDl; omega
         have hset := own_set hO2 q
         obtain ⟨g, cp, hov, hgc, hgf, hset2⟩ := hset
         subst hov
         have hb26 := hset2.2
         have hD1 : IntKind.i64.wrap ((D.length : Int) + 1 - 1) = (D.length : Int) := by rw [Int.add_sub_cancel]; exact IntWalk.i64_in _ (by omega)
         have hD2 : (0 : Int) ≤ (D.length : Int) := by omega
         have hD3 : (D.length : Int) < (D.length : Int) + 1 := by omega
         have hD4 : ((D.length : Int)).toNat = D.length := by omega
         clear hO2
         go_wp2
         go_roundg (gk - 1)
         case measure => omega
         case rel => exact ⟨i + 1, _, D ++ [(f, q)], none, by omega, by go_num, rfl, rfl, by simpa [opl] using hset2.1, hb2.trans hb26, HR2, by simp [opl] at hDl ⊢; omega⟩
       | true =>
        cases hBB : has (s1, s2) q with
        | false =>
         have HC : Hid (chi l (s1, s2) 1 q = true) := by show _ = _; unfold chi; rw [hAA, hBB]; rfl
         have HR2 : Hid (R = D ++ scan (chi l (s1, s2) 1) (some f) (P.drop (i + 1))) := by show _ = _; rw [HR.out, hdr, scan, HC.out]; rfl
         clear HC HR hdr hAA hBB
         have hDl2 : D.length ≤ i := by simp [opl] at hDl; omega
         go_wp2
         go_roundg (gk - 1)
         case measure => omega
         case rel => exact ⟨i + 1, ov, D, some f, by omega, by go_num, rfl, rfl, hO2, hb2, HR2, by omega⟩
        | true =>
         have HC : Hid (chi l (s1, s2) 1 q = false) := by show _ = _; unfold chi; rw [hAA, hBB]; rfl
         have HR2 : Hid (R = (D ++ [(f, q)]) ++ scan (chi l (s1, s2) 1) none (P.drop (i + 1))) := by show _ = _; rw [HR.out, hdr, scan, HC.out]; simp
         clear HC HR hdr hAA hBB
         have hDl2 : D.length ≤ i := by simp [opl] at hDl; omega
         have hset := own_set hO2 q
         obtain ⟨g, cp, hov, hgc, hgf, hset2⟩ := hset
         subst hov
         have hb26 := hset2.2
         have hD1 : IntKind.i64.wrap ((D.length : Int) + 1 - 1) = (D.length : Int) := by rw [Int.add_sub_cancel]; exact IntWalk.i64_in _ (by omega)
         have hD2 : (0 : Int) ≤ (D.length : Int) := by omega
         have hD3 : (D.length : Int) < (D.length : Int) + 1 := by omega
         have hD4 : ((D.length : Int)).toNat = D.length := by omega
         clear hO2
         go_wp2
         go_roundg (gk - 1)
         case measure => omega
         case rel => exact ⟨i + 1, _, D ++ [(f, q)], none, by omega, by go_num, rfl, rfl, by simpa [opl] using hset2.1, hb2.trans hb26, HR2, by simp [opl] at hDl ⊢; omega⟩
     ·cases op with
      | none =>
       cases hAA : isIn l q with
       | false =>
        cases hBB : has (s1, s2) q with
        | false =>
         have HC : Hid (chi l (s1, s2) 2 q = false) := by show _ = _; unfold chi; rw [hAA, hBB]; rfl
         have HR2 : Hid (R = D ++ scan (chi l (s1, s2) 2) none (P.drop (i + 1))) := by show _ = _; rw [HR.out, hdr, scan, HC.out]; rfl
         clear HC HR hdr hAA hBB
         have hDl2 : D.length ≤ i := by simp [opl] at hDl; omega
         go_wp2
         go_roundg (gk - 1)
         case measure => omega
         case rel => exact ⟨i + 1, ov, D, none, by omega, by go_num, rfl, rfl, hO2, hb2, HR2, by omega⟩
        | true =>
         have HC : Hid (chi l (s1, s2) 2 q = false) := by show _ = _; unfold chi; rw [hAA, hBB]; rfl
         have HR2 : Hid (R = D ++ scan (chi l (s1, s2) 2) none (P.drop (i + 1))) := by show _ = _; rw [HR.out, hdr, scan, HC.out]; rfl
         clear HC HR hdr hAA hBB
         have hDl2 : D.length ≤ i := by simp [opl] at hDl; omega
         go_wp2
         go_roundg (gk - 1)
         case measure => omega
         case rel => exact ⟨i + 1, ov, D, none, by omega, by go_num, rfl, rfl, hO2, hb2, HR2, by omega⟩
       | true =>
        cases hBB : has (s1, s2) q with
        | false =>
         have HC : Hid (chi l (s1, s2) 2 q = false) := by show _ = _; unfold chi; rw [hAA, hBB]; rfl
         have HR2 : Hid (R = D ++ scan (chi l (s1, s2) 2) none (P.drop (i + 1))) := by show _ = _; rw [HR.out, hdr, scan, HC.out]; rfl
         clear HC HR hdr hAA hBB
         have hDl2 : D.length ≤ i := by simp [opl] at hDl; omega
         go_wp2
         go_roundg (gk - 1)
         case measure => omega
         case rel => exact ⟨i + 1, ov, D, none, by omega, by go_num, rfl, rfl, hO2, hb2, HR2, by omega⟩
        | true =>
         have HC : Hid (chi l (s1, s2) 2 q = true) := by show _ = _; unfold chi; rw [hAA, hBB]; rfl
         have HR2 : Hid (R = D ++ scan (chi l (s1, s2) 2) (some q) (P.drop (i + 1))) := by show _ = _; rw [HR.out, hdr, scan, HC.out]; rfl
         clear HC HR hdr hAA hBB
         have hDl2 : D.length ≤ i := by simp [opl] at hDl; omega
         have hrunH := push_at (q, []) (w := W2) rfl (bk q) { data := #[] } rfl rfl hO2.1 (by omega)
         go_wp2_with (at_builtin; refine wp_by rfl _ _ _ rfl _ _ rfl rfl hrunH.out ?_)
         intro v6 w6 hp6
         obtain ⟨hO6, hb26⟩ := hO2.push hb2.size hp6
         clear hrunH hp6 hO2
         go_wp2
         go_roundg (gk - 1)
         case measure => omega
         case rel => exact ⟨i + 1, v6, D, some q, by omega, by go_num, rfl, rfl, by simpa [opl] using hO6, hb2.trans hb26, HR2, by simp [opl] at hDl ⊢; omega⟩
      | some f =>
       cases hAA : isIn l q with
       | false =>
        cases hBB : has (s1, s2) q with
        | false =>
         have HC : Hid (chi l (s1, s2) 2 q = false) := by show _ = _; unfold chi; rw [hAA, hBB]; rfl
         have HR2 : Hid (R = (D ++ [(f, q)]) ++ scan (chi l (s1, s2) 2) none (P.drop (i + 1))) := by show _ = _; rw [HR.out, hdr, scan, HC.out]; simp
         clear HC HR hdr hAA hBB
         have hDl2 : D.length ≤ i := by simp [opl] at hDl; omega
         have hset := own_set hO2 q
         obtain ⟨g, cp, hov, hgc, hgf, hset2⟩ := hset
         subst hov
         have hb26 := hset2.2
         have hD1 : IntKind.i64.wrap ((D.length : Int) + 1 - 1) = (D.length : Int) := by rw [Int.add_sub_cancel]; exact IntWalk.i64_in _ (by omega)
         have hD2 : (0 : Int) ≤ (D.length : Int) := by omega
         have hD3 : (D.length : Int) < (D.length : Int) + 1 := by omega
         have hD4 : ((D.length : Int)).toNat = D.length := by omega
         clear hO2
         go_wp2
         go_roundg (gk - 1)
         case measure => omega
         case rel => exact ⟨i + 1, _, D ++ [(f, q)], none, by omega, by go_num, rfl, rfl, by simpa [opl] using hset2.1, hb2.trans hb26, HR2, by simp [opl] at hDl ⊢; omega⟩
        | true =>
         have HC : Hid (chi l (s1, s2) 2 q = false) := by show _ = _; unfold chi; rw [hAA, hBB]; rfl
         have HR2 : Hid (R = (D ++ [(f, q)]) ++ scan (chi l (s1, s2) 2) none (P.drop (i + 1))) := by show _ = _; rw [HR.out, hdr, scan, HC.out]; simp
         clear HC HR hdr hAA hBB
         have hDl2 : D.length ≤ i := by simp [opl] at hDl; omega
         have hset := own_set hO2 q
         obtain ⟨g, cp, hov, hgc, hgf, hset2⟩ := hset
         subst hov
         have hb26 := hset2.2
         have hD1 : IntKind.i64.wrap ((D.length : Int) + 1 - 1) = (D.length : Int) := by rw [Int.add_sub_cancel]; exact IntWalk.i64_in _ (by omega)
         have hD2 : (0 : Int) ≤ (D.length : Int) := by omega
         have hD3 : (D.length : Int) < (D.length : Int) + 1 := by omega
         have hD4 : ((D.length : Int)).toNat = D.length := by omega
         clear hO2
         go_wp2
         go_roundg (gk - 1)
         case measure => omega
         case rel => exact ⟨i + 1, _, D ++ [(f, q)], none, by omega, by go_num, rfl, rfl, by simpa [opl] using hset2.1, hb2.trans hb26, HR2, by simp [opl] at hDl ⊢; omega⟩
       | true =>
        cases hBB : has (s1, s2) q with
        | false =>
         have HC : Hid (chi l (s1, s2) 2 q = false) := by show _ = _; unfold chi; rw [hAA, hBB]; rfl
         have HR2 : Hid (R = (D ++ [(f, q)]) ++ scan (chi l (s1, s2) 2) none (P.drop (i + 1))) := by show _ = _; rw [HR.out, hdr, scan, HC.out]; simp
         clear HC HR hdr hAA hBB
         have hDl2 : D.length ≤ i := by simp [opl] at hDl; omega
         have hset := own_set hO2 q
         obtain ⟨g, cp, hov, hgc, hgf, hset2⟩ := hset
         subst hov
         have hb26 := hset2.2
         have hD1 : IntKind.i64.wrap ((D.length : Int) + 1 - 1) = (D.length : Int) := by rw [Int.add_sub_cancel]; exact IntWalk.i64_in _ (by omega)
         have hD2 : (0 : Int) ≤ (D.length : Int) := by omega
         have hD3 : (D.length : Int) < (D.length : Int) + 1 := by omega
         have hD4 : ((D.length : Int)).toNat = D.length := by omega
         clear hO2
         go_wp2
         go_roundg (gk - 1)
         case measure => omega
         case rel => exact ⟨i + 1, _, D ++ [(f, q)], none, by omega, by go_num, rfl, rfl, by simpa [opl] using hset2.1, hb2.trans hb26, HR2, by simp [opl] at hDl ⊢; omega⟩
        | true =>
         have HC : Hid (chi l (s1, s2) 2 q = true) := by show _ = _; unfold chi; rw [hAA, hBB]; rfl
         have HR2 : Hid (R = D ++ scan (chi l (s1, s2) 2) (some f) (P.drop (i + 1))) := by show _ = _; rw [HR.out, hdr, scan, HC.out]; rfl
         clear HC HR hdr hAA hBB
         have hDl2 : D.length ≤ i := by simp [opl] at hDl; omega
         go_wp2
         go_roundg (gk - 1)
         case measure => omega
         case rel => exact ⟨i + 1, ov, D, some f, by omega, by go_num, rfl, rfl, hO2, hb2, HR2, by omega⟩
    ·have hlti : ¬ (i : Int) < (P.length : Int) := by omega
     have hend : P.drop i = [] := List.drop_eq_nil_of_le (by omega)
     have E : Hid (R = D ++ opl op) := by show _ = _; rw [HR.out, hend]; cases op <;> rfl
     clear HR hend hpcl hbxW hlW
     go_wp2
     go_ret
     rw [E.out]
     exact ⟨_, rfl, hO.1.rd, hwW.trans (hb.mono hwW.size)⟩
 ·obtain ⟨q1, q2, q3⟩ := one_box wd (.cells #[.string (bk s1), .string (bk s2)] 47)
  have hbA : Below (w.heap.size + 1) w0 (wd.alloc (.cells #[.string (bk s1), .string (bk s2)] 47)) := hbd.trans (q3.mono (hNN _ hbd))
  have hsA : (wd.alloc (.cells #[.string (bk s1), .string (bk s2)] 47)).heap.size = wd.heap.size + 1 := q1
  have hrow : Rk spE (wd.alloc (.cells #[.string (bk s1), .string (bk s2)] 47)) 47 (.slice (some ⟨wd.heap.size, 0, none⟩) 1 1) [(s1, s2)] := Rk.made (E := spE) (xs := [(s1, s2)]) q2 rfl (by unfold maxLen; simp)
  clear q1 q2 q3
  intro K' hK'
  go_simp
  refine hK'.out _ _ (.inr hbA) ?_
  clear hK' K'
  try simp only [pa, pb, pc, Act.put, pd, pe, pf]
  generalize wd.alloc (.cells #[.string (bk s1), .string (bk s2)] 47) = W0 at *
  obtain ⟨q1, q2, q3⟩ := one_box W0 (.cells #[] 47)
  have hbase : Rk spE (W0.alloc (.cells #[] 47)) 47 (.slice (some ⟨W0.heap.size, 0, none⟩) 0 0) [] := Rk.made (E := spE) (xs := []) q2 rfl (by unfold maxLen; simp)
  have hSr0 := hrow.same fun k hk => q3.block k (hrow.lt hk)
  have hbB := hbA.trans (q3.mono (hNN _ hbA))
  have hOw0 : ∀ k, (Value.slice (some ⟨wd.heap.size + 1, 0, none⟩) 0 0).ownBlock = some k → w.heap.size + 1 ≤ k := fun k hk => by cases hk; have := hNN _ hbd; show w.heap.size + 1 ≤ wd.heap.size + 1; omega
  rw [hsA] at hbase
  clear q1 q2 q3
  refine wpAnyL_one 0 (by kernel_rfl) rfl (by kernel_rfl) ?_
  intro K' hK'
  go_simp
  refine hK'.out _ _ (.inr hbB) ?_
  clear hK' K'
  try simp only [pa, pb, pc, Act.put, pd, pe, pf]
  generalize W0.alloc (.cells #[] 47) = W1 at *
  have r2 := append_spH hbase (hlR W1 hbB) (by simp) (by omega)
  refine wpAnyL_one 2 (by kernel_rfl) rfl (by kernel_rfl) ?_
  intro K' hK'
  refine op_run r2 _ _ rfl (by rfl) (by rfl) ?_
  intro v4 w4 hp4
  have hS4 := hbB.trans (grown_below hp4.2.1 (hNN _ hbB) hOw0)
  refine hK'.out _ _ (.inr hS4) ?_
  clear hK' K'
  try simp only [pa, pb, pc, Act.put, pd, pe, pf]
  have hOw2 := own_up hp4 (hNN _ hbB) hOw0
  have hR2 := hp4.1
  have hSr := hSr0.same fun k hk => hp4.2.1.block k (hSr0.lt hk) (fun e => by simp only [Value.ownBlock, Option.some.injEq] at hk e; omega)
  clear r2 hp4 hSr0
  have r5 := append_spH hR2 hSr.rd (by simp; omega) (by simp)
  refine wpAnyL_one 5 (by kernel_rfl) rfl (by kernel_rfl) ?_
  intro K' hK'
  refine op_run r5 _ _ rfl (by rfl) (by rfl) ?_
  intro v5 w5 hp5
  have hS5 := hS4.trans (grown_below hp5.2.1 (hNN _ hS4) hOw2)
  refine hK'.out _ _ (.inr hS5) ?_
  clear hK' K'
  try simp only [pa, pb, pc, Act.put, pd, pe, pf]
  have kp := places_of _ v5 w5 hp5.1.rd.sv (by simp; omega)
  rw [List.nil_append] at kp
  clear r5 hR2 hSr
  obtain ⟨a5, c5, hv5, -⟩ : ∃ a5 c5, v5 = .slice a5 (l.length + 1) c5 ∧ True := by
   obtain ⟨a, c, e, _⟩ := hp5.1.shape
   exact ⟨a, c, by rw [e]; simp, trivial⟩
  subst hv5
  clear hp5
  refine wpAnyL_one 6 (by kernel_rfl) rfl (by kernel_rfl) ?_
  intro K' hK'
  go_simp
  go_at_call 86
  refine kp.mono ?_
  rintro e w3 ⟨pv, rfl, hPR, hb3⟩
  have hb6 := hS5.trans (hb3.mono (hNN _ hS5))
  refine hK'.out _ _ (.inr hb6) ?_
  clear hK' K' kp
  try simp only [pa, pb, pc, Act.put, pd, pe, pf]
  refine tkg 7 rfl (by intro w' hS'; obtain ⟨x0, x1⟩ := cl w' hS'; go_simp <;> rfl) hb6 ?_
  try simp only [pa, pb, pc, Act.put, pd, pe, pf]
  refine wpAnyL_done (by kernel_rfl) (NoPanic.normal ?_) _
  have hPl := plc_len (l ++ [(s1, s2)])
  rw [← HP.out] at hPR hPl
  clear hb3 hS5 cl
  obtain ⟨ap, cpp, hpv, -, -, hpc⟩ := id hPR
  obtain ⟨pb, po, rfl, -⟩ : ∃ pb po, ap = some ⟨pb, po, none⟩ ∧ True := by
   obtain ⟨b', o', r, _⟩ := hpc 0 (P[0]'hPl.2) 0 _ (List.getElem?_eq_getElem hPl.2) rfl
   exact ⟨b', o', r, trivial⟩
  subst hpv
  have hpl : P.length ≤ 1000 := by have := hPl.1; simp at this; omega
  have hpcl : ∀ W, Below w3.heap.size w3 W → ∀ i q, P[i]? = some q → W.cell? ⟨pb, po + i, none⟩ = some (.string (bk q)) := fun W hW i q hq => by
   obtain ⟨b', o', r1, r2⟩ := hpc i q 0 _ hq rfl
   cases r1
   have hk1 : strE.k = 1 := rfl
   rw [hk1] at r2
   simp only [Nat.mul_one, Nat.add_zero] at r2
   exact (hW.cell (p := ⟨pb, po + i, none⟩) (World.block_lt_of_cell? w3 _ r2)).trans r2
  have hN3 : w.heap.size + 1 ≤ w3.heap.size := hNN _ hb6
  have hbxW : ∀ W, Below w3.heap.size w3 W → W.cell? ⟨w.heap.size, 0, none⟩ = some (.string (bk s1)) ∧ W.cell? ⟨w.heap.size, 1, none⟩ = some (.string (bk s2)) := fun W hW => cl0.out W (hb6.trans (hW.mono hN3))
  have hlW : ∀ W, Below w3.heap.size w3 W → Sv W (.slice ao l.length cap) l := fun W hW => hSl.below (hb0.trans ((hb6.trans (hW.mono hN3)).mono (Nat.le_succ _)))
  have hwW : Below w.heap.size w w3 := hb0.trans (hb6.mono (Nat.le_succ _))
  obtain ⟨q1, q2, q3⟩ := one_box w3 (.cells #[] 47)
  have hO0 : Own w3.heap.size (w3.alloc (.cells #[] 47)) (.slice (some ⟨w3.heap.size, 0, none⟩) 0 0) ([] ++ opl none) := ⟨Rk.made (E := spE) (xs := []) q2 rfl (by unfold maxLen; simp), fun k hk => by cases hk; exact Nat.le_refl _⟩
  clear q1 q2 hpc hPR hPl HP hb6 hb0 hSl
  go_wp2
  go_loopg [8, 9, 10] P.length (fun g s8 s9 s10 wr => ∃ (i : Nat) (ov : Value) (D : List Sp) (op : Option K), i + g = P.length ∧ s10 = .int .i64 (i : Int) ∧ ov = s8 ∧ s9 = .bool op.isSome ∧ Own w3.heap.size wr ov (D ++ opl op) ∧ Below w3.heap.size w3 wr ∧ Hid (R = D ++ scan (chi l (s1, s2) kind) op (P.drop i)) ∧ (D ++ opl op).length ≤ i)
  case atStart => exact ⟨0, _, [], none, by simp, rfl, rfl, rfl, hO0, q3, HR0, by simp [opl]⟩
  case round =>
   obtain ⟨i, ov, D, op, hig, rfl, rfl, rfl, hO, hb, HR, hDl⟩ := hrel
   clear hO0 q3 HR0
   by_cases hlt : i < P.length
   ·have hlti : (i : Int) < (P.length : Int) := by omega
    have hx : P[i]? = some P[i] := List.getElem?_eq_getElem hlt
    obtain ⟨q, hs⟩ : ∃ s, s = P[i] := ⟨_, rfl⟩
    have hdr : P.drop i = q :: P.drop (i + 1) := by rw [hs]; exact List.drop_eq_getElem_cons hlt
    rw [← hs] at hx
    have clq : ∀ W, Below wr.heap.size wr W → (fun W => (W.cell? ⟨pb, po + i, none⟩ = some (.string (bk q)) ∧ W.cell? ⟨w.heap.size, 0, none⟩ = some (.string (bk s1)) ∧ W.cell? ⟨w.heap.size, 1, none⟩ = some (.string (bk s2))) ∧ Below wr.heap.size wr W) W := fun W hW => by
     have h := hb.trans (hW.mono hb.size)
     exact ⟨⟨hpcl W h i q hx, hbxW W h⟩, hW⟩
    have kin : ∀ W, (fun W => (W.cell? ⟨pb, po + i, none⟩ = some (.string (bk q)) ∧ W.cell? ⟨w.heap.size, 0, none⟩ = some (.string (bk s1)) ∧ W.cell? ⟨w.heap.size, 1, none⟩ = some (.string (bk s2))) ∧ Below wr.heap.size wr W) W → Calls Tryz.prog 84 #[.slice ao l.length cap, .string (bk q)] W fun e w' => e = .returned (.bool (isIn l q)) ∧ (fun W => (W.cell? ⟨pb, po + i, none⟩ = some (.string (bk q)) ∧ W.cell? ⟨w.heap.size, 0, none⟩ = some (.string (bk s1)) ∧ W.cell? ⟨w.heap.size, 1, none⟩ = some (.string (bk s2))) ∧ Below wr.heap.size wr W) w' := fun W hW => by
     refine (refIn_of l _ q W (hlW W (hb.trans (hW.2.mono hb.size))) (by omega)).mono ?_
     rintro e w' ⟨rfl, hb'⟩
     exact ⟨rfl, clq w' (keep_step hW.2 (Nat.le_refl _) hb')⟩
    have khs : ∀ W, (fun W => (W.cell? ⟨pb, po + i, none⟩ = some (.string (bk q)) ∧ W.cell? ⟨w.heap.size, 0, none⟩ = some (.string (bk s1)) ∧ W.cell? ⟨w.heap.size, 1, none⟩ = some (.string (bk s2))) ∧ Below wr.heap.size wr W) W → Calls Tryz.prog 27 #[.agg #[.string (bk s1), .string (bk s2)], .string (bk q)] W fun e w' => e = .returned (.bool (has (s1, s2) q)) ∧ (fun W => (W.cell? ⟨pb, po + i, none⟩ = some (.string (bk q)) ∧ W.cell? ⟨w.heap.size, 0, none⟩ = some (.string (bk s1)) ∧ W.cell? ⟨w.heap.size, 1, none⟩ = some (.string (bk s2))) ∧ Below wr.heap.size wr W) w' := fun W hW => by
     refine (refHas_of (s1, s2) q W).mono ?_
     rintro e w' ⟨rfl, hb'⟩
     exact ⟨rfl, clq w' (keep_step hW.2 (Nat.le_refl _) hb')⟩
    clear hx hs
    go_wp2
    refine wp_region_L (fun W => (W.cell? ⟨pb, po + i, none⟩ = some (.string (bk q)) ∧ W.cell? ⟨w.heap.size, 0, none⟩ = some (.string (bk s1)) ∧ W.cell? ⟨w.heap.size, 1, none⟩ = some (.string (bk s2))) ∧ Below wr.heap.size wr W) [] (by kernel_rfl) ?_
    have yS : (fun W => (W.cell? ⟨pb, po + i, none⟩ = some (.string (bk q)) ∧ W.cell? ⟨w.heap.size, 0, none⟩ = some (.string (bk s1)) ∧ W.cell? ⟨w.heap.size, 1, none⟩ = some (.string (bk s2))) ∧ Below wr.heap.size wr W) wr.drew := clq _ (Below.refl _ wr).drew
    refine tkg 0 rfl (by intro w' hS'; obtain ⟨⟨x0, x1, x2⟩, x3⟩ := hS'; go_simp <;> rfl) yS ?_
    try simp only [pa, pb, pc, Act.put, pd, pe, pf]
    refine tkg 1 rfl (by intro w' hS'; obtain ⟨⟨x0, x1, x2⟩, x3⟩ := hS'; go_simp <;> rfl) yS ?_
    try simp only [pa, pb, pc, Act.put, pd, pe, pf]
    refine tkg 2 rfl (by intro w' hS'; obtain ⟨⟨x0, x1, x2⟩, x3⟩ := hS'; go_simp <;> rfl) yS ?_
    try simp only [pa, pb, pc, Act.put, pd, pe, pf]
    refine tkg 3 rfl (by intro w' hS'; obtain ⟨⟨x0, x1, x2⟩, x3⟩ := hS'; go_simp <;> rfl) yS ?_
    try simp only [pa, pb, pc, Act.put, pd, pe, pf]
    refine tkg 4 rfl (by intro w' hS'; obtain ⟨⟨x0, x1, x2⟩, x3⟩ := hS'; go_simp <;> rfl) yS ?_
    try simp only [pa, pb, pc, Act.put, pd, pe, pf]
    refine tkg 6 rfl (by intro w' hS'; obtain ⟨⟨x0, x1, x2⟩, x3⟩ := hS'; go_simp <;> rfl) yS ?_
    try simp only [pa, pb, pc, Act.put, pd, pe, pf]
    refine tkg 7 rfl (by intro w' hS'; obtain ⟨⟨x0, x1, x2⟩, x3⟩ := hS'; go_simp <;> rfl) yS ?_
    try simp only [pa, pb, pc, Act.put, pd, pe, pf]
    refine tkg 8 rfl (by intro w' hS'; obtain ⟨⟨x0, x1, x2⟩, x3⟩ := hS'; go_simp <;> rfl) yS ?_
    try simp only [pa, pb, pc, Act.put, pd, pe, pf]
    refine tkg 9 rfl (by intro w' hS'; obtain ⟨⟨x0, x1, x2⟩, x3⟩ := hS'; go_simp <;> rfl) yS ?_
    try simp only [pa, pb, pc, Act.put, pd, pe, pf]
    refine tkg 10 rfl (by intro w' hS'; obtain ⟨⟨x0, x1, x2⟩, x3⟩ := hS'; go_simp <;> rfl) yS ?_
    try simp only [pa, pb, pc, Act.put, pd, pe, pf]
    refine wpAnyL_one 5 (by kernel_rfl) rfl (by kernel_rfl) ?_
    intro K' hK'
    go_simp
    go_at_call 84
    refine (kin _ yS).mono ?_
    rintro e W1 ⟨rfl, hS1⟩
    refine hK'.out _ _ (.inr hS1) ?_
    clear hK' K'
    try simp only [pa, pb, pc, Act.put, pd, pe, pf]
    refine wpAnyL_one 11 (by kernel_rfl) rfl (by kernel_rfl) ?_
    intro K' hK'
    go_simp
    go_at_call 27
    refine (khs _ hS1).mono ?_
    rintro e W2 ⟨rfl, hS2⟩
    refine hK'.out _ _ (.inr hS2) ?_
    clear hK' K'
    try simp only [pa, pb, pc, Act.put, pd, pe, pf]
    refine tkg 12 rfl (by intro w' hS'; obtain ⟨⟨x0, x1, x2⟩, x3⟩ := hS'; go_simp <;> rfl) hS2 ?_
    try simp only [pa, pb, pc, Act.put, pd, pe, pf]
    refine tkg 13 rfl (by intro w' hS'; obtain ⟨⟨x0, x1, x2⟩, x3⟩ := hS'; go_simp <;> rfl) hS2 ?_
    try simp only [pa, pb, pc, Act.put, pd, pe, pf]
    refine wpAnyL_done (by kernel_rfl) (NoPanic.normal ?_) _
    have hO2 := hO.below hS2.2
    have hb2 := hb.trans (hS2.2.mono hb.size)
    obtain ⟨⟨y0, -, -⟩, -⟩ := hS2
    clear hS1 kin khs clq hO hpcl hbxW hlW
    rcases hk with rfl | rfl | rfl
    ·cases op with
     | none =>
      cases hAA : isIn l q with
      | false =>
       cases hBB : has (s1, s2) q with
       | false =>
        have HC : Hid (chi l (s1, s2) 0 q = false) := by show _ = _; unfold chi; rw [hAA, hBB]; rfl
        have HR2 : Hid (R = D ++ scan (chi l (s1, s2) 0) none (P.drop (i + 1))) := by show _ = _; rw [HR.out, hdr, scan, HC.out]; rfl
        clear HC HR hdr hAA hBB
        have hDl2 : D.length ≤ i := by simp [opl] at hDl; omega
        go_wp2
        go_roundg (gk - 1)
        case measure => omega
        case rel => exact ⟨i + 1, ov, D, none, by omega, by go_num, rfl, rfl, hO2, hb2, HR2, by omega⟩
       | true =>
        have HC : Hid (chi l (s1, s2) 0 q = true) := by show _ = _; unfold chi; rw [hAA, hBB]; rfl
        have HR2 : Hid (R = D ++ scan (chi l (s1, s2) 0) (some q) (P.drop (i + 1))) := by show _ = _; rw [HR.out, hdr, scan, HC.out]; rfl
        clear HC HR hdr hAA hBB
        have hDl2 : D.length ≤ i := by simp [opl] at hDl; omega
        have hrunH := push_at (q, []) (w := W2) rfl (bk q) { data := #[] } rfl rfl hO2.1 (by omega)
        go_wp2_with (at_builtin; refine wp_by rfl _ _ _ rfl _ _ rfl rfl hrunH.out ?_)
        intro v6 w6 hp6
        obtain ⟨hO6, hb26⟩ := hO2.push hb2.size hp6
        clear hrunH hp6 hO2
        go_wp2
        go_roundg (gk - 1)
        case measure => omega
        case rel => exact ⟨i + 1, v6, D, some q, by omega, by go_num, rfl, rfl, by simpa [opl] using hO6, hb2.trans hb26, HR2, by simp [opl] at hDl ⊢; omega⟩
      | true =>
       cases hBB : has (s1, s2) q with
       | false =>
        have HC : Hid (chi l (s1, s2) 0 q = true) := by show _ = _; unfold chi; rw [hAA, hBB]; rfl
        have HR2 : Hid (R = D ++ scan (chi l (s1, s2) 0) (some q) (P.drop (i + 1))) := by show _ = _; rw [HR.out, hdr, scan, HC.out]; rfl
        clear HC HR hdr hAA hBB
        have hDl2 : D.length ≤ i := by simp [opl] at hDl; omega
        have hrunH := push_at (q, []) (w := W2) rfl (bk q) { data := #[] } rfl rfl hO2.1 (by omega)
        go_wp2_with (at_builtin; refine wp_by rfl _ _ _ rfl _ _ rfl rfl hrunH.out ?_)
        intro v6 w6 hp6
        obtain ⟨hO6, hb26⟩ := hO2.push hb2.size hp6
        clear hrunH hp6 hO2
        go_wp2
        go_roundg (gk - 1)
        case measure => omega
        case rel => exact ⟨i + 1, v6, D, some q, by omega, by go_num, rfl, rfl, by simpa [opl] using hO6, hb2.trans hb26, HR2, by simp [opl] at hDl ⊢; omega⟩
       | true =>
        have HC : Hid (chi l (s1, s2) 0 q = true) := by show _ = _; unfold chi; rw [hAA, hBB]; rfl
        have HR2 : Hid (R = D ++ scan (chi l (s1, s2) 0) (some q) (P.drop (i + 1))) := by show _ = _; rw [HR.out, hdr, scan, HC.out]; rfl
        clear HC HR hdr hAA hBB
        have hDl2 : D.length ≤ i := by simp [opl] at hDl; omega
        have hrunH := push_at (q, []) (w := W2) rfl (bk q) { data := #[] } rfl rfl hO2.1 (by omega)
        go_wp2_with (at_builtin; refine wp_by rfl _ _ _ rfl _ _ rfl rfl hrunH.out ?_)
        intro v6 w6 hp6
        obtain ⟨hO6, hb26⟩ := hO2.push hb2.size hp6
        clear hrunH hp6 hO2
        go_wp2
        go_roundg (gk - 1)
        case measure => omega
        case rel => exact ⟨i + 1, v6, D, some q, by omega, by go_num, rfl, rfl, by simpa [opl] using hO6, hb2.trans hb26, HR2, by simp [opl] at hDl ⊢; omega⟩
     | some f =>
      cases hAA : isIn l q with
      | false =>
       cases hBB : has (s1, s2) q with
       | false =>
        have HC : Hid (chi l (s1, s2) 0 q = false) := by show _ = _; unfold chi; rw [hAA, hBB]; rfl
        have HR2 : Hid (R = (D ++ [(f, q)]) ++ scan (chi l (s1, s2) 0) none (P.drop (i + 1))) := by show _ = _; rw [HR.out, hdr, scan, HC.out]; simp
        clear HC HR hdr hAA hBB
        have hDl2 : D.length ≤ i := by simp [opl] at hDl; omega
        have hset := own_set hO2 q
        obtain ⟨g, cp, hov, hgc, hgf, hset2⟩ := hset
        subst hov
        have hb26 := hset2.2
        have hD1 : IntKind.i64.wrap ((D.length : Int) + 1 - 1) = (D.length : Int) := by rw [Int.add_sub_cancel]; exact IntWalk.i64_in _ (by omega)
        have hD2 : (0 : Int) ≤ (D.length : Int) := by omega
        have hD3 : (D.length : Int) < (D.length : Int) + 1 := by omega
        have hD4 : ((D.length : Int)).toNat = D.length := by omega
        clear hO2
        go_wp2
        go_roundg (gk - 1)
        case measure => omega
        case rel => exact ⟨i + 1, _, D ++ [(f, q)], none, by omega, by go_num, rfl, rfl, by simpa [opl] using hset2.1, hb2.trans hb26, HR2, by simp [opl] at hDl ⊢; omega⟩
       | true =>
        have HC : Hid (chi l (s1, s2) 0 q = true) := by show _ = _; unfold chi; rw [hAA, hBB]; rfl
        have HR2 : Hid (R = D ++ scan (chi l (s1, s2) 0) (some f) (P.drop (i + 1))) := by show _ = _; rw [HR.out, hdr, scan, HC.out]; rfl
        clear HC HR hdr hAA hBB
        have hDl2 : D.length ≤ i := by simp [opl] at hDl; omega
        go_wp2
        go_roundg (gk - 1)
        case measure => omega
        case rel => exact ⟨i + 1, ov, D, some f, by omega, by go_num, rfl, rfl, hO2, hb2, HR2, by omega⟩
      | true =>
       cases hBB : has (s1, s2) q with
       | false =>
        have HC : Hid (chi l (s1, s2) 0 q = true) := by show _ = _; unfold chi; rw [hAA, hBB]; rfl
        have HR2 : Hid (R = D ++ scan (chi l (s1, s2) 0) (some f) (P.drop (i + 1))) := by show _ = _; rw [HR.out, hdr, scan, HC.out]; rfl
        clear HC HR hdr hAA hBB
        have hDl2 : D.length ≤ i := by simp [opl] at hDl; omega
        go_wp2
        go_roundg (gk - 1)
        case measure => omega
        case rel => exact ⟨i + 1, ov, D, some f, by omega, by go_num, rfl, rfl, hO2, hb2, HR2, by omega⟩
       | true =>
        have HC : Hid (chi l (s1, s2) 0 q = true) := by show _ = _; unfold chi; rw [hAA, hBB]; rfl
        have HR2 : Hid (R = D ++ scan (chi l (s1, s2) 0) (some f) (P.drop (i + 1))) := by show _ = _; rw [HR.out, hdr, scan, HC.out]; rfl
        clear HC HR hdr hAA hBB
        have hDl2 : D.length ≤ i := by simp [opl] at hDl; omega
        go_wp2
        go_roundg (gk - 1)
        case measure => omega
        case rel => exact ⟨i + 1, ov, D, some f, by omega, by go_num, rfl, rfl, hO2, hb2, HR2, by omega⟩
    ·cases op with
     | none =>
      cases hAA : isIn l q with
      | false =>
       cases hBB : has (s1, s2) q with
       | false =>
        have HC : Hid (chi l (s1, s2) 1 q = false) := by show _ = _; unfold chi; rw [hAA, hBB]; rfl
        have HR2 : Hid (R = D ++ scan (chi l (s1, s2) 1) none (P.drop (i + 1))) := by show _ = _; rw [HR.out, hdr, scan, HC.out]; rfl
        clear HC HR hdr hAA hBB
        have hDl2 : D.length ≤ i := by simp [opl] at hDl; omega
        go_wp2
        go_roundg (gk - 1)
        case measure => omega
        case rel => exact ⟨i + 1, ov, D, none, by omega, by go_num, rfl, rfl, hO2, hb2, HR2, by omega⟩
       | true =>
        have HC : Hid (chi l (s1, s2) 1 q = false) := by show _ = _; unfold chi; rw [hAA, hBB]; rfl
        have HR2 : Hid (R = D ++ scan (chi l (s1, s2) 1) none (P.drop (i + 1))) := by show _ = _; rw [HR.out, hdr, scan, HC.out]; rfl
        clear HC HR hdr hAA hBB
        have hDl2 : D.length ≤ i := by simp [opl] at hDl; omega
        go_wp2
        go_roundg (gk - 1)
        case measure => omega
        case rel => exact ⟨i + 1, ov, D, none, by omega, by go_num, rfl, rfl, hO2, hb2, HR2, by omega⟩
      | true =>
       cases hBB : has (s1, s2) q with
       | false =>
        have HC : Hid (chi l (s1, s2) 1 q = true) := by show _ = _; unfold chi; rw [hAA, hBB]; rfl
        have HR2 : Hid (R = D ++ scan (chi l (s1, s2) 1) (some q) (P.drop (i + 1))) := by show _ = _; rw [HR.out, hdr, scan, HC.out]; rfl
        clear HC HR hdr hAA hBB
        have hDl2 : D.length ≤ i := by simp [opl] at hDl; omega
        have hrunH := push_at (q, []) (w := W2) rfl (bk q) { data := #[] } rfl rfl hO2.1 (by omega)
        go_wp2_with (at_builtin; refine wp_by rfl _ _ _ rfl _ _ rfl rfl hrunH.out ?_)
        intro v6 w6 hp6
        obtain ⟨hO6, hb26⟩ := hO2.push hb2.size hp6
        clear hrunH hp6 hO2
        go_wp2
        go_roundg (gk - 1)
        case measure => omega
        case rel => exact ⟨i + 1, v6, D, some q, by omega, by go_num, rfl, rfl, by simpa [opl] using hO6, hb2.trans hb26, HR2, by simp [opl] at hDl ⊢; omega⟩
       | true =>
        have HC : Hid (chi l (s1, s2) 1 q = false) := by show _ = _; unfold chi; rw [hAA, hBB]; rfl
        have HR2 : Hid (R = D ++ scan (chi l (s1, s2) 1) none (P.drop (i + 1))) := by show _ = _; rw [HR.out, hdr, scan, HC.out]; rfl
        clear HC HR hdr hAA hBB
        have hDl2 : D.length ≤ i := by simp [opl] at hDl; omega
        go_wp2
        go_roundg (gk - 1)
        case measure => omega
        case rel => exact ⟨i + 1, ov, D, none, by omega, by go_num, rfl, rfl, hO2, hb2, HR2, by omega⟩
     | some f =>
      cases hAA : isIn l q with
      | false =>
       cases hBB : has (s1, s2) q with
       | false =>
        have HC : Hid (chi l (s1, s2) 1 q = false) := by show _ = _; unfold chi; rw [hAA, hBB]; rfl
        have HR2 : Hid (R = (D ++ [(f, q)]) ++ scan (chi l (s1, s2) 1) none (P.drop (i + 1))) := by show _ = _; rw [HR.out, hdr, scan, HC.out]; simp
        clear HC HR hdr hAA hBB
        have hDl2 : D.length ≤ i := by simp [opl] at hDl; omega
        have hset := own_set hO2 q
        obtain ⟨g, cp, hov, hgc, hgf, hset2⟩ := hset
        subst hov
        have hb26 := hset2.2
        have hD1 : IntKind.i64.wrap ((D.length : Int) + 1 - 1) = (D.length : Int) := by rw [Int.add_sub_cancel]; exact IntWalk.i64_in _ (by omega)
        have hD2 : (0 : Int) ≤ (D.length : Int) := by omega
        have hD3 : (D.length : Int) < (D.length : Int) + 1 := by omega
        have hD4 : ((D.length : Int)).toNat = D.length := by omega
        clear hO2
        go_wp2
        go_roundg (gk - 1)
        case measure => omega
        case rel => exact ⟨i + 1, _, D ++ [(f, q)], none, by omega, by go_num, rfl, rfl, by simpa [opl] using hset2.1, hb2.trans hb26, HR2, by simp [opl] at hDl ⊢; omega⟩
       | true =>
        have HC : Hid (chi l (s1, s2) 1 q = false) := by show _ = _; unfold chi; rw [hAA, hBB]; rfl
        have HR2 : Hid (R = (D ++ [(f, q)]) ++ scan (chi l (s1, s2) 1) none (P.drop (i + 1))) := by show _ = _; rw [HR.out, hdr, scan, HC.out]; simp
        clear HC HR hdr hAA hBB
        have hDl2 : D.length ≤ i := by simp [opl] at hDl; omega
        have hset := own_set hO2 q
        obtain ⟨g, cp, hov, hgc, hgf, hset2⟩ := hset
        subst hov
        have hb26 := hset2.2
        have hD1 : IntKind.i64.wrap ((D.length : Int) + 1 - 1) = (D.length : Int) := by rw [Int.add_sub_cancel]; exact IntWalk.i64_in _ (by omega)
        have hD2 : (0 : Int) ≤ (D.length : Int) := by omega
        have hD3 : (D.length : Int) < (D.length : Int) + 1 := by omega
        have hD4 : ((D.length : Int)).toNat = D.length := by omega
        clear hO2
        go_wp2
        go_roundg (gk - 1)
        case measure => omega
        case rel => exact ⟨i + 1, _, D ++ [(f, q)], none, by omega, by go_num, rfl, rfl, by simpa [opl] using hset2.1, hb2.trans hb26, HR2, by simp [opl] at hDl ⊢; omega⟩
      | true =>
       cases hBB : has (s1, s2) q with
       | false =>
        have HC : Hid (chi l (s1, s2) 1 q = true) := by show _ = _; unfold chi; rw [hAA, hBB]; rfl
        have HR2 : Hid (R = D ++ scan (chi l (s1, s2) 1) (some f) (P.drop (i + 1))) := by show _ = _; rw [HR.out, hdr, scan, HC.out]; rfl
        clear HC HR hdr hAA hBB
        have hDl2 : D.length ≤ i := by simp [opl] at hDl; omega
        go_wp2
        go_roundg (gk - 1)
        case measure => omega
        case rel => exact ⟨i + 1, ov, D, some f, by omega, by go_num, rfl, rfl, hO2, hb2, HR2, by omega⟩
       | true =>
        have HC : Hid (chi l (s1, s2) 1 q = false) := by show _ = _; unfold chi; rw [hAA, hBB]; rfl
        have HR2 : Hid (R = (D ++ [(f, q)]) ++ scan (chi l (s1, s2) 1) none (P.drop (i + 1))) := by show _ = _; rw [HR.out, hdr, scan, HC.out]; simp
        clear HC HR hdr hAA hBB
        have hDl2 : D.length ≤ i := by simp [opl] at hDl; omega
        have hset := own_set hO2 q
        obtain ⟨g, cp, hov, hgc, hgf, hset2⟩ := hset
        subst hov
        have hb26 := hset2.2
        have hD1 : IntKind.i64.wrap ((D.length : Int) + 1 - 1) = (D.length : Int) := by rw [Int.add_sub_cancel]; exact IntWalk.i64_in _ (by omega)
        have hD2 : (0 : Int) ≤ (D.length : Int) := by omega
        have hD3 : (D.length : Int) < (D.length : Int) + 1 := by omega
        have hD4 : ((D.length : Int)).toNat = D.length := by omega
        clear hO2
        go_wp2
        go_roundg (gk - 1)
        case measure => omega
        case rel => exact ⟨i + 1, _, D ++ [(f, q)], none, by omega, by go_num, rfl, rfl, by simpa [opl] using hset2.1, hb2.trans hb26, HR2, by simp [opl] at hDl ⊢; omega⟩
    ·cases op with
     | none =>
      cases hAA : isIn l q with
      | false =>
       cases hBB : has (s1, s2) q with
       | false =>
        have HC : Hid (chi l (s1, s2) 2 q = false) := by show _ = _; unfold chi; rw [hAA, hBB]; rfl
        have HR2 : Hid (R = D ++ scan (chi l (s1, s2) 2) none (P.drop (i + 1))) := by show _ = _; rw [HR.out, hdr, scan, HC.out]; rfl
        clear HC HR hdr hAA hBB
        have hDl2 : D.length ≤ i := by simp [opl] at hDl; omega
        go_wp2
        go_roundg (gk - 1)
        case measure => omega
        case rel => exact ⟨i + 1, ov, D, none, by omega, by go_num, rfl, rfl, hO2, hb2, HR2, by omega⟩
       | true =>
        have HC : Hid (chi l (s1, s2) 2 q = false) := by show _ = _; unfold chi; rw [hAA, hBB]; rfl
        have HR2 : Hid (R = D ++ scan (chi l (s1, s2) 2) none (P.drop (i + 1))) := by show _ = _; rw [HR.out, hdr, scan, HC.out]; rfl
        clear HC HR hdr hAA hBB
        have hDl2 : D.length ≤ i := by simp [opl] at hDl; omega
        go_wp2
        go_roundg (gk - 1)
        case measure => omega
        case rel => exact ⟨i + 1, ov, D, none, by omega, by go_num, rfl, rfl, hO2, hb2, HR2, by omega⟩
      | true =>
       cases hBB : has (s1, s2) q with
       | false =>
        have HC : Hid (chi l (s1, s2) 2 q = false) := by show _ = _; unfold chi; rw [hAA, hBB]; rfl
        have HR2 : Hid (R = D ++ scan (chi l (s1, s2) 2) none (P.drop (i + 1))) := by show _ = _; rw [HR.out, hdr, scan, HC.out]; rfl
        clear HC HR hdr hAA hBB
        have hDl2 : D.length ≤ i := by simp [opl] at hDl; omega
        go_wp2
        go_roundg (gk - 1)
        case measure => omega
        case rel => exact ⟨i + 1, ov, D, none, by omega, by go_num, rfl, rfl, hO2, hb2, HR2, by omega⟩
       | true =>
        have HC : Hid (chi l (s1, s2) 2 q = true) := by show _ = _; unfold chi; rw [hAA, hBB]; rfl
        have HR2 : Hid (R = D ++ scan (chi l (s1, s2) 2) (some q) (P.drop (i + 1))) := by show _ = _; rw [HR.out, hdr, scan, HC.out]; rfl
        clear HC HR hdr hAA hBB
        have hDl2 : D.length ≤ i := by simp [opl] at hDl; omega
        have hrunH := push_at (q, []) (w := W2) rfl (bk q) { data := #[] } rfl rfl hO2.1 (by omega)
        go_wp2_with (at_builtin; refine wp_by rfl _ _ _ rfl _ _ rfl rfl hrunH.out ?_)
        intro v6 w6 hp6
        obtain ⟨hO6, hb26⟩ := hO2.push hb2.size hp6
        clear hrunH hp6 hO2
        go_wp2
        go_roundg (gk - 1)
        case measure => omega
        case rel => exact ⟨i + 1, v6, D, some q, by omega, by go_num, rfl, rfl, by simpa [opl] using hO6, hb2.trans hb26, HR2, by simp [opl] at hDl ⊢; omega⟩
     | some f =>
      cases hAA : isIn l q with
      | false =>
       cases hBB : has (s1, s2) q with
       | false =>
        have HC : Hid (chi l (s1, s2) 2 q = false) := by show _ = _; unfold chi; rw [hAA, hBB]; rfl
        have HR2 : Hid (R = (D ++ [(f, q)]) ++ scan (chi l (s1, s2) 2) none (P.drop (i + 1))) := by show _ = _; rw [HR.out, hdr, scan, HC.out]; simp
        clear HC HR hdr hAA hBB
        have hDl2 : D.length ≤ i := by simp [opl] at hDl; omega
        have hset := own_set hO2 q
        obtain ⟨g, cp, hov, hgc, hgf, hset2⟩ := hset
        subst hov
        have hb26 := hset2.2
        have hD1 : IntKind.i64.wrap ((D.length : Int) + 1 - 1) = (D.length : Int) := by rw [Int.add_sub_cancel]; exact IntWalk.i64_in _ (by omega)
        have hD2 : (0 : Int) ≤ (D.length : Int) := by omega
        have hD3 : (D.length : Int) < (D.length : Int) + 1 := by omega
        have hD4 : ((D.length : Int)).toNat = D.length := by omega
        clear hO2
        go_wp2
        go_roundg (gk - 1)
        case measure => omega
        case rel => exact ⟨i + 1, _, D ++ [(f, q)], none, by omega, by go_num, rfl, rfl, by simpa [opl] using hset2.1, hb2.trans hb26, HR2, by simp [opl] at hDl ⊢; omega⟩
       | true =>
        have HC : Hid (chi l (s1, s2) 2 q = false) := by show _ = _; unfold chi; rw [hAA, hBB]; rfl
        have HR2 : Hid (R = (D ++ [(f, q)]) ++ scan (chi l (s1, s2) 2) none (P.drop (i + 1))) := by show _ = _; rw [HR.out, hdr, scan, HC.out]; simp
        clear HC HR hdr hAA hBB
        have hDl2 : D.length ≤ i := by simp [opl] at hDl; omega
        have hset := own_set hO2 q
        obtain ⟨g, cp, hov, hgc, hgf, hset2⟩ := hset
        subst hov
        have hb26 := hset2.2
        have hD1 : IntKind.i64.wrap ((D.length : Int) + 1 - 1) = (D.length : Int) := by rw [Int.add_sub_cancel]; exact IntWalk.i64_in _ (by omega)
        have hD2 : (0 : Int) ≤ (D.length : Int) := by omega
        have hD3 : (D.length : Int) < (D.length : Int) + 1 := by omega
        have hD4 : ((D.length : Int)).toNat = D.length := by omega
        clear hO2
        go_wp2
        go_roundg (gk - 1)
        case measure => omega
        case rel => exact ⟨i + 1, _, D ++ [(f, q)], none, by omega, by go_num, rfl, rfl, by simpa [opl] using hset2.1, hb2.trans hb26, HR2, by simp [opl] at hDl ⊢; omega⟩
      | true =>
       cases hBB : has (s1, s2) q with
       | false =>
        have HC : Hid (chi l (s1, s2) 2 q = false) := by show _ = _; unfold chi; rw [hAA, hBB]; rfl
        have HR2 : Hid (R = (D ++ [(f, q)]) ++ scan (chi l (s1, s2) 2) none (P.drop (i + 1))) := by show _ = _; rw [HR.out, hdr, scan, HC.out]; simp
        clear HC HR hdr hAA hBB
        have hDl2 : D.length ≤ i := by simp [opl] at hDl; omega
        have hset := own_set hO2 q
        obtain ⟨g, cp, hov, hgc, hgf, hset2⟩ := hset
        subst hov
        have hb26 := hset2.2
        have hD1 : IntKind.i64.wrap ((D.length : Int) + 1 - 1) = (D.length : Int) := by rw [Int.add_sub_cancel]; exact IntWalk.i64_in _ (by omega)
        have hD2 : (0 : Int) ≤ (D.length : Int) := by omega
        have hD3 : (D.length : Int) < (D.length : Int) + 1 := by omega
        have hD4 : ((D.length : Int)).toNat = D.length := by omega
        clear hO2
        go_wp2
        go_roundg (gk - 1)
        case measure => omega
        case rel => exact ⟨i + 1, _, D ++ [(f, q)], none, by omega, by go_num, rfl, rfl, by simpa [opl] using hset2.1, hb2.trans hb26, HR2, by simp [opl] at hDl ⊢; omega⟩
       | true =>
        have HC : Hid (chi l (s1, s2) 2 q = true) := by show _ = _; unfold chi; rw [hAA, hBB]; rfl
        have HR2 : Hid (R = D ++ scan (chi l (s1, s2) 2) (some f) (P.drop (i + 1))) := by show _ = _; rw [HR.out, hdr, scan, HC.out]; rfl
        clear HC HR hdr hAA hBB
        have hDl2 : D.length ≤ i := by simp [opl] at hDl; omega
        go_wp2
        go_roundg (gk - 1)
        case measure => omega
        case rel => exact ⟨i + 1, ov, D, some f, by omega, by go_num, rfl, rfl, hO2, hb2, HR2, by omega⟩
   ·have hlti : ¬ (i : Int) < (P.length : Int) := by omega
    have hend : P.drop i = [] := List.drop_eq_nil_of_le (by omega)
    have E : Hid (R = D ++ opl op) := by show _ = _; rw [HR.out, hend]; cases op <;> rfl
    clear HR hend hpcl hbxW hlW
    go_wp2
    go_ret
    rw [E.out]
    exact ⟨_, rfl, hO.1.rd, hwW.trans (hb.mono hwW.size)⟩
end Go.Proofs.YtfpbgfmnjpamlaaGreat

/- The law's own covers: what is left of a span without a list's keys. -/
namespace Go.Proofs.YtfpbgfmnjpamlaaGreat
open Go.RowKit SpanMath
set_option maxRecDepth 100000
set_option linter.unusedSimpArgs false
set_option linter.unusedVariables false

theorem fm_one {x : Sp} (h : Ok x) : Fm [x] := ⟨by simp, by simpa using h⟩
theorem piece_one {x y : Sp} (hx : Ok x) (hy : Ok y) : piece [x] y 1 = lessOne y x := by
 rw [piece_less (fm_one hx) hy]
 simp [lessM]
theorem left_step {L : List Sp} {y : Sp} (hL : ∀ x ∈ L, Ok x) (hy : Ok y) : (L.flatMap fun x => piece [x] y 1) = lessM L y := by
 unfold lessM
 induction L with
 | nil => rfl
 | cons x L ih =>
  rw [List.flatMap_cons, List.flatMap_cons, piece_one (hL x List.mem_cons_self) hy, ih fun z hz => hL z (List.mem_cons_of_mem _ hz)]
theorem less_above {y z : Sp} (h : y.1 ≤ z.1) : (lessOne y z).length ≤ 1 := by
 have hm : y.1 ≠ [] → meet z ([], y.1) = none := by
  intro hne
  unfold meet
  rw [if_neg]
  unfold blw meetS soon kmax kmin
  have h1 := nil_le z.1
  have h2 := nil_le y.1
  simp only [decide_eq_true_eq]
  grind
 unfold lessOne outs
 rw [List.filterMap_append, List.length_append]
 have h1 : ((if y.1 = [] then ([] : List Sp) else [([], y.1)]).filterMap fun o => meet z o).length = 0 := by
  split
  ·rfl
  ·rename_i hne
   simp [hm hne]
 have h2 : ((if y.2 = [] then ([] : List Sp) else [(y.2, [])]).filterMap fun o => meet z o).length ≤ 1 := by
  refine Nat.le_trans (List.length_filterMap_le _ _) ?_
  split <;> simp
 omega
theorem less_few {y : Sp} (hy : Ok y) : ∀ {L : List Sp}, Fm L → (lessM L y).length ≤ L.length + 1
 | [], _ => by simp [lessM]
 | x :: L, hL => by
  have hLp := List.pairwise_cons.1 hL.1
  have hL' : Fm L := ⟨hLp.2, fun s hs => hL.2 s (List.mem_cons_of_mem _ hs)⟩
  have ih := less_few hy hL'
  have ox := hL.2 x List.mem_cons_self
  have all1 : (∀ z ∈ L, y.1 ≤ z.1) → (lessM L y).length ≤ L.length := by
   intro h
   clear ih hL hLp hL'
   induction L with
   | nil => simp [lessM]
   | cons z L ih =>
    have h1 := less_above (h z List.mem_cons_self)
    have h2 := ih fun u hu => h u (List.mem_cons_of_mem _ hu)
    unfold lessM at *
    rw [List.flatMap_cons, List.length_append, List.length_cons]
    omega
  have e : (lessM (x :: L) y).length = (lessOne y x).length + (lessM L y).length := by simp [lessM]
  rw [e, List.length_cons]
  by_cases h1 : (lessOne y x).length ≤ 1
  ·omega
  ·have h2 := lessOne_len y x
   have h3 : ∀ z ∈ L, y.1 ≤ z.1 := by
    intro z hz
    have hz1 := hLp.1 z hz
    rw [apt_iff] at hz1
    -- two parts: one lies behind y
    have hsome : ∃ m, meet x (y.2, []) = some m ∧ y.2 ≠ [] := by
     by_cases hy2 : y.2 = []
     ·exfalso
      apply h1
      unfold lessOne outs
      rw [if_pos hy2, List.append_nil]
      refine Nat.le_trans (List.length_filterMap_le _ _) ?_
      split <;> simp
     ·cases hmm : meet x (y.2, []) with
      | some m => exact ⟨m, rfl, hy2⟩
      | none =>
       exfalso
       apply h1
       unfold lessOne outs
       rw [if_neg hy2, List.filterMap_append, List.length_append]
       have h5 : ([((y.2, []) : Sp)].filterMap fun o => meet x o).length = 0 := by simp [hmm]
       have h6 : ((if y.1 = [] then ([] : List Sp) else [([], y.1)]).filterMap fun o => meet x o).length ≤ 1 := by
        refine Nat.le_trans (List.length_filterMap_le _ _) ?_
        split <;> simp
       omega
    obtain ⟨m, hm, hy2⟩ := hsome
    have w1 := meet_within hm
    have w2 := meet_within2 hm
    obtain ⟨om, _⟩ := meet_ok hm
    unfold Ok at om hy ox
    simp only at w1 w2
    grind
   have := all1 h3
   omega
/-- What is left, span by span. -/
theorem left_take {l : List Sp} {s y : Sp} {i : Nat} (h : l[i]? = some y) : SpanMath.leftOf (l.take (i + 1)) [s] = (SpanMath.leftOf (l.take i) [s]).flatMap fun x => piece [x] y 1 := by
 rw [take_succ_get h]
 simp [SpanMath.leftOf, List.foldl_append]
theorem left_few {l : List Sp} {s : Sp} (hl : ∀ x ∈ l, Ok x) (hs : Ok s) : ∀ i, i ≤ l.length → Fm (SpanMath.leftOf (l.take i) [s]) ∧ (SpanMath.leftOf (l.take i) [s]).length ≤ i + 1
 | 0, _ => by
  rw [List.take_zero]
  exact ⟨fm_one hs, by simp [SpanMath.leftOf]⟩
 | i + 1, h => by
  obtain ⟨h1, h2⟩ := left_few hl hs i (by omega)
  have hy : l[i]? = some l[i] := List.getElem?_eq_getElem (by omega)
  have oy := hl l[i] (List.mem_of_getElem? hy)
  rw [left_take hy, left_step h1.2 oy]
  have := less_few oy h1
  exact ⟨less_form h1 oy, by omega⟩

/-- What stands between two rounds of the inner loop: what is left, what is left next. -/
structure CSt (w W : World) (lf nx : Value) (LL NN : List Sp) : Prop where
 base : Below w.heap.size w W
 rl : Rk spE W 47 lf LL
 rn : Rk spE W 47 nx NN
 off : ∀ k, nx.ownBlock = some k → w.heap.size ≤ k ∧ lf.ownBlock ≠ some k
 offL : ∀ k, lf.ownBlock = some k → w.heap.size ≤ k
theorem CSt.below {w W W' : World} {lf nx : Value} {LL NN : List Sp} (h : CSt w W lf nx LL NN) (hb : Below W.heap.size W W') : CSt w W' lf nx LL NN :=
 ⟨h.base.trans (hb.mono h.base.size), h.rl.same fun k hk => hb.block k (h.rl.lt hk), h.rn.same fun k hk => hb.block k (h.rn.lt hk), h.off, h.offL⟩
theorem CSt.push {w W W' : World} {lf nx nx' : Value} {LL NN NN' : List Sp} (h : CSt w W lf nx LL NN) (hp : PushT spE 47 W nx NN' nx' W') : CSt w W' lf nx' LL NN' := by
 obtain ⟨h1, h2, h3⟩ := hp
 refine ⟨h.base.trans (grown_below h2 h.base.size fun k hk => (h.off k hk).1), h.rl.same fun k hk => h2.block k (h.rl.lt hk) fun e => (h.off k e.symm).2 hk, h1, fun k hk => ?_, h.offL⟩
 rcases h3 k hk with h' | h'
 ·exact h.off k h'
 ·refine ⟨Nat.le_trans h.base.size h', fun e => ?_⟩
  have := h.rl.lt e
  omega

set_option maxHeartbeats 16000000 in
theorem rcov_of (l : List Sp) (lv : Value) (s : Sp) (w : World) (hF : Sv w lv l) (hlen : l.length ≤ 64) (hok : ∀ x ∈ l, Ok x) (hs : Ok s) : Calls Tryz.prog 56 #[lv, sv s] w fun e w' => e = .returned (.bool (decide (SpanMath.leftOf l [s] = []))) ∧ Below w.heap.size w w' := by
 obtain ⟨B, HB⟩ : ∃ B, Hid (B = decide (SpanMath.leftOf l [s] = [])) := ⟨_, rfl⟩
 rw [← HB.out]
 have hfew : Hid (∀ i, i ≤ l.length → (SpanMath.leftOf (l.take i) [s]).length ≤ i + 1 ∧ ∀ x ∈ SpanMath.leftOf (l.take i) [s], Ok x) := fun i hi => ⟨(left_few hok hs i hi).2, (left_few hok hs i hi).1.2⟩
 have hokH : Hid (∀ x ∈ l, Ok x) := hok
 obtain ⟨ao, cap, rfl, h2⟩ := id hF
 obtain ⟨LF, HLF⟩ : ∃ LF : Nat → List Sp, Hid (∀ i, LF i = SpanMath.leftOf (l.take i) [s]) := ⟨_, fun _ => rfl⟩
 have HL0 : Hid (LF 0 = [s]) := by show _ = _; rw [HLF.out, List.take_zero]; rfl
 obtain ⟨s1, s2⟩ := s
 obtain ⟨hs0, g0, g1, hb0⟩ := two_boxes w (.cells #[.string (bk s1), .string (bk s2)] 47) (.cells #[.string (bk s1), .string (bk s2)] 47)
 have hR0 : Rk spE ((w.alloc (.cells #[.string (bk s1), .string (bk s2)] 47)).alloc (.cells #[.string (bk s1), .string (bk s2)] 47)) 47 (.slice (some ⟨w.heap.size + 1, 0, none⟩) 1 1) (LF 0) := by rw [HL0.out]; exact Rk.made (E := spE) (xs := [(s1, s2)]) g1 rfl (by unfold maxLen; simp)
 clear hok hs
 go_enter Tryz.func56, Tryz.ntmps56
 go_wp2
 go_loopg [5, 6] l.length (fun g s5 s6 wr => ∃ (i : Nat) (lf : Value), i + g = l.length ∧ s6 = .int .i64 (i : Int) ∧ lf = s5 ∧ Rk spE wr 47 lf (LF i) ∧ (∀ k, lf.ownBlock = some k → w.heap.size ≤ k) ∧ Below w.heap.size w wr)
 case atStart => exact ⟨0, _, by simp, rfl, rfl, hR0, (fun k hk => by cases hk; exact Nat.le_succ _), hb0⟩
 case round =>
  obtain ⟨i, lf, hig, rfl, rfl, hR, hOf, hb⟩ := hrel
  clear hR0 hb0 g0 g1 hs0 HL0
  by_cases hlt : i < l.length
  ·have hlti : (i : Int) < (l.length : Int) := by omega
   have hx : l[i]? = some l[i] := List.getElem?_eq_getElem hlt
   obtain ⟨b, off, rfl, d0, d1⟩ := h2 i l[i] hx
   obtain ⟨t, ht⟩ : ∃ s, s = l[i] := ⟨_, rfl⟩
   rw [← ht] at hx d0 d1
   have oky : Ok t := hokH.out t (List.mem_of_getElem? hx)
   obtain ⟨f1, f2⟩ := hfew.out i (by omega)
   rw [← HLF.out] at f1 f2
   have HNX : Hid (LF (i + 1) = (LF i).flatMap fun x => piece [x] t 1) := by show _ = _; rw [HLF.out, HLF.out, left_take hx]
   have HF2 : Hid (∀ x ∈ LF i, Ok x) := f2
   have kpc0 : Hid (∀ (x : Sp) (W : World) (v : Value), Rd spE W v [x] → Calls Tryz.prog 26 #[v, sv t, .int .i64 ((1 : Nat) : Int)] W fun e w' => ∃ v, e = .returned v ∧ Rd spE w' v (piece [x] t 1) ∧ Below W.heap.size W w') := fun x W v h => piece_of [x] v t 1 (.inr (.inl rfl)) W h (by simp)
   have HP2 : Hid (∀ x ∈ LF i, (piece [x] t 1).length ≤ 2) := fun x hx2 => by rw [piece_one (HF2.out x hx2) oky]; exact lessOne_len t x
   have hll : (LF i).length ≤ 65 := by omega
   obtain ⟨t1, t2⟩ := t
   have hcl : ∀ W, Below w.heap.size w W → W.cell? ⟨b, off + i * 2, none⟩ = some (.string (bk t1)) ∧ W.cell? ⟨b, off + i * 2 + 1, none⟩ = some (.string (bk t2)) := fun W hW => ⟨(hW.cell (p := ⟨b, off + i * 2, none⟩) (World.block_lt_of_cell? w _ d0)).trans d0, (hW.cell (p := ⟨b, off + i * 2 + 1, none⟩) (World.block_lt_of_cell? w _ d1)).trans d1⟩
   obtain ⟨q1, q2, q3⟩ := one_box wr (.cells #[] 47)
   have hC0 : CSt w (wr.alloc (.cells #[] 47)) lf (.slice (some ⟨wr.heap.size, 0, none⟩) 0 0) (LF i) (((LF i).take 0).flatMap fun x => piece [x] (t1, t2) 1) := by
    refine ⟨hb.trans (q3.mono hb.size), hR.same fun k hk => q3.block k (hR.lt hk), by rw [List.take_zero]; exact Rk.made (E := spE) (xs := []) q2 rfl (by unfold maxLen; simp), fun k hk => ?_, hOf⟩
    cases hk
    exact ⟨hb.size, fun e => by have := hR.lt e; exact absurd this (Nat.lt_irrefl _)⟩
   obtain ⟨fa, fc, hlf, -⟩ := hR.shape
   subst hlf
   generalize LF i = L at *
   clear hx ht d0 d1 q1 q2 q3 f1 f2 hR oky
   obtain ⟨gE, hgE⟩ : ∃ gE, gE = gk := ⟨_, rfl⟩
   subst hgE
   obtain ⟨wE, hwE⟩ : ∃ wE, wE = wr := ⟨_, rfl⟩
   subst hwE
   go_wp2
   go_loopg [7, 8] L.length (fun g s7 s8 ws => ∃ (k : Nat) (nx : Value), k + g = L.length ∧ s8 = .int .i64 (k : Int) ∧ nx = s7 ∧ CSt w ws (.slice fa L.length fc) nx L ((L.take k).flatMap fun x => piece [x] (t1, t2) 1))
   case atStart => exact ⟨0, _, by simp, rfl, rfl, hC0⟩
   case round =>
    obtain ⟨k, nx, hkg, rfl, rfl, hC⟩ := hrel
    clear hC0
    obtain ⟨ws, hws⟩ : ∃ ws, ws = wr := ⟨_, rfl⟩
    subst hws
    by_cases hkl : k < L.length
    ·have hkli : (k : Int) < (L.length : Int) := by omega
     have hxk : L[k]? = some L[k] := List.getElem?_eq_getElem hkl
     obtain ⟨x, hxe⟩ : ∃ x, x = L[k] := ⟨_, rfl⟩
     rw [← hxe] at hxk
     have kpc := kpc0.out x
     have hpl := HP2.out x (List.mem_of_getElem? hxk)
     have HK : Hid ((L.take (k + 1)).flatMap (fun x => piece [x] (t1, t2) 1) = (L.take k).flatMap (fun x => piece [x] (t1, t2) 1) ++ piece [x] (t1, t2) 1) := by
      show _ = _
      rw [take_succ_get hxk, List.flatMap_append]
      simp
     have hnl : ((L.take k).flatMap fun x => piece [x] (t1, t2) 1).length ≤ 130 := by
      have main : ∀ m : List Sp, (∀ x ∈ m, x ∈ L) → (m.flatMap fun x => piece [x] (t1, t2) 1).length ≤ 2 * m.length := by
       intro m
       induction m with
       | nil => intro _; simp
       | cons y m ih =>
        intro hm
        have h1 := HP2.out y (hm y List.mem_cons_self)
        have h2 := ih fun z hz => hm z (List.mem_cons_of_mem _ hz)
        rw [List.flatMap_cons, List.length_append, List.length_cons]
        omega
      have := main (L.take k) fun x hx => List.mem_of_mem_take hx
      rw [List.length_take] at this
      omega
     obtain ⟨gl, cl2, cur2, e2, -⟩ := hC.rl.cells (by omega)
     obtain ⟨x1, x2⟩ := x
     have clS : ∀ {nx : Value} {NN : List Sp} (W : World), CSt w W (.slice fa L.length fc) nx L NN → (fun W => W.cell? ⟨gl, k * 2, none⟩ = some (.string (bk x1)) ∧ W.cell? ⟨gl, k * 2 + 1, none⟩ = some (.string (bk x2)) ∧ W.cell? ⟨b, off + i * 2, none⟩ = some (.string (bk t1)) ∧ W.cell? ⟨b, off + i * 2 + 1, none⟩ = some (.string (bk t2))) W := fun W hW => by
      obtain ⟨g', c', u', e', _, _, _, _, _, hc, _⟩ := hW.rl.cells (by omega)
      rw [e'] at e2
      cases e2
      have z0 := hc k (x1, x2) 0 hxk (by decide)
      have z1 := hc k (x1, x2) 1 hxk (by decide)
      obtain ⟨z2, z3⟩ := hcl W hW.base
      exact ⟨z0, z1, z2, z3⟩
     have hfa : fa = some ⟨gl, 0, none⟩ := by cases e2; rfl
     subst hfa
     have hxkH : Hid (L[k]? = some (x1, x2)) := hxk
     have hbd : Below ws.heap.size ws ws.drew := (Below.refl _ ws).drew
     clear hxe e2
     generalize (L.take k).flatMap (fun x => piece [x] (t1, t2) 1) = NN at *
     generalize piece [(x1, x2)] (t1, t2) 1 = PP at *
     go_wp2
     have clSH : Hid (∀ {nx : Value} {NN : List Sp} (W : World), CSt w W (.slice (some ⟨gl, 0, none⟩) L.length fc) nx L NN → (fun W => W.cell? ⟨gl, k * 2, none⟩ = some (.string (bk x1)) ∧ W.cell? ⟨gl, k * 2 + 1, none⟩ = some (.string (bk x2)) ∧ W.cell? ⟨b, off + i * 2, none⟩ = some (.string (bk t1)) ∧ W.cell? ⟨b, off + i * 2 + 1, none⟩ = some (.string (bk t2))) W) := clS
     refine wp_region_L (fun W => W.cell? ⟨gl, k * 2, none⟩ = some (.string (bk x1)) ∧ W.cell? ⟨gl, k * 2 + 1, none⟩ = some (.string (bk x2)) ∧ W.cell? ⟨b, off + i * 2, none⟩ = some (.string (bk t1)) ∧ W.cell? ⟨b, off + i * 2 + 1, none⟩ = some (.string (bk t2))) [] (by kernel_rfl) ?_
     have yS : (fun W => W.cell? ⟨gl, k * 2, none⟩ = some (.string (bk x1)) ∧ W.cell? ⟨gl, k * 2 + 1, none⟩ = some (.string (bk x2)) ∧ W.cell? ⟨b, off + i * 2, none⟩ = some (.string (bk t1)) ∧ W.cell? ⟨b, off + i * 2 + 1, none⟩ = some (.string (bk t2))) ws.drew := clS _ (hC.below hbd)
     have hCd := hC.below hbd
     clear hC hbd
     generalize ws.drew = wd at *
     refine tkg 0 rfl (by intro w' hS'; obtain ⟨a0, a1, a2, a3⟩ := hS'; go_simp <;> rfl) yS ?_
     try simp only [pa, pb, pc, Act.put, pd, pe, pf]
     refine tkg 1 rfl (by intro w' hS'; obtain ⟨a0, a1, a2, a3⟩ := hS'; go_simp <;> rfl) yS ?_
     try simp only [pa, pb, pc, Act.put, pd, pe, pf]
     refine tkg 2 rfl (by intro w' hS'; obtain ⟨a0, a1, a2, a3⟩ := hS'; go_simp <;> rfl) yS ?_
     try simp only [pa, pb, pc, Act.put, pd, pe, pf]
     refine tkg 3 rfl (by intro w' hS'; obtain ⟨a0, a1, a2, a3⟩ := hS'; go_simp <;> rfl) yS ?_
     try simp only [pa, pb, pc, Act.put, pd, pe, pf]
     refine tkg 4 rfl (by intro w' hS'; obtain ⟨a0, a1, a2, a3⟩ := hS'; go_simp <;> rfl) yS ?_
     try simp only [pa, pb, pc, Act.put, pd, pe, pf]
     refine tkg 6 rfl (by intro w' hS'; obtain ⟨a0, a1, a2, a3⟩ := hS'; go_simp <;> rfl) yS ?_
     try simp only [pa, pb, pc, Act.put, pd, pe, pf]
     refine tkg 7 rfl (by intro w' hS'; obtain ⟨a0, a1, a2, a3⟩ := hS'; go_simp <;> rfl) yS ?_
     try simp only [pa, pb, pc, Act.put, pd, pe, pf]
     refine tkg 8 rfl (by intro w' hS'; obtain ⟨a0, a1, a2, a3⟩ := hS'; go_simp <;> rfl) yS ?_
     try simp only [pa, pb, pc, Act.put, pd, pe, pf]
     refine tkg 9 rfl (by intro w' hS'; obtain ⟨a0, a1, a2, a3⟩ := hS'; go_simp <;> rfl) yS ?_
     try simp only [pa, pb, pc, Act.put, pd, pe, pf]
     refine wpAnyL_one 5 (by kernel_rfl) rfl (by kernel_rfl) ?_
     intro K' hK'
     go_simp
     obtain ⟨q1, q2, q3⟩ := one_box wd (.cells #[.string (bk x1), .string (bk x2)] 47)
     have hC5 := hCd.below q3
     have hrow : Rd spE (wd.alloc (.cells #[.string (bk x1), .string (bk x2)] 47)) (.slice (some ⟨wd.heap.size, 0, none⟩) 1 1) [(x1, x2)] := (Rk.made (E := spE) (xs := [(x1, x2)]) q2 rfl (by unfold maxLen; simp)).rd
     refine hK'.out _ _ (.inr (clS _ hC5)) ?_
     clear hK' K' q1 q2 q3 hCd yS
     try simp only [pa, pb, pc, Act.put, pd, pe, pf]
     generalize wd.alloc (.cells #[.string (bk x1), .string (bk x2)] 47) = w5 at *
     have kq := kpc w5 _ hrow
     refine wpAnyL_one 10 (by kernel_rfl) rfl (by kernel_rfl) ?_
     intro K' hK'
     go_simp
     go_at_call 26
     refine kq.mono ?_
     rintro e w6 ⟨pv, rfl, hPv, hb6⟩
     have hC6 := hC5.below hb6
     have hS6 := clS _ hC6
     refine hK'.out _ _ (.inr hS6) ?_
     clear hK' K' kq hC5 hrow hb6
     try simp only [pa, pb, pc, Act.put, pd, pe, pf]
     have r7 := append_spH hC6.rn hPv (by omega) (by have := hpl; omega)
     refine wpAnyL_one 11 (by kernel_rfl) rfl (by kernel_rfl) ?_
     intro K' hK'
     refine op_run r7 _ _ rfl (by rfl) (by rfl) ?_
     intro v7 w7 hp7
     have hC7 := hC6.push hp7
     have hS7 := clS _ hC7
     refine hK'.out _ _ (.inr hS7) ?_
     clear hK' K' r7 hC6 hp7 hS6
     try simp only [pa, pb, pc, Act.put, pd, pe, pf]
     refine tkg 12 rfl (by intro w' hS'; obtain ⟨a0, a1, a2, a3⟩ := hS'; go_simp <;> rfl) hS7 ?_
     try simp only [pa, pb, pc, Act.put, pd, pe, pf]
     refine wpAnyL_done (by kernel_rfl) (NoPanic.normal ?_) _
     go_wp2
     go_roundg (gk - 1)
     case measure => omega
     case rel => exact ⟨k + 1, v7, by omega, by go_num, rfl, by rw [HK.out]; exact hC7⟩
    ·have hkli : ¬ (k : Int) < (L.length : Int) := by omega
     obtain rfl : k = L.length := by omega
     have hCn := hC.rn
     rw [List.take_length, ← HNX.out] at hCn
     have hCb := hC.base
     have hCo := fun k hk => (hC.off k hk).1
     clear hC
     go_wp2
     go_roundg (gE - 1)
     case measure => omega
     case rel => exact ⟨i + 1, nx, by omega, by go_num, rfl, hCn, hCo, hCb⟩
  ·have hlti : ¬ (i : Int) < (l.length : Int) := by omega
   obtain rfl : i = l.length := by omega
   have E : Hid (B = decide (LF l.length = [])) := by show _ = _; rw [HB.out, HLF.out, List.take_length]
   obtain ⟨fa, fc, hlf, -⟩ := hR.shape
   subst hlf
   clear HB HLF hfew h2 hF hR hokH
   generalize LF l.length = L at *
   cases L with
   | nil =>
    have E2 : Hid (B = true) := E.out
    clear E
    go_wp2
    go_ret
    exact ⟨by rw [E2.out]; rfl, hb⟩
   | cons x L =>
    have E2 : Hid (B = false) := by show _ = _; rw [E.out]; rfl
    have hne : ¬ (((x :: L).length : Nat) : Int) = 0 := by simp; omega
    have hneb : ((((x :: L).length : Nat) : Int) == 0) = false := by simp; omega
    clear E
    generalize (x :: L).length = m at *
    go_wp2
    go_ret
    exact ⟨by rw [E2.out]; rfl, hb⟩
end Go.Proofs.YtfpbgfmnjpamlaaGreat

