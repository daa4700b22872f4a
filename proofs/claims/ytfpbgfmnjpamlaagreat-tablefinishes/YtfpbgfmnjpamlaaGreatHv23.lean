import Derived.Test.YtfpbgfmnjpamlaaGreatHv16
import Derived.Test.YtfpbgfmnjpamlaaGreatHv21
import Derived.Test.YtfpbgfmnjpamlaaGreatHv22
/- The program's put. -/
namespace Go.Proofs.YtfpbgfmnjpamlaaGreat
open Go.RowKit LeaseMath
set_option maxRecDepth 100000
set_option linter.unusedSimpArgs false
set_option linter.unusedVariables false

set_option maxHeartbeats 8000000 in
theorem puth_of (zs : List Hd) (lv : Value) (z : Hd) (K : Nat) (w : World) (hL : Rd holdE w lv zs) (hlen : zs.length ≤ 1024) (hS : Plc zs z.1 K) : Calls Tryz.prog 161 #[lv, hv z, .func (.func 152) #[] #[]] w fun e w' => PutT holdE 59 w.heap.size (putC zs K z) e w' ∧ Below w.heap.size w w' := by
 obtain ⟨T, HT⟩ : ∃ T, Hid (T = PutT holdE 59 w.heap.size (putC zs K z)) := ⟨_, rfl⟩
 rw [← HT.out]
 have hKl : K ≤ zs.length := hS.1
 obtain ⟨hs1, hb1, cl1⟩ := hd_box w z
 obtain ⟨p1, p2, p3⟩ := one_box (w.alloc (hc z)) (.cells #[.func (.func 152) #[] #[]] 119)
 have hb2 : Below w.heap.size w _ := hb1.trans (p3.mono hb1.size)
 have kk := keyh_of z ((w.alloc (hc z)).alloc (.cells #[.func (.func 152) #[] #[]] 119))
 rw [p1, hs1] at kk
 rw [hs1] at p1 p2 p3
 have clq : ∀ W, Below (w.heap.size + 2) ((w.alloc (hc z)).alloc (.cells #[.func (.func 152) #[] #[]] 119)) W → (W.cell? ⟨w.heap.size, 0, none⟩ = some (.string (bk z.1)) ∧ W.cell? ⟨w.heap.size, 1, none⟩ = some (.int .u64 (z.2.1 : Int)) ∧ W.cell? ⟨w.heap.size, 2, none⟩ = some (.int .i64 z.2.2)) ∧ W.cell? ⟨w.heap.size + 1, 0, none⟩ = some (.func (.func 152) #[] #[]) := fun W hW => ⟨cl1 W (p3.trans (hW.mono (Nat.le_succ _))), by
  have := (hW.block (w.heap.size + 1) (Nat.lt_succ_self _)).trans p2
  rw [cells_of_block this]
  rfl⟩
 have hbw : ∀ W, Below (w.heap.size + 2) ((w.alloc (hc z)).alloc (.cells #[.func (.func 152) #[] #[]] 119)) W → Below w.heap.size w W := fun W hW => hb2.trans (hW.mono (by omega))
 have ks : ∀ W, Below (w.heap.size + 2) ((w.alloc (hc z)).alloc (.cells #[.func (.func 152) #[] #[]] 119)) W → _ := fun W hW => searchh_of zs lv z.1 K W (clq W hW).2 (hL.below (hbw W hW)) (by omega) hS
 have HL : Hid (Rd holdE w lv zs) := hL
 obtain ⟨ao, cap, rfl, hcap, hcn⟩ := hL.shape
 have HB : Hid (hasB zs K z.1 = hasB zs K z.1) := rfl
 obtain ⟨c0, c1⟩ := clq _ (Below.refl _ _)
 obtain ⟨k, t, u⟩ := z
 dsimp only [hv, hc] at *
 have hsz2r : Hid (w.heap.size + 2 ≤ ((w.alloc (.cells #[.string (bk k), .int .u64 (t : Int), .int .i64 u] 59)).alloc (.cells #[.func (.func 152) #[] #[]] 119)).heap.size) := by show _ ≤ _; omega
 have hKli : (K : Int) ≤ (zs.length : Int) := by omega
 have hKc : K ≤ cap := by omega
 have hKci : (K : Int) ≤ (cap : Int) := by omega
 clear hL hb1 cl1 p1 p2 p3 hb2 hcn
 cases hB : hasB zs K k with
 | true =>
  have EC : Hid (putC zs K (k, t, u) = (zs.take K ++ [(k, t, u)] ++ zs.drop (K + 1), 0)) := putC_has hlen hKl hB
  obtain ⟨s', hs', -⟩ := has_lt hB
  have hKlt : K < zs.length := (List.getElem?_eq_some_iff.1 hs').1
  have hck0 : ¬ cap = K := by omega
  have hck0' : ¬ K = cap := by omega
  have hK1c : K + 1 ≤ cap := by omega
  have hK1ci : (K : Int) + 1 ≤ (cap : Int) := by omega
  have hK1l : (K : Int) + 1 ≤ (zs.length : Int) := by omega
  have j1 : IntKind.i64.wrap ((K : Int) + 1) = (K : Int) + 1 := IntWalk.i64_in _ (by omega)
  have j2 : ((K : Int) + 1).toNat = K + 1 := by omega
  have hKK : (K : Int) ≤ (K : Int) + 1 := by omega
  rw [hB] at ks
  clear hS hs' hB
  by_cases hck : cap = K + 1
  ·have hck' : K + 1 = cap := hck.symm
   subst hck'
   have HBK : Hid (Rd holdE w (.slice ao 0 0) (zs.drop (K + 1))) := by have h9 := rd_back HL.out (k := K + 1) (by omega); rw [if_pos rfl, Nat.sub_self, show zs.length - (K + 1) = 0 by omega] at h9; exact h9
   obtain ⟨L, HLf⟩ : ∃ L, Hid (L = [zs.take K, [(k, t, u)], zs.drop (K + 1)].flatten) := ⟨_, rfl⟩
   have HLc : L = zs.take K ++ [(k, t, u)] ++ zs.drop (K + 1) := by rw [HLf.out]; simp
   have E : Hid (∀ v W, Ow holdE 59 w.heap.size W v L → T (.returned (.tuple #[v, .int .i64 0])) W) := fun v W h => by
    rw [HT.out, EC.out]
    refine ⟨v, rfl, ?_⟩
    rw [HLc] at h
    exact h
   have HLl : Hid (L.length ≤ 3000) := by show _ ≤ _; rw [HLc]; simp; omega
   have HLp : Hid (0 < L.length) := by show _ < _; rw [HLc]; simp only [List.length_append, List.length_singleton]; omega
   have KCT : Hid (∀ (Q : Nat) (W : World), Below w.heap.size w W → ∀ sv, Rd holdE W sv [(k, t, u)] → W.cell? ⟨Q, 0, none⟩ = some (.slice ao K (K + 1)) → W.cell? ⟨Q, 1, none⟩ = some sv → W.cell? ⟨Q, 2, none⟩ = some (.slice ao 0 0) → Calls Tryz.prog 136 #[.slice (some ⟨Q, 0, none⟩) 3 3] W fun e w' => ∃ v, e = .returned v ∧ Ow holdE 59 W.heap.size w' v L ∧ Below W.heap.size W w') := fun Q W hW sv hsv h0 h1 h2 => by
    have hF := (HL.out.front hKl).below hW
    have hB := HBK.out.below hW
    rw [HLf.out]
    refine concath_of Q [.slice ao K (K + 1), sv, .slice ao 0 0] [zs.take K, [(k, t, u)], zs.drop (K + 1)] W ?_ ?_ 3 (by decide) rfl rfl (by rw [← HLf.out]; exact HLp.out) (by rw [← HLf.out]; exact HLl.out)
    ·intro i v hv
     match i, hv with
     | 0, hv => cases hv; exact h0
     | 1, hv => cases hv; exact h1
     | 2, hv => cases hv; exact h2
     | i + 3, hv => simp at hv
    ·intro i v xs hv hx
     match i, hv, hx with
     | 0, hv, hx => cases hv; cases hx; exact hF
     | 1, hv, hx => cases hv; cases hx; exact hsv
     | 2, hv, hx => cases hv; cases hx; exact hB
     | i + 3, hv, hx => simp at hv
   clear HLc HLf HT EC
   clear HL HBK HB
   go_enter Tryz.func161, Tryz.ntmps161
   go_wp2_with fail
   have cl2 : ∀ W, Below (w.heap.size + 2) ((w.alloc (.cells #[.string (bk k), .int .u64 (t : Int), .int .i64 u] 59)).alloc (.cells #[.func (.func 152) #[] #[]] 119)) W → W.cell? ⟨w.heap.size, 0, none⟩ = some (.string (bk k)) ∧ W.cell? ⟨w.heap.size, 1, none⟩ = some (.int .u64 (t : Int)) ∧ W.cell? ⟨w.heap.size, 2, none⟩ = some (.int .i64 u) := fun W hW => (clq W hW).1
   generalize ((w.alloc (.cells #[.string (bk k), .int .u64 (t : Int), .int .i64 u] 59)).alloc (.cells #[.func (.func 152) #[] #[]] 119)) = w2 at *
   refine kk.mono ?_
   rintro e w3 ⟨rfl, hb3⟩
   obtain ⟨d0, d1⟩ := clq _ hb3
   have ks3 := ks w3 hb3
   clear kk c0 c1
   go_wp2_with fail
   refine ks3.mono ?_
   rintro e w4 ⟨rfl, hb4x⟩
   have hb4 := keep_step hb3 hsz2r.out hb4x
   clear ks ks3 hb3 hb4x d0 d1
   go_wp2
   refine wp_region_L (fun W => (W.cell? ⟨w.heap.size, 0, none⟩ = some (.string (bk k)) ∧ W.cell? ⟨w.heap.size, 1, none⟩ = some (.int .u64 (t : Int)) ∧ W.cell? ⟨w.heap.size, 2, none⟩ = some (.int .i64 u)) ∧ Below (w.heap.size + 2) w2 W) [] (by kernel_rfl) ?_
   have hd2 := hb4.drew
   clear hb4
   generalize w4.drew = wd at *
   have yS : (fun W => (W.cell? ⟨w.heap.size, 0, none⟩ = some (.string (bk k)) ∧ W.cell? ⟨w.heap.size, 1, none⟩ = some (.int .u64 (t : Int)) ∧ W.cell? ⟨w.heap.size, 2, none⟩ = some (.int .i64 u)) ∧ Below (w.heap.size + 2) w2 W) wd := ⟨cl2 _ hd2, hd2⟩
   refine wpAnyL_take 0 rfl (by kernel_rfl) (by kernel_rfl) (by kernel_rfl) (by kernel_rfl) (fun _ _ _ h => h) (wanted_none rfl) (by intro w' hS'; obtain ⟨⟨x0, x1, x2⟩, xb⟩ := hS'; go_simp <;> rfl) yS ?_
   try simp only [pa, pb, pc, Act.put, pd, pe, pf]
   refine wpAnyL_take 1 rfl (by kernel_rfl) (by kernel_rfl) (by kernel_rfl) (by kernel_rfl) (fun _ _ _ h => h) (wanted_none rfl) (by intro w' hS'; obtain ⟨⟨x0, x1, x2⟩, xb⟩ := hS'; go_simp <;> rfl) yS ?_
   try simp only [pa, pb, pc, Act.put, pd, pe, pf]
   refine wpAnyL_take 2 rfl (by kernel_rfl) (by kernel_rfl) (by kernel_rfl) (by kernel_rfl) (fun _ _ _ h => h) (wanted_none rfl) (by intro w' hS'; obtain ⟨⟨x0, x1, x2⟩, xb⟩ := hS'; go_simp <;> rfl) yS ?_
   try simp only [pa, pb, pc, Act.put, pd, pe, pf]
   refine wpAnyL_take 3 rfl (by kernel_rfl) (by kernel_rfl) (by kernel_rfl) (by kernel_rfl) (fun _ _ _ h => h) (wanted_none rfl) (by intro w' hS'; obtain ⟨⟨x0, x1, x2⟩, xb⟩ := hS'; go_simp <;> rfl) yS ?_
   try simp only [pa, pb, pc, Act.put, pd, pe, pf]
   refine wpAnyL_take 5 rfl (by kernel_rfl) (by kernel_rfl) (by kernel_rfl) (by kernel_rfl) (fun _ _ _ h => h) (wanted_none rfl) (by intro w' hS'; obtain ⟨⟨x0, x1, x2⟩, xb⟩ := hS'; go_simp <;> rfl) yS ?_
   try simp only [pa, pb, pc, Act.put, pd, pe, pf]
   refine wpAnyL_one 4 (by kernel_rfl) rfl (wanted_none rfl) ?_
   intro K' hK'
   go_simp
   obtain ⟨z1, z2, z3⟩ := one_box wd (.cells #[.string (bk k), .int .u64 (t : Int), .int .i64 u] 59)
   have hd2a := keep_step hd2 hsz2r.out z3
   have yS4 : (fun W => (W.cell? ⟨w.heap.size, 0, none⟩ = some (.string (bk k)) ∧ W.cell? ⟨w.heap.size, 1, none⟩ = some (.int .u64 (t : Int)) ∧ W.cell? ⟨w.heap.size, 2, none⟩ = some (.int .i64 u)) ∧ Below (w.heap.size + 2) w2 W) (wd.alloc (.cells #[.string (bk k), .int .u64 (t : Int), .int .i64 u] 59)) := ⟨cl2 _ hd2a, hd2a⟩
   refine hK'.out _ _ (.inr yS4) ?_
   clear hK' K'
   try simp only [pa, pb, pc, Act.put, pd, pe, pf]
   refine wpAnyL_one 6 (by kernel_rfl) rfl (wanted_none rfl) ?_
   intro K' hK'
   go_simp
   obtain ⟨u1, u2, u3⟩ := one_box (wd.alloc (.cells #[.string (bk k), .int .u64 (t : Int), .int .i64 u] 59)) (.cells #[.slice ao K (K + 1), .slice (some ⟨wd.heap.size, 0, none⟩) 1 1, .slice ao 0 0] 23)
   have hd2b := keep_step hd2a hsz2r.out u3
   have yS6 : (fun W => (W.cell? ⟨w.heap.size, 0, none⟩ = some (.string (bk k)) ∧ W.cell? ⟨w.heap.size, 1, none⟩ = some (.int .u64 (t : Int)) ∧ W.cell? ⟨w.heap.size, 2, none⟩ = some (.int .i64 u)) ∧ Below (w.heap.size + 2) w2 W) ((wd.alloc (.cells #[.string (bk k), .int .u64 (t : Int), .int .i64 u] 59)).alloc (.cells #[.slice ao K (K + 1), .slice (some ⟨wd.heap.size, 0, none⟩) 1 1, .slice ao 0 0] 23)) := ⟨cl2 _ hd2b, hd2b⟩
   have hrow : Rd holdE (wd.alloc (.cells #[.string (bk k), .int .u64 (t : Int), .int .i64 u] 59)) (.slice (some ⟨wd.heap.size, 0, none⟩) 1 1) [(k, t, u)] := (Rk.made (E := holdE) (xs := [(k, t, u)]) z2 rfl (by unfold maxLen; simp)).rd
   have kct := KCT.out (wd.alloc (.cells #[.string (bk k), .int .u64 (t : Int), .int .i64 u] 59)).heap.size ((wd.alloc (.cells #[.string (bk k), .int .u64 (t : Int), .int .i64 u] 59)).alloc (.cells #[.slice ao K (K + 1), .slice (some ⟨wd.heap.size, 0, none⟩) 1 1, .slice ao 0 0] 23)) (hbw _ hd2b) _ (hrow.below u3) (by rw [cells_of_block u2]; rfl) (by rw [cells_of_block u2]; rfl) (by rw [cells_of_block u2]; rfl)
   clear hrow u2 z2
   refine hK'.out _ _ (.inr yS6) ?_
   clear hK' K'
   try simp only [pa, pb, pc, Act.put, pd, pe, pf]
   rw [z1] at *
   generalize (wd.alloc (.cells #[.string (bk k), .int .u64 (t : Int), .int .i64 u] 59)).alloc (.cells #[.slice ao K (K + 1), .slice (some ⟨wd.heap.size, 0, none⟩) 1 1, .slice ao 0 0] 23) = w7 at *
   clear u3 z3 hd2a yS4 yS
   refine wpAnyL_one 7 (by kernel_rfl) rfl (wanted_none rfl) ?_
   intro K' hK'
   go_simp
   go_at_call 136
   refine kct.mono ?_
   rintro e w8 ⟨v8, rfl, hO8, hb8⟩
   obtain ⟨g8, cap8, cur8, hv8, -⟩ := hO8.1.cells HLp.out
   subst hv8
   have hd28 := keep_step hd2b hsz2r.out hb8
   have yS8 : (fun W => (W.cell? ⟨w.heap.size, 0, none⟩ = some (.string (bk k)) ∧ W.cell? ⟨w.heap.size, 1, none⟩ = some (.int .u64 (t : Int)) ∧ W.cell? ⟨w.heap.size, 2, none⟩ = some (.int .i64 u)) ∧ Below (w.heap.size + 2) w2 W) w8 := ⟨cl2 _ hd28, hd28⟩
   have HFN : Hid (T (.returned (.tuple #[.slice (some ⟨g8, 0, none⟩) L.length cap8, .int .i64 0])) w8) := E.out _ _ (hO8.mono (hbw _ hd2b).size)
   refine hK'.out _ _ (.inr yS8) ?_
   clear hK' K'
   try simp only [pa, pb, pc, Act.put, pd, pe, pf]
   clear kct hO8 E
   refine wpAnyL_take 8 rfl (by kernel_rfl) (by kernel_rfl) (by kernel_rfl) (by kernel_rfl) (fun _ _ _ h => h) (wanted_none rfl) (by intro w' hS'; obtain ⟨⟨x0, x1, x2⟩, xb⟩ := hS'; go_simp <;> rfl) yS8 ?_
   try simp only [pa, pb, pc, Act.put, pd, pe, pf]
   refine wpAnyL_take 9 rfl (by kernel_rfl) (by kernel_rfl) (by kernel_rfl) (by kernel_rfl) (fun _ _ _ h => h) (wanted_none rfl) (by intro w' hS'; obtain ⟨⟨x0, x1, x2⟩, xb⟩ := hS'; go_simp <;> rfl) yS8 ?_
   try simp only [pa, pb, pc, Act.put, pd, pe, pf]
   refine wpAnyL_done (by kernel_rfl) (NoPanic.normal ?_) _
   go_wp2
   go_ret2
   exact ⟨HFN.out, hbw _ hd28⟩
  ·have HBK : Hid (Rd holdE w (.slice (ao.map (fun x => x.add ((K + 1) * 3))) (zs.length - (K + 1)) (cap - (K + 1))) (zs.drop (K + 1))) := by have h9 := rd_back HL.out (k := K + 1) (by omega); rw [if_neg hck] at h9; exact h9
   obtain ⟨L, HLf⟩ : ∃ L, Hid (L = [zs.take K, [(k, t, u)], zs.drop (K + 1)].flatten) := ⟨_, rfl⟩
   have HLc : L = zs.take K ++ [(k, t, u)] ++ zs.drop (K + 1) := by rw [HLf.out]; simp
   have E : Hid (∀ v W, Ow holdE 59 w.heap.size W v L → T (.returned (.tuple #[v, .int .i64 0])) W) := fun v W h => by
    rw [HT.out, EC.out]
    refine ⟨v, rfl, ?_⟩
    rw [HLc] at h
    exact h
   have HLl : Hid (L.length ≤ 3000) := by show _ ≤ _; rw [HLc]; simp; omega
   have HLp : Hid (0 < L.length) := by show _ < _; rw [HLc]; simp only [List.length_append, List.length_singleton]; omega
   have KCT : Hid (∀ (Q : Nat) (W : World), Below w.heap.size w W → ∀ sv, Rd holdE W sv [(k, t, u)] → W.cell? ⟨Q, 0, none⟩ = some (.slice ao K cap) → W.cell? ⟨Q, 1, none⟩ = some sv → W.cell? ⟨Q, 2, none⟩ = some (.slice (ao.map (fun x => x.add ((K + 1) * 3))) (zs.length - (K + 1)) (cap - (K + 1))) → Calls Tryz.prog 136 #[.slice (some ⟨Q, 0, none⟩) 3 3] W fun e w' => ∃ v, e = .returned v ∧ Ow holdE 59 W.heap.size w' v L ∧ Below W.heap.size W w') := fun Q W hW sv hsv h0 h1 h2 => by
    have hF := (HL.out.front hKl).below hW
    have hB := HBK.out.below hW
    rw [HLf.out]
    refine concath_of Q [.slice ao K cap, sv, .slice (ao.map (fun x => x.add ((K + 1) * 3))) (zs.length - (K + 1)) (cap - (K + 1))] [zs.take K, [(k, t, u)], zs.drop (K + 1)] W ?_ ?_ 3 (by decide) rfl rfl (by rw [← HLf.out]; exact HLp.out) (by rw [← HLf.out]; exact HLl.out)
    ·intro i v hv
     match i, hv with
     | 0, hv => cases hv; exact h0
     | 1, hv => cases hv; exact h1
     | 2, hv => cases hv; exact h2
     | i + 3, hv => simp at hv
    ·intro i v xs hv hx
     match i, hv, hx with
     | 0, hv, hx => cases hv; cases hx; exact hF
     | 1, hv, hx => cases hv; cases hx; exact hsv
     | 2, hv, hx => cases hv; cases hx; exact hB
     | i + 3, hv, hx => simp at hv
   clear HLc HLf HT EC
   clear HL HBK HB
   go_enter Tryz.func161, Tryz.ntmps161
   go_wp2_with fail
   have cl2 : ∀ W, Below (w.heap.size + 2) ((w.alloc (.cells #[.string (bk k), .int .u64 (t : Int), .int .i64 u] 59)).alloc (.cells #[.func (.func 152) #[] #[]] 119)) W → W.cell? ⟨w.heap.size, 0, none⟩ = some (.string (bk k)) ∧ W.cell? ⟨w.heap.size, 1, none⟩ = some (.int .u64 (t : Int)) ∧ W.cell? ⟨w.heap.size, 2, none⟩ = some (.int .i64 u) := fun W hW => (clq W hW).1
   generalize ((w.alloc (.cells #[.string (bk k), .int .u64 (t : Int), .int .i64 u] 59)).alloc (.cells #[.func (.func 152) #[] #[]] 119)) = w2 at *
   refine kk.mono ?_
   rintro e w3 ⟨rfl, hb3⟩
   obtain ⟨d0, d1⟩ := clq _ hb3
   have ks3 := ks w3 hb3
   clear kk c0 c1
   go_wp2_with fail
   refine ks3.mono ?_
   rintro e w4 ⟨rfl, hb4x⟩
   have hb4 := keep_step hb3 hsz2r.out hb4x
   clear ks ks3 hb3 hb4x d0 d1
   go_wp2
   refine wp_region_L (fun W => (W.cell? ⟨w.heap.size, 0, none⟩ = some (.string (bk k)) ∧ W.cell? ⟨w.heap.size, 1, none⟩ = some (.int .u64 (t : Int)) ∧ W.cell? ⟨w.heap.size, 2, none⟩ = some (.int .i64 u)) ∧ Below (w.heap.size + 2) w2 W) [] (by kernel_rfl) ?_
   have hd2 := hb4.drew
   clear hb4
   generalize w4.drew = wd at *
   have yS : (fun W => (W.cell? ⟨w.heap.size, 0, none⟩ = some (.string (bk k)) ∧ W.cell? ⟨w.heap.size, 1, none⟩ = some (.int .u64 (t : Int)) ∧ W.cell? ⟨w.heap.size, 2, none⟩ = some (.int .i64 u)) ∧ Below (w.heap.size + 2) w2 W) wd := ⟨cl2 _ hd2, hd2⟩
   refine wpAnyL_take 0 rfl (by kernel_rfl) (by kernel_rfl) (by kernel_rfl) (by kernel_rfl) (fun _ _ _ h => h) (wanted_none rfl) (by intro w' hS'; obtain ⟨⟨x0, x1, x2⟩, xb⟩ := hS'; go_simp <;> rfl) yS ?_
   try simp only [pa, pb, pc, Act.put, pd, pe, pf]
   refine wpAnyL_take 1 rfl (by kernel_rfl) (by kernel_rfl) (by kernel_rfl) (by kernel_rfl) (fun _ _ _ h => h) (wanted_none rfl) (by intro w' hS'; obtain ⟨⟨x0, x1, x2⟩, xb⟩ := hS'; go_simp <;> rfl) yS ?_
   try simp only [pa, pb, pc, Act.put, pd, pe, pf]
   refine wpAnyL_take 2 rfl (by kernel_rfl) (by kernel_rfl) (by kernel_rfl) (by kernel_rfl) (fun _ _ _ h => h) (wanted_none rfl) (by intro w' hS'; obtain ⟨⟨x0, x1, x2⟩, xb⟩ := hS'; go_simp <;> rfl) yS ?_
   try simp only [pa, pb, pc, Act.put, pd, pe, pf]
   refine wpAnyL_take 3 rfl (by kernel_rfl) (by kernel_rfl) (by kernel_rfl) (by kernel_rfl) (fun _ _ _ h => h) (wanted_none rfl) (by intro w' hS'; obtain ⟨⟨x0, x1, x2⟩, xb⟩ := hS'; go_simp <;> rfl) yS ?_
   try simp only [pa, pb, pc, Act.put, pd, pe, pf]
   refine wpAnyL_take 5 rfl (by kernel_rfl) (by kernel_rfl) (by kernel_rfl) (by kernel_rfl) (fun _ _ _ h => h) (wanted_none rfl) (by intro w' hS'; obtain ⟨⟨x0, x1, x2⟩, xb⟩ := hS'; go_simp <;> rfl) yS ?_
   try simp only [pa, pb, pc, Act.put, pd, pe, pf]
   refine wpAnyL_one 4 (by kernel_rfl) rfl (wanted_none rfl) ?_
   intro K' hK'
   go_simp
   obtain ⟨z1, z2, z3⟩ := one_box wd (.cells #[.string (bk k), .int .u64 (t : Int), .int .i64 u] 59)
   have hd2a := keep_step hd2 hsz2r.out z3
   have yS4 : (fun W => (W.cell? ⟨w.heap.size, 0, none⟩ = some (.string (bk k)) ∧ W.cell? ⟨w.heap.size, 1, none⟩ = some (.int .u64 (t : Int)) ∧ W.cell? ⟨w.heap.size, 2, none⟩ = some (.int .i64 u)) ∧ Below (w.heap.size + 2) w2 W) (wd.alloc (.cells #[.string (bk k), .int .u64 (t : Int), .int .i64 u] 59)) := ⟨cl2 _ hd2a, hd2a⟩
   refine hK'.out _ _ (.inr yS4) ?_
   clear hK' K'
   try simp only [pa, pb, pc, Act.put, pd, pe, pf]
   refine wpAnyL_one 6 (by kernel_rfl) rfl (wanted_none rfl) ?_
   intro K' hK'
   go_simp
   obtain ⟨u1, u2, u3⟩ := one_box (wd.alloc (.cells #[.string (bk k), .int .u64 (t : Int), .int .i64 u] 59)) (.cells #[.slice ao K cap, .slice (some ⟨wd.heap.size, 0, none⟩) 1 1, .slice (ao.map (fun x => x.add ((K + 1) * 3))) (zs.length - (K + 1)) (cap - (K + 1))] 23)
   have hd2b := keep_step hd2a hsz2r.out u3
   have yS6 : (fun W => (W.cell? ⟨w.heap.size, 0, none⟩ = some (.string (bk k)) ∧ W.cell? ⟨w.heap.size, 1, none⟩ = some (.int .u64 (t : Int)) ∧ W.cell? ⟨w.heap.size, 2, none⟩ = some (.int .i64 u)) ∧ Below (w.heap.size + 2) w2 W) ((wd.alloc (.cells #[.string (bk k), .int .u64 (t : Int), .int .i64 u] 59)).alloc (.cells #[.slice ao K cap, .slice (some ⟨wd.heap.size, 0, none⟩) 1 1, .slice (ao.map (fun x => x.add ((K + 1) * 3))) (zs.length - (K + 1)) (cap - (K + 1))] 23)) := ⟨cl2 _ hd2b, hd2b⟩
   have hrow : Rd holdE (wd.alloc (.cells #[.string (bk k), .int .u64 (t : Int), .int .i64 u] 59)) (.slice (some ⟨wd.heap.size, 0, none⟩) 1 1) [(k, t, u)] := (Rk.made (E := holdE) (xs := [(k, t, u)]) z2 rfl (by unfold maxLen; simp)).rd
   have kct := KCT.out (wd.alloc (.cells #[.string (bk k), .int .u64 (t : Int), .int .i64 u] 59)).heap.size ((wd.alloc (.cells #[.string (bk k), .int .u64 (t : Int), .int .i64 u] 59)).alloc (.cells #[.slice ao K cap, .slice (some ⟨wd.heap.size, 0, none⟩) 1 1, .slice (ao.map (fun x => x.add ((K + 1) * 3))) (zs.length - (K + 1)) (cap - (K + 1))] 23)) (hbw _ hd2b) _ (hrow.below u3) (by rw [cells_of_block u2]; rfl) (by rw [cells_of_block u2]; rfl) (by rw [cells_of_block u2]; rfl)
   clear hrow u2 z2
   refine hK'.out _ _ (.inr yS6) ?_
   clear hK' K'
   try simp only [pa, pb, pc, Act.put, pd, pe, pf]
   rw [z1] at *
   generalize (wd.alloc (.cells #[.string (bk k), .int .u64 (t : Int), .int .i64 u] 59)).alloc (.cells #[.slice ao K cap, .slice (some ⟨wd.heap.size, 0, none⟩) 1 1, .slice (ao.map (fun x => x.add ((K + 1) * 3))) (zs.length - (K + 1)) (cap - (K + 1))] 23) = w7 at *
   clear u3 z3 hd2a yS4 yS
   refine wpAnyL_one 7 (by kernel_rfl) rfl (wanted_none rfl) ?_
   intro K' hK'
   go_simp
   go_at_call 136
   refine kct.mono ?_
   rintro e w8 ⟨v8, rfl, hO8, hb8⟩
   obtain ⟨g8, cap8, cur8, hv8, -⟩ := hO8.1.cells HLp.out
   subst hv8
   have hd28 := keep_step hd2b hsz2r.out hb8
   have yS8 : (fun W => (W.cell? ⟨w.heap.size, 0, none⟩ = some (.string (bk k)) ∧ W.cell? ⟨w.heap.size, 1, none⟩ = some (.int .u64 (t : Int)) ∧ W.cell? ⟨w.heap.size, 2, none⟩ = some (.int .i64 u)) ∧ Below (w.heap.size + 2) w2 W) w8 := ⟨cl2 _ hd28, hd28⟩
   have HFN : Hid (T (.returned (.tuple #[.slice (some ⟨g8, 0, none⟩) L.length cap8, .int .i64 0])) w8) := E.out _ _ (hO8.mono (hbw _ hd2b).size)
   refine hK'.out _ _ (.inr yS8) ?_
   clear hK' K'
   try simp only [pa, pb, pc, Act.put, pd, pe, pf]
   clear kct hO8 E
   refine wpAnyL_take 8 rfl (by kernel_rfl) (by kernel_rfl) (by kernel_rfl) (by kernel_rfl) (fun _ _ _ h => h) (wanted_none rfl) (by intro w' hS'; obtain ⟨⟨x0, x1, x2⟩, xb⟩ := hS'; go_simp <;> rfl) yS8 ?_
   try simp only [pa, pb, pc, Act.put, pd, pe, pf]
   refine wpAnyL_take 9 rfl (by kernel_rfl) (by kernel_rfl) (by kernel_rfl) (by kernel_rfl) (fun _ _ _ h => h) (wanted_none rfl) (by intro w' hS'; obtain ⟨⟨x0, x1, x2⟩, xb⟩ := hS'; go_simp <;> rfl) yS8 ?_
   try simp only [pa, pb, pc, Act.put, pd, pe, pf]
   refine wpAnyL_done (by kernel_rfl) (NoPanic.normal ?_) _
   go_wp2
   go_ret2
   exact ⟨HFN.out, hbw _ hd28⟩
 | false =>
  rw [hB] at ks
  by_cases hfull : zs.length = 1024
  ·have EC : Hid (∀ W, T (.returned (.tuple #[.slice none 0 0, .int .i64 2])) W) := fun W => by
    rw [HT.out, putC_full hfull hKl hB]
    exact ⟨_, rfl, Ow.nil _ _ _ _⟩
   clear hS hB HT HL HB
   generalize zs.length = ln at *
   subst hfull
   by_cases hck : cap = K
   ·have hck' : K = cap := hck.symm
    subst hck'
    go_enter Tryz.func161, Tryz.ntmps161
    go_wp2_with fail
    have cl2 : ∀ W, Below (w.heap.size + 2) ((w.alloc (.cells #[.string (bk k), .int .u64 (t : Int), .int .i64 u] 59)).alloc (.cells #[.func (.func 152) #[] #[]] 119)) W → W.cell? ⟨w.heap.size, 0, none⟩ = some (.string (bk k)) ∧ W.cell? ⟨w.heap.size, 1, none⟩ = some (.int .u64 (t : Int)) ∧ W.cell? ⟨w.heap.size, 2, none⟩ = some (.int .i64 u) := fun W hW => (clq W hW).1
    generalize ((w.alloc (.cells #[.string (bk k), .int .u64 (t : Int), .int .i64 u] 59)).alloc (.cells #[.func (.func 152) #[] #[]] 119)) = w2 at *
    refine kk.mono ?_
    rintro e w3 ⟨rfl, hb3⟩
    obtain ⟨d0, d1⟩ := clq _ hb3
    have ks3 := ks w3 hb3
    clear kk c0 c1
    go_wp2_with fail
    refine ks3.mono ?_
    rintro e w4 ⟨rfl, hb4x⟩
    have hb4 := keep_step hb3 hsz2r.out hb4x
    clear ks ks3 hb3 hb4x d0 d1
    go_wp2
    go_ret2
    exact ⟨EC.out _, hbw _ hb4⟩
   ·go_enter Tryz.func161, Tryz.ntmps161
    go_wp2_with fail
    have cl2 : ∀ W, Below (w.heap.size + 2) ((w.alloc (.cells #[.string (bk k), .int .u64 (t : Int), .int .i64 u] 59)).alloc (.cells #[.func (.func 152) #[] #[]] 119)) W → W.cell? ⟨w.heap.size, 0, none⟩ = some (.string (bk k)) ∧ W.cell? ⟨w.heap.size, 1, none⟩ = some (.int .u64 (t : Int)) ∧ W.cell? ⟨w.heap.size, 2, none⟩ = some (.int .i64 u) := fun W hW => (clq W hW).1
    generalize ((w.alloc (.cells #[.string (bk k), .int .u64 (t : Int), .int .i64 u] 59)).alloc (.cells #[.func (.func 152) #[] #[]] 119)) = w2 at *
    refine kk.mono ?_
    rintro e w3 ⟨rfl, hb3⟩
    obtain ⟨d0, d1⟩ := clq _ hb3
    have ks3 := ks w3 hb3
    clear kk c0 c1
    go_wp2_with fail
    refine ks3.mono ?_
    rintro e w4 ⟨rfl, hb4x⟩
    have hb4 := keep_step hb3 hsz2r.out hb4x
    clear ks ks3 hb3 hb4x d0 d1
    go_wp2
    go_ret2
    exact ⟨EC.out _, hbw _ hb4⟩
  ·have EC : Hid (putC zs K (k, t, u) = (zs.take K ++ [(k, t, u)] ++ zs.drop K, 0)) := putC_not (by omega) hKl hB
   have hfi : ((zs.length : Int) == 1024) = false := by rw [beq_eq_false_iff_ne]; omega
   have hfi2 : ¬ (zs.length : Int) = 1024 := by omega
   clear hS hB
   by_cases hck : cap = K
   ·have hck' : K = cap := hck.symm
    subst hck'
    have HBK : Hid (Rd holdE w (.slice ao 0 0) (zs.drop (K))) := by have h9 := rd_back HL.out (k := K) (by omega); rw [if_pos rfl, Nat.sub_self, show zs.length - (K) = 0 by omega] at h9; exact h9
    obtain ⟨L, HLf⟩ : ∃ L, Hid (L = [zs.take K, [(k, t, u)], zs.drop (K)].flatten) := ⟨_, rfl⟩
    have HLc : L = zs.take K ++ [(k, t, u)] ++ zs.drop (K) := by rw [HLf.out]; simp
    have E : Hid (∀ v W, Ow holdE 59 w.heap.size W v L → T (.returned (.tuple #[v, .int .i64 0])) W) := fun v W h => by
     rw [HT.out, EC.out]
     refine ⟨v, rfl, ?_⟩
     rw [HLc] at h
     exact h
    have HLl : Hid (L.length ≤ 3000) := by show _ ≤ _; rw [HLc]; simp; omega
    have HLp : Hid (0 < L.length) := by show _ < _; rw [HLc]; simp only [List.length_append, List.length_singleton]; omega
    have KCT : Hid (∀ (Q : Nat) (W : World), Below w.heap.size w W → ∀ sv, Rd holdE W sv [(k, t, u)] → W.cell? ⟨Q, 0, none⟩ = some (.slice ao K K) → W.cell? ⟨Q, 1, none⟩ = some sv → W.cell? ⟨Q, 2, none⟩ = some (.slice ao 0 0) → Calls Tryz.prog 136 #[.slice (some ⟨Q, 0, none⟩) 3 3] W fun e w' => ∃ v, e = .returned v ∧ Ow holdE 59 W.heap.size w' v L ∧ Below W.heap.size W w') := fun Q W hW sv hsv h0 h1 h2 => by
     have hF := (HL.out.front hKl).below hW
     have hB := HBK.out.below hW
     rw [HLf.out]
     refine concath_of Q [.slice ao K K, sv, .slice ao 0 0] [zs.take K, [(k, t, u)], zs.drop (K)] W ?_ ?_ 3 (by decide) rfl rfl (by rw [← HLf.out]; exact HLp.out) (by rw [← HLf.out]; exact HLl.out)
     ·intro i v hv
      match i, hv with
      | 0, hv => cases hv; exact h0
      | 1, hv => cases hv; exact h1
      | 2, hv => cases hv; exact h2
      | i + 3, hv => simp at hv
     ·intro i v xs hv hx
      match i, hv, hx with
      | 0, hv, hx => cases hv; cases hx; exact hF
      | 1, hv, hx => cases hv; cases hx; exact hsv
      | 2, hv, hx => cases hv; cases hx; exact hB
      | i + 3, hv, hx => simp at hv
    clear HLc HLf HT EC
    clear HL HBK HB
    go_enter Tryz.func161, Tryz.ntmps161
    go_wp2_with fail
    have cl2 : ∀ W, Below (w.heap.size + 2) ((w.alloc (.cells #[.string (bk k), .int .u64 (t : Int), .int .i64 u] 59)).alloc (.cells #[.func (.func 152) #[] #[]] 119)) W → W.cell? ⟨w.heap.size, 0, none⟩ = some (.string (bk k)) ∧ W.cell? ⟨w.heap.size, 1, none⟩ = some (.int .u64 (t : Int)) ∧ W.cell? ⟨w.heap.size, 2, none⟩ = some (.int .i64 u) := fun W hW => (clq W hW).1
    generalize ((w.alloc (.cells #[.string (bk k), .int .u64 (t : Int), .int .i64 u] 59)).alloc (.cells #[.func (.func 152) #[] #[]] 119)) = w2 at *
    refine kk.mono ?_
    rintro e w3 ⟨rfl, hb3⟩
    obtain ⟨d0, d1⟩ := clq _ hb3
    have ks3 := ks w3 hb3
    clear kk c0 c1
    go_wp2_with fail
    refine ks3.mono ?_
    rintro e w4 ⟨rfl, hb4x⟩
    have hb4 := keep_step hb3 hsz2r.out hb4x
    clear ks ks3 hb3 hb4x d0 d1
    go_wp2
    refine wp_region_L (fun W => (W.cell? ⟨w.heap.size, 0, none⟩ = some (.string (bk k)) ∧ W.cell? ⟨w.heap.size, 1, none⟩ = some (.int .u64 (t : Int)) ∧ W.cell? ⟨w.heap.size, 2, none⟩ = some (.int .i64 u)) ∧ Below (w.heap.size + 2) w2 W) [] (by kernel_rfl) ?_
    have hd2 := hb4.drew
    clear hb4
    generalize w4.drew = wd at *
    have yS : (fun W => (W.cell? ⟨w.heap.size, 0, none⟩ = some (.string (bk k)) ∧ W.cell? ⟨w.heap.size, 1, none⟩ = some (.int .u64 (t : Int)) ∧ W.cell? ⟨w.heap.size, 2, none⟩ = some (.int .i64 u)) ∧ Below (w.heap.size + 2) w2 W) wd := ⟨cl2 _ hd2, hd2⟩
    refine wpAnyL_take 0 rfl (by kernel_rfl) (by kernel_rfl) (by kernel_rfl) (by kernel_rfl) (fun _ _ _ h => h) (wanted_none rfl) (by intro w' hS'; obtain ⟨⟨x0, x1, x2⟩, xb⟩ := hS'; go_simp <;> rfl) yS ?_
    try simp only [pa, pb, pc, Act.put, pd, pe, pf]
    refine wpAnyL_take 1 rfl (by kernel_rfl) (by kernel_rfl) (by kernel_rfl) (by kernel_rfl) (fun _ _ _ h => h) (wanted_none rfl) (by intro w' hS'; obtain ⟨⟨x0, x1, x2⟩, xb⟩ := hS'; go_simp <;> rfl) yS ?_
    try simp only [pa, pb, pc, Act.put, pd, pe, pf]
    refine wpAnyL_take 2 rfl (by kernel_rfl) (by kernel_rfl) (by kernel_rfl) (by kernel_rfl) (fun _ _ _ h => h) (wanted_none rfl) (by intro w' hS'; obtain ⟨⟨x0, x1, x2⟩, xb⟩ := hS'; go_simp <;> rfl) yS ?_
    try simp only [pa, pb, pc, Act.put, pd, pe, pf]
    refine wpAnyL_take 3 rfl (by kernel_rfl) (by kernel_rfl) (by kernel_rfl) (by kernel_rfl) (fun _ _ _ h => h) (wanted_none rfl) (by intro w' hS'; obtain ⟨⟨x0, x1, x2⟩, xb⟩ := hS'; go_simp <;> rfl) yS ?_
    try simp only [pa, pb, pc, Act.put, pd, pe, pf]
    refine wpAnyL_take 5 rfl (by kernel_rfl) (by kernel_rfl) (by kernel_rfl) (by kernel_rfl) (fun _ _ _ h => h) (wanted_none rfl) (by intro w' hS'; obtain ⟨⟨x0, x1, x2⟩, xb⟩ := hS'; go_simp <;> rfl) yS ?_
    try simp only [pa, pb, pc, Act.put, pd, pe, pf]
    refine wpAnyL_one 4 (by kernel_rfl) rfl (wanted_none rfl) ?_
    intro K' hK'
    go_simp
    obtain ⟨z1, z2, z3⟩ := one_box wd (.cells #[.string (bk k), .int .u64 (t : Int), .int .i64 u] 59)
    have hd2a := keep_step hd2 hsz2r.out z3
    have yS4 : (fun W => (W.cell? ⟨w.heap.size, 0, none⟩ = some (.string (bk k)) ∧ W.cell? ⟨w.heap.size, 1, none⟩ = some (.int .u64 (t : Int)) ∧ W.cell? ⟨w.heap.size, 2, none⟩ = some (.int .i64 u)) ∧ Below (w.heap.size + 2) w2 W) (wd.alloc (.cells #[.string (bk k), .int .u64 (t : Int), .int .i64 u] 59)) := ⟨cl2 _ hd2a, hd2a⟩
    refine hK'.out _ _ (.inr yS4) ?_
    clear hK' K'
    try simp only [pa, pb, pc, Act.put, pd, pe, pf]
    refine wpAnyL_one 6 (by kernel_rfl) rfl (wanted_none rfl) ?_
    intro K' hK'
    go_simp
    obtain ⟨u1, u2, u3⟩ := one_box (wd.alloc (.cells #[.string (bk k), .int .u64 (t : Int), .int .i64 u] 59)) (.cells #[.slice ao K K, .slice (some ⟨wd.heap.size, 0, none⟩) 1 1, .slice ao 0 0] 23)
    have hd2b := keep_step hd2a hsz2r.out u3
    have yS6 : (fun W => (W.cell? ⟨w.heap.size, 0, none⟩ = some (.string (bk k)) ∧ W.cell? ⟨w.heap.size, 1, none⟩ = some (.int .u64 (t : Int)) ∧ W.cell? ⟨w.heap.size, 2, none⟩ = some (.int .i64 u)) ∧ Below (w.heap.size + 2) w2 W) ((wd.alloc (.cells #[.string (bk k), .int .u64 (t : Int), .int .i64 u] 59)).alloc (.cells #[.slice ao K K, .slice (some ⟨wd.heap.size, 0, none⟩) 1 1, .slice ao 0 0] 23)) := ⟨cl2 _ hd2b, hd2b⟩
    have hrow : Rd holdE (wd.alloc (.cells #[.string (bk k), .int .u64 (t : Int), .int .i64 u] 59)) (.slice (some ⟨wd.heap.size, 0, none⟩) 1 1) [(k, t, u)] := (Rk.made (E := holdE) (xs := [(k, t, u)]) z2 rfl (by unfold maxLen; simp)).rd
    have kct := KCT.out (wd.alloc (.cells #[.string (bk k), .int .u64 (t : Int), .int .i64 u] 59)).heap.size ((wd.alloc (.cells #[.string (bk k), .int .u64 (t : Int), .int .i64 u] 59)).alloc (.cells #[.slice ao K K, .slice (some ⟨wd.heap.size, 0, none⟩) 1 1, .slice ao 0 0] 23)) (hbw _ hd2b) _ (hrow.below u3) (by rw [cells_of_block u2]; rfl) (by rw [cells_of_block u2]; rfl) (by rw [cells_of_block u2]; rfl)
    clear hrow u2 z2
    refine hK'.out _ _ (.inr yS6) ?_
    clear hK' K'
    try simp only [pa, pb, pc, Act.put, pd, pe, pf]
    rw [z1] at *
    generalize (wd.alloc (.cells #[.string (bk k), .int .u64 (t : Int), .int .i64 u] 59)).alloc (.cells #[.slice ao K K, .slice (some ⟨wd.heap.size, 0, none⟩) 1 1, .slice ao 0 0] 23) = w7 at *
    clear u3 z3 hd2a yS4 yS
    refine wpAnyL_one 7 (by kernel_rfl) rfl (wanted_none rfl) ?_
    intro K' hK'
    go_simp
    go_at_call 136
    refine kct.mono ?_
    rintro e w8 ⟨v8, rfl, hO8, hb8⟩
    obtain ⟨g8, cap8, cur8, hv8, -⟩ := hO8.1.cells HLp.out
    subst hv8
    have hd28 := keep_step hd2b hsz2r.out hb8
    have yS8 : (fun W => (W.cell? ⟨w.heap.size, 0, none⟩ = some (.string (bk k)) ∧ W.cell? ⟨w.heap.size, 1, none⟩ = some (.int .u64 (t : Int)) ∧ W.cell? ⟨w.heap.size, 2, none⟩ = some (.int .i64 u)) ∧ Below (w.heap.size + 2) w2 W) w8 := ⟨cl2 _ hd28, hd28⟩
    have HFN : Hid (T (.returned (.tuple #[.slice (some ⟨g8, 0, none⟩) L.length cap8, .int .i64 0])) w8) := E.out _ _ (hO8.mono (hbw _ hd2b).size)
    refine hK'.out _ _ (.inr yS8) ?_
    clear hK' K'
    try simp only [pa, pb, pc, Act.put, pd, pe, pf]
    clear kct hO8 E
    refine wpAnyL_take 8 rfl (by kernel_rfl) (by kernel_rfl) (by kernel_rfl) (by kernel_rfl) (fun _ _ _ h => h) (wanted_none rfl) (by intro w' hS'; obtain ⟨⟨x0, x1, x2⟩, xb⟩ := hS'; go_simp <;> rfl) yS8 ?_
    try simp only [pa, pb, pc, Act.put, pd, pe, pf]
    refine wpAnyL_take 9 rfl (by kernel_rfl) (by kernel_rfl) (by kernel_rfl) (by kernel_rfl) (fun _ _ _ h => h) (wanted_none rfl) (by intro w' hS'; obtain ⟨⟨x0, x1, x2⟩, xb⟩ := hS'; go_simp <;> rfl) yS8 ?_
    try simp only [pa, pb, pc, Act.put, pd, pe, pf]
    refine wpAnyL_done (by kernel_rfl) (NoPanic.normal ?_) _
    go_wp2
    go_ret2
    exact ⟨HFN.out, hbw _ hd28⟩
   ·have HBK : Hid (Rd holdE w (.slice (ao.map (fun x => x.add (K * 3))) (zs.length - K) (cap - K)) (zs.drop (K))) := by have h9 := rd_back HL.out (k := K) (by omega); rw [if_neg hck] at h9; exact h9
    obtain ⟨L, HLf⟩ : ∃ L, Hid (L = [zs.take K, [(k, t, u)], zs.drop (K)].flatten) := ⟨_, rfl⟩
    have HLc : L = zs.take K ++ [(k, t, u)] ++ zs.drop (K) := by rw [HLf.out]; simp
    have E : Hid (∀ v W, Ow holdE 59 w.heap.size W v L → T (.returned (.tuple #[v, .int .i64 0])) W) := fun v W h => by
     rw [HT.out, EC.out]
     refine ⟨v, rfl, ?_⟩
     rw [HLc] at h
     exact h
    have HLl : Hid (L.length ≤ 3000) := by show _ ≤ _; rw [HLc]; simp; omega
    have HLp : Hid (0 < L.length) := by show _ < _; rw [HLc]; simp only [List.length_append, List.length_singleton]; omega
    have KCT : Hid (∀ (Q : Nat) (W : World), Below w.heap.size w W → ∀ sv, Rd holdE W sv [(k, t, u)] → W.cell? ⟨Q, 0, none⟩ = some (.slice ao K cap) → W.cell? ⟨Q, 1, none⟩ = some sv → W.cell? ⟨Q, 2, none⟩ = some (.slice (ao.map (fun x => x.add (K * 3))) (zs.length - K) (cap - K)) → Calls Tryz.prog 136 #[.slice (some ⟨Q, 0, none⟩) 3 3] W fun e w' => ∃ v, e = .returned v ∧ Ow holdE 59 W.heap.size w' v L ∧ Below W.heap.size W w') := fun Q W hW sv hsv h0 h1 h2 => by
     have hF := (HL.out.front hKl).below hW
     have hB := HBK.out.below hW
     rw [HLf.out]
     refine concath_of Q [.slice ao K cap, sv, .slice (ao.map (fun x => x.add (K * 3))) (zs.length - K) (cap - K)] [zs.take K, [(k, t, u)], zs.drop (K)] W ?_ ?_ 3 (by decide) rfl rfl (by rw [← HLf.out]; exact HLp.out) (by rw [← HLf.out]; exact HLl.out)
     ·intro i v hv
      match i, hv with
      | 0, hv => cases hv; exact h0
      | 1, hv => cases hv; exact h1
      | 2, hv => cases hv; exact h2
      | i + 3, hv => simp at hv
     ·intro i v xs hv hx
      match i, hv, hx with
      | 0, hv, hx => cases hv; cases hx; exact hF
      | 1, hv, hx => cases hv; cases hx; exact hsv
      | 2, hv, hx => cases hv; cases hx; exact hB
      | i + 3, hv, hx => simp at hv
    clear HLc HLf HT EC
    clear HL HBK HB
    go_enter Tryz.func161, Tryz.ntmps161
    go_wp2_with fail
    have cl2 : ∀ W, Below (w.heap.size + 2) ((w.alloc (.cells #[.string (bk k), .int .u64 (t : Int), .int .i64 u] 59)).alloc (.cells #[.func (.func 152) #[] #[]] 119)) W → W.cell? ⟨w.heap.size, 0, none⟩ = some (.string (bk k)) ∧ W.cell? ⟨w.heap.size, 1, none⟩ = some (.int .u64 (t : Int)) ∧ W.cell? ⟨w.heap.size, 2, none⟩ = some (.int .i64 u) := fun W hW => (clq W hW).1
    generalize ((w.alloc (.cells #[.string (bk k), .int .u64 (t : Int), .int .i64 u] 59)).alloc (.cells #[.func (.func 152) #[] #[]] 119)) = w2 at *
    refine kk.mono ?_
    rintro e w3 ⟨rfl, hb3⟩
    obtain ⟨d0, d1⟩ := clq _ hb3
    have ks3 := ks w3 hb3
    clear kk c0 c1
    go_wp2_with fail
    refine ks3.mono ?_
    rintro e w4 ⟨rfl, hb4x⟩
    have hb4 := keep_step hb3 hsz2r.out hb4x
    clear ks ks3 hb3 hb4x d0 d1
    go_wp2
    refine wp_region_L (fun W => (W.cell? ⟨w.heap.size, 0, none⟩ = some (.string (bk k)) ∧ W.cell? ⟨w.heap.size, 1, none⟩ = some (.int .u64 (t : Int)) ∧ W.cell? ⟨w.heap.size, 2, none⟩ = some (.int .i64 u)) ∧ Below (w.heap.size + 2) w2 W) [] (by kernel_rfl) ?_
    have hd2 := hb4.drew
    clear hb4
    generalize w4.drew = wd at *
    have yS : (fun W => (W.cell? ⟨w.heap.size, 0, none⟩ = some (.string (bk k)) ∧ W.cell? ⟨w.heap.size, 1, none⟩ = some (.int .u64 (t : Int)) ∧ W.cell? ⟨w.heap.size, 2, none⟩ = some (.int .i64 u)) ∧ Below (w.heap.size + 2) w2 W) wd := ⟨cl2 _ hd2, hd2⟩
    refine wpAnyL_take 0 rfl (by kernel_rfl) (by kernel_rfl) (by kernel_rfl) (by kernel_rfl) (fun _ _ _ h => h) (wanted_none rfl) (by intro w' hS'; obtain ⟨⟨x0, x1, x2⟩, xb⟩ := hS'; go_simp <;> rfl) yS ?_
    try simp only [pa, pb, pc, Act.put, pd, pe, pf]
    refine wpAnyL_take 1 rfl (by kernel_rfl) (by kernel_rfl) (by kernel_rfl) (by kernel_rfl) (fun _ _ _ h => h) (wanted_none rfl) (by intro w' hS'; obtain ⟨⟨x0, x1, x2⟩, xb⟩ := hS'; go_simp <;> rfl) yS ?_
    try simp only [pa, pb, pc, Act.put, pd, pe, pf]
    refine wpAnyL_take 2 rfl (by kernel_rfl) (by kernel_rfl) (by kernel_rfl) (by kernel_rfl) (fun _ _ _ h => h) (wanted_none rfl) (by intro w' hS'; obtain ⟨⟨x0, x1, x2⟩, xb⟩ := hS'; go_simp <;> rfl) yS ?_
    try simp only [pa, pb, pc, Act.put, pd, pe, pf]
    refine wpAnyL_take 3 rfl (by kernel_rfl) (by kernel_rfl) (by kernel_rfl) (by kernel_rfl) (fun _ _ _ h => h) (wanted_none rfl) (by intro w' hS'; obtain ⟨⟨x0, x1, x2⟩, xb⟩ := hS'; go_simp <;> rfl) yS ?_
    try simp only [pa, pb, pc, Act.put, pd, pe, pf]
    refine wpAnyL_take 5 rfl (by kernel_rfl) (by kernel_rfl) (by kernel_rfl) (by kernel_rfl) (fun _ _ _ h => h) (wanted_none rfl) (by intro w' hS'; obtain ⟨⟨x0, x1, x2⟩, xb⟩ := hS'; go_simp <;> rfl) yS ?_
    try simp only [pa, pb, pc, Act.put, pd, pe, pf]
    refine wpAnyL_one 4 (by kernel_rfl) rfl (wanted_none rfl) ?_
    intro K' hK'
    go_simp
    obtain ⟨z1, z2, z3⟩ := one_box wd (.cells #[.string (bk k), .int .u64 (t : Int), .int .i64 u] 59)
    have hd2a := keep_step hd2 hsz2r.out z3
    have yS4 : (fun W => (W.cell? ⟨w.heap.size, 0, none⟩ = some (.string (bk k)) ∧ W.cell? ⟨w.heap.size, 1, none⟩ = some (.int .u64 (t : Int)) ∧ W.cell? ⟨w.heap.size, 2, none⟩ = some (.int .i64 u)) ∧ Below (w.heap.size + 2) w2 W) (wd.alloc (.cells #[.string (bk k), .int .u64 (t : Int), .int .i64 u] 59)) := ⟨cl2 _ hd2a, hd2a⟩
    refine hK'.out _ _ (.inr yS4) ?_
    clear hK' K'
    try simp only [pa, pb, pc, Act.put, pd, pe, pf]
    refine wpAnyL_one 6 (by kernel_rfl) rfl (wanted_none rfl) ?_
    intro K' hK'
    go_simp
    obtain ⟨u1, u2, u3⟩ := one_box (wd.alloc (.cells #[.string (bk k), .int .u64 (t : Int), .int .i64 u] 59)) (.cells #[.slice ao K cap, .slice (some ⟨wd.heap.size, 0, none⟩) 1 1, .slice (ao.map (fun x => x.add (K * 3))) (zs.length - K) (cap - K)] 23)
    have hd2b := keep_step hd2a hsz2r.out u3
    have yS6 : (fun W => (W.cell? ⟨w.heap.size, 0, none⟩ = some (.string (bk k)) ∧ W.cell? ⟨w.heap.size, 1, none⟩ = some (.int .u64 (t : Int)) ∧ W.cell? ⟨w.heap.size, 2, none⟩ = some (.int .i64 u)) ∧ Below (w.heap.size + 2) w2 W) ((wd.alloc (.cells #[.string (bk k), .int .u64 (t : Int), .int .i64 u] 59)).alloc (.cells #[.slice ao K cap, .slice (some ⟨wd.heap.size, 0, none⟩) 1 1, .slice (ao.map (fun x => x.add (K * 3))) (zs.length - K) (cap - K)] 23)) := ⟨cl2 _ hd2b, hd2b⟩
    have hrow : Rd holdE (wd.alloc (.cells #[.string (bk k), .int .u64 (t : Int), .int .i64 u] 59)) (.slice (some ⟨wd.heap.size, 0, none⟩) 1 1) [(k, t, u)] := (Rk.made (E := holdE) (xs := [(k, t, u)]) z2 rfl (by unfold maxLen; simp)).rd
    have kct := KCT.out (wd.alloc (.cells #[.string (bk k), .int .u64 (t : Int), .int .i64 u] 59)).heap.size ((wd.alloc (.cells #[.string (bk k), .int .u64 (t : Int), .int .i64 u] 59)).alloc (.cells #[.slice ao K cap, .slice (some ⟨wd.heap.size, 0, none⟩) 1 1, .slice (ao.map (fun x => x.add (K * 3))) (zs.length - K) (cap - K)] 23)) (hbw _ hd2b) _ (hrow.below u3) (by rw [cells_of_block u2]; rfl) (by rw [cells_of_block u2]; rfl) (by rw [cells_of_block u2]; rfl)
    clear hrow u2 z2
    refine hK'.out _ _ (.inr yS6) ?_
    clear hK' K'
    try simp only [pa, pb, pc, Act.put, pd, pe, pf]
    rw [z1] at *
    generalize (wd.alloc (.cells #[.string (bk k), .int .u64 (t : Int), .int .i64 u] 59)).alloc (.cells #[.slice ao K cap, .slice (some ⟨wd.heap.size, 0, none⟩) 1 1, .slice (ao.map (fun x => x.add (K * 3))) (zs.length - K) (cap - K)] 23) = w7 at *
    clear u3 z3 hd2a yS4 yS
    refine wpAnyL_one 7 (by kernel_rfl) rfl (wanted_none rfl) ?_
    intro K' hK'
    go_simp
    go_at_call 136
    refine kct.mono ?_
    rintro e w8 ⟨v8, rfl, hO8, hb8⟩
    obtain ⟨g8, cap8, cur8, hv8, -⟩ := hO8.1.cells HLp.out
    subst hv8
    have hd28 := keep_step hd2b hsz2r.out hb8
    have yS8 : (fun W => (W.cell? ⟨w.heap.size, 0, none⟩ = some (.string (bk k)) ∧ W.cell? ⟨w.heap.size, 1, none⟩ = some (.int .u64 (t : Int)) ∧ W.cell? ⟨w.heap.size, 2, none⟩ = some (.int .i64 u)) ∧ Below (w.heap.size + 2) w2 W) w8 := ⟨cl2 _ hd28, hd28⟩
    have HFN : Hid (T (.returned (.tuple #[.slice (some ⟨g8, 0, none⟩) L.length cap8, .int .i64 0])) w8) := E.out _ _ (hO8.mono (hbw _ hd2b).size)
    refine hK'.out _ _ (.inr yS8) ?_
    clear hK' K'
    try simp only [pa, pb, pc, Act.put, pd, pe, pf]
    clear kct hO8 E
    refine wpAnyL_take 8 rfl (by kernel_rfl) (by kernel_rfl) (by kernel_rfl) (by kernel_rfl) (fun _ _ _ h => h) (wanted_none rfl) (by intro w' hS'; obtain ⟨⟨x0, x1, x2⟩, xb⟩ := hS'; go_simp <;> rfl) yS8 ?_
    try simp only [pa, pb, pc, Act.put, pd, pe, pf]
    refine wpAnyL_take 9 rfl (by kernel_rfl) (by kernel_rfl) (by kernel_rfl) (by kernel_rfl) (fun _ _ _ h => h) (wanted_none rfl) (by intro w' hS'; obtain ⟨⟨x0, x1, x2⟩, xb⟩ := hS'; go_simp <;> rfl) yS8 ?_
    try simp only [pa, pb, pc, Act.put, pd, pe, pf]
    refine wpAnyL_done (by kernel_rfl) (NoPanic.normal ?_) _
    go_wp2
    go_ret2
    exact ⟨HFN.out, hbw _ hd28⟩
end Go.Proofs.YtfpbgfmnjpamlaaGreat

/- The program's Set. -/
namespace Go.Proofs.YtfpbgfmnjpamlaaGreat
open Go.RowKit LeaseMath
set_option maxRecDepth 100000
set_option linter.unusedSimpArgs false
set_option linter.unusedVariables false

theorem setM_put {β : Type} {ok : K × β → Bool} {l : List (K × β)} {k : Nat} {s : K × β} (h : (mayB ok l && ok s) = true) : setM ok l k s = putC l k s := by
 unfold setM putC
 rw [h, if_pos rfl]
set_option maxHeartbeats 2000000 in
theorem set_of (zs : List Hd) (lv : Value) (z : Hd) (K : Nat) (w : World) (hL : Rd holdE w lv zs) (hS : mayB holdB zs = true → Plc zs z.1 K) : Calls Tryz.prog 111 #[lv, hv z] w fun e w' => PutT holdE 59 w.heap.size (setM holdB zs K z) e w' ∧ Below w.heap.size w w' := by
 obtain ⟨T, HT⟩ : ∃ T, Hid (T = PutT holdE 59 w.heap.size (setM holdB zs K z)) := ⟨_, rfl⟩
 rw [← HT.out]
 obtain ⟨hs, hb, cl⟩ := hd_box w z
 have kc := checkh_of (hL.below hb)
 rw [hs] at kc
 have km := fun W => mayHold_of z W
 have HL : Hid (Rd holdE w lv zs) := hL
 obtain ⟨c0, c1, c2⟩ := cl _ (Below.refl _ _)
 obtain ⟨ao, cap, rfl, -, -⟩ := hL.shape
 have hsr : Hid (w.heap.size + 1 ≤ (w.alloc (hc z)).heap.size) := by show _ ≤ _; omega
 clear hL hs
 cases hm : mayB holdB zs with
 | false =>
  have E : Hid (∀ W, T (.returned (.tuple #[.slice none 0 0, .int .i64 1])) W) := fun W => by
   rw [HT.out, set_no (by rw [hm]; rfl)]
   exact ⟨_, rfl, Ow.nil _ _ _ _⟩
  rw [hm] at kc
  simp only [Bool.false_eq_true, if_false] at kc
  obtain ⟨k, t, u⟩ := z
  dsimp only [hv, hc] at *
  clear HT HL hm hS km cl hsr
  go_enter Tryz.func111, Tryz.ntmps111
  go_wp2_with fail
  refine kc.mono ?_
  rintro e w1 ⟨rfl, hb1⟩
  have hb2 := hb.trans (hb1.mono (Nat.le_succ _))
  clear kc c0 c1 c2
  go_wp2
  go_ret2
  exact ⟨E.out _, hb2⟩
 | true =>
  rw [hm] at kc
  simp only [if_true] at kc
  have hp := hS hm
  have hlen := (may_iff.1 hm).1
  cases ho : holdB z with
  | false =>
   have E : Hid (∀ W, T (.returned (.tuple #[.slice none 0 0, .int .i64 1])) W) := fun W => by
    rw [HT.out, set_no (by rw [hm, ho]; rfl)]
    exact ⟨_, rfl, Ow.nil _ _ _ _⟩
   rw [ho] at km
   obtain ⟨k, t, u⟩ := z
   dsimp only [hv, hc] at *
   clear HT HL hm hS hp ho
   go_enter Tryz.func111, Tryz.ntmps111
   go_wp2_with fail
   refine kc.mono ?_
   rintro e w1 ⟨rfl, hb1⟩
   have hb2 := hb.trans (hb1.mono (Nat.le_succ _))
   obtain ⟨d0, d1, d2⟩ := cl _ hb1
   have km1 := km w1
   clear kc c0 c1 c2 km cl
   go_wp2_with fail
   refine km1.mono ?_
   rintro e w2 ⟨rfl, hb3⟩
   have hb4 := hb2.trans (hb3.mono hb2.size)
   clear km1
   go_wp2
   go_ret2
   exact ⟨E.out _, hb4⟩
  | true =>
   have kp : ∀ W, Below w.heap.size w W → _ := fun W hW => puth_of zs _ z K W (HL.out.below hW) hlen hp
   have E : Hid (∀ e W n, w.heap.size ≤ n → PutT holdE 59 n (putC zs K z) e W → T e W) := fun e W n hn h => by
    rw [HT.out, setM_put (by rw [hm, ho]; rfl)]
    obtain ⟨v, h1, h2⟩ := h
    exact ⟨v, h1, h2.mono hn⟩
   rw [ho] at km
   generalize putC zs K z = m at *
   obtain ⟨k, t, u⟩ := z
   dsimp only [hv, hc] at *
   clear HT HL hm hS hp ho
   go_enter Tryz.func111, Tryz.ntmps111
   go_wp2_with fail
   refine kc.mono ?_
   rintro e w1 ⟨rfl, hb1⟩
   have hb2 := hb.trans (hb1.mono (Nat.le_succ _))
   obtain ⟨d0, d1, d2⟩ := cl _ hb1
   have km1 := km w1
   clear kc c0 c1 c2 km
   go_wp2_with fail
   refine km1.mono ?_
   rintro e w2 ⟨rfl, hb3⟩
   have hb4 := hb2.trans (hb3.mono hb2.size)
   have hb1' := keep_step hb1 hsr.out hb3
   obtain ⟨e0, e1, e2⟩ := cl _ hb1'
   have kp2 := kp w2 hb4
   clear km1 hb1 hb3 d0 d1 d2 kp cl hb2
   go_wp2_with fail
   refine kp2.mono ?_
   rintro e w3 ⟨hT, hb5⟩
   have HF := E.out _ _ _ hb4.size hT
   obtain ⟨v, rfl, hO⟩ := hT
   have hb6 := hb4.trans (hb5.mono hb4.size)
   obtain ⟨sa, sc, rfl, -⟩ := hO.1.shape
   have HFH : Hid _ := HF
   clear kp2 hO E HF hb5 hb4 e0 e1 e2 hb1'
   generalize m.1.length = ml at *
   generalize m.2 = mr at *
   go_wp2
   go_ret2
   exact ⟨HFH.out, hb6⟩
end Go.Proofs.YtfpbgfmnjpamlaaGreat

