import Derived.Test.YtfpbgfmnjpamlaaGreatHv16
import Derived.Test.YtfpbgfmnjpamlaaGreatHv20
import Derived.Test.YtfpbgfmnjpamlaaGreatHv22
import Derived.Test.YtfpbgfmnjpamlaaGreatHv24
/- The program's put. -/
namespace Go.Proofs.YtfpbgfmnjpamlaaGreat
open Go.RowKit LeaseMath
set_option maxRecDepth 100000
set_option linter.unusedSimpArgs false
set_option linter.unusedVariables false

set_option maxHeartbeats 8000000 in
theorem putm_of (zs : List Mk) (lv : Value) (z : Mk) (K : Nat) (w : World) (hL : Rd markE w lv zs) (hlen : zs.length ≤ 1024) (hS : Plc zs z.1 K) : Calls Tryz.prog 164 #[lv, mv z, .func (.func 155) #[] #[]] w fun e w' => PutT markE 61 w.heap.size (putC zs K z) e w' ∧ Below w.heap.size w w' := by
 obtain ⟨T, HT⟩ : ∃ T, Hid (T = PutT markE 61 w.heap.size (putC zs K z)) := ⟨_, rfl⟩
 rw [← HT.out]
 have hKl : K ≤ zs.length := hS.1
 obtain ⟨hs1, hb1, cl1⟩ := mk_box w z
 obtain ⟨p1, p2, p3⟩ := one_box (w.alloc (mc z)) (.cells #[.func (.func 155) #[] #[]] 121)
 have hb2 : Below w.heap.size w _ := hb1.trans (p3.mono hb1.size)
 have kk := keym_of z ((w.alloc (mc z)).alloc (.cells #[.func (.func 155) #[] #[]] 121))
 rw [p1, hs1] at kk
 rw [hs1] at p1 p2 p3
 have clq : ∀ W, Below (w.heap.size + 2) ((w.alloc (mc z)).alloc (.cells #[.func (.func 155) #[] #[]] 121)) W → (W.cell? ⟨w.heap.size, 0, none⟩ = some (.string (bk z.1)) ∧ W.cell? ⟨w.heap.size, 1, none⟩ = some (.int .u64 (z.2 : Int))) ∧ W.cell? ⟨w.heap.size + 1, 0, none⟩ = some (.func (.func 155) #[] #[]) := fun W hW => ⟨cl1 W (p3.trans (hW.mono (Nat.le_succ _))), by
  have := (hW.block (w.heap.size + 1) (Nat.lt_succ_self _)).trans p2
  rw [cells_of_block this]
  rfl⟩
 have hbw : ∀ W, Below (w.heap.size + 2) ((w.alloc (mc z)).alloc (.cells #[.func (.func 155) #[] #[]] 121)) W → Below w.heap.size w W := fun W hW => hb2.trans (hW.mono (by omega))
 have ks : ∀ W, Below (w.heap.size + 2) ((w.alloc (mc z)).alloc (.cells #[.func (.func 155) #[] #[]] 121)) W → _ := fun W hW => searchm_of zs lv z.1 K W (clq W hW).2 (hL.below (hbw W hW)) (by omega) hS
 have HL : Hid (Rd markE w lv zs) := hL
 obtain ⟨ao, cap, rfl, hcap, hcn⟩ := hL.shape
 have HB : Hid (hasB zs K z.1 = hasB zs K z.1) := rfl
 obtain ⟨c0, c1⟩ := clq _ (Below.refl _ _)
 obtain ⟨k, t⟩ := z
 dsimp only [mv, mc] at *
 have hsz2r : Hid (w.heap.size + 2 ≤ ((w.alloc (.cells #[.string (bk k), .int .u64 (t : Int)] 61)).alloc (.cells #[.func (.func 155) #[] #[]] 121)).heap.size) := by show _ ≤ _; omega
 have hKli : (K : Int) ≤ (zs.length : Int) := by omega
 have hKc : K ≤ cap := by omega
 have hKci : (K : Int) ≤ (cap : Int) := by omega
 clear hL hb1 cl1 p1 p2 p3 hb2 hcn
 cases hB : hasB zs K k with
 | true =>
  have EC : Hid (putC zs K (k, t) = (zs.take K ++ [(k, t)] ++ zs.drop (K + 1), 0)) := putC_has hlen hKl hB
  obtain ⟨s', hs', -⟩ := has_lt hB
  have hKlt : K < zs.length := (List.getElem?_eq_some_iff.1 hs').1
  have hck0 : ¬ cap = K := by omega
  have hck0' : ¬ K = cap := by omega
  have hK1c : K + 1 ≤ cap := by omega
  have hK1ci : (K : Int) + 1 ≤ (cap : Int) := by omega
  have hK1l : (K : Int) + 1 ≤ (zs.length : Int) := by omega
  have j1 : IntKind.i64.wrap ((K : Int) + 1) = (K : Int) + 1 := IntWalk.i64_in _ (by omega)
  have j2 : ((K : Int) + 1).toNat = K + 1 := by omega
  have hKK : (K : Int) ≤ (K : Int) + 1 := by omega
  rw [hB] at ks
  clear hS hs' hB
  by_cases hck : cap = K + 1
  ·have hck' : K + 1 = cap := hck.symm
   subst hck'
   have HBK : Hid (Rd markE w (.slice ao 0 0) (zs.drop (K + 1))) := by have h9 := rd_back HL.out (k := K + 1) (by omega); rw [if_pos rfl, Nat.sub_self, show zs.length - (K + 1) = 0 by omega] at h9; exact h9
   obtain ⟨L, HLf⟩ : ∃ L, Hid (L = [zs.take K, [(k, t)], zs.drop (K + 1)].flatten) := ⟨_, rfl⟩
   have HLc : L = zs.take K ++ [(k, t)] ++ zs.drop (K + 1) := by rw [HLf.out]; simp
   have E : Hid (∀ v W, Ow markE 61 w.heap.size W v L → T (.returned (.tuple #[v, .int .i64 0])) W) := fun v W h => by
    rw [HT.out, EC.out]
    refine ⟨v, rfl, ?_⟩
    rw [HLc] at h
    exact h
   have HLl : Hid (L.length ≤ 3000) := by show _ ≤ _; rw [HLc]; simp; omega
   have HLp : Hid (0 < L.length) := by show _ < _; rw [HLc]; simp only [List.length_append, List.length_singleton]; omega
   have KCT : Hid (∀ (Q : Nat) (W : World), Below w.heap.size w W → ∀ sv, Rd markE W sv [(k, t)] → W.cell? ⟨Q, 0, none⟩ = some (.slice ao K (K + 1)) → W.cell? ⟨Q, 1, none⟩ = some sv → W.cell? ⟨Q, 2, none⟩ = some (.slice ao 0 0) → Calls Tryz.prog 140 #[.slice (some ⟨Q, 0, none⟩) 3 3] W fun e w' => ∃ v, e = .returned v ∧ Ow markE 61 W.heap.size w' v L ∧ Below W.heap.size W w') := fun Q W hW sv hsv h0 h1 h2 => by
    have hF := (HL.out.front hKl).below hW
    have hB := HBK.out.below hW
    rw [HLf.out]
    refine concatm_of Q [.slice ao K (K + 1), sv, .slice ao 0 0] [zs.take K, [(k, t)], zs.drop (K + 1)] W ?_ ?_ 3 (by decide) rfl rfl (by rw [← HLf.out]; exact HLp.out) (by rw [← HLf.out]; exact HLl.out)
    ·intro i v hv
     match i, hv with
     | 0, hv => cases hv; exact h0
     | 1, hv => cases hv; exact h1
     | 2, hv => cases hv; exact h2
     | i + 3, hv => simp at hv
    ·intro i v xs hv hx
     match i, hv, hx with
     | 0, hv, hx => cases hv; cases hx; exact hF
     | 1, hv, hx => cases hv; cases hx; exact hsv
     | 2, hv, hx => cases hv; cases hx; exact hB
     | i + 3, hv, hx => simp at hv
   clear HLc HLf HT EC
   clear HL HBK HB
   go_enter Tryz.func164, Tryz.ntmps164
   go_wp2_with fail
   have cl2 : ∀ W, Below (w.heap.size + 2) ((w.alloc (.cells #[.string (bk k), .int .u64 (t : Int)] 61)).alloc (.cells #[.func (.func 155) #[] #[]] 121)) W → W.cell? ⟨w.heap.size, 0, none⟩ = some (.string (bk k)) ∧ W.cell? ⟨w.heap.size, 1, none⟩ = some (.int .u64 (t : Int)) := fun W hW => (clq W hW).1
   generalize ((w.alloc (.cells #[.string (bk k), .int .u64 (t : Int)] 61)).alloc (.cells #[.func (.func 155) #[] #[]] 121)) = w2 at *
   refine kk.mono ?_
   rintro e w3 ⟨rfl, hb3⟩
   obtain ⟨d0, d1⟩ := clq _ hb3
   have ks3 := ks w3 hb3
   clear kk c0 c1
   go_wp2_with fail
   refine ks3.mono ?_
   rintro e w4 ⟨rfl, hb4x⟩
   have hb4 := keep_step hb3 hsz2r.out hb4x
   clear ks ks3 hb3 hb4x d0 d1
   go_wp2
   refine wp_region_L (fun W => (W.cell? ⟨w.heap.size, 0, none⟩ = some (.string (bk k)) ∧ W.cell? ⟨w.heap.size, 1, none⟩ = some (.int .u64 (t : Int))) ∧ Below (w.heap.size + 2) w2 W) [] (by kernel_rfl) ?_
   have hd2 := hb4.drew
   clear hb4
   generalize w4.drew = wd at *
   have yS : (fun W => (W.cell? ⟨w.heap.size, 0, none⟩ = some (.string (bk k)) ∧ W.cell? ⟨w.heap.size, 1, none⟩ = some (.int .u64 (t : Int))) ∧ Below (w.heap.size + 2) w2 W) wd := ⟨cl2 _ hd2, hd2⟩
   refine wpAnyL_take 0 rfl (by kernel_rfl) (by kernel_rfl) (by kernel_rfl) (by kernel_rfl) (fun _ _ _ h => h) (wanted_none rfl) (by intro w' hS'; obtain ⟨⟨x0, x1⟩, xb⟩ := hS'; go_simp <;> rfl) yS ?_
   try simp only [pa, pb, pc, Act.put, pd, pe, pf]
   refine wpAnyL_take 1 rfl (by kernel_rfl) (by kernel_rfl) (by kernel_rfl) (by kernel_rfl) (fun _ _ _ h => h) (wanted_none rfl) (by intro w' hS'; obtain ⟨⟨x0, x1⟩, xb⟩ := hS'; go_simp <;> rfl) yS ?_
   try simp only [pa, pb, pc, Act.put, pd, pe, pf]
   refine wpAnyL_take 2 rfl (by kernel_rfl) (by kernel_rfl) (by kernel_rfl) (by kernel_rfl) (fun _ _ _ h => h) (wanted_none rfl) (by intro w' hS'; obtain ⟨⟨x0, x1⟩, xb⟩ := hS'; go_simp <;> rfl) yS ?_
   try simp only [pa, pb, pc, Act.put, pd, pe, pf]
   refine wpAnyL_take 3 rfl (by kernel_rfl) (by kernel_rfl) (by kernel_rfl) (by kernel_rfl) (fun _ _ _ h => h) (wanted_none rfl) (by intro w' hS'; obtain ⟨⟨x0, x1⟩, xb⟩ := hS'; go_simp <;> rfl) yS ?_
   try simp only [pa, pb, pc, Act.put, pd, pe, pf]
   refine wpAnyL_take 5 rfl (by kernel_rfl) (by kernel_rfl) (by kernel_rfl) (by kernel_rfl) (fun _ _ _ h => h) (wanted_none rfl) (by intro w' hS'; obtain ⟨⟨x0, x1⟩, xb⟩ := hS'; go_simp <;> rfl) yS ?_
   try simp only [pa, pb, pc, Act.put, pd, pe, pf]
   refine wpAnyL_one 4 (by kernel_rfl) rfl (wanted_none rfl) ?_
   intro K' hK'
   go_simp
   obtain ⟨z1, z2, z3⟩ := one_box wd (.cells #[.string (bk k), .int .u64 (t : Int)] 61)
   have hd2a := keep_step hd2 hsz2r.out z3
   have yS4 : (fun W => (W.cell? ⟨w.heap.size, 0, none⟩ = some (.string (bk k)) ∧ W.cell? ⟨w.heap.size, 1, none⟩ = some (.int .u64 (t : Int))) ∧ Below (w.heap.size + 2) w2 W) (wd.alloc (.cells #[.string (bk k), .int .u64 (t : Int)] 61)) := ⟨cl2 _ hd2a, hd2a⟩
   refine hK'.out _ _ (.inr yS4) ?_
   clear hK' K'
   try simp only [pa, pb, pc, Act.put, pd, pe, pf]
   refine wpAnyL_one 6 (by kernel_rfl) rfl (wanted_none rfl) ?_
   intro K' hK'
   go_simp
   obtain ⟨u1, u2, u3⟩ := one_box (wd.alloc (.cells #[.string (bk k), .int .u64 (t : Int)] 61)) (.cells #[.slice ao K (K + 1), .slice (some ⟨wd.heap.size, 0, none⟩) 1 1, .slice ao 0 0] 24)
   have hd2b := keep_step hd2a hsz2r.out u3
   have yS6 : (fun W => (W.cell? ⟨w.heap.size, 0, none⟩ = some (.string (bk k)) ∧ W.cell? ⟨w.heap.size, 1, none⟩ = some (.int .u64 (t : Int))) ∧ Below (w.heap.size + 2) w2 W) ((wd.alloc (.cells #[.string (bk k), .int .u64 (t : Int)] 61)).alloc (.cells #[.slice ao K (K + 1), .slice (some ⟨wd.heap.size, 0, none⟩) 1 1, .slice ao 0 0] 24)) := ⟨cl2 _ hd2b, hd2b⟩
   have hrow : Rd markE (wd.alloc (.cells #[.string (bk k), .int .u64 (t : Int)] 61)) (.slice (some ⟨wd.heap.size, 0, none⟩) 1 1) [(k, t)] := (Rk.made (E := markE) (xs := [(k, t)]) z2 rfl (by unfold maxLen; simp)).rd
   have kct := KCT.out (wd.alloc (.cells #[.string (bk k), .int .u64 (t : Int)] 61)).heap.size ((wd.alloc (.cells #[.string (bk k), .int .u64 (t : Int)] 61)).alloc (.cells #[.slice ao K (K + 1), .slice (some ⟨wd.heap.size, 0, none⟩) 1 1, .slice ao 0 0] 24)) (hbw _ hd2b) _ (hrow.below u3) (by rw [cells_of_block u2]; rfl) (by rw [cells_of_block u2]; rfl) (by rw [cells_of_block u2]; rfl)
   clear hrow u2 z2
   refine hK'.out _ _ (.inr yS6) ?_
   clear hK' K'
   try simp only [pa, pb, pc, Act.put, pd, pe, pf]
   rw [z1] at *
   generalize (wd.alloc (.cells #[.string (bk k), .int .u64 (t : Int)] 61)).alloc (.cells #[.slice ao K (K + 1), .slice (some ⟨wd.heap.size, 0, none⟩) 1 1, .slice ao 0 0] 24) = w7 at *
   clear u3 z3 hd2a yS4 yS
   refine wpAnyL_one 7 (by kernel_rfl) rfl (wanted_none rfl) ?_
   intro K' hK'
   go_simp
   go_at_call 140
   refine kct.mono ?_
   rintro e w8 ⟨v8, rfl, hO8, hb8⟩
   obtain ⟨g8, cap8, cur8, hv8, -⟩ := hO8.1.cells HLp.out
   subst hv8
   have hd28 := keep_step hd2b hsz2r.out hb8
   have yS8 : (fun W => (W.cell? ⟨w.heap.size, 0, none⟩ = some (.string (bk k)) ∧ W.cell? ⟨w.heap.size, 1, none⟩ = some (.int .u64 (t : Int))) ∧ Below (w.heap.size + 2) w2 W) w8 := ⟨cl2 _ hd28, hd28⟩
   have HFN : Hid (T (.returned (.tuple #[.slice (some ⟨g8, 0, none⟩) L.length cap8, .int .i64 0])) w8) := E.out _ _ (hO8.mono (hbw _ hd2b).size)
   refine hK'.out _ _ (.inr yS8) ?_
   clear hK' K'
   try simp only [pa, pb, pc, Act.put, pd, pe, pf]
   clear kct hO8 E
   refine wpAnyL_take 8 rfl (by kernel_rfl) (by kernel_rfl) (by kernel_rfl) (by kernel_rfl) (fun _ _ _ h => h) (wanted_none rfl) (by intro w' hS'; obtain ⟨⟨x0, x1⟩, xb⟩ := hS'; go_simp <;> rfl) yS8 ?_
   try simp only [pa, pb, pc, Act.put, pd, pe, pf]
   refine wpAnyL_take 9 rfl (by kernel_rfl) (by kernel_rfl) (by kernel_rfl) (by kernel_rfl) (fun _ _ _ h => h) (wanted_none rfl) (by intro w' hS'; obtain ⟨⟨x0, x1⟩, xb⟩ := hS'; go_simp <;> rfl) yS8 ?_
   try simp only [pa, pb, pc, Act.put, pd, pe, pf]
   refine wpAnyL_done (by kernel_rfl) (NoPanic.normal ?_) _
   go_wp2
   go_ret2
   exact ⟨HFN.out, hbw _ hd28⟩
  ·have HBK : Hid (Rd markE w (.slice (ao.map (fun x => x.add ((K + 1) * 2))) (zs.length - (K + 1)) (cap - (K + 1))) (zs.drop (K + 1))) := by have h9 := rd_back HL.out (k := K + 1) (by omega); rw [if_neg hck] at h9; exact h9
   obtain ⟨L, HLf⟩ : ∃ L, Hid (L = [zs.take K, [(k, t)], zs.drop (K + 1)].flatten) := ⟨_, rfl⟩
   have HLc : L = zs.take K ++ [(k, t)] ++ zs.drop (K + 1) := by rw [HLf.out]; simp
   have E : Hid (∀ v W, Ow markE 61 w.heap.size W v L → T (.returned (.tuple #[v, .int .i64 0])) W) := fun v W h => by
    rw [HT.out, EC.out]
    refine ⟨v, rfl, ?_⟩
    rw [HLc] at h
    exact h
   have HLl : Hid (L.length ≤ 3000) := by show _ ≤ _; rw [HLc]; simp; omega
   have HLp : Hid (0 < L.length) := by show _ < _; rw [HLc]; simp only [List.length_append, List.length_singleton]; omega
   have KCT : Hid (∀ (Q : Nat) (W : World), Below w.heap.size w W → ∀ sv, Rd markE W sv [(k, t)] → W.cell? ⟨Q, 0, none⟩ = some (.slice ao K cap) → W.cell? ⟨Q, 1, none⟩ = some sv → W.cell? ⟨Q, 2, none⟩ = some (.slice (ao.map (fun x => x.add ((K + 1) * 2))) (zs.length - (K + 1)) (cap - (K + 1))) → Calls Tryz.prog 140 #[.slice (some ⟨Q, 0, none⟩) 3 3] W fun e w' => ∃ v, e = .returned v ∧ Ow markE 61 W.heap.size w' v L ∧ Below W.heap.size W w') := fun Q W hW sv hsv h0 h1 h2 => by
    have hF := (HL.out.front hKl).below hW
    have hB := HBK.out.below hW
    rw [HLf.out]
    refine concatm_of Q [.slice ao K cap, sv, .slice (ao.map (fun x => x.add ((K + 1) * 2))) (zs.length - (K + 1)) (cap - (K + 1))] [zs.take K, [(k, t)], zs.drop (K + 1)] W ?_ ?_ 3 (by decide) rfl rfl (by rw [← HLf.out]; exact HLp.out) (by rw [← HLf.out]; exact HLl.out)
    ·intro i v hv
     match i, hv with
     | 0, hv => cases hv; exact h0
     | 1, hv => cases hv; exact h1
     | 2, hv => cases hv; exact h2
     | i + 3, hv => simp at hv
    ·intro i v xs hv hx
     match i, hv, hx with
     | 0, hv, hx => cases hv; cases hx; exact hF
     | 1, hv, hx => cases hv; cases hx; exact hsv
     | 2, hv, hx => cases hv; cases hx; exact hB
     | i + 3, hv, hx => simp at hv
   clear HLc HLf HT EC
   clear HL HBK HB
   go_enter Tryz.func164, Tryz.ntmps164
   go_wp2_with fail
   have cl2 : ∀ W, Below (w.heap.size + 2) ((w.alloc (.cells #[.string (bk k), .int .u64 (t : Int)] 61)).alloc (.cells #[.func (.func 155) #[] #[]] 121)) W → W.cell? ⟨w.heap.size, 0, none⟩ = some (.string (bk k)) ∧ W.cell? ⟨w.heap.size, 1, none⟩ = some (.int .u64 (t : Int)) := fun W hW => (clq W hW).1
   generalize ((w.alloc (.cells #[.string (bk k), .int .u64 (t : Int)] 61)).alloc (.cells #[.func (.func 155) #[] #[]] 121)) = w2 at *
   refine kk.mono ?_
   rintro e w3 ⟨rfl, hb3⟩
   obtain ⟨d0, d1⟩ := clq _ hb3
   have ks3 := ks w3 hb3
   clear kk c0 c1
   go_wp2_with fail
   refine ks3.mono ?_
   rintro e w4 ⟨rfl, hb4x⟩
   have hb4 := keep_step hb3 hsz2r.out hb4x
   clear ks ks3 hb3 hb4x d0 d1
   go_wp2
   refine wp_region_L (fun W => (W.cell? ⟨w.heap.size, 0, none⟩ = some (.string (bk k)) ∧ W.cell? ⟨w.heap.size, 1, none⟩ = some (.int .u64 (t : Int))) ∧ Below (w.heap.size + 2) w2 W) [] (by kernel_rfl) ?_
   have hd2 := hb4.drew
   clear hb4
   generalize w4.drew = wd at *
   have yS : (fun W => (W.cell? ⟨w.heap.size, 0, none⟩ = some (.string (bk k)) ∧ W.cell? ⟨w.heap.size, 1, none⟩ = some (.int .u64 (t : Int))) ∧ Below (w.heap.size + 2) w2 W) wd := ⟨cl2 _ hd2, hd2⟩
   refine wpAnyL_take 0 rfl (by kernel_rfl) (by kernel_rfl) (by kernel_rfl) (by kernel_rfl) (fun _ _ _ h => h) (wanted_none rfl) (by intro w' hS'; obtain ⟨⟨x0, x1⟩, xb⟩ := hS'; go_simp <;> rfl) yS ?_
   try simp only [pa, pb, pc, Act.put, pd, pe, pf]
   refine wpAnyL_take 1 rfl (by kernel_rfl) (by kernel_rfl) (by kernel_rfl) (by kernel_rfl) (fun _ _ _ h => h) (wanted_none rfl) (by intro w' hS'; obtain ⟨⟨x0, x1⟩, xb⟩ := hS'; go_simp <;> rfl) yS ?_
   try simp only [pa, pb, pc, Act.put, pd, pe, pf]
   refine wpAnyL_take 2 rfl (by kernel_rfl) (by kernel_rfl) (by kernel_rfl) (by kernel_rfl) (fun _ _ _ h => h) (wanted_none rfl) (by intro w' hS'; obtain ⟨⟨x0, x1⟩, xb⟩ := hS'; go_simp <;> rfl) yS ?_
   try simp only [pa, pb, pc, Act.put, pd, pe, pf]
   refine wpAnyL_take 3 rfl (by kernel_rfl) (by kernel_rfl) (by kernel_rfl) (by kernel_rfl) (fun _ _ _ h => h) (wanted_none rfl) (by intro w' hS'; obtain ⟨⟨x0, x1⟩, xb⟩ := hS'; go_simp <;> rfl) yS ?_
   try simp only [pa, pb, pc, Act.put, pd, pe, pf]
   refine wpAnyL_take 5 rfl (by kernel_rfl) (by kernel_rfl) (by kernel_rfl) (by kernel_rfl) (fun _ _ _ h => h) (wanted_none rfl) (by intro w' hS'; obtain ⟨⟨x0, x1⟩, xb⟩ := hS'; go_simp <;> rfl) yS ?_
   try simp only [pa, pb, pc, Act.put, pd, pe, pf]
   refine wpAnyL_one 4 (by kernel_rfl) rfl (wanted_none rfl) ?_
   intro K' hK'
   go_simp
   obtain ⟨z1, z2, z3⟩ := one_box wd (.cells #[.string (bk k), .int .u64 (t : Int)] 61)
   have hd2a := keep_step hd2 hsz2r.out z3
   have yS4 : (fun W => (W.cell? ⟨w.heap.size, 0, none⟩ = some (.string (bk k)) ∧ W.cell? ⟨w.heap.size, 1, none⟩ = some (.int .u64 (t : Int))) ∧ Below (w.heap.size + 2) w2 W) (wd.alloc (.cells #[.string (bk k), .int .u64 (t : Int)] 61)) := ⟨cl2 _ hd2a, hd2a⟩
   refine hK'.out _ _ (.inr yS4) ?_
   clear hK' K'
   try simp only [pa, pb, pc, Act.put, pd, pe, pf]
   refine wpAnyL_one 6 (by kernel_rfl) rfl (wanted_none rfl) ?_
   intro K' hK'
   go_simp
   obtain ⟨u1, u2, u3⟩ := one_box (wd.alloc (.cells #[.string (bk k), .int .u64 (t : Int)] 61)) (.cells #[.slice ao K cap, .slice (some ⟨wd.heap.size, 0, none⟩) 1 1, .slice (ao.map (fun x => x.add ((K + 1) * 2))) (zs.length - (K + 1)) (cap - (K + 1))] 24)
   have hd2b := keep_step hd2a hsz2r.out u3
   have yS6 : (fun W => (W.cell? ⟨w.heap.size, 0, none⟩ = some (.string (bk k)) ∧ W.cell? ⟨w.heap.size, 1, none⟩ = some (.int .u64 (t : Int))) ∧ Below (w.heap.size + 2) w2 W) ((wd.alloc (.cells #[.string (bk k), .int .u64 (t : Int)] 61)).alloc (.cells #[.slice ao K cap, .slice (some ⟨wd.heap.size, 0, none⟩) 1 1, .slice (ao.map (fun x => x.add ((K + 1) * 2))) (zs.length - (K + 1)) (cap - (K + 1))] 24)) := ⟨cl2 _ hd2b, hd2b⟩
   have hrow : Rd markE (wd.alloc (.cells #[.string (bk k), .int .u64 (t : Int)] 61)) (.slice (some ⟨wd.heap.size, 0, none⟩) 1 1) [(k, t)] := (Rk.made (E := markE) (xs := [(k, t)]) z2 rfl (by unfold maxLen; simp)).rd
   have kct := KCT.out (wd.alloc (.cells #[.string (bk k), .int .u64 (t : Int)] 61)).heap.size ((wd.alloc (.cells #[.string (bk k), .int .u64 (t : Int)] 61)).alloc (.cells #[.slice ao K cap, .slice (some ⟨wd.heap.size, 0, none⟩) 1 1, .slice (ao.map (fun x => x.add ((K + 1) * 2))) (zs.length - (K + 1)) (cap - (K + 1))] 24)) (hbw _ hd2b) _ (hrow.below u3) (by rw [cells_of_block u2]; rfl) (by rw [cells_of_block u2]; rfl) (by rw [cells_of_block u2]; rfl)
   clear hrow u2 z2
   refine hK'.out _ _ (.inr yS6) ?_
   clear hK' K'
   try simp only [pa, pb, pc, Act.put, pd, pe, pf]
   rw [z1] at *
   generalize (wd.alloc (.cells #[.string (bk k), .int .u64 (t : Int)] 61)).alloc (.cells #[.slice ao K cap, .slice (some ⟨wd.heap.size, 0, none⟩) 1 1, .slice (ao.map (fun x => x.add ((K + 1) * 2))) (zs.length - (K + 1)) (cap - (K + 1))] 24) = w7 at *
   clear u3 z3 hd2a yS4 yS
   refine wpAnyL_one 7 (by kernel_rfl) rfl (wanted_none rfl) ?_
   intro K' hK'
   go_simp
   go_at_call 140
   refine kct.mono ?_
   rintro e w8 ⟨v8, rfl, hO8, hb8⟩
   obtain ⟨g8, cap8, cur8, hv8, -⟩ := hO8.1.cells HLp.out
   subst hv8
   have hd28 := keep_step hd2b hsz2r.out hb8
   have yS8 : (fun W => (W.cell? ⟨w.heap.size, 0, none⟩ = some (.string (bk k)) ∧ W.cell? ⟨w.heap.size, 1, none⟩ = some (.int .u64 (t : Int))) ∧ Below (w.heap.size + 2) w2 W) w8 := ⟨cl2 _ hd28, hd28⟩
   have HFN : Hid (T (.returned (.tuple #[.slice (some ⟨g8, 0, none⟩) L.length cap8, .int .i64 0])) w8) := E.out _ _ (hO8.mono (hbw _ hd2b).size)
   refine hK'.out _ _ (.inr yS8) ?_
   clear hK' K'
   try simp only [pa, pb, pc, Act.put, pd, pe, pf]
   clear kct hO8 E
   refine wpAnyL_take 8 rfl (by kernel_rfl) (by kernel_rfl) (by kernel_rfl) (by kernel_rfl) (fun _ _ _ h => h) (wanted_none rfl) (by intro w' hS'; obtain ⟨⟨x0, x1⟩, xb⟩ := hS'; go_simp <;> rfl) yS8 ?_
   try simp only [pa, pb, pc, Act.put, pd, pe, pf]
   refine wpAnyL_take 9 rfl (by kernel_rfl) (by kernel_rfl) (by kernel_rfl) (by kernel_rfl) (fun _ _ _ h => h) (wanted_none rfl) (by intro w' hS'; obtain ⟨⟨x0, x1⟩, xb⟩ := hS'; go_simp <;> rfl) yS8 ?_
   try simp only [pa, pb, pc, Act.put, pd, pe, pf]
   refine wpAnyL_done (by kernel_rfl) (NoPanic.normal ?_) _
   go_wp2
   go_ret2
   exact ⟨HFN.out, hbw _ hd28⟩
 | false =>
  rw [hB] at ks
  by_cases hfull : zs.length = 1024
  ·have EC : Hid (∀ W, T (.returned (.tuple #[.slice none 0 0, .int .i64 2])) W) := fun W => by
    rw [HT.out, putC_full hfull hKl hB]
    exact ⟨_, rfl, Ow.nil _ _ _ _⟩
   clear hS hB HT HL HB
   generalize zs.length = ln at *
   subst hfull
   by_cases hck : cap = K
   ·have hck' : K = cap := hck.symm
    subst hck'
    go_enter Tryz.func164, Tryz.ntmps164
    go_wp2_with fail
    have cl2 : ∀ W, Below (w.heap.size + 2) ((w.alloc (.cells #[.string (bk k), .int .u64 (t : Int)] 61)).alloc (.cells #[.func (.func 155) #[] #[]] 121)) W → W.cell? ⟨w.heap.size, 0, none⟩ = some (.string (bk k)) ∧ W.cell? ⟨w.heap.size, 1, none⟩ = some (.int .u64 (t : Int)) := fun W hW => (clq W hW).1
    generalize ((w.alloc (.cells #[.string (bk k), .int .u64 (t : Int)] 61)).alloc (.cells #[.func (.func 155) #[] #[]] 121)) = w2 at *
    refine kk.mono ?_
    rintro e w3 ⟨rfl, hb3⟩
    obtain ⟨d0, d1⟩ := clq _ hb3
    have ks3 := ks w3 hb3
    clear kk c0 c1
    go_wp2_with fail
    refine ks3.mono ?_
    rintro e w4 ⟨rfl, hb4x⟩
    have hb4 := keep_step hb3 hsz2r.out hb4x
    clear ks ks3 hb3 hb4x d0 d1
    go_wp2
    go_ret2
    exact ⟨EC.out _, hbw _ hb4⟩
   ·go_enter Tryz.func164, Tryz.ntmps164
    go_wp2_with fail
    have cl2 : ∀ W, Below (w.heap.size + 2) ((w.alloc (.cells #[.string (bk k), .int .u64 (t : Int)] 61)).alloc (.cells #[.func (.func 155) #[] #[]] 121)) W → W.cell? ⟨w.heap.size, 0, none⟩ = some (.string (bk k)) ∧ W.cell? ⟨w.heap.size, 1, none⟩ = some (.int .u64 (t : Int)) := fun W hW => (clq W hW).1
    generalize ((w.alloc (.cells #[.string (bk k), .int .u64 (t : Int)] 61)).alloc (.cells #[.func (.func 155) #[] #[]] 121)) = w2 at *
    refine kk.mono ?_
    rintro e w3 ⟨rfl, hb3⟩
    obtain ⟨d0, d1⟩ := clq _ hb3
    have ks3 := ks w3 hb3
    clear kk c0 c1
    go_wp2_with fail
    refine ks3.mono ?_
    rintro e w4 ⟨rfl, hb4x⟩
    have hb4 := keep_step hb3 hsz2r.out hb4x
    clear ks ks3 hb3 hb4x d0 d1
    go_wp2
    go_ret2
    exact ⟨EC.out _, hbw _ hb4⟩
  ·have EC : Hid (putC zs K (k, t) = (zs.take K ++ [(k, t)] ++ zs.drop K, 0)) := putC_not (by omega) hKl hB
   have hfi : ((zs.length : Int) == 1024) = false := by rw [beq_eq_false_iff_ne]; omega
   have hfi2 : ¬ (zs.length : Int) = 1024 := by omega
   clear hS hB
   by_cases hck : cap = K
   ·have hck' : K = cap := hck.symm
    subst hck'
    have HBK : Hid (Rd markE w (.slice ao 0 0) (zs.drop (K))) := by have h9 := rd_back HL.out (k := K) (by omega); rw [if_pos rfl, Nat.sub_self, show zs.length - (K) = 0 by omega] at h9; exact h9
    obtain ⟨L, HLf⟩ : ∃ L, Hid (L = [zs.take K, [(k, t)], zs.drop (K)].flatten) := ⟨_, rfl⟩
    have HLc : L = zs.take K ++ [(k, t)] ++ zs.drop (K) := by rw [HLf.out]; simp
    have E : Hid (∀ v W, Ow markE 61 w.heap.size W v L → T (.returned (.tuple #[v, .int .i64 0])) W) := fun v W h => by
     rw [HT.out, EC.out]
     refine ⟨v, rfl, ?_⟩
     rw [HLc] at h
     exact h
    have HLl : Hid (L.length ≤ 3000) := by show _ ≤ _; rw [HLc]; simp; omega
    have HLp : Hid (0 < L.length) := by show _ < _; rw [HLc]; simp only [List.length_append, List.length_singleton]; omega
    have KCT : Hid (∀ (Q : Nat) (W : World), Below w.heap.size w W → ∀ sv, Rd markE W sv [(k, t)] → W.cell? ⟨Q, 0, none⟩ = some (.slice ao K K) → W.cell? ⟨Q, 1, none⟩ = some sv → W.cell? ⟨Q, 2, none⟩ = some (.slice ao 0 0) → Calls Tryz.prog 140 #[.slice (some ⟨Q, 0, none⟩) 3 3] W fun e w' => ∃ v, e = .returned v ∧ Ow markE 61 W.heap.size w' v L ∧ Below W.heap.size W w') := fun Q W hW sv hsv h0 h1 h2 => by
     have hF := (HL.out.front hKl).below hW
     have hB := HBK.out.below hW
     rw [HLf.out]
     refine concatm_of Q [.slice ao K K, sv, .slice ao 0 0] [zs.take K, [(k, t)], zs.drop (K)] W ?_ ?_ 3 (by decide) rfl rfl (by rw [← HLf.out]; exact HLp.out) (by rw [← HLf.out]; exact HLl.out)
     ·intro i v hv
      match i, hv with
      | 0, hv => cases hv; exact h0
      | 1, hv => cases hv; exact h1
      | 2, hv => cases hv; exact h2
      | i + 3, hv => simp at hv
     ·intro i v xs hv hx
      match i, hv, hx with
      | 0, hv, hx => cases hv; cases hx; exact hF
      | 1, hv, hx => cases hv; cases hx; exact hsv
      | 2, hv, hx => cases hv; cases hx; exact hB
      | i + 3, hv, hx => simp at hv
    clear HLc HLf HT EC
    clear HL HBK HB
    go_enter Tryz.func164, Tryz.ntmps164
    go_wp2_with fail
    have cl2 : ∀ W, Below (w.heap.size + 2) ((w.alloc (.cells #[.string (bk k), .int .u64 (t : Int)] 61)).alloc (.cells #[.func (.func 155) #[] #[]] 121)) W → W.cell? ⟨w.heap.size, 0, none⟩ = some (.string (bk k)) ∧ W.cell? ⟨w.heap.size, 1, none⟩ = some (.int .u64 (t : Int)) := fun W hW => (clq W hW).1
    generalize ((w.alloc (.cells #[.string (bk k), .int .u64 (t : Int)] 61)).alloc (.cells #[.func (.func 155) #[] #[]] 121)) = w2 at *
    refine kk.mono ?_
    rintro e w3 ⟨rfl, hb3⟩
    obtain ⟨d0, d1⟩ := clq _ hb3
    have ks3 := ks w3 hb3
    clear kk c0 c1
    go_wp2_with fail
    refine ks3.mono ?_
    rintro e w4 ⟨rfl, hb4x⟩
    have hb4 := keep_step hb3 hsz2r.out hb4x
    clear ks ks3 hb3 hb4x d0 d1
    go_wp2
    refine wp_region_L (fun W => (W.cell? ⟨w.heap.size, 0, none⟩ = some (.string (bk k)) ∧ W.cell? ⟨w.heap.size, 1, none⟩ = some (.int .u64 (t : Int))) ∧ Below (w.heap.size + 2) w2 W) [] (by kernel_rfl) ?_
    have hd2 := hb4.drew
    clear hb4
    generalize w4.drew = wd at *
    have yS : (fun W => (W.cell? ⟨w.heap.size, 0, none⟩ = some (.string (bk k)) ∧ W.cell? ⟨w.heap.size, 1, none⟩ = some (.int .u64 (t : Int))) ∧ Below (w.heap.size + 2) w2 W) wd := ⟨cl2 _ hd2, hd2⟩
    refine wpAnyL_take 0 rfl (by kernel_rfl) (by kernel_rfl) (by kernel_rfl) (by kernel_rfl) (fun _ _ _ h => h) (wanted_none rfl) (by intro w' hS'; obtain ⟨⟨x0, x1⟩, xb⟩ := hS'; go_simp <;> rfl) yS ?_
    try simp only [pa, pb, pc, Act.put, pd, pe, pf]
    refine wpAnyL_take 1 rfl (by kernel_rfl) (by kernel_rfl) (by kernel_rfl) (by kernel_rfl) (fun _ _ _ h => h) (wanted_none rfl) (by intro w' hS'; obtain ⟨⟨x0, x1⟩, xb⟩ := hS'; go_simp <;> rfl) yS ?_
    try simp only [pa, pb, pc, Act.put, pd, pe, pf]
    refine wpAnyL_take 2 rfl (by kernel_rfl) (by kernel_rfl) (by kernel_rfl) (by kernel_rfl) (fun _ _ _ h => h) (wanted_none rfl) (by intro w' hS'; obtain ⟨⟨x0, x1⟩, xb⟩ := hS'; go_simp <;> rfl) yS ?_
    try simp only [pa, pb, pc, Act.put, pd, pe, pf]
    refine wpAnyL_take 3 rfl (by kernel_rfl) (by kernel_rfl) (by kernel_rfl) (by kernel_rfl) (fun _ _ _ h => h) (wanted_none rfl) (by intro w' hS'; obtain ⟨⟨x0, x1⟩, xb⟩ := hS'; go_simp <;> rfl) yS ?_
    try simp only [pa, pb, pc, Act.put, pd, pe, pf]
    refine wpAnyL_take 5 rfl (by kernel_rfl) (by kernel_rfl) (by kernel_rfl) (by kernel_rfl) (fun _ _ _ h => h) (wanted_none rfl) (by intro w' hS'; obtain ⟨⟨x0, x1⟩, xb⟩ := hS'; go_simp <;> rfl) yS ?_
    try simp only [pa, pb, pc, Act.put, pd, pe, pf]
    refine wpAnyL_one 4 (by kernel_rfl) rfl (wanted_none rfl) ?_
    intro K' hK'
    go_simp
    obtain ⟨z1, z2, z3⟩ := one_box wd (.cells #[.string (bk k), .int .u64 (t : Int)] 61)
    have hd2a := keep_step hd2 hsz2r.out z3
    have yS4 : (fun W => (W.cell? ⟨w.heap.size, 0, none⟩ = some (.string (bk k)) ∧ W.cell? ⟨w.heap.size, 1, none⟩ = some (.int .u64 (t : Int))) ∧ Below (w.heap.size + 2) w2 W) (wd.alloc (.cells #[.string (bk k), .int .u64 (t : Int)] 61)) := ⟨cl2 _ hd2a, hd2a⟩
    refine hK'.out _ _ (.inr yS4) ?_
    clear hK' K'
    try simp only [pa, pb, pc, Act.put, pd, pe, pf]
    refine wpAnyL_one 6 (by kernel_rfl) rfl (wanted_none rfl) ?_
    intro K' hK'
    go_simp
    obtain ⟨u1, u2, u3⟩ := one_box (wd.alloc (.cells #[.string (bk k), .int .u64 (t : Int)] 61)) (.cells #[.slice ao K K, .slice (some ⟨wd.heap.size, 0, none⟩) 1 1, .slice ao 0 0] 24)
    have hd2b := keep_step hd2a hsz2r.out u3
    have yS6 : (fun W => (W.cell? ⟨w.heap.size, 0, none⟩ = some (.string (bk k)) ∧ W.cell? ⟨w.heap.size, 1, none⟩ = some (.int .u64 (t : Int))) ∧ Below (w.heap.size + 2) w2 W) ((wd.alloc (.cells #[.string (bk k), .int .u64 (t : Int)] 61)).alloc (.cells #[.slice ao K K, .slice (some ⟨wd.heap.size, 0, none⟩) 1 1, .slice ao 0 0] 24)) := ⟨cl2 _ hd2b, hd2b⟩
    have hrow : Rd markE (wd.alloc (.cells #[.string (bk k), .int .u64 (t : Int)] 61)) (.slice (some ⟨wd.heap.size, 0, none⟩) 1 1) [(k, t)] := (Rk.made (E := markE) (xs := [(k, t)]) z2 rfl (by unfold maxLen; simp)).rd
    have kct := KCT.out (wd.alloc (.cells #[.string (bk k), .int .u64 (t : Int)] 61)).heap.size ((wd.alloc (.cells #[.string (bk k), .int .u64 (t : Int)] 61)).alloc (.cells #[.slice ao K K, .slice (some ⟨wd.heap.size, 0, none⟩) 1 1, .slice ao 0 0] 24)) (hbw _ hd2b) _ (hrow.below u3) (by rw [cells_of_block u2]; rfl) (by rw [cells_of_block u2]; rfl) (by rw [cells_of_block u2]; rfl)
    clear hrow u2 z2
    refine hK'.out _ _ (.inr yS6) ?_
    clear hK' K'
    try simp only [pa, pb, pc, Act.put, pd, pe, pf]
    rw [z1] at *
    generalize (wd.alloc (.cells #[.string (bk k), .int .u64 (t : Int)] 61)).alloc (.cells #[.slice ao K K, .slice (some ⟨wd.heap.size, 0, none⟩) 1 1, .slice ao 0 0] 24) = w7 at *
    clear u3 z3 hd2a yS4 yS
    refine wpAnyL_one 7 (by kernel_rfl) rfl (wanted_none rfl) ?_
    intro K' hK'
    go_simp
    go_at_call 140
    refine kct.mono ?_
    rintro e w8 ⟨v8, rfl, hO8, hb8⟩
    obtain ⟨g8, cap8, cur8, hv8, -⟩ := hO8.1.cells HLp.out
    subst hv8
    have hd28 := keep_step hd2b hsz2r.out hb8
    have yS8 : (fun W => (W.cell? ⟨w.heap.size, 0, none⟩ = some (.string (bk k)) ∧ W.cell? ⟨w.heap.size, 1, none⟩ = some (.int .u64 (t : Int))) ∧ Below (w.heap.size + 2) w2 W) w8 := ⟨cl2 _ hd28, hd28⟩
    have HFN : Hid (T (.returned (.tuple #[.slice (some ⟨g8, 0, none⟩) L.length cap8, .int .i64 0])) w8) := E.out _ _ (hO8.mono (hbw _ hd2b).size)
    refine hK'.out _ _ (.inr yS8) ?_
    clear hK' K'
    try simp only [pa, pb, pc, Act.put, pd, pe, pf]
    clear kct hO8 E
    refine wpAnyL_take 8 rfl (by kernel_rfl) (by kernel_rfl) (by kernel_rfl) (by kernel_rfl) (fun _ _ _ h => h) (wanted_none rfl) (by intro w' hS'; obtain ⟨⟨x0, x1⟩, xb⟩ := hS'; go_simp <;> rfl) yS8 ?_
    try simp only [pa, pb, pc, Act.put, pd, pe, pf]
    refine wpAnyL_take 9 rfl (by kernel_rfl) (by kernel_rfl) (by kernel_rfl) (by kernel_rfl) (fun _ _ _ h => h) (wanted_none rfl) (by intro w' hS'; obtain ⟨⟨x0, x1⟩, xb⟩ := hS'; go_simp <;> rfl) yS8 ?_
    try simp only [pa, pb, pc, Act.put, pd, pe, pf]
    refine wpAnyL_done (by kernel_rfl) (NoPanic.normal ?_) _
    go_wp2
    go_ret2
    exact ⟨HFN.out, hbw _ hd28⟩
   ·have HBK : Hid (Rd markE w (.slice (ao.map (fun x => x.add (K * 2))) (zs.length - K) (cap - K)) (zs.drop (K))) := by have h9 := rd_back HL.out (k := K) (by omega); rw [if_neg hck] at h9; exact h9
    obtain ⟨L, HLf⟩ : ∃ L, Hid (L = [zs.take K, [(k, t)], zs.drop (K)].flatten) := ⟨_, rfl⟩
    have HLc : L = zs.take K ++ [(k, t)] ++ zs.drop (K) := by rw [HLf.out]; simp
    have E : Hid (∀ v W, Ow markE 61 w.heap.size W v L → T (.returned (.tuple #[v, .int .i64 0])) W) := fun v W h => by
     rw [HT.out, EC.out]
     refine ⟨v, rfl, ?_⟩
     rw [HLc] at h
     exact h
    have HLl : Hid (L.length ≤ 3000) := by show _ ≤ _; rw [HLc]; simp; omega
    have HLp : Hid (0 < L.length) := by show _ < _; rw [HLc]; simp only [List.length_append, List.length_singleton]; omega
    have KCT : Hid (∀ (Q : Nat) (W : World), Below w.heap.size w W → ∀ sv, Rd markE W sv [(k, t)] → W.cell? ⟨Q, 0, none⟩ = some (.slice ao K cap) → W.cell? ⟨Q, 1, none⟩ = some sv → W.cell? ⟨Q, 2, none⟩ = some (.slice (ao.map (fun x => x.add (K * 2))) (zs.length - K) (cap - K)) → Calls Tryz.prog 140 #[.slice (some ⟨Q, 0, none⟩) 3 3] W fun e w' => ∃ v, e = .returned v ∧ Ow markE 61 W.heap.size w' v L ∧ Below W.heap.size W w') := fun Q W hW sv hsv h0 h1 h2 => by
     have hF := (HL.out.front hKl).below hW
     have hB := HBK.out.below hW
     rw [HLf.out]
     refine concatm_of Q [.slice ao K cap, sv, .slice (ao.map (fun x => x.add (K * 2))) (zs.length - K) (cap - K)] [zs.take K, [(k, t)], zs.drop (K)] W ?_ ?_ 3 (by decide) rfl rfl (by rw [← HLf.out]; exact HLp.out) (by rw [← HLf.out]; exact HLl.out)
     ·intro i v hv
      match i, hv with
      | 0, hv => cases hv; exact h0
      | 1, hv => cases hv; exact h1
      | 2, hv => cases hv; exact h2
      | i + 3, hv => simp at hv
     ·intro i v xs hv hx
      match i, hv, hx with
      | 0, hv, hx => cases hv; cases hx; exact hF
      | 1, hv, hx => cases hv; cases hx; exact hsv
      | 2, hv, hx => cases hv; cases hx; exact hB
      | i + 3, hv, hx => simp at hv
    clear HLc HLf HT EC
    clear HL HBK HB
    go_enter Tryz.func164, Tryz.ntmps164
    go_wp2_with fail
    have cl2 : ∀ W, Below (w.heap.size + 2) ((w.alloc (.cells #[.string (bk k), .int .u64 (t : Int)] 61)).alloc (.cells #[.func (.func 155) #[] #[]] 121)) W → W.cell? ⟨w.heap.size, 0, none⟩ = some (.string (bk k)) ∧ W.cell? ⟨w.heap.size, 1, none⟩ = some (.int .u64 (t : Int)) := fun W hW => (clq W hW).1
    generalize ((w.alloc (.cells #[.string (bk k), .int .u64 (t : Int)] 61)).alloc (.cells #[.func (.func 155) #[] #[]] 121)) = w2 at *
    refine kk.mono ?_
    rintro e w3 ⟨rfl, hb3⟩
    obtain ⟨d0, d1⟩ := clq _ hb3
    have ks3 := ks w3 hb3
    clear kk c0 c1
    go_wp2_with fail
    refine ks3.mono ?_
    rintro e w4 ⟨rfl, hb4x⟩
    have hb4 := keep_step hb3 hsz2r.out hb4x
    clear ks ks3 hb3 hb4x d0 d1
    go_wp2
    refine wp_region_L (fun W => (W.cell? ⟨w.heap.size, 0, none⟩ = some (.string (bk k)) ∧ W.cell? ⟨w.heap.size, 1, none⟩ = some (.int .u64 (t : Int))) ∧ Below (w.heap.size + 2) w2 W) [] (by kernel_rfl) ?_
    have hd2 := hb4.drew
    clear hb4
    generalize w4.drew = wd at *
    have yS : (fun W => (W.cell? ⟨w.heap.size, 0, none⟩ = some (.string (bk k)) ∧ W.cell? ⟨w.heap.size, 1, none⟩ = some (.int .u64 (t : Int))) ∧ Below (w.heap.size + 2) w2 W) wd := ⟨cl2 _ hd2, hd2⟩
    refine wpAnyL_take 0 rfl (by kernel_rfl) (by kernel_rfl) (by kernel_rfl) (by kernel_rfl) (fun _ _ _ h => h) (wanted_none rfl) (by intro w' hS'; obtain ⟨⟨x0, x1⟩, xb⟩ := hS'; go_simp <;> rfl) yS ?_
    try simp only [pa, pb, pc, Act.put, pd, pe, pf]
    refine wpAnyL_take 1 rfl (by kernel_rfl) (by kernel_rfl) (by kernel_rfl) (by kernel_rfl) (fun _ _ _ h => h) (wanted_none rfl) (by intro w' hS'; obtain ⟨⟨x0, x1⟩, xb⟩ := hS'; go_simp <;> rfl) yS ?_
    try simp only [pa, pb, pc, Act.put, pd, pe, pf]
    refine wpAnyL_take 2 rfl (by kernel_rfl) (by kernel_rfl) (by kernel_rfl) (by kernel_rfl) (fun _ _ _ h => h) (wanted_none rfl) (by intro w' hS'; obtain ⟨⟨x0, x1⟩, xb⟩ := hS'; go_simp <;> rfl) yS ?_
    try simp only [pa, pb, pc, Act.put, pd, pe, pf]
    refine wpAnyL_take 3 rfl (by kernel_rfl) (by kernel_rfl) (by kernel_rfl) (by kernel_rfl) (fun _ _ _ h => h) (wanted_none rfl) (by intro w' hS'; obtain ⟨⟨x0, x1⟩, xb⟩ := hS'; go_simp <;> rfl) yS ?_
    try simp only [pa, pb, pc, Act.put, pd, pe, pf]
    refine wpAnyL_take 5 rfl (by kernel_rfl) (by kernel_rfl) (by kernel_rfl) (by kernel_rfl) (fun _ _ _ h => h) (wanted_none rfl) (by intro w' hS'; obtain ⟨⟨x0, x1⟩, xb⟩ := hS'; go_simp <;> rfl) yS ?_
    try simp only [pa, pb, pc, Act.put, pd, pe, pf]
    refine wpAnyL_one 4 (by kernel_rfl) rfl (wanted_none rfl) ?_
    intro K' hK'
    go_simp
    obtain ⟨z1, z2, z3⟩ := one_box wd (.cells #[.string (bk k), .int .u64 (t : Int)] 61)
    have hd2a := keep_step hd2 hsz2r.out z3
    have yS4 : (fun W => (W.cell? ⟨w.heap.size, 0, none⟩ = some (.string (bk k)) ∧ W.cell? ⟨w.heap.size, 1, none⟩ = some (.int .u64 (t : Int))) ∧ Below (w.heap.size + 2) w2 W) (wd.alloc (.cells #[.string (bk k), .int .u64 (t : Int)] 61)) := ⟨cl2 _ hd2a, hd2a⟩
    refine hK'.out _ _ (.inr yS4) ?_
    clear hK' K'
    try simp only [pa, pb, pc, Act.put, pd, pe, pf]
    refine wpAnyL_one 6 (by kernel_rfl) rfl (wanted_none rfl) ?_
    intro K' hK'
    go_simp
    obtain ⟨u1, u2, u3⟩ := one_box (wd.alloc (.cells #[.string (bk k), .int .u64 (t : Int)] 61)) (.cells #[.slice ao K cap, .slice (some ⟨wd.heap.size, 0, none⟩) 1 1, .slice (ao.map (fun x => x.add (K * 2))) (zs.length - K) (cap - K)] 24)
    have hd2b := keep_step hd2a hsz2r.out u3
    have yS6 : (fun W => (W.cell? ⟨w.heap.size, 0, none⟩ = some (.string (bk k)) ∧ W.cell? ⟨w.heap.size, 1, none⟩ = some (.int .u64 (t : Int))) ∧ Below (w.heap.size + 2) w2 W) ((wd.alloc (.cells #[.string (bk k), .int .u64 (t : Int)] 61)).alloc (.cells #[.slice ao K cap, .slice (some ⟨wd.heap.size, 0, none⟩) 1 1, .slice (ao.map (fun x => x.add (K * 2))) (zs.length - K) (cap - K)] 24)) := ⟨cl2 _ hd2b, hd2b⟩
    have hrow : Rd markE (wd.alloc (.cells #[.string (bk k), .int .u64 (t : Int)] 61)) (.slice (some ⟨wd.heap.size, 0, none⟩) 1 1) [(k, t)] := (Rk.made (E := markE) (xs := [(k, t)]) z2 rfl (by unfold maxLen; simp)).rd
    have kct := KCT.out (wd.alloc (.cells #[.string (bk k), .int .u64 (t : Int)] 61)).heap.size ((wd.alloc (.cells #[.string (bk k), .int .u64 (t : Int)] 61)).alloc (.cells #[.slice ao K cap, .slice (some ⟨wd.heap.size, 0, none⟩) 1 1, .slice (ao.map (fun x => x.add (K * 2))) (zs.length - K) (cap - K)] 24)) (hbw _ hd2b) _ (hrow.below u3) (by rw [cells_of_block u2]; rfl) (by rw [cells_of_block u2]; rfl) (by rw [cells_of_block u2]; rfl)
    clear hrow u2 z2
    refine hK'.out _ _ (.inr yS6) ?_
    clear hK' K'
    try simp only [pa, pb, pc, Act.put, pd, pe, pf]
    rw [z1] at *
    generalize (wd.alloc (.cells #[.string (bk k), .int .u64 (t : Int)] 61)).alloc (.cells #[.slice ao K cap, .slice (some ⟨wd.heap.size, 0, none⟩) 1 1, .slice (ao.map (fun x => x.add (K * 2))) (zs.length - K) (cap - K)] 24) = w7 at *
    clear u3 z3 hd2a yS4 yS
    refine wpAnyL_one 7 (by kernel_rfl) rfl (wanted_none rfl) ?_
    intro K' hK'
    go_simp
    go_at_call 140
    refine kct.mono ?_
    rintro e w8 ⟨v8, rfl, hO8, hb8⟩
    obtain ⟨g8, cap8, cur8, hv8, -⟩ := hO8.1.cells HLp.out
    subst hv8
    have hd28 := keep_step hd2b hsz2r.out hb8
    have yS8 : (fun W => (W.cell? ⟨w.heap.size, 0, none⟩ = some (.string (bk k)) ∧ W.cell? ⟨w.heap.size, 1, none⟩ = some (.int .u64 (t : Int))) ∧ Below (w.heap.size + 2) w2 W) w8 := ⟨cl2 _ hd28, hd28⟩
    have HFN : Hid (T (.returned (.tuple #[.slice (some ⟨g8, 0, none⟩) L.length cap8, .int .i64 0])) w8) := E.out _ _ (hO8.mono (hbw _ hd2b).size)
    refine hK'.out _ _ (.inr yS8) ?_
    clear hK' K'
    try simp only [pa, pb, pc, Act.put, pd, pe, pf]
    clear kct hO8 E
    refine wpAnyL_take 8 rfl (by kernel_rfl) (by kernel_rfl) (by kernel_rfl) (by kernel_rfl) (fun _ _ _ h => h) (wanted_none rfl) (by intro w' hS'; obtain ⟨⟨x0, x1⟩, xb⟩ := hS'; go_simp <;> rfl) yS8 ?_
    try simp only [pa, pb, pc, Act.put, pd, pe, pf]
    refine wpAnyL_take 9 rfl (by kernel_rfl) (by kernel_rfl) (by kernel_rfl) (by kernel_rfl) (fun _ _ _ h => h) (wanted_none rfl) (by intro w' hS'; obtain ⟨⟨x0, x1⟩, xb⟩ := hS'; go_simp <;> rfl) yS8 ?_
    try simp only [pa, pb, pc, Act.put, pd, pe, pf]
    refine wpAnyL_done (by kernel_rfl) (NoPanic.normal ?_) _
    go_wp2
    go_ret2
    exact ⟨HFN.out, hbw _ hd28⟩
end Go.Proofs.YtfpbgfmnjpamlaaGreat

/- The program's Mark. -/
namespace Go.Proofs.YtfpbgfmnjpamlaaGreat
open Go.RowKit LeaseMath
set_option maxRecDepth 100000
set_option linter.unusedSimpArgs false
set_option linter.unusedVariables false

/-- What is kept of a token. -/
def markM (l : List Mk) (k : Nat) (c : K) (t : Nat) : List Mk × Int := if mayB markB l && markB (c, t) then putC l k (c, max t (lastM l c)) else ([], 1)
theorem run_max_u64 {P : Program} (w : World) (ts : Array TypeId) (ty : TypeId) (a b : Nat) : (Builtin.max_ ts ty #[.int .u64 (a : Int), .int .u64 (b : Int)]).run P w = .ok (.int .u64 ((max a b : Nat) : Int)) w := by
 rcases Nat.lt_or_ge a b with h | h
 ·rw [Nat.max_eq_right (Nat.le_of_lt h)]
  have h' : (a : Int) < (b : Int) := by omega
  simp [Builtin.max_, Builtin.max2, h', h, asBool]
 ·rw [Nat.max_eq_left h]
  have h' : ¬ (a : Int) < (b : Int) := by omega
  have h'' : ¬ a < b := by omega
  simp [Builtin.max_, Builtin.max2, h', h'', asBool]
set_option maxHeartbeats 4000000 in
theorem mark_of (zs : List Mk) (lv : Value) (c : K) (t : Nat) (K : Nat) (w : World) (hL : Rd markE w lv zs) (hS : mayB markB zs = true → Plc zs c K) : Calls Tryz.prog 115 #[lv, .string (bk c), .int .u64 (t : Int)] w fun e w' => PutT markE 61 w.heap.size (markM zs K c t) e w' ∧ Below w.heap.size w w' := by
 obtain ⟨T, HT⟩ : ∃ T, Hid (T = PutT markE 61 w.heap.size (markM zs K c t)) := ⟨_, rfl⟩
 rw [← HT.out]
 obtain ⟨hs, hbl, hb⟩ := one_box w (.cells #[.string (bk c), .int .u64 (t : Int)] 61)
 have cl : ∀ W, Below (w.heap.size + 1) (w.alloc (.cells #[.string (bk c), .int .u64 (t : Int)] 61)) W → W.heap[w.heap.size]? = some (.cells #[.string (bk c), .int .u64 (t : Int)] 61 (0, 0)) := fun W hW => (hW.block w.heap.size (Nat.lt_succ_self _)).trans hbl
 have kc := checkm_of (hL.below hb)
 rw [hs] at kc
 have km := fun W => mayMark_of (c, t) W
 have HL : Hid (Rd markE w lv zs) := hL
 obtain ⟨-, c0, c1⟩ := m_cells hbl
 obtain ⟨ao, cap, rfl, -, -⟩ := hL.shape
 have hsr : Hid (w.heap.size + 1 ≤ (w.alloc (.cells #[.string (bk c), .int .u64 (t : Int)] 61)).heap.size) := by show _ ≤ _; omega
 dsimp only [mv] at km
 clear hL hs hbl
 cases hm : mayB markB zs with
 | false =>
  have E : Hid (∀ W, T (.returned (.tuple #[.slice none 0 0, .int .i64 1])) W) := fun W => by
   rw [HT.out, show markM zs K c t = ([], 1) by unfold markM; rw [hm]; rfl]
   exact ⟨_, rfl, Ow.nil _ _ _ _⟩
  rw [hm] at kc
  simp only [Bool.false_eq_true, if_false] at kc
  clear HT HL hm hS km cl hsr
  go_enter Tryz.func115, Tryz.ntmps115
  go_wp2_with fail
  refine kc.mono ?_
  rintro e w1 ⟨rfl, hb1⟩
  have hb2 := hb.trans (hb1.mono (Nat.le_succ _))
  clear kc c0 c1
  go_wp2
  go_ret2
  exact ⟨E.out _, hb2⟩
 | true =>
  rw [hm] at kc
  simp only [if_true] at kc
  have hp := hS hm
  have hlen := (may_iff.1 hm).1
  cases ho : markB (c, t) with
  | false =>
   have E : Hid (∀ W, T (.returned (.tuple #[.slice none 0 0, .int .i64 1])) W) := fun W => by
    rw [HT.out, show markM zs K c t = ([], 1) by unfold markM; rw [hm, ho]; rfl]
    exact ⟨_, rfl, Ow.nil _ _ _ _⟩
   rw [ho] at km
   clear HT HL hm hS hp ho
   go_enter Tryz.func115, Tryz.ntmps115
   go_wp2_with fail
   refine kc.mono ?_
   rintro e w1 ⟨rfl, hb1⟩
   have hb2 := hb.trans (hb1.mono (Nat.le_succ _))
   obtain ⟨-, d0, d1⟩ := m_cells (cl _ hb1)
   have km1 := km w1
   clear kc c0 c1 km cl
   go_wp2_with fail
   refine km1.mono ?_
   rintro e w2 ⟨rfl, hb3⟩
   have hb4 := hb2.trans (hb3.mono hb2.size)
   clear km1
   go_wp2
   go_ret2
   exact ⟨E.out _, hb4⟩
  | true =>
   have kp : ∀ W, Below w.heap.size w W → _ := fun W hW => putm_of zs _ (c, max t (lastM zs c)) K W (HL.out.below hW) hlen hp
   have kl : ∀ W, Below w.heap.size w W → _ := fun W hW => last_of zs _ c W (HL.out.below hW) (by omega)
   have E : Hid (∀ e W n, w.heap.size ≤ n → PutT markE 61 n (putC zs K (c, max t (lastM zs c))) e W → T e W) := fun e W n hn h => by
    rw [HT.out, show markM zs K c t = putC zs K (c, max t (lastM zs c)) by unfold markM; rw [hm, ho]; rfl]
    obtain ⟨v, h1, h2⟩ := h
    exact ⟨v, h1, h2.mono hn⟩
   rw [ho] at km
   dsimp only [mv] at kp
   generalize putC zs K (c, max t (lastM zs c)) = m at *
   have hmax := fun (W : World) ts ty => run_max_u64 (P := Tryz.prog) W ts ty t (lastM zs c)
   generalize max t (lastM zs c) = mx at *
   generalize lastM zs c = la at *
   clear HT HL hm hS hp ho
   go_enter Tryz.func115, Tryz.ntmps115
   go_wp2_with fail
   refine kc.mono ?_
   rintro e w1 ⟨rfl, hb1⟩
   have hb2 := hb.trans (hb1.mono (Nat.le_succ _))
   obtain ⟨-, d0, d1⟩ := m_cells (cl _ hb1)
   have km1 := km w1
   clear kc c0 c1 km
   go_wp2_with fail
   refine km1.mono ?_
   rintro e w2 ⟨rfl, hb3⟩
   have hb4 := hb2.trans (hb3.mono hb2.size)
   have hb1' := keep_step hb1 hsr.out hb3
   have kl2 := kl w2 hb4
   clear km1 hb1 hb3 d0 d1 kl hb2
   go_wp2_with fail
   refine kl2.mono ?_
   rintro e w3 ⟨rfl, hb5⟩
   have hb6 := hb4.trans (hb5.mono hb4.size)
   have hb7 := keep_step hb1' hsr.out hb5
   have hbx := cl _ hb7
   obtain ⟨⟨f0, f1⟩, x0, x1⟩ := m_cells hbx
   obtain ⟨W1, hW1⟩ : ∃ W1, w3.setCell ⟨w.heap.size, 1, none⟩ (.int .u64 (mx : Int)) = W1 := ⟨_, rfl⟩
   have hbW : Below w.heap.size w W1 := by rw [← hW1]; exact hb6.setCell (p := ⟨w.heap.size, 1, none⟩) (Nat.le_refl _) _
   have hbx1 : W1.heap[w.heap.size]? = some (.cells #[.string (bk c), .int .u64 (mx : Int)] 61 (0, 0)) := by
    rw [← hW1]
    simp [World.setCell, Array.getElem?_modify, hbx]
   obtain ⟨-, y0, y1⟩ := m_cells hbx1
   have kp2 := kp W1 hbW
   clear kl2 hb1' hb5 hb4 hb7 hb6 kp cl hbx hbx1
   go_wp2_with fail
   refine kp2.mono ?_
   rintro e w4 ⟨hT, hb8⟩
   have HF := E.out _ _ _ hbW.size hT
   obtain ⟨v, rfl, hO⟩ := hT
   have hb9 := hbW.trans (hb8.mono hbW.size)
   obtain ⟨sa, sc, rfl, -⟩ := hO.1.shape
   have HFH : Hid _ := HF
   clear kp2 hO E HF hb8 hbW y0 y1 x0 x1 f0 f1 hW1 hmax
   generalize m.1.length = ml at *
   generalize m.2 = mr at *
   go_wp2
   go_ret2
   exact ⟨HFH.out, hb9⟩
end Go.Proofs.YtfpbgfmnjpamlaaGreat

