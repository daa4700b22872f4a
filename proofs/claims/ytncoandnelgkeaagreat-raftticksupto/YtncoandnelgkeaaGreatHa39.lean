import Derived.Test.YtncoandnelgkeaaGreatHa31
import Derived.Test.YtncoandnelgkeaaGreatHa32
import Derived.Test.YtncoandnelgkeaaGreatHa38
import Derived.Test.YtncoandnelgkeaaGreatHa36
/- The document's lead. -/
namespace Go.Proofs.YtncoandnelgkeaaGreat
open Go.RowKit QuorumMath RlogMath RaftMath
set_option maxRecDepth 100000
set_option linter.unusedSimpArgs false
set_option linter.unusedVariables false

set_option maxHeartbeats 8000000 in
theorem lead_of (n : Nat) (s : Ms) (v : Value) (w : World) (hS : StV n w v s) (hn : n ≤ w.heap.size) (hbo : OkM s.r.base) (hlo : ∀ e ∈ s.r.log, OkM e) (hlg : s.r.log.length ≤ 1000000) (hol : s.out.length ≤ 1000000) (htm : s.r.term < 18446744073709551616) : Calls Tryz.prog 94 #[v] w fun e w' => ∃ v', e = .returned v' ∧ StV n w' v' (leadR s) ∧ Below w.heap.size w w' := by
  have HS : Hid (∀ W, Below w.heap.size w W → StV n W v s) := fun W hW => hS.below hW
  obtain ⟨z, gs, os, rfl, hz, hR, hM, ho⟩ := hS
  obtain ⟨r, zs, ⟨ba, bn, bc⟩, ⟨la, ln, lc⟩, ⟨va, vn, vc⟩, ⟨pa, pn, pc⟩⟩ := z
  obtain ⟨sr, so⟩ := s
  obtain rfl : r = sr := hz
  obtain ⟨nd, tm, vo, ⟨bi, bt, bk, bd⟩, lg, cm, ro, le, el, vt, pe⟩ := r
  obtain ⟨oa, on, oc⟩ := os
  dsimp only at *
  dsimp only [sv] at *
  have hml : mes zs = lg := hR.2.2.1
  have hzl : zs.length ≤ 1000000 := by have := congrArg List.length hml; rw [List.length_map] at this; omega
  have hzo := okz_of hml hlo
  obtain ⟨hsz, B1, B2, hb2⟩ := two_box w (.cells #[.int .i64 nd, .int .u64 (tm : Int), .int .i64 vo, .int .u64 (bi : Int), .int .u64 (bt : Int), .int .i64 bk, .slice ba bn bc, .slice la ln lc, .int .u64 (cm : Int), .int .i64 ro, .int .i64 le, .int .i64 el, .slice va vn vc, .slice pa pn pc, .slice oa on oc] 54) (.cells #[.int .i64 0, .int .u64 0, .int .i64 0, .int .u64 0, .int .u64 0, .int .i64 0, .slice none 0 0, .slice none 0 0, .int .u64 0, .int .i64 0, .int .i64 0, .int .i64 0, .slice none 0 0, .slice none 0 0, .slice none 0 0] 54)
  have ka := rapp_n n (⟨bi, bt, bk, bd⟩, ba, bn, bc) zs (.slice la ln lc) tm 0 [] (none, 0, 0) _ (hR.1.below hb2) (hR.2.1.below hb2) ⟨hbo.1, hbo.2.1, hbo.2.2.1⟩ (fun z hz => (hzo z hz).1) (RdN.nil _ _ _ _) (by simp) (by omega) hbo.2.2.2
  rw [hml] at ka
  dsimp only [lgv] at ka
  have HLE : Hid (leadR ⟨⟨nd, tm, vo, ⟨bi, bt, bk, bd⟩, lg, cm, ro, le, el, vt, pe⟩, so⟩ = if (appM ⟨bi, bt, bk, bd⟩ lg tm 0 []).1 = 0 then settleR ⟨⟨nd, tm, vo, (appM ⟨bi, bt, bk, bd⟩ lg tm 0 []).2.1, (appM ⟨bi, bt, bk, bd⟩ lg tm 0 []).2.2, cm, 2, nd, 0, [], []⟩, so⟩ else ⟨⟨nd, tm, vo, ⟨bi, bt, bk, bd⟩, lg, cm, ro, le, el, vt, pe⟩, so⟩) := rfl
  have hok2 := app_okM (t := tm) (k := 0) (d := []) hbo hlo htm (by simp) (by simp)
  have hmy : (appM ⟨bi, bt, bk, bd⟩ lg tm 0 []).1 = 0 → mayB (appM ⟨bi, bt, bk, bd⟩ lg tm 0 []).2.1 (appM ⟨bi, bt, bk, bd⟩ lg tm 0 []).2.2 = true := app_may
  generalize appM ⟨bi, bt, bk, bd⟩ lg tm 0 [] = A at *
  obtain ⟨c, M2, l2⟩ := A
  dsimp only at *
  clear hR hml hzl hzo hbo hlo htm
  go_enter Tryz.func94, Tryz.ntmps94
  go_wp2_with fail
  refine ka.mono ?_
  rintro e w3 ⟨⟨v3, rfl, hL3⟩, hb3⟩
  rw [hsz] at hb3
  obtain ⟨⟨b2a, b2n, b2c⟩, zs2, ⟨l2a, l2n, l2c⟩, rfl, hD3, hE3, hm3⟩ := hL3
  obtain ⟨i2, t2, k2, d2⟩ := M2
  dsimp only [lgv] at *
  have D1 := (hb3.block w.heap.size (by omega)).trans B1
  have D2 := (hb3.block (w.heap.size + 1) (by omega)).trans B2
  have hb03 := hb2.trans (hb3.mono (by omega))
  have hs3 : w.heap.size + 1 + 1 ≤ w3.heap.size := hb3.size |> fun h => by omega
  obtain ⟨W4, hW4⟩ : ∃ W, w3.alloc (.cells #[.int .u64 (i2 : Int), .int .u64 (t2 : Int), .int .i64 k2, .slice b2a b2n b2c, .slice l2a l2n l2c] 28) = W := ⟨_, rfl⟩
  have hb4 : Below w3.heap.size w3 W4 := hW4 ▸ (Below.refl _ _).alloc (Nat.le_refl _) _
  have D3 : W4.heap[w3.heap.size]? = _ := hW4 ▸ heap_alloc_new _ _
  have D1 := (hb4.block w.heap.size (by omega)).trans D1
  have D2 := (hb4.block (w.heap.size + 1) (by omega)).trans D2
  have hb04 := hb03.trans (hb4.mono hb03.size)
  have hsz4 : Hid (W4.heap.size = w3.heap.size + 1) := by show _ = _; rw [← hW4]; simp
  obtain ⟨⟨f0, f1, f2, f3, f4, f5, f6, f7, f8, f9, f10, f11, f12, f13, f14⟩, o0, o1, o2, o3, o4, o5, o6, o7, o8, o9, o10, o11, o12, o13, o14⟩ := r15_cells D1
  obtain ⟨-, e0, e1, e2, e3, e4⟩ := lg_cells D3
  clear ka hb3 B1 B2 hsz hb2
  by_cases hc : c = 0
  · have HSE : Hid (_ = _) := HLE.out.trans (if_pos hc)
    subst hc
    have hmy2 := hmy rfl
    have g1 : ((((((((((W4.setCell ⟨w.heap.size, 3, none⟩ (.int .u64 (i2 : Int))).setCell ⟨w.heap.size, 4, none⟩ (.int .u64 (t2 : Int))).setCell ⟨w.heap.size, 5, none⟩ (.int .i64 k2)).setCell ⟨w.heap.size, 6, none⟩ (.slice b2a b2n b2c)).setCell ⟨w.heap.size, 7, none⟩ (.slice l2a l2n l2c)).setCell ⟨w.heap.size, 9, none⟩ (.int .i64 2)).setCell ⟨w.heap.size, 10, none⟩ (.int .i64 nd)).setCell ⟨w.heap.size, 12, none⟩ (.slice none 0 0)).setCell ⟨w.heap.size, 11, none⟩ (.int .i64 0)).setCell ⟨w.heap.size, 13, none⟩ (.slice none 0 0)).heap[w.heap.size]? = some (.cells #[.int .i64 nd, .int .u64 (tm : Int), .int .i64 vo, .int .u64 (i2 : Int), .int .u64 (t2 : Int), .int .i64 k2, .slice b2a b2n b2c, .slice l2a l2n l2c, .int .u64 (cm : Int), .int .i64 2, .int .i64 nd, .int .i64 0, .slice none 0 0, .slice none 0 0, .slice oa on oc] 54) := by simp [World.setCell, Array.getElem?_modify, D1]
    have fr1 : Frm n [54] W4 ((((((((((W4.setCell ⟨w.heap.size, 3, none⟩ (.int .u64 (i2 : Int))).setCell ⟨w.heap.size, 4, none⟩ (.int .u64 (t2 : Int))).setCell ⟨w.heap.size, 5, none⟩ (.int .i64 k2)).setCell ⟨w.heap.size, 6, none⟩ (.slice b2a b2n b2c)).setCell ⟨w.heap.size, 7, none⟩ (.slice l2a l2n l2c)).setCell ⟨w.heap.size, 9, none⟩ (.int .i64 2)).setCell ⟨w.heap.size, 10, none⟩ (.int .i64 nd)).setCell ⟨w.heap.size, 12, none⟩ (.slice none 0 0)).setCell ⟨w.heap.size, 11, none⟩ (.int .i64 0)).setCell ⟨w.heap.size, 13, none⟩ (.slice none 0 0)) := by
      obtain ⟨_, q⟩ : ∃ cs, W4.heap[w.heap.size]? = some (.cells cs 54 (0, 0)) := ⟨_, D1⟩
      have step : ∀ (W : World) (i : Nat) (u : Value), (∃ cs, W.heap[w.heap.size]? = some (.cells cs 54 (0, 0))) → Frm n [54] W4 W → Frm n [54] W4 (W.setCell ⟨w.heap.size, i, none⟩ u) ∧ ∃ cs, (W.setCell ⟨w.heap.size, i, none⟩ u).heap[w.heap.size]? = some (.cells cs 54 (0, 0)) := fun W i u ⟨cs, h⟩ hf => ⟨hf.trans (Frm.cell hn h u), _, by simp [World.setCell, Array.getElem?_modify, h]; rfl⟩
      have s0 := step _ 3 (.int .u64 (i2 : Int)) ⟨_, q⟩ (Frm.refl _ _ _)
      have s1 := step _ 4 (.int .u64 (t2 : Int)) s0.2 s0.1
      have s2 := step _ 5 (.int .i64 k2) s1.2 s1.1
      have s3 := step _ 6 (.slice b2a b2n b2c) s2.2 s2.1
      have s4 := step _ 7 (.slice l2a l2n l2c) s3.2 s3.1
      have s5 := step _ 9 (.int .i64 2) s4.2 s4.1
      have s6 := step _ 10 (.int .i64 nd) s5.2 s5.1
      have s7 := step _ 12 (.slice none 0 0) s6.2 s6.1
      have s8 := step _ 11 (.int .i64 0) s7.2 s7.1
      have s9 := step _ 13 (.slice none 0 0) s8.2 s8.1
      exact s9.1
    have g2 : ((((((((((W4.setCell ⟨w.heap.size, 3, none⟩ (.int .u64 (i2 : Int))).setCell ⟨w.heap.size, 4, none⟩ (.int .u64 (t2 : Int))).setCell ⟨w.heap.size, 5, none⟩ (.int .i64 k2)).setCell ⟨w.heap.size, 6, none⟩ (.slice b2a b2n b2c)).setCell ⟨w.heap.size, 7, none⟩ (.slice l2a l2n l2c)).setCell ⟨w.heap.size, 9, none⟩ (.int .i64 2)).setCell ⟨w.heap.size, 10, none⟩ (.int .i64 nd)).setCell ⟨w.heap.size, 12, none⟩ (.slice none 0 0)).setCell ⟨w.heap.size, 11, none⟩ (.int .i64 0)).setCell ⟨w.heap.size, 13, none⟩ (.slice none 0 0)).heap[w.heap.size + 1]? = _ := ((set_far (by omega) _).trans ((set_far (by omega) _).trans ((set_far (by omega) _).trans ((set_far (by omega) _).trans ((set_far (by omega) _).trans ((set_far (by omega) _).trans ((set_far (by omega) _).trans ((set_far (by omega) _).trans ((set_far (by omega) _).trans (set_far (by omega) _)))))))))).trans D2
    have hb1 : Below w.heap.size w ((((((((((W4.setCell ⟨w.heap.size, 3, none⟩ (.int .u64 (i2 : Int))).setCell ⟨w.heap.size, 4, none⟩ (.int .u64 (t2 : Int))).setCell ⟨w.heap.size, 5, none⟩ (.int .i64 k2)).setCell ⟨w.heap.size, 6, none⟩ (.slice b2a b2n b2c)).setCell ⟨w.heap.size, 7, none⟩ (.slice l2a l2n l2c)).setCell ⟨w.heap.size, 9, none⟩ (.int .i64 2)).setCell ⟨w.heap.size, 10, none⟩ (.int .i64 nd)).setCell ⟨w.heap.size, 12, none⟩ (.slice none 0 0)).setCell ⟨w.heap.size, 11, none⟩ (.int .i64 0)).setCell ⟨w.heap.size, 13, none⟩ (.slice none 0 0)) := (((((((((hb04.setCell (p := ⟨w.heap.size, 3, none⟩) (Nat.le_refl _) (.int .u64 (i2 : Int))).setCell (p := ⟨w.heap.size, 4, none⟩) (Nat.le_refl _) (.int .u64 (t2 : Int))).setCell (p := ⟨w.heap.size, 5, none⟩) (Nat.le_refl _) (.int .i64 k2)).setCell (p := ⟨w.heap.size, 6, none⟩) (Nat.le_refl _) (.slice b2a b2n b2c)).setCell (p := ⟨w.heap.size, 7, none⟩) (Nat.le_refl _) (.slice l2a l2n l2c)).setCell (p := ⟨w.heap.size, 9, none⟩) (Nat.le_refl _) (.int .i64 2)).setCell (p := ⟨w.heap.size, 10, none⟩) (Nat.le_refl _) (.int .i64 nd)).setCell (p := ⟨w.heap.size, 12, none⟩) (Nat.le_refl _) (.slice none 0 0)).setCell (p := ⟨w.heap.size, 11, none⟩) (Nat.le_refl _) (.int .i64 0)).setCell (p := ⟨w.heap.size, 13, none⟩) (Nat.le_refl _) (.slice none 0 0)
    have hS1 : StV n ((((((((((W4.setCell ⟨w.heap.size, 3, none⟩ (.int .u64 (i2 : Int))).setCell ⟨w.heap.size, 4, none⟩ (.int .u64 (t2 : Int))).setCell ⟨w.heap.size, 5, none⟩ (.int .i64 k2)).setCell ⟨w.heap.size, 6, none⟩ (.slice b2a b2n b2c)).setCell ⟨w.heap.size, 7, none⟩ (.slice l2a l2n l2c)).setCell ⟨w.heap.size, 9, none⟩ (.int .i64 2)).setCell ⟨w.heap.size, 10, none⟩ (.int .i64 nd)).setCell ⟨w.heap.size, 12, none⟩ (.slice none 0 0)).setCell ⟨w.heap.size, 11, none⟩ (.int .i64 0)).setCell ⟨w.heap.size, 13, none⟩ (.slice none 0 0)) (.agg #[.int .i64 nd, .int .u64 (tm : Int), .int .i64 vo, .int .u64 (i2 : Int), .int .u64 (t2 : Int), .int .i64 k2, .slice b2a b2n b2c, .slice l2a l2n l2c, .int .u64 (cm : Int), .int .i64 2, .int .i64 nd, .int .i64 0, .slice none 0 0, .slice none 0 0, .slice oa on oc]) ⟨⟨nd, tm, vo, ⟨i2, t2, k2, d2⟩, l2, cm, 2, nd, 0, [], []⟩, so⟩ := ⟨⟨⟨nd, tm, vo, ⟨i2, t2, k2, d2⟩, l2, cm, 2, nd, 0, [], []⟩, zs2, (b2a, b2n, b2c), (l2a, l2n, l2c), (none, 0, 0), (none, 0, 0)⟩, gs, (oa, on, oc), rfl, rfl, ⟨(hD3.below hb4).frm fr1 (by decide), (hE3.below hb4).frm fr1 (by decide) (by decide), hm3, RdN.nil _ _ _ _, RdN.nil _ _ _ _⟩, (hM.below hb04).frm fr1 (by decide), ho⟩
    have ks := settle_of n _ _ _ hS1 (Nat.le_trans hn hb1.size) hok2.1 hok2.2.1 (by dsimp only; omega) (by simp) (by have := may_vlen hmy2; show (votM _ _).length ≤ _; dsimp only; omega) hol (by have h1 := (may_last hmy2).1; have h2 := (may_last hmy2).2; show (lastM _ _).1 + 1 < _; dsimp only at *; omega) (by simp)
    rw [← HSE.out] at ks
    clear hM ho HS HLE hD3 hE3 hm3 hS1 hok2 hmy hmy2 fr1
    go_wp2_with fail
    refine ks.mono ?_
    rintro e w9 ⟨v9, rfl, hS9, hb9⟩
    have g29 := (hb9.block (w.heap.size + 1) (Array.getElem?_eq_some_iff.1 g2).1).trans g2
    have hb09 := hb1.trans (hb9.mono hb1.size)
    obtain ⟨cs, rfl, h15, hone⟩ := hS9.shape
    have HF := setRow_heap _ _ _ cs _ _ g29
    have hbf := below_row hb09 (g := w.heap.size + 1) (by omega) cs
    have hSf := hS9.frm (Frm.row (n := n) (by omega) g29 cs) (by decide)
    clear ks g1 g2 hb1 hb9
    go_wp2_with (refine wpList_store_row rfl 54 _ _ rfl (w.heap.size + 1) cs rfl rfl _ _ g29 (by rw [h15]; exact sizeSt) (by rw [h15]; rfl) hone ?_)
    (try simp only [Exit.inBlock, Exit.then])
    refine bodyPost_ret (results_stv rfl _ _ (w.heap.size + 1) cs h15 rfl HF) rfl ?_
    exact ⟨_, rfl, hSf, hbf⟩
  · have HSE : Hid (_ = _) := HLE.out.trans (if_neg hc)
    have hcb : (c != 0) = true := by simpa using hc
    have HF := setRow_heap _ _ _ #[.int .i64 nd, .int .u64 (tm : Int), .int .i64 vo, .int .u64 (bi : Int), .int .u64 (bt : Int), .int .i64 bk, .slice ba bn bc, .slice la ln lc, .int .u64 (cm : Int), .int .i64 ro, .int .i64 le, .int .i64 el, .slice va vn vc, .slice pa pn pc, .slice oa on oc] _ _ D2
    have hbf := below_row hb04 (g := w.heap.size + 1) (by omega) #[.int .i64 nd, .int .u64 (tm : Int), .int .i64 vo, .int .u64 (bi : Int), .int .u64 (bt : Int), .int .i64 bk, .slice ba bn bc, .slice la ln lc, .int .u64 (cm : Int), .int .i64 ro, .int .i64 le, .int .i64 el, .slice va vn vc, .slice pa pn pc, .slice oa on oc]
    have hSf := (HS.out _ hb04).frm (Frm.row (n := n) (by omega) D2 #[.int .i64 nd, .int .u64 (tm : Int), .int .i64 vo, .int .u64 (bi : Int), .int .u64 (bt : Int), .int .i64 bk, .slice ba bn bc, .slice la ln lc, .int .u64 (cm : Int), .int .i64 ro, .int .i64 le, .int .i64 el, .slice va vn vc, .slice pa pn pc, .slice oa on oc]) (by decide)
    clear hM ho HS HLE hD3 hE3 hm3 hok2 hmy
    go_wp2_with (first | refine wpList_load_row rfl 54 _ rfl w.heap.size rfl _ _ _ _ D1 Tryz.underlying54 rfl (by kernel_rfl) ?_ | refine wpList_store_row rfl 54 _ _ rfl (w.heap.size + 1) _ rfl rfl _ _ D2 (by kernel_rfl) rfl (by simp [Value.oneCell']) ?_)
    (try simp only [Exit.inBlock, Exit.then])
    refine bodyPost_ret (results_stv rfl _ _ (w.heap.size + 1) _ rfl rfl HF) rfl ?_
    exact ⟨_, rfl, by rw [HSE.out]; exact hSf, hbf⟩
end Go.Proofs.YtncoandnelgkeaaGreat

/- The document's ask: it campaigns. -/
namespace Go.Proofs.YtncoandnelgkeaaGreat
open Go.RowKit QuorumMath RlogMath RaftMath
set_option maxRecDepth 100000
set_option linter.unusedSimpArgs false
set_option linter.unusedVariables false

set_option maxHeartbeats 8000000 in
theorem ask_of (n : Nat) (s : Ms) (v : Value) (w : World) (hS : StV n w v s) (hn : n ≤ w.heap.size) (hbo : OkM s.r.base) (hlo : ∀ e ∈ s.r.log, OkM e) (hlg : s.r.log.length ≤ 1000000) (hol : s.out.length ≤ 100) (htm : s.r.term < 4611686018427387904) (hvl : (votR s.r).length ≤ 1000) : Calls Tryz.prog 56 #[v] w fun e w' => ∃ v', e = .returned v' ∧ StV n w' v' (askR s) ∧ Below w.heap.size w w' := by
  have HS0 : Hid (StV n w v s) := hS
  obtain ⟨z, gs, os, rfl, hz, hR, hM, ho⟩ := hS
  obtain ⟨r, zs, ⟨ba, bn, bc⟩, ⟨la, ln, lc⟩, ⟨va, vn, vc⟩, ⟨pa, pn, pc⟩⟩ := z
  obtain ⟨sr, so⟩ := s
  obtain rfl : r = sr := hz
  obtain ⟨nd, tm, vo, ⟨bi, bt, bk, bd⟩, lg, cm, ro, le, el, vt, pe⟩ := r
  obtain ⟨oa, on, oc⟩ := os
  dsimp only [votR] at *
  dsimp only [sv] at *
  clear hR hM ho
  obtain ⟨hsz, B1, B2, hb2⟩ := two_box w (.cells #[.int .i64 nd, .int .u64 (tm : Int), .int .i64 vo, .int .u64 (bi : Int), .int .u64 (bt : Int), .int .i64 bk, .slice ba bn bc, .slice la ln lc, .int .u64 (cm : Int), .int .i64 ro, .int .i64 le, .int .i64 el, .slice va vn vc, .slice pa pn pc, .slice oa on oc] 54) (.cells #[.int .i64 0, .int .u64 0, .int .i64 0, .int .u64 0, .int .u64 0, .int .i64 0, .slice none 0 0, .slice none 0 0, .int .u64 0, .int .i64 0, .int .i64 0, .int .i64 0, .slice none 0 0, .slice none 0 0, .slice none 0 0] 54)
  have kf := fol_of n _ (tm + 1) _ _ (HS0.out.below hb2) (by omega)
  rw [show ((tm + 1 : Nat) : Int) = (tm : Int) + 1 from rfl] at kf
  have hwt : IntKind.u64.wrap ((tm : Int) + 1) = (tm : Int) + 1 := IntWalk.u64_in _ (by omega)
  have HASK : Hid (askR ⟨⟨nd, tm, vo, ⟨bi, bt, bk, bd⟩, lg, cm, ro, le, el, vt, pe⟩, so⟩ = if wonR (votM ⟨bi, bt, bk, bd⟩ lg) [nd] then leadR ⟨⟨nd, tm + 1, nd, ⟨bi, bt, bk, bd⟩, lg, cm, 1, 0, 0, [nd], []⟩, so⟩ else (votM ⟨bi, bt, bk, bd⟩ lg).foldl (ask1 (lastM ⟨bi, bt, bk, bd⟩ lg).1 (lastM ⟨bi, bt, bk, bd⟩ lg).2) ⟨⟨nd, tm + 1, nd, ⟨bi, bt, bk, bd⟩, lg, cm, 1, 0, 0, [nd], []⟩, so⟩) := rfl
  go_enter Tryz.func56, Tryz.ntmps56
  go_wp2_with fail
  refine kf.mono ?_
  rintro e w1 ⟨v1, rfl, hS1, hb1⟩
  rw [hsz] at hb1
  have D0 := (hb1.block w.heap.size (by omega)).trans B1
  have D2 := (hb1.block (w.heap.size + 1) (by omega)).trans B2
  have hb01 := hb2.trans (hb1.mono (by omega))
  have hs1 : w.heap.size + 1 + 1 ≤ w1.heap.size := hb1.size |> fun h => by omega
  obtain ⟨z, gs', os', rfl, hz, hR, hM, ho⟩ := hS1
  obtain ⟨r, zs', ⟨ba', bn', bc'⟩, ⟨la', ln', lc'⟩, ⟨va', vn', vc'⟩, ⟨pa', pn', pc'⟩⟩ := z
  obtain ⟨oa', on', oc'⟩ := os'
  obtain rfl : r = ⟨nd, tm + 1, 0, ⟨bi, bt, bk, bd⟩, lg, cm, 0, 0, el, [], []⟩ := hz
  clear kf B1 B2 hb2 hsz HS0 hb1
  dsimp only [sv] at *
  rw [show ((tm + 1 : Nat) : Int) = (tm : Int) + 1 from rfl]
  obtain ⟨W2, hW2⟩ : ∃ W, w1.setRow w.heap.size #[.int .i64 nd, .int .u64 ((tm : Int) + 1), .int .i64 0, .int .u64 (bi : Int), .int .u64 (bt : Int), .int .i64 bk, .slice ba' bn' bc', .slice la' ln' lc', .int .u64 (cm : Int), .int .i64 0, .int .i64 0, .int .i64 el, .slice va' vn' vc', .slice pa' pn' pc', .slice oa' on' oc'] = W := ⟨_, rfl⟩
  have R1 := setRow_heap _ _ _ #[.int .i64 nd, .int .u64 ((tm : Int) + 1), .int .i64 0, .int .u64 (bi : Int), .int .u64 (bt : Int), .int .i64 bk, .slice ba' bn' bc', .slice la' ln' lc', .int .u64 (cm : Int), .int .i64 0, .int .i64 0, .int .i64 el, .slice va' vn' vc', .slice pa' pn' pc', .slice oa' on' oc'] _ _ D0
  have R2 := (setRow_other w1 w.heap.size (w.heap.size + 1) #[.int .i64 nd, .int .u64 ((tm : Int) + 1), .int .i64 0, .int .u64 (bi : Int), .int .u64 (bt : Int), .int .i64 bk, .slice ba' bn' bc', .slice la' ln' lc', .int .u64 (cm : Int), .int .i64 0, .int .i64 0, .int .i64 el, .slice va' vn' vc', .slice pa' pn' pc', .slice oa' on' oc'] (by omega)).trans D2
  have hbR := below_row hb01 (g := w.heap.size) (Nat.le_refl _) #[.int .i64 nd, .int .u64 ((tm : Int) + 1), .int .i64 0, .int .u64 (bi : Int), .int .u64 (bt : Int), .int .i64 bk, .slice ba' bn' bc', .slice la' ln' lc', .int .u64 (cm : Int), .int .i64 0, .int .i64 0, .int .i64 el, .slice va' vn' vc', .slice pa' pn' pc', .slice oa' on' oc']
  have frR := Frm.row (n := n) hn D0 #[.int .i64 nd, .int .u64 ((tm : Int) + 1), .int .i64 0, .int .u64 (bi : Int), .int .u64 (bt : Int), .int .i64 bk, .slice ba' bn' bc', .slice la' ln' lc', .int .u64 (cm : Int), .int .i64 0, .int .i64 0, .int .i64 el, .slice va' vn' vc', .slice pa' pn' pc', .slice oa' on' oc']
  have hszR : W2.heap.size = w1.heap.size := by rw [← hW2]; simp
  rw [hW2] at R1 R2 hbR frR
  obtain ⟨W3, hW3⟩ : ∃ W, (((W2.setCell ⟨w.heap.size, 2, none⟩ (.int .i64 nd)).setCell ⟨w.heap.size, 9, none⟩ (.int .i64 1)).setCell ⟨w.heap.size, 11, none⟩ (.int .i64 0)).alloc (.cells #[.int .i64 nd] 3) = W := ⟨_, rfl⟩
  have T1 : (((W2.setCell ⟨w.heap.size, 2, none⟩ (.int .i64 nd)).setCell ⟨w.heap.size, 9, none⟩ (.int .i64 1)).setCell ⟨w.heap.size, 11, none⟩ (.int .i64 0)).heap[w.heap.size]? = some (.cells #[.int .i64 nd, .int .u64 ((tm : Int) + 1), .int .i64 nd, .int .u64 (bi : Int), .int .u64 (bt : Int), .int .i64 bk, .slice ba' bn' bc', .slice la' ln' lc', .int .u64 (cm : Int), .int .i64 1, .int .i64 0, .int .i64 0, .slice va' vn' vc', .slice pa' pn' pc', .slice oa' on' oc'] 54) := by simp [World.setCell, Array.getElem?_modify, R1]
  have T2 : (((W2.setCell ⟨w.heap.size, 2, none⟩ (.int .i64 nd)).setCell ⟨w.heap.size, 9, none⟩ (.int .i64 1)).setCell ⟨w.heap.size, 11, none⟩ (.int .i64 0)).heap[w.heap.size + 1]? = _ := (set_far (by omega) _).trans ((set_far (by omega) _).trans ((set_far (by omega) _).trans R2))
  have hbT : Below w.heap.size w (((W2.setCell ⟨w.heap.size, 2, none⟩ (.int .i64 nd)).setCell ⟨w.heap.size, 9, none⟩ (.int .i64 1)).setCell ⟨w.heap.size, 11, none⟩ (.int .i64 0)) := ((hbR.setCell (p := ⟨w.heap.size, 2, none⟩) (Nat.le_refl _) _).setCell (p := ⟨w.heap.size, 9, none⟩) (Nat.le_refl _) _).setCell (p := ⟨w.heap.size, 11, none⟩) (Nat.le_refl _) _
  have hszT : (((W2.setCell ⟨w.heap.size, 2, none⟩ (.int .i64 nd)).setCell ⟨w.heap.size, 9, none⟩ (.int .i64 1)).setCell ⟨w.heap.size, 11, none⟩ (.int .i64 0)).heap.size = W2.heap.size := by simp [World.setCell]
  have frT : Frm n [54] w1 (((W2.setCell ⟨w.heap.size, 2, none⟩ (.int .i64 nd)).setCell ⟨w.heap.size, 9, none⟩ (.int .i64 1)).setCell ⟨w.heap.size, 11, none⟩ (.int .i64 0)) := by
    refine frR.trans ?_
    have step : ∀ (W : World) (i : Nat) (u : Value), (∃ cs, W.heap[w.heap.size]? = some (.cells cs 54 (0, 0))) → Frm n [54] W2 W → Frm n [54] W2 (W.setCell ⟨w.heap.size, i, none⟩ u) ∧ ∃ cs, (W.setCell ⟨w.heap.size, i, none⟩ u).heap[w.heap.size]? = some (.cells cs 54 (0, 0)) := fun W i u ⟨cs, h⟩ hf => ⟨hf.trans (Frm.cell hn h u), _, by simp [World.setCell, Array.getElem?_modify, h]; rfl⟩
    have s0 := step _ 2 (.int .i64 nd) ⟨_, R1⟩ (Frm.refl _ _ _)
    have s1 := step _ 9 (.int .i64 1) s0.2 s0.1
    have s2 := step _ 11 (.int .i64 0) s1.2 s1.1
    exact s2.1
  obtain ⟨x1, x2, x3⟩ := one_box (((W2.setCell ⟨w.heap.size, 2, none⟩ (.int .i64 nd)).setCell ⟨w.heap.size, 9, none⟩ (.int .i64 1)).setCell ⟨w.heap.size, 11, none⟩ (.int .i64 0)) (.cells #[.int .i64 nd] 3)
  rw [hW3, hszT] at x1 x2 x3
  have D1 := (x3.block w.heap.size (by omega)).trans T1
  have D2 := (x3.block (w.heap.size + 1) (by omega)).trans T2
  have hb3 : Below w.heap.size w W3 := hbT.trans (x3.mono (by omega))
  have fr3 : Frm n [54] w1 W3 := frT.trans (Frm.of_below _ (by rw [hszT]; exact x3) (by rw [hszT]; omega))
  have g1 : (W3.setCell ⟨w.heap.size, 12, none⟩ (.slice (some ⟨W2.heap.size, 0, none⟩) 1 1)).heap[w.heap.size]? = some (.cells #[.int .i64 nd, .int .u64 ((tm : Int) + 1), .int .i64 nd, .int .u64 (bi : Int), .int .u64 (bt : Int), .int .i64 bk, .slice ba' bn' bc', .slice la' ln' lc', .int .u64 (cm : Int), .int .i64 1, .int .i64 0, .int .i64 0, .slice (some ⟨W2.heap.size, 0, none⟩) 1 1, .slice pa' pn' pc', .slice oa' on' oc'] 54) := by simp [World.setCell, Array.getElem?_modify, D1]
  have g2 : (W3.setCell ⟨w.heap.size, 12, none⟩ (.slice (some ⟨W2.heap.size, 0, none⟩) 1 1)).heap[w.heap.size + 1]? = _ := (set_far (by omega) _).trans D2
  have hb4 : Below w.heap.size w (W3.setCell ⟨w.heap.size, 12, none⟩ (.slice (some ⟨W2.heap.size, 0, none⟩) 1 1)) := hb3.setCell (p := ⟨w.heap.size, 12, none⟩) (Nat.le_refl _) _
  have fr4 : Frm n [54] w1 (W3.setCell ⟨w.heap.size, 12, none⟩ (.slice (some ⟨W2.heap.size, 0, none⟩) 1 1)) := fr3.trans (Frm.cell hn D1 _)
  have hRK : Rk intE W3 3 (.slice (some ⟨W2.heap.size, 0, none⟩) 1 1) [nd] := Rk.made (E := intE) (xs := [nd]) x2 rfl (by unfold maxLen; simp)
  have hRK4 := hRK.frm (Frm.cell (n := n) (i := 12) hn D1 (.slice (some ⟨W2.heap.size, 0, none⟩) 1 1)) (by decide)
  have hS4 : StV n (W3.setCell ⟨w.heap.size, 12, none⟩ (.slice (some ⟨W2.heap.size, 0, none⟩) 1 1)) (.agg #[.int .i64 nd, .int .u64 ((tm : Int) + 1), .int .i64 nd, .int .u64 (bi : Int), .int .u64 (bt : Int), .int .i64 bk, .slice ba' bn' bc', .slice la' ln' lc', .int .u64 (cm : Int), .int .i64 1, .int .i64 0, .int .i64 0, .slice (some ⟨W2.heap.size, 0, none⟩) 1 1, .slice pa' pn' pc', .slice oa' on' oc']) ⟨⟨nd, tm + 1, nd, ⟨bi, bt, bk, bd⟩, lg, cm, 1, 0, 0, [nd], []⟩, so⟩ := ⟨⟨⟨nd, tm + 1, nd, ⟨bi, bt, bk, bd⟩, lg, cm, 1, 0, 0, [nd], []⟩, zs', (ba', bn', bc'), (la', ln', lc'), (some ⟨W2.heap.size, 0, none⟩, 1, 1), (pa', pn', pc')⟩, gs', (oa', on', oc'), rfl, rfl, ⟨hR.1.frm fr4 (by decide), hR.2.1.frm fr4 (by decide) (by decide), hR.2.2.1, hRK4.toN n, hR.2.2.2.2.frm fr4 (by decide)⟩, hM.frm fr4 (by decide), ho⟩
  have hml : mes zs' = lg := hR.2.2.1
  have hzl : zs'.length ≤ 1000000 := by have := congrArg List.length hml; rw [List.length_map] at this; omega
  have hzo := okz_of hml hlo
  have hs4 : w.heap.size + 1 + 1 + 1 ≤ (W3.setCell ⟨w.heap.size, 12, none⟩ (.slice (some ⟨W2.heap.size, 0, none⟩) 1 1)).heap.size := by simp [World.setCell]; omega
  have kv := rvot_k (⟨bi, bt, bk, bd⟩, ba', bn', bc') zs' (.slice la' ln' lc') (W3.setCell ⟨w.heap.size, 12, none⟩ (.slice (some ⟨W2.heap.size, 0, none⟩) 1 1)) (hR.1.frm fr4 (by decide)).v (hR.2.1.frm fr4 (by decide) (by decide)).v ⟨hbo.1, hbo.2.1, hbo.2.2.1⟩ (fun z hz => (hzo z hz).1) (by omega) hbo.2.2.2 (fun z hz => (hzo z hz).2)
  have HLA : Hid (∀ W, Below (W3.setCell ⟨w.heap.size, 12, none⟩ (.slice (some ⟨W2.heap.size, 0, none⟩) 1 1)).heap.size (W3.setCell ⟨w.heap.size, 12, none⟩ (.slice (some ⟨W2.heap.size, 0, none⟩) 1 1)) W → _) := fun W hW => rlast_of (⟨bi, bt, bk, bd⟩, ba', bn', bc') zs' (.slice la' ln' lc') W ((hR.2.1.frm fr4 (by decide) (by decide)).below hW).v (by omega)
  rw [hml] at kv HLA
  dsimp only [lgv] at kv HLA
  obtain ⟨V, hV⟩ : ∃ V, V = votM (⟨bi, bt, bk, bd⟩ : Me) lg := ⟨_, rfl⟩
  rw [← hV] at kv HASK hvl
  have HBO : Hid (OkM ⟨bi, bt, bk, bd⟩ ∧ ∀ e ∈ lg, OkM e) := ⟨hbo, hlo⟩
  obtain ⟨⟨-, -, f2, -, -, -, -, -, -, f9, -, f11, -, -, -⟩, o0, -, o2, -, -, -, -, -, -, o9, -, o11, -, -, -⟩ := r15_cells R1
  obtain ⟨⟨-, -, -, -, -, -, -, -, -, -, -, -, g12, -, -⟩, -, -, -, p3, p4, p5, p6, p7, -, -, -, -, p12, -, -⟩ := r15_cells D1
  clear hR hM ho hbo hlo hzo hml hV T1 T2 hbT frT R2 hbR R1 hszR hszT x1 x2 x3 fr3 fr4 hRK
  go_wp2_with (refine wpList_store_row rfl 54 _ _ rfl w.heap.size #[.int .i64 nd, .int .u64 ((tm : Int) + 1), .int .i64 0, .int .u64 (bi : Int), .int .u64 (bt : Int), .int .i64 bk, .slice ba' bn' bc', .slice la' ln' lc', .int .u64 (cm : Int), .int .i64 0, .int .i64 0, .int .i64 el, .slice va' vn' vc', .slice pa' pn' pc', .slice oa' on' oc'] rfl rfl _ _ D0 (by kernel_rfl) rfl (by simp [Value.oneCell']) ?_)
  refine kv.mono ?_
  rintro e w5 ⟨u, rfl, hRV, hb5⟩
  have E1 := (hb5.block w.heap.size (by omega)).trans g1
  have E2 := (hb5.block (w.heap.size + 1) (by omega)).trans g2
  have hb05 := hb4.trans (hb5.mono hb4.size)
  have hS5 := hS4.below hb5
  have hRK5 := hRK4.same fun k hk => hb5.block k (hRK4.lt hk)
  have hs5 : w.heap.size + 1 + 1 + 1 ≤ w5.heap.size := Nat.le_trans hs4 hb5.size
  have kla := HLA.out w5 hb5
  have kw := rwon_of V u [nd] _ w5 hRV.rd hRK5.rd (by omega) (by simp)
  obtain ⟨ua, uc, rfl, -, -⟩ := hRV.rd.shape
  have HRV : Hid (Rk intE w5 3 (.slice ua V.length uc) V) := hRV
  obtain ⟨-, o0, o1, o2, o3, o4, o5, o6, o7, o8, o9, o10, o11, o12, o13, o14⟩ := r15_cells E1
  clear kv HLA hb5 hS4 g1 g2 hb4 hRK4 hRK5 hRV f2 f9 f11 g12 p3 p4 p5 p6 p7 p12 D0 D1 D2 hb3 hW2 hW3 hs4 hb01
  generalize W2.heap.size = W2s at *
  go_wp2_with fail
  refine kw.mono ?_
  rintro e w6 ⟨rfl, hw6⟩
  subst hw6
  clear kw
  cases hwon : wonR V [nd] with
  | true =>
    have HSE : Hid (_ = _) := HASK.out.trans (if_pos hwon)
    have kl := lead_of n _ _ w6 hS5 (Nat.le_trans hn hb05.size) HBO.out.1 HBO.out.2 hlg (by dsimp only; omega) (by dsimp only; omega)
    rw [← HSE.out] at kl
    clear hS5 HRV HASK kla hwon
    try rw [show ((tm + 1 : Nat) : Int) = (tm : Int) + 1 from rfl] at kl
    go_wp2_with fail
    refine kl.mono ?_
    rintro e w9 ⟨v9, rfl, hS9, hb9⟩
    have g29 := (hb9.block (w.heap.size + 1) (by omega)).trans E2
    have hb09 := hb05.trans (hb9.mono hb05.size)
    obtain ⟨cs, rfl, h15, hone⟩ := hS9.shape
    have HF := setRow_heap _ _ _ cs _ _ g29
    have hbf := below_row hb09 (g := w.heap.size + 1) (by omega) cs
    have hSf := hS9.frm (Frm.row (n := n) (by omega) g29 cs) (by decide)
    clear kl o0 o1 o2 o3 o4 o5 o6 o7 o8 o9 o10 o11 o12 o13 o14
    go_wp2_with (refine wpList_store_row rfl 54 _ _ rfl (w.heap.size + 1) cs rfl rfl _ _ g29 (by rw [h15]; exact sizeSt) (by rw [h15]; rfl) hone ?_)
    (try simp only [Exit.inBlock, Exit.then])
    refine bodyPost_ret (results_stv rfl _ _ (w.heap.size + 1) cs h15 rfl HF) rfl ?_
    exact ⟨_, rfl, hSf, hbf⟩
  | false =>
    have HSE : Hid (_ = _) := HASK.out.trans (if_neg (by rw [hwon]; simp))
    clear HASK hwon
    generalize lastM ⟨bi, bt, bk, bd⟩ lg = LT at *
    obtain ⟨X, XT⟩ := LT
    dsimp only [lastV] at kla HSE
    go_wp2_with fail
    refine kla.mono ?_
    rintro e w7 ⟨rfl, hb7⟩
    have E1 := (hb7.block w.heap.size (by omega)).trans E1
    have E2 := (hb7.block (w.heap.size + 1) (by omega)).trans E2
    have hb07 := hb05.trans (hb7.mono hb05.size)
    have hS7 := hS5.below hb7
    have hRV7 := HRV.out.same fun k hk => hb7.block k (HRV.out.lt hk)
    have HP : Hid (∀ k, ((V.take k).foldl (ask1 X XT) ⟨⟨nd, tm + 1, nd, ⟨bi, bt, bk, bd⟩, lg, cm, 1, 0, 0, [nd], []⟩, so⟩).r = ⟨nd, tm + 1, nd, ⟨bi, bt, bk, bd⟩, lg, cm, 1, 0, 0, [nd], []⟩) := fun k => asks_r _ _ _ _
    have HQ : Hid (∀ k, ((V.take k).foldl (ask1 X XT) ⟨⟨nd, tm + 1, nd, ⟨bi, bt, bk, bd⟩, lg, cm, 1, 0, 0, [nd], []⟩, so⟩).out.length ≤ 1000000000) := fun k => by
      have h1 := asks_len X XT (V.take k) ⟨⟨nd, tm + 1, nd, ⟨bi, bt, bk, bd⟩, lg, cm, 1, 0, 0, [nd], []⟩, so⟩
      rw [List.length_take] at h1
      dsimp only at h1
      omega
    have HE : Hid ((V.take V.length).foldl (ask1 X XT) ⟨⟨nd, tm + 1, nd, ⟨bi, bt, bk, bd⟩, lg, cm, 1, 0, 0, [nd], []⟩, so⟩ = V.foldl (ask1 X XT) ⟨⟨nd, tm + 1, nd, ⟨bi, bt, bk, bd⟩, lg, cm, 1, 0, 0, [nd], []⟩, so⟩) := by show _ = _; rw [List.take_length]
    have HN : Hid (∀ k x, V[k]? = some x → (V.take (k + 1)).foldl (ask1 X XT) ⟨⟨nd, tm + 1, nd, ⟨bi, bt, bk, bd⟩, lg, cm, 1, 0, 0, [nd], []⟩, so⟩ = ask1 X XT ((V.take k).foldl (ask1 X XT) ⟨⟨nd, tm + 1, nd, ⟨bi, bt, bk, bd⟩, lg, cm, 1, 0, 0, [nd], []⟩, so⟩) x) := fun k x hx => fold_take _ hx _
    have HI0 : Hid (StV n w7 _ ((V.take 0).foldl (ask1 X XT) ⟨⟨nd, tm + 1, nd, ⟨bi, bt, bk, bd⟩, lg, cm, 1, 0, 0, [nd], []⟩, so⟩)) := hS7
    clear kla hS5 hb05 HRV hS7 o0 o1 o2 o3 o4 o5 o6 o7 o8 o9 o10 o11 o12 o13 o14 HBO hb7 hs5
    go_wp2
    go_loopg [6] V.length (fun gh s6 wr => ∃ (k : Nat) (cs : Array Value), k + gh = V.length ∧ s6 = .int .i64 (k : Int) ∧ wr.heap[w.heap.size]? = some (.cells cs 54) ∧ wr.heap[w.heap.size + 1]? = some (.cells #[.int .i64 0, .int .u64 0, .int .i64 0, .int .u64 0, .int .u64 0, .int .i64 0, .slice none 0 0, .slice none 0 0, .int .u64 0, .int .i64 0, .int .i64 0, .int .i64 0, .slice none 0 0, .slice none 0 0, .slice none 0 0] 54) ∧ StV n wr (.agg cs) ((V.take k).foldl (ask1 X XT) ⟨⟨nd, tm + 1, nd, ⟨bi, bt, bk, bd⟩, lg, cm, 1, 0, 0, [nd], []⟩, so⟩) ∧ Rk intE wr 3 (.slice ua V.length uc) V ∧ Below w.heap.size w wr)
    case atStart => exact ⟨0, _, by simp, rfl, E1, E2, HI0.out, hRV7, hb07⟩
    case round =>
      obtain ⟨k, cs, hkg, rfl, D1, D2, hSr, hRV, hbr⟩ := hrel
      clear E1 E2 HI0 hRV7 hb07
      have hszr : w.heap.size + 1 + 1 ≤ wr.heap.size := (Array.getElem?_eq_some_iff.1 D2).1
      have hr := HP.out k
      have hq := HQ.out k
      have HNk := HN.out k
      have HEk : Hid (k = V.length → (V.take k).foldl (ask1 X XT) ⟨⟨nd, tm + 1, nd, ⟨bi, bt, bk, bd⟩, lg, cm, 1, 0, 0, [nd], []⟩, so⟩ = V.foldl (ask1 X XT) ⟨⟨nd, tm + 1, nd, ⟨bi, bt, bk, bd⟩, lg, cm, 1, 0, 0, [nd], []⟩, so⟩) := fun h => by rw [h]; exact HE.out
      generalize (V.take k).foldl (ask1 X XT) ⟨⟨nd, tm + 1, nd, ⟨bi, bt, bk, bd⟩, lg, cm, 1, 0, 0, [nd], []⟩, so⟩ = a at *
      have HSr : Hid (StV n wr (.agg cs) a) := hSr
      have HRV : Hid (Rk intE wr 3 (.slice ua V.length uc) V) := hRV
      obtain ⟨z, gs, os, hcs, hz, hR, hM, ho⟩ := hSr
      rw [hr] at hz
      obtain ⟨r, zs, ⟨ba, bn, bc⟩, ⟨la, ln, lc⟩, ⟨va, vn, vc⟩, ⟨pa, pn, pc⟩⟩ := z
      obtain ⟨oa, on, oc⟩ := os
      dsimp only at hz
      subst hz
      simp only [sv, Value.agg.injEq] at hcs
      rw [show ((tm + 1 : Nat) : Int) = (tm : Int) + 1 from rfl] at hcs
      subst hcs
      obtain ⟨-, o0, o1, o2, o3, o4, o5, o6, o7, o8, o9, o10, o11, o12, o13, o14⟩ := r15_cells D1
      clear hR hM ho hRV
      by_cases hlt : k < V.length
      · have hlti : (k : Int) < (V.length : Int) := by omega
        have hx : V[k]? = some V[k] := List.getElem?_eq_getElem hlt
        obtain ⟨x, hxx⟩ : ∃ x, x = V[k] := ⟨_, rfl⟩
        rw [← hxx] at hx
        clear hxx
        obtain ⟨vb, vof, rfl, cv⟩ := rdi_at HRV.out.rd hx
        have c0 := cv wr (Below.refl _ _)
        have hN := HNk x hx
        have HK : Hid (∀ W, Below wr.heap.size wr W → _) := fun W hW => say_of n a ⟨⟨1, 0, x, 0, X, XT, [], 0, false, 0, zeroMe⟩, [], (none, 0, 0), (none, 0, 0)⟩ _ W (HSr.out.below hW) ⟨EntsN.nil _ _, rfl, RdN.nil _ _ _ _⟩ hq
        dsimp only [gv, zeroMe] at HK
        by_cases hnd : x = nd
        · have E : Hid (_ = a) := hN.trans (by unfold ask1; rw [hr]; exact if_pos hnd)
          subst hnd
          have HRVq := HRV.out
          clear hN HK cv hx HNk
          go_wp2
          go_quiet (fail)
          go_wp2
          go_roundg (gk - 1)
          case measure => omega
          case rel => exact ⟨k + 1, _, by omega, by go_num, by first | exact D1 | simpa using D1, by first | exact D2 | simpa using D2, by rw [E.out]; exact HSr.out.below (below_dN (Below.refl _ _) _), HRVq, below_dN hbr _⟩
        · have E : Hid (_ = sayR a ⟨1, 0, x, 0, X, XT, [], 0, false, 0, zeroMe⟩) := hN.trans (by unfold ask1; rw [hr]; exact if_neg hnd)
          have hndb : (x != nd) = true := by simpa using hnd
          clear hN hx HNk
          go_wp2
          go_quiet (fail)
          go_wp2
          (try simp only [Exit.inBlock, Exit.then])
          have hbq : Below wr.heap.size wr (wr.drewN nq) := below_dN (Below.refl _ _) nq
          have D1 : (wr.drewN nq).heap[w.heap.size]? = _ := (hbq.block w.heap.size (by omega)).trans D1
          have D2 : (wr.drewN nq).heap[w.heap.size + 1]? = _ := (hbq.block (w.heap.size + 1) (by omega)).trans D2
          have hb5 := hbr.trans (hbq.mono hbr.size)
          have HK := fun W hW => HK.out W (hbq.trans (Below.mono hW hbq.size))
          have cq := fun W hW => cv W (hbq.trans (Below.mono hW hbq.size))
          have HRVq : Hid (Rk intE (wr.drewN nq) 3 _ V) := HRV.out
          clear cv c0 o0 o1 o2 o3 o4 o5 o6 o7 o8 o9 o10 o11 o12 o13 o14 hbq HRV
          generalize wr.drewN nq = w5 at *
          refine wp_region_L (fun W => Below w5.heap.size w5 W) [9] (by kernel_rfl) ?_
          have hbd : Below w5.heap.size w5 w5.drew := (Below.refl _ w5).drew
          have hsz5 : w.heap.size + 1 + 1 ≤ w5.heap.size := (Array.getElem?_eq_some_iff.1 D2).1
          have HCL : Hid (∀ W, Below w5.heap.size w5 W → _) := fun W hW => r15_cells ((hW.block w.heap.size (by omega)).trans D1)
          have HPL : Hid (∀ W, Below w5.heap.size w5 W → _) := cq
          have kt := HK w5.drew hbd
          generalize w5.drew = wd at *
          refine wpAnyL_take 0 rfl (by kernel_rfl) (by kernel_rfl) (by kernel_rfl) (by kernel_rfl) (fun _ _ _ h => h) (wanted_none rfl) (by intro w' hS'; have hz := hS'; obtain ⟨-, c0, c1, c2, c3, c4, c5, c6, c7, c8, c9, c10, c11, c12, c13, c14⟩ := HCL.out _ hz; have d0 := HPL.out _ hz; go_simp <;> rfl) hbd ?_
          try simp only [List.getElem_toArray, List.getElem_cons_succ, List.getElem_cons_zero, Act.put, List.setIfInBounds_toArray, List.set_cons_zero, List.set_cons_succ]
          refine wpAnyL_take 1 rfl (by kernel_rfl) (by kernel_rfl) (by kernel_rfl) (by kernel_rfl) (fun _ _ _ h => h) (wanted_none rfl) (by intro w' hS'; have hz := hS'; obtain ⟨-, c0, c1, c2, c3, c4, c5, c6, c7, c8, c9, c10, c11, c12, c13, c14⟩ := HCL.out _ hz; have d0 := HPL.out _ hz; go_simp <;> rfl) hbd ?_
          try simp only [List.getElem_toArray, List.getElem_cons_succ, List.getElem_cons_zero, Act.put, List.setIfInBounds_toArray, List.set_cons_zero, List.set_cons_succ]
          refine wpAnyL_take 2 rfl (by kernel_rfl) (by kernel_rfl) (by kernel_rfl) (by kernel_rfl) (fun _ _ _ h => h) (wanted_none rfl) (by intro w' hS'; have hz := hS'; obtain ⟨-, c0, c1, c2, c3, c4, c5, c6, c7, c8, c9, c10, c11, c12, c13, c14⟩ := HCL.out _ hz; have d0 := HPL.out _ hz; go_simp <;> rfl) hbd ?_
          try simp only [List.getElem_toArray, List.getElem_cons_succ, List.getElem_cons_zero, Act.put, List.setIfInBounds_toArray, List.set_cons_zero, List.set_cons_succ]
          refine wpAnyL_take 3 rfl (by kernel_rfl) (by kernel_rfl) (by kernel_rfl) (by kernel_rfl) (fun _ _ _ h => h) (wanted_none rfl) (by intro w' hS'; have hz := hS'; obtain ⟨-, c0, c1, c2, c3, c4, c5, c6, c7, c8, c9, c10, c11, c12, c13, c14⟩ := HCL.out _ hz; have d0 := HPL.out _ hz; go_simp <;> rfl) hbd ?_
          try simp only [List.getElem_toArray, List.getElem_cons_succ, List.getElem_cons_zero, Act.put, List.setIfInBounds_toArray, List.set_cons_zero, List.set_cons_succ]
          refine wpAnyL_take 4 rfl (by kernel_rfl) (by kernel_rfl) (by kernel_rfl) (by kernel_rfl) (fun _ _ _ h => h) (wanted_none rfl) (by intro w' hS'; have hz := hS'; obtain ⟨-, c0, c1, c2, c3, c4, c5, c6, c7, c8, c9, c10, c11, c12, c13, c14⟩ := HCL.out _ hz; have d0 := HPL.out _ hz; go_simp <;> rfl) hbd ?_
          try simp only [List.getElem_toArray, List.getElem_cons_succ, List.getElem_cons_zero, Act.put, List.setIfInBounds_toArray, List.set_cons_zero, List.set_cons_succ]
          refine wpAnyL_take 5 rfl (by kernel_rfl) (by kernel_rfl) (by kernel_rfl) (by kernel_rfl) (fun _ _ _ h => h) (wanted_none rfl) (by intro w' hS'; have hz := hS'; obtain ⟨-, c0, c1, c2, c3, c4, c5, c6, c7, c8, c9, c10, c11, c12, c13, c14⟩ := HCL.out _ hz; have d0 := HPL.out _ hz; go_simp <;> rfl) hbd ?_
          try simp only [List.getElem_toArray, List.getElem_cons_succ, List.getElem_cons_zero, Act.put, List.setIfInBounds_toArray, List.set_cons_zero, List.set_cons_succ]
          refine wpAnyL_take 6 rfl (by kernel_rfl) (by kernel_rfl) (by kernel_rfl) (by kernel_rfl) (fun _ _ _ h => h) (wanted_none rfl) (by intro w' hS'; have hz := hS'; obtain ⟨-, c0, c1, c2, c3, c4, c5, c6, c7, c8, c9, c10, c11, c12, c13, c14⟩ := HCL.out _ hz; have d0 := HPL.out _ hz; go_simp <;> rfl) hbd ?_
          try simp only [List.getElem_toArray, List.getElem_cons_succ, List.getElem_cons_zero, Act.put, List.setIfInBounds_toArray, List.set_cons_zero, List.set_cons_succ]
          refine wpAnyL_take 7 rfl (by kernel_rfl) (by kernel_rfl) (by kernel_rfl) (by kernel_rfl) (fun _ _ _ h => h) (wanted_none rfl) (by intro w' hS'; have hz := hS'; obtain ⟨-, c0, c1, c2, c3, c4, c5, c6, c7, c8, c9, c10, c11, c12, c13, c14⟩ := HCL.out _ hz; have d0 := HPL.out _ hz; go_simp <;> rfl) hbd ?_
          try simp only [List.getElem_toArray, List.getElem_cons_succ, List.getElem_cons_zero, Act.put, List.setIfInBounds_toArray, List.set_cons_zero, List.set_cons_succ]
          refine wpAnyL_one 8 (by kernel_rfl) rfl (wanted_none rfl) ?_
          intro K' hK'
          go_simp
          go_at_call 60
          refine kt.mono ?_
          rintro e w6 ⟨v6, rfl, hS6, hb6⟩
          have hSx : (fun W => Below w5.heap.size w5 W) w6 := hbd.trans (hb6.mono hbd.size)
          have g1 := (hSx.block w.heap.size (by omega)).trans D1
          have g2 := (hSx.block (w.heap.size + 1) (by omega)).trans D2
          have hb1 := hb5.trans (hSx.mono hb5.size)
          obtain ⟨csx, rfl, h15, hone⟩ := hS6.shape
          have HF := setRow_heap _ _ _ csx _ _ g1
          have g2' := (setRow_other w6 w.heap.size (w.heap.size + 1) csx (by omega)).trans g2
          have hbf := below_row hb1 (g := w.heap.size) (Nat.le_refl _) csx
          have frx := Frm.row (n := n) hn g1 csx
          have hSf := hS6.frm frx (by decide)
          have hRVf := (HRVq.out.same fun k hk => hSx.block k (HRVq.out.lt hk)).frm frx (by decide)
          clear kt
          refine hK'.out _ _ (.inr hSx) ?_
          clear hK' K'
          try simp only [List.getElem_toArray, List.getElem_cons_succ, List.getElem_cons_zero, Act.put, List.setIfInBounds_toArray, List.set_cons_zero, List.set_cons_succ]
          refine wpAnyL_one 9 (by kernel_rfl) rfl (wanted_none rfl) ?_
          intro K' hK'
          refine wp_store_row 54 _ _ rfl (w.heap.size) csx rfl rfl _ _ g1 (by rw [h15]; exact sizeSt) (by rw [h15]; rfl) hone ?_
          refine hK'.out _ _ (.inl (by decide)) ?_
          clear hK' K'
          try simp only [List.getElem_toArray, List.getElem_cons_succ, List.getElem_cons_zero, Act.put, List.setIfInBounds_toArray, List.set_cons_zero, List.set_cons_succ]
          refine wpAnyL_done (by kernel_rfl) (NoPanic.normal ?_) _
          generalize w6.setRow w.heap.size csx = W8 at *
          go_wp2
          go_roundg (gk - 1)
          case measure => omega
          case rel => exact ⟨k + 1, csx, by omega, by go_num, HF, g2', by rw [E.out]; exact hSf, hRVf, hbf⟩
      · have hlti : ¬ (k : Int) < (V.length : Int) := by omega
        have E : Hid (a = _) := HEk.out (by omega)
        have hbf := below_row hbr (g := w.heap.size + 1) (by omega) #[.int .i64 nd, .int .u64 ((tm : Int) + 1), .int .i64 nd, .int .u64 (bi : Int), .int .u64 (bt : Int), .int .i64 bk, .slice ba bn bc, .slice la ln lc, .int .u64 (cm : Int), .int .i64 1, .int .i64 0, .int .i64 0, .slice va vn vc, .slice pa pn pc, .slice oa on oc]
        have HF := setRow_heap _ _ _ #[.int .i64 nd, .int .u64 ((tm : Int) + 1), .int .i64 nd, .int .u64 (bi : Int), .int .u64 (bt : Int), .int .i64 bk, .slice ba bn bc, .slice la ln lc, .int .u64 (cm : Int), .int .i64 1, .int .i64 0, .int .i64 0, .slice va vn vc, .slice pa pn pc, .slice oa on oc] _ _ D2
        have hSf := HSr.out.frm (Frm.row (n := n) (by omega) D2 #[.int .i64 nd, .int .u64 ((tm : Int) + 1), .int .i64 nd, .int .u64 (bi : Int), .int .u64 (bt : Int), .int .i64 bk, .slice ba bn bc, .slice la ln lc, .int .u64 (cm : Int), .int .i64 1, .int .i64 0, .int .i64 0, .slice va vn vc, .slice pa pn pc, .slice oa on oc]) (by decide)
        clear HRV HNk
        go_wp2_with (first | refine wpList_load_row rfl 54 _ rfl w.heap.size rfl _ _ _ _ D1 Tryz.underlying54 rfl (by kernel_rfl) ?_ | refine wpList_store_row rfl 54 _ _ rfl (w.heap.size + 1) _ rfl rfl _ _ D2 (by kernel_rfl) rfl (by simp [Value.oneCell']) ?_)
        (try simp only [Exit.inBlock, Exit.then])
        refine bodyPost_ret (results_stv rfl _ _ (w.heap.size + 1) _ rfl rfl HF) rfl ?_
        exact ⟨_, rfl, by rw [HSE.out, ← E.out]; exact hSf, hbf⟩
end Go.Proofs.YtncoandnelgkeaaGreat

