import Derived.Test.YtncoandnelgkeaaGreatHc17
import Derived.Test.YtncoandnelgkeaaGreatHc22
import Derived.Test.YtncoandnelgkeaaGreatHc06
import Derived.Test.YtncoandnelgkeaaGreatHc20
/- The document's say: a state says something. -/
namespace Go.Proofs.YtncoandnelgkeaaGreat
open Go.RowKit QuorumMath RlogMath RaftMath
set_option maxRecDepth 100000
set_option linter.unusedSimpArgs false
set_option linter.unusedVariables false

set_option maxHeartbeats 8000000 in
theorem say_of (n : Nat) (s : Ms) (g : Gz) (v : Value) (w : World) (hS : StV n w v s) (hg : MgV n w g) (hl : s.out.length ≤ 1000000000) : Calls Tryz.prog 60 #[v, gv g] w fun e w' => ∃ v', e = .returned v' ∧ StV n w' v' (sayR s g.m) ∧ Below w.heap.size w w' := by
  obtain ⟨z, gs, os, rfl, hz, hR, hM, ho⟩ := hS
  obtain ⟨r, zs, ⟨ba, bn, bc⟩, ⟨la, ln, lc⟩, ⟨va, vn, vc⟩, ⟨pa, pn, pc⟩⟩ := z
  obtain ⟨sr, so⟩ := s
  obtain rfl : r = sr := hz
  obtain ⟨nd, tm, vo, ⟨bi, bt, bk, bd⟩, lg, cm, ro, le, el, vt, pe⟩ := r
  obtain ⟨oa, on, oc⟩ := os
  obtain ⟨⟨mk, ms, md, mt, mi, mp, ents, mc, mo, mm, ⟨si, st, sk, sd⟩⟩, es, ⟨ea, en, ec⟩, ⟨sa, sn, sc⟩⟩ := g
  dsimp only at ho hl
  dsimp only [sv, gv]
  obtain ⟨G, HG⟩ : ∃ G : Gz, Hid (G = ⟨⟨mk, nd, md, tm, mi, mp, ents, mc, mo, mm, ⟨si, st, sk, sd⟩⟩, es, (ea, en, ec), (sa, sn, sc)⟩) := ⟨_, rfl⟩
  have hgl : gs.length ≤ 1000000000 := by have := congrArg List.length ho; rw [List.length_map] at this; omega
  obtain ⟨hsz5, B1, B2, B3, hbw5⟩ := three_box w (.cells #[.int .i64 nd, .int .u64 (tm : Int), .int .i64 vo, .int .u64 (bi : Int), .int .u64 (bt : Int), .int .i64 bk, .slice ba bn bc, .slice la ln lc, .int .u64 (cm : Int), .int .i64 ro, .int .i64 le, .int .i64 el, .slice va vn vc, .slice pa pn pc, .slice oa on oc] 54) (.cells #[.int .i64 mk, .int .i64 nd, .int .i64 md, .int .u64 (tm : Int), .int .u64 (mi : Int), .int .u64 (mp : Int), .slice ea en ec, .int .u64 (mc : Int), .bool mo, .int .u64 (mm : Int), .int .u64 (si : Int), .int .u64 (st : Int), .int .i64 sk, .slice sa sn sc] 34) (.cells #[.int .i64 0, .int .u64 0, .int .i64 0, .int .u64 0, .int .u64 0, .int .i64 0, .slice none 0 0, .slice none 0 0, .int .u64 0, .int .i64 0, .int .i64 0, .int .i64 0, .slice none 0 0, .slice none 0 0, .slice none 0 0] 54)
  have hfin : Hid (∀ (o : Sl) W, Below w.heap.size w W → Rk msgE W 34 (.slice o.1 o.2.1 o.2.2) (gs ++ [G]) → StV n W (.agg #[.int .i64 nd, .int .u64 (tm : Int), .int .i64 vo, .int .u64 (bi : Int), .int .u64 (bt : Int), .int .i64 bk, .slice ba bn bc, .slice la ln lc, .int .u64 (cm : Int), .int .i64 ro, .int .i64 le, .int .i64 el, .slice va vn vc, .slice pa pn pc, .slice o.1 o.2.1 o.2.2]) (sayR ⟨⟨nd, tm, vo, ⟨bi, bt, bk, bd⟩, lg, cm, ro, le, el, vt, pe⟩, so⟩ ⟨mk, ms, md, mt, mi, mp, ents, mc, mo, mm, ⟨si, st, sk, sd⟩⟩)) := fun o W hW hRd => by
    refine ⟨⟨⟨nd, tm, vo, ⟨bi, bt, bk, bd⟩, lg, cm, ro, le, el, vt, pe⟩, zs, (ba, bn, bc), (la, ln, lc), (va, vn, vc), (pa, pn, pc)⟩, gs ++ [G], o, rfl, rfl, hR.below hW, ⟨hRd.toN n, fun y hy => ?_⟩, ?_⟩
    · rw [List.mem_append, List.mem_singleton] at hy
      rcases hy with hy | rfl
      · exact (hM.2 y hy).below hW
      · rw [HG.out]; exact hg.below hW
    · rw [List.map_append, ho, HG.out]; rfl
  have HL5 : Hid (∀ W, Below w.heap.size w W → Rd msgE W (.slice oa on oc) gs) := fun W hW => hM.1.rd.below hW
  have hzl9 : gs.length ≤ 10000000000 := by omega
  clear hR hM hg ho hl hgl
  go_enter Tryz.func60, Tryz.ntmps60
  go_wp2
  generalize ((w.alloc (.cells #[.int .i64 nd, .int .u64 (tm : Int), .int .i64 vo, .int .u64 (bi : Int), .int .u64 (bt : Int), .int .i64 bk, .slice ba bn bc, .slice la ln lc, .int .u64 (cm : Int), .int .i64 ro, .int .i64 le, .int .i64 el, .slice va vn vc, .slice pa pn pc, .slice oa on oc] 54)).alloc (.cells #[.int .i64 mk, .int .i64 nd, .int .i64 md, .int .u64 (tm : Int), .int .u64 (mi : Int), .int .u64 (mp : Int), .slice ea en ec, .int .u64 (mc : Int), .bool mo, .int .u64 (mm : Int), .int .u64 (si : Int), .int .u64 (st : Int), .int .i64 sk, .slice sa sn sc] 34)).alloc (.cells #[.int .i64 0, .int .u64 0, .int .i64 0, .int .u64 0, .int .u64 0, .int .i64 0, .slice none 0 0, .slice none 0 0, .int .u64 0, .int .i64 0, .int .i64 0, .int .i64 0, .slice none 0 0, .slice none 0 0, .slice none 0 0] 54) = w5 at *
  have HL5 : Hid (∀ W, Below w5.heap.size w5 W → Rd msgE W (.slice oa on oc) gs) := fun W hW => HL5.out W (hbw5.trans (hW.mono hbw5.size))
  have HCL : Hid (∀ W, Below w5.heap.size w5 W → _) := fun W hW => r15_cells ((hW.block w.heap.size (by omega)).trans B1)
  have HEL : Hid (∀ W, Below w5.heap.size w5 W → _) := fun W hW => r14_cells ((hW.block (w.heap.size + 1) (by omega)).trans B2)
  refine wp_region_L (fun W => Below w5.heap.size w5 W) [8] (by kernel_rfl) ?_
  have hbd : Below w5.heap.size w5 w5.drew := (Below.refl _ w5).drew
  generalize w5.drew = wd at *
  refine wpAnyL_take 1 rfl (by kernel_rfl) (by kernel_rfl) (by kernel_rfl) (by kernel_rfl) (fun _ _ _ h => h) (by kernel_rfl) (by intro w' hS'; have hz := hS'; obtain ⟨-, c0, c1, c2, c3, c4, c5, c6, c7, c8, c9, c10, c11, c12, c13, c14⟩ := HCL.out _ hz; obtain ⟨-, d0, d1, d2, d3, d4, d5, d6, d7, d8, d9, d10, d11, d12, d13⟩ := HEL.out _ hz; go_simp <;> rfl) hbd ?_
  try simp only [List.getElem_toArray, List.getElem_cons_succ, List.getElem_cons_zero, Act.put, List.setIfInBounds_toArray, List.set_cons_zero, List.set_cons_succ]
  refine wpAnyL_take 2 rfl (by kernel_rfl) (by kernel_rfl) (by kernel_rfl) (by kernel_rfl) (fun _ _ _ h => h) (by kernel_rfl) (by intro w' hS'; have hz := hS'; obtain ⟨-, c0, c1, c2, c3, c4, c5, c6, c7, c8, c9, c10, c11, c12, c13, c14⟩ := HCL.out _ hz; obtain ⟨-, d0, d1, d2, d3, d4, d5, d6, d7, d8, d9, d10, d11, d12, d13⟩ := HEL.out _ hz; go_simp <;> rfl) hbd ?_
  try simp only [List.getElem_toArray, List.getElem_cons_succ, List.getElem_cons_zero, Act.put, List.setIfInBounds_toArray, List.set_cons_zero, List.set_cons_succ]
  refine wpAnyL_take 4 rfl (by kernel_rfl) (by kernel_rfl) (by kernel_rfl) (by kernel_rfl) (fun _ _ _ h => h) (by kernel_rfl) (by intro w' hS'; have hz := hS'; obtain ⟨-, c0, c1, c2, c3, c4, c5, c6, c7, c8, c9, c10, c11, c12, c13, c14⟩ := HCL.out _ hz; obtain ⟨-, d0, d1, d2, d3, d4, d5, d6, d7, d8, d9, d10, d11, d12, d13⟩ := HEL.out _ hz; go_simp <;> rfl) hbd ?_
  try simp only [List.getElem_toArray, List.getElem_cons_succ, List.getElem_cons_zero, Act.put, List.setIfInBounds_toArray, List.set_cons_zero, List.set_cons_succ]
  refine wpAnyL_two 0 5 (by kernel_rfl) rfl rfl (by kernel_rfl) (by kernel_rfl) ?_ ?_
  · intro K' hK'
    go_simp
    have b0 : (fun W => Below w5.heap.size w5 W) (wd.alloc (.cells #[] 34)) := Below.alloc hbd (Below.size hbd) (.cells #[] 34)
    have O0 : Ow msgE 34 w5.heap.size (wd.alloc (.cells #[] 34)) (.slice (some ⟨wd.heap.size, 0, none⟩) 0 0) [] := ⟨Rk.made (E := msgE) (xs := []) (heap_alloc_new _ _) rfl (by unfold maxLen; simp), fun k hk => by cases hk; exact Below.size hbd⟩
    have k0 : Below wd.heap.size wd (wd.alloc (.cells #[] 34)) := (Below.refl _ _).alloc (Nat.le_refl _) _
    have z0 : Hid ((wd.alloc (.cells #[] 34)).heap.size = wd.heap.size + 1) := by show _ = _; simp
    refine hK'.out _ _ (.inr b0) ?_
    clear hK' K'
    try simp only [List.getElem_toArray, List.getElem_cons_succ, List.getElem_cons_zero, Act.put, List.setIfInBounds_toArray, List.set_cons_zero, List.set_cons_succ]
    generalize wd.alloc (.cells #[] 34) = W0 at *
    refine wpAnyL_two 3 5 (by kernel_rfl) rfl rfl (by kernel_rfl) (by kernel_rfl) ?_ ?_
    · intro K' hK'
      have r3H : Hid _ := app_msgs (Ow.ow1 O0) (HL5.out _ b0) (by simp) hzl9
      refine op_by _ _ _ rfl _ _ rfl rfl r3H.out ?_
      intro v3 W3 p3
      rw [List.nil_append] at p3
      obtain ⟨O3, k3⟩ := Ow.push O0 (Below.size b0) p3
      have b3 : (fun W => Below w5.heap.size w5 W) W3 := Below.trans b0 k3
      clear p3 r3H
      obtain ⟨va3, vc3, hv3, -⟩ := O3.1.shape
      subst hv3
      refine hK'.out _ _ (.inr b3) ?_
      clear hK' K'
      try simp only [List.getElem_toArray, List.getElem_cons_succ, List.getElem_cons_zero, Act.put, List.setIfInBounds_toArray, List.set_cons_zero, List.set_cons_succ]
      refine wpAnyL_one 5 (by kernel_rfl) rfl (by kernel_rfl) ?_
      intro K' hK'
      go_simp
      have b5 : (fun W => Below w5.heap.size w5 W) (W3.alloc (.cells #[.int .i64 mk, .int .i64 nd, .int .i64 md, .int .u64 (tm : Int), .int .u64 (mi : Int), .int .u64 (mp : Int), .slice ea en ec, .int .u64 (mc : Int), .bool mo, .int .u64 (mm : Int), .int .u64 (si : Int), .int .u64 (st : Int), .int .i64 sk, .slice sa sn sc] 34)) := Below.alloc b3 (Below.size b3) (.cells #[.int .i64 mk, .int .i64 nd, .int .i64 md, .int .u64 (tm : Int), .int .u64 (mi : Int), .int .u64 (mp : Int), .slice ea en ec, .int .u64 (mc : Int), .bool mo, .int .u64 (mm : Int), .int .u64 (si : Int), .int .u64 (st : Int), .int .i64 sk, .slice sa sn sc] 34)
      have R5 : Rk msgE (W3.alloc (.cells #[.int .i64 mk, .int .i64 nd, .int .i64 md, .int .u64 (tm : Int), .int .u64 (mi : Int), .int .u64 (mp : Int), .slice ea en ec, .int .u64 (mc : Int), .bool mo, .int .u64 (mm : Int), .int .u64 (si : Int), .int .u64 (st : Int), .int .i64 sk, .slice sa sn sc] 34)) 34 (.slice (some ⟨W3.heap.size, 0, none⟩) 1 1) [G] := Rk.made (E := msgE) (xs := [G]) (heap_alloc_new _ _) (by rw [HG.out]; rfl) (by unfold maxLen; simp)
      have k5 : Below W3.heap.size W3 (W3.alloc (.cells #[.int .i64 mk, .int .i64 nd, .int .i64 md, .int .u64 (tm : Int), .int .u64 (mi : Int), .int .u64 (mp : Int), .slice ea en ec, .int .u64 (mc : Int), .bool mo, .int .u64 (mm : Int), .int .u64 (si : Int), .int .u64 (st : Int), .int .i64 sk, .slice sa sn sc] 34)) := (Below.refl _ _).alloc (Nat.le_refl _) _
      have z5 : Hid ((W3.alloc (.cells #[.int .i64 mk, .int .i64 nd, .int .i64 md, .int .u64 (tm : Int), .int .u64 (mi : Int), .int .u64 (mp : Int), .slice ea en ec, .int .u64 (mc : Int), .bool mo, .int .u64 (mm : Int), .int .u64 (si : Int), .int .u64 (st : Int), .int .i64 sk, .slice sa sn sc] 34)).heap.size = W3.heap.size + 1) := by show _ = _; simp
      refine hK'.out _ _ (.inr b5) ?_
      clear hK' K'
      try simp only [List.getElem_toArray, List.getElem_cons_succ, List.getElem_cons_zero, Act.put, List.setIfInBounds_toArray, List.set_cons_zero, List.set_cons_succ]
      generalize W3.alloc (.cells #[.int .i64 mk, .int .i64 nd, .int .i64 md, .int .u64 (tm : Int), .int .u64 (mi : Int), .int .u64 (mp : Int), .slice ea en ec, .int .u64 (mc : Int), .bool mo, .int .u64 (mm : Int), .int .u64 (si : Int), .int .u64 (st : Int), .int .i64 sk, .slice sa sn sc] 34) = W5 at *
      refine wpAnyL_one 6 (by kernel_rfl) rfl (by kernel_rfl) ?_
      intro K' hK'
      have r6H : Hid _ := app_msgs (Ow.ow1 (O3.below k5)) R5.rd hzl9 (by simp)
      refine op_by _ _ _ rfl _ _ rfl rfl r6H.out ?_
      intro v6 W6 p6
      obtain ⟨O6, k6⟩ := Ow.push (O3.below k5) (Below.size b5) p6
      have b6 : (fun W => Below w5.heap.size w5 W) W6 := Below.trans b5 k6
      clear p6 r6H
      generalize hL6 : gs ++ [G] = L6 at *
      obtain ⟨va6, vc6, hv6, -⟩ := O6.1.shape
      generalize L6.length = n6 at hv6
      subst hv6
      refine hK'.out _ _ (.inr b6) ?_
      clear hK' K'
      try simp only [List.getElem_toArray, List.getElem_cons_succ, List.getElem_cons_zero, Act.put, List.setIfInBounds_toArray, List.set_cons_zero, List.set_cons_succ]
      refine wpAnyL_take 7 rfl (by kernel_rfl) (by kernel_rfl) (by kernel_rfl) (by kernel_rfl) (fun _ _ _ h => h) (by kernel_rfl) (by intro w' hS'; have hz := hS'; obtain ⟨-, c0, c1, c2, c3, c4, c5, c6, c7, c8, c9, c10, c11, c12, c13, c14⟩ := HCL.out _ hz; obtain ⟨-, d0, d1, d2, d3, d4, d5, d6, d7, d8, d9, d10, d11, d12, d13⟩ := HEL.out _ hz; go_simp <;> rfl) b6 ?_
      try simp only [List.getElem_toArray, List.getElem_cons_succ, List.getElem_cons_zero, Act.put, List.setIfInBounds_toArray, List.set_cons_zero, List.set_cons_succ]
      have hsz6 := b6.size
      have q66 := (b6.block (w.heap.size + 1 + 1) (by omega)).trans B3
      have x66 := (b6.block w.heap.size (by omega)).trans B1
      obtain ⟨⟨f0, f1, f2, f3, f4, f5, f6, f7, f8, f9, f10, f11, f12, f13, f14⟩, o0, o1, o2, o3, o4, o5, o6, o7, o8, o9, o10, o11, o12, o13, o14⟩ := r15_cells x66
      refine wpAnyL_one 8 (by kernel_rfl) rfl (by kernel_rfl) ?_
      intro K' hK'
      go_simp
      refine hK'.out _ _ (.inl (by decide)) ?_
      clear hK' K'
      try simp only [List.getElem_toArray, List.getElem_cons_succ, List.getElem_cons_zero, Act.put, List.setIfInBounds_toArray, List.set_cons_zero, List.set_cons_succ]
      refine wpAnyL_done (by kernel_rfl) (NoPanic.normal ?_) _
      have x77 : (W6.setCell ⟨w.heap.size, 14, none⟩ (.slice va6 n6 vc6)).heap[w.heap.size]? = some (.cells #[.int .i64 nd, .int .u64 (tm : Int), .int .i64 vo, .int .u64 (bi : Int), .int .u64 (bt : Int), .int .i64 bk, .slice ba bn bc, .slice la ln lc, .int .u64 (cm : Int), .int .i64 ro, .int .i64 le, .int .i64 el, .slice va vn vc, .slice pa pn pc, .slice va6 n6 vc6] 54) := by simp [World.setCell, Array.getElem?_modify, x66]
      have q77 : (W6.setCell ⟨w.heap.size, 14, none⟩ (.slice va6 n6 vc6)).heap[w.heap.size + 1 + 1]? = _ := (set_far (by omega) _).trans q66
      have hb77 := (hbw5.trans (b6.mono hbw5.size)).setCell (p := ⟨w.heap.size, 14, none⟩) (Nat.le_refl _) (.slice va6 n6 vc6)
      have OH : Hid (Ow _ _ _ _ _ _) := O6.far (g := w.heap.size) (i := 14) (by omega) (.slice va6 n6 vc6)
      clear f0 o0 f1 o1 f2 o2 f3 o3 f4 o4 f5 o5 f6 o6 f7 o7 f8 o8 f9 o9 f10 o10 f11 o11 f12 o12 f13 o13 f14 o14 x66 q66 O6 k6 b6 HL5 HCL HEL B1 B2 B3 hsz6
      generalize W6.setCell ⟨w.heap.size, 14, none⟩ (.slice va6 n6 vc6) = W7 at *
      have HF := setRow_heap _ _ _ #[.int .i64 nd, .int .u64 (tm : Int), .int .i64 vo, .int .u64 (bi : Int), .int .u64 (bt : Int), .int .i64 bk, .slice ba bn bc, .slice la ln lc, .int .u64 (cm : Int), .int .i64 ro, .int .i64 le, .int .i64 el, .slice va vn vc, .slice pa pn pc, .slice va6 n6 vc6] _ _ q77
      have hbf := below_row hb77 (g := w.heap.size + 1 + 1) (by omega) #[.int .i64 nd, .int .u64 (tm : Int), .int .i64 vo, .int .u64 (bi : Int), .int .u64 (bt : Int), .int .i64 bk, .slice ba bn bc, .slice la ln lc, .int .u64 (cm : Int), .int .i64 ro, .int .i64 le, .int .i64 el, .slice va vn vc, .slice pa pn pc, .slice va6 n6 vc6]
      go_wp2_with (first | refine wpList_load_row rfl 54 _ rfl w.heap.size rfl _ _ _ _ x77 Tryz.underlying54 rfl (by kernel_rfl) ?_ | refine wpList_store_row rfl 54 _ _ rfl (w.heap.size + 1 + 1) _ rfl rfl _ _ q77 (by kernel_rfl) rfl (by simp [Value.oneCell']) ?_)

      (try simp only [Exit.inBlock, Exit.then])
      refine bodyPost_ret (results_st rfl _ _ (w.heap.size + 1 + 1) _ _ _ _ _ _ _ _ _ _ _ _ _ _ _ rfl HF) rfl ?_
      exact ⟨_, rfl, hfin.out (va6, n6, vc6) _ hbf (OH.out.farRow (by omega) _).1, hbf⟩
    · intro K' hK'
      go_simp
      have b5 : (fun W => Below w5.heap.size w5 W) (W0.alloc (.cells #[.int .i64 mk, .int .i64 nd, .int .i64 md, .int .u64 (tm : Int), .int .u64 (mi : Int), .int .u64 (mp : Int), .slice ea en ec, .int .u64 (mc : Int), .bool mo, .int .u64 (mm : Int), .int .u64 (si : Int), .int .u64 (st : Int), .int .i64 sk, .slice sa sn sc] 34)) := Below.alloc b0 (Below.size b0) (.cells #[.int .i64 mk, .int .i64 nd, .int .i64 md, .int .u64 (tm : Int), .int .u64 (mi : Int), .int .u64 (mp : Int), .slice ea en ec, .int .u64 (mc : Int), .bool mo, .int .u64 (mm : Int), .int .u64 (si : Int), .int .u64 (st : Int), .int .i64 sk, .slice sa sn sc] 34)
      have R5 : Rk msgE (W0.alloc (.cells #[.int .i64 mk, .int .i64 nd, .int .i64 md, .int .u64 (tm : Int), .int .u64 (mi : Int), .int .u64 (mp : Int), .slice ea en ec, .int .u64 (mc : Int), .bool mo, .int .u64 (mm : Int), .int .u64 (si : Int), .int .u64 (st : Int), .int .i64 sk, .slice sa sn sc] 34)) 34 (.slice (some ⟨W0.heap.size, 0, none⟩) 1 1) [G] := Rk.made (E := msgE) (xs := [G]) (heap_alloc_new _ _) (by rw [HG.out]; rfl) (by unfold maxLen; simp)
      have k5 : Below W0.heap.size W0 (W0.alloc (.cells #[.int .i64 mk, .int .i64 nd, .int .i64 md, .int .u64 (tm : Int), .int .u64 (mi : Int), .int .u64 (mp : Int), .slice ea en ec, .int .u64 (mc : Int), .bool mo, .int .u64 (mm : Int), .int .u64 (si : Int), .int .u64 (st : Int), .int .i64 sk, .slice sa sn sc] 34)) := (Below.refl _ _).alloc (Nat.le_refl _) _
      have z5 : Hid ((W0.alloc (.cells #[.int .i64 mk, .int .i64 nd, .int .i64 md, .int .u64 (tm : Int), .int .u64 (mi : Int), .int .u64 (mp : Int), .slice ea en ec, .int .u64 (mc : Int), .bool mo, .int .u64 (mm : Int), .int .u64 (si : Int), .int .u64 (st : Int), .int .i64 sk, .slice sa sn sc] 34)).heap.size = W0.heap.size + 1) := by show _ = _; simp
      refine hK'.out _ _ (.inr b5) ?_
      clear hK' K'
      try simp only [List.getElem_toArray, List.getElem_cons_succ, List.getElem_cons_zero, Act.put, List.setIfInBounds_toArray, List.set_cons_zero, List.set_cons_succ]
      generalize W0.alloc (.cells #[.int .i64 mk, .int .i64 nd, .int .i64 md, .int .u64 (tm : Int), .int .u64 (mi : Int), .int .u64 (mp : Int), .slice ea en ec, .int .u64 (mc : Int), .bool mo, .int .u64 (mm : Int), .int .u64 (si : Int), .int .u64 (st : Int), .int .i64 sk, .slice sa sn sc] 34) = W5 at *
      refine wpAnyL_one 3 (by kernel_rfl) rfl (by kernel_rfl) ?_
      intro K' hK'
      have r3H : Hid _ := app_msgs (Ow.ow1 (O0.below k5)) (HL5.out _ b5) (by simp) hzl9
      refine op_by _ _ _ rfl _ _ rfl rfl r3H.out ?_
      intro v3 W3 p3
      rw [List.nil_append] at p3
      obtain ⟨O3, k3⟩ := Ow.push (O0.below k5) (Below.size b5) p3
      have b3 : (fun W => Below w5.heap.size w5 W) W3 := Below.trans b5 k3
      have R5' := R5.same (w' := W3) fun k hk => p3.2.1.block k (R5.lt hk) fun e => by
        cases hk
        have e' : W0.heap.size = wd.heap.size := Option.some.inj e
        have := z0.out
        omega
      clear p3 r3H
      obtain ⟨va3, vc3, hv3, -⟩ := O3.1.shape
      subst hv3
      refine hK'.out _ _ (.inr b3) ?_
      clear hK' K'
      try simp only [List.getElem_toArray, List.getElem_cons_succ, List.getElem_cons_zero, Act.put, List.setIfInBounds_toArray, List.set_cons_zero, List.set_cons_succ]
      refine wpAnyL_one 6 (by kernel_rfl) rfl (by kernel_rfl) ?_
      intro K' hK'
      have r6H : Hid _ := app_msgs (Ow.ow1 O3) R5'.rd hzl9 (by simp)
      refine op_by _ _ _ rfl _ _ rfl rfl r6H.out ?_
      intro v6 W6 p6
      obtain ⟨O6, k6⟩ := Ow.push O3 (Below.size b3) p6
      have b6 : (fun W => Below w5.heap.size w5 W) W6 := Below.trans b3 k6
      clear p6 r6H
      generalize hL6 : gs ++ [G] = L6 at *
      obtain ⟨va6, vc6, hv6, -⟩ := O6.1.shape
      generalize L6.length = n6 at hv6
      subst hv6
      refine hK'.out _ _ (.inr b6) ?_
      clear hK' K'
      try simp only [List.getElem_toArray, List.getElem_cons_succ, List.getElem_cons_zero, Act.put, List.setIfInBounds_toArray, List.set_cons_zero, List.set_cons_succ]
      refine wpAnyL_take 7 rfl (by kernel_rfl) (by kernel_rfl) (by kernel_rfl) (by kernel_rfl) (fun _ _ _ h => h) (by kernel_rfl) (by intro w' hS'; have hz := hS'; obtain ⟨-, c0, c1, c2, c3, c4, c5, c6, c7, c8, c9, c10, c11, c12, c13, c14⟩ := HCL.out _ hz; obtain ⟨-, d0, d1, d2, d3, d4, d5, d6, d7, d8, d9, d10, d11, d12, d13⟩ := HEL.out _ hz; go_simp <;> rfl) b6 ?_
      try simp only [List.getElem_toArray, List.getElem_cons_succ, List.getElem_cons_zero, Act.put, List.setIfInBounds_toArray, List.set_cons_zero, List.set_cons_succ]
      have hsz6 := b6.size
      have q66 := (b6.block (w.heap.size + 1 + 1) (by omega)).trans B3
      have x66 := (b6.block w.heap.size (by omega)).trans B1
      obtain ⟨⟨f0, f1, f2, f3, f4, f5, f6, f7, f8, f9, f10, f11, f12, f13, f14⟩, o0, o1, o2, o3, o4, o5, o6, o7, o8, o9, o10, o11, o12, o13, o14⟩ := r15_cells x66
      refine wpAnyL_one 8 (by kernel_rfl) rfl (by kernel_rfl) ?_
      intro K' hK'
      go_simp
      refine hK'.out _ _ (.inl (by decide)) ?_
      clear hK' K'
      try simp only [List.getElem_toArray, List.getElem_cons_succ, List.getElem_cons_zero, Act.put, List.setIfInBounds_toArray, List.set_cons_zero, List.set_cons_succ]
      refine wpAnyL_done (by kernel_rfl) (NoPanic.normal ?_) _
      have x77 : (W6.setCell ⟨w.heap.size, 14, none⟩ (.slice va6 n6 vc6)).heap[w.heap.size]? = some (.cells #[.int .i64 nd, .int .u64 (tm : Int), .int .i64 vo, .int .u64 (bi : Int), .int .u64 (bt : Int), .int .i64 bk, .slice ba bn bc, .slice la ln lc, .int .u64 (cm : Int), .int .i64 ro, .int .i64 le, .int .i64 el, .slice va vn vc, .slice pa pn pc, .slice va6 n6 vc6] 54) := by simp [World.setCell, Array.getElem?_modify, x66]
      have q77 : (W6.setCell ⟨w.heap.size, 14, none⟩ (.slice va6 n6 vc6)).heap[w.heap.size + 1 + 1]? = _ := (set_far (by omega) _).trans q66
      have hb77 := (hbw5.trans (b6.mono hbw5.size)).setCell (p := ⟨w.heap.size, 14, none⟩) (Nat.le_refl _) (.slice va6 n6 vc6)
      have OH : Hid (Ow _ _ _ _ _ _) := O6.far (g := w.heap.size) (i := 14) (by omega) (.slice va6 n6 vc6)
      clear f0 o0 f1 o1 f2 o2 f3 o3 f4 o4 f5 o5 f6 o6 f7 o7 f8 o8 f9 o9 f10 o10 f11 o11 f12 o12 f13 o13 f14 o14 x66 q66 O6 k6 b6 HL5 HCL HEL B1 B2 B3 hsz6
      generalize W6.setCell ⟨w.heap.size, 14, none⟩ (.slice va6 n6 vc6) = W7 at *
      have HF := setRow_heap _ _ _ #[.int .i64 nd, .int .u64 (tm : Int), .int .i64 vo, .int .u64 (bi : Int), .int .u64 (bt : Int), .int .i64 bk, .slice ba bn bc, .slice la ln lc, .int .u64 (cm : Int), .int .i64 ro, .int .i64 le, .int .i64 el, .slice va vn vc, .slice pa pn pc, .slice va6 n6 vc6] _ _ q77
      have hbf := below_row hb77 (g := w.heap.size + 1 + 1) (by omega) #[.int .i64 nd, .int .u64 (tm : Int), .int .i64 vo, .int .u64 (bi : Int), .int .u64 (bt : Int), .int .i64 bk, .slice ba bn bc, .slice la ln lc, .int .u64 (cm : Int), .int .i64 ro, .int .i64 le, .int .i64 el, .slice va vn vc, .slice pa pn pc, .slice va6 n6 vc6]
      go_wp2_with (first | refine wpList_load_row rfl 54 _ rfl w.heap.size rfl _ _ _ _ x77 Tryz.underlying54 rfl (by kernel_rfl) ?_ | refine wpList_store_row rfl 54 _ _ rfl (w.heap.size + 1 + 1) _ rfl rfl _ _ q77 (by kernel_rfl) rfl (by simp [Value.oneCell']) ?_)

      (try simp only [Exit.inBlock, Exit.then])
      refine bodyPost_ret (results_st rfl _ _ (w.heap.size + 1 + 1) _ _ _ _ _ _ _ _ _ _ _ _ _ _ _ rfl HF) rfl ?_
      exact ⟨_, rfl, hfin.out (va6, n6, vc6) _ hbf (OH.out.farRow (by omega) _).1, hbf⟩
  · intro K' hK'
    go_simp
    have b5 : (fun W => Below w5.heap.size w5 W) (wd.alloc (.cells #[.int .i64 mk, .int .i64 nd, .int .i64 md, .int .u64 (tm : Int), .int .u64 (mi : Int), .int .u64 (mp : Int), .slice ea en ec, .int .u64 (mc : Int), .bool mo, .int .u64 (mm : Int), .int .u64 (si : Int), .int .u64 (st : Int), .int .i64 sk, .slice sa sn sc] 34)) := Below.alloc hbd (Below.size hbd) (.cells #[.int .i64 mk, .int .i64 nd, .int .i64 md, .int .u64 (tm : Int), .int .u64 (mi : Int), .int .u64 (mp : Int), .slice ea en ec, .int .u64 (mc : Int), .bool mo, .int .u64 (mm : Int), .int .u64 (si : Int), .int .u64 (st : Int), .int .i64 sk, .slice sa sn sc] 34)
    have R5 : Rk msgE (wd.alloc (.cells #[.int .i64 mk, .int .i64 nd, .int .i64 md, .int .u64 (tm : Int), .int .u64 (mi : Int), .int .u64 (mp : Int), .slice ea en ec, .int .u64 (mc : Int), .bool mo, .int .u64 (mm : Int), .int .u64 (si : Int), .int .u64 (st : Int), .int .i64 sk, .slice sa sn sc] 34)) 34 (.slice (some ⟨wd.heap.size, 0, none⟩) 1 1) [G] := Rk.made (E := msgE) (xs := [G]) (heap_alloc_new _ _) (by rw [HG.out]; rfl) (by unfold maxLen; simp)
    have k5 : Below wd.heap.size wd (wd.alloc (.cells #[.int .i64 mk, .int .i64 nd, .int .i64 md, .int .u64 (tm : Int), .int .u64 (mi : Int), .int .u64 (mp : Int), .slice ea en ec, .int .u64 (mc : Int), .bool mo, .int .u64 (mm : Int), .int .u64 (si : Int), .int .u64 (st : Int), .int .i64 sk, .slice sa sn sc] 34)) := (Below.refl _ _).alloc (Nat.le_refl _) _
    have z5 : Hid ((wd.alloc (.cells #[.int .i64 mk, .int .i64 nd, .int .i64 md, .int .u64 (tm : Int), .int .u64 (mi : Int), .int .u64 (mp : Int), .slice ea en ec, .int .u64 (mc : Int), .bool mo, .int .u64 (mm : Int), .int .u64 (si : Int), .int .u64 (st : Int), .int .i64 sk, .slice sa sn sc] 34)).heap.size = wd.heap.size + 1) := by show _ = _; simp
    refine hK'.out _ _ (.inr b5) ?_
    clear hK' K'
    try simp only [List.getElem_toArray, List.getElem_cons_succ, List.getElem_cons_zero, Act.put, List.setIfInBounds_toArray, List.set_cons_zero, List.set_cons_succ]
    generalize wd.alloc (.cells #[.int .i64 mk, .int .i64 nd, .int .i64 md, .int .u64 (tm : Int), .int .u64 (mi : Int), .int .u64 (mp : Int), .slice ea en ec, .int .u64 (mc : Int), .bool mo, .int .u64 (mm : Int), .int .u64 (si : Int), .int .u64 (st : Int), .int .i64 sk, .slice sa sn sc] 34) = W5 at *
    refine wpAnyL_one 0 (by kernel_rfl) rfl (by kernel_rfl) ?_
    intro K' hK'
    go_simp
    have b0 : (fun W => Below w5.heap.size w5 W) (W5.alloc (.cells #[] 34)) := Below.alloc b5 (Below.size b5) (.cells #[] 34)
    have O0 : Ow msgE 34 w5.heap.size (W5.alloc (.cells #[] 34)) (.slice (some ⟨W5.heap.size, 0, none⟩) 0 0) [] := ⟨Rk.made (E := msgE) (xs := []) (heap_alloc_new _ _) rfl (by unfold maxLen; simp), fun k hk => by cases hk; exact Below.size b5⟩
    have k0 : Below W5.heap.size W5 (W5.alloc (.cells #[] 34)) := (Below.refl _ _).alloc (Nat.le_refl _) _
    have z0 : Hid ((W5.alloc (.cells #[] 34)).heap.size = W5.heap.size + 1) := by show _ = _; simp
    refine hK'.out _ _ (.inr b0) ?_
    clear hK' K'
    try simp only [List.getElem_toArray, List.getElem_cons_succ, List.getElem_cons_zero, Act.put, List.setIfInBounds_toArray, List.set_cons_zero, List.set_cons_succ]
    generalize W5.alloc (.cells #[] 34) = W0 at *
    refine wpAnyL_one 3 (by kernel_rfl) rfl (by kernel_rfl) ?_
    intro K' hK'
    have r3H : Hid _ := app_msgs (Ow.ow1 O0) (HL5.out _ b0) (by simp) hzl9
    refine op_by _ _ _ rfl _ _ rfl rfl r3H.out ?_
    intro v3 W3 p3
    rw [List.nil_append] at p3
    obtain ⟨O3, k3⟩ := Ow.push O0 (Below.size b0) p3
    have b3 : (fun W => Below w5.heap.size w5 W) W3 := Below.trans b0 k3
    have R5' := (R5.same fun k hk => k0.block k (R5.lt hk)).same (w' := W3) fun k hk => p3.2.1.block k (Nat.lt_of_lt_of_le (R5.lt hk) k0.size) fun e => by
      cases hk
      have e' : wd.heap.size = W5.heap.size := Option.some.inj e
      have := z5.out
      omega
    clear p3 r3H
    obtain ⟨va3, vc3, hv3, -⟩ := O3.1.shape
    subst hv3
    refine hK'.out _ _ (.inr b3) ?_
    clear hK' K'
    try simp only [List.getElem_toArray, List.getElem_cons_succ, List.getElem_cons_zero, Act.put, List.setIfInBounds_toArray, List.set_cons_zero, List.set_cons_succ]
    refine wpAnyL_one 6 (by kernel_rfl) rfl (by kernel_rfl) ?_
    intro K' hK'
    have r6H : Hid _ := app_msgs (Ow.ow1 O3) R5'.rd hzl9 (by simp)
    refine op_by _ _ _ rfl _ _ rfl rfl r6H.out ?_
    intro v6 W6 p6
    obtain ⟨O6, k6⟩ := Ow.push O3 (Below.size b3) p6
    have b6 : (fun W => Below w5.heap.size w5 W) W6 := Below.trans b3 k6
    clear p6 r6H
    generalize hL6 : gs ++ [G] = L6 at *
    obtain ⟨va6, vc6, hv6, -⟩ := O6.1.shape
    generalize L6.length = n6 at hv6
    subst hv6
    refine hK'.out _ _ (.inr b6) ?_
    clear hK' K'
    try simp only [List.getElem_toArray, List.getElem_cons_succ, List.getElem_cons_zero, Act.put, List.setIfInBounds_toArray, List.set_cons_zero, List.set_cons_succ]
    refine wpAnyL_take 7 rfl (by kernel_rfl) (by kernel_rfl) (by kernel_rfl) (by kernel_rfl) (fun _ _ _ h => h) (by kernel_rfl) (by intro w' hS'; have hz := hS'; obtain ⟨-, c0, c1, c2, c3, c4, c5, c6, c7, c8, c9, c10, c11, c12, c13, c14⟩ := HCL.out _ hz; obtain ⟨-, d0, d1, d2, d3, d4, d5, d6, d7, d8, d9, d10, d11, d12, d13⟩ := HEL.out _ hz; go_simp <;> rfl) b6 ?_
    try simp only [List.getElem_toArray, List.getElem_cons_succ, List.getElem_cons_zero, Act.put, List.setIfInBounds_toArray, List.set_cons_zero, List.set_cons_succ]
    have hsz6 := b6.size
    have q66 := (b6.block (w.heap.size + 1 + 1) (by omega)).trans B3
    have x66 := (b6.block w.heap.size (by omega)).trans B1
    obtain ⟨⟨f0, f1, f2, f3, f4, f5, f6, f7, f8, f9, f10, f11, f12, f13, f14⟩, o0, o1, o2, o3, o4, o5, o6, o7, o8, o9, o10, o11, o12, o13, o14⟩ := r15_cells x66
    refine wpAnyL_one 8 (by kernel_rfl) rfl (by kernel_rfl) ?_
    intro K' hK'
    go_simp
    refine hK'.out _ _ (.inl (by decide)) ?_
    clear hK' K'
    try simp only [List.getElem_toArray, List.getElem_cons_succ, List.getElem_cons_zero, Act.put, List.setIfInBounds_toArray, List.set_cons_zero, List.set_cons_succ]
    refine wpAnyL_done (by kernel_rfl) (NoPanic.normal ?_) _
    have x77 : (W6.setCell ⟨w.heap.size, 14, none⟩ (.slice va6 n6 vc6)).heap[w.heap.size]? = some (.cells #[.int .i64 nd, .int .u64 (tm : Int), .int .i64 vo, .int .u64 (bi : Int), .int .u64 (bt : Int), .int .i64 bk, .slice ba bn bc, .slice la ln lc, .int .u64 (cm : Int), .int .i64 ro, .int .i64 le, .int .i64 el, .slice va vn vc, .slice pa pn pc, .slice va6 n6 vc6] 54) := by simp [World.setCell, Array.getElem?_modify, x66]
    have q77 : (W6.setCell ⟨w.heap.size, 14, none⟩ (.slice va6 n6 vc6)).heap[w.heap.size + 1 + 1]? = _ := (set_far (by omega) _).trans q66
    have hb77 := (hbw5.trans (b6.mono hbw5.size)).setCell (p := ⟨w.heap.size, 14, none⟩) (Nat.le_refl _) (.slice va6 n6 vc6)
    have OH : Hid (Ow _ _ _ _ _ _) := O6.far (g := w.heap.size) (i := 14) (by omega) (.slice va6 n6 vc6)
    clear f0 o0 f1 o1 f2 o2 f3 o3 f4 o4 f5 o5 f6 o6 f7 o7 f8 o8 f9 o9 f10 o10 f11 o11 f12 o12 f13 o13 f14 o14 x66 q66 O6 k6 b6 HL5 HCL HEL B1 B2 B3 hsz6
    generalize W6.setCell ⟨w.heap.size, 14, none⟩ (.slice va6 n6 vc6) = W7 at *
    have HF := setRow_heap _ _ _ #[.int .i64 nd, .int .u64 (tm : Int), .int .i64 vo, .int .u64 (bi : Int), .int .u64 (bt : Int), .int .i64 bk, .slice ba bn bc, .slice la ln lc, .int .u64 (cm : Int), .int .i64 ro, .int .i64 le, .int .i64 el, .slice va vn vc, .slice pa pn pc, .slice va6 n6 vc6] _ _ q77
    have hbf := below_row hb77 (g := w.heap.size + 1 + 1) (by omega) #[.int .i64 nd, .int .u64 (tm : Int), .int .i64 vo, .int .u64 (bi : Int), .int .u64 (bt : Int), .int .i64 bk, .slice ba bn bc, .slice la ln lc, .int .u64 (cm : Int), .int .i64 ro, .int .i64 le, .int .i64 el, .slice va vn vc, .slice pa pn pc, .slice va6 n6 vc6]
    go_wp2_with (first | refine wpList_load_row rfl 54 _ rfl w.heap.size rfl _ _ _ _ x77 Tryz.underlying54 rfl (by kernel_rfl) ?_ | refine wpList_store_row rfl 54 _ _ rfl (w.heap.size + 1 + 1) _ rfl rfl _ _ q77 (by kernel_rfl) rfl (by simp [Value.oneCell']) ?_)

    (try simp only [Exit.inBlock, Exit.then])
    refine bodyPost_ret (results_st rfl _ _ (w.heap.size + 1 + 1) _ _ _ _ _ _ _ _ _ _ _ _ _ _ _ rfl HF) rfl ?_
    exact ⟨_, rfl, hfin.out (va6, n6, vc6) _ hbf (OH.out.farRow (by omega) _).1, hbf⟩
end Go.Proofs.YtncoandnelgkeaaGreat

/- The document's tell: a peer is told. -/
namespace Go.Proofs.YtncoandnelgkeaaGreat
open Go.RowKit QuorumMath RlogMath RaftMath
set_option maxRecDepth 100000
set_option linter.unusedSimpArgs false
set_option linter.unusedVariables false

theorem mes_slice (b : Ez) (zs : List Ez) (x : Nat) : mes (sliceZ b zs x 16) = sliceM b.1 (mes zs) x 16 := by
  unfold sliceZ sliceM
  split
  · unfold pickZ pickM mes
    rw [List.map_take, List.filter_map]
    rfl
  · rfl
theorem termM_d (o : Option Nat) : (.tuple #[.int .u64 ((o.getD 0 : Nat) : Int), .bool o.isSome] : Value) = termV o := by cases o <;> rfl
set_option maxHeartbeats 8000000 in
theorem tell_of (n : Nat) (s : Ms) (p : Mp) (v : Value) (w : World) (hS : StV n w v s) (hn : n ≤ w.heap.size) (hl : s.out.length ≤ 1000000000) (hlg : s.r.log.length ≤ 1000000000) (hnx : p.next < 18446744073709551616) : Calls Tryz.prog 92 #[v, .agg #[.int .i64 p.node, .int .u64 (p.next : Int), .int .u64 (p.mat : Int)]] w fun e w' => ∃ v', e = .returned v' ∧ StV n w' v' (tellR s p) ∧ Below w.heap.size w w' := by
  have hS0 := hS
  obtain ⟨z, gs, os, rfl, hz, hR, hM, ho⟩ := hS
  obtain ⟨r, zs, ⟨ba, bn, bc⟩, ⟨la, ln, lc⟩, ⟨va, vn, vc⟩, ⟨pa, pn, pc⟩⟩ := z
  obtain ⟨sr, so⟩ := s
  obtain rfl : r = sr := hz
  obtain ⟨nd, tm, vo, ⟨bi, bt, bk, bd⟩, lg, cm, ro, le, el, vt, pe⟩ := r
  obtain ⟨oa, on, oc⟩ := os
  obtain ⟨pnd, nx, pm⟩ := p
  dsimp only at ho hl hlg hnx
  dsimp only [sv] at *
  have hzl : zs.length ≤ 1000000000 := by have := congrArg List.length hR.2.2.1; dsimp only at this; rw [List.length_map] at this; omega
  obtain ⟨hsz, B1, B2, B3, hb3⟩ := three_box w (.cells #[.int .i64 nd, .int .u64 (tm : Int), .int .i64 vo, .int .u64 (bi : Int), .int .u64 (bt : Int), .int .i64 bk, .slice ba bn bc, .slice la ln lc, .int .u64 (cm : Int), .int .i64 ro, .int .i64 le, .int .i64 el, .slice va vn vc, .slice pa pn pc, .slice oa on oc] 54) (.cells #[.int .i64 pnd, .int .u64 (nx : Int), .int .u64 (pm : Int)] 71) (.cells #[.int .i64 0, .int .u64 0, .int .i64 0, .int .u64 0, .int .u64 0, .int .i64 0, .slice none 0 0, .slice none 0 0, .int .u64 0, .int .i64 0, .int .i64 0, .int .i64 0, .slice none 0 0, .slice none 0 0, .slice none 0 0] 54)
  by_cases h1 : nx ≤ bi
  · have h1i : (nx : Int) ≤ (bi : Int) := by omega
    have hE : Hid (∀ st, tellR ⟨⟨nd, tm, vo, ⟨bi, bt, bk, bd⟩, lg, cm, ro, le, el, vt, pe⟩, so⟩ ⟨pnd, nx, pm⟩ = st ↔ sayR ⟨⟨nd, tm, vo, ⟨bi, bt, bk, bd⟩, lg, cm, ro, le, el, vt, pe⟩, so⟩ ⟨5, 0, pnd, 0, bi, bt, [], cm, false, 0, ⟨bi, bt, bk, bd⟩⟩ = st) := fun st => by unfold tellR; rw [if_pos h1]; rfl
    obtain ⟨q1, q2, q3⟩ := one_box (((w.alloc (.cells #[.int .i64 nd, .int .u64 (tm : Int), .int .i64 vo, .int .u64 (bi : Int), .int .u64 (bt : Int), .int .i64 bk, .slice ba bn bc, .slice la ln lc, .int .u64 (cm : Int), .int .i64 ro, .int .i64 le, .int .i64 el, .slice va vn vc, .slice pa pn pc, .slice oa on oc] 54)).alloc (.cells #[.int .i64 pnd, .int .u64 (nx : Int), .int .u64 (pm : Int)] 71)).alloc (.cells #[.int .i64 0, .int .u64 0, .int .i64 0, .int .u64 0, .int .u64 0, .int .i64 0, .slice none 0 0, .slice none 0 0, .int .u64 0, .int .i64 0, .int .i64 0, .int .i64 0, .slice none 0 0, .slice none 0 0, .slice none 0 0] 54)) (.cells #[.int .u64 (bi : Int), .int .u64 (bt : Int), .int .i64 bk, .slice ba bn bc] 25)
    have hb4 := hb3.trans (q3.mono hb3.size)
    have B34 := (q3.block _ (by rw [hsz]; omega)).trans B3
    have ks := say_of n _ ⟨⟨5, 0, pnd, 0, bi, bt, [], cm, false, 0, ⟨bi, bt, bk, bd⟩⟩, [], (none, 0, 0), (ba, bn, bc)⟩ _ _ (hS0.below hb4) ⟨EntsN.nil _ _, rfl, (hR.below hb4).1⟩ hl
    dsimp only [gv, sv] at ks
    rw [hsz] at q1
    clear hR hM ho hS0 B1 B2 q2
    go_enter Tryz.func92, Tryz.ntmps92
    go_wp2_with fail
    refine ks.mono ?_
    rintro e w1 ⟨v1, rfl, hS1, hbb⟩
    rw [q1] at hbb
    have g1 := (hbb.block (w.heap.size + 1 + 1) (by omega)).trans B34
    have hb1 := hb4.trans (hbb.mono (by omega))
    obtain ⟨cs, rfl, h15, hone⟩ := hS1.shape
    have HF := setRow_heap _ _ _ cs _ _ g1
    have hbf := below_row hb1 (g := w.heap.size + 1 + 1) (by omega) cs
    have hSf := hS1.frm (Frm.row (n := n) (by omega) g1 cs) (by decide)
    clear ks
    go_wp2_with (refine wpList_store_row rfl 54 _ _ rfl (w.heap.size + 1 + 1) cs rfl rfl _ _ g1 (by rw [h15]; exact sizeSt) (by rw [h15]; rfl) hone ?_)
    (try simp only [Exit.inBlock, Exit.then])
    refine bodyPost_ret (results_stv rfl _ _ (w.heap.size + 1 + 1) cs h15 rfl HF) rfl ?_
    exact ⟨_, rfl, by rw [(hE.out _).2 rfl]; exact hSf, hbf⟩
  · have h1i : ¬ (nx : Int) ≤ (bi : Int) := by omega
    obtain ⟨x, hx⟩ : ∃ x, nx = x + 1 := ⟨nx - 1, by omega⟩
    have hE : Hid (∀ st, tellR ⟨⟨nd, tm, vo, ⟨bi, bt, bk, bd⟩, lg, cm, ro, le, el, vt, pe⟩, so⟩ ⟨pnd, nx, pm⟩ = st ↔ sayR ⟨⟨nd, tm, vo, ⟨bi, bt, bk, bd⟩, lg, cm, ro, le, el, vt, pe⟩, so⟩ ⟨3, 0, pnd, 0, x, (termM ⟨bi, bt, bk, bd⟩ lg x).getD 0, sliceM ⟨bi, bt, bk, bd⟩ lg nx 16, cm, false, 0, zeroMe⟩ = st) := fun st => by unfold tellR; rw [if_neg h1]; subst hx; rfl
    have x1 : IntKind.u64.wrap ((nx : Int) - 1) = (x : Int) := by rw [show (nx : Int) - 1 = (x : Int) by omega]; exact IntWalk.u64_in _ (by omega)
    have x2 : (nx : Int) - 1 = (x : Int) := by omega
    have x3 : IntKind.u64.wrap (x : Int) = (x : Int) := IntWalk.u64_in _ (by omega)
    obtain ⟨q1, q2, q3⟩ := one_box (((w.alloc (.cells #[.int .i64 nd, .int .u64 (tm : Int), .int .i64 vo, .int .u64 (bi : Int), .int .u64 (bt : Int), .int .i64 bk, .slice ba bn bc, .slice la ln lc, .int .u64 (cm : Int), .int .i64 ro, .int .i64 le, .int .i64 el, .slice va vn vc, .slice pa pn pc, .slice oa on oc] 54)).alloc (.cells #[.int .i64 pnd, .int .u64 (nx : Int), .int .u64 (pm : Int)] 71)).alloc (.cells #[.int .i64 0, .int .u64 0, .int .i64 0, .int .u64 0, .int .u64 0, .int .i64 0, .slice none 0 0, .slice none 0 0, .int .u64 0, .int .i64 0, .int .i64 0, .int .i64 0, .slice none 0 0, .slice none 0 0, .slice none 0 0] 54)) (.cells #[.int .u64 (bi : Int), .int .u64 (bt : Int), .int .i64 bk, .slice ba bn bc] 25)
    have hb4 := hb3.trans (q3.mono hb3.size)
    have B14 := (q3.block _ (by rw [hsz]; omega)).trans B1
    have B24 := (q3.block _ (by rw [hsz]; omega)).trans B2
    have B34 := (q3.block _ (by rw [hsz]; omega)).trans B3
    have kt := rterm_of (⟨bi, bt, bk, bd⟩, ba, bn, bc) zs (.slice la ln lc) x ((((w.alloc (.cells #[.int .i64 nd, .int .u64 (tm : Int), .int .i64 vo, .int .u64 (bi : Int), .int .u64 (bt : Int), .int .i64 bk, .slice ba bn bc, .slice la ln lc, .int .u64 (cm : Int), .int .i64 ro, .int .i64 le, .int .i64 el, .slice va vn vc, .slice pa pn pc, .slice oa on oc] 54)).alloc (.cells #[.int .i64 pnd, .int .u64 (nx : Int), .int .u64 (pm : Int)] 71)).alloc (.cells #[.int .i64 0, .int .u64 0, .int .i64 0, .int .u64 0, .int .u64 0, .int .i64 0, .slice none 0 0, .slice none 0 0, .int .u64 0, .int .i64 0, .int .i64 0, .int .i64 0, .slice none 0 0, .slice none 0 0, .slice none 0 0] 54)).alloc (.cells #[.int .u64 (bi : Int), .int .u64 (bt : Int), .int .i64 bk, .slice ba bn bc] 25)) (hR.2.1.below hb4).v (by omega)
    rw [show mes zs = lg from hR.2.2.1, ← termM_d] at kt
    have HL : Hid (∀ W, Below w.heap.size w W → EntsN n W (.slice la ln lc) zs) := fun W hW => hR.2.1.below hW
    have HS : Hid (∀ W, Below w.heap.size w W → StV n W _ _) := fun W hW => hS0.below hW
    have HM0 : Hid (mes zs = lg) := hR.2.2.1
    rw [hsz] at q1
    dsimp only [lgv] at kt
    clear hR hM ho hS0 B1 B2 B3 q2 hx q3 hb3
    generalize (termM ⟨bi, bt, bk, bd⟩ lg x).isSome = TB at kt
    generalize (termM ⟨bi, bt, bk, bd⟩ lg x).getD 0 = T at *
    go_enter Tryz.func92, Tryz.ntmps92
    go_wp2_with fail
    refine kt.mono ?_
    rintro e w5 ⟨rfl, hbb⟩
    rw [q1] at hbb
    have C1 := (hbb.block w.heap.size (by omega)).trans B14
    have C2 := (hbb.block (w.heap.size + 1) (by omega)).trans B24
    have C3 := (hbb.block (w.heap.size + 1 + 1) (by omega)).trans B34
    have hb5 := hb4.trans (hbb.mono (by omega))
    have hsz5 : w.heap.size + 1 + 1 + 1 + 1 ≤ w5.heap.size := by have := hbb.size; omega
    clear kt hbb hb4 B14 B24 B34
    go_wp2
    (try simp only [Exit.inBlock, Exit.then])
    refine wp_region_L (fun W => Below w5.heap.size w5 W) [18] (by kernel_rfl) ?_
    have hbd : Below w5.heap.size w5 w5.drew := (Below.refl _ w5).drew
    generalize w5.drew = wd at *
    have HCL : Hid (∀ W, Below w5.heap.size w5 W → _) := fun W hW => r15_cells ((hW.block w.heap.size (by omega)).trans C1)
    have HPL : Hid (∀ W, Below w5.heap.size w5 W → W.cell? ⟨w.heap.size + 1, 0, none⟩ = some (.int .i64 pnd) ∧ W.cell? ⟨w.heap.size + 1, 1, none⟩ = some (.int .u64 (nx : Int)) ∧ W.cell? ⟨w.heap.size + 1, 2, none⟩ = some (.int .u64 (pm : Int))) := fun W hW => by
      have := (hW.block (w.heap.size + 1) (by omega)).trans C2
      exact ⟨by rw [cells_of_block this]; rfl, by rw [cells_of_block this]; rfl, by rw [cells_of_block this]; rfl⟩
    have ksl := rslice_n n (⟨bi, bt, bk, bd⟩, ba, bn, bc) zs (.slice la ln lc) nx 16 wd (HL.out wd (hb5.trans (hbd.mono hb5.size))) (by omega)
    dsimp only [lgv] at ksl
    refine wpAnyL_take 0 rfl (by kernel_rfl) (by kernel_rfl) (by kernel_rfl) (by kernel_rfl) (fun _ _ _ h => h) (wanted_none rfl) (by intro w' hS'; have hz := hS'; obtain ⟨-, c0, c1, c2, c3, c4, c5, c6, c7, c8, c9, c10, c11, c12, c13, c14⟩ := HCL.out _ hz; obtain ⟨d0, d1, d2⟩ := HPL.out _ hz; go_simp <;> rfl) hbd ?_
    try simp only [List.getElem_toArray, List.getElem_cons_succ, List.getElem_cons_zero, Act.put, List.setIfInBounds_toArray, List.set_cons_zero, List.set_cons_succ]
    refine wpAnyL_take 1 rfl (by kernel_rfl) (by kernel_rfl) (by kernel_rfl) (by kernel_rfl) (fun _ _ _ h => h) (wanted_none rfl) (by intro w' hS'; have hz := hS'; obtain ⟨-, c0, c1, c2, c3, c4, c5, c6, c7, c8, c9, c10, c11, c12, c13, c14⟩ := HCL.out _ hz; obtain ⟨d0, d1, d2⟩ := HPL.out _ hz; go_simp <;> rfl) hbd ?_
    try simp only [List.getElem_toArray, List.getElem_cons_succ, List.getElem_cons_zero, Act.put, List.setIfInBounds_toArray, List.set_cons_zero, List.set_cons_succ]
    refine wpAnyL_take 2 rfl (by kernel_rfl) (by kernel_rfl) (by kernel_rfl) (by kernel_rfl) (fun _ _ _ h => h) (wanted_none rfl) (by intro w' hS'; have hz := hS'; obtain ⟨-, c0, c1, c2, c3, c4, c5, c6, c7, c8, c9, c10, c11, c12, c13, c14⟩ := HCL.out _ hz; obtain ⟨d0, d1, d2⟩ := HPL.out _ hz; go_simp <;> rfl) hbd ?_
    try simp only [List.getElem_toArray, List.getElem_cons_succ, List.getElem_cons_zero, Act.put, List.setIfInBounds_toArray, List.set_cons_zero, List.set_cons_succ]
    refine wpAnyL_take 3 rfl (by kernel_rfl) (by kernel_rfl) (by kernel_rfl) (by kernel_rfl) (fun _ _ _ h => h) (wanted_none rfl) (by intro w' hS'; have hz := hS'; obtain ⟨-, c0, c1, c2, c3, c4, c5, c6, c7, c8, c9, c10, c11, c12, c13, c14⟩ := HCL.out _ hz; obtain ⟨d0, d1, d2⟩ := HPL.out _ hz; go_simp <;> rfl) hbd ?_
    try simp only [List.getElem_toArray, List.getElem_cons_succ, List.getElem_cons_zero, Act.put, List.setIfInBounds_toArray, List.set_cons_zero, List.set_cons_succ]
    refine wpAnyL_take 4 rfl (by kernel_rfl) (by kernel_rfl) (by kernel_rfl) (by kernel_rfl) (fun _ _ _ h => h) (wanted_none rfl) (by intro w' hS'; have hz := hS'; obtain ⟨-, c0, c1, c2, c3, c4, c5, c6, c7, c8, c9, c10, c11, c12, c13, c14⟩ := HCL.out _ hz; obtain ⟨d0, d1, d2⟩ := HPL.out _ hz; go_simp <;> rfl) hbd ?_
    try simp only [List.getElem_toArray, List.getElem_cons_succ, List.getElem_cons_zero, Act.put, List.setIfInBounds_toArray, List.set_cons_zero, List.set_cons_succ]
    refine wpAnyL_take 5 rfl (by kernel_rfl) (by kernel_rfl) (by kernel_rfl) (by kernel_rfl) (fun _ _ _ h => h) (wanted_none rfl) (by intro w' hS'; have hz := hS'; obtain ⟨-, c0, c1, c2, c3, c4, c5, c6, c7, c8, c9, c10, c11, c12, c13, c14⟩ := HCL.out _ hz; obtain ⟨d0, d1, d2⟩ := HPL.out _ hz; go_simp <;> rfl) hbd ?_
    try simp only [List.getElem_toArray, List.getElem_cons_succ, List.getElem_cons_zero, Act.put, List.setIfInBounds_toArray, List.set_cons_zero, List.set_cons_succ]
    refine wpAnyL_take 6 rfl (by kernel_rfl) (by kernel_rfl) (by kernel_rfl) (by kernel_rfl) (fun _ _ _ h => h) (wanted_none rfl) (by intro w' hS'; have hz := hS'; obtain ⟨-, c0, c1, c2, c3, c4, c5, c6, c7, c8, c9, c10, c11, c12, c13, c14⟩ := HCL.out _ hz; obtain ⟨d0, d1, d2⟩ := HPL.out _ hz; go_simp <;> rfl) hbd ?_
    try simp only [List.getElem_toArray, List.getElem_cons_succ, List.getElem_cons_zero, Act.put, List.setIfInBounds_toArray, List.set_cons_zero, List.set_cons_succ]
    refine wpAnyL_take 7 rfl (by kernel_rfl) (by kernel_rfl) (by kernel_rfl) (by kernel_rfl) (fun _ _ _ h => h) (wanted_none rfl) (by intro w' hS'; have hz := hS'; obtain ⟨-, c0, c1, c2, c3, c4, c5, c6, c7, c8, c9, c10, c11, c12, c13, c14⟩ := HCL.out _ hz; obtain ⟨d0, d1, d2⟩ := HPL.out _ hz; go_simp <;> rfl) hbd ?_
    try simp only [List.getElem_toArray, List.getElem_cons_succ, List.getElem_cons_zero, Act.put, List.setIfInBounds_toArray, List.set_cons_zero, List.set_cons_succ]
    refine wpAnyL_take 8 rfl (by kernel_rfl) (by kernel_rfl) (by kernel_rfl) (by kernel_rfl) (fun _ _ _ h => h) (wanted_none rfl) (by intro w' hS'; have hz := hS'; obtain ⟨-, c0, c1, c2, c3, c4, c5, c6, c7, c8, c9, c10, c11, c12, c13, c14⟩ := HCL.out _ hz; obtain ⟨d0, d1, d2⟩ := HPL.out _ hz; go_simp <;> rfl) hbd ?_
    try simp only [List.getElem_toArray, List.getElem_cons_succ, List.getElem_cons_zero, Act.put, List.setIfInBounds_toArray, List.set_cons_zero, List.set_cons_succ]
    refine wpAnyL_take 9 rfl (by kernel_rfl) (by kernel_rfl) (by kernel_rfl) (by kernel_rfl) (fun _ _ _ h => h) (wanted_none rfl) (by intro w' hS'; have hz := hS'; obtain ⟨-, c0, c1, c2, c3, c4, c5, c6, c7, c8, c9, c10, c11, c12, c13, c14⟩ := HCL.out _ hz; obtain ⟨d0, d1, d2⟩ := HPL.out _ hz; go_simp <;> rfl) hbd ?_
    try simp only [List.getElem_toArray, List.getElem_cons_succ, List.getElem_cons_zero, Act.put, List.setIfInBounds_toArray, List.set_cons_zero, List.set_cons_succ]
    refine wpAnyL_take 10 rfl (by kernel_rfl) (by kernel_rfl) (by kernel_rfl) (by kernel_rfl) (fun _ _ _ h => h) (wanted_none rfl) (by intro w' hS'; have hz := hS'; obtain ⟨-, c0, c1, c2, c3, c4, c5, c6, c7, c8, c9, c10, c11, c12, c13, c14⟩ := HCL.out _ hz; obtain ⟨d0, d1, d2⟩ := HPL.out _ hz; go_simp <;> rfl) hbd ?_
    try simp only [List.getElem_toArray, List.getElem_cons_succ, List.getElem_cons_zero, Act.put, List.setIfInBounds_toArray, List.set_cons_zero, List.set_cons_succ]
    refine wpAnyL_take 11 rfl (by kernel_rfl) (by kernel_rfl) (by kernel_rfl) (by kernel_rfl) (fun _ _ _ h => h) (wanted_none rfl) (by intro w' hS'; have hz := hS'; obtain ⟨-, c0, c1, c2, c3, c4, c5, c6, c7, c8, c9, c10, c11, c12, c13, c14⟩ := HCL.out _ hz; obtain ⟨d0, d1, d2⟩ := HPL.out _ hz; go_simp <;> rfl) hbd ?_
    try simp only [List.getElem_toArray, List.getElem_cons_succ, List.getElem_cons_zero, Act.put, List.setIfInBounds_toArray, List.set_cons_zero, List.set_cons_succ]
    refine wpAnyL_take 13 rfl (by kernel_rfl) (by kernel_rfl) (by kernel_rfl) (by kernel_rfl) (fun _ _ _ h => h) (wanted_none rfl) (by intro w' hS'; have hz := hS'; obtain ⟨-, c0, c1, c2, c3, c4, c5, c6, c7, c8, c9, c10, c11, c12, c13, c14⟩ := HCL.out _ hz; obtain ⟨d0, d1, d2⟩ := HPL.out _ hz; go_simp <;> rfl) hbd ?_
    try simp only [List.getElem_toArray, List.getElem_cons_succ, List.getElem_cons_zero, Act.put, List.setIfInBounds_toArray, List.set_cons_zero, List.set_cons_succ]
    refine wpAnyL_take 14 rfl (by kernel_rfl) (by kernel_rfl) (by kernel_rfl) (by kernel_rfl) (fun _ _ _ h => h) (wanted_none rfl) (by intro w' hS'; have hz := hS'; obtain ⟨-, c0, c1, c2, c3, c4, c5, c6, c7, c8, c9, c10, c11, c12, c13, c14⟩ := HCL.out _ hz; obtain ⟨d0, d1, d2⟩ := HPL.out _ hz; go_simp <;> rfl) hbd ?_
    try simp only [List.getElem_toArray, List.getElem_cons_succ, List.getElem_cons_zero, Act.put, List.setIfInBounds_toArray, List.set_cons_zero, List.set_cons_succ]
    refine wpAnyL_take 15 rfl (by kernel_rfl) (by kernel_rfl) (by kernel_rfl) (by kernel_rfl) (fun _ _ _ h => h) (wanted_none rfl) (by intro w' hS'; have hz := hS'; obtain ⟨-, c0, c1, c2, c3, c4, c5, c6, c7, c8, c9, c10, c11, c12, c13, c14⟩ := HCL.out _ hz; obtain ⟨d0, d1, d2⟩ := HPL.out _ hz; go_simp <;> rfl) hbd ?_
    try simp only [List.getElem_toArray, List.getElem_cons_succ, List.getElem_cons_zero, Act.put, List.setIfInBounds_toArray, List.set_cons_zero, List.set_cons_succ]
    refine wpAnyL_one 12 (by kernel_rfl) rfl (wanted_none rfl) ?_
    intro K' hK'
    go_simp
    go_at_call 125
    refine ksl.mono ?_
    rintro e w6 ⟨v6, rfl, hE6, hb6⟩
    have hS6 : (fun W => Below w5.heap.size w5 W) w6 := hbd.trans (hb6.mono hbd.size)
    obtain ⟨ea, ec, hv6, -, -⟩ := hE6.1.rd.shape
    generalize (sliceZ ((⟨bi, bt, bk, bd⟩, ba, bn, bc) : Ez) zs nx 16).length = en at hv6
    subst hv6
    have ks := say_of n _ ⟨⟨3, 0, pnd, 0, x, T, sliceM ⟨bi, bt, bk, bd⟩ lg nx 16, cm, false, 0, zeroMe⟩, sliceZ ((⟨bi, bt, bk, bd⟩, ba, bn, bc) : Ez) zs nx 16, (ea, en, ec), (none, 0, 0)⟩ _ w6 (HS.out w6 (hb5.trans (hS6.mono hb5.size))) ⟨hE6, by rw [mes_slice, HM0.out], RdN.nil _ _ _ _⟩ hl
    dsimp only [gv, sv, zeroMe] at ks
    clear ksl hE6
    refine hK'.out _ _ (.inr hS6) ?_
    clear hK' K'
    try simp only [List.getElem_toArray, List.getElem_cons_succ, List.getElem_cons_zero, Act.put, List.setIfInBounds_toArray, List.set_cons_zero, List.set_cons_succ]
    refine wpAnyL_take 16 rfl (by kernel_rfl) (by kernel_rfl) (by kernel_rfl) (by kernel_rfl) (fun _ _ _ h => h) (wanted_none rfl) (by intro w' hS'; have hz := hS'; obtain ⟨-, c0, c1, c2, c3, c4, c5, c6, c7, c8, c9, c10, c11, c12, c13, c14⟩ := HCL.out _ hz; obtain ⟨d0, d1, d2⟩ := HPL.out _ hz; go_simp <;> rfl) hS6 ?_
    try simp only [List.getElem_toArray, List.getElem_cons_succ, List.getElem_cons_zero, Act.put, List.setIfInBounds_toArray, List.set_cons_zero, List.set_cons_succ]
    refine wpAnyL_one 17 (by kernel_rfl) rfl (wanted_none rfl) ?_
    intro K' hK'
    go_simp
    go_at_call 60

    refine ks.mono ?_
    rintro e w7 ⟨v7, rfl, hS7, hb7⟩
    have hS8 : (fun W => Below w5.heap.size w5 W) w7 := hS6.trans (hb7.mono hS6.size)
    have g1 := (hS8.block (w.heap.size + 1 + 1) (by omega)).trans C3
    have hb1 := hb5.trans (hS8.mono hb5.size)
    obtain ⟨cs, rfl, h15, hone⟩ := hS7.shape
    have HF := setRow_heap _ _ _ cs _ _ g1
    have hbf := below_row hb1 (g := w.heap.size + 1 + 1) (by omega) cs
    have hSf := hS7.frm (Frm.row (n := n) (by omega) g1 cs) (by decide)
    clear ks
    refine hK'.out _ _ (.inr hS8) ?_
    clear hK' K'
    try simp only [List.getElem_toArray, List.getElem_cons_succ, List.getElem_cons_zero, Act.put, List.setIfInBounds_toArray, List.set_cons_zero, List.set_cons_succ]
    refine wpAnyL_one 18 (by kernel_rfl) rfl (wanted_none rfl) ?_
    intro K' hK'
    refine wp_store_row 54 _ _ rfl (w.heap.size + 1 + 1) cs rfl rfl _ _ g1 (by rw [h15]; exact sizeSt) (by rw [h15]; rfl) hone ?_
    refine hK'.out _ _ (.inl (by decide)) ?_
    clear hK' K'
    try simp only [List.getElem_toArray, List.getElem_cons_succ, List.getElem_cons_zero, Act.put, List.setIfInBounds_toArray, List.set_cons_zero, List.set_cons_succ]
    refine wpAnyL_done (by kernel_rfl) (NoPanic.normal ?_) _
    generalize w7.setRow (w.heap.size + 1 + 1) cs = W8 at *
    go_wp2
    (try simp only [Exit.inBlock, Exit.then])
    refine bodyPost_ret (results_stv rfl _ _ (w.heap.size + 1 + 1) cs h15 rfl HF) rfl ?_
    exact ⟨_, rfl, by rw [(hE.out _).2 rfl]; exact hSf, hbf⟩
end Go.Proofs.YtncoandnelgkeaaGreat

/- The document's tellAll: all others are told. -/
namespace Go.Proofs.YtncoandnelgkeaaGreat
open Go.RowKit QuorumMath RlogMath RaftMath
set_option maxRecDepth 100000
set_option linter.unusedSimpArgs false
set_option linter.unusedVariables false

set_option maxHeartbeats 8000000 in
theorem tella_of (n : Nat) (s : Ms) (v : Value) (w : World) (hS : StV n w v s) (hn : n ≤ w.heap.size) (hl : s.out.length + s.r.peers.length ≤ 1000000000) (hlg : s.r.log.length ≤ 1000000000) (hnx : ∀ p ∈ s.r.peers, p.next < 18446744073709551616) : Calls Tryz.prog 54 #[v] w fun e w' => ∃ v', e = .returned v' ∧ StV n w' v' (tellAllR s) ∧ Below w.heap.size w w' := by
  rw [tellAll_eq]
  obtain ⟨cs0, rfl, h15, hone⟩ := hS.shape
  obtain ⟨hsz, B1, B2, hb2⟩ := two_box w (.cells cs0 54) (.cells #[.int .i64 0, .int .u64 0, .int .i64 0, .int .u64 0, .int .u64 0, .int .i64 0, .slice none 0 0, .slice none 0 0, .int .u64 0, .int .i64 0, .int .i64 0, .int .i64 0, .slice none 0 0, .slice none 0 0, .slice none 0 0] 54)
  have hS2 := hS.below hb2
  have HP : Hid (∀ k, ((s.r.peers.take k).foldl tell1 s).r = s.r) := fun k => tells_r _ _
  have HQ : Hid (∀ k, ((s.r.peers.take k).foldl tell1 s).out.length ≤ 1000000000) := fun k => by
    have h1 := tells_len (s.r.peers.take k) s
    rw [List.length_take] at h1
    omega
  clear hS
  go_enter Tryz.func54, Tryz.ntmps54
  go_wp2
  generalize (w.alloc (.cells cs0 54)).alloc (.cells #[.int .i64 0, .int .u64 0, .int .i64 0, .int .u64 0, .int .u64 0, .int .i64 0, .slice none 0 0, .slice none 0 0, .int .u64 0, .int .i64 0, .int .i64 0, .int .i64 0, .slice none 0 0, .slice none 0 0, .slice none 0 0] 54) = w5 at *
  go_loopg [3] s.r.peers.length (fun gh s3 wr => ∃ (k : Nat) (cs : Array Value), k + gh = s.r.peers.length ∧ s3 = .int .i64 (k : Int) ∧ wr.heap[w.heap.size]? = some (.cells cs 54) ∧ wr.heap[w.heap.size + 1]? = some (.cells #[.int .i64 0, .int .u64 0, .int .i64 0, .int .u64 0, .int .u64 0, .int .i64 0, .slice none 0 0, .slice none 0 0, .int .u64 0, .int .i64 0, .int .i64 0, .int .i64 0, .slice none 0 0, .slice none 0 0, .slice none 0 0] 54) ∧ StV n wr (.agg cs) ((s.r.peers.take k).foldl tell1 s) ∧ Below w.heap.size w wr)
  case atStart => exact ⟨0, cs0, by simp, rfl, B1, B2, hS2, hb2⟩
  case round =>
    obtain ⟨k, cs, hkg, rfl, D1, D2, hSr, hbr⟩ := hrel
    clear B1 B2 hS2 hb2 hsz h15 hone
    have hszr : w.heap.size + 1 + 1 ≤ wr.heap.size := (Array.getElem?_eq_some_iff.1 D2).1
    have hr := HP.out k
    have hq := HQ.out k
    have HN : Hid (∀ p, s.r.peers[k]? = some p → (s.r.peers.take (k + 1)).foldl tell1 s = tell1 ((s.r.peers.take k).foldl tell1 s) p) := fun p hp => fold_take _ hp _
    have HE : Hid (s.r.peers.length ≤ k → (s.r.peers.take k).foldl tell1 s = s.r.peers.foldl tell1 s) := fun h => by rw [List.take_of_length_le h]
    generalize (s.r.peers.take k).foldl tell1 s = a at *
    have HSr : Hid (StV n wr (.agg cs) a) := hSr
    obtain ⟨z, gs, os, hcs, hz, hR, hM, ho⟩ := hSr
    rw [hr] at hz
    obtain ⟨sr, so⟩ := s
    dsimp only at *
    obtain ⟨r, zs, ⟨ba, bn, bc⟩, ⟨la, ln, lc⟩, ⟨va, vn, vc⟩, ⟨pa, pn, pc⟩⟩ := z
    obtain ⟨oa, on, oc⟩ := os
    dsimp only at hz hr
    subst hz
    obtain ⟨nd, tm, vo, ⟨bi, bt, bk, bd⟩, lg, cm, ro, le, el, vt, pe⟩ := r
    dsimp only at *
    simp only [sv, Value.agg.injEq] at hcs
    subst hcs
    have hPR : Rd peerN wr (.slice pa pn pc) pe := hR.2.2.2.2.rd
    have HPR : Hid (Rd peerN wr (.slice pa pn pc) pe) := hPR
    obtain ⟨pa', pc', hps, -, -⟩ := hPR.shape
    simp only [Value.slice.injEq] at hps
    obtain ⟨rfl, rfl, rfl⟩ := hps
    clear hPR
    obtain ⟨-, o0, o1, o2, o3, o4, o5, o6, o7, o8, o9, o10, o11, o12, o13, o14⟩ := r15_cells D1
    clear hR hM ho
    by_cases hlt : k < pe.length
    · have hlti : (k : Int) < (pe.length : Int) := by omega
      have hp : pe[k]? = some pe[k] := List.getElem?_eq_getElem hlt
      obtain ⟨p, hpp⟩ : ∃ p, p = pe[k] := ⟨_, rfl⟩
      rw [← hpp] at hp
      clear hpp
      obtain ⟨b, off, rfl, c⟩ := rdpn_at HPR.out hp
      obtain ⟨d0, d1, d2⟩ := c wr (Below.refl _ _)
      have hN := HN.out p hp
      have hpx := hnx p (List.mem_of_getElem? hp)
      obtain ⟨pnd, nx, pm⟩ := p
      dsimp only at d0 d1 d2 c hpx
      have HK : Hid (∀ W, Below wr.heap.size wr W → _) := fun W hW => tell_of n a ⟨pnd, nx, pm⟩ _ W (HSr.out.below hW) (by have := hW.size; have := hbr.size; omega) hq (by rw [hr]; exact hlg) hpx
      by_cases hnd : pnd = nd
      · have E : Hid (_ = a) := hN.trans (by unfold tell1; rw [hr]; exact if_pos hnd)
        subst hnd
        clear hN HK HPR c hp
        go_wp2
        go_quiet (fail)
        go_wp2
        go_roundg (gk - 1)
        case measure => omega
        case rel => exact ⟨k + 1, _, by omega, by go_num, by first | exact D1 | simpa using D1, by first | exact D2 | simpa using D2, by rw [E.out]; exact HSr.out.below (below_dN (Below.refl _ _) _), below_dN hbr _⟩
      · have E : Hid (_ = tellR a ⟨pnd, nx, pm⟩) := hN.trans (by unfold tell1; rw [hr]; exact if_neg hnd)
        have hndb : (pnd != nd) = true := by simpa using hnd
        clear hN hp
        go_wp2
        go_quiet (fail)
        go_wp2
        (try simp only [Exit.inBlock, Exit.then])
        have hbq : Below wr.heap.size wr (wr.drewN nq) := below_dN (Below.refl _ _) nq
        have D1 : (wr.drewN nq).heap[w.heap.size]? = _ := (hbq.block w.heap.size (by omega)).trans D1
        have D2 : (wr.drewN nq).heap[w.heap.size + 1]? = _ := (hbq.block (w.heap.size + 1) (by omega)).trans D2
        have hb5 := hbr.trans (hbq.mono hbr.size)
        have HK := fun W hW => HK.out W (hbq.trans (Below.mono hW hbq.size))
        have cq := fun W hW => c W (hbq.trans (Below.mono hW hbq.size))
        clear c d0 d1 d2 o0 o1 o2 o3 o4 o5 o6 o7 o8 o9 o10 o11 o12 o13 o14 hbq
        generalize wr.drewN nq = w5 at *
        refine wp_region_L (fun W => Below w5.heap.size w5 W) [8] (by kernel_rfl) ?_
        have hbd : Below w5.heap.size w5 w5.drew := (Below.refl _ w5).drew
        have HCL : Hid (∀ W, Below w5.heap.size w5 W → _) := fun W hW => r15_cells ((hW.block w.heap.size (Nat.lt_of_lt_of_le (by omega) (Array.getElem?_eq_some_iff.1 D2).1)).trans D1)
        have HPL : Hid (∀ W, Below w5.heap.size w5 W → _) := cq
        have hsz5 : w.heap.size + 1 + 1 ≤ w5.heap.size := (Array.getElem?_eq_some_iff.1 D2).1
        have kt := HK w5.drew hbd
        generalize w5.drew = wd at *
        refine wpAnyL_take 0 rfl (by kernel_rfl) (by kernel_rfl) (by kernel_rfl) (by kernel_rfl) (fun _ _ _ h => h) (wanted_none rfl) (by intro w' hS'; have hz := hS'; obtain ⟨-, c0, c1, c2, c3, c4, c5, c6, c7, c8, c9, c10, c11, c12, c13, c14⟩ := HCL.out _ hz; obtain ⟨d0, d1, d2⟩ := HPL.out _ hz; go_simp <;> rfl) hbd ?_
        try simp only [List.getElem_toArray, List.getElem_cons_succ, List.getElem_cons_zero, Act.put, List.setIfInBounds_toArray, List.set_cons_zero, List.set_cons_succ]
        refine wpAnyL_take 1 rfl (by kernel_rfl) (by kernel_rfl) (by kernel_rfl) (by kernel_rfl) (fun _ _ _ h => h) (wanted_none rfl) (by intro w' hS'; have hz := hS'; obtain ⟨-, c0, c1, c2, c3, c4, c5, c6, c7, c8, c9, c10, c11, c12, c13, c14⟩ := HCL.out _ hz; obtain ⟨d0, d1, d2⟩ := HPL.out _ hz; go_simp <;> rfl) hbd ?_
        try simp only [List.getElem_toArray, List.getElem_cons_succ, List.getElem_cons_zero, Act.put, List.setIfInBounds_toArray, List.set_cons_zero, List.set_cons_succ]
        refine wpAnyL_take 2 rfl (by kernel_rfl) (by kernel_rfl) (by kernel_rfl) (by kernel_rfl) (fun _ _ _ h => h) (wanted_none rfl) (by intro w' hS'; have hz := hS'; obtain ⟨-, c0, c1, c2, c3, c4, c5, c6, c7, c8, c9, c10, c11, c12, c13, c14⟩ := HCL.out _ hz; obtain ⟨d0, d1, d2⟩ := HPL.out _ hz; go_simp <;> rfl) hbd ?_
        try simp only [List.getElem_toArray, List.getElem_cons_succ, List.getElem_cons_zero, Act.put, List.setIfInBounds_toArray, List.set_cons_zero, List.set_cons_succ]
        refine wpAnyL_take 3 rfl (by kernel_rfl) (by kernel_rfl) (by kernel_rfl) (by kernel_rfl) (fun _ _ _ h => h) (wanted_none rfl) (by intro w' hS'; have hz := hS'; obtain ⟨-, c0, c1, c2, c3, c4, c5, c6, c7, c8, c9, c10, c11, c12, c13, c14⟩ := HCL.out _ hz; obtain ⟨d0, d1, d2⟩ := HPL.out _ hz; go_simp <;> rfl) hbd ?_
        try simp only [List.getElem_toArray, List.getElem_cons_succ, List.getElem_cons_zero, Act.put, List.setIfInBounds_toArray, List.set_cons_zero, List.set_cons_succ]
        refine wpAnyL_take 4 rfl (by kernel_rfl) (by kernel_rfl) (by kernel_rfl) (by kernel_rfl) (fun _ _ _ h => h) (wanted_none rfl) (by intro w' hS'; have hz := hS'; obtain ⟨-, c0, c1, c2, c3, c4, c5, c6, c7, c8, c9, c10, c11, c12, c13, c14⟩ := HCL.out _ hz; obtain ⟨d0, d1, d2⟩ := HPL.out _ hz; go_simp <;> rfl) hbd ?_
        try simp only [List.getElem_toArray, List.getElem_cons_succ, List.getElem_cons_zero, Act.put, List.setIfInBounds_toArray, List.set_cons_zero, List.set_cons_succ]
        refine wpAnyL_take 5 rfl (by kernel_rfl) (by kernel_rfl) (by kernel_rfl) (by kernel_rfl) (fun _ _ _ h => h) (wanted_none rfl) (by intro w' hS'; have hz := hS'; obtain ⟨-, c0, c1, c2, c3, c4, c5, c6, c7, c8, c9, c10, c11, c12, c13, c14⟩ := HCL.out _ hz; obtain ⟨d0, d1, d2⟩ := HPL.out _ hz; go_simp <;> rfl) hbd ?_
        try simp only [List.getElem_toArray, List.getElem_cons_succ, List.getElem_cons_zero, Act.put, List.setIfInBounds_toArray, List.set_cons_zero, List.set_cons_succ]
        refine wpAnyL_take 6 rfl (by kernel_rfl) (by kernel_rfl) (by kernel_rfl) (by kernel_rfl) (fun _ _ _ h => h) (wanted_none rfl) (by intro w' hS'; have hz := hS'; obtain ⟨-, c0, c1, c2, c3, c4, c5, c6, c7, c8, c9, c10, c11, c12, c13, c14⟩ := HCL.out _ hz; obtain ⟨d0, d1, d2⟩ := HPL.out _ hz; go_simp <;> rfl) hbd ?_
        try simp only [List.getElem_toArray, List.getElem_cons_succ, List.getElem_cons_zero, Act.put, List.setIfInBounds_toArray, List.set_cons_zero, List.set_cons_succ]
        refine wpAnyL_one 7 (by kernel_rfl) rfl (wanted_none rfl) ?_
        intro K' hK'
        go_simp
        go_at_call 92
        refine kt.mono ?_
        rintro e w6 ⟨v6, rfl, hS6, hb6⟩
        have hSx : (fun W => Below w5.heap.size w5 W) w6 := hbd.trans (hb6.mono hbd.size)
        have g1 := (hSx.block w.heap.size (by omega)).trans D1
        have g2 := (hSx.block (w.heap.size + 1) (by omega)).trans D2
        have hb1 := hb5.trans (hSx.mono hb5.size)
        obtain ⟨csx, rfl, h15, hone⟩ := hS6.shape
        have HF := setRow_heap _ _ _ csx _ _ g1
        have g2' := (setRow_other w6 w.heap.size (w.heap.size + 1) csx (by omega)).trans g2
        have hbf := below_row hb1 (g := w.heap.size) (Nat.le_refl _) csx
        have hSf := hS6.frm (Frm.row (n := n) hn g1 csx) (by decide)
        clear kt
        refine hK'.out _ _ (.inr hSx) ?_
        clear hK' K'
        try simp only [List.getElem_toArray, List.getElem_cons_succ, List.getElem_cons_zero, Act.put, List.setIfInBounds_toArray, List.set_cons_zero, List.set_cons_succ]
        refine wpAnyL_one 8 (by kernel_rfl) rfl (wanted_none rfl) ?_
        intro K' hK'
        refine wp_store_row 54 _ _ rfl (w.heap.size) csx rfl rfl _ _ g1 (by rw [h15]; exact sizeSt) (by rw [h15]; rfl) hone ?_
        refine hK'.out _ _ (.inl (by decide)) ?_
        clear hK' K'
        try simp only [List.getElem_toArray, List.getElem_cons_succ, List.getElem_cons_zero, Act.put, List.setIfInBounds_toArray, List.set_cons_zero, List.set_cons_succ]
        refine wpAnyL_done (by kernel_rfl) (NoPanic.normal ?_) _
        generalize w6.setRow w.heap.size csx = W8 at *
        go_wp2
        go_roundg (gk - 1)
        case measure => omega
        case rel => exact ⟨k + 1, csx, by omega, by go_num, HF, g2', by rw [E.out]; exact hSf, hbf⟩
    · have hlti : ¬ (k : Int) < (pe.length : Int) := by omega
      have E : Hid (a = _) := HE.out (by omega)
      have hbf := below_row hbr (g := w.heap.size + 1) (by omega) #[.int .i64 nd, .int .u64 (tm : Int), .int .i64 vo, .int .u64 (bi : Int), .int .u64 (bt : Int), .int .i64 bk, .slice ba bn bc, .slice la ln lc, .int .u64 (cm : Int), .int .i64 ro, .int .i64 le, .int .i64 el, .slice va vn vc, .slice pa pe.length pc, .slice oa on oc]
      have HF := setRow_heap _ _ _ #[.int .i64 nd, .int .u64 (tm : Int), .int .i64 vo, .int .u64 (bi : Int), .int .u64 (bt : Int), .int .i64 bk, .slice ba bn bc, .slice la ln lc, .int .u64 (cm : Int), .int .i64 ro, .int .i64 le, .int .i64 el, .slice va vn vc, .slice pa pe.length pc, .slice oa on oc] _ _ D2
      have hSf := HSr.out.frm (Frm.row (n := n) (by omega) D2 #[.int .i64 nd, .int .u64 (tm : Int), .int .i64 vo, .int .u64 (bi : Int), .int .u64 (bt : Int), .int .i64 bk, .slice ba bn bc, .slice la ln lc, .int .u64 (cm : Int), .int .i64 ro, .int .i64 le, .int .i64 el, .slice va vn vc, .slice pa pe.length pc, .slice oa on oc]) (by decide)
      clear HPR
      go_wp2_with (first | refine wpList_load_row rfl 54 _ rfl w.heap.size rfl _ _ _ _ D1 Tryz.underlying54 rfl (by kernel_rfl) ?_ | refine wpList_store_row rfl 54 _ _ rfl (w.heap.size + 1) _ rfl rfl _ _ D2 (by kernel_rfl) rfl (by simp [Value.oneCell']) ?_)
      (try simp only [Exit.inBlock, Exit.then])
      refine bodyPost_ret (results_stv rfl _ _ (w.heap.size + 1) _ rfl rfl HF) rfl ?_
      exact ⟨_, rfl, by rw [← E.out]; exact hSf, hbf⟩
end Go.Proofs.YtncoandnelgkeaaGreat

