import Derived.Test.YtncoandnelgkeaaGreatHa48
/- The document's SamePeers, Same, where both are one. -/
namespace Go.Proofs.YtncoandnelgkeaaGreat
open Go.RowKit QuorumMath RlogMath RaftMath
set_option maxRecDepth 100000
set_option linter.unusedSimpArgs false
set_option linter.unusedVariables false

theorem neq_peer (w : World) (a : Int) (b c : Nat) : (binOp .neq 71 (.agg #[.int .i64 a, .int .u64 (b : Int), .int .u64 (c : Int)]) (.agg #[.int .i64 a, .int .u64 (b : Int), .int .u64 (c : Int)])).run Tryz.prog w = .ok (.bool false) w := by
  go_simp
set_option maxHeartbeats 2000000 in
theorem samePeers_of (ps : List Mp) (lv mv : Value) (w : World) (hF : Rd peerN w lv ps) (hG : Rd peerN w mv ps) (hlen : ps.length ≤ 1000000000000) : Calls Tryz.prog 49 #[lv, mv] w fun e w' => e = .returned (.bool true) ∧ Below w.heap.size w w' := by
  obtain ⟨ao, cap, rfl, -, -⟩ := hF.shape
  obtain ⟨am, cm, rfl, -, -⟩ := hG.shape
  go_enter Tryz.func49, Tryz.ntmps49
  go_wp2
  go_loopg [5] ps.length (fun g s5 wr => ∃ i : Nat, i + g = ps.length ∧ s5 = .int .i64 (i : Int) ∧ Below w.heap.size w wr)
  case atStart => exact ⟨0, by simp, rfl, Below.refl _ _⟩
  case round =>
    obtain ⟨i, hig, rfl, hb⟩ := hrel
    by_cases hlt : i < ps.length
    · have hlti : (i : Int) < (ps.length : Int) := by omega
      have hx : ps[i]? = some ps[i] := List.getElem?_eq_getElem hlt
      obtain ⟨x, hxx⟩ : ∃ x, x = ps[i] := ⟨_, rfl⟩
      rw [← hxx] at hx
      clear hxx
      obtain ⟨b, off, rfl, c⟩ := rdpn_at hF hx
      obtain ⟨b', off', rfl, c'⟩ := rdpn_at hG hx
      obtain ⟨x1, x2, x3⟩ := x
      dsimp only at c c'
      have HC : Hid _ := c
      have HD : Hid _ := c'
      have HNE : Hid _ := fun W : World => neq_peer W x1 x2 x3
      clear hx c c' hF hG
      go_wp2
      refine wp_region_L (fun W => Below w.heap.size w W) [] (by kernel_rfl) ?_
      have y0 : Below w.heap.size w wr.drew := hb.drew
      generalize wr.drew = wd at *
      refine wpAnyL_take 0 rfl (by kernel_rfl) (by kernel_rfl) (by kernel_rfl) (by kernel_rfl) (fun _ _ _ h => h) (wanted_none rfl) (by intro w' hS'; obtain ⟨c0, c1, c2⟩ := HC.out _ hS'; obtain ⟨d0, d1, d2⟩ := HD.out _ hS'; have hq := HNE.out w'; go_simp <;> rfl) y0 ?_
      try simp only [List.getElem_toArray, List.getElem_cons_succ, List.getElem_cons_zero, Act.put, List.setIfInBounds_toArray, List.set_cons_zero, List.set_cons_succ]
      refine wpAnyL_take 1 rfl (by kernel_rfl) (by kernel_rfl) (by kernel_rfl) (by kernel_rfl) (fun _ _ _ h => h) (wanted_none rfl) (by intro w' hS'; obtain ⟨c0, c1, c2⟩ := HC.out _ hS'; obtain ⟨d0, d1, d2⟩ := HD.out _ hS'; have hq := HNE.out w'; go_simp <;> rfl) y0 ?_
      try simp only [List.getElem_toArray, List.getElem_cons_succ, List.getElem_cons_zero, Act.put, List.setIfInBounds_toArray, List.set_cons_zero, List.set_cons_succ]
      refine wpAnyL_take 2 rfl (by kernel_rfl) (by kernel_rfl) (by kernel_rfl) (by kernel_rfl) (fun _ _ _ h => h) (wanted_none rfl) (by intro w' hS'; obtain ⟨c0, c1, c2⟩ := HC.out _ hS'; obtain ⟨d0, d1, d2⟩ := HD.out _ hS'; have hq := HNE.out w'; go_simp <;> rfl) y0 ?_
      try simp only [List.getElem_toArray, List.getElem_cons_succ, List.getElem_cons_zero, Act.put, List.setIfInBounds_toArray, List.set_cons_zero, List.set_cons_succ]
      refine wpAnyL_take 3 rfl (by kernel_rfl) (by kernel_rfl) (by kernel_rfl) (by kernel_rfl) (fun _ _ _ h => h) (wanted_none rfl) (by intro w' hS'; obtain ⟨c0, c1, c2⟩ := HC.out _ hS'; obtain ⟨d0, d1, d2⟩ := HD.out _ hS'; have hq := HNE.out w'; go_simp <;> rfl) y0 ?_
      try simp only [List.getElem_toArray, List.getElem_cons_succ, List.getElem_cons_zero, Act.put, List.setIfInBounds_toArray, List.set_cons_zero, List.set_cons_succ]
      refine wpAnyL_take 4 rfl (by kernel_rfl) (by kernel_rfl) (by kernel_rfl) (by kernel_rfl) (fun _ _ _ h => h) (wanted_none rfl) (by intro w' hS'; obtain ⟨c0, c1, c2⟩ := HC.out _ hS'; obtain ⟨d0, d1, d2⟩ := HD.out _ hS'; have hq := HNE.out w'; go_simp <;> rfl) y0 ?_
      try simp only [List.getElem_toArray, List.getElem_cons_succ, List.getElem_cons_zero, Act.put, List.setIfInBounds_toArray, List.set_cons_zero, List.set_cons_succ]
      refine wpAnyL_take 5 rfl (by kernel_rfl) (by kernel_rfl) (by kernel_rfl) (by kernel_rfl) (fun _ _ _ h => h) (wanted_none rfl) (by intro w' hS'; obtain ⟨c0, c1, c2⟩ := HC.out _ hS'; obtain ⟨d0, d1, d2⟩ := HD.out _ hS'; have hq := HNE.out w'; go_simp <;> rfl) y0 ?_
      try simp only [List.getElem_toArray, List.getElem_cons_succ, List.getElem_cons_zero, Act.put, List.setIfInBounds_toArray, List.set_cons_zero, List.set_cons_succ]
      refine wpAnyL_take 6 rfl (by kernel_rfl) (by kernel_rfl) (by kernel_rfl) (by kernel_rfl) (fun _ _ _ h => h) (wanted_none rfl) (by intro w' hS'; obtain ⟨c0, c1, c2⟩ := HC.out _ hS'; obtain ⟨d0, d1, d2⟩ := HD.out _ hS'; have hq := HNE.out w'; go_simp <;> rfl) y0 ?_
      try simp only [List.getElem_toArray, List.getElem_cons_succ, List.getElem_cons_zero, Act.put, List.setIfInBounds_toArray, List.set_cons_zero, List.set_cons_succ]
      refine wpAnyL_take 7 rfl (by kernel_rfl) (by kernel_rfl) (by kernel_rfl) (by kernel_rfl) (fun _ _ _ h => h) (wanted_none rfl) (by intro w' hS'; obtain ⟨c0, c1, c2⟩ := HC.out _ hS'; obtain ⟨d0, d1, d2⟩ := HD.out _ hS'; have hq := HNE.out w'; go_simp <;> rfl) y0 ?_
      try simp only [List.getElem_toArray, List.getElem_cons_succ, List.getElem_cons_zero, Act.put, List.setIfInBounds_toArray, List.set_cons_zero, List.set_cons_succ]
      refine wpAnyL_take 8 rfl (by kernel_rfl) (by kernel_rfl) (by kernel_rfl) (by kernel_rfl) (fun _ _ _ h => h) (wanted_none rfl) (by intro w' hS'; obtain ⟨c0, c1, c2⟩ := HC.out _ hS'; obtain ⟨d0, d1, d2⟩ := HD.out _ hS'; have hq := HNE.out w'; go_simp <;> rfl) y0 ?_
      try simp only [List.getElem_toArray, List.getElem_cons_succ, List.getElem_cons_zero, Act.put, List.setIfInBounds_toArray, List.set_cons_zero, List.set_cons_succ]
      refine wpAnyL_done (by kernel_rfl) (NoPanic.normal ?_) _
      clear HC HD HNE
      go_wp2
      go_roundg (gk - 1)
      case measure => omega
      case rel => exact ⟨i + 1, by omega, by go_num, y0⟩
    · have hlti : ¬ (i : Int) < (ps.length : Int) := by omega
      clear hF hG
      go_wp2
      go_ret
      exact ⟨rfl, hb⟩
set_option maxHeartbeats 8000000 in
theorem rsame_of (n m : Nat) (r : Mr) (v u : Value) (w : World) (hS : RsV n w v r) (hU : RsV m w u r) (hbo : OkM r.base) (hlo : ∀ e ∈ r.log, OkM e) (hlg : r.log.length ≤ 1000000000) (hpl : r.peers.length ≤ 1000000000) (hvt : r.votes.length ≤ 1000000000) : Calls Tryz.prog 17 #[v, u] w fun e w' => e = .returned (.bool true) ∧ Below w.heap.size w w' := by
  obtain ⟨z, rfl, hz, hR⟩ := hS
  obtain ⟨y, rfl, hy, hQ⟩ := hU
  obtain ⟨r', zs, ⟨ba, bn, bc⟩, ⟨la, ln, lc⟩, ⟨va, vn, vc⟩, ⟨pa, pn, pc⟩⟩ := z
  obtain ⟨r2, ys, ⟨ca, cn, cc⟩, ⟨ma, mn, mc⟩, ⟨ua, un, uc⟩, ⟨qa, qn, qc⟩⟩ := y
  obtain rfl : r' = r := hz
  obtain rfl : r2 = r' := hy
  obtain ⟨nd, tm, vo, ⟨bi, bt, bk, bd⟩, lg, cm, ro, le, el, vt, pe⟩ := r2
  dsimp only [rv] at *
  have hml : mes zs = lg := hR.2.2.1
  have hmy : mes ys = lg := hQ.2.2.1
  have hzl : zs.length ≤ 1000000000 := by have := congrArg List.length hml; rw [List.length_map] at this; omega
  have hzo := okz_of hml hlo
  obtain ⟨z1, B1, B2, hb1⟩ := two_box w (.cells #[.int .i64 nd, .int .u64 (tm : Int), .int .i64 vo, .int .u64 (bi : Int), .int .u64 (bt : Int), .int .i64 bk, .slice ba bn bc, .slice la ln lc, .int .u64 (cm : Int), .int .i64 ro, .int .i64 le, .int .i64 el, .slice va vn vc, .slice pa pn pc] 32) (.cells #[.int .i64 nd, .int .u64 (tm : Int), .int .i64 vo, .int .u64 (bi : Int), .int .u64 (bt : Int), .int .i64 bk, .slice ca cn cc, .slice ma mn mc, .int .u64 (cm : Int), .int .i64 ro, .int .i64 le, .int .i64 el, .slice ua un uc, .slice qa qn qc] 32)
  have HK1 : Hid (∀ W, Below w.heap.size w W → _) := fun W hW => ints_of vt (.slice va vn vc) (.slice ua un uc) W (hR.2.2.2.1.rd.below hW) (hQ.2.2.2.1.rd.below hW) (by omega)
  have HK2 : Hid (∀ W, Below w.heap.size w W → _) := fun W hW => samePeers_of pe (.slice pa pn pc) (.slice qa qn qc) W (hR.2.2.2.2.rd.below hW) (hQ.2.2.2.2.rd.below hW) (by omega)
  have HK3 : Hid (∀ W, Below w.heap.size w W → _) := fun W hW => same_of ⟨bi, bt, bk, bd⟩ (ba, bn, bc) (ca, cn, cc) zs ys (.slice la ln lc) (.slice ma mn mc) W (hR.1.below hW).v (hQ.1.below hW).v hbo.2.2.1 (hR.2.1.below hW).v (hQ.2.1.below hW).v (hml.trans hmy.symm) (fun z hz => (hzo z hz).1) (by omega)
  have k1 := HK1.out _ hb1
  obtain ⟨-, o0, o1, o2, o3, o4, o5, o6, o7, o8, o9, o10, o11, o12, o13⟩ := r14_cells B1
  obtain ⟨-, p0, p1, p2, p3, p4, p5, p6, p7, p8, p9, p10, p11, p12, p13⟩ := r14_cells B2
  dsimp only [lgv] at HK3
  clear hR hQ hml hmy hzl hzo hbo hlo HK1
  go_enter Tryz.func17, Tryz.ntmps17
  go_wp2_with fail
  refine k1.mono ?_
  rintro e w2 ⟨rfl, hb2⟩
  have C1 := (hb2.block w.heap.size (by omega)).trans B1
  have C2 := (hb2.block (w.heap.size + 1) (by omega)).trans B2
  have hb02 := hb1.trans (hb2.mono (by omega))
  have k2 := HK2.out w2 hb02
  have hs2 : w.heap.size + 1 < w2.heap.size := (Array.getElem?_eq_some_iff.1 C2).1
  clear k1 hb2 B1 B2 hb1 z1 HK2 o0 o1 o2 o3 o4 o5 o6 o7 o8 o9 o10 o11 o12 o13 p0 p1 p2 p3 p4 p5 p6 p7 p8 p9 p10 p11 p12 p13
  obtain ⟨-, o0, o1, o2, o3, o4, o5, o6, o7, o8, o9, o10, o11, o12, o13⟩ := r14_cells C1
  obtain ⟨-, p0, p1, p2, p3, p4, p5, p6, p7, p8, p9, p10, p11, p12, p13⟩ := r14_cells C2
  go_wp2_with fail
  refine k2.mono ?_
  rintro e w3 ⟨rfl, hb3⟩
  have D1 := (hb3.block w.heap.size (by omega)).trans C1
  have D2 := (hb3.block (w.heap.size + 1) (by omega)).trans C2
  have hb03 := hb02.trans (hb3.mono hb02.size)
  have k3 := HK3.out w3 hb03
  clear k2 hb3 C1 C2 hb02 HK3 o0 o1 o2 o3 o4 o5 o6 o7 o8 o9 o10 o11 o12 o13 p0 p1 p2 p3 p4 p5 p6 p7 p8 p9 p10 p11 p12 p13
  obtain ⟨-, o0, o1, o2, o3, o4, o5, o6, o7, o8, o9, o10, o11, o12, o13⟩ := r14_cells D1
  obtain ⟨-, p0, p1, p2, p3, p4, p5, p6, p7, p8, p9, p10, p11, p12, p13⟩ := r14_cells D2
  go_wp2_with fail
  refine k3.mono ?_
  rintro e w4 ⟨rfl, hb4⟩
  have hb04 := hb03.trans (hb4.mono hb03.size)
  clear k3 hb4 D1 D2 hb03 o0 o1 o2 o3 o4 o5 o6 o7 o8 o9 o10 o11 o12 o13 p0 p1 p2 p3 p4 p5 p6 p7 p8 p9 p10 p11 p12 p13
  go_wp2
  go_ret
  exact ⟨rfl, hb04⟩
end Go.Proofs.YtncoandnelgkeaaGreat

/- The document's SameMsg, SameMsgs, where both are one. -/
namespace Go.Proofs.YtncoandnelgkeaaGreat
open Go.RowKit QuorumMath RlogMath RaftMath
set_option maxRecDepth 100000
set_option linter.unusedSimpArgs false
set_option linter.unusedVariables false

/-- A message's numbers. -/
def OkG (m : Mm) : Prop := OkM m.snap ∧ (∀ e ∈ m.ents, OkM e) ∧ m.ents.length ≤ 1000000
theorem rdm_at {w : World} {ao : Option Addr} {n cap : Nat} {xs : List Gz} (h : Rd msgE w (.slice ao n cap) xs) {i : Nat} {x : Gz} (hx : xs[i]? = some x) : ∃ b off, ao = some ⟨b, off, none⟩ ∧ ∀ W, Below w.heap.size w W → W.cell? ⟨b, off + i * 14, none⟩ = some (.int .i64 x.m.kind) ∧ W.cell? ⟨b, off + i * 14 + 1, none⟩ = some (.int .i64 x.m.src) ∧ W.cell? ⟨b, off + i * 14 + 2, none⟩ = some (.int .i64 x.m.dst) ∧ W.cell? ⟨b, off + i * 14 + 3, none⟩ = some (.int .u64 (x.m.term : Int)) ∧ W.cell? ⟨b, off + i * 14 + 4, none⟩ = some (.int .u64 (x.m.index : Int)) ∧ W.cell? ⟨b, off + i * 14 + 5, none⟩ = some (.int .u64 (x.m.prev : Int)) ∧ W.cell? ⟨b, off + i * 14 + 6, none⟩ = some (.slice x.sl.1 x.sl.2.1 x.sl.2.2) ∧ W.cell? ⟨b, off + i * 14 + 7, none⟩ = some (.int .u64 (x.m.commit : Int)) ∧ W.cell? ⟨b, off + i * 14 + 8, none⟩ = some (.bool x.m.ok) ∧ W.cell? ⟨b, off + i * 14 + 9, none⟩ = some (.int .u64 (x.m.mat : Int)) ∧ W.cell? ⟨b, off + i * 14 + 10, none⟩ = some (.int .u64 (x.m.snap.idx : Int)) ∧ W.cell? ⟨b, off + i * 14 + 11, none⟩ = some (.int .u64 (x.m.snap.term : Int)) ∧ W.cell? ⟨b, off + i * 14 + 12, none⟩ = some (.int .i64 x.m.snap.kind) ∧ W.cell? ⟨b, off + i * 14 + 13, none⟩ = some (.slice x.ss.1 x.ss.2.1 x.ss.2.2) := by
  obtain ⟨ao', cap', e, _, _, h2⟩ := h
  cases e
  obtain ⟨b, off, r1, r2⟩ := h2 i x 0 _ hx rfl
  have key : ∀ (j : Nat) (u : Value), (msgE.enc x)[j]? = some u → ∀ W, Below w.heap.size w W → W.cell? ⟨b, off + i * 14 + j, none⟩ = some u := fun j u hu W hW => by
    obtain ⟨b', off', r3, r4⟩ := h2 i x j u hx hu
    cases r1.symm.trans r3
    have r4' : w.cell? ⟨b, off + i * 14 + j, none⟩ = some u := by rw [Nat.add_assoc]; exact r4
    exact (hW.cell (p := ⟨b, off + i * 14 + j, none⟩) (World.block_lt_of_cell? w _ r4')).trans r4'
  exact ⟨b, off, r1, fun W hW => ⟨key 0 _ rfl W hW, key 1 _ rfl W hW, key 2 _ rfl W hW, key 3 _ rfl W hW, key 4 _ rfl W hW, key 5 _ rfl W hW, key 6 _ rfl W hW, key 7 _ rfl W hW, key 8 _ rfl W hW, key 9 _ rfl W hW, key 10 _ rfl W hW, key 11 _ rfl W hW, key 12 _ rfl W hW, key 13 _ rfl W hW⟩⟩
set_option maxHeartbeats 8000000 in
theorem sameG_of (n k : Nat) (g h : Gz) (w : World) (hG : MgV n w g) (hH : MgV k w h) (he : g.m = h.m) (ho : OkG g.m) : Calls Tryz.prog 57 #[gv g, gv h] w fun e w' => e = .returned (.bool true) ∧ Below w.heap.size w w' := by
  obtain ⟨⟨mk, ms, md, mt, mi, mp, ents, mc, mo, mm, ⟨si, st, sk, sd⟩⟩, es, ⟨ea, en, ec⟩, ⟨sa, sn, sc⟩⟩ := g
  obtain ⟨hm, fs, ⟨fa, fn, fc⟩, ⟨ta, tn, tc⟩⟩ := h
  dsimp only at he
  subst he
  dsimp only [gv] at *
  have hme : mes es = ents := hG.2.1
  have hmf : mes fs = ents := hH.2.1
  obtain ⟨hso, heo, hel⟩ := ho
  dsimp only at hso heo hel
  have hzl : es.length ≤ 1000000 := by have := congrArg List.length hme; rw [List.length_map] at this; omega
  have hzo := okz_of hme heo
  obtain ⟨z1, B1, B2, hb1⟩ := two_box w (.cells #[.int .i64 mk, .int .i64 ms, .int .i64 md, .int .u64 (mt : Int), .int .u64 (mi : Int), .int .u64 (mp : Int), .slice ea en ec, .int .u64 (mc : Int), .bool mo, .int .u64 (mm : Int), .int .u64 (si : Int), .int .u64 (st : Int), .int .i64 sk, .slice sa sn sc] 34) (.cells #[.int .i64 mk, .int .i64 ms, .int .i64 md, .int .u64 (mt : Int), .int .u64 (mi : Int), .int .u64 (mp : Int), .slice fa fn fc, .int .u64 (mc : Int), .bool mo, .int .u64 (mm : Int), .int .u64 (si : Int), .int .u64 (st : Int), .int .i64 sk, .slice ta tn tc] 34)
  have HK1 : Hid (∀ W, Below w.heap.size w W → _) := fun W hW => sameE_of ⟨si, st, sk, sd⟩ (sa, sn, sc) (ta, tn, tc) W (hG.2.2.below hW).v (hH.2.2.below hW).v hso.2.2.1
  have HK2 : Hid (∀ W, Below w.heap.size w W → _) := fun W hW => sameEs_of es fs (.slice ea en ec) (.slice fa fn fc) W (hG.1.below hW).v (hH.1.below hW).v (hme.trans hmf.symm) (fun z hz => (hzo z hz).1) (by omega)
  have k1 := HK1.out _ hb1
  dsimp only [ev] at k1
  obtain ⟨-, o0, o1, o2, o3, o4, o5, o6, o7, o8, o9, o10, o11, o12, o13⟩ := r14_cells B1
  obtain ⟨-, p0, p1, p2, p3, p4, p5, p6, p7, p8, p9, p10, p11, p12, p13⟩ := r14_cells B2
  clear hG hH hme hmf hzl hzo hso heo HK1
  go_enter Tryz.func57, Tryz.ntmps57
  go_wp2_with fail
  refine k1.mono ?_
  rintro e w2 ⟨rfl, hb2⟩
  have C1 := (hb2.block w.heap.size (by omega)).trans B1
  have C2 := (hb2.block (w.heap.size + 1) (by omega)).trans B2
  have hb02 := hb1.trans (hb2.mono (by omega))
  have k2 := HK2.out w2 hb02
  have hs2 : w.heap.size + 1 < w2.heap.size := (Array.getElem?_eq_some_iff.1 C2).1
  clear k1 hb2 B1 B2 hb1 z1 HK2 o0 o1 o2 o3 o4 o5 o6 o7 o8 o9 o10 o11 o12 o13 p0 p1 p2 p3 p4 p5 p6 p7 p8 p9 p10 p11 p12 p13
  obtain ⟨-, o0, o1, o2, o3, o4, o5, o6, o7, o8, o9, o10, o11, o12, o13⟩ := r14_cells C1
  obtain ⟨-, p0, p1, p2, p3, p4, p5, p6, p7, p8, p9, p10, p11, p12, p13⟩ := r14_cells C2
  go_wp2_with fail
  refine k2.mono ?_
  rintro e w3 ⟨rfl, hb3⟩
  have hb03 := hb02.trans (hb3.mono hb02.size)
  clear k2 hb3 C1 C2 hb02 o0 o1 o2 o3 o4 o5 o6 o7 o8 o9 o10 o11 o12 o13 p0 p1 p2 p3 p4 p5 p6 p7 p8 p9 p10 p11 p12 p13
  go_wp2
  go_ret
  exact ⟨rfl, hb03⟩
set_option maxHeartbeats 8000000 in
theorem sameGs_of (n k : Nat) (gs hs : List Gz) (gl hl : Value) (w : World) (hG : MgsV n w gl gs) (hH : MgsV k w hl hs) (he : (gs.map fun g => g.m) = (hs.map fun g => g.m)) (ho : ∀ g ∈ gs, OkG g.m) (hlen : gs.length ≤ 1000000000000) : Calls Tryz.prog 24 #[gl, hl] w fun e w' => e = .returned (.bool true) ∧ Below w.heap.size w w' := by
  have hll : hs.length = gs.length := by have := congrArg List.length he; simpa using this.symm
  obtain ⟨za, zc, rfl, -, -⟩ := hG.1.rd.shape
  obtain ⟨ya, yc, rfl, -, -⟩ := hH.1.rd.shape
  have HE : Hid ((gs.map fun g => g.m) = (hs.map fun g => g.m)) := he
  have HL : Hid (hs.length = gs.length) := hll
  have HZ : Hid (MgsV n w (.slice za gs.length zc) gs) := hG
  have HY : Hid (MgsV k w (.slice ya gs.length yc) hs) := by show MgsV _ _ _ _; rw [← hll]; exact hH
  have HOK : Hid _ := ho
  rw [hll]
  clear he hll hG hH ho
  generalize hn : gs.length = q at *
  have HN : Hid (gs.length = q) := hn
  clear hn
  go_enter Tryz.func24, Tryz.ntmps24
  go_wp2
  go_loopg [5] q (fun gh s5 wr => ∃ k : Nat, k + gh = q ∧ s5 = .int .i64 (k : Int) ∧ Below w.heap.size w wr)
  case atStart => exact ⟨0, by simp, rfl, Below.refl _ _⟩
  case round =>
    obtain ⟨i, hkg, rfl, hb⟩ := hrel
    by_cases hlt : i < q
    · have hlti : (i : Int) < (q : Int) := by omega
      have hz : gs[i]? = some (gs[i]'(by have := HN.out; omega)) := List.getElem?_eq_getElem _
      have hy : hs[i]? = some (hs[i]'(by have := HN.out; have := HL.out; omega)) := List.getElem?_eq_getElem _
      obtain ⟨z, hzz⟩ : ∃ z, z = gs[i]'(by have := HN.out; omega) := ⟨_, rfl⟩
      obtain ⟨y, hyy⟩ : ∃ y, y = hs[i]'(by have := HN.out; have := HL.out; omega) := ⟨_, rfl⟩
      rw [← hzz] at hz
      rw [← hyy] at hy
      have hm : z.m = y.m := by
        have h1 : (gs.map fun g => g.m)[i]? = some z.m := by rw [List.getElem?_map, hz]; rfl
        have h2 : (hs.map fun g => g.m)[i]? = some y.m := by rw [List.getElem?_map, hy]; rfl
        rw [HE.out, h2] at h1
        exact (Option.some.inj h1).symm
      clear hzz hyy
      obtain ⟨pb, po, rfl, cz⟩ := rdm_at HZ.out.1.rd hz
      obtain ⟨qb, qo, rfl, cy⟩ := rdm_at HY.out.1.rd hy
      have ksw : Hid (∀ W, Below wr.heap.size wr W → _) := fun W (hW : Below wr.heap.size wr W) => sameG_of n k z y W ((HZ.out.2 z (List.mem_of_getElem? hz)).below (hb.trans (hW.mono hb.size))) ((HY.out.2 y (List.mem_of_getElem? hy)).below (hb.trans (hW.mono hb.size))) hm (HOK.out z (List.mem_of_getElem? hz))
      have czw : Hid (∀ W, Below wr.heap.size wr W → _) := fun W (hW : Below wr.heap.size wr W) => cz W (hb.trans (hW.mono hb.size))
      have cyw : Hid (∀ W, Below wr.heap.size wr W → _) := fun W (hW : Below wr.heap.size wr W) => cy W (hb.trans (hW.mono hb.size))
      obtain ⟨⟨z1, z2, z3, z4, z5, z6, z7, z8, z9, z10, ⟨z11, z12, z13, z14⟩⟩, zes, ⟨a1, a2, a3⟩, ⟨b1, b2, b3⟩⟩ := z
      obtain ⟨⟨y1, y2, y3, y4, y5, y6, y7, y8, y9, y10, ⟨y11, y12, y13, y14⟩⟩, yes, ⟨c1, c2, c3⟩, ⟨d1, d2, d3⟩⟩ := y
      dsimp only [gv] at czw cyw ksw
      clear cz cy hz hy HZ HY HE HL HN HOK hm
      go_wp2
      refine wp_region_L (fun W => Below wr.heap.size wr W) [] (by kernel_rfl) ?_
      have yS : Below wr.heap.size wr wr.drew := (Below.refl _ wr).drew
      refine wpAnyL_take 0 rfl (by kernel_rfl) (by kernel_rfl) (by kernel_rfl) (by kernel_rfl) (fun _ _ _ h => h) (wanted_none rfl) (by intro w' hS'; obtain ⟨x0, x1, x2, x3, x4, x5, x6, x7, x8, x9, x10, x11, x12, x13⟩ := czw.out _ hS'; obtain ⟨y0, y1, y2, y3, y4, y5, y6, y7, y8, y9, y10, y11, y12, y13⟩ := cyw.out _ hS'; go_simp <;> rfl) yS ?_
      try simp only [List.getElem_toArray, List.getElem_cons_succ, List.getElem_cons_zero, Act.put, List.setIfInBounds_toArray, List.set_cons_zero, List.set_cons_succ]
      refine wpAnyL_take 1 rfl (by kernel_rfl) (by kernel_rfl) (by kernel_rfl) (by kernel_rfl) (fun _ _ _ h => h) (wanted_none rfl) (by intro w' hS'; obtain ⟨x0, x1, x2, x3, x4, x5, x6, x7, x8, x9, x10, x11, x12, x13⟩ := czw.out _ hS'; obtain ⟨y0, y1, y2, y3, y4, y5, y6, y7, y8, y9, y10, y11, y12, y13⟩ := cyw.out _ hS'; go_simp <;> rfl) yS ?_
      try simp only [List.getElem_toArray, List.getElem_cons_succ, List.getElem_cons_zero, Act.put, List.setIfInBounds_toArray, List.set_cons_zero, List.set_cons_succ]
      refine wpAnyL_take 2 rfl (by kernel_rfl) (by kernel_rfl) (by kernel_rfl) (by kernel_rfl) (fun _ _ _ h => h) (wanted_none rfl) (by intro w' hS'; obtain ⟨x0, x1, x2, x3, x4, x5, x6, x7, x8, x9, x10, x11, x12, x13⟩ := czw.out _ hS'; obtain ⟨y0, y1, y2, y3, y4, y5, y6, y7, y8, y9, y10, y11, y12, y13⟩ := cyw.out _ hS'; go_simp <;> rfl) yS ?_
      try simp only [List.getElem_toArray, List.getElem_cons_succ, List.getElem_cons_zero, Act.put, List.setIfInBounds_toArray, List.set_cons_zero, List.set_cons_succ]
      refine wpAnyL_take 3 rfl (by kernel_rfl) (by kernel_rfl) (by kernel_rfl) (by kernel_rfl) (fun _ _ _ h => h) (wanted_none rfl) (by intro w' hS'; obtain ⟨x0, x1, x2, x3, x4, x5, x6, x7, x8, x9, x10, x11, x12, x13⟩ := czw.out _ hS'; obtain ⟨y0, y1, y2, y3, y4, y5, y6, y7, y8, y9, y10, y11, y12, y13⟩ := cyw.out _ hS'; go_simp <;> rfl) yS ?_
      try simp only [List.getElem_toArray, List.getElem_cons_succ, List.getElem_cons_zero, Act.put, List.setIfInBounds_toArray, List.set_cons_zero, List.set_cons_succ]
      refine wpAnyL_take 4 rfl (by kernel_rfl) (by kernel_rfl) (by kernel_rfl) (by kernel_rfl) (fun _ _ _ h => h) (wanted_none rfl) (by intro w' hS'; obtain ⟨x0, x1, x2, x3, x4, x5, x6, x7, x8, x9, x10, x11, x12, x13⟩ := czw.out _ hS'; obtain ⟨y0, y1, y2, y3, y4, y5, y6, y7, y8, y9, y10, y11, y12, y13⟩ := cyw.out _ hS'; go_simp <;> rfl) yS ?_
      try simp only [List.getElem_toArray, List.getElem_cons_succ, List.getElem_cons_zero, Act.put, List.setIfInBounds_toArray, List.set_cons_zero, List.set_cons_succ]
      refine wpAnyL_take 5 rfl (by kernel_rfl) (by kernel_rfl) (by kernel_rfl) (by kernel_rfl) (fun _ _ _ h => h) (wanted_none rfl) (by intro w' hS'; obtain ⟨x0, x1, x2, x3, x4, x5, x6, x7, x8, x9, x10, x11, x12, x13⟩ := czw.out _ hS'; obtain ⟨y0, y1, y2, y3, y4, y5, y6, y7, y8, y9, y10, y11, y12, y13⟩ := cyw.out _ hS'; go_simp <;> rfl) yS ?_
      try simp only [List.getElem_toArray, List.getElem_cons_succ, List.getElem_cons_zero, Act.put, List.setIfInBounds_toArray, List.set_cons_zero, List.set_cons_succ]
      refine wpAnyL_take 6 rfl (by kernel_rfl) (by kernel_rfl) (by kernel_rfl) (by kernel_rfl) (fun _ _ _ h => h) (wanted_none rfl) (by intro w' hS'; obtain ⟨x0, x1, x2, x3, x4, x5, x6, x7, x8, x9, x10, x11, x12, x13⟩ := czw.out _ hS'; obtain ⟨y0, y1, y2, y3, y4, y5, y6, y7, y8, y9, y10, y11, y12, y13⟩ := cyw.out _ hS'; go_simp <;> rfl) yS ?_
      try simp only [List.getElem_toArray, List.getElem_cons_succ, List.getElem_cons_zero, Act.put, List.setIfInBounds_toArray, List.set_cons_zero, List.set_cons_succ]
      refine wpAnyL_take 7 rfl (by kernel_rfl) (by kernel_rfl) (by kernel_rfl) (by kernel_rfl) (fun _ _ _ h => h) (wanted_none rfl) (by intro w' hS'; obtain ⟨x0, x1, x2, x3, x4, x5, x6, x7, x8, x9, x10, x11, x12, x13⟩ := czw.out _ hS'; obtain ⟨y0, y1, y2, y3, y4, y5, y6, y7, y8, y9, y10, y11, y12, y13⟩ := cyw.out _ hS'; go_simp <;> rfl) yS ?_
      try simp only [List.getElem_toArray, List.getElem_cons_succ, List.getElem_cons_zero, Act.put, List.setIfInBounds_toArray, List.set_cons_zero, List.set_cons_succ]
      refine wpAnyL_one 8 (by kernel_rfl) rfl (wanted_none rfl) ?_
      intro K' hK'
      go_simp
      go_at_call 57
      refine (ksw.out _ yS).mono ?_
      rintro e W1 ⟨rfl, hS0⟩
      have hS1 : Below wr.heap.size wr W1 := keep_on yS hS0
      refine hK'.out _ _ (.inr hS1) ?_
      clear hK' K'
      try simp only [List.getElem_toArray, List.getElem_cons_succ, List.getElem_cons_zero, Act.put, List.setIfInBounds_toArray, List.set_cons_zero, List.set_cons_succ]
      refine wpAnyL_take 9 rfl (by kernel_rfl) (by kernel_rfl) (by kernel_rfl) (by kernel_rfl) (fun _ _ _ h => h) (wanted_none rfl) (by intro w' hS'; obtain ⟨x0, x1, x2, x3, x4, x5, x6, x7, x8, x9, x10, x11, x12, x13⟩ := czw.out _ hS'; obtain ⟨y0, y1, y2, y3, y4, y5, y6, y7, y8, y9, y10, y11, y12, y13⟩ := cyw.out _ hS'; go_simp <;> rfl) hS1 ?_
      try simp only [List.getElem_toArray, List.getElem_cons_succ, List.getElem_cons_zero, Act.put, List.setIfInBounds_toArray, List.set_cons_zero, List.set_cons_succ]
      refine wpAnyL_done (by kernel_rfl) (NoPanic.normal ?_) _
      clear ksw czw cyw
      go_wp2
      go_roundg (gk - 1)
      case measure => omega
      case rel => exact ⟨i + 1, by omega, by go_num, hb.trans (hS1.mono hb.size)⟩
    · have hlti : ¬ (i : Int) < (q : Int) := by omega
      clear HZ HY HE HL HN HOK
      go_wp2
      go_ret
      exact ⟨rfl, hb⟩
end Go.Proofs.YtncoandnelgkeaaGreat

/- The law's light. -/
namespace Go.Proofs.YtncoandnelgkeaaGreat
open Go.RowKit QuorumMath RlogMath RaftMath
set_option maxRecDepth 100000
set_option linter.unusedSimpArgs false
set_option linter.unusedVariables false

/-- A state that is not too great. -/
def LightR (r : Mr) (e : Ending) : Prop := ∃ B : Bool, e = .returned (.bool B) ∧ (B = true → r.log.length ≤ 200 ∧ r.votes.length ≤ 100 ∧ r.peers.length ≤ 100)
set_option maxHeartbeats 8000000 in
theorem light_of (n : Nat) (r : Mr) (v : Value) (w : World) (hS : RsV n w v r) (hlo : ∀ e ∈ r.log, OkM e) (hlg : r.log.length ≤ 1000000000000) : Calls Tryz.prog 7 #[v] w fun e w' => LightR r e ∧ Below w.heap.size w w' := by
  obtain ⟨z, rfl, hz, hR⟩ := hS
  obtain ⟨r', zs, ⟨ba, bn, bc⟩, ⟨la, ln, lc⟩, ⟨va, vn, vc⟩, ⟨pa, pn, pc⟩⟩ := z
  obtain rfl : r' = r := hz
  obtain ⟨nd, tm, vo, ⟨bi, bt, bk, bd⟩, lg, cm, ro, le, el, vt, pe⟩ := r'
  dsimp only [rv] at *
  obtain ⟨T, HT⟩ : ∃ T, Hid (T = LightR ⟨nd, tm, vo, ⟨bi, bt, bk, bd⟩, lg, cm, ro, le, el, vt, pe⟩) := ⟨_, rfl⟩
  rw [← HT.out]
  have hml : mes zs = lg := hR.2.2.1
  have hzl : zs.length = lg.length := by have := congrArg List.length hml; rwa [List.length_map] at this
  have HZO : Hid _ := okz_of hml hlo
  obtain ⟨z1, B1, hb1⟩ := one_box w (.cells #[.int .i64 nd, .int .u64 (tm : Int), .int .i64 vo, .int .u64 (bi : Int), .int .u64 (bt : Int), .int .i64 bk, .slice ba bn bc, .slice la ln lc, .int .u64 (cm : Int), .int .i64 ro, .int .i64 le, .int .i64 el, .slice va vn vc, .slice pa pn pc] 32)
  have HE : Hid (Rd entE w (.slice la ln lc) zs) := hR.2.1.1.rd
  have HD : Hid (∀ z ∈ zs, DataV w z) := fun z hz => (hR.2.1.2 z hz).v
  obtain ⟨la', lc', hls, -, -⟩ := hR.2.1.1.rd.shape
  simp only [slv, Value.slice.injEq] at hls
  obtain ⟨rfl, rfl, rfl⟩ := hls
  obtain ⟨pa', pc', hps, -, -⟩ := hR.2.2.2.2.rd.shape
  simp only [slv, Value.slice.injEq] at hps
  obtain ⟨rfl, rfl, rfl⟩ := hps
  obtain ⟨va', vc', hvs, -, -⟩ := hR.2.2.2.1.rd.shape
  simp only [slv, Value.slice.injEq] at hvs
  obtain ⟨rfl, rfl, rfl⟩ := hvs
  have HTT : Hid (∀ B : Bool, (B = true → zs.length ≤ 200 ∧ vt.length ≤ 100 ∧ pe.length ≤ 100) → T (.returned (.bool B))) := fun B h => by
    rw [HT.out]
    exact ⟨B, rfl, fun hB => ⟨by have := (h hB).1; dsimp only; omega, (h hB).2.1, (h hB).2.2⟩⟩
  clear hR hml hlo HT
  obtain ⟨ZL, HZL⟩ : ∃ ZL, Hid (ZL = zs.length) := ⟨_, rfl⟩
  rw [← HZL.out] at HE HTT B1 hb1 z1 ⊢
  have hZb : ZL ≤ 1000000000000 := by have := HZL.out; omega
  clear hzl
  go_enter Tryz.func7, Tryz.ntmps7
  go_wp2
  go_loopg [3, 4] 300 (fun gh s3 s4 wr => ∃ (i s : Nat), i + gh = 300 ∧ s4 = .int .i64 (i : Int) ∧ s3 = .int .i64 (s : Int) ∧ s ≤ i * 1000000000 ∧ wr = w.alloc (.cells #[.int .i64 nd, .int .u64 (tm : Int), .int .i64 vo, .int .u64 (bi : Int), .int .u64 (bt : Int), .int .i64 bk, .slice ba bn bc, .slice la ZL lc, .int .u64 (cm : Int), .int .i64 ro, .int .i64 le, .int .i64 el, .slice va vt.length vc, .slice pa pe.length pc] 32))
  case atStart => exact ⟨0, 0, by omega, rfl, rfl, by omega, rfl⟩
  case round =>
    obtain ⟨i, s, hig, rfl, rfl, hs, hwr⟩ := hrel
    rw [← hwr] at B1 hb1
    have HWR : Hid _ := hwr
    clear hwr
    obtain ⟨-, o0, o1, o2, o3, o4, o5, o6, o7, o8, o9, o10, o11, o12, o13⟩ := r14_cells B1
    by_cases hlt : i < ZL ∧ i < 300
    · have h1 : (i : Int) < (ZL : Int) := by omega
      have h2 : (i : Int) < 300 := by omega
      have hz : zs[i]? = some (zs[i]'(by have := HZL.out; omega)) := List.getElem?_eq_getElem _
      obtain ⟨z, hzz⟩ : ∃ z, z = zs[i]'(by have := HZL.out; omega) := ⟨_, rfl⟩
      rw [← hzz] at hz
      clear hzz
      obtain ⟨b, off, rfl, c⟩ := rde_at HE.out hz
      obtain ⟨c0, c1, c2, c3⟩ := c wr hb1
      have hdl := (HD.out z (List.mem_of_getElem? hz)).len
      have hdb := (HZO.out z (List.mem_of_getElem? hz)).2
      rw [hdl] at c3
      obtain ⟨zm, zsl⟩ := z
      dsimp only at *
      generalize zm.data.length = dl at *
      have hs2 : s + dl ≤ (i + 1) * 1000000000 := by rw [Nat.add_mul]; omega
      have hwi : IntKind.i64.wrap ((s : Int) + (dl : Int)) = (s : Int) + (dl : Int) := IntWalk.i64_in _ (by omega)
      clear hz c hdl
      go_wp2
      go_roundg (gk - 1)
      case measure => omega
      case rel => exact ⟨i + 1, s + dl, by omega, by go_num, by simp [Int.natCast_add], hs2, HWR.out⟩
    · have hfin : ∀ B : Bool, (B = true → ZL ≤ 200 ∧ vt.length ≤ 100 ∧ pe.length ≤ 100) → T (.returned (.bool B)) ∧ Below w.heap.size w wr := fun B h => ⟨HTT.out B h, hb1⟩
      have HFI : Hid _ := hfin
      clear hfin HTT HE HD HZO
      by_cases hx : i < ZL
      · have h1 : (i : Int) < (ZL : Int) := by omega
        have h2 : ¬ (i : Int) < 300 := by omega
        have qa : ¬ (ZL : Int) ≤ 200 := by omega
        have E0 := HFI.out false (fun h => by cases h)
        have HE0 : Hid _ := E0
        clear HFI E0
        go_wp2
        go_ret
        exact HE0.out
      · have h1 : ¬ (i : Int) < (ZL : Int) := by omega
        by_cases Qa : ZL ≤ 200
        · have qa : (ZL : Int) ≤ 200 := by omega
          by_cases Qb : s ≤ 20000
          · have qb : (s : Int) ≤ 20000 := by omega
            by_cases Qc : vt.length ≤ 100
            · have qc : (vt.length : Int) ≤ 100 := by omega
              by_cases Qd : pe.length ≤ 100
              · have qd : (pe.length : Int) ≤ 100 := by omega
                have E0 := HFI.out true (fun _ => ⟨Qa, Qc, Qd⟩)
                have HE0 : Hid _ := E0
                clear HFI E0 Qa Qb Qc Qd
                go_wp2
                go_ret
                exact HE0.out
              · have qd : ¬ (pe.length : Int) ≤ 100 := by omega
                have E0 := HFI.out false (fun h => by cases h)
                have HE0 : Hid _ := E0
                clear HFI E0 Qd
                go_wp2
                go_ret
                exact HE0.out
            · have qc : ¬ (vt.length : Int) ≤ 100 := by omega
              have E0 := HFI.out false (fun h => by cases h)
              have HE0 : Hid _ := E0
              clear HFI E0 Qc
              go_wp2
              go_ret
              exact HE0.out
          · have qb : ¬ (s : Int) ≤ 20000 := by omega
            have E0 := HFI.out false (fun h => by cases h)
            have HE0 : Hid _ := E0
            clear HFI E0 Qb
            go_wp2
            go_ret
            exact HE0.out
        · have qa : ¬ (ZL : Int) ≤ 200 := by omega
          have E0 := HFI.out false (fun h => by cases h)
          have HE0 : Hid _ := E0
          clear HFI E0 Qa
          go_wp2
          go_ret
          exact HE0.out
end Go.Proofs.YtncoandnelgkeaaGreat

/- What turns stays in bounds: plain mathematics. -/
namespace Go.Proofs.YtncoandnelgkeaaGreat
open QuorumMath RlogMath RaftMath
set_option linter.unusedSimpArgs false
set_option linter.unusedVariables false

/-- A state that turns and what it says, in bounds: L messages, M entries. -/
structure OkB (L M : Nat) (s : Ms) : Prop where
  base : OkM s.r.base
  log : ∀ e ∈ s.r.log, OkM e
  ln : s.r.log.length ≤ M
  out : ∀ m ∈ s.out, OkG m
  on : s.out.length ≤ L
  pn : s.r.peers.length ≤ 1000000000
  vn : s.r.votes.length ≤ 1000000000
theorem votF_lenM : ∀ (l : List Me) (d : List Nat), d.length ≤ 1000000000 → (∀ e ∈ l, OkM e) → (votF d l).length ≤ 1000000000
  | [], d, h, _ => h
  | e :: l, d, h, hl => by
    unfold votF
    refine votF_lenM l _ ?_ (fun x hx => hl x (by simp [hx]))
    split
    · exact (hl e (by simp)).2.2.2
    · exact h
theorem votR_len {r : Mr} (hb : OkM r.base) (hl : ∀ e ∈ r.log, OkM e) : (votR r).length ≤ 1000000000 := by
  unfold votR votM
  rw [nodesI_len]
  exact votF_lenM _ _ hb.2.2.2 hl
theorem OkB.mono {L M L' M' : Nat} {s : Ms} (h : OkB L M s) (hL : L ≤ L') (hM : M ≤ M') : OkB L' M' s := ⟨h.base, h.log, Nat.le_trans h.ln hM, h.out, Nat.le_trans h.on hL, h.pn, h.vn⟩
theorem ok_say {L M : Nat} {s : Ms} {m : Mm} (h : OkB L M s) (hm : OkG m) : OkB (L + 1) M (sayR s m) := by
  refine ⟨h.base, h.log, h.ln, fun x hx => ?_, ?_, h.pn, h.vn⟩
  · unfold sayR at hx
    rcases List.mem_append.1 hx with hx | hx
    · exact h.out x hx
    · rw [List.mem_singleton] at hx
      subst hx
      exact hm
  · rw [say_len]
    have := h.on
    omega
theorem okG_plain {m : Mm} (h1 : m.snap = zeroMe) (h2 : m.ents = []) : OkG m := ⟨by rw [h1]; exact zero_okM, by rw [h2]; simp, by rw [h2]; simp⟩
theorem ok_tell {L M : Nat} {s : Ms} (p : Mp) (h : OkB L M s) : OkB (L + 1) M (tellR s p) := by
  unfold tellR
  split
  · exact ok_say h ⟨h.base, by simp [msg0], by simp [msg0]⟩
  · refine ok_say h ⟨zero_okM, fun e he => ?_, ?_⟩
    · dsimp only at he
      unfold sliceM at he
      split at he
      · unfold pickM at he
        have := List.mem_of_mem_take he
        exact h.log e (List.mem_filter.1 this).1
      · simp at he
    · dsimp only
      unfold sliceM
      split
      · unfold pickM
        rw [List.length_take]
        omega
      · simp
theorem ok_tell1 {L M : Nat} {s : Ms} (p : Mp) (h : OkB L M s) : OkB (L + 1) M (tell1 s p) := by
  unfold tell1
  split
  · exact h.mono (Nat.le_succ _) (Nat.le_refl _)
  · exact ok_tell p h
theorem ok_tells {M : Nat} : ∀ (ps : List Mp) {L : Nat} {s : Ms}, OkB L M s → OkB (L + ps.length) M (ps.foldl tell1 s)
  | [], L, s, h => h
  | p :: ps, L, s, h => by
    have := ok_tells ps (ok_tell1 p h)
    rw [List.length_cons]
    exact this.mono (by omega) (Nat.le_refl _)
theorem ok_tellAll {L M : Nat} {s : Ms} (h : OkB L M s) : OkB (L + 1000000000) M (tellAllR s) := by
  rw [tellAll_eq]
  exact (ok_tells s.r.peers h).mono (by have := h.pn; omega) (Nat.le_refl _)
theorem com_votes (s : Ms) : (comR s).r.votes = s.r.votes := by unfold comR; dsimp only; split <;> rfl
theorem ok_com {L M : Nat} {s : Ms} (h : OkB L M s) : OkB L M (comR s) := by
  obtain ⟨h1, h2, h3, h4⟩ := com_log s
  exact ⟨by rw [h2]; exact h.base, by rw [h1]; exact h.log, by rw [h1]; exact h.ln, by rw [com_out]; exact h.out, by rw [com_out]; exact h.on, by rw [h3]; exact h.pn, by rw [com_votes]; exact h.vn⟩
theorem ok_settle {L M : Nat} {s : Ms} (h : OkB L M s) : OkB (L + 1000000000) M (settleR s) := by
  unfold settleR
  refine ok_tellAll (ok_com ⟨h.base, h.log, h.ln, h.out, h.on, ?_, h.vn⟩)
  dsimp only
  rw [List.length_map]
  exact votR_len h.base h.log
theorem ok_lead {L M : Nat} {s : Ms} (h : OkB L M s) (ht : s.r.term < 18446744073709551616) : OkB (L + 1000000000) (M + 1) (leadR s) := by
  have ha := app_okM (k := 0) (d := []) h.base h.log ht (by simp) (by simp)
  unfold leadR
  dsimp only
  split
  · refine ok_settle ⟨ha.1, ha.2.1, ?_, h.out, h.on, by simp, by simp⟩
    have := ha.2.2
    have := h.ln
    dsimp only
    omega
  · exact h.mono (Nat.le_add_right _ _) (Nat.le_succ _)
theorem ok_ask1 {L M : Nat} {s : Ms} (x t : Nat) (n : Int) (h : OkB L M s) : OkB (L + 1) M (ask1 x t s n) := by
  unfold ask1
  split
  · exact h.mono (Nat.le_succ _) (Nat.le_refl _)
  · exact ok_say h (okG_plain rfl rfl)
theorem ok_asks {M : Nat} (x t : Nat) : ∀ (ns : List Int) {L : Nat} {s : Ms}, OkB L M s → OkB (L + ns.length) M (ns.foldl (ask1 x t) s)
  | [], L, s, h => h
  | n :: ns, L, s, h => by
    have := ok_asks x t ns (ok_ask1 x t n h)
    rw [List.length_cons]
    exact this.mono (by omega) (Nat.le_refl _)
theorem ok_askR {L M : Nat} {s : Ms} (h : OkB L M s) (ht : s.r.term + 1 < 18446744073709551616) : OkB (L + 1000000000) (M + 1) (askR s) := by
  unfold askR
  dsimp only
  have h1 : OkB L M ⟨{ (folR s (s.r.term + 1)).r with vote := (folR s (s.r.term + 1)).r.node, role := 1, elapsed := 0, votes := [(folR s (s.r.term + 1)).r.node] }, (folR s (s.r.term + 1)).out⟩ :=
    ⟨h.base, h.log, h.ln, h.out, h.on, by simp [folR], by simp⟩
  split
  · exact ok_lead h1 ht
  · refine (ok_asks _ _ _ h1).mono ?_ (Nat.le_succ _)
    exact Nat.add_le_add_left (votR_len h.base h.log) _
theorem ok_tick {M : Nat} {r : Mr} (hb : OkM r.base) (hl : ∀ e ∈ r.log, OkM e) (hM : r.log.length ≤ M) (hp : r.peers.length ≤ 1000000000) (hv : r.votes.length ≤ 1000000000) (ht : r.term + 1 < 18446744073709551616) : OkB 1000000000 (M + 1) (tickR r) := by
  unfold tickR
  dsimp only
  generalize (if r.elapsed < 1000 then r.elapsed + 1 else r.elapsed) = E
  have h0 : OkB 0 M ⟨{ r with elapsed := E }, []⟩ := ⟨hb, hl, hM, by simp, by simp, hp, hv⟩
  split
  · split
    · refine (ok_tellAll (L := 0) (M := M) ?_).mono (by omega) (Nat.le_succ _)
      exact ⟨hb, hl, hM, by simp, by simp, hp, hv⟩
    · exact h0.mono (by omega) (Nat.le_succ _)
  · split
    · exact (ok_askR h0 ht).mono (by omega) (Nat.le_refl _)
    · exact h0.mono (by omega) (Nat.le_succ _)
end Go.Proofs.YtncoandnelgkeaaGreat

