import Derived.Test.YtncoandnelgkeaaGreatHb49
import Derived.Test.YtncoandnelgkeaaGreatHb50
/- The law's slim. -/
namespace Go.Proofs.YtncoandnelgkeaaGreat
open Go.RowKit QuorumMath RlogMath RaftMath
set_option maxRecDepth 100000
set_option linter.unusedSimpArgs false
set_option linter.unusedVariables false

/-- A message that is not too great. -/
def SlimT (m : Mm) (e : Ending) : Prop := ∃ B : Bool, e = .returned (.bool B) ∧ (B = true → m.ents.length ≤ 200)
set_option maxHeartbeats 4000000 in
theorem slim_of (n : Nat) (g : Gz) (w : World) (hG : MgV n w g) (heo : ∀ e ∈ g.m.ents, OkM e) (hel : g.m.ents.length ≤ 1000000000) : Calls Tryz.prog 8 #[gv g] w fun e w' => SlimT g.m e ∧ Below w.heap.size w w' := by
  obtain ⟨z1, B1, hb1⟩ := one_box w (gc g)
  have k1 := light_of n ⟨0, 0, 0, zeroMe, g.m.ents, 0, 0, 0, 0, [], []⟩ (rv ⟨⟨0, 0, 0, zeroMe, g.m.ents, 0, 0, 0, 0, [], []⟩, g.es, (none, 0, 0), g.sl, (none, 0, 0), (none, 0, 0)⟩) (w.alloc (gc g)) ⟨_, rfl, rfl, RdN.nil _ _ _ _, (hG.below hb1).1, hG.2.1, RdN.nil _ _ _ _, RdN.nil _ _ _ _⟩ heo (by dsimp only; omega)
  obtain ⟨T, HT⟩ : ∃ T, Hid (T = SlimT g.m) := ⟨_, rfl⟩
  rw [← HT.out]
  have HTT : Hid (∀ B : Bool, (B = true → g.m.ents.length ≤ 200) → T (.returned (.bool B))) := fun B h => by rw [HT.out]; exact ⟨B, rfl, h⟩
  dsimp only [gv, gc, rv] at *
  obtain ⟨-, o0, o1, o2, o3, o4, o5, o6, o7, o8, o9, o10, o11, o12, o13⟩ := r14_cells B1
  have k2 : Calls Tryz.prog 7 #[.agg #[.int .i64 0, .int .u64 0, .int .i64 0, .int .u64 0, .int .u64 0, .int .i64 0, .slice none 0 0, .slice g.sl.1 g.sl.2.1 g.sl.2.2, .int .u64 0, .int .i64 0, .int .i64 0, .int .i64 0, .slice none 0 0, .slice none 0 0]] _ _ := k1
  clear hG heo hel HT k1
  go_enter Tryz.func8, Tryz.ntmps8
  go_wp2_with fail
  refine k2.mono ?_
  rintro e w2 ⟨⟨B, rfl, hB⟩, hb2⟩
  have E0 : Hid _ := HTT.out B (fun h => (hB h).1)
  have hb02 := hb1.trans (hb2.mono hb1.size)
  clear k2 hB HTT
  go_wp2
  go_ret
  exact ⟨E0.out, hb02⟩
theorem new_may {nd : Int} {l : List Int} (h1 : nodeB nd = true) (h2 : votB l = true) : mayR (newR nd l) = true ∧ votM (newR nd l).base (newR nd l).log = l ∧ OkM (newR nd l).base := by
  have hr : ∀ z ∈ l, 0 ≤ z ∧ z < 256 := fun z hz => by have := (votB_iff.1 h2).2.2.1 z hz; omega
  have hb := bytesI_back (fun z hz => (hr z hz).1)
  have hl := (votB_iff.1 h2).2.1
  refine ⟨?_, hb, ⟨by show (0 : Nat) < _; decide, by show (0 : Nat) < _; decide, fun c hc => ?_, ?_⟩⟩
  · have hm : mayB ⟨0, 0, 0, bytesI l⟩ [] = true := by
      unfold mayB
      rw [hb, h2]
      rfl
    unfold mayR newR
    dsimp only
    rw [h1, hm]
    rfl
  · obtain ⟨z, hz, rfl⟩ := List.mem_map.1 hc
    have := hr z hz
    omega
  · show (bytesI l).length ≤ _
    rw [bytesI_len]
    omega
end Go.Proofs.YtncoandnelgkeaaGreat

/- The law RaftChecks. -/
namespace Go.Proofs.YtncoandnelgkeaaGreat
open Go.RowKit QuorumMath RlogMath RaftMath
set_option maxRecDepth 100000
set_option linter.unusedSimpArgs false
set_option linter.unusedVariables false

set_option maxHeartbeats 32000000 in
theorem checks_law (r : Mr) (v : Value) (g : Gz) (l : List Int) (lv : Value) (w : World) (hS : RsV w.heap.size w v r) (hbo : OkM r.base) (hlo : ∀ e ∈ r.log, OkM e) (hlg : r.log.length ≤ 1000000000) (hnx : ∀ p ∈ r.peers, p.next < 18446744073709551616 ∧ p.mat < 18446744073709551616) (hG : MgV w.heap.size w g) (hso : OkM g.m.snap) (heo : ∀ e ∈ g.m.ents, OkM e) (hel : g.m.ents.length ≤ 1048576) (ht : g.m.term < 18446744073709551616) (hi : g.m.index < 18446744073709551616) (hp : g.m.prev < 18446744073709551616) (hc : g.m.commit < 18446744073709551616) (hm : g.m.mat < 18446744073709551616) (hL : Rd intE w lv l) (hll : l.length ≤ 1048576) : Calls Tryz.prog 3 #[v, gv g, lv] w fun e w' => e = .returned (.bool true) ∧ Below w.heap.size w w' := by
  have ka := fun W => awake_of W
  obtain ⟨z, rfl, hz, hR⟩ := hS
  subst hz
  have HR : Hid (∀ W, Below w.heap.size w W → RsV w.heap.size W (rv z) z.r) := fun W hW => ⟨z, rfl, rfl, hR.below hW⟩
  have HG : Hid (∀ W, Below w.heap.size w W → MgV w.heap.size W g) := fun W hW => hG.below hW
  have HL : Hid (∀ W, Below w.heap.size w W → Rd intE W lv l) := fun W hW => hL.below hW
  obtain ⟨la, lc, rfl, -, -⟩ := hL.shape
  clear hR hG hL
  obtain ⟨z1, B3, B4, hb1⟩ := two_box w (rc z) (gc g)
  have k1 := light_of w.heap.size z.r (rv z) ((w.alloc (rc z)).alloc (gc g)) (HR.out _ hb1) hlo (by omega)
  have HK8 : Hid (∀ W, Below w.heap.size w W → _) := fun W hW => slim_of w.heap.size g W (HG.out W hW) heo (by omega)
  dsimp only [rv, rc, gc, gv] at B3 B4 hb1 k1 z1 HK8 ⊢
  go_enter Tryz.func3, Tryz.ntmps3
  go_wp2_with (refine wpList_load_row rfl 32 _ rfl (w.heap.size) rfl _ _ _ _ B3 Tryz.underlying32 rfl (by kernel_rfl) ?_)
  refine k1.mono ?_
  rintro e w2 ⟨⟨B, rfl, hB⟩, hb2⟩
  have C3 := (hb2.block w.heap.size (by omega)).trans B3
  have C4 := (hb2.block (w.heap.size + 1) (by omega)).trans B4
  have hb02 := hb1.trans (hb2.mono (by omega))
  have hs2 : w.heap.size + 1 < w2.heap.size := (Array.getElem?_eq_some_iff.1 C4).1
  clear k1 hb2 B3 B4 hb1 z1
  cases B with
  | false =>
    clear hB HK8
    go_wp2_with fail
    refine (ka _).mono ?_
    rintro e wz ⟨rfl, hbz⟩
    have hbzz := hb02.trans (hbz.mono hb02.size)
    go_wp2
    go_ret
    exact ⟨rfl, hbzz⟩
  | true =>
    obtain ⟨hl1, hl2, hl3⟩ := hB rfl
    have k2 := HK8.out w2 hb02
    clear hB HK8
    obtain ⟨-, p0, p1, p2, p3, p4, p5, p6, p7, p8, p9, p10, p11, p12, p13⟩ := r14_cells C4
    go_wp2_with fail
    refine k2.mono ?_
    rintro e w3 ⟨⟨B, rfl, hB⟩, hb3⟩
    have D3 := (hb3.block w.heap.size (by omega)).trans C3
    have D4 := (hb3.block (w.heap.size + 1) (by omega)).trans C4
    have hb03 := hb02.trans (hb3.mono hb02.size)
    clear k2 hb3 C3 C4 hb02 p0 p1 p2 p3 p4 p5 p6 p7 p8 p9 p10 p11 p12 p13 hB
    cases B with
    | false =>
      go_wp2_with fail
      refine (ka _).mono ?_
      rintro e wz ⟨rfl, hbz⟩
      have hbzz := hb03.trans (hbz.mono hb03.size)
      go_wp2
      go_ret
      exact ⟨rfl, hbzz⟩
    | true =>
      have HK10 : Hid (∀ W, Below w.heap.size w W → _) := fun W hW => rmay_of w.heap.size z.r (rv z) W (HR.out W hW) hbo hlo (by omega) (by omega) (by omega) (votR_len hbo hlo) hnx
      have HK11 : Hid (∀ W, Below w.heap.size w W → _) := fun W hW => prest_of w.heap.size z.r (rv z) W (HR.out W hW) hW.size hbo hlo (by omega) (by omega) (by omega)
      have HK12 : Hid (∀ W, Below w.heap.size w W → _) := fun W hW => new_of w.heap.size z.r.node l (.slice la l.length lc) W (HL.out W hW) (by omega)
      have HK13 : Hid (∀ W, Below w.heap.size w W → _) := fun W hW => pcheckR_of w.heap.size z.r (rv z) W (HR.out W hW) hbo hlo (by omega) (by omega) (by omega)
      have HK14 : Hid (∀ W, Below w.heap.size w W → _) := fun W hW => pcheckG_of w.heap.size g W (HG.out W hW) hso heo (by omega) hi hp
      have HK15 : Hid (∀ W, Below w.heap.size w W → _) := fun W hW => rmayG_of w.heap.size g W (HG.out W hW) hso heo (by omega) hi
      have HK16 : Hid (∀ W, Below w.heap.size w W → _) := fun W hW => psameR_of w.heap.size z.r (rv z) W (HR.out W hW) hbo hlo (by omega) (by omega) (by omega)
      have HK18 : Hid (∀ W, Below w.heap.size w W → _) := fun W hW => rrest_of w.heap.size z.r (rv z) W (HR.out W hW) hW.size
      have HK19 : Hid (∀ W, Below w.heap.size w W → _) := fun W hW => rvoters_of l (.slice la l.length lc) W (HL.out W hW) (by omega)
      have HBO : Hid _ := hbo
      have HLO : Hid _ := hlo
      have HLG : Hid _ := hlg
      obtain ⟨MB, HMB⟩ : ∃ MB, Hid (mayR z.r = MB) := ⟨_, rfl⟩
      obtain ⟨MG, HMG⟩ : ∃ MG, Hid (mayG g.m = MG) := ⟨_, rfl⟩
      rw [HMB.out] at HK10 HK13
      rw [HMG.out] at HK14 HK15
      dsimp only [rv, gv] at HK10 HK11 HK13 HK14 HK15 HK16 HK18
      have k3 := HK10.out w3 hb03
      clear hbo hlo hlg hnx hl1 hl2 hl3 hso heo hel ht hi hp hc hm HG HK10
      go_wp2_with (refine wpList_load_row rfl 32 _ rfl (w.heap.size) rfl _ _ _ _ D3 Tryz.underlying32 rfl (by kernel_rfl) ?_)
      refine k3.mono ?_
      rintro e w4 ⟨rfl, hb4⟩
      have E3 := (hb4.block w.heap.size (Array.getElem?_eq_some_iff.1 D3).1).trans D3
      have E4 := (hb4.block (w.heap.size + 1) (Array.getElem?_eq_some_iff.1 D4).1).trans D4
      have hb04 := hb03.trans (hb4.mono hb03.size)
      have k4 := HK11.out w4 hb04
      clear k3 hb4 D3 D4 hb03 HK11
      go_wp2_with (refine wpList_load_row rfl 32 _ rfl (w.heap.size) rfl _ _ _ _ E3 Tryz.underlying32 rfl (by kernel_rfl) ?_)
      refine k4.mono ?_
      rintro e w5 ⟨⟨x1, c1, rfl, hX1, hy1, hn1⟩, hb5⟩
      have F3 := (hb5.block w.heap.size (Array.getElem?_eq_some_iff.1 E3).1).trans E3
      have F4 := (hb5.block (w.heap.size + 1) (Array.getElem?_eq_some_iff.1 E4).1).trans E4
      have hb05 := hb04.trans (hb5.mono hb04.size)
      have HX1 : Hid (RaV w.heap.size w5 x1) := hX1
      have HY1 : Hid _ := hy1
      have HNN1 : Hid _ := hn1
      clear k4 hb5 E3 E4 hb04 hX1 hy1 hn1
      obtain ⟨z6, G5, q5⟩ := one_box w5 (rc x1)
      have G3 := (q5.block w.heap.size (Array.getElem?_eq_some_iff.1 F3).1).trans F3
      have G4 := (q5.block (w.heap.size + 1) (Array.getElem?_eq_some_iff.1 F4).1).trans F4
      have hb06 := hb05.trans (q5.mono hb05.size)
      have k5 := HK12.out _ hb06
      dsimp only [rc, rv] at G3 G4 G5 q5 z6 hb06 k5 ⊢
      obtain ⟨-, o0, o1, o2, o3, o4, o5, o6, o7, o8, o9, o10, o11, o12, o13⟩ := r14_cells G3
      clear HK12 F3 F4
      go_wp2_with fail
      refine k5.mono ?_
      rintro e w7 ⟨⟨x2, c2, rfl, hX2, hy2, hn2⟩, hb7⟩
      have H3 := (hb7.block w.heap.size (Array.getElem?_eq_some_iff.1 G3).1).trans G3
      have H4 := (hb7.block (w.heap.size + 1) (Array.getElem?_eq_some_iff.1 G4).1).trans G4
      have H5 := (hb7.block w5.heap.size (Array.getElem?_eq_some_iff.1 G5).1).trans G5
      have hb07 := hb06.trans (hb7.mono hb06.size)
      have hw57 : Below w5.heap.size w5 w7 := q5.trans (hb7.mono (by omega))
      have HX2 : Hid (RaV w.heap.size w7 x2) := hX2
      have HN1 : Hid _ := hy2
      have HN2 : Hid _ := hn2
      clear k5 hb7 G3 G4 G5 hb06 q5 z6 hX2 hy2 hn2 o0 o1 o2 o3 o4 o5 o6 o7 o8 o9 o10 o11 o12 o13
      obtain ⟨z8, I6, q8⟩ := one_box w7 (rc x2)
      have I3 := (q8.block w.heap.size (Array.getElem?_eq_some_iff.1 H3).1).trans H3
      have I4 := (q8.block (w.heap.size + 1) (Array.getElem?_eq_some_iff.1 H4).1).trans H4
      have I5 := (q8.block w5.heap.size (Array.getElem?_eq_some_iff.1 H5).1).trans H5
      have hb08 := hb07.trans (q8.mono hb07.size)
      have HX2' : Hid (RaV w.heap.size (w7.alloc (rc x2)) x2) := HX2.out.below q8
      have HX1' : Hid (RaV w.heap.size (w7.alloc (rc x2)) x1) := HX1.out.below (hw57.trans (q8.mono hw57.size))
      dsimp only [rc, rv] at I3 I4 I5 I6 hb08 HX2' HX1' q8 z8 ⊢
      clear H3 H4 H5 hb07 hb05 HX1 HX2 hw57 z8
      go_wp2_with fail
      generalize hw8 : w7.alloc (.cells #[.int .i64 x2.r.node, .int .u64 (x2.r.term : Int), .int .i64 x2.r.vote, .int .u64 (x2.r.base.idx : Int), .int .u64 (x2.r.base.term : Int), .int .i64 x2.r.base.kind, .slice x2.bs.1 x2.bs.2.1 x2.bs.2.2, .slice x2.ls.1 x2.ls.2.1 x2.ls.2.2, .int .u64 (x2.r.commit : Int), .int .i64 x2.r.role, .int .i64 x2.r.leads, .int .i64 x2.r.elapsed, .slice x2.vs.1 x2.vs.2.1 x2.vs.2.2, .slice x2.ps.1 x2.ps.2.1 x2.ps.2.2] 32) = w8 at *
      clear hw8 q8
      have HX1 := HX1'
      have HX2 := HX2'
      clear HX1' HX2'
      have HQ : Hid (∀ W, Below w8.heap.size w8 W → W.heap[w.heap.size]? = some (.cells #[.int .i64 z.r.node, .int .u64 (z.r.term : Int), .int .i64 z.r.vote, .int .u64 (z.r.base.idx : Int), .int .u64 (z.r.base.term : Int), .int .i64 z.r.base.kind, .slice z.bs.1 z.bs.2.1 z.bs.2.2, .slice z.ls.1 z.ls.2.1 z.ls.2.2, .int .u64 (z.r.commit : Int), .int .i64 z.r.role, .int .i64 z.r.leads, .int .i64 z.r.elapsed, .slice z.vs.1 z.vs.2.1 z.vs.2.2, .slice z.ps.1 z.ps.2.1 z.ps.2.2] 32) ∧ W.heap[w.heap.size + 1]? = some (.cells #[.int .i64 g.m.kind, .int .i64 g.m.src, .int .i64 g.m.dst, .int .u64 (g.m.term : Int), .int .u64 (g.m.index : Int), .int .u64 (g.m.prev : Int), .slice g.sl.1 g.sl.2.1 g.sl.2.2, .int .u64 (g.m.commit : Int), .bool g.m.ok, .int .u64 (g.m.mat : Int), .int .u64 (g.m.snap.idx : Int), .int .u64 (g.m.snap.term : Int), .int .i64 g.m.snap.kind, .slice g.ss.1 g.ss.2.1 g.ss.2.2] 34) ∧ W.heap[w5.heap.size]? = some (.cells #[.int .i64 x1.r.node, .int .u64 (x1.r.term : Int), .int .i64 x1.r.vote, .int .u64 (x1.r.base.idx : Int), .int .u64 (x1.r.base.term : Int), .int .i64 x1.r.base.kind, .slice x1.bs.1 x1.bs.2.1 x1.bs.2.2, .slice x1.ls.1 x1.ls.2.1 x1.ls.2.2, .int .u64 (x1.r.commit : Int), .int .i64 x1.r.role, .int .i64 x1.r.leads, .int .i64 x1.r.elapsed, .slice x1.vs.1 x1.vs.2.1 x1.vs.2.2, .slice x1.ps.1 x1.ps.2.1 x1.ps.2.2] 32) ∧ W.heap[w7.heap.size]? = some (.cells #[.int .i64 x2.r.node, .int .u64 (x2.r.term : Int), .int .i64 x2.r.vote, .int .u64 (x2.r.base.idx : Int), .int .u64 (x2.r.base.term : Int), .int .i64 x2.r.base.kind, .slice x2.bs.1 x2.bs.2.1 x2.bs.2.2, .slice x2.ls.1 x2.ls.2.1 x2.ls.2.2, .int .u64 (x2.r.commit : Int), .int .i64 x2.r.role, .int .i64 x2.r.leads, .int .i64 x2.r.elapsed, .slice x2.vs.1 x2.vs.2.1 x2.vs.2.2, .slice x2.ps.1 x2.ps.2.1 x2.ps.2.2] 32)) := fun W hW =>
        ⟨(hW.block w.heap.size (Array.getElem?_eq_some_iff.1 I3).1).trans I3, (hW.block (w.heap.size + 1) (Array.getElem?_eq_some_iff.1 I4).1).trans I4, (hW.block w5.heap.size (Array.getElem?_eq_some_iff.1 I5).1).trans I5, (hW.block w7.heap.size (Array.getElem?_eq_some_iff.1 I6).1).trans I6⟩
      have HQ3 := HQ
      have HB8 : Hid (∀ W, Below w8.heap.size w8 W → Below w.heap.size w W) := fun W hW => hb08.trans (hW.mono hb08.size)
      have HK17 : Hid (∀ W, Below w8.heap.size w8 W → ∀ (zz : Rz), zz.r = restR z.r → RaV w.heap.size W zz → x1.r = restR z.r → _) := fun W hW zz hzz hzR hx1r => rsame_of w.heap.size w.heap.size (restR z.r) (rv x1) (rv zz) W ⟨x1, rfl, hx1r, HX1.out.below hW⟩ ⟨zz, rfl, hzz, hzR⟩ HBO.out HLO.out HLG.out (by simp [restR]) (by simp [restR])
      have w8b : Below w8.heap.size w8 w8 := Below.refl _ _
      have hqB : (codeB MB == 0) = MB := by cases MB <;> rfl
      have hqG : (codeB MG == 0) = MG := by cases MG <;> rfl
      clear I3 I4 I5 I6 hb08
      refine wp_region_L (fun W => Below w8.heap.size w8 W) [] (by kernel_rfl) ?_
      have y0 : Below w8.heap.size w8 w8.drew := w8b.drew
      generalize w8.drew = wd at *
      refine wpAnyL_take 0 rfl (by kernel_rfl) (by kernel_rfl) (by kernel_rfl) (by kernel_rfl) (fun _ _ _ h => h) (by first | exact wanted_none rfl | kernel_rfl) (by intro w' hS'; have hz := hS'; obtain ⟨q3, q4, -, -⟩ := HQ.out _ hz; obtain ⟨-, c0, c1, c2, c3, c4, c5, c6, c7, c8, c9, c10, c11, c12, c13⟩ := r14_cells q3; obtain ⟨-, d0, d1, d2, d3, d4, d5, d6, d7, d8, d9, d10, d11, d12, d13⟩ := r14_cells q4; clear q3 q4; go_simp <;> rfl) y0 ?_
      try simp only [List.getElem_toArray, List.getElem_cons_succ, List.getElem_cons_zero, Act.put, List.setIfInBounds_toArray, List.set_cons_zero, List.set_cons_succ]
      refine wpAnyL_take 3 rfl (by kernel_rfl) (by kernel_rfl) (by kernel_rfl) (by kernel_rfl) (fun _ _ _ h => h) (by first | exact wanted_none rfl | kernel_rfl) (by intro w' hS'; have hz := hS'; obtain ⟨q3, q4, -, -⟩ := HQ.out _ hz; obtain ⟨-, c0, c1, c2, c3, c4, c5, c6, c7, c8, c9, c10, c11, c12, c13⟩ := r14_cells q3; obtain ⟨-, d0, d1, d2, d3, d4, d5, d6, d7, d8, d9, d10, d11, d12, d13⟩ := r14_cells q4; clear q3 q4; go_simp <;> rfl) y0 ?_
      try simp only [List.getElem_toArray, List.getElem_cons_succ, List.getElem_cons_zero, Act.put, List.setIfInBounds_toArray, List.set_cons_zero, List.set_cons_succ]
      refine wpAnyL_one 1 (by kernel_rfl) rfl (by kernel_rfl) ?_
      intro K' hK'
      go_simp
      refine (HK13.out _ (HB8.out _ y0)).mono ?_
      rintro e v1 ⟨rfl, hv1⟩
      have y1 := y0.trans (hv1.mono y0.size)
      refine hK'.out _ _ (.inr y1) ?_
      clear hK' K'
      try simp only [List.getElem_toArray, List.getElem_cons_succ, List.getElem_cons_zero, Act.put, List.setIfInBounds_toArray, List.set_cons_zero, List.set_cons_succ]
      refine wpAnyL_take 2 rfl (by kernel_rfl) (by kernel_rfl) (by kernel_rfl) (by kernel_rfl) (fun _ _ _ h => h) (by first | exact wanted_none rfl | kernel_rfl) (by intro w' hS'; have hz := hS'; obtain ⟨q3, q4, -, -⟩ := HQ.out _ hz; obtain ⟨-, c0, c1, c2, c3, c4, c5, c6, c7, c8, c9, c10, c11, c12, c13⟩ := r14_cells q3; obtain ⟨-, d0, d1, d2, d3, d4, d5, d6, d7, d8, d9, d10, d11, d12, d13⟩ := r14_cells q4; clear q3 q4; go_simp <;> rfl) y1 ?_
      try simp only [List.getElem_toArray, List.getElem_cons_succ, List.getElem_cons_zero, Act.put, List.setIfInBounds_toArray, List.set_cons_zero, List.set_cons_succ]
      refine wpAnyL_take 4 rfl (by kernel_rfl) (by kernel_rfl) (by kernel_rfl) (by kernel_rfl) (fun _ _ _ h => h) (by first | exact wanted_none rfl | kernel_rfl) (by intro w' hS'; have hz := hS'; obtain ⟨q3, q4, -, -⟩ := HQ.out _ hz; obtain ⟨-, c0, c1, c2, c3, c4, c5, c6, c7, c8, c9, c10, c11, c12, c13⟩ := r14_cells q3; obtain ⟨-, d0, d1, d2, d3, d4, d5, d6, d7, d8, d9, d10, d11, d12, d13⟩ := r14_cells q4; clear q3 q4; go_simp <;> rfl) y1 ?_
      try simp only [List.getElem_toArray, List.getElem_cons_succ, List.getElem_cons_zero, Act.put, List.setIfInBounds_toArray, List.set_cons_zero, List.set_cons_succ]
      refine wpAnyL_take 5 rfl (by kernel_rfl) (by kernel_rfl) (by kernel_rfl) (by kernel_rfl) (fun _ _ _ h => h) (by first | exact wanted_none rfl | kernel_rfl) (by intro w' hS'; have hz := hS'; obtain ⟨q3, q4, -, -⟩ := HQ.out _ hz; obtain ⟨-, c0, c1, c2, c3, c4, c5, c6, c7, c8, c9, c10, c11, c12, c13⟩ := r14_cells q3; obtain ⟨-, d0, d1, d2, d3, d4, d5, d6, d7, d8, d9, d10, d11, d12, d13⟩ := r14_cells q4; clear q3 q4; go_simp <;> rfl) y1 ?_
      try simp only [List.getElem_toArray, List.getElem_cons_succ, List.getElem_cons_zero, Act.put, List.setIfInBounds_toArray, List.set_cons_zero, List.set_cons_succ]
      refine wpAnyL_take 6 rfl (by kernel_rfl) (by kernel_rfl) (by kernel_rfl) (by kernel_rfl) (fun _ _ _ h => h) (by first | exact wanted_none rfl | kernel_rfl) (by intro w' hS'; have hz := hS'; obtain ⟨q3, q4, -, -⟩ := HQ.out _ hz; obtain ⟨-, c0, c1, c2, c3, c4, c5, c6, c7, c8, c9, c10, c11, c12, c13⟩ := r14_cells q3; obtain ⟨-, d0, d1, d2, d3, d4, d5, d6, d7, d8, d9, d10, d11, d12, d13⟩ := r14_cells q4; clear q3 q4; go_simp <;> rfl) y1 ?_
      try simp only [List.getElem_toArray, List.getElem_cons_succ, List.getElem_cons_zero, Act.put, List.setIfInBounds_toArray, List.set_cons_zero, List.set_cons_succ]
      refine wpAnyL_take 9 rfl (by kernel_rfl) (by kernel_rfl) (by kernel_rfl) (by kernel_rfl) (fun _ _ _ h => h) (by first | exact wanted_none rfl | kernel_rfl) (by intro w' hS'; have hz := hS'; obtain ⟨q3, q4, -, -⟩ := HQ.out _ hz; obtain ⟨-, c0, c1, c2, c3, c4, c5, c6, c7, c8, c9, c10, c11, c12, c13⟩ := r14_cells q3; obtain ⟨-, d0, d1, d2, d3, d4, d5, d6, d7, d8, d9, d10, d11, d12, d13⟩ := r14_cells q4; clear q3 q4; go_simp <;> rfl) y1 ?_
      try simp only [List.getElem_toArray, List.getElem_cons_succ, List.getElem_cons_zero, Act.put, List.setIfInBounds_toArray, List.set_cons_zero, List.set_cons_succ]
      refine wpAnyL_one 7 (by kernel_rfl) rfl (by kernel_rfl) ?_
      intro K' hK'
      go_simp
      refine (HK14.out _ (HB8.out _ y1)).mono ?_
      rintro e v2 ⟨rfl, hv2⟩
      have y2 := y1.trans (hv2.mono y1.size)
      refine hK'.out _ _ (.inr y2) ?_
      clear hK' K'
      try simp only [List.getElem_toArray, List.getElem_cons_succ, List.getElem_cons_zero, Act.put, List.setIfInBounds_toArray, List.set_cons_zero, List.set_cons_succ]
      refine wpAnyL_take 8 rfl (by kernel_rfl) (by kernel_rfl) (by kernel_rfl) (by kernel_rfl) (fun _ _ _ h => h) (by first | exact wanted_none rfl | kernel_rfl) (by intro w' hS'; have hz := hS'; obtain ⟨q3, q4, -, -⟩ := HQ.out _ hz; obtain ⟨-, c0, c1, c2, c3, c4, c5, c6, c7, c8, c9, c10, c11, c12, c13⟩ := r14_cells q3; obtain ⟨-, d0, d1, d2, d3, d4, d5, d6, d7, d8, d9, d10, d11, d12, d13⟩ := r14_cells q4; clear q3 q4; go_simp <;> rfl) y2 ?_
      try simp only [List.getElem_toArray, List.getElem_cons_succ, List.getElem_cons_zero, Act.put, List.setIfInBounds_toArray, List.set_cons_zero, List.set_cons_succ]
      refine wpAnyL_one 10 (by kernel_rfl) rfl (by kernel_rfl) ?_
      intro K' hK'
      go_simp
      refine (HK15.out _ (HB8.out _ y2)).mono ?_
      rintro e v3 ⟨rfl, hv3⟩
      have y3 := y2.trans (hv3.mono y2.size)
      refine hK'.out _ _ (.inr y3) ?_
      clear hK' K'
      try simp only [List.getElem_toArray, List.getElem_cons_succ, List.getElem_cons_zero, Act.put, List.setIfInBounds_toArray, List.set_cons_zero, List.set_cons_succ]
      refine wpAnyL_take 11 rfl (by kernel_rfl) (by kernel_rfl) (by kernel_rfl) (by kernel_rfl) (fun _ _ _ h => h) (by first | exact wanted_none rfl | kernel_rfl) (by intro w' hS'; have hz := hS'; obtain ⟨q3, q4, -, -⟩ := HQ.out _ hz; obtain ⟨-, c0, c1, c2, c3, c4, c5, c6, c7, c8, c9, c10, c11, c12, c13⟩ := r14_cells q3; obtain ⟨-, d0, d1, d2, d3, d4, d5, d6, d7, d8, d9, d10, d11, d12, d13⟩ := r14_cells q4; clear q3 q4; go_simp <;> rfl) y3 ?_
      try simp only [List.getElem_toArray, List.getElem_cons_succ, List.getElem_cons_zero, Act.put, List.setIfInBounds_toArray, List.set_cons_zero, List.set_cons_succ]
      refine wpAnyL_take 12 rfl (by kernel_rfl) (by kernel_rfl) (by kernel_rfl) (by kernel_rfl) (fun _ _ _ h => h) (by first | exact wanted_none rfl | kernel_rfl) (by intro w' hS'; have hz := hS'; obtain ⟨q3, q4, -, -⟩ := HQ.out _ hz; obtain ⟨-, c0, c1, c2, c3, c4, c5, c6, c7, c8, c9, c10, c11, c12, c13⟩ := r14_cells q3; obtain ⟨-, d0, d1, d2, d3, d4, d5, d6, d7, d8, d9, d10, d11, d12, d13⟩ := r14_cells q4; clear q3 q4; go_simp <;> rfl) y3 ?_
      try simp only [List.getElem_toArray, List.getElem_cons_succ, List.getElem_cons_zero, Act.put, List.setIfInBounds_toArray, List.set_cons_zero, List.set_cons_succ]
      refine wpAnyL_take 13 rfl (by kernel_rfl) (by kernel_rfl) (by kernel_rfl) (by kernel_rfl) (fun _ _ _ h => h) (by first | exact wanted_none rfl | kernel_rfl) (by intro w' hS'; have hz := hS'; obtain ⟨q3, q4, -, -⟩ := HQ.out _ hz; obtain ⟨-, c0, c1, c2, c3, c4, c5, c6, c7, c8, c9, c10, c11, c12, c13⟩ := r14_cells q3; obtain ⟨-, d0, d1, d2, d3, d4, d5, d6, d7, d8, d9, d10, d11, d12, d13⟩ := r14_cells q4; clear q3 q4; go_simp <;> rfl) y3 ?_
      try simp only [List.getElem_toArray, List.getElem_cons_succ, List.getElem_cons_zero, Act.put, List.setIfInBounds_toArray, List.set_cons_zero, List.set_cons_succ]
      refine wpAnyL_take 14 rfl (by kernel_rfl) (by kernel_rfl) (by kernel_rfl) (by kernel_rfl) (fun _ _ _ h => h) (by first | exact wanted_none rfl | kernel_rfl) (by intro w' hS'; have hz := hS'; obtain ⟨q3, q4, -, -⟩ := HQ.out _ hz; obtain ⟨-, c0, c1, c2, c3, c4, c5, c6, c7, c8, c9, c10, c11, c12, c13⟩ := r14_cells q3; obtain ⟨-, d0, d1, d2, d3, d4, d5, d6, d7, d8, d9, d10, d11, d12, d13⟩ := r14_cells q4; clear q3 q4; go_simp <;> rfl) y3 ?_
      try simp only [List.getElem_toArray, List.getElem_cons_succ, List.getElem_cons_zero, Act.put, List.setIfInBounds_toArray, List.set_cons_zero, List.set_cons_succ]
      refine wpAnyL_take 15 rfl (by kernel_rfl) (by kernel_rfl) (by kernel_rfl) (by kernel_rfl) (fun _ _ _ h => h) (by first | exact wanted_none rfl | kernel_rfl) (by intro w' hS'; have hz := hS'; obtain ⟨q3, q4, -, -⟩ := HQ.out _ hz; obtain ⟨-, c0, c1, c2, c3, c4, c5, c6, c7, c8, c9, c10, c11, c12, c13⟩ := r14_cells q3; obtain ⟨-, d0, d1, d2, d3, d4, d5, d6, d7, d8, d9, d10, d11, d12, d13⟩ := r14_cells q4; clear q3 q4; go_simp <;> rfl) y3 ?_
      try simp only [List.getElem_toArray, List.getElem_cons_succ, List.getElem_cons_zero, Act.put, List.setIfInBounds_toArray, List.set_cons_zero, List.set_cons_succ]
      refine wpAnyL_one 16 (by kernel_rfl) rfl (by kernel_rfl) ?_
      intro K' hK'
      go_simp
      refine (HK16.out _ (HB8.out _ y3)).mono ?_
      rintro e v4 ⟨rfl, hv4⟩
      have y4 := y3.trans (hv4.mono y3.size)
      refine hK'.out _ _ (.inr y4) ?_
      clear hK' K'
      try simp only [List.getElem_toArray, List.getElem_cons_succ, List.getElem_cons_zero, Act.put, List.setIfInBounds_toArray, List.set_cons_zero, List.set_cons_succ]
      refine wpAnyL_take 17 rfl (by kernel_rfl) (by kernel_rfl) (by kernel_rfl) (by kernel_rfl) (fun _ _ _ h => h) (by first | exact wanted_none rfl | kernel_rfl) (by intro w' hS'; have hz := hS'; obtain ⟨q3, q4, -, -⟩ := HQ.out _ hz; obtain ⟨-, c0, c1, c2, c3, c4, c5, c6, c7, c8, c9, c10, c11, c12, c13⟩ := r14_cells q3; obtain ⟨-, d0, d1, d2, d3, d4, d5, d6, d7, d8, d9, d10, d11, d12, d13⟩ := r14_cells q4; clear q3 q4; go_simp <;> rfl) y4 ?_
      try simp only [List.getElem_toArray, List.getElem_cons_succ, List.getElem_cons_zero, Act.put, List.setIfInBounds_toArray, List.set_cons_zero, List.set_cons_succ]
      refine wpAnyL_take 18 rfl (by kernel_rfl) (by kernel_rfl) (by kernel_rfl) (by kernel_rfl) (fun _ _ _ h => h) (by first | exact wanted_none rfl | kernel_rfl) (by intro w' hS'; have hz := hS'; obtain ⟨q3, q4, -, -⟩ := HQ.out _ hz; obtain ⟨-, c0, c1, c2, c3, c4, c5, c6, c7, c8, c9, c10, c11, c12, c13⟩ := r14_cells q3; obtain ⟨-, d0, d1, d2, d3, d4, d5, d6, d7, d8, d9, d10, d11, d12, d13⟩ := r14_cells q4; clear q3 q4; go_simp <;> rfl) y4 ?_
      try simp only [List.getElem_toArray, List.getElem_cons_succ, List.getElem_cons_zero, Act.put, List.setIfInBounds_toArray, List.set_cons_zero, List.set_cons_succ]
      refine wpAnyL_done (by kernel_rfl) (NoPanic.normal ?_) _
      have w9b := y4
      generalize v4 = w9 at *
      clear y0 y1 y2 y3 y4 hv1 hv2 hv3 hv4 HK13 HK14 HK15 HK16 hqB hqG
      go_wp2_with fail
      cases MB with
      | true =>
        obtain ⟨hc10, hx1r⟩ := HY1.out HMB.out
        subst hc10
        have HK17 : Hid (∀ W, Below w8.heap.size w8 W → ∀ (zz : Rz), zz.r = restR z.r → RaV w.heap.size W zz → _) := fun W hW zz h1 h2 => HK17.out W hW zz h1 h2 hx1r
        clear HY1 HNN1 hx1r
        refine wp_region_L (fun W => Below w8.heap.size w8 W) [] (by kernel_rfl) ?_
        have y0 : Below w8.heap.size w8 w9.drew := w9b.drew
        generalize w9.drew = wd at *
        refine wpAnyL_take 0 rfl (by kernel_rfl) (by kernel_rfl) (by kernel_rfl) (by kernel_rfl) (fun _ _ _ h => h) (by first | exact wanted_none rfl | kernel_rfl) (by intro w' hS'; have hz := hS'; obtain ⟨q3, -, q5, -⟩ := HQ.out _ hz; obtain ⟨-, c0, c1, c2, c3, c4, c5, c6, c7, c8, c9, c10, c11, c12, c13⟩ := r14_cells q3; obtain ⟨-, f0, f1, f2, f3, f4, f5, f6, f7, f8, f9, f10, f11, f12, f13⟩ := r14_cells q5; clear q3 q5; go_simp <;> rfl) y0 ?_
        try simp only [List.getElem_toArray, List.getElem_cons_succ, List.getElem_cons_zero, Act.put, List.setIfInBounds_toArray, List.set_cons_zero, List.set_cons_succ]
        refine wpAnyL_take 1 rfl (by kernel_rfl) (by kernel_rfl) (by kernel_rfl) (by kernel_rfl) (fun _ _ _ h => h) (by first | exact wanted_none rfl | kernel_rfl) (by intro w' hS'; have hz := hS'; obtain ⟨q3, -, q5, -⟩ := HQ.out _ hz; obtain ⟨-, c0, c1, c2, c3, c4, c5, c6, c7, c8, c9, c10, c11, c12, c13⟩ := r14_cells q3; obtain ⟨-, f0, f1, f2, f3, f4, f5, f6, f7, f8, f9, f10, f11, f12, f13⟩ := r14_cells q5; clear q3 q5; go_simp <;> rfl) y0 ?_
        try simp only [List.getElem_toArray, List.getElem_cons_succ, List.getElem_cons_zero, Act.put, List.setIfInBounds_toArray, List.set_cons_zero, List.set_cons_succ]
        refine wpAnyL_take 2 rfl (by kernel_rfl) (by kernel_rfl) (by kernel_rfl) (by kernel_rfl) (fun _ _ _ h => h) (by first | exact wanted_none rfl | kernel_rfl) (by intro w' hS'; have hz := hS'; obtain ⟨q3, -, q5, -⟩ := HQ.out _ hz; obtain ⟨-, c0, c1, c2, c3, c4, c5, c6, c7, c8, c9, c10, c11, c12, c13⟩ := r14_cells q3; obtain ⟨-, f0, f1, f2, f3, f4, f5, f6, f7, f8, f9, f10, f11, f12, f13⟩ := r14_cells q5; clear q3 q5; go_simp <;> rfl) y0 ?_
        try simp only [List.getElem_toArray, List.getElem_cons_succ, List.getElem_cons_zero, Act.put, List.setIfInBounds_toArray, List.set_cons_zero, List.set_cons_succ]
        refine wpAnyL_take 3 rfl (by kernel_rfl) (by kernel_rfl) (by kernel_rfl) (by kernel_rfl) (fun _ _ _ h => h) (by first | exact wanted_none rfl | kernel_rfl) (by intro w' hS'; have hz := hS'; obtain ⟨q3, -, q5, -⟩ := HQ.out _ hz; obtain ⟨-, c0, c1, c2, c3, c4, c5, c6, c7, c8, c9, c10, c11, c12, c13⟩ := r14_cells q3; obtain ⟨-, f0, f1, f2, f3, f4, f5, f6, f7, f8, f9, f10, f11, f12, f13⟩ := r14_cells q5; clear q3 q5; go_simp <;> rfl) y0 ?_
        try simp only [List.getElem_toArray, List.getElem_cons_succ, List.getElem_cons_zero, Act.put, List.setIfInBounds_toArray, List.set_cons_zero, List.set_cons_succ]
        refine wpAnyL_take 4 rfl (by kernel_rfl) (by kernel_rfl) (by kernel_rfl) (by kernel_rfl) (fun _ _ _ h => h) (by first | exact wanted_none rfl | kernel_rfl) (by intro w' hS'; have hz := hS'; obtain ⟨q3, -, q5, -⟩ := HQ.out _ hz; obtain ⟨-, c0, c1, c2, c3, c4, c5, c6, c7, c8, c9, c10, c11, c12, c13⟩ := r14_cells q3; obtain ⟨-, f0, f1, f2, f3, f4, f5, f6, f7, f8, f9, f10, f11, f12, f13⟩ := r14_cells q5; clear q3 q5; go_simp <;> rfl) y0 ?_
        try simp only [List.getElem_toArray, List.getElem_cons_succ, List.getElem_cons_zero, Act.put, List.setIfInBounds_toArray, List.set_cons_zero, List.set_cons_succ]
        refine wpAnyL_take 5 rfl (by kernel_rfl) (by kernel_rfl) (by kernel_rfl) (by kernel_rfl) (fun _ _ _ h => h) (by first | exact wanted_none rfl | kernel_rfl) (by intro w' hS'; have hz := hS'; obtain ⟨q3, -, q5, -⟩ := HQ.out _ hz; obtain ⟨-, c0, c1, c2, c3, c4, c5, c6, c7, c8, c9, c10, c11, c12, c13⟩ := r14_cells q3; obtain ⟨-, f0, f1, f2, f3, f4, f5, f6, f7, f8, f9, f10, f11, f12, f13⟩ := r14_cells q5; clear q3 q5; go_simp <;> rfl) y0 ?_
        try simp only [List.getElem_toArray, List.getElem_cons_succ, List.getElem_cons_zero, Act.put, List.setIfInBounds_toArray, List.set_cons_zero, List.set_cons_succ]
        refine wpAnyL_take 6 rfl (by kernel_rfl) (by kernel_rfl) (by kernel_rfl) (by kernel_rfl) (fun _ _ _ h => h) (by first | exact wanted_none rfl | kernel_rfl) (by intro w' hS'; have hz := hS'; obtain ⟨q3, -, q5, -⟩ := HQ.out _ hz; obtain ⟨-, c0, c1, c2, c3, c4, c5, c6, c7, c8, c9, c10, c11, c12, c13⟩ := r14_cells q3; obtain ⟨-, f0, f1, f2, f3, f4, f5, f6, f7, f8, f9, f10, f11, f12, f13⟩ := r14_cells q5; clear q3 q5; go_simp <;> rfl) y0 ?_
        try simp only [List.getElem_toArray, List.getElem_cons_succ, List.getElem_cons_zero, Act.put, List.setIfInBounds_toArray, List.set_cons_zero, List.set_cons_succ]
        refine wpAnyL_one 7 (by kernel_rfl) rfl (by kernel_rfl) ?_
        intro K' hK'
        go_simp
        refine (HK18.out _ (HB8.out _ y0)).mono ?_
        rintro e v1 ⟨rv1, rfl, hS1, hv1⟩
        obtain ⟨zz, rfl, hzz, hzR⟩ := hS1
        have y1 := y0.trans (hv1.mono y0.size)
        have kq := HK17.out v1 y1 zz hzz hzR
        clear hzz hzR
        dsimp only [rv] at kq ⊢
        refine hK'.out _ _ (.inr y1) ?_
        clear hK' K'
        try simp only [List.getElem_toArray, List.getElem_cons_succ, List.getElem_cons_zero, Act.put, List.setIfInBounds_toArray, List.set_cons_zero, List.set_cons_succ]
        refine wpAnyL_one 8 (by kernel_rfl) rfl (by kernel_rfl) ?_
        intro K' hK'
        go_simp
        refine (kq).mono ?_
        rintro e v2 ⟨rfl, hv2⟩
        have y2 := y1.trans (hv2.mono y1.size)
        refine hK'.out _ _ (.inr y2) ?_
        clear hK' K'
        try simp only [List.getElem_toArray, List.getElem_cons_succ, List.getElem_cons_zero, Act.put, List.setIfInBounds_toArray, List.set_cons_zero, List.set_cons_succ]
        refine wpAnyL_take 9 rfl (by kernel_rfl) (by kernel_rfl) (by kernel_rfl) (by kernel_rfl) (fun _ _ _ h => h) (by first | exact wanted_none rfl | kernel_rfl) (by intro w' hS'; have hz := hS'; obtain ⟨q3, -, q5, -⟩ := HQ.out _ hz; obtain ⟨-, c0, c1, c2, c3, c4, c5, c6, c7, c8, c9, c10, c11, c12, c13⟩ := r14_cells q3; obtain ⟨-, f0, f1, f2, f3, f4, f5, f6, f7, f8, f9, f10, f11, f12, f13⟩ := r14_cells q5; clear q3 q5; go_simp <;> rfl) y2 ?_
        try simp only [List.getElem_toArray, List.getElem_cons_succ, List.getElem_cons_zero, Act.put, List.setIfInBounds_toArray, List.set_cons_zero, List.set_cons_succ]
        refine wpAnyL_take 10 rfl (by kernel_rfl) (by kernel_rfl) (by kernel_rfl) (by kernel_rfl) (fun _ _ _ h => h) (by first | exact wanted_none rfl | kernel_rfl) (by intro w' hS'; have hz := hS'; obtain ⟨q3, -, q5, -⟩ := HQ.out _ hz; obtain ⟨-, c0, c1, c2, c3, c4, c5, c6, c7, c8, c9, c10, c11, c12, c13⟩ := r14_cells q3; obtain ⟨-, f0, f1, f2, f3, f4, f5, f6, f7, f8, f9, f10, f11, f12, f13⟩ := r14_cells q5; clear q3 q5; go_simp <;> rfl) y2 ?_
        try simp only [List.getElem_toArray, List.getElem_cons_succ, List.getElem_cons_zero, Act.put, List.setIfInBounds_toArray, List.set_cons_zero, List.set_cons_succ]
        refine wpAnyL_take 11 rfl (by kernel_rfl) (by kernel_rfl) (by kernel_rfl) (by kernel_rfl) (fun _ _ _ h => h) (by first | exact wanted_none rfl | kernel_rfl) (by intro w' hS'; have hz := hS'; obtain ⟨q3, -, q5, -⟩ := HQ.out _ hz; obtain ⟨-, c0, c1, c2, c3, c4, c5, c6, c7, c8, c9, c10, c11, c12, c13⟩ := r14_cells q3; obtain ⟨-, f0, f1, f2, f3, f4, f5, f6, f7, f8, f9, f10, f11, f12, f13⟩ := r14_cells q5; clear q3 q5; go_simp <;> rfl) y2 ?_
        try simp only [List.getElem_toArray, List.getElem_cons_succ, List.getElem_cons_zero, Act.put, List.setIfInBounds_toArray, List.set_cons_zero, List.set_cons_succ]
        refine wpAnyL_take 12 rfl (by kernel_rfl) (by kernel_rfl) (by kernel_rfl) (by kernel_rfl) (fun _ _ _ h => h) (by first | exact wanted_none rfl | kernel_rfl) (by intro w' hS'; have hz := hS'; obtain ⟨q3, -, q5, -⟩ := HQ.out _ hz; obtain ⟨-, c0, c1, c2, c3, c4, c5, c6, c7, c8, c9, c10, c11, c12, c13⟩ := r14_cells q3; obtain ⟨-, f0, f1, f2, f3, f4, f5, f6, f7, f8, f9, f10, f11, f12, f13⟩ := r14_cells q5; clear q3 q5; go_simp <;> rfl) y2 ?_
        try simp only [List.getElem_toArray, List.getElem_cons_succ, List.getElem_cons_zero, Act.put, List.setIfInBounds_toArray, List.set_cons_zero, List.set_cons_succ]
        refine wpAnyL_take 13 rfl (by kernel_rfl) (by kernel_rfl) (by kernel_rfl) (by kernel_rfl) (fun _ _ _ h => h) (by first | exact wanted_none rfl | kernel_rfl) (by intro w' hS'; have hz := hS'; obtain ⟨q3, -, q5, -⟩ := HQ.out _ hz; obtain ⟨-, c0, c1, c2, c3, c4, c5, c6, c7, c8, c9, c10, c11, c12, c13⟩ := r14_cells q3; obtain ⟨-, f0, f1, f2, f3, f4, f5, f6, f7, f8, f9, f10, f11, f12, f13⟩ := r14_cells q5; clear q3 q5; go_simp <;> rfl) y2 ?_
        try simp only [List.getElem_toArray, List.getElem_cons_succ, List.getElem_cons_zero, Act.put, List.setIfInBounds_toArray, List.set_cons_zero, List.set_cons_succ]
        refine wpAnyL_take 14 rfl (by kernel_rfl) (by kernel_rfl) (by kernel_rfl) (by kernel_rfl) (fun _ _ _ h => h) (by first | exact wanted_none rfl | kernel_rfl) (by intro w' hS'; have hz := hS'; obtain ⟨q3, -, q5, -⟩ := HQ.out _ hz; obtain ⟨-, c0, c1, c2, c3, c4, c5, c6, c7, c8, c9, c10, c11, c12, c13⟩ := r14_cells q3; obtain ⟨-, f0, f1, f2, f3, f4, f5, f6, f7, f8, f9, f10, f11, f12, f13⟩ := r14_cells q5; clear q3 q5; go_simp <;> rfl) y2 ?_
        try simp only [List.getElem_toArray, List.getElem_cons_succ, List.getElem_cons_zero, Act.put, List.setIfInBounds_toArray, List.set_cons_zero, List.set_cons_succ]
        refine wpAnyL_take 15 rfl (by kernel_rfl) (by kernel_rfl) (by kernel_rfl) (by kernel_rfl) (fun _ _ _ h => h) (by first | exact wanted_none rfl | kernel_rfl) (by intro w' hS'; have hz := hS'; obtain ⟨q3, -, q5, -⟩ := HQ.out _ hz; obtain ⟨-, c0, c1, c2, c3, c4, c5, c6, c7, c8, c9, c10, c11, c12, c13⟩ := r14_cells q3; obtain ⟨-, f0, f1, f2, f3, f4, f5, f6, f7, f8, f9, f10, f11, f12, f13⟩ := r14_cells q5; clear q3 q5; go_simp <;> rfl) y2 ?_
        try simp only [List.getElem_toArray, List.getElem_cons_succ, List.getElem_cons_zero, Act.put, List.setIfInBounds_toArray, List.set_cons_zero, List.set_cons_succ]
        refine wpAnyL_skip 16 rfl (by kernel_rfl) (by kernel_rfl) (by kernel_rfl) (by kernel_rfl) (fun _ _ _ h => h) (by kernel_rfl) y2 ?_
        try simp only [List.getElem_toArray, List.getElem_cons_succ, List.getElem_cons_zero, Act.put, List.setIfInBounds_toArray, List.set_cons_zero, List.set_cons_succ]
        refine wpAnyL_skip 17 rfl (by kernel_rfl) (by kernel_rfl) (by kernel_rfl) (by kernel_rfl) (fun _ _ _ h => h) (by kernel_rfl) y2 ?_
        try simp only [List.getElem_toArray, List.getElem_cons_succ, List.getElem_cons_zero, Act.put, List.setIfInBounds_toArray, List.set_cons_zero, List.set_cons_succ]
        refine wpAnyL_take 18 rfl (by kernel_rfl) (by kernel_rfl) (by kernel_rfl) (by kernel_rfl) (fun _ _ _ h => h) (by first | exact wanted_none rfl | kernel_rfl) (by intro w' hS'; have hz := hS'; obtain ⟨q3, -, q5, -⟩ := HQ.out _ hz; obtain ⟨-, c0, c1, c2, c3, c4, c5, c6, c7, c8, c9, c10, c11, c12, c13⟩ := r14_cells q3; obtain ⟨-, f0, f1, f2, f3, f4, f5, f6, f7, f8, f9, f10, f11, f12, f13⟩ := r14_cells q5; clear q3 q5; go_simp <;> rfl) y2 ?_
        try simp only [List.getElem_toArray, List.getElem_cons_succ, List.getElem_cons_zero, Act.put, List.setIfInBounds_toArray, List.set_cons_zero, List.set_cons_succ]
        refine wpAnyL_take 19 rfl (by kernel_rfl) (by kernel_rfl) (by kernel_rfl) (by kernel_rfl) (fun _ _ _ h => h) (by first | exact wanted_none rfl | kernel_rfl) (by intro w' hS'; have hz := hS'; obtain ⟨q3, -, q5, -⟩ := HQ.out _ hz; obtain ⟨-, c0, c1, c2, c3, c4, c5, c6, c7, c8, c9, c10, c11, c12, c13⟩ := r14_cells q3; obtain ⟨-, f0, f1, f2, f3, f4, f5, f6, f7, f8, f9, f10, f11, f12, f13⟩ := r14_cells q5; clear q3 q5; go_simp <;> rfl) y2 ?_
        try simp only [List.getElem_toArray, List.getElem_cons_succ, List.getElem_cons_zero, Act.put, List.setIfInBounds_toArray, List.set_cons_zero, List.set_cons_succ]
        refine wpAnyL_done (by kernel_rfl) (NoPanic.normal ?_) _
        have y10 := y2
        generalize v2 = w10 at *
        clear y0 y1 y2 hv1 hv2 HK17 HK18 kq
        have hb10 := HB8.out _ y10
        obtain ⟨q3, q4, q5, q6⟩ := HQ.out _ y10
        obtain ⟨-, o0, o1, o2, o3, o4, o5, o6, o7, o8, o9, o10, o11, o12, o13⟩ := r14_cells q3
        clear q3 q4 q5 q6
        by_cases n1 : 1 ≤ z.r.node
        · have n1d : decide (z.r.node < 1) = false := by simp; omega
          by_cases n7 : z.r.node ≤ 7
          · have n7d : decide ((7 : Int) < z.r.node) = false := by simp; omega
            have hnb : nodeB z.r.node = true := by simp [nodeB, n1, n7]
            have kv := HK19.out _ hb10
            cases hV : votB l with
            | false =>
              rw [hV] at kv
              obtain rfl : c2 = 1 := HN2.out (by rw [hnb, hV]; rfl)
              clear HN1 HN2 hV hnb n1 n7
              go_wp2_with fail
              refine kv.mono ?_
              rintro e w11 ⟨rfl, hb11⟩
              have hb011 := hb10.trans (hb11.mono hb10.size)
              clear kv o0 o1 o2 o3 o4 o5 o6 o7 o8 o9 o10 o11 o12 o13
              go_wp2_with fail
              refine (ka _).mono ?_
              rintro e wz ⟨rfl, hbz⟩
              have hbzz := hb011.trans (hbz.mono hb011.size)
              go_wp2
              go_ret
              exact ⟨rfl, hbzz⟩
            | true =>
              rw [hV] at kv
              obtain ⟨hc20, hx2r⟩ := HN1.out (by rw [hnb, hV]; rfl)
              subst hc20
              obtain ⟨hnm, hnv, hno⟩ := new_may hnb hV
              have HK10b : Hid (∀ W, Below w8.heap.size w8 W → _) := fun W hW => rmay_of w.heap.size (newR z.r.node l) (rv x2) W ⟨x2, rfl, hx2r, HX2.out.below hW⟩ hno (by simp [newR]) (by simp [newR]) (by simp [newR]) (by simp [newR]) (votR_len hno (by simp [newR])) (by simp [newR])
              rw [hnm] at HK10b
              have HK21 : Hid (∀ W, Below w8.heap.size w8 W → _) := fun W hW => rvot_of (x2.r.base, x2.bs) x2.zs (slv x2.ls) W (HX2.out.below hW).1.v (HX2.out.below hW).2.1.v (by rw [hx2r]; exact ⟨hno.1, hno.2.1, hno.2.2.1⟩) (fun zq hzq => by have hm := (HX2.out).2.2.1; rw [hx2r] at hm; have : zq.1 ∈ mes x2.zs := List.mem_map.2 ⟨zq, hzq, rfl⟩; rw [hm] at this; simp [newR] at this) (by have hm := (HX2.out).2.2.1; rw [hx2r] at hm; have := congrArg List.length hm; rw [List.length_map] at this; rw [this]; simp [newR]) (by rw [hx2r]; exact hno.2.2.2) (fun zq hzq => by have hm := (HX2.out).2.2.1; rw [hx2r] at hm; have : zq.1 ∈ mes x2.zs := List.mem_map.2 ⟨zq, hzq, rfl⟩; rw [hm] at this; simp [newR] at this)
              have hvl2 : votM x2.r.base (mes x2.zs) = l := by rw [(HX2.out).2.2.1, hx2r]; exact hnv
              rw [hvl2] at HK21
              have HL7 : Hid (l.length ≤ 7) := (votB_iff.1 hV).2.1
              have hxn : x2.r.node = z.r.node := by rw [hx2r]; rfl
              have hxt : x2.r.term = 0 := by rw [hx2r]; rfl
              obtain ⟨-, -, -, q6⟩ := HQ.out _ y10
              rw [hxn, hxt] at q6
              dsimp only [rv, lgv, slv] at HK10b HK21
              rw [hxn, hxt] at HK10b
              have HQ6 : Hid (∀ W, Below w8.heap.size w8 W → _) := fun W hW => (HQ.out W hW).2.2.2
              rw [hxn, hxt] at HQ6
              obtain ⟨-, p0, p1, p2, p3, p4, p5, p6, p7, p8, p9, p10, p11, p12, p13⟩ := r14_cells q6
              clear HN1 HN2 hnb n1 n7 hx2r hnm hnv hno hvl2 hxn hxt q6 HQ hV
              go_wp2_with fail
              refine kv.mono ?_
              rintro e w11 ⟨rfl, hb11⟩
              have y11 := y10.trans (hb11.mono y10.size)
              have hb011 := hb10.trans (hb11.mono hb10.size)
              have kM := HK10b.out _ y11
              clear kv o0 o1 o2 o3 o4 o5 o6 o7 o8 o9 o10 o11 o12 o13 p0 p1 p2 p3 p4 p5 p6 p7 p8 p9 p10 p11 p12 p13
              have q6 := HQ6.out _ y11
              obtain ⟨-, p0, p1, p2, p3, p4, p5, p6, p7, p8, p9, p10, p11, p12, p13⟩ := r14_cells q6
              obtain ⟨q3', -, -, -⟩ := HQ3.out _ y11
              obtain ⟨-, o0, o1, o2, o3, o4, o5, o6, o7, o8, o9, o10, o11, o12, o13⟩ := r14_cells q3'
              clear q3' q6
              go_wp2_with fail
              refine kM.mono ?_
              rintro e w12 ⟨rfl, hb12⟩
              have y12 := y11.trans (hb12.mono y11.size)
              have hb012 := hb011.trans (hb12.mono hb011.size)
              have kV := HK21.out _ y12
              clear kM o0 o1 o2 o3 o4 o5 o6 o7 o8 o9 o10 o11 o12 o13 p0 p1 p2 p3 p4 p5 p6 p7 p8 p9 p10 p11 p12 p13
              have q6 := HQ6.out _ y12
              obtain ⟨-, p0, p1, p2, p3, p4, p5, p6, p7, p8, p9, p10, p11, p12, p13⟩ := r14_cells q6
              clear q6
              go_wp2_with fail
              refine kV.mono ?_
              rintro e w13 ⟨vv, rfl, hVV, hb13⟩
              have hb013 := hb012.trans (hb13.mono hb012.size)
              have kI := ints_of l vv (.slice la l.length lc) w13 hVV (HL.out _ hb013) (by have := HL7.out; omega)
              obtain ⟨va, vc, rfl, -, -⟩ := hVV.shape
              clear kV p0 p1 p2 p3 p4 p5 p6 p7 p8 p9 p10 p11 p12 p13 hVV
              go_wp2_with fail
              refine kI.mono ?_
              rintro e w14 ⟨rfl, hb14⟩
              have hb014 := hb013.trans (hb14.mono hb013.size)
              clear kI
              go_wp2_with fail
              refine (ka _).mono ?_
              rintro e wz ⟨rfl, hbz⟩
              have hbzz := hb014.trans (hbz.mono hb014.size)
              go_wp2
              go_ret
              exact ⟨rfl, hbzz⟩
          · have n7d : decide ((7 : Int) < z.r.node) = true := by simp; omega
            have hnb : nodeB z.r.node = false := by simp [nodeB, n7]
            obtain rfl : c2 = 1 := HN2.out (by rw [hnb]; rfl)
            clear HN1 HN2 hnb n1 n7
            go_wp2_with fail
            refine (ka _).mono ?_
            rintro e wz ⟨rfl, hbz⟩
            have hbzz := hb10.trans (hbz.mono hb10.size)
            go_wp2
            go_ret
            exact ⟨rfl, hbzz⟩
        · have n1d : decide (z.r.node < 1) = true := by simp; omega
          have hnb : nodeB z.r.node = false := by simp [nodeB, n1]
          obtain rfl : c2 = 1 := HN2.out (by rw [hnb]; rfl)
          clear HN1 HN2 hnb n1
          go_wp2_with fail
          refine (ka _).mono ?_
          rintro e wz ⟨rfl, hbz⟩
          have hbzz := hb10.trans (hbz.mono hb10.size)
          go_wp2
          go_ret
          exact ⟨rfl, hbzz⟩
      | false =>
        obtain rfl : c1 = 1 := HNN1.out HMB.out
        clear HY1 HNN1 HK17 HK18
        refine wp_region_L (fun W => Below w8.heap.size w8 W) [] (by kernel_rfl) ?_
        have y0 : Below w8.heap.size w8 w9.drew := w9b.drew
        generalize w9.drew = wd at *
        refine wpAnyL_take 0 rfl (by kernel_rfl) (by kernel_rfl) (by kernel_rfl) (by kernel_rfl) (fun _ _ _ h => h) (by first | exact wanted_none rfl | kernel_rfl) (by intro w' hS'; have hz := hS'; obtain ⟨q3, -, q5, -⟩ := HQ.out _ hz; obtain ⟨-, c0, c1, c2, c3, c4, c5, c6, c7, c8, c9, c10, c11, c12, c13⟩ := r14_cells q3; obtain ⟨-, f0, f1, f2, f3, f4, f5, f6, f7, f8, f9, f10, f11, f12, f13⟩ := r14_cells q5; clear q3 q5; go_simp <;> rfl) y0 ?_
        try simp only [List.getElem_toArray, List.getElem_cons_succ, List.getElem_cons_zero, Act.put, List.setIfInBounds_toArray, List.set_cons_zero, List.set_cons_succ]
        refine wpAnyL_take 1 rfl (by kernel_rfl) (by kernel_rfl) (by kernel_rfl) (by kernel_rfl) (fun _ _ _ h => h) (by first | exact wanted_none rfl | kernel_rfl) (by intro w' hS'; have hz := hS'; obtain ⟨q3, -, q5, -⟩ := HQ.out _ hz; obtain ⟨-, c0, c1, c2, c3, c4, c5, c6, c7, c8, c9, c10, c11, c12, c13⟩ := r14_cells q3; obtain ⟨-, f0, f1, f2, f3, f4, f5, f6, f7, f8, f9, f10, f11, f12, f13⟩ := r14_cells q5; clear q3 q5; go_simp <;> rfl) y0 ?_
        try simp only [List.getElem_toArray, List.getElem_cons_succ, List.getElem_cons_zero, Act.put, List.setIfInBounds_toArray, List.set_cons_zero, List.set_cons_succ]
        refine wpAnyL_skip 2 rfl (by kernel_rfl) (by kernel_rfl) (by kernel_rfl) (by kernel_rfl) (fun _ _ _ h => h) (by kernel_rfl) y0 ?_
        try simp only [List.getElem_toArray, List.getElem_cons_succ, List.getElem_cons_zero, Act.put, List.setIfInBounds_toArray, List.set_cons_zero, List.set_cons_succ]
        refine wpAnyL_skip 3 rfl (by kernel_rfl) (by kernel_rfl) (by kernel_rfl) (by kernel_rfl) (fun _ _ _ h => h) (by kernel_rfl) y0 ?_
        try simp only [List.getElem_toArray, List.getElem_cons_succ, List.getElem_cons_zero, Act.put, List.setIfInBounds_toArray, List.set_cons_zero, List.set_cons_succ]
        refine wpAnyL_skip 4 rfl (by kernel_rfl) (by kernel_rfl) (by kernel_rfl) (by kernel_rfl) (fun _ _ _ h => h) (by kernel_rfl) y0 ?_
        try simp only [List.getElem_toArray, List.getElem_cons_succ, List.getElem_cons_zero, Act.put, List.setIfInBounds_toArray, List.set_cons_zero, List.set_cons_succ]
        refine wpAnyL_skip 5 rfl (by kernel_rfl) (by kernel_rfl) (by kernel_rfl) (by kernel_rfl) (fun _ _ _ h => h) (by kernel_rfl) y0 ?_
        try simp only [List.getElem_toArray, List.getElem_cons_succ, List.getElem_cons_zero, Act.put, List.setIfInBounds_toArray, List.set_cons_zero, List.set_cons_succ]
        refine wpAnyL_skip 6 rfl (by kernel_rfl) (by kernel_rfl) (by kernel_rfl) (by kernel_rfl) (fun _ _ _ h => h) (by kernel_rfl) y0 ?_
        try simp only [List.getElem_toArray, List.getElem_cons_succ, List.getElem_cons_zero, Act.put, List.setIfInBounds_toArray, List.set_cons_zero, List.set_cons_succ]
        refine wpAnyL_skip 7 rfl (by kernel_rfl) (by kernel_rfl) (by kernel_rfl) (by kernel_rfl) (fun _ _ _ h => h) (by kernel_rfl) y0 ?_
        try simp only [List.getElem_toArray, List.getElem_cons_succ, List.getElem_cons_zero, Act.put, List.setIfInBounds_toArray, List.set_cons_zero, List.set_cons_succ]
        refine wpAnyL_skip 8 rfl (by kernel_rfl) (by kernel_rfl) (by kernel_rfl) (by kernel_rfl) (fun _ _ _ h => h) (by kernel_rfl) y0 ?_
        try simp only [List.getElem_toArray, List.getElem_cons_succ, List.getElem_cons_zero, Act.put, List.setIfInBounds_toArray, List.set_cons_zero, List.set_cons_succ]
        refine wpAnyL_skip 9 rfl (by kernel_rfl) (by kernel_rfl) (by kernel_rfl) (by kernel_rfl) (fun _ _ _ h => h) (by kernel_rfl) y0 ?_
        try simp only [List.getElem_toArray, List.getElem_cons_succ, List.getElem_cons_zero, Act.put, List.setIfInBounds_toArray, List.set_cons_zero, List.set_cons_succ]
        refine wpAnyL_skip 10 rfl (by kernel_rfl) (by kernel_rfl) (by kernel_rfl) (by kernel_rfl) (fun _ _ _ h => h) (by kernel_rfl) y0 ?_
        try simp only [List.getElem_toArray, List.getElem_cons_succ, List.getElem_cons_zero, Act.put, List.setIfInBounds_toArray, List.set_cons_zero, List.set_cons_succ]
        refine wpAnyL_take 11 rfl (by kernel_rfl) (by kernel_rfl) (by kernel_rfl) (by kernel_rfl) (fun _ _ _ h => h) (by first | exact wanted_none rfl | kernel_rfl) (by intro w' hS'; have hz := hS'; obtain ⟨q3, -, q5, -⟩ := HQ.out _ hz; obtain ⟨-, c0, c1, c2, c3, c4, c5, c6, c7, c8, c9, c10, c11, c12, c13⟩ := r14_cells q3; obtain ⟨-, f0, f1, f2, f3, f4, f5, f6, f7, f8, f9, f10, f11, f12, f13⟩ := r14_cells q5; clear q3 q5; go_simp <;> rfl) y0 ?_
        try simp only [List.getElem_toArray, List.getElem_cons_succ, List.getElem_cons_zero, Act.put, List.setIfInBounds_toArray, List.set_cons_zero, List.set_cons_succ]
        refine wpAnyL_take 12 rfl (by kernel_rfl) (by kernel_rfl) (by kernel_rfl) (by kernel_rfl) (fun _ _ _ h => h) (by first | exact wanted_none rfl | kernel_rfl) (by intro w' hS'; have hz := hS'; obtain ⟨q3, -, q5, -⟩ := HQ.out _ hz; obtain ⟨-, c0, c1, c2, c3, c4, c5, c6, c7, c8, c9, c10, c11, c12, c13⟩ := r14_cells q3; obtain ⟨-, f0, f1, f2, f3, f4, f5, f6, f7, f8, f9, f10, f11, f12, f13⟩ := r14_cells q5; clear q3 q5; go_simp <;> rfl) y0 ?_
        try simp only [List.getElem_toArray, List.getElem_cons_succ, List.getElem_cons_zero, Act.put, List.setIfInBounds_toArray, List.set_cons_zero, List.set_cons_succ]
        refine wpAnyL_take 13 rfl (by kernel_rfl) (by kernel_rfl) (by kernel_rfl) (by kernel_rfl) (fun _ _ _ h => h) (by first | exact wanted_none rfl | kernel_rfl) (by intro w' hS'; have hz := hS'; obtain ⟨q3, -, q5, -⟩ := HQ.out _ hz; obtain ⟨-, c0, c1, c2, c3, c4, c5, c6, c7, c8, c9, c10, c11, c12, c13⟩ := r14_cells q3; obtain ⟨-, f0, f1, f2, f3, f4, f5, f6, f7, f8, f9, f10, f11, f12, f13⟩ := r14_cells q5; clear q3 q5; go_simp <;> rfl) y0 ?_
        try simp only [List.getElem_toArray, List.getElem_cons_succ, List.getElem_cons_zero, Act.put, List.setIfInBounds_toArray, List.set_cons_zero, List.set_cons_succ]
        refine wpAnyL_take 14 rfl (by kernel_rfl) (by kernel_rfl) (by kernel_rfl) (by kernel_rfl) (fun _ _ _ h => h) (by first | exact wanted_none rfl | kernel_rfl) (by intro w' hS'; have hz := hS'; obtain ⟨q3, -, q5, -⟩ := HQ.out _ hz; obtain ⟨-, c0, c1, c2, c3, c4, c5, c6, c7, c8, c9, c10, c11, c12, c13⟩ := r14_cells q3; obtain ⟨-, f0, f1, f2, f3, f4, f5, f6, f7, f8, f9, f10, f11, f12, f13⟩ := r14_cells q5; clear q3 q5; go_simp <;> rfl) y0 ?_
        try simp only [List.getElem_toArray, List.getElem_cons_succ, List.getElem_cons_zero, Act.put, List.setIfInBounds_toArray, List.set_cons_zero, List.set_cons_succ]
        refine wpAnyL_take 15 rfl (by kernel_rfl) (by kernel_rfl) (by kernel_rfl) (by kernel_rfl) (fun _ _ _ h => h) (by first | exact wanted_none rfl | kernel_rfl) (by intro w' hS'; have hz := hS'; obtain ⟨q3, -, q5, -⟩ := HQ.out _ hz; obtain ⟨-, c0, c1, c2, c3, c4, c5, c6, c7, c8, c9, c10, c11, c12, c13⟩ := r14_cells q3; obtain ⟨-, f0, f1, f2, f3, f4, f5, f6, f7, f8, f9, f10, f11, f12, f13⟩ := r14_cells q5; clear q3 q5; go_simp <;> rfl) y0 ?_
        try simp only [List.getElem_toArray, List.getElem_cons_succ, List.getElem_cons_zero, Act.put, List.setIfInBounds_toArray, List.set_cons_zero, List.set_cons_succ]
        refine wpAnyL_take 16 rfl (by kernel_rfl) (by kernel_rfl) (by kernel_rfl) (by kernel_rfl) (fun _ _ _ h => h) (by first | exact wanted_none rfl | kernel_rfl) (by intro w' hS'; have hz := hS'; obtain ⟨q3, -, q5, -⟩ := HQ.out _ hz; obtain ⟨-, c0, c1, c2, c3, c4, c5, c6, c7, c8, c9, c10, c11, c12, c13⟩ := r14_cells q3; obtain ⟨-, f0, f1, f2, f3, f4, f5, f6, f7, f8, f9, f10, f11, f12, f13⟩ := r14_cells q5; clear q3 q5; go_simp <;> rfl) y0 ?_
        try simp only [List.getElem_toArray, List.getElem_cons_succ, List.getElem_cons_zero, Act.put, List.setIfInBounds_toArray, List.set_cons_zero, List.set_cons_succ]
        refine wpAnyL_take 17 rfl (by kernel_rfl) (by kernel_rfl) (by kernel_rfl) (by kernel_rfl) (fun _ _ _ h => h) (by first | exact wanted_none rfl | kernel_rfl) (by intro w' hS'; have hz := hS'; obtain ⟨q3, -, q5, -⟩ := HQ.out _ hz; obtain ⟨-, c0, c1, c2, c3, c4, c5, c6, c7, c8, c9, c10, c11, c12, c13⟩ := r14_cells q3; obtain ⟨-, f0, f1, f2, f3, f4, f5, f6, f7, f8, f9, f10, f11, f12, f13⟩ := r14_cells q5; clear q3 q5; go_simp <;> rfl) y0 ?_
        try simp only [List.getElem_toArray, List.getElem_cons_succ, List.getElem_cons_zero, Act.put, List.setIfInBounds_toArray, List.set_cons_zero, List.set_cons_succ]
        refine wpAnyL_take 18 rfl (by kernel_rfl) (by kernel_rfl) (by kernel_rfl) (by kernel_rfl) (fun _ _ _ h => h) (by first | exact wanted_none rfl | kernel_rfl) (by intro w' hS'; have hz := hS'; obtain ⟨q3, -, q5, -⟩ := HQ.out _ hz; obtain ⟨-, c0, c1, c2, c3, c4, c5, c6, c7, c8, c9, c10, c11, c12, c13⟩ := r14_cells q3; obtain ⟨-, f0, f1, f2, f3, f4, f5, f6, f7, f8, f9, f10, f11, f12, f13⟩ := r14_cells q5; clear q3 q5; go_simp <;> rfl) y0 ?_
        try simp only [List.getElem_toArray, List.getElem_cons_succ, List.getElem_cons_zero, Act.put, List.setIfInBounds_toArray, List.set_cons_zero, List.set_cons_succ]
        refine wpAnyL_take 19 rfl (by kernel_rfl) (by kernel_rfl) (by kernel_rfl) (by kernel_rfl) (fun _ _ _ h => h) (by first | exact wanted_none rfl | kernel_rfl) (by intro w' hS'; have hz := hS'; obtain ⟨q3, -, q5, -⟩ := HQ.out _ hz; obtain ⟨-, c0, c1, c2, c3, c4, c5, c6, c7, c8, c9, c10, c11, c12, c13⟩ := r14_cells q3; obtain ⟨-, f0, f1, f2, f3, f4, f5, f6, f7, f8, f9, f10, f11, f12, f13⟩ := r14_cells q5; clear q3 q5; go_simp <;> rfl) y0 ?_
        try simp only [List.getElem_toArray, List.getElem_cons_succ, List.getElem_cons_zero, Act.put, List.setIfInBounds_toArray, List.set_cons_zero, List.set_cons_succ]
        refine wpAnyL_done (by kernel_rfl) (NoPanic.normal ?_) _
        have y10 := y0
        clear y0
        have hb10 := HB8.out _ y10
        obtain ⟨q3, q4, q5, q6⟩ := HQ.out _ y10
        obtain ⟨-, o0, o1, o2, o3, o4, o5, o6, o7, o8, o9, o10, o11, o12, o13⟩ := r14_cells q3
        clear q3 q4 q5 q6
        by_cases n1 : 1 ≤ z.r.node
        · have n1d : decide (z.r.node < 1) = false := by simp; omega
          by_cases n7 : z.r.node ≤ 7
          · have n7d : decide ((7 : Int) < z.r.node) = false := by simp; omega
            have hnb : nodeB z.r.node = true := by simp [nodeB, n1, n7]
            have kv := HK19.out _ hb10
            cases hV : votB l with
            | false =>
              rw [hV] at kv
              obtain rfl : c2 = 1 := HN2.out (by rw [hnb, hV]; rfl)
              clear HN1 HN2 hV hnb n1 n7
              go_wp2_with fail
              refine kv.mono ?_
              rintro e w11 ⟨rfl, hb11⟩
              have hb011 := hb10.trans (hb11.mono hb10.size)
              clear kv o0 o1 o2 o3 o4 o5 o6 o7 o8 o9 o10 o11 o12 o13
              go_wp2_with fail
              refine (ka _).mono ?_
              rintro e wz ⟨rfl, hbz⟩
              have hbzz := hb011.trans (hbz.mono hb011.size)
              go_wp2
              go_ret
              exact ⟨rfl, hbzz⟩
            | true =>
              rw [hV] at kv
              obtain ⟨hc20, hx2r⟩ := HN1.out (by rw [hnb, hV]; rfl)
              subst hc20
              obtain ⟨hnm, hnv, hno⟩ := new_may hnb hV
              have HK10b : Hid (∀ W, Below w8.heap.size w8 W → _) := fun W hW => rmay_of w.heap.size (newR z.r.node l) (rv x2) W ⟨x2, rfl, hx2r, HX2.out.below hW⟩ hno (by simp [newR]) (by simp [newR]) (by simp [newR]) (by simp [newR]) (votR_len hno (by simp [newR])) (by simp [newR])
              rw [hnm] at HK10b
              have HK21 : Hid (∀ W, Below w8.heap.size w8 W → _) := fun W hW => rvot_of (x2.r.base, x2.bs) x2.zs (slv x2.ls) W (HX2.out.below hW).1.v (HX2.out.below hW).2.1.v (by rw [hx2r]; exact ⟨hno.1, hno.2.1, hno.2.2.1⟩) (fun zq hzq => by have hm := (HX2.out).2.2.1; rw [hx2r] at hm; have : zq.1 ∈ mes x2.zs := List.mem_map.2 ⟨zq, hzq, rfl⟩; rw [hm] at this; simp [newR] at this) (by have hm := (HX2.out).2.2.1; rw [hx2r] at hm; have := congrArg List.length hm; rw [List.length_map] at this; rw [this]; simp [newR]) (by rw [hx2r]; exact hno.2.2.2) (fun zq hzq => by have hm := (HX2.out).2.2.1; rw [hx2r] at hm; have : zq.1 ∈ mes x2.zs := List.mem_map.2 ⟨zq, hzq, rfl⟩; rw [hm] at this; simp [newR] at this)
              have hvl2 : votM x2.r.base (mes x2.zs) = l := by rw [(HX2.out).2.2.1, hx2r]; exact hnv
              rw [hvl2] at HK21
              have HL7 : Hid (l.length ≤ 7) := (votB_iff.1 hV).2.1
              have hxn : x2.r.node = z.r.node := by rw [hx2r]; rfl
              have hxt : x2.r.term = 0 := by rw [hx2r]; rfl
              obtain ⟨-, -, -, q6⟩ := HQ.out _ y10
              rw [hxn, hxt] at q6
              dsimp only [rv, lgv, slv] at HK10b HK21
              rw [hxn, hxt] at HK10b
              have HQ6 : Hid (∀ W, Below w8.heap.size w8 W → _) := fun W hW => (HQ.out W hW).2.2.2
              rw [hxn, hxt] at HQ6
              obtain ⟨-, p0, p1, p2, p3, p4, p5, p6, p7, p8, p9, p10, p11, p12, p13⟩ := r14_cells q6
              clear HN1 HN2 hnb n1 n7 hx2r hnm hnv hno hvl2 hxn hxt q6 HQ hV
              go_wp2_with fail
              refine kv.mono ?_
              rintro e w11 ⟨rfl, hb11⟩
              have y11 := y10.trans (hb11.mono y10.size)
              have hb011 := hb10.trans (hb11.mono hb10.size)
              have kM := HK10b.out _ y11
              clear kv o0 o1 o2 o3 o4 o5 o6 o7 o8 o9 o10 o11 o12 o13 p0 p1 p2 p3 p4 p5 p6 p7 p8 p9 p10 p11 p12 p13
              have q6 := HQ6.out _ y11
              obtain ⟨-, p0, p1, p2, p3, p4, p5, p6, p7, p8, p9, p10, p11, p12, p13⟩ := r14_cells q6
              obtain ⟨q3', -, -, -⟩ := HQ3.out _ y11
              obtain ⟨-, o0, o1, o2, o3, o4, o5, o6, o7, o8, o9, o10, o11, o12, o13⟩ := r14_cells q3'
              clear q3' q6
              go_wp2_with fail
              refine kM.mono ?_
              rintro e w12 ⟨rfl, hb12⟩
              have y12 := y11.trans (hb12.mono y11.size)
              have hb012 := hb011.trans (hb12.mono hb011.size)
              have kV := HK21.out _ y12
              clear kM o0 o1 o2 o3 o4 o5 o6 o7 o8 o9 o10 o11 o12 o13 p0 p1 p2 p3 p4 p5 p6 p7 p8 p9 p10 p11 p12 p13
              have q6 := HQ6.out _ y12
              obtain ⟨-, p0, p1, p2, p3, p4, p5, p6, p7, p8, p9, p10, p11, p12, p13⟩ := r14_cells q6
              clear q6
              go_wp2_with fail
              refine kV.mono ?_
              rintro e w13 ⟨vv, rfl, hVV, hb13⟩
              have hb013 := hb012.trans (hb13.mono hb012.size)
              have kI := ints_of l vv (.slice la l.length lc) w13 hVV (HL.out _ hb013) (by have := HL7.out; omega)
              obtain ⟨va, vc, rfl, -, -⟩ := hVV.shape
              clear kV p0 p1 p2 p3 p4 p5 p6 p7 p8 p9 p10 p11 p12 p13 hVV
              go_wp2_with fail
              refine kI.mono ?_
              rintro e w14 ⟨rfl, hb14⟩
              have hb014 := hb013.trans (hb14.mono hb013.size)
              clear kI
              go_wp2_with fail
              refine (ka _).mono ?_
              rintro e wz ⟨rfl, hbz⟩
              have hbzz := hb014.trans (hbz.mono hb014.size)
              go_wp2
              go_ret
              exact ⟨rfl, hbzz⟩
          · have n7d : decide ((7 : Int) < z.r.node) = true := by simp; omega
            have hnb : nodeB z.r.node = false := by simp [nodeB, n7]
            obtain rfl : c2 = 1 := HN2.out (by rw [hnb]; rfl)
            clear HN1 HN2 hnb n1 n7
            go_wp2_with fail
            refine (ka _).mono ?_
            rintro e wz ⟨rfl, hbz⟩
            have hbzz := hb10.trans (hbz.mono hb10.size)
            go_wp2
            go_ret
            exact ⟨rfl, hbzz⟩
        · have n1d : decide (z.r.node < 1) = true := by simp; omega
          have hnb : nodeB z.r.node = false := by simp [nodeB, n1]
          obtain rfl : c2 = 1 := HN2.out (by rw [hnb]; rfl)
          clear HN1 HN2 hnb n1
          go_wp2_with fail
          refine (ka _).mono ?_
          rintro e wz ⟨rfl, hbz⟩
          have hbzz := hb10.trans (hbz.mono hb10.size)
          go_wp2
          go_ret
          exact ⟨rfl, hbzz⟩
end Go.Proofs.YtncoandnelgkeaaGreat

