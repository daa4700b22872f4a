import Derived.Test.YtncoandnelgkeaaGreatHb09
/- The program's alike and Same, where both are one. -/
namespace Go.Proofs.YtncoandnelgkeaaGreat
open Go.RowKit QuorumMath RlogMath
set_option maxRecDepth 100000
set_option linter.unusedSimpArgs false
set_option linter.unusedVariables false

set_option maxHeartbeats 1000000 in
theorem bequal_of (d : List Nat) (u v : Value) (w : World) (hU : Rd byteE w u d) (hV : Rd byteE w v d) (hc : ∀ c ∈ d, c < 256) : Calls Tryz.prog 118 #[u, v] w fun e w' => e = .returned (.bool true) ∧ w' = w := by
  have e1 := str_of hU hc
  have e2 := str_of hV hc
  obtain ⟨ua, uc, rfl, -, -⟩ := hU.shape
  obtain ⟨va, vc, rfl, -, -⟩ := hV.shape
  generalize str d = S at *
  clear hU hV hc
  go_enter Tryz.func118, Tryz.ntmps118
  go_wp2
  go_ret
  exact ⟨by simp, rfl⟩

set_option maxHeartbeats 2000000 in
theorem alike_of (m : Me) (s u : Sl) (w : World) (hS : DataV w (m, s)) (hU : DataV w (m, u)) (hc : ∀ c ∈ m.data, c < 256) : Calls Tryz.prog 86 #[ev (m, s), ev (m, u)] w fun e w' => e = .returned (.bool true) ∧ Below w.heap.size w w' := by
  have hl1 := hS.len
  have hl2 := hU.len
  obtain ⟨ix, tm, kd, dt⟩ := m
  obtain ⟨sa, sn, sc⟩ := s
  obtain ⟨ua, un, uc⟩ := u
  dsimp only [ev] at *
  subst hl1
  subst hl2
  have hb : Below w.heap.size w ((w.alloc (.cells #[.int .u64 (ix : Int), .int .u64 (tm : Int), .int .i64 kd, .slice sa dt.length sc] 25)).alloc (.cells #[.int .u64 (ix : Int), .int .u64 (tm : Int), .int .i64 kd, .slice ua dt.length uc] 25)) := ((Below.refl _ _).alloc (Nat.le_refl _) _).alloc (by simp) _
  have kb := bequal_of dt (.slice sa dt.length sc) (.slice ua dt.length uc) _ (Rd.below hS hb) (Rd.below hU hb) hc
  clear hS hU hc
  go_enter Tryz.func86, Tryz.ntmps86
  go_wp2_with fail
  refine kb.mono ?_
  rintro e w1 ⟨rfl, hw1⟩
  subst hw1
  go_wp2
  go_ret
  exact ⟨by simp, hb⟩

set_option maxHeartbeats 2000000 in
theorem eqfunc_of (zs : List Ez) (lv : Value) (w : World) (hL : EntsV w lv zs) (hok : ∀ z ∈ zs, EzOk z) (hlen : zs.length ≤ 1000000000000) : Calls Tryz.prog 87 #[lv, lv, .func (.func 86) #[] #[]] w fun e w' => e = .returned (.bool true) ∧ Below w.heap.size w w' := by
  have HK : Hid (∀ z ∈ zs, ∀ W, Below w.heap.size w W → Calls Tryz.prog 86 #[ev z, ev z] W fun e w' => e = .returned (.bool true) ∧ Below W.heap.size W w') := fun z hz W hW => alike_of z.1 z.2 z.2 W ((hL.2 z hz).below hW) ((hL.2 z hz).below hW) (hok z hz).2.2
  have HL : Hid (Rd entE w lv zs) := hL.1
  obtain ⟨ao, cap, rfl, -, -⟩ := hL.1.shape
  clear hL hok
  go_enter Tryz.func87, Tryz.ntmps87
  go_wp2
  go_loopg [17] zs.length (fun gh s wr => ∃ k : Nat, k + gh = zs.length ∧ s = .int .i64 (k : Int) ∧ Below w.heap.size w wr)
  case atStart => exact ⟨0, by simp, rfl, Below.refl _ _⟩
  case round =>
    obtain ⟨k, hkg, rfl, hb⟩ := hrel
    by_cases hlt : k < zs.length
    · have hlti : (k : Int) < (zs.length : Int) := by omega
      have hz : zs[k]? = some zs[k] := List.getElem?_eq_getElem hlt
      obtain ⟨z, hzz⟩ : ∃ z, z = zs[k] := ⟨_, rfl⟩
      rw [← hzz] at hz
      clear hzz
      obtain ⟨p, off, rfl, c⟩ := rde_at HL.out hz
      have kc : Hid _ := HK.out z (List.mem_of_getElem? hz)
      obtain ⟨⟨ix, tm, kd, dt⟩, sa, sn, sc⟩ := z
      dsimp only [ev] at c kc
      have hb2 := hb.alloc hb.size (.cells #[.int .u64 (ix : Int), .int .u64 (tm : Int), .int .i64 kd, .slice sa sn sc] 25)
      have hb3 := hb2.alloc hb2.size (.cells #[.int .u64 (ix : Int), .int .u64 (tm : Int), .int .i64 kd, .slice sa sn sc] 25)
      obtain ⟨c0, c1, c2, c3⟩ := c wr hb
      obtain ⟨d0, d1, d2, d3⟩ := c _ hb2
      have k1 := kc.out _ hb3
      clear hz c HL HK kc
      go_wp2_with fail
      refine k1.mono ?_
      rintro e w1 ⟨rfl, hb1⟩
      have hb4 := hb3.trans (hb1.mono hb3.size)
      clear k1 c0 c1 c2 c3 d0 d1 d2 d3 hb1 hb3 hb2
      go_wp2
      go_roundg (gk - 1)
      case measure => omega
      case rel => exact ⟨k + 1, by omega, by go_num, hb4⟩
    · have hlti : ¬ (k : Int) < (zs.length : Int) := by omega
      clear HL HK
      go_wp2
      go_ret
      exact ⟨rfl, hb⟩

set_option maxHeartbeats 2000000 in
theorem psame_of (b : Ez) (zs : List Ez) (lv : Value) (w : World) (hD : DataV w b) (hL : EntsV w lv zs) (hbo : EzOk b) (hok : ∀ z ∈ zs, EzOk z) (hlen : zs.length ≤ 1000000000000) : Calls Tryz.prog 46 #[lgv b lv, lgv b lv] w fun e w' => e = .returned (.bool true) ∧ Below w.heap.size w w' := by
  obtain ⟨hs0, hb0, cl⟩ := lg_box w b lv
  obtain ⟨hs1, hb1, cl1⟩ := lg_box (w.alloc (lgc b lv)) b lv
  have hb01 := hb0.trans (hb1.mono hb0.size)
  rw [hs0] at hs1 hb1 cl1
  have hb1' : Below (w.heap.size + 1) (w.alloc (lgc b lv)) ((w.alloc (lgc b lv)).alloc (lgc b lv)) := hb1
  obtain ⟨c0, c1, c2, c3, c4⟩ := cl _ hb1'
  obtain ⟨d0, d1, d2, d3, d4⟩ := cl1 _ (Below.refl _ _)
  have k1 := alike_of b.1 b.2 b.2 ((w.alloc (lgc b lv)).alloc (lgc b lv)) (hD.below hb01) (hD.below hb01) hbo.2.2
  have k2 := fun W (hW : Below w.heap.size w W) => eqfunc_of zs lv W (hL.below hW) hok hlen
  rw [hs1] at k1
  obtain ⟨za, zc, rfl, -, -⟩ := hL.1.shape
  obtain ⟨⟨ix, tm, kd, dt⟩, sa, sn, sc⟩ := b
  dsimp only [lgc, ev] at *
  have hws : ∀ W, Below (w.heap.size + 1 + 1) ((w.alloc (.cells #[.int .u64 (ix : Int), .int .u64 (tm : Int), .int .i64 kd, .slice sa sn sc, .slice za zs.length zc] 28)).alloc (.cells #[.int .u64 (ix : Int), .int .u64 (tm : Int), .int .i64 kd, .slice sa sn sc, .slice za zs.length zc] 28)) W → W.cell? ⟨w.heap.size, 4, none⟩ = some (.slice za zs.length zc) ∧ W.cell? ⟨w.heap.size + 1, 4, none⟩ = some (.slice za zs.length zc) := fun W hW => ⟨(cl W (hb1'.trans (hW.mono (Nat.le_succ _)))).2.2.2.2, (cl1 W hW).2.2.2.2⟩
  clear cl cl1 hD hL hbo hok
  go_enter Tryz.func46, Tryz.ntmps46
  go_wp2_with fail
  refine k1.mono ?_
  rintro e w1 ⟨rfl, hb2⟩
  obtain ⟨e4, f4⟩ := hws w1 hb2
  have hb02 := hb01.trans (hb2.mono (by omega))
  have k21 := k2 w1 hb02
  clear k1 k2 hws c0 c1 c2 c3 c4 d0 d1 d2 d3 d4
  go_wp2_with fail
  refine k21.mono ?_
  rintro e w2 ⟨rfl, hb3⟩
  go_wp2
  go_ret
  exact ⟨rfl, hb02.trans (hb3.mono hb02.size)⟩
end Go.Proofs.YtncoandnelgkeaaGreat

