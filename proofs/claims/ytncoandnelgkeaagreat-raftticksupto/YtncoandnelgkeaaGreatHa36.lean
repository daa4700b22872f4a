import Derived.Test.YtncoandnelgkeaaGreatHa19
import Derived.Test.YtncoandnelgkeaaGreatHa04
/- The document's follow, won. -/
namespace Go.Proofs.YtncoandnelgkeaaGreat
open Go.RowKit QuorumMath RlogMath RaftMath
set_option maxRecDepth 100000
set_option linter.unusedSimpArgs false
set_option linter.unusedVariables false

set_option maxHeartbeats 8000000 in
theorem fol_of (n : Nat) (s : Ms) (T : Nat) (v : Value) (w : World) (hS : StV n w v s) (hn : n ≤ w.heap.size) : Calls Tryz.prog 59 #[v, .int .u64 (T : Int)] w fun e w' => ∃ v', e = .returned v' ∧ StV n w' v' (folR s T) ∧ Below w.heap.size w w' := by
  obtain ⟨z, gs, os, rfl, hz, hR, hM, ho⟩ := hS
  obtain ⟨r, zs, ⟨ba, bn, bc⟩, ⟨la, ln, lc⟩, ⟨va, vn, vc⟩, ⟨pa, pn, pc⟩⟩ := z
  obtain ⟨sr, so⟩ := s
  obtain rfl : r = sr := hz
  obtain ⟨nd, tm, vo, ⟨bi, bt, bk, bd⟩, lg, cm, ro, le, el, vt, pe⟩ := r
  obtain ⟨oa, on, oc⟩ := os
  dsimp only at ho
  dsimp only [sv]
  have HC : Hid (∀ W, Below w.heap.size w W → StV n W (.agg #[.int .i64 nd, .int .u64 (T : Int), .int .i64 0, .int .u64 (bi : Int), .int .u64 (bt : Int), .int .i64 bk, .slice ba bn bc, .slice la ln lc, .int .u64 (cm : Int), .int .i64 0, .int .i64 0, .int .i64 el, .slice none 0 0, .slice none 0 0, .slice oa on oc]) ⟨⟨nd, T, 0, ⟨bi, bt, bk, bd⟩, lg, cm, 0, 0, el, [], []⟩, so⟩) := fun W hW => ⟨⟨⟨nd, T, 0, ⟨bi, bt, bk, bd⟩, lg, cm, 0, 0, el, [], []⟩, zs, (ba, bn, bc), (la, ln, lc), (none, 0, 0), (none, 0, 0)⟩, gs, (oa, on, oc), rfl, rfl, ⟨hR.1.below hW, hR.2.1.below hW, hR.2.2.1, RdN.nil _ _ _ _, RdN.nil _ _ _ _⟩, hM.below hW, ho⟩
  obtain ⟨hsz, B1, B2, B3, hb3⟩ := three_box w (.cells #[.int .i64 nd, .int .u64 (T : Int), .int .i64 0, .int .u64 (bi : Int), .int .u64 (bt : Int), .int .i64 bk, .slice ba bn bc, .slice la ln lc, .int .u64 (cm : Int), .int .i64 0, .int .i64 0, .int .i64 el, .slice none 0 0, .slice none 0 0, .slice oa on oc] 54) (.cells #[.int .i64 nd, .int .u64 (T : Int), .int .i64 0, .int .u64 (bi : Int), .int .u64 (bt : Int), .int .i64 bk, .slice ba bn bc, .slice la ln lc, .int .u64 (cm : Int), .int .i64 0, .int .i64 0, .int .i64 el, .slice none 0 0, .slice none 0 0, .slice oa on oc] 54) (.cells #[.int .i64 nd, .int .u64 (tm : Int), .int .i64 vo, .int .u64 (bi : Int), .int .u64 (bt : Int), .int .i64 bk, .slice ba bn bc, .slice la ln lc, .int .u64 (cm : Int), .int .i64 ro, .int .i64 le, .int .i64 el, .slice va vn vc, .slice pa pn pc] 32)
  clear hR hM ho
  go_enter Tryz.func59, Tryz.ntmps59
  go_wp2
  (try simp only [Exit.inBlock, Exit.then])
  refine bodyPost_ret (results_stv rfl _ _ (w.heap.size + 1) #[.int .i64 nd, .int .u64 (T : Int), .int .i64 0, .int .u64 (bi : Int), .int .u64 (bt : Int), .int .i64 bk, .slice ba bn bc, .slice la ln lc, .int .u64 (cm : Int), .int .i64 0, .int .i64 0, .int .i64 el, .slice none 0 0, .slice none 0 0, .slice oa on oc] rfl rfl B2) rfl ?_
  exact ⟨_, rfl, HC.out _ hb3, hb3⟩
set_option maxHeartbeats 2000000 in
theorem rwon_of (v : List Int) (vv : Value) (l : List Int) (lv : Value) (w : World) (hV : Rd intE w vv v) (hF : Rd intE w lv l) (hlv : v.length ≤ 1000000000) (hlen : l.length ≤ 1000000000) : Calls Tryz.prog 93 #[vv, lv] w fun e w' => e = .returned (.bool (wonR v l)) ∧ w' = w := by
  obtain ⟨B, HB⟩ : ∃ B, Hid (B = wonR v l) := ⟨_, rfl⟩
  rw [← HB.out]
  have kc := rcount_of v vv l lv w hV hF (by omega) (by omega)
  have hcl := cnt_le v l
  obtain ⟨va, vc, rfl, -, -⟩ := hV.shape
  obtain ⟨la, lc, rfl, -, -⟩ := hF.shape
  have hB := HB.out
  unfold wonR at hB
  clear hV hF HB
  generalize cnt v l = C at *
  generalize v.length = N at *
  have q1 : IntKind.i64.wrap (2 * (C : Int)) = 2 * (C : Int) := IntWalk.i64_in _ (by omega)
  have E : Hid (B = decide ((N : Int) < 2 * (C : Int))) := by
    show _ = _
    rw [hB, decide_eq_decide]
    omega
  clear hB
  go_enter Tryz.func93, Tryz.ntmps93
  go_wp2_with fail
  refine kc.mono ?_
  rintro e w1 ⟨rfl, hw⟩
  subst hw
  go_wp2
  go_ret
  exact ⟨by rw [E.out]; rfl, rfl⟩
end Go.Proofs.YtncoandnelgkeaaGreat

