import Derived.Test.YtncoandnelgkeaaGreatHc12
/- The program's Voters: a row of one's own. -/
namespace Go.Proofs.YtncoandnelgkeaaGreat
open Go.RowKit QuorumMath RlogMath
set_option maxRecDepth 100000
set_option linter.unusedSimpArgs false
set_option linter.unusedVariables false

set_option maxHeartbeats 2000000 in
theorem pvot_c (b : Ez) (zs : List Ez) (lv : Value) (w : World) (hD : DataV w b) (hL : EntsV w lv zs) (hbo : EzOk b) (hok : ∀ z ∈ zs, EzOk z) (hlen : zs.length ≤ 1000000000) (hdl : b.1.data.length ≤ 1000000000) (hdz : ∀ z ∈ zs, z.1.data.length ≤ 1000000000) : Calls Tryz.prog 103 #[lgv b lv] w fun e w' => ∃ v, e = .returned v ∧ Ow intE 3 w.heap.size w' v (votM b.1 (mes zs)) ∧ Below w.heap.size w w' := by
  obtain ⟨hs, hb0, cl⟩ := lg_box w b lv
  have kl := lastv_of b zs lv (w.alloc (lgc b lv)) (w.alloc (lgc b lv)) (hD.below hb0) (hL.below hb0).2 (hL.below hb0).1 hlen
  have HC : Hid (∀ l : List Ez, (∀ z ∈ l, EzOk z ∧ z.1.data.length ≤ 1000000000) → ∀ d : List Nat, ((∀ c ∈ d, c < 256) ∧ d.length ≤ 1000000000) → (∀ c ∈ votF d (mes l), c < 256) ∧ (votF d (mes l)).length ≤ 1000000000) := fun l => by
    induction l with
    | nil => exact fun _ d hd => hd
    | cons z l ih =>
      intro h d hd
      show (∀ c ∈ votF (if z.1.kind = 2 then z.1.data else d) (mes l), _) ∧ (votF (if z.1.kind = 2 then z.1.data else d) (mes l)).length ≤ _
      refine ih (fun y hy => h y (List.mem_cons_of_mem _ hy)) _ ?_
      split
      · exact ⟨(h z List.mem_cons_self).1.2.2, (h z List.mem_cons_self).2⟩
      · exact hd
  obtain ⟨hvc, hvl⟩ := HC.out zs (fun z hz => ⟨hok z hz, hdz z hz⟩) b.1.data ⟨hbo.2.2, hdl⟩
  unfold votM
  generalize votF b.1.data (mes zs) = V at *
  obtain ⟨la, lc, rfl, -, -⟩ := hL.1.shape
  obtain ⟨⟨ix, tm, kd, dt⟩, sa, sn, sc⟩ := b
  dsimp only [lgc, ev] at *
  obtain ⟨c0, c1, c2, c3, c4⟩ := cl _ (Below.refl _ _)
  clear hD hL hbo hok hdz HC cl
  go_enter Tryz.func103, Tryz.ntmps103
  go_wp2_with fail
  refine kl.mono ?_
  rintro e w1 ⟨⟨va, vn, vc⟩, rfl, hR, hb1⟩
  dsimp only at *
  have kn := pnodes_of V (.slice va vn vc) w1 (hR.below hb1) hvl hvc
  have hb01 := hb0.trans (hb1.mono hb0.size)
  clear kl hR c0 c1 c2 c3 c4
  go_wp2_with fail
  refine kn.mono ?_
  rintro e w2 ⟨u, rfl, hO, hb2⟩
  have hRd := hO.mono hb01.size
  clear kn hO
  go_wp2
  go_ret
  exact ⟨_, rfl, hRd, hb01.trans (hb2.mono hb01.size)⟩
end Go.Proofs.YtncoandnelgkeaaGreat

