import Derived.Test.YtiblcbcfdmnmhaaHe40
/- The law LeasePacks. -/
namespace Go.Proofs.Ytiblcbcfdmnmhaa
open Go.RowKit LeaseMath
set_option maxRecDepth 100000
set_option linter.unusedSimpArgs false
set_option linter.unusedVariables false

set_option maxHeartbeats 8000000 in
theorem packs_yes (zs : List Hd) (lv : Value) (now thn : Int) (w : World) (hL : Rd holdE w lv zs) (h0 : 0 ≤ now) (h1 : now ≤ 2147483647) (hB : mayB holdB zs = true) (h2 : 0 ≤ thn) (h3 : thn ≤ 2147483647) : Calls Try.prog 6 #[lv, .int .i64 now, .int .i64 thn] w fun e w' => e = .returned (.bool true) ∧ Below w.heap.size w w' := by
  have k1 := pack_of zs lv now w hL
  have k6 : ∀ W, Below w.heap.size w W → _ := fun W hW => rmay_of zs lv W (hL.below hW)
  have k7 := fun W => awake_of W
  have HL : Hid (Rd holdE w lv zs) := hL
  have TB : timeB now = true := time_iff.2 ⟨h0, h1⟩
  have hmt : (mayB holdB zs && timeB now) = true := by rw [TB, hB]; rfl
  have a1 : ¬ now < 0 := by omega
  have a1d : decide (now < 0) = false := decide_eq_false a1
  have a2 : ¬ 2147483647 < now := by omega
  have a2d : decide (2147483647 < now) = false := decide_eq_false a2
  have TT : timeB thn = true := time_iff.2 ⟨h2, h3⟩
  have b1 : ¬ thn < 0 := by omega
  have b1d : decide (thn < 0) = false := decide_eq_false b1
  have b2 : ¬ 2147483647 < thn := by omega
  have b2d : decide (2147483647 < thn) = false := decide_eq_false b2
  unfold PackT at k1
  simp only [hmt, Bool.false_eq_true, if_false, if_true] at k1
  obtain ⟨ao, cap, rfl, -, -⟩ := hL.shape
  rw [hB] at k6
  have hm2 : mayB holdB (zs.map (packM now)) = true := may_map (fun h => ⟨rfl, rfl⟩) (fun h hh => pack_time TB ((may_iff.1 hB).2.1 h hh)) hB
  have hlen := (may_iff.1 hB).1
  have hll : (zs.map (packM now)).length = zs.length := by simp
  have k2 : ∀ (u : Value) W, Rd holdE W u (zs.map (packM now)) → _ := fun u W h => unpack_of (zs.map (packM now)) u thn W h
  unfold UnpackT at k2
  simp only [hm2, Bool.true_and, TT, Bool.false_eq_true, if_false, if_true] at k2
  have HOK : Hid (∀ h ∈ zs, holdB h = true) := (may_iff.1 hB).2.1
  clear hL hmt hB TB TT hm2
  go_enter Try.func6, Try.ntmps6
  go_wp2_with fail
  refine k1.mono ?_
  rintro e w1 ⟨⟨v1, Q1, rfl, hO1, hQ1⟩, hw1⟩
  subst hQ1
  have hR1 := hO1.1.rd
  obtain ⟨a1, p1, rfl, -⟩ := hO1.1.shape
  rw [hll] at hR1 ⊢
  have kk6 := k6 w1 hw1
  clear k1 k6 hO1
  go_wp2_with fail
  refine kk6.mono ?_
  rintro e w2 ⟨rfl, hb2⟩
  have hw2 := hw1.trans (hb2.mono hw1.size)
  have hR1 := hR1.below hb2
  clear kk6 hb2 hw1
  have kk2 := k2 _ w2 hR1
  clear k2
  go_wp2_with fail
  refine kk2.mono ?_
  rintro e w3 ⟨⟨v3, Q3, rfl, hO3, hQ3⟩, hb3⟩
  subst hQ3
  have hR3 := hO3.1.rd
  obtain ⟨a3, p3, rfl, -⟩ := hO3.1.shape
  rw [List.length_map, hll] at hR3 ⊢
  have hw3 := hw2.trans (hb3.mono hw2.size)
  have hR1 := hR1.below hb3
  clear kk2 hO3 hb3 hw2
  have HL3 : Hid (Rd holdE w3 (.slice ao zs.length cap) zs) := HL.out.below hw3
  have HR1 : Hid (Rd holdE w3 (.slice a1 zs.length p1) (zs.map (packM now))) := hR1
  have HR3 : Hid (Rd holdE w3 (.slice a3 zs.length p3) ((zs.map (packM now)).map (unpackM thn))) := hR3
  clear HL hR1 hR3
  go_wp2
  go_loopg [11] zs.length (fun g s11 wr => ∃ i : Nat, i + g = zs.length ∧ s11 = .int .i64 (i : Int) ∧ Below w3.heap.size w3 wr)
  case atStart => exact ⟨0, by omega, rfl, Below.refl _ _⟩
  case round =>
    obtain ⟨i, hig, rfl, hb⟩ := hrel
    by_cases hlt : i < zs.length
    · have hlti : (i : Int) < (zs.length : Int) := by omega
      have hx : zs[i]? = some zs[i] := List.getElem?_eq_getElem hlt
      obtain ⟨z, hzz⟩ : ∃ z, z = zs[i] := ⟨_, rfl⟩
      rw [← hzz] at hx
      clear hzz
      have hx1 : (zs.map (packM now))[i]? = some (packM now z) := by rw [List.getElem?_map, hx]; rfl
      have hx3 : ((zs.map (packM now)).map (unpackM thn))[i]? = some (unpackM thn (packM now z)) := by rw [List.getElem?_map, hx1]; rfl
      obtain ⟨b, off, rfl, cc⟩ := rdh_at HL3.out hx
      obtain ⟨b1, off1, rfl, cc1⟩ := rdh_at HR1.out hx1
      obtain ⟨b3, off3, rfl, cc3⟩ := rdh_at HR3.out hx3
      obtain ⟨c0, c1, c2⟩ := cc wr hb
      obtain ⟨d0, d1, d2⟩ := cc1 wr hb
      obtain ⟨e0, e1, e2⟩ := cc3 wr hb
      obtain ⟨-, -, hu0, hu1⟩ := hold_iff.1 (HOK.out z (List.mem_of_getElem? hx))
      obtain ⟨k, t, u⟩ := z
      dsimp only [packM, unpackM] at *
      have j1 : IntKind.i64.wrap (u - now) = u - now := IntWalk.i64_in _ (by omega)
      have j2 : IntKind.i64.wrap (2147483647 - thn) = 2147483647 - thn := IntWalk.i64_in _ (by omega)
      clear HL3 HR1 HR3 hx hx1 hx3 cc cc1 cc3 HOK
      by_cases hu : u ≤ now
      · rw [if_pos hu] at d2 e2
        have g1 : u - now < 0 ∨ u - now = 0 := by omega
        have hl0 : laterM thn 0 = thn := by unfold laterM; rw [if_pos (by omega)]; omega
        rw [hl0] at e2
        by_cases hz0 : u - now < 0
        · by_cases h9 : (0 : Int) < 2147483647 - thn
          · have t0 : IntKind.i64.wrap thn = thn := IntWalk.i64_in _ (by omega)
            clear hu g1 hl0
            go_wp2
            go_quiet (fail)
            have hb2 := below_drewN hb nq
            generalize wr.drewN nq = w5 at *
            clear hb c0 c1 c2 d0 d1 d2 e0 e1 e2
            go_wp2
            go_roundg (gk - 1)
            case measure => omega
            case rel => exact ⟨i + 1, by omega, by go_num, hb2⟩
          · have h9e : thn = 2147483647 := by omega
            have hT : Hid (thn = 2147483647) := h9e
            rw [h9e] at e2
            clear hu g1 hl0 h9e
            go_wp2
            go_quiet (fail)
            have hb2 := below_drewN hb nq
            generalize wr.drewN nq = w5 at *
            clear hb c0 c1 c2 d0 d1 d2 e0 e1 e2
            go_wp2
            go_roundg (gk - 1)
            case measure => omega
            case rel => exact ⟨i + 1, by omega, by go_num, hb2⟩
        · have hz1 : u - now = 0 := by omega
          have hz2 : Hid (u = now) := by show _ = _; omega
          by_cases h9 : (0 : Int) < 2147483647 - thn
          · have t0 : IntKind.i64.wrap thn = thn := IntWalk.i64_in _ (by omega)
            clear hu g1 hl0
            go_wp2
            go_quiet (fail)
            have hb2 := below_drewN hb nq
            generalize wr.drewN nq = w5 at *
            clear hb c0 c1 c2 d0 d1 d2 e0 e1 e2
            go_wp2
            go_roundg (gk - 1)
            case measure => omega
            case rel => exact ⟨i + 1, by omega, by go_num, hb2⟩
          · have h9e : thn = 2147483647 := by omega
            have hT : Hid (thn = 2147483647) := h9e
            rw [h9e] at e2
            clear hu g1 hl0 h9e
            go_wp2
            go_quiet (fail)
            have hb2 := below_drewN hb nq
            generalize wr.drewN nq = w5 at *
            clear hb c0 c1 c2 d0 d1 d2 e0 e1 e2
            go_wp2
            go_roundg (gk - 1)
            case measure => omega
            case rel => exact ⟨i + 1, by omega, by go_num, hb2⟩
      · rw [if_neg hu] at d2 e2
        have hz0 : ¬ u - now < 0 := by omega
        by_cases h9 : u - now < 2147483647 - thn
        · have j3 : IntKind.i64.wrap (thn + (u - now)) = thn + (u - now) := IntWalk.i64_in _ (by omega)
          have hl9 : laterM thn (u - now) = thn + (u - now) := by unfold laterM; rw [if_pos (by omega)]
          rw [hl9] at e2
          clear hu
          go_wp2
          go_quiet (fail)
          have hb2 := below_drewN hb nq
          generalize wr.drewN nq = w5 at *
          clear hb c0 c1 c2 d0 d1 d2 e0 e1 e2
          go_wp2
          go_roundg (gk - 1)
          case measure => omega
          case rel => exact ⟨i + 1, by omega, by go_num, hb2⟩
        · have hl9 : laterM thn (u - now) = 2147483647 := by
            unfold laterM
            split
            · omega
            · rfl
          rw [hl9] at e2
          clear hu
          go_wp2
          go_quiet (fail)
          have hb2 := below_drewN hb nq
          generalize wr.drewN nq = w5 at *
          clear hb c0 c1 c2 d0 d1 d2 e0 e1 e2
          go_wp2
          go_roundg (gk - 1)
          case measure => omega
          case rel => exact ⟨i + 1, by omega, by go_num, hb2⟩
    · have hlti : ¬ (i : Int) < (zs.length : Int) := by omega
      have hw4 := hw3.trans (hb.mono hw3.size)
      clear HL3 HR1 HR3 hb hw3 HOK
      have kk7 := k7 wr
      go_wp2_with fail
      refine kk7.mono ?_
      rintro e w9 ⟨rfl, hb9⟩
      have hw9 := hw4.trans (hb9.mono hw4.size)
      clear kk7 hb9 hw4
      go_wp2
      go_ret
      exact ⟨by first | rfl | simp, hw9⟩

theorem packs_law (zs : List Hd) (lv : Value) (now thn : Int) (w : World) (hL : Rd holdE w lv zs) : Calls Try.prog 6 #[lv, .int .i64 now, .int .i64 thn] w fun e w' => e = .returned (.bool true) ∧ Below w.heap.size w w' := by
  cases hB : mayB holdB zs with
  | false => exact packs_may zs lv now thn w hL hB
  | true =>
    by_cases h0 : now < 0
    · exact packs_low zs lv now thn w hL h0 hB
    by_cases h1 : 2147483647 < now
    · exact packs_high zs lv now thn w hL h1 hB
    by_cases h2 : thn < 0
    · exact packs_tlow zs lv now thn w hL (by omega) (by omega) hB h2
    by_cases h3 : 2147483647 < thn
    · exact packs_thigh zs lv now thn w hL (by omega) (by omega) hB h3
    · exact packs_yes zs lv now thn w hL (by omega) (by omega) hB (by omega) (by omega)
end Go.Proofs.Ytiblcbcfdmnmhaa

