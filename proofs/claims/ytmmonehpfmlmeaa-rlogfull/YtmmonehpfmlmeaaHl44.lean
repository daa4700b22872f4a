import Derived.Test.YtmmonehpfmlmeaaHl43
/- The law RlogFull. -/
namespace Go.Proofs.Ytmmonehpfmlmeaa
open Go.RowKit QuorumMath RlogMath
set_option maxRecDepth 100000
set_option linter.unusedSimpArgs false
set_option linter.unusedVariables false

set_option maxHeartbeats 16000000 in
theorem full_law (more : Nat) (hmore : more < 256) (w : World) : Calls Try.prog 7 #[.int .u8 (more : Int)] w fun e w' => e = .returned (.bool true) ∧ Below w.heap.size w w' := by
  have ka := fun W => awake_of W
  have ks := small_of2 w
  go_enter Try.func7, Try.ntmps7
  go_wp2_with fail
  refine ks.mono ?_
  rintro e w1 ⟨⟨s1a, s1n, s1c⟩, rfl, hD1, hb1⟩
  dsimp only
  clear ks
  go_wp2
  generalize hw2 : w1.alloc (.cells #[.int .u64 0, .int .u64 0, .int .i64 0, .slice s1a s1n s1c, .slice none 0 0] 28) = w2 at *
  have hG2 : w2.heap[w1.heap.size]? = some (.cells #[.int .u64 0, .int .u64 0, .int .i64 0, .slice s1a s1n s1c, .slice none 0 0] 28 (0, 0)) := by rw [← hw2]; exact heap_alloc_new _ _
  have hB2 : Below w1.heap.size w1 w2 := by rw [← hw2]; exact (Below.refl _ _).alloc (Nat.le_refl _) _
  clear hw2
  go_loopg [4] 4094 (fun gh s4 wr => ∃ (i : Nat) (st : Value), i + gh = 4094 ∧ s4 = .int .i64 (i : Int) ∧ wr.heap[w1.heap.size]? = some (.cells #[.int .u64 0, .int .u64 0, .int .i64 0, .slice s1a s1n s1c, st] 28 (0, 0)) ∧ Ow entE 25 (w1.heap.size + 1) wr st (zsE (numL 0 1 i)) ∧ Below w1.heap.size w1 wr)
  case atStart => exact ⟨0, _, by simp, rfl, hG2, Ow.nil _ _ _ _, hB2⟩
  case round =>
    obtain ⟨i, st, hig, rfl, hG, hO, hb⟩ := hrel
    clear hG2 hB2
    have hszr : w1.heap.size + 1 ≤ wr.heap.size := by
      have := (Array.getElem?_eq_some_iff.1 hG).1
      omega
    by_cases hlt : i < 4094
    · have hlti : (i : Int) < 4094 := by omega
      obtain ⟨j, hj⟩ : ∃ j, j = i + 1 := ⟨_, rfl⟩
      have hw1 : IntKind.i64.wrap ((i : Int) + 1) = (j : Int) := by rw [IntWalk.i64_in _ (by omega)]; omega
      have hw2 : IntKind.u64.wrap (j : Int) = (j : Int) := IntWalk.u64_in _ (by omega)
      have HS : Hid (zsE (numL 0 1 (i + 1)) = zsE (numL 0 1 i) ++ [(⟨j, 1, 0, []⟩, (none, 0, 0))]) := by show _ = _; rw [zsE_snoc, hj, Nat.zero_add]
      have hln : (zsE (numL 0 1 i)).length ≤ 10000000000 := by rw [zsE_len, num_len]; omega
      have hrunH : Hid _ := push_ent (⟨j, 1, 0, []⟩, (none, 0, 0)) hO.1 hln
      dsimp only at hrunH
      obtain ⟨⟨f0, f1, f2, f3, f4⟩, o0, o1, o2, o3, o4⟩ := lg_cells hG
      obtain ⟨sa, sc, hst, -⟩ := hO.1.shape
      generalize zsE (numL 0 1 i) = L at *
      subst hst
      have HJ : Hid (j = i + 1) := hj
      clear hj
      go_wp2_with (at_builtin; refine wp_by rfl _ _ _ rfl _ _ rfl rfl hrunH.out ?_)
      intro v6 w6 hp6
      obtain ⟨hO6, hb6⟩ := hO.push hszr hp6
      have hG6 := (hb6.block w1.heap.size (Nat.lt_succ_self _)).trans hG
      have hbw6 := hb.trans (hb6.mono (Nat.le_succ _))
      obtain ⟨⟨g0, g1, g2, g3, g4⟩, r0, r1, r2, r3, r4⟩ := lg_cells hG6
      rw [← HS.out] at hO6
      clear hp6 hrunH hO HS f0 f1 f2 f3 f4 o0 o1 o2 o3 o4 hG hb6 hln
      obtain ⟨va6, vc6, hv6, -⟩ := hO6.1.shape
      generalize hn6 : (zsE (numL 0 1 (i + 1))).length = n6 at hv6
      clear hn6
      subst hv6
      have hGf := lg_set4 hG6 (.slice va6 n6 vc6)
      have hOf := hO6.far (g := w1.heap.size) (i := 4) (Nat.lt_succ_self _) (.slice va6 n6 vc6)
      have hbf := hbw6.setCell (p := ⟨w1.heap.size, 4, none⟩) (Nat.le_refl _) (.slice va6 n6 vc6)
      clear hO6 hbw6
      go_wp2
      go_roundg (gk - 1)
      case measure => omega
      case rel => exact ⟨i + 1, _, by omega, by show Value.int .i64 _ = Value.int .i64 _; congr 1; have := HJ.out; omega, hGf, hOf, hbf⟩
    · have hlti : ¬ (i : Int) < 4094 := by omega
      obtain rfl : i = 4094 := by omega
      have hE : EntsV wr st (zsE fullL) := ⟨hO.1.rd, zsE_data wr fun e he => (num_okz 0 1 4094 (by omega) (by omega) e he).1⟩
      obtain ⟨hok, hdz⟩ := zsE_ok (num_okz 0 1 4094 (by omega) (by omega))
      have hDr := hD1.below hb
      have hzl : (zsE fullL).length = 4094 := by rw [zsE_len]; exact num_len _ _ _
      obtain ⟨sa, sc, hst, -⟩ := hE.1.shape
      have kl := rlast_of (smM, (s1a, s1n, s1c)) (zsE fullL) st wr hE (by omega)
      rw [mes_zsE, full_last] at kl
      have hbw := hb1.trans (hb.mono hb1.size)
      have KM : Hid (∀ (m : Nat) (yv : Value) W, Below wr.heap.size wr W → m ≤ 4 → EntsV W yv (zsE (numL 4094 2 m)) → Calls Try.prog 29 #[lgv (smM, (s1a, s1n, s1c)) st, .int .u64 4094, .int .u64 1, yv] W fun e w' => Lg3T (if 2 < m then (2, zeroMe, [], 0) else (0, smM, fullL ++ numL 4094 2 m, 4094 + m)) e w' ∧ Below W.heap.size W w') := fun m yv W hW hm hY => by
        obtain ⟨oky, dzy⟩ := zsE_ok (num_okz 4094 2 m (by omega) (by omega))
        have k := pmerge_of (smM, (s1a, s1n, s1c)) (zsE fullL) st 4094 1 (zsE (numL 4094 2 m)) yv W (hDr.below hW) (hE.below hW) hY (sm_ok _) hok oky (by decide) (by omega) (by rw [zsE_len, num_len]; omega) (show [1].length ≤ 1000000000 by decide) hdz dzy
        rw [mes_zsE, mes_zsE, show mergeM (smM, ((s1a, s1n, s1c) : Sl)).1 fullL 4094 1 (numL 4094 2 m) = _ from full_merge m hm] at k
        exact k
      have HG : Hid _ := hG
      obtain ⟨⟨f0, f1, f2, f3, f4⟩, o0, o1, o2, o3, o4⟩ := lg_cells hG
      rw [hzl] at hst
      subst hst
      dsimp only [lgv, smM, lastV] at kl KM
      clear hO hE hok hdz hzl hG hD1 hDr hb hb1
      go_wp2_with fail
      refine kl.mono ?_
      rintro e w3 ⟨rfl, hb3⟩
      have hG3 := (hb3.block w1.heap.size (by omega)).trans HG.out
      obtain ⟨hq1, hq2, hq3⟩ := one_box w3 (.cells #[] 25)
      have hO0 : Ow entE 25 w3.heap.size (w3.alloc (.cells #[] 25)) (.slice (some ⟨w3.heap.size, 0, none⟩) 0 0) (zsE (numL 4094 2 0)) := ⟨Rk.made (E := entE) (xs := []) hq2 rfl (by unfold maxLen; simp), fun k hk => by cases hk; exact Nat.le_refl _⟩
      obtain ⟨m, hm⟩ : ∃ m, m = more % 5 := ⟨_, rfl⟩
      have hmr : (more : Int).tmod 5 = (m : Int) := by rw [Int.tmod_eq_emod_of_nonneg (by omega)]; omega
      have hme : (more : Int) % 5 = (m : Int) := by omega
      have hm4 : m ≤ 4 := by omega
      have hmw : IntKind.u8.wrap (m : Int) = (m : Int) := by
        show (m : Int) % 256 = m
        omega
      clear kl hq1 hq2 HG f0 f1 f2 f3 f4 o0 o1 o2 o3 o4 hm
      go_wp2
      generalize w3.alloc (.cells #[] 25) = w4 at *
      go_loopg [7, 8] m (fun gh s7 s8 wr => ∃ (j : Nat) (st : Value), j + gh = m ∧ s8 = .int .i64 (j : Int) ∧ st = s7 ∧ Ow entE 25 w3.heap.size wr st (zsE (numL 4094 2 j)) ∧ Below w3.heap.size w3 wr)
      case atStart => exact ⟨0, _, by simp, rfl, rfl, hO0, hq3⟩
      case round =>
        obtain ⟨j, st, hjg, rfl, rfl, hO, hb4⟩ := hrel
        clear hO0 hq3
        have hln : (zsE (numL 4094 2 j)).length = j := by rw [zsE_len, num_len]
        by_cases hlj : j < m
        · have hlji : (j : Int) < (m : Int) := by omega
          obtain ⟨j1, hj1⟩ : ∃ j1, j1 = 4094 + j := ⟨_, rfl⟩
          obtain ⟨j2, hj2⟩ : ∃ j2, j2 = 4094 + j + 1 := ⟨_, rfl⟩
          have hwa : IntKind.u64.wrap (j : Int) = (j : Int) := IntWalk.u64_in _ (by omega)
          have hwb : IntKind.u64.wrap (4094 + (j : Int)) = (j1 : Int) := by rw [IntWalk.u64_in _ (by omega)]; omega
          have hwc : IntKind.u64.wrap ((j1 : Int) + 1) = (j2 : Int) := by rw [IntWalk.u64_in _ (by omega)]; omega
          have HS : Hid (zsE (numL 4094 2 (j + 1)) = zsE (numL 4094 2 j) ++ [(⟨j2, 2, 0, []⟩, (none, 0, 0))]) := by show _ = _; rw [zsE_snoc, hj2]
          have hrunH : Hid _ := push_ent (⟨j2, 2, 0, []⟩, (none, 0, 0)) hO.1 (by omega)
          dsimp only at hrunH
          obtain ⟨sa, sc, hst, -⟩ := hO.1.shape
          rw [hln] at hst
          subst hst
          clear hj1 hj2 hln
          go_wp2_with (at_builtin; refine wp_by rfl _ _ _ rfl _ _ rfl rfl hrunH.out ?_)
          intro v6 w6 hp6
          obtain ⟨hO6, hb6⟩ := hO.push hb4.size hp6
          rw [← HS.out] at hO6
          clear hp6 hrunH hO HS
          go_wp2
          go_roundg (gk - 1)
          case measure => omega
          case rel => exact ⟨j + 1, v6, by omega, by go_num, rfl, hO6, hb4.trans hb6⟩
        · have hlji : ¬ (j : Int) < (m : Int) := by omega
          obtain rfl : j = m := by omega
          have hbw4 := hb3.trans (hb4.mono hb3.size)
          have hEy : EntsV wr st (zsE (numL 4094 2 j)) := ⟨hO.1.rd, zsE_data wr fun e he => (num_okz 4094 2 j (by omega) (by omega) e he).1⟩
          have km := KM.out j st wr hbw4 hm4 hEy
          have hG4 := (hb4.block w1.heap.size (by have := hb3.size; omega)).trans hG3
          have hbwr := hbw.trans (hbw4.mono hbw.size)
          obtain ⟨⟨f0, f1, f2, f3, f4⟩, o0, o1, o2, o3, o4⟩ := lg_cells hG4
          obtain ⟨sa, sc, hst, -⟩ := hO.1.shape
          rw [hln] at hst
          subst hst
          clear KM hO hEy hG3 hG4 hb3 hb4 hbw hln
          by_cases h2 : 2 < j
          · rw [if_pos h2] at km
            have h2i : (2 : Int) < (j : Int) := by omega
            go_wp2_with fail
            refine km.mono ?_
            rintro e w5 ⟨⟨v5, rfl, s5, zs5, lv5, rfl, hD5, hE5, hm5⟩, hb5⟩
            obtain rfl : zs5 = [] := by simpa [mes] using hm5
            obtain ⟨ta, tc, rfl, -, -⟩ := hE5.1.shape
            obtain ⟨s5a, s5n, s5c⟩ := s5
            have hb05 := hbwr.trans (hb5.mono hbwr.size)
            have hb06 := hb05.alloc hb05.size (.cells #[.int .u64 0, .int .u64 0, .int .i64 0, .slice s5a s5n s5c, .slice ta 0 tc] 28)
            dsimp only [lgv, zeroMe]
            clear km hm5 hD5 hE5
            go_wp2_with fail
            refine (ka _).mono ?_
            rintro e w6 ⟨rfl, hb6⟩
            go_wp2
            go_ret
            exact ⟨rfl, hb06.trans (hb6.mono hb06.size)⟩
          · rw [if_neg h2] at km
            have h2i : ¬ (2 : Int) < (j : Int) := by omega
            go_wp2_with fail
            refine km.mono ?_
            rintro e w5 ⟨⟨v5, rfl, s5, zs5, lv5, rfl, hD5, hE5, hm5⟩, hb5⟩
            dsimp only at hm5 hD5
            have hl5 : zs5.length = 4094 + j := by
              have := congrArg List.length hm5
              rw [List.length_append] at this
              unfold fullL at this
              rw [num_len, num_len] at this
              simpa [mes] using this
            have hok5 := okz_of (zs := zs5) hm5 (fun e he => by
              rw [List.mem_append] at he
              rcases he with he | he
              · obtain ⟨a, b, c⟩ := num_okz 0 1 4094 (by omega) (by omega) e he
                exact ⟨b, c, by rw [a]; simp, by rw [a]; simp⟩
              · obtain ⟨a, b, c⟩ := num_okz 4094 2 j (by omega) (by omega) e he
                exact ⟨b, c, by rw [a]; simp, by rw [a]; simp⟩)
            have hb05 := hbwr.trans (hb5.mono hbwr.size)
            obtain ⟨hs6, hbx6, cl6⟩ := lg_box w5 (smM, s5) lv5
            have hb06 := hb05.trans (hbx6.mono hb05.size)
            have kp := papp_of (smM, s5) zs5 lv5 2 0 [] (none, 0, 0) _ (hD5.below hbx6) (hE5.below hbx6) (sm_ok _) (fun z hz => (hok5 z hz).1) (rdb_nil _) (by simp) (by omega) (show [1].length ≤ 1000000000 by decide) (fun z hz => (hok5 z hz).2) (by simp)
            rw [hm5] at kp
            have hcd := full_app j (by omega)
            rw [← show smM = (smM, s5).1 from rfl] at kp
            generalize appM smM (fullL ++ numL 4094 2 j) 2 0 [] = RA at *
            obtain ⟨ac, am, al⟩ := RA
            dsimp only at hcd
            obtain ⟨n9, hn9⟩ : ∃ n9, n9 = 4094 + j := ⟨_, rfl⟩
            have hw9 : IntKind.i64.wrap (4094 + (j : Int)) = (n9 : Int) := by rw [IntWalk.i64_in _ (by omega)]; omega
            obtain ⟨ta, tc, rfl, -, -⟩ := hE5.1.shape
            obtain ⟨c0, c1, c2, c3, c4⟩ := cl6 _ (Below.refl _ _)
            rw [hl5, ← hn9] at kp c4 hbx6 hb06 c0 c1 c2 c3 ⊢
            obtain ⟨s5a, s5n, s5c⟩ := s5
            dsimp only [lgv, lgc, smM] at *
            clear km hm5 hD5 hE5 hl5 hok5 cl6 hs6 hn9
            by_cases hj2 : j = 2
            · rw [if_pos hj2] at hcd
              subst hcd
              have hj2i : ((j : Int) == 2) = true := by simp; omega
              clear hj2
              go_wp2_with fail
              refine kp.mono ?_
              rintro e w7 ⟨⟨v7, rfl, s7, zs7, lv7, rfl, hD7, hE7, hm7⟩, hb7⟩
              clear hD7 hE7 hm7 kp
              dsimp only [lgv]
              go_wp2_with fail
              refine (ka _).mono ?_
              rintro e w8 ⟨rfl, hb8⟩
              have hb07 := hb06.trans (hb7.mono hb06.size)
              go_wp2
              go_ret
              exact ⟨rfl, hb07.trans (hb8.mono hb07.size)⟩
            · rw [if_neg hj2] at hcd
              subst hcd
              have hj2i : ((j : Int) == 2) = false := by simp; omega
              go_wp2_with fail
              refine kp.mono ?_
              rintro e w7 ⟨⟨v7, rfl, s7, zs7, lv7, rfl, hD7, hE7, hm7⟩, hb7⟩
              clear hD7 hE7 hm7 kp
              dsimp only [lgv]
              go_wp2_with fail
              refine (ka _).mono ?_
              rintro e w8 ⟨rfl, hb8⟩
              have hb07 := hb06.trans (hb7.mono hb06.size)
              go_wp2
              go_ret
              exact ⟨rfl, hb07.trans (hb8.mono hb07.size)⟩
end Go.Proofs.Ytmmonehpfmlmeaa

