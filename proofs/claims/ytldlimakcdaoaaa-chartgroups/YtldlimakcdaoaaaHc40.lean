import Derived.Test.YtldlimakcdaoaaaHc39
/- The contract of the document's own Groups. -/
namespace Go.Proofs.Ytldlimakcdaoaaa
open Go.RowKit SpanMath ChartMath
set_option maxRecDepth 100000
set_option linter.unusedSimpArgs false
set_option linter.unusedVariables false

theorem hasG_zero {l : List Rg} (hC : Chart l) (ks : List K) : hasG l ks 0 = false := by
  unfold hasG
  rw [List.any_eq_false]
  intro k _
  obtain ⟨i, r, _, _, G, _, h1, _, h2⟩ := grpAt_of hC k
  rw [h2]
  simp
  omega
set_option maxHeartbeats 8000000 in
theorem rgroups_of (l : List Rg) (lv : Value) (ks : List K) (kv : Value) (w : World) (hF : Cv w lv l) (hC : Chart l) (hK : Rd keyE w kv ks) (hok : keysOk ks = true) (hlen : ks.length ≤ 1000000) : Calls Try.prog 29 #[lv, kv] w fun e w' => ∃ v, e = .returned v ∧ Rd intE w' v (grpsTo l ks 17) ∧ Below w.heap.size w w' := by
  obtain ⟨ao, cap, rfl, h2⟩ := id hF
  obtain ⟨ka, kcap, rfl, -, -, hk2⟩ := id hK
  have hl64 := hC.len
  have hkW : ∀ W, Below w.heap.size w W → ∀ (m : Nat) (k : K), ks[m]? = some k → ∃ b off, ka = some ⟨b, off, none⟩ ∧ W.cell? ⟨b, off + m, none⟩ = some (.string (bk k)) := fun W hW m k hk => by
    obtain ⟨b, off, r1, r2⟩ := hk2 m k 0 _ hk rfl
    rw [show m * keyE.k + 0 = m from Nat.mul_one m] at r2
    exact ⟨b, off, r1, (hW.cell (p := ⟨b, off + m, none⟩) (World.block_lt_of_cell? w _ r2)).trans r2⟩
  have hkl : ∀ (m : Nat) (k : K), ks[m]? = some k → k.length ≤ 64 := fun m k hk => by
    unfold keysOk at hok
    rw [List.all_eq_true] at hok
    have := hok k (List.mem_of_getElem? hk)
    simpa using this
  have hfW : ∀ W, Below w.heap.size w W → ∀ (k : K) (i : Nat), k.length ≤ 64 → place l k = some i → Calls Try.prog 19 #[.slice ao l.length cap, .string (bk k)] W fun e w' => e = .returned (.int .i64 (i : Int)) ∧ Below W.heap.size W w' := fun W hW k i h1 h3 => by
    have := rfind_of l _ k W (hF.below hW)
    rw [show findM l k = some i by unfold findM; rw [mayC_iff.2 hC, decide_eq_true h1, Bool.and_self, if_pos rfl]; exact h3] at this
    exact this
  obtain ⟨q1, q2, q3⟩ := one_box w (.cells #[] 3)
  have hO0 : OwnI w.heap.size (w.alloc (.cells #[] 3)) (.slice (some ⟨w.heap.size, 0, none⟩) 0 0) (grpsTo l ks 1) := by
    rw [grps_no (hasG_zero hC ks)]
    exact ⟨Rk.made (E := intE) (xs := []) q2 rfl (by unfold maxLen; simp), fun k hk => by cases hk; exact Nat.le_refl _⟩
  clear q1 q2 hk2 hK hok
  go_enter Try.func29, Try.ntmps29
  go_wp2
  go_loopg [5, 6] 16 (fun gg s5 s6 wr => ∃ (j : Nat) (st : Value), j + gg = 16 ∧ s6 = .int .i64 (((j + 1 : Nat)) : Int) ∧ st = s5 ∧ OwnI w.heap.size wr st (grpsTo l ks (j + 1)) ∧ Below w.heap.size w wr)
  case atStart => exact ⟨0, _, by simp, rfl, rfl, hO0, q3⟩
  case round =>
    obtain ⟨j, st, hjg, rfl, rfl, hO, hb⟩ := hrel
    clear hO0 q3
    obtain ⟨J, hJ⟩ : ∃ J : Nat, J = j + 1 := ⟨_, rfl⟩
    have HJ : Hid (J = j + 1) := hJ
    rw [← hJ] at hO ⊢
    clear hJ
    obtain ⟨GK, hGK⟩ : ∃ GK, GK = gk := ⟨_, rfl⟩
    have hJb : Hid (J + GK = 17) := by show _ = _; rw [HJ.out]; omega
    by_cases hj : J ≤ 16
    · have hji : (J : Int) ≤ 16 := by omega
      have hJw : IntKind.i64.wrap ((J : Int) + 1) = (J : Int) + 1 := IntWalk.i64_in _ (by omega)
      have hGKp : 0 < GK := by have := hJb.out; omega
      go_wp2
      obtain ⟨wz, hwz⟩ : ∃ wz, wz = wr := ⟨_, rfl⟩
      subst hwz
      go_loopg [5, 7] ks.length (fun gg s5 s7 wr => ∃ (m : Nat) (st : Value), m + gg = ks.length ∧ s7 = .int .i64 (m : Int) ∧ st = s5 ∧ OwnI w.heap.size wr st (grpsTo l ks J) ∧ Below w.heap.size w wr ∧ Hid (hasG l (ks.take m) J = false))
      case atStart => exact ⟨0, _, by simp, rfl, rfl, hO, hb, by show _ = _; simp [hasG]⟩
      case round =>
        obtain ⟨m, st, hmg, rfl, rfl, hO1, hb1, HN⟩ := hrel
        clear hO hb
        by_cases hlt : m < ks.length
        · have hlti : (m : Int) < (ks.length : Int) := by omega
          have hx : ks[m]? = some ks[m] := List.getElem?_eq_getElem hlt
          obtain ⟨kb, ko, rfl, c0⟩ := hkW wr hb1 m _ hx
          obtain ⟨k, hk⟩ : ∃ k, k = ks[m] := ⟨_, rfl⟩
          rw [← hk] at hx c0
          obtain ⟨i, r, hp, hr, G, hG, hG1, hG2, hgA⟩ := grpAt_of hC k
          have kf := hfW wr hb1 k i (hkl m k hx) hp
          obtain ⟨b, off, rfl, cx⟩ := cv_at hF hr
          obtain ⟨⟨r1, r2⟩, rg, re⟩ := r
          dsimp only at hG cx
          subst hG
          have hil : (i : Int) < (l.length : Int) := by have := (List.getElem?_eq_some_iff.1 hr).1; omega
          have hi0 : (0 : Int) ≤ (i : Int) := by omega
          have hnx := hasG_take (l := l) hx J
          rw [hgA, HN.out, Bool.false_or] at hnx
          have hall : hasG l (ks.take (m + 1)) J = true → hasG l ks J = true := fun h => by
            unfold hasG at h ⊢
            rw [List.any_eq_true] at h ⊢
            obtain ⟨x, h1, h3⟩ := h
            exact ⟨x, List.mem_of_mem_take h1, h3⟩
          clear hk hp hr hgA HN
          go_wp2_with fail
          refine kf.mono ?_
          rintro e w2 ⟨rfl, hb2'⟩
          have hb2 := hb1.trans (hb2'.mono hb1.size)
          have hO2 := hO1.below hb2'
          obtain ⟨-, -, e2, -⟩ := cx w2 hb2
          clear kf hO1 hb1 hb2' cx c0
          by_cases hGJ : G = J
          · have hgb : ((G : Int) == (J : Int)) = true := by simp [hGJ]
            have HX : Hid (grpsTo l ks (J + 1) = grpsTo l ks J ++ [(J : Int)]) := grps_yes (hall (by rw [hnx, hGJ]; simp))
            have hln := grps_len l ks J
            have hrun : Hid _ := push_int (J : Int) hO2.1 (by omega)
            obtain ⟨sa, sc, hst, -⟩ := hO2.1.shape
            clear hnx hall hx
            generalize (grpsTo l ks J).length = LN at *
            subst hst
            clear hGJ
            go_wp2_with (at_builtin; refine wp_by rfl _ _ _ rfl _ _ rfl rfl hrun.out ?_)
            intro v6 w6 hp6
            obtain ⟨hO6, hb6⟩ := hO2.push hb2.size hp6
            clear hO2 hrun hp6
            go_wp2
            go_roundg (GK - 1)
            case measure => omega
            case rel => exact ⟨j + 1, v6, by omega, by rw [HJ.out]; go_num, rfl, by rw [← HJ.out, HX.out]; exact hO6, hb2.trans hb6⟩
          · have hgb : ((G : Int) == (J : Int)) = false := by simpa using fun h => hGJ (by omega)
            have HN2 : Hid (hasG l (ks.take (m + 1)) J = false) := by
              show _ = _
              rw [hnx]
              simp
              omega
            clear hnx hall hx hGJ
            go_wp2
            go_roundg (gk - 1)
            case measure => omega
            case rel => exact ⟨m + 1, _, by omega, by go_num, rfl, hO2, hb2, HN2⟩
        · have hlti : ¬ (m : Int) < (ks.length : Int) := by omega
          obtain rfl : m = ks.length := by omega
          have HX : Hid (grpsTo l ks (J + 1) = grpsTo l ks J) := grps_no (by have := HN.out; rw [List.take_length] at this; exact this)
          clear HN
          go_wp2
          go_roundg (GK - 1)
          case measure => omega
          case rel => exact ⟨j + 1, _, by omega, by rw [HJ.out]; go_num, rfl, by rw [← HJ.out, HX.out]; exact hO1, hb1⟩
    · have hji : ¬ (J : Int) ≤ 16 := by omega
      obtain rfl : J = 17 := by have := hJb.out; omega
      clear hkW hfW hF h2
      go_wp2
      go_ret
      exact ⟨_, rfl, hO.1.rd, hb⟩
end Go.Proofs.Ytldlimakcdaoaaa

