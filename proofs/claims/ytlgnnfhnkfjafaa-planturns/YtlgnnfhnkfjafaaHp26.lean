import Derived.Test.YtlgnnfhnkfjafaaHp25
/- The contract of the document's own put. -/
namespace Go.Proofs.Ytlgnnfhnkfjafaa
open Go.RowKit SpanMath ChartMath
set_option maxRecDepth 100000
set_option linter.unusedSimpArgs false
set_option linter.unusedVariables false

theorem map_take {α β : Type} {f : α → β} {W : List α} {m : Nat} {r : α} (h : W[m]? = some r) : (W.take (m + 1)).map f = (W.take m).map f ++ [f r] := by
  rw [take_succ_get h, List.map_append]
  rfl

set_option maxHeartbeats 8000000 in
theorem rput_of (l W : List Rg) (lv wv : Value) (i j : Nat) (w : World) (hF : Rd rgE w lv l) (hG : Rd rgE w wv W) (hC : Chart l) (hi : i ≤ j) (hj : j ≤ l.length) (hw0 : 0 < W.length) (hw2 : W.length ≤ 2) :
    Calls Try.prog 44 #[lv, .int .i64 (i : Int), .int .i64 (j : Int), wv] w fun e w' => TurnT (putM l i j (W.map fun r => (r.1, r.2.1))) e w' ∧ Below w.heap.size w w' := by
  obtain ⟨T, HT⟩ : ∃ T, Hid (T = TurnT (putM l i j (W.map fun r => (r.1, r.2.1)))) := ⟨_, rfl⟩
  rw [← HT.out]
  have kv := rversion_of l lv w hF.cv (by have := hC.len; omega)
  have hv : verC l = ver l := by unfold verC; rw [if_pos (mayC_iff.2 hC)]
  rw [hv] at kv
  have hle := hC.ver_le
  have h0 := ver_nonneg l
  have hl64 := hC.len
  obtain ⟨E, hE⟩ : ∃ E, E = ver l + 1 := ⟨_, rfl⟩
  have HTE : Hid (T = TurnT (if 64 < (stM l W i j E W.length).length ∨ 4611686018427387904 < E then ([], 2) else (stM l W i j E W.length, 0))) := by
    show _ = _
    rw [HT.out, stM_len _ hi hj (Nat.le_refl _), stM_all, hE]
    unfold putM
    rw [List.length_map]
  have hwr : IntKind.u64.wrap (ver l + 1) = E := by
    rw [hE]
    exact IntWalk.u64_in _ (by omega)
  have hE1 : 1 ≤ E := by omega
  clear hv HT
  generalize ver l = V at *
  clear hE hle h0
  obtain ⟨ao, cap, rfl, hcap, hao, -⟩ := id hF
  obtain ⟨aw, cw, rfl, hcw, haw, -⟩ := id hG
  have hpos : 0 < l.length := by
    rcases Nat.eq_zero_or_pos l.length with h | h
    · have := hC.chn
      rw [List.eq_nil_of_length_eq_zero h] at this
      cases this
    · exact h
  by_cases hbe : 4611686018427387904 < E
  · have E1 : Hid (∀ W, T (.returned (.tuple #[.slice none 0 0, .int .i64 2])) W) := fun W => by rw [HTE.out, if_pos (.inr hbe)]; exact ⟨_, rfl, rd_nil _⟩
    clear HTE hF hG hC hi hj
    go_enter Try.func44, Try.ntmps44
    go_wp2_with fail
    refine kv.mono ?_
    rintro e w1 ⟨rfl, hb1⟩
    go_wp2
    go_ret2
    exact ⟨E1.out _, hb1⟩
  · obtain ⟨b, off, rfl, -, -, -, -⟩ : ∃ b off, ao = some ⟨b, off, none⟩ ∧ _ := by
      obtain ⟨ao', cap', e', h2⟩ := hF.cv
      cases e'
      exact h2 0 l[0] (List.getElem?_eq_getElem hpos)
    have i1 : (i : Int) ≤ (cap : Int) := by omega
    have i2 : (j : Int) ≤ (l.length : Int) := by omega
    have i3 : (j : Int) ≤ (cap : Int) := by omega
    have hrd1 := fun X (hX : Below w.heap.size w X) => (hF.below hX).front (k := i) (by omega)
    have hrd2 := fun X (hX : Below w.heap.size w X) => hG.cv.below hX
    have hrd3 := fun X (hX : Below w.heap.size w X) => (hF.below hX).back (k := j) hj
    obtain ⟨AD, hAD⟩ : ∃ AD, (if cap = j then some (⟨b, off, none⟩ : Addr) else some ⟨b, off + j * 4, none⟩) = AD := ⟨_, rfl⟩
    rw [show rgE.k = 4 from rfl, hAD] at hrd3
    clear hF hG hC
    go_enter Try.func44, Try.ntmps44
    go_wp2_with fail
    refine kv.mono ?_
    rintro e w1 ⟨rfl, hb1⟩
    clear kv
    obtain ⟨q1, q2, q3⟩ := one_box w1 (.cells #[] 47)
    have hb2 := hb1.trans (q3.mono hb1.size)
    have hR0 : Rk rgE (w1.alloc (.cells #[] 47)) 47 (.slice (some ⟨w1.heap.size, 0, none⟩) 0 0) [] := Rk.made (E := rgE) (xs := []) q2 rfl (by unfold maxLen; simp)
    have hO0 : OwnG w.heap.size (w1.alloc (.cells #[] 47)) (.slice (some ⟨w1.heap.size, 0, none⟩) 0 0) [] := ⟨hR0, fun k hk => by cases hk; exact hb1.size⟩
    have hrun : Hid _ := append_rg hR0 (hrd1 _ hb2) (by simp) (by simp; omega)
    clear hR0 q1 q2 q3
    go_wp2_with (at_builtin; refine wp_by rfl _ _ _ rfl _ _ rfl rfl hrun.out ?_)
    intro v3 w3 hp3
    obtain ⟨hO3, hb3'⟩ := hO0.push hb2.size hp3
    have hb3 := hb2.trans hb3'
    clear hrun hO0 hb2 hb1 hb3' hp3 hrd1
    go_wp2
    go_loopg [11, 12] W.length (fun g s11 s12 wr => ∃ (m : Nat) (st : Value), m + g = W.length ∧ s12 = .int .i64 (m : Int) ∧ st = s11 ∧ OwnG w.heap.size wr st (l.take i ++ (W.take m).map fun r => (r.1, r.2.1, E)) ∧ Below w.heap.size w wr)
    case atStart => exact ⟨0, _, by simp, rfl, rfl, by simpa using hO3, hb3⟩
    case round =>
      obtain ⟨m, st, hmg, rfl, rfl, hO, hb⟩ := hrel
      clear hO3 hb3
      by_cases hlt : m < W.length
      · have hlti : (m : Int) < (W.length : Int) := by omega
        have hx : W[m]? = some W[m] := List.getElem?_eq_getElem hlt
        obtain ⟨ao2, cap2, e2, h2⟩ := hrd2 wr hb
        cases e2
        obtain ⟨b2, off2, rfl, c0, c1, c2, c3⟩ := h2 m W[m] hx
        obtain ⟨r, hr⟩ : ∃ r, r = W[m] := ⟨_, rfl⟩
        rw [← hr] at hx c0 c1 c2 c3
        have HM : Hid ((l.take i ++ (W.take (m + 1)).map fun r => (r.1, r.2.1, E)) = (l.take i ++ (W.take m).map fun r => (r.1, r.2.1, E)) ++ [(r.1, r.2.1, E)]) := by show _ = _; rw [map_take hx, List.append_assoc]
        obtain ⟨⟨r1, r2⟩, rg, re⟩ := r
        have hLn : (l.take i ++ (W.take m).map fun r => (r.1, r.2.1, E)).length ≤ 1000 := by simp; omega
        clear hx hr h2 HTE
        generalize (l.take i ++ (W.take m).map fun r => (r.1, r.2.1, E)) = LL at *
        obtain ⟨q1, q2, q3⟩ := one_box wr (.cells #[.string (bk r1), .string (bk r2), .int .i64 rg, .int .u64 E] 47)
        have hO4 := hO.below q3
        have hb4 := hb.trans (q3.mono hb.size)
        have hrun0 := push_rg ((r1, r2), rg, E) hO4.1 (by omega)
        rw [q1] at hrun0
        have hrun : Hid _ := hrun0
        obtain ⟨sa, sc, hst, -⟩ := hO.1.shape
        clear hrun0 q1 q2 q3 hO
        subst hst
        generalize LL.length = LN at *
        go_wp2_with (at_builtin; refine wp_by rfl _ _ _ rfl _ _ rfl rfl hrun.out ?_)
        intro v6 w6 hp6
        obtain ⟨hO6, hb6⟩ := hO4.push hb4.size hp6
        clear hO4 hrun hp6
        go_wp2
        go_roundg (gk - 1)
        case measure => omega
        case rel => exact ⟨m + 1, v6, by omega, by go_num, rfl, by rw [HM.out]; exact hO6, hb4.trans hb6⟩
      · have hlti : ¬ (m : Int) < (W.length : Int) := by omega
        obtain rfl : m = W.length := by omega
        rw [List.take_length] at hO
        have hSt : Hid (stM l W i j E W.length = (l.take i ++ W.map fun r => (r.1, r.2.1, E)) ++ l.drop j) := by show _ = _; unfold stM; rw [List.take_length, List.drop_length, List.append_nil]
        have hLn : (l.take i ++ W.map fun r => (r.1, r.2.1, E)).length ≤ 1000 := by simp; omega
        have hrun : Hid _ := append_rg hO.1 (hrd3 wr hb) (by omega) (by simp; omega)
        rw [← hSt.out] at hrun
        generalize (l.take i ++ W.map fun r => (r.1, r.2.1, E)) = LL at *
        generalize stM l W i j E W.length = SM at *
        obtain ⟨sa, sc, hst, -⟩ := hO.1.shape
        clear hSt hrd2 hrd3
        subst hst
        generalize LL.length = LN at *
        go_wp2_with (at_builtin; refine wp_by rfl _ _ _ rfl _ _ rfl rfl hrun.out ?_)
        intro v6 w6 hp6
        obtain ⟨hO6, hb6⟩ := hO.push hb.size hp6
        have hb7 := hb.trans hb6
        have hrd := hO6.1.rd
        obtain ⟨va, vc, hv6, -⟩ := hO6.1.shape
        subst hv6
        clear hO hrun hp6 hO6 hb6
        by_cases h64 : 64 < SM.length
        · have h64i : (64 : Int) < (SM.length : Int) := by omega
          have E1 : Hid (T (.returned (.tuple #[.slice none 0 0, .int .i64 2])) w6) := by
            show T _ _
            rw [HTE.out, if_pos (.inl h64)]; exact ⟨_, rfl, rd_nil _⟩
          clear HTE h64 hrd
          go_wp2
          go_ret2
          exact ⟨E1.out, hb7⟩
        · have h64i : ¬ (64 : Int) < (SM.length : Int) := by omega
          have E1 : Hid (T (.returned (.tuple #[.slice va SM.length vc, .int .i64 0])) w6) := by
            show T _ _
            rw [HTE.out, if_neg (by omega)]; exact ⟨_, rfl, hrd⟩
          clear HTE h64 hrd
          go_wp2
          go_ret2
          exact ⟨E1.out, hb7⟩
end Go.Proofs.Ytlgnnfhnkfjafaa

