import Derived.Test.YtldlimakcdaoaaaHd42
import Derived.Test.YtldlimakcdaoaaaHd44
/- The document's own Owned; lists of spans held against each other. -/
namespace Go.Proofs.Ytldlimakcdaoaaa
open Go.RowKit SpanMath ChartMath
set_option maxRecDepth 100000
set_option linter.unusedSimpArgs false
set_option linter.unusedVariables false

theorem step_last {o : List Sp} {g : Int} {r : Rg} {x : Sp} (hg : r.2.1 = g) (hx : o[o.length - 1]? = some x) (h0 : 0 < o.length) (he : x.2 = r.1.1) : ownStep g o r = o.set (o.length - 1) (x.1, r.1.2) := by
  unfold ownStep
  rw [if_pos hg, List.getLast?_eq_getElem?, hx]
  simp only
  rw [if_pos he]
  have hne : o ≠ [] := by intro h; rw [h] at h0; simp at h0
  obtain ⟨d, z, rfl⟩ : ∃ d z, o = d ++ [z] := ⟨o.dropLast, o.getLast hne, (List.dropLast_concat_getLast hne).symm⟩
  simp
theorem step_new {o : List Sp} {g : Int} {r : Rg} (hg : r.2.1 = g) (h : o = [] ∨ ∃ x, o[o.length - 1]? = some x ∧ x.2 ≠ r.1.1) : ownStep g o r = o ++ [r.1] := by
  unfold ownStep
  rw [if_pos hg, List.getLast?_eq_getElem?]
  rcases h with rfl | ⟨x, hx, hne⟩
  · rfl
  · rw [hx]
    simp only
    rw [if_neg hne]

set_option maxHeartbeats 8000000 in
theorem rowned_of (l : List Rg) (lv : Value) (g : Int) (w : World) (hF : Cv w lv l) (hlen : l.length ≤ 10000000000000) : Calls Try.prog 28 #[lv, .int .i64 g] w fun e w' => ∃ v, e = .returned v ∧ Rd spE w' v (ownM l g) ∧ Below w.heap.size w w' := by
  obtain ⟨B, HB⟩ : ∃ B, Hid (B = ownM l g) := ⟨_, rfl⟩
  rw [← HB.out]
  have kc := fun W (hW : Below w.heap.size w W) => rmay_of l lv W (hF.below hW)
  obtain ⟨ao, cap, rfl, h2⟩ := id hF
  obtain ⟨q1, q2, q3⟩ := one_box w (.cells #[] 40)
  have hO0 : Own w.heap.size (w.alloc (.cells #[] 40)) (.slice (some ⟨w.heap.size, 0, none⟩) 0 0) [] := ⟨Rk.made (E := spE) (xs := []) q2 rfl (by unfold maxLen; simp), fun k hk => by cases hk; exact Nat.le_refl _⟩
  clear q1 q2
  go_enter Try.func28, Try.ntmps28
  go_wp2
  go_loopg [5, 6] l.length (fun gg s5 s6 wr => ∃ (i : Nat) (st : Value), i + gg = l.length ∧ s6 = .int .i64 (i : Int) ∧ st = s5 ∧ Below w.heap.size w wr ∧ Own w.heap.size wr st (ownFrom g [] (l.take i)) ∧ Hid (0 < i → mayC l = true))
  case atStart => exact ⟨0, _, by simp, rfl, rfl, q3, hO0, fun h => by omega⟩
  case round =>
    obtain ⟨i, st, hig, rfl, rfl, hb, hO, HM⟩ := hrel
    clear q3 hO0
    by_cases hlt : i < l.length
    · have hlti : (i : Int) < (l.length : Int) := by omega
      have kc1 := kc wr hb
      cases hm : mayC l with
      | false =>
        rw [hm] at kc1
        have hi0 : i = 0 := by
          rcases Nat.eq_zero_or_pos i with h | h
          · exact h
          · have := HM.out h
            rw [hm] at this
            cases this
        have hR : Rd spE wr st B := by
          rw [HB.out]
          unfold ownM
          rw [hm]
          have := hO.1.rd
          rw [hi0] at this
          exact this
        clear HB HM hm h2 hF kc hi0 hO
        go_wp2_with fail
        refine kc1.mono ?_
        rintro e w1 ⟨rfl, hb1⟩
        go_wp2
        go_ret
        exact ⟨_, rfl, hR.below hb1, hb.trans (hb1.mono hb.size)⟩
      | true =>
        rw [hm] at kc1
        have hC := mayC_iff.1 hm
        have hl64 := hC.len
        have hx : l[i]? = some l[i] := List.getElem?_eq_getElem hlt
        obtain ⟨b, off, rfl, cx⟩ := cv_at hF hx
        obtain ⟨s, hs⟩ : ∃ s, s = l[i] := ⟨_, rfl⟩
        rw [← hs] at hx cx
        have hnx := own_take g hx
        have hfo := formB_iff.1 (hC.own g i).1
        have HM2 : Hid (0 < i + 1 → mayC l = true) := fun _ => hm
        have HMay : Hid (mayC l = true) := hm
        obtain ⟨⟨s1, s2⟩, sg, se⟩ := s
        have hLL := hfo.1
        dsimp only at cx
        clear HM h2 hF kc hs hm hC hfo hx
        have HX : Hid (ownFrom g [] (l.take (i + 1)) = ownStep g (ownFrom g [] (l.take i)) ((s1, s2), sg, se)) := hnx
        clear hnx
        generalize hOO : ownFrom g [] (l.take i) = O at *
        go_wp2_with fail
        refine kc1.mono ?_
        rintro e w1 ⟨rfl, hb1'⟩
        have hb1 := hb.trans (hb1'.mono hb.size)
        have hO1 := hO.below hb1'
        obtain ⟨c0, c1, c2, c3⟩ := cx w1 hb1
        clear kc1 hO hb hb1' hOO HB
        by_cases hg : sg = g
        · have hgb : (sg == g) = true := by simp [hg]
          by_cases hO0 : O.length = 0
          · have hOe : O = [] := List.eq_nil_of_length_eq_zero hO0
            subst hOe
            rw [step_new hg (.inl rfl)] at HX
            obtain ⟨sa, sc, hst, -⟩ := hO1.1.shape
            dsimp only at HX
            have hrun0 := fun W (hW : Below w1.heap.size w1 W) => push_sp (s1, s2) (hO1.below hW).1 (by simp)
            clear hg hO0
            subst hst
            go_wp2
            go_quiet (fail)
            have hbq : Below w1.heap.size w1 (w1.drewN nq) := below_drewN (Below.refl _ w1) nq
            have hb2 := below_drewN hb1 nq
            have hrun : Hid _ := hrun0 _ hbq
            have hO2 := hO1.below hbq
            obtain ⟨c0', c1', c2', c3'⟩ := cx _ hb2
            clear c0 c1 c2 c3 hrun0 hO1 hbq cx hb1
            generalize w1.drewN nq = w2 at *
            go_wp2_with (at_builtin; refine wp_by rfl _ _ _ rfl _ _ rfl rfl hrun.out ?_)
            intro v6 w6 hp6
            obtain ⟨hO6, hb6⟩ := hO2.push hb2.size hp6
            clear hO2 hrun hp6
            go_wp2
            go_roundg (gk - 1)
            case measure => omega
            case rel => exact ⟨i + 1, v6, by omega, by go_num, rfl, hb2.trans hb6, by rw [HX.out]; exact hO6, HM2⟩
          · obtain ⟨J, hJ⟩ : ∃ J, J = O.length - 1 := ⟨_, rfl⟩
            have hJl : J < O.length := by omega
            have hxJ : O[J]? = some O[J] := List.getElem?_eq_getElem hJl
            obtain ⟨x, hxx⟩ : ∃ x, x = O[J] := ⟨_, rfl⟩
            rw [← hxx] at hxJ
            obtain ⟨x1, x2⟩ := x
            obtain ⟨g6, c6, cur6, hst, hle6, hm6, hbk6, -, -, hcell, hfro⟩ := hO1.1.cells (by omega)
            have y1 : w1.cell? ⟨g6, J * 2 + 1, none⟩ = some (.string (bk x2)) := hcell J _ 1 hxJ (by decide)
            have fz : w1.frozen? ⟨g6, J * 2 + 1, none⟩ = false := hfro _
            have hg6 : w.heap.size ≤ g6 := hO1.2 g6 (by rw [hst]; rfl)
            have hg6l : g6 < w1.heap.size := (Array.getElem?_eq_some_iff.1 hbk6).1
            have j1 : IntKind.i64.wrap ((O.length : Int) - 1) = (J : Int) := by rw [IntWalk.i64_in _ (by omega)]; omega
            have j2 : (0 : Int) ≤ (J : Int) := by omega
            have j3 : (J : Int) < (O.length : Int) := by omega
            have hL1 := hLL
            by_cases he : x2 = s1
            · have de : decide (x2 = s1) = true := decide_eq_true he
              rw [step_last (x := (x1, x2)) hg (by rw [← hJ]; exact hxJ) (by omega) he, ← hJ] at HX
              dsimp only at HX
              have hset : ∀ W, Below w1.heap.size w1 W → Own w.heap.size (W.setCell ⟨g6, J * 2 + 1, none⟩ (.string (bk s2))) st (O.set J (x1, s2)) := fun W hW => by
                have hOW := hO1.below hW
                refine ⟨?_, hOW.2⟩
                have h9 := hOW.1
                rw [hst] at h9 ⊢
                exact Rk.setAt (E := spE) (j := 1) h9 hxJ (by decide) rfl
              clear hg hO0 he hcell hfro hxJ hxx hle6 hm6 hO1 hJ
              generalize O.length = LN at *
              subst hst
              go_wp2
              go_quiet (fail)
              have hbq : Below w1.heap.size w1 (w1.drewN nq) := below_drewN (Below.refl _ w1) nq
              have hb2 := below_drewN hb1 nq
              have hO2 := hset _ hbq
              obtain ⟨c0', c1', c2', c3'⟩ := cx _ hb2
              have y1' := (hbq.cell (p := ⟨g6, J * 2 + 1, none⟩) hg6l).trans y1
              have fz' : (w1.drewN nq).frozen? ⟨g6, J * 2 + 1, none⟩ = false := by
                have := (hbq.block g6 hg6l).trans hbk6
                exact frozen_of this _
              clear c0 c1 c2 c3 hset hbq cx hb1 y1 fz hbk6
              generalize w1.drewN nq = w2 at *
              go_wp2
              go_roundg (gk - 1)
              case measure => omega
              case rel => exact ⟨i + 1, _, by omega, by go_num, rfl, hb2.setCell (p := ⟨g6, J * 2 + 1, none⟩) hg6 _, by rw [HX.out]; exact hO2, HM2⟩
            · have de : decide (x2 = s1) = false := decide_eq_false he
              rw [step_new hg (.inr ⟨(x1, x2), by rw [← hJ]; exact hxJ, he⟩)] at HX
              dsimp only at HX
              have hrun0 := fun W (hW : Below w1.heap.size w1 W) => push_sp (s1, s2) (hO1.below hW).1 (by omega)
              clear hg hO0 he hcell hfro hxJ hxx hle6 hm6 hJ
              generalize O.length = LN at *
              subst hst
              go_wp2
              go_quiet (fail)
              have hbq : Below w1.heap.size w1 (w1.drewN nq) := below_drewN (Below.refl _ w1) nq
              have hb2 := below_drewN hb1 nq
              have hrun : Hid _ := hrun0 _ hbq
              have hO2 := hO1.below hbq
              obtain ⟨c0', c1', c2', c3'⟩ := cx _ hb2
              clear c0 c1 c2 c3 hrun0 hO1 hbq cx hb1 y1 fz hbk6
              generalize w1.drewN nq = w2 at *
              go_wp2_with (at_builtin; refine wp_by rfl _ _ _ rfl _ _ rfl rfl hrun.out ?_)
              intro v6 w6 hp6
              obtain ⟨hO6, hb6⟩ := hO2.push hb2.size hp6
              clear hO2 hrun hp6
              go_wp2
              go_roundg (gk - 1)
              case measure => omega
              case rel => exact ⟨i + 1, v6, by omega, by go_num, rfl, hb2.trans hb6, by rw [HX.out]; exact hO6, HM2⟩
        · have hgb : (sg == g) = false := by simpa using hg
          rw [own_skip hg] at HX
          clear hg
          go_wp2
          go_roundg (gk - 1)
          case measure => omega
          case rel => exact ⟨i + 1, _, by omega, by go_num, rfl, hb1, by rw [HX.out]; exact hO1, HM2⟩
    · have hlti : ¬ (i : Int) < (l.length : Int) := by omega
      obtain rfl : i = l.length := by omega
      have hR : Rd spE wr st B := by
        rw [HB.out]
        have h9 := hO.1.rd
        rw [List.take_length] at h9
        unfold ownM
        cases hm : mayC l with
        | true => exact h9
        | false =>
          have : l = [] := by
            rcases Nat.eq_zero_or_pos l.length with h | h
            · exact List.eq_nil_of_length_eq_zero h
            · have := HM.out h
              rw [hm] at this
              cases this
          rw [this] at h9
          exact h9
      clear HB HM h2 hF kc hO
      go_wp2
      go_ret
      exact ⟨_, rfl, hR, hb⟩

set_option maxHeartbeats 4000000 in
theorem ssame_of (l : List Sp) (lv mv : Value) (w : World) (hF : Sv w lv l) (hG : Sv w mv l) (hlen : l.length ≤ 1000000) : Calls Try.prog 26 #[lv, mv] w fun e w' => e = .returned (.bool true) ∧ Below w.heap.size w w' := by
  obtain ⟨ao, cap, rfl, h2⟩ := id hF
  obtain ⟨am, cm, rfl, h3⟩ := id hG
  go_enter Try.func26, Try.ntmps26
  go_wp2
  go_loopg [5] l.length (fun g s5 wr => ∃ i : Nat, i + g = l.length ∧ s5 = .int .i64 (i : Int) ∧ Below w.heap.size w wr)
  case atStart => exact ⟨0, by simp, rfl, Below.refl _ _⟩
  case round =>
    obtain ⟨i, hig, rfl, hb⟩ := hrel
    by_cases hlt : i < l.length
    · have hlti : (i : Int) < (l.length : Int) := by omega
      have hx : l[i]? = some l[i] := List.getElem?_eq_getElem hlt
      obtain ⟨b, off, rfl, d0, d1⟩ := h2 i _ hx
      obtain ⟨b', off', rfl, f0, f1⟩ := h3 i _ hx
      obtain ⟨x, hs⟩ : ∃ s, s = l[i] := ⟨_, rfl⟩
      rw [← hs] at d0 d1 f0 f1
      obtain ⟨x1, x2⟩ := x
      have c0 := (hb.cell (p := ⟨b, off + i * 2, none⟩) (World.block_lt_of_cell? w _ d0)).trans d0
      have c1 := (hb.cell (p := ⟨b, off + i * 2 + 1, none⟩) (World.block_lt_of_cell? w _ d1)).trans d1
      have c2 := (hb.cell (p := ⟨b', off' + i * 2, none⟩) (World.block_lt_of_cell? w _ f0)).trans f0
      have c3 := (hb.cell (p := ⟨b', off' + i * 2 + 1, none⟩) (World.block_lt_of_cell? w _ f1)).trans f1
      clear hx hs d0 d1 f0 f1 h2 h3 hF hG
      go_wp2
      go_quiet (fail)
      go_wp2
      go_roundg (gk - 1)
      case measure => omega
      case rel => exact ⟨i + 1, by omega, by go_num, below_drewN hb nq⟩
    · have hlti : ¬ (i : Int) < (l.length : Int) := by omega
      clear h2 h3 hF hG
      go_wp2
      go_ret
      exact ⟨rfl, hb⟩
end Go.Proofs.Ytldlimakcdaoaaa

