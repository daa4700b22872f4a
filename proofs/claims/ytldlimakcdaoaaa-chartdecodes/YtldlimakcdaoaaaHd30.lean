import Derived.Test.YtldlimakcdaoaaaHd29
/- The contract of Add. -/
namespace Go.Proofs.Ytldlimakcdaoaaa
open Go.RowKit SpanMath
set_option maxRecDepth 100000
set_option linter.unusedSimpArgs false
set_option linter.unusedVariables false

/-- What stands between two rounds: s in its box, what is below it, what is above it. -/
structure DSt (n : Nat) (w W : World) (lo hi : Value) (s : Sp) (L H : List Sp) : Prop where
  base : Below n w W
  room : n + 1 ≤ W.heap.size
  box : W.heap[n]? = some (.cells #[.string (bk s.1), .string (bk s.2)] 40 (0, 0))
  rlo : Rk spE W 40 lo L
  rhi : Rk spE W 40 hi H
  offL : ∀ k, lo.ownBlock = some k → n + 1 ≤ k ∧ hi.ownBlock ≠ some k
  offH : ∀ k, hi.ownBlock = some k → n + 1 ≤ k
theorem DSt.below {n : Nat} {w W W' : World} {lo hi : Value} {s : Sp} {L H : List Sp} (h : DSt n w W lo hi s L H) (hb : Below W.heap.size W W') : DSt n w W' lo hi s L H :=
  ⟨h.base.trans (hb.mono (by have := h.room; omega)), Nat.le_trans h.room hb.size, (hb.block n (by have := h.room; omega)).trans h.box, h.rlo.same fun k hk => hb.block k (h.rlo.lt hk), h.rhi.same fun k hk => hb.block k (h.rhi.lt hk), h.offL, h.offH⟩
theorem DSt.pushLo {n : Nat} {w W W' : World} {lo lo' hi : Value} {s : Sp} {L L' H : List Sp} (h : DSt n w W lo hi s L H) (hp : PushT spE 40 W lo L' lo' W') : DSt n w W' lo' hi s L' H := by
  obtain ⟨h1, h2, h3⟩ := hp
  have hr := h.room
  refine ⟨h.base.trans (grown_below h2 (by omega) fun k hk => by have := (h.offL k hk).1; omega), Nat.le_trans hr h2.size, (h2.block n (by omega) fun e => by have := (h.offL n e.symm).1; omega).trans h.box, h1, h.rhi.same fun k hk => h2.block k (h.rhi.lt hk) fun e => (h.offL k e.symm).2 hk, fun k hk => ?_, h.offH⟩
  rcases h3 k hk with h' | h'
  · exact h.offL k h'
  · refine ⟨by omega, fun e => ?_⟩
    have := h.rhi.lt e
    omega
theorem DSt.pushHi {n : Nat} {w W W' : World} {lo hi hi' : Value} {s : Sp} {L H H' : List Sp} (h : DSt n w W lo hi s L H) (hp : PushT spE 40 W hi H' hi' W') : DSt n w W' lo hi' s L H' := by
  obtain ⟨h1, h2, h3⟩ := hp
  have hr := h.room
  refine ⟨h.base.trans (grown_below h2 (by omega) fun k hk => by have := h.offH k hk; omega), Nat.le_trans hr h2.size, (h2.block n (by omega) fun e => by have := h.offH n e.symm; omega).trans h.box, h.rlo.same fun k hk => h2.block k (h.rlo.lt hk) fun e => (h.offL k hk).2 e.symm, h1, fun k hk => ⟨(h.offL k hk).1, fun e => ?_⟩, fun k hk => ?_⟩
  · rcases h3 k e with h' | h'
    · exact (h.offL k hk).2 h'
    · have := h.rlo.lt hk; omega
  · rcases h3 k hk with h' | h'
    · exact h.offH k h'
    · omega
theorem DSt.setS {n : Nat} {w W : World} {lo hi : Value} {s : Sp} {L H : List Sp} (h : DSt n w W lo hi s L H) (a b : K) : DSt n w ((W.setCell ⟨n, 0, none⟩ (.string (bk a))).setCell ⟨n, 1, none⟩ (.string (bk b))) lo hi (a, b) L H := by
  have hr := h.room
  have hblk : ∀ k, k ≠ n → ((W.setCell ⟨n, 0, none⟩ (.string (bk a))).setCell ⟨n, 1, none⟩ (.string (bk b))).heap[k]? = W.heap[k]? := fun k hk => by
    have hk' : n ≠ k := fun e => hk e.symm
    simp [World.setCell, Array.getElem?_modify, hk']
  have hbel : Below n W ((W.setCell ⟨n, 0, none⟩ (.string (bk a))).setCell ⟨n, 1, none⟩ (.string (bk b))) := ((Below.refl n W).setCell (p := ⟨n, 0, none⟩) (Nat.le_refl _) _).setCell (p := ⟨n, 1, none⟩) (Nat.le_refl _) _
  exact ⟨h.base.trans hbel, Nat.le_trans hr hbel.size, sp_set h.box _ _, h.rlo.same fun k hk => hblk k (by have := (h.offL k hk).1; omega), h.rhi.same fun k hk => hblk k (by have := h.offH k hk; omega), h.offL, h.offH⟩
theorem DSt.drew {n : Nat} {w W : World} {lo hi : Value} {s : Sp} {L H : List Sp} (h : DSt n w W lo hi s L H) : DSt n w W.drew lo hi s L H := h.below (Below.refl _ _).drew

theorem add_take {l : List Sp} {s x : Sp} {i : Nat} (h : l[i]? = some x) : addAll ([], s, []) (l.take (i + 1)) = addStep (addAll ([], s, []) (l.take i)) x := by
  rw [take_succ_get h]
  unfold addAll
  rw [List.foldl_append]
  rfl

set_option maxHeartbeats 8000000 in
theorem add_of (l : List Sp) (lv : Value) (s : Sp) (w : World) (hF : Sv w lv l) : Calls Try.prog 46 #[lv, sv s] w fun e w' => ∃ v c, e = .returned (.tuple #[v, .int .i64 c]) ∧ ResT (formB l && may s) (addM l s) v c w' ∧ Below w.heap.size w w' := by
  obtain ⟨T, HT⟩ : ∃ T, Hid (T = ResT (formB l && may s) (addM l s)) := ⟨_, rfl⟩
  rw [← HT.out]
  have kc := fun W => check_of s W
  obtain ⟨s1, s2⟩ := s
  obtain ⟨hs0, g0, hb0⟩ := one_box w (.cells #[.string (bk s1), .string (bk s2)] 40)
  have kf := form_of l lv _ (hF.below hb0)
  rw [hs0] at kf
  obtain ⟨ao, cap, rfl, h2⟩ := id hF
  go_enter Try.func46, Try.ntmps46
  go_wp2_with fail
  generalize w.alloc (.cells #[.string (bk s1), .string (bk s2)] 40) = w0 at *
  have hN : ∀ W, Below (w.heap.size + 1) w0 W → w.heap.size + 1 ≤ W.heap.size := fun W hW => by have := hW.size; omega
  cases hf : formB l with
  | false =>
    rw [hf] at kf
    have E : Hid (∀ W, T (.slice none 0 0) 1 W) := fun W => by rw [HT.out, hf]; exact ⟨rfl, rfl⟩
    clear HT hf hF h2 kc
    refine kf.mono ?_
    rintro e w1 ⟨rfl, hb1⟩
    go_wp2
    go_ret2
    exact ⟨_, _, rfl, E.out _, hb0.trans (hb1.mono (Nat.le_succ _))⟩
  | true =>
    rw [hf] at kf
    refine kf.mono ?_
    rintro e w1 ⟨rfl, hb1⟩
    clear kf
    have kc1 := kc w1
    have hg1 := (hb1.block w.heap.size (Nat.lt_succ_self _)).trans g0
    have z0 : w1.cell? ⟨w.heap.size, 0, none⟩ = some (.string (bk s1)) := by rw [cells_of_block hg1]; rfl
    have z1 : w1.cell? ⟨w.heap.size, 1, none⟩ = some (.string (bk s2)) := by rw [cells_of_block hg1]; rfl
    cases hm : may (s1, s2) with
    | false =>
      rw [hm] at kc1
      simp only [Bool.false_eq_true, if_false] at kc1
      have E : Hid (∀ W, T (.slice none 0 0) 1 W) := fun W => by rw [HT.out, hm, Bool.and_false]; exact ⟨rfl, rfl⟩
      clear HT hf hF h2 kc hm
      go_wp2_with fail
      refine kc1.mono ?_
      rintro e w2 ⟨rfl, hb2⟩
      go_wp2
      go_ret2
      exact ⟨_, _, rfl, E.out _, hb0.trans ((hb1.trans (hb2.mono (hN _ hb1))).mono (Nat.le_succ _))⟩
    | true =>
      rw [hm] at kc1
      simp only [if_true] at kc1
      have hll : l.length ≤ 64 := (formB_iff.1 hf).1
      have E : Hid (∀ v c W, (if 64 < (addM l (s1, s2)).length then v = .slice none 0 0 ∧ c = 2 else c = 0 ∧ Rd spE W v (addM l (s1, s2))) → T v c W) := fun v c W h => by rw [HT.out, hf, hm]; exact h
      clear HT hf hF kc hm
      go_wp2_with fail
      refine kc1.mono ?_
      rintro e w2 ⟨rfl, hb2⟩
      have hb3 := hb1.trans (hb2.mono (hN _ hb1))
      have hD0 : DSt w.heap.size w w2 (.slice none 0 0) (.slice none 0 0) (s1, s2) [] [] := ⟨hb0.trans (hb3.mono (Nat.le_succ _)), hN _ hb3, (hb3.block w.heap.size (Nat.lt_succ_self _)).trans g0, Rk.nil _ _ _, Rk.nil _ _ _, (fun k hk => by cases hk), (fun k hk => by cases hk)⟩
      clear kc1 hb1 hb2 z0 z1 hg1 hN hb3 g0 hb0 hs0
      go_wp2
      go_loopg [6, 7, 20] l.length (fun g s6 s7 s20 wr => ∃ (i : Nat) (lo hi : Value) (t : Sp) (L H : List Sp), i + g = l.length ∧ s20 = .int .i64 (i : Int) ∧ lo = s6 ∧ hi = s7 ∧ DSt w.heap.size w wr lo hi t L H ∧ L.length + H.length ≤ i ∧ Hid (addAll ([], (s1, s2), []) (l.take i) = (L, t, H)))
      case atStart => exact ⟨0, _, _, _, [], [], by simp, rfl, rfl, rfl, hD0, by simp, rfl⟩
      case round =>
        obtain ⟨i, lo, hi, ⟨t1, t2⟩, L, H, hig, rfl, rfl, rfl, hD, hlen, HA⟩ := hrel
        clear hD0
        have hbw := hD.base
        by_cases hlt : i < l.length
        · have hlti : (i : Int) < (l.length : Int) := by omega
          have hx : l[i]? = some l[i] := List.getElem?_eq_getElem hlt
          obtain ⟨b, off, rfl, d0, d1⟩ := h2 i l[i] hx
          obtain ⟨x, hs⟩ : ∃ s, s = l[i] := ⟨_, rfl⟩
          rw [← hs] at hx d0 d1
          have HA2 : Hid (addAll ([], (s1, s2), []) (l.take (i + 1)) = addStep (L, (t1, t2), H) x) := by show _ = _; rw [add_take hx, HA.out]
          have ka := fun W => apart_of x (t1, t2) W
          have kb := fun W => apart_of (t1, t2) x W
          obtain ⟨x1, x2⟩ := x
          have kl := fun W => later_of t2 x2 W
          have c0 := (hbw.cell (p := ⟨b, off + i * 2, none⟩) (World.block_lt_of_cell? w _ d0)).trans d0
          have c1 := (hbw.cell (p := ⟨b, off + i * 2 + 1, none⟩) (World.block_lt_of_cell? w _ d1)).trans d1
          obtain ⟨hsz, hn0, hbb⟩ := one_box wr (.cells #[.string (bk x1), .string (bk x2)] 40)
          have hD1 := hD.below hbb
          have bx : ∀ W, Below (wr.heap.size + 1) (wr.alloc (.cells #[.string (bk x1), .string (bk x2)] 40)) W → DSt w.heap.size w W lo hi (t1, t2) L H ∧ W.heap[wr.heap.size]? = some (.cells #[.string (bk x1), .string (bk x2)] 40 (0, 0)) := fun W hW => ⟨hD1.below (by rw [hsz]; exact hW), (hW.block wr.heap.size (Nat.lt_succ_self _)).trans hn0⟩
          have hNp : w.heap.size < wr.heap.size := by have := hD.room; omega
          clear hx hs d0 d1 HA hD h2 hD1 hn0 hbb
          obtain ⟨ls, lc, hlo, -⟩ : ∃ ls lc, lo = .slice ls L.length lc ∧ True := by
            obtain ⟨a, c, e, _⟩ := (bx _ (Below.refl _ _)).1.rlo.shape
            exact ⟨a, c, e, trivial⟩
          obtain ⟨hs, hc, hhi, -⟩ : ∃ hs hc, hi = .slice hs H.length hc ∧ True := by
            obtain ⟨a, c, e, _⟩ := (bx _ (Below.refl _ _)).1.rhi.shape
            exact ⟨a, c, e, trivial⟩
          subst hlo hhi
          have hLl : L.length ≤ 1000000 := by omega
          have hHl : H.length ≤ 1000000 := by omega
          obtain ⟨p, hp⟩ : ∃ p, p = wr.heap.size := ⟨_, rfl⟩
          rw [← hp] at bx hNp hsz
          have cl : ∀ W, Below (p + 1) (wr.alloc (.cells #[.string (bk x1), .string (bk x2)] 40)) W → (W.cell? ⟨w.heap.size, 0, none⟩ = some (.string (bk t1)) ∧ W.cell? ⟨w.heap.size, 1, none⟩ = some (.string (bk t2))) ∧ W.cell? ⟨p, 0, none⟩ = some (.string (bk x1)) ∧ W.cell? ⟨p, 1, none⟩ = some (.string (bk x2)) := fun W hW => by
            obtain ⟨r1, r2⟩ := bx W hW
            exact ⟨⟨by rw [cells_of_block r1.box]; rfl, by rw [cells_of_block r1.box]; rfl⟩, by rw [cells_of_block r2]; rfl, by rw [cells_of_block r2]; rfl⟩
          obtain ⟨⟨y0, y1⟩, y2, y3⟩ := cl _ (Below.refl _ _)
          have ka1 := ka (wr.alloc (.cells #[.string (bk x1), .string (bk x2)] 40))
          have hpw : wr.heap.size = p := hp.symm
          clear hp
          rw [hsz] at ka1
          go_wp2_with fail
          generalize wr.alloc (.cells #[.string (bk x1), .string (bk x2)] 40) = wb at *
          refine ka1.mono ?_
          rintro e w4 ⟨rfl, hb4⟩
          clear y0 y1 y2 y3 c0 c1 ka ka1
          obtain ⟨⟨y0, y1⟩, y2, y3⟩ := cl w4 hb4
          cases h1 : apt (x1, x2) (t1, t2) with
          | true =>
            have HA3 : Hid (addAll ([], (s1, s2), []) (l.take (i + 1)) = (L ++ [(x1, x2)], (t1, t2), H)) := by show _ = _; rw [HA2.out]; unfold addStep; simp only; rw [h1]; rfl
            have hD4 := (bx w4 hb4).1
            have hrunH := push_at (x1, x2) (w := w4) rfl (bk x1) (bk x2) rfl rfl hD4.rlo hLl
            clear HA2 h1 bx cl kb kl
            go_wp2_with (at_builtin; refine wp_by rfl _ _ _ rfl _ _ rfl rfl hrunH.out ?_)
            intro v6 w6 hp6
            have hD6 := hD4.pushLo hp6
            clear hrunH hD4 hp6 y0 y1 y2 y3
            go_wp2
            go_roundg (gk - 1)
            case measure => omega
            case rel => exact ⟨i + 1, v6, _, _, _, H, by omega, by go_num, rfl, rfl, hD6, by simp; omega, HA3⟩
          | false =>
            have kb1 := kb w4
            have hs4 : p + 1 ≤ w4.heap.size := by have := hb4.size; omega
            go_wp2_with fail
            refine kb1.mono ?_
            rintro e w5 ⟨rfl, hb5⟩
            have hb45 := hb4.trans (hb5.mono hs4)
            clear y0 y1 y2 y3 kb kb1
            obtain ⟨⟨y0, y1⟩, y2, y3⟩ := cl w5 hb45
            cases h3 : apt (t1, t2) (x1, x2) with
            | true =>
              have HA3 : Hid (addAll ([], (s1, s2), []) (l.take (i + 1)) = (L, (t1, t2), H ++ [(x1, x2)])) := by show _ = _; rw [HA2.out]; unfold addStep; simp only; rw [h1, h3]; rfl
              have hD4 := (bx w5 hb45).1
              have hrunH := push_at (x1, x2) (w := w5) rfl (bk x1) (bk x2) rfl rfl hD4.rhi hHl
              clear HA2 h1 h3 bx cl kl
              go_wp2_with (at_builtin; refine wp_by rfl _ _ _ rfl _ _ rfl rfl hrunH.out ?_)
              intro v6 w6 hp6
              have hD6 := hD4.pushHi hp6
              clear hrunH hD4 hp6 y0 y1 y2 y3
              go_wp2
              go_roundg (gk - 1)
              case measure => omega
              case rel => exact ⟨i + 1, _, v6, _, L, _, by omega, by go_num, rfl, rfl, hD6, by simp; omega, HA3⟩
            | false =>
              have HA3 : Hid (addAll ([], (s1, s2), []) (l.take (i + 1)) = (L, (kmin t1 x1, late t2 x2), H)) := by show _ = _; rw [HA2.out]; unfold addStep; simp only; rw [h1, h3]; rfl
              have hD4 := (bx w5 hb45).1
              have hD6 := hD4.drew.setS (kmin t1 x1) (late t2 x2)
              have fz0 := frozen_of hD4.box 0
              have fz1 := frozen_of hD4.box 1
              clear HA2 h1 h3 bx cl hD4
              go_wp2
              refine wp_region_L (fun W => W.cell? ⟨w.heap.size, 0, none⟩ = some (.string (bk t1)) ∧ W.cell? ⟨w.heap.size, 1, none⟩ = some (.string (bk t2)) ∧ W.cell? ⟨p, 0, none⟩ = some (.string (bk x1)) ∧ W.cell? ⟨p, 1, none⟩ = some (.string (bk x2))) [11] (by kernel_rfl) ?_
              have yS : (fun W => W.cell? ⟨w.heap.size, 0, none⟩ = some (.string (bk t1)) ∧ W.cell? ⟨w.heap.size, 1, none⟩ = some (.string (bk t2)) ∧ W.cell? ⟨p, 0, none⟩ = some (.string (bk x1)) ∧ W.cell? ⟨p, 1, none⟩ = some (.string (bk x2))) w5.drew := ⟨y0, y1, y2, y3⟩
              refine wpAnyL_take 0 rfl (by kernel_rfl) (by kernel_rfl) (by kernel_rfl) (by kernel_rfl) (fun _ _ _ h => h) (by kernel_rfl) (by intro w' hS'; obtain ⟨a0, a1, a2, a3⟩ := hS'; go_simp <;> rfl) yS ?_
              try simp only [List.getElem_toArray, List.getElem_cons_succ, List.getElem_cons_zero, Act.put, List.setIfInBounds_toArray, List.set_cons_zero, List.set_cons_succ]
              refine wpAnyL_take 1 rfl (by kernel_rfl) (by kernel_rfl) (by kernel_rfl) (by kernel_rfl) (fun _ _ _ h => h) (by kernel_rfl) (by intro w' hS'; obtain ⟨a0, a1, a2, a3⟩ := hS'; go_simp <;> rfl) yS ?_
              try simp only [List.getElem_toArray, List.getElem_cons_succ, List.getElem_cons_zero, Act.put, List.setIfInBounds_toArray, List.set_cons_zero, List.set_cons_succ]
              refine wpAnyL_take 2 rfl (by kernel_rfl) (by kernel_rfl) (by kernel_rfl) (by kernel_rfl) (fun _ _ _ h => h) (by kernel_rfl) (by intro w' hS'; obtain ⟨a0, a1, a2, a3⟩ := hS'; go_simp <;> rfl) yS ?_
              try simp only [List.getElem_toArray, List.getElem_cons_succ, List.getElem_cons_zero, Act.put, List.setIfInBounds_toArray, List.set_cons_zero, List.set_cons_succ]
              refine wpAnyL_take 3 rfl (by kernel_rfl) (by kernel_rfl) (by kernel_rfl) (by kernel_rfl) (fun _ _ _ h => h) (by kernel_rfl) (by intro w' hS'; obtain ⟨a0, a1, a2, a3⟩ := hS'; go_simp <;> rfl) yS ?_
              try simp only [List.getElem_toArray, List.getElem_cons_succ, List.getElem_cons_zero, Act.put, List.setIfInBounds_toArray, List.set_cons_zero, List.set_cons_succ]
              refine wpAnyL_take 4 rfl (by kernel_rfl) (by kernel_rfl) (by kernel_rfl) (by kernel_rfl) (fun _ _ _ h => h) (by kernel_rfl) (by intro w' hS'; obtain ⟨a0, a1, a2, a3⟩ := hS'; go_simp <;> rfl) yS ?_
              try simp only [List.getElem_toArray, List.getElem_cons_succ, List.getElem_cons_zero, Act.put, List.setIfInBounds_toArray, List.set_cons_zero, List.set_cons_succ]
              refine wpAnyL_take 5 rfl (by kernel_rfl) (by kernel_rfl) (by kernel_rfl) (by kernel_rfl) (fun _ _ _ h => h) (by kernel_rfl) (by intro w' hS'; obtain ⟨a0, a1, a2, a3⟩ := hS'; go_simp <;> rfl) yS ?_
              try simp only [List.getElem_toArray, List.getElem_cons_succ, List.getElem_cons_zero, Act.put, List.setIfInBounds_toArray, List.set_cons_zero, List.set_cons_succ]
              refine wpAnyL_take 6 rfl (by kernel_rfl) (by kernel_rfl) (by kernel_rfl) (by kernel_rfl) (fun _ _ _ h => h) (by kernel_rfl) (by intro w' hS'; obtain ⟨a0, a1, a2, a3⟩ := hS'; go_simp <;> rfl) yS ?_
              try simp only [List.getElem_toArray, List.getElem_cons_succ, List.getElem_cons_zero, Act.put, List.setIfInBounds_toArray, List.set_cons_zero, List.set_cons_succ]
              refine wpAnyL_take 7 rfl (by kernel_rfl) (by kernel_rfl) (by kernel_rfl) (by kernel_rfl) (fun _ _ _ h => h) (by kernel_rfl) (by intro w' hS'; obtain ⟨a0, a1, a2, a3⟩ := hS'; go_simp <;> rfl) yS ?_
              try simp only [List.getElem_toArray, List.getElem_cons_succ, List.getElem_cons_zero, Act.put, List.setIfInBounds_toArray, List.set_cons_zero, List.set_cons_succ]
              refine wpAnyL_take 8 rfl (by kernel_rfl) (by kernel_rfl) (by kernel_rfl) (by kernel_rfl) (fun _ _ _ h => h) (by kernel_rfl) (by intro w' hS'; obtain ⟨a0, a1, a2, a3⟩ := hS'; go_simp <;> rfl) yS ?_
              try simp only [List.getElem_toArray, List.getElem_cons_succ, List.getElem_cons_zero, Act.put, List.setIfInBounds_toArray, List.set_cons_zero, List.set_cons_succ]
              refine wpAnyL_one 9 (by kernel_rfl) rfl (by kernel_rfl) ?_
              intro K' hK'
              go_simp
              go_at_call 66
              refine (kl _).mono ?_
              rintro e wq ⟨rfl, hwq⟩
              rw [hwq]
              clear hwq wq
              refine hK'.out _ _ (.inr yS) ?_
              clear hK' K'
              try simp only [List.getElem_toArray, List.getElem_cons_succ, List.getElem_cons_zero, Act.put, List.setIfInBounds_toArray, List.set_cons_zero, List.set_cons_succ]
              refine wpAnyL_take 10 rfl (by kernel_rfl) (by kernel_rfl) (by kernel_rfl) (by kernel_rfl) (fun _ _ _ h => h) (by kernel_rfl) (by intro w' hS'; obtain ⟨a0, a1, a2, a3⟩ := hS'; go_simp <;> rfl) yS ?_
              try simp only [List.getElem_toArray, List.getElem_cons_succ, List.getElem_cons_zero, Act.put, List.setIfInBounds_toArray, List.set_cons_zero, List.set_cons_succ]
              refine wpAnyL_one 11 (by kernel_rfl) rfl (by kernel_rfl) ?_
              intro K' hK'
              go_simp
              refine hK'.out _ _ (.inl (by decide)) ?_
              clear hK' K'
              try simp only [List.getElem_toArray, List.getElem_cons_succ, List.getElem_cons_zero, Act.put, List.setIfInBounds_toArray, List.set_cons_zero, List.set_cons_succ]
              refine wpAnyL_done (by kernel_rfl) (NoPanic.normal ?_) _
              go_wp2
              go_roundg (gk - 1)
              case measure => omega
              case rel => exact ⟨i + 1, _, _, _, L, H, by omega, by go_num, rfl, rfl, hD6, by omega, HA3⟩
        · have hlti : ¬ (i : Int) < (l.length : Int) := by omega
          obtain rfl : i = l.length := by omega
          have HM : Hid (addM l (s1, s2) = [L, [(t1, t2)], H].flatten) := by
            show _ = _
            have := HA.out
            rw [List.take_length] at this
            unfold addM
            simp only
            rw [this]
            simp
          have hlen2 : (addM l (s1, s2)).length ≤ 65 := by rw [HM.out]; simp; omega
          have hpos2 : 0 < (addM l (s1, s2)).length := by rw [HM.out, List.flatten_cons, List.flatten_cons, List.length_append, List.length_append, List.length_singleton]; omega
          have y0 : wr.cell? ⟨w.heap.size, 0, none⟩ = some (.string (bk t1)) := by rw [cells_of_block hD.box]; rfl
          have y1 : wr.cell? ⟨w.heap.size, 1, none⟩ = some (.string (bk t2)) := by rw [cells_of_block hD.box]; rfl
          obtain ⟨ls, lc, hlo, -⟩ := hD.rlo.shape
          obtain ⟨hs, hc, hhi, -⟩ := hD.rhi.shape
          obtain ⟨q1, q2, q3, q4⟩ := two_boxes wr (.cells #[.string (bk t1), .string (bk t2)] 40) (.cells #[lo, .slice (some ⟨wr.heap.size, 0, none⟩) 1 1, hi] 48)
          have hD2 := hD.below q4
          have kcat := concat_of (wr.heap.size + 1) [lo, .slice (some ⟨wr.heap.size, 0, none⟩) 1 1, hi] [L, [(t1, t2)], H] _ (fun i v hv => by
              rw [cells_of_block q3]
              simpa using hv) (fun i v xs hv hx => by
              match i, hv, hx with
              | 0, hv, hx => cases hv; cases hx; exact hD2.rlo.rd
              | 1, hv, hx => cases hv; cases hx; exact (Rk.made (xs := [(t1, t2)]) q2 rfl (by unfold maxLen; simp)).rd
              | 2, hv, hx => cases hv; cases hx; exact hD2.rhi.rd
              | k + 3, hv, hx => simp at hv) rfl rfl (by rw [← HM.out]; exact hpos2) (by rw [← HM.out]; omega)
          rw [← HM.out] at kcat
          have hwb := hD2.base
          have hW2 : Hid (w.heap.size ≤ ((wr.alloc (.cells #[.string (bk t1), .string (bk t2)] 40)).alloc (.cells #[lo, .slice (some ⟨wr.heap.size, 0, none⟩) 1 1, hi] 48)).heap.size) := hwb.size
          subst hlo hhi
          clear q1 q2 q3 q4 hD2 hD HA HM h2
          generalize addM l (s1, s2) = M at *
          go_wp2_with fail
          generalize ((wr.alloc (.cells #[.string (bk t1), .string (bk t2)] 40)).alloc (.cells #[.slice ls L.length lc, .slice (some ⟨wr.heap.size, 0, none⟩) 1 1, .slice hs H.length hc] 48)) = wz at *
          refine kcat.mono ?_
          rintro e w6 ⟨v6, rfl, hO6, hb6⟩
          have hb7 := hwb.trans (hb6.mono hW2.out)
          obtain ⟨va, vc, hv6, -⟩ := hO6.1.shape
          have kw := few_of v6 va _ vc hv6 w6
          have hrd := hO6.1.rd
          subst hv6
          clear kcat hO6 hb6 hW2 hwb y0 y1
          by_cases h64 : 64 < M.length
          · rw [if_pos h64] at kw
            have HR2 : Hid (T (.slice none 0 0) 2 w6) := E.out _ _ _ (by rw [if_pos h64]; exact ⟨rfl, rfl⟩)
            clear E h64
            go_wp2_with fail
            refine kw.mono ?_
            rintro e w5 ⟨rfl, hw5⟩
            subst hw5
            go_wp2
            go_ret2
            exact ⟨_, _, rfl, HR2.out, hb7⟩
          · rw [if_neg h64] at kw
            have HR2 : Hid (T (.slice va M.length vc) 0 w6) := E.out _ _ _ (by rw [if_neg h64]; exact ⟨rfl, hrd⟩)
            clear E h64 hrd
            go_wp2_with fail
            refine kw.mono ?_
            rintro e w5 ⟨rfl, hw5⟩
            subst hw5
            go_wp2
            go_ret2
            exact ⟨_, _, rfl, HR2.out, hb7⟩
end Go.Proofs.Ytldlimakcdaoaaa

