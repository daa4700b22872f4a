import Derived.Test.YtlkcfpifjocliaaHs13
/- The contract of Less. -/
namespace Go.Proofs.Ytlkcfpifjocliaa
open Go.RowKit SpanMath
set_option maxRecDepth 100000
set_option linter.unusedSimpArgs false
set_option linter.unusedVariables false

/-- What Add and Less tell. -/
def ResT (ok : Bool) (m : List Sp) (v : Value) (c : Int) (w' : World) : Prop :=
  if ok = false then v = .slice none 0 0 ∧ c = 1 else if 64 < m.length then v = .slice none 0 0 ∧ c = 2 else c = 0 ∧ Rd spE w' v m

/-- What stands between two rounds of the inner loop. -/
structure LSt (n p : Nat) (w0 W : World) (st sd : Value) (x : Sp) (acc os : List Sp) : Prop where
  base : Below (n + 1) w0 W
  box : W.heap[p]? = some (.cells #[.string (bk x.1), .string (bk x.2)] 23 (0, 0))
  sides : Rk spE W 23 sd os
  stay : Rk spE W 23 st acc
  off : ∀ k, st.ownBlock = some k → n + 1 ≤ k ∧ k ≠ p ∧ sd.ownBlock ≠ some k
theorem LSt.below {n p : Nat} {w0 W W' : World} {st sd : Value} {x : Sp} {acc os : List Sp} (h : LSt n p w0 W st sd x acc os) (hN : n + 1 ≤ W.heap.size) (hb : Below W.heap.size W W') : LSt n p w0 W' st sd x acc os :=
  ⟨h.base.trans (hb.mono hN), (hb.block p (Array.getElem?_eq_some_iff.1 h.box).1).trans h.box, h.sides.same fun k hk => hb.block k (h.sides.lt hk), h.stay.same fun k hk => hb.block k (h.stay.lt hk), h.off⟩
theorem LSt.push {n p : Nat} {w0 W W' : World} {st st' sd : Value} {x : Sp} {acc acc' os : List Sp} (h : LSt n p w0 W st sd x acc os) (hN : n + 1 ≤ W.heap.size) (hp : PushT spE 23 W st acc' st' W') : LSt n p w0 W' st' sd x acc' os := by
  obtain ⟨h1, h2, h3⟩ := hp
  have hpl := (Array.getElem?_eq_some_iff.1 h.box).1
  refine ⟨h.base.trans (grown_below h2 hN fun k hk => (h.off k hk).1), (h2.block p hpl fun e => (h.off p e.symm).2.1 rfl).trans h.box, h.sides.same fun k hk => h2.block k (h.sides.lt hk) fun e => (h.off k e.symm).2.2 hk, h1, fun k hk => ?_⟩
  rcases h3 k hk with h' | h'
  · exact h.off k h'
  · refine ⟨by omega, by omega, fun e => ?_⟩
    have := h.sides.lt e
    omega

theorem take_succ_get {α : Type} {l : List α} {i : Nat} {x : α} (h : l[i]? = some x) : l.take (i + 1) = l.take i ++ [x] := by
  obtain ⟨h1, rfl⟩ := List.getElem?_eq_some_iff.1 h
  rw [List.take_succ_eq_append_getElem h1]
theorem less_take {l : List Sp} {s x : Sp} {i : Nat} (h : l[i]? = some x) : lessM (l.take (i + 1)) s = lessM (l.take i) s ++ lessOne s x := by
  rw [take_succ_get h]
  simp [lessM]
theorem lessOne_len (s x : Sp) : (lessOne s x).length ≤ 2 := by
  unfold lessOne
  refine Nat.le_trans (List.length_filterMap_le _ _) ?_
  unfold outs
  rw [List.length_append]
  have h1 : (if s.1 = [] then ([] : List Sp) else [([], s.1)]).length ≤ 1 := by split <;> simp
  have h2 : (if s.2 = [] then ([] : List Sp) else [(s.2, [])]).length ≤ 1 := by split <;> simp
  omega
theorem less_len (s : Sp) : ∀ l : List Sp, (lessM l s).length ≤ 2 * l.length
  | [] => by simp [lessM]
  | x :: l => by
    have h1 := less_len s l
    have h2 := lessOne_len s x
    unfold lessM at *
    rw [List.flatMap_cons, List.length_append, List.length_cons]
    omega
theorem outs_len (s : Sp) : (outs s).length ≤ 2 := by
  unfold outs
  rw [List.length_append]
  have h1 : (if s.1 = [] then ([] : List Sp) else [([], s.1)]).length ≤ 1 := by split <;> simp
  have h2 : (if s.2 = [] then ([] : List Sp) else [(s.2, [])]).length ≤ 1 := by split <;> simp
  omega
theorem fm_some {x o m : Sp} {os : List Sp} {j : Nat} (h : os[j]? = some o) (hm : meet x o = some m) : (os.take (j + 1)).filterMap (fun o => meet x o) = (os.take j).filterMap (fun o => meet x o) ++ [m] := by
  rw [take_succ_get h, List.filterMap_append]
  simp [hm]
theorem fm_none {x o : Sp} {os : List Sp} {j : Nat} (h : os[j]? = some o) (hm : meet x o = none) : (os.take (j + 1)).filterMap (fun o => meet x o) = (os.take j).filterMap (fun o => meet x o) := by
  rw [take_succ_get h, List.filterMap_append]
  simp [hm]

set_option maxHeartbeats 8000000 in
theorem less_of (l : List Sp) (lv : Value) (s : Sp) (w : World) (hF : Sv w lv l) : Calls Try.prog 18 #[lv, sv s] w fun e w' => ∃ v c, e = .returned (.tuple #[v, .int .i64 c]) ∧ ResT (formB l && may s) (lessM l s) v c w' ∧ Below w.heap.size w w' := by
  obtain ⟨T, HT⟩ : ∃ T, Hid (T = ResT (formB l && may s) (lessM l s)) := ⟨_, rfl⟩
  rw [← HT.out]
  have ko := fun W => outside_of s W
  have kc := fun W => check_of s W
  obtain ⟨s1, s2⟩ := s
  obtain ⟨hs0, g0, hb0⟩ := one_box w (.cells #[.string (bk s1), .string (bk s2)] 23)
  have kf := form_of l lv _ (hF.below hb0)
  rw [hs0] at kf
  obtain ⟨ao, cap, rfl, h2⟩ := id hF
  go_enter Try.func18, Try.ntmps18
  go_wp2_with fail
  generalize w.alloc (.cells #[.string (bk s1), .string (bk s2)] 23) = w0 at *
  have cl : ∀ W, Below (w.heap.size + 1) w0 W → W.cell? ⟨w.heap.size, 0, none⟩ = some (.string (bk s1)) ∧ W.cell? ⟨w.heap.size, 1, none⟩ = some (.string (bk s2)) := fun W hW => by
    have := (hW.block w.heap.size (Nat.lt_succ_self _)).trans g0
    exact ⟨by rw [cells_of_block this]; rfl, by rw [cells_of_block this]; rfl⟩
  have hN : ∀ W, Below (w.heap.size + 1) w0 W → w.heap.size + 1 ≤ W.heap.size := fun W hW => by have := hW.size; omega
  cases hf : formB l with
  | false =>
    rw [hf] at kf
    have E : Hid (∀ W, T (.slice none 0 0) 1 W) := fun W => by rw [HT.out, hf]; exact ⟨rfl, rfl⟩
    clear HT hf hF h2 ko kc
    refine kf.mono ?_
    rintro e w1 ⟨rfl, hb1⟩
    go_wp2
    go_ret2
    exact ⟨_, _, rfl, E.out _, hb0.trans (hb1.mono (Nat.le_succ _))⟩
  | true =>
    rw [hf] at kf
    refine kf.mono ?_
    rintro e w1 ⟨rfl, hb1⟩
    clear kf
    have kc1 := kc w1
    obtain ⟨z0, z1⟩ := cl w1 hb1
    cases hm : may (s1, s2) with
    | false =>
      rw [hm] at kc1
      simp only [Bool.false_eq_true, if_false] at kc1
      have E : Hid (∀ W, T (.slice none 0 0) 1 W) := fun W => by rw [HT.out, hm, Bool.and_false]; exact ⟨rfl, rfl⟩
      clear HT hf hF h2 ko kc hm
      go_wp2_with fail
      refine kc1.mono ?_
      rintro e w2 ⟨rfl, hb2⟩
      go_wp2
      go_ret2
      exact ⟨_, _, rfl, E.out _, hb0.trans ((hb1.trans (hb2.mono (hN _ hb1))).mono (Nat.le_succ _))⟩
    | true =>
      rw [hm] at kc1
      simp only [if_true] at kc1
      have hll : l.length ≤ 64 := (formB_iff.1 hf).1
      have hmay : Hid (∀ x ∈ l, ∀ o ∈ outs (s1, s2), meetP x o = meet x o) := fun x hx o ho => by
        have h1 : may x = true := by
          unfold formB at hf
          simp only [Bool.and_eq_true, decide_eq_true_eq] at hf
          exact hf.1.2 x hx
        have h2 : may o = true := may_iff.2 ⟨outs_sm (may_iff.1 hm).1 o ho, outs_ok o ho⟩
        unfold meetP
        rw [h1, h2]
        rfl
      have E : Hid (∀ v c W, (if 64 < (lessM l (s1, s2)).length then v = .slice none 0 0 ∧ c = 2 else c = 0 ∧ Rd spE W v (lessM l (s1, s2))) → T v c W) := fun v c W h => by rw [HT.out, hf, hm]; exact h
      clear HT hf hF kc hm
      go_wp2_with fail
      refine kc1.mono ?_
      rintro e w2 ⟨rfl, hb2⟩
      have hb3 := hb1.trans (hb2.mono (hN _ hb1))
      clear kc1 hb1 hb2 z0 z1
      go_wp2
      go_loopg [6, 23] l.length (fun g s6 s23 wr => ∃ (i : Nat) (st : Value), i + g = l.length ∧ s23 = .int .i64 (i : Int) ∧ st = s6 ∧ Own (w.heap.size + 1) wr st (lessM (l.take i) (s1, s2)) ∧ Below (w.heap.size + 1) w0 wr)
      case atStart => exact ⟨0, _, by simp, rfl, rfl, Own.nil _ _, hb3⟩
      case round =>
        obtain ⟨i, st, hig, rfl, rfl, hO, hb⟩ := hrel
        clear hb3
        have hbw : Below w.heap.size w wr := hb0.trans (hb.mono (Nat.le_succ _))
        by_cases hlt : i < l.length
        · have hlti : (i : Int) < (l.length : Int) := by omega
          have hx : l[i]? = some l[i] := List.getElem?_eq_getElem hlt
          obtain ⟨b, off, rfl, d0, d1⟩ := h2 i l[i] hx
          obtain ⟨x, hs⟩ : ∃ s, s = l[i] := ⟨_, rfl⟩
          rw [← hs] at hx d0 d1
          have hxH : Hid (l[i]? = some x) := hx
          have hmx : Hid (∀ o ∈ outs (s1, s2), meetP x o = meet x o) := hmay.out x (List.mem_of_getElem? hx)
          obtain ⟨x1, x2⟩ := x
          have c0 := (hbw.cell (p := ⟨b, off + i * 2, none⟩) (World.block_lt_of_cell? w _ d0)).trans d0
          have c1 := (hbw.cell (p := ⟨b, off + i * 2 + 1, none⟩) (World.block_lt_of_cell? w _ d1)).trans d1
          obtain ⟨hsz, hn0, hbb⟩ := one_box wr (.cells #[.string (bk x1), .string (bk x2)] 23)
          have hbx := hb.trans (hbb.mono (hN _ hb))
          obtain ⟨z0, z1⟩ := cl _ hbx
          have hO1 := hO.below hbb
          have ko1 := ko (wr.alloc (.cells #[.string (bk x1), .string (bk x2)] 23))
          have hol : (lessM (l.take i) (s1, s2)).length ≤ 128 := by
            have := less_len (s1, s2) (l.take i)
            rw [List.length_take] at this
            omega
          have HL : Hid (lessM (l.take (i + 1)) (s1, s2) = lessM (l.take i) (s1, s2) ++ lessOne (s1, s2) (x1, x2)) := less_take hx
          have hlt1 : ∀ k, st.ownBlock = some k → k < wr.heap.size := fun k hk => hO.1.lt hk
          clear hx hs d0 d1 hO
          go_wp2_with fail
          generalize wr.alloc (.cells #[.string (bk x1), .string (bk x2)] 23) = wb at *
          refine ko1.mono ?_
          rintro e w4 ⟨sd, rfl, hsd, hb4⟩
          clear ko1 z0 z1 c0 c1
          generalize lessM (l.take i) (s1, s2) = A at *
          obtain ⟨p, hp⟩ : ∃ p, p = wr.heap.size := ⟨_, rfl⟩
          rw [← hp] at hn0 hsz hlt1
          have hL : LSt w.heap.size p w0 w4 st sd (x1, x2) (A ++ ((outs (s1, s2)).take 0).filterMap fun o => meet (x1, x2) o) (outs (s1, s2)) := by
            refine ⟨hbx.trans (hb4.mono (hN _ hbx)), (hb4.block p (by omega)).trans hn0, hsd.1, ?_, fun k hk => ⟨hO1.2 k hk, ?_, fun e => ?_⟩⟩
            · rw [List.take_zero]
              simpa using (hO1.below hb4).1
            · have := hlt1 k hk; omega
            · have := hsd.2 k e
              have := hlt1 k hk
              omega
          have hos : (outs (s1, s2)).length ≤ 2 := outs_len _
          obtain ⟨aos, cs, hsv, -⟩ := hsd.1.shape
          subst hsv
          have hp' : wr.heap.size = p := hp.symm
          clear hO1 hb4 hsd hn0 hbb hbx hsz hlt1 hp
          obtain ⟨gE, hgE⟩ : ∃ gE, gE = gk := ⟨_, rfl⟩
          subst hgE
          obtain ⟨wE, hwE⟩ : ∃ wE, wE = wr := ⟨_, rfl⟩
          subst hwE
          rw [hp']
          generalize hOS : outs (s1, s2) = os at *
          have HOS : Hid (outs (s1, s2) = os) := hOS
          clear hOS
          go_wp2
          go_loopg [6, 30] os.length (fun g s6 s30 ws => ∃ (j : Nat) (st2 : Value), j + g = os.length ∧ s30 = .int .i64 (j : Int) ∧ st2 = s6 ∧ LSt w.heap.size p w0 ws st2 (.slice aos os.length cs) (x1, x2) (A ++ (os.take j).filterMap fun o => meet (x1, x2) o) os)
          case atStart => exact ⟨0, _, by simp, rfl, rfl, hL⟩
          case round =>
            obtain ⟨j, st2, hjg, rfl, rfl, hS⟩ := hrel
            clear hL
            have hNr := hN _ hS.base
            by_cases hjl : j < os.length
            · have hjli : (j : Int) < (os.length : Int) := by omega
              have ho : os[j]? = some os[j] := List.getElem?_eq_getElem hjl
              obtain ⟨g2, cap2, cur2, e2, _, _, _, _, _, hc2, _⟩ := hS.sides.cells (by omega)
              cases e2
              obtain ⟨o, hoe⟩ : ∃ o, o = os[j] := ⟨_, rfl⟩
              rw [← hoe] at ho
              have c0 := hc2 j o 0 ho (by decide)
              have c1 := hc2 j o 1 ho (by decide)
              have hmo : meetP (x1, x2) o = meet (x1, x2) o := hmx.out o (List.mem_of_getElem? ho)
              have km := fun W => meet_of (x1, x2) o W
              rw [hmo] at km
              have hoH : Hid (os[j]? = some o) := ho
              obtain ⟨o1, o2⟩ := o
              replace c0 : wr.cell? ⟨g2, j * 2, none⟩ = some (.string (bk o1)) := c0
              replace c1 : wr.cell? ⟨g2, j * 2 + 1, none⟩ = some (.string (bk o2)) := c1
              obtain ⟨hsz, hn0, hbb⟩ := one_box wr (.cells #[.string (bk o1), .string (bk o2)] 23)
              have hS1 := hS.below hNr hbb
              have y0 : (wr.alloc (.cells #[.string (bk o1), .string (bk o2)] 23)).cell? ⟨wr.heap.size, 0, none⟩ = some (.string (bk o1)) := by rw [cells_of_block hn0]; rfl
              have y1 : (wr.alloc (.cells #[.string (bk o1), .string (bk o2)] 23)).cell? ⟨wr.heap.size, 1, none⟩ = some (.string (bk o2)) := by rw [cells_of_block hn0]; rfl
              have y2 : (wr.alloc (.cells #[.string (bk o1), .string (bk o2)] 23)).cell? ⟨p, 0, none⟩ = some (.string (bk x1)) := by rw [cells_of_block hS1.box]; rfl
              have y3 : (wr.alloc (.cells #[.string (bk o1), .string (bk o2)] 23)).cell? ⟨p, 1, none⟩ = some (.string (bk x2)) := by rw [cells_of_block hS1.box]; rfl
              have km1 := km (wr.alloc (.cells #[.string (bk o1), .string (bk o2)] 23))
              clear ho hoe hmo km hc2 hS
              go_wp2_with fail
              generalize wr.alloc (.cells #[.string (bk o1), .string (bk o2)] 23) = wb2 at *
              refine km1.mono ?_
              rintro e w5 ⟨rfl, hb5⟩
              have hS2 := hS1.below (hN _ hS1.base) hb5
              have hNb := hN _ hS2.base
              clear y0 y1 y2 y3 c0 c1 km1 hS1
              cases hM : meet (x1, x2) (o1, o2) with
              | none =>
                have HF : Hid ((os.take (j + 1)).filterMap (fun o => meet (x1, x2) o) = (os.take j).filterMap (fun o => meet (x1, x2) o)) := fm_none hoH.out hM
                rw [meetV_none]
                have hS3 := hS2.below hNb (one_box w5 (.cells #[.string { data := #[] }, .string { data := #[] }] 23)).2.2
                clear hS2 hM hb5
                go_wp2
                go_roundg (gk - 1)
                case measure => omega
                case rel => exact ⟨j + 1, st2, by omega, by go_num, rfl, by rw [HF.out]; exact hS3⟩
              | some m =>
                obtain ⟨m1, m2⟩ := m
                have HF : Hid ((os.take (j + 1)).filterMap (fun o => meet (x1, x2) o) = (os.take j).filterMap (fun o => meet (x1, x2) o) ++ [(m1, m2)]) := fm_some hoH.out hM
                rw [meetV_some]
                obtain ⟨hsz6, hn6, hbb6⟩ := one_box w5 (.cells #[.string (bk m1), .string (bk m2)] 23)
                have hS3 := hS2.below hNb hbb6
                have q0 : (w5.alloc (.cells #[.string (bk m1), .string (bk m2)] 23)).cell? ⟨w5.heap.size, 0, none⟩ = some (.string (bk m1)) := by rw [cells_of_block hn6]; rfl
                have q1 : (w5.alloc (.cells #[.string (bk m1), .string (bk m2)] 23)).cell? ⟨w5.heap.size, 1, none⟩ = some (.string (bk m2)) := by rw [cells_of_block hn6]; rfl
                have hal : (A ++ (os.take j).filterMap fun o => meet (x1, x2) o).length ≤ 1000000 := by
                  rw [List.length_append]
                  have := List.length_filterMap_le (fun o => meet (x1, x2) o) (os.take j)
                  rw [List.length_take] at this
                  omega
                have hrunH := push_at (m1, m2) hsz6 (bk m1) (bk m2) rfl rfl hS3.stay hal
                have hNc := hN _ hS3.base
                have HA : Hid (A ++ (os.take (j + 1)).filterMap (fun o => meet (x1, x2) o) = (A ++ (os.take j).filterMap (fun o => meet (x1, x2) o)) ++ [(m1, m2)]) := by
                  show _ = _
                  rw [HF.out, List.append_assoc]
                clear hS2 hM hb5 hal hn6 hbb6 HF
                generalize A ++ (os.take j).filterMap (fun o => meet (x1, x2) o) = AA at *
                obtain ⟨sa, sc, hst2, -⟩ := hS3.stay.shape
                subst hst2
                go_wp2_with (at_builtin; refine wp_by rfl _ _ _ rfl _ _ rfl rfl hrunH.out ?_)
                intro v6 w6 hp6
                have hS4 := hS3.push hNc hp6
                clear hS3 hrunH q0 q1 hp6
                go_wp2
                go_roundg (gk - 1)
                case measure => omega
                case rel => exact ⟨j + 1, v6, by omega, by go_num, rfl, by rw [HA.out]; exact hS4⟩
            · have hjli : ¬ (j : Int) < (os.length : Int) := by omega
              obtain rfl : j = os.length := by omega
              have HO : Hid (Own (w.heap.size + 1) wr st2 (lessM (l.take (i + 1)) (s1, s2))) := by
                refine ⟨?_, fun k hk => (hS.off k hk).1⟩
                rw [HL.out]
                unfold lessOne
                rw [HOS.out]
                have := hS.stay
                rw [List.take_length] at this
                exact this
              have hbs := hS.base
              clear hS HL hmx hxH
              go_wp2
              go_roundg (gE - 1)
              case measure => omega
              case rel => exact ⟨i + 1, st2, by omega, by go_num, rfl, HO.out, hbs⟩
        · have hlti : ¬ (i : Int) < (l.length : Int) := by omega
          obtain rfl : i = l.length := by omega
          rw [List.take_length] at hO
          obtain ⟨sa, sc, hst, -⟩ := hO.1.shape
          have kw := few_of st sa _ sc hst wr
          subst hst
          have hrd := hO.1.rd
          have HR : Hid (∀ v c, (if 64 < (lessM l (s1, s2)).length then v = .slice none 0 0 ∧ c = 2 else c = 0 ∧ Rd spE wr v (lessM l (s1, s2))) → T v c wr) := fun v c h => E.out v c wr h
          clear hO h2 E hmay ko
          by_cases h64 : 64 < (lessM l (s1, s2)).length
          · rw [if_pos h64] at kw
            have HR2 : Hid (T (.slice none 0 0) 2 wr) := HR.out _ _ (by rw [if_pos h64]; exact ⟨rfl, rfl⟩)
            clear HR h64
            go_wp2_with fail
            refine kw.mono ?_
            rintro e w5 ⟨rfl, hw5⟩
            subst hw5
            go_wp2
            go_ret2
            exact ⟨_, _, rfl, HR2.out, hbw⟩
          · rw [if_neg h64] at kw
            have HR2 : Hid (T (.slice sa (lessM l (s1, s2)).length sc) 0 wr) := HR.out _ _ (by rw [if_neg h64]; exact ⟨rfl, hrd⟩)
            clear HR h64 hrd
            go_wp2_with fail
            refine kw.mono ?_
            rintro e w5 ⟨rfl, hw5⟩
            subst hw5
            go_wp2
            go_ret2
            exact ⟨_, _, rfl, HR2.out, hbw⟩
end Go.Proofs.Ytlkcfpifjocliaa

