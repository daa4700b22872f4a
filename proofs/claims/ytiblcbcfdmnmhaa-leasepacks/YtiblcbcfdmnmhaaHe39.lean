import Derived.Test.YtiblcbcfdmnmhaaHe12
/- Pack and Unpack. -/
namespace Go.Proofs.Ytiblcbcfdmnmhaa
open Go.RowKit LeaseMath
set_option maxRecDepth 100000
set_option linter.unusedSimpArgs false
set_option linter.unusedVariables false

theorem pack1_of {w : World} {q : Nat} {now : Int} (hq : w.cell? ⟨q, 0, none⟩ = some (.int .i64 now)) (h : Hd) (h0 : timeB now = true) (h1 : timeB h.2.2 = true) : Calls Try.prog 45 #[.int .i64 h.2.2, .pointer (some ⟨q, 0, none⟩)] w fun e w' => e = .returned (.int .i64 (packM now h).2.2) ∧ w' = w := by
  obtain ⟨a0, a1⟩ := time_iff.1 h0
  obtain ⟨b0, b1⟩ := time_iff.1 h1
  obtain ⟨k, t, u⟩ := h
  dsimp only [packM] at *
  have j1 : IntKind.i64.wrap (u - now) = u - now := IntWalk.i64_in _ (by omega)
  clear h0 h1
  by_cases hu : u ≤ now
  · rw [if_pos hu]
    have hu' : ¬ 0 < u - now := by omega
    have hu2 : max (u - now) 0 = 0 := by omega
    have hu3 : ¬ u - now > 0 := by omega
    go_enter Try.func45, Try.ntmps45
    go_wp2
    go_ret
    exact ⟨by first | rfl | (simp; omega), rfl⟩
  · rw [if_neg hu]
    have hu' : 0 < u - now := by omega
    have hu2 : max (u - now) 0 = u - now := by omega
    go_enter Try.func45, Try.ntmps45
    go_wp2
    go_ret
    exact ⟨by first | rfl | (simp; omega), rfl⟩
theorem unpack1_of {w : World} {q : Nat} {now : Int} (hq : w.cell? ⟨q, 0, none⟩ = some (.int .i64 now)) (h : Hd) (h0 : timeB now = true) (h1 : timeB h.2.2 = true) : Calls Try.prog 46 #[.int .i64 h.2.2, .pointer (some ⟨q, 0, none⟩)] w fun e w' => e = .returned (.int .i64 (unpackM now h).2.2) ∧ w' = w := by
  obtain ⟨a0, a1⟩ := time_iff.1 h0
  obtain ⟨b0, b1⟩ := time_iff.1 h1
  obtain ⟨k, t, u⟩ := h
  dsimp only [unpackM] at *
  have kl := later_of now u w a0 a1 b0 b1
  generalize laterM now u = L at *
  clear h0 h1 a0 a1 b0 b1
  go_enter Try.func46, Try.ntmps46
  go_wp2_with fail
  refine kl.mono ?_
  rintro e w1 ⟨rfl, hw1⟩
  subst hw1
  go_wp2
  go_ret
  exact ⟨rfl, rfl⟩

/-- What Pack tells. -/
def PackT (n : Nat) (zs : List Hd) (now : Int) (e : Ending) (w' : World) : Prop :=
  ∃ v Q, e = .returned (.tuple #[v, .int .i64 (if mayB holdB zs && timeB now then 0 else 1)]) ∧ Ow holdE 25 n w' v Q ∧ Q = (if mayB holdB zs && timeB now then zs.map (packM now) else [])
theorem PackT.no {n : Nat} {zs : List Hd} {now : Int} (h : (mayB holdB zs && timeB now) = false) (w' : World) : PackT n zs now (.returned (.tuple #[.slice none 0 0, .int .i64 1])) w' := by
  refine ⟨_, [], ?_, Ow.nil _ _ _ _, ?_⟩ <;> rw [h] <;> rfl

set_option maxHeartbeats 4000000 in
theorem turnp_of (zs : List Hd) (lv : Value) (now : Int) (w : World) {q : Nat} (hq : w.cell? ⟨q, 0, none⟩ = some (.int .i64 now)) (hL : Rd holdE w lv zs) : Calls Try.prog 44 #[lv, .int .i64 now, .func (.func 45) #[] #[.pointer (some ⟨q, 0, none⟩)]] w fun e w' => PackT w.heap.size zs now e w' ∧ Below w.heap.size w w' := by
  obtain ⟨T, HT⟩ : ∃ T, Hid (T = PackT w.heap.size zs now) := ⟨_, rfl⟩
  rw [← HT.out]
  have HL : Hid (Rd holdE w lv zs) := hL
  have kc := checkh_of hL
  have kt := fun W => time_of now W
  have hql := World.block_lt_of_cell? w _ hq
  dsimp only at hql
  have hqW : ∀ W, Below w.heap.size w W → W.cell? ⟨q, 0, none⟩ = some (.int .i64 now) := fun W hW => (hW.cell (p := ⟨q, 0, none⟩) hql).trans hq
  obtain ⟨ao, cap, rfl, -, -⟩ := hL.shape
  clear hL hq
  cases hm : mayB holdB zs with
  | false =>
    have E : Hid (∀ W, T (.returned (.tuple #[.slice none 0 0, .int .i64 1])) W) := fun W => by rw [HT.out]; exact PackT.no (by rw [hm]; rfl) W
    rw [hm] at kc
    simp only [Bool.false_eq_true, if_false] at kc
    clear HT HL hm kt hqW
    go_enter Try.func44, Try.ntmps44
    go_wp2_with fail
    refine kc.mono ?_
    rintro e w1 ⟨rfl, hb1⟩
    clear kc
    go_wp2
    go_ret2
    exact ⟨E.out _, hb1⟩
  | true =>
    rw [hm] at kc
    simp only [if_true] at kc
    cases ht : timeB now with
    | false =>
      have E : Hid (∀ W, T (.returned (.tuple #[.slice none 0 0, .int .i64 1])) W) := fun W => by rw [HT.out]; exact PackT.no (by rw [hm, ht]; rfl) W
      rw [ht] at kt
      clear HT HL hm ht hqW
      go_enter Try.func44, Try.ntmps44
      go_wp2_with fail
      refine kc.mono ?_
      rintro e w1 ⟨rfl, hb1⟩
      clear kc
      go_wp2_with fail
      refine (kt _).mono ?_
      rintro e w2 ⟨rfl, hw2⟩
      subst hw2
      go_wp2
      go_ret2
      exact ⟨E.out _, hb1⟩
    | true =>
      have E : Hid (∀ v W, Ow holdE 25 w.heap.size W v (zs.map (packM now)) → T (.returned (.tuple #[v, .int .i64 0])) W) := fun v W h1 => by
        rw [HT.out]
        refine ⟨v, _, ?_, h1, ?_⟩ <;> rw [hm, ht] <;> rfl
      rw [ht] at kt
      have hlen := (may_iff.1 hm).1
      have HOK : Hid (∀ h ∈ zs, timeB h.2.2 = true) := fun h hh => by
        have := hold_iff.1 ((may_iff.1 hm).2.1 h hh)
        exact time_iff.2 ⟨this.2.2.1, this.2.2.2⟩
      have HTM : Hid (timeB now = true) := ht
      clear HT hm ht
      go_enter Try.func44, Try.ntmps44
      go_wp2_with fail
      refine kc.mono ?_
      rintro e w1 ⟨rfl, hb1⟩
      clear kc
      go_wp2_with fail
      refine (kt _).mono ?_
      rintro e w2 ⟨rfl, hw2⟩
      subst hw2
      clear kt
      go_wp2
      go_loopg [8, 21] zs.length (fun g s8 s21 wr => ∃ (i : Nat) (st : Value), i + g = zs.length ∧ s21 = .int .i64 (i : Int) ∧ st = s8 ∧ Ow holdE 25 w.heap.size wr st ((zs.take i).map (packM now)) ∧ Below w.heap.size w wr)
      case atStart => exact ⟨0, _, by omega, rfl, rfl, Ow.nil _ _ _ _, hb1⟩
      case round =>
        obtain ⟨i, st, hig, rfl, rfl, hO, hb⟩ := hrel
        have hcl : ((zs.take i).map (packM now)).length ≤ 1024 := by rw [List.length_map, List.length_take]; omega
        obtain ⟨sa, sc, hst, -⟩ := hO.1.shape
        by_cases hlt : i < zs.length
        · have hlti : (i : Int) < (zs.length : Int) := by omega
          have hx : zs[i]? = some zs[i] := List.getElem?_eq_getElem hlt
          obtain ⟨z, hzz⟩ : ∃ z, z = zs[i] := ⟨_, rfl⟩
          rw [← hzz] at hx
          clear hzz
          obtain ⟨b, off, rfl, cc⟩ := rdh_at HL.out hx
          obtain ⟨c0, c1, c2⟩ := cc wr hb
          obtain ⟨hs0, hbz0, cl0⟩ := hd_box wr z
          obtain ⟨d0, d1, d2⟩ := cl0 _ (Below.refl _ _)
          have kf : Calls _ _ _ _ _ := pack1_of (hqW _ (keep_step hb (Nat.le_refl _) hbz0)) z HTM.out (HOK.out z (List.mem_of_getElem? hx))
          obtain ⟨hs, hbz, cl⟩ := hd_box wr (packM now z)
          obtain ⟨e0, e1, e2⟩ := cl _ (Below.refl _ _)
          have hb1' := keep_step hb (Nat.le_refl _) hbz
          have hO1 := hO.below hbz
          have HN : Hid ((zs.take (i + 1)).map (packM now) = (zs.take i).map (packM now) ++ [packM now z]) := map_step hx
          have hrunH : Hid _ := push_hold (packM now z) hO1.1 (by omega)
          have HGP : Hid (∀ v' w', PushT holdE 25 (wr.alloc (hc (packM now z))) st ((zs.take i).map (packM now) ++ [packM now z]) v' w' → Ow holdE 25 w.heap.size w' v' ((zs.take (i + 1)).map (packM now)) ∧ Below w.heap.size (wr.alloc (hc (packM now z))) w') := fun v' w' hp => by
            rw [HN.out]
            exact hO1.push (Nat.le_trans hb.size hbz.size) hp
          obtain ⟨k, t, u⟩ := z
          have hf1 : (packM now (k, t, u)).1 = k := rfl
          have hf2 : (packM now (k, t, u)).2.1 = t := rfl
          dsimp only [hc] at *
          rw [hf1, hf2] at *
          generalize (packM now (k, t, u)).2.2 = u' at *
          rw [hs] at hrunH
          clear hO hO1 cl cl0 cc hx HN HL hbz hbz0 HOK hf1 hf2 hqW E
          generalize (zs.take i).map (packM now) = Q at *
          generalize Q.length = cn at hst
          subst hst
          go_wp2_with fail
          refine kf.mono ?_
          rintro e w3 ⟨rfl, hw3⟩
          subst hw3
          clear kf
          go_wp2_with (at_builtin; refine wp_by rfl _ _ _ rfl _ _ rfl rfl hrunH.out ?_)
          intro v6 w6 hp6
          obtain ⟨hO6, hb6⟩ := HGP.out v6 w6 hp6
          have hb06 := hb1'.trans hb6
          clear hrunH hp6 hb6 HGP hb hb1 hb1'
          go_wp2
          go_roundg (gk - 1)
          case measure => omega
          case rel => exact ⟨i + 1, v6, by omega, by go_num, rfl, hO6, hb06⟩
        · have hlti : ¬ (i : Int) < (zs.length : Int) := by omega
          rw [List.take_of_length_le (by omega)] at hO hst
          rw [List.length_map] at hst
          have HF : Hid _ := E.out st wr hO
          clear HL E hO HOK
          subst hst
          go_wp2
          go_ret2
          exact ⟨HF.out, hb⟩

set_option maxHeartbeats 2000000 in
theorem pack_of (zs : List Hd) (lv : Value) (now : Int) (w : World) (hL : Rd holdE w lv zs) : Calls Try.prog 26 #[lv, .int .i64 now] w fun e w' => PackT w.heap.size zs now e w' ∧ Below w.heap.size w w' := by
  obtain ⟨q1, q2, q3⟩ := one_box w (.cells #[.int .i64 now] 3)
  have hq0 : (w.alloc (.cells #[.int .i64 now] 3)).cell? ⟨w.heap.size, 0, none⟩ = some (.int .i64 now) := by rw [cells_of_block q2]; rfl
  have kt := turnp_of zs lv now _ hq0 (hL.below q3)
  rw [q1] at kt
  obtain ⟨ao, cap, rfl, -, -⟩ := hL.shape
  obtain ⟨T, HT⟩ : ∃ T, Hid (T = PackT w.heap.size zs now) := ⟨_, rfl⟩
  rw [← HT.out]
  clear hL q2
  go_enter Try.func26, Try.ntmps26
  go_wp2_with fail
  refine kt.mono ?_
  rintro e w2 ⟨⟨v, Q, rfl, hO, hQ⟩, hb2⟩
  have hbw : Below w.heap.size w w2 := q3.trans (hb2.mono (Nat.le_succ _))
  have HF : Hid (T (.returned (.tuple #[v, .int .i64 (if mayB holdB zs && timeB now then 0 else 1)])) w2) := by rw [HT.out]; exact ⟨v, Q, rfl, hO.mono (Nat.le_succ _), hQ⟩
  obtain ⟨sa, sc, rfl, -⟩ := hO.1.shape
  generalize (if mayB holdB zs && timeB now then (0 : Int) else 1) = E at *
  clear kt HT hO hQ hb2 q3
  go_wp2
  go_ret2
  exact ⟨HF.out, hbw⟩

/-- What Unpack tells. -/
def UnpackT (n : Nat) (zs : List Hd) (now : Int) (e : Ending) (w' : World) : Prop :=
  ∃ v Q, e = .returned (.tuple #[v, .int .i64 (if mayB holdB zs && timeB now then 0 else 1)]) ∧ Ow holdE 25 n w' v Q ∧ Q = (if mayB holdB zs && timeB now then zs.map (unpackM now) else [])
theorem UnpackT.no {n : Nat} {zs : List Hd} {now : Int} (h : (mayB holdB zs && timeB now) = false) (w' : World) : UnpackT n zs now (.returned (.tuple #[.slice none 0 0, .int .i64 1])) w' := by
  refine ⟨_, [], ?_, Ow.nil _ _ _ _, ?_⟩ <;> rw [h] <;> rfl

set_option maxHeartbeats 4000000 in
theorem turnu_of (zs : List Hd) (lv : Value) (now : Int) (w : World) {q : Nat} (hq : w.cell? ⟨q, 0, none⟩ = some (.int .i64 now)) (hL : Rd holdE w lv zs) : Calls Try.prog 44 #[lv, .int .i64 now, .func (.func 46) #[] #[.pointer (some ⟨q, 0, none⟩)]] w fun e w' => UnpackT w.heap.size zs now e w' ∧ Below w.heap.size w w' := by
  obtain ⟨T, HT⟩ : ∃ T, Hid (T = UnpackT w.heap.size zs now) := ⟨_, rfl⟩
  rw [← HT.out]
  have HL : Hid (Rd holdE w lv zs) := hL
  have kc := checkh_of hL
  have kt := fun W => time_of now W
  have hql := World.block_lt_of_cell? w _ hq
  dsimp only at hql
  have hqW : ∀ W, Below w.heap.size w W → W.cell? ⟨q, 0, none⟩ = some (.int .i64 now) := fun W hW => (hW.cell (p := ⟨q, 0, none⟩) hql).trans hq
  obtain ⟨ao, cap, rfl, -, -⟩ := hL.shape
  clear hL hq
  cases hm : mayB holdB zs with
  | false =>
    have E : Hid (∀ W, T (.returned (.tuple #[.slice none 0 0, .int .i64 1])) W) := fun W => by rw [HT.out]; exact UnpackT.no (by rw [hm]; rfl) W
    rw [hm] at kc
    simp only [Bool.false_eq_true, if_false] at kc
    clear HT HL hm kt hqW
    go_enter Try.func44, Try.ntmps44
    go_wp2_with fail
    refine kc.mono ?_
    rintro e w1 ⟨rfl, hb1⟩
    clear kc
    go_wp2
    go_ret2
    exact ⟨E.out _, hb1⟩
  | true =>
    rw [hm] at kc
    simp only [if_true] at kc
    cases ht : timeB now with
    | false =>
      have E : Hid (∀ W, T (.returned (.tuple #[.slice none 0 0, .int .i64 1])) W) := fun W => by rw [HT.out]; exact UnpackT.no (by rw [hm, ht]; rfl) W
      rw [ht] at kt
      clear HT HL hm ht hqW
      go_enter Try.func44, Try.ntmps44
      go_wp2_with fail
      refine kc.mono ?_
      rintro e w1 ⟨rfl, hb1⟩
      clear kc
      go_wp2_with fail
      refine (kt _).mono ?_
      rintro e w2 ⟨rfl, hw2⟩
      subst hw2
      go_wp2
      go_ret2
      exact ⟨E.out _, hb1⟩
    | true =>
      have E : Hid (∀ v W, Ow holdE 25 w.heap.size W v (zs.map (unpackM now)) → T (.returned (.tuple #[v, .int .i64 0])) W) := fun v W h1 => by
        rw [HT.out]
        refine ⟨v, _, ?_, h1, ?_⟩ <;> rw [hm, ht] <;> rfl
      rw [ht] at kt
      have hlen := (may_iff.1 hm).1
      have HOK : Hid (∀ h ∈ zs, timeB h.2.2 = true) := fun h hh => by
        have := hold_iff.1 ((may_iff.1 hm).2.1 h hh)
        exact time_iff.2 ⟨this.2.2.1, this.2.2.2⟩
      have HTM : Hid (timeB now = true) := ht
      clear HT hm ht
      go_enter Try.func44, Try.ntmps44
      go_wp2_with fail
      refine kc.mono ?_
      rintro e w1 ⟨rfl, hb1⟩
      clear kc
      go_wp2_with fail
      refine (kt _).mono ?_
      rintro e w2 ⟨rfl, hw2⟩
      subst hw2
      clear kt
      go_wp2
      go_loopg [8, 21] zs.length (fun g s8 s21 wr => ∃ (i : Nat) (st : Value), i + g = zs.length ∧ s21 = .int .i64 (i : Int) ∧ st = s8 ∧ Ow holdE 25 w.heap.size wr st ((zs.take i).map (unpackM now)) ∧ Below w.heap.size w wr)
      case atStart => exact ⟨0, _, by omega, rfl, rfl, Ow.nil _ _ _ _, hb1⟩
      case round =>
        obtain ⟨i, st, hig, rfl, rfl, hO, hb⟩ := hrel
        have hcl : ((zs.take i).map (unpackM now)).length ≤ 1024 := by rw [List.length_map, List.length_take]; omega
        obtain ⟨sa, sc, hst, -⟩ := hO.1.shape
        by_cases hlt : i < zs.length
        · have hlti : (i : Int) < (zs.length : Int) := by omega
          have hx : zs[i]? = some zs[i] := List.getElem?_eq_getElem hlt
          obtain ⟨z, hzz⟩ : ∃ z, z = zs[i] := ⟨_, rfl⟩
          rw [← hzz] at hx
          clear hzz
          obtain ⟨b, off, rfl, cc⟩ := rdh_at HL.out hx
          obtain ⟨c0, c1, c2⟩ := cc wr hb
          obtain ⟨hs0, hbz0, cl0⟩ := hd_box wr z
          obtain ⟨d0, d1, d2⟩ := cl0 _ (Below.refl _ _)
          have kf : Calls _ _ _ _ _ := unpack1_of (hqW _ (keep_step hb (Nat.le_refl _) hbz0)) z HTM.out (HOK.out z (List.mem_of_getElem? hx))
          obtain ⟨hs, hbz, cl⟩ := hd_box wr (unpackM now z)
          obtain ⟨e0, e1, e2⟩ := cl _ (Below.refl _ _)
          have hb1' := keep_step hb (Nat.le_refl _) hbz
          have hO1 := hO.below hbz
          have HN : Hid ((zs.take (i + 1)).map (unpackM now) = (zs.take i).map (unpackM now) ++ [unpackM now z]) := map_step hx
          have hrunH : Hid _ := push_hold (unpackM now z) hO1.1 (by omega)
          have HGP : Hid (∀ v' w', PushT holdE 25 (wr.alloc (hc (unpackM now z))) st ((zs.take i).map (unpackM now) ++ [unpackM now z]) v' w' → Ow holdE 25 w.heap.size w' v' ((zs.take (i + 1)).map (unpackM now)) ∧ Below w.heap.size (wr.alloc (hc (unpackM now z))) w') := fun v' w' hp => by
            rw [HN.out]
            exact hO1.push (Nat.le_trans hb.size hbz.size) hp
          obtain ⟨k, t, u⟩ := z
          have hf1 : (unpackM now (k, t, u)).1 = k := rfl
          have hf2 : (unpackM now (k, t, u)).2.1 = t := rfl
          dsimp only [hc] at *
          rw [hf1, hf2] at *
          generalize (unpackM now (k, t, u)).2.2 = u' at *
          rw [hs] at hrunH
          clear hO hO1 cl cl0 cc hx HN HL hbz hbz0 HOK hf1 hf2 hqW E
          generalize (zs.take i).map (unpackM now) = Q at *
          generalize Q.length = cn at hst
          subst hst
          go_wp2_with fail
          refine kf.mono ?_
          rintro e w3 ⟨rfl, hw3⟩
          subst hw3
          clear kf
          go_wp2_with (at_builtin; refine wp_by rfl _ _ _ rfl _ _ rfl rfl hrunH.out ?_)
          intro v6 w6 hp6
          obtain ⟨hO6, hb6⟩ := HGP.out v6 w6 hp6
          have hb06 := hb1'.trans hb6
          clear hrunH hp6 hb6 HGP hb hb1 hb1'
          go_wp2
          go_roundg (gk - 1)
          case measure => omega
          case rel => exact ⟨i + 1, v6, by omega, by go_num, rfl, hO6, hb06⟩
        · have hlti : ¬ (i : Int) < (zs.length : Int) := by omega
          rw [List.take_of_length_le (by omega)] at hO hst
          rw [List.length_map] at hst
          have HF : Hid _ := E.out st wr hO
          clear HL E hO HOK
          subst hst
          go_wp2
          go_ret2
          exact ⟨HF.out, hb⟩

set_option maxHeartbeats 2000000 in
theorem unpack_of (zs : List Hd) (lv : Value) (now : Int) (w : World) (hL : Rd holdE w lv zs) : Calls Try.prog 27 #[lv, .int .i64 now] w fun e w' => UnpackT w.heap.size zs now e w' ∧ Below w.heap.size w w' := by
  obtain ⟨q1, q2, q3⟩ := one_box w (.cells #[.int .i64 now] 3)
  have hq0 : (w.alloc (.cells #[.int .i64 now] 3)).cell? ⟨w.heap.size, 0, none⟩ = some (.int .i64 now) := by rw [cells_of_block q2]; rfl
  have kt := turnu_of zs lv now _ hq0 (hL.below q3)
  rw [q1] at kt
  obtain ⟨ao, cap, rfl, -, -⟩ := hL.shape
  obtain ⟨T, HT⟩ : ∃ T, Hid (T = UnpackT w.heap.size zs now) := ⟨_, rfl⟩
  rw [← HT.out]
  clear hL q2
  go_enter Try.func27, Try.ntmps27
  go_wp2_with fail
  refine kt.mono ?_
  rintro e w2 ⟨⟨v, Q, rfl, hO, hQ⟩, hb2⟩
  have hbw : Below w.heap.size w w2 := q3.trans (hb2.mono (Nat.le_succ _))
  have HF : Hid (T (.returned (.tuple #[v, .int .i64 (if mayB holdB zs && timeB now then 0 else 1)])) w2) := by rw [HT.out]; exact ⟨v, Q, rfl, hO.mono (Nat.le_succ _), hQ⟩
  obtain ⟨sa, sc, rfl, -⟩ := hO.1.shape
  generalize (if mayB holdB zs && timeB now then (0 : Int) else 1) = E at *
  clear kt HT hO hQ hb2 q3
  go_wp2
  go_ret2
  exact ⟨HF.out, hbw⟩
end Go.Proofs.Ytiblcbcfdmnmhaa

