import Derived.Test.YtiblcbcfdmnmhaaHe25
/- The law LeaseTimes, where holds may be (times that may not be). -/
namespace Go.Proofs.Ytiblcbcfdmnmhaa
open Go.RowKit LeaseMath
set_option maxRecDepth 100000
set_option linter.unusedSimpArgs false
set_option linter.unusedVariables false

set_option maxHeartbeats 8000000 in
theorem times_tl_true (zs : List Hd) (lv : Value) (now ttl : Int) (w : World) (hL : Rd holdE w lv zs) (h0 : 0 ≤ now) (h1 : now ≤ 2147483647) (h2 : ttl < 1) (hB : mayB holdB zs = true) : Calls Try.prog 4 #[lv, .int .i64 now, .int .i64 ttl] w fun e w' => e = .returned (.bool true) ∧ Below w.heap.size w w' := by
  have k1 := until_of now ttl w
  have kd := due_of zs lv now w hL
  have k6 : ∀ W, Below w.heap.size w W → _ := fun W hW => rmay_of zs lv W (hL.below hW)
  have k7 := fun W => awake_of W
  have HL : Hid (Rd holdE w lv zs) := hL
  have TB : timeB now = true := time_iff.2 ⟨h0, h1⟩
  have hmt : (mayB holdB zs && timeB now) = true := by rw [TB, hB]; rfl
  have a1d : decide ((0 : Int) ≤ now) = true := decide_eq_true h0
  have a2d : decide (now ≤ 2147483647) = true := decide_eq_true h1
  have b1 : ttl < 1 := by omega
  have b1d : decide (ttl < 1) = true := decide_eq_true b1
  have hun : untilM now ttl = (0, 1) := by unfold untilM; rw [decide_eq_false (show ¬ 1 ≤ ttl by omega)]; simp
  unfold DueT at kd
  simp only [hmt, Bool.false_eq_true, if_false, if_true] at kd
  obtain ⟨ao, cap, rfl, -, -⟩ := hL.shape
  rw [hun] at k1
  dsimp only at k1
  rw [hB] at k6
  have hlen := (may_iff.1 hB).1
  have k8 : ∀ (u v : Value) W, Rd holdE W u (dueM zs now) → Rd holdE W v (dueM zs now) → _ := fun u v W h1 h2 => sameh_of (dueM zs now) u v W h1 h2 (by have := (due_len zs now zs.length).1; rw [List.take_length] at this; omega)
  have k9 : ∀ (u v : Value) W, Rd holdE W u (liveM zs now) → Rd holdE W v (liveM zs now) → _ := fun u v W h1 h2 => sameh_of (liveM zs now) u v W h1 h2 (by have := (due_len zs now zs.length).2; rw [List.take_length] at this; omega)
  clear hL hun hmt hB TB
  go_enter Try.func4, Try.ntmps4
  go_wp2_with fail
  refine k1.mono ?_
  rintro e w1 ⟨rfl, hw1⟩
  subst hw1
  clear k1
  go_wp2_with fail
  refine kd.mono ?_
  rintro e w2 ⟨⟨u, v, P, Q, rfl, hP, hQ, hPe, hQe⟩, hw2⟩
  subst hPe hQe
  have hRu := hP.1.rd
  have hRv := hQ.1.rd
  obtain ⟨ua, uc, rfl, -⟩ := hP.1.shape
  obtain ⟨va, vc, rfl, -⟩ := hQ.1.shape
  clear hP hQ
  have kk6 := k6 w2 hw2
  clear kd k6
  go_wp2_with fail
  refine kk6.mono ?_
  rintro e w3 ⟨rfl, hb3⟩
  have hw3 := hw2.trans (hb3.mono hw2.size)
  have hRu := hRu.below hb3
  have hRv := hRv.below hb3
  have HL3 : Hid (Rd holdE w3 (.slice ao zs.length cap) zs) := HL.out.below hw3
  clear kk6 hb3 hw2 HL
  obtain ⟨r1, r2, r3⟩ := one_box w3 (.cells #[] 25)
  obtain ⟨s1, s2, s3⟩ := one_box (w3.alloc (.cells #[] 25)) (.cells #[] 25)
  have r2' := (s3.block w3.heap.size (by omega)).trans r2
  rw [r1] at s2
  have hT0 : TwoH w3.heap.size ((w3.alloc (.cells #[] 25)).alloc (.cells #[] 25)) (.slice (some ⟨w3.heap.size, 0, none⟩) 0 0) (dueM (zs.take 0) now) (.slice (some ⟨w3.heap.size + 1, 0, none⟩) 0 0) (liveM (zs.take 0) now) := by
    refine ⟨⟨Rk.made (xs := []) r2' rfl (by unfold maxLen; simp), fun k hk => ?_⟩, ⟨Rk.made (xs := []) s2 rfl (by unfold maxLen; simp), fun k hk => ?_⟩, fun k hk hk2 => ?_⟩
    · cases hk; exact Nat.le_refl _
    · cases hk; exact Nat.le_succ _
    · cases hk
      simp [Value.ownBlock] at hk2
  have hbx : Below w3.heap.size w3 ((w3.alloc (.cells #[] 25)).alloc (.cells #[] 25)) := r3.trans (s3.mono r3.size)
  go_wp2
  clear r1 r2 r3 s1 s2 s3 r2'
  generalize (w3.alloc (.cells #[] 25)).alloc (.cells #[] 25) = w5 at *
  go_loopg [13, 14, 15] zs.length (fun g s13 s14 s15 wr => ∃ (i : Nat) (su sv : Value), i + g = zs.length ∧ s15 = .int .i64 (i : Int) ∧ su = s13 ∧ sv = s14 ∧ TwoH w3.heap.size wr su (dueM (zs.take i) now) sv (liveM (zs.take i) now) ∧ Below w3.heap.size w3 wr)
  case atStart => exact ⟨0, _, _, by omega, rfl, rfl, rfl, hT0, hbx⟩
  case round =>
    obtain ⟨i, su, sv, hig, rfl, rfl, rfl, hO, hb⟩ := hrel
    clear hT0 hbx
    obtain ⟨hcl, hcl2⟩ := due_len zs now i
    obtain ⟨sa, sc, hsu, -⟩ := hO.1.1.shape
    obtain ⟨va, vc, hsv, -⟩ := hO.2.1.1.shape
    have hbe := hb
    have hnr : w3.heap.size ≤ wr.heap.size := hb.size
    by_cases hlt : i < zs.length
    · have hlti : (i : Int) < (zs.length : Int) := by omega
      have hx : zs[i]? = some zs[i] := List.getElem?_eq_getElem hlt
      obtain ⟨z, hzz⟩ : ∃ z, z = zs[i] := ⟨_, rfl⟩
      rw [← hzz] at hx
      clear hzz
      obtain ⟨b, off, rfl, cc⟩ := rdh_at HL3.out hx
      obtain ⟨c0, c1, c2⟩ := cc wr hbe
      by_cases hk : z.2.2 ≤ now
      · have e1 : dueM (zs.take (i + 1)) now = dueM (zs.take i) now ++ [z] := flt_yes hx (by simp [hk])
        have e2 : liveM (zs.take (i + 1)) now = liveM (zs.take i) now := flt_no hx (by simp [hk])
        have hrunH : Hid _ := push_hold z hO.1.1 (by omega)
        have HGP : Hid (∀ v' w', PushT holdE 25 wr su (dueM (zs.take i) now ++ [z]) v' w' → TwoH w3.heap.size w' v' (dueM (zs.take (i + 1)) now) sv (liveM (zs.take (i + 1)) now) ∧ Below w3.heap.size wr w') := fun v' w' hp => by
          rw [e1, e2]
          exact hO.left hnr hp
        obtain ⟨k, t, u⟩ := z
        dsimp only at *
        have hkd : decide (u ≤ now) = true := decide_eq_true hk
        clear hO cc hx HL3 e1 e2 hbe hRu hRv
        generalize (dueM (zs.take i) now).length = cn at hsu
        generalize (liveM (zs.take i) now).length = cm at hsv
        subst hsu hsv
        go_wp2_with (at_builtin; refine wp_by rfl _ _ _ rfl _ _ rfl rfl hrunH.out ?_)
        intro v6 w6 hp6
        obtain ⟨hO6, hb6⟩ := HGP.out v6 w6 hp6
        have hb06 := hb.trans hb6
        clear hrunH hp6 hb6 HGP hb
        go_wp2
        go_roundg (gk - 1)
        case measure => omega
        case rel => exact ⟨i + 1, v6, _, by omega, by go_num, rfl, rfl, hO6, hb06⟩
      · have e1 : dueM (zs.take (i + 1)) now = dueM (zs.take i) now := flt_no hx (by simp [hk])
        have e2 : liveM (zs.take (i + 1)) now = liveM (zs.take i) now ++ [z] := flt_yes hx (by simp [hk])
        have hrunH : Hid _ := push_hold z hO.2.1.1 (by omega)
        have HGP : Hid (∀ v' w', PushT holdE 25 wr sv (liveM (zs.take i) now ++ [z]) v' w' → TwoH w3.heap.size w' su (dueM (zs.take (i + 1)) now) v' (liveM (zs.take (i + 1)) now) ∧ Below w3.heap.size wr w') := fun v' w' hp => by
          rw [e1, e2]
          exact hO.right hnr hp
        obtain ⟨k, t, u⟩ := z
        dsimp only at *
        have hkd : decide (u ≤ now) = false := decide_eq_false hk
        clear hO cc hx HL3 e1 e2 hbe hRu hRv
        generalize (dueM (zs.take i) now).length = cn at hsu
        generalize (liveM (zs.take i) now).length = cm at hsv
        subst hsu hsv
        go_wp2_with (at_builtin; refine wp_by rfl _ _ _ rfl _ _ rfl rfl hrunH.out ?_)
        intro v6 w6 hp6
        obtain ⟨hO6, hb6⟩ := HGP.out v6 w6 hp6
        have hb06 := hb.trans hb6
        clear hrunH hp6 hb6 HGP hb
        go_wp2
        go_roundg (gk - 1)
        case measure => omega
        case rel => exact ⟨i + 1, _, v6, by omega, by go_num, rfl, rfl, hO6, hb06⟩
    · have hlti : ¬ (i : Int) < (zs.length : Int) := by omega
      rw [List.take_of_length_le (by omega)] at hO hsu hsv
      have hRu := hRu.below hbe
      have hRv := hRv.below hbe
      have kk8 := k8 _ _ wr hRu hO.1.1.rd
      have hRb := hO.2.1.1.rd
      have hw8 := hw3.trans (hbe.mono hw3.size)
      clear hO HL3 hbe hb hw3
      subst hsu hsv
      clear hRu
      go_wp2_with fail
      refine kk8.mono ?_
      rintro e w8 ⟨rfl, hb8⟩
      have hw9 := hw8.trans (hb8.mono hw8.size)
      have kk9 := k9 _ _ w8 (hRv.below hb8) (hRb.below hb8)
      clear kk8 hb8 hw8 hRv hRb
      go_wp2_with fail
      refine kk9.mono ?_
      rintro e w9 ⟨rfl, hb9⟩
      have hw10 := hw9.trans (hb9.mono hw9.size)
      have kk7 := k7 w9
      clear kk9 hb9 hw9
      go_wp2_with fail
      refine kk7.mono ?_
      rintro e w10 ⟨rfl, hb10⟩
      have hw11 := hw10.trans (hb10.mono hw10.size)
      clear kk7 hb10 hw10
      go_wp2
      go_ret
      exact ⟨rfl, hw11⟩

set_option maxHeartbeats 8000000 in
theorem times_th_true (zs : List Hd) (lv : Value) (now ttl : Int) (w : World) (hL : Rd holdE w lv zs) (h0 : 0 ≤ now) (h1 : now ≤ 2147483647) (h2 : 1048576 < ttl) (hB : mayB holdB zs = true) : Calls Try.prog 4 #[lv, .int .i64 now, .int .i64 ttl] w fun e w' => e = .returned (.bool true) ∧ Below w.heap.size w w' := by
  have k1 := until_of now ttl w
  have kd := due_of zs lv now w hL
  have k6 : ∀ W, Below w.heap.size w W → _ := fun W hW => rmay_of zs lv W (hL.below hW)
  have k7 := fun W => awake_of W
  have HL : Hid (Rd holdE w lv zs) := hL
  have TB : timeB now = true := time_iff.2 ⟨h0, h1⟩
  have hmt : (mayB holdB zs && timeB now) = true := by rw [TB, hB]; rfl
  have a1d : decide ((0 : Int) ≤ now) = true := decide_eq_true h0
  have a2d : decide (now ≤ 2147483647) = true := decide_eq_true h1
  have b1 : ¬ ttl < 1 := by omega
  have b1d : decide (ttl < 1) = false := decide_eq_false b1
  have b2 : 1048576 < ttl := by omega
  have b2d : decide (1048576 < ttl) = true := decide_eq_true b2
  have hun : untilM now ttl = (0, 1) := by unfold untilM; rw [decide_eq_false (show ¬ ttl ≤ 1048576 by omega)]; simp
  unfold DueT at kd
  simp only [hmt, Bool.false_eq_true, if_false, if_true] at kd
  obtain ⟨ao, cap, rfl, -, -⟩ := hL.shape
  rw [hun] at k1
  dsimp only at k1
  rw [hB] at k6
  have hlen := (may_iff.1 hB).1
  have k8 : ∀ (u v : Value) W, Rd holdE W u (dueM zs now) → Rd holdE W v (dueM zs now) → _ := fun u v W h1 h2 => sameh_of (dueM zs now) u v W h1 h2 (by have := (due_len zs now zs.length).1; rw [List.take_length] at this; omega)
  have k9 : ∀ (u v : Value) W, Rd holdE W u (liveM zs now) → Rd holdE W v (liveM zs now) → _ := fun u v W h1 h2 => sameh_of (liveM zs now) u v W h1 h2 (by have := (due_len zs now zs.length).2; rw [List.take_length] at this; omega)
  clear hL hun hmt hB TB
  go_enter Try.func4, Try.ntmps4
  go_wp2_with fail
  refine k1.mono ?_
  rintro e w1 ⟨rfl, hw1⟩
  subst hw1
  clear k1
  go_wp2_with fail
  refine kd.mono ?_
  rintro e w2 ⟨⟨u, v, P, Q, rfl, hP, hQ, hPe, hQe⟩, hw2⟩
  subst hPe hQe
  have hRu := hP.1.rd
  have hRv := hQ.1.rd
  obtain ⟨ua, uc, rfl, -⟩ := hP.1.shape
  obtain ⟨va, vc, rfl, -⟩ := hQ.1.shape
  clear hP hQ
  have kk6 := k6 w2 hw2
  clear kd k6
  go_wp2_with fail
  refine kk6.mono ?_
  rintro e w3 ⟨rfl, hb3⟩
  have hw3 := hw2.trans (hb3.mono hw2.size)
  have hRu := hRu.below hb3
  have hRv := hRv.below hb3
  have HL3 : Hid (Rd holdE w3 (.slice ao zs.length cap) zs) := HL.out.below hw3
  clear kk6 hb3 hw2 HL
  obtain ⟨r1, r2, r3⟩ := one_box w3 (.cells #[] 25)
  obtain ⟨s1, s2, s3⟩ := one_box (w3.alloc (.cells #[] 25)) (.cells #[] 25)
  have r2' := (s3.block w3.heap.size (by omega)).trans r2
  rw [r1] at s2
  have hT0 : TwoH w3.heap.size ((w3.alloc (.cells #[] 25)).alloc (.cells #[] 25)) (.slice (some ⟨w3.heap.size, 0, none⟩) 0 0) (dueM (zs.take 0) now) (.slice (some ⟨w3.heap.size + 1, 0, none⟩) 0 0) (liveM (zs.take 0) now) := by
    refine ⟨⟨Rk.made (xs := []) r2' rfl (by unfold maxLen; simp), fun k hk => ?_⟩, ⟨Rk.made (xs := []) s2 rfl (by unfold maxLen; simp), fun k hk => ?_⟩, fun k hk hk2 => ?_⟩
    · cases hk; exact Nat.le_refl _
    · cases hk; exact Nat.le_succ _
    · cases hk
      simp [Value.ownBlock] at hk2
  have hbx : Below w3.heap.size w3 ((w3.alloc (.cells #[] 25)).alloc (.cells #[] 25)) := r3.trans (s3.mono r3.size)
  go_wp2
  clear r1 r2 r3 s1 s2 s3 r2'
  generalize (w3.alloc (.cells #[] 25)).alloc (.cells #[] 25) = w5 at *
  go_loopg [13, 14, 15] zs.length (fun g s13 s14 s15 wr => ∃ (i : Nat) (su sv : Value), i + g = zs.length ∧ s15 = .int .i64 (i : Int) ∧ su = s13 ∧ sv = s14 ∧ TwoH w3.heap.size wr su (dueM (zs.take i) now) sv (liveM (zs.take i) now) ∧ Below w3.heap.size w3 wr)
  case atStart => exact ⟨0, _, _, by omega, rfl, rfl, rfl, hT0, hbx⟩
  case round =>
    obtain ⟨i, su, sv, hig, rfl, rfl, rfl, hO, hb⟩ := hrel
    clear hT0 hbx
    obtain ⟨hcl, hcl2⟩ := due_len zs now i
    obtain ⟨sa, sc, hsu, -⟩ := hO.1.1.shape
    obtain ⟨va, vc, hsv, -⟩ := hO.2.1.1.shape
    have hbe := hb
    have hnr : w3.heap.size ≤ wr.heap.size := hb.size
    by_cases hlt : i < zs.length
    · have hlti : (i : Int) < (zs.length : Int) := by omega
      have hx : zs[i]? = some zs[i] := List.getElem?_eq_getElem hlt
      obtain ⟨z, hzz⟩ : ∃ z, z = zs[i] := ⟨_, rfl⟩
      rw [← hzz] at hx
      clear hzz
      obtain ⟨b, off, rfl, cc⟩ := rdh_at HL3.out hx
      obtain ⟨c0, c1, c2⟩ := cc wr hbe
      by_cases hk : z.2.2 ≤ now
      · have e1 : dueM (zs.take (i + 1)) now = dueM (zs.take i) now ++ [z] := flt_yes hx (by simp [hk])
        have e2 : liveM (zs.take (i + 1)) now = liveM (zs.take i) now := flt_no hx (by simp [hk])
        have hrunH : Hid _ := push_hold z hO.1.1 (by omega)
        have HGP : Hid (∀ v' w', PushT holdE 25 wr su (dueM (zs.take i) now ++ [z]) v' w' → TwoH w3.heap.size w' v' (dueM (zs.take (i + 1)) now) sv (liveM (zs.take (i + 1)) now) ∧ Below w3.heap.size wr w') := fun v' w' hp => by
          rw [e1, e2]
          exact hO.left hnr hp
        obtain ⟨k, t, u⟩ := z
        dsimp only at *
        have hkd : decide (u ≤ now) = true := decide_eq_true hk
        clear hO cc hx HL3 e1 e2 hbe hRu hRv
        generalize (dueM (zs.take i) now).length = cn at hsu
        generalize (liveM (zs.take i) now).length = cm at hsv
        subst hsu hsv
        go_wp2_with (at_builtin; refine wp_by rfl _ _ _ rfl _ _ rfl rfl hrunH.out ?_)
        intro v6 w6 hp6
        obtain ⟨hO6, hb6⟩ := HGP.out v6 w6 hp6
        have hb06 := hb.trans hb6
        clear hrunH hp6 hb6 HGP hb
        go_wp2
        go_roundg (gk - 1)
        case measure => omega
        case rel => exact ⟨i + 1, v6, _, by omega, by go_num, rfl, rfl, hO6, hb06⟩
      · have e1 : dueM (zs.take (i + 1)) now = dueM (zs.take i) now := flt_no hx (by simp [hk])
        have e2 : liveM (zs.take (i + 1)) now = liveM (zs.take i) now ++ [z] := flt_yes hx (by simp [hk])
        have hrunH : Hid _ := push_hold z hO.2.1.1 (by omega)
        have HGP : Hid (∀ v' w', PushT holdE 25 wr sv (liveM (zs.take i) now ++ [z]) v' w' → TwoH w3.heap.size w' su (dueM (zs.take (i + 1)) now) v' (liveM (zs.take (i + 1)) now) ∧ Below w3.heap.size wr w') := fun v' w' hp => by
          rw [e1, e2]
          exact hO.right hnr hp
        obtain ⟨k, t, u⟩ := z
        dsimp only at *
        have hkd : decide (u ≤ now) = false := decide_eq_false hk
        clear hO cc hx HL3 e1 e2 hbe hRu hRv
        generalize (dueM (zs.take i) now).length = cn at hsu
        generalize (liveM (zs.take i) now).length = cm at hsv
        subst hsu hsv
        go_wp2_with (at_builtin; refine wp_by rfl _ _ _ rfl _ _ rfl rfl hrunH.out ?_)
        intro v6 w6 hp6
        obtain ⟨hO6, hb6⟩ := HGP.out v6 w6 hp6
        have hb06 := hb.trans hb6
        clear hrunH hp6 hb6 HGP hb
        go_wp2
        go_roundg (gk - 1)
        case measure => omega
        case rel => exact ⟨i + 1, _, v6, by omega, by go_num, rfl, rfl, hO6, hb06⟩
    · have hlti : ¬ (i : Int) < (zs.length : Int) := by omega
      rw [List.take_of_length_le (by omega)] at hO hsu hsv
      have hRu := hRu.below hbe
      have hRv := hRv.below hbe
      have kk8 := k8 _ _ wr hRu hO.1.1.rd
      have hRb := hO.2.1.1.rd
      have hw8 := hw3.trans (hbe.mono hw3.size)
      clear hO HL3 hbe hb hw3
      subst hsu hsv
      clear hRu
      go_wp2_with fail
      refine kk8.mono ?_
      rintro e w8 ⟨rfl, hb8⟩
      have hw9 := hw8.trans (hb8.mono hw8.size)
      have kk9 := k9 _ _ w8 (hRv.below hb8) (hRb.below hb8)
      clear kk8 hb8 hw8 hRv hRb
      go_wp2_with fail
      refine kk9.mono ?_
      rintro e w9 ⟨rfl, hb9⟩
      have hw10 := hw9.trans (hb9.mono hw9.size)
      have kk7 := k7 w9
      clear kk9 hb9 hw9
      go_wp2_with fail
      refine kk7.mono ?_
      rintro e w10 ⟨rfl, hb10⟩
      have hw11 := hw10.trans (hb10.mono hw10.size)
      clear kk7 hb10 hw10
      go_wp2
      go_ret
      exact ⟨rfl, hw11⟩
end Go.Proofs.Ytiblcbcfdmnmhaa

