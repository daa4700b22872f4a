import Derived.Test.YtglbjimpaoikfaaHe44
/- However many keys there are: CheckCall. -/
namespace Go.Proofs.Ytglbjimpaoikfaa
open Go.RowKit LeaseMath
set_option maxRecDepth 100000
set_option linter.unusedSimpArgs false
set_option linter.unusedVariables false

set_option maxHeartbeats 2000000 in
theorem mayKeysG_of (l : List K) (lv : Value) (w : World) (hL : Rd kyE w lv l) (hlen : l.length ≤ 140737488355328) : Calls Try.prog 56 #[lv] w fun e w' => e = .returned (.bool (keysB l)) ∧ w' = w := by
  obtain ⟨B, HB⟩ : ∃ B, Hid (B = keysB l) := ⟨_, rfl⟩
  rw [← HB.out]
  have HL : Hid (Rd kyE w lv l) := hL
  obtain ⟨ao, cap, rfl, -, -⟩ := hL.shape
  clear hL
  have HP0 : Hid (B = (walk (fun p : K × Unit => decide (p.1.length ≤ 64)) (prev (l.map fun k => (k, ())) 0) ((l.map fun k => (k, ())).drop 0) && (decide (1 ≤ l.length) && decide (l.length ≤ 16)))) := by show _ = _; rw [HB.out]; unfold keysB upB; rw [Bool.and_assoc]; rfl
  clear HB
  go_enter Try.func56, Try.ntmps56
  go_wp2
  go_loopg [7] l.length (fun g s7 wr => ∃ i : Nat, i + g = l.length ∧ s7 = .int .i64 (i : Int) ∧ wr = w ∧ Hid (B = (walk (fun p : K × Unit => decide (p.1.length ≤ 64)) (prev (l.map fun k => (k, ())) i) ((l.map fun k => (k, ())).drop i) && (decide (1 ≤ l.length) && decide (l.length ≤ 16)))))
  case atStart => exact ⟨0, by omega, rfl, rfl, HP0⟩
  case round =>
    obtain ⟨i, hig, rfl, hwr, HP⟩ := hrel
    subst hwr
    clear HP0
    by_cases hlt : i < l.length
    · have hlti : (i : Int) < (l.length : Int) := by omega
      have hx : l[i]? = some l[i] := List.getElem?_eq_getElem hlt
      obtain ⟨k, hkk⟩ : ∃ k, k = l[i] := ⟨_, rfl⟩
      rw [← hkk] at hx
      clear hkk
      obtain ⟨b, off, ea, cc⟩ := rds_at HL.out hx
      subst ea
      have c0 := cc wr (Below.refl _ _)
      have HA := upB_at hx (prev (l.map fun k => (k, ())) i)
      have kk := tkey_of k wr
      have hxH : Hid ((l.map fun k => (k, ()))[i]? = some (k, ())) := by show _ = _; rw [List.getElem?_map, hx]; rfl
      by_cases hk : k.length ≤ 64
      · rw [decide_eq_true hk] at kk
        have HA2 : Hid (B = (lnk (prev (l.map fun k => (k, ())) i) (k, ()) && walk (fun p : K × Unit => decide (p.1.length ≤ 64)) (prev (l.map fun k => (k, ())) (i + 1)) ((l.map fun k => (k, ())).drop (i + 1)) && (decide (1 ≤ l.length) && decide (l.length ≤ 16)))) := by show _ = _; rw [HP.out, HA, decide_eq_true hk, prev_succ hxH.out]; simp
        clear HP HA cc hk hxH
        by_cases hi0 : i = 0
        · have HR : Hid (B = (walk (fun p : K × Unit => decide (p.1.length ≤ 64)) (prev (l.map fun k => (k, ())) (i + 1)) ((l.map fun k => (k, ())).drop (i + 1)) && (decide (1 ≤ l.length) && decide (l.length ≤ 16)))) := by show _ = _; rw [HA2.out]; simp [hi0, prev, lnk]
          have hip : ¬ (0 : Int) < (i : Int) := by omega
          have hipn : ¬ 0 < i := by omega
          have HI0 : Hid (i = 0) := hi0
          clear HA2 hi0 hx
          go_wp2_with fail
          refine kk.mono ?_
          rintro e w1 ⟨rfl, hw1⟩
          subst hw1
          go_wp2
          go_roundg (gk - 1)
          case measure => omega
          case rel => exact ⟨i + 1, by omega, by go_num, rfl, HR⟩
        · have hip : (0 : Int) < (i : Int) := by omega
          have hin0 : 0 < i := by omega
          have hi1 : (1 : Int) ≤ (i : Int) := by omega
          have hi1n : 1 ≤ i := by omega
          have hy : l[i - 1]? = some l[i - 1] := List.getElem?_eq_getElem (by omega)
          obtain ⟨y, hyy⟩ : ∃ y, y = l[i - 1] := ⟨_, rfl⟩
          rw [← hyy] at hy
          clear hyy
          obtain ⟨b', off', ea, cy⟩ := rds_at HL.out hy
          cases ea
          have g0 := cy wr (Below.refl _ _)
          have j1 : IntKind.i64.wrap ((i : Int) - 1) = (i : Int) - 1 := IntWalk.i64_in _ (by omega)
          have j2 : (0 : Int) ≤ (i : Int) - 1 := by omega
          have j3 : (i : Int) - 1 < (l.length : Int) := by omega
          have j4 : ((i : Int) - 1).toNat = i - 1 := by omega
          have HLk : Hid (lnk (prev (l.map fun k => (k, ())) i) (k, ()) = decide (y < k)) := by
            show _ = _
            unfold prev
            rw [if_neg hi0, List.getElem?_map, hy]
            rfl
          clear cy hy hx
          by_cases hyk : y < k
          · have hge : decide (k ≤ y) = false := decide_eq_false (by grind)
            have HR : Hid (B = (walk (fun p : K × Unit => decide (p.1.length ≤ 64)) (prev (l.map fun k => (k, ())) (i + 1)) ((l.map fun k => (k, ())).drop (i + 1)) && (decide (1 ≤ l.length) && decide (l.length ≤ 16)))) := by show _ = _; rw [HA2.out, HLk.out, decide_eq_true hyk]; rfl
            clear HA2 HLk hyk hi0
            go_wp2_with fail
            refine kk.mono ?_
            rintro e w1 ⟨rfl, hw1⟩
            subst hw1
            go_wp2
            go_roundg (gk - 1)
            case measure => omega
            case rel => exact ⟨i + 1, by omega, by go_num, rfl, HR⟩
          · have hge : decide (k ≤ y) = true := decide_eq_true (by grind)
            have E : Hid (B = false) := by show _ = _; rw [HA2.out, HLk.out, decide_eq_false hyk]; rfl
            clear HA2 HLk hyk hi0
            go_wp2_with fail
            refine kk.mono ?_
            rintro e w1 ⟨rfl, hw1⟩
            subst hw1
            go_wp2
            go_ret
            exact ⟨by rw [E.out]; rfl, rfl⟩
      · rw [decide_eq_false hk] at kk
        have E : Hid (B = false) := by show _ = _; rw [HP.out, HA, decide_eq_false hk]; rfl
        clear HP HA cc hk hx hxH
        go_wp2_with fail
        refine kk.mono ?_
        rintro e w1 ⟨rfl, hw1⟩
        subst hw1
        go_wp2
        go_ret
        exact ⟨by rw [E.out]; rfl, rfl⟩
    · have hlti : ¬ (i : Int) < (l.length : Int) := by omega
      have HB : Hid (B = (decide (1 ≤ l.length) && decide (l.length ≤ 16))) := by show _ = _; rw [HP.out, walk_end (by rw [List.length_map]; omega)]; rfl
      clear HP HL
      by_cases h1 : 1 ≤ l.length
      · have h1i : (1 : Int) ≤ (l.length : Int) := by omega
        by_cases h2 : l.length ≤ 16
        · have h2i : (l.length : Int) ≤ 16 := by omega
          have E : Hid (B = true) := by show _ = _; rw [HB.out]; simp [h1, h2]
          clear HB
          go_wp2
          go_ret
          exact ⟨by rw [E.out]; rfl, rfl⟩
        · have h2i : ¬ (l.length : Int) ≤ 16 := by omega
          have h2d : decide ((l.length : Int) ≤ 16) = false := decide_eq_false h2i
          have E : Hid (B = false) := by show _ = _; rw [HB.out]; simp [h2]
          clear HB h2
          go_wp2
          go_ret
          exact ⟨by rw [E.out]; rfl, rfl⟩
      · have h1d : decide ((1 : Int) ≤ (l.length : Int)) = false := decide_eq_false (by omega)
        have E : Hid (B = false) := by show _ = _; rw [HB.out]; simp [h1]
        clear HB
        have hl0 : l.length = 0 := by omega
        rw [hl0] at hlti h1d ⊢
        go_wp2
        go_ret
        exact ⟨by rw [E.out]; rfl, rfl⟩

set_option maxHeartbeats 2000000 in
theorem checkCallG_of (c : Cl) (a : Sa) (w : World) (hL : Rd kyE w (.slice a.1 c.keys.length a.2) c.keys) (hlen : c.keys.length ≤ 140737488355328) : Calls Try.prog 32 #[cv c a] w fun e w' => e = .returned (.int .i64 (if callB c then 0 else 1)) ∧ Below w.heap.size w w' := by
  obtain ⟨B, HB⟩ : ∃ B : Int, Hid (B = if callB c then 0 else 1) := ⟨_, rfl⟩
  rw [← HB.out]
  obtain ⟨hs, hb, cl⟩ := cl_box w c a
  obtain ⟨c0, c1, c2, c3⟩ := cl _ (Below.refl _ _)
  have kt := fun W => mayTurn_of c.kind c.ttl W
  have kk := mayKeysG_of c.keys _ _ (hL.below hb) hlen
  have EO : Hid (callB c = (turnB c.kind c.ttl && keysB c.keys && (decide (c.token = 0) == decide (c.kind = 1)))) := rfl
  obtain ⟨T, HT⟩ : ∃ T, T = turnB c.kind c.ttl := ⟨_, rfl⟩
  obtain ⟨U, HU⟩ : ∃ U, U = keysB c.keys := ⟨_, rfl⟩
  rw [← HT] at kt EO
  rw [← HU] at kk EO
  replace HB : Hid (B = if (T && U && (decide (c.token = 0) == decide (c.kind = 1))) then 0 else 1) := by show _ = _; rw [← EO.out]; exact HB.out
  clear HT HU EO hL hlen cl hs
  obtain ⟨kd, ks, tk, tt⟩ := c
  obtain ⟨aa, ac⟩ := a
  dsimp only [cv, cc_] at *
  cases T with
  | false =>
    have E : Hid (B = 1) := by show _ = _; rw [HB.out]; simp
    clear HB kk
    go_enter Try.func32, Try.ntmps32
    go_wp2_with fail
    refine (kt _).mono ?_
    rintro e w1 ⟨rfl, hw1⟩
    subst hw1
    go_wp2
    go_ret
    exact ⟨by rw [E.out]; rfl, hb⟩
  | true =>
    cases U with
    | false =>
      have E : Hid (B = 1) := by show _ = _; rw [HB.out]; simp
      clear HB
      go_enter Try.func32, Try.ntmps32
      go_wp2_with fail
      refine (kt _).mono ?_
      rintro e w1 ⟨rfl, hw1⟩
      subst hw1
      go_wp2_with fail
      refine kk.mono ?_
      rintro e w2 ⟨rfl, hw2⟩
      subst hw2
      go_wp2
      go_ret
      exact ⟨by rw [E.out]; rfl, hb⟩
    | true =>
      by_cases h1 : tk = 0
      · have h1d : ((tk : Int) == 0) = true := by simpa using h1
        by_cases h2 : kd = 1
        · have h2d : (kd == 1) = true := by simpa using h2
          have E : Hid (B = 0) := by show _ = _; rw [HB.out]; simp [h1, h2]
          clear HB h1 h2
          go_enter Try.func32, Try.ntmps32
          go_wp2_with fail
          refine (kt _).mono ?_
          rintro e w1 ⟨rfl, hw1⟩
          subst hw1
          go_wp2_with fail
          refine kk.mono ?_
          rintro e w2 ⟨rfl, hw2⟩
          subst hw2
          go_wp2
          go_ret
          exact ⟨by rw [E.out]; rfl, hb⟩
        · have h2d : (kd == 1) = false := by simpa using h2
          have E : Hid (B = 1) := by show _ = _; rw [HB.out]; simp [h1, h2]
          clear HB h1 h2
          go_enter Try.func32, Try.ntmps32
          go_wp2_with fail
          refine (kt _).mono ?_
          rintro e w1 ⟨rfl, hw1⟩
          subst hw1
          go_wp2_with fail
          refine kk.mono ?_
          rintro e w2 ⟨rfl, hw2⟩
          subst hw2
          go_wp2
          go_ret
          exact ⟨by rw [E.out]; rfl, hb⟩
      · have h1d : ((tk : Int) == 0) = false := by simpa using h1
        by_cases h2 : kd = 1
        · have h2d : (kd == 1) = true := by simpa using h2
          have E : Hid (B = 1) := by show _ = _; rw [HB.out]; simp [h1, h2]
          clear HB h1 h2
          go_enter Try.func32, Try.ntmps32
          go_wp2_with fail
          refine (kt _).mono ?_
          rintro e w1 ⟨rfl, hw1⟩
          subst hw1
          go_wp2_with fail
          refine kk.mono ?_
          rintro e w2 ⟨rfl, hw2⟩
          subst hw2
          go_wp2
          go_ret
          exact ⟨by rw [E.out]; rfl, hb⟩
        · have h2d : (kd == 1) = false := by simpa using h2
          have E : Hid (B = 0) := by show _ = _; rw [HB.out]; simp [h1, h2]
          clear HB h1 h2
          go_enter Try.func32, Try.ntmps32
          go_wp2_with fail
          refine (kt _).mono ?_
          rintro e w1 ⟨rfl, hw1⟩
          subst hw1
          go_wp2_with fail
          refine kk.mono ?_
          rintro e w2 ⟨rfl, hw2⟩
          subst hw2
          go_wp2
          go_ret
          exact ⟨by rw [E.out]; rfl, hb⟩
end Go.Proofs.Ytglbjimpaoikfaa

