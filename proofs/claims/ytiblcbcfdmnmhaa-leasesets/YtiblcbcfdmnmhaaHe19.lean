import Derived.Test.YtiblcbcfdmnmhaaHe12
/- Due of the program. -/
namespace Go.Proofs.Ytiblcbcfdmnmhaa
open Go.RowKit LeaseMath
set_option maxRecDepth 100000
set_option linter.unusedSimpArgs false
set_option linter.unusedVariables false

theorem results_tmp3 {fn : Func} {t u v : Tmp} (h : fn.results = #[.tmp t, .tmp u, .tmp v]) (tmps : Array Value) (P : Program) (w : World) :
    (results fn tmps).run P w = .ok (.tuple #[tmps.getD t undef, tmps.getD u undef, tmps.getD v undef]) w := by
  simp [results, h]
/-- Two rows that grow side by side. -/
def TwoH (n : Nat) (w : World) (u : Value) (P : List Hd) (v : Value) (Q : List Hd) : Prop := Ow holdE 25 n w u P ∧ Ow holdE 25 n w v Q ∧ ∀ k, u.ownBlock = some k → v.ownBlock ≠ some k
theorem TwoH.left {n : Nat} {w w' : World} {u u' v : Value} {P P' Q : List Hd} (h : TwoH n w u P v Q) (hn : n ≤ w.heap.size) (hp : PushT holdE 25 w u P' u' w') : TwoH n w' u' P' v Q ∧ Below n w w' := by
  obtain ⟨h1, h2⟩ := h.1.push hn hp
  refine ⟨⟨h1, ⟨h.2.1.1.same fun k hk => hp.2.1.block k (h.2.1.1.lt hk) (fun e => h.2.2 k e.symm hk), h.2.1.2⟩, fun k hk hv => ?_⟩, h2⟩
  rcases hp.2.2 k hk with h' | h'
  · exact h.2.2 k h' hv
  · have := h.2.1.1.lt hv
    omega
theorem TwoH.right {n : Nat} {w w' : World} {u v v' : Value} {P Q Q' : List Hd} (h : TwoH n w u P v Q) (hn : n ≤ w.heap.size) (hp : PushT holdE 25 w v Q' v' w') : TwoH n w' u P v' Q' ∧ Below n w w' := by
  obtain ⟨h1, h2⟩ := h.2.1.push hn hp
  refine ⟨⟨⟨h.1.1.same fun k hk => hp.2.1.block k (h.1.1.lt hk) (fun e => h.2.2 k hk e.symm), h.1.2⟩, h1, fun k hk hv => ?_⟩, h2⟩
  rcases hp.2.2 k hv with h' | h'
  · exact h.2.2 k hk h'
  · have := h.1.1.lt hk
    omega
theorem TwoH.below {n : Nat} {w w' : World} {u v : Value} {P Q : List Hd} (h : TwoH n w u P v Q) (hb : Below w.heap.size w w') : TwoH n w' u P v Q := ⟨h.1.below hb, h.2.1.below hb, h.2.2⟩
/-- Those that are due; the others. -/
def dueM (l : List Hd) (now : Int) : List Hd := l.filter (fun x => decide (x.2.2 ≤ now))
def liveM (l : List Hd) (now : Int) : List Hd := l.filter (fun x => !decide (x.2.2 ≤ now))
theorem due_len (l : List Hd) (now : Int) (i : Nat) : (dueM (l.take i) now).length ≤ l.length ∧ (liveM (l.take i) now).length ≤ l.length := by
  have h1 := List.length_filter_le (fun x : Hd => decide (x.2.2 ≤ now)) (l.take i)
  have h2 := List.length_filter_le (fun x : Hd => !decide (x.2.2 ≤ now)) (l.take i)
  rw [List.length_take] at h1 h2
  unfold dueM liveM
  omega
/-- What Due tells. -/
def DueT (n : Nat) (zs : List Hd) (now : Int) (e : Ending) (w' : World) : Prop :=
  ∃ u v P Q, e = .returned (.tuple #[u, v, .int .i64 (if mayB holdB zs && timeB now then 0 else 1)]) ∧ Ow holdE 25 n w' u P ∧ Ow holdE 25 n w' v Q ∧ P = (if mayB holdB zs && timeB now then dueM zs now else []) ∧ Q = (if mayB holdB zs && timeB now then liveM zs now else [])
theorem DueT.no {n : Nat} {zs : List Hd} {now : Int} (h : (mayB holdB zs && timeB now) = false) (w' : World) : DueT n zs now (.returned (.tuple #[.slice none 0 0, .slice none 0 0, .int .i64 1])) w' := by
  refine ⟨_, _, [], [], ?_, Ow.nil _ _ _ _, Ow.nil _ _ _ _, ?_, ?_⟩ <;> rw [h] <;> rfl

set_option maxHeartbeats 4000000 in
theorem due_of (zs : List Hd) (lv : Value) (now : Int) (w : World) (hL : Rd holdE w lv zs) : Calls Try.prog 18 #[lv, .int .i64 now] w fun e w' => DueT w.heap.size zs now e w' ∧ Below w.heap.size w w' := by
  obtain ⟨T, HT⟩ : ∃ T, Hid (T = DueT w.heap.size zs now) := ⟨_, rfl⟩
  rw [← HT.out]
  have HL : Hid (Rd holdE w lv zs) := hL
  have kc := checkh_of hL
  have kt := fun W => time_of now W
  obtain ⟨ao, cap, rfl, -, -⟩ := hL.shape
  clear hL
  cases hm : mayB holdB zs with
  | false =>
    have E : Hid (∀ W, T (.returned (.tuple #[.slice none 0 0, .slice none 0 0, .int .i64 1])) W) := fun W => by rw [HT.out]; exact DueT.no (by rw [hm]; rfl) W
    rw [hm] at kc
    simp only [Bool.false_eq_true, if_false] at kc
    clear HT HL hm kt
    go_enter Try.func18, Try.ntmps18
    go_wp2_with fail
    refine kc.mono ?_
    rintro e w1 ⟨rfl, hb1⟩
    clear kc
    go_wp2
    refine bodyPost_ret (results_tmp3 rfl _ _ _) rfl ?_
    exact ⟨E.out _, hb1⟩
  | true =>
    rw [hm] at kc
    simp only [if_true] at kc
    cases ht : timeB now with
    | false =>
      have E : Hid (∀ W, T (.returned (.tuple #[.slice none 0 0, .slice none 0 0, .int .i64 1])) W) := fun W => by rw [HT.out]; exact DueT.no (by rw [hm, ht]; rfl) W
      rw [ht] at kt
      clear HT HL hm ht
      go_enter Try.func18, Try.ntmps18
      go_wp2_with fail
      refine kc.mono ?_
      rintro e w1 ⟨rfl, hb1⟩
      clear kc
      go_wp2_with fail
      refine (kt _).mono ?_
      rintro e w2 ⟨rfl, hw2⟩
      subst hw2
      go_wp2
      refine bodyPost_ret (results_tmp3 rfl _ _ _) rfl ?_
      exact ⟨E.out _, hb1⟩
    | true =>
      have E : Hid (∀ u v W, Ow holdE 25 w.heap.size W u (dueM zs now) → Ow holdE 25 w.heap.size W v (liveM zs now) → T (.returned (.tuple #[u, v, .int .i64 0])) W) := fun u v W h1 h2 => by
        rw [HT.out]
        refine ⟨u, v, _, _, ?_, h1, h2, ?_, ?_⟩ <;> rw [hm, ht] <;> rfl
      rw [ht] at kt
      have hlen := (may_iff.1 hm).1
      clear HT hm ht
      go_enter Try.func18, Try.ntmps18
      go_wp2_with fail
      refine kc.mono ?_
      rintro e w1 ⟨rfl, hb1⟩
      clear kc
      go_wp2_with fail
      refine (kt _).mono ?_
      rintro e w2 ⟨rfl, hw2⟩
      subst hw2
      clear kt
      go_wp2
      go_loopg [4, 5, 19] zs.length (fun g s4 s5 s19 wr => ∃ (i : Nat) (su sv : Value), i + g = zs.length ∧ s19 = .int .i64 (i : Int) ∧ su = s4 ∧ sv = s5 ∧ TwoH w.heap.size wr su (dueM (zs.take i) now) sv (liveM (zs.take i) now) ∧ Below w.heap.size w wr)
      case atStart => exact ⟨0, _, _, by omega, rfl, rfl, rfl, ⟨Ow.nil _ _ _ _, Ow.nil _ _ _ _, fun k hk => by cases hk⟩, hb1⟩
      case round =>
        obtain ⟨i, su, sv, hig, rfl, rfl, rfl, hO, hb⟩ := hrel
        obtain ⟨hcl, hcl2⟩ := due_len zs now i
        obtain ⟨sa, sc, hsu, -⟩ := hO.1.1.shape
        obtain ⟨va, vc, hsv, -⟩ := hO.2.1.1.shape
        by_cases hlt : i < zs.length
        · have hlti : (i : Int) < (zs.length : Int) := by omega
          have hx : zs[i]? = some zs[i] := List.getElem?_eq_getElem hlt
          obtain ⟨z, hzz⟩ : ∃ z, z = zs[i] := ⟨_, rfl⟩
          rw [← hzz] at hx
          clear hzz
          obtain ⟨b, off, rfl, cc⟩ := rdh_at HL.out hx
          obtain ⟨c0, c1, c2⟩ := cc wr hb
          obtain ⟨hs, hbz, cl⟩ := hd_box wr z
          obtain ⟨d0, d1, d2⟩ := cl _ (Below.refl _ _)
          have hb1' := keep_step hb (Nat.le_refl _) hbz
          have hO1 := hO.below hbz
          by_cases hk : z.2.2 ≤ now
          · have e1 : dueM (zs.take (i + 1)) now = dueM (zs.take i) now ++ [z] := flt_yes hx (by simp [hk])
            have e2 : liveM (zs.take (i + 1)) now = liveM (zs.take i) now := flt_no hx (by simp [hk])
            have hrunH : Hid _ := push_hold z hO1.1.1 (by omega)
            have HGP : Hid (∀ v' w', PushT holdE 25 (wr.alloc (hc z)) su (dueM (zs.take i) now ++ [z]) v' w' → TwoH w.heap.size w' v' (dueM (zs.take (i + 1)) now) sv (liveM (zs.take (i + 1)) now) ∧ Below w.heap.size (wr.alloc (hc z)) w') := fun v' w' hp => by
              rw [e1, e2]
              exact hO1.left (Nat.le_trans hb.size hbz.size) hp
            obtain ⟨k, t, u⟩ := z
            dsimp only [hc] at *
            have hkd : decide (u ≤ now) = true := decide_eq_true hk
            rw [hs] at hrunH
            clear hO hO1 cl cc hx HL hbz e1 e2 E
            generalize (dueM (zs.take i) now).length = cn at hsu
            generalize (liveM (zs.take i) now).length = cm at hsv
            subst hsu hsv
            go_wp2_with (at_builtin; refine wp_by rfl _ _ _ rfl _ _ rfl rfl hrunH.out ?_)
            intro v6 w6 hp6
            obtain ⟨hO6, hb6⟩ := HGP.out v6 w6 hp6
            have hb06 := hb1'.trans hb6
            clear hrunH hp6 hb6 HGP hb hb1 hb1'
            go_wp2
            go_roundg (gk - 1)
            case measure => omega
            case rel => exact ⟨i + 1, v6, _, by omega, by go_num, rfl, rfl, hO6, hb06⟩
          · have e1 : dueM (zs.take (i + 1)) now = dueM (zs.take i) now := flt_no hx (by simp [hk])
            have e2 : liveM (zs.take (i + 1)) now = liveM (zs.take i) now ++ [z] := flt_yes hx (by simp [hk])
            have hrunH : Hid _ := push_hold z hO1.2.1.1 (by omega)
            have HGP : Hid (∀ v' w', PushT holdE 25 (wr.alloc (hc z)) sv (liveM (zs.take i) now ++ [z]) v' w' → TwoH w.heap.size w' su (dueM (zs.take (i + 1)) now) v' (liveM (zs.take (i + 1)) now) ∧ Below w.heap.size (wr.alloc (hc z)) w') := fun v' w' hp => by
              rw [e1, e2]
              exact hO1.right (Nat.le_trans hb.size hbz.size) hp
            obtain ⟨k, t, u⟩ := z
            dsimp only [hc] at *
            have hkd : decide (u ≤ now) = false := decide_eq_false hk
            rw [hs] at hrunH
            clear hO hO1 cl cc hx HL hbz e1 e2 E
            generalize (dueM (zs.take i) now).length = cn at hsu
            generalize (liveM (zs.take i) now).length = cm at hsv
            subst hsu hsv
            go_wp2_with (at_builtin; refine wp_by rfl _ _ _ rfl _ _ rfl rfl hrunH.out ?_)
            intro v6 w6 hp6
            obtain ⟨hO6, hb6⟩ := HGP.out v6 w6 hp6
            have hb06 := hb1'.trans hb6
            clear hrunH hp6 hb6 HGP hb hb1 hb1'
            go_wp2
            go_roundg (gk - 1)
            case measure => omega
            case rel => exact ⟨i + 1, _, v6, by omega, by go_num, rfl, rfl, hO6, hb06⟩
        · have hlti : ¬ (i : Int) < (zs.length : Int) := by omega
          rw [List.take_of_length_le (by omega)] at hO
          have HF : Hid _ := E.out su sv wr hO.1 hO.2.1
          clear HL E hO
          subst hsu hsv
          go_wp2
          refine bodyPost_ret (results_tmp3 rfl _ _ _) rfl ?_
          exact ⟨HF.out, hb⟩
end Go.Proofs.Ytiblcbcfdmnmhaa

