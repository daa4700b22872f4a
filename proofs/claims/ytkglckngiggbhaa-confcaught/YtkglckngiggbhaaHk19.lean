import Derived.Test.YtkglckngiggbhaaHk18
/- The program's extend, Way, Step. -/
namespace Go.Proofs.Ytkglckngiggbhaa
open Go.RowKit QuorumMath
set_option maxRecDepth 100000
set_option linter.unusedSimpArgs false
set_option linter.unusedVariables false

theorem last_at {ws : List (List Int)} (h : 0 < ws.length) : ws[ws.length - 1]? = some (ws.getLastD []) := by
  cases ws with
  | nil => simp at h
  | cons a l => simp [List.getLastD_eq_getLast?, List.getLast?_eq_getElem?]
set_option maxHeartbeats 2000000 in
theorem extend_of (n : Nat) (ws : List (List Int)) (wv : Value) (zs : List Int) (zv : Value) (inn : Bool) (w : World) (hn : n ≤ w.heap.size) (hW : Ways n w wv ws) (hZ : InR n w zv zs) (h0 : 0 < ws.length) (hlw : ws.length ≤ 1000) (hlz : zs.length ≤ 1000) : Calls Try.prog 20 #[wv, zv, .bool inn] w fun e w' => ∃ v, e = .returned v ∧ Ways n w' v (extAll inn ws zs) ∧ Below n w w' := by
  obtain ⟨za, zc, rfl, -, -⟩ := hZ.rd.shape
  obtain ⟨wa, wc, rfl⟩ := hW.shape
  obtain ⟨v0, hv0⟩ : ∃ v0, v0 = Value.slice wa ws.length wc := ⟨_, rfl⟩
  rw [← hv0] at hW
  have HW : Hid (Ways n w v0 ws) := hW
  have HZ : Hid (InR n w (.slice za zs.length zc) zs) := hZ
  clear hW hZ
  go_enter Try.func20, Try.ntmps20
  go_wp2
  go_loopg [0, 13] zs.length (fun g s0 s13 wr => ∃ (i : Nat) (st : Value), i + g = zs.length ∧ s13 = .int .i64 (i : Int) ∧ st = s0 ∧ Ways n wr st (extAll inn ws (zs.take i)) ∧ Hid (InR n wr (.slice za zs.length zc) zs) ∧ n ≤ wr.heap.size ∧ Below n w wr)
  case atStart => exact ⟨0, v0, by simp, rfl, hv0, by rw [List.take_zero]; exact HW.out, HZ, hn, Below.refl _ _⟩
  case round =>
    obtain ⟨i, st, hig, rfl, rfl, hO, hZr, hnr, hb⟩ := hrel
    clear HW HZ hn hv0
    have hel := extAll_len inn ws (zs.take i)
    rw [List.length_take] at hel
    by_cases hlt : i < zs.length
    · have hlti : (i : Int) < (zs.length : Int) := by omega
      have hx : zs[i]? = some zs[i] := List.getElem?_eq_getElem hlt
      obtain ⟨y, hxx⟩ : ∃ x, x = zs[i] := ⟨_, rfl⟩
      rw [← hxx] at hx
      clear hxx
      obtain ⟨b, off, rfl, cc⟩ := rdi_at hZr.out.rd hx
      have c0 := cc wr (Below.refl _ _)
      have hst : Hid (extAll inn ws (zs.take (i + 1)) = extM inn (extAll inn ws (zs.take i)) y) := by show _ = _; rw [take_succ_get hx, extAll_snoc]
      generalize hE : extAll inn ws (zs.take i) = E at *
      clear hE cc hx
      obtain ⟨sa, sc, rfl⟩ := hO.shape
      obtain ⟨K, hK⟩ : ∃ K : Nat, K + 1 = E.length := ⟨E.length - 1, by omega⟩
      have hl : E[K]? = some (E.getLastD []) := by
        have := last_at (ws := E) (by omega)
        rwa [show E.length - 1 = K by omega] at this
      obtain ⟨g, of2, la, lc, rfl, hlen, ca⟩ := hO.at hnr hl
      obtain ⟨c1, hlr⟩ := ca wr (Below.refl _ _)
      have k1 := next_of (E.getLastD []) _ y inn wr hlr.rd (by omega)
      have hKi : (E.length : Int) - 1 = (K : Int) := by omega
      have hKl : K < E.length := by omega
      have hKE : E.length ≤ 3000 := by omega
      have hn7 := next_len (E.getLastD []) y inn
      have hext : Hid (extM inn E y = E ++ [(nextC (E.getLastD []) y inn).2]) := rfl
      have HO : Hid (Ways n wr (.slice (some ⟨g, of2, none⟩) E.length sc) E) := hO
      generalize nextC (E.getLastD []) y inn = CL at *
      generalize E.getLastD [] = LL at *
      obtain ⟨cd, nl⟩ := CL
      dsimp only at hn7 hext
      have hKH : Hid (K + 1 = E.length) := hK
      clear hO hl hel hlr ca hlen hK
      generalize hEL : E.length = EL at *
      have hELH : Hid (E.length = EL) := hEL
      clear hEL
      go_wp2_with fail
      refine k1.mono ?_
      rintro e w1 ⟨⟨nv, rfl, hnR⟩, hb1⟩
      dsimp only at hnR
      obtain ⟨ss, hS⟩ := Ways.below HO.out hnr hb1
      have hsl : ss.length = E.length := hS.2.1
      obtain ⟨na, nc, rfl, -⟩ := hnR.shape
      have hn1 : n ≤ w1.heap.size := by have := hb1.size; omega
      have hrun : Hid _ := push_sl (na, nl.length, nc) hS.1.1 (by rw [hsl, hELH.out]; omega)
      have hZ1 := hZr.out.below hnr hb1
      have HP : Hid (∀ v' w', PushT slE 22 w1 (.slice (some ⟨g, of2, none⟩) EL sc) (ss ++ [(na, nl.length, nc)]) v' w' → Ways n w' v' (E ++ [nl]) ∧ InR n w' (.slice (some ⟨b, off, none⟩) zs.length zc) zs ∧ Below n w1 w') := fun v' w' h => by
        obtain ⟨h1, h2⟩ := hS.push hn1 (s := (na, nl.length, nc)) (.inl hnR) (by omega) h
        exact ⟨⟨_, h1⟩, hZ1.push hS.1 hn1 h, h2⟩
      have hb01 := hb.trans (hb1.mono hnr)
      clear k1 c1 c0 hnR hS hZ1 hZr HO hsl hb1 hb
      dsimp only at hrun
      go_wp2_with (at_builtin; refine wp_by rfl _ _ _ rfl _ _ rfl rfl hrun.out ?_)
      intro u w2 hp
      obtain ⟨h1, h2, h3⟩ := HP.out u w2 hp
      have hb2 := hb01.trans h3
      have hn2 : n ≤ w2.heap.size := by have := h3.size; omega
      obtain ⟨ua, uc, rfl⟩ := h1.shape
      have H1 : Hid (Ways n w2 (.slice ua (E ++ [nl]).length uc) (extAll inn ws (zs.take (i + 1)))) := by show Ways _ _ _ _; rw [hst.out, hext.out]; exact h1
      generalize (E ++ [nl]).length = NL at *
      clear hrun HP hp h3 h1 hb01
      go_wp2
      go_roundg (gk - 1)
      case measure => omega
      case rel => exact ⟨i + 1, _, by omega, by go_num, rfl, H1.out, h2, hn2, hb2⟩
    · have hlti : ¬ (i : Int) < (zs.length : Int) := by omega
      obtain rfl : i = zs.length := by omega
      rw [List.take_length] at hO
      obtain ⟨sa, sc, rfl⟩ := hO.shape
      have HO : Hid _ := hO
      generalize (extAll inn ws zs).length = NL at *
      clear hO hZr hel
      go_wp2
      go_ret
      exact ⟨_, rfl, HO.out, hb⟩

theorem way_no (f t : List Int) (fv tv : Value) (w : World) (hF : Rd intE w fv f) (hT : Rd intE w tv t) (hlf : f.length ≤ 1000000000000000) (hlt : t.length ≤ 1000000000000000) (h : (votB f && votB t) = false) : Calls Try.prog 6 #[fv, tv] w fun e w' => e = .returned (.tuple #[.slice none 0 0, .int .i64 1]) ∧ w' = w := by
  have k1 := areVoters_of f t fv tv w hF hT hlf hlt
  rw [h] at k1
  obtain ⟨fa, fc, rfl, -, -⟩ := hF.shape
  obtain ⟨ta, tc, rfl, -, -⟩ := hT.shape
  clear hF hT h
  go_enter Try.func6, Try.ntmps6
  go_wp2_with fail
  refine k1.mono ?_
  rintro e w1 ⟨rfl, hw1⟩
  subst hw1
  go_wp2
  go_ret2
  exact ⟨rfl, rfl⟩
set_option maxHeartbeats 2000000 in
theorem way_yes (f t : List Int) (fv tv : Value) (w : World) (hF : Rd intE w fv f) (hT : Rd intE w tv t) (hf : votB f = true) (ht : votB t = true) : Calls Try.prog 6 #[fv, tv] w fun e w' => ∃ v, e = .returned (.tuple #[v, .int .i64 0]) ∧ Ways w.heap.size w' v (wayM f t) ∧ Below w.heap.size w w' := by
  have hVF := votB_iff.1 hf
  have hVT := votB_iff.1 ht
  have hlf : f.length ≤ 7 := hVF.2.1
  have hlt : t.length ≤ 7 := hVT.2.1
  have hf0 : 0 < f.length := hVF.1
  have k1 := areVoters_of f t fv tv w hF hT (by omega) (by omega)
  rw [hf, ht] at k1
  have k2 := clone_of f fv w hF hf0 (by omega)
  have HF : Hid (Rd intE w fv f) := hF
  have HT : Hid (Rd intE w tv t) := hT
  have HL1 : Hid ((lack f t).length ≤ 7) := Nat.le_trans (lack_len f t) hlt
  have HL2 : Hid ((lack t f).length ≤ 7) := Nat.le_trans (lack_len t f) hlf
  obtain ⟨fa, fc, rfl, -, -⟩ := hF.shape
  obtain ⟨ta, tc, rfl, -, -⟩ := hT.shape
  clear hF hT hVF hVT hf ht
  go_enter Try.func6, Try.ntmps6
  go_wp2_with fail
  refine k1.mono ?_
  rintro e w1 ⟨rfl, hw1⟩
  subst hw1
  clear k1
  go_wp2_with fail
  refine k2.mono ?_
  rintro e w2 ⟨cv, rfl, hC, hb2⟩
  obtain ⟨ca, cc, rfl, -⟩ := hC.1.shape
  obtain ⟨q1, q2, q3⟩ := one_box w2 (.cells #[.slice ca f.length cc] 22)
  have hW0 : Ways w1.heap.size (w2.alloc (.cells #[.slice ca f.length cc] 22)) (.slice (some ⟨w2.heap.size, 0, none⟩) 1 1) [f] := ⟨[(ca, f.length, cc)], ⟨Rk.made (xs := [(ca, f.length, cc)]) q2 rfl (by unfold maxLen; simp), fun k hk => by cases hk; exact hb2.size⟩, rfl, fun i s l hs hl => by
    cases i with
    | zero =>
      simp only [List.getElem?_cons_zero, Option.some.injEq] at hs hl
      subst hs hl
      exact ⟨.inl (hC.below q3).1, by omega⟩
    | succ i => simp at hs⟩
  have hb3 := hb2.trans (q3.mono hb2.size)
  have HW0 : Hid _ := hW0
  clear k2 hC q1 q2 q3 hb2 hW0
  have k3 := lacking_of f t _ _ _ (HF.out.below hb3) (HT.out.below hb3) (by omega) (by omega)
  go_wp2_with fail
  generalize w2.alloc (.cells #[.slice ca f.length cc] 22) = w3 at *
  refine k3.mono ?_
  rintro e w4 ⟨lv, rfl, hL, hb4⟩
  have hb04 := hb3.trans (hb4.mono hb3.size)
  obtain ⟨la, lc, rfl, -⟩ := hL.1.shape
  have k4 := extend_of w1.heap.size [f] _ (lack f t) _ true w4 hb04.size (Ways.below HW0.out hb3.size hb4) (.inl hL.1) (by simp) (by simp) (by have := HL1.out; omega)
  have hE1 : Hid ((extAll true [f] (lack f t)).length ≤ 8) := by show _ ≤ _; rw [extAll_len]; have := HL1.out; simp; omega
  have hE0 : Hid (0 < (extAll true [f] (lack f t)).length) := by show _ < _; rw [extAll_len]; simp; omega
  have hWM : Hid (wayM f t = extAll false (extAll true [f] (lack f t)) (lack t f)) := rfl
  generalize extAll true [f] (lack f t) = E1 at *
  generalize (lack f t).length = L1 at *
  clear k3 hL HW0 hb3 hb4
  go_wp2_with fail
  refine k4.mono ?_
  rintro e w5 ⟨v5, rfl, hW5, hb5⟩
  obtain ⟨xa, xc, rfl⟩ := hW5.shape
  have hb05 := hb04.trans hb5
  have HW5 : Hid _ := hW5
  clear k4 hW5 hb5 hb04
  have k5 := lacking_of t f _ _ _ (HT.out.below hb05) (HF.out.below hb05) (by omega) (by omega)
  go_wp2_with fail
  refine k5.mono ?_
  rintro e w6 ⟨mv, rfl, hM, hb6⟩
  have hb06 := hb05.trans (hb6.mono hb05.size)
  obtain ⟨ma, mc, rfl, -⟩ := hM.1.shape
  have k6 := extend_of w1.heap.size E1 _ (lack t f) _ false w6 hb06.size (Ways.below HW5.out hb05.size hb6) (.inl hM.1) hE0.out (by have := hE1.out; omega) (by have := HL2.out; omega)
  generalize (lack t f).length = L2 at *
  generalize E1.length = N1 at *
  clear k5 hM HW5 hb6 hb05
  go_wp2_with fail
  refine k6.mono ?_
  rintro e w7 ⟨v7, rfl, hW7, hb7⟩
  have hb07 := hb06.trans hb7
  rw [← hWM.out] at hW7
  obtain ⟨xa, xc, rfl⟩ := hW7.shape
  have HW7 : Hid _ := hW7
  generalize (wayM f t).length = N2 at *
  clear k6 hW7 hb7 hb06 HF HT
  go_wp2
  go_ret2
  exact ⟨_, rfl, HW7.out, hb07⟩
end Go.Proofs.Ytkglckngiggbhaa

