import Derived.Test.YtfbmeeankkfjbaaHq11
import Derived.Test.YtfbmeeankkfjbaaHq24
import Derived.Test.YtfbmeeankkfjbaaHq32
/- The law QuorumRises. -/
namespace Go.Proofs.Ytfbmeeankkfjbaa
open Go.RowKit QuorumMath
set_option maxRecDepth 100000
set_option linter.unusedSimpArgs false
set_option linter.unusedVariables false

set_option maxHeartbeats 8000000 in
theorem rises_law (v : List Int) (vv : Value) (ps : List Pr) (pv : Value) (R : Nat) (w : World) (hV : Rd intE w vv v) (hlv : v.length * 8 ≤ 140737488355328) (hP : Rd peerE w pv ps) (hlp : ps.length * 24 ≤ 140737488355328) (hR : R < 256) : Calls Try.prog 8 #[vv, pv, .int .u8 (R : Int)] w fun e w' => e = .returned (.bool true) ∧ Below w.heap.size w w' := by
  have ka := fun W => awake_of W
  by_cases h300 : 300 < ps.length
  · have h300i : (300 : Int) < (ps.length : Int) := by omega
    obtain ⟨pa, pc, rfl, -, -⟩ := hP.shape
    obtain ⟨va, vcap, rfl, -, -⟩ := hV.shape
    clear hP hV
    go_enter Try.func8, Try.ntmps8
    go_wp2_with fail
    refine (ka _).mono ?_
    rintro e w1 ⟨rfl, hb1⟩
    go_wp2
    go_ret
    exact ⟨rfl, hb1⟩
  · have h300i : ¬ (300 : Int) < (ps.length : Int) := by omega
    have kv := rvoters_of v vv w hV (by omega)
    have kc := fun W (hW : Below w.heap.size w W) => commit_of v vv ps pv W (hV.below hW) (hP.below hW) (by omega) (by omega)
    have kc2 := fun W u qs (hW : Below w.heap.size w W) (hu : Rd peerE W u qs) (hl : qs.length ≤ 1000000) => commit_of v vv qs u W (hV.below hW) hu (by omega) hl
    have hVH : Hid (Rd intE w vv v) := hV
    have hPH : Hid (Rd peerE w pv ps) := hP
    obtain ⟨pa, pc, rfl, -, -⟩ := hP.shape
    obtain ⟨va, vcap, rfl, -, -⟩ := hV.shape
    clear hP hV
    cases hm : votB v with
    | false =>
      rw [hm] at kv
      clear hm kc kc2 hVH hPH
      go_enter Try.func8, Try.ntmps8
      go_wp2_with fail
      refine kv.mono ?_
      rintro e w1 ⟨rfl, hb1⟩
      go_wp2_with fail
      refine (ka _).mono ?_
      rintro e w2 ⟨rfl, hb2⟩
      go_wp2
      go_ret
      exact ⟨rfl, hb1.trans (hb2.mono hb1.size)⟩
    | true =>
      rw [hm] at kv
      have hvv := votB_iff.1 hm
      have hl1 := hvv.1
      have hl7 := hvv.2.1
      have HMJ : Hid (0 < comM v ps → v.length < 2 * metN ps (comM v ps) v) := met_major hm
      have HUP : Hid (∀ qs, UpP ps qs → comM v ps ≤ comM v qs) := fun qs h => com_up h
      generalize comM v ps = C at *
      clear hm hvv
      go_enter Try.func8, Try.ntmps8
      go_wp2_with fail
      refine kv.mono ?_
      rintro e w1 ⟨rfl, hb1⟩
      have kc1 := kc w1 hb1
      clear kc kv
      go_wp2_with fail
      refine kc1.mono ?_
      rintro e w2 ⟨rfl, hb2⟩
      have hb02 := hb1.trans (hb2.mono hb1.size)
      clear kc1 hb1 hb2 w1
      go_wp2
      go_loopg [8, 9] v.length (fun gh s8 s9 wr => ∃ (i n : Nat), i + gh = v.length ∧ s9 = .int .i64 (i : Int) ∧ s8 = .int .i64 (n : Int) ∧ n ≤ i ∧ Below w.heap.size w wr ∧ Hid (n = metN ps C (v.take i)))
      case atStart => exact ⟨0, 0, by simp, rfl, rfl, Nat.le_refl _, hb02, by rw [List.take_zero]; rfl⟩
      case round =>
        obtain ⟨i, n, hig, rfl, rfl, hni, hb, HN⟩ := hrel
        clear hb02
        by_cases hlt : i < v.length
        · have hlti : (i : Int) < (v.length : Int) := by omega
          have hx : v[i]? = some v[i] := List.getElem?_eq_getElem hlt
          obtain ⟨x, hxx⟩ : ∃ x, x = v[i] := ⟨_, rfl⟩
          rw [← hxx] at hx
          clear hxx
          obtain ⟨b, off, rfl, cx⟩ := rdi_at hVH.out hx
          have HNT : Hid (metN ps C (v.take (i + 1)) = n + if metB ps x C then 1 else 0) := by show _ = _; rw [metN_take hx, HN.out]
          obtain ⟨GK, hGK⟩ : ∃ GK, GK = gk := ⟨_, rfl⟩
          have hig' : i + GK = v.length := by omega
          have HGK : Hid (GK = gk) := hGK
          obtain ⟨w9, hw9⟩ : ∃ w9, w9 = wr := ⟨_, rfl⟩
          subst hw9
          clear hGK hx HN
          go_wp2
          go_loopg [8, 10] ps.length (fun gh s8 s10 wr => ∃ k : Nat, k + gh = ps.length ∧ s10 = .int .i64 (k : Int) ∧ s8 = .int .i64 (n : Int) ∧ Below w.heap.size w wr ∧ Hid (metB (ps.drop k) x C = metB ps x C))
          case atStart => exact ⟨0, by simp, rfl, rfl, hb, by rw [List.drop_zero]; rfl⟩
          case round =>
            obtain ⟨k, hkg, rfl, rfl, hbk, HK⟩ := hrel
            by_cases hlk : k < ps.length
            · have hlki : (k : Int) < (ps.length : Int) := by omega
              have hp : ps[k]? = some ps[k] := List.getElem?_eq_getElem hlk
              obtain ⟨p, hpp⟩ : ∃ p, p = ps[k] := ⟨_, rfl⟩
              rw [← hpp] at hp
              clear hpp
              obtain ⟨pb, po, rfl, cc⟩ := rdp_at hPH.out hp
              have hmo := metB_at hp x C
              obtain ⟨p1, p2, p3⟩ := p
              dsimp only at cc hmo
              have c0 := cx wr hbk
              obtain ⟨d0, -, d2⟩ := cc wr hbk
              by_cases hpx : p1 = x
              · have hq : (p1 == x) = true := by simpa using hpx
                have HB : Hid (metB ps x C = decide (C ≤ p3)) := by show _ = _; rw [← HK.out, hmo, if_pos hpx]
                by_cases hCp : C ≤ p3
                · have hCpi : (C : Int) ≤ (p3 : Int) := by omega
                  have HN2 : Hid (n + 1 = metN ps C (v.take (i + 1))) := by show _ = _; rw [HNT.out, HB.out, decide_eq_true hCp]; rfl
                  clear HK hmo hpx HB HNT hp cc cx HMJ HUP kc2
                  go_wp2
                  go_quiet (fail)
                  go_wp2
                  go_roundg (GK - 1)
                  case measure => have := HGK.out; omega
                  case rel => exact ⟨i + 1, n + 1, by omega, by go_num, by go_num, by omega, below_dN hbk nq, HN2⟩
                · have hCpi : ¬ (C : Int) ≤ (p3 : Int) := by omega
                  have HN2 : Hid (n = metN ps C (v.take (i + 1))) := by show _ = _; rw [HNT.out, HB.out, decide_eq_false hCp]; rfl
                  clear HK hmo hpx HB HNT hp cc cx HMJ HUP kc2
                  go_wp2
                  go_quiet (fail)
                  go_wp2
                  go_roundg (GK - 1)
                  case measure => have := HGK.out; omega
                  case rel => exact ⟨i + 1, n, by omega, by go_num, rfl, by omega, below_dN hbk nq, HN2⟩
              · have hq : (p1 == x) = false := by simpa using hpx
                have HK2 : Hid (metB (ps.drop (k + 1)) x C = metB ps x C) := by show _ = _; rw [← HK.out, hmo, if_neg hpx]
                clear HK hmo HNT hp cc cx HMJ HUP kc2
                go_wp2
                go_quiet (fail)
                go_wp2
                go_roundg (gk - 1)
                case measure => omega
                case rel => exact ⟨k + 1, by omega, by go_num, rfl, below_dN hbk nq, HK2⟩
            · have hlki : ¬ (k : Int) < (ps.length : Int) := by omega
              have HN2 : Hid (n = metN ps C (v.take (i + 1))) := by
                show _ = _
                rw [HNT.out, ← HK.out, List.drop_eq_nil_of_le (by omega)]
                rfl
              clear HK HNT cx HMJ HUP kc2
              go_wp2
              go_roundg (GK - 1)
              case measure => have := HGK.out; omega
              case rel => exact ⟨i + 1, n, by omega, by go_num, rfl, by omega, hbk, HN2⟩
        · have hlti : ¬ (i : Int) < (v.length : Int) := by omega
          obtain rfl : v.length = i := by omega
          have HNA : Hid (n = metN ps C v) := by show _ = _; rw [HN.out, List.take_length]
          have HMA : Hid (0 < C → v.length < 2 * n) := fun h => by rw [HNA.out]; exact HMJ.out h
          have hrunH : Hid _ := copy_peer (hPH.out.below hb) (by omega)
          clear HN HNA HMJ hPH
          have hcase : (0 < C ∧ v.length < 2 * n) ∨ C = 0 := by
            by_cases h : 0 < C
            · exact .inl ⟨h, HMA.out h⟩
            · exact .inr (by omega)
          clear HMA
          obtain ⟨w5, hw5⟩ : ∃ w5, w5 = wr := ⟨_, rfl⟩
          subst hw5
          rcases hcase with ⟨hC0, hC1⟩ | hC0
          · have hC0i : (0 : Int) < (C : Int) := by omega
            have hC1i : ¬ 2 * (n : Int) ≤ (v.length : Int) := by omega
            go_wp2_with (at_builtin; refine wp_by rfl _ _ _ rfl _ _ rfl rfl hrunH.out ?_)
            intro u w6 hp6
            obtain ⟨hO6, hb6⟩ := hp6
            obtain ⟨ua, uc, hu, -⟩ := hO6.1.shape
            subst hu
            clear hrunH
            go_wp2
            go_loopg [12] ps.length (fun gh s12 wr => ∃ (k : Nat) (qs : List Pr), k + gh = ps.length ∧ s12 = .int .i64 (k : Int) ∧ Below w5.heap.size w5 wr ∧ Hid (Ow peerE 43 w5.heap.size wr (.slice ua ps.length uc) qs) ∧ Hid (UpP ps qs))
            case atStart => exact ⟨0, ps, by simp, rfl, hb6, hO6, UpP.refl ps⟩
            case round =>
              obtain ⟨k, qs, hkg, rfl, hb7, HO, HU⟩ := hrel
              clear hO6 hb6 w6
              by_cases hlk : k < ps.length
              · have hlki : (k : Int) < (ps.length : Int) := by omega
                have hql : qs.length = ps.length := HU.out.1.symm
                have hq : qs[k]? = some qs[k] := List.getElem?_eq_getElem (by omega)
                obtain ⟨q, hqq⟩ : ∃ q, q = qs[k]'(by omega) := ⟨_, rfl⟩
                rw [← hqq] at hq
                clear hqq
                obtain ⟨g, cp, cur, ev, -, -, -, -, -, hcell, hfro⟩ := HO.out.1.cells (by omega)
                have eg : ua = some ⟨g, 0, none⟩ := (Value.slice.inj ev).1
                subst eg
                have hge := HO.out.2 g rfl
                obtain ⟨q1, q2, M⟩ := q
                have d2 : wr.cell? ⟨g, k * 3 + 2, none⟩ = some (.int .u64 (M : Int)) := hcell k (q1, q2, M) 2 hq (by decide)
                have f2 : wr.frozen? ⟨g, k * 3 + 2, none⟩ = false := hfro _
                obtain ⟨kk, hkk⟩ : ∃ kk : Nat, Hid (kk = k % 8) := ⟨_, rfl⟩
                have hk8 : kk < 8 := by have := hkk.out; omega
                have ht8 : (k : Int).tmod 8 = (kk : Int) := by rw [hkk.out, Int.tmod_eq_emod_of_nonneg (by omega)]; omega
                have HU2 : Hid (UpP ps (qs.set k (q1, q2, M + R))) := HU.out.set hq R
                have HO2 : Hid (Ow peerE 43 w5.heap.size (wr.setCell ⟨g, k * 3 + 2, none⟩ (.int .u64 ((M : Int) + (R : Int)))) (.slice (some ⟨g, 0, none⟩) ps.length uc) (qs.set k (q1, q2, M + R))) :=
                  ⟨Rk.setAt (E := peerE) (j := 2) HO.out.1 hq (by decide) (by show _ = _; simp [peerE]), HO.out.2⟩
                have hb8 : Below w5.heap.size w5 (wr.setCell ⟨g, k * 3 + 2, none⟩ (.int .u64 ((M : Int) + (R : Int)))) := hb7.setCell (p := ⟨g, k * 3 + 2, none⟩) hge _
                clear ev hcell hfro hq hql hge HUP kc2
                cases hd : (((R : Int) / 2 ^ kk).tmod 2 == 1) with
                | false =>
                  clear HU2 HO2 hb8
                  go_wp2
                  go_roundg (gk - 1)
                  case measure => omega
                  case rel => exact ⟨k + 1, qs, by omega, by go_num, hb7, HO, HU⟩
                | true =>
                  by_cases hM : M < 4611686018427387904
                  · have hMi : (M : Int) < 4611686018427387904 := by omega
                    have hw1 : IntKind.u64.wrap ((M : Int) + (R : Int)) = (M : Int) + (R : Int) := by
                      have h1 : (0 : Int) ≤ (M : Int) + (R : Int) := by omega
                      have h2 : (M : Int) + (R : Int) < 18446744073709551616 := by omega
                      first | exact IntWalk.u64_in _ ⟨h1, by omega⟩ | exact IntWalk.u64_in _ (by omega) | (unfold IntKind.wrap; simp; omega)
                    clear HU HO
                    go_wp2
                    go_roundg (gk - 1)
                    case measure => omega
                    case rel => exact ⟨k + 1, _, by omega, by go_num, hb8, HO2, HU2⟩
                  · have hMi : ¬ (M : Int) < 4611686018427387904 := by omega
                    clear HU2 HO2 hb8
                    go_wp2
                    go_roundg (gk - 1)
                    case measure => omega
                    case rel => exact ⟨k + 1, qs, by omega, by go_num, hb7, HO, HU⟩
              · have hlki : ¬ (k : Int) < (ps.length : Int) := by omega
                have hbw := hb.trans (hb7.mono hb.size)
                have hql : qs.length = ps.length := HU.out.1.symm
                have kc3 := kc2 wr (.slice ua ps.length uc) qs hbw HO.out.1.rd (by omega)
                have hle := HUP.out qs HU.out
                generalize comM v qs = D at *
                have hlei : (C : Int) ≤ (D : Int) := by omega
                clear kc2 HUP HU HO hql
                go_wp2_with fail
                refine kc3.mono ?_
                rintro e w8 ⟨rfl, hb8⟩
                have hb08 := hbw.trans (hb8.mono hbw.size)
                clear kc3
                go_wp2_with fail
                refine (ka _).mono ?_
                rintro e w9 ⟨rfl, hb9⟩
                go_wp2
                go_ret
                exact ⟨rfl, hb08.trans (hb9.mono hb08.size)⟩
          · subst hC0
            go_wp2_with (at_builtin; refine wp_by rfl _ _ _ rfl _ _ rfl rfl hrunH.out ?_)
            intro u w6 hp6
            obtain ⟨hO6, hb6⟩ := hp6
            obtain ⟨ua, uc, hu, -⟩ := hO6.1.shape
            subst hu
            clear hrunH
            go_wp2
            go_loopg [12] ps.length (fun gh s12 wr => ∃ (k : Nat) (qs : List Pr), k + gh = ps.length ∧ s12 = .int .i64 (k : Int) ∧ Below w5.heap.size w5 wr ∧ Hid (Ow peerE 43 w5.heap.size wr (.slice ua ps.length uc) qs) ∧ Hid (UpP ps qs))
            case atStart => exact ⟨0, ps, by simp, rfl, hb6, hO6, UpP.refl ps⟩
            case round =>
              obtain ⟨k, qs, hkg, rfl, hb7, HO, HU⟩ := hrel
              clear hO6 hb6 w6
              by_cases hlk : k < ps.length
              · have hlki : (k : Int) < (ps.length : Int) := by omega
                have hql : qs.length = ps.length := HU.out.1.symm
                have hq : qs[k]? = some qs[k] := List.getElem?_eq_getElem (by omega)
                obtain ⟨q, hqq⟩ : ∃ q, q = qs[k]'(by omega) := ⟨_, rfl⟩
                rw [← hqq] at hq
                clear hqq
                obtain ⟨g, cp, cur, ev, -, -, -, -, -, hcell, hfro⟩ := HO.out.1.cells (by omega)
                have eg : ua = some ⟨g, 0, none⟩ := (Value.slice.inj ev).1
                subst eg
                have hge := HO.out.2 g rfl
                obtain ⟨q1, q2, M⟩ := q
                have d2 : wr.cell? ⟨g, k * 3 + 2, none⟩ = some (.int .u64 (M : Int)) := hcell k (q1, q2, M) 2 hq (by decide)
                have f2 : wr.frozen? ⟨g, k * 3 + 2, none⟩ = false := hfro _
                obtain ⟨kk, hkk⟩ : ∃ kk : Nat, Hid (kk = k % 8) := ⟨_, rfl⟩
                have hk8 : kk < 8 := by have := hkk.out; omega
                have ht8 : (k : Int).tmod 8 = (kk : Int) := by rw [hkk.out, Int.tmod_eq_emod_of_nonneg (by omega)]; omega
                have HU2 : Hid (UpP ps (qs.set k (q1, q2, M + R))) := HU.out.set hq R
                have HO2 : Hid (Ow peerE 43 w5.heap.size (wr.setCell ⟨g, k * 3 + 2, none⟩ (.int .u64 ((M : Int) + (R : Int)))) (.slice (some ⟨g, 0, none⟩) ps.length uc) (qs.set k (q1, q2, M + R))) :=
                  ⟨Rk.setAt (E := peerE) (j := 2) HO.out.1 hq (by decide) (by show _ = _; simp [peerE]), HO.out.2⟩
                have hb8 : Below w5.heap.size w5 (wr.setCell ⟨g, k * 3 + 2, none⟩ (.int .u64 ((M : Int) + (R : Int)))) := hb7.setCell (p := ⟨g, k * 3 + 2, none⟩) hge _
                clear ev hcell hfro hq hql hge HUP kc2
                cases hd : (((R : Int) / 2 ^ kk).tmod 2 == 1) with
                | false =>
                  clear HU2 HO2 hb8
                  go_wp2
                  go_roundg (gk - 1)
                  case measure => omega
                  case rel => exact ⟨k + 1, qs, by omega, by go_num, hb7, HO, HU⟩
                | true =>
                  by_cases hM : M < 4611686018427387904
                  · have hMi : (M : Int) < 4611686018427387904 := by omega
                    have hw1 : IntKind.u64.wrap ((M : Int) + (R : Int)) = (M : Int) + (R : Int) := by
                      have h1 : (0 : Int) ≤ (M : Int) + (R : Int) := by omega
                      have h2 : (M : Int) + (R : Int) < 18446744073709551616 := by omega
                      first | exact IntWalk.u64_in _ ⟨h1, by omega⟩ | exact IntWalk.u64_in _ (by omega) | (unfold IntKind.wrap; simp; omega)
                    clear HU HO
                    go_wp2
                    go_roundg (gk - 1)
                    case measure => omega
                    case rel => exact ⟨k + 1, _, by omega, by go_num, hb8, HO2, HU2⟩
                  · have hMi : ¬ (M : Int) < 4611686018427387904 := by omega
                    clear HU2 HO2 hb8
                    go_wp2
                    go_roundg (gk - 1)
                    case measure => omega
                    case rel => exact ⟨k + 1, qs, by omega, by go_num, hb7, HO, HU⟩
              · have hlki : ¬ (k : Int) < (ps.length : Int) := by omega
                have hbw := hb.trans (hb7.mono hb.size)
                have hql : qs.length = ps.length := HU.out.1.symm
                have kc3 := kc2 wr (.slice ua ps.length uc) qs hbw HO.out.1.rd (by omega)
                have hle := HUP.out qs HU.out
                generalize comM v qs = D at *
                have hlei : (0 : Int) ≤ (D : Int) := by omega
                clear kc2 HUP HU HO hql
                go_wp2_with fail
                refine kc3.mono ?_
                rintro e w8 ⟨rfl, hb8⟩
                have hb08 := hbw.trans (hb8.mono hbw.size)
                clear kc3
                go_wp2_with fail
                refine (ka _).mono ?_
                rintro e w9 ⟨rfl, hb9⟩
                go_wp2
                go_ret
                exact ⟨rfl, hb08.trans (hb9.mono hb08.size)⟩
end Go.Proofs.Ytfbmeeankkfjbaa

