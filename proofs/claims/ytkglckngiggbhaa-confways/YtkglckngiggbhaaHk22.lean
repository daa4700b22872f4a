import Derived.Test.YtkglckngiggbhaaHk19
/- The document's Way. -/
namespace Go.Proofs.Ytkglckngiggbhaa
open Go.RowKit QuorumMath
set_option maxRecDepth 100000
set_option linter.unusedSimpArgs false
set_option linter.unusedVariables false

theorem rway_no (f t : List Int) (fv tv : Value) (w : World) (hF : Rd intE w fv f) (hT : Rd intE w tv t) (hlf : f.length ≤ 1000000000000000) (hlt : t.length ≤ 1000000000000000) (h : (votB f && votB t) = false) : Calls Try.prog 7 #[fv, tv] w fun e w' => e = .returned (.tuple #[.slice none 0 0, .int .i64 1]) ∧ Below w.heap.size w w' := by
  have k1 := rvoters_of f fv w hF hlf
  have k2 := fun W (hW : Below w.heap.size w W) => rvoters_of t tv W (hT.below hW) hlt
  obtain ⟨fa, fc, rfl, -, -⟩ := hF.shape
  obtain ⟨ta, tc, rfl, -, -⟩ := hT.shape
  clear hF hT
  cases hB : votB f with
  | false =>
    rw [hB] at k1
    clear h hB k2
    go_enter Try.func7, Try.ntmps7
    go_wp2_with fail
    refine k1.mono ?_
    rintro e w1 ⟨rfl, hb1⟩
    clear k1
    go_wp2
    go_ret2
    exact ⟨rfl, hb1⟩
  | true =>
    have hC : votB t = false := by simpa [hB] using h
    rw [hB] at k1
    rw [hC] at k2
    clear h hB hC
    go_enter Try.func7, Try.ntmps7
    go_wp2_with fail
    refine k1.mono ?_
    rintro e w1 ⟨rfl, hb1⟩
    have k3 := k2 w1 hb1
    clear k1 k2
    go_wp2_with fail
    refine k3.mono ?_
    rintro e w2 ⟨rfl, hb2⟩
    have hb := hb1.trans (hb2.mono hb1.size)
    clear k3
    go_wp2
    go_ret2
    exact ⟨rfl, hb⟩

def phM (f t : List Int) : Nat → List (List Int)
  | 0 => [f]
  | 1 => extAll true [f] (lack f t)
  | _ => wayM f t
/-- The way, and its last ones. -/
def RW (n : Nat) (w : World) (st lv : Value) (ws : List (List Int)) : Prop := Ways n w st ws ∧ InR n w lv (ws.getLastD []) ∧ n ≤ w.heap.size
theorem last_snoc (ws : List (List Int)) (l : List Int) : (ws ++ [l]).getLastD [] = l := List.getLastD_concat
set_option maxHeartbeats 4000000 in
theorem rway_yes (f t : List Int) (fv tv : Value) (w : World) (hF : Rd intE w fv f) (hT : Rd intE w tv t) (hf : votB f = true) (ht : votB t = true) : Calls Try.prog 7 #[fv, tv] w fun e w' => ∃ v, e = .returned (.tuple #[v, .int .i64 0]) ∧ Ways w.heap.size w' v (wayM f t) ∧ Below w.heap.size w w' := by
  have hVF := votB_iff.1 hf
  have hVT := votB_iff.1 ht
  have hlf : f.length ≤ 7 := hVF.2.1
  have hlt : t.length ≤ 7 := hVT.2.1
  have k1 := rvoters_of f fv w hF (by omega)
  have k2 := fun W (hW : Below w.heap.size w W) => rvoters_of t tv W (hT.below hW) (by omega)
  have HLF := lack_nums (o := t) (vot_ris hVF)
  have HLT := lack_nums (o := f) (vot_ris hVT)
  have HP1 : Hid (phM f t 1 = extAll true (phM f t 0) ((nums 7).filter fun n => decide (n ∈ t) && !decide (n ∈ f))) := by show _ = _; rw [← HLT]; rfl
  have HP2 : Hid (phM f t 2 = extAll false (phM f t 1) ((nums 7).filter fun n => decide (n ∈ f) && !decide (n ∈ t))) := by show _ = _; rw [← HLF]; rfl
  have HPL : Hid (∀ k, (phM f t k).length ≤ 15) := fun k => by
    have h1 := lack_len f t
    have h2 := lack_len t f
    match k with
    | 0 => simp [phM]
    | 1 => simp only [phM]; rw [extAll_len]; simp; omega
    | k + 2 => exact way_few hf ht
  rw [hf] at k1
  rw [ht] at k2
  have HKF : Hid (∀ (x : Int) W, Below w.heap.size w W → _) := fun (x : Int) W (hW : Below w.heap.size w W) => rin_of f fv x W (hF.below hW) (by omega)
  have HKT : Hid (∀ (x : Int) W, Below w.heap.size w W → _) := fun (x : Int) W (hW : Below w.heap.size w W) => rin_of t tv x W (hT.below hW) (by omega)
  have HF : Hid (InR w.heap.size w fv f) := inR_of_rd hF
  obtain ⟨fa, fc, rfl, -, -⟩ := hF.shape
  obtain ⟨ta, tc, rfl, -, -⟩ := hT.shape
  clear hF hT hVF hVT hf ht HLF HLT
  go_enter Try.func7, Try.ntmps7
  go_wp2_with fail
  refine k1.mono ?_
  rintro e w1 ⟨rfl, hb1⟩
  have k3 := k2 w1 hb1
  clear k1 k2
  go_wp2_with fail
  refine k3.mono ?_
  rintro e w2 ⟨rfl, hb2⟩
  have hb := hb1.trans (hb2.mono hb1.size)
  clear k3 hb1 hb2
  obtain ⟨q1, q2, q3⟩ := one_box w2 (.cells #[.slice fa f.length fc] 22)
  have hb3 := hb.trans (q3.mono hb.size)
  have hF3 := HF.out.below (Nat.le_refl _) hb3
  have hR0 : RW w.heap.size (w2.alloc (.cells #[.slice fa f.length fc] 22)) (.slice (some ⟨w2.heap.size, 0, none⟩) 1 1) (.slice fa f.length fc) (phM f t 0) := ⟨⟨[(fa, f.length, fc)], ⟨Rk.made (xs := [(fa, f.length, fc)]) q2 rfl (by unfold maxLen; simp), fun k hk => by cases hk; exact hb.size⟩, rfl, fun i s l hs hl => by
    cases i with
    | zero =>
      simp only [phM, List.getElem?_cons_zero, Option.some.injEq] at hs hl
      subst hs hl
      exact ⟨hF3, by omega⟩
    | succ i => simp at hs⟩, hF3, hb3.size⟩
  have HR0 : Hid _ := hR0
  clear hR0 hF3 HF q1 q2 q3 hb
  go_wp2
  generalize w2.alloc (.cells #[.slice fa f.length fc] 22) = w3 at *
  go_loopg [6, 7, 8] 2 (fun gh s6 s7 s8 wr => ∃ (k : Nat) (st lv : Value), k + gh = 2 ∧ s8 = .int .i64 (k : Int) ∧ st = s6 ∧ lv = s7 ∧ Hid (RW w.heap.size wr st lv (phM f t k)) ∧ Below w.heap.size w wr)
  case atStart => exact ⟨0, _, _, by omega, rfl, rfl, rfl, HR0, hb3⟩
  case round =>
    obtain ⟨k, st, lv, hkg, rfl, rfl, rfl, HR, hb⟩ := hrel
    clear HR0 hb3
    obtain ⟨GK, hGK⟩ : ∃ GK, GK = gk := ⟨_, rfl⟩
    have HGK : Hid (GK = gk) := hGK
    obtain ⟨wE, hwE⟩ : ∃ wE, wE = wr := ⟨_, rfl⟩
    subst hwE
    have hcases : k = 0 ∨ k = 1 ∨ k = 2 := by omega
    obtain ⟨xa, xc, hst⟩ := HR.out.1.shape
    obtain ⟨ya, yc, hlv, -, -⟩ := HR.out.2.1.rd.shape
    rcases hcases with rfl | rfl | rfl
    · have hig' : 0 + GK = 2 := by omega
      have HPN := HP1
      have HBL : Hid ((phM f t 0).length ≤ 15) := HPL.out 0
      clear hGK HP1 HP2 HPL hkg
      obtain ⟨p, Hp⟩ : ∃ p : Int → Bool, Hid (p = fun n => decide (n ∈ t) && !decide (n ∈ f)) := ⟨_, rfl⟩
      rw [← Hp.out] at HPN
      generalize phM f t 0 = B at *
      generalize hBLe : B.length = BL at hst
      generalize (B.getLastD []).length = BM at hlv
      clear hBLe
      subst hst hlv
      go_wp2
      go_loopg [6, 7, 9] 8 (fun gh s6 s7 s9 wr => ∃ (j m : Nat) (st lv : Value), m + gh = 9 ∧ Hid (m = j + 1) ∧ j ≤ 7 ∧ s9 = .int .i64 (m : Int) ∧ st = s6 ∧ lv = s7 ∧ Hid (RW w.heap.size wr st lv (extAll true B ((nums j).filter p))) ∧ Below w.heap.size w wr)
      case atStart => exact ⟨0, 1, _, _, by omega, rfl, by omega, rfl, rfl, rfl, HR, hb⟩
      case round =>
        obtain ⟨j, m, st, lv, hmg, hmj, hj7, rfl, rfl, rfl, HR, hb⟩ := hrel
        have HRL : Hid ((extAll true B ((nums j).filter p)).length ≤ 22) := by show _ ≤ _; rw [extAll_len]; have := filt_len p j; have := HBL.out; omega
        by_cases hlt : m ≤ 7
        · have hlti : (m : Int) ≤ 7 := by omega
          have hmi : Hid ((j : Int) + 1 = (m : Int)) := by show _ = _; have := hmj.out; omega
          have hmk2 : Hid (m + 1 = (j + 1) + 1) := by show _ = _; have := hmj.out; omega
          have hk8 : j + 1 ≤ 7 := by have := hmj.out; omega
          have kf := HKF.out (m : Int) wr hb
          have kt := HKT.out (m : Int) wr hb
          obtain ⟨xa, xc, hst⟩ := HR.out.1.shape
          obtain ⟨ya, yc, hlv, -, -⟩ := HR.out.2.1.rd.shape
          have Hno : Hid (p (m : Int) = false → extAll true B ((nums (j + 1)).filter p) = extAll true B ((nums j).filter p)) := fun h => by rw [filt_no (by rw [hmi.out]; exact h)]
          have Hyes : Hid (p (m : Int) = true → extAll true B ((nums (j + 1)).filter p) = extM true (extAll true B ((nums j).filter p)) (m : Int)) := fun h => by rw [filt_yes (by rw [hmi.out]; exact h), extAll_snoc, hmi.out]
          have HpV : Hid (p (m : Int) = (decide ((m : Int) ∈ t) && !decide ((m : Int) ∈ f))) := by show _ = _; rw [Hp.out]
          generalize extAll true B ((nums j).filter p) = E at *
          generalize hELe : E.length = EL at hst
          have hLL1 : Hid (Rd intE wr lv (E.getLastD [])) := HR.out.2.1.rd
          generalize hLLd : E.getLastD [] = LL at hlv hLL1
          have HLLd : Hid (E.getLastD [] = LL) := hLLd
          clear hELe hLLd
          generalize decide ((m : Int) ∈ f) = a at *
          generalize decide ((m : Int) ∈ t) = b at *
          subst hst hlv
          cases a <;> cases b
          · have HE : Hid (extAll true B ((nums (j + 1)).filter p) = E) := Hno.out (by rw [HpV.out]; rfl)
            have HR2 : Hid (RW w.heap.size wr (.slice xa EL xc) (.slice ya LL.length yc) (extAll true B ((nums (j + 1)).filter p))) := by show RW _ _ _ _ _; rw [HE.out]; exact HR.out
            clear HR Hno Hyes HpV HE HRL hLL1 HLLd
            go_wp2_with fail
            refine kf.mono ?_
            rintro e w4 ⟨rfl, hw4⟩
            subst hw4
            clear kf
            go_wp2_with fail
            refine kt.mono ?_
            rintro e w5 ⟨rfl, hw5⟩
            subst hw5
            clear kt
            go_wp2
            go_roundg (gk - 1)
            case measure => omega
            case rel => exact ⟨j + 1, m + 1, _, _, by omega, hmk2, hk8, by go_num, rfl, rfl, HR2, hb⟩
          · have HE : Hid (extAll true B ((nums (j + 1)).filter p) = extM true E (m : Int)) := Hyes.out (by rw [HpV.out]; rfl)
            have hlen7 : LL.length ≤ 1000 := by
              by_cases h0 : 0 < E.length
              · obtain ⟨ss, hS⟩ := HR.out.1
                obtain ⟨s, -, -, h⟩ := hS.get (last_at h0)
                rw [HLLd.out] at h
                exact h
              · have : E = [] := List.eq_nil_of_length_eq_zero (by omega)
                subst this
                have := HLLd.out
                simp only [List.getLastD_nil] at this
                subst this
                simp
            have kn := rnext_of LL (.slice ya LL.length yc) (m : Int) true wr hLL1.out (by omega)
            have hn7 := next_len LL (m : Int) true
            have hext : Hid (extM true E (m : Int) = E ++ [(nextC LL (m : Int) true).2]) := by show extM _ _ _ = _; unfold extM; rw [HLLd.out]
            generalize nextC LL (m : Int) true = CL at *
            obtain ⟨cd, nl⟩ := CL
            dsimp only at hn7 hext
            clear Hno Hyes HpV
            go_wp2_with fail
            refine kf.mono ?_
            rintro e w4 ⟨rfl, hw4⟩
            subst hw4
            clear kf
            go_wp2_with fail
            refine kt.mono ?_
            rintro e w5 ⟨rfl, hw5⟩
            subst hw5
            clear kt
            go_wp2_with fail
            refine kn.mono ?_
            rintro e w6 ⟨⟨nv, rfl, hnR⟩, hb6⟩
            dsimp only at hnR
            obtain ⟨ss, hS⟩ := Ways.below HR.out.1 HR.out.2.2 hb6
            have hsl : ss.length = E.length := hS.2.1
            obtain ⟨na, nc, rfl, -⟩ := hnR.shape
            have hn1 : w.heap.size ≤ w6.heap.size := by have := hb.size; have := hb6.size; omega
            have hrun : Hid _ := push_sl (na, nl.length, nc) hS.1.1 (by rw [hsl]; have := HRL.out; omega)
            have HP : Hid (∀ v' w', PushT slE 22 w6 (.slice xa EL xc) (ss ++ [(na, nl.length, nc)]) v' w' → RW w.heap.size w' v' (.slice na nl.length nc) (extAll true B ((nums (j + 1)).filter p)) ∧ Below w.heap.size w6 w') := fun v' w' h => by
              obtain ⟨h1, h2⟩ := hS.push hn1 (s := (na, nl.length, nc)) (.inl hnR) (by omega) h
              rw [HE.out, hext.out]
              refine ⟨⟨⟨_, h1⟩, ?_, by have := h2.size; omega⟩, h2⟩
              rw [last_snoc]
              exact InR.push (.inl hnR) hS.1 hn1 h
            have hb06 := hb.trans (hb6.mono hb.size)
            clear kn hnR hS hsl hb6 HR HRL HE hext HLLd hLL1
            dsimp only at hrun
            go_wp2_with (at_builtin; refine wp_by rfl _ _ _ rfl _ _ rfl rfl hrun.out ?_)
            intro u w7 hp
            obtain ⟨h1, h3⟩ := HP.out u w7 hp
            have hb7 := hb06.trans h3
            obtain ⟨ua, uc, rfl⟩ := h1.1.shape
            have H1 : Hid _ := h1
            generalize (extAll true B ((nums (j + 1)).filter p)).length = NL at *
            clear hrun HP hp h3 h1 hb06
            go_wp2
            go_roundg (gk - 1)
            case measure => omega
            case rel => exact ⟨j + 1, m + 1, _, _, by omega, hmk2, hk8, by go_num, rfl, rfl, H1, hb7⟩
          · have HE : Hid (extAll true B ((nums (j + 1)).filter p) = E) := Hno.out (by rw [HpV.out]; rfl)
            have HR2 : Hid (RW w.heap.size wr (.slice xa EL xc) (.slice ya LL.length yc) (extAll true B ((nums (j + 1)).filter p))) := by show RW _ _ _ _ _; rw [HE.out]; exact HR.out
            clear HR Hno Hyes HpV HE HRL hLL1 HLLd
            go_wp2_with fail
            refine kf.mono ?_
            rintro e w4 ⟨rfl, hw4⟩
            subst hw4
            clear kf
            go_wp2_with fail
            refine kt.mono ?_
            rintro e w5 ⟨rfl, hw5⟩
            subst hw5
            clear kt
            go_wp2
            go_roundg (gk - 1)
            case measure => omega
            case rel => exact ⟨j + 1, m + 1, _, _, by omega, hmk2, hk8, by go_num, rfl, rfl, HR2, hb⟩
          · have HE : Hid (extAll true B ((nums (j + 1)).filter p) = E) := Hno.out (by rw [HpV.out]; rfl)
            have HR2 : Hid (RW w.heap.size wr (.slice xa EL xc) (.slice ya LL.length yc) (extAll true B ((nums (j + 1)).filter p))) := by show RW _ _ _ _ _; rw [HE.out]; exact HR.out
            clear HR Hno Hyes HpV HE HRL hLL1 HLLd
            go_wp2_with fail
            refine kf.mono ?_
            rintro e w4 ⟨rfl, hw4⟩
            subst hw4
            clear kf
            go_wp2_with fail
            refine kt.mono ?_
            rintro e w5 ⟨rfl, hw5⟩
            subst hw5
            clear kt
            go_wp2
            go_roundg (gk - 1)
            case measure => omega
            case rel => exact ⟨j + 1, m + 1, _, _, by omega, hmk2, hk8, by go_num, rfl, rfl, HR2, hb⟩
        · have hlti : ¬ (m : Int) ≤ 7 := by omega
          obtain rfl : j = 7 := by have := hmj.out; omega
          rw [← HPN.out] at HR
          obtain ⟨xa, xc, hst⟩ := HR.out.1.shape
          obtain ⟨ya, yc, hlv, -, -⟩ := HR.out.2.1.rd.shape
          generalize (phM f t 1).length = BL' at hst
          generalize ((phM f t 1).getLastD []).length = BM' at hlv
          subst hst hlv
          clear HPN HRL
          go_wp2
          go_roundg (GK - 1)
          case measure => have := HGK.out; omega
          case rel => exact ⟨1, _, _, by omega, by go_num, rfl, rfl, HR, hb⟩
    · have hig' : 1 + GK = 2 := by omega
      have HPN := HP2
      have HBL : Hid ((phM f t 1).length ≤ 15) := HPL.out 1
      clear hGK HP1 HP2 HPL hkg
      obtain ⟨p, Hp⟩ : ∃ p : Int → Bool, Hid (p = fun n => decide (n ∈ f) && !decide (n ∈ t)) := ⟨_, rfl⟩
      rw [← Hp.out] at HPN
      generalize phM f t 1 = B at *
      generalize hBLe : B.length = BL at hst
      generalize (B.getLastD []).length = BM at hlv
      clear hBLe
      subst hst hlv
      go_wp2
      go_loopg [6, 7, 9] 8 (fun gh s6 s7 s9 wr => ∃ (j m : Nat) (st lv : Value), m + gh = 9 ∧ Hid (m = j + 1) ∧ j ≤ 7 ∧ s9 = .int .i64 (m : Int) ∧ st = s6 ∧ lv = s7 ∧ Hid (RW w.heap.size wr st lv (extAll false B ((nums j).filter p))) ∧ Below w.heap.size w wr)
      case atStart => exact ⟨0, 1, _, _, by omega, rfl, by omega, rfl, rfl, rfl, HR, hb⟩
      case round =>
        obtain ⟨j, m, st, lv, hmg, hmj, hj7, rfl, rfl, rfl, HR, hb⟩ := hrel
        have HRL : Hid ((extAll false B ((nums j).filter p)).length ≤ 22) := by show _ ≤ _; rw [extAll_len]; have := filt_len p j; have := HBL.out; omega
        by_cases hlt : m ≤ 7
        · have hlti : (m : Int) ≤ 7 := by omega
          have hmi : Hid ((j : Int) + 1 = (m : Int)) := by show _ = _; have := hmj.out; omega
          have hmk2 : Hid (m + 1 = (j + 1) + 1) := by show _ = _; have := hmj.out; omega
          have hk8 : j + 1 ≤ 7 := by have := hmj.out; omega
          have kf := HKF.out (m : Int) wr hb
          have kt := HKT.out (m : Int) wr hb
          obtain ⟨xa, xc, hst⟩ := HR.out.1.shape
          obtain ⟨ya, yc, hlv, -, -⟩ := HR.out.2.1.rd.shape
          have Hno : Hid (p (m : Int) = false → extAll false B ((nums (j + 1)).filter p) = extAll false B ((nums j).filter p)) := fun h => by rw [filt_no (by rw [hmi.out]; exact h)]
          have Hyes : Hid (p (m : Int) = true → extAll false B ((nums (j + 1)).filter p) = extM false (extAll false B ((nums j).filter p)) (m : Int)) := fun h => by rw [filt_yes (by rw [hmi.out]; exact h), extAll_snoc, hmi.out]
          have HpV : Hid (p (m : Int) = (decide ((m : Int) ∈ f) && !decide ((m : Int) ∈ t))) := by show _ = _; rw [Hp.out]
          generalize extAll false B ((nums j).filter p) = E at *
          generalize hELe : E.length = EL at hst
          have hLL1 : Hid (Rd intE wr lv (E.getLastD [])) := HR.out.2.1.rd
          generalize hLLd : E.getLastD [] = LL at hlv hLL1
          have HLLd : Hid (E.getLastD [] = LL) := hLLd
          clear hELe hLLd
          generalize decide ((m : Int) ∈ f) = a at *
          generalize decide ((m : Int) ∈ t) = b at *
          subst hst hlv
          cases a <;> cases b
          · have HE : Hid (extAll false B ((nums (j + 1)).filter p) = E) := Hno.out (by rw [HpV.out]; rfl)
            have HR2 : Hid (RW w.heap.size wr (.slice xa EL xc) (.slice ya LL.length yc) (extAll false B ((nums (j + 1)).filter p))) := by show RW _ _ _ _ _; rw [HE.out]; exact HR.out
            clear HR Hno Hyes HpV HE HRL hLL1 HLLd
            go_wp2_with fail
            refine kf.mono ?_
            rintro e w4 ⟨rfl, hw4⟩
            subst hw4
            clear kf
            go_wp2_with fail
            refine kt.mono ?_
            rintro e w5 ⟨rfl, hw5⟩
            subst hw5
            clear kt
            go_wp2
            go_roundg (gk - 1)
            case measure => omega
            case rel => exact ⟨j + 1, m + 1, _, _, by omega, hmk2, hk8, by go_num, rfl, rfl, HR2, hb⟩
          · have HE : Hid (extAll false B ((nums (j + 1)).filter p) = E) := Hno.out (by rw [HpV.out]; rfl)
            have HR2 : Hid (RW w.heap.size wr (.slice xa EL xc) (.slice ya LL.length yc) (extAll false B ((nums (j + 1)).filter p))) := by show RW _ _ _ _ _; rw [HE.out]; exact HR.out
            clear HR Hno Hyes HpV HE HRL hLL1 HLLd
            go_wp2_with fail
            refine kf.mono ?_
            rintro e w4 ⟨rfl, hw4⟩
            subst hw4
            clear kf
            go_wp2_with fail
            refine kt.mono ?_
            rintro e w5 ⟨rfl, hw5⟩
            subst hw5
            clear kt
            go_wp2
            go_roundg (gk - 1)
            case measure => omega
            case rel => exact ⟨j + 1, m + 1, _, _, by omega, hmk2, hk8, by go_num, rfl, rfl, HR2, hb⟩
          · have HE : Hid (extAll false B ((nums (j + 1)).filter p) = extM false E (m : Int)) := Hyes.out (by rw [HpV.out]; rfl)
            have hlen7 : LL.length ≤ 1000 := by
              by_cases h0 : 0 < E.length
              · obtain ⟨ss, hS⟩ := HR.out.1
                obtain ⟨s, -, -, h⟩ := hS.get (last_at h0)
                rw [HLLd.out] at h
                exact h
              · have : E = [] := List.eq_nil_of_length_eq_zero (by omega)
                subst this
                have := HLLd.out
                simp only [List.getLastD_nil] at this
                subst this
                simp
            have kn := rnext_of LL (.slice ya LL.length yc) (m : Int) false wr hLL1.out (by omega)
            have hn7 := next_len LL (m : Int) false
            have hext : Hid (extM false E (m : Int) = E ++ [(nextC LL (m : Int) false).2]) := by show extM _ _ _ = _; unfold extM; rw [HLLd.out]
            generalize nextC LL (m : Int) false = CL at *
            obtain ⟨cd, nl⟩ := CL
            dsimp only at hn7 hext
            clear Hno Hyes HpV
            go_wp2_with fail
            refine kf.mono ?_
            rintro e w4 ⟨rfl, hw4⟩
            subst hw4
            clear kf
            go_wp2_with fail
            refine kt.mono ?_
            rintro e w5 ⟨rfl, hw5⟩
            subst hw5
            clear kt
            go_wp2_with fail
            refine kn.mono ?_
            rintro e w6 ⟨⟨nv, rfl, hnR⟩, hb6⟩
            dsimp only at hnR
            obtain ⟨ss, hS⟩ := Ways.below HR.out.1 HR.out.2.2 hb6
            have hsl : ss.length = E.length := hS.2.1
            obtain ⟨na, nc, rfl, -⟩ := hnR.shape
            have hn1 : w.heap.size ≤ w6.heap.size := by have := hb.size; have := hb6.size; omega
            have hrun : Hid _ := push_sl (na, nl.length, nc) hS.1.1 (by rw [hsl]; have := HRL.out; omega)
            have HP : Hid (∀ v' w', PushT slE 22 w6 (.slice xa EL xc) (ss ++ [(na, nl.length, nc)]) v' w' → RW w.heap.size w' v' (.slice na nl.length nc) (extAll false B ((nums (j + 1)).filter p)) ∧ Below w.heap.size w6 w') := fun v' w' h => by
              obtain ⟨h1, h2⟩ := hS.push hn1 (s := (na, nl.length, nc)) (.inl hnR) (by omega) h
              rw [HE.out, hext.out]
              refine ⟨⟨⟨_, h1⟩, ?_, by have := h2.size; omega⟩, h2⟩
              rw [last_snoc]
              exact InR.push (.inl hnR) hS.1 hn1 h
            have hb06 := hb.trans (hb6.mono hb.size)
            clear kn hnR hS hsl hb6 HR HRL HE hext HLLd hLL1
            dsimp only at hrun
            go_wp2_with (at_builtin; refine wp_by rfl _ _ _ rfl _ _ rfl rfl hrun.out ?_)
            intro u w7 hp
            obtain ⟨h1, h3⟩ := HP.out u w7 hp
            have hb7 := hb06.trans h3
            obtain ⟨ua, uc, rfl⟩ := h1.1.shape
            have H1 : Hid _ := h1
            generalize (extAll false B ((nums (j + 1)).filter p)).length = NL at *
            clear hrun HP hp h3 h1 hb06
            go_wp2
            go_roundg (gk - 1)
            case measure => omega
            case rel => exact ⟨j + 1, m + 1, _, _, by omega, hmk2, hk8, by go_num, rfl, rfl, H1, hb7⟩
          · have HE : Hid (extAll false B ((nums (j + 1)).filter p) = E) := Hno.out (by rw [HpV.out]; rfl)
            have HR2 : Hid (RW w.heap.size wr (.slice xa EL xc) (.slice ya LL.length yc) (extAll false B ((nums (j + 1)).filter p))) := by show RW _ _ _ _ _; rw [HE.out]; exact HR.out
            clear HR Hno Hyes HpV HE HRL hLL1 HLLd
            go_wp2_with fail
            refine kf.mono ?_
            rintro e w4 ⟨rfl, hw4⟩
            subst hw4
            clear kf
            go_wp2_with fail
            refine kt.mono ?_
            rintro e w5 ⟨rfl, hw5⟩
            subst hw5
            clear kt
            go_wp2
            go_roundg (gk - 1)
            case measure => omega
            case rel => exact ⟨j + 1, m + 1, _, _, by omega, hmk2, hk8, by go_num, rfl, rfl, HR2, hb⟩
        · have hlti : ¬ (m : Int) ≤ 7 := by omega
          obtain rfl : j = 7 := by have := hmj.out; omega
          rw [← HPN.out] at HR
          obtain ⟨xa, xc, hst⟩ := HR.out.1.shape
          obtain ⟨ya, yc, hlv, -, -⟩ := HR.out.2.1.rd.shape
          generalize (phM f t 2).length = BL' at hst
          generalize ((phM f t 2).getLastD []).length = BM' at hlv
          subst hst hlv
          clear HPN HRL
          go_wp2
          go_roundg (GK - 1)
          case measure => have := HGK.out; omega
          case rel => exact ⟨2, _, _, by omega, by go_num, rfl, rfl, HR, hb⟩
    · have HR2 : Hid (RW w.heap.size wE st lv (wayM f t)) := HR
      clear HR hkg HP1 HP2 HPL
      generalize (phM f t 2).length = BL at *
      generalize ((phM f t 2).getLastD []).length = BM at *
      subst hst hlv
      go_wp2
      go_ret2
      exact ⟨_, rfl, HR2.out.1, hb⟩
end Go.Proofs.Ytkglckngiggbhaa

