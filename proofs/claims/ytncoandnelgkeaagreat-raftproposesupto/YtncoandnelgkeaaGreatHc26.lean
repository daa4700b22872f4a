import Derived.Test.YtncoandnelgkeaaGreatHc25
import Derived.Test.YtncoandnelgkeaaGreatHc04
/- The contracts of Safe and of the document's own Next. -/
namespace Go.Proofs.YtncoandnelgkeaaGreat
open Go.RowKit QuorumMath
set_option maxRecDepth 100000
set_option linter.unusedSimpArgs false
set_option linter.unusedVariables false

theorem safe_of (a : List Int) (av : Value) (b : List Int) (bv : Value) (w : World) (hA : Rd intE w av a) (hB : Rd intE w bv b) (hla : a.length ≤ 1000000) (hlb : b.length ≤ 1000000) : Calls Tryz.prog 102 #[av, bv] w fun e w' => e = .returned (.bool (safeB a b)) ∧ w' = w := by
  obtain ⟨B, HB⟩ : ∃ B, Hid (B = safeB a b) := ⟨_, rfl⟩
  rw [← HB.out]
  have ka := check_of a av w hA (by omega)
  have kb := check_of b bv w hB (by omega)
  have km := common_of a av b bv w hA hB (by omega) (by omega)
  have hcl := cnt_le a b
  obtain ⟨aa, ac, rfl, -, -⟩ := hA.shape
  obtain ⟨ba, bc, rfl, -, -⟩ := hB.shape
  clear hA hB
  cases hm : votB a with
  | false =>
    rw [hm] at ka
    have E : Hid (B = false) := by show _ = _; rw [HB.out]; simp [safeB, hm]
    clear HB hm km kb hcl
    go_enter Tryz.func102, Tryz.ntmps102
    go_wp2_with fail
    refine ka.mono ?_
    rintro e w1 ⟨rfl, hw1⟩
    subst hw1
    go_wp2
    go_ret
    exact ⟨by rw [E.out]; rfl, rfl⟩
  | true =>
    rw [hm] at ka
    cases hn : votB b with
    | false =>
      rw [hn] at kb
      have E : Hid (B = false) := by show _ = _; rw [HB.out]; simp [safeB, hn]
      clear HB hm hn km hcl
      go_enter Tryz.func102, Tryz.ntmps102
      go_wp2_with fail
      refine ka.mono ?_
      rintro e w1 ⟨rfl, hw1⟩
      subst hw1
      go_wp2_with fail
      refine kb.mono ?_
      rintro e w2 ⟨rfl, hw2⟩
      subst hw2
      go_wp2
      go_ret
      exact ⟨by rw [E.out]; rfl, rfl⟩
    | true =>
      rw [hn] at kb
      have E : Hid (B = decide ((a.length : Int) + (b.length : Int) - 2 * (cnt a b : Nat) ≤ 1)) := by show _ = _; rw [HB.out]; simp [safeB, hm, hn]
      clear HB hm hn
      generalize cnt a b = c at *
      generalize a.length = n at *
      generalize b.length = m at *
      go_enter Tryz.func102, Tryz.ntmps102
      go_wp2_with fail
      refine ka.mono ?_
      rintro e w1 ⟨rfl, hw1⟩
      subst hw1
      go_wp2_with fail
      refine kb.mono ?_
      rintro e w2 ⟨rfl, hw2⟩
      subst hw2
      go_wp2_with fail
      refine km.mono ?_
      rintro e w3 ⟨rfl, hw3⟩
      subst hw3
      go_wp2
      go_ret
      exact ⟨by rw [E.out]; rfl, rfl⟩

end Go.Proofs.YtncoandnelgkeaaGreat

/- The contract of the document's own Commit. -/
namespace Go.Proofs.YtncoandnelgkeaaGreat
open Go.RowKit QuorumMath
set_option maxRecDepth 100000
set_option linter.unusedSimpArgs false
set_option linter.unusedVariables false

theorem has_take {ms : List Nat} {k x c : Nat} (h : ms[k]? = some x) : has (ms.take (k + 1)) c = has (ms.take k) c + if c ≤ x then 1 else 0 := by
  unfold has
  rw [take_succ_get h, List.countP_append]
  simp
theorem best_at {ms : List Nat} {i m b : Nat} {l : List Nat} (h : l[i]? = some m) : bestFrom ms b (l.drop i) = bestFrom ms (if ms.length < 2 * has ms m ∧ b < m then m else b) (l.drop (i + 1)) := by
  obtain ⟨h1, rfl⟩ := List.getElem?_eq_some_iff.1 h
  rw [List.drop_eq_getElem_cons h1, bestFrom]
/-- What the first loop knows of a voter's peers. -/
def MetT (ps : List Pr) (x : Int) (k N : Nat) (M : Bool) : Prop := (M = true → N = mOf ps x) ∧ (M = false → N = 0 ∧ mOf (ps.drop k) x = mOf ps x)
theorem met_end {ps : List Pr} {x : Int} {N : Nat} {M : Bool} (h : MetT ps x ps.length N M) : N = mOf ps x := by
  cases M with
  | true => exact h.1 rfl
  | false =>
    obtain ⟨h1, h2⟩ := h.2 rfl
    rw [List.drop_length] at h2
    rw [h1, ← h2]
    rfl

set_option maxHeartbeats 8000000 in
theorem rcommit_of (v : List Int) (vv : Value) (ps : List Pr) (pv : Value) (w : World) (hV : Rd intE w vv v) (hP : Rd peerE w pv ps) (hlv : v.length ≤ 1000000000000000) (hlp : ps.length ≤ 1000000) : Calls Tryz.prog 133 #[vv, pv] w fun e w' => e = .returned (.int .u64 (comM v ps : Nat)) ∧ Below w.heap.size w w' := by
  obtain ⟨C, HC⟩ : ∃ C, Hid (C = comM v ps) := ⟨_, rfl⟩
  rw [← HC.out]
  have kc := rvoters_of v vv w hV hlv
  obtain ⟨va, vc, rfl, -, -⟩ := hV.shape
  obtain ⟨pa, pc, rfl, -, -⟩ := hP.shape
  cases hm : votB v with
  | false =>
    rw [hm] at kc
    have E : Hid (C = 0) := by show _ = _; rw [HC.out]; unfold comM; rw [hm]; rfl
    clear HC hm hV hP
    go_enter Tryz.func133, Tryz.ntmps133
    go_wp2_with fail
    refine kc.mono ?_
    rintro e w1 ⟨rfl, hb1⟩
    go_wp2
    go_ret
    exact ⟨by rw [E.out]; rfl, hb1⟩
  | true =>
    rw [hm] at kc
    have hvv := votB_iff.1 hm
    have hl1 := hvv.1
    have hl7 := hvv.2.1
    have HC1 : Hid (C = bestFrom (v.map (mOf ps)) 0 (v.map (mOf ps))) := by show _ = _; rw [HC.out]; unfold comM; rw [hm]; rfl
    clear HC hm hvv
    go_enter Tryz.func133, Tryz.ntmps133
    go_wp2_with fail
    refine kc.mono ?_
    rintro e w1 ⟨rfl, hb1⟩
    clear kc
    obtain ⟨q1, q2, q3⟩ := one_box w1 (.cells #[] 22)
    have hO0 : Ow natE 22 w.heap.size (w1.alloc (.cells #[] 22)) (.slice (some ⟨w1.heap.size, 0, none⟩) 0 0) ((v.take 0).map (mOf ps)) := ⟨Rk.made (xs := []) q2 rfl (by unfold maxLen; simp), fun k hk => by cases hk; exact hb1.size⟩
    have hb0 := hb1.trans (q3.mono hb1.size)
    clear q1 q2 q3
    go_wp2
    generalize w1.alloc (.cells #[] 22) = w3 at *
    go_loopg [5, 6] v.length (fun gh s5 s6 wr => ∃ (i : Nat) (st : Value), i + gh = v.length ∧ s6 = .int .i64 (i : Int) ∧ st = s5 ∧ Ow natE 22 w.heap.size wr st ((v.take i).map (mOf ps)) ∧ Below w.heap.size w wr)
    case atStart => exact ⟨0, _, by simp, rfl, rfl, hO0, hb0⟩
    case round =>
      obtain ⟨i, st, hig, rfl, rfl, hO, hb⟩ := hrel
      clear hO0 hb0
      by_cases hlt : i < v.length
      · have hlti : (i : Int) < (v.length : Int) := by omega
        have hx : v[i]? = some v[i] := List.getElem?_eq_getElem hlt
        obtain ⟨x, hxx⟩ : ∃ x, x = v[i] := ⟨_, rfl⟩
        rw [← hxx] at hx
        clear hxx
        obtain ⟨b, off, rfl, c⟩ := rdi_at hV hx
        have HS : Hid ((v.take (i + 1)).map (mOf ps) = (v.take i).map (mOf ps) ++ [mOf ps x]) := by show _ = _; rw [take_succ_get hx, List.map_append]; rfl
        have hml : ((v.take i).map (mOf ps)).length ≤ 1000 := by rw [List.length_map, List.length_take]; omega
        obtain ⟨GK, hGK⟩ : ∃ GK, GK = gk := ⟨_, rfl⟩
        have hig' : i + GK = v.length := by omega
        have HGK : Hid (GK = gk) := hGK
        obtain ⟨w9, hw9⟩ : ∃ w9, w9 = wr := ⟨_, rfl⟩
        subst hw9
        obtain ⟨sa, sc, hst, -⟩ := hO.1.shape
        generalize (v.take i).map (mOf ps) = L at *
        subst hst
        clear hGK hx
        go_wp2
        go_loopg [7, 8, 9] ps.length (fun gh s7 s8 s9 wr => ∃ (k Nn : Nat) (M : Bool), k + gh = ps.length ∧ s9 = .int .i64 (k : Int) ∧ s7 = .int .u64 (Nn : Int) ∧ s8 = .bool M ∧ Below w9.heap.size w9 wr ∧ Hid (MetT ps x k Nn M))
        case atStart => exact ⟨0, 0, false, by simp, rfl, rfl, rfl, Below.refl _ _, ⟨(fun h => by cases h), fun _ => ⟨rfl, by rw [List.drop_zero]⟩⟩⟩
        case round =>
          obtain ⟨k, Nn, M, hkg, rfl, rfl, rfl, hb2, HM⟩ := hrel
          have hbw := hb.trans (hb2.mono hb.size)
          have hbd := hb2.drew
          by_cases hlk : k < ps.length
          · have hlki : (k : Int) < (ps.length : Int) := by omega
            have hp : ps[k]? = some ps[k] := List.getElem?_eq_getElem hlk
            obtain ⟨p, hpp⟩ : ∃ p, p = ps[k] := ⟨_, rfl⟩
            rw [← hpp] at hp
            clear hpp
            obtain ⟨pb, po, rfl, cc⟩ := rdp_at hP hp
            have hmo := mOf_at hp x
            obtain ⟨p1, p2, p3⟩ := p
            dsimp only at cc hmo
            have cl : ∀ W, Below wr.heap.size wr W → W.cell? ⟨b, off + i, none⟩ = some (.int .i64 x) := fun W hW => c W (hbw.trans (hW.mono hbw.size))
            have cp : ∀ W, Below wr.heap.size wr W → W.cell? ⟨pb, po + k * 3, none⟩ = some (.int .i64 p1) := fun W hW => (cc W (hbw.trans (hW.mono hbw.size))).1
            have c2 : wr.drew.cell? ⟨pb, po + k * 3 + 2, none⟩ = some (.int .u64 (p3 : Int)) := (cc wr.drew hbw.drew).2.2
            clear cc hp c
            go_wp2
            by_cases hpx : p1 = x
            · have hq : (p1 == x) = true := by simpa using hpx
              cases M with
              | false =>
                have HM2 : Hid (MetT ps x (k + 1) p3 true) := by
                  refine ⟨fun _ => ?_, (fun h => by cases h)⟩
                  rw [← (HM.out.2 rfl).2, hmo, if_pos hpx]
                clear HM hmo hpx HC1 hV hP HS hO
                have yS : (fun W => (W.cell? ⟨b, off + i, none⟩ = some (.int .i64 x) ∧ W.cell? ⟨pb, po + k * 3, none⟩ = some (.int .i64 p1)) ∧ Below wr.heap.size wr W) wr.drew := ⟨⟨cl _ (Below.refl _ wr).drew, cp _ (Below.refl _ wr).drew⟩, (Below.refl _ wr).drew⟩
                refine wp_region_L (fun W => (W.cell? ⟨b, off + i, none⟩ = some (.int .i64 x) ∧ W.cell? ⟨pb, po + k * 3, none⟩ = some (.int .i64 p1)) ∧ Below wr.heap.size wr W) [] (by kernel_rfl) ?_
                refine wpAnyL_take 0 rfl (by kernel_rfl) (by kernel_rfl) (by kernel_rfl) (by kernel_rfl) (fun _ _ _ h => h) (by kernel_rfl) (by intro w' hS'; obtain ⟨⟨z0, z2⟩, z1⟩ := hS'; go_simp <;> rfl) yS ?_
                try simp only [List.getElem_toArray, List.getElem_cons_succ, List.getElem_cons_zero, Act.put, List.setIfInBounds_toArray, List.set_cons_zero, List.set_cons_succ]
                refine wpAnyL_take 1 rfl (by kernel_rfl) (by kernel_rfl) (by kernel_rfl) (by kernel_rfl) (fun _ _ _ h => h) (by kernel_rfl) (by intro w' hS'; obtain ⟨⟨z0, z2⟩, z1⟩ := hS'; go_simp <;> rfl) yS ?_
                try simp only [List.getElem_toArray, List.getElem_cons_succ, List.getElem_cons_zero, Act.put, List.setIfInBounds_toArray, List.set_cons_zero, List.set_cons_succ]
                refine wpAnyL_take 2 rfl (by kernel_rfl) (by kernel_rfl) (by kernel_rfl) (by kernel_rfl) (fun _ _ _ h => h) (by kernel_rfl) (by intro w' hS'; obtain ⟨⟨z0, z2⟩, z1⟩ := hS'; go_simp <;> rfl) yS ?_
                try simp only [List.getElem_toArray, List.getElem_cons_succ, List.getElem_cons_zero, Act.put, List.setIfInBounds_toArray, List.set_cons_zero, List.set_cons_succ]
                refine wpAnyL_take 3 rfl (by kernel_rfl) (by kernel_rfl) (by kernel_rfl) (by kernel_rfl) (fun _ _ _ h => h) (by kernel_rfl) (by intro w' hS'; obtain ⟨⟨z0, z2⟩, z1⟩ := hS'; go_simp <;> rfl) yS ?_
                try simp only [List.getElem_toArray, List.getElem_cons_succ, List.getElem_cons_zero, Act.put, List.setIfInBounds_toArray, List.set_cons_zero, List.set_cons_succ]
                refine wpAnyL_take 4 rfl (by kernel_rfl) (by kernel_rfl) (by kernel_rfl) (by kernel_rfl) (fun _ _ _ h => h) (by kernel_rfl) (by intro w' hS'; obtain ⟨⟨z0, z2⟩, z1⟩ := hS'; go_simp <;> rfl) yS ?_
                try simp only [List.getElem_toArray, List.getElem_cons_succ, List.getElem_cons_zero, Act.put, List.setIfInBounds_toArray, List.set_cons_zero, List.set_cons_succ]
                refine wpAnyL_take 5 rfl (by kernel_rfl) (by kernel_rfl) (by kernel_rfl) (by kernel_rfl) (fun _ _ _ h => h) (by kernel_rfl) (by intro w' hS'; obtain ⟨⟨z0, z2⟩, z1⟩ := hS'; go_simp <;> rfl) yS ?_
                try simp only [List.getElem_toArray, List.getElem_cons_succ, List.getElem_cons_zero, Act.put, List.setIfInBounds_toArray, List.set_cons_zero, List.set_cons_succ]
                refine wpAnyL_take 6 rfl (by kernel_rfl) (by kernel_rfl) (by kernel_rfl) (by kernel_rfl) (fun _ _ _ h => h) (by kernel_rfl) (by intro w' hS'; obtain ⟨⟨z0, z2⟩, z1⟩ := hS'; go_simp <;> rfl) yS ?_
                try simp only [List.getElem_toArray, List.getElem_cons_succ, List.getElem_cons_zero, Act.put, List.setIfInBounds_toArray, List.set_cons_zero, List.set_cons_succ]
                refine wpAnyL_take 7 rfl (by kernel_rfl) (by kernel_rfl) (by kernel_rfl) (by kernel_rfl) (fun _ _ _ h => h) (by kernel_rfl) (by intro w' hS'; obtain ⟨⟨z0, z2⟩, z1⟩ := hS'; go_simp <;> rfl) yS ?_
                try simp only [List.getElem_toArray, List.getElem_cons_succ, List.getElem_cons_zero, Act.put, List.setIfInBounds_toArray, List.set_cons_zero, List.set_cons_succ]
                refine wpAnyL_take 8 rfl (by kernel_rfl) (by kernel_rfl) (by kernel_rfl) (by kernel_rfl) (fun _ _ _ h => h) (by kernel_rfl) (by intro w' hS'; obtain ⟨⟨z0, z2⟩, z1⟩ := hS'; go_simp <;> rfl) yS ?_
                try simp only [List.getElem_toArray, List.getElem_cons_succ, List.getElem_cons_zero, Act.put, List.setIfInBounds_toArray, List.set_cons_zero, List.set_cons_succ]
                refine wpAnyL_take 9 rfl (by kernel_rfl) (by kernel_rfl) (by kernel_rfl) (by kernel_rfl) (fun _ _ _ h => h) (by kernel_rfl) (by intro w' hS'; obtain ⟨⟨z0, z2⟩, z1⟩ := hS'; go_simp <;> rfl) yS ?_
                try simp only [List.getElem_toArray, List.getElem_cons_succ, List.getElem_cons_zero, Act.put, List.setIfInBounds_toArray, List.set_cons_zero, List.set_cons_succ]
                refine wpAnyL_take 10 rfl (by kernel_rfl) (by kernel_rfl) (by kernel_rfl) (by kernel_rfl) (fun _ _ _ h => h) (by kernel_rfl) (by intro w' hS'; obtain ⟨⟨z0, z2⟩, z1⟩ := hS'; go_simp <;> rfl) yS ?_
                try simp only [List.getElem_toArray, List.getElem_cons_succ, List.getElem_cons_zero, Act.put, List.setIfInBounds_toArray, List.set_cons_zero, List.set_cons_succ]
                refine wpAnyL_take 11 rfl (by kernel_rfl) (by kernel_rfl) (by kernel_rfl) (by kernel_rfl) (fun _ _ _ h => h) (by kernel_rfl) (by intro w' hS'; obtain ⟨⟨z0, z2⟩, z1⟩ := hS'; go_simp <;> rfl) yS ?_
                try simp only [List.getElem_toArray, List.getElem_cons_succ, List.getElem_cons_zero, Act.put, List.setIfInBounds_toArray, List.set_cons_zero, List.set_cons_succ]
                refine wpAnyL_take 12 rfl (by kernel_rfl) (by kernel_rfl) (by kernel_rfl) (by kernel_rfl) (fun _ _ _ h => h) (by kernel_rfl) (by intro w' hS'; obtain ⟨⟨z0, z2⟩, z1⟩ := hS'; go_simp <;> rfl) yS ?_
                try simp only [List.getElem_toArray, List.getElem_cons_succ, List.getElem_cons_zero, Act.put, List.setIfInBounds_toArray, List.set_cons_zero, List.set_cons_succ]
                refine wpAnyL_take 13 rfl (by kernel_rfl) (by kernel_rfl) (by kernel_rfl) (by kernel_rfl) (fun _ _ _ h => h) (by kernel_rfl) (by intro w' hS'; obtain ⟨⟨z0, z2⟩, z1⟩ := hS'; go_simp <;> rfl) yS ?_
                try simp only [List.getElem_toArray, List.getElem_cons_succ, List.getElem_cons_zero, Act.put, List.setIfInBounds_toArray, List.set_cons_zero, List.set_cons_succ]
                refine wpAnyL_done (by kernel_rfl) (NoPanic.normal ?_) _
                go_wp2
                go_roundg (gk - 1)
                case measure => omega
                case rel => exact ⟨k + 1, p3, true, by omega, by go_num, rfl, rfl, hbd, HM2⟩
              | true =>
                have HM2 : Hid (MetT ps x (k + 1) Nn true) := ⟨fun _ => HM.out.1 rfl, (fun h => by cases h)⟩
                clear HM hmo hpx HC1 hV hP HS hO c2
                have yS : (fun W => (W.cell? ⟨b, off + i, none⟩ = some (.int .i64 x) ∧ W.cell? ⟨pb, po + k * 3, none⟩ = some (.int .i64 p1)) ∧ Below wr.heap.size wr W) wr.drew := ⟨⟨cl _ (Below.refl _ wr).drew, cp _ (Below.refl _ wr).drew⟩, (Below.refl _ wr).drew⟩
                refine wp_region_L (fun W => (W.cell? ⟨b, off + i, none⟩ = some (.int .i64 x) ∧ W.cell? ⟨pb, po + k * 3, none⟩ = some (.int .i64 p1)) ∧ Below wr.heap.size wr W) [] (by kernel_rfl) ?_
                refine wpAnyL_take 0 rfl (by kernel_rfl) (by kernel_rfl) (by kernel_rfl) (by kernel_rfl) (fun _ _ _ h => h) (by kernel_rfl) (by intro w' hS'; obtain ⟨⟨z0, z2⟩, z1⟩ := hS'; go_simp <;> rfl) yS ?_
                try simp only [List.getElem_toArray, List.getElem_cons_succ, List.getElem_cons_zero, Act.put, List.setIfInBounds_toArray, List.set_cons_zero, List.set_cons_succ]
                refine wpAnyL_take 1 rfl (by kernel_rfl) (by kernel_rfl) (by kernel_rfl) (by kernel_rfl) (fun _ _ _ h => h) (by kernel_rfl) (by intro w' hS'; obtain ⟨⟨z0, z2⟩, z1⟩ := hS'; go_simp <;> rfl) yS ?_
                try simp only [List.getElem_toArray, List.getElem_cons_succ, List.getElem_cons_zero, Act.put, List.setIfInBounds_toArray, List.set_cons_zero, List.set_cons_succ]
                refine wpAnyL_take 2 rfl (by kernel_rfl) (by kernel_rfl) (by kernel_rfl) (by kernel_rfl) (fun _ _ _ h => h) (by kernel_rfl) (by intro w' hS'; obtain ⟨⟨z0, z2⟩, z1⟩ := hS'; go_simp <;> rfl) yS ?_
                try simp only [List.getElem_toArray, List.getElem_cons_succ, List.getElem_cons_zero, Act.put, List.setIfInBounds_toArray, List.set_cons_zero, List.set_cons_succ]
                refine wpAnyL_take 3 rfl (by kernel_rfl) (by kernel_rfl) (by kernel_rfl) (by kernel_rfl) (fun _ _ _ h => h) (by kernel_rfl) (by intro w' hS'; obtain ⟨⟨z0, z2⟩, z1⟩ := hS'; go_simp <;> rfl) yS ?_
                try simp only [List.getElem_toArray, List.getElem_cons_succ, List.getElem_cons_zero, Act.put, List.setIfInBounds_toArray, List.set_cons_zero, List.set_cons_succ]
                refine wpAnyL_take 4 rfl (by kernel_rfl) (by kernel_rfl) (by kernel_rfl) (by kernel_rfl) (fun _ _ _ h => h) (by kernel_rfl) (by intro w' hS'; obtain ⟨⟨z0, z2⟩, z1⟩ := hS'; go_simp <;> rfl) yS ?_
                try simp only [List.getElem_toArray, List.getElem_cons_succ, List.getElem_cons_zero, Act.put, List.setIfInBounds_toArray, List.set_cons_zero, List.set_cons_succ]
                refine wpAnyL_take 5 rfl (by kernel_rfl) (by kernel_rfl) (by kernel_rfl) (by kernel_rfl) (fun _ _ _ h => h) (by kernel_rfl) (by intro w' hS'; obtain ⟨⟨z0, z2⟩, z1⟩ := hS'; go_simp <;> rfl) yS ?_
                try simp only [List.getElem_toArray, List.getElem_cons_succ, List.getElem_cons_zero, Act.put, List.setIfInBounds_toArray, List.set_cons_zero, List.set_cons_succ]
                refine wpAnyL_take 6 rfl (by kernel_rfl) (by kernel_rfl) (by kernel_rfl) (by kernel_rfl) (fun _ _ _ h => h) (by kernel_rfl) (by intro w' hS'; obtain ⟨⟨z0, z2⟩, z1⟩ := hS'; go_simp <;> rfl) yS ?_
                try simp only [List.getElem_toArray, List.getElem_cons_succ, List.getElem_cons_zero, Act.put, List.setIfInBounds_toArray, List.set_cons_zero, List.set_cons_succ]
                refine wpAnyL_take 7 rfl (by kernel_rfl) (by kernel_rfl) (by kernel_rfl) (by kernel_rfl) (fun _ _ _ h => h) (by kernel_rfl) (by intro w' hS'; obtain ⟨⟨z0, z2⟩, z1⟩ := hS'; go_simp <;> rfl) yS ?_
                try simp only [List.getElem_toArray, List.getElem_cons_succ, List.getElem_cons_zero, Act.put, List.setIfInBounds_toArray, List.set_cons_zero, List.set_cons_succ]
                refine wpAnyL_take 8 rfl (by kernel_rfl) (by kernel_rfl) (by kernel_rfl) (by kernel_rfl) (fun _ _ _ h => h) (by kernel_rfl) (by intro w' hS'; obtain ⟨⟨z0, z2⟩, z1⟩ := hS'; go_simp <;> rfl) yS ?_
                try simp only [List.getElem_toArray, List.getElem_cons_succ, List.getElem_cons_zero, Act.put, List.setIfInBounds_toArray, List.set_cons_zero, List.set_cons_succ]
                refine wpAnyL_take 9 rfl (by kernel_rfl) (by kernel_rfl) (by kernel_rfl) (by kernel_rfl) (fun _ _ _ h => h) (by kernel_rfl) (by intro w' hS'; obtain ⟨⟨z0, z2⟩, z1⟩ := hS'; go_simp <;> rfl) yS ?_
                try simp only [List.getElem_toArray, List.getElem_cons_succ, List.getElem_cons_zero, Act.put, List.setIfInBounds_toArray, List.set_cons_zero, List.set_cons_succ]
                refine wpAnyL_take 10 rfl (by kernel_rfl) (by kernel_rfl) (by kernel_rfl) (by kernel_rfl) (fun _ _ _ h => h) (by kernel_rfl) (by intro w' hS'; obtain ⟨⟨z0, z2⟩, z1⟩ := hS'; go_simp <;> rfl) yS ?_
                try simp only [List.getElem_toArray, List.getElem_cons_succ, List.getElem_cons_zero, Act.put, List.setIfInBounds_toArray, List.set_cons_zero, List.set_cons_succ]
                refine wpAnyL_take 11 rfl (by kernel_rfl) (by kernel_rfl) (by kernel_rfl) (by kernel_rfl) (fun _ _ _ h => h) (by kernel_rfl) (by intro w' hS'; obtain ⟨⟨z0, z2⟩, z1⟩ := hS'; go_simp <;> rfl) yS ?_
                try simp only [List.getElem_toArray, List.getElem_cons_succ, List.getElem_cons_zero, Act.put, List.setIfInBounds_toArray, List.set_cons_zero, List.set_cons_succ]
                refine wpAnyL_take 12 rfl (by kernel_rfl) (by kernel_rfl) (by kernel_rfl) (by kernel_rfl) (fun _ _ _ h => h) (by kernel_rfl) (by intro w' hS'; obtain ⟨⟨z0, z2⟩, z1⟩ := hS'; go_simp <;> rfl) yS ?_
                try simp only [List.getElem_toArray, List.getElem_cons_succ, List.getElem_cons_zero, Act.put, List.setIfInBounds_toArray, List.set_cons_zero, List.set_cons_succ]
                refine wpAnyL_take 13 rfl (by kernel_rfl) (by kernel_rfl) (by kernel_rfl) (by kernel_rfl) (fun _ _ _ h => h) (by kernel_rfl) (by intro w' hS'; obtain ⟨⟨z0, z2⟩, z1⟩ := hS'; go_simp <;> rfl) yS ?_
                try simp only [List.getElem_toArray, List.getElem_cons_succ, List.getElem_cons_zero, Act.put, List.setIfInBounds_toArray, List.set_cons_zero, List.set_cons_succ]
                refine wpAnyL_done (by kernel_rfl) (NoPanic.normal ?_) _
                go_wp2
                go_roundg (gk - 1)
                case measure => omega
                case rel => exact ⟨k + 1, Nn, true, by omega, by go_num, rfl, rfl, hbd, HM2⟩
            · have hq : (p1 == x) = false := by simpa using hpx
              have HM2 : Hid (MetT ps x (k + 1) Nn M) := ⟨HM.out.1, fun h => ⟨(HM.out.2 h).1, by rw [← (HM.out.2 h).2, hmo, if_neg hpx]⟩⟩
              clear HM hmo hpx HC1 hV hP HS hO c2
              have yS : (fun W => (W.cell? ⟨b, off + i, none⟩ = some (.int .i64 x) ∧ W.cell? ⟨pb, po + k * 3, none⟩ = some (.int .i64 p1)) ∧ Below wr.heap.size wr W) wr.drew := ⟨⟨cl _ (Below.refl _ wr).drew, cp _ (Below.refl _ wr).drew⟩, (Below.refl _ wr).drew⟩
              refine wp_region_L (fun W => (W.cell? ⟨b, off + i, none⟩ = some (.int .i64 x) ∧ W.cell? ⟨pb, po + k * 3, none⟩ = some (.int .i64 p1)) ∧ Below wr.heap.size wr W) [] (by kernel_rfl) ?_
              refine wpAnyL_take 0 rfl (by kernel_rfl) (by kernel_rfl) (by kernel_rfl) (by kernel_rfl) (fun _ _ _ h => h) (by kernel_rfl) (by intro w' hS'; obtain ⟨⟨z0, z2⟩, z1⟩ := hS'; go_simp <;> rfl) yS ?_
              try simp only [List.getElem_toArray, List.getElem_cons_succ, List.getElem_cons_zero, Act.put, List.setIfInBounds_toArray, List.set_cons_zero, List.set_cons_succ]
              refine wpAnyL_take 1 rfl (by kernel_rfl) (by kernel_rfl) (by kernel_rfl) (by kernel_rfl) (fun _ _ _ h => h) (by kernel_rfl) (by intro w' hS'; obtain ⟨⟨z0, z2⟩, z1⟩ := hS'; go_simp <;> rfl) yS ?_
              try simp only [List.getElem_toArray, List.getElem_cons_succ, List.getElem_cons_zero, Act.put, List.setIfInBounds_toArray, List.set_cons_zero, List.set_cons_succ]
              refine wpAnyL_take 2 rfl (by kernel_rfl) (by kernel_rfl) (by kernel_rfl) (by kernel_rfl) (fun _ _ _ h => h) (by kernel_rfl) (by intro w' hS'; obtain ⟨⟨z0, z2⟩, z1⟩ := hS'; go_simp <;> rfl) yS ?_
              try simp only [List.getElem_toArray, List.getElem_cons_succ, List.getElem_cons_zero, Act.put, List.setIfInBounds_toArray, List.set_cons_zero, List.set_cons_succ]
              refine wpAnyL_take 3 rfl (by kernel_rfl) (by kernel_rfl) (by kernel_rfl) (by kernel_rfl) (fun _ _ _ h => h) (by kernel_rfl) (by intro w' hS'; obtain ⟨⟨z0, z2⟩, z1⟩ := hS'; go_simp <;> rfl) yS ?_
              try simp only [List.getElem_toArray, List.getElem_cons_succ, List.getElem_cons_zero, Act.put, List.setIfInBounds_toArray, List.set_cons_zero, List.set_cons_succ]
              refine wpAnyL_take 4 rfl (by kernel_rfl) (by kernel_rfl) (by kernel_rfl) (by kernel_rfl) (fun _ _ _ h => h) (by kernel_rfl) (by intro w' hS'; obtain ⟨⟨z0, z2⟩, z1⟩ := hS'; go_simp <;> rfl) yS ?_
              try simp only [List.getElem_toArray, List.getElem_cons_succ, List.getElem_cons_zero, Act.put, List.setIfInBounds_toArray, List.set_cons_zero, List.set_cons_succ]
              refine wpAnyL_take 5 rfl (by kernel_rfl) (by kernel_rfl) (by kernel_rfl) (by kernel_rfl) (fun _ _ _ h => h) (by kernel_rfl) (by intro w' hS'; obtain ⟨⟨z0, z2⟩, z1⟩ := hS'; go_simp <;> rfl) yS ?_
              try simp only [List.getElem_toArray, List.getElem_cons_succ, List.getElem_cons_zero, Act.put, List.setIfInBounds_toArray, List.set_cons_zero, List.set_cons_succ]
              refine wpAnyL_take 6 rfl (by kernel_rfl) (by kernel_rfl) (by kernel_rfl) (by kernel_rfl) (fun _ _ _ h => h) (by kernel_rfl) (by intro w' hS'; obtain ⟨⟨z0, z2⟩, z1⟩ := hS'; go_simp <;> rfl) yS ?_
              try simp only [List.getElem_toArray, List.getElem_cons_succ, List.getElem_cons_zero, Act.put, List.setIfInBounds_toArray, List.set_cons_zero, List.set_cons_succ]
              refine wpAnyL_take 7 rfl (by kernel_rfl) (by kernel_rfl) (by kernel_rfl) (by kernel_rfl) (fun _ _ _ h => h) (by kernel_rfl) (by intro w' hS'; obtain ⟨⟨z0, z2⟩, z1⟩ := hS'; go_simp <;> rfl) yS ?_
              try simp only [List.getElem_toArray, List.getElem_cons_succ, List.getElem_cons_zero, Act.put, List.setIfInBounds_toArray, List.set_cons_zero, List.set_cons_succ]
              refine wpAnyL_take 8 rfl (by kernel_rfl) (by kernel_rfl) (by kernel_rfl) (by kernel_rfl) (fun _ _ _ h => h) (by kernel_rfl) (by intro w' hS'; obtain ⟨⟨z0, z2⟩, z1⟩ := hS'; go_simp <;> rfl) yS ?_
              try simp only [List.getElem_toArray, List.getElem_cons_succ, List.getElem_cons_zero, Act.put, List.setIfInBounds_toArray, List.set_cons_zero, List.set_cons_succ]
              refine wpAnyL_take 9 rfl (by kernel_rfl) (by kernel_rfl) (by kernel_rfl) (by kernel_rfl) (fun _ _ _ h => h) (by kernel_rfl) (by intro w' hS'; obtain ⟨⟨z0, z2⟩, z1⟩ := hS'; go_simp <;> rfl) yS ?_
              try simp only [List.getElem_toArray, List.getElem_cons_succ, List.getElem_cons_zero, Act.put, List.setIfInBounds_toArray, List.set_cons_zero, List.set_cons_succ]
              refine wpAnyL_take 10 rfl (by kernel_rfl) (by kernel_rfl) (by kernel_rfl) (by kernel_rfl) (fun _ _ _ h => h) (by kernel_rfl) (by intro w' hS'; obtain ⟨⟨z0, z2⟩, z1⟩ := hS'; go_simp <;> rfl) yS ?_
              try simp only [List.getElem_toArray, List.getElem_cons_succ, List.getElem_cons_zero, Act.put, List.setIfInBounds_toArray, List.set_cons_zero, List.set_cons_succ]
              refine wpAnyL_skip 11 rfl (by kernel_rfl) (by kernel_rfl) (by kernel_rfl) (by kernel_rfl) (fun _ _ _ h => h) (by kernel_rfl) yS ?_
              try simp only [List.getElem_toArray, List.getElem_cons_succ, List.getElem_cons_zero, Act.put, List.setIfInBounds_toArray, List.set_cons_zero, List.set_cons_succ]
              refine wpAnyL_skip 12 rfl (by kernel_rfl) (by kernel_rfl) (by kernel_rfl) (by kernel_rfl) (fun _ _ _ h => h) (by kernel_rfl) yS ?_
              try simp only [List.getElem_toArray, List.getElem_cons_succ, List.getElem_cons_zero, Act.put, List.setIfInBounds_toArray, List.set_cons_zero, List.set_cons_succ]
              refine wpAnyL_take 13 rfl (by kernel_rfl) (by kernel_rfl) (by kernel_rfl) (by kernel_rfl) (fun _ _ _ h => h) (by kernel_rfl) (by intro w' hS'; obtain ⟨⟨z0, z2⟩, z1⟩ := hS'; go_simp <;> rfl) yS ?_
              try simp only [List.getElem_toArray, List.getElem_cons_succ, List.getElem_cons_zero, Act.put, List.setIfInBounds_toArray, List.set_cons_zero, List.set_cons_succ]
              refine wpAnyL_done (by kernel_rfl) (NoPanic.normal ?_) _
              go_wp2
              go_roundg (gk - 1)
              case measure => omega
              case rel => exact ⟨k + 1, Nn, M, by omega, by go_num, rfl, rfl, hbd, HM2⟩
          · have hlki : ¬ (k : Int) < (ps.length : Int) := by omega
            obtain rfl : ps.length = k := by omega
            have HE : Hid (Nn = mOf ps x) := met_end HM.out
            rw [← HE.out] at HS
            have hO2 := hO.below hb2
            have hrunH : Hid _ := push_nat Nn hO2.1 (by omega)
            clear HM HE HC1 hV hP hO c hbd
            go_wp2_with (at_builtin; refine wp_by rfl _ _ _ rfl _ _ rfl rfl hrunH.out ?_)
            intro v6 w6 hp6
            obtain ⟨hO3, hb3⟩ := hO2.push hbw.size hp6
            rw [← HS.out] at hO3
            clear hO2 hrunH hp6 HS
            go_wp2
            go_roundg (GK - 1)
            case measure => have := HGK.out; omega
            case rel => exact ⟨i + 1, v6, by omega, by go_num, rfl, hO3, hbw.trans hb3⟩
      · have hlti : ¬ (i : Int) < (v.length : Int) := by omega
        obtain rfl : v.length = i := by omega
        rw [List.take_length] at hO
        obtain ⟨ms, hms⟩ : ∃ ms, ms = v.map (mOf ps) := ⟨_, rfl⟩
        have hmsl : ms.length = v.length := by rw [hms, List.length_map]
        rw [← hms] at HC1 hO
        have hlen7 : ms.length ≤ 7 := by omega
        have hR := hO.1.rd
        obtain ⟨sa, sc, hst, -⟩ := hO.1.shape
        subst hst
        clear hms hO hV hP
        obtain ⟨n, hn⟩ : ∃ n, n = ms.length := ⟨_, rfl⟩
        have HN : Hid (n = ms.length) := hn
        have hn7 : n ≤ 7 := by omega
        rw [← hn] at hR ⊢
        clear hn hmsl hlen7
        obtain ⟨w8, hw8⟩ : ∃ w8, w8 = wr := ⟨_, rfl⟩
        subst hw8
        go_wp2
        go_loopg [10, 11] n (fun gh s10 s11 wr => ∃ (j B : Nat), j + gh = n ∧ s11 = .int .i64 (j : Int) ∧ s10 = .int .u64 (B : Int) ∧ Below w8.heap.size w8 wr ∧ Hid (C = bestFrom ms B (ms.drop j)))
        case atStart => exact ⟨0, 0, by simp, rfl, rfl, Below.refl _ _, by rw [List.drop_zero]; exact HC1⟩
        case round =>
          obtain ⟨j, B, hjg, rfl, rfl, hb3, HB⟩ := hrel
          clear HC1
          by_cases hlj : j < n
          · have hlji : (j : Int) < (n : Int) := by omega
            have hx : ms[j]? = some ms[j] := List.getElem?_eq_getElem (by have := HN.out; omega)
            obtain ⟨x, hxx⟩ : ∃ x, x = ms[j]'(by have := HN.out; omega) := ⟨_, rfl⟩
            rw [← hxx] at hx
            clear hxx
            obtain ⟨b, off, rfl, cx⟩ := rdn_at hR hx
            have HBA : Hid (C = bestFrom ms (if ms.length < 2 * has ms x ∧ B < x then x else B) (ms.drop (j + 1))) := by show _ = _; rw [HB.out, best_at hx]
            obtain ⟨GJ, hGJ⟩ : ∃ GJ, GJ = gk := ⟨_, rfl⟩
            have hjg' : j + GJ = n := by omega
            have HGJ : Hid (GJ = gk) := hGJ
            obtain ⟨w7, hw7⟩ : ∃ w7, w7 = wr := ⟨_, rfl⟩
            subst hw7
            clear hGJ hx HB
            go_wp2
            go_loopg [12, 13] n (fun gh s12 s13 wr => ∃ (k c : Nat), k + gh = n ∧ s13 = .int .i64 (k : Int) ∧ s12 = .int .i64 (c : Int) ∧ c ≤ k ∧ Below w8.heap.size w8 wr ∧ Hid (c = has (ms.take k) x))
            case atStart => exact ⟨0, 0, by simp, rfl, rfl, Nat.le_refl _, hb3, by rw [List.take_zero]; rfl⟩
            case round =>
              obtain ⟨k, c, hkg, rfl, rfl, hck, hb4, HC⟩ := hrel
              by_cases hlk : k < n
              · have hlki : (k : Int) < (n : Int) := by omega
                have hy : ms[k]? = some ms[k] := List.getElem?_eq_getElem (by have := HN.out; omega)
                obtain ⟨y, hyy⟩ : ∃ y, y = ms[k]'(by have := HN.out; omega) := ⟨_, rfl⟩
                rw [← hyy] at hy
                clear hyy
                obtain ⟨b', off', e', cy⟩ := rdn_at hR hy
                cases e'
                have c0 := cx wr hb4
                have c1 := cy wr hb4
                have hht := has_take (c := x) hy
                by_cases hxy : x ≤ y
                · have hxyi : (x : Int) ≤ (y : Int) := by omega
                  have HC2 : Hid (c + 1 = has (ms.take (k + 1)) x) := by show _ = _; rw [hht, if_pos hxy, HC.out]
                  clear HC hht hy cx cy hR HBA HN
                  go_wp2
                  go_quiet (fail)
                  go_wp2
                  go_roundg (gk - 1)
                  case measure => omega
                  case rel => exact ⟨k + 1, c + 1, by omega, by go_num, by go_num, by omega, below_dN hb4 nq, HC2⟩
                · have hxyi : ¬ (x : Int) ≤ (y : Int) := by omega
                  have HC2 : Hid (c = has (ms.take (k + 1)) x) := by show _ = _; rw [hht, if_neg hxy, HC.out]; rfl
                  clear HC hht hy cx cy hR HBA HN
                  go_wp2
                  go_quiet (fail)
                  go_wp2
                  go_roundg (gk - 1)
                  case measure => omega
                  case rel => exact ⟨k + 1, c, by omega, by go_num, rfl, by omega, below_dN hb4 nq, HC2⟩
              · have hlki : ¬ (k : Int) < (n : Int) := by omega
                obtain rfl : n = k := by omega
                have HCm : Hid (c = has ms x) := by show _ = _; rw [HC.out, List.take_of_length_le (by have := HN.out; omega)]
                have c0 := cx wr hb4
                by_cases h2c : n < 2 * c
                · have h2ci : (n : Int) < 2 * (c : Int) := by omega
                  by_cases hBx : B < x
                  · have hBxi : (B : Int) < (x : Int) := by omega
                    have HB2 : Hid (C = bestFrom ms x (ms.drop (j + 1))) := by show _ = _; rw [HBA.out, if_pos (by rw [← HCm.out, ← HN.out]; exact ⟨h2c, hBx⟩)]
                    clear HC HCm HBA cx hR HN
                    go_wp2
                    go_roundg (GJ - 1)
                    case measure => have := HGJ.out; omega
                    case rel => exact ⟨j + 1, x, by omega, by go_num, rfl, hb4, HB2⟩
                  · have hBxi : ¬ (B : Int) < (x : Int) := by omega
                    have HB2 : Hid (C = bestFrom ms B (ms.drop (j + 1))) := by show _ = _; rw [HBA.out, if_neg (fun h => hBx h.2)]
                    clear HC HCm HBA cx hR HN
                    go_wp2
                    go_roundg (GJ - 1)
                    case measure => have := HGJ.out; omega
                    case rel => exact ⟨j + 1, B, by omega, by go_num, rfl, hb4, HB2⟩
                · have h2ci : ¬ (n : Int) < 2 * (c : Int) := by omega
                  have HB2 : Hid (C = bestFrom ms B (ms.drop (j + 1))) := by show _ = _; rw [HBA.out, if_neg (fun h => h2c (by have := h.1; rw [← HCm.out, ← HN.out] at this; exact this))]
                  clear HC HCm HBA cx hR HN
                  go_wp2
                  go_roundg (GJ - 1)
                  case measure => have := HGJ.out; omega
                  case rel => exact ⟨j + 1, B, by omega, by go_num, rfl, hb4, HB2⟩
          · have hlji : ¬ (j : Int) < (n : Int) := by omega
            have E : Hid (C = B) := by show _ = _; rw [HB.out, List.drop_eq_nil_of_le (by have := HN.out; omega)]; rfl
            clear HB hR HN
            go_wp2
            go_ret
            exact ⟨by rw [E.out]; rfl, hb.trans (hb3.mono hb.size)⟩
end Go.Proofs.YtncoandnelgkeaaGreat

