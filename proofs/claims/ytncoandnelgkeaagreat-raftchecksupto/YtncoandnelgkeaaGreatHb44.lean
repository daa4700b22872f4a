import Derived.Test.YtncoandnelgkeaaGreatHb43
/- The program's mayBeRole, Check. -/
namespace Go.Proofs.YtncoandnelgkeaaGreat
open Go.RowKit QuorumMath RlogMath RaftMath
set_option maxRecDepth 100000
set_option linter.unusedSimpArgs false
set_option linter.unusedVariables false

theorem eqAll_eq (E : Nat) : ∀ (ps : List Mp) (xs : List Int), eqAll E ps xs = ((ps.all fun p => peerB E p) && decide ((ps.map fun p => p.node) = xs))
  | [], [] => rfl
  | [], _ :: _ => rfl
  | _ :: _, [] => by simp [eqAll]
  | p :: ps, x :: xs => by
    show (eqP E p x && eqAll E ps xs) = _
    rw [eqAll_eq E ps xs]
    unfold eqP
    rw [List.all_cons, List.map_cons]
    unfold peerB
    by_cases h1 : p.node = x
    · by_cases h2 : (ps.map fun p => p.node) = xs
      · simp [h1, h2, Bool.and_assoc]
      · simp [h1, h2]
    · simp [h1]
theorem roleB_lead {r : Mr} (h : r.role = 2) : roleB r = (decide (r.votes = []) && eqAll (endI r) r.peers (votR r)) := by
  unfold roleB
  rw [if_neg (by omega), if_neg (by omega), if_pos h, eqAll_eq]
  generalize (r.peers.all fun p => peerB (endI r) p) = a
  generalize decide (r.votes = []) = b
  generalize decide ((r.peers.map fun p => p.node) = votR r) = c
  cases a <;> cases b <;> cases c <;> rfl
theorem roleB_fol {r : Mr} (h : r.role = 0) : roleB r = (decide (r.votes = []) && decide (r.peers.length = 0)) := by unfold roleB; rw [if_pos h]
theorem roleB_can {r : Mr} (h : r.role = 1) : roleB r = (decide (r.peers.length = 0) && (decide (r.votes = []) || votB r.votes)) := by unfold roleB; rw [if_neg (by omega), if_pos h]
theorem roleB_no {r : Mr} (h0 : r.role ≠ 0) (h1 : r.role ≠ 1) (h2 : r.role ≠ 2) : roleB r = false := by unfold roleB; rw [if_neg h0, if_neg h1, if_neg h2]
theorem nil_len {α : Type} {l : List α} [Decidable (l = [])] : decide (l = []) = decide (l.length = 0) := by
  rw [decide_eq_decide]
  exact List.length_eq_zero_iff.symm
set_option maxHeartbeats 8000000 in
theorem prole_of (n : Nat) (r : Mr) (v : Value) (w : World) (hS : RsV n w v r) (hm : mayB r.base r.log = true) (hbo : OkM r.base) (hlo : ∀ e ∈ r.log, OkM e) (hpl : r.peers.length ≤ 1000000) (hvt : r.votes.length ≤ 1000000) : Calls Tryz.prog 40 #[v] w fun e w' => e = .returned (.bool (roleB r)) ∧ Below w.heap.size w w' := by
  have HK : Hid (∀ W, Below w.heap.size w W → _) := fun W hW => ppeers_of n r v W (hS.below hW) hm hbo hlo hpl
  obtain ⟨z, rfl, hz, hR⟩ := hS
  obtain ⟨r', zs, ⟨ba, bn, bc⟩, ⟨la, ln, lc⟩, ⟨va, vn, vc⟩, ⟨pa, pn, pc⟩⟩ := z
  obtain rfl : r' = r := hz
  obtain ⟨nd, tm, vo, ⟨bi, bt, bk, bd⟩, lg, cm, ro, le, el, vt, pe⟩ := r'
  obtain ⟨B, HB⟩ : ∃ B, Hid (B = roleB ⟨nd, tm, vo, ⟨bi, bt, bk, bd⟩, lg, cm, ro, le, el, vt, pe⟩) := ⟨_, rfl⟩
  rw [← HB.out]
  dsimp only [rv] at *
  obtain ⟨z1, B1, hb1⟩ := one_box w (.cells #[.int .i64 nd, .int .u64 (tm : Int), .int .i64 vo, .int .u64 (bi : Int), .int .u64 (bt : Int), .int .i64 bk, .slice ba bn bc, .slice la ln lc, .int .u64 (cm : Int), .int .i64 ro, .int .i64 le, .int .i64 el, .slice va vn vc, .slice pa pn pc] 32)
  have kc := check_of vt (.slice va vn vc) (w.alloc (.cells #[.int .i64 nd, .int .u64 (tm : Int), .int .i64 vo, .int .u64 (bi : Int), .int .u64 (bt : Int), .int .i64 bk, .slice ba bn bc, .slice la ln lc, .int .u64 (cm : Int), .int .i64 ro, .int .i64 le, .int .i64 el, .slice va vn vc, .slice pa pn pc] 32)) (hR.2.2.2.1.rd.below hb1) (by omega)
  have kp := HK.out _ hb1
  obtain ⟨Q, HQ0⟩ : ∃ Q, Hid (eqAll (endI ⟨nd, tm, vo, ⟨bi, bt, bk, bd⟩, lg, cm, ro, le, el, vt, pe⟩) pe (votR ⟨nd, tm, vo, ⟨bi, bt, bk, bd⟩, lg, cm, ro, le, el, vt, pe⟩) = Q) := ⟨_, rfl⟩
  rw [HQ0.out] at kp
  obtain ⟨pa', pc', hps, -, -⟩ := hR.2.2.2.2.rd.shape
  simp only [slv, Value.slice.injEq] at hps
  obtain ⟨rfl, rfl, rfl⟩ := hps
  obtain ⟨va', vc', hvs, -, -⟩ := hR.2.2.2.1.rd.shape
  simp only [slv, Value.slice.injEq] at hvs
  obtain ⟨rfl, rfl, rfl⟩ := hvs
  have HF : Hid (ro = 0 → B = (decide (vt.length = 0) && decide (pe.length = 0))) := fun h => by rw [HB.out, roleB_fol h, nil_len]
  have HC : Hid (ro = 1 → B = (decide (pe.length = 0) && (decide (vt.length = 0) || votB vt))) := fun h => by rw [HB.out, roleB_can h, nil_len]
  have HN : Hid (ro ≠ 0 → ro ≠ 1 → ro ≠ 2 → B = false) := fun h0 h1 h2 => by rw [HB.out]; exact roleB_no h0 h1 h2
  have HQ : Hid (ro = 2 → B = (decide (vt.length = 0) && Q)) := fun h => by rw [HB.out, roleB_lead h, nil_len, HQ0.out]
  clear hR hm hbo hlo HB HK B1 z1 HQ0
  by_cases r0 : ro = 0
  · have hb := HF.out r0
    subst r0
    clear HF HC HN HQ kp kc
    by_cases v0 : vt.length = 0
    · rw [decide_eq_true v0] at hb
      obtain rfl : vt = [] := List.eq_nil_of_length_eq_zero v0
      dsimp only [List.length_nil] at hb1
      clear v0 hvt
      by_cases p0 : pe.length = 0
      · have HP0 : Hid (pe.length = 0) := p0
        obtain rfl : pe = [] := List.eq_nil_of_length_eq_zero p0
        dsimp only [List.length_nil] at hb1
        have E0 : Hid (B = true) := by show _ = _; rw [hb]; rfl
        clear hb p0 hpl HP0
        go_enter Tryz.func40, Tryz.ntmps40
        go_wp2
        go_ret
        exact ⟨by rw [E0.out]; rfl, hb1⟩
      · have p0i : ((pe.length : Int) == 0) = false := by rw [beq_eq_false_iff_ne]; omega
        have E0 : Hid (B = false) := by show _ = _; rw [hb, decide_eq_false p0]; rfl
        clear hb
        go_enter Tryz.func40, Tryz.ntmps40
        go_wp2
        go_ret
        exact ⟨by rw [E0.out]; rfl, hb1⟩
    · have v0i : ((vt.length : Int) == 0) = false := by rw [beq_eq_false_iff_ne]; omega
      have E0 : Hid (B = false) := by show _ = _; rw [hb, decide_eq_false v0]; rfl
      clear hb
      go_enter Tryz.func40, Tryz.ntmps40
      go_wp2
      go_ret
      exact ⟨by rw [E0.out]; rfl, hb1⟩
  · by_cases r1 : ro = 1
    · have hb := HC.out r1
      subst r1
      clear HF HC HN HQ kp
      by_cases p0 : pe.length = 0
      · rw [decide_eq_true p0] at hb
        obtain rfl : pe = [] := List.eq_nil_of_length_eq_zero p0
        dsimp only [List.length_nil] at hb1 kc
        clear p0 hpl
        by_cases v0 : vt.length = 0
        · have E0 : Hid (B = true) := by show _ = _; rw [hb, decide_eq_true v0]; rfl
          obtain rfl : vt = [] := List.eq_nil_of_length_eq_zero v0
          dsimp only [List.length_nil] at hb1
          clear hb kc v0 hvt
          go_enter Tryz.func40, Tryz.ntmps40
          go_wp2
          go_ret
          exact ⟨by rw [E0.out]; rfl, hb1⟩
        · have v0i : ((vt.length : Int) == 0) = false := by rw [beq_eq_false_iff_ne]; omega
          have E0 : Hid (B = votB vt) := by show _ = _; rw [hb, decide_eq_false v0]; rfl
          generalize votB vt = VB at *
          clear hb
          go_enter Tryz.func40, Tryz.ntmps40
          go_wp2_with fail
          refine kc.mono ?_
          rintro e w1 ⟨rfl, hw1⟩
          rw [hw1]
          clear hw1
          go_wp2
          go_ret
          exact ⟨by rw [E0.out]; rfl, hb1⟩
      · have p0i : ((pe.length : Int) == 0) = false := by rw [beq_eq_false_iff_ne]; omega
        have E0 : Hid (B = false) := by show _ = _; rw [hb, decide_eq_false p0]; rfl
        clear hb kc
        go_enter Tryz.func40, Tryz.ntmps40
        go_wp2
        go_ret
        exact ⟨by rw [E0.out]; rfl, hb1⟩
    · have r0b : (ro == 0) = false := by simpa using r0
      have r1b : (ro == 1) = false := by simpa using r1
      by_cases r2 : ro = 2
      · have hb := HQ.out r2
        subst r2
        clear HF HC HN HQ kc r0b r1b
        by_cases v0 : vt.length = 0
        · have E0 : Hid (B = Q) := by show _ = _; rw [hb, decide_eq_true v0]; rfl
          obtain rfl : vt = [] := List.eq_nil_of_length_eq_zero v0
          dsimp only [List.length_nil] at kp hb1
          clear hb v0 hvt
          go_enter Tryz.func40, Tryz.ntmps40
          go_wp2_with fail
          refine kp.mono ?_
          rintro e w1 ⟨rfl, hb2⟩
          have hb1 := hb1.trans (hb2.mono hb1.size)
          clear hb2 kp
          go_wp2
          go_ret
          exact ⟨by rw [E0.out]; rfl, hb1⟩
        · have v0i : ((vt.length : Int) == 0) = false := by rw [beq_eq_false_iff_ne]; omega
          have E0 : Hid (B = false) := by show _ = _; rw [hb, decide_eq_false v0]; rfl
          clear hb kp
          go_enter Tryz.func40, Tryz.ntmps40
          go_wp2
          go_ret
          exact ⟨by rw [E0.out]; rfl, hb1⟩
      · have r2b : (ro == 2) = false := by simpa using r2
        have E0 : Hid (B = false) := HN.out r0 r1 r2
        clear HF HC HN HQ kc kp
        go_enter Tryz.func40, Tryz.ntmps40
        go_wp2
        go_ret
        exact ⟨by rw [E0.out]; rfl, hb1⟩
end Go.Proofs.YtncoandnelgkeaaGreat

/- The program's Check. -/
namespace Go.Proofs.YtncoandnelgkeaaGreat
open Go.RowKit QuorumMath RlogMath RaftMath
set_option maxRecDepth 100000
set_option linter.unusedSimpArgs false
set_option linter.unusedVariables false

theorem mayR_eq (r : Mr) : mayR r = (numB r && logB r && roleB r) := by
  unfold mayR numB nobB logB
  simp only [Bool.and_assoc]
set_option maxHeartbeats 8000000 in
theorem pcheckR_of (n : Nat) (r : Mr) (v : Value) (w : World) (hS : RsV n w v r) (hbo : OkM r.base) (hlo : ∀ e ∈ r.log, OkM e) (hlg : r.log.length ≤ 1000000) (hpl : r.peers.length ≤ 1000000) (hvt : r.votes.length ≤ 1000000) : Calls Tryz.prog 13 #[v] w fun e w' => e = .returned (.int .i64 (codeB (mayR r))) ∧ Below w.heap.size w w' := by
  have HK1 : Hid (∀ W, Below w.heap.size w W → _) := fun W hW => pnum_of n r v W (hS.below hW)
  have HK2 : Hid (∀ W, Below w.heap.size w W → _) := fun W hW => plog_of n r v W (hS.below hW) hbo hlo hlg
  have HK3 : Hid (logB r = true → ∀ W, Below w.heap.size w W → _) := fun hl W hW => prole_of n r v W (hS.below hW) (by unfold logB at hl; simp only [Bool.and_eq_true] at hl; exact hl.1.1.1) hbo hlo hpl hvt
  obtain ⟨C, HC⟩ : ∃ C, Hid (C = codeB (numB r && logB r && roleB r)) := ⟨_, rfl⟩
  rw [mayR_eq, ← HC.out]
  generalize numB r = b1 at *
  generalize logB r = b2 at *
  generalize roleB r = b3 at *
  obtain ⟨z, rfl, hz, hR⟩ := hS
  obtain ⟨r', zs, ⟨ba, bn, bc⟩, ⟨la, ln, lc⟩, ⟨va, vn, vc⟩, ⟨pa, pn, pc⟩⟩ := z
  obtain rfl : r' = r := hz
  obtain ⟨nd, tm, vo, ⟨bi, bt, bk, bd⟩, lg, cm, ro, le, el, vt, pe⟩ := r'
  dsimp only [rv] at *
  obtain ⟨z1, B1, hb1⟩ := one_box w (.cells #[.int .i64 nd, .int .u64 (tm : Int), .int .i64 vo, .int .u64 (bi : Int), .int .u64 (bt : Int), .int .i64 bk, .slice ba bn bc, .slice la ln lc, .int .u64 (cm : Int), .int .i64 ro, .int .i64 le, .int .i64 el, .slice va vn vc, .slice pa pn pc] 32)
  have k1 := HK1.out _ hb1
  rw [z1] at k1
  clear hR hbo hlo hlg hpl hvt HK1
  go_enter Tryz.func13, Tryz.ntmps13
  go_wp2_with fail
  refine k1.mono ?_
  rintro e w2 ⟨rfl, hb2⟩
  have B2 := (hb2.block w.heap.size (by omega)).trans B1
  have hb02 := hb1.trans (hb2.mono (by omega))
  have hs2 : w.heap.size < w2.heap.size := (Array.getElem?_eq_some_iff.1 B2).1
  have k2 := HK2.out w2 hb02
  obtain ⟨-, o0, o1, o2, o3, o4, o5, o6, o7, o8, o9, o10, o11, o12, o13⟩ := r14_cells B2
  clear k1 HK2 hb2 B1 z1 hb1
  cases b1 with
  | false =>
    have E0 : Hid (C = 1) := by show _ = _; rw [HC.out]; rfl
    clear HC HK3 k2
    go_wp2
    go_ret
    exact ⟨by rw [E0.out]; rfl, hb02⟩
  | true =>
    go_wp2_with fail
    refine k2.mono ?_
    rintro e w3 ⟨rfl, hb3⟩
    have B3 := (hb3.block w.heap.size hs2).trans B2
    have hb03 := hb02.trans (hb3.mono hb02.size)
    clear k2 o0 o1 o2 o3 o4 o5 o6 o7 o8 o9 o10 o11 o12 o13 B2 hb3
    obtain ⟨-, o0, o1, o2, o3, o4, o5, o6, o7, o8, o9, o10, o11, o12, o13⟩ := r14_cells B3
    cases b2 with
    | false =>
      have E0 : Hid (C = 1) := by show _ = _; rw [HC.out]; rfl
      clear HC HK3
      go_wp2
      go_ret
      exact ⟨by rw [E0.out]; rfl, hb03⟩
    | true =>
      have k3 := HK3.out rfl w3 hb03
      clear HK3
      go_wp2_with fail
      refine k3.mono ?_
      rintro e w4 ⟨rfl, hb4⟩
      have hb04 := hb03.trans (hb4.mono hb03.size)
      clear k3 o0 o1 o2 o3 o4 o5 o6 o7 o8 o9 o10 o11 o12 o13 hb4
      cases b3 with
      | false =>
        have E0 : Hid (C = 1) := by show _ = _; rw [HC.out]; rfl
        clear HC
        go_wp2
        go_ret
        exact ⟨by rw [E0.out]; rfl, hb04⟩
      | true =>
        have E0 : Hid (C = 0) := by show _ = _; rw [HC.out]; rfl
        clear HC
        go_wp2
        go_ret
        exact ⟨by rw [E0.out]; rfl, hb04⟩
end Go.Proofs.YtncoandnelgkeaaGreat

