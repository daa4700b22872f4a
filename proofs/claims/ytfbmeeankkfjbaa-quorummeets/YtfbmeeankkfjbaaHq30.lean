import Derived.Test.YtfbmeeankkfjbaaHq11
import Derived.Test.YtfbmeeankkfjbaaHq22
import Derived.Test.YtfbmeeankkfjbaaHq27
/- The law QuorumMeets. -/
namespace Go.Proofs.Ytfbmeeankkfjbaa
open Go.RowKit QuorumMath
set_option maxRecDepth 100000
set_option linter.unusedSimpArgs false
set_option linter.unusedVariables false

/-- Two rows of one's own, in blocks from n on. -/
def TwoI (n : Nat) (w : World) (u : Value) (P : List Int) (v : Value) (Q : List Int) : Prop := Ow intE 3 n w u P ∧ Ow intE 3 n w v Q ∧ ∀ k, u.ownBlock = some k → v.ownBlock ≠ some k
theorem TwoI.left {n : Nat} {w w' : World} {u u' v : Value} {P P' Q : List Int} (h : TwoI n w u P v Q) (hn : n ≤ w.heap.size) (hp : PushT intE 3 w u P' u' w') : TwoI n w' u' P' v Q ∧ Below n w w' := by
  obtain ⟨h1, h2⟩ := h.1.push hn hp
  refine ⟨⟨h1, ⟨h.2.1.1.same fun k hk => hp.2.1.block k (h.2.1.1.lt hk) (fun e => h.2.2 k e.symm hk), h.2.1.2⟩, fun k hk hv => ?_⟩, h2⟩
  rcases hp.2.2 k hk with h' | h'
  · exact h.2.2 k h' hv
  · have := h.2.1.1.lt hv
    omega
theorem TwoI.right {n : Nat} {w w' : World} {u v v' : Value} {P Q Q' : List Int} (h : TwoI n w u P v Q) (hn : n ≤ w.heap.size) (hp : PushT intE 3 w v Q' v' w') : TwoI n w' u P v' Q' ∧ Below n w w' := by
  obtain ⟨h1, h2⟩ := h.2.1.push hn hp
  refine ⟨⟨⟨h.1.1.same fun k hk => hp.2.1.block k (h.1.1.lt hk) (fun e => h.2.2 k hk e.symm), h.1.2⟩, h1, fun k hk hv => ?_⟩, h2⟩
  rcases hp.2.2 k hv with h' | h'
  · exact h.2.2 k hk h'
  · have := h.1.1.lt hk
    omega

set_option maxHeartbeats 8000000 in
theorem meets_law (a : List Int) (av : Value) (x0 x1 r0 r1 : Int) (w : World) (hA : Rd intE w av a) (hla : a.length * 8 ≤ 140737488355328) (hr0 : 0 ≤ r0 ∧ r0 < 256) (hr1 : 0 ≤ r1 ∧ r1 < 256) : Calls Try.prog 7 #[av, .agg #[.int .i64 x0, .int .i64 x1], .agg #[.int .u8 r0, .int .u8 r1]] w fun e w' => e = .returned (.bool true) ∧ Below w.heap.size w w' := by
  have ka := fun W => awake_of W
  obtain ⟨hs0, g0, hb0⟩ := one_box w (.cells #[.int .i64 x0, .int .i64 x1] 33)
  have c0 : (w.alloc (.cells #[.int .i64 x0, .int .i64 x1] 33)).cell? ⟨w.heap.size, 0, none⟩ = some (.int .i64 x0) := by rw [cells_of_block g0]; rfl
  have c1 : (w.alloc (.cells #[.int .i64 x0, .int .i64 x1] 33)).cell? ⟨w.heap.size, 1, none⟩ = some (.int .i64 x1) := by rw [cells_of_block g0]; rfl
  obtain ⟨hs1, g1, hb1⟩ := one_box (w.alloc (.cells #[.int .i64 x0, .int .i64 x1] 33)) (.cells #[.int .u8 r0, .int .u8 r1] 38)
  have hb01 := hb0.trans (hb1.mono hb0.size)
  rw [hs0] at hs1 g1
  have hAH : Hid (Rd intE w av a) := hA
  have k1 := rnext_of a av x0 (x1 == 1) ((w.alloc (.cells #[.int .i64 x0, .int .i64 x1] 33)).alloc (.cells #[.int .u8 r0, .int .u8 r1] 38)) (hA.below hb01) (by omega)
  have HMJ : Hid (∀ (b P Q : List Int), votB a = true → a.length < 2 * cnt a P → (b = if (nextC a x0 (x1 == 1)).1 = 0 then (nextC a x0 (x1 == 1)).2 else a) → b.length < 2 * cnt b Q → ∃ n, n ∈ P ∧ n ∈ Q) := fun b P Q h1 h2 h3 h4 => majors_meet h1 h2 b h3 h4
  obtain ⟨aa, ac, rfl, -, -⟩ := hA.shape
  have hs2 : ((w.alloc (.cells #[.int .i64 x0, .int .i64 x1] 33)).alloc (.cells #[.int .u8 r0, .int .u8 r1] 38)).heap.size = w.heap.size + 1 + 1 := hs1
  clear hA hs0 g0 hs1 hb0 hb1
  go_enter Try.func7, Try.ntmps7
  go_wp2_with fail
  generalize (w.alloc (.cells #[.int .i64 x0, .int .i64 x1] 33)).alloc (.cells #[.int .u8 r0, .int .u8 r1] 38) = W0 at *
  refine k1.mono ?_
  rintro e w2 ⟨⟨nv, rfl, hnR⟩, hb2⟩
  have hb02 := hb01.trans (hb2.mono hb01.size)
  have g2 := (hb2.block (w.heap.size + 1) (by omega)).trans g1
  have hs02 : w.heap.size + 1 + 1 ≤ w2.heap.size := by have := hb2.size; omega
  have hll : (nextC a x0 (x1 == 1)).2.length ≤ 1000000 := by
    have h7 := good_len_7 (keep_ris a x0 (x1 == 1))
    unfold nextC
    split
    · split
      · simp
      · split
        · simp
        · show (keepM a x0 (x1 == 1)).length ≤ _
          omega
    · simp
  generalize nextC a x0 (x1 == 1) = CL at *
  obtain ⟨cd, ls⟩ := CL
  dsimp only at hnR hll HMJ
  clear k1 c0 c1 g1 hs2 hb01 hb2 W0
  obtain ⟨na, nc, rfl, -, -⟩ := hnR.shape
  obtain ⟨q1, q2, q3⟩ := one_box w2 (.cells #[] 3)
  obtain ⟨q4, q5, q6⟩ := one_box (w2.alloc (.cells #[] 3)) (.cells #[] 3)
  have hq2 := (q6.block w2.heap.size (by rw [q1]; omega)).trans q2
  rw [q1] at q4 q5
  have hT0 : TwoI w2.heap.size ((w2.alloc (.cells #[] 3)).alloc (.cells #[] 3)) (.slice (some ⟨w2.heap.size, 0, none⟩) 0 0) [] (.slice (some ⟨w2.heap.size + 1, 0, none⟩) 0 0) [] := by
    refine ⟨⟨Rk.made (xs := []) hq2 rfl (by unfold maxLen; simp), fun k hk => ?_⟩, ⟨Rk.made (xs := []) q5 rfl (by unfold maxLen; simp), fun k hk => ?_⟩, fun k hk hv => ?_⟩
    · have h1 : w2.heap.size = k := by simpa [Value.ownBlock] using hk
      omega
    · have h1 : w2.heap.size + 1 = k := by simpa [Value.ownBlock] using hk
      omega
    · have h1 : w2.heap.size = k := by simpa [Value.ownBlock] using hk
      have h2 : w2.heap.size + 1 = k := by simpa [Value.ownBlock] using hv
      omega
  have hb24 : Below w2.heap.size w2 ((w2.alloc (.cells #[] 3)).alloc (.cells #[] 3)) := q3.trans (q6.mono (by rw [q1]; omega))
  clear q1 q2 q3 q4 q5 q6 hq2
  dsimp only
  by_cases hcd : cd = 0
  · have HBL : Hid (ls = if cd = 0 then ls else a) := by show _ = _; rw [if_pos hcd]
    subst hcd
    go_wp2
    generalize (w2.alloc (.cells #[] 3)).alloc (.cells #[] 3) = w4 at *
    go_loopg [9, 10, 11] 8 (fun g s9 s10 s11 wr => ∃ (m : Nat) (P Q : List Int) (sp sq : Value), m + g = 9 ∧ 1 ≤ m ∧ s11 = .int .i64 (m : Int) ∧ sp = s9 ∧ sq = s10 ∧ P.length ≤ m ∧ Q.length ≤ m ∧ TwoI w2.heap.size wr sp P sq Q ∧ Below w2.heap.size w2 wr)
    case atStart => exact ⟨1, [], [], _, _, by omega, Nat.le_refl _, rfl, rfl, rfl, by simp, by simp, hT0, hb24⟩
    case round =>
      obtain ⟨m, P, Q, sp, sq, hmg, hm1, rfl, rfl, rfl, hPl, hQl, hT, hb⟩ := hrel
      clear hT0 hb24 w4
      have hbw := hb02.trans (hb.mono hb02.size)
      obtain ⟨pa, pc, hsp, -⟩ := hT.1.1.shape
      obtain ⟨qa, qc, hsq, -⟩ := hT.2.1.1.shape
      subst hsp hsq
      by_cases hlt : m ≤ 7
      · have hlti : (m : Int) ≤ 7 := by omega
        have e0 : wr.cell? ⟨w.heap.size + 1, 0, none⟩ = some (.int .u8 r0) := by rw [cells_of_block ((hb.block (w.heap.size + 1) (by omega)).trans g2)]; rfl
        have i1 := rin_of a (.slice aa a.length ac) (m : Int) wr (hAH.out.below hbw) (by omega)
        have hrunP : Hid _ := push_int (m : Int) hT.1.1 (by omega)
        generalize decide ((m : Int) ∈ a) = A1 at *
        clear HMJ HBL
        cases hd0 : ((r0 / 2 ^ m).tmod 2 == 1) with
        | false =>
          clear i1 hrunP
          have hbw2 := hb02.trans (hb.mono hb02.size)
          have e1 : wr.cell? ⟨w.heap.size + 1, 1, none⟩ = some (.int .u8 r1) := by rw [cells_of_block ((hb.block (w.heap.size + 1) (by omega)).trans g2)]; rfl
          have i2 := rin_of ls (.slice na ls.length nc) (m : Int) wr (hnR.below hb) (by omega)
          have hrunQ : Hid _ := push_int (m : Int) hT.2.1.1 (by omega)
          generalize decide ((m : Int) ∈ ls) = A2 at *
          cases hd1 : ((r1 / 2 ^ m).tmod 2 == 1) with
          | false =>
            clear i2
            have hT9 := hT
            clear hrunQ
            go_wp2
            go_roundg (gk - 1)
            case measure => omega
            case rel => exact ⟨m + 1, P, Q, .slice pa P.length pc, .slice qa Q.length qc, by omega, by omega, by go_num, by first | rfl | simp, by first | rfl | simp, by first | omega | (rw [List.length_append]; simp; omega), by first | omega | (rw [List.length_append]; simp; omega), hT9, hb⟩
          | true =>
            cases A2 with
            | false =>
              have hT9 := hT
              clear hrunQ
              go_wp2_with fail
              refine (i2).mono ?_
              rintro e w7 ⟨rfl, hw7⟩
              subst hw7
              clear i2
              go_wp2
              go_roundg (gk - 1)
              case measure => omega
              case rel => exact ⟨m + 1, P, Q, .slice pa P.length pc, .slice qa Q.length qc, by omega, by omega, by go_num, by first | rfl | simp, by first | rfl | simp, by first | omega | (rw [List.length_append]; simp; omega), by first | omega | (rw [List.length_append]; simp; omega), hT9, hb⟩
            | true =>
              go_wp2_with fail
              refine (i2).mono ?_
              rintro e w7 ⟨rfl, hw7⟩
              subst hw7
              clear i2
              go_wp2_with (at_builtin; refine wp_by rfl _ _ _ rfl _ _ rfl rfl hrunQ.out ?_)
              intro v8 w8 hp8
              obtain ⟨hT9, hb8⟩ := hT.right hb.size hp8
              have hb9 := hb.trans hb8
              clear hrunQ hp8
              go_wp2
              go_roundg (gk - 1)
              case measure => omega
              case rel => exact ⟨m + 1, P, (Q ++ [(m : Int)]), .slice pa P.length pc, v8, by omega, by omega, by go_num, by first | rfl | simp, by first | rfl | simp, by first | omega | (rw [List.length_append]; simp; omega), by first | omega | (rw [List.length_append]; simp; omega), hT9, hb9⟩
        | true =>
          cases A1 with
          | false =>
            clear hrunP
            go_wp2_with fail
            refine (i1).mono ?_
            rintro e w5 ⟨rfl, hw5⟩
            subst hw5
            clear i1
            have hbw2 := hb02.trans (hb.mono hb02.size)
            have e1 : w5.cell? ⟨w.heap.size + 1, 1, none⟩ = some (.int .u8 r1) := by rw [cells_of_block ((hb.block (w.heap.size + 1) (by omega)).trans g2)]; rfl
            have i2 := rin_of ls (.slice na ls.length nc) (m : Int) w5 (hnR.below hb) (by omega)
            have hrunQ : Hid _ := push_int (m : Int) hT.2.1.1 (by omega)
            generalize decide ((m : Int) ∈ ls) = A2 at *
            cases hd1 : ((r1 / 2 ^ m).tmod 2 == 1) with
            | false =>
              clear i2
              have hT9 := hT
              clear hrunQ
              go_wp2
              go_roundg (gk - 1)
              case measure => omega
              case rel => exact ⟨m + 1, P, Q, .slice pa P.length pc, .slice qa Q.length qc, by omega, by omega, by go_num, by first | rfl | simp, by first | rfl | simp, by first | omega | (rw [List.length_append]; simp; omega), by first | omega | (rw [List.length_append]; simp; omega), hT9, hb⟩
            | true =>
              cases A2 with
              | false =>
                have hT9 := hT
                clear hrunQ
                go_wp2_with fail
                refine (i2).mono ?_
                rintro e w7 ⟨rfl, hw7⟩
                subst hw7
                clear i2
                go_wp2
                go_roundg (gk - 1)
                case measure => omega
                case rel => exact ⟨m + 1, P, Q, .slice pa P.length pc, .slice qa Q.length qc, by omega, by omega, by go_num, by first | rfl | simp, by first | rfl | simp, by first | omega | (rw [List.length_append]; simp; omega), by first | omega | (rw [List.length_append]; simp; omega), hT9, hb⟩
              | true =>
                go_wp2_with fail
                refine (i2).mono ?_
                rintro e w7 ⟨rfl, hw7⟩
                subst hw7
                clear i2
                go_wp2_with (at_builtin; refine wp_by rfl _ _ _ rfl _ _ rfl rfl hrunQ.out ?_)
                intro v8 w8 hp8
                obtain ⟨hT9, hb8⟩ := hT.right hb.size hp8
                have hb9 := hb.trans hb8
                clear hrunQ hp8
                go_wp2
                go_roundg (gk - 1)
                case measure => omega
                case rel => exact ⟨m + 1, P, (Q ++ [(m : Int)]), .slice pa P.length pc, v8, by omega, by omega, by go_num, by first | rfl | simp, by first | rfl | simp, by first | omega | (rw [List.length_append]; simp; omega), by first | omega | (rw [List.length_append]; simp; omega), hT9, hb9⟩
          | true =>
            go_wp2_with fail
            refine (i1).mono ?_
            rintro e w5 ⟨rfl, hw5⟩
            subst hw5
            clear i1
            go_wp2_with (at_builtin; refine wp_by rfl _ _ _ rfl _ _ rfl rfl hrunP.out ?_)
            intro v6 w6 hp6
            obtain ⟨hT6, hb6⟩ := hT.left hb.size hp6
            have hb7 := hb.trans hb6
            clear hrunP hp6 hT
            obtain ⟨ra, rc, hrv, -⟩ := hT6.1.1.shape
            subst hrv
            have hbw2 := hb02.trans (hb7.mono hb02.size)
            have e1 : w6.cell? ⟨w.heap.size + 1, 1, none⟩ = some (.int .u8 r1) := by rw [cells_of_block ((hb7.block (w.heap.size + 1) (by omega)).trans g2)]; rfl
            have i2 := rin_of ls (.slice na ls.length nc) (m : Int) w6 (hnR.below hb7) (by omega)
            have hrunQ : Hid _ := push_int (m : Int) hT6.2.1.1 (by omega)
            generalize decide ((m : Int) ∈ ls) = A2 at *
            cases hd1 : ((r1 / 2 ^ m).tmod 2 == 1) with
            | false =>
              clear i2
              have hT9 := hT6
              clear hrunQ
              go_wp2
              go_roundg (gk - 1)
              case measure => omega
              case rel => exact ⟨m + 1, (P ++ [(m : Int)]), Q, .slice ra (P ++ [(m : Int)]).length rc, .slice qa Q.length qc, by omega, by omega, by go_num, by first | rfl | simp, by first | rfl | simp, by first | omega | (rw [List.length_append]; simp; omega), by first | omega | (rw [List.length_append]; simp; omega), hT9, hb7⟩
            | true =>
              cases A2 with
              | false =>
                have hT9 := hT6
                clear hrunQ
                go_wp2_with fail
                refine (i2).mono ?_
                rintro e w7 ⟨rfl, hw7⟩
                subst hw7
                clear i2
                go_wp2
                go_roundg (gk - 1)
                case measure => omega
                case rel => exact ⟨m + 1, (P ++ [(m : Int)]), Q, .slice ra (P ++ [(m : Int)]).length rc, .slice qa Q.length qc, by omega, by omega, by go_num, by first | rfl | simp, by first | rfl | simp, by first | omega | (rw [List.length_append]; simp; omega), by first | omega | (rw [List.length_append]; simp; omega), hT9, hb7⟩
              | true =>
                go_wp2_with fail
                refine (i2).mono ?_
                rintro e w7 ⟨rfl, hw7⟩
                subst hw7
                clear i2
                go_wp2_with (at_builtin; refine wp_by rfl _ _ _ rfl _ _ rfl rfl hrunQ.out ?_)
                intro v8 w8 hp8
                obtain ⟨hT9, hb8⟩ := hT6.right hb7.size hp8
                have hb9 := hb7.trans hb8
                clear hrunQ hp8
                go_wp2
                go_roundg (gk - 1)
                case measure => omega
                case rel => exact ⟨m + 1, (P ++ [(m : Int)]), (Q ++ [(m : Int)]), .slice ra (P ++ [(m : Int)]).length rc, v8, by omega, by omega, by go_num, by first | rfl | simp, by first | rfl | simp, by first | omega | (rw [List.length_append]; simp; omega), by first | omega | (rw [List.length_append]; simp; omega), hT9, hb9⟩
      · have hlti : ¬ (m : Int) ≤ 7 := by omega
        have k1 := won_of a (.slice aa a.length ac) P (.slice pa P.length pc) wr (hAH.out.below hbw) hT.1.1.rd (by omega) (by omega)
        have k2 := won_of ls (.slice na ls.length nc) Q (.slice qa Q.length qc) wr (hnR.below hb) hT.2.1.1.rd (by omega) (by omega)
        have k3 := meet_of P (.slice pa P.length pc) Q (.slice qa Q.length qc) wr hT.1.1.rd hT.2.1.1.rd (by omega) (by omega)
        cases hw1 : wonB a P with
        | false =>
          rw [hw1] at k1
          clear HMJ HBL hw1 k2 k3 hT
          go_wp2_with fail
          refine (k1).mono ?_
          rintro e w5 ⟨rfl, hw5⟩
          subst hw5
          go_wp2_with fail
          refine (ka _).mono ?_
          rintro e w9 ⟨rfl, hb9⟩
          go_wp2
          go_ret
          exact ⟨rfl, hbw.trans (hb9.mono hbw.size)⟩
        | true =>
          rw [hw1] at k1
          cases hw2 : wonB ls Q with
          | false =>
            rw [hw2] at k2
            clear HMJ HBL hw1 hw2 k3 hT
            go_wp2_with fail
            refine (k1).mono ?_
            rintro e w5 ⟨rfl, hw5⟩
            subst hw5
            go_wp2_with fail
            refine (k2).mono ?_
            rintro e w6 ⟨rfl, hw6⟩
            subst hw6
            go_wp2_with fail
            refine (ka _).mono ?_
            rintro e w9 ⟨rfl, hb9⟩
            go_wp2
            go_ret
            exact ⟨rfl, hbw.trans (hb9.mono hbw.size)⟩
          | true =>
            rw [hw2] at k2
            unfold wonB at hw1 hw2
            rw [Bool.and_eq_true, decide_eq_true_eq] at hw1 hw2
            obtain ⟨z, hz1, hz2⟩ := HMJ.out ls P Q hw1.1 hw1.2 HBL.out hw2.2
            rw [decide_eq_true (cnt_pos.2 ⟨z, hz1, hz2⟩)] at k3
            clear HMJ HBL hw1 hw2 hz1 hz2 hT
            go_wp2_with fail
            refine (k1).mono ?_
            rintro e w5 ⟨rfl, hw5⟩
            subst hw5
            go_wp2_with fail
            refine (k2).mono ?_
            rintro e w6 ⟨rfl, hw6⟩
            subst hw6
            go_wp2_with fail
            refine (k3).mono ?_
            rintro e w7 ⟨rfl, hb7⟩
            have hb07 := hbw.trans (hb7.mono hbw.size)
            go_wp2_with fail
            refine (ka _).mono ?_
            rintro e w9 ⟨rfl, hb9⟩
            go_wp2
            go_ret
            exact ⟨rfl, hb07.trans (hb9.mono hb07.size)⟩
  · have HBL : Hid (a = if cd = 0 then ls else a) := by show _ = _; rw [if_neg hcd]
    have hcq : (cd != 0) = true := by simpa using hcd
    go_wp2
    generalize (w2.alloc (.cells #[] 3)).alloc (.cells #[] 3) = w4 at *
    go_loopg [9, 10, 11] 8 (fun g s9 s10 s11 wr => ∃ (m : Nat) (P Q : List Int) (sp sq : Value), m + g = 9 ∧ 1 ≤ m ∧ s11 = .int .i64 (m : Int) ∧ sp = s9 ∧ sq = s10 ∧ P.length ≤ m ∧ Q.length ≤ m ∧ TwoI w2.heap.size wr sp P sq Q ∧ Below w2.heap.size w2 wr)
    case atStart => exact ⟨1, [], [], _, _, by omega, Nat.le_refl _, rfl, rfl, rfl, by simp, by simp, hT0, hb24⟩
    case round =>
      obtain ⟨m, P, Q, sp, sq, hmg, hm1, rfl, rfl, rfl, hPl, hQl, hT, hb⟩ := hrel
      clear hT0 hb24 w4
      have hbw := hb02.trans (hb.mono hb02.size)
      obtain ⟨pa, pc, hsp, -⟩ := hT.1.1.shape
      obtain ⟨qa, qc, hsq, -⟩ := hT.2.1.1.shape
      subst hsp hsq
      by_cases hlt : m ≤ 7
      · have hlti : (m : Int) ≤ 7 := by omega
        have e0 : wr.cell? ⟨w.heap.size + 1, 0, none⟩ = some (.int .u8 r0) := by rw [cells_of_block ((hb.block (w.heap.size + 1) (by omega)).trans g2)]; rfl
        have i1 := rin_of a (.slice aa a.length ac) (m : Int) wr (hAH.out.below hbw) (by omega)
        have hrunP : Hid _ := push_int (m : Int) hT.1.1 (by omega)
        generalize decide ((m : Int) ∈ a) = A1 at *
        clear HMJ HBL
        cases hd0 : ((r0 / 2 ^ m).tmod 2 == 1) with
        | false =>
          clear i1 hrunP
          have hbw2 := hb02.trans (hb.mono hb02.size)
          have e1 : wr.cell? ⟨w.heap.size + 1, 1, none⟩ = some (.int .u8 r1) := by rw [cells_of_block ((hb.block (w.heap.size + 1) (by omega)).trans g2)]; rfl
          have i2 := rin_of a (.slice aa a.length ac) (m : Int) wr (hAH.out.below (hb02.trans (hb.mono hb02.size))) (by omega)
          have hrunQ : Hid _ := push_int (m : Int) hT.2.1.1 (by omega)
          generalize decide ((m : Int) ∈ a) = A2 at *
          cases hd1 : ((r1 / 2 ^ m).tmod 2 == 1) with
          | false =>
            clear i2
            have hT9 := hT
            clear hrunQ
            go_wp2
            go_roundg (gk - 1)
            case measure => omega
            case rel => exact ⟨m + 1, P, Q, .slice pa P.length pc, .slice qa Q.length qc, by omega, by omega, by go_num, by first | rfl | simp, by first | rfl | simp, by first | omega | (rw [List.length_append]; simp; omega), by first | omega | (rw [List.length_append]; simp; omega), hT9, hb⟩
          | true =>
            cases A2 with
            | false =>
              have hT9 := hT
              clear hrunQ
              go_wp2_with fail
              refine (i2).mono ?_
              rintro e w7 ⟨rfl, hw7⟩
              subst hw7
              clear i2
              go_wp2
              go_roundg (gk - 1)
              case measure => omega
              case rel => exact ⟨m + 1, P, Q, .slice pa P.length pc, .slice qa Q.length qc, by omega, by omega, by go_num, by first | rfl | simp, by first | rfl | simp, by first | omega | (rw [List.length_append]; simp; omega), by first | omega | (rw [List.length_append]; simp; omega), hT9, hb⟩
            | true =>
              go_wp2_with fail
              refine (i2).mono ?_
              rintro e w7 ⟨rfl, hw7⟩
              subst hw7
              clear i2
              go_wp2_with (at_builtin; refine wp_by rfl _ _ _ rfl _ _ rfl rfl hrunQ.out ?_)
              intro v8 w8 hp8
              obtain ⟨hT9, hb8⟩ := hT.right hb.size hp8
              have hb9 := hb.trans hb8
              clear hrunQ hp8
              go_wp2
              go_roundg (gk - 1)
              case measure => omega
              case rel => exact ⟨m + 1, P, (Q ++ [(m : Int)]), .slice pa P.length pc, v8, by omega, by omega, by go_num, by first | rfl | simp, by first | rfl | simp, by first | omega | (rw [List.length_append]; simp; omega), by first | omega | (rw [List.length_append]; simp; omega), hT9, hb9⟩
        | true =>
          cases A1 with
          | false =>
            clear hrunP
            go_wp2_with fail
            refine (i1).mono ?_
            rintro e w5 ⟨rfl, hw5⟩
            subst hw5
            clear i1
            have hbw2 := hb02.trans (hb.mono hb02.size)
            have e1 : w5.cell? ⟨w.heap.size + 1, 1, none⟩ = some (.int .u8 r1) := by rw [cells_of_block ((hb.block (w.heap.size + 1) (by omega)).trans g2)]; rfl
            have i2 := rin_of a (.slice aa a.length ac) (m : Int) w5 (hAH.out.below (hb02.trans (hb.mono hb02.size))) (by omega)
            have hrunQ : Hid _ := push_int (m : Int) hT.2.1.1 (by omega)
            generalize decide ((m : Int) ∈ a) = A2 at *
            cases hd1 : ((r1 / 2 ^ m).tmod 2 == 1) with
            | false =>
              clear i2
              have hT9 := hT
              clear hrunQ
              go_wp2
              go_roundg (gk - 1)
              case measure => omega
              case rel => exact ⟨m + 1, P, Q, .slice pa P.length pc, .slice qa Q.length qc, by omega, by omega, by go_num, by first | rfl | simp, by first | rfl | simp, by first | omega | (rw [List.length_append]; simp; omega), by first | omega | (rw [List.length_append]; simp; omega), hT9, hb⟩
            | true =>
              cases A2 with
              | false =>
                have hT9 := hT
                clear hrunQ
                go_wp2_with fail
                refine (i2).mono ?_
                rintro e w7 ⟨rfl, hw7⟩
                subst hw7
                clear i2
                go_wp2
                go_roundg (gk - 1)
                case measure => omega
                case rel => exact ⟨m + 1, P, Q, .slice pa P.length pc, .slice qa Q.length qc, by omega, by omega, by go_num, by first | rfl | simp, by first | rfl | simp, by first | omega | (rw [List.length_append]; simp; omega), by first | omega | (rw [List.length_append]; simp; omega), hT9, hb⟩
              | true =>
                go_wp2_with fail
                refine (i2).mono ?_
                rintro e w7 ⟨rfl, hw7⟩
                subst hw7
                clear i2
                go_wp2_with (at_builtin; refine wp_by rfl _ _ _ rfl _ _ rfl rfl hrunQ.out ?_)
                intro v8 w8 hp8
                obtain ⟨hT9, hb8⟩ := hT.right hb.size hp8
                have hb9 := hb.trans hb8
                clear hrunQ hp8
                go_wp2
                go_roundg (gk - 1)
                case measure => omega
                case rel => exact ⟨m + 1, P, (Q ++ [(m : Int)]), .slice pa P.length pc, v8, by omega, by omega, by go_num, by first | rfl | simp, by first | rfl | simp, by first | omega | (rw [List.length_append]; simp; omega), by first | omega | (rw [List.length_append]; simp; omega), hT9, hb9⟩
          | true =>
            go_wp2_with fail
            refine (i1).mono ?_
            rintro e w5 ⟨rfl, hw5⟩
            subst hw5
            clear i1
            go_wp2_with (at_builtin; refine wp_by rfl _ _ _ rfl _ _ rfl rfl hrunP.out ?_)
            intro v6 w6 hp6
            obtain ⟨hT6, hb6⟩ := hT.left hb.size hp6
            have hb7 := hb.trans hb6
            clear hrunP hp6 hT
            obtain ⟨ra, rc, hrv, -⟩ := hT6.1.1.shape
            subst hrv
            have hbw2 := hb02.trans (hb7.mono hb02.size)
            have e1 : w6.cell? ⟨w.heap.size + 1, 1, none⟩ = some (.int .u8 r1) := by rw [cells_of_block ((hb7.block (w.heap.size + 1) (by omega)).trans g2)]; rfl
            have i2 := rin_of a (.slice aa a.length ac) (m : Int) w6 (hAH.out.below (hb02.trans (hb7.mono hb02.size))) (by omega)
            have hrunQ : Hid _ := push_int (m : Int) hT6.2.1.1 (by omega)
            generalize decide ((m : Int) ∈ a) = A2 at *
            cases hd1 : ((r1 / 2 ^ m).tmod 2 == 1) with
            | false =>
              clear i2
              have hT9 := hT6
              clear hrunQ
              go_wp2
              go_roundg (gk - 1)
              case measure => omega
              case rel => exact ⟨m + 1, (P ++ [(m : Int)]), Q, .slice ra (P ++ [(m : Int)]).length rc, .slice qa Q.length qc, by omega, by omega, by go_num, by first | rfl | simp, by first | rfl | simp, by first | omega | (rw [List.length_append]; simp; omega), by first | omega | (rw [List.length_append]; simp; omega), hT9, hb7⟩
            | true =>
              cases A2 with
              | false =>
                have hT9 := hT6
                clear hrunQ
                go_wp2_with fail
                refine (i2).mono ?_
                rintro e w7 ⟨rfl, hw7⟩
                subst hw7
                clear i2
                go_wp2
                go_roundg (gk - 1)
                case measure => omega
                case rel => exact ⟨m + 1, (P ++ [(m : Int)]), Q, .slice ra (P ++ [(m : Int)]).length rc, .slice qa Q.length qc, by omega, by omega, by go_num, by first | rfl | simp, by first | rfl | simp, by first | omega | (rw [List.length_append]; simp; omega), by first | omega | (rw [List.length_append]; simp; omega), hT9, hb7⟩
              | true =>
                go_wp2_with fail
                refine (i2).mono ?_
                rintro e w7 ⟨rfl, hw7⟩
                subst hw7
                clear i2
                go_wp2_with (at_builtin; refine wp_by rfl _ _ _ rfl _ _ rfl rfl hrunQ.out ?_)
                intro v8 w8 hp8
                obtain ⟨hT9, hb8⟩ := hT6.right hb7.size hp8
                have hb9 := hb7.trans hb8
                clear hrunQ hp8
                go_wp2
                go_roundg (gk - 1)
                case measure => omega
                case rel => exact ⟨m + 1, (P ++ [(m : Int)]), (Q ++ [(m : Int)]), .slice ra (P ++ [(m : Int)]).length rc, v8, by omega, by omega, by go_num, by first | rfl | simp, by first | rfl | simp, by first | omega | (rw [List.length_append]; simp; omega), by first | omega | (rw [List.length_append]; simp; omega), hT9, hb9⟩
      · have hlti : ¬ (m : Int) ≤ 7 := by omega
        have k1 := won_of a (.slice aa a.length ac) P (.slice pa P.length pc) wr (hAH.out.below hbw) hT.1.1.rd (by omega) (by omega)
        have k2 := won_of a (.slice aa a.length ac) Q (.slice qa Q.length qc) wr (hAH.out.below (hb02.trans (hb.mono hb02.size))) hT.2.1.1.rd (by omega) (by omega)
        have k3 := meet_of P (.slice pa P.length pc) Q (.slice qa Q.length qc) wr hT.1.1.rd hT.2.1.1.rd (by omega) (by omega)
        cases hw1 : wonB a P with
        | false =>
          rw [hw1] at k1
          clear HMJ HBL hw1 k2 k3 hT
          go_wp2_with fail
          refine (k1).mono ?_
          rintro e w5 ⟨rfl, hw5⟩
          subst hw5
          go_wp2_with fail
          refine (ka _).mono ?_
          rintro e w9 ⟨rfl, hb9⟩
          go_wp2
          go_ret
          exact ⟨rfl, hbw.trans (hb9.mono hbw.size)⟩
        | true =>
          rw [hw1] at k1
          cases hw2 : wonB a Q with
          | false =>
            rw [hw2] at k2
            clear HMJ HBL hw1 hw2 k3 hT
            go_wp2_with fail
            refine (k1).mono ?_
            rintro e w5 ⟨rfl, hw5⟩
            subst hw5
            go_wp2_with fail
            refine (k2).mono ?_
            rintro e w6 ⟨rfl, hw6⟩
            subst hw6
            go_wp2_with fail
            refine (ka _).mono ?_
            rintro e w9 ⟨rfl, hb9⟩
            go_wp2
            go_ret
            exact ⟨rfl, hbw.trans (hb9.mono hbw.size)⟩
          | true =>
            rw [hw2] at k2
            unfold wonB at hw1 hw2
            rw [Bool.and_eq_true, decide_eq_true_eq] at hw1 hw2
            obtain ⟨z, hz1, hz2⟩ := HMJ.out a P Q hw1.1 hw1.2 HBL.out hw2.2
            rw [decide_eq_true (cnt_pos.2 ⟨z, hz1, hz2⟩)] at k3
            clear HMJ HBL hw1 hw2 hz1 hz2 hT
            go_wp2_with fail
            refine (k1).mono ?_
            rintro e w5 ⟨rfl, hw5⟩
            subst hw5
            go_wp2_with fail
            refine (k2).mono ?_
            rintro e w6 ⟨rfl, hw6⟩
            subst hw6
            go_wp2_with fail
            refine (k3).mono ?_
            rintro e w7 ⟨rfl, hb7⟩
            have hb07 := hbw.trans (hb7.mono hbw.size)
            go_wp2_with fail
            refine (ka _).mono ?_
            rintro e w9 ⟨rfl, hb9⟩
            go_wp2
            go_ret
            exact ⟨rfl, hb07.trans (hb9.mono hb07.size)⟩
end Go.Proofs.Ytfbmeeankkfjbaa

