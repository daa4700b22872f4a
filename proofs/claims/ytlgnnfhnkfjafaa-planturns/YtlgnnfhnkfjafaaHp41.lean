import Derived.Test.YtlgnnfhnkfjafaaHp40
/- Step of plan, and the document's. -/
namespace Go.Proofs.Ytlgnnfhnkfjafaa
open Go.RowKit SpanMath ChartMath PlanMath
set_option maxRecDepth 100000
set_option linter.unusedSimpArgs false
set_option linter.unusedVariables false

def stepM (l : List Rg) (ps : List Pl) (pid : Nat) (sn : Int) : List Rg × List Pl × Int := if planB l ps = true then (match ps with | [] => ([], [], 4) | p :: _ => if p.1 ≠ pid then ([], [], 4) else if sn ≤ p.2.2.2.2 then ([], [], 7) else if p.2.2.2.2 + 1 < sn then ([], [], 1) else comeM l (p.1, p.2.1, p.2.2.1, p.2.2.2.1, sn)) else ([], [], 1)
set_option maxHeartbeats 8000000 in
theorem step_of (l : List Rg) (ps : List Pl) (lv v : Value) (pid : Nat) (sn : Int) (w : World) (hF : Rd rgE w lv l) (hP : Rd plE w v ps) (hlen : l.length ≤ 1000000) (hpl : ps.length ≤ 1000000) : Calls Try.prog 12 #[lv, v, .int .u64 (pid : Int), .int .i64 sn] w fun e w' => STurn (stepM l ps pid sn) e w' ∧ Below w.heap.size w w' := by
  obtain ⟨T, HT⟩ : ∃ T, Hid (T = STurn (stepM l ps pid sn)) := ⟨_, rfl⟩
  rw [← HT.out]
  have k1 := plcheck_of l ps lv v w hF.cv hP hlen hpl
  have ks : Hid (∀ p W, Below w.heap.size w W → _) := fun p W hW => come_of l lv p W (hF.below hW) hlen
  have HPP : Hid (Rd plE w v ps) := hP
  obtain ⟨ao, cap, rfl, -⟩ := id hF
  obtain ⟨po, pcap, rfl, -⟩ := id hP
  unfold stepM at HT
  cases hB : planB l ps with
  | false =>
    rw [hB] at k1 HT
    simp only [Bool.false_eq_true, if_false] at k1
    have E : Hid (T = STurn ([], [], 1)) := by show _ = _; rw [HT.out]; rfl
    clear HT hB HPP ks hF hP hpl
    go_enter Try.func12, Try.ntmps12
    go_wp2_with fail
    refine k1.mono ?_
    rintro e w1 ⟨rfl, hb1⟩
    go_wp2
    go_ret3
    exact ⟨by rw [E.out]; exact ⟨_, _, rfl, rg_nil _, pl_nil _⟩, hb1⟩
  | true =>
    have hple : ps.length ≤ 1 := by
      unfold planB at hB
      simp only [Bool.and_eq_true, decide_eq_true_eq] at hB
      exact hB.1.2
    have HST : Hid (∀ p, ps = [p] → 1 ≤ p.2.2.2.2 ∧ p.2.2.2.2 ≤ 5) := fun p h => by
      rw [h] at hB
      have h2 := (plan_iff.1 hB).2.1
      unfold okP at h2
      simp only [Bool.and_eq_true, decide_eq_true_eq] at h2
      exact ⟨h2.1.2, h2.2⟩
    rw [hB] at k1 HT
    rw [if_pos rfl] at HT
    simp only [if_true] at k1
    clear hB
    cases hps : ps with
    | nil =>
      subst hps
      have E : Hid (T = STurn ([], [], 4)) := by show _ = _; rw [HT.out]
      clear HT HPP ks hF hP hpl HST hple
      rw [show ([] : List Pl).length = 0 from rfl] at *
      go_enter Try.func12, Try.ntmps12
      go_wp2_with fail
      refine k1.mono ?_
      rintro e w1 ⟨rfl, hb1⟩
      go_wp2
      go_ret3
      exact ⟨by rw [E.out]; exact ⟨_, _, rfl, rg_nil _, pl_nil _⟩, hb1⟩
    | cons p qs =>
      have hqs : qs = [] := by
        rw [hps, List.length_cons] at hple
        exact List.eq_nil_of_length_eq_zero (by omega)
      subst hqs
      subst hps
      have hst := HST.out p rfl
      obtain ⟨pb, poff, rfl, hp0⟩ := pl_at HPP.out (i := 0) (x := p) rfl
      have hp : Hid (∀ W, Below w.heap.size w W → W.cell? ⟨pb, poff, none⟩ = some (.int .u64 (p.1 : Int)) ∧ W.cell? ⟨pb, poff + 1, none⟩ = some (.string (bk p.2.1.1)) ∧ W.cell? ⟨pb, poff + 2, none⟩ = some (.string (bk p.2.1.2)) ∧ W.cell? ⟨pb, poff + 3, none⟩ = some (.int .i64 p.2.2.1) ∧ W.cell? ⟨pb, poff + 4, none⟩ = some (.int .i64 p.2.2.2.1) ∧ W.cell? ⟨pb, poff + 5, none⟩ = some (.int .i64 p.2.2.2.2)) := fun W hW => by
        have h0 := hp0 W hW
        rw [Nat.zero_mul, Nat.add_zero] at h0
        exact h0
      rw [show ([p] : List Pl).length = 1 from rfl] at *
      obtain ⟨pi, ⟨s1, s2⟩, f, t, s⟩ := p
      dsimp only at hp HT hst
      clear HPP hp0 hF hP hpl HST hple
      by_cases hid : pi = pid
      · have hidd : ((pi : Int) != (pid : Int)) = false := by simp [hid]
        rw [if_neg (by simp [hid])] at HT
        clear hid
        by_cases h7 : sn ≤ s
        · have h7d : decide (sn ≤ s) = true := decide_eq_true h7
          rw [if_pos h7] at HT
          clear ks
          go_enter Try.func12, Try.ntmps12
          go_wp2_with fail
          refine k1.mono ?_
          rintro e w1 ⟨rfl, hb1⟩
          obtain ⟨y0, y1, y2, y3, y4, y5⟩ := hp.out w1 hb1
          obtain ⟨z1, z2, z3⟩ := one_box w1 (.cells #[.int .u64 (pi : Int), .string (bk s1), .string (bk s2), .int .i64 f, .int .i64 t, .int .i64 s] 45)
          obtain ⟨c0, c1, c2, c3, c4, c5⟩ := cells6p z2
          have hb2 : Hid (Below w.heap.size w (w1.alloc (.cells #[.int .u64 (pi : Int), .string (bk s1), .string (bk s2), .int .i64 f, .int .i64 t, .int .i64 s] 45))) := hb1.trans (z3.mono hb1.size)
          clear k1 hb1 z1 z2 z3 hp
          go_wp2
          go_ret3
          exact ⟨by rw [HT.out]; exact ⟨_, _, rfl, rg_nil _, pl_nil _⟩, hb2.out⟩
        · have h7d : decide (sn ≤ s) = false := decide_eq_false h7
          rw [if_neg h7] at HT
          have j1 : IntKind.i64.wrap (s + 1) = s + 1 := IntWalk.i64_in _ (by omega)
          by_cases h8 : s + 1 < sn
          · have h8d : decide (s + 1 < sn) = true := decide_eq_true h8
            rw [if_pos h8] at HT
            clear ks
            go_enter Try.func12, Try.ntmps12
            go_wp2_with fail
            refine k1.mono ?_
            rintro e w1 ⟨rfl, hb1⟩
            obtain ⟨y0, y1, y2, y3, y4, y5⟩ := hp.out w1 hb1
            obtain ⟨z1, z2, z3⟩ := one_box w1 (.cells #[.int .u64 (pi : Int), .string (bk s1), .string (bk s2), .int .i64 f, .int .i64 t, .int .i64 s] 45)
            obtain ⟨c0, c1, c2, c3, c4, c5⟩ := cells6p z2
            have hb2 : Hid (Below w.heap.size w (w1.alloc (.cells #[.int .u64 (pi : Int), .string (bk s1), .string (bk s2), .int .i64 f, .int .i64 t, .int .i64 s] 45))) := hb1.trans (z3.mono hb1.size)
            clear k1 hb1 z1 z2 z3 hp
            go_wp2
            go_ret3
            exact ⟨by rw [HT.out]; exact ⟨_, _, rfl, rg_nil _, pl_nil _⟩, hb2.out⟩
          · have h8d : decide (s + 1 < sn) = false := decide_eq_false h8
            rw [if_neg h8] at HT
            go_enter Try.func12, Try.ntmps12
            go_wp2_with fail
            refine k1.mono ?_
            rintro e w1 ⟨rfl, hb1⟩
            obtain ⟨y0, y1, y2, y3, y4, y5⟩ := hp.out w1 hb1
            obtain ⟨z1, z2, z3⟩ := one_box w1 (.cells #[.int .u64 (pi : Int), .string (bk s1), .string (bk s2), .int .i64 f, .int .i64 t, .int .i64 s] 45)
            obtain ⟨c0, c1, c2, c3, c4, c5⟩ := cells6p z2
            have hb2 : Hid (Below w.heap.size w (w1.alloc (.cells #[.int .u64 (pi : Int), .string (bk s1), .string (bk s2), .int .i64 f, .int .i64 t, .int .i64 s] 45))) := hb1.trans (z3.mono hb1.size)
            obtain ⟨g0, g1, g2, g3, g4, g5⟩ : ((w1.alloc (.cells #[.int .u64 (pi : Int), .string (bk s1), .string (bk s2), .int .i64 f, .int .i64 t, .int .i64 s] 45)).frozen? ⟨w1.heap.size, 0, none⟩ = false) ∧ ((w1.alloc (.cells #[.int .u64 (pi : Int), .string (bk s1), .string (bk s2), .int .i64 f, .int .i64 t, .int .i64 s] 45)).frozen? ⟨w1.heap.size, 1, none⟩ = false) ∧ ((w1.alloc (.cells #[.int .u64 (pi : Int), .string (bk s1), .string (bk s2), .int .i64 f, .int .i64 t, .int .i64 s] 45)).frozen? ⟨w1.heap.size, 2, none⟩ = false) ∧ ((w1.alloc (.cells #[.int .u64 (pi : Int), .string (bk s1), .string (bk s2), .int .i64 f, .int .i64 t, .int .i64 s] 45)).frozen? ⟨w1.heap.size, 3, none⟩ = false) ∧ ((w1.alloc (.cells #[.int .u64 (pi : Int), .string (bk s1), .string (bk s2), .int .i64 f, .int .i64 t, .int .i64 s] 45)).frozen? ⟨w1.heap.size, 4, none⟩ = false) ∧ ((w1.alloc (.cells #[.int .u64 (pi : Int), .string (bk s1), .string (bk s2), .int .i64 f, .int .i64 t, .int .i64 s] 45)).frozen? ⟨w1.heap.size, 5, none⟩ = false) := ⟨frozen_of z2 0, frozen_of z2 1, frozen_of z2 2, frozen_of z2 3, frozen_of z2 4, frozen_of z2 5⟩
            obtain ⟨t1, t2, t3⟩ := one_box w1 (.cells #[.int .u64 (pi : Int), .string (bk s1), .string (bk s2), .int .i64 f, .int .i64 t, .int .i64 sn] 45)
            obtain ⟨d0, d1, d2, d3, d4, d5⟩ := cells6p t2
            have hbN := hb1.trans (t3.mono hb1.size)
            have k2 := ks.out (pi, (s1, s2), f, t, sn) _ hbN
            dsimp only [pv] at k2
            have hbNH : Hid (Below w.heap.size w (w1.alloc (.cells #[.int .u64 (pi : Int), .string (bk s1), .string (bk s2), .int .i64 f, .int .i64 t, .int .i64 sn] 45))) := hbN
            clear ks k1 hb1 z1 z2 z3 hp t1 t2 t3 hbN h7 h8
            go_wp2_with fail
            refine k2.mono ?_
            rintro e w2 ⟨⟨a', b', rfl, ha', hb'⟩, hbc⟩
            have hE : Hid (Below w.heap.size w w2) := hbNH.out.trans (hbc.mono hbNH.out.size)
            have haH : Hid (Rd rgE w2 a' (comeM l (pi, (s1, s2), f, t, sn)).1) := ha'
            have hbH : Hid (Rd plE w2 b' (comeM l (pi, (s1, s2), f, t, sn)).2.1) := hb'
            obtain ⟨aa, ac, hav, -⟩ := id ha'
            obtain ⟨ba, bc, hbv, -⟩ := id hb'
            generalize comeM l (pi, (s1, s2), f, t, sn) = Q at *
            obtain ⟨q1, q2, q3⟩ := Q
            dsimp only at hav hbv haH hbH
            subst hav hbv
            clear k2 hbc ha' hb' hbNH
            go_wp2
            go_ret3
            exact ⟨by rw [HT.out]; exact ⟨_, _, rfl, haH.out, hbH.out⟩, hE.out⟩
      · have hidd : ((pi : Int) != (pid : Int)) = true := (bne_iff_ne).2 (show ((pi : Int) ≠ (pid : Int)) by omega)
        rw [if_pos hid] at HT
        clear ks hid
        go_enter Try.func12, Try.ntmps12
        go_wp2_with fail
        refine k1.mono ?_
        rintro e w1 ⟨rfl, hb1⟩
        obtain ⟨y0, y1, y2, y3, y4, y5⟩ := hp.out w1 hb1
        clear hp
        go_wp2
        go_ret3
        exact ⟨by rw [HT.out]; exact ⟨_, _, rfl, rg_nil _, pl_nil _⟩, hb1⟩
set_option maxHeartbeats 8000000 in
theorem rstep_of (l : List Rg) (ps : List Pl) (lv v : Value) (pid : Nat) (sn : Int) (w : World) (hF : Rd rgE w lv l) (hP : Rd plE w v ps) (hlen : l.length ≤ 1000000) (hpl : ps.length ≤ 1000000) : Calls Try.prog 13 #[lv, v, .int .u64 (pid : Int), .int .i64 sn] w fun e w' => STurn (stepM l ps pid sn) e w' ∧ Below w.heap.size w w' := by
  obtain ⟨T, HT⟩ : ∃ T, Hid (T = STurn (stepM l ps pid sn)) := ⟨_, rfl⟩
  rw [← HT.out]
  have k1 := rplmay_of l ps lv v w hF.cv hP hlen hpl
  have ks : Hid (∀ k t W, Below w.heap.size w W → _) := fun k t W hW => rmove_of l lv k t W (hF.below hW)
  have HPP : Hid (Rd plE w v ps) := hP
  obtain ⟨ao, cap, rfl, -⟩ := id hF
  have hFH : Hid (Rd rgE w (.slice ao l.length cap) l) := hF
  obtain ⟨po, pcap, rfl, -⟩ := id hP
  unfold stepM at HT
  cases hB : planB l ps with
  | false =>
    rw [hB] at k1 HT
    have E : Hid (T = STurn ([], [], 1)) := by show _ = _; rw [HT.out]; rfl
    clear HT hB HPP ks hF hP hpl
    go_enter Try.func13, Try.ntmps13
    go_wp2_with fail
    refine k1.mono ?_
    rintro e w1 ⟨rfl, hb1⟩
    go_wp2
    go_ret3
    exact ⟨by rw [E.out]; exact ⟨_, _, rfl, rg_nil _, pl_nil _⟩, hb1⟩
  | true =>
    have hple : ps.length ≤ 1 := by
      unfold planB at hB
      simp only [Bool.and_eq_true, decide_eq_true_eq] at hB
      exact hB.1.2
    have HST : Hid (∀ p, ps = [p] → 1 ≤ p.2.2.2.2 ∧ p.2.2.2.2 ≤ 5) := fun p h => by
      rw [h] at hB
      have h2 := (plan_iff.1 hB).2.1
      unfold okP at h2
      simp only [Bool.and_eq_true, decide_eq_true_eq] at h2
      exact ⟨h2.1.2, h2.2⟩
    rw [hB] at k1 HT
    rw [if_pos rfl] at HT
    clear hB
    cases hps : ps with
    | nil =>
      subst hps
      have E : Hid (T = STurn ([], [], 4)) := by show _ = _; rw [HT.out]
      clear HT HPP ks hF hP hpl HST hple
      rw [show ([] : List Pl).length = 0 from rfl] at *
      go_enter Try.func13, Try.ntmps13
      go_wp2_with fail
      refine k1.mono ?_
      rintro e w1 ⟨rfl, hb1⟩
      go_wp2
      go_ret3
      exact ⟨by rw [E.out]; exact ⟨_, _, rfl, rg_nil _, pl_nil _⟩, hb1⟩
    | cons p qs =>
      have hqs : qs = [] := by
        rw [hps, List.length_cons] at hple
        exact List.eq_nil_of_length_eq_zero (by omega)
      subst hqs
      subst hps
      have hst := HST.out p rfl
      obtain ⟨pb, poff, rfl, hp0⟩ := pl_at HPP.out (i := 0) (x := p) rfl
      have hp : Hid (∀ W, Below w.heap.size w W → W.cell? ⟨pb, poff, none⟩ = some (.int .u64 (p.1 : Int)) ∧ W.cell? ⟨pb, poff + 1, none⟩ = some (.string (bk p.2.1.1)) ∧ W.cell? ⟨pb, poff + 2, none⟩ = some (.string (bk p.2.1.2)) ∧ W.cell? ⟨pb, poff + 3, none⟩ = some (.int .i64 p.2.2.1) ∧ W.cell? ⟨pb, poff + 4, none⟩ = some (.int .i64 p.2.2.2.1) ∧ W.cell? ⟨pb, poff + 5, none⟩ = some (.int .i64 p.2.2.2.2)) := fun W hW => by
        have h0 := hp0 W hW
        rw [Nat.zero_mul, Nat.add_zero] at h0
        exact h0
      rw [show ([p] : List Pl).length = 1 from rfl] at *
      obtain ⟨pi, ⟨s1, s2⟩, f, t, s⟩ := p
      dsimp only at hp HT hst
      clear HPP hp0 hF hP hpl HST hple
      by_cases hid : pi = pid
      · have hidd : ((pi : Int) != (pid : Int)) = false := by simp [hid]
        rw [if_neg (by simp [hid])] at HT
        clear hid
        by_cases h7 : sn ≤ s
        · have h7d : decide (sn ≤ s) = true := decide_eq_true h7
          rw [if_pos h7] at HT
          clear ks
          go_enter Try.func13, Try.ntmps13
          go_wp2_with fail
          refine k1.mono ?_
          rintro e w1 ⟨rfl, hb1⟩
          obtain ⟨y0, y1, y2, y3, y4, y5⟩ := hp.out w1 hb1
          obtain ⟨z1, z2, z3⟩ := one_box w1 (.cells #[.int .u64 (pi : Int), .string (bk s1), .string (bk s2), .int .i64 f, .int .i64 t, .int .i64 s] 45)
          obtain ⟨c0, c1, c2, c3, c4, c5⟩ := cells6p z2
          have hb2 : Hid (Below w.heap.size w (w1.alloc (.cells #[.int .u64 (pi : Int), .string (bk s1), .string (bk s2), .int .i64 f, .int .i64 t, .int .i64 s] 45))) := hb1.trans (z3.mono hb1.size)
          clear k1 hb1 z1 z2 z3 hp
          go_wp2
          go_ret3
          exact ⟨by rw [HT.out]; exact ⟨_, _, rfl, rg_nil _, pl_nil _⟩, hb2.out⟩
        · have h7d : decide (sn ≤ s) = false := decide_eq_false h7
          rw [if_neg h7] at HT
          have j1 : IntKind.i64.wrap (s + 1) = s + 1 := IntWalk.i64_in _ (by omega)
          by_cases h8 : s + 1 < sn
          · have h8d : decide (s + 1 < sn) = true := decide_eq_true h8
            rw [if_pos h8] at HT
            clear ks
            go_enter Try.func13, Try.ntmps13
            go_wp2_with fail
            refine k1.mono ?_
            rintro e w1 ⟨rfl, hb1⟩
            obtain ⟨y0, y1, y2, y3, y4, y5⟩ := hp.out w1 hb1
            obtain ⟨z1, z2, z3⟩ := one_box w1 (.cells #[.int .u64 (pi : Int), .string (bk s1), .string (bk s2), .int .i64 f, .int .i64 t, .int .i64 s] 45)
            obtain ⟨c0, c1, c2, c3, c4, c5⟩ := cells6p z2
            have hb2 : Hid (Below w.heap.size w (w1.alloc (.cells #[.int .u64 (pi : Int), .string (bk s1), .string (bk s2), .int .i64 f, .int .i64 t, .int .i64 s] 45))) := hb1.trans (z3.mono hb1.size)
            clear k1 hb1 z1 z2 z3 hp
            go_wp2
            go_ret3
            exact ⟨by rw [HT.out]; exact ⟨_, _, rfl, rg_nil _, pl_nil _⟩, hb2.out⟩
          · have h8d : decide (s + 1 < sn) = false := decide_eq_false h8
            rw [if_neg h8] at HT
            unfold comeM at HT
            dsimp only at HT
            by_cases h6 : sn = 6
            · have h6d : (sn == 6) = true := by simp [h6]
              rw [if_neg (show ¬ sn = 4 by omega), if_pos h6] at HT
              clear h6 h7 h8 ks
              go_enter Try.func13, Try.ntmps13
              go_wp2_with fail
              refine k1.mono ?_
              rintro e w1 ⟨rfl, hb1⟩
              obtain ⟨y0, y1, y2, y3, y4, y5⟩ := hp.out w1 hb1
              obtain ⟨z1, z2, z3⟩ := one_box w1 (.cells #[.int .u64 (pi : Int), .string (bk s1), .string (bk s2), .int .i64 f, .int .i64 t, .int .i64 s] 45)
              obtain ⟨c0, c1, c2, c3, c4, c5⟩ := cells6p z2
              have hb2 : Hid (Below w.heap.size w (w1.alloc (.cells #[.int .u64 (pi : Int), .string (bk s1), .string (bk s2), .int .i64 f, .int .i64 t, .int .i64 s] 45))) := hb1.trans (z3.mono hb1.size)
              have hlE : Hid (Rd rgE (w1.alloc (.cells #[.int .u64 (pi : Int), .string (bk s1), .string (bk s2), .int .i64 f, .int .i64 t, .int .i64 s] 45)) (.slice ao l.length cap) l) := Rd.below (Rd.below hFH.out hb1) z3
              clear k1 hb1 z1 z2 z3 hp
              go_wp2
              go_ret3
              exact ⟨by rw [HT.out]; exact ⟨_, _, rfl, hlE.out, pl_nil _⟩, hb2.out⟩
            · have h6d : (sn == 6) = false := by simpa using h6
              by_cases h4 : sn = 4
              · have h4d : (sn == 4) = true := by simp [h4]
                rw [if_pos h4] at HT
                clear h6 h4 h7 h8
                go_enter Try.func13, Try.ntmps13
                go_wp2_with fail
                refine k1.mono ?_
                rintro e w1 ⟨rfl, hb1⟩
                obtain ⟨y0, y1, y2, y3, y4, y5⟩ := hp.out w1 hb1
                obtain ⟨z1, z2, z3⟩ := one_box w1 (.cells #[.int .u64 (pi : Int), .string (bk s1), .string (bk s2), .int .i64 f, .int .i64 t, .int .i64 s] 45)
                obtain ⟨c0, c1, c2, c3, c4, c5⟩ := cells6p z2
                have hb2 : Hid (Below w.heap.size w (w1.alloc (.cells #[.int .u64 (pi : Int), .string (bk s1), .string (bk s2), .int .i64 f, .int .i64 t, .int .i64 s] 45))) := hb1.trans (z3.mono hb1.size)
                obtain ⟨g0, g1, g2, g3, g4, g5⟩ : ((w1.alloc (.cells #[.int .u64 (pi : Int), .string (bk s1), .string (bk s2), .int .i64 f, .int .i64 t, .int .i64 s] 45)).frozen? ⟨w1.heap.size, 0, none⟩ = false) ∧ ((w1.alloc (.cells #[.int .u64 (pi : Int), .string (bk s1), .string (bk s2), .int .i64 f, .int .i64 t, .int .i64 s] 45)).frozen? ⟨w1.heap.size, 1, none⟩ = false) ∧ ((w1.alloc (.cells #[.int .u64 (pi : Int), .string (bk s1), .string (bk s2), .int .i64 f, .int .i64 t, .int .i64 s] 45)).frozen? ⟨w1.heap.size, 2, none⟩ = false) ∧ ((w1.alloc (.cells #[.int .u64 (pi : Int), .string (bk s1), .string (bk s2), .int .i64 f, .int .i64 t, .int .i64 s] 45)).frozen? ⟨w1.heap.size, 3, none⟩ = false) ∧ ((w1.alloc (.cells #[.int .u64 (pi : Int), .string (bk s1), .string (bk s2), .int .i64 f, .int .i64 t, .int .i64 s] 45)).frozen? ⟨w1.heap.size, 4, none⟩ = false) ∧ ((w1.alloc (.cells #[.int .u64 (pi : Int), .string (bk s1), .string (bk s2), .int .i64 f, .int .i64 t, .int .i64 s] 45)).frozen? ⟨w1.heap.size, 5, none⟩ = false) := ⟨frozen_of z2 0, frozen_of z2 1, frozen_of z2 2, frozen_of z2 3, frozen_of z2 4, frozen_of z2 5⟩
                obtain ⟨t1, t2, t3⟩ := one_box w1 (.cells #[.int .u64 (pi : Int), .string (bk s1), .string (bk s2), .int .i64 f, .int .i64 t, .int .i64 sn] 45)
                obtain ⟨d0, d1, d2, d3, d4, d5⟩ := cells6p t2
                have hbN := hb1.trans (t3.mono hb1.size)
                have k2 := ks.out s1 t _ hbN
                unfold TurnT at k2
                generalize moveM l s1 t = M at *
                obtain ⟨m, c⟩ := M
                dsimp only at k2 HT
                have hbNH : Hid (Below w.heap.size w (w1.alloc (.cells #[.int .u64 (pi : Int), .string (bk s1), .string (bk s2), .int .i64 f, .int .i64 t, .int .i64 sn] 45))) := hbN
                have t2H : Hid ((w1.alloc (.cells #[.int .u64 (pi : Int), .string (bk s1), .string (bk s2), .int .i64 f, .int .i64 t, .int .i64 sn] 45)).heap[w1.heap.size]? = some (.cells #[.int .u64 (pi : Int), .string (bk s1), .string (bk s2), .int .i64 f, .int .i64 t, .int .i64 sn] 45 (0, 0))) := t2
                clear ks k1 hb1 z1 z2 z3 hp t1 t2 t3 hbN hb2
                by_cases hc : c = 0
                · have hcd : (c != 0) = false := by simp [hc]
                  rw [if_neg (show ¬ c ≠ 0 from fun h => h hc)] at HT
                  clear hc
                  go_wp2_with fail
                  refine k2.mono ?_
                  rintro e w2 ⟨⟨mv, rfl, hr⟩, hbc⟩
                  obtain ⟨ma, mc, rfl, -⟩ := id hr
                  have hb3 : Below w.heap.size w w2 := hbNH.out.trans (hbc.mono hbNH.out.size)
                  have PX2 := (hbc.block _ (Array.getElem?_eq_some_iff.1 t2H.out).1).trans t2H.out
                  have hrH : Hid (Rd rgE w2 (.slice ma m.length mc) m) := hr
                  clear k2 hbc hr t2H hbNH
                  obtain ⟨wd, hwd⟩ : ∃ W, World.drew w2 = W := ⟨_, rfl⟩
                  have hbd : Below w.heap.size w wd := by rw [← hwd]; exact (hb3).drew
                  have PD : wd.heap[w1.heap.size]? = some (.cells #[.int .u64 (pi : Int), .string (bk s1), .string (bk s2), .int .i64 f, .int .i64 t, .int .i64 sn] 45 (0, 0)) := by rw [← hwd]; exact PX2
                  have hrD : Hid (Rd rgE wd (.slice ma m.length mc) m) := by rw [show wd = World.drew w2 from hwd.symm]; exact Rd.below (hrH.out) ((Below.refl _ w2).drew)
                  have cl : Hid (∀ W, Below wd.heap.size wd W → W.cell? ⟨w1.heap.size, 0, none⟩ = some (.int .u64 (pi : Int)) ∧ W.cell? ⟨w1.heap.size, 1, none⟩ = some (.string (bk s1)) ∧ W.cell? ⟨w1.heap.size, 2, none⟩ = some (.string (bk s2)) ∧ W.cell? ⟨w1.heap.size, 3, none⟩ = some (.int .i64 f) ∧ W.cell? ⟨w1.heap.size, 4, none⟩ = some (.int .i64 t) ∧ W.cell? ⟨w1.heap.size, 5, none⟩ = some (.int .i64 sn)) := fun W hW => cells6p ((hW.block _ (Array.getElem?_eq_some_iff.1 PD).1).trans PD)
                  have hy0 : Below wd.heap.size wd wd := Below.refl _ _
                  have yS0 : (fun W : World => (W.cell? ⟨w1.heap.size, 0, none⟩ = some (.int .u64 (pi : Int)) ∧ W.cell? ⟨w1.heap.size, 1, none⟩ = some (.string (bk s1)) ∧ W.cell? ⟨w1.heap.size, 2, none⟩ = some (.string (bk s2)) ∧ W.cell? ⟨w1.heap.size, 3, none⟩ = some (.int .i64 f) ∧ W.cell? ⟨w1.heap.size, 4, none⟩ = some (.int .i64 t) ∧ W.cell? ⟨w1.heap.size, 5, none⟩ = some (.int .i64 sn)) ∧ Below wd.heap.size wd W) wd := ⟨cl.out _ hy0, hy0⟩
                  have hwdH : Hid (World.drew w2 = wd) := hwd
                  have hbdH : Hid (Below w.heap.size w wd) := hbd
                  clear hwd PD PX2 hbd hb3 hrH
                  go_wp2_with fail
                  refine wp_region_L (fun W : World => (W.cell? ⟨w1.heap.size, 0, none⟩ = some (.int .u64 (pi : Int)) ∧ W.cell? ⟨w1.heap.size, 1, none⟩ = some (.string (bk s1)) ∧ W.cell? ⟨w1.heap.size, 2, none⟩ = some (.string (bk s2)) ∧ W.cell? ⟨w1.heap.size, 3, none⟩ = some (.int .i64 f) ∧ W.cell? ⟨w1.heap.size, 4, none⟩ = some (.int .i64 t) ∧ W.cell? ⟨w1.heap.size, 5, none⟩ = some (.int .i64 sn)) ∧ Below wd.heap.size wd W) [] (by kernel_rfl) ?_
                  rw [hwdH.out]
                  clear hwdH
                  refine wpAnyL_take 0 rfl (by kernel_rfl) (by kernel_rfl) (by kernel_rfl) (by kernel_rfl) (fun _ _ _ h => h) (by kernel_rfl) (by intro w' hS'; obtain ⟨⟨x0, x1, x2, x3, x4, x5⟩, xb⟩ := hS'; go_simp <;> rfl) yS0 ?_
                  try simp only [List.getElem_toArray, List.getElem_cons_succ, List.getElem_cons_zero, Act.put, List.setIfInBounds_toArray, List.set_cons_zero, List.set_cons_succ]
                  refine wpAnyL_take 1 rfl (by kernel_rfl) (by kernel_rfl) (by kernel_rfl) (by kernel_rfl) (fun _ _ _ h => h) (by kernel_rfl) (by intro w' hS'; obtain ⟨⟨x0, x1, x2, x3, x4, x5⟩, xb⟩ := hS'; go_simp <;> rfl) yS0 ?_
                  try simp only [List.getElem_toArray, List.getElem_cons_succ, List.getElem_cons_zero, Act.put, List.setIfInBounds_toArray, List.set_cons_zero, List.set_cons_succ]
                  refine wpAnyL_take 3 rfl (by kernel_rfl) (by kernel_rfl) (by kernel_rfl) (by kernel_rfl) (fun _ _ _ h => h) (by kernel_rfl) (by intro w' hS'; obtain ⟨⟨x0, x1, x2, x3, x4, x5⟩, xb⟩ := hS'; go_simp <;> rfl) yS0 ?_
                  try simp only [List.getElem_toArray, List.getElem_cons_succ, List.getElem_cons_zero, Act.put, List.setIfInBounds_toArray, List.set_cons_zero, List.set_cons_succ]
                  refine wpAnyL_one 2 (by kernel_rfl) rfl (by kernel_rfl) ?_
                  intro K' hK'
                  go_simp
                  obtain ⟨n1, n2, n3⟩ := one_box wd (.cells #[.int .u64 (pi : Int), .string (bk s1), .string (bk s2), .int .i64 f, .int .i64 t, .int .i64 sn] 45)
                  have hy1 := hy0.trans (n3.mono hy0.size)
                  have yS1 : (fun W : World => (W.cell? ⟨w1.heap.size, 0, none⟩ = some (.int .u64 (pi : Int)) ∧ W.cell? ⟨w1.heap.size, 1, none⟩ = some (.string (bk s1)) ∧ W.cell? ⟨w1.heap.size, 2, none⟩ = some (.string (bk s2)) ∧ W.cell? ⟨w1.heap.size, 3, none⟩ = some (.int .i64 f) ∧ W.cell? ⟨w1.heap.size, 4, none⟩ = some (.int .i64 t) ∧ W.cell? ⟨w1.heap.size, 5, none⟩ = some (.int .i64 sn)) ∧ Below wd.heap.size wd W) (wd.alloc (.cells #[.int .u64 (pi : Int), .string (bk s1), .string (bk s2), .int .i64 f, .int .i64 t, .int .i64 sn] 45)) := ⟨cl.out _ hy1, hy1⟩
                  have hpl1 : Hid (Rd plE (wd.alloc (.cells #[.int .u64 (pi : Int), .string (bk s1), .string (bk s2), .int .i64 f, .int .i64 t, .int .i64 sn] 45)) (.slice (some ⟨wd.heap.size, 0, none⟩) 1 1) [(pi, (s1, s2), f, t, sn)]) := pl_one (pi, (s1, s2), f, t, sn) n2
                  refine hK'.out _ _ (.inr yS1) ?_
                  clear hK' K'
                  try simp only [List.getElem_toArray, List.getElem_cons_succ, List.getElem_cons_zero, Act.put, List.setIfInBounds_toArray, List.set_cons_zero, List.set_cons_succ]
                  refine wpAnyL_take 4 rfl (by kernel_rfl) (by kernel_rfl) (by kernel_rfl) (by kernel_rfl) (fun _ _ _ h => h) (by kernel_rfl) (by intro w' hS'; obtain ⟨⟨x0, x1, x2, x3, x4, x5⟩, xb⟩ := hS'; go_simp <;> rfl) yS1 ?_
                  try simp only [List.getElem_toArray, List.getElem_cons_succ, List.getElem_cons_zero, Act.put, List.setIfInBounds_toArray, List.set_cons_zero, List.set_cons_succ]
                  refine wpAnyL_take 5 rfl (by kernel_rfl) (by kernel_rfl) (by kernel_rfl) (by kernel_rfl) (fun _ _ _ h => h) (by kernel_rfl) (by intro w' hS'; obtain ⟨⟨x0, x1, x2, x3, x4, x5⟩, xb⟩ := hS'; go_simp <;> rfl) yS1 ?_
                  try simp only [List.getElem_toArray, List.getElem_cons_succ, List.getElem_cons_zero, Act.put, List.setIfInBounds_toArray, List.set_cons_zero, List.set_cons_succ]
                  refine wpAnyL_done (by kernel_rfl) (NoPanic.normal ?_) _
                  have hE : Hid (Below w.heap.size w (wd.alloc (.cells #[.int .u64 (pi : Int), .string (bk s1), .string (bk s2), .int .i64 f, .int .i64 t, .int .i64 sn] 45))) := hbdH.out.trans (hy1.mono hbdH.out.size)
                  have hrE : Hid (Rd rgE (wd.alloc (.cells #[.int .u64 (pi : Int), .string (bk s1), .string (bk s2), .int .i64 f, .int .i64 t, .int .i64 sn] 45)) (.slice ma m.length mc) m) := Rd.below hrD.out hy1
                  clear yS0 yS1 hy0 hy1 n1 n2 n3 cl hrD hbdH
                  go_wp2
                  go_ret3
                  exact ⟨by rw [HT.out]; exact ⟨_, _, rfl, hrE.out, hpl1.out⟩, hE.out⟩
                · have hcd : (c != 0) = true := by simpa using hc
                  rw [if_pos hc] at HT
                  clear hc
                  go_wp2_with fail
                  refine k2.mono ?_
                  rintro e w2 ⟨⟨mv, rfl, hr⟩, hbc⟩
                  obtain ⟨ma, mc, rfl, -⟩ := id hr
                  have hb3 : Hid (Below w.heap.size w w2) := hbNH.out.trans (hbc.mono hbNH.out.size)
                  clear k2 hbc hr t2H hbNH
                  go_wp2
                  go_ret3
                  exact ⟨by rw [HT.out]; exact ⟨_, _, rfl, rg_nil _, pl_nil _⟩, hb3.out⟩
              · have h4d : (sn == 4) = false := by simpa using h4
                rw [if_neg h4, if_neg h6] at HT
                clear h6 h4 h7 h8 ks
                go_enter Try.func13, Try.ntmps13
                go_wp2_with fail
                refine k1.mono ?_
                rintro e w1 ⟨rfl, hb1⟩
                obtain ⟨y0, y1, y2, y3, y4, y5⟩ := hp.out w1 hb1
                obtain ⟨z1, z2, z3⟩ := one_box w1 (.cells #[.int .u64 (pi : Int), .string (bk s1), .string (bk s2), .int .i64 f, .int .i64 t, .int .i64 s] 45)
                obtain ⟨c0, c1, c2, c3, c4, c5⟩ := cells6p z2
                have hb2 : Hid (Below w.heap.size w (w1.alloc (.cells #[.int .u64 (pi : Int), .string (bk s1), .string (bk s2), .int .i64 f, .int .i64 t, .int .i64 s] 45))) := hb1.trans (z3.mono hb1.size)
                obtain ⟨g0, g1, g2, g3, g4, g5⟩ : ((w1.alloc (.cells #[.int .u64 (pi : Int), .string (bk s1), .string (bk s2), .int .i64 f, .int .i64 t, .int .i64 s] 45)).frozen? ⟨w1.heap.size, 0, none⟩ = false) ∧ ((w1.alloc (.cells #[.int .u64 (pi : Int), .string (bk s1), .string (bk s2), .int .i64 f, .int .i64 t, .int .i64 s] 45)).frozen? ⟨w1.heap.size, 1, none⟩ = false) ∧ ((w1.alloc (.cells #[.int .u64 (pi : Int), .string (bk s1), .string (bk s2), .int .i64 f, .int .i64 t, .int .i64 s] 45)).frozen? ⟨w1.heap.size, 2, none⟩ = false) ∧ ((w1.alloc (.cells #[.int .u64 (pi : Int), .string (bk s1), .string (bk s2), .int .i64 f, .int .i64 t, .int .i64 s] 45)).frozen? ⟨w1.heap.size, 3, none⟩ = false) ∧ ((w1.alloc (.cells #[.int .u64 (pi : Int), .string (bk s1), .string (bk s2), .int .i64 f, .int .i64 t, .int .i64 s] 45)).frozen? ⟨w1.heap.size, 4, none⟩ = false) ∧ ((w1.alloc (.cells #[.int .u64 (pi : Int), .string (bk s1), .string (bk s2), .int .i64 f, .int .i64 t, .int .i64 s] 45)).frozen? ⟨w1.heap.size, 5, none⟩ = false) := ⟨frozen_of z2 0, frozen_of z2 1, frozen_of z2 2, frozen_of z2 3, frozen_of z2 4, frozen_of z2 5⟩
                obtain ⟨t1, t2, t3⟩ := one_box w1 (.cells #[.int .u64 (pi : Int), .string (bk s1), .string (bk s2), .int .i64 f, .int .i64 t, .int .i64 sn] 45)
                obtain ⟨d0, d1, d2, d3, d4, d5⟩ := cells6p t2
                have hbN := hb1.trans (t3.mono hb1.size)
                have hlH : Hid (Rd rgE (w1.alloc (.cells #[.int .u64 (pi : Int), .string (bk s1), .string (bk s2), .int .i64 f, .int .i64 t, .int .i64 sn] 45)) (.slice ao l.length cap) l) := Rd.below (Rd.below hFH.out hb1) t3
                have hbNH : Hid (Below w.heap.size w (w1.alloc (.cells #[.int .u64 (pi : Int), .string (bk s1), .string (bk s2), .int .i64 f, .int .i64 t, .int .i64 sn] 45))) := hbN
                have t2H : Hid ((w1.alloc (.cells #[.int .u64 (pi : Int), .string (bk s1), .string (bk s2), .int .i64 f, .int .i64 t, .int .i64 sn] 45)).heap[w1.heap.size]? = some (.cells #[.int .u64 (pi : Int), .string (bk s1), .string (bk s2), .int .i64 f, .int .i64 t, .int .i64 sn] 45 (0, 0))) := t2
                clear k1 hb1 z1 z2 z3 hp t1 t2 t3 hbN hb2
                obtain ⟨wd, hwd⟩ : ∃ W, World.drew (w1.alloc (.cells #[.int .u64 (pi : Int), .string (bk s1), .string (bk s2), .int .i64 f, .int .i64 t, .int .i64 sn] 45)) = W := ⟨_, rfl⟩
                have hbd : Below w.heap.size w wd := by rw [← hwd]; exact (hbNH.out).drew
                have PD : wd.heap[w1.heap.size]? = some (.cells #[.int .u64 (pi : Int), .string (bk s1), .string (bk s2), .int .i64 f, .int .i64 t, .int .i64 sn] 45 (0, 0)) := by rw [← hwd]; exact t2H.out
                have hrD : Hid (Rd rgE wd (.slice ao l.length cap) l) := by rw [show wd = World.drew (w1.alloc (.cells #[.int .u64 (pi : Int), .string (bk s1), .string (bk s2), .int .i64 f, .int .i64 t, .int .i64 sn] 45)) from hwd.symm]; exact Rd.below (hlH.out) ((Below.refl _ (w1.alloc (.cells #[.int .u64 (pi : Int), .string (bk s1), .string (bk s2), .int .i64 f, .int .i64 t, .int .i64 sn] 45))).drew)
                have cl : Hid (∀ W, Below wd.heap.size wd W → W.cell? ⟨w1.heap.size, 0, none⟩ = some (.int .u64 (pi : Int)) ∧ W.cell? ⟨w1.heap.size, 1, none⟩ = some (.string (bk s1)) ∧ W.cell? ⟨w1.heap.size, 2, none⟩ = some (.string (bk s2)) ∧ W.cell? ⟨w1.heap.size, 3, none⟩ = some (.int .i64 f) ∧ W.cell? ⟨w1.heap.size, 4, none⟩ = some (.int .i64 t) ∧ W.cell? ⟨w1.heap.size, 5, none⟩ = some (.int .i64 sn)) := fun W hW => cells6p ((hW.block _ (Array.getElem?_eq_some_iff.1 PD).1).trans PD)
                have hy0 : Below wd.heap.size wd wd := Below.refl _ _
                have yS0 : (fun W : World => (W.cell? ⟨w1.heap.size, 0, none⟩ = some (.int .u64 (pi : Int)) ∧ W.cell? ⟨w1.heap.size, 1, none⟩ = some (.string (bk s1)) ∧ W.cell? ⟨w1.heap.size, 2, none⟩ = some (.string (bk s2)) ∧ W.cell? ⟨w1.heap.size, 3, none⟩ = some (.int .i64 f) ∧ W.cell? ⟨w1.heap.size, 4, none⟩ = some (.int .i64 t) ∧ W.cell? ⟨w1.heap.size, 5, none⟩ = some (.int .i64 sn)) ∧ Below wd.heap.size wd W) wd := ⟨cl.out _ hy0, hy0⟩
                have hwdH : Hid (World.drew (w1.alloc (.cells #[.int .u64 (pi : Int), .string (bk s1), .string (bk s2), .int .i64 f, .int .i64 t, .int .i64 sn] 45)) = wd) := hwd
                have hbdH : Hid (Below w.heap.size w wd) := hbd
                clear hwd PD t2H hbd hbNH hlH
                go_wp2_with fail
                refine wp_region_L (fun W : World => (W.cell? ⟨w1.heap.size, 0, none⟩ = some (.int .u64 (pi : Int)) ∧ W.cell? ⟨w1.heap.size, 1, none⟩ = some (.string (bk s1)) ∧ W.cell? ⟨w1.heap.size, 2, none⟩ = some (.string (bk s2)) ∧ W.cell? ⟨w1.heap.size, 3, none⟩ = some (.int .i64 f) ∧ W.cell? ⟨w1.heap.size, 4, none⟩ = some (.int .i64 t) ∧ W.cell? ⟨w1.heap.size, 5, none⟩ = some (.int .i64 sn)) ∧ Below wd.heap.size wd W) [] (by kernel_rfl) ?_
                rw [hwdH.out]
                clear hwdH
                refine wpAnyL_take 0 rfl (by kernel_rfl) (by kernel_rfl) (by kernel_rfl) (by kernel_rfl) (fun _ _ _ h => h) (by kernel_rfl) (by intro w' hS'; obtain ⟨⟨x0, x1, x2, x3, x4, x5⟩, xb⟩ := hS'; go_simp <;> rfl) yS0 ?_
                try simp only [List.getElem_toArray, List.getElem_cons_succ, List.getElem_cons_zero, Act.put, List.setIfInBounds_toArray, List.set_cons_zero, List.set_cons_succ]
                refine wpAnyL_take 1 rfl (by kernel_rfl) (by kernel_rfl) (by kernel_rfl) (by kernel_rfl) (fun _ _ _ h => h) (by kernel_rfl) (by intro w' hS'; obtain ⟨⟨x0, x1, x2, x3, x4, x5⟩, xb⟩ := hS'; go_simp <;> rfl) yS0 ?_
                try simp only [List.getElem_toArray, List.getElem_cons_succ, List.getElem_cons_zero, Act.put, List.setIfInBounds_toArray, List.set_cons_zero, List.set_cons_succ]
                refine wpAnyL_take 3 rfl (by kernel_rfl) (by kernel_rfl) (by kernel_rfl) (by kernel_rfl) (fun _ _ _ h => h) (by kernel_rfl) (by intro w' hS'; obtain ⟨⟨x0, x1, x2, x3, x4, x5⟩, xb⟩ := hS'; go_simp <;> rfl) yS0 ?_
                try simp only [List.getElem_toArray, List.getElem_cons_succ, List.getElem_cons_zero, Act.put, List.setIfInBounds_toArray, List.set_cons_zero, List.set_cons_succ]
                refine wpAnyL_one 2 (by kernel_rfl) rfl (by kernel_rfl) ?_
                intro K' hK'
                go_simp
                obtain ⟨n1, n2, n3⟩ := one_box wd (.cells #[.int .u64 (pi : Int), .string (bk s1), .string (bk s2), .int .i64 f, .int .i64 t, .int .i64 sn] 45)
                have hy1 := hy0.trans (n3.mono hy0.size)
                have yS1 : (fun W : World => (W.cell? ⟨w1.heap.size, 0, none⟩ = some (.int .u64 (pi : Int)) ∧ W.cell? ⟨w1.heap.size, 1, none⟩ = some (.string (bk s1)) ∧ W.cell? ⟨w1.heap.size, 2, none⟩ = some (.string (bk s2)) ∧ W.cell? ⟨w1.heap.size, 3, none⟩ = some (.int .i64 f) ∧ W.cell? ⟨w1.heap.size, 4, none⟩ = some (.int .i64 t) ∧ W.cell? ⟨w1.heap.size, 5, none⟩ = some (.int .i64 sn)) ∧ Below wd.heap.size wd W) (wd.alloc (.cells #[.int .u64 (pi : Int), .string (bk s1), .string (bk s2), .int .i64 f, .int .i64 t, .int .i64 sn] 45)) := ⟨cl.out _ hy1, hy1⟩
                have hpl1 : Hid (Rd plE (wd.alloc (.cells #[.int .u64 (pi : Int), .string (bk s1), .string (bk s2), .int .i64 f, .int .i64 t, .int .i64 sn] 45)) (.slice (some ⟨wd.heap.size, 0, none⟩) 1 1) [(pi, (s1, s2), f, t, sn)]) := pl_one (pi, (s1, s2), f, t, sn) n2
                refine hK'.out _ _ (.inr yS1) ?_
                clear hK' K'
                try simp only [List.getElem_toArray, List.getElem_cons_succ, List.getElem_cons_zero, Act.put, List.setIfInBounds_toArray, List.set_cons_zero, List.set_cons_succ]
                refine wpAnyL_take 4 rfl (by kernel_rfl) (by kernel_rfl) (by kernel_rfl) (by kernel_rfl) (fun _ _ _ h => h) (by kernel_rfl) (by intro w' hS'; obtain ⟨⟨x0, x1, x2, x3, x4, x5⟩, xb⟩ := hS'; go_simp <;> rfl) yS1 ?_
                try simp only [List.getElem_toArray, List.getElem_cons_succ, List.getElem_cons_zero, Act.put, List.setIfInBounds_toArray, List.set_cons_zero, List.set_cons_succ]
                refine wpAnyL_take 5 rfl (by kernel_rfl) (by kernel_rfl) (by kernel_rfl) (by kernel_rfl) (fun _ _ _ h => h) (by kernel_rfl) (by intro w' hS'; obtain ⟨⟨x0, x1, x2, x3, x4, x5⟩, xb⟩ := hS'; go_simp <;> rfl) yS1 ?_
                try simp only [List.getElem_toArray, List.getElem_cons_succ, List.getElem_cons_zero, Act.put, List.setIfInBounds_toArray, List.set_cons_zero, List.set_cons_succ]
                refine wpAnyL_done (by kernel_rfl) (NoPanic.normal ?_) _
                have hE : Hid (Below w.heap.size w (wd.alloc (.cells #[.int .u64 (pi : Int), .string (bk s1), .string (bk s2), .int .i64 f, .int .i64 t, .int .i64 sn] 45))) := hbdH.out.trans (hy1.mono hbdH.out.size)
                have hrE : Hid (Rd rgE (wd.alloc (.cells #[.int .u64 (pi : Int), .string (bk s1), .string (bk s2), .int .i64 f, .int .i64 t, .int .i64 sn] 45)) (.slice ao l.length cap) l) := Rd.below hrD.out hy1
                clear yS0 yS1 hy0 hy1 n1 n2 n3 cl hrD hbdH
                go_wp2
                go_ret3
                exact ⟨by rw [HT.out]; exact ⟨_, _, rfl, hrE.out, hpl1.out⟩, hE.out⟩
      · have hidd : ((pi : Int) != (pid : Int)) = true := (bne_iff_ne).2 (show ((pi : Int) ≠ (pid : Int)) by omega)
        rw [if_pos hid] at HT
        clear ks hid
        go_enter Try.func13, Try.ntmps13
        go_wp2_with fail
        refine k1.mono ?_
        rintro e w1 ⟨rfl, hb1⟩
        obtain ⟨y0, y1, y2, y3, y4, y5⟩ := hp.out w1 hb1
        clear hp
        go_wp2
        go_ret3
        exact ⟨by rw [HT.out]; exact ⟨_, _, rfl, rg_nil _, pl_nil _⟩, hb1⟩
end Go.Proofs.Ytlgnnfhnkfjafaa

