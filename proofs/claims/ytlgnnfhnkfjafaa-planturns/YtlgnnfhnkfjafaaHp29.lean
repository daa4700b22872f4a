import Derived.Test.YtlgnnfhnkfjafaaHp28
/- The contracts of the document's own Merge; of Move, and of the document's own Move. -/
namespace Go.Proofs.Ytlgnnfhnkfjafaa
open Go.RowKit SpanMath ChartMath
set_option maxRecDepth 100000
set_option linter.unusedSimpArgs false
set_option linter.unusedVariables false

set_option maxHeartbeats 8000000 in
theorem rmerge_of (l : List Rg) (lv : Value) (k : K) (w : World) (hF : Rd rgE w lv l) : Calls Try.prog 34 #[lv, .string (bk k)] w fun e w' => TurnT (mergeM l k) e w' ∧ Below w.heap.size w w' := by
  obtain ⟨T, HT⟩ : ∃ T, Hid (T = TurnT (mergeM l k)) := ⟨_, rfl⟩
  rw [← HT.out]
  have kf := rfind_of l lv k w hF.cv
  obtain ⟨ao, cap, rfl, hcap, hao, -⟩ := id hF
  cases hf : findM l k with
  | none =>
    rw [hf] at kf
    unfold idxI at kf
    have E1 : Hid (∀ W, T (.returned (.tuple #[.slice none 0 0, .int .i64 1])) W) := fun W => by rw [HT.out]; unfold mergeM; rw [hf]; exact ⟨_, rfl, rd_nil _⟩
    clear HT hf hF
    go_enter Try.func34, Try.ntmps34
    go_wp2_with fail
    refine kf.mono ?_
    rintro e w1 ⟨rfl, hb1⟩
    go_wp2
    go_ret2
    exact ⟨E1.out _, hb1⟩
  | some i =>
    rw [hf] at kf
    unfold idxI at kf
    obtain ⟨hC, hkl, r, hr, hh⟩ := findM_some hf
    have hil : i < l.length := (List.getElem?_eq_some_iff.1 hr).1
    have hlen := hC.len
    obtain ⟨q, hq⟩ : ∃ q, l[i - 1]? = some q := ⟨l[i - 1], List.getElem?_eq_getElem (by omega)⟩
    have HT1 : Hid (T = TurnT (if i = 0 ∨ r.1.1 ≠ k then ([], 4) else if q.2.1 ≠ r.2.1 then ([], 10) else putM l (i - 1) (i + 1) [((q.1.1, r.1.2), q.2.1)])) := by
      show _ = _
      rw [HT.out]
      unfold mergeM
      rw [hf]
      simp only [hr, hq]
    obtain ⟨b, off, rfl, cr⟩ := cv_at hF.cv hr
    obtain ⟨b', off', e', cq⟩ := cv_at hF.cv hq
    cases e'
    obtain ⟨⟨r1, r2⟩, rg, re⟩ := r
    obtain ⟨⟨p1, p2⟩, pg, pe⟩ := q
    have i1 : (i : Int) < (l.length : Int) := by omega
    have i0 : (0 : Int) ≤ (i : Int) := by omega
    have i00 : ¬ (i : Int) < 0 := by omega
    dsimp only at HT1 hh cr cq
    clear HT hf hr hq
    by_cases hz : i = 0
    · have E1 : Hid (∀ W, T (.returned (.tuple #[.slice none 0 0, .int .i64 4])) W) := fun W => by rw [HT1.out, if_pos (.inl hz)]; exact ⟨_, rfl, rd_nil _⟩
      have hzi : ((i : Int) == 0) = true := by simp [hz]
      clear HT1 hF hC cr cq hz
      go_enter Try.func34, Try.ntmps34
      go_wp2_with fail
      refine kf.mono ?_
      rintro e w1 ⟨rfl, hb1⟩
      go_wp2
      go_ret2
      exact ⟨E1.out _, hb1⟩
    · have hz1 : 0 < i := by omega
      have hzi : ((i : Int) == 0) = false := by simp; omega
      by_cases hk : r1 = k
      · have dk : decide (r1 = k) = true := decide_eq_true hk
        obtain ⟨J, hJ⟩ : ∃ J, J = i - 1 := ⟨_, rfl⟩
        have j1 : IntKind.i64.wrap ((i : Int) - 1) = (J : Int) := by rw [IntWalk.i64_in _ (by omega)]; omega
        have j2 : (0 : Int) ≤ (J : Int) := by omega
        have j3 : (J : Int) < (l.length : Int) := by omega
        have jw : IntKind.i64.wrap ((i : Int) + 1) = (i : Int) + 1 := IntWalk.i64_in _ (by omega)
        rw [← hJ] at cq
        obtain ⟨M, hM⟩ : ∃ M, M = putM l (i - 1) (i + 1) (([((p1, r2), pg, pe)] : List Rg).map fun r => (r.1, r.2.1)) := ⟨_, rfl⟩
        have HT2 : Hid (T = TurnT (if pg ≠ rg then ([], 10) else M)) := by show _ = _; rw [HT1.out, if_neg (by rintro (h | h); exact hz h; exact h hk), hM]; rfl
        have kr := fun X wv (hX : Below w.heap.size w X) (hW : Rd rgE X wv [((p1, r2), pg, pe)]) => rput_of l [((p1, r2), pg, pe)] _ wv (i - 1) (i + 1) X (hF.below hX) hW hC (by omega) (by omega) (by simp) (by simp)
        rw [← hM, ← hJ, show (((i + 1 : Nat)) : Int) = (i : Int) + 1 by omega] at kr
        obtain ⟨m1, m2⟩ := M
        clear HT1 hM hF hC hk hz hh hJ
        by_cases hg : pg = rg
        · have hgb : (rg == pg) = true := by simp [hg]
          have HT3 : Hid (T = TurnT (m1, m2)) := by show _ = _; rw [HT2.out, if_neg (by simp [hg])]
          clear HT2 hg
          go_enter Try.func34, Try.ntmps34
          go_wp2_with fail
          refine kf.mono ?_
          rintro e w1 ⟨rfl, hb1⟩
          obtain ⟨c0, c1, c2, c3⟩ := cr w1 hb1
          obtain ⟨a0, a1, a2, a3⟩ := cq w1 hb1
          have hbl := World.block_lt_of_cell? w1 _ c0
          clear kf
          go_wp2
          go_quiet (fail)
          have hbq := below_drewN hb1 nq
          obtain ⟨c0', c1', c2', c3'⟩ := cr _ hbq
          obtain ⟨a0', a1', a2', a3'⟩ := cq _ hbq
          clear c0 c1 c2 c3 a0 a1 a2 a3 cr cq hbl
          generalize w1.drewN nq = wz at *
          obtain ⟨s1, s2, s3⟩ := one_box wz (.cells #[.string (bk p1), .string (bk r2), .int .i64 pg, .int .u64 pe] 47)
          obtain ⟨q1, q2, q3⟩ := one_box (wz.alloc (.cells #[.string (bk p1), .string (bk r2), .int .i64 pg, .int .u64 pe] 47)) (.cells #[.string (bk p1), .string (bk r2), .int .i64 pg, .int .u64 pe] 47)
          have hb4 := hbq.trans ((s3.trans (q3.mono s3.size)).mono hbq.size)
          rw [s1] at q2
          have kr1 := kr _ (.slice (some ⟨wz.heap.size + 1, 0, none⟩) 1 1) hb4 (Rk.made (E := rgE) (xs := [((p1, r2), pg, pe)]) q2 rfl (by unfold maxLen; simp)).rd
          have hbl := World.block_lt_of_cell? wz _ c0'
          clear kr s1 s2 s3 q1 q2 q3
          go_wp2_with fail
          refine kr1.mono ?_
          rintro e w5 ⟨⟨v, rfl, hRd⟩, hb5⟩
          have hb6 := hb4.trans (hb5.mono hb4.size)
          clear kr1 hb5
          go_wp2
          go_ret2
          exact ⟨by rw [HT3.out]; exact ⟨v, rfl, hRd⟩, hb6⟩
        · have hgb : (rg == pg) = false := by simpa using fun h => hg h.symm
          have E1 : Hid (∀ W, T (.returned (.tuple #[.slice none 0 0, .int .i64 10])) W) := fun W => by rw [HT2.out, if_pos hg]; exact ⟨_, rfl, rd_nil _⟩
          clear HT2 hg kr
          go_enter Try.func34, Try.ntmps34
          go_wp2_with fail
          refine kf.mono ?_
          rintro e w1 ⟨rfl, hb1⟩
          obtain ⟨c0, c1, c2, c3⟩ := cr w1 hb1
          obtain ⟨a0, a1, a2, a3⟩ := cq w1 hb1
          clear cr cq kf
          go_wp2
          go_quiet (fail)
          go_wp2
          go_ret2
          exact ⟨E1.out _, below_drewN hb1 nq⟩
      · have dk : decide (r1 = k) = false := decide_eq_false hk
        have E1 : Hid (∀ W, T (.returned (.tuple #[.slice none 0 0, .int .i64 4])) W) := fun W => by rw [HT1.out, if_pos (.inr hk)]; exact ⟨_, rfl, rd_nil _⟩
        clear HT1 hF hC cq hz hk
        go_enter Try.func34, Try.ntmps34
        go_wp2_with fail
        refine kf.mono ?_
        rintro e w1 ⟨rfl, hb1⟩
        obtain ⟨c0, c1, c2, c3⟩ := cr w1 hb1
        clear cr
        go_wp2
        go_ret2
        exact ⟨E1.out _, hb1⟩

set_option maxHeartbeats 8000000 in
theorem cmove_of (l : List Rg) (lv : Value) (k : K) (g : Int) (w : World) (hF : Rd rgE w lv l) : Calls Try.prog 42 #[lv, .string (bk k), .int .i64 g] w fun e w' => TurnT (moveM l k g) e w' ∧ Below w.heap.size w w' := by
  obtain ⟨T, HT⟩ : ∃ T, Hid (T = TurnT (moveM l k g)) := ⟨_, rfl⟩
  rw [← HT.out]
  have kf := find_of l lv k w hF.cv
  have kg := fun W => groupMayBe_of g W
  obtain ⟨ao, cap, rfl, hcap, hao, -⟩ := id hF
  cases hf : findM l k with
  | none =>
    rw [hf] at kf
    unfold findV at kf
    have E1 : Hid (∀ W, T (.returned (.tuple #[.slice none 0 0, .int .i64 1])) W) := fun W => by rw [HT.out]; unfold moveM; rw [hf]; exact ⟨_, rfl, rd_nil _⟩
    clear HT hf hF
    go_enter Try.func42, Try.ntmps42
    go_wp2_with fail
    refine kf.mono ?_
    rintro e w1 ⟨rfl, hb1⟩
    go_wp2
    go_ret2
    exact ⟨E1.out _, hb1⟩
  | some i =>
    rw [hf] at kf
    unfold findV at kf
    obtain ⟨hC, hkl, r, hr, hh⟩ := findM_some hf
    have hil : i < l.length := (List.getElem?_eq_some_iff.1 hr).1
    have hlen := hC.len
    have HT1 : Hid (T = TurnT (if gOk g = false then ([], 1) else if r.2.1 = g then ([], 6) else putM l i (i + 1) [(r.1, g)])) := by
      show _ = _
      rw [HT.out]
      unfold moveM
      rw [hf]
      simp only [hr]
    obtain ⟨b, off, rfl, cr⟩ := cv_at hF.cv hr
    obtain ⟨⟨r1, r2⟩, rg, re⟩ := r
    have i1 : (i : Int) < (l.length : Int) := by omega
    have i0 : (0 : Int) ≤ (i : Int) := by omega
    dsimp only at HT1 hh cr
    clear HT hf hr
    cases hgo : gOk g with
    | false =>
      rw [hgo] at kg
      have E1 : Hid (∀ W, T (.returned (.tuple #[.slice none 0 0, .int .i64 1])) W) := fun W => by rw [HT1.out, if_pos hgo]; exact ⟨_, rfl, rd_nil _⟩
      clear HT1 hF hC cr hgo
      go_enter Try.func42, Try.ntmps42
      go_wp2_with fail
      refine kf.mono ?_
      rintro e w1 ⟨rfl, hb1⟩
      go_wp2_with fail
      refine (kg _).mono ?_
      rintro e w2 ⟨rfl, hw2⟩
      subst hw2
      go_wp2
      go_ret2
      exact ⟨E1.out _, hb1⟩
    | true =>
      rw [hgo] at kg
      by_cases hg : rg = g
      · have hgb : (rg == g) = true := by simp [hg]
        have E1 : Hid (∀ W, T (.returned (.tuple #[.slice none 0 0, .int .i64 6])) W) := fun W => by rw [HT1.out, if_neg (by simp [hgo]), if_pos hg]; exact ⟨_, rfl, rd_nil _⟩
        clear HT1 hF hC hgo hg
        go_enter Try.func42, Try.ntmps42
        go_wp2_with fail
        refine kf.mono ?_
        rintro e w1 ⟨rfl, hb1⟩
        go_wp2_with fail
        refine (kg _).mono ?_
        rintro e w2 ⟨rfl, hw2⟩
        obtain ⟨c0, c1, c2, c3⟩ := cr w1 hb1
        subst hw2
        clear cr
        go_wp2
        go_ret2
        exact ⟨E1.out _, hb1⟩
      · have hgb : (rg == g) = false := by simpa using hg
        have HT2 : Hid (T = TurnT (putM l i (i + 1) (([((r1, r2), g, 0)] : List Rg).map fun r => (r.1, r.2.1)))) := by show _ = _; rw [HT1.out, if_neg (by simp [hgo]), if_neg hg]; rfl
        have kr := fun X wv (hX : Below w.heap.size w X) (hW : Rd rgE X wv [((r1, r2), g, 0)]) => replace_of l [((r1, r2), g, 0)] _ wv i (i + 1) X (hF.below hX) hW hC (by omega) (by omega) (by simp) (by simp)
        obtain ⟨⟨m1, m2⟩, hM⟩ : ∃ M, M = putM l i (i + 1) (([((r1, r2), g, 0)] : List Rg).map fun r => (r.1, r.2.1)) := ⟨_, rfl⟩
        rw [← hM] at kr HT2
        rw [show (((i + 1 : Nat)) : Int) = (i : Int) + 1 by omega] at kr
        clear HT1 hF hC hgo hg hM
        go_enter Try.func42, Try.ntmps42
        go_wp2_with fail
        refine kf.mono ?_
        rintro e w1 ⟨rfl, hb1⟩
        go_wp2_with fail
        refine (kg _).mono ?_
        rintro e w2 ⟨rfl, hw2⟩
        obtain ⟨c0, c1, c2, c3⟩ := cr w1 hb1
        subst hw2
        obtain ⟨q1, q2, q3⟩ := one_box w2 (.cells #[.string (bk r1), .string (bk r2), .int .i64 g, .int .u64 0] 47)
        have hb4 := hb1.trans (q3.mono hb1.size)
        have kr1 := kr _ (.slice (some ⟨w2.heap.size, 0, none⟩) 1 1) hb4 (Rk.made (E := rgE) (xs := [((r1, r2), g, 0)]) q2 rfl (by unfold maxLen; simp)).rd
        clear cr kr q1 q2 q3
        go_wp2_with fail
        refine kr1.mono ?_
        rintro e w5 ⟨⟨v, rfl, hRd⟩, hb5⟩
        have hb6 := hb4.trans (hb5.mono hb4.size)
        clear kr1 hb5
        go_wp2
        go_ret2
        exact ⟨by rw [HT2.out]; exact ⟨v, rfl, hRd⟩, hb6⟩

set_option maxHeartbeats 8000000 in
theorem rmove_of (l : List Rg) (lv : Value) (k : K) (g : Int) (w : World) (hF : Rd rgE w lv l) : Calls Try.prog 29 #[lv, .string (bk k), .int .i64 g] w fun e w' => TurnT (moveM l k g) e w' ∧ Below w.heap.size w w' := by
  obtain ⟨T, HT⟩ : ∃ T, Hid (T = TurnT (moveM l k g)) := ⟨_, rfl⟩
  rw [← HT.out]
  have kf := rfind_of l lv k w hF.cv
  obtain ⟨ao, cap, rfl, hcap, hao, -⟩ := id hF
  cases hf : findM l k with
  | none =>
    rw [hf] at kf
    unfold idxI at kf
    have E1 : Hid (∀ W, T (.returned (.tuple #[.slice none 0 0, .int .i64 1])) W) := fun W => by rw [HT.out]; unfold moveM; rw [hf]; exact ⟨_, rfl, rd_nil _⟩
    clear HT hf hF
    go_enter Try.func29, Try.ntmps29
    go_wp2_with fail
    refine kf.mono ?_
    rintro e w1 ⟨rfl, hb1⟩
    go_wp2
    go_ret2
    exact ⟨E1.out _, hb1⟩
  | some i =>
    rw [hf] at kf
    unfold idxI at kf
    obtain ⟨hC, hkl, r, hr, hh⟩ := findM_some hf
    have hil : i < l.length := (List.getElem?_eq_some_iff.1 hr).1
    have hlen := hC.len
    have HT1 : Hid (T = TurnT (if gOk g = false then ([], 1) else if r.2.1 = g then ([], 6) else putM l i (i + 1) [(r.1, g)])) := by
      show _ = _
      rw [HT.out]
      unfold moveM
      rw [hf]
      simp only [hr]
    obtain ⟨b, off, rfl, cr⟩ := cv_at hF.cv hr
    obtain ⟨⟨r1, r2⟩, rg, re⟩ := r
    have i1 : (i : Int) < (l.length : Int) := by omega
    have i0 : (0 : Int) ≤ (i : Int) := by omega
    have i00 : ¬ (i : Int) < 0 := by omega
    dsimp only at HT1 hh cr
    clear HT hf hr
    by_cases g1 : g < 1
    · have E1 : Hid (∀ W, T (.returned (.tuple #[.slice none 0 0, .int .i64 1])) W) := fun W => by rw [HT1.out, if_pos (by simp [gOk, show ¬ 1 ≤ g by omega])]; exact ⟨_, rfl, rd_nil _⟩
      clear HT1 hF hC cr
      go_enter Try.func29, Try.ntmps29
      go_wp2_with fail
      refine kf.mono ?_
      rintro e w1 ⟨rfl, hb1⟩
      go_wp2
      go_ret2
      exact ⟨E1.out _, hb1⟩
    · by_cases g2 : 16 < g
      · have E1 : Hid (∀ W, T (.returned (.tuple #[.slice none 0 0, .int .i64 1])) W) := fun W => by rw [HT1.out, if_pos (by simp [gOk, show ¬ g ≤ 16 by omega])]; exact ⟨_, rfl, rd_nil _⟩
        clear HT1 hF hC cr
        go_enter Try.func29, Try.ntmps29
        go_wp2_with fail
        refine kf.mono ?_
        rintro e w1 ⟨rfl, hb1⟩
        go_wp2
        go_ret2
        exact ⟨E1.out _, hb1⟩
      · have hgo : gOk g = true := by simp [gOk, show 1 ≤ g by omega, show g ≤ 16 by omega]
        by_cases hg : rg = g
        · have hgb : (rg == g) = true := by simp [hg]
          have E1 : Hid (∀ W, T (.returned (.tuple #[.slice none 0 0, .int .i64 6])) W) := fun W => by rw [HT1.out, if_neg (by simp [hgo]), if_pos hg]; exact ⟨_, rfl, rd_nil _⟩
          clear HT1 hF hC hgo hg
          go_enter Try.func29, Try.ntmps29
          go_wp2_with fail
          refine kf.mono ?_
          rintro e w1 ⟨rfl, hb1⟩
          obtain ⟨c0, c1, c2, c3⟩ := cr w1 hb1
          clear cr
          go_wp2
          go_ret2
          exact ⟨E1.out _, hb1⟩
        · have hgb : (rg == g) = false := by simpa using hg
          have HT2 : Hid (T = TurnT (putM l i (i + 1) (([((r1, r2), g, re)] : List Rg).map fun r => (r.1, r.2.1)))) := by show _ = _; rw [HT1.out, if_neg (by simp [hgo]), if_neg hg]; rfl
          have kr := fun X wv (hX : Below w.heap.size w X) (hW : Rd rgE X wv [((r1, r2), g, re)]) => rput_of l [((r1, r2), g, re)] _ wv i (i + 1) X (hF.below hX) hW hC (by omega) (by omega) (by simp) (by simp)
          obtain ⟨⟨m1, m2⟩, hM⟩ : ∃ M, M = putM l i (i + 1) (([((r1, r2), g, re)] : List Rg).map fun r => (r.1, r.2.1)) := ⟨_, rfl⟩
          rw [← hM] at kr HT2
          rw [show (((i + 1 : Nat)) : Int) = (i : Int) + 1 by omega] at kr
          clear HT1 hF hC hgo hg hM
          go_enter Try.func29, Try.ntmps29
          go_wp2_with fail
          refine kf.mono ?_
          rintro e w1 ⟨rfl, hb1⟩
          obtain ⟨c0, c1, c2, c3⟩ := cr w1 hb1
          obtain ⟨s1, s2, s3⟩ := one_box w1 (.cells #[.string (bk r1), .string (bk r2), .int .i64 g, .int .u64 re] 47)
          obtain ⟨q1, q2, q3⟩ := one_box (w1.alloc (.cells #[.string (bk r1), .string (bk r2), .int .i64 g, .int .u64 re] 47)) (.cells #[.string (bk r1), .string (bk r2), .int .i64 g, .int .u64 re] 47)
          have hb4 := hb1.trans ((s3.trans (q3.mono s3.size)).mono hb1.size)
          rw [s1] at q2
          have kr1 := kr _ (.slice (some ⟨w1.heap.size + 1, 0, none⟩) 1 1) hb4 (Rk.made (E := rgE) (xs := [((r1, r2), g, re)]) q2 rfl (by unfold maxLen; simp)).rd
          clear cr kr s1 s2 s3 q1 q2 q3 kf
          go_wp2_with fail
          refine kr1.mono ?_
          rintro e w5 ⟨⟨v, rfl, hRd⟩, hb5⟩
          have hb6 := hb4.trans (hb5.mono hb4.size)
          clear kr1 hb5
          go_wp2
          go_ret2
          exact ⟨by rw [HT2.out]; exact ⟨v, rfl, hRd⟩, hb6⟩
end Go.Proofs.Ytlgnnfhnkfjafaa

