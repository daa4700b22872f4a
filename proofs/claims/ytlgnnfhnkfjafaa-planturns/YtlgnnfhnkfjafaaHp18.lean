import Derived.Test.YtlgnnfhnkfjafaaHp16
import Derived.Test.YtlgnnfhnkfjafaaHp17
/- Ranges as values; the contracts of the small functions of chart. -/
namespace Go.Proofs.Ytlgnnfhnkfjafaa
open Go.RowKit SpanMath ChartMath
set_option maxRecDepth 100000
set_option linter.unusedSimpArgs false
set_option linter.unusedVariables false

/-- A range's value. -/
@[reducible] def rv (r : Rg) : Value := .agg #[.string (bk r.1.1), .string (bk r.1.2), .int .i64 r.2.1, .int .u64 r.2.2]
/-- A range's cells. -/
@[reducible] def rc (r : Rg) : Array Value := #[.string (bk r.1.1), .string (bk r.1.2), .int .i64 r.2.1, .int .u64 r.2.2]
def rgE : El Rg := ⟨fun r => [.string (bk r.1.1), .string (bk r.1.2), .int .i64 r.2.1, .int .u64 r.2.2], 4, fun _ => rfl, fun x u hu => by
  simp only [List.mem_cons, List.not_mem_nil, or_false] at hu
  rcases hu with rfl | rfl | rfl | rfl <;> rfl, by decide⟩
@[go_sem high] theorem eqIn_rg (w : World) (a b c d : K) (g e h f : Int) : (Op.equalIn 10000 47 (.agg #[.string (bk a), .string (bk b), .int .i64 g, .int .u64 e]) (.agg #[.string (bk c), .string (bk d), .int .i64 h, .int .u64 f])).run Try.prog w = .ok (decide (a = c) && decide (b = d) && decide (g = h) && decide (e = f)) w := by
  have u3 := Try.underlying9
  have a3 := Try.isAgg9
  have z3 := Try.sizeOf9
  have u4 := Try.underlying3
  have a4 := Try.isAgg3
  have z4 := Try.sizeOf3
  have u5 := Try.underlying24
  have a5 := Try.isAgg24
  have z5 := Try.sizeOf24
  have u6 := Try.underlying43
  have a6 := Try.isAgg43
  have z6 := Try.sizeOf43
  have hS : Try.prog.underlying 47 = some (.struct (Try.prog.fieldsOf 47)) := by kernel_rfl
  have hp : Try.prog.stoodInHeld 47 = false := by kernel_rfl
  have hS2 : Try.prog.underlying 43 = some (.struct (Try.prog.fieldsOf 43)) := by kernel_rfl
  have hp2 : Try.prog.stoodInHeld 43 = false := by kernel_rfl
  have hin : (Op.equalIn 9999 43 (.agg #[.string (bk a), .string (bk b)]) (.agg #[.string (bk c), .string (bk d)])).run Try.prog w = .ok (decide (a = c) && decide (b = d)) w := by
    rw [show (9999 : Nat) = 9998 + 1 from rfl, run_equalIn_agg w 9998 43 _ _ hS2 hp2]
    simp only [Program.fieldsOf, Try.underlying43]
    go_simp
    by_cases h1 : a = c <;> by_cases h2 : b = d <;> simp [h1, h2, bk_toList]
  rw [show (10000 : Nat) = 9999 + 1 from rfl, run_equalIn_agg w 9999 47 _ _ hS hp]
  simp only [Program.fieldsOf, Try.underlying47]
  go_simp
  by_cases h1 : a = c <;> by_cases h2 : b = d <;> by_cases h3 : g = h <;> by_cases h4 : e = f <;> simp [h1, h2, h3, h4, bk_toList]

theorem groupMayBe_of (g : Int) (w : World) : Calls Try.prog 52 #[.int .i64 g] w fun e w' => e = .returned (.bool (gOk g)) ∧ w' = w := by
  obtain ⟨B, HB⟩ : ∃ B, Hid (B = gOk g) := ⟨_, rfl⟩
  rw [← HB.out]
  by_cases h1 : 1 ≤ g
  · by_cases h2 : g ≤ 16
    · have E : Hid (B = true) := by show _ = _; rw [HB.out]; simp [gOk, h1, h2]
      clear HB
      go_enter Try.func52, Try.ntmps52
      go_wp2
      go_ret
      exact ⟨by rw [E.out]; rfl, rfl⟩
    · have E : Hid (B = false) := by show _ = _; rw [HB.out]; simp [gOk, h2]
      clear HB
      go_enter Try.func52, Try.ntmps52
      go_wp2
      go_ret
      exact ⟨by rw [E.out]; rfl, rfl⟩
  · have E : Hid (B = false) := by show _ = _; rw [HB.out]; simp [gOk, h1]
    clear HB
    go_enter Try.func52, Try.ntmps52
    go_wp2
    go_ret
    exact ⟨by rw [E.out]; rfl, rfl⟩

theorem cisKey_of (k : K) (w : World) : Calls Try.prog 36 #[.string (bk k)] w fun e w' => e = .returned (.bool (decide (k.length ≤ 64))) ∧ Below w.heap.size w w' := by
  have kh : Calls Try.prog 48 #[.agg #[.string { data := #[] }, .string { data := #[] }], .string (bk k)] w _ := has_of ([], []) k w
  have e : hasP ([], []) k = decide (k.length ≤ 64) := by
    unfold hasP
    have h0 := nil_le k
    simp [may, has, blw]
  rw [e] at kh
  clear e
  generalize decide (k.length ≤ 64) = B at *
  go_enter Try.func36, Try.ntmps36
  go_wp2_with fail
  refine kh.mono ?_
  rintro e w1 ⟨rfl, hb1⟩
  go_wp2
  go_ret
  exact ⟨rfl, hb1⟩

set_option maxHeartbeats 2000000 in
theorem mayBe_of (r : Rg) (w : World) : Calls Try.prog 38 #[rv r] w fun e w' => e = .returned (.bool (rOk r)) ∧ Below w.heap.size w w' := by
  obtain ⟨B, HB⟩ : ∃ B, Hid (B = rOk r) := ⟨_, rfl⟩
  rw [← HB.out]
  obtain ⟨⟨a, b⟩, g, ep⟩ := r
  obtain ⟨hs0, g0, hb0⟩ := one_box w (.cells #[.string (bk a), .string (bk b), .int .i64 g, .int .u64 ep] 47)
  have cl : ∀ W, Below (w.heap.size + 1) (w.alloc (.cells #[.string (bk a), .string (bk b), .int .i64 g, .int .u64 ep] 47)) W → W.cell? ⟨w.heap.size, 2, none⟩ = some (.int .i64 g) ∧ W.cell? ⟨w.heap.size, 3, none⟩ = some (.int .u64 ep) := fun W hW => by
    have := (hW.block w.heap.size (Nat.lt_succ_self _)).trans g0
    exact ⟨by rw [cells_of_block this]; rfl, by rw [cells_of_block this]; rfl⟩
  have kg := fun W => groupMayBe_of g W
  cases hm : may (a, b) with
  | false =>
    have E : Hid (B = false) := by show _ = _; rw [HB.out]; simp [rOk, hm]
    have kc := check_no hm (w.alloc (.cells #[.string (bk a), .string (bk b), .int .i64 g, .int .u64 ep] 47))
    rw [hs0] at kc
    clear HB hm cl kg
    go_enter Try.func38, Try.ntmps38
    go_wp2_with fail
    refine kc.mono ?_
    rintro e w1 ⟨rfl, hb1⟩
    go_wp2
    go_ret
    exact ⟨by rw [E.out]; rfl, hb0.trans (hb1.mono (Nat.le_succ _))⟩
  | true =>
    have kc := check_yes hm (w.alloc (.cells #[.string (bk a), .string (bk b), .int .i64 g, .int .u64 ep] 47))
    rw [hs0] at kc
    cases hg : gOk g with
    | false =>
      rw [hg] at kg
      have E : Hid (B = false) := by show _ = _; rw [HB.out]; simp [rOk, hm, hg]
      clear HB hm hg
      go_enter Try.func38, Try.ntmps38
      go_wp2_with fail
      refine kc.mono ?_
      rintro e w1 ⟨rfl, hb1⟩
      obtain ⟨c0, c1⟩ := cl w1 hb1
      clear cl kc
      go_wp2_with fail
      refine (kg _).mono ?_
      rintro e w2 ⟨rfl, hw2⟩
      subst hw2
      go_wp2
      go_ret
      exact ⟨by rw [E.out]; rfl, hb0.trans (hb1.mono (Nat.le_succ _))⟩
    | true =>
      rw [hg] at kg
      have E : Hid (B = eOk ep) := by show _ = _; rw [HB.out]; simp [rOk, hm, hg]
      clear HB hm hg
      by_cases h1 : 1 ≤ ep
      · by_cases h2 : ep ≤ 4611686018427387904
        · have E : Hid (B = true) := by show _ = _; rw [E.out]; simp [eOk, h1, h2]
          go_enter Try.func38, Try.ntmps38
          go_wp2_with fail
          refine kc.mono ?_
          rintro e w1 ⟨rfl, hb1⟩
          obtain ⟨c0, c1⟩ := cl w1 hb1
          clear cl kc
          go_wp2_with fail
          refine (kg _).mono ?_
          rintro e w2 ⟨rfl, hw2⟩
          subst hw2
          go_wp2
          go_ret
          exact ⟨by rw [E.out]; rfl, hb0.trans (hb1.mono (Nat.le_succ _))⟩
        · have E : Hid (B = false) := by show _ = _; rw [E.out]; simp [eOk, h2]
          go_enter Try.func38, Try.ntmps38
          go_wp2_with fail
          refine kc.mono ?_
          rintro e w1 ⟨rfl, hb1⟩
          obtain ⟨c0, c1⟩ := cl w1 hb1
          clear cl kc
          go_wp2_with fail
          refine (kg _).mono ?_
          rintro e w2 ⟨rfl, hw2⟩
          subst hw2
          go_wp2
          go_ret
          exact ⟨by rw [E.out, ← decide_eq_false (Int.not_le.2 h2)]; rfl, hb0.trans (hb1.mono (Nat.le_succ _))⟩
      · have E : Hid (B = false) := by show _ = _; rw [E.out]; simp [eOk, h1]
        go_enter Try.func38, Try.ntmps38
        go_wp2_with fail
        refine kc.mono ?_
        rintro e w1 ⟨rfl, hb1⟩
        obtain ⟨c0, c1⟩ := cl w1 hb1
        clear cl kc
        go_wp2_with fail
        refine (kg _).mono ?_
        rintro e w2 ⟨rfl, hw2⟩
        subst hw2
        go_wp2
        go_ret
        exact ⟨by rw [E.out]; rfl, hb0.trans (hb1.mono (Nat.le_succ _))⟩

/-- What follows tells. -/
def folB (a b : Rg) : Bool := decide ((joinP a.1 b.1).2 = 0)
theorem folB_eq {a b : Rg} (ha : may a.1 = true) (hb : may b.1 = true) : folB a b = lnk a b := by
  unfold folB joinP lnk
  rw [ha, hb]
  by_cases h1 : a.1.2 = b.1.1
  · by_cases h2 : b.1.1 = [] <;> simp [h1, h2]
  · simp [h1]
set_option maxHeartbeats 2000000 in
theorem follows_of (a b : Rg) (w : World) : Calls Try.prog 39 #[rv a, rv b] w fun e w' => e = .returned (.bool (folB a b)) ∧ Below w.heap.size w w' := by
  obtain ⟨⟨a1, a2⟩, ag, ae⟩ := a
  obtain ⟨⟨b1, b2⟩, bg, be⟩ := b
  obtain ⟨B, HB⟩ : ∃ B, Hid (B = folB ((a1, a2), ag, ae) ((b1, b2), bg, be)) := ⟨_, rfl⟩
  rw [← HB.out]
  have hb0 : Below w.heap.size w ((w.alloc (.cells #[.string (bk a1), .string (bk a2), .int .i64 ag, .int .u64 ae] 47)).alloc (.cells #[.string (bk b1), .string (bk b2), .int .i64 bg, .int .u64 be] 47)) := ((Below.refl w.heap.size w).alloc (Nat.le_refl _) _).alloc (by simp) _
  have kj : Calls Try.prog 47 #[.agg #[.string (bk a1), .string (bk a2)], .agg #[.string (bk b1), .string (bk b2)]] _ _ := join_of (a1, a2) (b1, b2) ((w.alloc (.cells #[.string (bk a1), .string (bk a2), .int .i64 ag, .int .u64 ae] 47)).alloc (.cells #[.string (bk b1), .string (bk b2), .int .i64 bg, .int .u64 be] 47))
  have HE : Hid (B = decide ((joinP (a1, a2) (b1, b2)).2 = 0)) := HB
  clear HB
  generalize joinP (a1, a2) (b1, b2) = J at *
  obtain ⟨⟨j1, j2⟩, jc⟩ := J
  unfold joinV at kj
  go_enter Try.func39, Try.ntmps39
  go_wp2_with fail
  generalize ((w.alloc (.cells #[.string (bk a1), .string (bk a2), .int .i64 ag, .int .u64 ae] 47)).alloc (.cells #[.string (bk b1), .string (bk b2), .int .i64 bg, .int .u64 be] 47)) = w0 at *
  refine kj.mono ?_
  rintro e w1 ⟨rfl, hb1⟩
  have hbw := hb0.trans (hb1.mono hb0.size)
  clear kj
  by_cases hj : jc = 0
  · have E : Hid (B = true) := by show _ = _; rw [HE.out]; simp [hj]
    clear HE
    go_wp2
    go_ret
    exact ⟨by rw [E.out]; rfl, hbw.trans ((Below.refl _ _).alloc (by exact hbw.size) _)⟩
  · have E : Hid (B = false) := by show _ = _; rw [HE.out]; simp [hj]
    clear HE
    go_wp2
    go_ret
    exact ⟨by rw [E.out, ← beq_eq_false_iff_ne.2 hj]; rfl, hbw.trans ((Below.refl _ _).alloc (by exact hbw.size) _)⟩
end Go.Proofs.Ytlgnnfhnkfjafaa

