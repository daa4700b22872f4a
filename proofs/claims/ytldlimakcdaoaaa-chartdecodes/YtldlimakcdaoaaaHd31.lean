import Derived.Test.YtldlimakcdaoaaaHd30
import Derived.Test.YtldlimakcdaoaaaHd17
/- Ranges as values; the contracts of the small functions of chart. -/
namespace Go.Proofs.Ytldlimakcdaoaaa
open Go.RowKit SpanMath ChartMath
set_option maxRecDepth 100000
set_option linter.unusedSimpArgs false
set_option linter.unusedVariables false

/-- A range's value. -/
@[reducible] def rv (r : Rg) : Value := .agg #[.string (bk r.1.1), .string (bk r.1.2), .int .i64 r.2.1, .int .u64 r.2.2]
/-- A range's cells. -/
@[reducible] def rc (r : Rg) : Array Value := #[.string (bk r.1.1), .string (bk r.1.2), .int .i64 r.2.1, .int .u64 r.2.2]
def rgE : El Rg := ⟨fun r => [.string (bk r.1.1), .string (bk r.1.2), .int .i64 r.2.1, .int .u64 r.2.2], 4, fun _ => rfl, fun x u hu => by
  simp only [List.mem_cons, List.not_mem_nil, or_false] at hu
  rcases hu with rfl | rfl | rfl | rfl <;> rfl, by decide⟩
@[go_sem high] theorem eqIn_rg (w : World) (a b c d : K) (g e h f : Int) : (Op.equalIn 10000 42 (.agg #[.string (bk a), .string (bk b), .int .i64 g, .int .u64 e]) (.agg #[.string (bk c), .string (bk d), .int .i64 h, .int .u64 f])).run Try.prog w = .ok (decide (a = c) && decide (b = d) && decide (g = h) && decide (e = f)) w := by
  have u3 := Try.underlying9
  have a3 := Try.isAgg9
  have z3 := Try.sizeOf9
  have u4 := Try.underlying3
  have a4 := Try.isAgg3
  have z4 := Try.sizeOf3
  have u5 := Try.underlying36
  have a5 := Try.isAgg36
  have z5 := Try.sizeOf36
  have u6 := Try.underlying40
  have a6 := Try.isAgg40
  have z6 := Try.sizeOf40
  have hS : Try.prog.underlying 42 = some (.struct (Try.prog.fieldsOf 42)) := by kernel_rfl
  have hp : Try.prog.stoodInHeld 42 = false := by kernel_rfl
  have hS2 : Try.prog.underlying 40 = some (.struct (Try.prog.fieldsOf 40)) := by kernel_rfl
  have hp2 : Try.prog.stoodInHeld 40 = false := by kernel_rfl
  have hin : (Op.equalIn 9999 40 (.agg #[.string (bk a), .string (bk b)]) (.agg #[.string (bk c), .string (bk d)])).run Try.prog w = .ok (decide (a = c) && decide (b = d)) w := by
    rw [show (9999 : Nat) = 9998 + 1 from rfl, run_equalIn_agg w 9998 40 _ _ hS2 hp2]
    simp only [Program.fieldsOf, Try.underlying40]
    go_simp
    by_cases h1 : a = c <;> by_cases h2 : b = d <;> simp [h1, h2, bk_toList]
  rw [show (10000 : Nat) = 9999 + 1 from rfl, run_equalIn_agg w 9999 42 _ _ hS hp]
  simp only [Program.fieldsOf, Try.underlying42]
  go_simp
  by_cases h1 : a = c <;> by_cases h2 : b = d <;> by_cases h3 : g = h <;> by_cases h4 : e = f <;> simp [h1, h2, h3, h4, bk_toList]

theorem groupMayBe_of (g : Int) (w : World) : Calls Try.prog 40 #[.int .i64 g] w fun e w' => e = .returned (.bool (gOk g)) ∧ w' = w := by
  obtain ⟨B, HB⟩ : ∃ B, Hid (B = gOk g) := ⟨_, rfl⟩
  rw [← HB.out]
  by_cases h1 : 1 ≤ g
  · by_cases h2 : g ≤ 16
    · have E : Hid (B = true) := by show _ = _; rw [HB.out]; simp [gOk, h1, h2]
      clear HB
      go_enter Try.func40, Try.ntmps40
      go_wp2
      go_ret
      exact ⟨by rw [E.out]; rfl, rfl⟩
    · have E : Hid (B = false) := by show _ = _; rw [HB.out]; simp [gOk, h2]
      clear HB
      go_enter Try.func40, Try.ntmps40
      go_wp2
      go_ret
      exact ⟨by rw [E.out]; rfl, rfl⟩
  · have E : Hid (B = false) := by show _ = _; rw [HB.out]; simp [gOk, h1]
    clear HB
    go_enter Try.func40, Try.ntmps40
    go_wp2
    go_ret
    exact ⟨by rw [E.out]; rfl, rfl⟩

theorem cisKey_of (k : K) (w : World) : Calls Try.prog 41 #[.string (bk k)] w fun e w' => e = .returned (.bool (decide (k.length ≤ 64))) ∧ Below w.heap.size w w' := by
  have kh : Calls Try.prog 60 #[.agg #[.string { data := #[] }, .string { data := #[] }], .string (bk k)] w _ := has_of ([], []) k w
  have e : hasP ([], []) k = decide (k.length ≤ 64) := by
    unfold hasP
    have h0 := nil_le k
    simp [may, has, blw]
  rw [e] at kh
  clear e
  generalize decide (k.length ≤ 64) = B at *
  go_enter Try.func41, Try.ntmps41
  go_wp2_with fail
  refine kh.mono ?_
  rintro e w1 ⟨rfl, hb1⟩
  go_wp2
  go_ret
  exact ⟨rfl, hb1⟩

set_option maxHeartbeats 2000000 in
theorem mayBe_of (r : Rg) (w : World) : Calls Try.prog 43 #[rv r] w fun e w' => e = .returned (.bool (rOk r)) ∧ Below w.heap.size w w' := by
  obtain ⟨B, HB⟩ : ∃ B, Hid (B = rOk r) := ⟨_, rfl⟩
  rw [← HB.out]
  obtain ⟨⟨a, b⟩, g, ep⟩ := r
  obtain ⟨hs0, g0, hb0⟩ := one_box w (.cells #[.string (bk a), .string (bk b), .int .i64 g, .int .u64 ep] 42)
  have cl : ∀ W, Below (w.heap.size + 1) (w.alloc (.cells #[.string (bk a), .string (bk b), .int .i64 g, .int .u64 ep] 42)) W → W.cell? ⟨w.heap.size, 2, none⟩ = some (.int .i64 g) ∧ W.cell? ⟨w.heap.size, 3, none⟩ = some (.int .u64 ep) := fun W hW => by
    have := (hW.block w.heap.size (Nat.lt_succ_self _)).trans g0
    exact ⟨by rw [cells_of_block this]; rfl, by rw [cells_of_block this]; rfl⟩
  have kg := fun W => groupMayBe_of g W
  cases hm : may (a, b) with
  | false =>
    have E : Hid (B = false) := by show _ = _; rw [HB.out]; simp [rOk, hm]
    have kc := check_no hm (w.alloc (.cells #[.string (bk a), .string (bk b), .int .i64 g, .int .u64 ep] 42))
    rw [hs0] at kc
    clear HB hm cl kg
    go_enter Try.func43, Try.ntmps43
    go_wp2_with fail
    refine kc.mono ?_
    rintro e w1 ⟨rfl, hb1⟩
    go_wp2
    go_ret
    exact ⟨by rw [E.out]; rfl, hb0.trans (hb1.mono (Nat.le_succ _))⟩
  | true =>
    have kc := check_yes hm (w.alloc (.cells #[.string (bk a), .string (bk b), .int .i64 g, .int .u64 ep] 42))
    rw [hs0] at kc
    cases hg : gOk g with
    | false =>
      rw [hg] at kg
      have E : Hid (B = false) := by show _ = _; rw [HB.out]; simp [rOk, hm, hg]
      clear HB hm hg
      go_enter Try.func43, Try.ntmps43
      go_wp2_with fail
      refine kc.mono ?_
      rintro e w1 ⟨rfl, hb1⟩
      obtain ⟨c0, c1⟩ := cl w1 hb1
      clear cl kc
      go_wp2_with fail
      refine (kg _).mono ?_
      rintro e w2 ⟨rfl, hw2⟩
      subst hw2
      go_wp2
      go_ret
      exact ⟨by rw [E.out]; rfl, hb0.trans (hb1.mono (Nat.le_succ _))⟩
    | true =>
      rw [hg] at kg
      have E : Hid (B = eOk ep) := by show _ = _; rw [HB.out]; simp [rOk, hm, hg]
      clear HB hm hg
      by_cases h1 : 1 ≤ ep
      · by_cases h2 : ep ≤ 4611686018427387904
        · have E : Hid (B = true) := by show _ = _; rw [E.out]; simp [eOk, h1, h2]
          go_enter Try.func43, Try.ntmps43
          go_wp2_with fail
          refine kc.mono ?_
          rintro e w1 ⟨rfl, hb1⟩
          obtain ⟨c0, c1⟩ := cl w1 hb1
          clear cl kc
          go_wp2_with fail
          refine (kg _).mono ?_
          rintro e w2 ⟨rfl, hw2⟩
          subst hw2
          go_wp2
          go_ret
          exact ⟨by rw [E.out]; rfl, hb0.trans (hb1.mono (Nat.le_succ _))⟩
        · have E : Hid (B = false) := by show _ = _; rw [E.out]; simp [eOk, h2]
          go_enter Try.func43, Try.ntmps43
          go_wp2_with fail
          refine kc.mono ?_
          rintro e w1 ⟨rfl, hb1⟩
          obtain ⟨c0, c1⟩ := cl w1 hb1
          clear cl kc
          go_wp2_with fail
          refine (kg _).mono ?_
          rintro e w2 ⟨rfl, hw2⟩
          subst hw2
          go_wp2
          go_ret
          exact ⟨by rw [E.out, ← decide_eq_false (Int.not_le.2 h2)]; rfl, hb0.trans (hb1.mono (Nat.le_succ _))⟩
      · have E : Hid (B = false) := by show _ = _; rw [E.out]; simp [eOk, h1]
        go_enter Try.func43, Try.ntmps43
        go_wp2_with fail
        refine kc.mono ?_
        rintro e w1 ⟨rfl, hb1⟩
        obtain ⟨c0, c1⟩ := cl w1 hb1
        clear cl kc
        go_wp2_with fail
        refine (kg _).mono ?_
        rintro e w2 ⟨rfl, hw2⟩
        subst hw2
        go_wp2
        go_ret
        exact ⟨by rw [E.out]; rfl, hb0.trans (hb1.mono (Nat.le_succ _))⟩

/-- What follows tells. -/
def folB (a b : Rg) : Bool := decide ((joinP a.1 b.1).2 = 0)
theorem folB_eq {a b : Rg} (ha : may a.1 = true) (hb : may b.1 = true) : folB a b = lnk a b := by
  unfold folB joinP lnk
  rw [ha, hb]
  by_cases h1 : a.1.2 = b.1.1
  · by_cases h2 : b.1.1 = [] <;> simp [h1, h2]
  · simp [h1]
set_option maxHeartbeats 2000000 in
theorem follows_of (a b : Rg) (w : World) : Calls Try.prog 44 #[rv a, rv b] w fun e w' => e = .returned (.bool (folB a b)) ∧ Below w.heap.size w w' := by
  obtain ⟨⟨a1, a2⟩, ag, ae⟩ := a
  obtain ⟨⟨b1, b2⟩, bg, be⟩ := b
  obtain ⟨B, HB⟩ : ∃ B, Hid (B = folB ((a1, a2), ag, ae) ((b1, b2), bg, be)) := ⟨_, rfl⟩
  rw [← HB.out]
  have hb0 : Below w.heap.size w ((w.alloc (.cells #[.string (bk a1), .string (bk a2), .int .i64 ag, .int .u64 ae] 42)).alloc (.cells #[.string (bk b1), .string (bk b2), .int .i64 bg, .int .u64 be] 42)) := ((Below.refl w.heap.size w).alloc (Nat.le_refl _) _).alloc (by simp) _
  have kj : Calls Try.prog 39 #[.agg #[.string (bk a1), .string (bk a2)], .agg #[.string (bk b1), .string (bk b2)]] _ _ := join_of (a1, a2) (b1, b2) ((w.alloc (.cells #[.string (bk a1), .string (bk a2), .int .i64 ag, .int .u64 ae] 42)).alloc (.cells #[.string (bk b1), .string (bk b2), .int .i64 bg, .int .u64 be] 42))
  have HE : Hid (B = decide ((joinP (a1, a2) (b1, b2)).2 = 0)) := HB
  clear HB
  generalize joinP (a1, a2) (b1, b2) = J at *
  obtain ⟨⟨j1, j2⟩, jc⟩ := J
  unfold joinV at kj
  go_enter Try.func44, Try.ntmps44
  go_wp2_with fail
  generalize ((w.alloc (.cells #[.string (bk a1), .string (bk a2), .int .i64 ag, .int .u64 ae] 42)).alloc (.cells #[.string (bk b1), .string (bk b2), .int .i64 bg, .int .u64 be] 42)) = w0 at *
  refine kj.mono ?_
  rintro e w1 ⟨rfl, hb1⟩
  have hbw := hb0.trans (hb1.mono hb0.size)
  clear kj
  by_cases hj : jc = 0
  · have E : Hid (B = true) := by show _ = _; rw [HE.out]; simp [hj]
    clear HE
    go_wp2
    go_ret
    exact ⟨by rw [E.out]; rfl, hbw.trans ((Below.refl _ _).alloc (by exact hbw.size) _)⟩
  · have E : Hid (B = false) := by show _ = _; rw [HE.out]; simp [hj]
    clear HE
    go_wp2
    go_ret
    exact ⟨by rw [E.out, ← beq_eq_false_iff_ne.2 hj]; rfl, hbw.trans ((Below.refl _ _).alloc (by exact hbw.size) _)⟩
end Go.Proofs.Ytldlimakcdaoaaa

/- Slices of ranges as they are read. -/
namespace Go.Proofs.Ytldlimakcdaoaaa
open Go.RowKit SpanMath ChartMath
set_option maxRecDepth 100000
set_option linter.unusedSimpArgs false
set_option linter.unusedVariables false

/-- A slice of ranges as it is read. -/
def Cv (w : World) (v : Value) (l : List Rg) : Prop :=
  ∃ ao cap, v = .slice ao l.length cap ∧ ∀ (i : Nat) (r : Rg), l[i]? = some r → ∃ b off, ao = some ⟨b, off, none⟩ ∧ w.cell? ⟨b, off + i * 4, none⟩ = some (.string (bk r.1.1)) ∧ w.cell? ⟨b, off + i * 4 + 1, none⟩ = some (.string (bk r.1.2)) ∧ w.cell? ⟨b, off + i * 4 + 2, none⟩ = some (.int .i64 r.2.1) ∧ w.cell? ⟨b, off + i * 4 + 3, none⟩ = some (.int .u64 r.2.2)
theorem Cv.below {w w' : World} {v : Value} {l : List Rg} (h : Cv w v l) (hb : Below w.heap.size w w') : Cv w' v l := by
  obtain ⟨ao, cap, e, h2⟩ := h
  refine ⟨ao, cap, e, fun i r hr => ?_⟩
  obtain ⟨b, off, r1, r2, r3, r4, r5⟩ := h2 i r hr
  have hlt := World.block_lt_of_cell? w _ r2
  exact ⟨b, off, r1, (hb.cell (p := ⟨b, off + i * 4, none⟩) hlt).trans r2, (hb.cell (p := ⟨b, off + i * 4 + 1, none⟩) hlt).trans r3, (hb.cell (p := ⟨b, off + i * 4 + 2, none⟩) hlt).trans r4, (hb.cell (p := ⟨b, off + i * 4 + 3, none⟩) hlt).trans r5⟩
theorem Rd.cv {w : World} {v : Value} {l : List Rg} (h : Rd rgE w v l) : Cv w v l := by
  obtain ⟨ao, cap, e, _, _, h2⟩ := h
  refine ⟨ao, cap, e, fun i r hr => ?_⟩
  obtain ⟨b, off, r1, r2⟩ := h2 i r 0 _ hr rfl
  obtain ⟨b', off', e1, r3⟩ := h2 i r 1 _ hr rfl
  obtain ⟨b2, off2, e2, r4⟩ := h2 i r 2 _ hr rfl
  obtain ⟨b3, off3, e3, r5⟩ := h2 i r 3 _ hr rfl
  rw [r1] at e1 e2 e3
  cases e1
  cases e2
  cases e3
  exact ⟨b, off, r1, r2, by rw [← Nat.add_assoc] at r3; exact r3, by rw [← Nat.add_assoc] at r4; exact r4, by rw [← Nat.add_assoc] at r5; exact r5⟩
theorem walk_at {l : List Rg} {p : Option Rg} {i : Nat} {r : Rg} (h : l[i]? = some r) : walk p (l.drop i) = (rOk r && lnkO p r && walk (some r) (l.drop (i + 1))) := by
  obtain ⟨hi, rfl⟩ := List.getElem?_eq_some_iff.1 h
  rw [List.drop_eq_getElem_cons hi, walk]
/-- The one ahead. -/
def prev (l : List Rg) (i : Nat) : Option Rg := if i = 0 then none else l[i - 1]?
theorem prev_succ {l : List Rg} {i : Nat} {r : Rg} (h : l[i]? = some r) : prev l (i + 1) = some r := by
  unfold prev
  rw [if_neg (by omega)]
  simpa using h
end Go.Proofs.Ytldlimakcdaoaaa

