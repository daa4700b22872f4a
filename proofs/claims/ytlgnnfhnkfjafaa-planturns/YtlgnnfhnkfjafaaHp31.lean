import Derived.Test.YtlgnnfhnkfjafaaHp29
import Derived.Test.YtlgnnfhnkfjafaaHp30
/- Plans as values; groupMayBe, mayBe, goesWith of plan. -/
namespace Go.Proofs.Ytlgnnfhnkfjafaa
open Go.RowKit SpanMath ChartMath PlanMath
set_option maxRecDepth 100000
set_option linter.unusedSimpArgs false
set_option linter.unusedVariables false

@[reducible] def pv (p : Pl) : Value := .agg #[.int .u64 (p.1 : Int), .string (bk p.2.1.1), .string (bk p.2.1.2), .int .i64 p.2.2.1, .int .i64 p.2.2.2.1, .int .i64 p.2.2.2.2]
@[reducible] def pcs (p : Pl) : Array Value := #[.int .u64 (p.1 : Int), .string (bk p.2.1.1), .string (bk p.2.1.2), .int .i64 p.2.2.1, .int .i64 p.2.2.2.1, .int .i64 p.2.2.2.2]
def plE : El Pl := ⟨fun p => [.int .u64 (p.1 : Int), .string (bk p.2.1.1), .string (bk p.2.1.2), .int .i64 p.2.2.1, .int .i64 p.2.2.2.1, .int .i64 p.2.2.2.2], 6, fun _ => rfl, fun x u hu => by
  simp only [List.mem_cons, List.not_mem_nil, or_false] at hu
  rcases hu with rfl | rfl | rfl | rfl | rfl | rfl <;> rfl, by decide⟩
theorem cells6p {w : World} {g : Nat} {a b c d e f : Value} {t : TypeId} (H : w.heap[g]? = some (.cells #[a, b, c, d, e, f] t (0, 0))) : w.cell? ⟨g, 0, none⟩ = some a ∧ w.cell? ⟨g, 1, none⟩ = some b ∧ w.cell? ⟨g, 2, none⟩ = some c ∧ w.cell? ⟨g, 3, none⟩ = some d ∧ w.cell? ⟨g, 4, none⟩ = some e ∧ w.cell? ⟨g, 5, none⟩ = some f := by
  refine ⟨?_, ?_, ?_, ?_, ?_, ?_⟩ <;> rw [cells_of_block H] <;> rfl
theorem pgroup_of (g : Int) (w : World) : Calls Try.prog 24 #[.int .i64 g] w fun e w' => e = .returned (.bool (gOk g)) ∧ w' = w := by
  obtain ⟨B, HB⟩ : ∃ B, Hid (B = gOk g) := ⟨_, rfl⟩
  rw [← HB.out]
  by_cases h1 : 1 ≤ g
  · by_cases h2 : g ≤ 16
    · have E : Hid (B = true) := by show _ = _; rw [HB.out]; simp [gOk, h1, h2]
      clear HB
      go_enter Try.func24, Try.ntmps24
      go_wp2
      go_ret
      exact ⟨by rw [E.out]; rfl, rfl⟩
    · have E : Hid (B = false) := by show _ = _; rw [HB.out]; simp [gOk, h2]
      clear HB
      go_enter Try.func24, Try.ntmps24
      go_wp2
      go_ret
      exact ⟨by rw [E.out]; rfl, rfl⟩
  · have E : Hid (B = false) := by show _ = _; rw [HB.out]; simp [gOk, h1]
    clear HB
    go_enter Try.func24, Try.ntmps24
    go_wp2
    go_ret
    exact ⟨by rw [E.out]; rfl, rfl⟩

set_option maxHeartbeats 4000000 in
theorem pmay_of (p : Pl) (w : World) : Calls Try.prog 26 #[pv p] w fun e w' => e = .returned (.bool (okP p)) ∧ Below w.heap.size w w' := by
  obtain ⟨i, ⟨s1, s2⟩, f, t, s⟩ := p
  obtain ⟨q1, q2, q3⟩ := one_box w (.cells #[.int .u64 (i : Int), .string (bk s1), .string (bk s2), .int .i64 f, .int .i64 t, .int .i64 s] 45)
  obtain ⟨c0, c1, c2, c3, c4, c5⟩ := cells6p q2
  have kf : Hid (∀ W, _) := fun W => pgroup_of f W
  have kt : Hid (∀ W, _) := fun W => pgroup_of t W
  unfold okP
  dsimp only [pv]
  clear q1 q2
  by_cases h : i = 0
  · have hd : ((i : Int) != 0) = false := by simp [h]
    rw [show decide (i ≠ 0) = false by simp [h]]
    clear h kf kt
    simp only [Bool.and_false, Bool.false_and]
    go_enter Try.func26, Try.ntmps26
    go_wp2
    go_ret
    exact ⟨rfl, q3⟩
  · have hd : ((i : Int) != 0) = true := by simpa using h
    rw [show decide (i ≠ 0) = true by simp [h]]
    clear h
    cases hf : gOk f with
    | false =>
      rw [hf] at kf
      clear hf kt
      simp only [Bool.and_false, Bool.false_and]
      go_enter Try.func26, Try.ntmps26
      go_wp2_with fail
      refine (kf.out _).mono ?_
      rintro e wq ⟨rfl, hq⟩
      subst wq
      go_wp2
      go_ret
      exact ⟨rfl, q3⟩
    | true =>
      rw [hf] at kf
      clear hf
      cases ht : gOk t with
      | false =>
        rw [ht] at kt
        clear ht 
        simp only [Bool.and_false, Bool.false_and]
        go_enter Try.func26, Try.ntmps26
        go_wp2_with fail
        refine (kf.out _).mono ?_
        rintro e wq ⟨rfl, hq⟩
        subst wq
        go_wp2_with fail
        refine (kt.out _).mono ?_
        rintro e wq ⟨rfl, hq⟩
        subst wq
        go_wp2
        go_ret
        exact ⟨rfl, q3⟩
      | true =>
        rw [ht] at kt
        clear ht
        by_cases h : f = t
        · have hd2 : (f != t) = false := by simp [h]
          rw [show decide (f ≠ t) = false by simp [h]]
          clear h
          simp only [Bool.and_false, Bool.false_and]
          go_enter Try.func26, Try.ntmps26
          go_wp2_with fail
          refine (kf.out _).mono ?_
          rintro e wq ⟨rfl, hq⟩
          subst wq
          go_wp2_with fail
          refine (kt.out _).mono ?_
          rintro e wq ⟨rfl, hq⟩
          subst wq
          go_wp2
          go_ret
          exact ⟨rfl, q3⟩
        · have hd2 : (f != t) = true := by simpa using h
          rw [show decide (f ≠ t) = true by simp [h]]
          clear h
          by_cases h : 1 ≤ s
          · have hd4 : decide (1 ≤ s) = true := decide_eq_true h
            rw [hd4]
            have h4 := h
            clear h
            by_cases h : s ≤ 5
            · have hd5 : decide (s ≤ 5) = true := decide_eq_true h
              rw [hd5]
              have h5 := h
              clear h
              simp only [Bool.and_true, Bool.true_and]
              go_enter Try.func26, Try.ntmps26
              go_wp2_with fail
              refine (kf.out _).mono ?_
              rintro e wq ⟨rfl, hq⟩
              subst wq
              go_wp2_with fail
              refine (kt.out _).mono ?_
              rintro e wq ⟨rfl, hq⟩
              subst wq
              go_wp2
              go_ret
              exact ⟨rfl, q3⟩
            · have hd5 : decide (s ≤ 5) = false := decide_eq_false h
              rw [hd5]
              have h5 := h
              clear h
              simp only [Bool.and_false, Bool.false_and]
              go_enter Try.func26, Try.ntmps26
              go_wp2_with fail
              refine (kf.out _).mono ?_
              rintro e wq ⟨rfl, hq⟩
              subst wq
              go_wp2_with fail
              refine (kt.out _).mono ?_
              rintro e wq ⟨rfl, hq⟩
              subst wq
              go_wp2
              go_ret
              exact ⟨rfl, q3⟩
          · have hd4 : decide (1 ≤ s) = false := decide_eq_false h
            rw [hd4]
            have h4 := h
            clear h
            simp only [Bool.and_false, Bool.false_and]
            go_enter Try.func26, Try.ntmps26
            go_wp2_with fail
            refine (kf.out _).mono ?_
            rintro e wq ⟨rfl, hq⟩
            subst wq
            go_wp2_with fail
            refine (kt.out _).mono ?_
            rintro e wq ⟨rfl, hq⟩
            subst wq
            go_wp2
            go_ret
            exact ⟨rfl, q3⟩
/-- The span's equality, as a rule of the walk. -/
theorem goes1_of {w : World} {a b : Nat} {p : Pl} {q : Int} (ha : w.heap[a]? = some (.cells (pcs p) 45 (0, 0))) (hb : w.heap[b]? = some (.cells #[.int .i64 q] 3 (0, 0))) (r : Rg) :
    Calls Try.prog 41 #[rv r, .pointer (some ⟨a, 0, none⟩), .pointer (some ⟨b, 0, none⟩)] w fun e w' => e = .returned (.bool (decide (r.1 = p.2.1) && decide (r.2.1 = q))) ∧ Below w.heap.size w w' := by
  have hal : a < w.heap.size := (Array.getElem?_eq_some_iff.1 ha).1
  have hbl : b < w.heap.size := (Array.getElem?_eq_some_iff.1 hb).1
  obtain ⟨⟨r1, r2⟩, g, ep⟩ := r
  obtain ⟨i, ⟨s1, s2⟩, f, t, s⟩ := p
  obtain ⟨hs0, g0, hbb⟩ := one_box w (.cells #[.string (bk r1), .string (bk r2), .int .i64 g, .int .u64 ep] 47)
  have ha2 := (hbb.block a hal).trans ha
  have hb2 := (hbb.block b hbl).trans hb
  obtain ⟨c0, c1, c2, c3, c4, c5⟩ := cells6p ha2
  have d0 : (w.alloc (.cells #[.string (bk r1), .string (bk r2), .int .i64 g, .int .u64 ep] 47)).cell? ⟨b, 0, none⟩ = some (.int .i64 q) := by rw [cells_of_block hb2]; rfl
  have e0 : ∀ k (u : Value), (#[.string (bk r1), .string (bk r2), .int .i64 g, .int .u64 ep] : Array Value)[k]? = some u → (w.alloc (.cells #[.string (bk r1), .string (bk r2), .int .i64 g, .int .u64 ep] 47)).cell? ⟨w.heap.size, k, none⟩ = some u := fun k u h => by rw [cells_of_block g0]; exact h
  have x0 := e0 0 _ rfl
  have x1 := e0 1 _ rfl
  have x2 := e0 2 _ rfl
  have x3 := e0 3 _ rfl
  dsimp only [rv]
  have hsp : decide (((r1, r2) : Sp) = (s1, s2)) = (decide (r1 = s1) && decide (r2 = s2)) := by simp [Prod.ext_iff]
  rw [hsp]
  clear ha hb ha2 hb2 hal hbl hs0 g0 e0 hsp
  cases hsq : (decide (r1 = s1) && decide (r2 = s2)) with
  | false =>
    simp only [Bool.false_and]
    go_enter Try.func41, Try.ntmps41
    go_wp2
    go_ret
    exact ⟨rfl, hbb⟩
  | true =>
    simp only [Bool.true_and]
    by_cases h : g = q
    · have hd : (g == q) = true := by simp [h]
      rw [decide_eq_true h]
      clear h
      go_enter Try.func41, Try.ntmps41
      go_wp2
      go_ret
      exact ⟨rfl, hbb⟩
    · have hd : (g == q) = false := by simpa using h
      rw [decide_eq_false h]
      clear h
      go_enter Try.func41, Try.ntmps41
      go_wp2
      go_ret
      exact ⟨rfl, hbb⟩
end Go.Proofs.Ytlgnnfhnkfjafaa

