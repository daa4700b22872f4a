import Derived.Test.YtlgnnfhnkfjafaaHp39
import Derived.Test.YtlgnnfhnkfjafaaHp09
/- come of plan: a chart and its plan behind a step. -/
namespace Go.Proofs.Ytlgnnfhnkfjafaa
open Go.RowKit SpanMath ChartMath PlanMath
set_option maxRecDepth 100000
set_option linter.unusedSimpArgs false
set_option linter.unusedVariables false

/-- A chart and its plan behind the step that the plan has come to. -/
def comeM (l : List Rg) (p : Pl) : List Rg × List Pl × Int := if p.2.2.2.2 = 4 then (if (moveM l p.2.1.1 p.2.2.2.1).2 ≠ 0 then ([], [], (moveM l p.2.1.1 p.2.2.2.1).2) else ((moveM l p.2.1.1 p.2.2.2.1).1, [p], 0)) else if p.2.2.2.2 = 6 then (l, [], 0) else (l, [p], 0)
def STurn (m : List Rg × List Pl × Int) (e : Ending) (w : World) : Prop := ∃ a b, e = .returned (.tuple #[a, b, .int .i64 m.2.2]) ∧ Rd rgE w a m.1 ∧ Rd plE w b m.2.1
set_option maxHeartbeats 8000000 in
theorem come_of (l : List Rg) (lv : Value) (p : Pl) (w : World) (hF : Rd rgE w lv l) (hlen : l.length ≤ 1000000) : Calls Try.prog 28 #[lv, pv p] w fun e w' => STurn (comeM l p) e w' ∧ Below w.heap.size w w' := by
  obtain ⟨T, HT⟩ : ∃ T, Hid (T = STurn (comeM l p)) := ⟨_, rfl⟩
  rw [← HT.out]
  have km : Hid (∀ W, Below w.heap.size w W → _) := fun W hW => cmove_of l lv p.2.1.1 p.2.2.2.1 W (hF.below hW)
  have kc : Hid (∀ W, Below w.heap.size w W → _) := fun W hW => cloneR_of l lv W (hF.below hW) hlen
  obtain ⟨ao, cap, rfl, -⟩ := id hF
  unfold comeM at HT
  obtain ⟨pi, ⟨s1, s2⟩, f, t, s⟩ := p
  dsimp only [pv] at *
  obtain ⟨q1, q2, q3⟩ := one_box w (.cells #[.int .u64 (pi : Int), .string (bk s1), .string (bk s2), .int .i64 f, .int .i64 t, .int .i64 s] 45)
  obtain ⟨w0, hw0⟩ : ∃ W, w.alloc (.cells #[.int .u64 (pi : Int), .string (bk s1), .string (bk s2), .int .i64 f, .int .i64 t, .int .i64 s] 45) = W := ⟨_, rfl⟩
  rw [hw0] at q1 q2 q3
  obtain ⟨c0, c1, c2, c3, c4, c5⟩ := cells6p q2
  clear hF q1
  by_cases h4 : s = 4
  · have h4d : (s == 4) = true := by simp [h4]
    rw [if_pos h4] at HT
    have k1 := km.out w0 q3
    unfold TurnT at k1
    generalize moveM l s1 t = M at *
    obtain ⟨m, c⟩ := M
    dsimp only at k1 HT
    clear km kc h4
    by_cases hc : c = 0
    · have hcd : (c != 0) = false := by simp [hc]
      rw [if_neg (by simp [hc])] at HT
      clear hc
      go_enter Try.func28, Try.ntmps28
      go_wp2_with fail
      refine k1.mono ?_
      rintro e w1 ⟨⟨mv, rfl, hr⟩, hbc⟩
      obtain ⟨ma, mc, rfl, -⟩ := id hr
      have hb1 := q3.trans (hbc.mono q3.size)
      have PX := (hbc.block _ (Array.getElem?_eq_some_iff.1 q2).1).trans q2
      have hrH : Hid (Rd rgE w1 (.slice ma m.length mc) m) := hr
      obtain ⟨c0, c1, c2, c3, c4, c5⟩ := cells6p PX
      clear k1 hbc hr q2 q3
      obtain ⟨wd, hwd⟩ : ∃ W, w1.drew = W := ⟨_, rfl⟩
      have hbd : Below w.heap.size w wd := by rw [← hwd]; exact hb1.drew
      have PD : wd.heap[w.heap.size]? = some (.cells #[.int .u64 (pi : Int), .string (bk s1), .string (bk s2), .int .i64 f, .int .i64 t, .int .i64 s] 45 (0, 0)) := by rw [← hwd]; exact PX
      have cl : Hid (∀ W, Below wd.heap.size wd W → W.cell? ⟨w.heap.size, 0, none⟩ = some (.int .u64 (pi : Int)) ∧ W.cell? ⟨w.heap.size, 1, none⟩ = some (.string (bk s1)) ∧ W.cell? ⟨w.heap.size, 2, none⟩ = some (.string (bk s2)) ∧ W.cell? ⟨w.heap.size, 3, none⟩ = some (.int .i64 f) ∧ W.cell? ⟨w.heap.size, 4, none⟩ = some (.int .i64 t) ∧ W.cell? ⟨w.heap.size, 5, none⟩ = some (.int .i64 s)) := fun W hW => cells6p ((hW.block _ (Array.getElem?_eq_some_iff.1 PD).1).trans PD)
      have hy0 : Below wd.heap.size wd wd := Below.refl _ _
      have yS0 : (fun W : World => (W.cell? ⟨w.heap.size, 0, none⟩ = some (.int .u64 (pi : Int)) ∧ W.cell? ⟨w.heap.size, 1, none⟩ = some (.string (bk s1)) ∧ W.cell? ⟨w.heap.size, 2, none⟩ = some (.string (bk s2)) ∧ W.cell? ⟨w.heap.size, 3, none⟩ = some (.int .i64 f) ∧ W.cell? ⟨w.heap.size, 4, none⟩ = some (.int .i64 t) ∧ W.cell? ⟨w.heap.size, 5, none⟩ = some (.int .i64 s)) ∧ Below wd.heap.size wd W) wd := ⟨cl.out _ hy0, hy0⟩
      have hwdH : Hid (w1.drew = wd) := hwd
      have hbdH : Hid (Below w.heap.size w wd) := hbd
      clear hwd PD PX hbd
      have hrD : Hid (Rd rgE wd (.slice ma m.length mc) m) := by rw [show wd = w1.drew from hwdH.out.symm]; exact Rd.below hrH.out ((Below.refl _ w1).drew)
      clear hb1 hrH
      go_wp2_with fail
      refine wp_region_L (fun W : World => (W.cell? ⟨w.heap.size, 0, none⟩ = some (.int .u64 (pi : Int)) ∧ W.cell? ⟨w.heap.size, 1, none⟩ = some (.string (bk s1)) ∧ W.cell? ⟨w.heap.size, 2, none⟩ = some (.string (bk s2)) ∧ W.cell? ⟨w.heap.size, 3, none⟩ = some (.int .i64 f) ∧ W.cell? ⟨w.heap.size, 4, none⟩ = some (.int .i64 t) ∧ W.cell? ⟨w.heap.size, 5, none⟩ = some (.int .i64 s)) ∧ Below wd.heap.size wd W) [] (by kernel_rfl) ?_
      rw [hwdH.out]
      clear hwdH
      refine wpAnyL_take 0 rfl (by kernel_rfl) (by kernel_rfl) (by kernel_rfl) (by kernel_rfl) (fun _ _ _ h => h) (by kernel_rfl) (by intro w' hS'; obtain ⟨⟨x0, x1, x2, x3, x4, x5⟩, xb⟩ := hS'; go_simp <;> rfl) yS0 ?_
      try simp only [List.getElem_toArray, List.getElem_cons_succ, List.getElem_cons_zero, Act.put, List.setIfInBounds_toArray, List.set_cons_zero, List.set_cons_succ]
      refine wpAnyL_take 1 rfl (by kernel_rfl) (by kernel_rfl) (by kernel_rfl) (by kernel_rfl) (fun _ _ _ h => h) (by kernel_rfl) (by intro w' hS'; obtain ⟨⟨x0, x1, x2, x3, x4, x5⟩, xb⟩ := hS'; go_simp <;> rfl) yS0 ?_
      try simp only [List.getElem_toArray, List.getElem_cons_succ, List.getElem_cons_zero, Act.put, List.setIfInBounds_toArray, List.set_cons_zero, List.set_cons_succ]
      refine wpAnyL_take 3 rfl (by kernel_rfl) (by kernel_rfl) (by kernel_rfl) (by kernel_rfl) (fun _ _ _ h => h) (by kernel_rfl) (by intro w' hS'; obtain ⟨⟨x0, x1, x2, x3, x4, x5⟩, xb⟩ := hS'; go_simp <;> rfl) yS0 ?_
      try simp only [List.getElem_toArray, List.getElem_cons_succ, List.getElem_cons_zero, Act.put, List.setIfInBounds_toArray, List.set_cons_zero, List.set_cons_succ]
      refine wpAnyL_one 2 (by kernel_rfl) rfl (by kernel_rfl) ?_
      intro K' hK'
      go_simp
      obtain ⟨z11, z21, z31⟩ := one_box wd (.cells #[.int .u64 (pi : Int), .string (bk s1), .string (bk s2), .int .i64 f, .int .i64 t, .int .i64 s] 45)
      have hy1 := hy0.trans (z31.mono hy0.size)
      have yS1 : (fun W : World => (W.cell? ⟨w.heap.size, 0, none⟩ = some (.int .u64 (pi : Int)) ∧ W.cell? ⟨w.heap.size, 1, none⟩ = some (.string (bk s1)) ∧ W.cell? ⟨w.heap.size, 2, none⟩ = some (.string (bk s2)) ∧ W.cell? ⟨w.heap.size, 3, none⟩ = some (.int .i64 f) ∧ W.cell? ⟨w.heap.size, 4, none⟩ = some (.int .i64 t) ∧ W.cell? ⟨w.heap.size, 5, none⟩ = some (.int .i64 s)) ∧ Below wd.heap.size wd W) (wd.alloc (.cells #[.int .u64 (pi : Int), .string (bk s1), .string (bk s2), .int .i64 f, .int .i64 t, .int .i64 s] 45)) := ⟨cl.out _ hy1, hy1⟩
      have hpl1 : Hid (Rd plE (wd.alloc (.cells #[.int .u64 (pi : Int), .string (bk s1), .string (bk s2), .int .i64 f, .int .i64 t, .int .i64 s] 45)) (.slice (some ⟨wd.heap.size, 0, none⟩) 1 1) [(pi, (s1, s2), f, t, s)]) := pl_one (pi, (s1, s2), f, t, s) z21
      refine hK'.out _ _ (.inr yS1) ?_
      clear hK' K'
      try simp only [List.getElem_toArray, List.getElem_cons_succ, List.getElem_cons_zero, Act.put, List.setIfInBounds_toArray, List.set_cons_zero, List.set_cons_succ]
      refine wpAnyL_take 4 rfl (by kernel_rfl) (by kernel_rfl) (by kernel_rfl) (by kernel_rfl) (fun _ _ _ h => h) (by kernel_rfl) (by intro w' hS'; obtain ⟨⟨x0, x1, x2, x3, x4, x5⟩, xb⟩ := hS'; go_simp <;> rfl) yS1 ?_
      try simp only [List.getElem_toArray, List.getElem_cons_succ, List.getElem_cons_zero, Act.put, List.setIfInBounds_toArray, List.set_cons_zero, List.set_cons_succ]
      refine wpAnyL_take 5 rfl (by kernel_rfl) (by kernel_rfl) (by kernel_rfl) (by kernel_rfl) (fun _ _ _ h => h) (by kernel_rfl) (by intro w' hS'; obtain ⟨⟨x0, x1, x2, x3, x4, x5⟩, xb⟩ := hS'; go_simp <;> rfl) yS1 ?_
      try simp only [List.getElem_toArray, List.getElem_cons_succ, List.getElem_cons_zero, Act.put, List.setIfInBounds_toArray, List.set_cons_zero, List.set_cons_succ]
      refine wpAnyL_done (by kernel_rfl) (NoPanic.normal ?_) _
      have hE : Hid (Below w.heap.size w (wd.alloc (.cells #[.int .u64 (pi : Int), .string (bk s1), .string (bk s2), .int .i64 f, .int .i64 t, .int .i64 s] 45))) := hbdH.out.trans (hy1.mono hbdH.out.size)
      have hrE : Hid (Rd rgE (wd.alloc (.cells #[.int .u64 (pi : Int), .string (bk s1), .string (bk s2), .int .i64 f, .int .i64 t, .int .i64 s] 45)) (.slice ma m.length mc) m) := Rd.below hrD.out hy1
      clear yS0 yS1 hy0 hy1 z11 z21 z31 cl hrD hbdH
      go_wp2
      go_ret3
      exact ⟨by rw [HT.out]; exact ⟨_, _, rfl, hrE.out, hpl1.out⟩, hE.out⟩
    · have hcd : (c != 0) = true := by simpa using hc
      rw [if_pos hc] at HT
      clear hc
      go_enter Try.func28, Try.ntmps28
      go_wp2_with fail
      refine k1.mono ?_
      rintro e w1 ⟨⟨mv, rfl, hr⟩, hbc⟩
      obtain ⟨ma, mc, rfl, -⟩ := id hr
      have hb1 := q3.trans (hbc.mono q3.size)
      have PX := (hbc.block _ (Array.getElem?_eq_some_iff.1 q2).1).trans q2
      have hrH : Hid (Rd rgE w1 (.slice ma m.length mc) m) := hr
      obtain ⟨c0, c1, c2, c3, c4, c5⟩ := cells6p PX
      clear k1 hbc hr q2 q3
      go_wp2
      go_ret3
      exact ⟨by rw [HT.out]; exact ⟨_, _, rfl, rg_nil _, pl_nil _⟩, hb1⟩
  · have h4d : (s == 4) = false := by simpa using h4
    rw [if_neg h4] at HT
    clear km h4
    by_cases h6 : s = 6
    · have h6d : (s == 6) = true := by simp [h6]
      rw [if_pos h6] at HT
      have k1 := kc.out w0 q3
      clear kc h6
      go_enter Try.func28, Try.ntmps28
      go_wp2_with fail
      refine k1.mono ?_
      rintro e w1 ⟨u, rfl, hr, hbc⟩
      obtain ⟨ma, mc, rfl, -⟩ := id hr
      have hb1 : Hid (Below w.heap.size w w1) := q3.trans (hbc.mono q3.size)
      have hrH : Hid (Rd rgE w1 (.slice ma l.length mc) l) := hr
      clear k1 hbc hr q2 q3
      go_wp2
      go_ret3
      exact ⟨by rw [HT.out]; exact ⟨_, _, rfl, hrH.out, pl_nil _⟩, hb1.out⟩
    · have h6d : (s == 6) = false := by simpa using h6
      rw [if_neg h6] at HT
      have PX := q2
      clear h6
      go_enter Try.func28, Try.ntmps28
      obtain ⟨wd, hwd⟩ : ∃ W, w0.drew = W := ⟨_, rfl⟩
      have hbd : Below w.heap.size w wd := by rw [← hwd]; exact q3.drew
      have PD : wd.heap[w.heap.size]? = some (.cells #[.int .u64 (pi : Int), .string (bk s1), .string (bk s2), .int .i64 f, .int .i64 t, .int .i64 s] 45 (0, 0)) := by rw [← hwd]; exact PX
      have cl : Hid (∀ W, Below wd.heap.size wd W → W.cell? ⟨w.heap.size, 0, none⟩ = some (.int .u64 (pi : Int)) ∧ W.cell? ⟨w.heap.size, 1, none⟩ = some (.string (bk s1)) ∧ W.cell? ⟨w.heap.size, 2, none⟩ = some (.string (bk s2)) ∧ W.cell? ⟨w.heap.size, 3, none⟩ = some (.int .i64 f) ∧ W.cell? ⟨w.heap.size, 4, none⟩ = some (.int .i64 t) ∧ W.cell? ⟨w.heap.size, 5, none⟩ = some (.int .i64 s)) := fun W hW => cells6p ((hW.block _ (Array.getElem?_eq_some_iff.1 PD).1).trans PD)
      have hy0 : Below wd.heap.size wd wd := Below.refl _ _
      have yS0 : (fun W : World => (W.cell? ⟨w.heap.size, 0, none⟩ = some (.int .u64 (pi : Int)) ∧ W.cell? ⟨w.heap.size, 1, none⟩ = some (.string (bk s1)) ∧ W.cell? ⟨w.heap.size, 2, none⟩ = some (.string (bk s2)) ∧ W.cell? ⟨w.heap.size, 3, none⟩ = some (.int .i64 f) ∧ W.cell? ⟨w.heap.size, 4, none⟩ = some (.int .i64 t) ∧ W.cell? ⟨w.heap.size, 5, none⟩ = some (.int .i64 s)) ∧ Below wd.heap.size wd W) wd := ⟨cl.out _ hy0, hy0⟩
      have hwdH : Hid (w0.drew = wd) := hwd
      have hbdH : Hid (Below w.heap.size w wd) := hbd
      clear hwd PD PX hbd
      clear q2 q3
      go_wp2_with fail
      refine wp_region_L (fun W : World => (W.cell? ⟨w.heap.size, 0, none⟩ = some (.int .u64 (pi : Int)) ∧ W.cell? ⟨w.heap.size, 1, none⟩ = some (.string (bk s1)) ∧ W.cell? ⟨w.heap.size, 2, none⟩ = some (.string (bk s2)) ∧ W.cell? ⟨w.heap.size, 3, none⟩ = some (.int .i64 f) ∧ W.cell? ⟨w.heap.size, 4, none⟩ = some (.int .i64 t) ∧ W.cell? ⟨w.heap.size, 5, none⟩ = some (.int .i64 s)) ∧ Below wd.heap.size wd W) [] (by kernel_rfl) ?_
      rw [hwdH.out]
      clear hwdH
      refine wpAnyL_take 0 rfl (by kernel_rfl) (by kernel_rfl) (by kernel_rfl) (by kernel_rfl) (fun _ _ _ h => h) (by kernel_rfl) (by intro w' hS'; obtain ⟨⟨x0, x1, x2, x3, x4, x5⟩, xb⟩ := hS'; go_simp <;> rfl) yS0 ?_
      try simp only [List.getElem_toArray, List.getElem_cons_succ, List.getElem_cons_zero, Act.put, List.setIfInBounds_toArray, List.set_cons_zero, List.set_cons_succ]
      refine wpAnyL_take 2 rfl (by kernel_rfl) (by kernel_rfl) (by kernel_rfl) (by kernel_rfl) (fun _ _ _ h => h) (by kernel_rfl) (by intro w' hS'; obtain ⟨⟨x0, x1, x2, x3, x4, x5⟩, xb⟩ := hS'; go_simp <;> rfl) yS0 ?_
      try simp only [List.getElem_toArray, List.getElem_cons_succ, List.getElem_cons_zero, Act.put, List.setIfInBounds_toArray, List.set_cons_zero, List.set_cons_succ]
      refine wpAnyL_two 1 3 (by kernel_rfl) rfl rfl (by kernel_rfl) (by kernel_rfl) ?_ ?_
      · intro K' hK'
        go_simp
        go_at_call 43
        refine (kc.out _ (hbdH.out)).mono ?_
        rintro e wc ⟨u, rfl, hr, hbc⟩
        obtain ⟨ua, uc, rfl, -⟩ := id hr
        have hy1 := hy0.trans (hbc.mono hy0.size)
        have yS1 : (fun W : World => (W.cell? ⟨w.heap.size, 0, none⟩ = some (.int .u64 (pi : Int)) ∧ W.cell? ⟨w.heap.size, 1, none⟩ = some (.string (bk s1)) ∧ W.cell? ⟨w.heap.size, 2, none⟩ = some (.string (bk s2)) ∧ W.cell? ⟨w.heap.size, 3, none⟩ = some (.int .i64 f) ∧ W.cell? ⟨w.heap.size, 4, none⟩ = some (.int .i64 t) ∧ W.cell? ⟨w.heap.size, 5, none⟩ = some (.int .i64 s)) ∧ Below wd.heap.size wd W) wc := ⟨cl.out _ hy1, hy1⟩
        have hrC : Hid (Rd rgE wc (.slice ua l.length uc) l) := hr
        have hbcH : Hid (Below wd.heap.size wd wc) := hbc
        clear hbc hr
        refine hK'.out _ _ (.inr yS1) ?_
        clear hK' K'
        try simp only [List.getElem_toArray, List.getElem_cons_succ, List.getElem_cons_zero, Act.put, List.setIfInBounds_toArray, List.set_cons_zero, List.set_cons_succ]
        refine wpAnyL_take 4 rfl (by kernel_rfl) (by kernel_rfl) (by kernel_rfl) (by kernel_rfl) (fun _ _ _ h => h) (by kernel_rfl) (by intro w' hS'; obtain ⟨⟨x0, x1, x2, x3, x4, x5⟩, xb⟩ := hS'; go_simp <;> rfl) yS1 ?_
        try simp only [List.getElem_toArray, List.getElem_cons_succ, List.getElem_cons_zero, Act.put, List.setIfInBounds_toArray, List.set_cons_zero, List.set_cons_succ]
        refine wpAnyL_one 3 (by kernel_rfl) rfl (by kernel_rfl) ?_
        intro K' hK'
        go_simp
        obtain ⟨z12, z22, z32⟩ := one_box wc (.cells #[.int .u64 (pi : Int), .string (bk s1), .string (bk s2), .int .i64 f, .int .i64 t, .int .i64 s] 45)
        have hy2 := hy1.trans (z32.mono hy1.size)
        have yS2 : (fun W : World => (W.cell? ⟨w.heap.size, 0, none⟩ = some (.int .u64 (pi : Int)) ∧ W.cell? ⟨w.heap.size, 1, none⟩ = some (.string (bk s1)) ∧ W.cell? ⟨w.heap.size, 2, none⟩ = some (.string (bk s2)) ∧ W.cell? ⟨w.heap.size, 3, none⟩ = some (.int .i64 f) ∧ W.cell? ⟨w.heap.size, 4, none⟩ = some (.int .i64 t) ∧ W.cell? ⟨w.heap.size, 5, none⟩ = some (.int .i64 s)) ∧ Below wd.heap.size wd W) (wc.alloc (.cells #[.int .u64 (pi : Int), .string (bk s1), .string (bk s2), .int .i64 f, .int .i64 t, .int .i64 s] 45)) := ⟨cl.out _ hy2, hy2⟩
        have hpl2 : Hid (Rd plE (wc.alloc (.cells #[.int .u64 (pi : Int), .string (bk s1), .string (bk s2), .int .i64 f, .int .i64 t, .int .i64 s] 45)) (.slice (some ⟨wc.heap.size, 0, none⟩) 1 1) [(pi, (s1, s2), f, t, s)]) := pl_one (pi, (s1, s2), f, t, s) z22
        refine hK'.out _ _ (.inr yS2) ?_
        clear hK' K'
        try simp only [List.getElem_toArray, List.getElem_cons_succ, List.getElem_cons_zero, Act.put, List.setIfInBounds_toArray, List.set_cons_zero, List.set_cons_succ]
        refine wpAnyL_take 5 rfl (by kernel_rfl) (by kernel_rfl) (by kernel_rfl) (by kernel_rfl) (fun _ _ _ h => h) (by kernel_rfl) (by intro w' hS'; obtain ⟨⟨x0, x1, x2, x3, x4, x5⟩, xb⟩ := hS'; go_simp <;> rfl) yS2 ?_
        try simp only [List.getElem_toArray, List.getElem_cons_succ, List.getElem_cons_zero, Act.put, List.setIfInBounds_toArray, List.set_cons_zero, List.set_cons_succ]
        refine wpAnyL_take 6 rfl (by kernel_rfl) (by kernel_rfl) (by kernel_rfl) (by kernel_rfl) (fun _ _ _ h => h) (by kernel_rfl) (by intro w' hS'; obtain ⟨⟨x0, x1, x2, x3, x4, x5⟩, xb⟩ := hS'; go_simp <;> rfl) yS2 ?_
        try simp only [List.getElem_toArray, List.getElem_cons_succ, List.getElem_cons_zero, Act.put, List.setIfInBounds_toArray, List.set_cons_zero, List.set_cons_succ]
        refine wpAnyL_done (by kernel_rfl) (NoPanic.normal ?_) _
        have hE : Hid (Below w.heap.size w (wc.alloc (.cells #[.int .u64 (pi : Int), .string (bk s1), .string (bk s2), .int .i64 f, .int .i64 t, .int .i64 s] 45))) := hbdH.out.trans (hy2.mono hbdH.out.size)
        have hrE : Hid (Rd rgE (wc.alloc (.cells #[.int .u64 (pi : Int), .string (bk s1), .string (bk s2), .int .i64 f, .int .i64 t, .int .i64 s] 45)) (.slice ua l.length uc) l) := Rd.below hrC.out z32
        have hpE : Hid (Rd plE (wc.alloc (.cells #[.int .u64 (pi : Int), .string (bk s1), .string (bk s2), .int .i64 f, .int .i64 t, .int .i64 s] 45)) _ [(pi, (s1, s2), f, t, s)]) := hpl2.out
        clear yS0 yS1 yS2 hy0 hy1 hy2 cl hbdH
        go_wp2
        go_ret3
        exact ⟨by rw [HT.out]; exact ⟨_, _, rfl, hrE.out, hpE.out⟩, hE.out⟩
      · intro K' hK'
        go_simp
        obtain ⟨z11, z21, z31⟩ := one_box wd (.cells #[.int .u64 (pi : Int), .string (bk s1), .string (bk s2), .int .i64 f, .int .i64 t, .int .i64 s] 45)
        have hy1 := hy0.trans (z31.mono hy0.size)
        have yS1 : (fun W : World => (W.cell? ⟨w.heap.size, 0, none⟩ = some (.int .u64 (pi : Int)) ∧ W.cell? ⟨w.heap.size, 1, none⟩ = some (.string (bk s1)) ∧ W.cell? ⟨w.heap.size, 2, none⟩ = some (.string (bk s2)) ∧ W.cell? ⟨w.heap.size, 3, none⟩ = some (.int .i64 f) ∧ W.cell? ⟨w.heap.size, 4, none⟩ = some (.int .i64 t) ∧ W.cell? ⟨w.heap.size, 5, none⟩ = some (.int .i64 s)) ∧ Below wd.heap.size wd W) (wd.alloc (.cells #[.int .u64 (pi : Int), .string (bk s1), .string (bk s2), .int .i64 f, .int .i64 t, .int .i64 s] 45)) := ⟨cl.out _ hy1, hy1⟩
        have hpl1 : Hid (Rd plE (wd.alloc (.cells #[.int .u64 (pi : Int), .string (bk s1), .string (bk s2), .int .i64 f, .int .i64 t, .int .i64 s] 45)) (.slice (some ⟨wd.heap.size, 0, none⟩) 1 1) [(pi, (s1, s2), f, t, s)]) := pl_one (pi, (s1, s2), f, t, s) z21
        refine hK'.out _ _ (.inr yS1) ?_
        clear hK' K'
        try simp only [List.getElem_toArray, List.getElem_cons_succ, List.getElem_cons_zero, Act.put, List.setIfInBounds_toArray, List.set_cons_zero, List.set_cons_succ]
        refine wpAnyL_one 1 (by kernel_rfl) rfl (by kernel_rfl) ?_
        intro K' hK'
        go_simp
        go_at_call 43
        refine (kc.out _ (hbdH.out.trans (hy1.mono hbdH.out.size))).mono ?_
        rintro e wc ⟨u, rfl, hr, hbc⟩
        obtain ⟨ua, uc, rfl, -⟩ := id hr
        have hy2 := hy1.trans (hbc.mono hy1.size)
        have yS2 : (fun W : World => (W.cell? ⟨w.heap.size, 0, none⟩ = some (.int .u64 (pi : Int)) ∧ W.cell? ⟨w.heap.size, 1, none⟩ = some (.string (bk s1)) ∧ W.cell? ⟨w.heap.size, 2, none⟩ = some (.string (bk s2)) ∧ W.cell? ⟨w.heap.size, 3, none⟩ = some (.int .i64 f) ∧ W.cell? ⟨w.heap.size, 4, none⟩ = some (.int .i64 t) ∧ W.cell? ⟨w.heap.size, 5, none⟩ = some (.int .i64 s)) ∧ Below wd.heap.size wd W) wc := ⟨cl.out _ hy2, hy2⟩
        have hrC : Hid (Rd rgE wc (.slice ua l.length uc) l) := hr
        have hbcH : Hid (Below (wd.alloc (.cells #[.int .u64 (pi : Int), .string (bk s1), .string (bk s2), .int .i64 f, .int .i64 t, .int .i64 s] 45)).heap.size (wd.alloc (.cells #[.int .u64 (pi : Int), .string (bk s1), .string (bk s2), .int .i64 f, .int .i64 t, .int .i64 s] 45)) wc) := hbc
        clear hbc hr
        refine hK'.out _ _ (.inr yS2) ?_
        clear hK' K'
        try simp only [List.getElem_toArray, List.getElem_cons_succ, List.getElem_cons_zero, Act.put, List.setIfInBounds_toArray, List.set_cons_zero, List.set_cons_succ]
        refine wpAnyL_take 4 rfl (by kernel_rfl) (by kernel_rfl) (by kernel_rfl) (by kernel_rfl) (fun _ _ _ h => h) (by kernel_rfl) (by intro w' hS'; obtain ⟨⟨x0, x1, x2, x3, x4, x5⟩, xb⟩ := hS'; go_simp <;> rfl) yS2 ?_
        try simp only [List.getElem_toArray, List.getElem_cons_succ, List.getElem_cons_zero, Act.put, List.setIfInBounds_toArray, List.set_cons_zero, List.set_cons_succ]
        refine wpAnyL_take 5 rfl (by kernel_rfl) (by kernel_rfl) (by kernel_rfl) (by kernel_rfl) (fun _ _ _ h => h) (by kernel_rfl) (by intro w' hS'; obtain ⟨⟨x0, x1, x2, x3, x4, x5⟩, xb⟩ := hS'; go_simp <;> rfl) yS2 ?_
        try simp only [List.getElem_toArray, List.getElem_cons_succ, List.getElem_cons_zero, Act.put, List.setIfInBounds_toArray, List.set_cons_zero, List.set_cons_succ]
        refine wpAnyL_take 6 rfl (by kernel_rfl) (by kernel_rfl) (by kernel_rfl) (by kernel_rfl) (fun _ _ _ h => h) (by kernel_rfl) (by intro w' hS'; obtain ⟨⟨x0, x1, x2, x3, x4, x5⟩, xb⟩ := hS'; go_simp <;> rfl) yS2 ?_
        try simp only [List.getElem_toArray, List.getElem_cons_succ, List.getElem_cons_zero, Act.put, List.setIfInBounds_toArray, List.set_cons_zero, List.set_cons_succ]
        refine wpAnyL_done (by kernel_rfl) (NoPanic.normal ?_) _
        have hE : Hid (Below w.heap.size w (wc)) := hbdH.out.trans (hy2.mono hbdH.out.size)
        have hrE : Hid (Rd rgE (wc) (.slice ua l.length uc) l) := hrC.out
        have hpE : Hid (Rd plE (wc) _ [(pi, (s1, s2), f, t, s)]) := Rd.below hpl1.out hbcH.out
        clear yS0 yS1 yS2 hy0 hy1 hy2 cl hbdH
        go_wp2
        go_ret3
        exact ⟨by rw [HT.out]; exact ⟨_, _, rfl, hrE.out, hpE.out⟩, hE.out⟩
end Go.Proofs.Ytlgnnfhnkfjafaa

