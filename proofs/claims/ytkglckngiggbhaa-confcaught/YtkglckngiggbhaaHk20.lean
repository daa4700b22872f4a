import Derived.Test.YtkglckngiggbhaaHk19
/- The program's Step. -/
namespace Go.Proofs.Ytkglckngiggbhaa
open Go.RowKit QuorumMath
set_option maxRecDepth 100000
set_option linter.unusedSimpArgs false
set_option linter.unusedVariables false

theorem step_no (f t : List Int) (fv tv : Value) (w : World) (hF : Rd intE w fv f) (hT : Rd intE w tv t) (hlf : f.length ≤ 1000000000000000) (hlt : t.length ≤ 1000000000000000) (h : (votB f && votB t) = false) : Calls Try.prog 8 #[fv, tv] w fun e w' => e = .returned (.tuple #[.slice none 0 0, .bool false, .int .i64 1]) ∧ w' = w := by
  have k1 := way_no f t fv tv w hF hT hlf hlt h
  obtain ⟨fa, fc, rfl, -, -⟩ := hF.shape
  obtain ⟨ta, tc, rfl, -, -⟩ := hT.shape
  clear hF hT h
  go_enter Try.func8, Try.ntmps8
  go_wp2_with fail
  refine k1.mono ?_
  rintro e w1 ⟨rfl, hw1⟩
  subst hw1
  clear k1
  go_wp2
  go_ret3
  exact ⟨rfl, rfl⟩
/-- What Step tells. -/
def StepT (n : Nat) (ws : List (List Int)) (e : Ending) (w' : World) : Prop := ∃ (v : Value) (l : List Int), e = .returned (.tuple #[v, .bool (decide (1 < ws.length)), .int .i64 0]) ∧ ws[if 1 < ws.length then 1 else 0]? = some l ∧ InR n w' v l
theorem step_yes (f t : List Int) (fv tv : Value) (w : World) (hF : Rd intE w fv f) (hT : Rd intE w tv t) (hf : votB f = true) (ht : votB t = true) : Calls Try.prog 8 #[fv, tv] w fun e w' => StepT w.heap.size (wayM f t) e w' ∧ Below w.heap.size w w' := by
  have k1 := way_yes f t fv tv w hF hT hf ht
  obtain ⟨ws', hw1, -, -⟩ := way_ok hf ht
  have hpos : 0 < (wayM f t).length := by rw [hw1]; simp
  have hfew := way_few hf ht
  obtain ⟨fa, fc, rfl, -, -⟩ := hF.shape
  obtain ⟨ta, tc, rfl, -, -⟩ := hT.shape
  clear hF hT hw1
  generalize wayM f t = ws at *
  obtain ⟨T, HT⟩ : ∃ T, Hid (T = StepT w.heap.size ws) := ⟨_, rfl⟩
  rw [← HT.out]
  go_enter Try.func8, Try.ntmps8
  go_wp2_with fail
  refine k1.mono ?_
  rintro e w1 ⟨v, rfl, hW, hb⟩
  clear k1
  obtain ⟨va, vc, rfl⟩ := hW.shape
  by_cases h1 : 1 < ws.length
  · obtain ⟨b, off, sa, sc, rfl, hl1, c⟩ := hW.at hb.size (i := 1) (List.getElem?_eq_getElem h1)
    obtain ⟨c0, hR⟩ := c w1 (Below.refl _ _)
    have hne : ((ws.length : Int) == 1) = false := by simp; omega
    have h1i : (1 : Int) < (ws.length : Int) := by omega
    have E : Hid (T (.returned (.tuple #[.slice sa ws[1].length sc, .bool true, .int .i64 0])) w1) := by
      show T _ _
      rw [HT.out]
      refine ⟨_, ws[1], by rw [decide_eq_true h1], ?_, hR⟩
      rw [if_pos h1]
      exact List.getElem?_eq_getElem h1
    generalize ws[1].length = n1 at *
    clear c hR hW HT
    generalize ws.length = K at *
    go_wp2
    go_ret3
    exact ⟨E.out, hb⟩
  · have hK : ws.length = 1 := by omega
    obtain ⟨b, off, sa, sc, rfl, hl1, c⟩ := hW.at hb.size (i := 0) (List.getElem?_eq_getElem hpos)
    obtain ⟨c0, hR⟩ := c w1 (Below.refl _ _)
    rw [Nat.add_zero] at c0
    have E : Hid (T (.returned (.tuple #[.slice sa ws[0].length sc, .bool false, .int .i64 0])) w1) := by
      show T _ _
      rw [HT.out]
      refine ⟨_, ws[0], by rw [decide_eq_false h1], ?_, hR⟩
      rw [if_neg h1]
      exact List.getElem?_eq_getElem hpos
    generalize ws[0].length = n1 at *
    clear c hR hW HT
    rw [hK]
    clear hK h1 hpos
    go_wp2
    go_ret3
    exact ⟨E.out, hb⟩
end Go.Proofs.Ytkglckngiggbhaa

