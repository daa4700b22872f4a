import Derived.Test.YtlgnnfhnkfjafaaHp41
/- The document's Same of plans; the law's awake. -/
namespace Go.Proofs.Ytlgnnfhnkfjafaa
open Go.RowKit SpanMath ChartMath PlanMath
set_option maxRecDepth 100000
set_option linter.unusedSimpArgs false
set_option linter.unusedVariables false

@[go_sem high] theorem eqIn_pl (w : World) (i : Nat) (a b : K) (f t s : Int) : (Op.equalIn 10000 45 (.agg #[.int .u64 (i : Int), .string (bk a), .string (bk b), .int .i64 f, .int .i64 t, .int .i64 s]) (.agg #[.int .u64 (i : Int), .string (bk a), .string (bk b), .int .i64 f, .int .i64 t, .int .i64 s])).run Try.prog w = .ok true w := by
  have u3 := Try.underlying9
  have a3 := Try.isAgg9
  have z3 := Try.sizeOf9
  have u4 := Try.underlying3
  have a4 := Try.isAgg3
  have z4 := Try.sizeOf3
  have u5 := Try.underlying24
  have a5 := Try.isAgg24
  have z5 := Try.sizeOf24
  have u6 := Try.underlying43
  have a6 := Try.isAgg43
  have z6 := Try.sizeOf43
  have hS : Try.prog.underlying 45 = some (.struct (Try.prog.fieldsOf 45)) := by kernel_rfl
  have hp : Try.prog.stoodInHeld 45 = false := by kernel_rfl
  have hS2 : Try.prog.underlying 43 = some (.struct (Try.prog.fieldsOf 43)) := by kernel_rfl
  have hp2 : Try.prog.stoodInHeld 43 = false := by kernel_rfl
  have hin : (Op.equalIn 9999 43 (.agg #[.string (bk a), .string (bk b)]) (.agg #[.string (bk a), .string (bk b)])).run Try.prog w = .ok true w := by
    rw [show (9999 : Nat) = 9998 + 1 from rfl, run_equalIn_agg w 9998 43 _ _ hS2 hp2]
    simp only [Program.fieldsOf, Try.underlying43]
    go_simp
  rw [show (10000 : Nat) = 9999 + 1 from rfl, run_equalIn_agg w 9999 45 _ _ hS hp]
  simp only [Program.fieldsOf, Try.underlying45]
  go_simp
set_option maxHeartbeats 4000000 in
theorem plsame_of (l : List Pl) (lv mv : Value) (w : World) (hF : Rd plE w lv l) (hG : Rd plE w mv l) (hlen : l.length ≤ 1000000000) : Calls Try.prog 11 #[lv, mv] w fun e w' => e = .returned (.bool true) ∧ Below w.heap.size w w' := by
  have HF : Hid (Rd plE w lv l) := hF
  have HG : Hid (Rd plE w mv l) := hG
  obtain ⟨ao, cap, rfl, -⟩ := id hF
  obtain ⟨am, cm, rfl, -⟩ := id hG
  clear hF hG
  go_enter Try.func11, Try.ntmps11
  go_wp2
  go_loopg [5] l.length (fun g s5 wr => ∃ i : Nat, i + g = l.length ∧ s5 = .int .i64 (i : Int) ∧ Below w.heap.size w wr)
  case atStart => exact ⟨0, by simp, rfl, Below.refl _ _⟩
  case round =>
    obtain ⟨i, hig, rfl, hb⟩ := hrel
    by_cases hlt : i < l.length
    · have hlti : (i : Int) < (l.length : Int) := by omega
      have hx : l[i]? = some l[i] := List.getElem?_eq_getElem hlt
      obtain ⟨x, hs⟩ : ∃ s, s = l[i] := ⟨_, rfl⟩
      rw [← hs] at hx
      obtain ⟨b, off, rfl, d⟩ := pl_at HF.out hx
      obtain ⟨b', off', rfl, f⟩ := pl_at HG.out hx
      obtain ⟨c0, c1, c2, c3, c4, c5⟩ := d wr hb
      obtain ⟨e0, e1, e2, e3, e4, e5⟩ := f wr hb
      obtain ⟨xi, ⟨x1, x2⟩, xf, xt, xs⟩ := x
      clear hx hs d f
      dsimp only at c0 c1 c2 c3 c4 c5 e0 e1 e2 e3 e4 e5
      go_wp2
      go_quiet (fail)
      go_wp2
      go_roundg (gk - 1)
      case measure => omega
      case rel => exact ⟨i + 1, by omega, by go_num, below_drewN hb nq⟩
    · have hlti : ¬ (i : Int) < (l.length : Int) := by omega
      go_wp2
      go_ret
      exact ⟨rfl, hb⟩
def awL (j : Nat) : List Rg := if j ≤ 2 then [(([], []), 1, 1)] else [(([], []), 2, 2)]
def awP (j : Nat) : List Pl := if j ≤ 4 then [(7, ([], []), 1, 2, 1 + (j : Int))] else []
theorem aw_start : startM (awL 0) [] 7 [109] 2 = (awP 0, 0) := by kernel_rfl
theorem aw_step {j : Nat} (h : j < 5) : stepM (awL j) (awP j) 7 (2 + (j : Int)) = (awL (j + 1), awP (j + 1), 0) := by
  rcases (by omega : j = 0 ∨ j = 1 ∨ j = 2 ∨ j = 3 ∨ j = 4) with rfl | rfl | rfl | rfl | rfl <;> kernel_rfl
theorem aw_len (j : Nat) : (awL j).length = 1 := by
  unfold awL
  split <;> rfl
theorem aw_plen (j : Nat) : (awP j).length ≤ 1 := by
  unfold awP
  split <;> simp
set_option maxHeartbeats 8000000 in
theorem awake_of (w : World) : Calls Try.prog 6 #[] w fun e w' => e = .returned (.bool true) ∧ Below w.heap.size w w' := by
  obtain ⟨q1, q2, q3⟩ := one_box w (.cells #[.string { data := #[] }, .string { data := #[] }, .int .i64 1, .int .u64 1] 47)
  have hL0 : Rd rgE (w.alloc (.cells #[.string { data := #[] }, .string { data := #[] }, .int .i64 1, .int .u64 1] 47)) (.slice (some ⟨w.heap.size, 0, none⟩) 1 1) (awL 0) := (Rk.made (E := rgE) (xs := [(([], []), 1, 1)]) q2 rfl (by unfold maxLen; simp)).rd
  have k1 := start_of (awL 0) [] _ (.slice none 0 0) 7 [109] 2 _ hL0 (pl_nil _) (by rw [aw_len]; decide) (by simp)
  rw [aw_start] at k1
  have HL0 : Hid (Rd rgE (w.alloc (.cells #[.string { data := #[] }, .string { data := #[] }, .int .i64 1, .int .u64 1] 47)) (.slice (some ⟨w.heap.size, 0, none⟩) 1 1) (awL 0)) := hL0
  have hb0 : Hid (Below w.heap.size w (w.alloc (.cells #[.string { data := #[] }, .string { data := #[] }, .int .i64 1, .int .u64 1] 47))) := q3
  unfold PTurn at k1
  dsimp only at k1
  rw [show bk [109] = { data := #[109] } from rfl] at k1
  clear q1 q2 q3 hL0
  go_enter Try.func6, Try.ntmps6
  go_wp2_with fail
  refine Calls.mono k1 ?_
  rintro e w1 ⟨⟨v1, rfl, hp⟩, hbc⟩
  obtain ⟨pa, pc, rfl, -⟩ := id hp
  have hb1 : Hid (Below w.heap.size w w1) := hb0.out.trans (hbc.mono hb0.out.size)
  have hP1 : Hid (Rd plE w1 (.slice pa (awP 0).length pc) (awP 0)) := hp
  have hL1 : Hid (Rd rgE w1 (.slice (some ⟨w.heap.size, 0, none⟩) 1 1) (awL 0)) := Rd.below HL0.out hbc
  clear k1 hbc hp HL0 hb0
  rw [show (awP 0).length = 1 from rfl] at *
  go_wp2
  go_loopg [1, 2, 3, 4] 5 (fun g s1 s2 s3 s4 wr => ∃ j : Nat, j + g = 5 ∧ s4 = .int .i64 (2 + (j : Int)) ∧ s3 = .int .i64 0 ∧ Rd rgE wr s1 (awL j) ∧ Rd plE wr s2 (awP j) ∧ Below w.heap.size w wr)
  case atStart => exact ⟨0, rfl, rfl, rfl, hL1.out, hP1.out, hb1.out⟩
  case round =>
    clear hL1 hP1 hb1
    obtain ⟨j, hjg, rfl, rfl, hL, hP, hb⟩ := hrel
    obtain ⟨la, lc, rfl, -⟩ := id hL
    obtain ⟨pa', pc', rfl, -⟩ := id hP
    by_cases hj : j < 5
    · have h6 : 2 + (j : Int) ≤ 6 := by omega
      have h6d : decide (2 + (j : Int) ≤ 6) = true := decide_eq_true h6
      have j1 : IntKind.i64.wrap (2 + (j : Int) + 1) = 2 + (j : Int) + 1 := IntWalk.i64_in _ (by omega)
      have k2 := step_of (awL j) (awP j) _ _ 7 (2 + (j : Int)) wr hL hP (by rw [aw_len]; decide) (Nat.le_trans (aw_plen j) (by decide))
      rw [aw_step hj] at k2
      unfold STurn at k2
      dsimp only at k2
      have HJ : Hid (j + gk = 5 ∧ j < 5) := ⟨hjg, hj⟩
      have hbH : Hid (Below w.heap.size w wr) := hb
      clear hL hP hb hj hjg
      go_wp2_with fail
      refine Calls.mono k2 ?_
      rintro e w2 ⟨⟨a2, b2, rfl, ha, hp⟩, hbc⟩
      obtain ⟨ra, rc_, rfl, -⟩ := id ha
      obtain ⟨sa, sc, rfl, -⟩ := id hp
      have haH : Hid (Rd rgE w2 (.slice ra (awL (j + 1)).length rc_) (awL (j + 1))) := ha
      have hpH : Hid (Rd plE w2 (.slice sa (awP (j + 1)).length sc) (awP (j + 1))) := hp
      have hb2 : Hid (Below w.heap.size w w2) := hbH.out.trans (hbc.mono hbH.out.size)
      clear k2 ha hp hbc hbH
      go_wp2
      go_roundg (gk - 1)
      case measure => have := HJ.out; omega
      case rel => exact ⟨j + 1, by have := HJ.out; omega, by first | rfl | (congr 1; omega) | (simp; omega), rfl, haH.out, hpH.out, hb2.out⟩
    · obtain rfl : j = 5 := by omega
      obtain ⟨cb, coff, rfl, hc⟩ := cv_at hL.cv (i := 0) (r := (([], []), 2, 2)) rfl
      obtain ⟨-, -, c2, -⟩ := hc wr (Below.refl _ _)
      rw [show (awL 5).length = 1 from rfl, show (awP 5).length = 0 from rfl] at *
      rw [Nat.zero_mul, Nat.add_zero] at c2
      dsimp only at c2
      have hbH : Hid (Below w.heap.size w wr) := hb
      clear hL hP hb hc
      go_wp2
      go_ret
      exact ⟨rfl, hbH.out⟩
end Go.Proofs.Ytlgnnfhnkfjafaa

