import Derived.Test.YtkglckngiggbhaaHk14
import Derived.Test.YtkglckngiggbhaaHk15
/- The contracts of Safe and of the document's own Next. -/
namespace Go.Proofs.Ytkglckngiggbhaa
open Go.RowKit QuorumMath
set_option maxRecDepth 100000
set_option linter.unusedSimpArgs false
set_option linter.unusedVariables false

theorem good_len_7 {l : List Int} (h : Ris l) : l.length ≤ 7 := by
  have := ris_len l 0 (by omega) (fun n hn => by have := h.1 n hn; omega) h.2
  omega
theorem filt_yes {p : Int → Bool} {k : Nat} (h : p ((k : Int) + 1) = true) : (nums (k + 1)).filter p = (nums k).filter p ++ [(k : Int) + 1] := by rw [nums_succ, List.filter_append]; simp [h]
theorem filt_no {p : Int → Bool} {k : Nat} (h : p ((k : Int) + 1) = false) : (nums (k + 1)).filter p = (nums k).filter p := by rw [nums_succ, List.filter_append]; simp [h]
theorem filt_len (p : Int → Bool) (k : Nat) : ((nums k).filter p).length ≤ k := by
  have h := List.length_filter_le p (nums k)
  rw [nums_len] at h
  exact h

set_option maxHeartbeats 4000000 in
theorem rnext_of (v : List Int) (vv : Value) (z : Int) (inn : Bool) (w : World) (hV : Rd intE w vv v) (hlv : v.length ≤ 1000000000000000) : Calls Try.prog 22 #[vv, .int .i64 z, .bool inn] w fun e w' => NxT (nextC v z inn) e w' ∧ Below w.heap.size w w' := by
  obtain ⟨T, HT0⟩ : ∃ T, Hid (T = NxT (nextC v z inn)) := ⟨_, rfl⟩
  rw [← HT0.out]
  have kc := rvoters_of v vv w hV hlv
  have ki := fun x W (hW : Below w.heap.size w W) => rin_of v vv x W (hV.below hW) hlv
  obtain ⟨ao, cap, rfl, hcap, -⟩ := hV.shape
  clear hV
  cases hm : votB v with
  | false =>
    rw [hm] at kc
    have HT : Hid (T = NxT (1, [])) := by show _ = _; rw [HT0.out]; unfold nextC; rw [hm]; rfl
    have E1 : Hid (∀ W, T (.returned (.tuple #[.slice none 0 0, .int .i64 1])) W) := fun W => by rw [HT.out]; exact ⟨_, rfl, Rk.nil _ _ _⟩
    clear HT HT0 hm ki
    go_enter Try.func22, Try.ntmps22
    go_wp2_with fail
    refine kc.mono ?_
    rintro e w1 ⟨rfl, hb1⟩
    go_wp2
    go_ret2
    exact ⟨E1.out _, hb1⟩
  | true =>
    rw [hm] at kc
    by_cases z1 : z < 1
    · have HT : Hid (T = NxT (1, [])) := by show _ = _; rw [HT0.out]; unfold nextC nodeB; rw [hm, decide_eq_false (by omega : ¬ 1 ≤ z)]; rfl
      have E1 : Hid (∀ W, T (.returned (.tuple #[.slice none 0 0, .int .i64 1])) W) := fun W => by rw [HT.out]; exact ⟨_, rfl, Rk.nil _ _ _⟩
      clear HT HT0 hm ki
      go_enter Try.func22, Try.ntmps22
      go_wp2_with fail
      refine kc.mono ?_
      rintro e w1 ⟨rfl, hb1⟩
      go_wp2
      go_ret2
      exact ⟨E1.out _, hb1⟩
    · by_cases z7 : 7 < z
      · have HT : Hid (T = NxT (1, [])) := by show _ = _; rw [HT0.out]; unfold nextC nodeB; rw [hm, decide_eq_false (by omega : ¬ z ≤ 7), Bool.and_false]; rfl
        have E1 : Hid (∀ W, T (.returned (.tuple #[.slice none 0 0, .int .i64 1])) W) := fun W => by rw [HT.out]; exact ⟨_, rfl, Rk.nil _ _ _⟩
        clear HT HT0 hm ki
        go_enter Try.func22, Try.ntmps22
        go_wp2_with fail
        refine kc.mono ?_
        rintro e w1 ⟨rfl, hb1⟩
        go_wp2
        go_ret2
        exact ⟨E1.out _, hb1⟩
      · have HT1 : Hid (T = NxT (if decide (z ∈ v) = inn then (6, []) else if (keepM v z inn).length = 0 then (4, []) else (0, keepM v z inn))) := by
          show _ = _
          rw [HT0.out]
          unfold nextC nodeB
          rw [hm, decide_eq_true (by omega : 1 ≤ z), decide_eq_true (by omega : z ≤ 7)]
          rfl
        clear HT0 hm
        by_cases hin : decide (z ∈ v) = inn
        · have HT : Hid (T = NxT (6, [])) := by show _ = _; rw [HT1.out, if_pos hin]
          have E1 : Hid (∀ W, T (.returned (.tuple #[.slice none 0 0, .int .i64 6])) W) := fun W => by rw [HT.out]; exact ⟨_, rfl, Rk.nil _ _ _⟩
          have ki1 := fun W hW => ki z W hW
          rw [hin] at ki1
          clear HT HT1 ki hin
          go_enter Try.func22, Try.ntmps22
          go_wp2_with fail
          refine kc.mono ?_
          rintro e w1 ⟨rfl, hb1⟩
          go_wp2_with fail
          refine (ki1 w1 hb1).mono ?_
          rintro e w2 ⟨rfl, hw2⟩
          subst hw2
          clear ki1
          go_wp2
          go_ret2
          exact ⟨E1.out _, hb1⟩
        · have HT : Hid (T = NxT (if (keepM v z inn).length = 0 then (4, []) else (0, keepM v z inn))) := by show _ = _; rw [HT1.out, if_neg hin]
          have hne : decide (z ∈ v) = !inn := by cases inn <;> cases h : decide (z ∈ v) <;> simp_all
          have ki1 := fun W hW => ki z W hW
          rw [hne] at ki1
          have hq : ((!inn) == inn) = false := by cases inn <;> rfl
          clear HT1 hin
          go_enter Try.func22, Try.ntmps22
          go_wp2_with fail
          refine kc.mono ?_
          rintro e w1 ⟨rfl, hb1⟩
          go_wp2_with fail
          refine (ki1 w1 hb1).mono ?_
          rintro e w2 ⟨rfl, hw2⟩
          subst hw2
          clear ki1 kc
          obtain ⟨q1, q2, q3⟩ := one_box w2 (.cells #[] 3)
          have hO0 : Ow intE 3 w.heap.size (w2.alloc (.cells #[] 3)) (.slice (some ⟨w2.heap.size, 0, none⟩) 0 0) ((nums 0).filter (keepP v z inn)) := ⟨Rk.made (xs := []) q2 rfl (by unfold maxLen; simp), fun k hk => by cases hk; exact hb1.size⟩
          have hb0 := hb1.trans (q3.mono hb1.size)
          clear q1 q2 q3 hq
          go_wp2
          generalize w2.alloc (.cells #[] 3) = w3 at *
          go_loopg [8, 9] 8 (fun g s8 s9 wr => ∃ (k m : Nat) (st : Value), m + g = 9 ∧ Hid (m = k + 1) ∧ k ≤ 7 ∧ s9 = .int .i64 (m : Int) ∧ st = s8 ∧ Ow intE 3 w.heap.size wr st ((nums k).filter (keepP v z inn)) ∧ Below w.heap.size w wr)
          case atStart => exact ⟨0, 1, _, by omega, rfl, by omega, rfl, rfl, hO0, hb0⟩
          case round =>
            obtain ⟨k, m, st, hmg, hmk, hk7, rfl, rfl, hO, hb⟩ := hrel
            clear hO0 hb0
            have hfl := filt_len (keepP v z inn) k
            by_cases hlt : m ≤ 7
            · have hlti : (m : Int) ≤ 7 := by omega
              have hmi : (k : Int) + 1 = (m : Int) := by have := hmk.out; omega
              have hrun := push_int (m : Int) hO.1 (by omega)
              have hmk2 : Hid (m + 1 = (k + 1) + 1) := by show _ = _; have := hmk.out; omega
              have hk8 : k + 1 ≤ 7 := by have := hmk.out; omega
              have hyes : keepP v z inn (m : Int) = true → (nums (k + 1)).filter (keepP v z inn) = (nums k).filter (keepP v z inn) ++ [(m : Int)] := fun h => by rw [filt_yes (by rw [hmi]; exact h), hmi]
              have hno : keepP v z inn (m : Int) = false → (nums (k + 1)).filter (keepP v z inn) = (nums k).filter (keepP v z inn) := fun h => filt_no (by rw [hmi]; exact h)
              obtain ⟨sa, sc, hst, -⟩ := hO.1.shape
              generalize hL : (nums k).filter (keepP v z inn) = L at *
              clear hL
              subst hst
              by_cases hmz : (m : Int) = z
              · have hqe : ((m : Int) == z) = true := by simpa using hmz
                have hqn : ((m : Int) != z) = false := by simpa using hmz
                cases inn with
                | true =>
                  have HS : Hid (_ = _) := hyes (by simp [keepP, hmz])
                  have hrunH : Hid _ := hrun
                  clear hyes hno hrun ki hmi hmz hmk HT hne
                  go_wp2_with (at_builtin; refine wp_by rfl _ _ _ rfl _ _ rfl rfl hrunH.out ?_)
                  intro v6 w6 hp6
                  obtain ⟨hO2, hb2⟩ := hO.push hb.size hp6
                  rw [← HS.out] at hO2
                  clear hO hrunH hp6 HS
                  go_wp2
                  go_roundg (gk - 1)
                  case measure => omega
                  case rel => exact ⟨k + 1, m + 1, v6, by omega, hmk2, hk8, by go_num, rfl, hO2, hb.trans hb2⟩
                | false =>
                  have HS : Hid (_ = _) := hno (by simp [keepP, hmz])
                  clear hyes hno hrun ki hmi hmz hmk HT hne
                  go_wp2
                  go_roundg (gk - 1)
                  case measure => omega
                  case rel => exact ⟨k + 1, m + 1, _, by omega, hmk2, hk8, by go_num, rfl, by rw [HS.out]; exact hO, hb⟩
              · have hqe : ((m : Int) == z) = false := by simpa using hmz
                have hqn : ((m : Int) != z) = true := by simpa using hmz
                have ki1 := ki (m : Int) wr hb
                by_cases hmv : (m : Int) ∈ v
                · rw [decide_eq_true hmv] at ki1
                  have HS : Hid (_ = _) := hyes (by simp [keepP, hmz, hmv])
                  have hrunH : Hid _ := hrun
                  clear hyes hno hrun ki hmi hmz hmk HT hne hmv
                  go_wp2_with fail
                  refine ki1.mono ?_
                  rintro e w5 ⟨rfl, hw5⟩
                  subst hw5
                  clear ki1
                  go_wp2_with (at_builtin; refine wp_by rfl _ _ _ rfl _ _ rfl rfl hrunH.out ?_)
                  intro v6 w6 hp6
                  obtain ⟨hO2, hb2⟩ := hO.push hb.size hp6
                  rw [← HS.out] at hO2
                  clear hO hrunH hp6 HS
                  go_wp2
                  go_roundg (gk - 1)
                  case measure => omega
                  case rel => exact ⟨k + 1, m + 1, v6, by omega, hmk2, hk8, by go_num, rfl, hO2, hb.trans hb2⟩
                · rw [decide_eq_false hmv] at ki1
                  have HS : Hid (_ = _) := hno (by simp [keepP, hmz, hmv])
                  clear hyes hno hrun ki hmi hmz hmk HT hne hmv
                  go_wp2_with fail
                  refine ki1.mono ?_
                  rintro e w5 ⟨rfl, hw5⟩
                  subst hw5
                  clear ki1
                  go_wp2
                  go_roundg (gk - 1)
                  case measure => omega
                  case rel => exact ⟨k + 1, m + 1, _, by omega, hmk2, hk8, by go_num, rfl, by rw [HS.out]; exact hO, hb⟩
            · have hlti : ¬ (m : Int) ≤ 7 := by omega
              obtain rfl : k = 7 := by have := hmk.out; omega
              have hO7 : Ow intE 3 w.heap.size wr st (keepM v z inn) := hO
              obtain ⟨sa, sc, hst, -⟩ := hO7.1.shape
              generalize keepM v z inn = L at *
              subst hst
              clear hO hmk ki
              by_cases h0 : L.length = 0
              · have E1 : Hid (∀ W, T (.returned (.tuple #[.slice none 0 0, .int .i64 4])) W) := fun W => by rw [HT.out, if_pos h0]; exact ⟨_, rfl, Rk.nil _ _ _⟩
                clear HT hO7
                go_wp2
                go_ret2
                exact ⟨E1.out _, hb⟩
              · have E1 : Hid (T (.returned (.tuple #[.slice sa L.length sc, .int .i64 0])) wr) := by show T _ _; rw [HT.out, if_neg h0]; exact ⟨_, rfl, hO7.1⟩
                have h0i : ¬ (L.length : Int) = 0 := by omega
                clear HT hO7
                go_wp2
                go_ret2
                exact ⟨E1.out, hb⟩
end Go.Proofs.Ytkglckngiggbhaa

