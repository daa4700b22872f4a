import Derived.Test.YtfbmeeankkfjbaaHq06
/- The contracts of slices.Contains, common, Won, Lost; of the document's In, Count, Voters. -/
namespace Go.Proofs.Ytfbmeeankkfjbaa
open Go.RowKit QuorumMath
set_option maxRecDepth 100000
set_option linter.unusedSimpArgs false
set_option linter.unusedVariables false

/-- What Index tells: something from 0 on, if it is in. -/
def IdxT (l : List Int) (x : Int) (e : Ending) : Prop := ∃ z : Int, e = .returned (.int .i64 z) ∧ (x ∈ l ↔ 0 ≤ z)
theorem notin_succ {l : List Int} {i : Nat} {x y : Int} (h : x ∉ l.take i) (hy : l[i]? = some y) (hne : ¬ x = y) : x ∉ l.take (i + 1) := by
  rw [take_succ_get hy, List.mem_append, List.mem_singleton]
  rintro (h' | h')
  · exact h h'
  · exact hne h'

set_option maxHeartbeats 1000000 in
theorem index_of (l : List Int) (lv : Value) (x : Int) (w : World) (hF : Rd intE w lv l) (hlen : l.length ≤ 1000000000000000) : Calls Try.prog 45 #[lv, .int .i64 x] w fun e w' => IdxT l x e ∧ w' = w := by
  obtain ⟨ao, cap, rfl, -, -⟩ := hF.shape
  go_enter Try.func45, Try.ntmps45
  go_wp2
  go_loopg [8] l.length (fun g s8 wr => ∃ i : Nat, i + g = l.length ∧ s8 = .int .i64 (i : Int) ∧ wr = w ∧ Hid (x ∉ l.take i))
  case atStart => exact ⟨0, by simp, rfl, rfl, by rw [List.take_zero]; exact List.not_mem_nil⟩
  case round =>
    obtain ⟨i, hig, rfl, rfl, HN⟩ := hrel
    by_cases hlt : i < l.length
    · have hlti : (i : Int) < (l.length : Int) := by omega
      have hx : l[i]? = some l[i] := List.getElem?_eq_getElem hlt
      obtain ⟨y, hxx⟩ : ∃ x, x = l[i] := ⟨_, rfl⟩
      rw [← hxx] at hx
      clear hxx
      obtain ⟨b, off, rfl, c⟩ := rdi_at hF hx
      have c0 := c wr (Below.refl _ _)
      by_cases hxy : x = y
      · have E : Hid (x ∈ l) := by show _ ∈ _; rw [hxy]; exact List.mem_of_getElem? hx
        subst hxy
        clear HN hF c hx
        go_wp2
        go_ret
        exact ⟨⟨_, rfl, by simp [E.out]⟩, rfl⟩
      · have HN' : Hid (x ∉ l.take (i + 1)) := notin_succ HN.out hx hxy
        clear HN hF c hx
        go_wp2
        go_roundg (gk - 1)
        case measure => omega
        case rel => exact ⟨i + 1, by omega, by go_num, rfl, HN'⟩
    · have hlti : ¬ (i : Int) < (l.length : Int) := by omega
      obtain rfl : i = l.length := by omega
      have E : Hid (x ∉ l) := by show ¬ _; have := HN.out; rwa [List.take_length] at this
      clear HN hF
      go_wp2
      go_ret
      exact ⟨⟨_, rfl, by simp [E.out]⟩, rfl⟩

theorem contains_of (l : List Int) (lv : Value) (x : Int) (w : World) (hF : Rd intE w lv l) (hlen : l.length ≤ 1000000000000000) : Calls Try.prog 35 #[lv, .int .i64 x] w fun e w' => e = .returned (.bool (decide (x ∈ l))) ∧ w' = w := by
  obtain ⟨B, HB⟩ : ∃ B, Hid (B = decide (x ∈ l)) := ⟨_, rfl⟩
  rw [← HB.out]
  have ki := index_of l lv x w hF hlen
  obtain ⟨ao, cap, rfl, -, -⟩ := hF.shape
  clear hF
  go_enter Try.func35, Try.ntmps35
  go_wp2_with fail
  refine ki.mono ?_
  rintro e w1 ⟨⟨z, rfl, hz⟩, hw1⟩
  subst hw1
  have E : Hid (B = decide (0 ≤ z)) := by show _ = _; rw [HB.out]; simp [hz]
  clear HB hz ki
  go_wp2
  go_ret
  exact ⟨by rw [E.out]; rfl, rfl⟩

set_option maxHeartbeats 1000000 in
theorem common_of (v : List Int) (vv : Value) (l : List Int) (lv : Value) (w : World) (hV : Rd intE w vv v) (hF : Rd intE w lv l) (hlv : v.length ≤ 1000000000000000) (hlen : l.length ≤ 1000000000000000) : Calls Try.prog 26 #[vv, lv] w fun e w' => e = .returned (.int .i64 (cnt v l : Nat)) ∧ w' = w := by
  obtain ⟨B, HB⟩ : ∃ B : Nat, Hid (B = cnt v l) := ⟨_, rfl⟩
  rw [← HB.out]
  have kc := fun x => contains_of l lv x w hF hlen
  obtain ⟨ao, cap, rfl, -, -⟩ := hF.shape
  obtain ⟨va, vcap, rfl, -, -⟩ := hV.shape
  go_enter Try.func26, Try.ntmps26
  go_wp2
  go_loopg [5, 10] v.length (fun g s5 s10 wr => ∃ i c : Nat, i + g = v.length ∧ s10 = .int .i64 (i : Int) ∧ s5 = .int .i64 (c : Int) ∧ wr = w ∧ c ≤ i ∧ Hid (c = cnt (v.take i) l))
  case atStart => exact ⟨0, 0, by simp, rfl, rfl, rfl, Nat.le_refl _, by rw [List.take_zero]; exact (cnt_nil l).symm⟩
  case round =>
    obtain ⟨i, c, hig, rfl, rfl, rfl, hci, HC⟩ := hrel
    by_cases hlt : i < v.length
    · have hlti : (i : Int) < (v.length : Int) := by omega
      have hx : v[i]? = some v[i] := List.getElem?_eq_getElem hlt
      obtain ⟨y, hxx⟩ : ∃ x, x = v[i] := ⟨_, rfl⟩
      rw [← hxx] at hx
      clear hxx
      obtain ⟨b, off, rfl, cc⟩ := rdi_at hV hx
      have c0 := cc wr (Below.refl _ _)
      have kc1 := kc y
      have hs := cnt_take (l := l) hx
      by_cases hy : y ∈ l
      · rw [decide_eq_true hy] at kc1
        have HC' : Hid (c + 1 = cnt (v.take (i + 1)) l) := by show _ = _; rw [hs, if_pos hy, HC.out]
        clear HC hF hV cc hx kc hs hy
        go_wp2_with fail
        refine kc1.mono ?_
        rintro e w1 ⟨rfl, hw1⟩
        subst hw1
        go_wp2
        go_roundg (gk - 1)
        case measure => omega
        case rel => exact ⟨i + 1, c + 1, by omega, by go_num, by go_num, rfl, by omega, HC'⟩
      · rw [decide_eq_false hy] at kc1
        have HC' : Hid (c = cnt (v.take (i + 1)) l) := by show _ = _; rw [hs, if_neg hy, HC.out]; rfl
        clear HC hF hV cc hx kc hs hy
        go_wp2_with fail
        refine kc1.mono ?_
        rintro e w1 ⟨rfl, hw1⟩
        subst hw1
        go_wp2
        go_roundg (gk - 1)
        case measure => omega
        case rel => exact ⟨i + 1, c, by omega, by go_num, rfl, rfl, by omega, HC'⟩
    · have hlti : ¬ (i : Int) < (v.length : Int) := by omega
      obtain rfl : i = v.length := by omega
      have E : Hid (B = c) := by show _ = _; rw [HB.out, HC.out, List.take_length]
      clear HC HB hF hV kc
      go_wp2
      go_ret
      exact ⟨by rw [E.out]; rfl, rfl⟩

theorem won_of (v : List Int) (vv : Value) (l : List Int) (lv : Value) (w : World) (hV : Rd intE w vv v) (hF : Rd intE w lv l) (hlv : v.length ≤ 1000000000000000) (hlen : l.length ≤ 1000000000000000) : Calls Try.prog 13 #[vv, lv] w fun e w' => e = .returned (.bool (wonB v l)) ∧ w' = w := by
  obtain ⟨B, HB⟩ : ∃ B, Hid (B = wonB v l) := ⟨_, rfl⟩
  rw [← HB.out]
  have kc := check_of v vv w hV hlv
  have kn := need_of (v.length : Int) w (by omega)
  have km := common_of v vv l lv w hV hF hlv hlen
  have hcl := cnt_le v l
  obtain ⟨ao, cap, rfl, -, -⟩ := hF.shape
  obtain ⟨va, vcap, rfl, -, -⟩ := hV.shape
  clear hF hV
  cases hm : votB v with
  | false =>
    rw [hm] at kc
    have E : Hid (B = false) := by show _ = _; rw [HB.out]; simp [wonB, hm]
    clear HB hm km kn hcl
    go_enter Try.func13, Try.ntmps13
    go_wp2_with fail
    refine kc.mono ?_
    rintro e w1 ⟨rfl, hw1⟩
    subst hw1
    go_wp2
    go_ret
    exact ⟨by rw [E.out]; rfl, rfl⟩
  | true =>
    rw [hm] at kc
    have hv := (votB_iff.1 hm).1
    have E : Hid (B = decide (needM (v.length : Int) ≤ (cnt v l : Nat))) := by
      show _ = _
      rw [HB.out]
      unfold wonB
      rw [hm, Bool.true_and]
      simp only [decide_eq_decide]
      unfold needM
      rw [if_neg (by omega)]
      omega
    clear HB hm hv hcl
    generalize needM (v.length : Int) = nd at *
    generalize cnt v l = c at *
    go_enter Try.func13, Try.ntmps13
    go_wp2_with fail
    refine kc.mono ?_
    rintro e w1 ⟨rfl, hw1⟩
    subst hw1
    go_wp2_with fail
    refine km.mono ?_
    rintro e w2 ⟨rfl, hw2⟩
    subst hw2
    go_wp2_with fail
    refine kn.mono ?_
    rintro e w3 ⟨rfl, hw3⟩
    subst hw3
    go_wp2
    go_ret
    exact ⟨by rw [E.out]; rfl, rfl⟩

theorem lost_of (v : List Int) (vv : Value) (l : List Int) (lv : Value) (w : World) (hV : Rd intE w vv v) (hF : Rd intE w lv l) (hlv : v.length ≤ 1000000000000000) (hlen : l.length ≤ 1000000000000000) : Calls Try.prog 14 #[vv, lv] w fun e w' => e = .returned (.bool (lostB v l)) ∧ w' = w := by
  obtain ⟨B, HB⟩ : ∃ B, Hid (B = lostB v l) := ⟨_, rfl⟩
  rw [← HB.out]
  have kc := check_of v vv w hV hlv
  have kn := need_of (v.length : Int) w (by omega)
  have km := common_of v vv l lv w hV hF hlv hlen
  have hcl := cnt_le v l
  obtain ⟨ao, cap, rfl, -, -⟩ := hF.shape
  obtain ⟨va, vcap, rfl, -, -⟩ := hV.shape
  clear hF hV
  cases hm : votB v with
  | false =>
    rw [hm] at kc
    have E : Hid (B = false) := by show _ = _; rw [HB.out]; simp [lostB, hm]
    clear HB hm km kn hcl
    go_enter Try.func14, Try.ntmps14
    go_wp2_with fail
    refine kc.mono ?_
    rintro e w1 ⟨rfl, hw1⟩
    subst hw1
    go_wp2
    go_ret
    exact ⟨by rw [E.out]; rfl, rfl⟩
  | true =>
    rw [hm] at kc
    have hv := (votB_iff.1 hm).1
    have E : Hid (B = decide ((v.length : Int) - (cnt v l : Nat) < needM (v.length : Int))) := by
      show _ = _
      rw [HB.out]
      unfold lostB
      rw [hm, Bool.true_and]
      simp only [decide_eq_decide]
      unfold needM
      rw [if_neg (by omega)]
      omega
    clear HB hm hv
    generalize needM (v.length : Int) = nd at *
    generalize cnt v l = c at *
    go_enter Try.func14, Try.ntmps14
    go_wp2_with fail
    refine kc.mono ?_
    rintro e w1 ⟨rfl, hw1⟩
    subst hw1
    go_wp2_with fail
    refine km.mono ?_
    rintro e w2 ⟨rfl, hw2⟩
    subst hw2
    go_wp2_with fail
    refine kn.mono ?_
    rintro e w3 ⟨rfl, hw3⟩
    subst hw3
    go_wp2
    go_ret
    exact ⟨by rw [E.out]; rfl, rfl⟩
end Go.Proofs.Ytfbmeeankkfjbaa

