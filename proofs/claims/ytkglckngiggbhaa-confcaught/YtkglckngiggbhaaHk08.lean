import Derived.Test.YtkglckngiggbhaaHk07
/- The contracts of the document's In, Count, Ints, Differ. -/
namespace Go.Proofs.Ytkglckngiggbhaa
open Go.RowKit QuorumMath
set_option maxRecDepth 100000
set_option linter.unusedSimpArgs false
set_option linter.unusedVariables false

set_option maxHeartbeats 1000000 in
theorem rin_of (l : List Int) (lv : Value) (x : Int) (w : World) (hF : Rd intE w lv l) (hlen : l.length ≤ 1000000000000000) : Calls Try.prog 12 #[lv, .int .i64 x] w fun e w' => e = .returned (.bool (decide (x ∈ l))) ∧ w' = w := by
  obtain ⟨B, HB⟩ : ∃ B, Hid (B = decide (x ∈ l)) := ⟨_, rfl⟩
  rw [← HB.out]
  obtain ⟨ao, cap, rfl, -, -⟩ := hF.shape
  go_enter Try.func12, Try.ntmps12
  go_wp2
  go_loopg [5] l.length (fun g s5 wr => ∃ i : Nat, i + g = l.length ∧ s5 = .int .i64 (i : Int) ∧ wr = w ∧ Hid (x ∉ l.take i))
  case atStart => exact ⟨0, by simp, rfl, rfl, by rw [List.take_zero]; exact List.not_mem_nil⟩
  case round =>
    obtain ⟨i, hig, rfl, rfl, HN⟩ := hrel
    by_cases hlt : i < l.length
    · have hlti : (i : Int) < (l.length : Int) := by omega
      have hx : l[i]? = some l[i] := List.getElem?_eq_getElem hlt
      obtain ⟨y, hxx⟩ : ∃ x, x = l[i] := ⟨_, rfl⟩
      rw [← hxx] at hx
      clear hxx
      obtain ⟨b, off, rfl, c⟩ := rdi_at hF hx
      have c0 := c wr (Below.refl _ _)
      by_cases hxy : y = x
      · have E : Hid (B = true) := by show _ = _; rw [HB.out, ← hxy]; simp [List.mem_of_getElem? hx]
        subst hxy
        clear HN hF c hx HB
        go_wp2
        go_ret
        exact ⟨by rw [E.out]; rfl, rfl⟩
      · have HN' : Hid (x ∉ l.take (i + 1)) := notin_succ HN.out hx (fun h => hxy h.symm)
        clear HN hF c hx
        go_wp2
        go_roundg (gk - 1)
        case measure => omega
        case rel => exact ⟨i + 1, by omega, by go_num, rfl, HN'⟩
    · have hlti : ¬ (i : Int) < (l.length : Int) := by omega
      obtain rfl : i = l.length := by omega
      have E : Hid (B = false) := by
        show _ = _
        have := HN.out
        rw [List.take_length] at this
        rw [HB.out]
        simp [this]
      clear HN hF HB
      go_wp2
      go_ret
      exact ⟨by rw [E.out]; rfl, rfl⟩

set_option maxHeartbeats 1000000 in
theorem rcount_of (v : List Int) (vv : Value) (l : List Int) (lv : Value) (w : World) (hV : Rd intE w vv v) (hF : Rd intE w lv l) (hlv : v.length ≤ 1000000000000000) (hlen : l.length ≤ 1000000000000000) : Calls Try.prog 13 #[vv, lv] w fun e w' => e = .returned (.int .i64 (cnt v l : Nat)) ∧ w' = w := by
  obtain ⟨B, HB⟩ : ∃ B : Nat, Hid (B = cnt v l) := ⟨_, rfl⟩
  rw [← HB.out]
  have kc := fun x => rin_of l lv x w hF hlen
  obtain ⟨ao, cap, rfl, -, -⟩ := hF.shape
  obtain ⟨va, vcap, rfl, -, -⟩ := hV.shape
  go_enter Try.func13, Try.ntmps13
  go_wp2
  go_loopg [5, 6] v.length (fun g s5 s10 wr => ∃ i c : Nat, i + g = v.length ∧ s10 = .int .i64 (i : Int) ∧ s5 = .int .i64 (c : Int) ∧ wr = w ∧ c ≤ i ∧ Hid (c = cnt (v.take i) l))
  case atStart => exact ⟨0, 0, by simp, rfl, rfl, rfl, Nat.le_refl _, by rw [List.take_zero]; exact (cnt_nil l).symm⟩
  case round =>
    obtain ⟨i, c, hig, rfl, rfl, rfl, hci, HC⟩ := hrel
    by_cases hlt : i < v.length
    · have hlti : (i : Int) < (v.length : Int) := by omega
      have hx : v[i]? = some v[i] := List.getElem?_eq_getElem hlt
      obtain ⟨y, hxx⟩ : ∃ x, x = v[i] := ⟨_, rfl⟩
      rw [← hxx] at hx
      clear hxx
      obtain ⟨b, off, rfl, cc⟩ := rdi_at hV hx
      have c0 := cc wr (Below.refl _ _)
      have kc1 := kc y
      have hs := cnt_take (l := l) hx
      by_cases hy : y ∈ l
      · rw [decide_eq_true hy] at kc1
        have HC' : Hid (c + 1 = cnt (v.take (i + 1)) l) := by show _ = _; rw [hs, if_pos hy, HC.out]
        clear HC hF hV cc hx kc hs hy
        go_wp2_with fail
        refine kc1.mono ?_
        rintro e w1 ⟨rfl, hw1⟩
        subst hw1
        go_wp2
        go_roundg (gk - 1)
        case measure => omega
        case rel => exact ⟨i + 1, c + 1, by omega, by go_num, by go_num, rfl, by omega, HC'⟩
      · rw [decide_eq_false hy] at kc1
        have HC' : Hid (c = cnt (v.take (i + 1)) l) := by show _ = _; rw [hs, if_neg hy, HC.out]; rfl
        clear HC hF hV cc hx kc hs hy
        go_wp2_with fail
        refine kc1.mono ?_
        rintro e w1 ⟨rfl, hw1⟩
        subst hw1
        go_wp2
        go_roundg (gk - 1)
        case measure => omega
        case rel => exact ⟨i + 1, c, by omega, by go_num, rfl, rfl, by omega, HC'⟩
    · have hlti : ¬ (i : Int) < (v.length : Int) := by omega
      obtain rfl : i = v.length := by omega
      have E : Hid (B = c) := by show _ = _; rw [HB.out, HC.out, List.take_length]
      clear HC HB hF hV kc
      go_wp2
      go_ret
      exact ⟨by rw [E.out]; rfl, rfl⟩

theorem below_dN {n : Nat} {w w' : World} (h : Below n w w') (k : Nat) : Below n w (w'.drewN k) := below_drewN h k
theorem differ_of (a : List Int) (av : Value) (b : List Int) (bv : Value) (w : World) (hA : Rd intE w av a) (hB : Rd intE w bv b) (hla : a.length ≤ 1000000) (hlb : b.length ≤ 1000000) : Calls Try.prog 14 #[av, bv] w fun e w' => e = .returned (.int .i64 ((a.length : Int) + (b.length : Int) - 2 * (cnt a b : Nat))) ∧ w' = w := by
  have kc := rcount_of a av b bv w hA hB (by omega) (by omega)
  have hcl := cnt_le a b
  obtain ⟨aa, acap, rfl, -, -⟩ := hA.shape
  obtain ⟨ba, bcap, rfl, -, -⟩ := hB.shape
  clear hA hB
  generalize cnt a b = c at *
  generalize a.length = n at *
  generalize b.length = m at *
  go_enter Try.func14, Try.ntmps14
  go_wp2_with fail
  refine kc.mono ?_
  rintro e w1 ⟨rfl, hw1⟩
  subst hw1
  go_wp2
  go_ret
  exact ⟨rfl, rfl⟩

set_option maxHeartbeats 1000000 in
/-- Lists that are alike. -/
theorem ints_of (l : List Int) (lv mv : Value) (w : World) (hF : Rd intE w lv l) (hG : Rd intE w mv l) (hlen : l.length ≤ 1000000000000000) : Calls Try.prog 11 #[lv, mv] w fun e w' => e = .returned (.bool true) ∧ Below w.heap.size w w' := by
  obtain ⟨ao, cap, rfl, -, -⟩ := hF.shape
  obtain ⟨am, cm, rfl, -, -⟩ := hG.shape
  go_enter Try.func11, Try.ntmps11
  go_wp2
  go_loopg [5] l.length (fun g s5 wr => ∃ i : Nat, i + g = l.length ∧ s5 = .int .i64 (i : Int) ∧ Below w.heap.size w wr)
  case atStart => exact ⟨0, by simp, rfl, Below.refl _ _⟩
  case round =>
    obtain ⟨i, hig, rfl, hb⟩ := hrel
    by_cases hlt : i < l.length
    · have hlti : (i : Int) < (l.length : Int) := by omega
      have hx : l[i]? = some l[i] := List.getElem?_eq_getElem hlt
      obtain ⟨x, hxx⟩ : ∃ x, x = l[i] := ⟨_, rfl⟩
      rw [← hxx] at hx
      clear hxx
      obtain ⟨b, off, rfl, c⟩ := rdi_at hF hx
      obtain ⟨b', off', rfl, c'⟩ := rdi_at hG hx
      have c0 := c wr hb
      have c1 := c' wr hb
      clear hx c c' hF hG
      go_wp2
      go_quiet (fail)
      go_wp2
      go_roundg (gk - 1)
      case measure => omega
      case rel => exact ⟨i + 1, by omega, by go_num, below_dN hb nq⟩
    · have hlti : ¬ (i : Int) < (l.length : Int) := by omega
      clear hF hG
      go_wp2
      go_ret
      exact ⟨rfl, hb⟩
end Go.Proofs.Ytkglckngiggbhaa

