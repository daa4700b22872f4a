import Derived.Test.YtglbjimpaoikfaaHx28
import Derived.Test.YtglbjimpaoikfaaHx26
/- without of txn; the document's But. -/
namespace Go.Proofs.Ytglbjimpaoikfaa
open Go.RowKit LeaseMath
set_option maxRecDepth 100000
set_option linter.unusedSimpArgs false
set_option linter.unusedVariables false

/-- Those that are not in a list. -/
def lack (o v : List Int) : List Int := v.filter fun n => decide (n ∉ o)
theorem lack_in {o v : List Int} {i : Nat} {x : Int} (h : v[i]? = some x) (hx : x ∈ o) : lack o (v.take (i + 1)) = lack o (v.take i) := by
 unfold lack
 rw [List.take_add_one, h, List.filter_append]
 simp [hx]
theorem lack_out {o v : List Int} {i : Nat} {x : Int} (h : v[i]? = some x) (hx : x ∉ o) : lack o (v.take (i + 1)) = lack o (v.take i) ++ [x] := by
 unfold lack
 rw [List.take_add_one, h, List.filter_append]
 simp [hx]
theorem lack_len (o v : List Int) : (lack o v).length ≤ v.length := List.length_filter_le _ _
set_option maxHeartbeats 1000000 in
theorem without_of (o v : List Int) (ov vv : Value) (w : World) (hO : Rd intE w ov o) (hV : Rd intE w vv v) (hlo : o.length ≤ 1000000) (hlv : v.length ≤ 1000000) : Calls Try.prog 39 #[vv, ov] w fun e w' => ∃ u, e = .returned u ∧ Ow intE 3 w.heap.size w' u (lack o v) ∧ Below w.heap.size w w' := by
 have kc := fun x W (hW : Below w.heap.size w W) => contains_of o ov x W (hO.below hW) (by omega)
 have HV : Hid (Rd intE w vv v) := hV
 obtain ⟨oa, oc, rfl, -, -⟩ := hO.shape
 obtain ⟨va, vc, rfl, -, -⟩ := hV.shape
 clear hO hV
 go_enter Try.func39, Try.ntmps39
 go_wp2
 go_loopg [5, 10] v.length (fun g s5 s10 wr => ∃ (i : Nat) (st : Value), i + g = v.length ∧ s10 = .int .i64 (i : Int) ∧ st = s5 ∧ Ow intE 3 w.heap.size wr st (lack o (v.take i)) ∧ Below w.heap.size w wr)
 case atStart => exact ⟨0, _, by simp, rfl, rfl, by rw [List.take_zero]; exact Ow.nil _ _ _ _, Below.refl _ _⟩
 case round =>
  obtain ⟨i, st, hig, rfl, rfl, hO, hb⟩ := hrel
  by_cases hlt : i < v.length
  ·have hlti : (i : Int) < (v.length : Int) := by omega
   have hx : v[i]? = some v[i] := List.getElem?_eq_getElem hlt
   obtain ⟨y, hxx⟩ : ∃ x, x = v[i] := ⟨_, rfl⟩
   rw [← hxx] at hx
   clear hxx
   obtain ⟨b, off, rfl, cc⟩ := rdi_at HV.out hx
   have c0 := cc wr hb
   have kc1 := kc y wr hb
   have hll := lack_len o (v.take i)
   rw [List.length_take] at hll
   by_cases hy : y ∈ o
   ·rw [decide_eq_true hy] at kc1
    have HO : Hid (Ow intE 3 w.heap.size wr st (lack o (v.take (i + 1)))) := by show Ow _ _ _ _ _ _; rw [lack_in hx hy]; exact hO
    obtain ⟨sa, sc, rfl, -⟩ := hO.1.shape
    clear hO HV cc hx kc hy hll
    go_wp2_with fail
    refine kc1.mono ?_
    rintro e w1 ⟨rfl, hw1⟩
    subst hw1
    clear kc1
    go_wp2
    go_roundg (gk - 1)
    case measure => omega
    case rel => exact ⟨i + 1, _, by omega, by go_num, rfl, HO.out, hb⟩
   ·rw [decide_eq_false hy] at kc1
    have hrun : Hid _ := push_int y hO.1 (by omega)
    have HP : Hid (∀ v' w', PushT intE 3 wr st (lack o (v.take i) ++ [y]) v' w' → Ow intE 3 w.heap.size w' v' (lack o (v.take (i + 1))) ∧ Below w.heap.size wr w') := fun v' w' h => by
     rw [lack_out hx hy]
     exact hO.push hb.size h
    obtain ⟨sa, sc, rfl, -⟩ := hO.1.shape
    generalize lack o (v.take i) = L at *
    clear hO HV cc hx kc hy hll
    go_wp2_with fail
    refine kc1.mono ?_
    rintro e w1 ⟨rfl, hw1⟩
    subst hw1
    clear kc1
    go_wp2_with (at_builtin; refine wp_by rfl _ _ _ rfl _ _ rfl rfl hrun.out ?_)
    intro u w2 hp
    obtain ⟨h1, h2⟩ := HP.out u w2 hp
    obtain ⟨ua, uc, rfl, -⟩ := h1.1.shape
    have hb2 := hb.trans h2
    clear hrun HP hp h2
    go_wp2
    go_roundg (gk - 1)
    case measure => omega
    case rel => exact ⟨i + 1, _, by omega, by go_num, rfl, h1, hb2⟩
  ·have hlti : ¬ (i : Int) < (v.length : Int) := by omega
   obtain rfl : i = v.length := by omega
   rw [List.take_length] at hO
   obtain ⟨sa, sc, rfl, -⟩ := hO.1.shape
   have HO : Hid _ := hO
   clear hO HV kc
   go_wp2
   go_ret
   exact ⟨_, rfl, HO.out, hb⟩
set_option maxHeartbeats 1000000 in
theorem rbut_of (o v : List Int) (ov vv : Value) (w : World) (hO : Rd intE w ov o) (hV : Rd intE w vv v) (hlo : o.length ≤ 1000000) (hlv : v.length ≤ 1000000) : Calls Try.prog 40 #[vv, ov] w fun e w' => ∃ u, e = .returned u ∧ Ow intE 3 w.heap.size w' u (lack o v) ∧ Below w.heap.size w w' := by
 have kc := fun x W (hW : Below w.heap.size w W) => rin_of o ov x W (hO.below hW) (by omega)
 have HV : Hid (Rd intE w vv v) := hV
 obtain ⟨oa, oc, rfl, -, -⟩ := hO.shape
 obtain ⟨va, vc, rfl, -, -⟩ := hV.shape
 clear hO hV
 obtain ⟨q1, q2, q3⟩ := one_box w (.cells #[] 3)
 have hO0 : Hid (Ow intE 3 w.heap.size (w.alloc (.cells #[] 3)) (.slice (some ⟨w.heap.size, 0, none⟩) 0 0) []) := ⟨Rk.made (xs := []) q2 rfl (by unfold maxLen; simp), fun k hk => by cases hk; exact Nat.le_refl _⟩
 clear q1 q2
 go_enter Try.func40, Try.ntmps40
 go_wp2
 go_loopg [5, 6] v.length (fun g s5 s6 wr => ∃ (i : Nat) (st : Value), i + g = v.length ∧ s6 = .int .i64 (i : Int) ∧ st = s5 ∧ Ow intE 3 w.heap.size wr st (lack o (v.take i)) ∧ Below w.heap.size w wr)
 case atStart => exact ⟨0, _, by simp, rfl, rfl, by rw [List.take_zero]; exact hO0.out, q3⟩
 case round =>
  obtain ⟨i, st, hig, rfl, rfl, hO, hb⟩ := hrel
  by_cases hlt : i < v.length
  ·have hlti : (i : Int) < (v.length : Int) := by omega
   have hx : v[i]? = some v[i] := List.getElem?_eq_getElem hlt
   obtain ⟨y, hxx⟩ : ∃ x, x = v[i] := ⟨_, rfl⟩
   rw [← hxx] at hx
   clear hxx
   obtain ⟨b, off, rfl, cc⟩ := rdi_at HV.out hx
   have c0 := cc wr hb
   have kc1 := kc y wr hb
   have hll := lack_len o (v.take i)
   rw [List.length_take] at hll
   by_cases hy : y ∈ o
   ·rw [decide_eq_true hy] at kc1
    have HO : Hid (Ow intE 3 w.heap.size wr st (lack o (v.take (i + 1)))) := by show Ow _ _ _ _ _ _; rw [lack_in hx hy]; exact hO
    obtain ⟨sa, sc, rfl, -⟩ := hO.1.shape
    clear hO HV cc hx kc hy hll
    go_wp2_with fail
    refine kc1.mono ?_
    rintro e w1 ⟨rfl, hw1⟩
    subst hw1
    clear kc1
    go_wp2
    go_roundg (gk - 1)
    case measure => omega
    case rel => exact ⟨i + 1, _, by omega, by go_num, rfl, HO.out, hb⟩
   ·rw [decide_eq_false hy] at kc1
    have hrun : Hid _ := push_int y hO.1 (by omega)
    have HP : Hid (∀ v' w', PushT intE 3 wr st (lack o (v.take i) ++ [y]) v' w' → Ow intE 3 w.heap.size w' v' (lack o (v.take (i + 1))) ∧ Below w.heap.size wr w') := fun v' w' h => by
     rw [lack_out hx hy]
     exact hO.push hb.size h
    obtain ⟨sa, sc, rfl, -⟩ := hO.1.shape
    generalize lack o (v.take i) = L at *
    clear hO HV cc hx kc hy hll
    go_wp2_with fail
    refine kc1.mono ?_
    rintro e w1 ⟨rfl, hw1⟩
    subst hw1
    clear kc1
    go_wp2_with (at_builtin; refine wp_by rfl _ _ _ rfl _ _ rfl rfl hrun.out ?_)
    intro u w2 hp
    obtain ⟨h1, h2⟩ := HP.out u w2 hp
    obtain ⟨ua, uc, rfl, -⟩ := h1.1.shape
    have hb2 := hb.trans h2
    clear hrun HP hp h2
    go_wp2
    go_roundg (gk - 1)
    case measure => omega
    case rel => exact ⟨i + 1, _, by omega, by go_num, rfl, h1, hb2⟩
  ·have hlti : ¬ (i : Int) < (v.length : Int) := by omega
   obtain rfl : i = v.length := by omega
   rw [List.take_length] at hO
   obtain ⟨sa, sc, rfl, -⟩ := hO.1.shape
   have HO : Hid _ := hO
   clear hO HV kc
   go_wp2
   go_ret
   exact ⟨_, rfl, HO.out, hb⟩
end Go.Proofs.Ytglbjimpaoikfaa

