import Derived.Test.YtfpbgfmnjpamlaaGreatHv08
/- slices.IndexFunc and slices.ContainsFunc with the closures of table: what a closure tells is a premise. -/
namespace Go.Proofs.YtfpbgfmnjpamlaaGreat
open Go.RowKit LeaseMath
set_option maxRecDepth 100000
set_option linter.unusedSimpArgs false
set_option linter.unusedVariables false

/-- Where the first stands. -/
def firstP {α : Type} (P : α → Bool) : List α → Nat → Option Nat
 | [], _ => none
 | x :: l, j => if P x then some j else firstP P l (j + 1)
def idxP : Option Nat → Int
 | none => -1
 | some i => (i : Int)
theorem firstP_some {α : Type} (P : α → Bool) : ∀ (l : List α) (j : Nat), (firstP P l j).isSome = l.any P
 | [], j => rfl
 | x :: l, j => by
  rw [firstP, List.any_cons]
  cases P x with
  | true => rfl
  | false => simpa using firstP_some P l (j + 1)
theorem firstP_at {α : Type} {P : α → Bool} {l : List α} {i : Nat} {s : α} (hs : l[i]? = some s) : firstP P (l.drop i) i = if P s then some i else firstP P (l.drop (i + 1)) (i + 1) := by
 obtain ⟨h, rfl⟩ := List.getElem?_eq_some_iff.1 hs
 rw [List.drop_eq_getElem_cons h, firstP]

set_option maxHeartbeats 2000000 in
theorem anySpans_ix (P : Sp → Bool) (zs : List Sp) (lv p0 : Value) (w : World) (hL : Rd spE w lv zs) (hlen : zs.length ≤ 4611686018427387904) (hP : ∀ z W, z ∈ zs → Below w.heap.size w W → Calls Tryz.prog 153 #[sv z, p0] W fun e w' => e = .returned (.bool (P z)) ∧ Below W.heap.size W w') :
  Calls Tryz.prog 133 #[lv, .func (.func 153) #[] #[p0]] w fun e w' => e = .returned (.int .i64 (idxP (firstP P zs 0))) ∧ Below w.heap.size w w' := by
 have HL : Hid (Rd spE w lv zs) := hL
 have HP0 : Hid (∀ z W, z ∈ zs → Below w.heap.size w W → Calls Tryz.prog 153 #[sv z, p0] W fun e w' => e = .returned (.bool (P z)) ∧ Below W.heap.size W w') := hP
 obtain ⟨ao, cap, rfl, -, -⟩ := hL.shape
 clear hL hP
 go_enter Tryz.func133, Tryz.ntmps133
 go_wp2
 go_loopg [8] zs.length (fun g s8 wr => ∃ i : Nat, i + g = zs.length ∧ s8 = .int .i64 (i : Int) ∧ Below w.heap.size w wr ∧ Hid (firstP P (zs.drop i) i = firstP P zs 0))
 case atStart => exact ⟨0, by simp, rfl, Below.refl _ _, rfl⟩
 case round =>
  obtain ⟨i, hig, rfl, hb, HF⟩ := hrel
  by_cases hlt : i < zs.length
  ·have hlti : (i : Int) < (zs.length : Int) := by omega
   have hx : zs[i]? = some zs[i] := List.getElem?_eq_getElem hlt
   obtain ⟨z, hzz⟩ : ∃ z, z = zs[i] := ⟨_, rfl⟩
   rw [← hzz] at hx
   clear hzz
   have kf := HP0.out z wr (List.mem_of_getElem? hx) hb
   obtain ⟨b, off, rfl, cc⟩ := rdq_at HL.out hx
   obtain ⟨c0, c1⟩ := cc wr hb
   have HN : Hid ((if P z then some i else firstP P (zs.drop (i + 1)) (i + 1)) = firstP P zs 0) := by show _ = _; rw [← HF.out, firstP_at hx]
   cases hh : P z with
   | true =>
    rw [hh] at kf
    have HR : Hid (firstP P zs 0 = some i) := by show _ = _; rw [← HN.out, hh]; rfl
    obtain ⟨x0, x1⟩ := z
    dsimp only at *
    clear HN hh hx HF HL HP0 cc
    go_wp2_with (go_at_call 153; refine kf.mono ?_; rintro e wc ⟨rfl, hbc⟩)
    go_ret
    exact ⟨by rw [HR.out]; rfl, hb.trans (hbc.mono hb.size)⟩
   | false =>
    rw [hh] at kf
    have HR : Hid (firstP P (zs.drop (i + 1)) (i + 1) = firstP P zs 0) := by show _ = _; rw [← HN.out, hh]; rfl
    obtain ⟨x0, x1⟩ := z
    dsimp only at *
    clear HN hh hx HF HL HP0 cc
    go_wp2_with (go_at_call 153; refine kf.mono ?_; rintro e wc ⟨rfl, hbc⟩)
    go_roundg (gk - 1)
    case measure => omega
    case rel => exact ⟨i + 1, by omega, by go_num, hb.trans (hbc.mono hb.size), HR⟩
  ·have hlti : ¬ (i : Int) < (zs.length : Int) := by omega
   have HR : Hid (firstP P zs 0 = none) := by show _ = _; rw [← HF.out, List.drop_eq_nil_of_le (by omega)]; rfl
   clear HF HL HP0
   go_wp2
   go_ret
   exact ⟨by rw [HR.out]; rfl, hb⟩

theorem anySpans_of (P : Sp → Bool) (zs : List Sp) (lv p0 : Value) (w : World) (hL : Rd spE w lv zs) (hlen : zs.length ≤ 4611686018427387904) (hP : ∀ z W, z ∈ zs → Below w.heap.size w W → Calls Tryz.prog 153 #[sv z, p0] W fun e w' => e = .returned (.bool (P z)) ∧ Below W.heap.size W w') :
  Calls Tryz.prog 70 #[lv, .func (.func 153) #[] #[p0]] w fun e w' => e = .returned (.bool (zs.any P)) ∧ Below w.heap.size w w' := by
 have ki := anySpans_ix P zs lv p0 w hL hlen hP
 rw [← firstP_some P zs 0]
 generalize firstP P zs 0 = o at *
 clear hL hP
 cases o with
 | none =>
  simp only [idxP] at ki
  go_enter Tryz.func70, Tryz.ntmps70
  go_wp2_with fail
  refine ki.mono ?_
  rintro e w1 ⟨rfl, hb1⟩
  go_wp2
  go_ret
  exact ⟨rfl, hb1⟩
 | some j =>
  simp only [idxP] at ki
  have hj : (0 : Int) ≤ (j : Int) := by omega
  go_enter Tryz.func70, Tryz.ntmps70
  go_wp2_with fail
  refine ki.mono ?_
  rintro e w1 ⟨rfl, hb1⟩
  go_wp2
  go_ret
  exact ⟨rfl, hb1⟩

set_option maxHeartbeats 2000000 in
theorem anyMarks_ix (P : Mk → Bool) (zs : List Mk) (lv p0 p1 : Value) (w : World) (hL : Rd markE w lv zs) (hlen : zs.length ≤ 4611686018427387904) (hP : ∀ z W, z ∈ zs → Below w.heap.size w W → Calls Tryz.prog 130 #[mv z, p0, p1] W fun e w' => e = .returned (.bool (P z)) ∧ Below W.heap.size W w') :
  Calls Tryz.prog 162 #[lv, .func (.func 130) #[] #[p0, p1]] w fun e w' => e = .returned (.int .i64 (idxP (firstP P zs 0))) ∧ Below w.heap.size w w' := by
 have HL : Hid (Rd markE w lv zs) := hL
 have HP0 : Hid (∀ z W, z ∈ zs → Below w.heap.size w W → Calls Tryz.prog 130 #[mv z, p0, p1] W fun e w' => e = .returned (.bool (P z)) ∧ Below W.heap.size W w') := hP
 obtain ⟨ao, cap, rfl, -, -⟩ := hL.shape
 clear hL hP
 go_enter Tryz.func162, Tryz.ntmps162
 go_wp2
 go_loopg [8] zs.length (fun g s8 wr => ∃ i : Nat, i + g = zs.length ∧ s8 = .int .i64 (i : Int) ∧ Below w.heap.size w wr ∧ Hid (firstP P (zs.drop i) i = firstP P zs 0))
 case atStart => exact ⟨0, by simp, rfl, Below.refl _ _, rfl⟩
 case round =>
  obtain ⟨i, hig, rfl, hb, HF⟩ := hrel
  by_cases hlt : i < zs.length
  ·have hlti : (i : Int) < (zs.length : Int) := by omega
   have hx : zs[i]? = some zs[i] := List.getElem?_eq_getElem hlt
   obtain ⟨z, hzz⟩ : ∃ z, z = zs[i] := ⟨_, rfl⟩
   rw [← hzz] at hx
   clear hzz
   have kf := HP0.out z wr (List.mem_of_getElem? hx) hb
   obtain ⟨b, off, rfl, cc⟩ := rdm_at HL.out hx
   obtain ⟨c0, c1⟩ := cc wr hb
   have HN : Hid ((if P z then some i else firstP P (zs.drop (i + 1)) (i + 1)) = firstP P zs 0) := by show _ = _; rw [← HF.out, firstP_at hx]
   cases hh : P z with
   | true =>
    rw [hh] at kf
    have HR : Hid (firstP P zs 0 = some i) := by show _ = _; rw [← HN.out, hh]; rfl
    obtain ⟨x0, x1⟩ := z
    dsimp only at *
    clear HN hh hx HF HL HP0 cc
    go_wp2_with (go_at_call 130; refine kf.mono ?_; rintro e wc ⟨rfl, hbc⟩)
    go_ret
    exact ⟨by rw [HR.out]; rfl, hb.trans (hbc.mono hb.size)⟩
   | false =>
    rw [hh] at kf
    have HR : Hid (firstP P (zs.drop (i + 1)) (i + 1) = firstP P zs 0) := by show _ = _; rw [← HN.out, hh]; rfl
    obtain ⟨x0, x1⟩ := z
    dsimp only at *
    clear HN hh hx HF HL HP0 cc
    go_wp2_with (go_at_call 130; refine kf.mono ?_; rintro e wc ⟨rfl, hbc⟩)
    go_roundg (gk - 1)
    case measure => omega
    case rel => exact ⟨i + 1, by omega, by go_num, hb.trans (hbc.mono hb.size), HR⟩
  ·have hlti : ¬ (i : Int) < (zs.length : Int) := by omega
   have HR : Hid (firstP P zs 0 = none) := by show _ = _; rw [← HF.out, List.drop_eq_nil_of_le (by omega)]; rfl
   clear HF HL HP0
   go_wp2
   go_ret
   exact ⟨by rw [HR.out]; rfl, hb⟩

theorem anyMarks_of (P : Mk → Bool) (zs : List Mk) (lv p0 p1 : Value) (w : World) (hL : Rd markE w lv zs) (hlen : zs.length ≤ 4611686018427387904) (hP : ∀ z W, z ∈ zs → Below w.heap.size w W → Calls Tryz.prog 130 #[mv z, p0, p1] W fun e w' => e = .returned (.bool (P z)) ∧ Below W.heap.size W w') :
  Calls Tryz.prog 129 #[lv, .func (.func 130) #[] #[p0, p1]] w fun e w' => e = .returned (.bool (zs.any P)) ∧ Below w.heap.size w w' := by
 have ki := anyMarks_ix P zs lv p0 p1 w hL hlen hP
 rw [← firstP_some P zs 0]
 generalize firstP P zs 0 = o at *
 clear hL hP
 cases o with
 | none =>
  simp only [idxP] at ki
  go_enter Tryz.func129, Tryz.ntmps129
  go_wp2_with fail
  refine ki.mono ?_
  rintro e w1 ⟨rfl, hb1⟩
  go_wp2
  go_ret
  exact ⟨rfl, hb1⟩
 | some j =>
  simp only [idxP] at ki
  have hj : (0 : Int) ≤ (j : Int) := by omega
  go_enter Tryz.func129, Tryz.ntmps129
  go_wp2_with fail
  refine ki.mono ?_
  rintro e w1 ⟨rfl, hb1⟩
  go_wp2
  go_ret
  exact ⟨rfl, hb1⟩

set_option maxHeartbeats 2000000 in
theorem anyHolds_ix (P : Hd → Bool) (zs : List Hd) (lv p0 : Value) (w : World) (hL : Rd holdE w lv zs) (hlen : zs.length ≤ 4611686018427387904) (hP : ∀ z W, z ∈ zs → Below w.heap.size w W → Calls Tryz.prog 132 #[hv z, p0] W fun e w' => e = .returned (.bool (P z)) ∧ Below W.heap.size W w') :
  Calls Tryz.prog 171 #[lv, .func (.func 132) #[] #[p0]] w fun e w' => e = .returned (.int .i64 (idxP (firstP P zs 0))) ∧ Below w.heap.size w w' := by
 have HL : Hid (Rd holdE w lv zs) := hL
 have HP0 : Hid (∀ z W, z ∈ zs → Below w.heap.size w W → Calls Tryz.prog 132 #[hv z, p0] W fun e w' => e = .returned (.bool (P z)) ∧ Below W.heap.size W w') := hP
 obtain ⟨ao, cap, rfl, -, -⟩ := hL.shape
 clear hL hP
 go_enter Tryz.func171, Tryz.ntmps171
 go_wp2
 go_loopg [8] zs.length (fun g s8 wr => ∃ i : Nat, i + g = zs.length ∧ s8 = .int .i64 (i : Int) ∧ Below w.heap.size w wr ∧ Hid (firstP P (zs.drop i) i = firstP P zs 0))
 case atStart => exact ⟨0, by simp, rfl, Below.refl _ _, rfl⟩
 case round =>
  obtain ⟨i, hig, rfl, hb, HF⟩ := hrel
  by_cases hlt : i < zs.length
  ·have hlti : (i : Int) < (zs.length : Int) := by omega
   have hx : zs[i]? = some zs[i] := List.getElem?_eq_getElem hlt
   obtain ⟨z, hzz⟩ : ∃ z, z = zs[i] := ⟨_, rfl⟩
   rw [← hzz] at hx
   clear hzz
   have kf := HP0.out z wr (List.mem_of_getElem? hx) hb
   obtain ⟨b, off, rfl, cc⟩ := rdh_at HL.out hx
   obtain ⟨c0, c1, c2⟩ := cc wr hb
   have HN : Hid ((if P z then some i else firstP P (zs.drop (i + 1)) (i + 1)) = firstP P zs 0) := by show _ = _; rw [← HF.out, firstP_at hx]
   cases hh : P z with
   | true =>
    rw [hh] at kf
    have HR : Hid (firstP P zs 0 = some i) := by show _ = _; rw [← HN.out, hh]; rfl
    obtain ⟨x0, x1, x2⟩ := z
    dsimp only at *
    clear HN hh hx HF HL HP0 cc
    go_wp2_with (go_at_call 132; refine kf.mono ?_; rintro e wc ⟨rfl, hbc⟩)
    go_ret
    exact ⟨by rw [HR.out]; rfl, hb.trans (hbc.mono hb.size)⟩
   | false =>
    rw [hh] at kf
    have HR : Hid (firstP P (zs.drop (i + 1)) (i + 1) = firstP P zs 0) := by show _ = _; rw [← HN.out, hh]; rfl
    obtain ⟨x0, x1, x2⟩ := z
    dsimp only at *
    clear HN hh hx HF HL HP0 cc
    go_wp2_with (go_at_call 132; refine kf.mono ?_; rintro e wc ⟨rfl, hbc⟩)
    go_roundg (gk - 1)
    case measure => omega
    case rel => exact ⟨i + 1, by omega, by go_num, hb.trans (hbc.mono hb.size), HR⟩
  ·have hlti : ¬ (i : Int) < (zs.length : Int) := by omega
   have HR : Hid (firstP P zs 0 = none) := by show _ = _; rw [← HF.out, List.drop_eq_nil_of_le (by omega)]; rfl
   clear HF HL HP0
   go_wp2
   go_ret
   exact ⟨by rw [HR.out]; rfl, hb⟩

theorem anyHolds_of (P : Hd → Bool) (zs : List Hd) (lv p0 : Value) (w : World) (hL : Rd holdE w lv zs) (hlen : zs.length ≤ 4611686018427387904) (hP : ∀ z W, z ∈ zs → Below w.heap.size w W → Calls Tryz.prog 132 #[hv z, p0] W fun e w' => e = .returned (.bool (P z)) ∧ Below W.heap.size W w') :
  Calls Tryz.prog 131 #[lv, .func (.func 132) #[] #[p0]] w fun e w' => e = .returned (.bool (zs.any P)) ∧ Below w.heap.size w w' := by
 have ki := anyHolds_ix P zs lv p0 w hL hlen hP
 rw [← firstP_some P zs 0]
 generalize firstP P zs 0 = o at *
 clear hL hP
 cases o with
 | none =>
  simp only [idxP] at ki
  go_enter Tryz.func131, Tryz.ntmps131
  go_wp2_with fail
  refine ki.mono ?_
  rintro e w1 ⟨rfl, hb1⟩
  go_wp2
  go_ret
  exact ⟨rfl, hb1⟩
 | some j =>
  simp only [idxP] at ki
  have hj : (0 : Int) ≤ (j : Int) := by omega
  go_enter Tryz.func131, Tryz.ntmps131
  go_wp2_with fail
  refine ki.mono ?_
  rintro e w1 ⟨rfl, hb1⟩
  go_wp2
  go_ret
  exact ⟨rfl, hb1⟩

set_option maxHeartbeats 2000000 in
theorem anyInts_ix (P : It → Bool) (zs : List It) (lv p0 : Value) (w : World) (hL : Rd itE w lv zs) (hlen : zs.length ≤ 4611686018427387904) (hP : ∀ z W, z ∈ zs → Below w.heap.size w W → Calls Tryz.prog 150 #[iv z, p0] W fun e w' => e = .returned (.bool (P z)) ∧ Below W.heap.size W w') :
  Calls Tryz.prog 109 #[lv, .func (.func 150) #[] #[p0]] w fun e w' => e = .returned (.int .i64 (idxP (firstP P zs 0))) ∧ Below w.heap.size w w' := by
 have HL : Hid (Rd itE w lv zs) := hL
 have HP0 : Hid (∀ z W, z ∈ zs → Below w.heap.size w W → Calls Tryz.prog 150 #[iv z, p0] W fun e w' => e = .returned (.bool (P z)) ∧ Below W.heap.size W w') := hP
 obtain ⟨ao, cap, rfl, -, -⟩ := hL.shape
 clear hL hP
 go_enter Tryz.func109, Tryz.ntmps109
 go_wp2
 go_loopg [8] zs.length (fun g s8 wr => ∃ i : Nat, i + g = zs.length ∧ s8 = .int .i64 (i : Int) ∧ Below w.heap.size w wr ∧ Hid (firstP P (zs.drop i) i = firstP P zs 0))
 case atStart => exact ⟨0, by simp, rfl, Below.refl _ _, rfl⟩
 case round =>
  obtain ⟨i, hig, rfl, hb, HF⟩ := hrel
  by_cases hlt : i < zs.length
  ·have hlti : (i : Int) < (zs.length : Int) := by omega
   have hx : zs[i]? = some zs[i] := List.getElem?_eq_getElem hlt
   obtain ⟨z, hzz⟩ : ∃ z, z = zs[i] := ⟨_, rfl⟩
   rw [← hzz] at hx
   clear hzz
   have kf := HP0.out z wr (List.mem_of_getElem? hx) hb
   obtain ⟨b, off, rfl, cc⟩ := rdx_at HL.out hx
   obtain ⟨c0, c1, c2, c3, c4, c5⟩ := cc wr hb
   have HN : Hid ((if P z then some i else firstP P (zs.drop (i + 1)) (i + 1)) = firstP P zs 0) := by show _ = _; rw [← HF.out, firstP_at hx]
   cases hh : P z with
   | true =>
    rw [hh] at kf
    have HR : Hid (firstP P zs 0 = some i) := by show _ = _; rw [← HN.out, hh]; rfl
    obtain ⟨x0, ⟨x1, x2⟩, x3, x4, x5⟩ := z
    dsimp only at *
    clear HN hh hx HF HL HP0 cc
    go_wp2_with (go_at_call 150; refine kf.mono ?_; rintro e wc ⟨rfl, hbc⟩)
    go_ret
    exact ⟨by rw [HR.out]; rfl, hb.trans (hbc.mono hb.size)⟩
   | false =>
    rw [hh] at kf
    have HR : Hid (firstP P (zs.drop (i + 1)) (i + 1) = firstP P zs 0) := by show _ = _; rw [← HN.out, hh]; rfl
    obtain ⟨x0, ⟨x1, x2⟩, x3, x4, x5⟩ := z
    dsimp only at *
    clear HN hh hx HF HL HP0 cc
    go_wp2_with (go_at_call 150; refine kf.mono ?_; rintro e wc ⟨rfl, hbc⟩)
    go_roundg (gk - 1)
    case measure => omega
    case rel => exact ⟨i + 1, by omega, by go_num, hb.trans (hbc.mono hb.size), HR⟩
  ·have hlti : ¬ (i : Int) < (zs.length : Int) := by omega
   have HR : Hid (firstP P zs 0 = none) := by show _ = _; rw [← HF.out, List.drop_eq_nil_of_le (by omega)]; rfl
   clear HF HL HP0
   go_wp2
   go_ret
   exact ⟨by rw [HR.out]; rfl, hb⟩

theorem anyInts_of (P : It → Bool) (zs : List It) (lv p0 : Value) (w : World) (hL : Rd itE w lv zs) (hlen : zs.length ≤ 4611686018427387904) (hP : ∀ z W, z ∈ zs → Below w.heap.size w W → Calls Tryz.prog 150 #[iv z, p0] W fun e w' => e = .returned (.bool (P z)) ∧ Below W.heap.size W w') :
  Calls Tryz.prog 58 #[lv, .func (.func 150) #[] #[p0]] w fun e w' => e = .returned (.bool (zs.any P)) ∧ Below w.heap.size w w' := by
 have ki := anyInts_ix P zs lv p0 w hL hlen hP
 rw [← firstP_some P zs 0]
 generalize firstP P zs 0 = o at *
 clear hL hP
 cases o with
 | none =>
  simp only [idxP] at ki
  go_enter Tryz.func58, Tryz.ntmps58
  go_wp2_with fail
  refine ki.mono ?_
  rintro e w1 ⟨rfl, hb1⟩
  go_wp2
  go_ret
  exact ⟨rfl, hb1⟩
 | some j =>
  simp only [idxP] at ki
  have hj : (0 : Int) ≤ (j : Int) := by omega
  go_enter Tryz.func58, Tryz.ntmps58
  go_wp2_with fail
  refine ki.mono ?_
  rintro e w1 ⟨rfl, hb1⟩
  go_wp2
  go_ret
  exact ⟨rfl, hb1⟩

set_option maxHeartbeats 2000000 in
theorem idxFin_ix (P : It → Bool) (zs : List It) (lv p0 : Value) (w : World) (hL : Rd itE w lv zs) (hlen : zs.length ≤ 4611686018427387904) (hP : ∀ z W, z ∈ zs → Below w.heap.size w W → Calls Tryz.prog 46 #[iv z, p0] W fun e w' => e = .returned (.bool (P z)) ∧ Below W.heap.size W w') :
  Calls Tryz.prog 109 #[lv, .func (.func 46) #[] #[p0]] w fun e w' => e = .returned (.int .i64 (idxP (firstP P zs 0))) ∧ Below w.heap.size w w' := by
 have HL : Hid (Rd itE w lv zs) := hL
 have HP0 : Hid (∀ z W, z ∈ zs → Below w.heap.size w W → Calls Tryz.prog 46 #[iv z, p0] W fun e w' => e = .returned (.bool (P z)) ∧ Below W.heap.size W w') := hP
 obtain ⟨ao, cap, rfl, -, -⟩ := hL.shape
 clear hL hP
 go_enter Tryz.func109, Tryz.ntmps109
 go_wp2
 go_loopg [8] zs.length (fun g s8 wr => ∃ i : Nat, i + g = zs.length ∧ s8 = .int .i64 (i : Int) ∧ Below w.heap.size w wr ∧ Hid (firstP P (zs.drop i) i = firstP P zs 0))
 case atStart => exact ⟨0, by simp, rfl, Below.refl _ _, rfl⟩
 case round =>
  obtain ⟨i, hig, rfl, hb, HF⟩ := hrel
  by_cases hlt : i < zs.length
  ·have hlti : (i : Int) < (zs.length : Int) := by omega
   have hx : zs[i]? = some zs[i] := List.getElem?_eq_getElem hlt
   obtain ⟨z, hzz⟩ : ∃ z, z = zs[i] := ⟨_, rfl⟩
   rw [← hzz] at hx
   clear hzz
   have kf := HP0.out z wr (List.mem_of_getElem? hx) hb
   obtain ⟨b, off, rfl, cc⟩ := rdx_at HL.out hx
   obtain ⟨c0, c1, c2, c3, c4, c5⟩ := cc wr hb
   have HN : Hid ((if P z then some i else firstP P (zs.drop (i + 1)) (i + 1)) = firstP P zs 0) := by show _ = _; rw [← HF.out, firstP_at hx]
   cases hh : P z with
   | true =>
    rw [hh] at kf
    have HR : Hid (firstP P zs 0 = some i) := by show _ = _; rw [← HN.out, hh]; rfl
    obtain ⟨x0, ⟨x1, x2⟩, x3, x4, x5⟩ := z
    dsimp only at *
    clear HN hh hx HF HL HP0 cc
    go_wp2_with (go_at_call 46; refine kf.mono ?_; rintro e wc ⟨rfl, hbc⟩)
    go_ret
    exact ⟨by rw [HR.out]; rfl, hb.trans (hbc.mono hb.size)⟩
   | false =>
    rw [hh] at kf
    have HR : Hid (firstP P (zs.drop (i + 1)) (i + 1) = firstP P zs 0) := by show _ = _; rw [← HN.out, hh]; rfl
    obtain ⟨x0, ⟨x1, x2⟩, x3, x4, x5⟩ := z
    dsimp only at *
    clear HN hh hx HF HL HP0 cc
    go_wp2_with (go_at_call 46; refine kf.mono ?_; rintro e wc ⟨rfl, hbc⟩)
    go_roundg (gk - 1)
    case measure => omega
    case rel => exact ⟨i + 1, by omega, by go_num, hb.trans (hbc.mono hb.size), HR⟩
  ·have hlti : ¬ (i : Int) < (zs.length : Int) := by omega
   have HR : Hid (firstP P zs 0 = none) := by show _ = _; rw [← HF.out, List.drop_eq_nil_of_le (by omega)]; rfl
   clear HF HL HP0
   go_wp2
   go_ret
   exact ⟨by rw [HR.out]; rfl, hb⟩

set_option maxHeartbeats 2000000 in
theorem idxMk_ix (P : Mk → Bool) (zs : List Mk) (lv p0 : Value) (w : World) (hL : Rd markE w lv zs) (hlen : zs.length ≤ 4611686018427387904) (hP : ∀ z W, z ∈ zs → Below w.heap.size w W → Calls Tryz.prog 113 #[mv z, p0] W fun e w' => e = .returned (.bool (P z)) ∧ Below W.heap.size W w') :
  Calls Tryz.prog 162 #[lv, .func (.func 113) #[] #[p0]] w fun e w' => e = .returned (.int .i64 (idxP (firstP P zs 0))) ∧ Below w.heap.size w w' := by
 have HL : Hid (Rd markE w lv zs) := hL
 have HP0 : Hid (∀ z W, z ∈ zs → Below w.heap.size w W → Calls Tryz.prog 113 #[mv z, p0] W fun e w' => e = .returned (.bool (P z)) ∧ Below W.heap.size W w') := hP
 obtain ⟨ao, cap, rfl, -, -⟩ := hL.shape
 clear hL hP
 go_enter Tryz.func162, Tryz.ntmps162
 go_wp2
 go_loopg [8] zs.length (fun g s8 wr => ∃ i : Nat, i + g = zs.length ∧ s8 = .int .i64 (i : Int) ∧ Below w.heap.size w wr ∧ Hid (firstP P (zs.drop i) i = firstP P zs 0))
 case atStart => exact ⟨0, by simp, rfl, Below.refl _ _, rfl⟩
 case round =>
  obtain ⟨i, hig, rfl, hb, HF⟩ := hrel
  by_cases hlt : i < zs.length
  ·have hlti : (i : Int) < (zs.length : Int) := by omega
   have hx : zs[i]? = some zs[i] := List.getElem?_eq_getElem hlt
   obtain ⟨z, hzz⟩ : ∃ z, z = zs[i] := ⟨_, rfl⟩
   rw [← hzz] at hx
   clear hzz
   have kf := HP0.out z wr (List.mem_of_getElem? hx) hb
   obtain ⟨b, off, rfl, cc⟩ := rdm_at HL.out hx
   obtain ⟨c0, c1⟩ := cc wr hb
   have HN : Hid ((if P z then some i else firstP P (zs.drop (i + 1)) (i + 1)) = firstP P zs 0) := by show _ = _; rw [← HF.out, firstP_at hx]
   cases hh : P z with
   | true =>
    rw [hh] at kf
    have HR : Hid (firstP P zs 0 = some i) := by show _ = _; rw [← HN.out, hh]; rfl
    obtain ⟨x0, x1⟩ := z
    dsimp only at *
    clear HN hh hx HF HL HP0 cc
    go_wp2_with (go_at_call 113; refine kf.mono ?_; rintro e wc ⟨rfl, hbc⟩)
    go_ret
    exact ⟨by rw [HR.out]; rfl, hb.trans (hbc.mono hb.size)⟩
   | false =>
    rw [hh] at kf
    have HR : Hid (firstP P (zs.drop (i + 1)) (i + 1) = firstP P zs 0) := by show _ = _; rw [← HN.out, hh]; rfl
    obtain ⟨x0, x1⟩ := z
    dsimp only at *
    clear HN hh hx HF HL HP0 cc
    go_wp2_with (go_at_call 113; refine kf.mono ?_; rintro e wc ⟨rfl, hbc⟩)
    go_roundg (gk - 1)
    case measure => omega
    case rel => exact ⟨i + 1, by omega, by go_num, hb.trans (hbc.mono hb.size), HR⟩
  ·have hlti : ¬ (i : Int) < (zs.length : Int) := by omega
   have HR : Hid (firstP P zs 0 = none) := by show _ = _; rw [← HF.out, List.drop_eq_nil_of_le (by omega)]; rfl
   clear HF HL HP0
   go_wp2
   go_ret
   exact ⟨by rw [HR.out]; rfl, hb⟩

end Go.Proofs.YtfpbgfmnjpamlaaGreat

/- The small functions of table, and of the document. -/
namespace Go.Proofs.YtfpbgfmnjpamlaaGreat
open Go.RowKit LeaseMath
set_option maxRecDepth 100000
set_option linter.unusedSimpArgs false
set_option linter.unusedVariables false

theorem mayId_of (c : Cq) (w : World) : Calls Tryz.prog 34 #[idv c] w fun e w' => e = .returned (.bool (idB c)) ∧ Below w.heap.size w w' := by
 obtain ⟨x, y⟩ := c
 obtain ⟨B, HB⟩ : ∃ B, Hid (B = idB (x, y)) := ⟨_, rfl⟩
 rw [← HB.out]
 obtain ⟨hs, hb, cl⟩ := id_box w (x, y)
 obtain ⟨c0, c1⟩ := cl _ (Below.refl _ _)
 dsimp only [idv, idc] at *
 clear cl
 by_cases h1 : 0 ≤ x
 ·have h1d : decide (0 ≤ x) = true := decide_eq_true h1
  by_cases h2 : x < 8
  ·have h2d : decide (x < 8) = true := decide_eq_true h2
   by_cases h3 : y = 0
   ·have h3d : ((y : Int) != 0) = false := by simp [h3]
    have h3e : ((y : Int) == 0) = true := by simp [h3]
    have E : Hid (B = false) := by show _ = _; rw [HB.out]; simp [idB, h3]
    clear HB h3
    go_enter Tryz.func34, Tryz.ntmps34
    go_wp2
    go_ret
    exact ⟨by rw [E.out]; first | rfl | simp, hb⟩
   ·have h3d : ((y : Int) != 0) = true := by simpa using h3
    have h3e : ((y : Int) == 0) = false := by simpa using h3
    have E : Hid (B = true) := by show _ = _; rw [HB.out]; simp [idB, h1, h2, h3]
    clear HB h3
    go_enter Tryz.func34, Tryz.ntmps34
    go_wp2
    go_ret
    exact ⟨by rw [E.out]; first | rfl | simp, hb⟩
  ·have h2d : decide (x < 8) = false := decide_eq_false h2
   have E : Hid (B = false) := by show _ = _; rw [HB.out]; simp [idB, h2]
   clear HB h2
   go_enter Tryz.func34, Tryz.ntmps34
   go_wp2
   go_ret
   exact ⟨by rw [E.out]; first | rfl | simp, hb⟩
 ·have h1d : decide (0 ≤ x) = false := decide_eq_false h1
  have E : Hid (B = false) := by show _ = _; rw [HB.out]; simp [idB, h1]
  clear HB h1
  go_enter Tryz.func34, Tryz.ntmps34
  go_wp2
  go_ret
  exact ⟨by rw [E.out]; first | rfl | simp, hb⟩

theorem rid_of (c : Cq) (w : World) : Calls Tryz.prog 43 #[idv c] w fun e w' => e = .returned (.bool (idB c)) ∧ Below w.heap.size w w' := by
 obtain ⟨x, y⟩ := c
 obtain ⟨B, HB⟩ : ∃ B, Hid (B = idB (x, y)) := ⟨_, rfl⟩
 rw [← HB.out]
 obtain ⟨hs, hb, cl⟩ := id_box w (x, y)
 obtain ⟨c0, c1⟩ := cl _ (Below.refl _ _)
 dsimp only [idv, idc] at *
 clear cl
 by_cases h1 : 0 ≤ x
 ·have h1d : decide (0 ≤ x) = true := decide_eq_true h1
  by_cases h2 : x < 8
  ·have h2d : decide (x < 8) = true := decide_eq_true h2
   by_cases h3 : y = 0
   ·have h3d : ((y : Int) != 0) = false := by simp [h3]
    have h3e : ((y : Int) == 0) = true := by simp [h3]
    have E : Hid (B = false) := by show _ = _; rw [HB.out]; simp [idB, h3]
    clear HB h3
    go_enter Tryz.func43, Tryz.ntmps43
    go_wp2
    go_ret
    exact ⟨by rw [E.out]; first | rfl | simp, hb⟩
   ·have h3d : ((y : Int) != 0) = true := by simpa using h3
    have h3e : ((y : Int) == 0) = false := by simpa using h3
    have E : Hid (B = true) := by show _ = _; rw [HB.out]; simp [idB, h1, h2, h3]
    clear HB h3
    go_enter Tryz.func43, Tryz.ntmps43
    go_wp2
    go_ret
    exact ⟨by rw [E.out]; first | rfl | simp, hb⟩
  ·have h2d : decide (x < 8) = false := decide_eq_false h2
   have E : Hid (B = false) := by show _ = _; rw [HB.out]; simp [idB, h2]
   clear HB h2
   go_enter Tryz.func43, Tryz.ntmps43
   go_wp2
   go_ret
   exact ⟨by rw [E.out]; first | rfl | simp, hb⟩
 ·have h1d : decide (0 ≤ x) = false := decide_eq_false h1
  have E : Hid (B = false) := by show _ = _; rw [HB.out]; simp [idB, h1]
  clear HB h1
  go_enter Tryz.func43, Tryz.ntmps43
  go_wp2
  go_ret
  exact ⟨by rw [E.out]; first | rfl | simp, hb⟩

theorem mayTurn_of (k t : Int) (w : World) : Calls Tryz.prog 95 #[.int .i64 k, .int .i64 t] w fun e w' => e = .returned (.bool (turnB k t)) ∧ w' = w := by
 obtain ⟨B, HB⟩ : ∃ B, Hid (B = turnB k t) := ⟨_, rfl⟩
 rw [← HB.out]
 by_cases h2 : k = 2
 ·subst h2
  by_cases h4 : t = 0
  ·subst h4
   have E : Hid (B = true) := by show _ = _; rw [HB.out]; simp [turnB]
   clear HB
   go_enter Tryz.func95, Tryz.ntmps95
   go_wp2
   go_ret
   exact ⟨by rw [E.out]; first | rfl | simp, rfl⟩
  ·have h4d : (t == 0) = false := by simpa using h4
   have E : Hid (B = false) := by show _ = _; rw [HB.out]; simp [turnB, h4]
   clear HB h4
   go_enter Tryz.func95, Tryz.ntmps95
   go_wp2
   go_ret
   exact ⟨by rw [E.out]; first | rfl | simp, rfl⟩
 ·have h2d : (k == 2) = false := by simpa using h2
  by_cases h1k : k = 1
  ·subst h1k
   by_cases h5 : 1 ≤ t
   ·have h5d : decide (1 ≤ t) = true := decide_eq_true h5
    by_cases h6 : t ≤ 1048576
    ·have h6d : decide (t ≤ 1048576) = true := decide_eq_true h6
     have E : Hid (B = true) := by show _ = _; rw [HB.out]; simp [turnB, h5, h6]
     clear HB h2 h2d
     go_enter Tryz.func95, Tryz.ntmps95
     go_wp2
     go_ret
     exact ⟨by rw [E.out]; first | rfl | simp, rfl⟩
    ·have h6d : decide (t ≤ 1048576) = false := decide_eq_false h6
     have E : Hid (B = false) := by show _ = _; rw [HB.out]; simp [turnB, h6]
     clear HB h6 h2 h2d
     go_enter Tryz.func95, Tryz.ntmps95
     go_wp2
     go_ret
     exact ⟨by rw [E.out]; first | rfl | simp, rfl⟩
   ·have h5d : decide (1 ≤ t) = false := decide_eq_false h5
    have E : Hid (B = false) := by show _ = _; rw [HB.out]; simp [turnB, h5]
    clear HB h5 h2 h2d
    go_enter Tryz.func95, Tryz.ntmps95
    go_wp2
    go_ret
    exact ⟨by rw [E.out]; first | rfl | simp, rfl⟩
  ·have h1d : (k == 1) = false := by simpa using h1k
   by_cases h3k : k = 3
   ·subst h3k
    clear h1k h1d
    by_cases h5 : 1 ≤ t
    ·have h5d : decide (1 ≤ t) = true := decide_eq_true h5
     by_cases h6 : t ≤ 1048576
     ·have h6d : decide (t ≤ 1048576) = true := decide_eq_true h6
      have E : Hid (B = true) := by show _ = _; rw [HB.out]; simp [turnB, h5, h6]
      clear HB h2 h2d
      go_enter Tryz.func95, Tryz.ntmps95
      go_wp2
      go_ret
      exact ⟨by rw [E.out]; first | rfl | simp, rfl⟩
     ·have h6d : decide (t ≤ 1048576) = false := decide_eq_false h6
      have E : Hid (B = false) := by show _ = _; rw [HB.out]; simp [turnB, h6]
      clear HB h6 h2 h2d
      go_enter Tryz.func95, Tryz.ntmps95
      go_wp2
      go_ret
      exact ⟨by rw [E.out]; first | rfl | simp, rfl⟩
    ·have h5d : decide (1 ≤ t) = false := decide_eq_false h5
     have E : Hid (B = false) := by show _ = _; rw [HB.out]; simp [turnB, h5]
     clear HB h5 h2 h2d
     go_enter Tryz.func95, Tryz.ntmps95
     go_wp2
     go_ret
     exact ⟨by rw [E.out]; first | rfl | simp, rfl⟩
   ·have h3d : (k == 3) = false := by simpa using h3k
    have E : Hid (B = false) := by show _ = _; rw [HB.out]; simp [turnB, h1k, h2, h3k]
    clear HB h1k h2 h3k
    go_enter Tryz.func95, Tryz.ntmps95
    go_wp2
    go_ret
    exact ⟨by rw [E.out]; first | rfl | simp, rfl⟩

theorem lasts_of (k t : Int) (w : World) : Calls Tryz.prog 83 #[.int .i64 k, .int .i64 t] w fun e w' => e = .returned (.bool (turnB k t)) ∧ w' = w := by
 obtain ⟨B, HB⟩ : ∃ B, Hid (B = turnB k t) := ⟨_, rfl⟩
 rw [← HB.out]
 by_cases h2 : k = 2
 ·subst h2
  by_cases h4 : t = 0
  ·subst h4
   have E : Hid (B = true) := by show _ = _; rw [HB.out]; simp [turnB]
   clear HB
   go_enter Tryz.func83, Tryz.ntmps83
   go_wp2
   go_ret
   exact ⟨by rw [E.out]; first | rfl | simp, rfl⟩
  ·have h4d : (t == 0) = false := by simpa using h4
   have E : Hid (B = false) := by show _ = _; rw [HB.out]; simp [turnB, h4]
   clear HB h4
   go_enter Tryz.func83, Tryz.ntmps83
   go_wp2
   go_ret
   exact ⟨by rw [E.out]; first | rfl | simp, rfl⟩
 ·have h2d : (k == 2) = false := by simpa using h2
  by_cases h1k : k = 1
  ·subst h1k
   by_cases h5 : 1 ≤ t
   ·have h5d : decide (1 ≤ t) = true := decide_eq_true h5
    by_cases h6 : t ≤ 1048576
    ·have h6d : decide (t ≤ 1048576) = true := decide_eq_true h6
     have E : Hid (B = true) := by show _ = _; rw [HB.out]; simp [turnB, h5, h6]
     clear HB h2 h2d
     go_enter Tryz.func83, Tryz.ntmps83
     go_wp2
     go_ret
     exact ⟨by rw [E.out]; first | rfl | simp, rfl⟩
    ·have h6d : decide (t ≤ 1048576) = false := decide_eq_false h6
     have E : Hid (B = false) := by show _ = _; rw [HB.out]; simp [turnB, h6]
     clear HB h6 h2 h2d
     go_enter Tryz.func83, Tryz.ntmps83
     go_wp2
     go_ret
     exact ⟨by rw [E.out]; first | rfl | simp, rfl⟩
   ·have h5d : decide (1 ≤ t) = false := decide_eq_false h5
    have E : Hid (B = false) := by show _ = _; rw [HB.out]; simp [turnB, h5]
    clear HB h5 h2 h2d
    go_enter Tryz.func83, Tryz.ntmps83
    go_wp2
    go_ret
    exact ⟨by rw [E.out]; first | rfl | simp, rfl⟩
  ·have h1d : (k == 1) = false := by simpa using h1k
   by_cases h3k : k = 3
   ·subst h3k
    clear h1k h1d
    by_cases h5 : 1 ≤ t
    ·have h5d : decide (1 ≤ t) = true := decide_eq_true h5
     by_cases h6 : t ≤ 1048576
     ·have h6d : decide (t ≤ 1048576) = true := decide_eq_true h6
      have E : Hid (B = true) := by show _ = _; rw [HB.out]; simp [turnB, h5, h6]
      clear HB h2 h2d
      go_enter Tryz.func83, Tryz.ntmps83
      go_wp2
      go_ret
      exact ⟨by rw [E.out]; first | rfl | simp, rfl⟩
     ·have h6d : decide (t ≤ 1048576) = false := decide_eq_false h6
      have E : Hid (B = false) := by show _ = _; rw [HB.out]; simp [turnB, h6]
      clear HB h6 h2 h2d
      go_enter Tryz.func83, Tryz.ntmps83
      go_wp2
      go_ret
      exact ⟨by rw [E.out]; first | rfl | simp, rfl⟩
    ·have h5d : decide (1 ≤ t) = false := decide_eq_false h5
     have E : Hid (B = false) := by show _ = _; rw [HB.out]; simp [turnB, h5]
     clear HB h5 h2 h2d
     go_enter Tryz.func83, Tryz.ntmps83
     go_wp2
     go_ret
     exact ⟨by rw [E.out]; first | rfl | simp, rfl⟩
   ·have h3d : (k == 3) = false := by simpa using h3k
    have E : Hid (B = false) := by show _ = _; rw [HB.out]; simp [turnB, h1k, h2, h3k]
    clear HB h1k h2 h3k
    go_enter Tryz.func83, Tryz.ntmps83
    go_wp2
    go_ret
    exact ⟨by rw [E.out]; first | rfl | simp, rfl⟩

theorem tkey_of (k : K) (w : World) : Calls Tryz.prog 87 #[.string (bk k)] w fun e w' => e = .returned (.bool (decide (k.length ≤ 64))) ∧ w' = w := by
 have e : decide ((k.length : Int) ≤ 64) = decide (k.length ≤ 64) := by simp only [decide_eq_decide]; omega
 obtain ⟨B, HB⟩ : ∃ B, B = decide (k.length ≤ 64) := ⟨_, rfl⟩
 rw [← HB] at e ⊢
 clear HB
 go_enter Tryz.func87, Tryz.ntmps87
 go_wp2
 go_ret
 exact ⟨rfl, rfl⟩

theorem locks_of (z : Tz) (w : World) (h1 : z.t.holds.length ≤ 1000000000) (h2 : z.t.marks.length ≤ 1000000000) (h3 : z.t.ints.length ≤ 1000000000) : Calls Tryz.prog 40 #[tv z] w fun e w' => e = .returned (.int .i64 (locksN z.t : Int)) ∧ Below w.heap.size w w' := by
 obtain ⟨hs, hb, cl⟩ := tb_box w z
 obtain ⟨c0, c1, c2, c3, c4, c5⟩ := cl _ (Below.refl _ _)
 have E : Hid ((locksN z.t : Int) = (z.t.holds.length : Int) + (z.t.marks.length : Int) + (z.t.ints.length : Int)) := by show _ = _; unfold locksN; omega
 rw [E.out]
 have j1 : IntKind.i64.wrap ((z.t.holds.length : Int) + (z.t.marks.length : Int)) = (z.t.holds.length : Int) + (z.t.marks.length : Int) := IntWalk.i64_in _ (by omega)
 have j2 : IntKind.i64.wrap ((z.t.holds.length : Int) + (z.t.marks.length : Int) + (z.t.ints.length : Int)) = (z.t.holds.length : Int) + (z.t.marks.length : Int) + (z.t.ints.length : Int) := IntWalk.i64_in _ (by omega)
 dsimp only [tv, tc] at *
 clear cl E h1 h2 h3
 go_enter Tryz.func40, Tryz.ntmps40
 go_wp2
 go_ret
 exact ⟨rfl, hb⟩
end Go.Proofs.YtfpbgfmnjpamlaaGreat

