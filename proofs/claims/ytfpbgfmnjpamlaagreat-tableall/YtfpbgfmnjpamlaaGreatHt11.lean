import Derived.Test.YtfpbgfmnjpamlaaGreatHt10
/- slices.IndexFunc and slices.ContainsFunc with the closures of table: what a closure tells is a premise. -/
namespace Go.Proofs.YtfpbgfmnjpamlaaGreat
open Go.RowKit LeaseMath
set_option maxRecDepth 100000
set_option linter.unusedSimpArgs false
set_option linter.unusedVariables false

/-- Where the first stands. -/
def firstP {α : Type} (P : α → Bool) : List α → Nat → Option Nat
  | [], _ => none
  | x :: l, j => if P x then some j else firstP P l (j + 1)
def idxP : Option Nat → Int
  | none => -1
  | some i => (i : Int)
theorem firstP_some {α : Type} (P : α → Bool) : ∀ (l : List α) (j : Nat), (firstP P l j).isSome = l.any P
  | [], j => rfl
  | x :: l, j => by
    rw [firstP, List.any_cons]
    cases P x with
    | true => rfl
    | false => simpa using firstP_some P l (j + 1)
theorem firstP_at {α : Type} {P : α → Bool} {l : List α} {i : Nat} {s : α} (hs : l[i]? = some s) : firstP P (l.drop i) i = if P s then some i else firstP P (l.drop (i + 1)) (i + 1) := by
  obtain ⟨h, rfl⟩ := List.getElem?_eq_some_iff.1 hs
  rw [List.drop_eq_getElem_cons h, firstP]

set_option maxHeartbeats 2000000 in
theorem anySpans_ix (P : Sp → Bool) (zs : List Sp) (lv p0 : Value) (w : World) (hL : Rd spE w lv zs) (hlen : zs.length ≤ 4611686018427387904) (hP : ∀ z W, z ∈ zs → Below w.heap.size w W → Calls Tryz.prog 153 #[sv z, p0] W fun e w' => e = .returned (.bool (P z)) ∧ Below W.heap.size W w') :
    Calls Tryz.prog 133 #[lv, .func (.func 153) #[] #[p0]] w fun e w' => e = .returned (.int .i64 (idxP (firstP P zs 0))) ∧ Below w.heap.size w w' := by
  have HL : Hid (Rd spE w lv zs) := hL
  have HP0 : Hid (∀ z W, z ∈ zs → Below w.heap.size w W → Calls Tryz.prog 153 #[sv z, p0] W fun e w' => e = .returned (.bool (P z)) ∧ Below W.heap.size W w') := hP
  obtain ⟨ao, cap, rfl, -, -⟩ := hL.shape
  clear hL hP
  go_enter Tryz.func133, Tryz.ntmps133
  go_wp2
  go_loopg [8] zs.length (fun g s8 wr => ∃ i : Nat, i + g = zs.length ∧ s8 = .int .i64 (i : Int) ∧ Below w.heap.size w wr ∧ Hid (firstP P (zs.drop i) i = firstP P zs 0))
  case atStart => exact ⟨0, by simp, rfl, Below.refl _ _, rfl⟩
  case round =>
    obtain ⟨i, hig, rfl, hb, HF⟩ := hrel
    by_cases hlt : i < zs.length
    · have hlti : (i : Int) < (zs.length : Int) := by omega
      have hx : zs[i]? = some zs[i] := List.getElem?_eq_getElem hlt
      obtain ⟨z, hzz⟩ : ∃ z, z = zs[i] := ⟨_, rfl⟩
      rw [← hzz] at hx
      clear hzz
      have kf := HP0.out z wr (List.mem_of_getElem? hx) hb
      obtain ⟨b, off, rfl, cc⟩ := rdq_at HL.out hx
      obtain ⟨c0, c1⟩ := cc wr hb
      have HN : Hid ((if P z then some i else firstP P (zs.drop (i + 1)) (i + 1)) = firstP P zs 0) := by show _ = _; rw [← HF.out, firstP_at hx]
      cases hh : P z with
      | true =>
        rw [hh] at kf
        have HR : Hid (firstP P zs 0 = some i) := by show _ = _; rw [← HN.out, hh]; rfl
        obtain ⟨x0, x1⟩ := z
        dsimp only at *
        clear HN hh hx HF HL HP0 cc
        go_wp2_with (go_at_call 153; refine kf.mono ?_; rintro e wc ⟨rfl, hbc⟩)
        go_ret
        exact ⟨by rw [HR.out]; rfl, hb.trans (hbc.mono hb.size)⟩
      | false =>
        rw [hh] at kf
        have HR : Hid (firstP P (zs.drop (i + 1)) (i + 1) = firstP P zs 0) := by show _ = _; rw [← HN.out, hh]; rfl
        obtain ⟨x0, x1⟩ := z
        dsimp only at *
        clear HN hh hx HF HL HP0 cc
        go_wp2_with (go_at_call 153; refine kf.mono ?_; rintro e wc ⟨rfl, hbc⟩)
        go_roundg (gk - 1)
        case measure => omega
        case rel => exact ⟨i + 1, by omega, by go_num, hb.trans (hbc.mono hb.size), HR⟩
    · have hlti : ¬ (i : Int) < (zs.length : Int) := by omega
      have HR : Hid (firstP P zs 0 = none) := by show _ = _; rw [← HF.out, List.drop_eq_nil_of_le (by omega)]; rfl
      clear HF HL HP0
      go_wp2
      go_ret
      exact ⟨by rw [HR.out]; rfl, hb⟩

theorem anySpans_of (P : Sp → Bool) (zs : List Sp) (lv p0 : Value) (w : World) (hL : Rd spE w lv zs) (hlen : zs.length ≤ 4611686018427387904) (hP : ∀ z W, z ∈ zs → Below w.heap.size w W → Calls Tryz.prog 153 #[sv z, p0] W fun e w' => e = .returned (.bool (P z)) ∧ Below W.heap.size W w') :
    Calls Tryz.prog 70 #[lv, .func (.func 153) #[] #[p0]] w fun e w' => e = .returned (.bool (zs.any P)) ∧ Below w.heap.size w w' := by
  have ki := anySpans_ix P zs lv p0 w hL hlen hP
  rw [← firstP_some P zs 0]
  generalize firstP P zs 0 = o at *
  clear hL hP
  cases o with
  | none =>
    simp only [idxP] at ki
    go_enter Tryz.func70, Tryz.ntmps70
    go_wp2_with fail
    refine ki.mono ?_
    rintro e w1 ⟨rfl, hb1⟩
    go_wp2
    go_ret
    exact ⟨rfl, hb1⟩
  | some j =>
    simp only [idxP] at ki
    have hj : (0 : Int) ≤ (j : Int) := by omega
    go_enter Tryz.func70, Tryz.ntmps70
    go_wp2_with fail
    refine ki.mono ?_
    rintro e w1 ⟨rfl, hb1⟩
    go_wp2
    go_ret
    exact ⟨rfl, hb1⟩

set_option maxHeartbeats 2000000 in
theorem anyMarks_ix (P : Mk → Bool) (zs : List Mk) (lv p0 p1 : Value) (w : World) (hL : Rd markE w lv zs) (hlen : zs.length ≤ 4611686018427387904) (hP : ∀ z W, z ∈ zs → Below w.heap.size w W → Calls Tryz.prog 130 #[mv z, p0, p1] W fun e w' => e = .returned (.bool (P z)) ∧ Below W.heap.size W w') :
    Calls Tryz.prog 162 #[lv, .func (.func 130) #[] #[p0, p1]] w fun e w' => e = .returned (.int .i64 (idxP (firstP P zs 0))) ∧ Below w.heap.size w w' := by
  have HL : Hid (Rd markE w lv zs) := hL
  have HP0 : Hid (∀ z W, z ∈ zs → Below w.heap.size w W → Calls Tryz.prog 130 #[mv z, p0, p1] W fun e w' => e = .returned (.bool (P z)) ∧ Below W.heap.size W w') := hP
  obtain ⟨ao, cap, rfl, -, -⟩ := hL.shape
  clear hL hP
  go_enter Tryz.func162, Tryz.ntmps162
  go_wp2
  go_loopg [8] zs.length (fun g s8 wr => ∃ i : Nat, i + g = zs.length ∧ s8 = .int .i64 (i : Int) ∧ Below w.heap.size w wr ∧ Hid (firstP P (zs.drop i) i = firstP P zs 0))
  case atStart => exact ⟨0, by simp, rfl, Below.refl _ _, rfl⟩
  case round =>
    obtain ⟨i, hig, rfl, hb, HF⟩ := hrel
    by_cases hlt : i < zs.length
    · have hlti : (i : Int) < (zs.length : Int) := by omega
      have hx : zs[i]? = some zs[i] := List.getElem?_eq_getElem hlt
      obtain ⟨z, hzz⟩ : ∃ z, z = zs[i] := ⟨_, rfl⟩
      rw [← hzz] at hx
      clear hzz
      have kf := HP0.out z wr (List.mem_of_getElem? hx) hb
      obtain ⟨b, off, rfl, cc⟩ := rdm_at HL.out hx
      obtain ⟨c0, c1⟩ := cc wr hb
      have HN : Hid ((if P z then some i else firstP P (zs.drop (i + 1)) (i + 1)) = firstP P zs 0) := by show _ = _; rw [← HF.out, firstP_at hx]
      cases hh : P z with
      | true =>
        rw [hh] at kf
        have HR : Hid (firstP P zs 0 = some i) := by show _ = _; rw [← HN.out, hh]; rfl
        obtain ⟨x0, x1⟩ := z
        dsimp only at *
        clear HN hh hx HF HL HP0 cc
        go_wp2_with (go_at_call 130; refine kf.mono ?_; rintro e wc ⟨rfl, hbc⟩)
        go_ret
        exact ⟨by rw [HR.out]; rfl, hb.trans (hbc.mono hb.size)⟩
      | false =>
        rw [hh] at kf
        have HR : Hid (firstP P (zs.drop (i + 1)) (i + 1) = firstP P zs 0) := by show _ = _; rw [← HN.out, hh]; rfl
        obtain ⟨x0, x1⟩ := z
        dsimp only at *
        clear HN hh hx HF HL HP0 cc
        go_wp2_with (go_at_call 130; refine kf.mono ?_; rintro e wc ⟨rfl, hbc⟩)
        go_roundg (gk - 1)
        case measure => omega
        case rel => exact ⟨i + 1, by omega, by go_num, hb.trans (hbc.mono hb.size), HR⟩
    · have hlti : ¬ (i : Int) < (zs.length : Int) := by omega
      have HR : Hid (firstP P zs 0 = none) := by show _ = _; rw [← HF.out, List.drop_eq_nil_of_le (by omega)]; rfl
      clear HF HL HP0
      go_wp2
      go_ret
      exact ⟨by rw [HR.out]; rfl, hb⟩

theorem anyMarks_of (P : Mk → Bool) (zs : List Mk) (lv p0 p1 : Value) (w : World) (hL : Rd markE w lv zs) (hlen : zs.length ≤ 4611686018427387904) (hP : ∀ z W, z ∈ zs → Below w.heap.size w W → Calls Tryz.prog 130 #[mv z, p0, p1] W fun e w' => e = .returned (.bool (P z)) ∧ Below W.heap.size W w') :
    Calls Tryz.prog 129 #[lv, .func (.func 130) #[] #[p0, p1]] w fun e w' => e = .returned (.bool (zs.any P)) ∧ Below w.heap.size w w' := by
  have ki := anyMarks_ix P zs lv p0 p1 w hL hlen hP
  rw [← firstP_some P zs 0]
  generalize firstP P zs 0 = o at *
  clear hL hP
  cases o with
  | none =>
    simp only [idxP] at ki
    go_enter Tryz.func129, Tryz.ntmps129
    go_wp2_with fail
    refine ki.mono ?_
    rintro e w1 ⟨rfl, hb1⟩
    go_wp2
    go_ret
    exact ⟨rfl, hb1⟩
  | some j =>
    simp only [idxP] at ki
    have hj : (0 : Int) ≤ (j : Int) := by omega
    go_enter Tryz.func129, Tryz.ntmps129
    go_wp2_with fail
    refine ki.mono ?_
    rintro e w1 ⟨rfl, hb1⟩
    go_wp2
    go_ret
    exact ⟨rfl, hb1⟩

set_option maxHeartbeats 2000000 in
theorem anyHolds_ix (P : Hd → Bool) (zs : List Hd) (lv p0 : Value) (w : World) (hL : Rd holdE w lv zs) (hlen : zs.length ≤ 4611686018427387904) (hP : ∀ z W, z ∈ zs → Below w.heap.size w W → Calls Tryz.prog 132 #[hv z, p0] W fun e w' => e = .returned (.bool (P z)) ∧ Below W.heap.size W w') :
    Calls Tryz.prog 171 #[lv, .func (.func 132) #[] #[p0]] w fun e w' => e = .returned (.int .i64 (idxP (firstP P zs 0))) ∧ Below w.heap.size w w' := by
  have HL : Hid (Rd holdE w lv zs) := hL
  have HP0 : Hid (∀ z W, z ∈ zs → Below w.heap.size w W → Calls Tryz.prog 132 #[hv z, p0] W fun e w' => e = .returned (.bool (P z)) ∧ Below W.heap.size W w') := hP
  obtain ⟨ao, cap, rfl, -, -⟩ := hL.shape
  clear hL hP
  go_enter Tryz.func171, Tryz.ntmps171
  go_wp2
  go_loopg [8] zs.length (fun g s8 wr => ∃ i : Nat, i + g = zs.length ∧ s8 = .int .i64 (i : Int) ∧ Below w.heap.size w wr ∧ Hid (firstP P (zs.drop i) i = firstP P zs 0))
  case atStart => exact ⟨0, by simp, rfl, Below.refl _ _, rfl⟩
  case round =>
    obtain ⟨i, hig, rfl, hb, HF⟩ := hrel
    by_cases hlt : i < zs.length
    · have hlti : (i : Int) < (zs.length : Int) := by omega
      have hx : zs[i]? = some zs[i] := List.getElem?_eq_getElem hlt
      obtain ⟨z, hzz⟩ : ∃ z, z = zs[i] := ⟨_, rfl⟩
      rw [← hzz] at hx
      clear hzz
      have kf := HP0.out z wr (List.mem_of_getElem? hx) hb
      obtain ⟨b, off, rfl, cc⟩ := rdh_at HL.out hx
      obtain ⟨c0, c1, c2⟩ := cc wr hb
      have HN : Hid ((if P z then some i else firstP P (zs.drop (i + 1)) (i + 1)) = firstP P zs 0) := by show _ = _; rw [← HF.out, firstP_at hx]
      cases hh : P z with
      | true =>
        rw [hh] at kf
        have HR : Hid (firstP P zs 0 = some i) := by show _ = _; rw [← HN.out, hh]; rfl
        obtain ⟨x0, x1, x2⟩ := z
        dsimp only at *
        clear HN hh hx HF HL HP0 cc
        go_wp2_with (go_at_call 132; refine kf.mono ?_; rintro e wc ⟨rfl, hbc⟩)
        go_ret
        exact ⟨by rw [HR.out]; rfl, hb.trans (hbc.mono hb.size)⟩
      | false =>
        rw [hh] at kf
        have HR : Hid (firstP P (zs.drop (i + 1)) (i + 1) = firstP P zs 0) := by show _ = _; rw [← HN.out, hh]; rfl
        obtain ⟨x0, x1, x2⟩ := z
        dsimp only at *
        clear HN hh hx HF HL HP0 cc
        go_wp2_with (go_at_call 132; refine kf.mono ?_; rintro e wc ⟨rfl, hbc⟩)
        go_roundg (gk - 1)
        case measure => omega
        case rel => exact ⟨i + 1, by omega, by go_num, hb.trans (hbc.mono hb.size), HR⟩
    · have hlti : ¬ (i : Int) < (zs.length : Int) := by omega
      have HR : Hid (firstP P zs 0 = none) := by show _ = _; rw [← HF.out, List.drop_eq_nil_of_le (by omega)]; rfl
      clear HF HL HP0
      go_wp2
      go_ret
      exact ⟨by rw [HR.out]; rfl, hb⟩

theorem anyHolds_of (P : Hd → Bool) (zs : List Hd) (lv p0 : Value) (w : World) (hL : Rd holdE w lv zs) (hlen : zs.length ≤ 4611686018427387904) (hP : ∀ z W, z ∈ zs → Below w.heap.size w W → Calls Tryz.prog 132 #[hv z, p0] W fun e w' => e = .returned (.bool (P z)) ∧ Below W.heap.size W w') :
    Calls Tryz.prog 131 #[lv, .func (.func 132) #[] #[p0]] w fun e w' => e = .returned (.bool (zs.any P)) ∧ Below w.heap.size w w' := by
  have ki := anyHolds_ix P zs lv p0 w hL hlen hP
  rw [← firstP_some P zs 0]
  generalize firstP P zs 0 = o at *
  clear hL hP
  cases o with
  | none =>
    simp only [idxP] at ki
    go_enter Tryz.func131, Tryz.ntmps131
    go_wp2_with fail
    refine ki.mono ?_
    rintro e w1 ⟨rfl, hb1⟩
    go_wp2
    go_ret
    exact ⟨rfl, hb1⟩
  | some j =>
    simp only [idxP] at ki
    have hj : (0 : Int) ≤ (j : Int) := by omega
    go_enter Tryz.func131, Tryz.ntmps131
    go_wp2_with fail
    refine ki.mono ?_
    rintro e w1 ⟨rfl, hb1⟩
    go_wp2
    go_ret
    exact ⟨rfl, hb1⟩

set_option maxHeartbeats 2000000 in
theorem anyInts_ix (P : It → Bool) (zs : List It) (lv p0 : Value) (w : World) (hL : Rd itE w lv zs) (hlen : zs.length ≤ 4611686018427387904) (hP : ∀ z W, z ∈ zs → Below w.heap.size w W → Calls Tryz.prog 150 #[iv z, p0] W fun e w' => e = .returned (.bool (P z)) ∧ Below W.heap.size W w') :
    Calls Tryz.prog 109 #[lv, .func (.func 150) #[] #[p0]] w fun e w' => e = .returned (.int .i64 (idxP (firstP P zs 0))) ∧ Below w.heap.size w w' := by
  have HL : Hid (Rd itE w lv zs) := hL
  have HP0 : Hid (∀ z W, z ∈ zs → Below w.heap.size w W → Calls Tryz.prog 150 #[iv z, p0] W fun e w' => e = .returned (.bool (P z)) ∧ Below W.heap.size W w') := hP
  obtain ⟨ao, cap, rfl, -, -⟩ := hL.shape
  clear hL hP
  go_enter Tryz.func109, Tryz.ntmps109
  go_wp2
  go_loopg [8] zs.length (fun g s8 wr => ∃ i : Nat, i + g = zs.length ∧ s8 = .int .i64 (i : Int) ∧ Below w.heap.size w wr ∧ Hid (firstP P (zs.drop i) i = firstP P zs 0))
  case atStart => exact ⟨0, by simp, rfl, Below.refl _ _, rfl⟩
  case round =>
    obtain ⟨i, hig, rfl, hb, HF⟩ := hrel
    by_cases hlt : i < zs.length
    · have hlti : (i : Int) < (zs.length : Int) := by omega
      have hx : zs[i]? = some zs[i] := List.getElem?_eq_getElem hlt
      obtain ⟨z, hzz⟩ : ∃ z, z = zs[i] := ⟨_, rfl⟩
      rw [← hzz] at hx
      clear hzz
      have kf := HP0.out z wr (List.mem_of_getElem? hx) hb
      obtain ⟨b, off, rfl, cc⟩ := rdx_at HL.out hx
      obtain ⟨c0, c1, c2, c3, c4, c5⟩ := cc wr hb
      have HN : Hid ((if P z then some i else firstP P (zs.drop (i + 1)) (i + 1)) = firstP P zs 0) := by show _ = _; rw [← HF.out, firstP_at hx]
      cases hh : P z with
      | true =>
        rw [hh] at kf
        have HR : Hid (firstP P zs 0 = some i) := by show _ = _; rw [← HN.out, hh]; rfl
        obtain ⟨x0, ⟨x1, x2⟩, x3, x4, x5⟩ := z
        dsimp only at *
        clear HN hh hx HF HL HP0 cc
        go_wp2_with (go_at_call 150; refine kf.mono ?_; rintro e wc ⟨rfl, hbc⟩)
        go_ret
        exact ⟨by rw [HR.out]; rfl, hb.trans (hbc.mono hb.size)⟩
      | false =>
        rw [hh] at kf
        have HR : Hid (firstP P (zs.drop (i + 1)) (i + 1) = firstP P zs 0) := by show _ = _; rw [← HN.out, hh]; rfl
        obtain ⟨x0, ⟨x1, x2⟩, x3, x4, x5⟩ := z
        dsimp only at *
        clear HN hh hx HF HL HP0 cc
        go_wp2_with (go_at_call 150; refine kf.mono ?_; rintro e wc ⟨rfl, hbc⟩)
        go_roundg (gk - 1)
        case measure => omega
        case rel => exact ⟨i + 1, by omega, by go_num, hb.trans (hbc.mono hb.size), HR⟩
    · have hlti : ¬ (i : Int) < (zs.length : Int) := by omega
      have HR : Hid (firstP P zs 0 = none) := by show _ = _; rw [← HF.out, List.drop_eq_nil_of_le (by omega)]; rfl
      clear HF HL HP0
      go_wp2
      go_ret
      exact ⟨by rw [HR.out]; rfl, hb⟩

theorem anyInts_of (P : It → Bool) (zs : List It) (lv p0 : Value) (w : World) (hL : Rd itE w lv zs) (hlen : zs.length ≤ 4611686018427387904) (hP : ∀ z W, z ∈ zs → Below w.heap.size w W → Calls Tryz.prog 150 #[iv z, p0] W fun e w' => e = .returned (.bool (P z)) ∧ Below W.heap.size W w') :
    Calls Tryz.prog 58 #[lv, .func (.func 150) #[] #[p0]] w fun e w' => e = .returned (.bool (zs.any P)) ∧ Below w.heap.size w w' := by
  have ki := anyInts_ix P zs lv p0 w hL hlen hP
  rw [← firstP_some P zs 0]
  generalize firstP P zs 0 = o at *
  clear hL hP
  cases o with
  | none =>
    simp only [idxP] at ki
    go_enter Tryz.func58, Tryz.ntmps58
    go_wp2_with fail
    refine ki.mono ?_
    rintro e w1 ⟨rfl, hb1⟩
    go_wp2
    go_ret
    exact ⟨rfl, hb1⟩
  | some j =>
    simp only [idxP] at ki
    have hj : (0 : Int) ≤ (j : Int) := by omega
    go_enter Tryz.func58, Tryz.ntmps58
    go_wp2_with fail
    refine ki.mono ?_
    rintro e w1 ⟨rfl, hb1⟩
    go_wp2
    go_ret
    exact ⟨rfl, hb1⟩

set_option maxHeartbeats 2000000 in
theorem idxFin_ix (P : It → Bool) (zs : List It) (lv p0 : Value) (w : World) (hL : Rd itE w lv zs) (hlen : zs.length ≤ 4611686018427387904) (hP : ∀ z W, z ∈ zs → Below w.heap.size w W → Calls Tryz.prog 46 #[iv z, p0] W fun e w' => e = .returned (.bool (P z)) ∧ Below W.heap.size W w') :
    Calls Tryz.prog 109 #[lv, .func (.func 46) #[] #[p0]] w fun e w' => e = .returned (.int .i64 (idxP (firstP P zs 0))) ∧ Below w.heap.size w w' := by
  have HL : Hid (Rd itE w lv zs) := hL
  have HP0 : Hid (∀ z W, z ∈ zs → Below w.heap.size w W → Calls Tryz.prog 46 #[iv z, p0] W fun e w' => e = .returned (.bool (P z)) ∧ Below W.heap.size W w') := hP
  obtain ⟨ao, cap, rfl, -, -⟩ := hL.shape
  clear hL hP
  go_enter Tryz.func109, Tryz.ntmps109
  go_wp2
  go_loopg [8] zs.length (fun g s8 wr => ∃ i : Nat, i + g = zs.length ∧ s8 = .int .i64 (i : Int) ∧ Below w.heap.size w wr ∧ Hid (firstP P (zs.drop i) i = firstP P zs 0))
  case atStart => exact ⟨0, by simp, rfl, Below.refl _ _, rfl⟩
  case round =>
    obtain ⟨i, hig, rfl, hb, HF⟩ := hrel
    by_cases hlt : i < zs.length
    · have hlti : (i : Int) < (zs.length : Int) := by omega
      have hx : zs[i]? = some zs[i] := List.getElem?_eq_getElem hlt
      obtain ⟨z, hzz⟩ : ∃ z, z = zs[i] := ⟨_, rfl⟩
      rw [← hzz] at hx
      clear hzz
      have kf := HP0.out z wr (List.mem_of_getElem? hx) hb
      obtain ⟨b, off, rfl, cc⟩ := rdx_at HL.out hx
      obtain ⟨c0, c1, c2, c3, c4, c5⟩ := cc wr hb
      have HN : Hid ((if P z then some i else firstP P (zs.drop (i + 1)) (i + 1)) = firstP P zs 0) := by show _ = _; rw [← HF.out, firstP_at hx]
      cases hh : P z with
      | true =>
        rw [hh] at kf
        have HR : Hid (firstP P zs 0 = some i) := by show _ = _; rw [← HN.out, hh]; rfl
        obtain ⟨x0, ⟨x1, x2⟩, x3, x4, x5⟩ := z
        dsimp only at *
        clear HN hh hx HF HL HP0 cc
        go_wp2_with (go_at_call 46; refine kf.mono ?_; rintro e wc ⟨rfl, hbc⟩)
        go_ret
        exact ⟨by rw [HR.out]; rfl, hb.trans (hbc.mono hb.size)⟩
      | false =>
        rw [hh] at kf
        have HR : Hid (firstP P (zs.drop (i + 1)) (i + 1) = firstP P zs 0) := by show _ = _; rw [← HN.out, hh]; rfl
        obtain ⟨x0, ⟨x1, x2⟩, x3, x4, x5⟩ := z
        dsimp only at *
        clear HN hh hx HF HL HP0 cc
        go_wp2_with (go_at_call 46; refine kf.mono ?_; rintro e wc ⟨rfl, hbc⟩)
        go_roundg (gk - 1)
        case measure => omega
        case rel => exact ⟨i + 1, by omega, by go_num, hb.trans (hbc.mono hb.size), HR⟩
    · have hlti : ¬ (i : Int) < (zs.length : Int) := by omega
      have HR : Hid (firstP P zs 0 = none) := by show _ = _; rw [← HF.out, List.drop_eq_nil_of_le (by omega)]; rfl
      clear HF HL HP0
      go_wp2
      go_ret
      exact ⟨by rw [HR.out]; rfl, hb⟩

set_option maxHeartbeats 2000000 in
theorem idxMk_ix (P : Mk → Bool) (zs : List Mk) (lv p0 : Value) (w : World) (hL : Rd markE w lv zs) (hlen : zs.length ≤ 4611686018427387904) (hP : ∀ z W, z ∈ zs → Below w.heap.size w W → Calls Tryz.prog 113 #[mv z, p0] W fun e w' => e = .returned (.bool (P z)) ∧ Below W.heap.size W w') :
    Calls Tryz.prog 162 #[lv, .func (.func 113) #[] #[p0]] w fun e w' => e = .returned (.int .i64 (idxP (firstP P zs 0))) ∧ Below w.heap.size w w' := by
  have HL : Hid (Rd markE w lv zs) := hL
  have HP0 : Hid (∀ z W, z ∈ zs → Below w.heap.size w W → Calls Tryz.prog 113 #[mv z, p0] W fun e w' => e = .returned (.bool (P z)) ∧ Below W.heap.size W w') := hP
  obtain ⟨ao, cap, rfl, -, -⟩ := hL.shape
  clear hL hP
  go_enter Tryz.func162, Tryz.ntmps162
  go_wp2
  go_loopg [8] zs.length (fun g s8 wr => ∃ i : Nat, i + g = zs.length ∧ s8 = .int .i64 (i : Int) ∧ Below w.heap.size w wr ∧ Hid (firstP P (zs.drop i) i = firstP P zs 0))
  case atStart => exact ⟨0, by simp, rfl, Below.refl _ _, rfl⟩
  case round =>
    obtain ⟨i, hig, rfl, hb, HF⟩ := hrel
    by_cases hlt : i < zs.length
    · have hlti : (i : Int) < (zs.length : Int) := by omega
      have hx : zs[i]? = some zs[i] := List.getElem?_eq_getElem hlt
      obtain ⟨z, hzz⟩ : ∃ z, z = zs[i] := ⟨_, rfl⟩
      rw [← hzz] at hx
      clear hzz
      have kf := HP0.out z wr (List.mem_of_getElem? hx) hb
      obtain ⟨b, off, rfl, cc⟩ := rdm_at HL.out hx
      obtain ⟨c0, c1⟩ := cc wr hb
      have HN : Hid ((if P z then some i else firstP P (zs.drop (i + 1)) (i + 1)) = firstP P zs 0) := by show _ = _; rw [← HF.out, firstP_at hx]
      cases hh : P z with
      | true =>
        rw [hh] at kf
        have HR : Hid (firstP P zs 0 = some i) := by show _ = _; rw [← HN.out, hh]; rfl
        obtain ⟨x0, x1⟩ := z
        dsimp only at *
        clear HN hh hx HF HL HP0 cc
        go_wp2_with (go_at_call 113; refine kf.mono ?_; rintro e wc ⟨rfl, hbc⟩)
        go_ret
        exact ⟨by rw [HR.out]; rfl, hb.trans (hbc.mono hb.size)⟩
      | false =>
        rw [hh] at kf
        have HR : Hid (firstP P (zs.drop (i + 1)) (i + 1) = firstP P zs 0) := by show _ = _; rw [← HN.out, hh]; rfl
        obtain ⟨x0, x1⟩ := z
        dsimp only at *
        clear HN hh hx HF HL HP0 cc
        go_wp2_with (go_at_call 113; refine kf.mono ?_; rintro e wc ⟨rfl, hbc⟩)
        go_roundg (gk - 1)
        case measure => omega
        case rel => exact ⟨i + 1, by omega, by go_num, hb.trans (hbc.mono hb.size), HR⟩
    · have hlti : ¬ (i : Int) < (zs.length : Int) := by omega
      have HR : Hid (firstP P zs 0 = none) := by show _ = _; rw [← HF.out, List.drop_eq_nil_of_le (by omega)]; rfl
      clear HF HL HP0
      go_wp2
      go_ret
      exact ⟨by rw [HR.out]; rfl, hb⟩

end Go.Proofs.YtfpbgfmnjpamlaaGreat

