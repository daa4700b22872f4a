import Derived.Test.YtglbjimpaoikfaaHe18
import Derived.Test.YtglbjimpaoikfaaHe19
/- Lists of numbers, of keys: copies; closures of txn's. -/
namespace Go.Proofs.Ytglbjimpaoikfaa
open Go.RowKit LeaseMath
set_option maxRecDepth 100000
set_option linter.unusedSimpArgs false
set_option linter.unusedVariables false

theorem append_i {w : World} {v x : Value} {xs ys : List Int} (h : Rk intE w 3 v xs) (hx : Rd intE w x ys) (hlen : xs.length ≤ 1000000) (hly : ys.length ≤ 1000000) :
    ∀ ty, ∃ v' w', (Builtin.append_ #[26, 26] ty #[v, x]).run Try.prog w = .ok v' w' ∧ PushT intE 3 w v (xs ++ ys) v' w' := by
  obtain ⟨i0, h1, h2, h3, h4⟩ := info_get infoInt
  exact append_rd intE w 26 3 i0 _ 8 Try.underlying26 h1 h2 h3 h4 rfl (by decide) v x xs ys h hx (by omega) (by omega)
theorem infoKey : (Try.prog.info? 9).map (fun i => (i.zero, i.size, i.bytes)) = some (some (.string { data := #[] }), 1, 16) := by kernel_rfl
theorem append_k {w : World} {v x : Value} {xs ys : List K} (h : Rk kyE w 9 v xs) (hx : Rd kyE w x ys) (hlen : xs.length ≤ 1000000) (hly : ys.length ≤ 1000000) :
    ∀ ty, ∃ v' w', (Builtin.append_ #[25, 25] ty #[v, x]).run Try.prog w = .ok v' w' ∧ PushT kyE 9 w v (xs ++ ys) v' w' := by
  obtain ⟨i0, h1, h2, h3, h4⟩ := info_get infoKey
  exact append_rd kyE w 25 9 i0 _ 16 Try.underlying25 h1 h2 h3 h4 rfl (by decide) v x xs ys h hx (by omega) (by omega)
theorem copy_i {w : World} {x : Value} {ys : List Int} (hx : Rd intE w x ys) (hly : ys.length ≤ 1000000) :
    ∀ ty, ∃ v' w', (Builtin.append_ #[26, 26] ty #[.slice (some ⟨w.heap.size, 0, none⟩) 0 0, x]).run Try.prog (w.alloc (.cells #[] 3)) = .ok v' w' ∧ CopyT intE 3 w ys v' w' := by
  intro ty
  obtain ⟨q1, q2, q3⟩ := one_box w (.cells #[] 3)
  have hO : Ow intE 3 w.heap.size (w.alloc (.cells #[] 3)) (.slice (some ⟨w.heap.size, 0, none⟩) 0 0) [] := ⟨Rk.made (xs := []) q2 rfl (by unfold maxLen; simp), fun k hk => by cases hk; exact Nat.le_refl _⟩
  obtain ⟨v', w', h1, h2⟩ := append_i hO.1 (hx.below q3) (by simp) hly ty
  obtain ⟨h3, h4⟩ := hO.push (by rw [q1]; omega) h2
  exact ⟨v', w', h1, h3, q3.trans h4⟩
theorem clonei_of (l : List Int) (lv : Value) (w : World) (hL : Rd intE w lv l) (hlen : l.length ≤ 1000000) : Calls Try.prog 62 #[lv] w fun e w' => ∃ v, e = .returned v ∧ Ow intE 3 w.heap.size w' v l ∧ Below w.heap.size w w' := by
  have hrun : Hid _ := copy_i hL hlen
  obtain ⟨ao, cap, rfl, -, h0⟩ := hL.shape
  have hnil : ∀ w', (binOp .eql 26 (.slice ao l.length cap) (.slice none 0 0)).run Try.prog w' = .ok (.bool ao.isNone) w' := fun w' => Lib.run_eql_slice_nil w' 26 3 ao l.length cap 0 0 Try.underlying26
  cases ao with
  | none =>
    have hc := h0 rfl
    have hl0 : l = [] := by
      obtain ⟨a', c', e, h1, _, _⟩ := hL
      cases e
      exact List.eq_nil_of_length_eq_zero (by omega)
    subst hl0 hc
    simp only [Option.isNone_none, List.length_nil] at hnil ⊢
    clear hrun hL
    go_enter Try.func62, Try.ntmps62
    go_wp2
    go_ret
    exact ⟨_, rfl, Ow.nil _ _ _ _, Below.refl _ _⟩
  | some a =>
    simp only [Option.isNone_some] at hnil
    clear hL h0
    go_enter Try.func62, Try.ntmps62
    go_wp2_with (at_builtin; refine wp_by rfl _ _ _ rfl _ _ rfl rfl hrun.out ?_)
    intro u w1 hp1
    obtain ⟨h1, h2⟩ := hp1
    obtain ⟨ua, uc, rfl, -, -⟩ := h1.1.rd.shape
    clear hrun
    go_wp2
    go_ret
    exact ⟨_, rfl, h1, h2⟩

theorem copy_k {w : World} {x : Value} {ys : List K} (hx : Rd kyE w x ys) (hly : ys.length ≤ 1000000) :
    ∀ ty, ∃ v' w', (Builtin.append_ #[25, 25] ty #[.slice (some ⟨w.heap.size, 0, none⟩) 0 0, x]).run Try.prog (w.alloc (.cells #[] 9)) = .ok v' w' ∧ CopyT kyE 9 w ys v' w' := by
  intro ty
  obtain ⟨q1, q2, q3⟩ := one_box w (.cells #[] 9)
  have hO : Ow kyE 9 w.heap.size (w.alloc (.cells #[] 9)) (.slice (some ⟨w.heap.size, 0, none⟩) 0 0) [] := ⟨Rk.made (xs := []) q2 rfl (by unfold maxLen; simp), fun k hk => by cases hk; exact Nat.le_refl _⟩
  obtain ⟨v', w', h1, h2⟩ := append_k hO.1 (hx.below q3) (by simp) hly ty
  obtain ⟨h3, h4⟩ := hO.push (by rw [q1]; omega) h2
  exact ⟨v', w', h1, h3, q3.trans h4⟩
theorem clonek_of (l : List K) (lv : Value) (w : World) (hL : Rd kyE w lv l) (hlen : l.length ≤ 1000000) : Calls Try.prog 43 #[lv] w fun e w' => ∃ v, e = .returned v ∧ Ow kyE 9 w.heap.size w' v l ∧ Below w.heap.size w w' := by
  have hrun : Hid _ := copy_k hL hlen
  obtain ⟨ao, cap, rfl, -, h0⟩ := hL.shape
  have hnil : ∀ w', (binOp .eql 25 (.slice ao l.length cap) (.slice none 0 0)).run Try.prog w' = .ok (.bool ao.isNone) w' := fun w' => Lib.run_eql_slice_nil w' 25 9 ao l.length cap 0 0 Try.underlying25
  cases ao with
  | none =>
    have hc := h0 rfl
    have hl0 : l = [] := by
      obtain ⟨a', c', e, h1, _, _⟩ := hL
      cases e
      exact List.eq_nil_of_length_eq_zero (by omega)
    subst hl0 hc
    simp only [Option.isNone_none, List.length_nil] at hnil ⊢
    clear hrun hL
    go_enter Try.func43, Try.ntmps43
    go_wp2
    go_ret
    exact ⟨_, rfl, Ow.nil _ _ _ _, Below.refl _ _⟩
  | some a =>
    simp only [Option.isNone_some] at hnil
    clear hL h0
    go_enter Try.func43, Try.ntmps43
    go_wp2_with (at_builtin; refine wp_by rfl _ _ _ rfl _ _ rfl rfl hrun.out ?_)
    intro u w1 hp1
    obtain ⟨h1, h2⟩ := hp1
    obtain ⟨ua, uc, rfl, -, -⟩ := h1.1.rd.shape
    clear hrun
    go_wp2
    go_ret
    exact ⟨_, rfl, h1, h2⟩

set_option maxHeartbeats 2000000 in
theorem anyOther_ix (P : Int → Bool) (zs : List Int) (lv : Value) (w : World) (hL : Rd intE w lv zs) (hlen : zs.length ≤ 4611686018427387904) (hP : ∀ z W, z ∈ zs → Below w.heap.size w W → Calls Try.prog 57 #[.int .i64 z] W fun e w' => e = .returned (.bool (P z)) ∧ Below W.heap.size W w') :
    Calls Try.prog 67 #[lv, .func (.func 57) #[] #[]] w fun e w' => e = .returned (.int .i64 (idxP (firstP P zs 0))) ∧ Below w.heap.size w w' := by
  have HL : Hid (Rd intE w lv zs) := hL
  have HP0 : Hid (∀ z W, z ∈ zs → Below w.heap.size w W → Calls Try.prog 57 #[.int .i64 z] W fun e w' => e = .returned (.bool (P z)) ∧ Below W.heap.size W w') := hP
  obtain ⟨ao, cap, rfl, -, -⟩ := hL.shape
  clear hL hP
  go_enter Try.func67, Try.ntmps67
  go_wp2
  go_loopg [8] zs.length (fun g s8 wr => ∃ i : Nat, i + g = zs.length ∧ s8 = .int .i64 (i : Int) ∧ Below w.heap.size w wr ∧ Hid (firstP P (zs.drop i) i = firstP P zs 0))
  case atStart => exact ⟨0, by simp, rfl, Below.refl _ _, rfl⟩
  case round =>
    obtain ⟨i, hig, rfl, hb, HF⟩ := hrel
    by_cases hlt : i < zs.length
    · have hlti : (i : Int) < (zs.length : Int) := by omega
      have hx : zs[i]? = some zs[i] := List.getElem?_eq_getElem hlt
      obtain ⟨z, hzz⟩ : ∃ z, z = zs[i] := ⟨_, rfl⟩
      rw [← hzz] at hx
      clear hzz
      have kf := HP0.out z wr (List.mem_of_getElem? hx) hb
      obtain ⟨b, off, rfl, cc⟩ := rdi_at HL.out hx
      have c0 := cc wr hb
      have HN : Hid ((if P z then some i else firstP P (zs.drop (i + 1)) (i + 1)) = firstP P zs 0) := by show _ = _; rw [← HF.out, firstP_at hx]
      cases hh : P z with
      | true =>
        rw [hh] at kf
        have HR : Hid (firstP P zs 0 = some i) := by show _ = _; rw [← HN.out, hh]; rfl
        clear HN hh hx HF HL HP0 cc
        go_wp2_with (go_at_call 57; refine kf.mono ?_; rintro e wc ⟨rfl, hbc⟩)
        go_ret
        exact ⟨by rw [HR.out]; rfl, hb.trans (hbc.mono hb.size)⟩
      | false =>
        rw [hh] at kf
        have HR : Hid (firstP P (zs.drop (i + 1)) (i + 1) = firstP P zs 0) := by show _ = _; rw [← HN.out, hh]; rfl
        clear HN hh hx HF HL HP0 cc
        go_wp2_with (go_at_call 57; refine kf.mono ?_; rintro e wc ⟨rfl, hbc⟩)
        go_roundg (gk - 1)
        case measure => omega
        case rel => exact ⟨i + 1, by omega, by go_num, hb.trans (hbc.mono hb.size), HR⟩
    · have hlti : ¬ (i : Int) < (zs.length : Int) := by omega
      have HR : Hid (firstP P zs 0 = none) := by show _ = _; rw [← HF.out, List.drop_eq_nil_of_le (by omega)]; rfl
      clear HF HL HP0
      go_wp2
      go_ret
      exact ⟨by rw [HR.out]; rfl, hb⟩

theorem anyOther_of (P : Int → Bool) (zs : List Int) (lv : Value) (w : World) (hL : Rd intE w lv zs) (hlen : zs.length ≤ 4611686018427387904) (hP : ∀ z W, z ∈ zs → Below w.heap.size w W → Calls Try.prog 57 #[.int .i64 z] W fun e w' => e = .returned (.bool (P z)) ∧ Below W.heap.size W w') :
    Calls Try.prog 60 #[lv, .func (.func 57) #[] #[]] w fun e w' => e = .returned (.bool (zs.any P)) ∧ Below w.heap.size w w' := by
  have ki := anyOther_ix P zs lv  w hL hlen hP
  rw [← firstP_some P zs 0]
  generalize firstP P zs 0 = o at *
  clear hL hP
  cases o with
  | none =>
    simp only [idxP] at ki
    go_enter Try.func60, Try.ntmps60
    go_wp2_with fail
    refine ki.mono ?_
    rintro e w1 ⟨rfl, hb1⟩
    go_wp2
    go_ret
    exact ⟨rfl, hb1⟩
  | some j =>
    simp only [idxP] at ki
    have hj : (0 : Int) ≤ (j : Int) := by omega
    go_enter Try.func60, Try.ntmps60
    go_wp2_with fail
    refine ki.mono ?_
    rintro e w1 ⟨rfl, hb1⟩
    go_wp2
    go_ret
    exact ⟨rfl, hb1⟩

set_option maxHeartbeats 2000000 in
theorem anyStranger_ix (P : Int → Bool) (zs : List Int) (lv p0 : Value) (w : World) (hL : Rd intE w lv zs) (hlen : zs.length ≤ 4611686018427387904) (hP : ∀ z W, z ∈ zs → Below w.heap.size w W → Calls Try.prog 58 #[.int .i64 z, p0] W fun e w' => e = .returned (.bool (P z)) ∧ Below W.heap.size W w') :
    Calls Try.prog 67 #[lv, .func (.func 58) #[] #[p0]] w fun e w' => e = .returned (.int .i64 (idxP (firstP P zs 0))) ∧ Below w.heap.size w w' := by
  have HL : Hid (Rd intE w lv zs) := hL
  have HP0 : Hid (∀ z W, z ∈ zs → Below w.heap.size w W → Calls Try.prog 58 #[.int .i64 z, p0] W fun e w' => e = .returned (.bool (P z)) ∧ Below W.heap.size W w') := hP
  obtain ⟨ao, cap, rfl, -, -⟩ := hL.shape
  clear hL hP
  go_enter Try.func67, Try.ntmps67
  go_wp2
  go_loopg [8] zs.length (fun g s8 wr => ∃ i : Nat, i + g = zs.length ∧ s8 = .int .i64 (i : Int) ∧ Below w.heap.size w wr ∧ Hid (firstP P (zs.drop i) i = firstP P zs 0))
  case atStart => exact ⟨0, by simp, rfl, Below.refl _ _, rfl⟩
  case round =>
    obtain ⟨i, hig, rfl, hb, HF⟩ := hrel
    by_cases hlt : i < zs.length
    · have hlti : (i : Int) < (zs.length : Int) := by omega
      have hx : zs[i]? = some zs[i] := List.getElem?_eq_getElem hlt
      obtain ⟨z, hzz⟩ : ∃ z, z = zs[i] := ⟨_, rfl⟩
      rw [← hzz] at hx
      clear hzz
      have kf := HP0.out z wr (List.mem_of_getElem? hx) hb
      obtain ⟨b, off, rfl, cc⟩ := rdi_at HL.out hx
      have c0 := cc wr hb
      have HN : Hid ((if P z then some i else firstP P (zs.drop (i + 1)) (i + 1)) = firstP P zs 0) := by show _ = _; rw [← HF.out, firstP_at hx]
      cases hh : P z with
      | true =>
        rw [hh] at kf
        have HR : Hid (firstP P zs 0 = some i) := by show _ = _; rw [← HN.out, hh]; rfl
        clear HN hh hx HF HL HP0 cc
        go_wp2_with (go_at_call 58; refine kf.mono ?_; rintro e wc ⟨rfl, hbc⟩)
        go_ret
        exact ⟨by rw [HR.out]; rfl, hb.trans (hbc.mono hb.size)⟩
      | false =>
        rw [hh] at kf
        have HR : Hid (firstP P (zs.drop (i + 1)) (i + 1) = firstP P zs 0) := by show _ = _; rw [← HN.out, hh]; rfl
        clear HN hh hx HF HL HP0 cc
        go_wp2_with (go_at_call 58; refine kf.mono ?_; rintro e wc ⟨rfl, hbc⟩)
        go_roundg (gk - 1)
        case measure => omega
        case rel => exact ⟨i + 1, by omega, by go_num, hb.trans (hbc.mono hb.size), HR⟩
    · have hlti : ¬ (i : Int) < (zs.length : Int) := by omega
      have HR : Hid (firstP P zs 0 = none) := by show _ = _; rw [← HF.out, List.drop_eq_nil_of_le (by omega)]; rfl
      clear HF HL HP0
      go_wp2
      go_ret
      exact ⟨by rw [HR.out]; rfl, hb⟩

theorem anyStranger_of (P : Int → Bool) (zs : List Int) (lv p0 : Value) (w : World) (hL : Rd intE w lv zs) (hlen : zs.length ≤ 4611686018427387904) (hP : ∀ z W, z ∈ zs → Below w.heap.size w W → Calls Try.prog 58 #[.int .i64 z, p0] W fun e w' => e = .returned (.bool (P z)) ∧ Below W.heap.size W w') :
    Calls Try.prog 60 #[lv, .func (.func 58) #[] #[p0]] w fun e w' => e = .returned (.bool (zs.any P)) ∧ Below w.heap.size w w' := by
  have ki := anyStranger_ix P zs lv p0 w hL hlen hP
  rw [← firstP_some P zs 0]
  generalize firstP P zs 0 = o at *
  clear hL hP
  cases o with
  | none =>
    simp only [idxP] at ki
    go_enter Try.func60, Try.ntmps60
    go_wp2_with fail
    refine ki.mono ?_
    rintro e w1 ⟨rfl, hb1⟩
    go_wp2
    go_ret
    exact ⟨rfl, hb1⟩
  | some j =>
    simp only [idxP] at ki
    have hj : (0 : Int) ≤ (j : Int) := by omega
    go_enter Try.func60, Try.ntmps60
    go_wp2_with fail
    refine ki.mono ?_
    rintro e w1 ⟨rfl, hb1⟩
    go_wp2
    go_ret
    exact ⟨rfl, hb1⟩

end Go.Proofs.Ytglbjimpaoikfaa

