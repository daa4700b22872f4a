import Derived.Test.YtkglckngiggbhaaHk17
import Derived.Lib.SliceRun
/- The program's areVoters, Clone, lacking, Learners. -/
namespace Go.Proofs.Ytkglckngiggbhaa
open Go.RowKit QuorumMath
set_option maxRecDepth 100000
set_option linter.unusedSimpArgs false
set_option linter.unusedVariables false

theorem areVoters_of (f t : List Int) (fv tv : Value) (w : World) (hF : Rd intE w fv f) (hT : Rd intE w tv t) (hlf : f.length ≤ 1000000000000000) (hlt : t.length ≤ 1000000000000000) : Calls Try.prog 18 #[fv, tv] w fun e w' => e = .returned (.bool (votB f && votB t)) ∧ w' = w := by
  have k1 := check_of f fv w hF hlf
  have k2 := check_of t tv w hT hlt
  obtain ⟨fa, fc, rfl, -, -⟩ := hF.shape
  obtain ⟨ta, tc, rfl, -, -⟩ := hT.shape
  clear hF hT
  generalize votB f = B at *
  generalize votB t = C at *
  cases B with
  | false =>
    go_enter Try.func18, Try.ntmps18
    go_wp2_with fail
    refine k1.mono ?_
    rintro e w1 ⟨rfl, hw1⟩
    subst hw1
    go_wp2
    go_ret
    exact ⟨rfl, rfl⟩
  | true =>
    go_enter Try.func18, Try.ntmps18
    go_wp2_with fail
    refine k1.mono ?_
    rintro e w1 ⟨rfl, hw1⟩
    subst hw1
    go_wp2_with fail
    refine k2.mono ?_
    rintro e w2 ⟨rfl, hw2⟩
    subst hw2
    go_wp2
    go_ret
    exact ⟨by simp, rfl⟩

/-- What a copy leaves. -/
def CopyT {α : Type} (E : El α) (t : TypeId) (w : World) (ys : List α) (v' : Value) (w' : World) : Prop := Ow E t w.heap.size w' v' ys ∧ Below w.heap.size w w'
theorem copy_int {w : World} {x : Value} {ys : List Int} (hx : Rd intE w x ys) (hly : ys.length ≤ 1000000) :
    ∀ ty, ∃ v' w', (Builtin.append_ #[22, 22] ty #[.slice (some ⟨w.heap.size, 0, none⟩) 0 0, x]).run Try.prog (w.alloc (.cells #[] 3)) = .ok v' w' ∧ CopyT intE 3 w ys v' w' := by
  intro ty
  obtain ⟨q1, q2, q3⟩ := one_box w (.cells #[] 3)
  have hO : Ow intE 3 w.heap.size (w.alloc (.cells #[] 3)) (.slice (some ⟨w.heap.size, 0, none⟩) 0 0) [] := ⟨Rk.made (xs := []) q2 rfl (by unfold maxLen; simp), fun k hk => by cases hk; exact Nat.le_refl _⟩
  obtain ⟨v', w', h1, h2⟩ := append_int hO.1 (hx.below q3) (by simp) hly ty
  obtain ⟨h3, h4⟩ := hO.push (by rw [q1]; omega) h2
  exact ⟨v', w', h1, h3, q3.trans h4⟩

theorem clone_of (l : List Int) (lv : Value) (w : World) (hL : Rd intE w lv l) (h0 : 0 < l.length) (hlen : l.length ≤ 1000000) : Calls Try.prog 19 #[lv] w fun e w' => ∃ v, e = .returned v ∧ Ow intE 3 w.heap.size w' v l ∧ Below w.heap.size w w' := by
  have hrun : Hid _ := copy_int hL hlen
  obtain ⟨b, off, cap, e⟩ : ∃ b off cap, lv = .slice (some ⟨b, off, none⟩) l.length cap := by
    obtain ⟨ao, cap, rfl, -, -⟩ := hL.shape
    obtain ⟨b, off, rfl, -⟩ := rdi_at hL (List.getElem?_eq_getElem h0)
    exact ⟨b, off, cap, rfl⟩
  subst e
  have hnil : ∀ w', (binOp .eql 22 (.slice (some ⟨b, off, none⟩) l.length cap) (.slice none 0 0)).run Try.prog w' = .ok (.bool false) w' := fun w' => Lib.run_eql_slice_nil w' 22 3 (some ⟨b, off, none⟩) l.length cap 0 0 Try.underlying22
  clear hL h0
  go_enter Try.func19, Try.ntmps19
  go_wp2_with (at_builtin; refine wp_by rfl _ _ _ rfl _ _ rfl rfl hrun.out ?_)
  intro u w1 hp1
  obtain ⟨h1, h2⟩ := hp1
  obtain ⟨ua, uc, rfl, -, -⟩ := h1.1.rd.shape
  clear hrun
  go_wp2
  go_ret
  exact ⟨_, rfl, h1, h2⟩

set_option maxHeartbeats 1000000 in
theorem lacking_of (o v : List Int) (ov vv : Value) (w : World) (hO : Rd intE w ov o) (hV : Rd intE w vv v) (hlo : o.length ≤ 1000000) (hlv : v.length ≤ 1000000) : Calls Try.prog 21 #[ov, vv] w fun e w' => ∃ u, e = .returned u ∧ Ow intE 3 w.heap.size w' u (lack o v) ∧ Below w.heap.size w w' := by
  have kc := fun x W (hW : Below w.heap.size w W) => contains_of o ov x W (hO.below hW) (by omega)
  have HV : Hid (Rd intE w vv v) := hV
  obtain ⟨oa, oc, rfl, -, -⟩ := hO.shape
  obtain ⟨va, vc, rfl, -, -⟩ := hV.shape
  clear hO hV
  go_enter Try.func21, Try.ntmps21
  go_wp2
  go_loopg [5, 10] v.length (fun g s5 s10 wr => ∃ (i : Nat) (st : Value), i + g = v.length ∧ s10 = .int .i64 (i : Int) ∧ st = s5 ∧ Ow intE 3 w.heap.size wr st (lack o (v.take i)) ∧ Below w.heap.size w wr)
  case atStart => exact ⟨0, _, by simp, rfl, rfl, by rw [List.take_zero]; exact Ow.nil _ _ _ _, Below.refl _ _⟩
  case round =>
    obtain ⟨i, st, hig, rfl, rfl, hO, hb⟩ := hrel
    by_cases hlt : i < v.length
    · have hlti : (i : Int) < (v.length : Int) := by omega
      have hx : v[i]? = some v[i] := List.getElem?_eq_getElem hlt
      obtain ⟨y, hxx⟩ : ∃ x, x = v[i] := ⟨_, rfl⟩
      rw [← hxx] at hx
      clear hxx
      obtain ⟨b, off, rfl, cc⟩ := rdi_at HV.out hx
      have c0 := cc wr hb
      have kc1 := kc y wr hb
      have hll := lack_len o (v.take i)
      rw [List.length_take] at hll
      by_cases hy : y ∈ o
      · rw [decide_eq_true hy] at kc1
        have HO : Hid (Ow intE 3 w.heap.size wr st (lack o (v.take (i + 1)))) := by show Ow _ _ _ _ _ _; rw [lack_in hx hy]; exact hO
        obtain ⟨sa, sc, rfl, -⟩ := hO.1.shape
        clear hO HV cc hx kc hy hll
        go_wp2_with fail
        refine kc1.mono ?_
        rintro e w1 ⟨rfl, hw1⟩
        subst hw1
        clear kc1
        go_wp2
        go_roundg (gk - 1)
        case measure => omega
        case rel => exact ⟨i + 1, _, by omega, by go_num, rfl, HO.out, hb⟩
      · rw [decide_eq_false hy] at kc1
        have hrun : Hid _ := push_int y hO.1 (by omega)
        have HP : Hid (∀ v' w', PushT intE 3 wr st (lack o (v.take i) ++ [y]) v' w' → Ow intE 3 w.heap.size w' v' (lack o (v.take (i + 1))) ∧ Below w.heap.size wr w') := fun v' w' h => by
          rw [lack_out hx hy]
          exact hO.push hb.size h
        obtain ⟨sa, sc, rfl, -⟩ := hO.1.shape
        generalize lack o (v.take i) = L at *
        clear hO HV cc hx kc hy hll
        go_wp2_with fail
        refine kc1.mono ?_
        rintro e w1 ⟨rfl, hw1⟩
        subst hw1
        clear kc1
        go_wp2_with (at_builtin; refine wp_by rfl _ _ _ rfl _ _ rfl rfl hrun.out ?_)
        intro u w2 hp
        obtain ⟨h1, h2⟩ := HP.out u w2 hp
        obtain ⟨ua, uc, rfl, -⟩ := h1.1.shape
        have hb2 := hb.trans h2
        clear hrun HP hp h2
        go_wp2
        go_roundg (gk - 1)
        case measure => omega
        case rel => exact ⟨i + 1, _, by omega, by go_num, rfl, h1, hb2⟩
    · have hlti : ¬ (i : Int) < (v.length : Int) := by omega
      obtain rfl : i = v.length := by omega
      rw [List.take_length] at hO
      obtain ⟨sa, sc, rfl, -⟩ := hO.1.shape
      have HO : Hid _ := hO
      clear hO HV kc
      go_wp2
      go_ret
      exact ⟨_, rfl, HO.out, hb⟩

theorem learners_no (f t : List Int) (fv tv : Value) (w : World) (hF : Rd intE w fv f) (hT : Rd intE w tv t) (hlf : f.length ≤ 1000000000000000) (hlt : t.length ≤ 1000000000000000) (h : (votB f && votB t) = false) : Calls Try.prog 9 #[fv, tv] w fun e w' => e = .returned (.slice none 0 0) ∧ w' = w := by
  have k1 := areVoters_of f t fv tv w hF hT hlf hlt
  rw [h] at k1
  obtain ⟨fa, fc, rfl, -, -⟩ := hF.shape
  obtain ⟨ta, tc, rfl, -, -⟩ := hT.shape
  clear hF hT h
  go_enter Try.func9, Try.ntmps9
  go_wp2_with fail
  refine k1.mono ?_
  rintro e w1 ⟨rfl, hw1⟩
  subst hw1
  go_wp2
  go_ret
  exact ⟨rfl, rfl⟩
theorem learners_yes (f t : List Int) (fv tv : Value) (w : World) (hF : Rd intE w fv f) (hT : Rd intE w tv t) (hlf : f.length ≤ 1000000) (hlt : t.length ≤ 1000000) (h : (votB f && votB t) = true) : Calls Try.prog 9 #[fv, tv] w fun e w' => ∃ u, e = .returned u ∧ Ow intE 3 w.heap.size w' u (lack f t) ∧ Below w.heap.size w w' := by
  have k1 := areVoters_of f t fv tv w hF hT (by omega) (by omega)
  have k2 := lacking_of f t fv tv w hF hT hlf hlt
  rw [h] at k1
  obtain ⟨fa, fc, rfl, -, -⟩ := hF.shape
  obtain ⟨ta, tc, rfl, -, -⟩ := hT.shape
  clear hF hT h
  go_enter Try.func9, Try.ntmps9
  go_wp2_with fail
  refine k1.mono ?_
  rintro e w1 ⟨rfl, hw1⟩
  subst hw1
  clear k1
  go_wp2_with fail
  refine k2.mono ?_
  rintro e w2 ⟨u, rfl, h1, h2⟩
  obtain ⟨ua, uc, rfl, -⟩ := h1.1.shape
  have H1 : Hid _ := h1
  clear k2 h1
  go_wp2
  go_ret
  exact ⟨_, rfl, H1.out, h2⟩
end Go.Proofs.Ytkglckngiggbhaa

