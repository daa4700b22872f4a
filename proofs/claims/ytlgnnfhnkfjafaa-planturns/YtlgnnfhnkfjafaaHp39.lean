import Derived.Test.YtlgnnfhnkfjafaaHp38
import Derived.Laws.AppendOwnNone
import Derived.Lib.SliceRun
/- slices.Clone of ranges. -/
namespace Go.Proofs.Ytlgnnfhnkfjafaa
open Go.RowKit SpanMath ChartMath PlanMath
set_option maxRecDepth 100000
set_option linter.unusedSimpArgs false
set_option linter.unusedVariables false

theorem append_greatP {w : World} {v x : Value} {ys : List Rg} (h : Rk rgE w 47 v []) (hx : Rd rgE w x ys) (hly : ys.length * 48 ≤ 140737488355328) :
    ∀ ty, ∃ v' w', (Builtin.append_ #[22, 22] ty #[v, x]).run Try.prog w = .ok v' w' ∧ PushT rgE 47 w v ys v' w' := by
  intro ty
  obtain ⟨i0, i1, i2, i3, i4⟩ := info_get infoRg
  obtain ⟨ao, cap, e, hc, h1, h2⟩ := id hx
  cases ao with
  | none =>
    have h0 := h1 rfl
    have hy : ys = [] := List.eq_nil_of_length_eq_zero (by omega)
    subst hy h0
    rw [e]
    refine ⟨v, w, run_append_owned_none (P := Try.prog) (w := w) 0 22 ty 47 i0 4 Try.underlying22 i1 v 0 [] h, h, ⟨rfl, rfl, rfl, Nat.le_refl _, fun _ _ _ => rfl⟩, fun k hk => .inl hk⟩
  | some a =>
    subst e
    obtain ⟨b, off, sp⟩ := a
    by_cases hy : ys = []
    · subst hy
      obtain ⟨v', w', hrun, hO, hg, hfr⟩ := run_append_own2 w 0 22 ty 47 i0 _ 4 48 Try.underlying22 i1 i2 i3 i4 rfl (by decide) v 0 [] h ⟨b, off, sp⟩ 0 cap [] (by simp) (by simp) (by simp) (by unfold maxLen; omega) (by omega) (Nat.zero_le _)
      exact ⟨v', w', hrun, hO, hg, hfr⟩
    · have hpos : 0 < ys.length := List.length_pos_iff.2 hy
      obtain ⟨b', off', r1, _⟩ := h2 0 ys[0] 0 ((rgE.enc ys[0])[0]'(by rw [rgE.len]; exact rgE.pos)) (List.getElem?_eq_getElem hpos) (List.getElem?_eq_getElem _)
      cases r1
      obtain ⟨v', w', hrun, hO, hg, hfr⟩ := run_append_own2 w 0 22 ty 47 i0 _ 4 48 Try.underlying22 i1 i2 i3 i4 rfl (by decide) v 0 [] h ⟨b, off, none⟩ ys.length cap (rgE.flat ys) (El.flat_length rgE ys) (fun j u hu => by rw [Addr.add_lit]; exact Rd.cells hx j u hu) (El.flat_mem rgE) (by unfold maxLen; omega) (by omega) (Nat.zero_le _)
      refine ⟨v', w', hrun, ?_, hg, hfr⟩
      have hO' : w'.ownsRow 0 47 4 v' (0 + ys.length) ([] ++ rgE.flat ys) := hO
      rw [Nat.zero_add, List.nil_append] at hO'
      exact hO'
def CopyR (w : World) (ys : List Rg) (v' : Value) (w' : World) : Prop := Rd rgE w' v' ys ∧ Below w.heap.size w w'
theorem copyR {w : World} {x : Value} {ys : List Rg} (hx : Rd rgE w x ys) (hly : ys.length ≤ 1000000) :
    ∀ ty, ∃ v' w', (Builtin.append_ #[22, 22] ty #[.slice (some ⟨w.heap.size, 0, none⟩) 0 0, x]).run Try.prog (w.alloc (.cells #[] 47)) = .ok v' w' ∧ CopyR w ys v' w' := by
  intro ty
  obtain ⟨q1, q2, q3⟩ := one_box w (.cells #[] 47)
  have hO : Rk rgE (w.alloc (.cells #[] 47)) 47 (.slice (some ⟨w.heap.size, 0, none⟩) 0 0) [] := Rk.made (xs := []) q2 rfl (by unfold maxLen; simp)
  obtain ⟨v', w', h1, h2⟩ := append_greatP hO (hx.below q3) (by omega) ty
  refine ⟨v', w', h1, h2.1.rd, q3.trans (grown_below h2.2.1 (by rw [q1]; omega) fun k hk => ?_)⟩
  simp [Value.ownBlock] at hk
  omega
theorem cloneR_of (l : List Rg) (lv : Value) (w : World) (hL : Rd rgE w lv l) (hlen : l.length ≤ 1000000) : Calls Try.prog 43 #[lv] w fun e w' => ∃ v, e = .returned v ∧ Rd rgE w' v l ∧ Below w.heap.size w w' := by
  have hrun : Hid _ := copyR hL hlen
  obtain ⟨ao, cap, rfl, hcp, h0, -⟩ := id hL
  have hnil : ∀ w', (binOp .eql 22 (.slice ao l.length cap) (.slice none 0 0)).run Try.prog w' = .ok (.bool ao.isNone) w' := fun w' => Lib.run_eql_slice_nil w' 22 47 ao l.length cap 0 0 Try.underlying22
  cases ao with
  | none =>
    have hc := h0 rfl
    have hl0 : l = [] := List.eq_nil_of_length_eq_zero (by omega)
    subst hl0 hc
    simp only [Option.isNone_none, List.length_nil] at hnil ⊢
    clear hrun hL hcp h0
    go_enter Try.func43, Try.ntmps43
    go_wp2
    go_ret
    exact ⟨_, rfl, rg_nil _, Below.refl _ _⟩
  | some a =>
    simp only [Option.isNone_some] at hnil
    clear hL h0 hcp
    go_enter Try.func43, Try.ntmps43
    go_wp2_with (at_builtin; refine wp_by rfl _ _ _ rfl _ _ rfl rfl hrun.out ?_)
    intro u w1 hp1
    obtain ⟨h1, h2⟩ := hp1
    obtain ⟨ua, uc, rfl, -⟩ := id h1
    clear hrun
    go_wp2
    go_ret
    exact ⟨_, rfl, h1, h2⟩
end Go.Proofs.Ytlgnnfhnkfjafaa

