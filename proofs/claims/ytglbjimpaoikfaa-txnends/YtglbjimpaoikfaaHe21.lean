import Derived.Test.YtglbjimpaoikfaaHe20
/- Leaves of txn: rising, all, told; the document's In, Groups, all, Call. -/
namespace Go.Proofs.Ytglbjimpaoikfaa
open Go.RowKit LeaseMath
set_option maxRecDepth 100000
set_option linter.unusedSimpArgs false
set_option linter.unusedVariables false

/-- Do numbers rise so far? -/
def upTo (l : List Int) (i : Nat) : Prop := (l.take i).Pairwise (· < ·)
theorem up_step {l : List Int} {i : Nat} {x y : Int} (hx : l[i]? = some x) (hy : l[i - 1]? = some y) (hi : 0 < i) (h : upTo l i) (hlt : y < x) : upTo l (i + 1) := by
  unfold upTo at *
  rw [take_succ_get hx, List.pairwise_append]
  refine ⟨h, by simp, fun a ha b hb => ?_⟩
  obtain rfl := by simpa using hb
  obtain ⟨j, hj, rfl⟩ := List.mem_iff_getElem.1 ha
  rw [List.length_take] at hj
  rw [List.getElem_take]
  obtain ⟨h1, rfl⟩ := List.getElem?_eq_some_iff.1 hy
  by_cases he : j = i - 1
  · subst he; exact hlt
  · have h2 := List.pairwise_iff_getElem.1 h j (i - 1) (by rw [List.length_take]; omega) (by rw [List.length_take]; omega) (by omega)
    rw [List.getElem_take, List.getElem_take] at h2
    omega
theorem up_not {l : List Int} {i : Nat} {x y : Int} (hx : l[i]? = some x) (hy : l[i - 1]? = some y) (hi : 0 < i) (hlt : ¬ y < x) : riseB l = false := by
  unfold riseB
  rw [decide_eq_false_iff_not]
  intro h
  obtain ⟨h1, rfl⟩ := List.getElem?_eq_some_iff.1 hx
  obtain ⟨h2, rfl⟩ := List.getElem?_eq_some_iff.1 hy
  exact hlt (List.pairwise_iff_getElem.1 h (i - 1) i h2 h1 (by omega))
set_option maxHeartbeats 2000000 in
theorem rising_of (l : List Int) (lv : Value) (w : World) (hL : Rd intE w lv l) (hlen : l.length ≤ 1000000000) : Calls Try.prog 59 #[lv] w fun e w' => e = .returned (.bool (riseB l)) ∧ Below w.heap.size w w' := by
  obtain ⟨B, HB⟩ : ∃ B, Hid (B = riseB l) := ⟨_, rfl⟩
  rw [← HB.out]
  have HL : Hid (Rd intE w lv l) := hL
  obtain ⟨ao, cap, rfl, -, -⟩ := hL.shape
  clear hL
  go_enter Try.func59, Try.ntmps59
  go_wp2
  go_loopg [3] (l.length + 1) (fun g s3 wr => ∃ i : Nat, i + g = l.length + 2 ∧ 1 ≤ i ∧ s3 = .int .i64 (i : Int) ∧ Below w.heap.size w wr ∧ Hid (upTo l i))
  case atStart => exact ⟨1, by omega, Nat.le_refl _, rfl, Below.refl _ _, by
    show (l.take 1).Pairwise _
    cases l with
    | nil => simp
    | cons a l => simp⟩
  case round =>
    obtain ⟨i, hig, hi1n, rfl, hb, HP⟩ := hrel
    by_cases hlt : i < l.length
    · have hlti : (i : Int) < (l.length : Int) := by omega
      have hx : l[i]? = some l[i] := List.getElem?_eq_getElem hlt
      obtain ⟨x, hxx⟩ : ∃ x, x = l[i] := ⟨_, rfl⟩
      rw [← hxx] at hx
      clear hxx
      have hy : l[i - 1]? = some l[i - 1] := List.getElem?_eq_getElem (by omega)
      obtain ⟨y, hyy⟩ : ∃ x, x = l[i - 1] := ⟨_, rfl⟩
      rw [← hyy] at hy
      clear hyy
      obtain ⟨b, off, rfl, c⟩ := rdi_at HL.out hx
      obtain ⟨b', off', e', c'⟩ := rdi_at HL.out hy
      cases e'
      have c0 := c wr hb
      have c1 := c' wr hb
      have hi1 : (1 : Int) ≤ (i : Int) := by omega
      have j1 : IntKind.i64.wrap ((i : Int) - 1) = (i : Int) - 1 := IntWalk.i64_in _ (by omega)
      have j2 : (0 : Int) ≤ (i : Int) - 1 := by omega
      have j3 : (i : Int) - 1 < (l.length : Int) := by omega
      have j4 : ((i : Int) - 1).toNat = i - 1 := by omega
      by_cases hxy : y < x
      · have hge : decide (x ≤ y) = false := decide_eq_false (by omega)
        have HN : Hid (upTo l (i + 1)) := up_step hx hy (by omega) HP.out hxy
        have hxyi : ¬ x ≤ y := by omega
        clear c c' HL HP hx hy hxy
        go_wp2
        go_quiet (fail)
        go_wp2
        go_roundg (gk - 1)
        case measure => omega
        case rel => exact ⟨i + 1, by omega, by omega, by go_num, below_drewN hb nq, HN⟩
      · have hge : decide (x ≤ y) = true := decide_eq_true (by omega)
        have E : Hid (B = false) := by show _ = _; rw [HB.out, up_not hx hy (by omega) hxy]
        have hxyi : x ≤ y := by omega
        clear c c' HL HP hx hy hxy
        go_wp2
        go_quiet (fail)
        go_wp2
        go_ret
        exact ⟨by rw [E.out]; rfl, below_drewN hb nq⟩
    · have hlti : ¬ (i : Int) < (l.length : Int) := by omega
      have E : Hid (B = true) := by
        show _ = _
        have := HP.out
        unfold upTo at this
        rw [List.take_of_length_le (by omega)] at this
        rw [HB.out]
        unfold riseB
        exact decide_eq_true this
      clear HL HP
      go_wp2
      go_ret
      exact ⟨by rw [E.out]; rfl, hb⟩
theorem other_of (z : Int) (w : World) : Calls Try.prog 57 #[.int .i64 z] w fun e w' => e = .returned (.bool (!(decide (1 ≤ z) && decide (z ≤ 16)))) ∧ Below w.heap.size w w' := by
  by_cases h1 : z < 1
  · have h1d : decide (z < 1) = true := decide_eq_true h1
    have E : Hid ((!(decide (1 ≤ z) && decide (z ≤ 16))) = true) := by show _ = _; rw [decide_eq_false (by omega : ¬ 1 ≤ z)]; rfl
    rw [E.out]
    clear E
    go_enter Try.func57, Try.ntmps57
    go_wp2
    go_ret
    exact ⟨rfl, Below.refl _ _⟩
  · have h1d : decide (z < 1) = false := decide_eq_false h1
    by_cases h2 : 16 < z
    · have h2d : decide (16 < z) = true := decide_eq_true h2
      have E : Hid ((!(decide (1 ≤ z) && decide (z ≤ 16))) = true) := by show _ = _; rw [decide_eq_true (by omega : 1 ≤ z), decide_eq_false (by omega : ¬ z ≤ 16)]; rfl
      rw [E.out]
      clear E
      go_enter Try.func57, Try.ntmps57
      go_wp2
      go_ret
      exact ⟨rfl, Below.refl _ _⟩
    · have h2d : decide (16 < z) = false := decide_eq_false h2
      have E : Hid ((!(decide (1 ≤ z) && decide (z ≤ 16))) = false) := by show _ = _; rw [decide_eq_true (by omega : 1 ≤ z), decide_eq_true (by omega : z ≤ 16)]; rfl
      rw [E.out]
      clear E
      go_enter Try.func57, Try.ntmps57
      go_wp2
      go_ret
      exact ⟨rfl, Below.refl _ _⟩
theorem all_of (z : Xz) (a : Sa) (l : List Int) (w : World) (h1 : z.t.groups.length ≤ 1000000000) (h2 : l.length ≤ 1000000000) : Calls Try.prog 54 #[xv z, .slice a.1 l.length a.2] w fun e w' => e = .returned (.bool (allB z.t l)) ∧ Below w.heap.size w w' := by
  obtain ⟨q1, q2, q3⟩ := x_box w z
  obtain ⟨w0, hw0⟩ : ∃ W, w.alloc (xc z) = W := ⟨_, rfl⟩
  rw [hw0] at q1 q2 q3
  obtain ⟨⟨⟨i1, i2⟩, kd, ks, tk, tt, gs, st, ys, ds, cd⟩, ⟨ka, kc⟩, ⟨ga, gc⟩, ⟨ya, yc⟩, ⟨da, dc⟩⟩ := z
  obtain ⟨aa, ac⟩ := a
  dsimp only [xv, xc] at *
  obtain ⟨c0, c1, c2, c3, c4, c5, c6, c7, c8, c9, c10⟩ := cells11 q2
  unfold allB
  dsimp only
  by_cases h : l.length = gs.length
  · have hd : ((l.length : Int) == (gs.length : Int)) = true := by simp [h]
    rw [decide_eq_true h]
    clear h q1 q2
    go_enter Try.func54, Try.ntmps54
    go_wp2
    go_ret
    exact ⟨rfl, q3⟩
  · have hd : ((l.length : Int) == (gs.length : Int)) = false := by simp; omega
    rw [decide_eq_false h]
    clear h q1 q2
    go_enter Try.func54, Try.ntmps54
    go_wp2
    go_ret
    exact ⟨rfl, q3⟩
end Go.Proofs.Ytglbjimpaoikfaa

