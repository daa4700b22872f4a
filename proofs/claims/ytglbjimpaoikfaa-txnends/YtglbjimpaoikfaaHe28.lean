import Derived.Test.YtglbjimpaoikfaaHe25
import Derived.Test.YtglbjimpaoikfaaHe27
import Derived.Test.YtglbjimpaoikfaaHe22
import Derived.Test.YtglbjimpaoikfaaHe26
/- The document's May of txn. -/
namespace Go.Proofs.Ytglbjimpaoikfaa
open Go.RowKit LeaseMath
set_option maxRecDepth 100000
set_option linter.unusedSimpArgs false
set_option linter.unusedVariables false

theorem sub_sublist : ∀ (g y : List Int), y.Pairwise (· < ·) → g.Pairwise (· < ·) → (∀ x ∈ y, x ∈ g) → y.Sublist g
  | [], y, _, _, h => by
    cases y with
    | nil => exact List.Sublist.refl _
    | cons b y => exact absurd (h b (by simp)) (by simp)
  | a :: g, [], _, _, _ => List.nil_sublist _
  | a :: g, b :: y, hy, hg, h => by
    rw [List.pairwise_cons] at hy hg
    by_cases e : b = a
    · subst e
      refine (sub_sublist g y hy.2 hg.2 fun x hx => ?_).cons_cons _
      have h1 := hy.1 x hx
      rcases List.mem_cons.1 (h x (List.mem_cons_of_mem _ hx)) with e | h2
      · omega
      · exact h2
    · refine (sub_sublist g (b :: y) (List.pairwise_cons.2 hy) hg.2 fun x hx => ?_).cons _
      have hb : b ∈ g := by
        rcases List.mem_cons.1 (h b (by simp)) with e' | h2
        · exact absurd e' e
        · exact h2
      have h3 := hg.1 b hb
      rcases List.mem_cons.1 hx with e' | h2
      · subst e'; exact hb
      · have h4 := hy.1 x h2
        rcases List.mem_cons.1 (h x hx) with e' | h5
        · omega
        · exact h5
theorem sub_iff {l m : List Int} : subB l m = true ↔ ∀ x ∈ l, x ∈ m := by
  unfold subB
  rw [List.all_eq_true]
  simp only [decide_eq_true_eq]
/-- One rising list in another: they are alike when they are of one length. -/
theorem sub_len {y g : List Int} (hy : riseB y = true) (hg : riseB g = true) (h : subB y g = true) : subB g y = decide (y.length = g.length) := by
  unfold riseB at hy hg
  have hs := sub_sublist g y (of_decide_eq_true hy) (of_decide_eq_true hg) (sub_iff.1 h)
  rw [Bool.eq_iff_iff, sub_iff, decide_eq_true_eq]
  constructor
  · intro h2
    have := sub_sublist y g (of_decide_eq_true hg) (of_decide_eq_true hy) h2
    exact Nat.le_antisymm hs.length_le this.length_le
  · intro h2
    rw [hs.eq_of_length h2]
    exact fun x hx => hx
theorem grp_sub {y g : List Int} (hg : grpB g = true) (h : subB y g = true) : grpB y = true := by
  unfold grpB at *
  rw [List.all_eq_true] at *
  exact fun x hx => hg x (sub_iff.1 h x hx)
/-- What the document asks of a state. -/
def rstateB (x : Tx) (r d : Bool) : Bool :=
  if x.state = 1 then decide (x.done.length = 0) && decide (x.code = 0) && !(decide (x.token ≠ 0) && r)
  else if x.state = 2 then (decide (x.token ≠ 0) && r) && !d && decide (x.code = 0)
  else if x.state = 3 then !d && decide (x.code ≠ 0)
  else if x.state = 4 then d && ((decide (x.token ≠ 0) && r) || decide (x.code ≠ 0))
  else false
def rokX (x : Tx) : Bool := idB x.id && callB (callM x) && decide (0 < x.groups.length) && (grpB x.groups && riseB x.groups) && (grpB x.yes && riseB x.yes) && (grpB x.done && riseB x.done) && subB x.yes x.groups && subB x.done x.groups && rstateB x (subB x.groups x.yes) (subB x.groups x.done)
theorem rokX_eq (x : Tx) : rokX x = okX x := by
  have hG : (decide (0 < x.groups.length) && (grpB x.groups && riseB x.groups) && (grpB x.yes && riseB x.yes) && (grpB x.done && riseB x.done) && subB x.yes x.groups && subB x.done x.groups) = groupsB x := by
    rw [Bool.eq_iff_iff]
    unfold groupsB
    simp only [Bool.and_eq_true]
    constructor
    · rintro ⟨⟨⟨⟨⟨a, b, c⟩, d, e⟩, f, g⟩, h⟩, i⟩
      exact ⟨⟨⟨⟨⟨⟨a, c⟩, b⟩, e⟩, h⟩, g⟩, i⟩
    · rintro ⟨⟨⟨⟨⟨⟨a, c⟩, b⟩, e⟩, h⟩, g⟩, i⟩
      exact ⟨⟨⟨⟨⟨a, b, c⟩, grp_sub b h, e⟩, grp_sub b i, g⟩, h⟩, i⟩
  have hA : rokX x = (idB x.id && callB (callM x) && groupsB x && rstateB x (subB x.groups x.yes) (subB x.groups x.done)) := by
    rw [← hG]; unfold rokX; simp only [Bool.and_assoc]
  rw [hA]
  unfold okX
  cases hg : groupsB x with
  | false => simp
  | true =>
    unfold groupsB at hg
    simp only [Bool.and_eq_true] at hg
    obtain ⟨⟨⟨⟨⟨⟨a, c⟩, b⟩, e⟩, h⟩, g⟩, i⟩ := hg
    rw [sub_len e c h, sub_len g c i]
    unfold rstateB stateB allB
    simp only [Bool.and_comm, Bool.or_comm, Bool.and_left_comm]

end Go.Proofs.Ytglbjimpaoikfaa

/- without of txn; the document's But. -/
namespace Go.Proofs.Ytglbjimpaoikfaa
open Go.RowKit LeaseMath
set_option maxRecDepth 100000
set_option linter.unusedSimpArgs false
set_option linter.unusedVariables false

/-- Those that are not in a list. -/
def lack (o v : List Int) : List Int := v.filter fun n => decide (n ∉ o)
theorem lack_mem {o v : List Int} {n : Int} : n ∈ lack o v ↔ n ∈ v ∧ n ∉ o := by simp [lack]
theorem lack_in {o v : List Int} {i : Nat} {x : Int} (h : v[i]? = some x) (hx : x ∈ o) : lack o (v.take (i + 1)) = lack o (v.take i) := by
  unfold lack
  rw [List.take_add_one, h, List.filter_append]
  simp [hx]
theorem lack_out {o v : List Int} {i : Nat} {x : Int} (h : v[i]? = some x) (hx : x ∉ o) : lack o (v.take (i + 1)) = lack o (v.take i) ++ [x] := by
  unfold lack
  rw [List.take_add_one, h, List.filter_append]
  simp [hx]
theorem lack_len (o v : List Int) : (lack o v).length ≤ v.length := List.length_filter_le _ _
set_option maxHeartbeats 1000000 in
theorem without_of (o v : List Int) (ov vv : Value) (w : World) (hO : Rd intE w ov o) (hV : Rd intE w vv v) (hlo : o.length ≤ 1000000) (hlv : v.length ≤ 1000000) : Calls Try.prog 39 #[vv, ov] w fun e w' => ∃ u, e = .returned u ∧ Ow intE 3 w.heap.size w' u (lack o v) ∧ Below w.heap.size w w' := by
  have kc := fun x W (hW : Below w.heap.size w W) => contains_of o ov x W (hO.below hW) (by omega)
  have HV : Hid (Rd intE w vv v) := hV
  obtain ⟨oa, oc, rfl, -, -⟩ := hO.shape
  obtain ⟨va, vc, rfl, -, -⟩ := hV.shape
  clear hO hV
  go_enter Try.func39, Try.ntmps39
  go_wp2
  go_loopg [5, 10] v.length (fun g s5 s10 wr => ∃ (i : Nat) (st : Value), i + g = v.length ∧ s10 = .int .i64 (i : Int) ∧ st = s5 ∧ Ow intE 3 w.heap.size wr st (lack o (v.take i)) ∧ Below w.heap.size w wr)
  case atStart => exact ⟨0, _, by simp, rfl, rfl, by rw [List.take_zero]; exact Ow.nil _ _ _ _, Below.refl _ _⟩
  case round =>
    obtain ⟨i, st, hig, rfl, rfl, hO, hb⟩ := hrel
    by_cases hlt : i < v.length
    · have hlti : (i : Int) < (v.length : Int) := by omega
      have hx : v[i]? = some v[i] := List.getElem?_eq_getElem hlt
      obtain ⟨y, hxx⟩ : ∃ x, x = v[i] := ⟨_, rfl⟩
      rw [← hxx] at hx
      clear hxx
      obtain ⟨b, off, rfl, cc⟩ := rdi_at HV.out hx
      have c0 := cc wr hb
      have kc1 := kc y wr hb
      have hll := lack_len o (v.take i)
      rw [List.length_take] at hll
      by_cases hy : y ∈ o
      · rw [decide_eq_true hy] at kc1
        have HO : Hid (Ow intE 3 w.heap.size wr st (lack o (v.take (i + 1)))) := by show Ow _ _ _ _ _ _; rw [lack_in hx hy]; exact hO
        obtain ⟨sa, sc, rfl, -⟩ := hO.1.shape
        clear hO HV cc hx kc hy hll
        go_wp2_with fail
        refine kc1.mono ?_
        rintro e w1 ⟨rfl, hw1⟩
        subst hw1
        clear kc1
        go_wp2
        go_roundg (gk - 1)
        case measure => omega
        case rel => exact ⟨i + 1, _, by omega, by go_num, rfl, HO.out, hb⟩
      · rw [decide_eq_false hy] at kc1
        have hrun : Hid _ := push_int y hO.1 (by omega)
        have HP : Hid (∀ v' w', PushT intE 3 wr st (lack o (v.take i) ++ [y]) v' w' → Ow intE 3 w.heap.size w' v' (lack o (v.take (i + 1))) ∧ Below w.heap.size wr w') := fun v' w' h => by
          rw [lack_out hx hy]
          exact hO.push hb.size h
        obtain ⟨sa, sc, rfl, -⟩ := hO.1.shape
        generalize lack o (v.take i) = L at *
        clear hO HV cc hx kc hy hll
        go_wp2_with fail
        refine kc1.mono ?_
        rintro e w1 ⟨rfl, hw1⟩
        subst hw1
        clear kc1
        go_wp2_with (at_builtin; refine wp_by rfl _ _ _ rfl _ _ rfl rfl hrun.out ?_)
        intro u w2 hp
        obtain ⟨h1, h2⟩ := HP.out u w2 hp
        obtain ⟨ua, uc, rfl, -⟩ := h1.1.shape
        have hb2 := hb.trans h2
        clear hrun HP hp h2
        go_wp2
        go_roundg (gk - 1)
        case measure => omega
        case rel => exact ⟨i + 1, _, by omega, by go_num, rfl, h1, hb2⟩
    · have hlti : ¬ (i : Int) < (v.length : Int) := by omega
      obtain rfl : i = v.length := by omega
      rw [List.take_length] at hO
      obtain ⟨sa, sc, rfl, -⟩ := hO.1.shape
      have HO : Hid _ := hO
      clear hO HV kc
      go_wp2
      go_ret
      exact ⟨_, rfl, HO.out, hb⟩
end Go.Proofs.Ytglbjimpaoikfaa

