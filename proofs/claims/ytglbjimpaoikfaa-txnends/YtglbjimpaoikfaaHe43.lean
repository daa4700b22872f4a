import Derived.Test.YtglbjimpaoikfaaHe40
import Derived.Test.YtglbjimpaoikfaaHe31
/- Token, Voted, Applied of both sides are told alike; the law's same. -/
namespace Go.Proofs.Ytglbjimpaoikfaa
open Go.RowKit LeaseMath QuorumMath
set_option maxRecDepth 100000
set_option linter.unusedSimpArgs false
set_option linter.unusedVariables false

theorem okX_groups {x : Tx} (h : okX x = true) : riseB x.groups = true ∧ grpB x.groups = true ∧ riseB x.yes = true ∧ subB x.yes x.groups = true ∧ riseB x.done = true ∧ subB x.done x.groups = true := by
  unfold okX at h
  rw [Bool.and_eq_true, Bool.and_eq_true] at h
  have h2 := h.1.2
  unfold groupsB at h2
  simp only [Bool.and_eq_true] at h2
  obtain ⟨⟨⟨⟨⟨⟨a, b⟩, c⟩, d⟩, e⟩, f⟩, g⟩ := h2
  exact ⟨b, c, d, e, f, g⟩
theorem grp_mem {l : List Int} {g : Int} (h : grpB l = true) (hg : g ∈ l) : 1 ≤ g ∧ g ≤ 16 := by
  unfold grpB at h
  simpa using List.all_eq_true.1 h g hg
theorem plus_sub {l m : List Int} {g : Int} (h : subB l m = true) (hg : g ∈ m) : subB (plusL l g 16) m = true := by
  rw [sub_iff] at *
  intro x hx
  unfold plusL at hx
  rw [List.mem_filter] at hx
  have h2 := hx.2
  unfold plusP at h2
  rw [Bool.or_eq_true, decide_eq_true_eq, decide_eq_true_eq] at h2
  rcases h2 with rfl | h2
  · exact hg
  · exact h x h2
theorem plus_rise (l : List Int) (g : Int) : riseB (plusL l g 16) = true := by
  unfold riseB
  exact decide_eq_true ((nums_ris 16).sublist List.filter_sublist)
theorem rise_le {l : List Int} (h : riseB l = true) : l.Pairwise (· ≤ ·) := by
  unfold riseB at h
  exact (of_decide_eq_true h).imp fun h => Int.le_of_lt h
theorem rise_len {l : List Int} (h : riseB l = true) (hg : grpB l = true) : l.length ≤ 16 := by
  have hs : l.Sublist (nums 16) := sub_sublist (nums 16) l (by unfold riseB at h; exact of_decide_eq_true h) (nums_ris 16) fun x hx => nums_mem.2 (by have := grp_mem hg hx; omega)
  have := hs.length_le
  rwa [nums_len] at this
set_option maxHeartbeats 4000000 in
theorem voted_of (z : Xz) (g c : Int) (w : World) (hR : XR w z) (gk : z.t.keys.length ≤ 1000000) (g1 : z.t.groups.length ≤ 1000000) (g2 : z.t.yes.length ≤ 100000) (g3 : z.t.done.length ≤ 100000) : Calls Try.prog 26 #[xv z, .int .i64 g, .int .i64 c] w fun e w' => ∃ R, Hid (R = votedM z.t g c (plusL z.t.yes g 16) (subB z.t.groups (plusL z.t.yes g 16))) ∧ (∃ k g' y d : Sa, e = .returned (.tuple #[xv ⟨R.1, k, g', y, d⟩, .int .i64 R.2]) ∧ XO w.heap.size w' ⟨R.1, k, g', y, d⟩) ∧ Below w.heap.size w w' := by
  by_cases hy : okX z.t = true ∧ g ∈ z.t.groups ∧ z.t.state = 1 ∧ c = 0 ∧ g ∉ z.t.yes
  · obtain ⟨h0, h1, h2, h3, h4⟩ := hy
    obtain ⟨a, b, c', d, -, -⟩ := okX_groups h0
    obtain ⟨K, hS⟩ := spot_ex z.t.yes g (rise_le c')
    have hp := plus_ins c' (grp_sub b d) (grp_mem b h1).1 (grp_mem b h1).2 h4 hS
    have hk := voted_yes z g c K w hR gk g1 g2 (by omega) hS (rise_le c') h0 h1 h2 h3 h4
    rw [hp] at hk
    refine hk.mono fun e w' h => ⟨(agreeM (setY z.t (plusL z.t.yes g 16)) (allB (setY z.t (plusL z.t.yes g 16)) (plusL z.t.yes g 16)), 0), ?_, h.1, h.2⟩
    show _ = _
    unfold votedM
    rw [if_pos h0, if_pos h1, if_pos h2, if_pos h3, if_neg h4, sub_len (plus_rise _ _) a (plus_sub d h1)]
    rfl
  · refine (voted_but z g c (plusL z.t.yes g 16) w hR gk g1 g2 (by omega) hy).mono fun e w' h => ?_
    obtain ⟨R, hr, h1, h2⟩ := h
    refine ⟨R, ?_, h1, h2⟩
    show _ = _
    rw [hr.out]
    unfold votedM
    by_cases h0 : okX z.t = true
    · obtain ⟨a, b, c', d, -, -⟩ := okX_groups h0
      by_cases h1 : g ∈ z.t.groups
      · rw [sub_len (plus_rise _ _) a (plus_sub d h1)]
        rfl
      · rw [if_pos h0, if_neg h1, if_pos h0, if_neg h1]
    · rw [if_neg h0, if_neg h0]
set_option maxHeartbeats 4000000 in
theorem applied_of (z : Xz) (g : Int) (w : World) (hR : XR w z) (gk : z.t.keys.length ≤ 1000000) (g1 : z.t.groups.length ≤ 1000000) (g2 : z.t.yes.length ≤ 100000) (g3 : z.t.done.length ≤ 100000) : Calls Try.prog 28 #[xv z, .int .i64 g] w fun e w' => ∃ R, Hid (R = appliedM z.t g (plusL z.t.done g 16) (subB z.t.groups (plusL z.t.done g 16))) ∧ (∃ k g' y d : Sa, e = .returned (.tuple #[xv ⟨R.1, k, g', y, d⟩, .int .i64 R.2]) ∧ XO w.heap.size w' ⟨R.1, k, g', y, d⟩) ∧ Below w.heap.size w w' := by
  by_cases hy : okX z.t = true ∧ g ∈ z.t.groups ∧ (decide (z.t.state = 2) || decide (z.t.state = 3)) = true ∧ g ∉ z.t.done
  · obtain ⟨h0, h1, h2, h4⟩ := hy
    obtain ⟨a, b, -, -, c', d⟩ := okX_groups h0
    obtain ⟨K, hS⟩ := spot_ex z.t.done g (rise_le c')
    have hp := plus_ins c' (grp_sub b d) (grp_mem b h1).1 (grp_mem b h1).2 h4 hS
    have hk := applied_done z g K w hR gk g1 (by omega) g3 hS (rise_le c') h0 h1 h2 h4
    rw [hp] at hk
    refine hk.mono fun e w' h => ⟨(closeM (setD z.t (plusL z.t.done g 16)) (allB (setD z.t (plusL z.t.done g 16)) (plusL z.t.done g 16)), 0), ?_, h.1, h.2⟩
    show _ = _
    unfold appliedM
    rw [if_pos h0, if_pos h1, if_pos h2, if_neg h4, sub_len (plus_rise _ _) a (plus_sub d h1)]
    rfl
  · refine (applied_but z g w hR gk g1 (by omega) g3 hy).mono fun e w' h => ⟨(noX, appliedC z.t g), ?_, ⟨(none, 0), (none, 0), (none, 0), (none, 0), h.1, XO.none _ _⟩, h.2⟩
    show _ = _
    unfold appliedM appliedC
    by_cases h0 : okX z.t = true
    · by_cases h1 : g ∈ z.t.groups
      · by_cases h2 : (decide (z.t.state = 2) || decide (z.t.state = 3)) = true
        · by_cases h3 : g ∈ z.t.done
          · rw [if_pos h0, if_pos h1, if_pos h2, if_pos h0, if_pos h1, if_pos h2, if_pos h3]
          · exact absurd ⟨h0, h1, h2, h3⟩ hy
        · rw [if_pos h0, if_pos h1, if_neg h2, if_pos h0, if_pos h1, if_neg h2]
      · rw [if_pos h0, if_neg h1, if_pos h0, if_neg h1]
    · rw [if_neg h0, if_neg h0]
theorem voted_m (z : Xz) (g c : Int) (w : World) (hR : XR w z) (gk : z.t.keys.length ≤ 40) (g1 : z.t.groups.length ≤ 40) (g2 : z.t.yes.length ≤ 40) (g3 : z.t.done.length ≤ 40) : Calls Try.prog 26 #[xv z, .int .i64 g, .int .i64 c] w fun e w' => (∃ k g' y d : Sa, e = .returned (.tuple #[xv ⟨(votedM z.t g c (plusL z.t.yes g 16) (subB z.t.groups (plusL z.t.yes g 16))).1, k, g', y, d⟩, .int .i64 (votedM z.t g c (plusL z.t.yes g 16) (subB z.t.groups (plusL z.t.yes g 16))).2]) ∧ XO w.heap.size w' ⟨(votedM z.t g c (plusL z.t.yes g 16) (subB z.t.groups (plusL z.t.yes g 16))).1, k, g', y, d⟩) ∧ Below w.heap.size w w' :=
  (voted_of z g c w hR (by omega) (by omega) (by omega) (by omega)).mono fun e w' h => by
    obtain ⟨R, hr, h1, h2⟩ := h
    obtain rfl := hr.out
    exact ⟨h1, h2⟩
theorem applied_m (z : Xz) (g : Int) (w : World) (hR : XR w z) (gk : z.t.keys.length ≤ 40) (g1 : z.t.groups.length ≤ 40) (g2 : z.t.yes.length ≤ 40) (g3 : z.t.done.length ≤ 40) : Calls Try.prog 28 #[xv z, .int .i64 g] w fun e w' => (∃ k g' y d : Sa, e = .returned (.tuple #[xv ⟨(appliedM z.t g (plusL z.t.done g 16) (subB z.t.groups (plusL z.t.done g 16))).1, k, g', y, d⟩, .int .i64 (appliedM z.t g (plusL z.t.done g 16) (subB z.t.groups (plusL z.t.done g 16))).2]) ∧ XO w.heap.size w' ⟨(appliedM z.t g (plusL z.t.done g 16) (subB z.t.groups (plusL z.t.done g 16))).1, k, g', y, d⟩) ∧ Below w.heap.size w w' :=
  (applied_of z g w hR (by omega) (by omega) (by omega) (by omega)).mono fun e w' h => by
    obtain ⟨R, hr, h1, h2⟩ := h
    obtain rfl := hr.out
    exact ⟨h1, h2⟩
end Go.Proofs.Ytglbjimpaoikfaa

