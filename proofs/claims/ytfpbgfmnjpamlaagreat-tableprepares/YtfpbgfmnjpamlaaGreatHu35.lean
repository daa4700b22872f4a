import Derived.Test.YtfpbgfmnjpamlaaGreatHu08
/- Two lists by rising keys as one; what keys that may turn are. -/
namespace Go.Proofs.YtfpbgfmnjpamlaaGreat
open Go.RowKit LeaseMath
set_option linter.unusedSimpArgs false
set_option linter.unusedVariables false

/-- The document's way: among the intents, each key at its place. -/
def mrg {β : Type} : List (K × β) → List (K × β) → List (K × β)
  | [], more => more
  | x :: l, more => more.takeWhile (fun y => decide (y.1 < x.1)) ++ x :: mrg l (more.dropWhile (fun y => decide (y.1 < x.1)))
theorem mrg_perm {β : Type} : ∀ (l more : List (K × β)), (mrg l more).Perm (l ++ more)
  | [], more => List.Perm.refl _
  | x :: l, more => by
    have ih := mrg_perm l (more.dropWhile (fun y => decide (y.1 < x.1)))
    rw [mrg]
    refine List.perm_middle.trans ?_
    refine List.Perm.cons x ?_
    refine (List.Perm.append_left _ ih).trans ?_
    have h : more.takeWhile (fun y => decide (y.1 < x.1)) ++ more.dropWhile (fun y => decide (y.1 < x.1)) = more := List.takeWhile_append_dropWhile
    calc (more.takeWhile (fun y => decide (y.1 < x.1)) ++ (l ++ more.dropWhile (fun y => decide (y.1 < x.1)))).Perm (l ++ (more.takeWhile (fun y => decide (y.1 < x.1)) ++ more.dropWhile (fun y => decide (y.1 < x.1)))) := by
          rw [← List.append_assoc, ← List.append_assoc]
          exact List.Perm.append_right _ List.perm_append_comm
      _ = l ++ more := by rw [h]
theorem mrg_mem {β : Type} {l more : List (K × β)} {y : K × β} : y ∈ mrg l more ↔ y ∈ l ∨ y ∈ more := by
  rw [(mrg_perm l more).mem_iff, List.mem_append]
theorem dropWhile_ge {β : Type} {x : K × β} : ∀ {more : List (K × β)}, more.Pairwise (fun a b => a.1 < b.1) → ∀ y ∈ more.dropWhile (fun y => decide (y.1 < x.1)), x.1 ≤ y.1
  | [], _, y, hy => by simp at hy
  | z :: more, h, y, hy => by
    rw [List.pairwise_cons] at h
    rw [List.dropWhile_cons] at hy
    by_cases hz : z.1 < x.1
    · rw [if_pos (by simpa using hz)] at hy
      exact dropWhile_ge h.2 y hy
    · rw [if_neg (by simpa using hz)] at hy
      rcases List.mem_cons.1 hy with rfl | hy
      · grind
      · have := h.1 y hy
        grind
theorem takeWhile_lt {β : Type} {x : K × β} : ∀ {more : List (K × β)}, ∀ y ∈ more.takeWhile (fun y => decide (y.1 < x.1)), y.1 < x.1
  | [], y, hy => by simp at hy
  | z :: more, y, hy => by
    rw [List.takeWhile_cons] at hy
    by_cases hz : z.1 < x.1
    · rw [if_pos (by simpa using hz)] at hy
      rcases List.mem_cons.1 hy with rfl | hy
      · exact hz
      · exact takeWhile_lt y hy
    · rw [if_neg (by simpa using hz)] at hy
      simp at hy
theorem mrg_up {β : Type} : ∀ {l more : List (K × β)}, l.Pairwise (fun a b => a.1 < b.1) → more.Pairwise (fun a b => a.1 < b.1) → (∀ x ∈ l, ∀ y ∈ more, x.1 ≠ y.1) → (mrg l more).Pairwise (fun a b => a.1 < b.1)
  | [], more, _, h, _ => h
  | x :: l, more, h1, h2, h3 => by
    rw [List.pairwise_cons] at h1
    rw [mrg, List.pairwise_append, List.pairwise_cons]
    have hsub : ∀ y ∈ more.dropWhile (fun y => decide (y.1 < x.1)), y ∈ more := fun y hy => (List.dropWhile_sublist _).mem hy
    have hsubT : ∀ y ∈ more.takeWhile (fun y => decide (y.1 < x.1)), y ∈ more := fun y hy => (List.takeWhile_sublist _).mem hy
    have hT : ∀ y ∈ more.takeWhile (fun y => decide (y.1 < x.1)), y.1 < x.1 := takeWhile_lt
    have hD : ∀ y ∈ more.dropWhile (fun y => decide (y.1 < x.1)), x.1 < y.1 := fun y hy => by
      have a := dropWhile_ge h2 y hy
      have b := h3 x (List.mem_cons_self ..) y (hsub y hy)
      grind
    refine ⟨h2.sublist (List.takeWhile_sublist _), ⟨fun y hy => ?_, mrg_up h1.2 (h2.sublist (List.dropWhile_sublist _)) fun a ha b hb => h3 a (List.mem_cons_of_mem _ ha) b (hsub b hb)⟩, fun a ha b hb => ?_⟩
    · rcases mrg_mem.1 hy with hy | hy
      · exact h1.1 y hy
      · exact hD y hy
    · have ax := hT a ha
      rcases List.mem_cons.1 hb with rfl | hb
      · exact ax
      · rcases mrg_mem.1 hb with hb | hb
        · exact klt_trans ax (h1.1 b hb)
        · exact klt_trans ax (hD b hb)
end Go.Proofs.YtfpbgfmnjpamlaaGreat

