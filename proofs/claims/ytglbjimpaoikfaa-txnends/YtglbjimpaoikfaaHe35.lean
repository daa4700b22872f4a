import Derived.Test.YtglbjimpaoikfaaHe34
/- with of txn: a rising list and one more. -/
namespace Go.Proofs.Ytglbjimpaoikfaa
open Go.RowKit LeaseMath QuorumMath
set_option maxRecDepth 100000
set_option linter.unusedSimpArgs false
set_option linter.unusedVariables false

set_option maxHeartbeats 2000000 in
theorem with_of (n0 : Nat) (l : List Int) (v : Value) (K : Nat) (x : Int) (w : World) (hO : Ow intE 3 n0 w v l) (hl : l.length ≤ 1000000) (hS : Spot l x K) (hp : l.Pairwise (· ≤ ·)) (hn : n0 ≤ w.heap.size) :
    Calls Try.prog 51 #[v, .int .i64 x] w fun e w' => InsT n0 w v (l.take K ++ [x] ++ l.drop K) e w' := by
  have k1 := search_of l v x K w hO.1.rd hl hS hp
  obtain ⟨q1, q2, q3⟩ := one_box w (.cells #[.int .i64 x] 3)
  have k2 : Hid _ := insert_of n0 l v K x w.heap.size (w.alloc (.cells #[.int .i64 x] 3)) (hO.below q3) hS.1 hl q2 (fun e => by have := hO.1.lt e; exact absurd this (Nat.lt_irrefl _)) (Nat.le_trans hn q3.size)
  obtain ⟨va, vc, rfl, -⟩ := hO.1.shape
  generalize (l.take K ++ [x] ++ l.drop K) = L at *
  generalize decide (x ∈ l) = b at *
  clear hO hS hp q1 q2
  go_enter Try.func51, Try.ntmps51
  go_wp2_with fail
  refine k1.mono ?_
  rintro e w1 ⟨rfl, hw1⟩
  subst hw1
  clear k1
  go_wp2_with fail
  refine Calls.mono k2.out ?_
  rintro e w2 ⟨u, rfl, hO2, hg, hf⟩
  obtain ⟨ua, uc, rfl, -⟩ := hO2.1.shape
  have HO : Hid _ := hO2
  have HG : Hid _ := grown_of_below q3 hg
  have HF : Hid _ := hf
  clear hO2 hg hf k2
  go_wp2
  go_ret
  exact ⟨_, rfl, HO.out, HG.out, fun k hk => (HF.out k hk).imp id fun h => Nat.le_trans q3.size h⟩
end Go.Proofs.Ytglbjimpaoikfaa

/- One more in a rising list: the place that is searched, and the document's plus. -/
namespace Go.Proofs.Ytglbjimpaoikfaa
open Go.RowKit LeaseMath QuorumMath
set_option maxRecDepth 100000
set_option linter.unusedSimpArgs false
set_option linter.unusedVariables false

theorem ris_eq {a b : List Int} (ha : a.Pairwise (· < ·)) (hb : b.Pairwise (· < ·)) (h : ∀ x, x ∈ a ↔ x ∈ b) : a = b := by
  have h1 := sub_sublist b a ha hb fun x hx => (h x).1 hx
  have h2 := sub_sublist a b hb ha fun x hx => (h x).2 hx
  exact h1.eq_of_length (Nat.le_antisymm h1.length_le h2.length_le)
theorem ins_ris {l : List Int} {g : Int} {K : Nat} (hl : l.Pairwise (· < ·)) (hS : Spot l g K) (hn : g ∉ l) : (l.take K ++ [g] ++ l.drop K).Pairwise (· < ·) := by
  obtain ⟨hK, hb, ha⟩ := hS
  have h1 : ∀ x ∈ l.take K, x < g := fun x hx => by
    obtain ⟨j, hj, rfl⟩ := List.mem_iff_getElem.1 hx
    rw [List.length_take] at hj
    exact hb j _ (by omega) (by rw [List.getElem_take]; exact List.getElem?_eq_getElem (by omega))
  have h2 : ∀ x ∈ l.drop K, g < x := fun x hx => by
    obtain ⟨j, hj, rfl⟩ := List.mem_iff_getElem.1 hx
    rw [List.length_drop] at hj
    have h3 := ha (K + j) _ (by omega) (List.getElem?_eq_getElem (show K + j < l.length by omega))
    rw [List.getElem_drop]
    have h4 : g ≠ l[K + j] := fun e => hn (e ▸ List.getElem_mem _)
    omega
  rw [List.append_assoc, List.pairwise_append]
  refine ⟨hl.sublist (List.take_sublist _ _), ?_, ?_⟩
  · rw [List.singleton_append, List.pairwise_cons]
    exact ⟨h2, hl.sublist (List.drop_sublist _ _)⟩
  · intro x hx y hy
    rw [List.singleton_append, List.mem_cons] at hy
    have h3 := h1 x hx
    rcases hy with rfl | hy
    · exact h3
    · have := h2 y hy
      omega
theorem ins_mem {l : List Int} {g x : Int} {K : Nat} : x ∈ l.take K ++ [g] ++ l.drop K ↔ x = g ∨ x ∈ l := by
  have h : x ∈ l ↔ x ∈ l.take K ∨ x ∈ l.drop K := by rw [← List.mem_append, List.take_append_drop]
  rw [h, List.mem_append, List.mem_append, List.mem_singleton]
  constructor
  · rintro ((a | a) | a)
    · exact .inr (.inl a)
    · exact .inl a
    · exact .inr (.inr a)
  · rintro (a | a | a)
    · exact .inl (.inr a)
    · exact .inl (.inl a)
    · exact .inr a
theorem ins_len {l : List Int} {g : Int} {K : Nat} (hK : K ≤ l.length) : (l.take K ++ [g] ++ l.drop K).length = l.length + 1 := by
  simp only [List.length_append, List.length_take, List.length_drop, List.length_singleton]
  omega
/-- The document's plus puts it where it is searched. -/
theorem plus_ins {l : List Int} {g : Int} {K : Nat} (hl : riseB l = true) (hg : grpB l = true) (h1 : 1 ≤ g) (h2 : g ≤ 16) (hn : g ∉ l) (hS : Spot l g K) : l.take K ++ [g] ++ l.drop K = plusL l g 16 := by
  unfold riseB at hl
  refine ris_eq (ins_ris (of_decide_eq_true hl) hS hn) ((nums_ris 16).sublist List.filter_sublist) fun x => ?_
  unfold plusL
  rw [ins_mem, List.mem_filter, nums_mem]
  unfold plusP
  rw [Bool.or_eq_true, decide_eq_true_eq, decide_eq_true_eq]
  constructor
  · intro h
    refine ⟨?_, h⟩
    rcases h with rfl | h
    · exact ⟨h1, h2⟩
    · unfold grpB at hg
      have := List.all_eq_true.1 hg x h
      simpa using this
  · exact fun h => h.2
end Go.Proofs.Ytglbjimpaoikfaa

