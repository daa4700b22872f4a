/- The contract of the law's own written, of bytes and of all items. -/
import Derived.Test.YtjimippblgddbaaWr
import Derived.Deep.RegionLaw
namespace Go.Proofs.Ytjimippblgddbaa
open Go.RowKit WireMath
set_option maxRecDepth 100000
set_option linter.unusedSimpArgs false

/-- append of a whole slice behind one's own, as one step of a region that draws its order. -/
theorem step_append_bs {ops : Array Oper} {o : Oper} {a : Act} {w : World} {K : Act → World → Prop} {Q : Exit → Act → World → Prop} {E : Prop}
    (hg : o.guard = none) (s x : Operand) (ho : o.op = .call { callee := .builtin .append, args := #[s, x], argTypes := #[22, 22] })
    (n₀ : Nat) (v : Value) (l : List Nat) (hs : a.eval s = v) (hown : Own n₀ w v l) (hn₀ : n₀ ≤ w.heap.size)
    (n₁ : Nat) (xv : Value) (r : List Nat) (hx : a.eval x = xv) (hB : Bs n₁ w xv r) (hlen : l.length + r.length ≤ 140737488355328)
    (hK : ∀ v' w', Own n₀ w' v' (l ++ r) → Below n₀ w w' → K (a.put o.dst v') w') :
    if Region.wanted o (yielded ops a.tmps) = true then Oper.wp Try.prog o a w K Q else E := by
  have hw : Region.wanted o (yielded ops a.tmps) = true := by simp [Region.wanted, hg]
  rw [if_pos hw]
  obtain ⟨v', w', hrun, r1, r2, _, _⟩ := run_append_bs w o.type n₀ v l hown hn₀ n₁ xv r hB hlen
  unfold Oper.wp
  simp [execOp, ho, resolve, invoke, builtin, hs, hx, hrun, Result.andThen]
  exact hK v' w' r1 r2

set_option maxHeartbeats 2000000 in
theorem written_6 (l s : List Nat) (v : Value) (n : Nat) (sv : Value) (m : Int) (w : World) (hB : Bs w.heap.size w v l) (hS : Bs w.heap.size w sv s) (hlen : l.length + s.length ≤ 140737488355000) :
    Calls Try.prog 8 #[v, .agg #[.int .i64 6, .int .u64 (n : Int), sv, .int .i64 m]] w (Wrote w v l (uv s.length ++ s)) := by
  have b0 : Below w.heap.size w (w.alloc (.cells #[.int .i64 6, .int .u64 (n : Int), sv, .int .i64 m] 28)).drew := ((Below.refl _ w).alloc (Nat.le_refl _) _).drew
  have hS0 := hS.below b0
  have hl0 : ([] : List Nat).length + s.length ≤ 140737488355328 := by simp; omega
  have hU : ∀ w1 v1, Bs w1.heap.size w1 v1 s → Below (w.alloc (.cells #[.int .i64 6, .int .u64 (n : Int), sv, .int .i64 m] 28)).drew.heap.size (w.alloc (.cells #[.int .i64 6, .int .u64 (n : Int), sv, .int .i64 m] 28)).drew w1 → Calls Try.prog 30 #[v, v1] w1 fun e w2 => ∃ v2, e = .returned v2 ∧ (∀ k, v2.ownBlock = some k → w.heap.size ≤ k ∧ k < w2.heap.size) ∧ Bs w2.heap.size w2 v2 (l ++ (uv s.length ++ s)) ∧ w2.cell? ⟨w.heap.size, 2, none⟩ = some sv ∧ Below w.heap.size w w2 := fun w1 v1 h1 hb =>
    (bytes_of w.heap.size w1.heap.size l s v v1 w1 (hB.below (box_below hb)) h1 (Nat.le_refl _) hlen).mono fun e w2 ⟨v2, he, hO, hb2⟩ => ⟨v2, he, fun k hk => ⟨Nat.le_trans (box_below hb).size (World.ownsRow.lt hO k hk).1, (World.ownsRow.lt hO k hk).2⟩, by rw [← List.append_assoc]; exact hO.bs, box_cell (hb.trans (hb2.mono hb.size)) 2, box_below (hb.trans (hb2.mono hb.size))⟩
  have hR : ∀ W, Below w.heap.size w W → Calls Try.prog 31 #[sv] W fun e w1 => ∃ v1, e = .returned v1 ∧ Bs w1.heap.size w1 v1 (uv s.length ++ s) ∧ Below W.heap.size W w1 :=
    fun W hb => (refBytes_of w.heap.size s sv W (hS.below hb) hb.size (by omega)).mono fun e w1 ⟨v1, he, hO, hb⟩ => ⟨v1, he, hO.bs, hb⟩
  go_enter Try.func8, Try.ntmps8
  go_wp2
  go_region_law (first
    | (refine step_append_bs rfl _ _ rfl (w.alloc (.cells #[.int .i64 6, .int .u64 (n : Int), sv, .int .i64 m] 28)).drew.heap.size (.slice none 0 0) [] (by simp [Act.eval, Act.put]) (Own.nil _ _) (Nat.le_refl _) w.heap.size sv s (by simp [Act.eval, Act.put]) hS0 hl0 ?_; intro v1 w1 hO1 hb1; have hc1 : w1.cell? ⟨w.heap.size, 2, none⟩ = some sv := box_cell hb1 2)
    | (go_simp; go_wp2_with (first | (go_at_call 30; refine (hU _ _ hO1.bs hb1).mono ?_; rintro e w2 ⟨v2, rfl, hF2, hB2, hc2, hb2⟩) | (go_at_call 31; refine (hR _ hb2).mono ?_; rintro e w3 ⟨v3, rfl, hB3, hb3⟩))))
  all_goals go_wp2
  all_goals go_ret2
  all_goals exact ⟨_, _, rfl, fun k hk => .inl ⟨(hF2 k hk).1, Nat.lt_of_lt_of_le (hF2 k hk).2 hb3.size⟩, (hB2.below hb3).mono hb3.size, hB3, hb2.trans (hb3.mono hb2.size)⟩

set_option maxHeartbeats 1000000 in
theorem written_else (d : Int) (l : List Nat) (v : Value) (n : Nat) (sv : Value) (m : Int) (w : World) (hB : Bs w.heap.size w v l) (h0 : d ≠ 0) (h1 : d ≠ 1) (h2 : d ≠ 2) (h3 : d ≠ 3) (h6 : d ≠ 6) :
    Calls Try.prog 8 #[v, .agg #[.int .i64 d, .int .u64 (n : Int), sv, .int .i64 m]] w (Wrote w v l []) := by
  go_enter Try.func8, Try.ntmps8
  go_wp2
  go_ret2
  have hb := (Below.refl _ w).alloc (Nat.le_refl _) (.cells #[.int .i64 d, .int .u64 (n : Int), sv, .int .i64 m] 28)
  refine ⟨_, _, rfl, fun k hk => .inr hk, ?_, Bs.nil _ _, hb⟩
  rw [List.append_nil]
  exact (hB.below hb).mono hb.size

theorem written_of (d : Int) (l s : List Nat) (v : Value) (n : Nat) (sv : Value) (m : Int) (w : World) (hB : Bs w.heap.size w v l) (hS : Bs w.heap.size w sv s) (hn : n < 18446744073709551616) (hlen : l.length + s.length ≤ 140737488355000) :
    Calls Try.prog 8 #[v, .agg #[.int .i64 d, .int .u64 (n : Int), sv, .int .i64 m]] w (Wrote w v l (itB d n s)) := by
  unfold itB
  by_cases h0 : d = 0
  · subst h0; rw [if_pos rfl]; exact written_0 l v n sv m w hB hn (by omega)
  rw [if_neg h0]
  by_cases h1 : d = 1
  · subst h1; rw [if_pos rfl]; exact written_1 l v n sv m w hB hn (by omega)
  rw [if_neg h1]
  by_cases h2 : d = 2
  · subst h2; rw [if_pos rfl]; exact written_2 l v n sv m w hB hn (by omega)
  rw [if_neg h2]
  by_cases h3 : d = 3
  · subst h3; rw [if_pos rfl]; exact written_3 l v n sv m w hB hn (by omega)
  rw [if_neg h3]
  by_cases h6 : d = 6
  · subst h6; rw [if_pos rfl]; exact written_6 l s v n sv m w hB hS hlen
  rw [if_neg h6]
  exact written_else d l v n sv m w hB h0 h1 h2 h3 h6
end Go.Proofs.Ytjimippblgddbaa
