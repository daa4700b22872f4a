/- Numbers, copied into a row of one's own. -/
import Derived.Test.YtcnljocgpoaepaaCrash
namespace Go.Proofs.Ytcnljocgpoaepaa
open Go.RowKit DiskMath
set_option maxRecDepth 100000
set_option linter.unusedSimpArgs false

theorem infoInt : (Try.prog.info? 3).map (fun i => (i.zero, i.size, i.bytes)) = some (some (.int .i64 0), 1, 8) := by kernel_rfl
/-- Numbers as cells. -/
def nc (l : List Int) : List Value := l.map fun (c : Int) => .int .i64 c

/-- A slice of numbers, in blocks from n on. -/
def Nn (n : Nat) (w : World) (v : Value) (l : List Int) : Prop :=
  ∃ ao cap, v = .slice ao l.length cap ∧ (ao = none → cap = 0) ∧ ∀ (i : Nat) (c : Int), l[i]? = some c → ∃ b off, ao = some ⟨b, off, none⟩ ∧ w.cell? ⟨b, off + i, none⟩ = some (.int .i64 c) ∧ n ≤ b
/-- append of numbers to a new, empty row. -/
theorem wp_copy_ints {w : World} {ops : Array Oper} {rest : List Oper} {o : Oper} {a : Act} {Q : Exit → Act → World → Prop} (hgd : o.guard = none) (s x : Operand)
    (ho : o.op = .call { callee := .builtin .append, args := #[s, x], argTypes := #[34, 34] })
    (xv : Value) (l : List Int) (hs : a.eval s = .slice (some ⟨w.heap.size, 0, none⟩) 0 0) (hx : a.eval x = xv) (hN : Nv w xv l) (hlen : l.length * 8 ≤ 140737488355328)
    (h : ∀ v' w', Nn w.heap.size w' v' l → Below w.heap.size w w' → wpList Try.prog ops Q rest (a.put o.dst v') w') : wpList Try.prog ops Q (o :: rest) a (w.alloc (.cells #[] 3)) := by
  obtain ⟨i0, hi, hz0, hz1, hz2⟩ := info_parts infoInt
  have hb := (Below.refl w.heap.size w).alloc (Nat.le_refl _) (.cells #[] 3)
  have hown := World.ownsRow_made (e := 3) (size := 1) w #[] 0 (Nat.le_refl _) (Nat.zero_le _) rfl
  have hN1 := hN.below hb
  obtain ⟨ao, cap, rfl, h0, h2⟩ := hN1
  cases ao with
  | none =>
    obtain rfl := h0 rfl
    obtain rfl : l = [] := by
      cases l with
      | nil => rfl
      | cons c l =>
        obtain ⟨b, off, e, _⟩ := h2 0 c rfl
        cases e
    refine wpList_append_own_none hgd s x 34 ho w.heap.size 3 i0 1 Try.underlying34 hi _ 0 _ hs hown hx ?_
    exact h _ _ ⟨_, _, rfl, (fun h => by cases h), fun i c hc => by simp at hc⟩ hb
  | some ad =>
    refine wpList_append_own2 hgd s x 34 3 ho w.heap.size i0 (.int .i64 0) 1 8 Try.underlying34 hi hz0 hz1 hz2 rfl (by decide) _ 0 _ hs hown ad l.length cap (nc l) hx (by simp [nc]) ?_ ?_ (by unfold maxLen; omega) (by omega) (by simp) ?_
    · intro j u hj
      simp only [nc, List.getElem?_map, Option.map_eq_some_iff] at hj
      obtain ⟨c, hc, rfl⟩ := hj
      obtain ⟨b, off, e, e2⟩ := h2 j c hc
      cases e
      rw [Addr.add_lit]
      exact e2
    · intro u hu
      simp only [nc, List.mem_map] at hu
      obtain ⟨c, _, rfl⟩ := hu
      rfl
    · intro v' w' hown' hg _
      refine h v' w' ?_ (hb.trans ((Below.refl _ _).grown hg (by simp) (fun k hk => (World.ownsRow.lt hown k hk).1)))
      obtain ⟨_, ⟨r1, r2⟩ | ⟨g, cp, cur, r1, hgg, hbk, hle, _, _, ht⟩⟩ := hown'
      · obtain rfl : l = [] := List.eq_nil_of_length_eq_zero (by omega)
        exact ⟨none, 0, r1, fun _ => rfl, fun i c hc => by simp at hc⟩
      · refine ⟨some ⟨g, 0, none⟩, cp, by rw [r1, Nat.zero_add], (fun h => by cases h), fun i c hc => ⟨g, 0, rfl, ?_, hgg⟩⟩
        have hj : (nc l)[i]? = some (.int .i64 c) := by simp [nc, hc]
        rw [cells_of_block hbk, Nat.zero_add]
        have ht' : (cur.toList.take ((0 + l.length) * 1)) = nc l := by simpa using ht
        rw [← ht', List.getElem?_take] at hj
        split at hj
        · simpa using hj
        · cases hj
end Go.Proofs.Ytcnljocgpoaepaa
