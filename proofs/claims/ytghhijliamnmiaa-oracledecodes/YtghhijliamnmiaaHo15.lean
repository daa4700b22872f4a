import Derived.Test.YtghhijliamnmiaaProg
import Derived.Test.YtghhijliamnmiaaHo14
import Derived.WalkKit
import Derived.ArgAppend
import Derived.Below
import Derived.Laws.AppendOwnNone
/- Byte slices by their contents: what one holds, that it holds it as long as old memory stays as it was, and what append makes of it where nothing of the caller's can be written. -/
namespace Go.Proofs.Ytghhijliamnmiaa.Wi
open Go.RowKit WireMath
set_option maxRecDepth 100000

/-- Bytes as cells. -/
def bc (l : List Nat) : List Value := l.map fun (c : Nat) => .int .u8 (c : Int)
theorem bc_length (l : List Nat) : (bc l).length = l.length := by simp [bc]
theorem bc_append (l r : List Nat) : bc (l ++ r) = bc l ++ bc r := by simp [bc]
theorem bc_get {l : List Nat} {j : Nat} {u : Value} (h : (bc l)[j]? = some u) : ∃ c, l[j]? = some c ∧ u = .int .u8 (c : Int) := by
  simp only [bc, List.getElem?_map, Option.map_eq_some_iff] at h
  obtain ⟨c, h1, h2⟩ := h
  exact ⟨c, h1, h2.symm⟩
theorem bc_one {l : List Nat} : ∀ u ∈ bc l, u.oneCell' = true := by
  intro u hu
  simp only [bc, List.mem_map] at hu
  obtain ⟨c, _, rfl⟩ := hu
  rfl

/-- A slice that holds these bytes, its row below block n₀ (where it has bytes at all). -/
def Bs (n₀ : Nat) (w : World) (v : Value) (l : List Nat) : Prop :=
  ∃ ao cap, v = .slice ao l.length cap ∧ l.length ≤ cap ∧ cap ≤ maxLen ∧ (ao = none → cap = 0) ∧
    (l ≠ [] → ∃ b off, ao = some ⟨b, off, none⟩ ∧ b < n₀ ∧ ∀ (j c : Nat), l[j]? = some c → w.cell? ⟨b, off + j, none⟩ = some (.int .u8 (c : Int)))

theorem Bs.below {n₀ : Nat} {w w' : World} {v : Value} {l : List Nat} (h : Bs n₀ w v l) (hb : Below n₀ w w') : Bs n₀ w' v l := by
  obtain ⟨ao, cap, h1, h2, h3, h4, h5⟩ := h
  exact ⟨ao, cap, h1, h2, h3, h4, fun hne => by
    obtain ⟨b, off, e1, e2, e3⟩ := h5 hne
    exact ⟨b, off, e1, e2, fun j c hj => (hb.cell (p := ⟨b, off + j, none⟩) e2).trans (e3 j c hj)⟩⟩
theorem Bs.mono {n₀ n₁ : Nat} {w : World} {v : Value} {l : List Nat} (h : Bs n₀ w v l) (hn : n₀ ≤ n₁) : Bs n₁ w v l := by
  obtain ⟨ao, cap, h1, h2, h3, h4, h5⟩ := h
  exact ⟨ao, cap, h1, h2, h3, h4, fun hne => by
    obtain ⟨b, off, e1, e2, e3⟩ := h5 hne
    exact ⟨b, off, e1, Nat.lt_of_lt_of_le e2 hn, e3⟩⟩
theorem Bs.nil (n₀ : Nat) (w : World) : Bs n₀ w (.slice none 0 0) [] := ⟨none, 0, rfl, Nat.le_refl _, Nat.zero_le _, fun _ => rfl, fun h => absurd rfl h⟩

/-- A row of one's own, made from block n₀ on. -/
def Own (n₀ : Nat) (w : World) (v : Value) (l : List Nat) : Prop := w.ownsRow n₀ 5 1 v l.length (bc l)

theorem cells_of_block {w : World} {b : Nat} {cs : Array Value} {t : TypeId} (h : w.heap[b]? = some (.cells cs t (0, 0))) (i : Nat) : w.cell? ⟨b, i, none⟩ = cs[i]? := by
  simp [World.cell?, h]

theorem Own.bs {n₀ : Nat} {w : World} {v : Value} {l : List Nat} (h : Own n₀ w v l) : Bs w.heap.size w v l := by
  obtain ⟨_, ⟨rfl, h0⟩ | ⟨g, cap, cur, rfl, hg, hb, hl, hm, hs, ht⟩⟩ := h
  · obtain rfl := List.eq_nil_of_length_eq_zero h0
    exact Bs.nil _ _
  · refine ⟨some ⟨g, 0, none⟩, cap, rfl, hl, hm, (fun h => by cases h), fun hne => ⟨g, 0, rfl, (Array.getElem?_eq_some_iff.1 hb).1, fun j c hj => ?_⟩⟩
    rw [cells_of_block hb, Nat.zero_add]
    have h1 : (bc l)[j]? = some (.int .u8 (c : Int)) := by simp [bc, hj]
    rw [← ht, List.getElem?_take] at h1
    split at h1
    · simpa using h1
    · cases h1
theorem Own.below {n₀ : Nat} {w w' : World} {v : Value} {l : List Nat} (h : Own n₀ w v l) (hb : Below w.heap.size w w') : Own n₀ w' v l := by
  obtain ⟨h0, h1 | ⟨g, cap, cur, e1, hg, hbk, r⟩⟩ := h
  · exact ⟨h0, .inl h1⟩
  · exact ⟨h0, .inr ⟨g, cap, cur, e1, hg, (hb.block g (Array.getElem?_eq_some_iff.1 hbk).1).trans hbk, r⟩⟩
theorem Own.mono {n₀ n₁ : Nat} {w : World} {v : Value} {l : List Nat} (h : Own n₀ w v l) (hn : n₁ ≤ n₀) : Own n₁ w v l :=
  ⟨h.1, h.2.imp id fun ⟨g, cap, cur, h1, h2, h3⟩ => ⟨g, cap, cur, h1, Nat.le_trans hn h2, h3⟩⟩
theorem Own.nil (n₀ : Nat) (w : World) : Own n₀ w (.slice none 0 0) [] := World.ownsRow_nil w n₀ _ 1
theorem Own.shape {n₀ : Nat} {w : World} {v : Value} {l : List Nat} (h : Own n₀ w v l) : ∃ ao cap, v = .slice ao l.length cap := by
  obtain ⟨ao, cap, h1, _⟩ := h.bs
  exact ⟨ao, cap, h1⟩

/-- A slice to whose end append lays all anew: it is full, or it is one's own. -/
def Gr (n₀ : Nat) (w : World) (v : Value) (l : List Nat) : Prop :=
  (∃ ao, v = .slice ao l.length l.length ∧ (ao = none → l = []) ∧ ∀ p, ao = some p → ∀ j u, (bc l)[j]? = some u → w.cell? (p.add j) = some u) ∨ Own n₀ w v l

theorem Gr.below {n₀ : Nat} {w w' : World} {v : Value} {l : List Nat} (h : Gr n₀ w v l) (hb : Below w.heap.size w w') : Gr n₀ w' v l := by
  rcases h with ⟨ao, h1, h2, h3⟩ | h
  · refine .inl ⟨ao, h1, h2, fun p hp j u hj => ?_⟩
    have h4 := h3 p hp j u hj
    exact (hb.cell (World.block_lt_of_cell? w _ h4)).trans h4
  · exact .inr (h.below hb)
theorem Gr.shape {n₀ : Nat} {w : World} {v : Value} {l : List Nat} (h : Gr n₀ w v l) : ∃ ao cap, v = .slice ao l.length cap := by
  rcases h with ⟨ao, h1, _⟩ | h
  · exact ⟨ao, _, h1⟩
  · exact h.shape
theorem Bs.full {n₀ n₁ : Nat} {w : World} {l : List Nat} {ao : Option Addr} {cap : Nat} (h : Bs n₀ w (.slice ao l.length cap) l) : Gr n₁ w (.slice ao l.length l.length) l := by
  obtain ⟨ao', cap', h1, h2, h3, h4, h5⟩ := h
  cases h1
  refine .inl ⟨ao, rfl, fun e => ?_, fun p hp j u hj => ?_⟩
  · have := h4 e
    exact List.eq_nil_of_length_eq_zero (by omega)
  · obtain ⟨c, hc, rfl⟩ := bc_get hj
    have hne : l ≠ [] := by rintro rfl; simp at hc
    obtain ⟨b, off, e1, _, e3⟩ := h5 hne
    obtain rfl := Option.some.inj (hp.symm.trans e1)
    rw [Addr.add_lit]
    exact e3 j c hc

theorem infoByte : (Try.prog.info? 5).map (fun i => (i.zero, i.size, i.bytes)) = some (some (.int .u8 0), 1, 1) := by kernel_rfl

theorem wpList_append_gr {w : World} {ops : Array Oper} {rest : List Oper} {o : Oper} {a : Act} {Q : Exit → Act → World → Prop} (hgd : o.guard = none) (s x : Operand)
    (ho : o.op = .call { callee := .builtin .append, args := #[s, x], argTypes := #[37, 37] })
    (n₀ : Nat) (v : Value) (l : List Nat) (hs : a.eval s = v) (hG : Gr n₀ w v l) (hn₀ : n₀ ≤ w.heap.size)
    (ad : Addr) (c : Nat) (r : List Nat) (hx : a.eval x = .slice (some ad) r.length c) (hr : r ≠ []) (hnews : ∀ j u, (bc r)[j]? = some u → w.cell? (ad.add j) = some u)
    (hlen : l.length + r.length ≤ 140737488355328)
    (h : ∀ v' w', Own n₀ w' v' (l ++ r) → Below n₀ w w' → wpList Try.prog ops Q rest (a.put o.dst v') w') : wpList Try.prog ops Q (o :: rest) a w := by
  obtain ⟨i0, hi, hz0, hz1, hz2⟩ := info_parts infoByte
  have hpos : 0 < r.length := List.length_pos_iff.2 hr
  have hmax : l.length + r.length ≤ maxLen := by unfold maxLen; omega
  rcases hG with ⟨ao, rfl, h2, h3⟩ | hown
  · refine wpList_append_grows w hgd s x 37 ho 5 i0 (.int .u8 0) 1 1 Try.underlying37 hi hz0 hz1 hz2 rfl (by decide) ao l.length l.length (bc l) hs
      (fun e => by rw [h2 e]; exact ⟨rfl, rfl⟩) (by rw [bc_length]; omega) h3 ad r.length c (bc r) hx (by rw [bc_length]; omega) hnews bc_one (by omega) hmax (by omega) ?_
    intro v' w' hown' hg
    refine h v' w' ?_ ((Below.refl n₀ w).grown hg hn₀ (fun k hk => by cases hk))
    have : w'.ownsRow n₀ _ 1 v' _ _ := ⟨hown'.1, hown'.2.imp id fun ⟨g, cap, cur, h1, h2, h3⟩ => ⟨g, cap, cur, h1, Nat.le_trans hn₀ h2, h3⟩⟩
    show w'.ownsRow n₀ _ 1 v' (l ++ r).length (bc (l ++ r))
    rw [bc_append, List.length_append]
    exact this
  · refine wpList_append_own w hgd s x 37 ho n₀ 5 i0 (.int .u8 0) 1 1 Try.underlying37 hi hz0 hz1 hz2 rfl (by decide) v l.length (bc l) hs hown
      ad r.length c (bc r) hx (by rw [bc_length]; omega) hnews bc_one hmax (by omega) hn₀ ?_
    intro v' w' hown' hg _
    refine h v' w' ?_ ((Below.refl n₀ w).grown hg hn₀ (fun k hk => (World.ownsRow.lt hown k hk).1))
    show w'.ownsRow n₀ _ 1 v' (l ++ r).length (bc (l ++ r))
    rw [bc_append, List.length_append]
    exact hown'

/-- append of a whole slice behind one's own. -/
theorem wpList_append_bs {w : World} {ops : Array Oper} {rest : List Oper} {o : Oper} {a : Act} {Q : Exit → Act → World → Prop} (hgd : o.guard = none) (s x : Operand)
    (ho : o.op = .call { callee := .builtin .append, args := #[s, x], argTypes := #[37, 37] })
    (n₀ : Nat) (v : Value) (l : List Nat) (hs : a.eval s = v) (hown : Own n₀ w v l) (hn₀ : n₀ ≤ w.heap.size)
    (n₁ : Nat) (xv : Value) (r : List Nat) (hx : a.eval x = xv) (hB : Bs n₁ w xv r)
    (hlen : l.length + r.length ≤ 140737488355328)
    (h : ∀ v' w', Own n₀ w' v' (l ++ r) → Below n₀ w w' → wpList Try.prog ops Q rest (a.put o.dst v') w') : wpList Try.prog ops Q (o :: rest) a w := by
  obtain ⟨i0, hi, hz0, hz1, hz2⟩ := info_parts infoByte
  have hmax : l.length + r.length ≤ maxLen := by unfold maxLen; omega
  obtain ⟨ao, cap, rfl, h2, h3, h4, h5⟩ := hB
  cases ao with
  | none =>
    have h0 := h4 rfl
    subst h0
    obtain rfl : r = [] := List.eq_nil_of_length_eq_zero (by omega)
    refine wpList_append_own_none hgd s x 37 ho n₀ 5 i0 1 Try.underlying37 hi v l.length (bc l) hs hown hx ?_
    have := h v w (by rw [List.append_nil]; exact hown) (Below.refl _ _)
    exact this
  | some ad =>
    refine wpList_append_own w hgd s x 37 ho n₀ 5 i0 (.int .u8 0) 1 1 Try.underlying37 hi hz0 hz1 hz2 rfl (by decide) v l.length (bc l) hs hown
      ad r.length cap (bc r) hx (by rw [bc_length]; omega) (fun j u hj => ?_) bc_one hmax (by omega) hn₀ ?_
    · obtain ⟨c, hc, rfl⟩ := bc_get hj
      have hne : r ≠ [] := by rintro rfl; simp at hc
      obtain ⟨b, off, e1, _, e3⟩ := h5 hne
      obtain rfl := Option.some.inj e1
      rw [Addr.add_lit]
      exact e3 j c hc
    · intro v' w' hown' hg _
      refine h v' w' ?_ ((Below.refl n₀ w).grown hg hn₀ (fun k hk => (World.ownsRow.lt hown k hk).1))
      show w'.ownsRow n₀ _ 1 v' (l ++ r).length (bc (l ++ r))
      rw [bc_append, List.length_append]
      exact hown'

theorem Bs.grown {n₀ : Nat} {w w' : World} {v : Value} {l : List Nat} {row : Option Nat} (h : Bs n₀ w v l) (hg : w.grownBy w' row) (hr : ∀ k, v.ownBlock = some k → row ≠ some k) : Bs n₀ w' v l := by
  obtain ⟨ao, cap, rfl, h2, h3, h4, h5⟩ := h
  exact ⟨ao, cap, rfl, h2, h3, h4, fun hne => by
    obtain ⟨b, off, e1, e2, e3⟩ := h5 hne
    subst e1
    refine ⟨b, off, rfl, e2, fun j c hj => hg.cell (a := ⟨b, off + j, none⟩) (e3 j c hj) (fun e => hr b rfl e.symm)⟩⟩

/-- The same as an equation on the run: and that the row is the old one, or new. -/
theorem run_append_bs (w : World) (ty : TypeId) (n₀ : Nat) (v : Value) (l : List Nat) (hown : Own n₀ w v l) (hn₀ : n₀ ≤ w.heap.size)
    (n₁ : Nat) (xv : Value) (r : List Nat) (hB : Bs n₁ w xv r) (hlen : l.length + r.length ≤ 140737488355328) :
    ∃ v' w', (Builtin.append_ #[37, 37] ty #[v, xv]).run Try.prog w = .ok v' w' ∧ Own n₀ w' v' (l ++ r) ∧ Below n₀ w w' ∧ w.grownBy w' v.ownBlock ∧ ∀ k, v'.ownBlock = some k → v.ownBlock = some k ∨ w.heap.size ≤ k := by
  obtain ⟨i0, hi, hz0, hz1, hz2⟩ := info_parts infoByte
  have hmax : l.length + r.length ≤ maxLen := by unfold maxLen; omega
  obtain ⟨ao, cap, rfl, h2, h3, h4, h5⟩ := hB
  cases ao with
  | none =>
    have h0 := h4 rfl
    subst h0
    obtain rfl : r = [] := List.eq_nil_of_length_eq_zero (by omega)
    exact ⟨v, w, run_append_owned_none (P := Try.prog) (w := w) n₀ 37 ty 5 i0 1 Try.underlying37 hi v l.length (bc l) hown, by rw [List.append_nil]; exact hown, Below.refl _ _, ⟨rfl, rfl, rfl, Nat.le_refl _, fun _ _ _ => rfl⟩, fun k hk => .inl hk⟩
  | some ad =>
    have hnews : ∀ j u, (bc r)[j]? = some u → w.cell? (ad.add j) = some u := fun j u hj => by
      obtain ⟨c, hc, rfl⟩ := bc_get hj
      have hne : r ≠ [] := by rintro rfl; simp at hc
      obtain ⟨b, off, e1, _, e3⟩ := h5 hne
      obtain rfl := Option.some.inj e1
      rw [Addr.add_lit]
      exact e3 j c hc
    obtain ⟨v', w', hrun, hown', hg, _⟩ := run_append_own (P := Try.prog) w n₀ 37 ty 5 i0 (.int .u8 0) 1 1 Try.underlying37 hi hz0 hz1 hz2 rfl (by decide) v l.length (bc l) hown
      ad r.length cap (bc r) (by rw [bc_length]; omega) hnews bc_one hmax (by omega) hn₀
    refine ⟨v', w', hrun, ?_, (Below.refl n₀ w).grown hg hn₀ (fun k hk => (World.ownsRow.lt hown k hk).1), hg, ?_⟩
    · show w'.ownsRow n₀ _ 1 v' (l ++ r).length (bc (l ++ r))
      rw [bc_append, List.length_append]
      exact hown'
    · intro k hk
      obtain ⟨_, ⟨rfl, h0⟩ | ⟨g, cp, cur, rfl, hgg, hbk, hle, hcm, hcs, htk⟩⟩ := hown
      · obtain ⟨v2, w2, hrun2, hown2, _⟩ := run_append_own (P := Try.prog) w w.heap.size 37 ty 5 i0 (.int .u8 0) 1 1 Try.underlying37 hi hz0 hz1 hz2 rfl (by decide) (.slice none 0 0) 0 [] (World.ownsRow_nil w _ _ 1)
          ad r.length cap (bc r) (by rw [bc_length]; omega) hnews bc_one (by omega) (by omega) (Nat.le_refl _)
        cases hrun.symm.trans hrun2
        exact .inr (World.ownsRow.lt hown2 k hk).1
      · by_cases hroom : l.length + r.length ≤ cp
        · have hrun2 := run_append_room_cells (P := Try.prog) w 37 ty 5 i0 Try.underlying37 hi g 0 l.length cp ad r.length cap (bc r) (by rw [bc_length, hz1]; omega) hnews bc_one hroom
            (fun j hj => by
              rw [bc_length] at hj
              rw [hz1, cells_of_block hbk, Array.getElem?_eq_getElem (by omega)]; rfl)
            (fun j _ => by simp [World.frozen?, hbk])
          cases hrun.symm.trans hrun2
          exact .inl hk
        · obtain ⟨v2, w2, hrun2, hown2, _⟩ := run_append_arg_grows (P := Try.prog) w 37 ty 5 i0 (.int .u8 0) 1 1 Try.underlying37 hi hz0 hz1 hz2 rfl (by decide) ⟨g, 0, none⟩ l.length cp (bc l) (by rw [bc_length]; omega)
            (fun j u hj => by
              rw [Addr.add_lit, cells_of_block hbk, Nat.zero_add]
              rw [← htk, List.getElem?_take] at hj
              split at hj
              · simpa using hj
              · cases hj)
            ad r.length cap (bc r) (by rw [bc_length]; omega) hnews (by omega) hmax (by omega)
          cases hrun.symm.trans hrun2
          exact .inr (World.ownsRow.lt hown2 k hk).1

end Go.Proofs.Ytghhijliamnmiaa.Wi

