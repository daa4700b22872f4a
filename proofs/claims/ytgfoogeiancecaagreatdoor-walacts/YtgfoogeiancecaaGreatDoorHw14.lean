import Derived.Test.YtgfoogeiancecaaGreatDoorProg
import Derived.WalkKit
import Derived.ArgAppend
import Derived.Below
import Derived.Laws.AppendOwnNone
import Derived.OwnWalk
import Derived.Deep.LoopGhost
import Derived.Deep.QuietTactic
import Derived.Deep.RegionHeld3
import Derived.WalkSmall
import Derived.BigQuiet
import Derived.Lib.SlBytesConst
import Derived.Lib.SliceRun
import Derived.Laws.IdiomStrings
/- Byte slices by their contents: what one holds, that it holds it as long as old memory stays as it was, and what append makes of it where nothing of the caller's can be written. -/
namespace Go.Proofs.YtgfoogeiancecaaGreatDoor
open Go.RowKit
set_option maxRecDepth 100000

/-- Bytes as cells. -/
def bc (l : List Nat) : List Value := l.map fun (c : Nat) => .int .u8 (c : Int)
theorem bc_length (l : List Nat) : (bc l).length = l.length := by simp [bc]
theorem bc_append (l r : List Nat) : bc (l ++ r) = bc l ++ bc r := by simp [bc]
theorem bc_get {l : List Nat} {j : Nat} {u : Value} (h : (bc l)[j]? = some u) : ∃ c, l[j]? = some c ∧ u = .int .u8 (c : Int) := by
  simp only [bc, List.getElem?_map, Option.map_eq_some_iff] at h
  obtain ⟨c, h1, h2⟩ := h
  exact ⟨c, h1, h2.symm⟩
theorem bc_one {l : List Nat} : ∀ u ∈ bc l, u.oneCell' = true := by
  intro u hu
  simp only [bc, List.mem_map] at hu
  obtain ⟨c, _, rfl⟩ := hu
  rfl

/-- The blocks in which slices may lie: all from some block on, and what else is kept. -/
structure KeepS where
  ok : Nat → Prop
  base : Nat
  new : ∀ b, base ≤ b → ok b
abbrev Keep := Inhabited KeepS
@[reducible] def kOk [k : Keep] (b : Nat) : Prop := k.default.ok b
@[reducible] def kBase [k : Keep] : Nat := k.default.base
theorem kNew [k : Keep] (b : Nat) (h : kBase ≤ b) : kOk b := k.default.new b h
/-- All blocks. -/
@[reducible] def keepAll : Keep := ⟨⟨fun _ => True, 0, fun _ _ => trivial⟩⟩
def In [Keep] (n₀ b : Nat) : Prop := b < n₀ ∧ kOk b

/-- A slice that holds these bytes, its row below block n₀ (where it has bytes at all). -/
def Bs [Keep] (n₀ : Nat) (w : World) (v : Value) (l : List Nat) : Prop :=
  ∃ ao cap, v = .slice ao l.length cap ∧ l.length ≤ cap ∧ cap ≤ maxLen ∧ (ao = none → cap = 0) ∧
    (l ≠ [] → ∃ b off, ao = some ⟨b, off, none⟩ ∧ In n₀ b ∧ ∀ (j c : Nat), l[j]? = some c → w.cell? ⟨b, off + j, none⟩ = some (.int .u8 (c : Int)))

theorem Bs.below [Keep] {n₀ : Nat} {w w' : World} {v : Value} {l : List Nat} (h : Bs n₀ w v l) (hb : Below n₀ w w') : Bs n₀ w' v l := by
  obtain ⟨ao, cap, h1, h2, h3, h4, h5⟩ := h
  exact ⟨ao, cap, h1, h2, h3, h4, fun hne => by
    obtain ⟨b, off, e1, e2, e3⟩ := h5 hne
    exact ⟨b, off, e1, e2, fun j c hj => (hb.cell (p := ⟨b, off + j, none⟩) e2.1).trans (e3 j c hj)⟩⟩
theorem Bs.mono [Keep] {n₀ n₁ : Nat} {w : World} {v : Value} {l : List Nat} (h : Bs n₀ w v l) (hn : n₀ ≤ n₁) : Bs n₁ w v l := by
  obtain ⟨ao, cap, h1, h2, h3, h4, h5⟩ := h
  exact ⟨ao, cap, h1, h2, h3, h4, fun hne => by
    obtain ⟨b, off, e1, e2, e3⟩ := h5 hne
    exact ⟨b, off, e1, ⟨Nat.lt_of_lt_of_le e2.1 hn, e2.2⟩, e3⟩⟩
theorem Bs.imp {K K' : Keep} {n₀ : Nat} {w : World} {v : Value} {l : List Nat} (h : @Bs K n₀ w v l) (hk : ∀ b, b < n₀ → @kOk K b → @kOk K' b) : @Bs K' n₀ w v l := by
  obtain ⟨ao, cap, h1, h2, h3, h4, h5⟩ := h
  exact ⟨ao, cap, h1, h2, h3, h4, fun hne => by
    obtain ⟨b, off, e1, e2, e3⟩ := h5 hne
    exact ⟨b, off, e1, ⟨e2.1, hk b e2.1 e2.2⟩, e3⟩⟩
theorem Bs.nil [Keep] (n₀ : Nat) (w : World) : Bs n₀ w (.slice none 0 0) [] := ⟨none, 0, rfl, Nat.le_refl _, Nat.zero_le _, fun _ => rfl, fun h => absurd rfl h⟩

/-- A row of one's own, made from block n₀ on. -/
def Own (n₀ : Nat) (w : World) (v : Value) (l : List Nat) : Prop := w.ownsRow n₀ 5 1 v l.length (bc l)

theorem cells_of_block {w : World} {b : Nat} {cs : Array Value} {t : TypeId} (h : w.heap[b]? = some (.cells cs t (0, 0))) (i : Nat) : w.cell? ⟨b, i, none⟩ = cs[i]? := by
  simp [World.cell?, h]

theorem Own.bs [Keep] {n₀ : Nat} {w : World} {v : Value} {l : List Nat} (h : Own n₀ w v l) (hf : kBase ≤ n₀) : Bs w.heap.size w v l := by
  obtain ⟨_, ⟨rfl, h0⟩ | ⟨g, cap, cur, rfl, hg, hb, hl, hm, hs, ht⟩⟩ := h
  · obtain rfl := List.eq_nil_of_length_eq_zero h0
    exact Bs.nil _ _
  · refine ⟨some ⟨g, 0, none⟩, cap, rfl, hl, hm, (fun h => by cases h), fun hne => ⟨g, 0, rfl, ⟨(Array.getElem?_eq_some_iff.1 hb).1, kNew g (Nat.le_trans hf hg)⟩, fun j c hj => ?_⟩⟩
    rw [cells_of_block hb, Nat.zero_add]
    have h1 : (bc l)[j]? = some (.int .u8 (c : Int)) := by simp [bc, hj]
    rw [← ht, List.getElem?_take] at h1
    split at h1
    · simpa using h1
    · cases h1
theorem Own.below {n₀ : Nat} {w w' : World} {v : Value} {l : List Nat} (h : Own n₀ w v l) (hb : Below w.heap.size w w') : Own n₀ w' v l := by
  obtain ⟨h0, h1 | ⟨g, cap, cur, e1, hg, hbk, r⟩⟩ := h
  · exact ⟨h0, .inl h1⟩
  · exact ⟨h0, .inr ⟨g, cap, cur, e1, hg, (hb.block g (Array.getElem?_eq_some_iff.1 hbk).1).trans hbk, r⟩⟩
theorem Own.mono {n₀ n₁ : Nat} {w : World} {v : Value} {l : List Nat} (h : Own n₀ w v l) (hn : n₁ ≤ n₀) : Own n₁ w v l :=
  ⟨h.1, h.2.imp id fun ⟨g, cap, cur, h1, h2, h3⟩ => ⟨g, cap, cur, h1, Nat.le_trans hn h2, h3⟩⟩
theorem Own.nil (n₀ : Nat) (w : World) : Own n₀ w (.slice none 0 0) [] := World.ownsRow_nil w n₀ _ 1
theorem Own.shape {n₀ : Nat} {w : World} {v : Value} {l : List Nat} (h : Own n₀ w v l) : ∃ ao cap, v = .slice ao l.length cap := by
  letI := keepAll
  obtain ⟨ao, cap, h1, _⟩ := h.bs (Nat.zero_le _)
  exact ⟨ao, cap, h1⟩

/-- A slice to whose end append lays all anew: it is full, or it is one's own. -/
def Gr (n₀ : Nat) (w : World) (v : Value) (l : List Nat) : Prop :=
  (∃ ao, v = .slice ao l.length l.length ∧ (ao = none → l = []) ∧ ∀ p, ao = some p → ∀ j u, (bc l)[j]? = some u → w.cell? (p.add j) = some u) ∨ Own n₀ w v l

theorem Gr.below [Keep] {n₀ : Nat} {w w' : World} {v : Value} {l : List Nat} (h : Gr n₀ w v l) (hb : Below w.heap.size w w') : Gr n₀ w' v l := by
  rcases h with ⟨ao, h1, h2, h3⟩ | h
  · refine .inl ⟨ao, h1, h2, fun p hp j u hj => ?_⟩
    have h4 := h3 p hp j u hj
    exact (hb.cell (World.block_lt_of_cell? w _ h4)).trans h4
  · exact .inr (h.below hb)
theorem Gr.shape [Keep] {n₀ : Nat} {w : World} {v : Value} {l : List Nat} (h : Gr n₀ w v l) : ∃ ao cap, v = .slice ao l.length cap := by
  rcases h with ⟨ao, h1, _⟩ | h
  · exact ⟨ao, _, h1⟩
  · exact h.shape
theorem Bs.full [Keep] {n₀ n₁ : Nat} {w : World} {l : List Nat} {ao : Option Addr} {cap : Nat} (h : Bs n₀ w (.slice ao l.length cap) l) : Gr n₁ w (.slice ao l.length l.length) l := by
  obtain ⟨ao', cap', h1, h2, h3, h4, h5⟩ := h
  cases h1
  refine .inl ⟨ao, rfl, fun e => ?_, fun p hp j u hj => ?_⟩
  · have := h4 e
    exact List.eq_nil_of_length_eq_zero (by omega)
  · obtain ⟨c, hc, rfl⟩ := bc_get hj
    have hne : l ≠ [] := by rintro rfl; simp at hc
    obtain ⟨b, off, e1, _, e3⟩ := h5 hne
    obtain rfl := Option.some.inj (hp.symm.trans e1)
    rw [Addr.add_lit]
    exact e3 j c hc

theorem infoByte : (Tryz.prog.info? 5).map (fun i => (i.zero, i.size, i.bytes)) = some (some (.int .u8 0), 1, 1) := by kernel_rfl

theorem wpList_append_gr [Keep] {w : World} {ops : Array Oper} {rest : List Oper} {o : Oper} {a : Act} {Q : Exit → Act → World → Prop} (hgd : o.guard = none) (s x : Operand)
    (ho : o.op = .call { callee := .builtin .append, args := #[s, x], argTypes := #[32, 32] })
    (n₀ : Nat) (v : Value) (l : List Nat) (hs : a.eval s = v) (hG : Gr n₀ w v l) (hn₀ : n₀ ≤ w.heap.size)
    (ad : Addr) (c : Nat) (r : List Nat) (hx : a.eval x = .slice (some ad) r.length c) (hr : r ≠ []) (hnews : ∀ j u, (bc r)[j]? = some u → w.cell? (ad.add j) = some u)
    (hlen : l.length + r.length ≤ 140737488355328)
    (h : ∀ v' w', Own n₀ w' v' (l ++ r) → Below n₀ w w' → wpList Tryz.prog ops Q rest (a.put o.dst v') w') : wpList Tryz.prog ops Q (o :: rest) a w := by
  obtain ⟨i0, hi, hz0, hz1, hz2⟩ := info_parts infoByte
  have hpos : 0 < r.length := List.length_pos_iff.2 hr
  have hmax : l.length + r.length ≤ maxLen := by unfold maxLen; omega
  rcases hG with ⟨ao, rfl, h2, h3⟩ | hown
  · refine wpList_append_grows w hgd s x 32 ho 5 i0 (.int .u8 0) 1 1 Tryz.underlying32 hi hz0 hz1 hz2 rfl (by decide) ao l.length l.length (bc l) hs
      (fun e => by rw [h2 e]; exact ⟨rfl, rfl⟩) (by rw [bc_length]; omega) h3 ad r.length c (bc r) hx (by rw [bc_length]; omega) hnews bc_one (by omega) hmax (by omega) ?_
    intro v' w' hown' hg
    refine h v' w' ?_ ((Below.refl n₀ w).grown hg hn₀ (fun k hk => by cases hk))
    have : w'.ownsRow n₀ _ 1 v' _ _ := ⟨hown'.1, hown'.2.imp id fun ⟨g, cap, cur, h1, h2, h3⟩ => ⟨g, cap, cur, h1, Nat.le_trans hn₀ h2, h3⟩⟩
    show w'.ownsRow n₀ _ 1 v' (l ++ r).length (bc (l ++ r))
    rw [bc_append, List.length_append]
    exact this
  · refine wpList_append_own w hgd s x 32 ho n₀ 5 i0 (.int .u8 0) 1 1 Tryz.underlying32 hi hz0 hz1 hz2 rfl (by decide) v l.length (bc l) hs hown
      ad r.length c (bc r) hx (by rw [bc_length]; omega) hnews bc_one hmax (by omega) hn₀ ?_
    intro v' w' hown' hg _
    refine h v' w' ?_ ((Below.refl n₀ w).grown hg hn₀ (fun k hk => (World.ownsRow.lt hown k hk).1))
    show w'.ownsRow n₀ _ 1 v' (l ++ r).length (bc (l ++ r))
    rw [bc_append, List.length_append]
    exact hown'

/-- append of a whole slice behind one's own. -/
theorem wpList_append_bs [Keep] {w : World} {ops : Array Oper} {rest : List Oper} {o : Oper} {a : Act} {Q : Exit → Act → World → Prop} (hgd : o.guard = none) (s x : Operand)
    (ho : o.op = .call { callee := .builtin .append, args := #[s, x], argTypes := #[32, 32] })
    (n₀ : Nat) (v : Value) (l : List Nat) (hs : a.eval s = v) (hown : Own n₀ w v l) (hn₀ : n₀ ≤ w.heap.size)
    (n₁ : Nat) (xv : Value) (r : List Nat) (hx : a.eval x = xv) (hB : Bs n₁ w xv r)
    (hlen : l.length + r.length ≤ 140737488355328)
    (h : ∀ v' w', Own n₀ w' v' (l ++ r) → Below n₀ w w' → wpList Tryz.prog ops Q rest (a.put o.dst v') w') : wpList Tryz.prog ops Q (o :: rest) a w := by
  obtain ⟨i0, hi, hz0, hz1, hz2⟩ := info_parts infoByte
  have hmax : l.length + r.length ≤ maxLen := by unfold maxLen; omega
  obtain ⟨ao, cap, rfl, h2, h3, h4, h5⟩ := hB
  cases ao with
  | none =>
    have h0 := h4 rfl
    subst h0
    obtain rfl : r = [] := List.eq_nil_of_length_eq_zero (by omega)
    refine wpList_append_own_none hgd s x 32 ho n₀ 5 i0 1 Tryz.underlying32 hi v l.length (bc l) hs hown hx ?_
    have := h v w (by rw [List.append_nil]; exact hown) (Below.refl _ _)
    exact this
  | some ad =>
    refine wpList_append_own w hgd s x 32 ho n₀ 5 i0 (.int .u8 0) 1 1 Tryz.underlying32 hi hz0 hz1 hz2 rfl (by decide) v l.length (bc l) hs hown
      ad r.length cap (bc r) hx (by rw [bc_length]; omega) (fun j u hj => ?_) bc_one hmax (by omega) hn₀ ?_
    · obtain ⟨c, hc, rfl⟩ := bc_get hj
      have hne : r ≠ [] := by rintro rfl; simp at hc
      obtain ⟨b, off, e1, _, e3⟩ := h5 hne
      obtain rfl := Option.some.inj e1
      rw [Addr.add_lit]
      exact e3 j c hc
    · intro v' w' hown' hg _
      refine h v' w' ?_ ((Below.refl n₀ w).grown hg hn₀ (fun k hk => (World.ownsRow.lt hown k hk).1))
      show w'.ownsRow n₀ _ 1 v' (l ++ r).length (bc (l ++ r))
      rw [bc_append, List.length_append]
      exact hown'

theorem Bs.grown [Keep] {n₀ : Nat} {w w' : World} {v : Value} {l : List Nat} {row : Option Nat} (h : Bs n₀ w v l) (hg : w.grownBy w' row) (hr : ∀ k, v.ownBlock = some k → row ≠ some k) : Bs n₀ w' v l := by
  obtain ⟨ao, cap, rfl, h2, h3, h4, h5⟩ := h
  exact ⟨ao, cap, rfl, h2, h3, h4, fun hne => by
    obtain ⟨b, off, e1, e2, e3⟩ := h5 hne
    subst e1
    refine ⟨b, off, rfl, e2, fun j c hj => hg.cell (a := ⟨b, off + j, none⟩) (e3 j c hj) (fun e => hr b rfl e.symm)⟩⟩

/-- The same as an equation on the run: and that the row is the old one, or new. -/
theorem run_append_bs [Keep] (w : World) (ty : TypeId) (n₀ : Nat) (v : Value) (l : List Nat) (hown : Own n₀ w v l) (hn₀ : n₀ ≤ w.heap.size)
    (n₁ : Nat) (xv : Value) (r : List Nat) (hB : Bs n₁ w xv r) (hlen : l.length + r.length ≤ 140737488355328) :
    ∃ v' w', (Builtin.append_ #[32, 32] ty #[v, xv]).run Tryz.prog w = .ok v' w' ∧ Own n₀ w' v' (l ++ r) ∧ Below n₀ w w' ∧ w.grownBy w' v.ownBlock ∧ ∀ k, v'.ownBlock = some k → v.ownBlock = some k ∨ w.heap.size ≤ k := by
  obtain ⟨i0, hi, hz0, hz1, hz2⟩ := info_parts infoByte
  have hmax : l.length + r.length ≤ maxLen := by unfold maxLen; omega
  obtain ⟨ao, cap, rfl, h2, h3, h4, h5⟩ := hB
  cases ao with
  | none =>
    have h0 := h4 rfl
    subst h0
    obtain rfl : r = [] := List.eq_nil_of_length_eq_zero (by omega)
    exact ⟨v, w, run_append_owned_none (P := Tryz.prog) (w := w) n₀ 32 ty 5 i0 1 Tryz.underlying32 hi v l.length (bc l) hown, by rw [List.append_nil]; exact hown, Below.refl _ _, ⟨rfl, rfl, rfl, Nat.le_refl _, fun _ _ _ => rfl⟩, fun k hk => .inl hk⟩
  | some ad =>
    have hnews : ∀ j u, (bc r)[j]? = some u → w.cell? (ad.add j) = some u := fun j u hj => by
      obtain ⟨c, hc, rfl⟩ := bc_get hj
      have hne : r ≠ [] := by rintro rfl; simp at hc
      obtain ⟨b, off, e1, _, e3⟩ := h5 hne
      obtain rfl := Option.some.inj e1
      rw [Addr.add_lit]
      exact e3 j c hc
    obtain ⟨v', w', hrun, hown', hg, _⟩ := run_append_own (P := Tryz.prog) w n₀ 32 ty 5 i0 (.int .u8 0) 1 1 Tryz.underlying32 hi hz0 hz1 hz2 rfl (by decide) v l.length (bc l) hown
      ad r.length cap (bc r) (by rw [bc_length]; omega) hnews bc_one hmax (by omega) hn₀
    refine ⟨v', w', hrun, ?_, (Below.refl n₀ w).grown hg hn₀ (fun k hk => (World.ownsRow.lt hown k hk).1), hg, ?_⟩
    · show w'.ownsRow n₀ _ 1 v' (l ++ r).length (bc (l ++ r))
      rw [bc_append, List.length_append]
      exact hown'
    · intro k hk
      obtain ⟨_, ⟨rfl, h0⟩ | ⟨g, cp, cur, rfl, hgg, hbk, hle, hcm, hcs, htk⟩⟩ := hown
      · obtain ⟨v2, w2, hrun2, hown2, _⟩ := run_append_own (P := Tryz.prog) w w.heap.size 32 ty 5 i0 (.int .u8 0) 1 1 Tryz.underlying32 hi hz0 hz1 hz2 rfl (by decide) (.slice none 0 0) 0 [] (World.ownsRow_nil w _ _ 1)
          ad r.length cap (bc r) (by rw [bc_length]; omega) hnews bc_one (by omega) (by omega) (Nat.le_refl _)
        cases hrun.symm.trans hrun2
        exact .inr (World.ownsRow.lt hown2 k hk).1
      · by_cases hroom : l.length + r.length ≤ cp
        · have hrun2 := run_append_room_cells (P := Tryz.prog) w 32 ty 5 i0 Tryz.underlying32 hi g 0 l.length cp ad r.length cap (bc r) (by rw [bc_length, hz1]; omega) hnews bc_one hroom
            (fun j hj => by
              rw [bc_length] at hj
              rw [hz1, cells_of_block hbk, Array.getElem?_eq_getElem (by omega)]; rfl)
            (fun j _ => by simp [World.frozen?, hbk])
          cases hrun.symm.trans hrun2
          exact .inl hk
        · obtain ⟨v2, w2, hrun2, hown2, _⟩ := run_append_arg_grows (P := Tryz.prog) w 32 ty 5 i0 (.int .u8 0) 1 1 Tryz.underlying32 hi hz0 hz1 hz2 rfl (by decide) ⟨g, 0, none⟩ l.length cp (bc l) (by rw [bc_length]; omega)
            (fun j u hj => by
              rw [Addr.add_lit, cells_of_block hbk, Nat.zero_add]
              rw [← htk, List.getElem?_take] at hj
              split at hj
              · simpa using hj
              · cases hj)
            ad r.length cap (bc r) (by rw [bc_length]; omega) hnews (by omega) hmax (by omega)
          cases hrun.symm.trans hrun2
          exact .inr (World.ownsRow.lt hown2 k hk).1

theorem wpList_append_bs2 [Keep] {w : World} {ops : Array Oper} {rest : List Oper} {o : Oper} {a : Act} {Q : Exit → Act → World → Prop} (hgd : o.guard = none) (s x : Operand)
    (ho : o.op = .call { callee := .builtin .append, args := #[s, x], argTypes := #[32, 32] })
    (n₀ : Nat) (v : Value) (l : List Nat) (hs : a.eval s = v) (hown : Own n₀ w v l) (hn₀ : n₀ ≤ w.heap.size)
    (n₁ : Nat) (xv : Value) (r : List Nat) (hx : a.eval x = xv) (hB : Bs n₁ w xv r)
    (hlen : l.length + r.length ≤ 140737488355328)
    (h : ∀ v' w', Own n₀ w' v' (l ++ r) → Below n₀ w w' → w.grownBy w' v.ownBlock → (∀ k, v'.ownBlock = some k → v.ownBlock = some k ∨ w.heap.size ≤ k) → wpList Tryz.prog ops Q rest (a.put o.dst v') w') : wpList Tryz.prog ops Q (o :: rest) a w := by
  obtain ⟨v', w', hrun, r1, r2, r3, r4⟩ := run_append_bs w o.type n₀ v l hown hn₀ n₁ xv r hB hlen
  refine wpList_plain hgd fun K hK' => ?_
  unfold Oper.wp
  simp [execOp, ho, resolve, invoke, builtin, hs, hx, hrun, Result.andThen]
  exact hK' _ _ (h v' w' r1 r2 r3 r4)
end Go.Proofs.YtgfoogeiancecaaGreatDoor

/- General means: rows of the call's own, cuts of a byte slice, bytes as a text. -/
namespace Go.Proofs.YtgfoogeiancecaaGreatDoor
open Go.RowKit
set_option maxRecDepth 100000
set_option linter.unusedSimpArgs false

theorem cells_new (w : World) (cs : Array Value) (l : List Nat) (h : cs.toList = bc l) : ∀ j u, (bc l)[j]? = some u → (w.alloc (.cells cs 5)).cell? ((⟨w.heap.size, 0, none⟩ : Addr).add j) = some u := by
  intro j u hj
  rw [Addr.add_lit, cells_of_block (heap_alloc_new w _), Nat.zero_add, ← Array.getElem?_toList, h]
  exact hj

theorem own_new (w : World) (cs : Array Value) (l : List Nat) (h : cs.toList = bc l) (hl : l.length ≤ maxLen) : Own w.heap.size (w.alloc (.cells cs 5)) (.slice (some ⟨w.heap.size, 0, none⟩) l.length l.length) l := by
  have hs : cs.size = l.length := by rw [← Array.length_toList, h, bc_length]
  refine ⟨by rw [bc_length, Nat.mul_one], .inr ⟨w.heap.size, l.length, cs, rfl, Nat.le_refl _, heap_alloc_new w _, Nat.le_refl _, hl, by rw [hs]; simp, ?_⟩⟩
  rw [h, List.take_of_length_le (by rw [bc_length]; omega)]

theorem Bs.took [Keep] {n : Nat} {w : World} {l : List Nat} {ao : Option Addr} {len cap k : Nat} (h : Bs n w (.slice ao len cap) l) (hk : k ≤ l.length) : Bs n w (.slice ao k cap) (l.take k) := by
  obtain ⟨ao', cp, e0, h2, h3, h4, h5⟩ := h
  cases e0
  have hl : (l.take k).length = k := by rw [List.length_take]; omega
  refine ⟨ao, cap, by rw [hl], by rw [hl]; omega, h3, h4, fun hne => ?_⟩
  obtain ⟨b, off, e1, e2, e3⟩ := h5 (by rintro rfl; simp at hne)
  refine ⟨b, off, e1, e2, fun j c hj => e3 j c ?_⟩
  rw [List.getElem?_take] at hj
  split at hj
  · exact hj
  · cases hj

theorem Bs.drewN [Keep] {n₀ : Nat} {w : World} {v : Value} {l : List Nat} (h : Bs n₀ w v l) (k : Nat) : Bs n₀ (w.drewN k) v l := h
theorem results_tmp4 {fn : Func} {t u v x : Tmp} (h : fn.results = #[.tmp t, .tmp u, .tmp v, .tmp x]) (tmps : Array Value) (P : Program) (w : World) :
    (results fn tmps).run P w = .ok (.tuple #[tmps.getD t undef, tmps.getD u undef, tmps.getD v undef, tmps.getD x undef]) w := by
  simp [results, h]

theorem Bs.cut [Keep] {n₀ : Nat} {w : World} {l : List Nat} {b off len cap : Nat} (h : Bs n₀ w (.slice (some ⟨b, off, none⟩) len cap) l) (k s : Nat) (hk : k + s ≤ l.length) (c : Nat) (hc : s ≤ c) (hcm : c ≤ maxLen) :
    Bs n₀ w (.slice (some ⟨b, off + k, none⟩) s c) ((l.drop k).take s) := by
  obtain ⟨ao, cap', h1, h2, h3, h4, h5⟩ := h
  cases h1
  have hlen : ((l.drop k).take s).length = s := by rw [List.length_take, List.length_drop]; omega
  refine ⟨_, _, by rw [hlen], by rw [hlen]; exact hc, hcm, (fun h => by cases h), fun hne => ?_⟩
  have hne' : l ≠ [] := by rintro rfl; simp at hne
  obtain ⟨b', off', e1, e2, e3⟩ := h5 hne'
  cases e1
  refine ⟨b, off + k, rfl, e2, fun j c hj => ?_⟩
  rw [List.getElem?_take] at hj
  split at hj
  · rw [List.getElem?_drop] at hj
    rw [Nat.add_assoc]
    exact e3 (k + j) c hj
  · cases hj

/-- Bytes as a text. -/
def str (l : List Nat) : ByteArray := ⟨(l.map UInt8.ofNat).toArray⟩

theorem str_nil (w : World) : (convert 32 9 (.slice none 0 0)).run Tryz.prog w = .ok (.string (str [])) w := by kernel_rfl

theorem str_of [Keep] {n₀ : Nat} {w : World} {v : Value} {l : List Nat} (h : Bs n₀ w v l) (hl : ∀ c ∈ l, c < 256) :
    (convert 32 9 v).run Tryz.prog w = .ok (.string (str l)) w := by
  obtain ⟨ao, cap, rfl, h2, h3, h4, h5⟩ := h
  cases ao with
  | none =>
    have := h4 rfl
    obtain rfl : l = [] := List.eq_nil_of_length_eq_zero (by omega)
    obtain rfl : cap = 0 := by omega
    exact str_nil w
  | some ad =>
    have e := run_convert_bytes_back (P := Tryz.prog) w 32 9 5 ad cap (l.map UInt8.ofNat) Tryz.underlying32 Tryz.underlying5 Tryz.underlying9 ?_
    · rw [List.length_map] at e; exact e
    · intro j hj
      rw [List.length_map] at hj
      have hne : l ≠ [] := by rintro rfl; simp at hj
      obtain ⟨b, off, e1, _, e3⟩ := h5 hne
      obtain rfl := Option.some.inj e1
      have := e3 j l[j] (by simp [hj])
      have hc := hl l[j] (List.getElem_mem hj)
      rw [Addr.add_lit, this]
      simp only [List.getElem_map, UInt8.toNat_ofNat']
      rw [Nat.mod_eq_of_lt (by omega)]

theorem str_inj {l r : List Nat} (hl : ∀ c ∈ l, c < 256) (hr : ∀ c ∈ r, c < 256) (h : str l = str r) : l = r := by
  have h1 : l.map UInt8.ofNat = r.map UInt8.ofNat := by
    have := congrArg (fun x => x.data.toList) h
    simpa [str] using this
  have back : ∀ m : List Nat, (∀ c ∈ m, c < 256) → (m.map UInt8.ofNat).map UInt8.toNat = m := by
    intro m hm
    rw [List.map_map]
    conv => rhs; rw [← List.map_id m]
    apply List.map_congr_left
    intro c hc
    have := hm c hc
    simp [Nat.mod_eq_of_lt this]
  rw [← back l hl, ← back r hr, h1]
theorem str_ne {l r : List Nat} (hl : ∀ c ∈ l, c < 256) (hr : ∀ c ∈ r, c < 256) (h : l ≠ r) : ((str l).toList == (str r).toList) = false := by
  rw [beq_eq_false_iff_ne]
  intro e
  refine h (str_inj hl hr ?_)
  rw [ByteArray.toList_eq, ByteArray.toList_eq] at e
  exact ByteArray.ext (Array.toList_inj.1 e)

theorem frozen_of {w : World} {q : Nat} {cs : Array Value} {t : TypeId} (h : w.heap[q]? = some (.cells cs t (0, 0))) (i : Nat) : w.frozen? ⟨q, i, none⟩ = false := by
  simp [World.frozen?, h]

end Go.Proofs.YtgfoogeiancecaaGreatDoor

/- Rows of one's own, of any element: what append makes of one, and that its row is the old one, or new. -/
namespace Go.Proofs.YtgfoogeiancecaaGreatDoor
open Go.RowKit
set_option maxRecDepth 100000
set_option linter.unusedSimpArgs false

theorem run_append_own2 (w : World) (base : Nat) (t ty e : TypeId) (i : TypeInfo) (z : Value) (size bytes : Nat) (ht : Tryz.prog.underlying t = some (.slice e)) (hi : Tryz.prog.info? e = some i) (hz : i.zero = some z)
    (hsize : i.size = size) (hby : i.bytes = bytes) (hzs : z.cells.size = size) (hsz : 0 < size) (v : Value) (n : Nat) (xs : List Value) (hown : w.ownsRow base e size v n xs)
    (a : Addr) (m c : Nat) (news : List Value) (hl : news.length = m * size) (hnews : ∀ j u, news[j]? = some u → w.cell? (a.add j) = some u) (h1 : ∀ u ∈ news, u.oneCell' = true)
    (h63 : n + m ≤ maxLen) (hbytes : (n + m) * bytes ≤ 140737488355328) (hbase : base ≤ w.heap.size) :
    ∃ v' w', (Builtin.append_ #[t, t] ty #[v, .slice (some a) m c]).run Tryz.prog w = .ok v' w' ∧ w'.ownsRow base e size v' (n + m) (xs ++ news) ∧ w.grownBy w' v.ownBlock ∧ ∀ k, v'.ownBlock = some k → v.ownBlock = some k ∨ w.heap.size ≤ k := by
  obtain ⟨v', w', hrun, hown', hg, _⟩ := run_append_own (P := Tryz.prog) w base t ty e i z size bytes ht hi hz hsize hby hzs hsz v n xs hown a m c news hl hnews h1 h63 hbytes hbase
  refine ⟨v', w', hrun, hown', hg, fun k hk => ?_⟩
  obtain ⟨hxl, ⟨rfl, rfl⟩ | ⟨g, cp, cur, rfl, hgg, hbk, hle, hcm, hcs, htk⟩⟩ := hown
  · obtain ⟨v2, w2, hrun2, hown2, _⟩ := run_append_own (P := Tryz.prog) w w.heap.size t ty e i z size bytes ht hi hz hsize hby hzs hsz (.slice none 0 0) 0 [] (World.ownsRow_nil w _ _ size) a m c news hl hnews h1 h63 hbytes (Nat.le_refl _)
    cases hrun.symm.trans hrun2
    exact .inr (World.ownsRow.lt hown2 k hk).1
  · by_cases hroom : n + m ≤ cp
    · have hrun2 := run_append_room_cells (P := Tryz.prog) w t ty e i ht hi g 0 n cp a m c news (by rw [hsize]; exact hl) hnews h1 hroom
        (fun j hj => by
          rw [hsize, cells_of_block hbk, Array.getElem?_eq_getElem (by
            rw [hcs]
            have : (n + m) * size ≤ cp * size := Nat.mul_le_mul_right _ hroom
            rw [Nat.add_mul] at this
            omega)]
          rfl)
        (fun j _ => by simp [World.frozen?, hbk])
      cases hrun.symm.trans hrun2
      exact .inl hk
    · obtain ⟨v2, w2, hrun2, hown2, _⟩ := run_append_arg_grows (P := Tryz.prog) w t ty e i z size bytes ht hi hz hsize hby hzs hsz ⟨g, 0, none⟩ n cp xs hxl
        (fun j u hj => by
          rw [Addr.add_lit, cells_of_block hbk, Nat.zero_add]
          rw [← htk, List.getElem?_take] at hj
          split at hj
          · simpa using hj
          · cases hj)
        a m c news hl hnews (by omega) h63 hbytes
      cases hrun.symm.trans hrun2
      exact .inr (World.ownsRow.lt hown2 k hk).1

theorem ownsRow_below {n₀ : Nat} {w w' : World} {e : TypeId} {size : Nat} {v : Value} {n : Nat} {xs : List Value} (h : w.ownsRow n₀ e size v n xs) (hb : Below w.heap.size w w') : w'.ownsRow n₀ e size v n xs := by
  obtain ⟨h0, h1 | ⟨g, cap, cur, e1, hg, hbk, r⟩⟩ := h
  · exact ⟨h0, .inl h1⟩
  · exact ⟨h0, .inr ⟨g, cap, cur, e1, hg, (hb.block g (Array.getElem?_eq_some_iff.1 hbk).1).trans hbk, r⟩⟩
theorem ownsRow_grown {n₀ : Nat} {w w' : World} {e : TypeId} {size : Nat} {v : Value} {n : Nat} {xs : List Value} {row : Option Nat} (h : w.ownsRow n₀ e size v n xs) (hg : w.grownBy w' row) (hr : ∀ k, v.ownBlock = some k → row ≠ some k) : w'.ownsRow n₀ e size v n xs := by
  obtain ⟨h0, h1 | ⟨g, cap, cur, e1, hgg, hbk, r⟩⟩ := h
  · exact ⟨h0, .inl h1⟩
  · subst e1
    exact ⟨h0, .inr ⟨g, cap, cur, rfl, hgg, (hg.block g (Array.getElem?_eq_some_iff.1 hbk).1 (fun e => hr g rfl e.symm)).trans hbk, r⟩⟩
theorem ownsRow_grown_alloc {w : World} (o : Obj) : w.grownBy (w.alloc o) none := ⟨rfl, rfl, rfl, by simp, fun i hi _ => by rw [heap_alloc_old _ _ hi]⟩

theorem Bs.grown2 [Keep] {n₀ : Nat} {w w' : World} {v : Value} {l : List Nat} {row : Option Nat} (h : Bs n₀ w v l) (hg : w.grownBy w' row) (hr : l ≠ [] → ∀ k, v.ownBlock = some k → row ≠ some k) : Bs n₀ w' v l := by
  by_cases hl : l = []
  · subst hl
    obtain ⟨ao, cap, rfl, h2, h3, h4, _⟩ := h
    exact ⟨ao, cap, rfl, h2, h3, h4, fun h => absurd rfl h⟩
  · exact h.grown hg (hr hl)

/-- A list of byte slices, each known by its bytes, away from the blocks that 'ex' bars. -/
def Els [Keep] (n₀ : Nat) (w : World) (ex : Nat → Prop) (cs : List Value) (ds : List (List Nat)) : Prop :=
  cs.length = ds.length ∧ ∀ (i : Nat) (sv : Value) (d : List Nat), cs[i]? = some sv → ds[i]? = some d → Bs w.heap.size w sv d ∧ (d ≠ [] → ∀ k, sv.ownBlock = some k → n₀ ≤ k ∧ k < w.heap.size ∧ ¬ ex k)

theorem Els.nil [Keep] (n₀ : Nat) (w : World) (ex : Nat → Prop) : Els n₀ w ex [] [] := ⟨rfl, fun i sv d h => by simp at h⟩
theorem Els.below [Keep] {n₀ : Nat} {w w' : World} {ex : Nat → Prop} {cs : List Value} {ds : List (List Nat)} (h : Els n₀ w ex cs ds) (hb : Below w.heap.size w w') : Els n₀ w' ex cs ds :=
  ⟨h.1, fun i sv d h1 h2 => by
    obtain ⟨h3, h4⟩ := h.2 i sv d h1 h2
    exact ⟨(h3.below hb).mono hb.size, fun hne k hk => ⟨(h4 hne k hk).1, Nat.lt_of_lt_of_le (h4 hne k hk).2.1 hb.size, (h4 hne k hk).2.2⟩⟩⟩
theorem Els.grown [Keep] {n₀ : Nat} {w w' : World} {ex ex' : Nat → Prop} {cs : List Value} {ds : List (List Nat)} {row : Option Nat} (h : Els n₀ w ex cs ds) (hg : w.grownBy w' row) (hr : ∀ k, row = some k → ex k) (hx : ∀ k, ex' k → ex k ∨ w.heap.size ≤ k) : Els n₀ w' ex' cs ds :=
  ⟨h.1, fun i sv d h1 h2 => by
    obtain ⟨h3, h4⟩ := h.2 i sv d h1 h2
    exact ⟨(h3.grown2 hg (fun hne k hk e => (h4 hne k hk).2.2 (hr k e))).mono hg.size, fun hne k hk => ⟨(h4 hne k hk).1, Nat.lt_of_lt_of_le (h4 hne k hk).2.1 hg.size, fun hk' => by
      rcases hx k hk' with h | h
      · exact (h4 hne k hk).2.2 h
      · have := (h4 hne k hk).2.1; omega⟩⟩⟩
theorem Els.snoc [Keep] {n₀ : Nat} {w : World} {ex : Nat → Prop} {cs : List Value} {ds : List (List Nat)} (h : Els n₀ w ex cs ds) {sv : Value} {d : List Nat} (hB : Bs w.heap.size w sv d) (hk : d ≠ [] → ∀ k, sv.ownBlock = some k → n₀ ≤ k ∧ k < w.heap.size ∧ ¬ ex k) : Els n₀ w ex (cs ++ [sv]) (ds ++ [d]) :=
  ⟨by simp [h.1], fun i sv' d' h1 h2 => by
    by_cases hi : i < cs.length
    · rw [List.getElem?_append_left hi] at h1
      rw [List.getElem?_append_left (by rw [← h.1]; exact hi)] at h2
      exact h.2 i sv' d' h1 h2
    · rw [List.getElem?_append_right (by omega)] at h1
      rw [List.getElem?_append_right (by rw [← h.1]; omega), ← h.1] at h2
      by_cases h0 : i - cs.length = 0
      · rw [h0] at h1 h2
        simp only [List.getElem?_cons_zero, Option.some.injEq] at h1 h2
        subst h1 h2
        exact ⟨hB, hk⟩
      · obtain ⟨j, hj⟩ : ∃ j, i - cs.length = j + 1 := ⟨i - cs.length - 1, by omega⟩
        rw [hj] at h1
        simp at h1⟩

theorem wpList_append_own2 {w : World} {ops : Array Oper} {rest : List Oper} {o : Oper} {a : Act} {Q : Exit → Act → World → Prop} (hgd : o.guard = none) (s x : Operand) (t e : TypeId)
    (ho : o.op = .call { callee := .builtin .append, args := #[s, x], argTypes := #[t, t] })
    (base : Nat) (i : TypeInfo) (z : Value) (size bytes : Nat) (ht : Tryz.prog.underlying t = some (.slice e)) (hi : Tryz.prog.info? e = some i) (hz : i.zero = some z)
    (hsize : i.size = size) (hby : i.bytes = bytes) (hzs : z.cells.size = size) (hsz : 0 < size) (v : Value) (n : Nat) (xs : List Value) (hs : a.eval s = v) (hown : w.ownsRow base e size v n xs)
    (ad : Addr) (m c : Nat) (news : List Value) (hx : a.eval x = .slice (some ad) m c) (hl : news.length = m * size) (hnews : ∀ j u, news[j]? = some u → w.cell? (ad.add j) = some u) (h1 : ∀ u ∈ news, u.oneCell' = true)
    (h63 : n + m ≤ maxLen) (hbytes : (n + m) * bytes ≤ 140737488355328) (hbase : base ≤ w.heap.size)
    (h : ∀ v' w', w'.ownsRow base e size v' (n + m) (xs ++ news) → w.grownBy w' v.ownBlock → (∀ k, v'.ownBlock = some k → v.ownBlock = some k ∨ w.heap.size ≤ k) → wpList Tryz.prog ops Q rest (a.put o.dst v') w') : wpList Tryz.prog ops Q (o :: rest) a w := by
  obtain ⟨v', w', hrun, r1, r2, r3⟩ := run_append_own2 w base t o.type e i z size bytes ht hi hz hsize hby hzs hsz v n xs hown ad m c news hl hnews h1 h63 hbytes hbase
  refine wpList_plain hgd fun K hK' => ?_
  unfold Oper.wp
  simp [execOp, ho, resolve, invoke, builtin, hs, hx, hrun, Result.andThen]
  exact hK' _ _ (h v' w' r1 r2 r3)

theorem Bs.one [Keep] {n₀ : Nat} {w : World} {v : Value} {l : List Nat} (h : Bs n₀ w v l) : v.oneCell' = true := by
  obtain ⟨ao, cap, rfl, _⟩ := h
  rfl

theorem row_cell {n₀ : Nat} {w : World} {e : TypeId} {size : Nat} {v : Value} {n : Nat} {xs : List Value} (h : w.ownsRow n₀ e size v n xs) (hn : 0 < n) : ∃ g cap, v = .slice (some ⟨g, 0, none⟩) n cap ∧ n ≤ cap ∧ ∀ (j : Nat) (u : Value), xs[j]? = some u → w.cell? ⟨g, 0 + j, none⟩ = some u := by
  obtain ⟨_, ⟨_, r2⟩ | ⟨g, cp, cur, r1, _, hbk, hle, _, _, ht⟩⟩ := h
  · omega
  · refine ⟨g, cp, r1, hle, fun j u hj => ?_⟩
    rw [cells_of_block hbk, Nat.zero_add]
    rw [← ht, List.getElem?_take] at hj
    split at hj
    · simpa using hj
    · cases hj

end Go.Proofs.YtgfoogeiancecaaGreatDoor

