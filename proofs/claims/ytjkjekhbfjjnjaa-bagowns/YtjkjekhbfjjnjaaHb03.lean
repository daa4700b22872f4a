import Derived.Test.YtjkjekhbfjjnjaaHb02
/- Rows of one's own, of any element: what append makes of one, and that its row is the old one, or new. -/
namespace Go.Proofs.Ytjkjekhbfjjnjaa
open Go.RowKit
set_option maxRecDepth 100000
set_option linter.unusedSimpArgs false

theorem run_append_own2 (w : World) (base : Nat) (t ty e : TypeId) (i : TypeInfo) (z : Value) (size bytes : Nat) (ht : Try.prog.underlying t = some (.slice e)) (hi : Try.prog.info? e = some i) (hz : i.zero = some z)
    (hsize : i.size = size) (hby : i.bytes = bytes) (hzs : z.cells.size = size) (hsz : 0 < size) (v : Value) (n : Nat) (xs : List Value) (hown : w.ownsRow base e size v n xs)
    (a : Addr) (m c : Nat) (news : List Value) (hl : news.length = m * size) (hnews : ∀ j u, news[j]? = some u → w.cell? (a.add j) = some u) (h1 : ∀ u ∈ news, u.oneCell' = true)
    (h63 : n + m ≤ maxLen) (hbytes : (n + m) * bytes ≤ 140737488355328) (hbase : base ≤ w.heap.size) :
    ∃ v' w', (Builtin.append_ #[t, t] ty #[v, .slice (some a) m c]).run Try.prog w = .ok v' w' ∧ w'.ownsRow base e size v' (n + m) (xs ++ news) ∧ w.grownBy w' v.ownBlock ∧ ∀ k, v'.ownBlock = some k → v.ownBlock = some k ∨ w.heap.size ≤ k := by
  obtain ⟨v', w', hrun, hown', hg, _⟩ := run_append_own (P := Try.prog) w base t ty e i z size bytes ht hi hz hsize hby hzs hsz v n xs hown a m c news hl hnews h1 h63 hbytes hbase
  refine ⟨v', w', hrun, hown', hg, fun k hk => ?_⟩
  obtain ⟨hxl, ⟨rfl, rfl⟩ | ⟨g, cp, cur, rfl, hgg, hbk, hle, hcm, hcs, htk⟩⟩ := hown
  · obtain ⟨v2, w2, hrun2, hown2, _⟩ := run_append_own (P := Try.prog) w w.heap.size t ty e i z size bytes ht hi hz hsize hby hzs hsz (.slice none 0 0) 0 [] (World.ownsRow_nil w _ _ size) a m c news hl hnews h1 h63 hbytes (Nat.le_refl _)
    cases hrun.symm.trans hrun2
    exact .inr (World.ownsRow.lt hown2 k hk).1
  · by_cases hroom : n + m ≤ cp
    · have hrun2 := run_append_room_cells (P := Try.prog) w t ty e i ht hi g 0 n cp a m c news (by rw [hsize]; exact hl) hnews h1 hroom
        (fun j hj => by
          rw [hsize, cells_of_block hbk, Array.getElem?_eq_getElem (by
            rw [hcs]
            have : (n + m) * size ≤ cp * size := Nat.mul_le_mul_right _ hroom
            rw [Nat.add_mul] at this
            omega)]
          rfl)
        (fun j _ => by simp [World.frozen?, hbk])
      cases hrun.symm.trans hrun2
      exact .inl hk
    · obtain ⟨v2, w2, hrun2, hown2, _⟩ := run_append_arg_grows (P := Try.prog) w t ty e i z size bytes ht hi hz hsize hby hzs hsz ⟨g, 0, none⟩ n cp xs hxl
        (fun j u hj => by
          rw [Addr.add_lit, cells_of_block hbk, Nat.zero_add]
          rw [← htk, List.getElem?_take] at hj
          split at hj
          · simpa using hj
          · cases hj)
        a m c news hl hnews (by omega) h63 hbytes
      cases hrun.symm.trans hrun2
      exact .inr (World.ownsRow.lt hown2 k hk).1

theorem ownsRow_below {n₀ : Nat} {w w' : World} {e : TypeId} {size : Nat} {v : Value} {n : Nat} {xs : List Value} (h : w.ownsRow n₀ e size v n xs) (hb : Below w.heap.size w w') : w'.ownsRow n₀ e size v n xs := by
  obtain ⟨h0, h1 | ⟨g, cap, cur, e1, hg, hbk, r⟩⟩ := h
  · exact ⟨h0, .inl h1⟩
  · exact ⟨h0, .inr ⟨g, cap, cur, e1, hg, (hb.block g (Array.getElem?_eq_some_iff.1 hbk).1).trans hbk, r⟩⟩
theorem ownsRow_grown {n₀ : Nat} {w w' : World} {e : TypeId} {size : Nat} {v : Value} {n : Nat} {xs : List Value} {row : Option Nat} (h : w.ownsRow n₀ e size v n xs) (hg : w.grownBy w' row) (hr : ∀ k, v.ownBlock = some k → row ≠ some k) : w'.ownsRow n₀ e size v n xs := by
  obtain ⟨h0, h1 | ⟨g, cap, cur, e1, hgg, hbk, r⟩⟩ := h
  · exact ⟨h0, .inl h1⟩
  · subst e1
    exact ⟨h0, .inr ⟨g, cap, cur, rfl, hgg, (hg.block g (Array.getElem?_eq_some_iff.1 hbk).1 (fun e => hr g rfl e.symm)).trans hbk, r⟩⟩
theorem ownsRow_grown_alloc {w : World} (o : Obj) : w.grownBy (w.alloc o) none := ⟨rfl, rfl, rfl, by simp, fun i hi _ => by rw [heap_alloc_old _ _ hi]⟩

theorem Bs.grown2 [Keep] {n₀ : Nat} {w w' : World} {v : Value} {l : List Nat} {row : Option Nat} (h : Bs n₀ w v l) (hg : w.grownBy w' row) (hr : l ≠ [] → ∀ k, v.ownBlock = some k → row ≠ some k) : Bs n₀ w' v l := by
  by_cases hl : l = []
  · subst hl
    obtain ⟨ao, cap, rfl, h2, h3, h4, _⟩ := h
    exact ⟨ao, cap, rfl, h2, h3, h4, fun h => absurd rfl h⟩
  · exact h.grown hg (hr hl)

/-- A list of byte slices, each known by its bytes, away from the blocks that 'ex' bars. -/
def Els [Keep] (n₀ : Nat) (w : World) (ex : Nat → Prop) (cs : List Value) (ds : List (List Nat)) : Prop :=
  cs.length = ds.length ∧ ∀ (i : Nat) (sv : Value) (d : List Nat), cs[i]? = some sv → ds[i]? = some d → Bs w.heap.size w sv d ∧ (d ≠ [] → ∀ k, sv.ownBlock = some k → n₀ ≤ k ∧ k < w.heap.size ∧ ¬ ex k)

theorem Els.nil [Keep] (n₀ : Nat) (w : World) (ex : Nat → Prop) : Els n₀ w ex [] [] := ⟨rfl, fun i sv d h => by simp at h⟩
theorem Els.below [Keep] {n₀ : Nat} {w w' : World} {ex : Nat → Prop} {cs : List Value} {ds : List (List Nat)} (h : Els n₀ w ex cs ds) (hb : Below w.heap.size w w') : Els n₀ w' ex cs ds :=
  ⟨h.1, fun i sv d h1 h2 => by
    obtain ⟨h3, h4⟩ := h.2 i sv d h1 h2
    exact ⟨(h3.below hb).mono hb.size, fun hne k hk => ⟨(h4 hne k hk).1, Nat.lt_of_lt_of_le (h4 hne k hk).2.1 hb.size, (h4 hne k hk).2.2⟩⟩⟩
theorem Els.grown [Keep] {n₀ : Nat} {w w' : World} {ex ex' : Nat → Prop} {cs : List Value} {ds : List (List Nat)} {row : Option Nat} (h : Els n₀ w ex cs ds) (hg : w.grownBy w' row) (hr : ∀ k, row = some k → ex k) (hx : ∀ k, ex' k → ex k ∨ w.heap.size ≤ k) : Els n₀ w' ex' cs ds :=
  ⟨h.1, fun i sv d h1 h2 => by
    obtain ⟨h3, h4⟩ := h.2 i sv d h1 h2
    exact ⟨(h3.grown2 hg (fun hne k hk e => (h4 hne k hk).2.2 (hr k e))).mono hg.size, fun hne k hk => ⟨(h4 hne k hk).1, Nat.lt_of_lt_of_le (h4 hne k hk).2.1 hg.size, fun hk' => by
      rcases hx k hk' with h | h
      · exact (h4 hne k hk).2.2 h
      · have := (h4 hne k hk).2.1; omega⟩⟩⟩
theorem Els.snoc [Keep] {n₀ : Nat} {w : World} {ex : Nat → Prop} {cs : List Value} {ds : List (List Nat)} (h : Els n₀ w ex cs ds) {sv : Value} {d : List Nat} (hB : Bs w.heap.size w sv d) (hk : d ≠ [] → ∀ k, sv.ownBlock = some k → n₀ ≤ k ∧ k < w.heap.size ∧ ¬ ex k) : Els n₀ w ex (cs ++ [sv]) (ds ++ [d]) :=
  ⟨by simp [h.1], fun i sv' d' h1 h2 => by
    by_cases hi : i < cs.length
    · rw [List.getElem?_append_left hi] at h1
      rw [List.getElem?_append_left (by rw [← h.1]; exact hi)] at h2
      exact h.2 i sv' d' h1 h2
    · rw [List.getElem?_append_right (by omega)] at h1
      rw [List.getElem?_append_right (by rw [← h.1]; omega), ← h.1] at h2
      by_cases h0 : i - cs.length = 0
      · rw [h0] at h1 h2
        simp only [List.getElem?_cons_zero, Option.some.injEq] at h1 h2
        subst h1 h2
        exact ⟨hB, hk⟩
      · obtain ⟨j, hj⟩ : ∃ j, i - cs.length = j + 1 := ⟨i - cs.length - 1, by omega⟩
        rw [hj] at h1
        simp at h1⟩

theorem wpList_append_own2 {w : World} {ops : Array Oper} {rest : List Oper} {o : Oper} {a : Act} {Q : Exit → Act → World → Prop} (hgd : o.guard = none) (s x : Operand) (t e : TypeId)
    (ho : o.op = .call { callee := .builtin .append, args := #[s, x], argTypes := #[t, t] })
    (base : Nat) (i : TypeInfo) (z : Value) (size bytes : Nat) (ht : Try.prog.underlying t = some (.slice e)) (hi : Try.prog.info? e = some i) (hz : i.zero = some z)
    (hsize : i.size = size) (hby : i.bytes = bytes) (hzs : z.cells.size = size) (hsz : 0 < size) (v : Value) (n : Nat) (xs : List Value) (hs : a.eval s = v) (hown : w.ownsRow base e size v n xs)
    (ad : Addr) (m c : Nat) (news : List Value) (hx : a.eval x = .slice (some ad) m c) (hl : news.length = m * size) (hnews : ∀ j u, news[j]? = some u → w.cell? (ad.add j) = some u) (h1 : ∀ u ∈ news, u.oneCell' = true)
    (h63 : n + m ≤ maxLen) (hbytes : (n + m) * bytes ≤ 140737488355328) (hbase : base ≤ w.heap.size)
    (h : ∀ v' w', w'.ownsRow base e size v' (n + m) (xs ++ news) → w.grownBy w' v.ownBlock → (∀ k, v'.ownBlock = some k → v.ownBlock = some k ∨ w.heap.size ≤ k) → wpList Try.prog ops Q rest (a.put o.dst v') w') : wpList Try.prog ops Q (o :: rest) a w := by
  obtain ⟨v', w', hrun, r1, r2, r3⟩ := run_append_own2 w base t o.type e i z size bytes ht hi hz hsize hby hzs hsz v n xs hown ad m c news hl hnews h1 h63 hbytes hbase
  refine wpList_plain hgd fun K hK' => ?_
  unfold Oper.wp
  simp [execOp, ho, resolve, invoke, builtin, hs, hx, hrun, Result.andThen]
  exact hK' _ _ (h v' w' r1 r2 r3)

theorem Bs.one [Keep] {n₀ : Nat} {w : World} {v : Value} {l : List Nat} (h : Bs n₀ w v l) : v.oneCell' = true := by
  obtain ⟨ao, cap, rfl, _⟩ := h
  rfl

theorem row_cell {n₀ : Nat} {w : World} {e : TypeId} {size : Nat} {v : Value} {n : Nat} {xs : List Value} (h : w.ownsRow n₀ e size v n xs) (hn : 0 < n) : ∃ g cap, v = .slice (some ⟨g, 0, none⟩) n cap ∧ n ≤ cap ∧ ∀ (j : Nat) (u : Value), xs[j]? = some u → w.cell? ⟨g, 0 + j, none⟩ = some u := by
  obtain ⟨_, ⟨_, r2⟩ | ⟨g, cp, cur, r1, _, hbk, hle, _, _, ht⟩⟩ := h
  · omega
  · refine ⟨g, cp, r1, hle, fun j u hj => ?_⟩
    rw [cells_of_block hbk, Nat.zero_add]
    rw [← ht, List.getElem?_take] at hj
    split at hj
    · simpa using hj
    · cases hj

end Go.Proofs.Ytjkjekhbfjjnjaa

