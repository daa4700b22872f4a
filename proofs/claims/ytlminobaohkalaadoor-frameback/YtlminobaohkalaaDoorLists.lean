/- Rows of one's own, of any element: what append makes of one, and that its row is the old one, or new; lists of frames (kinds and bytes) in memory of the call's own. -/
import Derived.Test.YtlminobaohkalaaDoorPuts
namespace Go.Proofs.YtlminobaohkalaaDoor
open Go.RowKit WireMath CrcMath FrameMath
set_option maxRecDepth 100000
set_option linter.unusedSimpArgs false

theorem run_append_own2 (w : World) (base : Nat) (t ty e : TypeId) (i : TypeInfo) (z : Value) (size bytes : Nat) (ht : Tryd.prog.underlying t = some (.slice e)) (hi : Tryd.prog.info? e = some i) (hz : i.zero = some z)
    (hsize : i.size = size) (hby : i.bytes = bytes) (hzs : z.cells.size = size) (hsz : 0 < size) (v : Value) (n : Nat) (xs : List Value) (hown : w.ownsRow base e size v n xs)
    (a : Addr) (m c : Nat) (news : List Value) (hl : news.length = m * size) (hnews : ∀ j u, news[j]? = some u → w.cell? (a.add j) = some u) (h1 : ∀ u ∈ news, u.oneCell' = true)
    (h63 : n + m ≤ maxLen) (hbytes : (n + m) * bytes ≤ 140737488355328) (hbase : base ≤ w.heap.size) :
    ∃ v' w', (Builtin.append_ #[t, t] ty #[v, .slice (some a) m c]).run Tryd.prog w = .ok v' w' ∧ w'.ownsRow base e size v' (n + m) (xs ++ news) ∧ w.grownBy w' v.ownBlock ∧ ∀ k, v'.ownBlock = some k → v.ownBlock = some k ∨ w.heap.size ≤ k := by
  obtain ⟨v', w', hrun, hown', hg, _⟩ := run_append_own (P := Tryd.prog) w base t ty e i z size bytes ht hi hz hsize hby hzs hsz v n xs hown a m c news hl hnews h1 h63 hbytes hbase
  refine ⟨v', w', hrun, hown', hg, fun k hk => ?_⟩
  obtain ⟨hxl, ⟨rfl, rfl⟩ | ⟨g, cp, cur, rfl, hgg, hbk, hle, hcm, hcs, htk⟩⟩ := hown
  · obtain ⟨v2, w2, hrun2, hown2, _⟩ := run_append_own (P := Tryd.prog) w w.heap.size t ty e i z size bytes ht hi hz hsize hby hzs hsz (.slice none 0 0) 0 [] (World.ownsRow_nil w _ _ size) a m c news hl hnews h1 h63 hbytes (Nat.le_refl _)
    cases hrun.symm.trans hrun2
    exact .inr (World.ownsRow.lt hown2 k hk).1
  · by_cases hroom : n + m ≤ cp
    · have hrun2 := run_append_room_cells (P := Tryd.prog) w t ty e i ht hi g 0 n cp a m c news (by rw [hsize]; exact hl) hnews h1 hroom
        (fun j hj => by
          rw [hsize, cells_of_block hbk, Array.getElem?_eq_getElem (by
            rw [hcs]
            have : (n + m) * size ≤ cp * size := Nat.mul_le_mul_right _ hroom
            rw [Nat.add_mul] at this
            omega)]
          rfl)
        (fun j _ => by simp [World.frozen?, hbk])
      cases hrun.symm.trans hrun2
      exact .inl hk
    · obtain ⟨v2, w2, hrun2, hown2, _⟩ := run_append_arg_grows (P := Tryd.prog) w t ty e i z size bytes ht hi hz hsize hby hzs hsz ⟨g, 0, none⟩ n cp xs hxl
        (fun j u hj => by
          rw [Addr.add_lit, cells_of_block hbk, Nat.zero_add]
          rw [← htk, List.getElem?_take] at hj
          split at hj
          · simpa using hj
          · cases hj)
        a m c news hl hnews (by omega) h63 hbytes
      cases hrun.symm.trans hrun2
      exact .inr (World.ownsRow.lt hown2 k hk).1

theorem infoSl : (Tryd.prog.info? 22).map (fun i => (i.zero, i.size, i.bytes)) = some (some (.slice none 0 0), 1, 24) := by kernel_rfl
theorem infoItem : (Tryd.prog.info? 32).map (fun i => (i.zero, i.size, i.bytes)) = some (some (.agg #[.int .u8 0, .slice none 0 0]), 2, 32) := by kernel_rfl

theorem ownsRow_below {n₀ : Nat} {w w' : World} {e : TypeId} {size : Nat} {v : Value} {n : Nat} {xs : List Value} (h : w.ownsRow n₀ e size v n xs) (hb : Below w.heap.size w w') : w'.ownsRow n₀ e size v n xs := by
  obtain ⟨h0, h1 | ⟨g, cap, cur, e1, hg, hbk, r⟩⟩ := h
  · exact ⟨h0, .inl h1⟩
  · exact ⟨h0, .inr ⟨g, cap, cur, e1, hg, (hb.block g (Array.getElem?_eq_some_iff.1 hbk).1).trans hbk, r⟩⟩
theorem ownsRow_grown {n₀ : Nat} {w w' : World} {e : TypeId} {size : Nat} {v : Value} {n : Nat} {xs : List Value} {row : Option Nat} (h : w.ownsRow n₀ e size v n xs) (hg : w.grownBy w' row) (hr : ∀ k, v.ownBlock = some k → row ≠ some k) : w'.ownsRow n₀ e size v n xs := by
  obtain ⟨h0, h1 | ⟨g, cap, cur, e1, hgg, hbk, r⟩⟩ := h
  · exact ⟨h0, .inl h1⟩
  · subst e1
    exact ⟨h0, .inr ⟨g, cap, cur, rfl, hgg, (hg.block g (Array.getElem?_eq_some_iff.1 hbk).1 (fun e => hr g rfl e.symm)).trans hbk, r⟩⟩
theorem ownsRow_grown_alloc {w : World} (o : Obj) : w.grownBy (w.alloc o) none := ⟨rfl, rfl, rfl, by simp, fun i hi _ => by rw [heap_alloc_old _ _ hi]⟩

theorem Bs.grown2 {n₀ : Nat} {w w' : World} {v : Value} {l : List Nat} {row : Option Nat} (h : Bs n₀ w v l) (hg : w.grownBy w' row) (hr : l ≠ [] → ∀ k, v.ownBlock = Option.some k → row ≠ Option.some k) : Bs n₀ w' v l := by
  by_cases hl : l = []
  · subst hl
    obtain ⟨ao, cap, rfl, h2, h3, h4, _⟩ := h
    exact ⟨ao, cap, rfl, h2, h3, h4, fun h => absurd rfl h⟩
  · exact h.grown hg (hr hl)

/-- A list of byte slices, each known by its bytes, away from the blocks that 'ex' bars. -/
def Els (n₀ : Nat) (w : World) (ex : Nat → Prop) (cs : List Value) (ds : List (List Nat)) : Prop :=
  cs.length = ds.length ∧ ∀ (i : Nat) (sv : Value) (d : List Nat), cs[i]? = some sv → ds[i]? = some d → Bs w.heap.size w sv d ∧ (d ≠ [] → ∀ k, sv.ownBlock = some k → n₀ ≤ k ∧ k < w.heap.size ∧ ¬ ex k)

theorem Els.nil (n₀ : Nat) (w : World) (ex : Nat → Prop) : Els n₀ w ex [] [] := ⟨rfl, fun i sv d h => by simp at h⟩
theorem Els.below {n₀ : Nat} {w w' : World} {ex : Nat → Prop} {cs : List Value} {ds : List (List Nat)} (h : Els n₀ w ex cs ds) (hb : Below w.heap.size w w') : Els n₀ w' ex cs ds :=
  ⟨h.1, fun i sv d h1 h2 => by
    obtain ⟨h3, h4⟩ := h.2 i sv d h1 h2
    exact ⟨(h3.below hb).mono hb.size, fun hne k hk => ⟨(h4 hne k hk).1, Nat.lt_of_lt_of_le (h4 hne k hk).2.1 hb.size, (h4 hne k hk).2.2⟩⟩⟩
theorem Els.grown {n₀ : Nat} {w w' : World} {ex ex' : Nat → Prop} {cs : List Value} {ds : List (List Nat)} {row : Option Nat} (h : Els n₀ w ex cs ds) (hg : w.grownBy w' row) (hr : ∀ k, row = some k → ex k) (hx : ∀ k, ex' k → ex k ∨ w.heap.size ≤ k) : Els n₀ w' ex' cs ds :=
  ⟨h.1, fun i sv d h1 h2 => by
    obtain ⟨h3, h4⟩ := h.2 i sv d h1 h2
    exact ⟨(h3.grown2 hg (fun hne k hk e => (h4 hne k hk).2.2 (hr k e))).mono hg.size, fun hne k hk => ⟨(h4 hne k hk).1, Nat.lt_of_lt_of_le (h4 hne k hk).2.1 hg.size, fun hk' => by
      rcases hx k hk' with h | h
      · exact (h4 hne k hk).2.2 h
      · have := (h4 hne k hk).2.1; omega⟩⟩⟩
theorem Els.snoc {n₀ : Nat} {w : World} {ex : Nat → Prop} {cs : List Value} {ds : List (List Nat)} (h : Els n₀ w ex cs ds) {sv : Value} {d : List Nat} (hB : Bs w.heap.size w sv d) (hk : d ≠ [] → ∀ k, sv.ownBlock = some k → n₀ ≤ k ∧ k < w.heap.size ∧ ¬ ex k) : Els n₀ w ex (cs ++ [sv]) (ds ++ [d]) :=
  ⟨by simp [h.1], fun i sv' d' h1 h2 => by
    by_cases hi : i < cs.length
    · rw [List.getElem?_append_left hi] at h1
      rw [List.getElem?_append_left (by rw [← h.1]; exact hi)] at h2
      exact h.2 i sv' d' h1 h2
    · rw [List.getElem?_append_right (by omega)] at h1
      rw [List.getElem?_append_right (by rw [← h.1]; omega), ← h.1] at h2
      by_cases h0 : i - cs.length = 0
      · rw [h0] at h1 h2
        simp only [List.getElem?_cons_zero, Option.some.injEq] at h1 h2
        subst h1 h2
        exact ⟨hB, hk⟩
      · obtain ⟨j, hj⟩ : ∃ j, i - cs.length = j + 1 := ⟨i - cs.length - 1, by omega⟩
        rw [hj] at h1
        simp at h1⟩

theorem wpList_append_own2 {w : World} {ops : Array Oper} {rest : List Oper} {o : Oper} {a : Act} {Q : Exit → Act → World → Prop} (hgd : o.guard = none) (s x : Operand) (t e : TypeId)
    (ho : o.op = .call { callee := .builtin .append, args := #[s, x], argTypes := #[t, t] })
    (base : Nat) (i : TypeInfo) (z : Value) (size bytes : Nat) (ht : Tryd.prog.underlying t = some (.slice e)) (hi : Tryd.prog.info? e = some i) (hz : i.zero = some z)
    (hsize : i.size = size) (hby : i.bytes = bytes) (hzs : z.cells.size = size) (hsz : 0 < size) (v : Value) (n : Nat) (xs : List Value) (hs : a.eval s = v) (hown : w.ownsRow base e size v n xs)
    (ad : Addr) (m c : Nat) (news : List Value) (hx : a.eval x = .slice (some ad) m c) (hl : news.length = m * size) (hnews : ∀ j u, news[j]? = some u → w.cell? (ad.add j) = some u) (h1 : ∀ u ∈ news, u.oneCell' = true)
    (h63 : n + m ≤ maxLen) (hbytes : (n + m) * bytes ≤ 140737488355328) (hbase : base ≤ w.heap.size)
    (h : ∀ v' w', w'.ownsRow base e size v' (n + m) (xs ++ news) → w.grownBy w' v.ownBlock → (∀ k, v'.ownBlock = some k → v.ownBlock = some k ∨ w.heap.size ≤ k) → wpList Tryd.prog ops Q rest (a.put o.dst v') w') : wpList Tryd.prog ops Q (o :: rest) a w := by
  obtain ⟨v', w', hrun, r1, r2, r3⟩ := run_append_own2 w base t o.type e i z size bytes ht hi hz hsize hby hzs hsz v n xs hown ad m c news hl hnews h1 h63 hbytes hbase
  refine wpList_plain hgd fun K hK' => ?_
  unfold Oper.wp
  simp [execOp, ho, resolve, invoke, builtin, hs, hx, hrun, Result.andThen]
  exact hK' _ _ (h v' w' r1 r2 r3)

/-- Frames, their kinds at kv and their bytes at dv, all in memory from block n₀ on. -/
def Fs (n₀ : Nat) (w : World) (kv dv : Value) (fs : List (Nat × List Nat)) : Prop :=
  ∃ cs, Own n₀ w kv (fs.map Prod.fst) ∧ w.ownsRow n₀ 22 1 dv fs.length cs ∧ (∀ k, kv.ownBlock = some k → dv.ownBlock ≠ some k) ∧ Els n₀ w (fun k => kv.ownBlock = some k ∨ dv.ownBlock = some k) cs (fs.map Prod.snd)
/-- The same, with the next kind there already, and the next bytes at sv. -/
def Fm (n₀ : Nat) (w : World) (kv dv : Value) (fs : List (Nat × List Nat)) (c : Nat) (sv : Value) (d : List Nat) : Prop :=
  ∃ cs, Own n₀ w kv (fs.map Prod.fst ++ [c]) ∧ w.ownsRow n₀ 22 1 dv fs.length cs ∧ (∀ k, kv.ownBlock = some k → dv.ownBlock ≠ some k) ∧ Els n₀ w (fun k => kv.ownBlock = some k ∨ dv.ownBlock = some k) cs (fs.map Prod.snd) ∧
    Bs w.heap.size w sv d ∧ (d ≠ [] → ∀ k, sv.ownBlock = some k → n₀ ≤ k ∧ k < w.heap.size ∧ ¬ (kv.ownBlock = some k ∨ dv.ownBlock = some k))

theorem Fs.nil (n₀ : Nat) (w : World) : Fs n₀ w (.slice none 0 0) (.slice none 0 0) [] := ⟨[], Own.nil _ _, World.ownsRow_nil w _ _ 1, (fun k h => by cases h), Els.nil _ _ _⟩
theorem Fs.below {n₀ : Nat} {w w' : World} {kv dv : Value} {fs : List (Nat × List Nat)} (h : Fs n₀ w kv dv fs) (hb : Below w.heap.size w w') : Fs n₀ w' kv dv fs := by
  obtain ⟨cs, h1, h2, h3, h4⟩ := h
  exact ⟨cs, h1.below hb, ownsRow_below h2 hb, h3, h4.below hb⟩
theorem Fs.mono {n₀ n₁ : Nat} {w : World} {kv dv : Value} {fs : List (Nat × List Nat)} (h : Fs n₀ w kv dv fs) (hn : n₁ ≤ n₀) : Fs n₁ w kv dv fs := by
  obtain ⟨cs, h1, h2, h3, h4⟩ := h
  exact ⟨cs, h1.mono hn, ⟨h2.1, h2.2.imp id fun ⟨g, cap, cur, r1, r2, r3⟩ => ⟨g, cap, cur, r1, Nat.le_trans hn r2, r3⟩⟩, h3, h4.1, fun i sv d e1 e2 => ⟨(h4.2 i sv d e1 e2).1, fun hne k hk => ⟨Nat.le_trans hn ((h4.2 i sv d e1 e2).2 hne k hk).1, ((h4.2 i sv d e1 e2).2 hne k hk).2⟩⟩⟩
theorem Fs.shapes {n₀ : Nat} {w : World} {kv dv : Value} {fs : List (Nat × List Nat)} (h : Fs n₀ w kv dv fs) : (∃ ao cap, kv = .slice ao fs.length cap) ∧ ∃ ao cap, dv = .slice ao fs.length cap := by
  obtain ⟨cs, h1, h2, _⟩ := h
  obtain ⟨ao, cap, e⟩ := h1.shape
  rw [List.length_map] at e
  refine ⟨⟨ao, cap, e⟩, ?_⟩
  obtain ⟨_, ⟨r1, r2⟩ | ⟨g, cp, _, r1, _⟩⟩ := h2
  · exact ⟨none, 0, by rw [r1, r2]⟩
  · exact ⟨_, _, r1⟩

theorem Bs.one {n₀ : Nat} {w : World} {v : Value} {l : List Nat} (h : Bs n₀ w v l) : v.oneCell' = true := by
  obtain ⟨ao, cap, rfl, _⟩ := h
  rfl

set_option maxHeartbeats 1000000 in
theorem wp_push_kind {w : World} {ops : Array Oper} {rest : List Oper} {o : Oper} {a : Act} {Q : Exit → Act → World → Prop} (hgd : o.guard = none) (s x : Operand)
    (ho : o.op = .call { callee := .builtin .append, args := #[s, x], argTypes := #[22, 22] })
    (n₀ : Nat) (kv dv : Value) (fs : List (Nat × List Nat)) (c : Nat) (sv : Value) (d : List Nat) (hF : Fs n₀ w kv dv fs) (hn₀ : n₀ ≤ w.heap.size) (hlen : fs.length ≤ 1000000)
    (hB : Bs w.heap.size w sv d) (hk : d ≠ [] → ∀ k, sv.ownBlock = some k → n₀ ≤ k ∧ k < w.heap.size ∧ ¬ (kv.ownBlock = some k ∨ dv.ownBlock = some k))
    (hs : a.eval s = kv) (hx : a.eval x = .slice (some ⟨w.heap.size, 0, none⟩) 1 1)
    (h : ∀ kv' w', Fm n₀ w' kv' dv fs c sv d → Below n₀ w w' → wpList Tryd.prog ops Q rest (a.put o.dst kv') w') : wpList Tryd.prog ops Q (o :: rest) a (w.alloc (.cells #[.int .u8 (c : Int)] 5)) := by
  obtain ⟨i0, hi, hz0, hz1, hz2⟩ := info_parts infoByte
  have hb1 := (Below.refl w.heap.size w).alloc (Nat.le_refl _) (.cells #[.int .u8 (c : Int)] 5)
  obtain ⟨cs, h1, h2, h3, h4⟩ := hF.below hb1
  have hB1 := (hB.below hb1).mono hb1.size
  have hsz := hb1.size
  have h1l : (fs.map Prod.fst).length + 1 ≤ 1000001 := by rw [List.length_map]; omega
  refine wpList_append_own2 hgd s x 22 5 ho n₀ i0 (.int .u8 0) 1 1 Tryd.underlying22 hi hz0 hz1 hz2 rfl (by decide) kv (fs.map Prod.fst).length (bc (fs.map Prod.fst)) hs h1
    ⟨w.heap.size, 0, none⟩ 1 1 (bc [c]) hx rfl (cells_new w _ [c] rfl) bc_one (by unfold maxLen; omega) (by omega) (Nat.le_trans hn₀ hsz) ?_
  intro kv' w' hO hg hfr
  refine h kv' w' ⟨cs, ?_, ?_, ?_, ?_, ?_, ?_⟩ ?_
  · show w'.ownsRow n₀ _ 1 kv' (fs.map Prod.fst ++ [c]).length (bc (fs.map Prod.fst ++ [c]))
    rw [bc_append, List.length_append]
    exact hO
  · exact ownsRow_grown h2 hg (fun k hk' e => h3 k e hk')
  · intro k hk' e
    rcases hfr k hk' with hx' | hx'
    · exact h3 k hx' e
    · have := (World.ownsRow.lt h2 k e).2
      omega
  · refine h4.grown hg (fun k e => .inl e) ?_
    intro k hk'
    rcases hk' with hk' | hk'
    · rcases hfr k hk' with hx' | hx'
      · exact .inl (.inl hx')
      · exact .inr hx'
    · exact .inl (.inr hk')
  · exact (hB1.grown2 hg (fun hne k hk' e => (hk hne k hk').2.2 (.inl e))).mono hg.size
  · intro hne k hk'
    obtain ⟨q1, q2, q3⟩ := hk hne k hk'
    refine ⟨q1, Nat.lt_of_lt_of_le q2 (Nat.le_trans hsz hg.size), fun hor => ?_⟩
    rcases hor with hor | hor
    · rcases hfr k hor with hx' | hx'
      · exact q3 (.inl hx')
      · omega
    · exact q3 (.inr hor)
  · exact (hb1.mono hn₀).trans ((Below.refl n₀ _).grown hg (Nat.le_trans hn₀ hsz) (fun k hk => (World.ownsRow.lt h1 k hk).1))

set_option maxHeartbeats 1000000 in
theorem wp_push_data {w : World} {ops : Array Oper} {rest : List Oper} {o : Oper} {a : Act} {Q : Exit → Act → World → Prop} (hgd : o.guard = none) (s x : Operand)
    (ho : o.op = .call { callee := .builtin .append, args := #[s, x], argTypes := #[36, 36] })
    (n₀ : Nat) (kv dv : Value) (fs : List (Nat × List Nat)) (c : Nat) (sv : Value) (d : List Nat) (hF : Fm n₀ w kv dv fs c sv d) (hn₀ : n₀ ≤ w.heap.size) (hlen : fs.length ≤ 1000000)
    (hs : a.eval s = dv) (hx : a.eval x = .slice (some ⟨w.heap.size, 0, none⟩) 1 1)
    (h : ∀ dv' w', Fs n₀ w' kv dv' (fs ++ [(c, d)]) → Below n₀ w w' → wpList Tryd.prog ops Q rest (a.put o.dst dv') w') : wpList Tryd.prog ops Q (o :: rest) a (w.alloc (.cells #[sv] 22)) := by
  obtain ⟨i0, hi, hz0, hz1, hz2⟩ := info_parts infoSl
  have hb1 := (Below.refl w.heap.size w).alloc (Nat.le_refl _) (.cells #[sv] 22)
  obtain ⟨cs, g1, g2, h3, g4, g5, hk⟩ := hF
  have h1 := g1.below hb1
  have h2 := ownsRow_below g2 hb1
  have h4 := g4.below hb1
  have hB1 := (g5.below hb1).mono hb1.size
  have hsz := hb1.size
  refine wpList_append_own2 hgd s x 36 22 ho n₀ i0 (.slice none 0 0) 1 24 Tryd.underlying36 hi hz0 hz1 hz2 rfl (by decide) dv fs.length cs hs h2
    ⟨w.heap.size, 0, none⟩ 1 1 [sv] hx rfl ?_ (by intro u hu; rw [List.mem_singleton.1 hu]; exact g5.one) (by unfold maxLen; omega) (by omega) (Nat.le_trans hn₀ hsz) ?_
  · intro j u hj
    rw [Addr.add_lit, cells_of_block (heap_alloc_new w _), Nat.zero_add, ← Array.getElem?_toList]
    exact hj
  intro dv' w' hO hg hfr
  have hbar : ∀ k, (kv.ownBlock = some k ∨ dv'.ownBlock = some k) → (kv.ownBlock = some k ∨ dv.ownBlock = some k) ∨ (w.alloc (.cells #[sv] 22)).heap.size ≤ k := by
    intro k hk'
    rcases hk' with hk' | hk'
    · exact .inl (.inl hk')
    · rcases hfr k hk' with hx' | hx'
      · exact .inl (.inr hx')
      · exact .inr hx'
  refine h dv' w' ⟨cs ++ [sv], ?_, ?_, ?_, ?_⟩ ?_
  · rw [List.map_append]
    exact ownsRow_grown h1 hg (fun k hk' e => h3 k hk' e)
  · rw [List.length_append]
    exact hO
  · intro k hk' e
    rcases hfr k e with hx' | hx'
    · exact h3 k hk' hx'
    · have := (World.ownsRow.lt h1 k hk').2
      omega
  · rw [List.map_append]
    refine (h4.grown hg (fun k e => .inr e) hbar).snoc ((hB1.grown2 hg (fun hne k hk' e => (hk hne k hk').2.2 (.inr e))).mono hg.size) ?_
    intro hne k hk'
    obtain ⟨q1, q2, q3⟩ := hk hne k hk'
    refine ⟨q1, Nat.lt_of_lt_of_le q2 (Nat.le_trans hsz hg.size), fun hor => ?_⟩
    rcases hbar k hor with hx' | hx'
    · exact q3 hx'
    · omega
  · exact (hb1.mono hn₀).trans ((Below.refl n₀ _).grown hg (Nat.le_trans hn₀ hsz) (fun k hk => (World.ownsRow.lt h2 k hk).1))
end Go.Proofs.YtlminobaohkalaaDoor
