import Derived.Test.YtjkjekhbfjjnjaaHb28
/- What is stored into the law's model; its contract of out. -/
namespace Go.Proofs.Ytjkjekhbfjjnjaa
open Go.RowKit Go.Maps
set_option maxRecDepth 100000
set_option linter.unusedSimpArgs false
set_option linter.unusedVariables false

/-- What an act with the model leaves. -/
def MDid (w : World) (q : Nat) (lv pv : Value) (l' : List Msg) (ps' : List (Int × Int)) (w' : World) : Prop :=
  ∃ lv' pv', ModAt w' q lv' pv' l' ps' ∧ Kept (MineM q lv pv) w w' ∧ ∀ k, MineM q lv' pv' k → MineM q lv pv k ∨ w.heap.size ≤ k
theorem MDid.same {w : World} {q : Nat} {lv pv : Value} {l : List Msg} {ps : List (Int × Int)} (h : ModAt w q lv pv l ps) {w' : World} (hb : Below w.heap.size w w') : MDid w q lv pv l ps w' := ⟨lv, pv, h.below hb, Below.kept hb, fun k hk => .inl hk⟩
theorem MDid.pre {w w1 w2 : World} {q : Nat} {lv pv : Value} {l : List Msg} {ps : List (Int × Int)} (h : MDid w1 q lv pv l ps w2) (hb : Below w.heap.size w w1) : MDid w q lv pv l ps w2 := by
  obtain ⟨lv', pv', h1, h2, h3⟩ := h
  exact ⟨lv', pv', h1, ⟨h2.os.trans hb.os, h2.tape.trans hb.tape, h2.output.trans hb.output, Nat.le_trans hb.size h2.size, fun k hk hS => (h2.block k (Nat.lt_of_lt_of_le hk hb.size) hS).trans (hb.block k hk)⟩, fun k hk => (h3 k hk).imp id fun h => Nat.le_trans hb.size h⟩
theorem grown_kept {w w1 : World} {v : Value} (hg : w.grownBy w1 v.ownBlock) : Kept (fun b => v.ownBlock = some b) w w1 := ⟨hg.os, hg.tape, hg.output, hg.size, fun k hk hS => hg.block k hk fun e => hS e.symm⟩

/-- Another row of messages, laid into the box. -/
theorem ModAt.storedL {w w1 : World} {q : Nat} {lv pv lv' : Value} {l l' : List Msg} {ps : List (Int × Int)} (h : ModAt w q lv pv l ps) (hk : Kept (fun b => lv.ownBlock = some b) w w1) (hR : Rk msgE w1 39 lv' l') (hn : ∀ k, lv'.ownBlock = some k → lv.ownBlock = some k ∨ w.heap.size ≤ k) :
    MDid w q lv pv l' ps (w1.setCell ⟨q, 0, none⟩ lv') := by
  obtain ⟨n1, n2, n3⟩ := h.ne
  have lq := h.lt q (.inl rfl)
  have hq : w1.heap[q]? = some (.cells #[lv, pv] 29 (0, 0)) := (hk.block q lq n1).trans h.box
  have o : ∀ k, k ≠ q → (w1.setCell ⟨q, 0, none⟩ lv').heap[k]? = w1.heap[k]? := fun k e => Below.heap_setCell _ _ _ _ e
  have nq : lv'.ownBlock ≠ some q := fun e => by
    rcases hn q e with h' | h'
    · exact n1 h'
    · omega
  refine ⟨lv', pv, ⟨?_, hR.same fun k hk => o k (fun e => nq (e ▸ hk)), (h.prow.same fun k hpk => hk.block k (h.prow.lt hpk) (fun e => n3 k e hpk)).same fun k hpk => o k (fun e => n2 (e ▸ hpk)), h.ok⟩, ⟨hk.os, hk.tape, hk.output, by simpa [World.setCell] using hk.size, fun k hkl hS => ?_⟩, ?_⟩
  · simp [World.setCell, Array.getElem?_modify, hq]
  · rw [o k (fun e => hS (.inl e))]
    exact hk.block k hkl fun e => hS (.inr (.inl e))
  · rintro k (h' | h' | h')
    · exact .inl (.inl h')
    · exact (hn k h').imp (fun h => .inr (.inl h)) id
    · exact .inl (.inr (.inr h'))
/-- Another row of pairs, laid into the box. -/
theorem ModAt.storedP {w w1 : World} {q : Nat} {lv pv pv' : Value} {l : List Msg} {ps ps' : List (Int × Int)} (h : ModAt w q lv pv l ps) (hk : Kept (fun b => pv.ownBlock = some b) w w1) (hR : Rk pairE w1 55 pv' ps') (hn : ∀ k, pv'.ownBlock = some k → pv.ownBlock = some k ∨ w.heap.size ≤ k) (hok : ∀ c ∈ ps', i64 c.1 ∧ i64 c.2) :
    MDid w q lv pv l ps' (w1.setCell ⟨q, 1, none⟩ pv') := by
  obtain ⟨n1, n2, n3⟩ := h.ne
  have lq := h.lt q (.inl rfl)
  have hq : w1.heap[q]? = some (.cells #[lv, pv] 29 (0, 0)) := (hk.block q lq n2).trans h.box
  have o : ∀ k, k ≠ q → (w1.setCell ⟨q, 1, none⟩ pv').heap[k]? = w1.heap[k]? := fun k e => Below.heap_setCell _ _ _ _ e
  have nq : pv'.ownBlock ≠ some q := fun e => by
    rcases hn q e with h' | h'
    · exact n2 h'
    · omega
  refine ⟨lv, pv', ⟨?_, (h.lrow.same fun k hpk => hk.block k (h.lrow.lt hpk) (fun e => n3 k hpk e)).same fun k hpk => o k (fun e => n1 (e ▸ hpk)), hR.same fun k hk => o k (fun e => nq (e ▸ hk)), hok⟩, ⟨hk.os, hk.tape, hk.output, by simpa [World.setCell] using hk.size, fun k hkl hS => ?_⟩, ?_⟩
  · simp [World.setCell, Array.getElem?_modify, hq]
  · rw [o k (fun e => hS (.inl e))]
    exact hk.block k hkl fun e => hS (.inr (.inr e))
  · rintro k (h' | h' | h')
    · exact .inl (.inl h')
    · exact .inl (.inr (.inl h'))
    · exact (hn k h').imp (fun h => .inr (.inr h)) id

/-- Some of a row behind one's own. -/
theorem push_some (W : World) (ty : TypeId) (v : Value) (xs ys : List Msg) (h : Rk msgE W 39 v xs) (a : Addr) (c : Nat) (hsrc : ∀ j u, (msgE.flat ys)[j]? = some u → W.cell? (a.add j) = some u) (hlen : xs.length + ys.length ≤ 1000000) :
    ∃ v' w', (Builtin.append_ #[26, 26] ty #[v, .slice (some a) ys.length c]).run Try.prog W = .ok v' w' ∧ Rk msgE w' 39 v' (xs ++ ys) ∧ W.grownBy w' v.ownBlock ∧ ∀ k, v'.ownBlock = some k → v.ownBlock = some k ∨ W.heap.size ≤ k := by
  obtain ⟨i0, hi, hz0, hz1, hz2⟩ := info_parts infoLMsg
  obtain ⟨v', w', hrun, hO, hg, hfr⟩ := run_append_own2 W 0 26 ty 39 i0 _ 3 32 Try.underlying26 hi hz0 hz1 hz2 rfl (by decide) v xs.length (msgE.flat xs) h
    a ys.length c (msgE.flat ys) (El.flat_length _ _) hsrc (El.flat_mem _) (by unfold maxLen; omega) (by omega) (Nat.zero_le _)
  refine ⟨v', w', hrun, ?_, hg, hfr⟩
  unfold Rk
  rw [El.flat_append, List.length_append]
  exact hO

set_option maxHeartbeats 4000000 in
theorem out_of {w : World} {q : Nat} {lv pv : Value} {l : List Msg} {ps : List (Int × Int)} (h : ModAt w q lv pv l ps) (i : Nat) (hi : i < l.length) (hlen : l.length ≤ 100000) :
    Calls Try.prog 22 #[.pointer (some ⟨q, 0, none⟩), .int .i64 (i : Int)] w fun e w' => e = .returned (.tuple #[]) ∧ MDid w q lv pv (l.eraseIdx i) ps w' := by
  obtain ⟨q0, q1, q2⟩ := h.cells
  obtain ⟨n1, n2, n3⟩ := h.ne
  have lq := h.lt q (.inl rfl)
  obtain ⟨g, cap, cur, hlv, hle, hm, hbk, hcs, ht, hcell, hf⟩ := h.lrow.cells (by omega)
  have hgl := (Array.getElem?_eq_some_iff.1 hbk).1
  obtain ⟨n, hn⟩ : ∃ n, n + 1 = l.length := ⟨l.length - 1, by omega⟩
  -- the source cells, in any later world
  have hsrc : ∀ W, Below w.heap.size w W → ∀ (k : Nat) (ys : List Msg), ys.length + k ≤ l.length → ys = (l.drop k).take ys.length → ∀ j u, (msgE.flat ys)[j]? = some u → W.cell? ((⟨g, k * 3, none⟩ : Addr).add j) = some u := fun W hW k ys hk hys j u hj => by
    have hbW : W.heap[g]? = _ := (hW.block g hgl).trans hbk
    have hjl := (List.getElem?_eq_some_iff.1 hj).1
    rw [El.flat_length] at hjl
    have hjl3 : j < ys.length * 3 := hjl
    rw [hys, ← El.flat_take, List.getElem?_take_of_lt (by exact hjl), ← El.flat_drop, ← ht, List.getElem?_drop, List.getElem?_take_of_lt (by show k * 3 + j < l.length * 3; have : (ys.length + k) * 3 ≤ l.length * 3 := Nat.mul_le_mul_right _ hk; rw [Nat.add_mul] at this; omega)] at hj
    rw [Addr.add_lit, cells_of_block hbW]
    simpa using hj
  have e0 : l.take i = (l.drop 0).take (l.take i).length := by rw [List.drop_zero, List.length_take, Nat.min_eq_left (by omega)]
  have l1 : (l.take i).length = i := by rw [List.length_take]; omega
  have l2 : (l.drop (i + 1)).length = n - i := by rw [List.length_drop]; omega
  have hS : ∀ W, Below w.heap.size w W → W.cell? ⟨q, 0, none⟩ = some lv ∧ W.frozen? ⟨q, 0, none⟩ = false := fun W hW => ⟨(hW.cell (p := ⟨q, 0, none⟩) lq).trans q0, by rw [frozen_same 0 (hW.block q lq)]; exact q2 0⟩
  -- the first append
  have kp1 : ∀ W, Below w.heap.size w W → ∀ ty, ∃ v' w', (Builtin.append_ #[26, 26] ty #[.slice (some ⟨W.heap.size, 0, none⟩) 0 0, .slice (some ⟨g, 0, none⟩) i cap]).run Try.prog (W.alloc (.cells #[] 39)) = .ok v' w' ∧ (∃ a c, v' = .slice a i c) ∧ Below w.heap.size w w' ∧ (Rk msgE w' 39 v' (l.take i) ∧ ∀ k, v'.ownBlock = some k → w.heap.size ≤ k) := fun W hW ty => by
    have hWa := hW.alloc hW.size (.cells #[] 39)
    have hE : Rk msgE (W.alloc (.cells #[] 39)) 39 (.slice (some ⟨W.heap.size, 0, none⟩) 0 0) [] := ⟨rfl, .inr ⟨W.heap.size, 0, #[], rfl, Nat.zero_le _, heap_alloc_new W _, Nat.le_refl _, Nat.zero_le _, rfl, rfl⟩⟩
    obtain ⟨v', w', r1, r2, r3, r4⟩ := push_some _ ty _ [] (l.take i) hE ⟨g, 0 * 3, none⟩ cap (hsrc _ hWa 0 (l.take i) (by omega) e0) (by simp; omega)
    rw [l1] at r1
    obtain ⟨a, c, e, -⟩ := r2.shape
    have hnW : ∀ k, k < w.heap.size → some k = (Value.slice (some ⟨W.heap.size, 0, none⟩) 0 0).ownBlock → False := fun k hk e => by
      have e' : k = W.heap.size := by simpa [Value.ownBlock] using e
      have := hW.size
      omega
    refine ⟨v', w', r1, ⟨a, c, by rw [e, List.nil_append, l1]⟩, hWa.trans ⟨r3.os, r3.tape, r3.output, r3.size, fun k hk => r3.block k (Nat.lt_of_lt_of_le hk hWa.size) (fun e => hnW k hk e)⟩, r2, fun k hk => ?_⟩
    rcases r4 k hk with h' | h'
    · have e' : W.heap.size = k := by simpa [Value.ownBlock] using h'
      have := hW.size
      omega
    · exact Nat.le_trans hWa.size h'
  -- the second
  obtain ⟨a2, ha2, ha3⟩ : ∃ a2, (if cap = i + 1 then some (⟨g, 0, none⟩ : Addr) else some ⟨g, (i + 1) * 3, none⟩) = some a2 ∧ (i < n → a2 = ⟨g, (i + 1) * 3, none⟩) := by
    by_cases e : cap = i + 1
    · exact ⟨_, if_pos e, fun hl => by omega⟩
    · exact ⟨_, if_neg e, fun _ => rfl⟩
  have kp2 : ∀ W v, Below w.heap.size w W → (Rk msgE W 39 v (l.take i) ∧ ∀ k, v.ownBlock = some k → w.heap.size ≤ k) → ∀ ty, ∃ v' w', (Builtin.append_ #[26, 26] ty #[v, .slice (some a2) (n - i) (cap - (i + 1))]).run Try.prog W = .ok v' w' ∧ (∃ a k c, v' = .slice a k c) ∧ w'.cell? ⟨q, 0, none⟩ = some lv ∧ w'.frozen? ⟨q, 0, none⟩ = false ∧ Hid (MDid w q lv pv (l.eraseIdx i) ps (w'.setCell ⟨q, 0, none⟩ v')) := fun W v hW hv ty => by
    obtain ⟨v', w', r1, r2, r3, r4⟩ := push_some W ty v (l.take i) (l.drop (i + 1)) hv.1 a2 (cap - (i + 1)) (fun j u hj => by
      have hjl := (List.getElem?_eq_some_iff.1 hj).1
      rw [El.flat_length, l2] at hjl
      have hjl3 : j < (n - i) * 3 := hjl
      have hlt : i < n := by
        rcases Nat.lt_or_ge i n with h | h
        · exact h
        · rw [show n - i = 0 by omega] at hjl3; omega
      rw [ha3 hlt]
      exact hsrc W hW (i + 1) (l.drop (i + 1)) (by omega) (by rw [List.take_of_length_le (Nat.le_refl _)]) j u hj) (by omega)
    rw [l2] at r1
    have hW' : Below w.heap.size w w' := hW.trans ⟨r3.os, r3.tape, r3.output, r3.size, fun k hk => r3.block k (Nat.lt_of_lt_of_le hk hW.size) (fun e => by have := hv.2 k e.symm; omega)⟩
    obtain ⟨a, c, e, -⟩ := r2.shape
    refine ⟨v', w', r1, ⟨a, _, c, e⟩, (hS w' hW').1, (hS w' hW').2, ?_⟩
    rw [List.eraseIdx_eq_take_drop_succ]
    exact h.storedL (Below.kept hW') r2 fun k hk => .inr (by
      rcases r4 k hk with h' | h'
      · exact hv.2 k h'
      · exact Nat.le_trans hW.size h')
  have hic0 : (0 : Int) ≤ (i : Int) + 1 := by omega
  have hic : i ≤ cap := by omega
  have hic1 : i + 1 ≤ n + 1 := by omega
  have hic2 : i + 1 ≤ cap := by omega
  have hic3 : (i : Int) + 1 ≤ (n : Int) + 1 := by omega
  have hib : (i : Int) ≤ 100000 := by omega
  have hwi : IntKind.i64.wrap ((i : Int) + 1) = (i : Int) + 1 := IntWalk.i64_in _ (by omega)
  have hdr : Below w.heap.size w w.drew := (Below.refl _ _).drew
  have kp1w := kp1 w.drew hdr
  have hSd := hS w.drew hdr
  have hSa := hS _ (hdr.alloc (Nat.le_refl _) (.cells #[] 39))
  subst hlv
  generalize MDid w q (.slice (some ⟨g, 0, none⟩) l.length cap) pv (l.eraseIdx i) ps = T at *
  clear h hsrc e0 l1 l2 hcell ht hcs hf ha3 n3 kp1 hbk
  rw [← hn] at q0 hSd hSa
  simp only [← hn] at kp2 hS
  clear hn hlen
  go_enter Try.func22, Try.ntmps22
  go_wp2
  go_region_law (first
      | (refine step_by (by rfl) _ _ _ (by rfl) (.slice (some ⟨w.heap.size, 0, none⟩) 0 0) (.slice (some ⟨g, 0, none⟩) i cap) (by simp [Act.eval, Act.put]) (by simp [Act.eval, Act.put]) kp1w ?_; rintro v3 w3 ⟨⟨a3, c3, rfl⟩, hb3, hv3⟩; have hS3 := hS w3 hb3; have kp2w := kp2 w3 _ hb3 hv3)
      | (refine step_by (by rfl) _ _ _ (by rfl) (.slice a3 i c3) (.slice (some a2) (n - i) (cap - (i + 1))) (by simp [Act.eval, Act.put]) (by simp [Act.eval, Act.put]) kp2w ?_; rintro v4 w4 ⟨⟨a4, k4, c4, rfl⟩, z0, z1, hfin⟩))
  all_goals (go_end0; exact ⟨rfl, hfin.out⟩)
end Go.Proofs.Ytjkjekhbfjjnjaa

