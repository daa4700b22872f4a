import Derived.Test.YtfpbgfmnjpamlaaGreatHv15
/- The contract of Add. -/
namespace Go.Proofs.YtfpbgfmnjpamlaaGreat
open Go.RowKit SpanMath
set_option maxRecDepth 100000
set_option linter.unusedSimpArgs false
set_option linter.unusedVariables false

/-- What stands between two rounds: s in its box, what is below it, what is above it. -/
structure DSt (n : Nat) (w W : World) (lo hi : Value) (s : Sp) (L H : List Sp) : Prop where
 base : Below n w W
 room : n + 1 ≤ W.heap.size
 box : W.heap[n]? = some (.cells #[.string (bk s.1), .string (bk s.2)] 47 (0, 0))
 rlo : Rk spE W 47 lo L
 rhi : Rk spE W 47 hi H
 offL : ∀ k, lo.ownBlock = some k → n + 1 ≤ k ∧ hi.ownBlock ≠ some k
 offH : ∀ k, hi.ownBlock = some k → n + 1 ≤ k
theorem DSt.below {n : Nat} {w W W' : World} {lo hi : Value} {s : Sp} {L H : List Sp} (h : DSt n w W lo hi s L H) (hb : Below W.heap.size W W') : DSt n w W' lo hi s L H :=
 ⟨h.base.trans (hb.mono (by have := h.room; omega)), Nat.le_trans h.room hb.size, (hb.block n (by have := h.room; omega)).trans h.box, h.rlo.same fun k hk => hb.block k (h.rlo.lt hk), h.rhi.same fun k hk => hb.block k (h.rhi.lt hk), h.offL, h.offH⟩
theorem DSt.drew {n : Nat} {w W : World} {lo hi : Value} {s : Sp} {L H : List Sp} (h : DSt n w W lo hi s L H) : DSt n w W.drew lo hi s L H := h.below (Below.refl _ _).drew

end Go.Proofs.YtfpbgfmnjpamlaaGreat

/- The law's own awake and light. -/
namespace Go.Proofs.YtfpbgfmnjpamlaaGreat
open Go.RowKit SpanMath
set_option maxRecDepth 100000
set_option linter.unusedSimpArgs false
set_option linter.unusedVariables false

end Go.Proofs.YtfpbgfmnjpamlaaGreat

/- The document's own insert and places: keys in a rising list. -/
namespace Go.Proofs.YtfpbgfmnjpamlaaGreat
open Go.RowKit SpanMath
set_option maxRecDepth 100000
set_option linter.unusedSimpArgs false
set_option linter.unusedVariables false

/-- Keys as elements. -/
def strE : El K := ⟨fun k => [.string (bk k)], 1, fun _ => rfl, fun x u hu => by
 simp only [List.mem_singleton] at hu
 subst hu
 rfl, by decide⟩
theorem infoStr : (Tryz.prog.info? 9).map (fun i => (i.zero, i.size, i.bytes)) = some (some (.string ByteArray.empty), 1, 16) := by kernel_rfl
theorem append_str {w : World} {v x : Value} {xs ys : List K} (h : Rk strE w 9 v xs) (hx : Rd strE w x ys) (hlen : xs.length ≤ 1000000) (hly : ys.length ≤ 1000000) :
  Hid (∀ ty, ∃ v' w', (Builtin.append_ #[31, 31] ty #[v, x]).run Tryz.prog w = .ok v' w' ∧ PushT strE 9 w v (xs ++ ys) v' w') := by
 obtain ⟨i0, h1, h2, h3, h4⟩ := info_get infoStr
 exact append_rd strE w 31 9 i0 _ 16 Tryz.underlying31 h1 h2 h3 h4 rfl (by decide) v x xs ys h hx (by omega) (by omega)
/-- Its beginning, its end. -/
theorem Rd.took {w : World} {ao : Option Addr} {n cap : Nat} {xs : List K} (h : Rd strE w (.slice ao n cap) xs) {k : Nat} (hk : k ≤ xs.length) : Rd strE w (.slice ao k cap) (xs.take k) := by
 obtain ⟨ao', cap', e, h0, h1, h2⟩ := h
 cases e
 have hl : (xs.take k).length = k := by rw [List.length_take]; omega
 refine ⟨ao, cap, by rw [hl], by rw [hl]; omega, h1, fun i x j u hx hu => h2 i x j u ?_ hu⟩
 rw [List.getElem?_take] at hx
 split at hx
 ·exact hx
 ·cases hx
theorem Rd.left {w : World} {b off n cap : Nat} {xs : List K} (h : Rd strE w (.slice (some ⟨b, off, none⟩) n cap) xs) {k : Nat} (hk : k ≤ xs.length) : Rd strE w (.slice (if cap = k then some ⟨b, off, none⟩ else some ⟨b, off + k, none⟩) (n - k) (cap - k)) (xs.drop k) := by
 obtain ⟨ao', cap', e, h0, h1, h2⟩ := h
 cases e
 have hl : (xs.drop k).length = xs.length - k := by rw [List.length_drop]
 refine ⟨_, _, by rw [hl], by rw [hl]; omega, (by split <;> simp), fun i x j u hx hu => ?_⟩
 rw [List.getElem?_drop] at hx
 obtain ⟨b', off', r1, r2⟩ := h2 (k + i) x j u hx hu
 cases r1
 have hi := (List.getElem?_eq_some_iff.1 hx).1
 refine ⟨b, off + k, by rw [if_neg (by omega)], ?_⟩
 have hk1 : strE.k = 1 := rfl
 rw [hk1] at r2 ⊢
 rw [show off + k + (i * 1 + j) = off + ((k + i) * 1 + j) by omega]
 exact r2
/-- An append whose run is known, at an operation. -/
theorem op_run {o : Oper} {a : Act} {w : World} {K : Act → World → Prop} {Q : Exit → Act → World → Prop} {Φ : Value → World → Prop} {ts : TypeId} {v xv : Value}
  (hrun : Hid (∀ ty, ∃ v' w', (Builtin.append_ #[ts, ts] ty #[v, xv]).run Tryz.prog w = .ok v' w' ∧ Φ v' w'))
  (s x : Operand) (ho : o.op = .call { callee := .builtin .append, args := #[s, x], argTypes := #[ts, ts] }) (hs : a.eval s = v) (hx : a.eval x = xv)
  (hK : ∀ v' w', Φ v' w' → K (a.put o.dst v') w') : Oper.wp Tryz.prog o a w K Q := op_by s x ts ho v xv hs hx hrun.out hK
theorem own_up {α : Type} {E : El α} {t : TypeId} {n : Nat} {w w' : World} {v v' : Value} {xs : List α} (h : PushT E t w v xs v' w') (hn : n ≤ w.heap.size) (ho : ∀ k, v.ownBlock = some k → n ≤ k) : ∀ k, v'.ownBlock = some k → n ≤ k := fun k hk => by
 rcases h.2.2 k hk with h' | h'
 ·exact ho k h'
 ·omega
theorem ins_from : ∀ (l : List K) (s : K) (i : Nat), (∀ j k, j < i → l[j]? = some k → k < s) → i ≤ l.length → ins l s = l.take i ++ ins (l.drop i) s
 | l, s, 0, _, _ => by simp
 | [], s, i + 1, _, h => by simp at h
 | x :: l, s, i + 1, h, hi => by
  have hx : x < s := h 0 x (by omega) rfl
  rw [List.take_succ_cons, List.drop_succ_cons, ins, if_pos hx, List.cons_append]
  congr 1
  exact ins_from l s i (fun j k hj hk => h (j + 1) k (by omega) (by simpa using hk)) (by simpa using hi)
theorem ins_end {l : List K} {s : K} (h : ∀ j k, j < l.length → l[j]? = some k → k < s) : ins l s = l.take l.length ++ [s] ++ l.drop l.length := by
 rw [ins_from l s l.length h (Nat.le_refl _)]
 simp [ins]
theorem ins_same {l : List K} {s : K} {i : Nat} (h : ∀ j k, j < i → l[j]? = some k → k < s) (hs : l[i]? = some s) : ins l s = l := by
 obtain ⟨hi, e⟩ := List.getElem?_eq_some_iff.1 hs
 rw [ins_from l s i h (by omega), List.drop_eq_getElem_cons hi, e, ins, if_neg (by grind), if_pos rfl]
 conv => rhs; rw [← List.take_append_drop i l, List.drop_eq_getElem_cons hi, e]
theorem ins_mid {l : List K} {s x : K} {i : Nat} (h : ∀ j k, j < i → l[j]? = some k → k < s) (hs : l[i]? = some x) (h1 : ¬ x < s) (h2 : ¬ x = s) : ins l s = l.take i ++ [s] ++ l.drop i := by
 obtain ⟨hi, e⟩ := List.getElem?_eq_some_iff.1 hs
 rw [ins_from l s i h (by omega), List.drop_eq_getElem_cons hi, e, ins, if_neg h1, if_neg h2]
 simp

set_option maxHeartbeats 8000000 in
/-- The walk of 'append(append(append([]string{}, l[:at]...), s), l[at:]...)'. -/
theorem insert_of (l : List K) (lv : Value) (s : K) (w : World) (hF : Rd strE w lv l) (hne : 0 < l.length) (hlen : l.length ≤ 1000) : Calls Tryz.prog 148 #[lv, .string (bk s)] w fun e w' => ∃ v, e = .returned v ∧ Rd strE w' v (ins l s) ∧ Below w.heap.size w w' := by
 obtain ⟨ao, cap, rfl, hcap, hnone, h2⟩ := id hF
 obtain ⟨b, off, rfl, -⟩ : ∃ b off, ao = some ⟨b, off, none⟩ ∧ True := by
  obtain ⟨b, off, r, _⟩ := h2 0 l[0] 0 _ (List.getElem?_eq_getElem hne) rfl
  exact ⟨b, off, r, trivial⟩
 have hcl : ∀ W, Below w.heap.size w W → ∀ i k, l[i]? = some k → W.cell? ⟨b, off + i, none⟩ = some (.string (bk k)) := fun W hW i k hk => by
  obtain ⟨b', off', r1, r2⟩ := h2 i k 0 _ hk rfl
  cases r1
  have hk1 : strE.k = 1 := rfl
  rw [hk1] at r2
  simp only [Nat.mul_one, Nat.add_zero] at r2
  exact (hW.cell (p := ⟨b, off + i, none⟩) (World.block_lt_of_cell? w _ r2)).trans r2
 obtain ⟨I, HI⟩ : ∃ I, Hid (I = ins l s) := ⟨_, rfl⟩
 rw [← HI.out]
 clear h2 hnone
 go_enter Tryz.func148, Tryz.ntmps148
 go_wp2
 go_loopg [5] l.length (fun g s5 wr => ∃ i : Nat, i + g = l.length ∧ s5 = .int .i64 (i : Int) ∧ Hid (∀ j k, j < i → l[j]? = some k → k < s) ∧ wr = w)
 case atStart => exact ⟨0, by simp, rfl, fun _ _ h => by omega, rfl⟩
 case round =>
  obtain ⟨i, hig, rfl, HP, rfl⟩ := hrel
  have hil : i ≤ l.length := by omega
  -- the tail, once for all
  have fin : ∀ at_ : Nat, at_ ≤ l.length → Hid (I = l.take at_ ++ [s] ++ l.drop at_) → True := fun _ _ _ => trivial
  by_cases hlt : i < l.length
  ·have hlti : (i : Int) < (l.length : Int) := by omega
   have hx : l[i]? = some l[i] := List.getElem?_eq_getElem hlt
   obtain ⟨x, hs⟩ : ∃ s, s = l[i] := ⟨_, rfl⟩
   rw [← hs] at hx
   have c0 := hcl wr (Below.refl _ _) i x hx
   by_cases h1 : x < s
   ·have e1 : decide (x < s) = true := by simpa using h1
    have HP2 : Hid (∀ j k, j < i + 1 → l[j]? = some k → k < s) := fun j k hj hk => by
     by_cases hji : j = i
     ·subst hji; rw [hx] at hk; cases hk; exact h1
     ·exact HP.out j k (by omega) hk
    clear hcl hx hs h1 HP hF
    go_wp2
    go_roundg (gk - 1)
    case measure => omega
    case rel => exact ⟨i + 1, by omega, by go_num, HP2, rfl⟩
   ·have e1 : decide (x < s) = false := by simpa using h1
    by_cases h3 : x = s
    ·have e3 : decide (x = s) = true := by simpa using h3
     have E : Hid (I = l) := by show _ = _; rw [HI.out]; exact ins_same HP.out (by rw [← h3]; exact hx)
     clear hcl hx hs h1 h3 HP HI
     go_wp2
     go_ret
     rw [E.out]
     exact ⟨_, rfl, hF, Below.refl _ _⟩
    ·have e3 : decide (x = s) = false := by simpa using h3
     have E : Hid (I = l.take i ++ [s] ++ l.drop i) := by show _ = _; rw [HI.out]; exact ins_mid HP.out hx h1 h3
     clear hcl hx hs h1 h3 HP HI
     go_wp2
     have hilI : (i : Int) ≤ (l.length : Int) := by omega
     have hic : i ≤ cap := by omega
     have hicI : (i : Int) ≤ (cap : Int) := by omega
     have hlcI : (l.length : Int) ≤ (cap : Int) := by omega
     have hTk := fun W (hW : Below wr.heap.size wr W) => (hF.below hW).took (k := i) (by omega)
     have hrd := fun W (hW : Below wr.heap.size wr W) => (hF.below hW).left (k := i) (by omega)
     obtain ⟨AD, hAD⟩ : ∃ AD, (if cap = i then some (⟨b, off, none⟩ : Addr) else some ⟨b, off + i, none⟩) = AD := ⟨_, rfl⟩
     rw [hAD] at hrd
     refine wp_region_L (fun _ => True) [] (by kernel_rfl) ?_
     have hbd : Below wr.heap.size wr wr.drew := (Below.refl _ wr).drew
     have hsd : Hid (wr.drew.heap.size = wr.heap.size) := rfl
     generalize wr.drew = wd at *
     refine tkg 1 rfl (by intro w' hS'; go_simp <;> rfl) trivial ?_
     try simp only [pa, pb, pc, Act.put, pd, pe, pf]
     refine tkg 2 rfl (by intro w' hS'; go_simp <;> rfl) trivial ?_
     try simp only [pa, pb, pc, Act.put, pd, pe, pf]
     refine tkg 3 rfl (by intro w' hS'; go_simp <;> rfl) trivial ?_
     try simp only [pa, pb, pc, Act.put, pd, pe, pf]
     refine tkg 5 rfl (by intro w' hS'; go_simp <;> rfl) trivial ?_
     try simp only [pa, pb, pc, Act.put, pd, pe, pf]
     refine tkg 8 rfl (by intro w' hS'; go_simp <;> rfl) trivial ?_
     try simp only [pa, pb, pc, Act.put, pd, pe, pf]
     refine tkg 9 rfl (by intro w' hS'; go_simp <;> rfl) trivial ?_
     try simp only [pa, pb, pc, Act.put, pd, pe, pf]
     refine tkg 10 rfl (by intro w' hS'; go_simp <;> rfl) trivial ?_
     try simp only [pa, pb, pc, Act.put, pd, pe, pf]
     refine wpAnyL_two 0 6 (by kernel_rfl) rfl rfl (by kernel_rfl) (by kernel_rfl) ?_ ?_
     ·intro K' hK'
      go_simp
      refine hK'.out _ _ (.inr trivial) ?_
      clear hK' K'
      try simp only [pa, pb, pc, Act.put, pd, pe, pf]
      obtain ⟨q1, q2, q3⟩ := one_box wd (.cells #[] 9)
      have hbA : Below wr.heap.size wr (wd.alloc (.cells #[] 9)) := hbd.trans (q3.mono (Nat.le_of_eq hsd.out.symm))
      have hsA : (wd.alloc (.cells #[] 9)).heap.size = wd.heap.size + 1 := q1
      have hbase : Rk strE (wd.alloc (.cells #[] 9)) 9 (.slice (some ⟨wd.heap.size, 0, none⟩) 0 0) [] := Rk.made (E := strE) (xs := []) q2 rfl (by unfold maxLen; simp)
      have hOw0 : ∀ k, (Value.slice (some ⟨wd.heap.size, 0, none⟩) 0 0).ownBlock = some k → wr.heap.size ≤ k := fun k hk => by cases hk; exact Nat.le_of_eq hsd.out.symm
      clear q1 q2 q3
      generalize wd.alloc (.cells #[] 9) = W0 at *
      refine wpAnyL_two 4 6 (by kernel_rfl) rfl rfl (by kernel_rfl) (by kernel_rfl) ?_ ?_
      ·have r4 := append_str hbase (hTk W0 hbA) (by simp) (by simp; omega)
       intro K' hK'
       refine op_run r4 _ _ rfl (by rfl) (by rfl) ?_
       intro v4 w4 hp4
       refine hK'.out _ _ (.inr trivial) ?_
       clear hK' K'
       try simp only [pa, pb, pc, Act.put, pd, pe, pf]
       have hb4 := hbA.trans (grown_below hp4.2.1 hbA.size hOw0)
       have hOw4 := own_up hp4 hbA.size hOw0
       clear r4
       refine wpAnyL_one 6 (by kernel_rfl) rfl (by kernel_rfl) ?_
       intro K' hK'
       go_simp
       refine hK'.out _ _ (.inr trivial) ?_
       clear hK' K'
       try simp only [pa, pb, pc, Act.put, pd, pe, pf]
       obtain ⟨q1, q2, q3⟩ := one_box w4 (.cells #[.string (bk s)] 9)
       have hR4 := hp4.1.same fun k hk => q3.block k (hp4.1.lt hk)
       have hS1 : Rk strE (w4.alloc (.cells #[.string (bk s)] 9)) 9 (.slice (some ⟨w4.heap.size, 0, none⟩) 1 1) [s] := Rk.made (E := strE) (xs := [s]) q2 rfl (by unfold maxLen; simp)
       have hb5 := hb4.trans (q3.mono hb4.size)
       clear q1 q2 q3 hp4
       generalize w4.alloc (.cells #[.string (bk s)] 9) = w5 at *
       have r6 := append_str hR4 hS1.rd (by simp; omega) (by simp)
       refine wpAnyL_one 7 (by kernel_rfl) rfl (by kernel_rfl) ?_
       intro K' hK'
       refine op_run r6 _ _ rfl (by rfl) (by rfl) ?_
       intro v6 w6 hp6
       refine hK'.out _ _ (.inr trivial) ?_
       clear hK' K'
       try simp only [pa, pb, pc, Act.put, pd, pe, pf]
       have hb6 := hb5.trans (grown_below hp6.2.1 hb5.size hOw4)
       have hOw6 := own_up hp6 hb5.size hOw4
       have r7 := append_str hp6.1 (hrd w6 hb6) (by simp; omega) (by simp; omega)
       clear r6 hR4 hS1
       refine wpAnyL_one 11 (by kernel_rfl) rfl (by kernel_rfl) ?_
       intro K' hK'
       refine op_run r7 _ _ rfl (by rfl) (by rfl) ?_
       intro v7 w7 hp7
       refine hK'.out _ _ (.inr trivial) ?_
       clear hK' K'
       try simp only [pa, pb, pc, Act.put, pd, pe, pf]
       have hb7 := hb6.trans (grown_below hp7.2.1 hb6.size hOw6)
       clear r7
       refine tkg 12 rfl (by intro w' hS'; go_simp <;> rfl) trivial ?_
       try simp only [pa, pb, pc, Act.put, pd, pe, pf]
       refine wpAnyL_done (by kernel_rfl) (NoPanic.normal ?_) _
       go_wp2
       go_ret
       rw [E.out]
       exact ⟨_, rfl, hp7.1.rd, hb7⟩
      ·intro K' hK'
       go_simp
       refine hK'.out _ _ (.inr trivial) ?_
       clear hK' K'
       try simp only [pa, pb, pc, Act.put, pd, pe, pf]
       obtain ⟨q1, q2, q3⟩ := one_box W0 (.cells #[.string (bk s)] 9)
       have hb1 := hbase.same fun k hk => q3.block k (hbase.lt hk)
       have hS0 : Rk strE (W0.alloc (.cells #[.string (bk s)] 9)) 9 (.slice (some ⟨W0.heap.size, 0, none⟩) 1 1) [s] := Rk.made (E := strE) (xs := [s]) q2 rfl (by unfold maxLen; simp)
       have hbB := hbA.trans (q3.mono hbA.size)
       have hsB := q1
       rw [hsA] at hsB hS0
       clear q1 q2 q3
       generalize W0.alloc (.cells #[.string (bk s)] 9) = W1 at *
       have r4 := append_str hb1 (hTk W1 hbB) (by simp) (by simp; omega)
       refine wpAnyL_one 4 (by kernel_rfl) rfl (by kernel_rfl) ?_
       intro K' hK'
       refine op_run r4 _ _ rfl (by rfl) (by rfl) ?_
       intro v4 w4 hp4
       refine hK'.out _ _ (.inr trivial) ?_
       clear hK' K'
       try simp only [pa, pb, pc, Act.put, pd, pe, pf]
       have hb5 := hbB.trans (grown_below hp4.2.1 hbB.size hOw0)
       have hOw4 := own_up hp4 hbB.size hOw0
       have hR4 := hp4.1
       have hS1 := hS0.same fun k hk => hp4.2.1.block k (hS0.lt hk) (fun e => by simp only [Value.ownBlock, Option.some.injEq] at hk e; omega)
       obtain ⟨w5, hw5⟩ : ∃ w5, w5 = w4 := ⟨_, rfl⟩
       subst hw5
       clear r4 hp4
       have r6 := append_str hR4 hS1.rd (by simp; omega) (by simp)
       refine wpAnyL_one 7 (by kernel_rfl) rfl (by kernel_rfl) ?_
       intro K' hK'
       refine op_run r6 _ _ rfl (by rfl) (by rfl) ?_
       intro v6 w6 hp6
       refine hK'.out _ _ (.inr trivial) ?_
       clear hK' K'
       try simp only [pa, pb, pc, Act.put, pd, pe, pf]
       have hb6 := hb5.trans (grown_below hp6.2.1 hb5.size hOw4)
       have hOw6 := own_up hp6 hb5.size hOw4
       have r7 := append_str hp6.1 (hrd w6 hb6) (by simp; omega) (by simp; omega)
       clear r6 hR4 hS1
       refine wpAnyL_one 11 (by kernel_rfl) rfl (by kernel_rfl) ?_
       intro K' hK'
       refine op_run r7 _ _ rfl (by rfl) (by rfl) ?_
       intro v7 w7 hp7
       refine hK'.out _ _ (.inr trivial) ?_
       clear hK' K'
       try simp only [pa, pb, pc, Act.put, pd, pe, pf]
       have hb7 := hb6.trans (grown_below hp7.2.1 hb6.size hOw6)
       clear r7
       refine tkg 12 rfl (by intro w' hS'; go_simp <;> rfl) trivial ?_
       try simp only [pa, pb, pc, Act.put, pd, pe, pf]
       refine wpAnyL_done (by kernel_rfl) (NoPanic.normal ?_) _
       go_wp2
       go_ret
       rw [E.out]
       exact ⟨_, rfl, hp7.1.rd, hb7⟩
     ·intro K' hK'
      go_simp
      refine hK'.out _ _ (.inr trivial) ?_
      clear hK' K'
      try simp only [pa, pb, pc, Act.put, pd, pe, pf]
      obtain ⟨q1, q2, q3⟩ := one_box wd (.cells #[.string (bk s)] 9)
      have hbA : Below wr.heap.size wr (wd.alloc (.cells #[.string (bk s)] 9)) := hbd.trans (q3.mono (Nat.le_of_eq hsd.out.symm))
      have hsA : (wd.alloc (.cells #[.string (bk s)] 9)).heap.size = wd.heap.size + 1 := q1
      have hrow : Rk strE (wd.alloc (.cells #[.string (bk s)] 9)) 9 (.slice (some ⟨wd.heap.size, 0, none⟩) 1 1) [s] := Rk.made (E := strE) (xs := [s]) q2 rfl (by unfold maxLen; simp)
      clear q1 q2 q3
      generalize wd.alloc (.cells #[.string (bk s)] 9) = W0 at *
      refine wpAnyL_one 0 (by kernel_rfl) rfl (by kernel_rfl) ?_
      intro K' hK'
      go_simp
      refine hK'.out _ _ (.inr trivial) ?_
      clear hK' K'
      try simp only [pa, pb, pc, Act.put, pd, pe, pf]
      obtain ⟨q1, q2, q3⟩ := one_box W0 (.cells #[] 9)
      have hbase : Rk strE (W0.alloc (.cells #[] 9)) 9 (.slice (some ⟨W0.heap.size, 0, none⟩) 0 0) [] := Rk.made (E := strE) (xs := []) q2 rfl (by unfold maxLen; simp)
      have hS0 := hrow.same fun k hk => q3.block k (hrow.lt hk)
      have hbB := hbA.trans (q3.mono hbA.size)
      have hOw0 : ∀ k, (Value.slice (some ⟨wd.heap.size + 1, 0, none⟩) 0 0).ownBlock = some k → wr.heap.size ≤ k := fun k hk => by cases hk; have := hsd.out; show wr.heap.size ≤ wd.heap.size + 1; omega
      rw [hsA] at hbase
      clear q1 q2 q3
      generalize W0.alloc (.cells #[] 9) = W1 at *
      have r4 := append_str hbase (hTk W1 hbB) (by simp) (by simp; omega)
      refine wpAnyL_one 4 (by kernel_rfl) rfl (by kernel_rfl) ?_
      intro K' hK'
      refine op_run r4 _ _ rfl (by rfl) (by rfl) ?_
      intro v4 w4 hp4
      refine hK'.out _ _ (.inr trivial) ?_
      clear hK' K'
      try simp only [pa, pb, pc, Act.put, pd, pe, pf]
      have hb5 := hbB.trans (grown_below hp4.2.1 hbB.size hOw0)
      have hOw4 := own_up hp4 hbB.size hOw0
      have hR4 := hp4.1
      have hS1 := hS0.same fun k hk => hp4.2.1.block k (hS0.lt hk) (fun e => by simp only [Value.ownBlock, Option.some.injEq] at hk e; omega)
      obtain ⟨w5, hw5⟩ : ∃ w5, w5 = w4 := ⟨_, rfl⟩
      subst hw5
      clear r4 hp4
      have r6 := append_str hR4 hS1.rd (by simp; omega) (by simp)
      refine wpAnyL_one 7 (by kernel_rfl) rfl (by kernel_rfl) ?_
      intro K' hK'
      refine op_run r6 _ _ rfl (by rfl) (by rfl) ?_
      intro v6 w6 hp6
      refine hK'.out _ _ (.inr trivial) ?_
      clear hK' K'
      try simp only [pa, pb, pc, Act.put, pd, pe, pf]
      have hb6 := hb5.trans (grown_below hp6.2.1 hb5.size hOw4)
      have hOw6 := own_up hp6 hb5.size hOw4
      have r7 := append_str hp6.1 (hrd w6 hb6) (by simp; omega) (by simp; omega)
      clear r6 hR4 hS1
      refine wpAnyL_one 11 (by kernel_rfl) rfl (by kernel_rfl) ?_
      intro K' hK'
      refine op_run r7 _ _ rfl (by rfl) (by rfl) ?_
      intro v7 w7 hp7
      refine hK'.out _ _ (.inr trivial) ?_
      clear hK' K'
      try simp only [pa, pb, pc, Act.put, pd, pe, pf]
      have hb7 := hb6.trans (grown_below hp7.2.1 hb6.size hOw6)
      clear r7
      refine tkg 12 rfl (by intro w' hS'; go_simp <;> rfl) trivial ?_
      try simp only [pa, pb, pc, Act.put, pd, pe, pf]
      refine wpAnyL_done (by kernel_rfl) (NoPanic.normal ?_) _
      go_wp2
      go_ret
      rw [E.out]
      exact ⟨_, rfl, hp7.1.rd, hb7⟩
  ·have hlti : ¬ (i : Int) < (l.length : Int) := by omega
   have hieq : i = l.length := by omega
   have E : Hid (I = l.take i ++ [s] ++ l.drop i) := by show _ = _; rw [HI.out]; subst hieq; exact ins_end HP.out
   clear hcl HP HI hieq
   go_wp2
   have hilI : (i : Int) ≤ (l.length : Int) := by omega
   have hic : i ≤ cap := by omega
   have hicI : (i : Int) ≤ (cap : Int) := by omega
   have hlcI : (l.length : Int) ≤ (cap : Int) := by omega
   have hTk := fun W (hW : Below wr.heap.size wr W) => (hF.below hW).took (k := i) (by omega)
   have hrd := fun W (hW : Below wr.heap.size wr W) => (hF.below hW).left (k := i) (by omega)
   obtain ⟨AD, hAD⟩ : ∃ AD, (if cap = i then some (⟨b, off, none⟩ : Addr) else some ⟨b, off + i, none⟩) = AD := ⟨_, rfl⟩
   rw [hAD] at hrd
   refine wp_region_L (fun _ => True) [] (by kernel_rfl) ?_
   have hbd : Below wr.heap.size wr wr.drew := (Below.refl _ wr).drew
   have hsd : Hid (wr.drew.heap.size = wr.heap.size) := rfl
   generalize wr.drew = wd at *
   refine tkg 1 rfl (by intro w' hS'; go_simp <;> rfl) trivial ?_
   try simp only [pa, pb, pc, Act.put, pd, pe, pf]
   refine tkg 2 rfl (by intro w' hS'; go_simp <;> rfl) trivial ?_
   try simp only [pa, pb, pc, Act.put, pd, pe, pf]
   refine tkg 3 rfl (by intro w' hS'; go_simp <;> rfl) trivial ?_
   try simp only [pa, pb, pc, Act.put, pd, pe, pf]
   refine tkg 5 rfl (by intro w' hS'; go_simp <;> rfl) trivial ?_
   try simp only [pa, pb, pc, Act.put, pd, pe, pf]
   refine tkg 8 rfl (by intro w' hS'; go_simp <;> rfl) trivial ?_
   try simp only [pa, pb, pc, Act.put, pd, pe, pf]
   refine tkg 9 rfl (by intro w' hS'; go_simp <;> rfl) trivial ?_
   try simp only [pa, pb, pc, Act.put, pd, pe, pf]
   refine tkg 10 rfl (by intro w' hS'; go_simp <;> rfl) trivial ?_
   try simp only [pa, pb, pc, Act.put, pd, pe, pf]
   refine wpAnyL_two 0 6 (by kernel_rfl) rfl rfl (by kernel_rfl) (by kernel_rfl) ?_ ?_
   ·intro K' hK'
    go_simp
    refine hK'.out _ _ (.inr trivial) ?_
    clear hK' K'
    try simp only [pa, pb, pc, Act.put, pd, pe, pf]
    obtain ⟨q1, q2, q3⟩ := one_box wd (.cells #[] 9)
    have hbA : Below wr.heap.size wr (wd.alloc (.cells #[] 9)) := hbd.trans (q3.mono (Nat.le_of_eq hsd.out.symm))
    have hsA : (wd.alloc (.cells #[] 9)).heap.size = wd.heap.size + 1 := q1
    have hbase : Rk strE (wd.alloc (.cells #[] 9)) 9 (.slice (some ⟨wd.heap.size, 0, none⟩) 0 0) [] := Rk.made (E := strE) (xs := []) q2 rfl (by unfold maxLen; simp)
    have hOw0 : ∀ k, (Value.slice (some ⟨wd.heap.size, 0, none⟩) 0 0).ownBlock = some k → wr.heap.size ≤ k := fun k hk => by cases hk; exact Nat.le_of_eq hsd.out.symm
    clear q1 q2 q3
    generalize wd.alloc (.cells #[] 9) = W0 at *
    refine wpAnyL_two 4 6 (by kernel_rfl) rfl rfl (by kernel_rfl) (by kernel_rfl) ?_ ?_
    ·have r4 := append_str hbase (hTk W0 hbA) (by simp) (by simp; omega)
     intro K' hK'
     refine op_run r4 _ _ rfl (by rfl) (by rfl) ?_
     intro v4 w4 hp4
     refine hK'.out _ _ (.inr trivial) ?_
     clear hK' K'
     try simp only [pa, pb, pc, Act.put, pd, pe, pf]
     have hb4 := hbA.trans (grown_below hp4.2.1 hbA.size hOw0)
     have hOw4 := own_up hp4 hbA.size hOw0
     clear r4
     refine wpAnyL_one 6 (by kernel_rfl) rfl (by kernel_rfl) ?_
     intro K' hK'
     go_simp
     refine hK'.out _ _ (.inr trivial) ?_
     clear hK' K'
     try simp only [pa, pb, pc, Act.put, pd, pe, pf]
     obtain ⟨q1, q2, q3⟩ := one_box w4 (.cells #[.string (bk s)] 9)
     have hR4 := hp4.1.same fun k hk => q3.block k (hp4.1.lt hk)
     have hS1 : Rk strE (w4.alloc (.cells #[.string (bk s)] 9)) 9 (.slice (some ⟨w4.heap.size, 0, none⟩) 1 1) [s] := Rk.made (E := strE) (xs := [s]) q2 rfl (by unfold maxLen; simp)
     have hb5 := hb4.trans (q3.mono hb4.size)
     clear q1 q2 q3 hp4
     generalize w4.alloc (.cells #[.string (bk s)] 9) = w5 at *
     have r6 := append_str hR4 hS1.rd (by simp; omega) (by simp)
     refine wpAnyL_one 7 (by kernel_rfl) rfl (by kernel_rfl) ?_
     intro K' hK'
     refine op_run r6 _ _ rfl (by rfl) (by rfl) ?_
     intro v6 w6 hp6
     refine hK'.out _ _ (.inr trivial) ?_
     clear hK' K'
     try simp only [pa, pb, pc, Act.put, pd, pe, pf]
     have hb6 := hb5.trans (grown_below hp6.2.1 hb5.size hOw4)
     have hOw6 := own_up hp6 hb5.size hOw4
     have r7 := append_str hp6.1 (hrd w6 hb6) (by simp; omega) (by simp; omega)
     clear r6 hR4 hS1
     refine wpAnyL_one 11 (by kernel_rfl) rfl (by kernel_rfl) ?_
     intro K' hK'
     refine op_run r7 _ _ rfl (by rfl) (by rfl) ?_
     intro v7 w7 hp7
     refine hK'.out _ _ (.inr trivial) ?_
     clear hK' K'
     try simp only [pa, pb, pc, Act.put, pd, pe, pf]
     have hb7 := hb6.trans (grown_below hp7.2.1 hb6.size hOw6)
     clear r7
     refine tkg 12 rfl (by intro w' hS'; go_simp <;> rfl) trivial ?_
     try simp only [pa, pb, pc, Act.put, pd, pe, pf]
     refine wpAnyL_done (by kernel_rfl) (NoPanic.normal ?_) _
     go_wp2
     go_ret
     rw [E.out]
     exact ⟨_, rfl, hp7.1.rd, hb7⟩
    ·intro K' hK'
     go_simp
     refine hK'.out _ _ (.inr trivial) ?_
     clear hK' K'
     try simp only [pa, pb, pc, Act.put, pd, pe, pf]
     obtain ⟨q1, q2, q3⟩ := one_box W0 (.cells #[.string (bk s)] 9)
     have hb1 := hbase.same fun k hk => q3.block k (hbase.lt hk)
     have hS0 : Rk strE (W0.alloc (.cells #[.string (bk s)] 9)) 9 (.slice (some ⟨W0.heap.size, 0, none⟩) 1 1) [s] := Rk.made (E := strE) (xs := [s]) q2 rfl (by unfold maxLen; simp)
     have hbB := hbA.trans (q3.mono hbA.size)
     have hsB := q1
     rw [hsA] at hsB hS0
     clear q1 q2 q3
     generalize W0.alloc (.cells #[.string (bk s)] 9) = W1 at *
     have r4 := append_str hb1 (hTk W1 hbB) (by simp) (by simp; omega)
     refine wpAnyL_one 4 (by kernel_rfl) rfl (by kernel_rfl) ?_
     intro K' hK'
     refine op_run r4 _ _ rfl (by rfl) (by rfl) ?_
     intro v4 w4 hp4
     refine hK'.out _ _ (.inr trivial) ?_
     clear hK' K'
     try simp only [pa, pb, pc, Act.put, pd, pe, pf]
     have hb5 := hbB.trans (grown_below hp4.2.1 hbB.size hOw0)
     have hOw4 := own_up hp4 hbB.size hOw0
     have hR4 := hp4.1
     have hS1 := hS0.same fun k hk => hp4.2.1.block k (hS0.lt hk) (fun e => by simp only [Value.ownBlock, Option.some.injEq] at hk e; omega)
     obtain ⟨w5, hw5⟩ : ∃ w5, w5 = w4 := ⟨_, rfl⟩
     subst hw5
     clear r4 hp4
     have r6 := append_str hR4 hS1.rd (by simp; omega) (by simp)
     refine wpAnyL_one 7 (by kernel_rfl) rfl (by kernel_rfl) ?_
     intro K' hK'
     refine op_run r6 _ _ rfl (by rfl) (by rfl) ?_
     intro v6 w6 hp6
     refine hK'.out _ _ (.inr trivial) ?_
     clear hK' K'
     try simp only [pa, pb, pc, Act.put, pd, pe, pf]
     have hb6 := hb5.trans (grown_below hp6.2.1 hb5.size hOw4)
     have hOw6 := own_up hp6 hb5.size hOw4
     have r7 := append_str hp6.1 (hrd w6 hb6) (by simp; omega) (by simp; omega)
     clear r6 hR4 hS1
     refine wpAnyL_one 11 (by kernel_rfl) rfl (by kernel_rfl) ?_
     intro K' hK'
     refine op_run r7 _ _ rfl (by rfl) (by rfl) ?_
     intro v7 w7 hp7
     refine hK'.out _ _ (.inr trivial) ?_
     clear hK' K'
     try simp only [pa, pb, pc, Act.put, pd, pe, pf]
     have hb7 := hb6.trans (grown_below hp7.2.1 hb6.size hOw6)
     clear r7
     refine tkg 12 rfl (by intro w' hS'; go_simp <;> rfl) trivial ?_
     try simp only [pa, pb, pc, Act.put, pd, pe, pf]
     refine wpAnyL_done (by kernel_rfl) (NoPanic.normal ?_) _
     go_wp2
     go_ret
     rw [E.out]
     exact ⟨_, rfl, hp7.1.rd, hb7⟩
   ·intro K' hK'
    go_simp
    refine hK'.out _ _ (.inr trivial) ?_
    clear hK' K'
    try simp only [pa, pb, pc, Act.put, pd, pe, pf]
    obtain ⟨q1, q2, q3⟩ := one_box wd (.cells #[.string (bk s)] 9)
    have hbA : Below wr.heap.size wr (wd.alloc (.cells #[.string (bk s)] 9)) := hbd.trans (q3.mono (Nat.le_of_eq hsd.out.symm))
    have hsA : (wd.alloc (.cells #[.string (bk s)] 9)).heap.size = wd.heap.size + 1 := q1
    have hrow : Rk strE (wd.alloc (.cells #[.string (bk s)] 9)) 9 (.slice (some ⟨wd.heap.size, 0, none⟩) 1 1) [s] := Rk.made (E := strE) (xs := [s]) q2 rfl (by unfold maxLen; simp)
    clear q1 q2 q3
    generalize wd.alloc (.cells #[.string (bk s)] 9) = W0 at *
    refine wpAnyL_one 0 (by kernel_rfl) rfl (by kernel_rfl) ?_
    intro K' hK'
    go_simp
    refine hK'.out _ _ (.inr trivial) ?_
    clear hK' K'
    try simp only [pa, pb, pc, Act.put, pd, pe, pf]
    obtain ⟨q1, q2, q3⟩ := one_box W0 (.cells #[] 9)
    have hbase : Rk strE (W0.alloc (.cells #[] 9)) 9 (.slice (some ⟨W0.heap.size, 0, none⟩) 0 0) [] := Rk.made (E := strE) (xs := []) q2 rfl (by unfold maxLen; simp)
    have hS0 := hrow.same fun k hk => q3.block k (hrow.lt hk)
    have hbB := hbA.trans (q3.mono hbA.size)
    have hOw0 : ∀ k, (Value.slice (some ⟨wd.heap.size + 1, 0, none⟩) 0 0).ownBlock = some k → wr.heap.size ≤ k := fun k hk => by cases hk; have := hsd.out; show wr.heap.size ≤ wd.heap.size + 1; omega
    rw [hsA] at hbase
    clear q1 q2 q3
    generalize W0.alloc (.cells #[] 9) = W1 at *
    have r4 := append_str hbase (hTk W1 hbB) (by simp) (by simp; omega)
    refine wpAnyL_one 4 (by kernel_rfl) rfl (by kernel_rfl) ?_
    intro K' hK'
    refine op_run r4 _ _ rfl (by rfl) (by rfl) ?_
    intro v4 w4 hp4
    refine hK'.out _ _ (.inr trivial) ?_
    clear hK' K'
    try simp only [pa, pb, pc, Act.put, pd, pe, pf]
    have hb5 := hbB.trans (grown_below hp4.2.1 hbB.size hOw0)
    have hOw4 := own_up hp4 hbB.size hOw0
    have hR4 := hp4.1
    have hS1 := hS0.same fun k hk => hp4.2.1.block k (hS0.lt hk) (fun e => by simp only [Value.ownBlock, Option.some.injEq] at hk e; omega)
    obtain ⟨w5, hw5⟩ : ∃ w5, w5 = w4 := ⟨_, rfl⟩
    subst hw5
    clear r4 hp4
    have r6 := append_str hR4 hS1.rd (by simp; omega) (by simp)
    refine wpAnyL_one 7 (by kernel_rfl) rfl (by kernel_rfl) ?_
    intro K' hK'
    refine op_run r6 _ _ rfl (by rfl) (by rfl) ?_
    intro v6 w6 hp6
    refine hK'.out _ _ (.inr trivial) ?_
    clear hK' K'
    try simp only [pa, pb, pc, Act.put, pd, pe, pf]
    have hb6 := hb5.trans (grown_below hp6.2.1 hb5.size hOw4)
    have hOw6 := own_up hp6 hb5.size hOw4
    have r7 := append_str hp6.1 (hrd w6 hb6) (by simp; omega) (by simp; omega)
    clear r6 hR4 hS1
    refine wpAnyL_one 11 (by kernel_rfl) rfl (by kernel_rfl) ?_
    intro K' hK'
    refine op_run r7 _ _ rfl (by rfl) (by rfl) ?_
    intro v7 w7 hp7
    refine hK'.out _ _ (.inr trivial) ?_
    clear hK' K'
    try simp only [pa, pb, pc, Act.put, pd, pe, pf]
    have hb7 := hb6.trans (grown_below hp7.2.1 hb6.size hOw6)
    clear r7
    refine tkg 12 rfl (by intro w' hS'; go_simp <;> rfl) trivial ?_
    try simp only [pa, pb, pc, Act.put, pd, pe, pf]
    refine wpAnyL_done (by kernel_rfl) (NoPanic.normal ?_) _
    go_wp2
    go_ret
    rw [E.out]
    exact ⟨_, rfl, hp7.1.rd, hb7⟩
end Go.Proofs.YtfpbgfmnjpamlaaGreat

/- The document's own places and Same; the law's told. -/
namespace Go.Proofs.YtfpbgfmnjpamlaaGreat
open Go.RowKit SpanMath
set_option maxRecDepth 100000
set_option linter.unusedSimpArgs false
set_option linter.unusedVariables false

theorem ins_len (s : K) : ∀ l : List K, (ins l s).length ≤ l.length + 1 ∧ 0 < (ins l s).length
 | [] => by simp [ins]
 | x :: l => by
  have := ins_len s l
  unfold ins
  split
  ·simp; omega
  ·split <;> simp
theorem plc_take {l : List Sp} {i : Nat} {x : Sp} (h : l[i]? = some x) : plc (l.take (i + 1)) = ins (ins (plc (l.take i)) x.1) x.2 := by
 rw [take_succ_get h]
 simp [plc, List.foldl_append]
theorem plc_len : ∀ (l : List Sp), (plc l).length ≤ 1 + 2 * l.length ∧ 0 < (plc l).length := by
 have main : ∀ (l : List Sp) (p : List K), 0 < p.length → (l.foldl (fun p s => ins (ins p s.1) s.2) p).length ≤ p.length + 2 * l.length ∧ 0 < (l.foldl (fun p s => ins (ins p s.1) s.2) p).length := by
  intro l
  induction l with
  | nil => intro p hp; simp; exact hp
  | cons x l ih =>
   intro p hp
   have h1 := ins_len x.1 p
   have h2 := ins_len x.2 (ins p x.1)
   have h3 := ih (ins (ins p x.1) x.2) h2.2
   rw [List.foldl_cons, List.length_cons]
   omega
 intro l
 exact main l [[]] (by simp)

set_option maxHeartbeats 4000000 in
theorem places_of (l : List Sp) (lv : Value) (w : World) (hF : Sv w lv l) (hlen : l.length ≤ 200) : Calls Tryz.prog 86 #[lv] w fun e w' => ∃ v, e = .returned v ∧ Rd strE w' v (plc l) ∧ Below w.heap.size w w' := by
 obtain ⟨ao, cap, rfl, h2⟩ := id hF
 obtain ⟨P, HP⟩ : ∃ P, Hid (P = plc l) := ⟨_, rfl⟩
 rw [← HP.out]
 obtain ⟨hs0, g0, hb0⟩ := one_box w (.cells #[.string { data := #[] }] 9)
 have hR0 : Rd strE (w.alloc (.cells #[.string { data := #[] }] 9)) (.slice (some ⟨w.heap.size, 0, none⟩) 1 1) [[]] := (Rk.made (E := strE) (xs := [[]]) g0 rfl (by unfold maxLen; simp)).rd
 go_enter Tryz.func86, Tryz.ntmps86
 go_wp2
 go_loopg [3, 4] l.length (fun g s3 s4 wr => ∃ (i : Nat) (pv : Value), i + g = l.length ∧ s4 = .int .i64 (i : Int) ∧ pv = s3 ∧ Rd strE wr pv (plc (l.take i)) ∧ Below w.heap.size w wr)
 case atStart => exact ⟨0, _, by simp, rfl, rfl, hR0, hb0⟩
 case round =>
  obtain ⟨i, pv, hig, rfl, rfl, hR, hb⟩ := hrel
  clear hR0 hb0 g0 hs0
  by_cases hlt : i < l.length
  ·have hlti : (i : Int) < (l.length : Int) := by omega
   have hx : l[i]? = some l[i] := List.getElem?_eq_getElem hlt
   obtain ⟨b, off, rfl, d0, d1⟩ := h2 i l[i] hx
   obtain ⟨x, hs⟩ : ∃ s, s = l[i] := ⟨_, rfl⟩
   rw [← hs] at hx d0 d1
   have HT : Hid (plc (l.take (i + 1)) = ins (ins (plc (l.take i)) x.1) x.2) := plc_take hx
   obtain ⟨x1, x2⟩ := x
   have c0 := (hb.cell (p := ⟨b, off + i * 2, none⟩) (World.block_lt_of_cell? w _ d0)).trans d0
   have cl1 : ∀ W, Below w.heap.size w W → W.cell? ⟨b, off + i * 2 + 1, none⟩ = some (.string (bk x2)) := fun W hW => (hW.cell (p := ⟨b, off + i * 2 + 1, none⟩) (World.block_lt_of_cell? w _ d1)).trans d1
   obtain ⟨hl1, hl2⟩ := plc_len (l.take i)
   rw [List.length_take] at hl1
   obtain ⟨hl3, hl4⟩ := ins_len x1 (plc (l.take i))
   have k1 := insert_of (plc (l.take i)) pv x1 wr hR hl2 (by omega)
   have k2 := fun W v (h : Rd strE W v (ins (plc (l.take i)) x1)) => insert_of (ins (plc (l.take i)) x1) v x2 W h hl4 (by omega)
   obtain ⟨ap, cp, hpv, -⟩ := id hR
   generalize plc (l.take i) = A at *
   clear hx hs d0 d1 hR hl1 hl3 h2 hF
   generalize ins A x1 = A1 at *
   subst hpv
   go_wp2_with fail
   refine k1.mono ?_
   rintro e w1 ⟨v1, rfl, hR1, hb1⟩
   have hbw1 := hb.trans (hb1.mono hb.size)
   have c1 := cl1 w1 hbw1
   have k3 := k2 w1 v1 hR1
   obtain ⟨a1, p1, hv1, -⟩ := id hR1
   subst hv1
   clear k1 k2 c0 hR1
   go_wp2_with fail
   refine k3.mono ?_
   rintro e w2 ⟨v2, rfl, hR2, hb2⟩
   clear k3 c1
   go_wp2
   go_roundg (gk - 1)
   case measure => omega
   case rel => exact ⟨i + 1, v2, by omega, by go_num, rfl, by rw [HT.out]; exact hR2, hbw1.trans (hb2.mono hbw1.size)⟩
  ·have hlti : ¬ (i : Int) < (l.length : Int) := by omega
   obtain rfl : i = l.length := by omega
   rw [List.take_length, ← HP.out] at hR
   clear HP h2 hF
   go_wp2
   go_ret
   exact ⟨_, rfl, hR, hb⟩

set_option maxHeartbeats 4000000 in
theorem same_of (l m : List Sp) (lv mv : Value) (w : World) (hF : Sv w lv l) (hG : Sv w mv m) (hlen : l.length ≤ 1000000) : Calls Tryz.prog 91 #[lv, mv] w fun e w' => e = .returned (.bool (decide (l = m))) ∧ Below w.heap.size w w' := by
 obtain ⟨ao, cap, rfl, h2⟩ := id hF
 obtain ⟨am, cm, rfl, h3⟩ := id hG
 obtain ⟨B, HB⟩ : ∃ B, Hid (B = decide (l = m)) := ⟨_, rfl⟩
 rw [← HB.out]
 by_cases hl : l.length = m.length
 ·have HL : Hid (l.length = m.length) := hl
  rw [← HL.out]
  clear hl
  go_enter Tryz.func91, Tryz.ntmps91
  go_wp2
  go_loopg [5] l.length (fun g s5 wr => ∃ i : Nat, i + g = l.length ∧ s5 = .int .i64 (i : Int) ∧ Hid (l.take i = m.take i) ∧ Below w.heap.size w wr)
  case atStart => exact ⟨0, by simp, rfl, by show _ = _; simp, Below.refl _ _⟩
  case round =>
   obtain ⟨i, hig, rfl, HP, hb⟩ := hrel
   by_cases hlt : i < l.length
   ·have hlti : (i : Int) < (l.length : Int) := by omega
    have hx : l[i]? = some l[i] := List.getElem?_eq_getElem hlt
    have hy : m[i]? = some (m[i]'(by rw [← HL.out]; exact hlt)) := List.getElem?_eq_getElem _
    obtain ⟨b, off, rfl, d0, d1⟩ := h2 i _ hx
    obtain ⟨b', off', rfl, f0, f1⟩ := h3 i _ hy
    obtain ⟨x, hs⟩ : ∃ s, s = l[i] := ⟨_, rfl⟩
    rw [← hs] at hx d0 d1
    obtain ⟨y, hs'⟩ : ∃ s, s = m[i]'(by rw [← HL.out]; exact hlt) := ⟨_, rfl⟩
    rw [← hs'] at hy f0 f1
    obtain ⟨x1, x2⟩ := x
    obtain ⟨y1, y2⟩ := y
    have c0 := (hb.cell (p := ⟨b, off + i * 2, none⟩) (World.block_lt_of_cell? w _ d0)).trans d0
    have c1 := (hb.cell (p := ⟨b, off + i * 2 + 1, none⟩) (World.block_lt_of_cell? w _ d1)).trans d1
    have c2 := (hb.cell (p := ⟨b', off' + i * 2, none⟩) (World.block_lt_of_cell? w _ f0)).trans f0
    have c3 := (hb.cell (p := ⟨b', off' + i * 2 + 1, none⟩) (World.block_lt_of_cell? w _ f1)).trans f1
    by_cases he : ((x1, x2) : Sp) = (y1, y2)
    ·have HN : Hid (l.take (i + 1) = m.take (i + 1)) := by show _ = _; rw [take_succ_get hx, take_succ_get hy, HP.out, he]
     have e1 : decide (x1 = y1) = true := by cases he; simp
     have e2 : decide (x2 = y2) = true := by cases he; simp
     clear hx hy hs hs' d0 d1 f0 f1 h2 h3 hF hG HP he HB
     go_wp2
     go_quiet (fail)
     go_wp2
     go_roundg (gk - 1)
     case measure => omega
     case rel => exact ⟨i + 1, by omega, by go_num, HN, below_drewN hb nq⟩
    ·have E : Hid (B = false) := by
      show _ = _
      rw [HB.out]
      refine decide_eq_false fun e => he ?_
      rw [e, hy] at hx
      exact (Option.some.inj hx).symm
     have e12 : (decide (x1 = y1) && decide (x2 = y2)) = false := by
      rw [Bool.eq_false_iff]
      intro h
      simp only [Bool.and_eq_true, decide_eq_true_eq] at h
      exact he (by rw [h.1, h.2])
     clear hx hy hs hs' d0 d1 f0 f1 h2 h3 hF hG HP he HB
     by_cases e1 : x1 = y1
     ·have d1 : decide (x1 = y1) = true := by simpa using e1
      rw [d1, Bool.true_and] at e12
      clear e1
      go_wp2
      go_quiet (fail)
      go_wp2
      go_ret
      exact ⟨by rw [E.out]; rfl, below_drewN hb nq⟩
     ·have d1 : decide (x1 = y1) = false := by simpa using e1
      clear e1 e12
      go_wp2
      go_quiet (fail)
      go_wp2
      go_ret
      exact ⟨by rw [E.out]; rfl, below_drewN hb nq⟩
   ·have hlti : ¬ (i : Int) < (l.length : Int) := by omega
    obtain rfl : i = l.length := by omega
    have E : Hid (B = true) := by
     show _ = _
     rw [HB.out]
     refine decide_eq_true ?_
     have := HP.out
     rw [List.take_length, List.take_of_length_le (by rw [HL.out]; exact Nat.le_refl _)] at this
     exact this
    clear HB h2 h3 hF hG HP
    go_wp2
    go_ret
    exact ⟨by rw [E.out]; rfl, hb⟩
 ·have E : Hid (B = false) := by show _ = _; rw [HB.out]; exact decide_eq_false fun e => hl (by rw [e])
  have hlib : ((l.length : Int) == (m.length : Int)) = false := by simpa using fun h => hl (by omega)
  have hli : ¬ (l.length : Int) = (m.length : Int) := by omega
  clear HB h2 h3 hF hG
  go_enter Tryz.func91, Tryz.ntmps91
  go_wp2
  go_ret
  exact ⟨by rw [E.out]; rfl, Below.refl _ _⟩

end Go.Proofs.YtfpbgfmnjpamlaaGreat

