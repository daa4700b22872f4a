import Derived.Test.YtlgnnfhnkfjafaaHp24
/- The contract of replace: others in place of ranges. -/
namespace Go.Proofs.Ytlgnnfhnkfjafaa
open Go.RowKit SpanMath ChartMath
set_option maxRecDepth 100000
set_option linter.unusedSimpArgs false
set_option linter.unusedVariables false

theorem El.flat_set {α : Type} (E : El α) {j : Nat} {u : Value} : ∀ (xs : List α) (i : Nat) (x x' : α), xs[i]? = some x → j < E.k → E.enc x' = (E.enc x).set j u → (E.flat xs).set (i * E.k + j) u = E.flat (xs.set i x')
  | [], i, x, x', h, _, _ => by simp at h
  | y :: xs, 0, x, x', h, hj, he => by
    simp only [List.getElem?_cons_zero, Option.some.injEq] at h
    subst h
    rw [El.flat_cons, Nat.zero_mul, Nat.zero_add, List.set_append_left _ _ (by rw [E.len]; exact hj), List.set_cons_zero, El.flat_cons, he]
  | y :: xs, i + 1, x, x', h, hj, he => by
    have ih := El.flat_set E xs i x x' (by simpa using h) hj he
    rw [El.flat_cons, List.set_append_right _ _ (by rw [E.len, Nat.add_mul]; omega), List.set_cons_succ, El.flat_cons, ← ih, E.len]
    congr 2
    rw [Nat.add_mul]
    omega
/-- A part of an element of one's own row is turned. -/
theorem Rk.setAt {α : Type} {E : El α} {w : World} {t : TypeId} {g n cap : Nat} {xs : List α} (h : Rk E w t (.slice (some ⟨g, 0, none⟩) n cap) xs) {i j : Nat} {x x' : α} {u : Value} (hx : xs[i]? = some x) (hj : j < E.k) (he : E.enc x' = (E.enc x).set j u) : Rk E (w.setCell ⟨g, i * E.k + j, none⟩ u) t (.slice (some ⟨g, 0, none⟩) n cap) (xs.set i x') := by
  obtain ⟨h0, ⟨r1, r2⟩ | ⟨g', cp, cur, e1, hg, hbk, hle, hm, hcs, ht⟩⟩ := h
  · cases r1
  · cases e1
    have hl : (xs.set i x').length = xs.length := by simp
    refine ⟨by rw [El.flat_length], .inr ⟨g, cap, cur.setIfInBounds (i * E.k + j) u, by rw [hl], hg, ?_, by rw [hl]; exact hle, hm, by simpa using hcs, ?_⟩⟩
    · simp [World.setCell, Array.getElem?_modify, hbk]
    · rw [hl, Array.toList_setIfInBounds, List.take_set, ht, El.flat_set E xs i x x' hx hj he]

/-- What stands while epochs are laid. -/
def stM (l W : List Rg) (i j : Nat) (e : Int) (m : Nat) : List Rg := l.take i ++ ((W.take m).map (fun r => (r.1, r.2.1, e)) ++ W.drop m) ++ l.drop j
theorem stM_zero (l W : List Rg) (i j : Nat) (e : Int) : stM l W i j e 0 = [l.take i, W, l.drop j].flatten := by simp [stM]
theorem stM_all (l W : List Rg) (i j : Nat) (e : Int) : stM l W i j e W.length = spliced l i j (W.map fun r => (r.1, r.2.1)) e := by
  unfold stM spliced
  rw [List.take_length, List.drop_length, List.append_nil, List.map_map]
  rfl
theorem stM_step {l W : List Rg} {i j : Nat} {e : Int} {m : Nat} {r : Rg} (hi : i ≤ l.length) (hr : W[m]? = some r) : (stM l W i j e m)[i + m]? = some r ∧ (stM l W i j e m).set (i + m) (r.1, r.2.1, e) = stM l W i j e (m + 1) := by
  obtain ⟨hm, rfl⟩ := List.getElem?_eq_some_iff.1 hr
  have hpl : (l.take i ++ (W.take m).map (fun r => (r.1, r.2.1, e))).length = i + m := by simp; omega
  have e1 : stM l W i j e m = (l.take i ++ (W.take m).map (fun r => (r.1, r.2.1, e))) ++ W[m] :: (W.drop (m + 1) ++ l.drop j) := by
    unfold stM
    rw [List.drop_eq_getElem_cons hm]
    simp only [List.append_assoc, List.cons_append]
  have e2 : stM l W i j e (m + 1) = (l.take i ++ (W.take m).map (fun r => (r.1, r.2.1, e))) ++ (W[m].1, W[m].2.1, e) :: (W.drop (m + 1) ++ l.drop j) := by
    unfold stM
    rw [List.take_succ_eq_append_getElem hm, List.map_append]
    simp
  rw [e1, e2]
  refine ⟨?_, ?_⟩
  · rw [List.getElem?_append_right (by omega), hpl, Nat.sub_self]
    rfl
  · rw [List.set_append_right _ _ (by omega), hpl, Nat.sub_self]
    rfl
theorem stM_len {l W : List Rg} {i j : Nat} {e : Int} (m : Nat) (hi : i ≤ j) (hj : j ≤ l.length) (hm : m ≤ W.length) : (stM l W i j e m).length = l.length - (j - i) + W.length := by
  unfold stM
  simp
  omega

/-- What a turn tells. -/
def TurnT (m : List Rg × Int) (e : Ending) (w : World) : Prop := ∃ v, e = .returned (.tuple #[v, .int .i64 m.2]) ∧ Rd rgE w v m.1
theorem rd_nil (w : World) : Rd rgE w (.slice none 0 0) [] := ⟨none, 0, rfl, by simp, fun _ => rfl, fun i x j u hx => by simp at hx⟩

set_option maxHeartbeats 8000000 in
theorem replace_of (l W : List Rg) (lv wv : Value) (i j : Nat) (w : World) (hF : Rd rgE w lv l) (hG : Rd rgE w wv W) (hC : Chart l) (hi : i ≤ j) (hj : j ≤ l.length) (hw0 : 0 < W.length) (hw2 : W.length ≤ 2) :
    Calls Try.prog 46 #[lv, .int .i64 (i : Int), .int .i64 (j : Int), wv] w fun e w' => TurnT (putM l i j (W.map fun r => (r.1, r.2.1))) e w' ∧ Below w.heap.size w w' := by
  obtain ⟨T, HT⟩ : ∃ T, Hid (T = TurnT (putM l i j (W.map fun r => (r.1, r.2.1)))) := ⟨_, rfl⟩
  rw [← HT.out]
  have kv := version_of l lv w hF.cv
  have hv : verC l = ver l := by unfold verC; rw [if_pos (mayC_iff.2 hC)]
  rw [hv] at kv
  have hle := hC.ver_le
  have h0 := ver_nonneg l
  have hl64 := hC.len
  obtain ⟨E, hE⟩ : ∃ E, E = ver l + 1 := ⟨_, rfl⟩
  have HTE : Hid (T = TurnT (if 64 < l.length - (j - i) + W.length ∨ 4611686018427387904 < E then ([], 2) else (stM l W i j E W.length, 0))) := by
    show _ = _
    rw [HT.out, stM_all, hE]
    unfold putM
    rw [List.length_map]
  have hwr : IntKind.u64.wrap (ver l + 1) = E := by
    rw [hE]
    exact IntWalk.u64_in _ (by omega)
  have hE1 : 1 ≤ E := by omega
  clear hv HT
  generalize ver l = V at *
  clear hE hle h0
  obtain ⟨ao, cap, rfl, hcap, hao, -⟩ := id hF
  obtain ⟨aw, cw, rfl, hcw, haw, -⟩ := id hG
  obtain ⟨D, hD⟩ : ∃ D, D = j - i := ⟨_, rfl⟩
  obtain ⟨M1, hM1⟩ : ∃ M1, M1 = l.length - D := ⟨_, rfl⟩
  obtain ⟨M2, hM2⟩ : ∃ M2, M2 = M1 + W.length := ⟨_, rfl⟩
  have w1 : IntKind.i64.wrap ((j : Int) - (i : Int)) = (D : Int) := by rw [IntWalk.i64_in _ (by omega)]; omega
  have w2 : IntKind.i64.wrap ((l.length : Int) - (D : Int)) = (M1 : Int) := by rw [IntWalk.i64_in _ (by omega)]; omega
  have w3 : IntKind.i64.wrap ((M1 : Int) + (W.length : Int)) = (M2 : Int) := by rw [IntWalk.i64_in _ (by omega)]; omega
  have HTM : Hid (T = TurnT (if 64 < M2 ∨ 4611686018427387904 < E then ([], 2) else (stM l W i j E W.length, 0))) := by show _ = _; rw [HTE.out, hM2, hM1, hD]
  have HLen : Hid (∀ m, m ≤ W.length → (stM l W i j E m).length = M2) := fun m hm => by rw [stM_len m hi hj hm, hM2, hM1, hD]
  have hpos : 0 < l.length := by
    rcases Nat.eq_zero_or_pos l.length with h | h
    · have := hC.chn
      rw [List.eq_nil_of_length_eq_zero h] at this
      cases this
    · exact h
  have hM2p : 0 < M2 := by omega
  have hiM : i + W.length ≤ M2 := by omega
  clear HTE hD hM1 hM2
  by_cases hbig : 64 < M2
  · have E1 : Hid (∀ W, T (.returned (.tuple #[.slice none 0 0, .int .i64 2])) W) := fun W => by rw [HTM.out, if_pos (.inl hbig)]; exact ⟨_, rfl, rd_nil _⟩
    have hbi : (64 : Int) < (M2 : Int) := by omega
    clear HTM HLen hF hG hC hi hj
    go_enter Try.func46, Try.ntmps46
    go_wp2_with fail
    refine kv.mono ?_
    rintro e w1 ⟨rfl, hb1⟩
    go_wp2
    go_ret2
    exact ⟨E1.out _, hb1⟩
  · have hbi : ¬ (64 : Int) < (M2 : Int) := by omega
    by_cases hbe : 4611686018427387904 < E
    · have E1 : Hid (∀ W, T (.returned (.tuple #[.slice none 0 0, .int .i64 2])) W) := fun W => by rw [HTM.out, if_pos (.inr hbe)]; exact ⟨_, rfl, rd_nil _⟩
      clear HTM HLen hF hG hC hi hj
      go_enter Try.func46, Try.ntmps46
      go_wp2_with fail
      refine kv.mono ?_
      rintro e w1 ⟨rfl, hb1⟩
      go_wp2
      go_ret2
      exact ⟨E1.out _, hb1⟩
    · have HT2 : Hid (T = TurnT (stM l W i j E W.length, 0)) := by show _ = _; rw [HTM.out, if_neg (by omega)]
      clear HTM
      obtain ⟨b, off, rfl, -, -, -, -⟩ : ∃ b off, ao = some ⟨b, off, none⟩ ∧ _ := by
        obtain ⟨ao', cap', e', h2⟩ := hF.cv
        cases e'
        exact h2 0 l[0] (List.getElem?_eq_getElem hpos)
      have i1 : (i : Int) ≤ (cap : Int) := by omega
      have i2 : (j : Int) ≤ (l.length : Int) := by omega
      have i3 : (j : Int) ≤ (cap : Int) := by omega
      have hrd1 := fun X (hX : Below w.heap.size w X) => (hF.below hX).front (k := i) (by omega)
      have hrd2 := fun X (hX : Below w.heap.size w X) => hG.below hX
      have hrd3 := fun X (hX : Below w.heap.size w X) => (hF.below hX).back (k := j) hj
      clear hF hG hC
      go_enter Try.func46, Try.ntmps46
      go_wp2_with fail
      refine kv.mono ?_
      rintro e w1 ⟨rfl, hb1⟩
      clear kv
      obtain ⟨AD, hAD⟩ : ∃ AD, (if cap = j then some (⟨b, off, none⟩ : Addr) else some ⟨b, off + j * 4, none⟩) = AD := ⟨_, rfl⟩
      have kct : ∀ X, Below w.heap.size w X → Calls Try.prog 55 #[.slice (some ⟨X.heap.size, 0, none⟩) 3 3] (X.alloc (.cells #[.slice (some ⟨b, off, none⟩) i cap, .slice aw W.length cw, .slice AD (l.length - j) (cap - j)] 22)) fun e w' => ∃ v, e = .returned v ∧ OwnG (X.heap.size + 1) w' v (stM l W i j E 0) ∧ Below (X.heap.size + 1) (X.alloc (.cells #[.slice (some ⟨b, off, none⟩) i cap, .slice aw W.length cw, .slice AD (l.length - j) (cap - j)] 22)) w' := fun X hX => by
        obtain ⟨q1, q2, q3⟩ := one_box X (.cells #[.slice (some ⟨b, off, none⟩) i cap, .slice aw W.length cw, .slice AD (l.length - j) (cap - j)] 22)
        have hX2 := hX.trans (q3.mono hX.size)
        have hk := rconcat_of X.heap.size [.slice (some ⟨b, off, none⟩) i cap, .slice aw W.length cw, .slice AD (l.length - j) (cap - j)] [l.take i, W, l.drop j] _ (fun i v hv => by
            rw [cells_of_block q2]
            simpa using hv) (fun m v xs hv hx => by
            match m, hv, hx with
            | 0, hv, hx => cases hv; cases hx; exact hrd1 _ hX2
            | 1, hv, hx => cases hv; cases hx; exact hrd2 _ hX2
            | 2, hv, hx => cases hv; cases hx; have h9 := hrd3 _ hX2; rw [show rgE.k = 4 from rfl, hAD] at h9; exact h9
            | m + 3, hv, hx => simp at hv) rfl rfl (by rw [← stM_zero l W i j E, HLen.out 0 (Nat.zero_le _)]; exact hM2p) (by rw [← stM_zero l W i j E, HLen.out 0 (Nat.zero_le _)]; omega)
        rw [← stM_zero l W i j E, q1] at hk
        exact hk
      clear hrd1 hrd2 hrd3
      go_wp2_with fail
      refine wp_region_L (fun X => Below w.heap.size w X) [] (by kernel_rfl) ?_
      have hbd : Below w.heap.size w w1.drew := hb1.drew
      generalize w1.drew = wd at *
      have yS : (fun X => Below w.heap.size w X) wd := hbd
      refine wpAnyL_take 0 rfl (by kernel_rfl) (by kernel_rfl) (by kernel_rfl) (by kernel_rfl) (fun _ _ _ h => h) (by kernel_rfl) (by intro w' hS'; obtain hz := hS'; go_simp <;> rfl) yS ?_
      try simp only [List.getElem_toArray, List.getElem_cons_succ, List.getElem_cons_zero, Act.put, List.setIfInBounds_toArray, List.set_cons_zero, List.set_cons_succ]
      refine wpAnyL_take 1 rfl (by kernel_rfl) (by kernel_rfl) (by kernel_rfl) (by kernel_rfl) (fun _ _ _ h => h) (by kernel_rfl) (by intro w' hS'; obtain hz := hS'; go_simp <;> rfl) yS ?_
      try simp only [List.getElem_toArray, List.getElem_cons_succ, List.getElem_cons_zero, Act.put, List.setIfInBounds_toArray, List.set_cons_zero, List.set_cons_succ]
      refine wpAnyL_take 2 rfl (by kernel_rfl) (by kernel_rfl) (by kernel_rfl) (by kernel_rfl) (fun _ _ _ h => h) (by kernel_rfl) (by intro w' hS'; obtain hz := hS'; go_simp <;> rfl) yS ?_
      try simp only [List.getElem_toArray, List.getElem_cons_succ, List.getElem_cons_zero, Act.put, List.setIfInBounds_toArray, List.set_cons_zero, List.set_cons_succ]
      refine wpAnyL_take 3 rfl (by kernel_rfl) (by kernel_rfl) (by kernel_rfl) (by kernel_rfl) (fun _ _ _ h => h) (by kernel_rfl) (by intro w' hS'; obtain hz := hS'; go_simp <;> rfl) yS ?_
      try simp only [List.getElem_toArray, List.getElem_cons_succ, List.getElem_cons_zero, Act.put, List.setIfInBounds_toArray, List.set_cons_zero, List.set_cons_succ]
      refine wpAnyL_take 4 rfl (by kernel_rfl) (by kernel_rfl) (by kernel_rfl) (by kernel_rfl) (fun _ _ _ h => h) (by kernel_rfl) (by intro w' hS'; obtain hz := hS'; go_simp <;> rfl) yS ?_
      try simp only [List.getElem_toArray, List.getElem_cons_succ, List.getElem_cons_zero, Act.put, List.setIfInBounds_toArray, List.set_cons_zero, List.set_cons_succ]
      refine wpAnyL_take 5 rfl (by kernel_rfl) (by kernel_rfl) (by kernel_rfl) (by kernel_rfl) (fun _ _ _ h => h) (by kernel_rfl) (by intro w' hS'; obtain hz := hS'; go_simp <;> rfl) yS ?_
      try simp only [List.getElem_toArray, List.getElem_cons_succ, List.getElem_cons_zero, Act.put, List.setIfInBounds_toArray, List.set_cons_zero, List.set_cons_succ]
      refine wpAnyL_take 6 rfl (by kernel_rfl) (by kernel_rfl) (by kernel_rfl) (by kernel_rfl) (fun _ _ _ h => h) (by kernel_rfl) (by intro w' hS'; obtain hz := hS'; go_simp <;> rfl) yS ?_
      try simp only [List.getElem_toArray, List.getElem_cons_succ, List.getElem_cons_zero, Act.put, List.setIfInBounds_toArray, List.set_cons_zero, List.set_cons_succ]
      refine wpAnyL_one 7 (by kernel_rfl) rfl (by kernel_rfl) ?_
      intro K' hK'
      go_simp
      have hbz : Below w.heap.size w _ := hbd.alloc hbd.size (.cells #[.slice (some ⟨b, off, none⟩) i cap, .slice aw W.length cw, .slice AD (l.length - j) (cap - j)] 22)
      have kcat := kct _ hbd
      clear kct
      generalize hwz : wd.alloc (.cells #[.slice (some ⟨b, off, none⟩) i cap, .slice aw W.length cw, .slice AD (l.length - j) (cap - j)] 22) = wz at *
      clear hwz
      refine hK'.out _ _ (.inr hbz) ?_
      clear hK' K'
      try simp only [List.getElem_toArray, List.getElem_cons_succ, List.getElem_cons_zero, Act.put, List.setIfInBounds_toArray, List.set_cons_zero, List.set_cons_succ]
      refine wpAnyL_one 8 (by kernel_rfl) rfl (by kernel_rfl) ?_
      intro K' hK'
      go_simp
      go_at_call 55
      refine kcat.mono ?_
      rintro e w6 ⟨v6, rfl, hO6, hb6⟩
      have hb7 : Below w.heap.size w w6 := hbz.trans (hb6.mono (Nat.le_succ_of_le hbd.size))
      refine hK'.out _ _ (.inr hb7) ?_
      clear hK' K'
      try simp only [List.getElem_toArray, List.getElem_cons_succ, List.getElem_cons_zero, Act.put, List.setIfInBounds_toArray, List.set_cons_zero, List.set_cons_succ]
      refine wpAnyL_take 9 rfl (by kernel_rfl) (by kernel_rfl) (by kernel_rfl) (by kernel_rfl) (fun _ _ _ h => h) (by kernel_rfl) (by intro w' hS'; obtain hz := hS'; go_simp <;> rfl) hb7 ?_
      try simp only [List.getElem_toArray, List.getElem_cons_succ, List.getElem_cons_zero, Act.put, List.setIfInBounds_toArray, List.set_cons_zero, List.set_cons_succ]
      refine wpAnyL_done (by kernel_rfl) (NoPanic.normal ?_) _
      have hO7 : OwnG w.heap.size w6 v6 (stM l W i j E 0) := ⟨hO6.1, fun k hk => by have := hO6.2 k hk; have := hbd.size; omega⟩
      obtain ⟨g6, c6, cur6, hv6, hl6, hm6, -⟩ := hO7.1.cells (by rw [HLen.out 0 (Nat.zero_le _)]; exact hM2p)
      rw [HLen.out 0 (Nat.zero_le _)] at hv6 hl6
      subst hv6
      have hg6 := hO7.2 g6 rfl
      clear kcat hO6 hb6 hbz hbd yS hAD hb1 w1 w2 w3 hwr i1 i2 i3
      go_wp2
      go_loopg [41] W.length (fun g s41 wr => ∃ m : Nat, m + g = W.length ∧ s41 = .int .i64 (m : Int) ∧ OwnG w.heap.size wr (.slice (some ⟨g6, 0, none⟩) M2 c6) (stM l W i j E m) ∧ Below w.heap.size w wr)
      case atStart => exact ⟨0, by simp, rfl, hO7, hb7⟩
      case round =>
        obtain ⟨m, hmg, rfl, hO, hb⟩ := hrel
        clear hO7 hb7
        by_cases hlt : m < W.length
        · have hlti : (m : Int) < (W.length : Int) := by omega
          have hr : W[m]? = some W[m] := List.getElem?_eq_getElem hlt
          obtain ⟨hst, hset⟩ := stM_step (l := l) (j := j) (e := E) (Nat.le_trans hi hj) hr
          obtain ⟨Z, hZ⟩ : ∃ Z, Z = i + m := ⟨_, rfl⟩
          rw [← hZ] at hst hset
          obtain ⟨g', c', cur', ev, -, -, hbk, -, -, hcell, hfro⟩ := hO.1.cells (by rw [HLen.out m (by omega)]; exact hM2p)
          obtain rfl : g6 = g' := by cases ev; rfl
          clear ev
          have y3 : wr.cell? ⟨g6, Z * 4 + 3, none⟩ = some (.int .u64 (W[m]).2.2) := hcell Z _ 3 hst (by decide)
          have fz : wr.frozen? ⟨g6, Z * 4 + 3, none⟩ = false := hfro _
          have hO8 : OwnG w.heap.size (wr.setCell ⟨g6, Z * 4 + 3, none⟩ (.int .u64 E)) (.slice (some ⟨g6, 0, none⟩) M2 c6) (stM l W i j E (m + 1)) := by
            rw [← hset]
            exact ⟨Rk.setAt (E := rgE) (j := 3) hO.1 hst (by decide) rfl, hO.2⟩
          have hb8 : Below w.heap.size w (wr.setCell ⟨g6, Z * 4 + 3, none⟩ (.int .u64 E)) := hb.setCell (p := ⟨g6, Z * 4 + 3, none⟩) hg6 _
          have zw : IntKind.i64.wrap ((i : Int) + (m : Int)) = (Z : Int) := by rw [IntWalk.i64_in _ (by omega)]; omega
          have z1 : (Z : Int) < (M2 : Int) := by omega
          have z0 : (0 : Int) ≤ (Z : Int) := by omega
          clear hst hset hr hcell hfro hbk hO HLen HT2 hZ
          go_wp2
          go_roundg (gk - 1)
          case measure => omega
          case rel => exact ⟨m + 1, by omega, by go_num, hO8, hb8⟩
        · have hlti : ¬ (m : Int) < (W.length : Int) := by omega
          obtain rfl : m = W.length := by omega
          have E1 : Hid (T (.returned (.tuple #[.slice (some ⟨g6, 0, none⟩) M2 c6, .int .i64 0])) wr) := by
            show T _ _
            rw [HT2.out]
            exact ⟨_, rfl, hO.1.rd⟩
          clear HT2 HLen hO
          go_wp2
          go_ret2
          exact ⟨E1.out, hb⟩
end Go.Proofs.Ytlgnnfhnkfjafaa

