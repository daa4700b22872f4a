import Derived.Test.YthaokigkagckgaaGreatHr07
import Derived.Test.YthaokigkagckgaaGreatHr08
import Derived.Lib.SliceRun
/- The program's Last, Term, Fresh. -/
namespace RlogMath
open QuorumMath
/-- Entries are numbered. -/
theorem beh_num : ∀ (l : List Me) (i t : Nat), behB i t l = true → ∀ (k : Nat) (e : Me), l[k]? = some e → e.idx = i + 1 + k
  | [], i, t, _, k, e, he => by simp at he
  | a :: l, i, t, h, k, e, he => by
    rw [behB, Bool.and_eq_true, Bool.and_eq_true, Bool.and_eq_true, Bool.and_eq_true] at h
    obtain ⟨⟨⟨⟨_, h2⟩, _⟩, _⟩, h5⟩ := h
    have h2' : a.idx = i + 1 := by simpa using h2
    cases k with
    | zero => simp at he; subst he; omega
    | succ k =>
      have := beh_num l a.idx a.term h5 k e (by simpa using he)
      omega
theorem termF_none {x : Nat} : ∀ {l : List Me}, (∀ e ∈ l, e.idx ≠ x) → termF l x = none
  | [], _ => rfl
  | a :: l, h => by
    rw [termF, if_neg (h a List.mem_cons_self)]
    exact termF_none fun e he => h e (List.mem_cons_of_mem _ he)
theorem may_beh {b : Me} {l : List Me} (h : mayB b l = true) : behB b.idx b.term l = true := by
  unfold mayB at h
  simp only [Bool.and_eq_true, decide_eq_true_eq] at h
  exact h.2
theorem may_num {b : Me} {l : List Me} (h : mayB b l = true) {k : Nat} {e : Me} (he : l[k]? = some e) : e.idx = b.idx + 1 + k := beh_num l _ _ (may_beh h) k e he
/-- The term at an index, as the program looks for it. -/
def ptermM (b : Me) (l : List Me) (x : Nat) : Option Nat := if x < b.idx ∨ (lastM b l).1 < x then none else if x = b.idx then some b.term else termF l x
theorem pterm_may {b : Me} {l : List Me} (h : mayB b l = true) (x : Nat) : ptermM b l x = termM b l x := by
  have hl := (may_last h).1
  unfold ptermM termM
  by_cases h1 : x < b.idx ∨ (lastM b l).1 < x
  · rw [if_pos h1, if_neg (by omega), termF_none]
    intro e he
    obtain ⟨k, hk⟩ := List.getElem?_of_mem he
    have h2 := may_num h hk
    have h3 : k < l.length := (List.getElem?_eq_some_iff.1 hk).1
    omega
  · rw [if_neg h1]
end RlogMath
namespace Go.Proofs.YthaokigkagckgaaGreat
open Go.RowKit QuorumMath RlogMath
set_option maxRecDepth 100000
set_option linter.unusedSimpArgs false
set_option linter.unusedVariables false

set_option maxHeartbeats 4000000 in
theorem plast_of (b : Ez) (zs : List Ez) (lv : Value) (w : World) (hL : EntsV w lv zs) (hlen : zs.length ≤ 1000000000000) : Calls Tryz.prog 68 #[lgv b lv] w fun e w' => e = .returned (lastV (lastM b.1 (mes zs))) ∧ Below w.heap.size w w' := by
  obtain ⟨R, HR⟩ : ∃ R, Hid (R = lastM b.1 (mes zs)) := ⟨_, rfl⟩
  rw [← HR.out]
  obtain ⟨hs, hb0, cl⟩ := lg_box w b lv
  obtain ⟨la, lc, rfl, -, -⟩ := hL.1.shape
  obtain ⟨q1, q2, q3⟩ := one_box (w.alloc (lgc b (.slice la zs.length lc))) (.cells #[.int .u64 (b.1.idx : Int), .int .u64 (b.1.term : Int), .int .i64 b.1.kind, .slice b.2.1 b.2.2.1 b.2.2.2] 25)
  rw [hs] at q1 q2 q3
  have hb2 := hb0.trans (q3.mono (Nat.le_succ _))
  obtain ⟨c0, c1, c2, c3, c4⟩ := cl _ q3
  obtain ⟨a0, a1, a2, a3, a4⟩ := cl _ (Below.refl _ _)
  by_cases h0 : zs.length = 0
  · have E : Hid (R = (b.1.idx, b.1.term)) := by
      show _ = _
      rw [HR.out, List.eq_nil_of_length_eq_zero h0]
      rfl
    obtain ⟨R1, R2⟩ := R
    obtain ⟨⟨ix, tm, kd, dt⟩, sa, sn, sc⟩ := b
    dsimp only [lgc] at *
    clear HR hL cl
    rw [h0] at *
    go_enter Tryz.func68, Tryz.ntmps68
    go_wp2
    go_quiet (fail)
    go_wp2
    go_ret2
    exact ⟨by cases E.out; rfl, below_dN hb2 nq⟩
  · obtain ⟨j, hj⟩ : ∃ j, Hid (j + 1 = zs.length) := ⟨zs.length - 1, by show _ = _; omega⟩
    have hjl : j < zs.length := by have := hj.out; omega
    have hz : zs[j]? = some zs[j] := List.getElem?_eq_getElem hjl
    obtain ⟨z, hzz⟩ : ∃ z, z = zs[j] := ⟨_, rfl⟩
    rw [← hzz] at hz
    clear hzz
    obtain ⟨p, off, rfl, c⟩ := rde_at hL.1 hz
    obtain ⟨d0, d1, d2, d3⟩ := c _ hb2
    have E : Hid (R = (z.1.idx, z.1.term)) := by show _ = _; rw [HR.out, lastM_at hz hj.out]
    obtain ⟨R1, R2⟩ := R
    obtain ⟨⟨ix, tm, kd, dt⟩, sa, sn, sc⟩ := b
    obtain ⟨⟨ix2, tm2, kd2, dt2⟩, sa2, sn2, sc2⟩ := z
    dsimp only [lgc] at *
    have HJ : Hid (j + 1 = zs.length) := hj
    clear hj hL hz c cl HR
    generalize zs.length = n at *
    have hj := HJ
    have h0i : (0 : Int) < (n : Int) := by omega
    have q5 : IntKind.i64.wrap ((n : Int) - 1) = (j : Int) := by have := hj.out; rw [show (n : Int) - 1 = (j : Int) by omega]; exact IntWalk.i64_in _ (by omega)
    have q4 : (n : Int) - 1 = (j : Int) := by have := hj.out; omega
    have q6 : (j : Int) < (n : Int) := by omega
    clear hj HJ
    go_enter Tryz.func68, Tryz.ntmps68
    go_wp2
    go_quiet (fail)
    go_wp2
    go_ret2
    refine ⟨by cases E.out; rfl, below_dN ?_ nq⟩
    exact hb0.alloc hb0.size _

set_option maxHeartbeats 4000000 in
theorem pterm0_of (b : Ez) (zs : List Ez) (lv : Value) (x : Nat) (w : World) (hL : EntsV w lv zs) (hlen : zs.length ≤ 1000000000000) : Calls Tryz.prog 107 #[lgv b lv, .int .u64 (x : Int)] w fun e w' => e = .returned (termV (ptermM b.1 (mes zs) x)) ∧ Below w.heap.size w w' := by
  obtain ⟨R, HR⟩ : ∃ R, Hid (R = ptermM b.1 (mes zs) x) := ⟨_, rfl⟩
  rw [← HR.out]
  obtain ⟨hs, hb0, cl⟩ := lg_box w b lv
  have kl := plast_of b zs lv (w.alloc (lgc b lv)) (hL.below hb0) hlen
  rw [hs] at kl
  have hR := HR.out
  unfold ptermM at hR
  generalize lastM b.1 (mes zs) = p at *
  obtain ⟨p1, p2⟩ := p
  dsimp only at hR
  obtain ⟨la, lc, rfl, -, -⟩ := hL.1.shape
  obtain ⟨c0, c1, c2, c3, c4⟩ := cl _ (Below.refl _ _)
  obtain ⟨⟨ix, tm, kd, dt⟩, sa, sn, sc⟩ := b
  dsimp only [lgc] at *
  clear HR
  go_enter Tryz.func107, Tryz.ntmps107
  go_wp2_with fail
  refine kl.mono ?_
  rintro e w1 ⟨rfl, hb1⟩
  obtain ⟨d0, d1, d2, d3, d4⟩ := cl w1 hb1
  have hb01 := hb0.trans (hb1.mono (Nat.le_succ _))
  clear kl c0 c1 c2 c3 c4 cl hb1 hb0
  by_cases h1 : x < ix
  · have h1i : (x : Int) < (ix : Int) := by omega
    have E : Hid (R = none) := by show _ = _; rw [hR, if_pos (.inl h1)]
    clear hR hL
    go_wp2
    go_ret2
    exact ⟨by rw [E.out]; rfl, hb01⟩
  · have h1i : ¬ (x : Int) < (ix : Int) := by omega
    by_cases h2 : p1 < x
    · have h2i : (p1 : Int) < (x : Int) := by omega
      have E : Hid (R = none) := by show _ = _; rw [hR, if_pos (.inr h2)]
      clear hR hL
      go_wp2
      go_ret2
      exact ⟨by rw [E.out]; rfl, hb01⟩
    · have h2i : ¬ (p1 : Int) < (x : Int) := by omega
      rw [if_neg (by omega)] at hR
      by_cases h0 : x = ix
      · have E : Hid (R = some tm) := by show _ = _; rw [hR, if_pos h0]
        subst h0
        clear hR hL
        go_wp2
        go_ret2
        exact ⟨by rw [E.out]; rfl, hb01⟩
      · have E : Hid (R = termF (mes zs) x) := by show _ = _; rw [hR, if_neg h0]
        have h0b : ((x : Int) == (ix : Int)) = false := by simp; omega
        have h0i : ¬ (x : Int) = (ix : Int) := by omega
        clear hR
        go_wp2
        go_loopg [36] zs.length (fun gh s6 wr => ∃ k : Nat, k + gh = zs.length ∧ s6 = .int .i64 (k : Int) ∧ Below w.heap.size w wr ∧ Hid (R = termF ((mes zs).drop k) x))
        case atStart => exact ⟨0, by simp, rfl, hb01, by rw [List.drop_zero]; exact E⟩
        case round =>
          obtain ⟨k, hkg, rfl, hbr, HK⟩ := hrel
          clear E hb01 d0 d1 d2 d3 d4
          by_cases hlt : k < zs.length
          · have hlti : (k : Int) < (zs.length : Int) := by omega
            have hz : zs[k]? = some zs[k] := List.getElem?_eq_getElem hlt
            obtain ⟨z, hzz⟩ : ∃ z, z = zs[k] := ⟨_, rfl⟩
            rw [← hzz] at hz
            clear hzz
            obtain ⟨p, off, rfl, c⟩ := rde_at hL.1 hz
            obtain ⟨d0, d1, d2, d3⟩ := c _ hbr
            have hK := HK.out
            rw [termF_at (mes_at hz)] at hK
            obtain ⟨⟨ix2, tm2, kd2, dt2⟩, sa2, sn2, sc2⟩ := z
            dsimp only at d0 d1 d2 d3 hK
            by_cases hx : ix2 = x
            · have E : Hid (R = some tm2) := by show _ = _; rw [hK, if_pos hx]
              subst hx
              clear hK HK hz c hL
              go_wp2
              go_ret2
              exact ⟨by rw [E.out]; rfl, hbr.alloc hbr.size _⟩
            · have E : Hid (R = termF ((mes zs).drop (k + 1)) x) := by show _ = _; rw [hK, if_neg hx]
              have hxb : ((ix2 : Int) == (x : Int)) = false := by simp; omega
              have hxi : ¬ (ix2 : Int) = (x : Int) := by omega
              clear hK HK hz c hL
              go_wp2
              go_roundg (gk - 1)
              case measure => omega
              case rel => exact ⟨k + 1, by omega, by go_num, hbr.alloc hbr.size _, E⟩
          · have hlti : ¬ (k : Int) < (zs.length : Int) := by omega
            have E : Hid (R = none) := by show _ = _; rw [HK.out, List.drop_eq_nil_of_le (by simp; omega)]; rfl
            clear HK hL
            go_wp2
            go_ret2
            exact ⟨by rw [E.out]; rfl, hbr⟩
/-- Of a log that may be. -/
theorem pterm_of (b : Ez) (zs : List Ez) (lv : Value) (x : Nat) (w : World) (hL : EntsV w lv zs) (hlen : zs.length ≤ 1000000000000) (hm : mayB b.1 (mes zs) = true) : Calls Tryz.prog 107 #[lgv b lv, .int .u64 (x : Int)] w fun e w' => e = .returned (termV (termM b.1 (mes zs) x)) ∧ Below w.heap.size w w' := by
  have := pterm0_of b zs lv x w hL hlen
  rw [pterm_may hm] at this
  exact this

set_option maxHeartbeats 2000000 in
theorem pfresh_of (b : Ez) (zs : List Ez) (lv : Value) (x t : Nat) (w : World) (hL : EntsV w lv zs) (hlen : zs.length ≤ 1000000000000) : Calls Tryz.prog 145 #[lgv b lv, .int .u64 (x : Int), .int .u64 (t : Int)] w fun e w' => e = .returned (.bool (freshM b.1 (mes zs) x t)) ∧ Below w.heap.size w w' := by
  obtain ⟨R, HR⟩ : ∃ R, Hid (R = freshM b.1 (mes zs) x t) := ⟨_, rfl⟩
  rw [← HR.out]
  obtain ⟨hs, hb0, -⟩ := lg_box w b lv
  have kl := plast_of b zs lv (w.alloc (lgc b lv)) (hL.below hb0) hlen
  rw [hs] at kl
  have hR := HR.out
  unfold freshM at hR
  generalize lastM b.1 (mes zs) = p at *
  obtain ⟨p1, p2⟩ := p
  dsimp only at hR
  obtain ⟨la, lc, rfl, -, -⟩ := hL.1.shape
  clear HR hL
  by_cases ht : t = p2
  · have E : Hid (R = decide (p1 ≤ x)) := by show _ = _; rw [hR, if_pos ht]
    subst ht
    have hlt : ¬ (t : Int) < (t : Int) := by omega
    clear hR
    go_enter Tryz.func145, Tryz.ntmps145
    go_wp2_with fail
    refine kl.mono ?_
    rintro e w1 ⟨rfl, hb1⟩
    go_wp2
    go_ret
    exact ⟨by rw [E.out]; simp, hb0.trans (hb1.mono (Nat.le_succ _))⟩
  · by_cases h2 : p2 < t
    · have E : Hid (R = true) := by show _ = _; rw [hR, if_neg ht, decide_eq_true h2]
      have h2i : (p2 : Int) < (t : Int) := by omega
      clear hR
      go_enter Tryz.func145, Tryz.ntmps145
      go_wp2_with fail
      refine kl.mono ?_
      rintro e w1 ⟨rfl, hb1⟩
      go_wp2
      go_ret
      exact ⟨by rw [E.out]; rfl, hb0.trans (hb1.mono (Nat.le_succ _))⟩
    · have E : Hid (R = false) := by show _ = _; rw [hR, if_neg ht, decide_eq_false h2]
      have h2i : ¬ (p2 : Int) < (t : Int) := by omega
      have htb : ((t : Int) == (p2 : Int)) = false := by simp; omega
      have hti : ¬ (t : Int) = (p2 : Int) := by omega
      clear hR
      go_enter Tryz.func145, Tryz.ntmps145
      go_wp2_with fail
      refine kl.mono ?_
      rintro e w1 ⟨rfl, hb1⟩
      go_wp2
      go_ret
      exact ⟨by rw [E.out]; simp, hb0.trans (hb1.mono (Nat.le_succ _))⟩
end Go.Proofs.YthaokigkagckgaaGreat

/- The program's copies: Clone, copyOf, Slice. -/
namespace Go.Proofs.YthaokigkagckgaaGreat
open Go.RowKit QuorumMath RlogMath
set_option maxRecDepth 100000
set_option linter.unusedSimpArgs false
set_option linter.unusedVariables false

theorem infoByte : (Tryz.prog.info? 5).map (fun i => (i.zero, i.size, i.bytes)) = some (some (.int .u8 0), 1, 1) := by kernel_rfl
theorem app_bytes {w : World} {v x : Value} {xs ys : List Nat} (h : Rk byteE w 5 v xs) (hx : Rd byteE w x ys) (hlen : xs.length ≤ 10000000000) (hly : ys.length ≤ 10000000000) :
    ∀ ty, ∃ v' w', (Builtin.append_ #[23, 23] ty #[v, x]).run Tryz.prog w = .ok v' w' ∧ PushT byteE 5 w v (xs ++ ys) v' w' := by
  obtain ⟨i0, i1, i2, i3, i4⟩ := info_get infoByte
  exact append_rd byteE w _ _ i0 _ _ Tryz.underlying23 i1 i2 i3 i4 rfl (by decide) v x xs ys h hx hlen hly

/-- Bytes of one's own, in their slice. -/
def CpD (w : World) (z : Ez) : Prop := Rk byteE w 5 (.slice z.2.1 z.2.2.1 z.2.2.2) z.1.data
theorem CpD.data {w : World} {z : Ez} (h : CpD w z) : DataV w z := Rk.rd h
theorem CpD.below {w w' : World} {z : Ez} (h : CpD w z) (hb : Below w.heap.size w w') : CpD w' z := Rk.same h fun k hk => hb.block k (Rk.lt h hk)

set_option maxHeartbeats 2000000 in
theorem clone_of (d : List Nat) (dv : Value) (w : World) (hD : Rd byteE w dv d) (hlen : d.length ≤ 1000000000) : Calls Tryz.prog 111 #[dv] w fun e w' => ∃ (a : Option Addr) (n c : Nat), e = .returned (.slice a n c) ∧ Rk byteE w' 5 (.slice a n c) d ∧ Below w.heap.size w w' := by
  obtain ⟨ao, cap, rfl, hcap, hn⟩ := hD.shape
  cases ao with
  | none =>
    have hc0 := hn rfl
    subst hc0
    obtain rfl : d = [] := List.eq_nil_of_length_eq_zero (by omega)
    have hnil : ∀ w', (binOp .eql 23 (.slice none 0 0) (.slice none 0 0)).run Tryz.prog w' = .ok (.bool true) w' := fun w' => Lib.run_eql_slice_nil w' 23 5 none 0 0 0 0 Tryz.underlying23
    clear hD
    go_enter Tryz.func111, Tryz.ntmps111
    go_wp2
    go_ret
    exact ⟨none, 0, 0, rfl, Rk.nil _ _ _, Below.refl _ _⟩
  | some ad =>
    obtain ⟨q1, q2, q3⟩ := one_box w (.cells #[] 5)
    have hrunH : Hid _ := app_bytes (Rk.made (E := byteE) (xs := []) q2 rfl (by unfold maxLen; simp)) (hD.below q3) (by simp) (by omega)
    have hOw : ∀ k, (Value.slice (some ⟨w.heap.size, 0, none⟩) 0 0).ownBlock = some k → w.heap.size ≤ k := fun k hk => by cases hk; exact Nat.le_refl _
    have hnil : ∀ w', (binOp .eql 23 (.slice (some ad) d.length cap) (.slice none 0 0)).run Tryz.prog w' = .ok (.bool false) w' := fun w' => Lib.run_eql_slice_nil w' 23 5 (some ad) d.length cap 0 0 Tryz.underlying23
    clear hD q1 q2
    go_enter Tryz.func111, Tryz.ntmps111
    go_wp2_with (at_builtin; refine wp_by rfl _ _ _ rfl _ _ rfl rfl hrunH.out ?_)
    intro v6 w6 hp6
    obtain ⟨hO6, hg6, hk6⟩ := hp6
    have hb6 := q3.trans (grown_below hg6 q3.size hOw)
    obtain ⟨va, vc, rfl, -⟩ := hO6.shape
    clear hrunH hk6 hg6
    go_wp2
    go_ret
    exact ⟨va, d.length, vc, rfl, hO6, hb6⟩

theorem results_ent {fn : Func} {p : Tmp} (h : fn.results = #[.cell p 25]) (tmps : Array Value) (w : World) (g : Nat) (a b c d : Value)
    (hp : tmps.getD p undef = .pointer (some ⟨g, 0, none⟩)) (hg : w.heap[g]? = some (.cells #[a, b, c, d] 25 (0, 0))) :
    (results fn tmps).run Tryz.prog w = .ok (.agg #[a, b, c, d]) w := by
  have hp' : tmps[p]?.getD undef = .pointer (some ⟨g, 0, none⟩) := by simpa using hp
  simp [results, h, hp', asAddr, run_loadVar_row w g 25 25 #[a, b, c, d] (0, 0) _ hg Tryz.underlying25 rfl (by kernel_rfl)]
theorem en_cells {w : World} {g : Nat} {a b c d : Value} {t : TypeId} (h : w.heap[g]? = some (.cells #[a, b, c, d] t (0, 0))) : (w.frozen? ⟨g, 0, none⟩ = false ∧ w.frozen? ⟨g, 1, none⟩ = false ∧ w.frozen? ⟨g, 2, none⟩ = false ∧ w.frozen? ⟨g, 3, none⟩ = false) ∧ w.cell? ⟨g, 0, none⟩ = some a ∧ w.cell? ⟨g, 1, none⟩ = some b ∧ w.cell? ⟨g, 2, none⟩ = some c ∧ w.cell? ⟨g, 3, none⟩ = some d :=
  ⟨⟨frozen_of h 0, frozen_of h 1, frozen_of h 2, frozen_of h 3⟩, by rw [cells_of_block h]; rfl, by rw [cells_of_block h]; rfl, by rw [cells_of_block h]; rfl, by rw [cells_of_block h]; rfl⟩
theorem en_set3 {w : World} {g : Nat} {a b c d : Value} {t : TypeId} (h : w.heap[g]? = some (.cells #[a, b, c, d] t (0, 0))) (v : Value) : (w.setCell ⟨g, 3, none⟩ v).heap[g]? = some (.cells #[a, b, c, v] t (0, 0)) := by simp [World.setCell, Array.getElem?_modify, h]
theorem en_set {w : World} {g : Nat} {a b c d : Value} {t : TypeId} (h : w.heap[g]? = some (.cells #[a, b, c, d] t (0, 0))) (x0 x1 x2 x3 : Value) : ((((w.setCell ⟨g, 0, none⟩ x0).setCell ⟨g, 1, none⟩ x1).setCell ⟨g, 2, none⟩ x2).setCell ⟨g, 3, none⟩ x3).heap[g]? = some (.cells #[x0, x1, x2, x3] t (0, 0)) := by
  simp [World.setCell, Array.getElem?_modify, h]
theorem set_far {w : World} {g k i : Nat} (h : g ≠ k) (u : Value) : (w.setCell ⟨g, i, none⟩ u).heap[k]? = w.heap[k]? := by simp [World.setCell, Array.getElem?_modify, h]

set_option maxHeartbeats 4000000 in
theorem copy_of (z : Ez) (w : World) (hD : DataV w z) (hlen : z.1.data.length ≤ 1000000000) : Calls Tryz.prog 112 #[ev z] w fun e w' => ∃ s : Sl, e = .returned (ev (z.1, s)) ∧ CpD w' (z.1, s) ∧ Below w.heap.size w w' := by
  have hl := hD.len
  obtain ⟨⟨ix, tm, kd, dt⟩, sa, sn, sc⟩ := z
  dsimp only [ev] at *
  subst hl
  obtain ⟨h1, h2, h3⟩ := one_box w (.cells #[.int .u64 (ix : Int), .int .u64 (tm : Int), .int .i64 kd, .slice sa dt.length sc] 25)
  obtain ⟨q1, q2, q3⟩ := one_box (w.alloc (.cells #[.int .u64 (ix : Int), .int .u64 (tm : Int), .int .i64 kd, .slice sa dt.length sc] 25)) (.cells #[.int .u64 0, .int .u64 0, .int .i64 0, .slice none 0 0] 25)
  rw [h1] at q1 q2 q3
  have hb2 := h3.trans (q3.mono (Nat.le_succ _))
  have kc := clone_of dt (.slice sa dt.length sc) ((w.alloc (.cells #[.int .u64 (ix : Int), .int .u64 (tm : Int), .int .i64 kd, .slice sa dt.length sc] 25)).alloc (.cells #[.int .u64 0, .int .u64 0, .int .i64 0, .slice none 0 0] 25)) (Rd.below hD hb2) hlen
  have h22 := (q3.block w.heap.size (Nat.lt_succ_self _)).trans h2
  obtain ⟨-, c0, c1, c2, c3⟩ := en_cells h22
  clear hD h2 hlen
  go_enter Tryz.func112, Tryz.ntmps112
  go_wp2_with fail
  refine kc.mono ?_
  rintro e w1 ⟨a, n, c, rfl, hR, hb1⟩
  rw [q1] at hb1
  have g1 := (hb1.block w.heap.size (by omega)).trans h22
  have g2 := (hb1.block (w.heap.size + 1) (by omega)).trans q2
  have hb01 := hb2.trans (hb1.mono (by omega))
  obtain ⟨⟨f0, f1, f2, f3⟩, d0, d1, d2, d3⟩ := en_cells g1
  clear kc c0 c1 c2 c3 h22 q2 hb2
  have g1' := en_set3 g1 (.slice a n c)
  obtain ⟨-, e0, e1, e2, e3⟩ := en_cells g1'
  have g2' : (w1.setCell ⟨w.heap.size, 3, none⟩ (.slice a n c)).heap[w.heap.size + 1]? = _ := (set_far (by omega) _).trans g2
  obtain ⟨⟨f0', f1', f2', f3'⟩, o0, o1, o2, o3⟩ := en_cells g2'
  have hbf : Below w.heap.size w _ := ((((hb01.setCell (p := ⟨w.heap.size, 3, none⟩) (Nat.le_refl _) (.slice a n c)).setCell (p := ⟨w.heap.size + 1, 0, none⟩) (by simp) (.int .u64 (ix : Int))).setCell (p := ⟨w.heap.size + 1, 1, none⟩) (by simp) (.int .u64 (tm : Int))).setCell (p := ⟨w.heap.size + 1, 2, none⟩) (by simp) (.int .i64 kd)).setCell (p := ⟨w.heap.size + 1, 3, none⟩) (by simp) (.slice a n c)
  have hRH : Hid (CpD (((((w1.setCell ⟨w.heap.size, 3, none⟩ (.slice a n c)).setCell ⟨w.heap.size + 1, 0, none⟩ (.int .u64 (ix : Int))).setCell ⟨w.heap.size + 1, 1, none⟩ (.int .u64 (tm : Int))).setCell ⟨w.heap.size + 1, 2, none⟩ (.int .i64 kd)).setCell ⟨w.heap.size + 1, 3, none⟩ (.slice a n c)) (⟨ix, tm, kd, dt⟩, a, n, c)) := by
    refine Rk.same hR fun k hk => ?_
    obtain ⟨cs, hcs⟩ := hR.block hk
    have k1 : w.heap.size ≠ k := fun e => by rw [← e, g1] at hcs; simp at hcs
    have k2 : w.heap.size + 1 ≠ k := fun e => by rw [← e, g2] at hcs; simp at hcs
    rw [set_far k2, set_far k2, set_far k2, set_far k2, set_far k1]
  have HF := en_set g2' (.int .u64 (ix : Int)) (.int .u64 (tm : Int)) (.int .i64 kd) (.slice a n c)
  clear hR hb1 g1 g1' g2 hb01 q3 h3
  go_wp2
  (try simp only [Exit.inBlock, Exit.then])
  refine bodyPost_ret (results_ent rfl _ _ (w.heap.size + 1) _ _ _ _ rfl HF) rfl ?_
  exact ⟨(a, n, c), rfl, hRH.out, hbf⟩

/-- A row of copies. -/
def Cps (n : Nat) (w : World) (st : Value) (M : List Me) (cur : List Ez) : Prop := Ow entE 25 n w st cur ∧ mes cur = M ∧ ∀ z ∈ cur, CpD w z
theorem Cps.ents {n : Nat} {w : World} {st : Value} {M : List Me} {cur : List Ez} (h : Cps n w st M cur) : EntsV w st cur := ⟨h.1.1.rd, fun z hz => (h.2.2 z hz).data⟩
theorem Cps.nil (n : Nat) (w : World) : Cps n w (.slice none 0 0) [] [] := ⟨Ow.nil _ _ _ _, rfl, fun z hz => by simp at hz⟩
theorem Cps.below {n : Nat} {w w' : World} {st : Value} {M : List Me} {cur : List Ez} (h : Cps n w st M cur) (hb : Below w.heap.size w w') : Cps n w' st M cur := ⟨h.1.below hb, h.2.1, fun z hz => (h.2.2 z hz).below hb⟩
theorem CpD.grown {w w' : World} {z : Ez} {st : Value} {cur : List Ez} (h : CpD w z) (hs : Rk entE w 25 st cur) (hg : w.grownBy w' st.ownBlock) : CpD w' z := Rk.same h fun k hk => by
  obtain ⟨cs, hc⟩ := Rk.block h hk
  refine hg.block k (Rk.lt h hk) fun e => ?_
  obtain ⟨cs', hc'⟩ := hs.block e.symm
  rw [hc] at hc'
  simp at hc'
theorem CpD.far {w : World} {z : Ez} {g i : Nat} {cs : Array Value} (h : CpD w z) (hg : w.heap[g]? = some (.cells cs 28 (0, 0))) (u : Value) : CpD (w.setCell ⟨g, i, none⟩ u) z := Rk.same h fun k hk => by
  obtain ⟨cs', hc⟩ := Rk.block h hk
  refine set_far (fun e => ?_) u
  rw [e, hc] at hg
  simp at hg
theorem Cps.push {n : Nat} {w w' : World} {st v' : Value} {M : List Me} {cur : List Ez} {z : Ez} (h : Cps n w st M cur) (hz : CpD w z) (hn : n ≤ w.heap.size) (hp : PushT entE 25 w st (cur ++ [z]) v' w') : Cps n w' v' (M ++ [z.1]) (cur ++ [z]) ∧ Below n w w' := by
  obtain ⟨h1, h2⟩ := h.1.push hn hp
  refine ⟨⟨h1, ?_, fun y hy => ?_⟩, h2⟩
  · show List.map _ _ = _
    rw [List.map_append]
    exact congrArg (· ++ [z.1]) h.2.1
  · rw [List.mem_append, List.mem_singleton] at hy
    rcases hy with hy | rfl
    · exact (h.2.2 y hy).grown h.1.1 hp.2.1
    · exact hz.grown h.1.1 hp.2.1

set_option maxHeartbeats 4000000 in
theorem pslice_of (b : Ez) (zs : List Ez) (lv : Value) (x : Nat) (most : Int) (w : World) (hL : EntsV w lv zs) (hlen : zs.length ≤ 1000000000) (hdz : ∀ z ∈ zs, z.1.data.length ≤ 1000000000) : Calls Tryz.prog 78 #[lgv b lv, .int .u64 (x : Int), .int .i64 most] w fun e w' => ∃ ys v, e = .returned v ∧ EntsV w' v ys ∧ mes ys = mes (sliceZ b zs x most) ∧ Below w.heap.size w w' := by
  obtain ⟨R, HR⟩ : ∃ R, Hid (R = sliceZ b zs x most) := ⟨_, rfl⟩
  rw [← HR.out]
  obtain ⟨hs, hb0, cl⟩ := lg_box w b lv
  have HK : Hid (∀ z ∈ zs, ∀ W, Below w.heap.size w W → Calls Tryz.prog 112 #[ev z] W fun e w' => ∃ s : Sl, e = .returned (ev (z.1, s)) ∧ CpD w' (z.1, s) ∧ Below W.heap.size W w') := fun z hz W hW => copy_of z W ((hL.2 z hz).below hW) (hdz z hz)
  have HL : Hid (Rd entE w lv zs) := hL.1
  obtain ⟨la, lc, rfl, -, -⟩ := hL.1.shape
  have HB : Hid (b.1.idx < x → R = pickZ x most zs) := fun h => by rw [HR.out]; unfold sliceZ; rw [if_pos h]
  have HB2 : Hid (¬ b.1.idx < x → R = []) := fun h => by rw [HR.out]; unfold sliceZ; rw [if_neg h]
  obtain ⟨c0, c1, c2, c3, c4⟩ := cl _ (Below.refl _ _)
  obtain ⟨⟨ix, tm, kd, dt⟩, sa, sn, sc⟩ := b
  dsimp only [lgc] at *
  clear hL HR hdz
  by_cases hx : ix < x
  · have hxi : ¬ (x : Int) ≤ (ix : Int) := by omega
    have HX : Hid (R = pickZ x most zs) := HB.out hx
    clear HB HB2
    go_enter Tryz.func78, Tryz.ntmps78
    go_wp2
    generalize hw9 : w.alloc (.cells #[.int .u64 (ix : Int), .int .u64 (tm : Int), .int .i64 kd, .slice sa sn sc, .slice la zs.length lc] 28) = w9 at *
    clear hw9 cl c0 c1 c2 c3 c4 hs
    go_loopg [7, 18] zs.length (fun gh s7 s8 wr => ∃ (k : Nat) (st : Value) (cur : List Ez), k + gh = zs.length ∧ s8 = .int .i64 (k : Int) ∧ st = s7 ∧ Cps w.heap.size wr st (mes (pickZ x most (zs.take k))) cur ∧ Below w.heap.size w wr)
    case atStart => exact ⟨0, _, [], by simp, rfl, rfl, by rw [List.take_zero, pick_nil]; exact Cps.nil _ _, hb0⟩
    case round =>
      obtain ⟨k, st, cur, hkg, rfl, rfl, hC, hb3⟩ := hrel
      clear hb0
      have HCL : Hid (cur.length = (pickZ x most (zs.take k)).length) := by show _ = _; have := congrArg List.length hC.2.1; simpa [mes] using this
      have hpl := pick_len x most (zs.take k)
      have hpl2 : (zs.take k).length ≤ zs.length := by rw [List.length_take]; omega
      obtain ⟨ta, tc, hst, -⟩ := hC.1.1.shape
      by_cases hlt : k < zs.length
      · have hlti : (k : Int) < (zs.length : Int) := by omega
        have hz : zs[k]? = some zs[k] := List.getElem?_eq_getElem hlt
        obtain ⟨z, hzz⟩ : ∃ z, z = zs[k] := ⟨_, rfl⟩
        rw [← hzz] at hz
        clear hzz
        obtain ⟨p, off, rfl, c⟩ := rde_at HL.out hz
        obtain ⟨d0, d1, d2, d3⟩ := c _ hb3
        have HNO : Hid (¬ (x ≤ z.1.idx ∧ ((pickZ x most (zs.take k)).length : Int) < most) → pickZ x most (zs.take (k + 1)) = pickZ x most (zs.take k)) := pick_no hz
        have HYES : Hid (x ≤ z.1.idx → ((pickZ x most (zs.take k)).length : Int) < most → pickZ x most (zs.take (k + 1)) = pickZ x most (zs.take k) ++ [z]) := pick_yes hz
        have hb4 := hb3.alloc hb3.size (.cells #[.int .u64 (z.1.idx : Int), .int .u64 (z.1.term : Int), .int .i64 z.1.kind, .slice z.2.1 z.2.2.1 z.2.2.2] 25)
        have kc := HK.out z (List.mem_of_getElem? hz) _ hb4
        have hC4 := hC.below ((Below.refl _ wr).alloc (Nat.le_refl _) (.cells #[.int .u64 (z.1.idx : Int), .int .u64 (z.1.term : Int), .int .i64 z.1.kind, .slice z.2.1 z.2.2.1 z.2.2.2] 25))
        obtain ⟨⟨ix2, tm2, kd2, dt2⟩, sa2, sn2, sc2⟩ := z
        dsimp only [ev] at d0 d1 d2 d3 HNO HYES kc hb4 hC4
        rw [← HCL.out] at HNO HYES
        have hcl5 : cur.length ≤ 1000000000 := by have := HCL.out; omega
        clear HCL hpl
        generalize hP : pickZ x most (zs.take k) = L at *
        clear hP
        subst hst
        clear hz c HX HL HK hC
        by_cases h1 : x ≤ ix2
        · have h1i : (x : Int) ≤ (ix2 : Int) := by omega
          by_cases h2 : (cur.length : Int) < most
          · have E : Hid (_ = _) := HYES.out h1 h2
            clear HNO HYES
            go_wp2_with fail
            refine kc.mono ?_
            rintro e w5 ⟨⟨ca, cn, cc⟩, rfl, hCp, hb5⟩
            dsimp only [ev]
            have hC5 := hC4.below hb5
            have hb45 := hb4.trans (hb5.mono hb4.size)
            have hrunH : Hid _ := push_ent (⟨ix2, tm2, kd2, dt2⟩, ca, cn, cc) hC5.1.1 (by omega)
            dsimp only at hrunH
            clear kc hC4 hb5 d0 d1 d2 d3
            go_wp2_with (at_builtin; refine wp_by rfl _ _ _ rfl _ _ rfl rfl hrunH.out ?_)
            intro v6 w6 hp6
            obtain ⟨hC6, hb6⟩ := hC5.push hCp hb45.size hp6
            have hC7 : Cps w.heap.size w6 v6 (mes (pickZ x most (zs.take (k + 1)))) (cur ++ [(⟨ix2, tm2, kd2, dt2⟩, ca, cn, cc)]) := by rw [E.out]; show Cps _ _ _ (List.map _ _) _; rw [List.map_append]; exact hC6
            clear hC5 hC6 hrunH hp6 E
            go_wp2
            go_roundg (gk - 1)
            case measure => omega
            case rel => exact ⟨k + 1, v6, _, by omega, by go_num, rfl, hC7, hb45.trans hb6⟩
          · have E : Hid (_ = _) := HNO.out (fun h => h2 h.2)
            have h2i : decide ((cur.length : Int) < most) = false := by simpa using h2
            clear HNO HYES kc
            go_wp2
            go_roundg (gk - 1)
            case measure => omega
            case rel => exact ⟨k + 1, _, cur, by omega, by go_num, rfl, by rw [E.out]; exact hC4, hb4⟩
        · have h1i : ¬ (x : Int) ≤ (ix2 : Int) := by omega
          have E : Hid (_ = _) := HNO.out (fun h => h1 h.1)
          clear HNO HYES kc
          go_wp2
          go_roundg (gk - 1)
          case measure => omega
          case rel => exact ⟨k + 1, _, cur, by omega, by go_num, rfl, by rw [E.out]; exact hC4, hb4⟩
      · have hlti : ¬ (k : Int) < (zs.length : Int) := by omega
        have HM : Hid (mes cur = mes R) := by
          show _ = _
          rw [HX.out, hC.2.1, List.take_of_length_le (by omega)]
        have hfin := hC.ents
        subst hst
        clear HX HL HK hC HCL hpl
        go_wp2
        go_ret
        exact ⟨cur, _, rfl, hfin, HM.out, hb3⟩
  · have hxi : (x : Int) ≤ (ix : Int) := by omega
    have HX : Hid (R = []) := HB2.out hx
    clear HB HB2 HK HL cl
    go_enter Tryz.func78, Tryz.ntmps78
    go_wp2
    go_ret
    exact ⟨[], _, rfl, ents_nil _, by rw [HX.out], hb0⟩
end Go.Proofs.YthaokigkagckgaaGreat

