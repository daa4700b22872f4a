import Derived.Test.YtncoandnelgkeaaGreatHc07
import Derived.Test.YtncoandnelgkeaaGreatHc08
import Derived.Lib.SliceRun
/- The program's copies: Clone, copyOf, Slice. -/
namespace Go.Proofs.YtncoandnelgkeaaGreat
open Go.RowKit QuorumMath RlogMath
set_option maxRecDepth 100000
set_option linter.unusedSimpArgs false
set_option linter.unusedVariables false

theorem infoByte : (Tryz.prog.info? 5).map (fun i => (i.zero, i.size, i.bytes)) = some (some (.int .u8 0), 1, 1) := by kernel_rfl
theorem app_bytes {w : World} {v x : Value} {xs ys : List Nat} (h : Rk byteE w 5 v xs) (hx : Rd byteE w x ys) (hlen : xs.length ≤ 10000000000) (hly : ys.length ≤ 10000000000) :
    ∀ ty, ∃ v' w', (Builtin.append_ #[23, 23] ty #[v, x]).run Tryz.prog w = .ok v' w' ∧ PushT byteE 5 w v (xs ++ ys) v' w' := by
  obtain ⟨i0, i1, i2, i3, i4⟩ := info_get infoByte
  exact append_rd byteE w _ _ i0 _ _ Tryz.underlying23 i1 i2 i3 i4 rfl (by decide) v x xs ys h hx hlen hly

/-- Bytes of one's own, in their slice. -/
def CpD (w : World) (z : Ez) : Prop := Rk byteE w 5 (.slice z.2.1 z.2.2.1 z.2.2.2) z.1.data
theorem CpD.data {w : World} {z : Ez} (h : CpD w z) : DataV w z := Rk.rd h
theorem CpD.below {w w' : World} {z : Ez} (h : CpD w z) (hb : Below w.heap.size w w') : CpD w' z := Rk.same h fun k hk => hb.block k (Rk.lt h hk)

set_option maxHeartbeats 2000000 in
theorem clone_of (d : List Nat) (dv : Value) (w : World) (hD : Rd byteE w dv d) (hlen : d.length ≤ 1000000000) : Calls Tryz.prog 111 #[dv] w fun e w' => ∃ (a : Option Addr) (n c : Nat), e = .returned (.slice a n c) ∧ Rk byteE w' 5 (.slice a n c) d ∧ Below w.heap.size w w' := by
  obtain ⟨ao, cap, rfl, hcap, hn⟩ := hD.shape
  cases ao with
  | none =>
    have hc0 := hn rfl
    subst hc0
    obtain rfl : d = [] := List.eq_nil_of_length_eq_zero (by omega)
    have hnil : ∀ w', (binOp .eql 23 (.slice none 0 0) (.slice none 0 0)).run Tryz.prog w' = .ok (.bool true) w' := fun w' => Lib.run_eql_slice_nil w' 23 5 none 0 0 0 0 Tryz.underlying23
    clear hD
    go_enter Tryz.func111, Tryz.ntmps111
    go_wp2
    go_ret
    exact ⟨none, 0, 0, rfl, Rk.nil _ _ _, Below.refl _ _⟩
  | some ad =>
    obtain ⟨q1, q2, q3⟩ := one_box w (.cells #[] 5)
    have hrunH : Hid _ := app_bytes (Rk.made (E := byteE) (xs := []) q2 rfl (by unfold maxLen; simp)) (hD.below q3) (by simp) (by omega)
    have hOw : ∀ k, (Value.slice (some ⟨w.heap.size, 0, none⟩) 0 0).ownBlock = some k → w.heap.size ≤ k := fun k hk => by cases hk; exact Nat.le_refl _
    have hnil : ∀ w', (binOp .eql 23 (.slice (some ad) d.length cap) (.slice none 0 0)).run Tryz.prog w' = .ok (.bool false) w' := fun w' => Lib.run_eql_slice_nil w' 23 5 (some ad) d.length cap 0 0 Tryz.underlying23
    clear hD q1 q2
    go_enter Tryz.func111, Tryz.ntmps111
    go_wp2_with (at_builtin; refine wp_by rfl _ _ _ rfl _ _ rfl rfl hrunH.out ?_)
    intro v6 w6 hp6
    obtain ⟨hO6, hg6, hk6⟩ := hp6
    have hb6 := q3.trans (grown_below hg6 q3.size hOw)
    obtain ⟨va, vc, rfl, -⟩ := hO6.shape
    clear hrunH hk6 hg6
    go_wp2
    go_ret
    exact ⟨va, d.length, vc, rfl, hO6, hb6⟩

theorem results_ent {fn : Func} {p : Tmp} (h : fn.results = #[.cell p 25]) (tmps : Array Value) (w : World) (g : Nat) (a b c d : Value)
    (hp : tmps.getD p undef = .pointer (some ⟨g, 0, none⟩)) (hg : w.heap[g]? = some (.cells #[a, b, c, d] 25 (0, 0))) :
    (results fn tmps).run Tryz.prog w = .ok (.agg #[a, b, c, d]) w := by
  have hp' : tmps[p]?.getD undef = .pointer (some ⟨g, 0, none⟩) := by simpa using hp
  simp [results, h, hp', asAddr, run_loadVar_row w g 25 25 #[a, b, c, d] (0, 0) _ hg Tryz.underlying25 rfl (by kernel_rfl)]
theorem en_cells {w : World} {g : Nat} {a b c d : Value} {t : TypeId} (h : w.heap[g]? = some (.cells #[a, b, c, d] t (0, 0))) : (w.frozen? ⟨g, 0, none⟩ = false ∧ w.frozen? ⟨g, 1, none⟩ = false ∧ w.frozen? ⟨g, 2, none⟩ = false ∧ w.frozen? ⟨g, 3, none⟩ = false) ∧ w.cell? ⟨g, 0, none⟩ = some a ∧ w.cell? ⟨g, 1, none⟩ = some b ∧ w.cell? ⟨g, 2, none⟩ = some c ∧ w.cell? ⟨g, 3, none⟩ = some d :=
  ⟨⟨frozen_of h 0, frozen_of h 1, frozen_of h 2, frozen_of h 3⟩, by rw [cells_of_block h]; rfl, by rw [cells_of_block h]; rfl, by rw [cells_of_block h]; rfl, by rw [cells_of_block h]; rfl⟩
theorem en_set3 {w : World} {g : Nat} {a b c d : Value} {t : TypeId} (h : w.heap[g]? = some (.cells #[a, b, c, d] t (0, 0))) (v : Value) : (w.setCell ⟨g, 3, none⟩ v).heap[g]? = some (.cells #[a, b, c, v] t (0, 0)) := by simp [World.setCell, Array.getElem?_modify, h]
theorem en_set {w : World} {g : Nat} {a b c d : Value} {t : TypeId} (h : w.heap[g]? = some (.cells #[a, b, c, d] t (0, 0))) (x0 x1 x2 x3 : Value) : ((((w.setCell ⟨g, 0, none⟩ x0).setCell ⟨g, 1, none⟩ x1).setCell ⟨g, 2, none⟩ x2).setCell ⟨g, 3, none⟩ x3).heap[g]? = some (.cells #[x0, x1, x2, x3] t (0, 0)) := by
  simp [World.setCell, Array.getElem?_modify, h]
theorem set_far {w : World} {g k i : Nat} (h : g ≠ k) (u : Value) : (w.setCell ⟨g, i, none⟩ u).heap[k]? = w.heap[k]? := by simp [World.setCell, Array.getElem?_modify, h]

set_option maxHeartbeats 4000000 in
theorem copy_of (z : Ez) (w : World) (hD : DataV w z) (hlen : z.1.data.length ≤ 1000000000) : Calls Tryz.prog 112 #[ev z] w fun e w' => ∃ s : Sl, e = .returned (ev (z.1, s)) ∧ CpD w' (z.1, s) ∧ Below w.heap.size w w' := by
  have hl := hD.len
  obtain ⟨⟨ix, tm, kd, dt⟩, sa, sn, sc⟩ := z
  dsimp only [ev] at *
  subst hl
  obtain ⟨h1, h2, h3⟩ := one_box w (.cells #[.int .u64 (ix : Int), .int .u64 (tm : Int), .int .i64 kd, .slice sa dt.length sc] 25)
  obtain ⟨q1, q2, q3⟩ := one_box (w.alloc (.cells #[.int .u64 (ix : Int), .int .u64 (tm : Int), .int .i64 kd, .slice sa dt.length sc] 25)) (.cells #[.int .u64 0, .int .u64 0, .int .i64 0, .slice none 0 0] 25)
  rw [h1] at q1 q2 q3
  have hb2 := h3.trans (q3.mono (Nat.le_succ _))
  have kc := clone_of dt (.slice sa dt.length sc) ((w.alloc (.cells #[.int .u64 (ix : Int), .int .u64 (tm : Int), .int .i64 kd, .slice sa dt.length sc] 25)).alloc (.cells #[.int .u64 0, .int .u64 0, .int .i64 0, .slice none 0 0] 25)) (Rd.below hD hb2) hlen
  have h22 := (q3.block w.heap.size (Nat.lt_succ_self _)).trans h2
  obtain ⟨-, c0, c1, c2, c3⟩ := en_cells h22
  clear hD h2 hlen
  go_enter Tryz.func112, Tryz.ntmps112
  go_wp2_with fail
  refine kc.mono ?_
  rintro e w1 ⟨a, n, c, rfl, hR, hb1⟩
  rw [q1] at hb1
  have g1 := (hb1.block w.heap.size (by omega)).trans h22
  have g2 := (hb1.block (w.heap.size + 1) (by omega)).trans q2
  have hb01 := hb2.trans (hb1.mono (by omega))
  obtain ⟨⟨f0, f1, f2, f3⟩, d0, d1, d2, d3⟩ := en_cells g1
  clear kc c0 c1 c2 c3 h22 q2 hb2
  have g1' := en_set3 g1 (.slice a n c)
  obtain ⟨-, e0, e1, e2, e3⟩ := en_cells g1'
  have g2' : (w1.setCell ⟨w.heap.size, 3, none⟩ (.slice a n c)).heap[w.heap.size + 1]? = _ := (set_far (by omega) _).trans g2
  obtain ⟨⟨f0', f1', f2', f3'⟩, o0, o1, o2, o3⟩ := en_cells g2'
  have hbf : Below w.heap.size w _ := ((((hb01.setCell (p := ⟨w.heap.size, 3, none⟩) (Nat.le_refl _) (.slice a n c)).setCell (p := ⟨w.heap.size + 1, 0, none⟩) (by simp) (.int .u64 (ix : Int))).setCell (p := ⟨w.heap.size + 1, 1, none⟩) (by simp) (.int .u64 (tm : Int))).setCell (p := ⟨w.heap.size + 1, 2, none⟩) (by simp) (.int .i64 kd)).setCell (p := ⟨w.heap.size + 1, 3, none⟩) (by simp) (.slice a n c)
  have hRH : Hid (CpD (((((w1.setCell ⟨w.heap.size, 3, none⟩ (.slice a n c)).setCell ⟨w.heap.size + 1, 0, none⟩ (.int .u64 (ix : Int))).setCell ⟨w.heap.size + 1, 1, none⟩ (.int .u64 (tm : Int))).setCell ⟨w.heap.size + 1, 2, none⟩ (.int .i64 kd)).setCell ⟨w.heap.size + 1, 3, none⟩ (.slice a n c)) (⟨ix, tm, kd, dt⟩, a, n, c)) := by
    refine Rk.same hR fun k hk => ?_
    obtain ⟨cs, hcs⟩ := hR.block hk
    have k1 : w.heap.size ≠ k := fun e => by rw [← e, g1] at hcs; simp at hcs
    have k2 : w.heap.size + 1 ≠ k := fun e => by rw [← e, g2] at hcs; simp at hcs
    rw [set_far k2, set_far k2, set_far k2, set_far k2, set_far k1]
  have HF := en_set g2' (.int .u64 (ix : Int)) (.int .u64 (tm : Int)) (.int .i64 kd) (.slice a n c)
  clear hR hb1 g1 g1' g2 hb01 q3 h3
  go_wp2
  (try simp only [Exit.inBlock, Exit.then])
  refine bodyPost_ret (results_ent rfl _ _ (w.heap.size + 1) _ _ _ _ rfl HF) rfl ?_
  exact ⟨(a, n, c), rfl, hRH.out, hbf⟩

/-- A row of copies. -/
def Cps (n : Nat) (w : World) (st : Value) (M : List Me) (cur : List Ez) : Prop := Ow entE 25 n w st cur ∧ mes cur = M ∧ ∀ z ∈ cur, CpD w z
theorem Cps.ents {n : Nat} {w : World} {st : Value} {M : List Me} {cur : List Ez} (h : Cps n w st M cur) : EntsV w st cur := ⟨h.1.1.rd, fun z hz => (h.2.2 z hz).data⟩
theorem Cps.nil (n : Nat) (w : World) : Cps n w (.slice none 0 0) [] [] := ⟨Ow.nil _ _ _ _, rfl, fun z hz => by simp at hz⟩
theorem Cps.below {n : Nat} {w w' : World} {st : Value} {M : List Me} {cur : List Ez} (h : Cps n w st M cur) (hb : Below w.heap.size w w') : Cps n w' st M cur := ⟨h.1.below hb, h.2.1, fun z hz => (h.2.2 z hz).below hb⟩
theorem CpD.grown {w w' : World} {z : Ez} {st : Value} {cur : List Ez} (h : CpD w z) (hs : Rk entE w 25 st cur) (hg : w.grownBy w' st.ownBlock) : CpD w' z := Rk.same h fun k hk => by
  obtain ⟨cs, hc⟩ := Rk.block h hk
  refine hg.block k (Rk.lt h hk) fun e => ?_
  obtain ⟨cs', hc'⟩ := hs.block e.symm
  rw [hc] at hc'
  simp at hc'
theorem CpD.far {w : World} {z : Ez} {g i : Nat} {cs : Array Value} (h : CpD w z) (hg : w.heap[g]? = some (.cells cs 28 (0, 0))) (u : Value) : CpD (w.setCell ⟨g, i, none⟩ u) z := Rk.same h fun k hk => by
  obtain ⟨cs', hc⟩ := Rk.block h hk
  refine set_far (fun e => ?_) u
  rw [e, hc] at hg
  simp at hg
theorem Cps.push {n : Nat} {w w' : World} {st v' : Value} {M : List Me} {cur : List Ez} {z : Ez} (h : Cps n w st M cur) (hz : CpD w z) (hn : n ≤ w.heap.size) (hp : PushT entE 25 w st (cur ++ [z]) v' w') : Cps n w' v' (M ++ [z.1]) (cur ++ [z]) ∧ Below n w w' := by
  obtain ⟨h1, h2⟩ := h.1.push hn hp
  refine ⟨⟨h1, ?_, fun y hy => ?_⟩, h2⟩
  · show List.map _ _ = _
    rw [List.map_append]
    exact congrArg (· ++ [z.1]) h.2.1
  · rw [List.mem_append, List.mem_singleton] at hy
    rcases hy with hy | rfl
    · exact (h.2.2 y hy).grown h.1.1 hp.2.1
    · exact hz.grown h.1.1 hp.2.1

end Go.Proofs.YtncoandnelgkeaaGreat

