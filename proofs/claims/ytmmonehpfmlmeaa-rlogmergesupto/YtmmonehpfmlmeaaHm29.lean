import Derived.Test.YtmmonehpfmlmeaaHm28
/- The program's lastVoters and Voters. -/
namespace RlogMath
theorem votF_none : ∀ {l : List Me} (d : List Nat), (∀ e ∈ l, e.kind ≠ 2) → votF d l = d
  | [], d, _ => rfl
  | a :: l, d, h => by
    rw [votF, if_neg (h a List.mem_cons_self)]
    exact votF_none d fun e he => h e (List.mem_cons_of_mem _ he)
theorem votF_some : ∀ (l1 : List Me) {e : Me} {l2 : List Me} (d : List Nat), e.kind = 2 → (∀ x ∈ l2, x.kind ≠ 2) → votF d (l1 ++ e :: l2) = e.data
  | [], e, l2, d, he, h => by
    show votF (if e.kind = 2 then e.data else d) l2 = e.data
    rw [if_pos he]
    exact votF_none _ h
  | a :: l1, e, l2, d, he, h => by
    show votF (if a.kind = 2 then a.data else d) (l1 ++ e :: l2) = e.data
    exact votF_some l1 _ he h
end RlogMath
namespace Go.Proofs.Ytmmonehpfmlmeaa
open Go.RowKit Go.Shelf QuorumMath RlogMath
attribute [local go_sem] Oper.semAt_some
set_option maxRecDepth 100000
set_option linter.unusedSimpArgs false
set_option linter.unusedVariables false

theorem results_sl {fn : Func} {p : Tmp} (h : fn.results = #[.cell p 23]) (tmps : Array Value) (w : World) (g : Nat) (a : Option Addr) (n c : Nat)
    (hp : tmps.getD p undef = .pointer (some ⟨g, 0, none⟩)) (hg : w.heap[g]? = some (.cells #[.slice a n c] 23 (0, 0))) :
    (results fn tmps).run Try.prog w = .ok (.slice a n c) w := by
  have hp' : tmps[p]?.getD undef = .pointer (some ⟨g, 0, none⟩) := by simpa using hp
  have hl : w.cell? ⟨g, 0, none⟩ = some (.slice a n c) := by rw [cells_of_block hg]; rfl
  have ha : (isAgg 23).run Try.prog w = .ok false w := by simp [isAgg, Sem.run_bind, Try.underlying23]
  simp [results, h, hp', asAddr, loadVar, Sem.run_bind, ha, hl]

/-- Nothing that has come is a config. -/
def NoneV (n : Nat) (W0 : World) (sv : Value) (pre : List (Int × Ez)) (W : World) : Prop := (∀ x ∈ pre, x.2.1.kind ≠ 2) ∧ Boxed W (n + 1) 23 (.slice none 0 0) ∧ Boxed W (n + 2) 26 sv ∧ Below (n + 1) W0 W
/-- The last that has come is one. -/
def SomeV (n : Nat) (W0 : World) (c : Code) (pre : List (Int × Ez)) (W : World) : Prop := c = .ret ∧ (∃ (i : Int) (z : Ez) (pre0 : List (Int × Ez)), pre = pre0 ++ [(i, z)] ∧ z.1.kind = 2 ∧ (∀ x ∈ pre0, x.2.1.kind ≠ 2) ∧ Boxed W (n + 1) 23 (.slice z.2.1 z.2.2.1 z.2.2.2)) ∧ Below (n + 1) W0 W
theorem noneV_own {n : Nat} {W0 : World} {sv : Value} {B : Nat} (hn : n + 1 ≤ W0.heap.size) (hB : n + 1 ≤ B) : OwnFrom B (NoneV n W0 sv) := by
  rintro s X Y row ⟨h1, h2, h3, h4⟩ hg hr
  exact ⟨h1, boxed_own (n + 1) _ (fun (_ : Unit) => .slice none 0 0) () X Y row h2 hg (fun r e => (hr r e).2), boxed_own (n + 2) _ (fun (_ : Unit) => sv) () X Y row h3 hg (fun r e => (hr r e).2), ownFrom_below (β := Unit) (w₀ := W0) hn hB () X Y row h4 hg hr⟩
theorem someV_own {n : Nat} {W0 : World} {c : Code} {B : Nat} (hn : n + 1 ≤ W0.heap.size) (hB : n + 1 ≤ B) : OwnFrom B (SomeV n W0 c) := by
  rintro s X Y row ⟨h1, ⟨i, z, pre0, h2, h3, h4, h5⟩, h6⟩ hg hr
  exact ⟨h1, ⟨i, z, pre0, h2, h3, h4, boxed_own (n + 1) _ (fun (_ : Unit) => _) () X Y row h5 hg (fun r e => (hr r e).2)⟩, ownFrom_below (β := Unit) (w₀ := W0) hn hB () X Y row h6 hg hr⟩

set_option maxHeartbeats 8000000 in
theorem lastv_of (b : Ez) (zs : List Ez) (lv : Value) (w0 w : World) (hD : DataV w0 b) (hDz : ∀ z ∈ zs, DataV w0 z) (hL : Rd entE w lv zs) (hlen : zs.length ≤ 1000000000) : Calls Try.prog 44 #[ev b, lv] w fun e w' => ∃ s : Sl, e = .returned (.slice s.1 s.2.1 s.2.2) ∧ Rd byteE w0 (.slice s.1 s.2.1 s.2.2) (votF b.1.data (mes zs)) ∧ Below w.heap.size w w' := by
  have HD : Hid (Rd byteE w0 (.slice b.2.1 b.2.2.1 b.2.2.2) b.1.data) := hD
  have HDZ : Hid (∀ z ∈ zs, Rd byteE w0 (.slice z.2.1 z.2.2.1 z.2.2.2) z.1.data) := hDz
  obtain ⟨la, lc, rfl, -, -⟩ := hL.shape
  have HL : Hid (Rd entE w (.slice la zs.length lc) zs) := hL
  clear hL hD hDz
  refine (callsIn_wide (n := 6)).1 ?_
  refine callsIn_of_wp_marks Try.func44 rfl trivial ?_ rfl
  simp only [Try.ntmps44, List.size_toArray, List.length_cons, List.length_nil, Nat.reduceAdd, Nat.reduceSub, Array.replicate_succ, Array.replicate_zero, List.push_toArray, List.append_toArray, List.nil_append, List.cons_append]
  obtain ⟨⟨ix, tm, kd, dt⟩, sa, sn, sc⟩ := b
  dsimp only [ev] at *
  gi_wp2_with (refine ⟨trivial, ?_⟩; gi_at_call 52; refine (back_in Fence.wide _ trivial rfl _ _ _ _).mono ?_; rintro e w' ⟨rfl, rfl⟩)
  obtain ⟨x1, x2, x3⟩ := one_box w (.cells #[.int .u64 (ix : Int), .int .u64 (tm : Int), .int .i64 kd, .slice sa sn sc] 25)
  have bR := (Boxed.new (w.alloc (.cells #[.int .u64 (ix : Int), .int .u64 (tm : Int), .int .i64 kd, .slice sa sn sc] 25)) 23 (.slice none 0 0)).alloc (.cells #[.slice la zs.length lc] 26)
  have bS := Boxed.new ((w.alloc (.cells #[.int .u64 (ix : Int), .int .u64 (tm : Int), .int .i64 kd, .slice sa sn sc] 25)).alloc (.cells #[.slice none 0 0] 23)) 26 (.slice la zs.length lc)
  simp only [World.size_alloc] at bR bS
  have hB0 : Below w.heap.size w (((w.alloc (.cells #[.int .u64 (ix : Int), .int .u64 (tm : Int), .int .i64 kd, .slice sa sn sc] 25)).alloc (.cells #[.slice none 0 0] 23)).alloc (.cells #[.slice la zs.length lc] 26)) := (x3.alloc (by simp) _).alloc (by simp only [World.size_alloc]; omega) _
  have hsz : (((w.alloc (.cells #[.int .u64 (ix : Int), .int .u64 (tm : Int), .int .i64 kd, .slice sa sn sc] 25)).alloc (.cells #[.slice none 0 0] 23)).alloc (.cells #[.slice la zs.length lc] 26)).heap.size = w.heap.size + 3 := by simp
  have hbb : (((w.alloc (.cells #[.int .u64 (ix : Int), .int .u64 (tm : Int), .int .i64 kd, .slice sa sn sc] 25)).alloc (.cells #[.slice none 0 0] 23)).alloc (.cells #[.slice la zs.length lc] 26)).heap[w.heap.size]? = some (.cells #[.int .u64 (ix : Int), .int .u64 (tm : Int), .int .i64 kd, .slice sa sn sc] 25 (0, 0)) := (heap_alloc_old _ _ (by simp; omega)).trans ((heap_alloc_old _ _ (by simp)).trans x2)
  obtain ⟨W0, hW0⟩ : ∃ W0, ((w.alloc (.cells #[.int .u64 (ix : Int), .int .u64 (tm : Int), .int .i64 kd, .slice sa sn sc] 25)).alloc (.cells #[.slice none 0 0] 23)).alloc (.cells #[.slice la zs.length lc] 26) = W0 := ⟨_, rfl⟩
  rw [hW0] at bR bS hB0 hsz hbb ⊢
  clear hW0 x1 x2 x3
  refine wpIn_rangeFunc_ownH (α := Int × Ez) rfl (by omega) (gf := 54) (lb := #[.pointer (some ⟨w.heap.size + 2, 0, none⟩)]) rfl trivial (enters_of Try.func54 (by kernel_rfl) rfl)
    (back_stops Fence.wide _ trivial rfl (by omega) (w.heap.size + 2) (w.heap.size + 1) la lc zs hlen W0 w (by omega) (by omega) hB0 bS.cell HL.out) KeepB.trans (KeepB.put (by omega) (by omega)) (Below.refl _ _) (fun _ => rfl)
    (NoneV w.heap.size W0 (.slice la zs.length lc))
    (SomeV w.heap.size W0)
    (noneV_own (by omega) (by omega))
    (fun c => someV_own (by omega) (by omega))
    ⟨fun x hx => by simp at hx, bR, bS, Below.refl _ _⟩
    (fun x a' W => ∃ Bx, w.heap.size + 2 < Bx ∧ W.heap[Bx]? = some (.cells #[.int .u64 (x.2.1.idx : Int), .int .u64 (x.2.1.term : Int), .int .i64 x.2.1.kind, .slice x.2.2.1 x.2.2.2.1 x.2.2.2.2] 25 (0, 0)) ∧ a' = { tmps := #[.agg #[.int .u64 (ix : Int), .int .u64 (tm : Int), .int .i64 kd, .slice sa sn sc], .slice la zs.length lc, .pointer (some ⟨w.heap.size, 0, none⟩), undef, .pointer (some ⟨w.heap.size + 1, 0, none⟩), undef, .pointer (some ⟨Bx, 0, none⟩), .slice la zs.length lc, .func (.func 54) #[] #[.pointer (some ⟨w.heap.size + 2, 0, none⟩)], .int .i64 x.1, ev x.2, undef, undef, undef, undef, undef, undef, undef], defers := [] })
    (fun x a' _ X Y row hs hg hr => by
      obtain ⟨Bx, h1, h2, h3⟩ := hs
      exact ⟨Bx, h1, (hg.block Bx (Array.getElem?_eq_some_iff.1 h2).1 (fun e => by
        obtain ⟨o, ho, hc⟩ := (hr Bx e.symm).2
        rw [h2] at ho; cases ho; cases hc)).trans h2, h3⟩)
    ?assign ?body ?done ?stop
  case assign =>
    rintro l pre ⟨xi, ⟨ix2, tm2, kd2, dt2⟩, sa2, sn2, sc2⟩ W K ⟨h1, bR1, bS1, hB1⟩ hK
    dsimp only [encC, ev]
    gi_wp2
    have hb2 : Below W.heap.size W (W.alloc (.cells #[.int .u64 (ix2 : Int), .int .u64 (tm2 : Int), .int .i64 kd2, .slice sa2 sn2 sc2] 25)) := (Below.refl _ W).alloc (Nat.le_refl _) _
    have hsW := bS1.lt
    exact hK _ _ ((KeepsOthers.alloc _ _).from _) ⟨hb2.mono (by omega), Below.heap_alloc _ _ _ hsW⟩ ⟨h1, bR1.alloc _, bS1.alloc _, hB1.alloc (by omega) _⟩ ⟨W.heap.size, hsW, World.alloc_heap_new W _, rfl⟩
  case body =>
    rintro l pre ⟨xi, ⟨ix2, tm2, kd2, dt2⟩, sa2, sn2, sc2⟩ a' W hl ⟨r, hr⟩ ⟨h1, bR1, bS1, hB1⟩ ⟨Bx, hBx, bX, rfl⟩ hlt
    dsimp only at bX
    obtain ⟨-, c0, c1, c2, c3⟩ := en_cells bX
    have cR := bR1.cell
    have fR := bR1.frozen
    by_cases hk : kd2 = 2
    · subst hk
      have hA : Hid (KeepsFrom W0.heap.size W (W.setCell ⟨w.heap.size + 1, 0, none⟩ (.slice sa2 sn2 sc2)) ∧ SomeV w.heap.size W0 .ret (pre ++ [(xi, ⟨ix2, tm2, 2, dt2⟩, sa2, sn2, sc2)]) (W.setCell ⟨w.heap.size + 1, 0, none⟩ (.slice sa2 sn2 sc2))) :=
        ⟨(KeepsOthers.setCell _ _ _).from _, rfl, ⟨xi, _, pre, rfl, rfl, h1, bR1.set _⟩, hB1.setCell (p := ⟨w.heap.size + 1, 0, none⟩) (Nat.le_refl _) _⟩
      clear bR1 bS1 bX hr hlt hB1 h1 HL HD HDZ
      gi_wp2
      exact hA.out
    · have hkb : (kd2 == 2) = false := by simpa using hk
      have hA : Hid (KeepsFrom W0.heap.size W W ∧ KeepB (w.heap.size + 1) (w.heap.size + 2) W W ∧ NoneV w.heap.size W0 (.slice la zs.length lc) (pre ++ [(xi, ⟨ix2, tm2, kd2, dt2⟩, sa2, sn2, sc2)]) W) :=
        ⟨KeepsFrom.refl _ _, KeepB.refl _ _ _, fun x hx => by
          rw [List.mem_append, List.mem_singleton] at hx
          rcases hx with hx | rfl
          · exact h1 x hx
          · exact hk, bR1, bS1, hB1⟩
      clear bR1 bS1 bX hr hlt hB1 h1 HL HD HDZ
      gi_wp2
      exact hA.out
  case done =>
    rintro D ys W hDs hys ⟨h1, bR1, bS1, hB1⟩ hK
    have hbW := (hB1.block w.heap.size (by omega)).trans hbb
    obtain ⟨-, c0, c1, c2, c3⟩ := en_cells hbW
    have cR := bR1.cell
    have fR := bR1.frozen
    have HV : Hid (votF dt (mes zs) = dt) := votF_none dt fun e he => by
      obtain ⟨z, hz, rfl⟩ := List.mem_map.1 he
      have : z ∈ ys.map (·.2) := by rw [hys]; exact List.mem_reverse.2 hz
      obtain ⟨x, hx, rfl⟩ := List.mem_map.1 this
      exact h1 x hx
    have hfin : Hid (∀ (V : World), V = (W.setCell ⟨w.heap.size + 1, 0, none⟩ (.slice sa sn sc)).putObj D (.deferred none) → V.heap[w.heap.size + 1]? = some (.cells #[.slice sa sn sc] 23 (0, 0)) ∧ Below w.heap.size w V) := fun V hV => by
      subst hV
      have hKD : (W.setCell ⟨w.heap.size + 1, 0, none⟩ (.slice sa sn sc)).heap[D]? = some (.deferred (some [])) := (set_far (by omega) _).trans hK
      refine ⟨?_, ((hB0.trans (hB1.mono (by omega))).setCell (p := ⟨w.heap.size + 1, 0, none⟩) (by simp) _).trans (belowK_b (w := W0) (by omega) _ D _ _ (by omega) hKD rfl rfl)⟩
      exact (World.putObj_heap_other (by omega)).trans (bR1.set _)
    have hKD : (W.setCell ⟨w.heap.size + 1, 0, none⟩ (.slice sa sn sc)).heap[D]? = some (.deferred (some [])) := (set_far (by omega) _).trans hK
    clear bR1 bS1 hB1 h1 hys
    gi_wp2
    refine ⟨by simp, .inl ⟨_, _, rfl, run_takeDeferred hKD, ?_⟩⟩
    obtain ⟨g1, g2⟩ := hfin.out _ rfl
    refine ⟨_, results_sl rfl _ _ (w.heap.size + 1) _ _ _ rfl g1, (sa, sn, sc), rfl, ?_, g2⟩
    rw [HV.out]
    exact HD.out
  case stop =>
    rintro D c pre W hDs ⟨k, hcm⟩ ⟨rfl, ⟨i, z, pre0, rfl, hk, h1, bR1⟩, hB1⟩ hK
    have HV : Hid (votF dt (mes zs) = z.1.data ∧ z ∈ zs) := by
      have e1 : zs.drop k = z :: (pre0.map (·.2)).reverse := by
        have := congrArg List.reverse hcm
        rw [List.reverse_reverse, List.map_append, List.reverse_append] at this
        exact this.symm
      have e2 : mes zs = mes (zs.take k) ++ z.1 :: mes (pre0.map (·.2)).reverse := by
        have e3 : zs = zs.take k ++ z :: (pre0.map (·.2)).reverse := by rw [← e1, List.take_append_drop]
        have e4 := congrArg mes e3
        rw [e4]
        unfold mes
        rw [List.map_append, List.map_cons]
      refine ⟨?_, List.mem_of_mem_drop (i := k) (by rw [e1]; exact List.mem_cons_self)⟩
      rw [e2]
      refine votF_some _ _ hk fun e he => ?_
      obtain ⟨y, hy, rfl⟩ := List.mem_map.1 he
      obtain ⟨x, hx, rfl⟩ := List.mem_map.1 (List.mem_reverse.1 hy)
      exact h1 x hx
    have g1 : (W.putObj D (.deferred none)).heap[w.heap.size + 1]? = some (.cells #[.slice z.2.1 z.2.2.1 z.2.2.2] 23 (0, 0)) := (World.putObj_heap_other (by omega)).trans bR1
    have g2 : Below w.heap.size w (W.putObj D (.deferred none)) := (hB0.trans (hB1.mono (by omega))).trans (belowK_b (w := W0) (by omega) _ D _ _ (by omega) hK rfl rfl)
    clear bR1 hB1 h1 hcm
    gi_wp2
    refine ⟨by simp, .inl ⟨_, _, rfl, run_takeDeferred hK, ?_⟩⟩
    refine ⟨_, results_sl rfl _ _ (w.heap.size + 1) _ _ _ rfl g1, z.2, rfl, ?_, g2⟩
    rw [HV.out.1]
    exact HDZ.out z HV.out.2

set_option maxHeartbeats 2000000 in
theorem pvot_of (b : Ez) (zs : List Ez) (lv : Value) (w : World) (hD : DataV w b) (hL : EntsV w lv zs) (hbo : EzOk b) (hok : ∀ z ∈ zs, EzOk z) (hlen : zs.length ≤ 1000000000) (hdl : b.1.data.length ≤ 1000000000) (hdz : ∀ z ∈ zs, z.1.data.length ≤ 1000000000) : Calls Try.prog 22 #[lgv b lv] w fun e w' => ∃ v, e = .returned v ∧ Rd intE w' v (votM b.1 (mes zs)) ∧ Below w.heap.size w w' := by
  obtain ⟨hs, hb0, cl⟩ := lg_box w b lv
  have kl := lastv_of b zs lv (w.alloc (lgc b lv)) (w.alloc (lgc b lv)) (hD.below hb0) (hL.below hb0).2 (hL.below hb0).1 hlen
  have HC : Hid (∀ l : List Ez, (∀ z ∈ l, EzOk z ∧ z.1.data.length ≤ 1000000000) → ∀ d : List Nat, ((∀ c ∈ d, c < 256) ∧ d.length ≤ 1000000000) → (∀ c ∈ votF d (mes l), c < 256) ∧ (votF d (mes l)).length ≤ 1000000000) := fun l => by
    induction l with
    | nil => exact fun _ d hd => hd
    | cons z l ih =>
      intro h d hd
      show (∀ c ∈ votF (if z.1.kind = 2 then z.1.data else d) (mes l), _) ∧ (votF (if z.1.kind = 2 then z.1.data else d) (mes l)).length ≤ _
      refine ih (fun y hy => h y (List.mem_cons_of_mem _ hy)) _ ?_
      split
      · exact ⟨(h z List.mem_cons_self).1.2.2, (h z List.mem_cons_self).2⟩
      · exact hd
  obtain ⟨hvc, hvl⟩ := HC.out zs (fun z hz => ⟨hok z hz, hdz z hz⟩) b.1.data ⟨hbo.2.2, hdl⟩
  unfold votM
  generalize votF b.1.data (mes zs) = V at *
  obtain ⟨la, lc, rfl, -, -⟩ := hL.1.shape
  obtain ⟨⟨ix, tm, kd, dt⟩, sa, sn, sc⟩ := b
  dsimp only [lgc, ev] at *
  obtain ⟨c0, c1, c2, c3, c4⟩ := cl _ (Below.refl _ _)
  clear hD hL hbo hok hdz HC cl
  go_enter Try.func22, Try.ntmps22
  go_wp2_with fail
  refine kl.mono ?_
  rintro e w1 ⟨⟨va, vn, vc⟩, rfl, hR, hb1⟩
  dsimp only at *
  have kn := pnodes_of V (.slice va vn vc) w1 (hR.below hb1) hvl hvc
  have hb01 := hb0.trans (hb1.mono hb0.size)
  clear kl hR c0 c1 c2 c3 c4
  go_wp2_with fail
  refine kn.mono ?_
  rintro e w2 ⟨u, rfl, hO, hb2⟩
  have hRd := hO.1.rd
  clear kn hO
  go_wp2
  go_ret
  exact ⟨_, rfl, hRd, hb01.trans (hb2.mono hb01.size)⟩
end Go.Proofs.Ytmmonehpfmlmeaa

