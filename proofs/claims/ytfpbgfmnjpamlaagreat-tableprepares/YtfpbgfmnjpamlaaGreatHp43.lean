import Derived.Test.YtfpbgfmnjpamlaaGreatHp42
/- The law's own covers: what is left of a span without a list's keys. -/
namespace Go.Proofs.YtfpbgfmnjpamlaaGreat
open Go.RowKit SpanMath
set_option maxRecDepth 100000
set_option linter.unusedSimpArgs false
set_option linter.unusedVariables false

theorem fm_one {x : Sp} (h : Ok x) : Fm [x] := ⟨by simp, by simpa using h⟩
theorem piece_one {x y : Sp} (hx : Ok x) (hy : Ok y) : piece [x] y 1 = lessOne y x := by
  rw [piece_less (fm_one hx) hy]
  simp [lessM]
theorem left_step {L : List Sp} {y : Sp} (hL : ∀ x ∈ L, Ok x) (hy : Ok y) : (L.flatMap fun x => piece [x] y 1) = lessM L y := by
  unfold lessM
  induction L with
  | nil => rfl
  | cons x L ih =>
    rw [List.flatMap_cons, List.flatMap_cons, piece_one (hL x List.mem_cons_self) hy, ih fun z hz => hL z (List.mem_cons_of_mem _ hz)]
theorem less_above {y z : Sp} (h : y.1 ≤ z.1) : (lessOne y z).length ≤ 1 := by
  have hm : y.1 ≠ [] → meet z ([], y.1) = none := by
    intro hne
    unfold meet
    rw [if_neg]
    unfold blw meetS soon kmax kmin
    have h1 := nil_le z.1
    have h2 := nil_le y.1
    simp only [decide_eq_true_eq]
    grind
  unfold lessOne outs
  rw [List.filterMap_append, List.length_append]
  have h1 : ((if y.1 = [] then ([] : List Sp) else [([], y.1)]).filterMap fun o => meet z o).length = 0 := by
    split
    · rfl
    · rename_i hne
      simp [hm hne]
  have h2 : ((if y.2 = [] then ([] : List Sp) else [(y.2, [])]).filterMap fun o => meet z o).length ≤ 1 := by
    refine Nat.le_trans (List.length_filterMap_le _ _) ?_
    split <;> simp
  omega
theorem less_few {y : Sp} (hy : Ok y) : ∀ {L : List Sp}, Fm L → (lessM L y).length ≤ L.length + 1
  | [], _ => by simp [lessM]
  | x :: L, hL => by
    have hLp := List.pairwise_cons.1 hL.1
    have hL' : Fm L := ⟨hLp.2, fun s hs => hL.2 s (List.mem_cons_of_mem _ hs)⟩
    have ih := less_few hy hL'
    have ox := hL.2 x List.mem_cons_self
    have all1 : (∀ z ∈ L, y.1 ≤ z.1) → (lessM L y).length ≤ L.length := by
      intro h
      clear ih hL hLp hL'
      induction L with
      | nil => simp [lessM]
      | cons z L ih =>
        have h1 := less_above (h z List.mem_cons_self)
        have h2 := ih fun u hu => h u (List.mem_cons_of_mem _ hu)
        unfold lessM at *
        rw [List.flatMap_cons, List.length_append, List.length_cons]
        omega
    have e : (lessM (x :: L) y).length = (lessOne y x).length + (lessM L y).length := by simp [lessM]
    rw [e, List.length_cons]
    by_cases h1 : (lessOne y x).length ≤ 1
    · omega
    · have h2 := lessOne_len y x
      have h3 : ∀ z ∈ L, y.1 ≤ z.1 := by
        intro z hz
        have hz1 := hLp.1 z hz
        rw [apt_iff] at hz1
        -- two parts: one lies behind y
        have hsome : ∃ m, meet x (y.2, []) = some m ∧ y.2 ≠ [] := by
          by_cases hy2 : y.2 = []
          · exfalso
            apply h1
            unfold lessOne outs
            rw [if_pos hy2, List.append_nil]
            refine Nat.le_trans (List.length_filterMap_le _ _) ?_
            split <;> simp
          · cases hmm : meet x (y.2, []) with
            | some m => exact ⟨m, rfl, hy2⟩
            | none =>
              exfalso
              apply h1
              unfold lessOne outs
              rw [if_neg hy2, List.filterMap_append, List.length_append]
              have h5 : ([((y.2, []) : Sp)].filterMap fun o => meet x o).length = 0 := by simp [hmm]
              have h6 : ((if y.1 = [] then ([] : List Sp) else [([], y.1)]).filterMap fun o => meet x o).length ≤ 1 := by
                refine Nat.le_trans (List.length_filterMap_le _ _) ?_
                split <;> simp
              omega
        obtain ⟨m, hm, hy2⟩ := hsome
        have w1 := meet_within hm
        have w2 := meet_within2 hm
        obtain ⟨om, _⟩ := meet_ok hm
        unfold Ok at om hy ox
        simp only at w1 w2
        grind
      have := all1 h3
      omega
/-- What is left, span by span. -/
theorem left_take {l : List Sp} {s y : Sp} {i : Nat} (h : l[i]? = some y) : SpanMath.leftOf (l.take (i + 1)) [s] = (SpanMath.leftOf (l.take i) [s]).flatMap fun x => piece [x] y 1 := by
  rw [take_succ_get h]
  simp [SpanMath.leftOf, List.foldl_append]
theorem left_few {l : List Sp} {s : Sp} (hl : ∀ x ∈ l, Ok x) (hs : Ok s) : ∀ i, i ≤ l.length → Fm (SpanMath.leftOf (l.take i) [s]) ∧ (SpanMath.leftOf (l.take i) [s]).length ≤ i + 1
  | 0, _ => by
    rw [List.take_zero]
    exact ⟨fm_one hs, by simp [SpanMath.leftOf]⟩
  | i + 1, h => by
    obtain ⟨h1, h2⟩ := left_few hl hs i (by omega)
    have hy : l[i]? = some l[i] := List.getElem?_eq_getElem (by omega)
    have oy := hl l[i] (List.mem_of_getElem? hy)
    rw [left_take hy, left_step h1.2 oy]
    have := less_few oy h1
    exact ⟨less_form h1 oy, by omega⟩

/-- What stands between two rounds of the inner loop: what is left, what is left next. -/
structure CSt (w W : World) (lf nx : Value) (LL NN : List Sp) : Prop where
  base : Below w.heap.size w W
  rl : Rk spE W 47 lf LL
  rn : Rk spE W 47 nx NN
  off : ∀ k, nx.ownBlock = some k → w.heap.size ≤ k ∧ lf.ownBlock ≠ some k
  offL : ∀ k, lf.ownBlock = some k → w.heap.size ≤ k
theorem CSt.below {w W W' : World} {lf nx : Value} {LL NN : List Sp} (h : CSt w W lf nx LL NN) (hb : Below W.heap.size W W') : CSt w W' lf nx LL NN :=
  ⟨h.base.trans (hb.mono h.base.size), h.rl.same fun k hk => hb.block k (h.rl.lt hk), h.rn.same fun k hk => hb.block k (h.rn.lt hk), h.off, h.offL⟩
theorem CSt.push {w W W' : World} {lf nx nx' : Value} {LL NN NN' : List Sp} (h : CSt w W lf nx LL NN) (hp : PushT spE 47 W nx NN' nx' W') : CSt w W' lf nx' LL NN' := by
  obtain ⟨h1, h2, h3⟩ := hp
  refine ⟨h.base.trans (grown_below h2 h.base.size fun k hk => (h.off k hk).1), h.rl.same fun k hk => h2.block k (h.rl.lt hk) fun e => (h.off k e.symm).2 hk, h1, fun k hk => ?_, h.offL⟩
  rcases h3 k hk with h' | h'
  · exact h.off k h'
  · refine ⟨Nat.le_trans h.base.size h', fun e => ?_⟩
    have := h.rl.lt e
    omega

set_option maxHeartbeats 16000000 in
theorem rcov_of (l : List Sp) (lv : Value) (s : Sp) (w : World) (hF : Sv w lv l) (hlen : l.length ≤ 64) (hok : ∀ x ∈ l, Ok x) (hs : Ok s) : Calls Tryz.prog 56 #[lv, sv s] w fun e w' => e = .returned (.bool (decide (SpanMath.leftOf l [s] = []))) ∧ Below w.heap.size w w' := by
  obtain ⟨B, HB⟩ : ∃ B, Hid (B = decide (SpanMath.leftOf l [s] = [])) := ⟨_, rfl⟩
  rw [← HB.out]
  have hfew : Hid (∀ i, i ≤ l.length → (SpanMath.leftOf (l.take i) [s]).length ≤ i + 1 ∧ ∀ x ∈ SpanMath.leftOf (l.take i) [s], Ok x) := fun i hi => ⟨(left_few hok hs i hi).2, (left_few hok hs i hi).1.2⟩
  have hokH : Hid (∀ x ∈ l, Ok x) := hok
  obtain ⟨ao, cap, rfl, h2⟩ := id hF
  obtain ⟨LF, HLF⟩ : ∃ LF : Nat → List Sp, Hid (∀ i, LF i = SpanMath.leftOf (l.take i) [s]) := ⟨_, fun _ => rfl⟩
  have HL0 : Hid (LF 0 = [s]) := by show _ = _; rw [HLF.out, List.take_zero]; rfl
  obtain ⟨s1, s2⟩ := s
  obtain ⟨hs0, g0, g1, hb0⟩ := two_boxes w (.cells #[.string (bk s1), .string (bk s2)] 47) (.cells #[.string (bk s1), .string (bk s2)] 47)
  have hR0 : Rk spE ((w.alloc (.cells #[.string (bk s1), .string (bk s2)] 47)).alloc (.cells #[.string (bk s1), .string (bk s2)] 47)) 47 (.slice (some ⟨w.heap.size + 1, 0, none⟩) 1 1) (LF 0) := by rw [HL0.out]; exact Rk.made (E := spE) (xs := [(s1, s2)]) g1 rfl (by unfold maxLen; simp)
  clear hok hs
  go_enter Tryz.func56, Tryz.ntmps56
  go_wp2
  go_loopg [5, 6] l.length (fun g s5 s6 wr => ∃ (i : Nat) (lf : Value), i + g = l.length ∧ s6 = .int .i64 (i : Int) ∧ lf = s5 ∧ Rk spE wr 47 lf (LF i) ∧ (∀ k, lf.ownBlock = some k → w.heap.size ≤ k) ∧ Below w.heap.size w wr)
  case atStart => exact ⟨0, _, by simp, rfl, rfl, hR0, (fun k hk => by cases hk; exact Nat.le_succ _), hb0⟩
  case round =>
    obtain ⟨i, lf, hig, rfl, rfl, hR, hOf, hb⟩ := hrel
    clear hR0 hb0 g0 g1 hs0 HL0
    by_cases hlt : i < l.length
    · have hlti : (i : Int) < (l.length : Int) := by omega
      have hx : l[i]? = some l[i] := List.getElem?_eq_getElem hlt
      obtain ⟨b, off, rfl, d0, d1⟩ := h2 i l[i] hx
      obtain ⟨t, ht⟩ : ∃ s, s = l[i] := ⟨_, rfl⟩
      rw [← ht] at hx d0 d1
      have oky : Ok t := hokH.out t (List.mem_of_getElem? hx)
      obtain ⟨f1, f2⟩ := hfew.out i (by omega)
      rw [← HLF.out] at f1 f2
      have HNX : Hid (LF (i + 1) = (LF i).flatMap fun x => piece [x] t 1) := by show _ = _; rw [HLF.out, HLF.out, left_take hx]
      have HF2 : Hid (∀ x ∈ LF i, Ok x) := f2
      have kpc0 : Hid (∀ (x : Sp) (W : World) (v : Value), Rd spE W v [x] → Calls Tryz.prog 26 #[v, sv t, .int .i64 ((1 : Nat) : Int)] W fun e w' => ∃ v, e = .returned v ∧ Rd spE w' v (piece [x] t 1) ∧ Below W.heap.size W w') := fun x W v h => piece_of [x] v t 1 (.inr (.inl rfl)) W h (by simp)
      have HP2 : Hid (∀ x ∈ LF i, (piece [x] t 1).length ≤ 2) := fun x hx2 => by rw [piece_one (HF2.out x hx2) oky]; exact lessOne_len t x
      have hll : (LF i).length ≤ 65 := by omega
      obtain ⟨t1, t2⟩ := t
      have hcl : ∀ W, Below w.heap.size w W → W.cell? ⟨b, off + i * 2, none⟩ = some (.string (bk t1)) ∧ W.cell? ⟨b, off + i * 2 + 1, none⟩ = some (.string (bk t2)) := fun W hW => ⟨(hW.cell (p := ⟨b, off + i * 2, none⟩) (World.block_lt_of_cell? w _ d0)).trans d0, (hW.cell (p := ⟨b, off + i * 2 + 1, none⟩) (World.block_lt_of_cell? w _ d1)).trans d1⟩
      obtain ⟨q1, q2, q3⟩ := one_box wr (.cells #[] 47)
      have hC0 : CSt w (wr.alloc (.cells #[] 47)) lf (.slice (some ⟨wr.heap.size, 0, none⟩) 0 0) (LF i) (((LF i).take 0).flatMap fun x => piece [x] (t1, t2) 1) := by
        refine ⟨hb.trans (q3.mono hb.size), hR.same fun k hk => q3.block k (hR.lt hk), by rw [List.take_zero]; exact Rk.made (E := spE) (xs := []) q2 rfl (by unfold maxLen; simp), fun k hk => ?_, hOf⟩
        cases hk
        exact ⟨hb.size, fun e => by have := hR.lt e; exact absurd this (Nat.lt_irrefl _)⟩
      obtain ⟨fa, fc, hlf, -⟩ := hR.shape
      subst hlf
      generalize LF i = L at *
      clear hx ht d0 d1 q1 q2 q3 f1 f2 hR oky
      obtain ⟨gE, hgE⟩ : ∃ gE, gE = gk := ⟨_, rfl⟩
      subst hgE
      obtain ⟨wE, hwE⟩ : ∃ wE, wE = wr := ⟨_, rfl⟩
      subst hwE
      go_wp2
      go_loopg [7, 8] L.length (fun g s7 s8 ws => ∃ (k : Nat) (nx : Value), k + g = L.length ∧ s8 = .int .i64 (k : Int) ∧ nx = s7 ∧ CSt w ws (.slice fa L.length fc) nx L ((L.take k).flatMap fun x => piece [x] (t1, t2) 1))
      case atStart => exact ⟨0, _, by simp, rfl, rfl, hC0⟩
      case round =>
        obtain ⟨k, nx, hkg, rfl, rfl, hC⟩ := hrel
        clear hC0
        obtain ⟨ws, hws⟩ : ∃ ws, ws = wr := ⟨_, rfl⟩
        subst hws
        by_cases hkl : k < L.length
        · have hkli : (k : Int) < (L.length : Int) := by omega
          have hxk : L[k]? = some L[k] := List.getElem?_eq_getElem hkl
          obtain ⟨x, hxe⟩ : ∃ x, x = L[k] := ⟨_, rfl⟩
          rw [← hxe] at hxk
          have kpc := kpc0.out x
          have hpl := HP2.out x (List.mem_of_getElem? hxk)
          have HK : Hid ((L.take (k + 1)).flatMap (fun x => piece [x] (t1, t2) 1) = (L.take k).flatMap (fun x => piece [x] (t1, t2) 1) ++ piece [x] (t1, t2) 1) := by
            show _ = _
            rw [take_succ_get hxk, List.flatMap_append]
            simp
          have hnl : ((L.take k).flatMap fun x => piece [x] (t1, t2) 1).length ≤ 130 := by
            have main : ∀ m : List Sp, (∀ x ∈ m, x ∈ L) → (m.flatMap fun x => piece [x] (t1, t2) 1).length ≤ 2 * m.length := by
              intro m
              induction m with
              | nil => intro _; simp
              | cons y m ih =>
                intro hm
                have h1 := HP2.out y (hm y List.mem_cons_self)
                have h2 := ih fun z hz => hm z (List.mem_cons_of_mem _ hz)
                rw [List.flatMap_cons, List.length_append, List.length_cons]
                omega
            have := main (L.take k) fun x hx => List.mem_of_mem_take hx
            rw [List.length_take] at this
            omega
          obtain ⟨gl, cl2, cur2, e2, -⟩ := hC.rl.cells (by omega)
          obtain ⟨x1, x2⟩ := x
          have clS : ∀ {nx : Value} {NN : List Sp} (W : World), CSt w W (.slice fa L.length fc) nx L NN → (fun W => W.cell? ⟨gl, k * 2, none⟩ = some (.string (bk x1)) ∧ W.cell? ⟨gl, k * 2 + 1, none⟩ = some (.string (bk x2)) ∧ W.cell? ⟨b, off + i * 2, none⟩ = some (.string (bk t1)) ∧ W.cell? ⟨b, off + i * 2 + 1, none⟩ = some (.string (bk t2))) W := fun W hW => by
            obtain ⟨g', c', u', e', _, _, _, _, _, hc, _⟩ := hW.rl.cells (by omega)
            rw [e'] at e2
            cases e2
            have z0 := hc k (x1, x2) 0 hxk (by decide)
            have z1 := hc k (x1, x2) 1 hxk (by decide)
            obtain ⟨z2, z3⟩ := hcl W hW.base
            exact ⟨z0, z1, z2, z3⟩
          have hfa : fa = some ⟨gl, 0, none⟩ := by cases e2; rfl
          subst hfa
          have hxkH : Hid (L[k]? = some (x1, x2)) := hxk
          have hbd : Below ws.heap.size ws ws.drew := (Below.refl _ ws).drew
          clear hxe e2
          generalize (L.take k).flatMap (fun x => piece [x] (t1, t2) 1) = NN at *
          generalize piece [(x1, x2)] (t1, t2) 1 = PP at *
          go_wp2
          have clSH : Hid (∀ {nx : Value} {NN : List Sp} (W : World), CSt w W (.slice (some ⟨gl, 0, none⟩) L.length fc) nx L NN → (fun W => W.cell? ⟨gl, k * 2, none⟩ = some (.string (bk x1)) ∧ W.cell? ⟨gl, k * 2 + 1, none⟩ = some (.string (bk x2)) ∧ W.cell? ⟨b, off + i * 2, none⟩ = some (.string (bk t1)) ∧ W.cell? ⟨b, off + i * 2 + 1, none⟩ = some (.string (bk t2))) W) := clS
          refine wp_region_L (fun W => W.cell? ⟨gl, k * 2, none⟩ = some (.string (bk x1)) ∧ W.cell? ⟨gl, k * 2 + 1, none⟩ = some (.string (bk x2)) ∧ W.cell? ⟨b, off + i * 2, none⟩ = some (.string (bk t1)) ∧ W.cell? ⟨b, off + i * 2 + 1, none⟩ = some (.string (bk t2))) [] (by kernel_rfl) ?_
          have yS : (fun W => W.cell? ⟨gl, k * 2, none⟩ = some (.string (bk x1)) ∧ W.cell? ⟨gl, k * 2 + 1, none⟩ = some (.string (bk x2)) ∧ W.cell? ⟨b, off + i * 2, none⟩ = some (.string (bk t1)) ∧ W.cell? ⟨b, off + i * 2 + 1, none⟩ = some (.string (bk t2))) ws.drew := clS _ (hC.below hbd)
          have hCd := hC.below hbd
          clear hC hbd
          generalize ws.drew = wd at *
          refine wpAnyL_take 0 rfl (by kernel_rfl) (by kernel_rfl) (by kernel_rfl) (by kernel_rfl) (fun _ _ _ h => h) (by kernel_rfl) (by intro w' hS'; obtain ⟨a0, a1, a2, a3⟩ := hS'; go_simp <;> rfl) yS ?_
          try simp only [List.getElem_toArray, List.getElem_cons_succ, List.getElem_cons_zero, Act.put, List.setIfInBounds_toArray, List.set_cons_zero, List.set_cons_succ]
          refine wpAnyL_take 1 rfl (by kernel_rfl) (by kernel_rfl) (by kernel_rfl) (by kernel_rfl) (fun _ _ _ h => h) (by kernel_rfl) (by intro w' hS'; obtain ⟨a0, a1, a2, a3⟩ := hS'; go_simp <;> rfl) yS ?_
          try simp only [List.getElem_toArray, List.getElem_cons_succ, List.getElem_cons_zero, Act.put, List.setIfInBounds_toArray, List.set_cons_zero, List.set_cons_succ]
          refine wpAnyL_take 2 rfl (by kernel_rfl) (by kernel_rfl) (by kernel_rfl) (by kernel_rfl) (fun _ _ _ h => h) (by kernel_rfl) (by intro w' hS'; obtain ⟨a0, a1, a2, a3⟩ := hS'; go_simp <;> rfl) yS ?_
          try simp only [List.getElem_toArray, List.getElem_cons_succ, List.getElem_cons_zero, Act.put, List.setIfInBounds_toArray, List.set_cons_zero, List.set_cons_succ]
          refine wpAnyL_take 3 rfl (by kernel_rfl) (by kernel_rfl) (by kernel_rfl) (by kernel_rfl) (fun _ _ _ h => h) (by kernel_rfl) (by intro w' hS'; obtain ⟨a0, a1, a2, a3⟩ := hS'; go_simp <;> rfl) yS ?_
          try simp only [List.getElem_toArray, List.getElem_cons_succ, List.getElem_cons_zero, Act.put, List.setIfInBounds_toArray, List.set_cons_zero, List.set_cons_succ]
          refine wpAnyL_take 4 rfl (by kernel_rfl) (by kernel_rfl) (by kernel_rfl) (by kernel_rfl) (fun _ _ _ h => h) (by kernel_rfl) (by intro w' hS'; obtain ⟨a0, a1, a2, a3⟩ := hS'; go_simp <;> rfl) yS ?_
          try simp only [List.getElem_toArray, List.getElem_cons_succ, List.getElem_cons_zero, Act.put, List.setIfInBounds_toArray, List.set_cons_zero, List.set_cons_succ]
          refine wpAnyL_take 6 rfl (by kernel_rfl) (by kernel_rfl) (by kernel_rfl) (by kernel_rfl) (fun _ _ _ h => h) (by kernel_rfl) (by intro w' hS'; obtain ⟨a0, a1, a2, a3⟩ := hS'; go_simp <;> rfl) yS ?_
          try simp only [List.getElem_toArray, List.getElem_cons_succ, List.getElem_cons_zero, Act.put, List.setIfInBounds_toArray, List.set_cons_zero, List.set_cons_succ]
          refine wpAnyL_take 7 rfl (by kernel_rfl) (by kernel_rfl) (by kernel_rfl) (by kernel_rfl) (fun _ _ _ h => h) (by kernel_rfl) (by intro w' hS'; obtain ⟨a0, a1, a2, a3⟩ := hS'; go_simp <;> rfl) yS ?_
          try simp only [List.getElem_toArray, List.getElem_cons_succ, List.getElem_cons_zero, Act.put, List.setIfInBounds_toArray, List.set_cons_zero, List.set_cons_succ]
          refine wpAnyL_take 8 rfl (by kernel_rfl) (by kernel_rfl) (by kernel_rfl) (by kernel_rfl) (fun _ _ _ h => h) (by kernel_rfl) (by intro w' hS'; obtain ⟨a0, a1, a2, a3⟩ := hS'; go_simp <;> rfl) yS ?_
          try simp only [List.getElem_toArray, List.getElem_cons_succ, List.getElem_cons_zero, Act.put, List.setIfInBounds_toArray, List.set_cons_zero, List.set_cons_succ]
          refine wpAnyL_take 9 rfl (by kernel_rfl) (by kernel_rfl) (by kernel_rfl) (by kernel_rfl) (fun _ _ _ h => h) (by kernel_rfl) (by intro w' hS'; obtain ⟨a0, a1, a2, a3⟩ := hS'; go_simp <;> rfl) yS ?_
          try simp only [List.getElem_toArray, List.getElem_cons_succ, List.getElem_cons_zero, Act.put, List.setIfInBounds_toArray, List.set_cons_zero, List.set_cons_succ]
          refine wpAnyL_one 5 (by kernel_rfl) rfl (by kernel_rfl) ?_
          intro K' hK'
          go_simp
          obtain ⟨q1, q2, q3⟩ := one_box wd (.cells #[.string (bk x1), .string (bk x2)] 47)
          have hC5 := hCd.below q3
          have hrow : Rd spE (wd.alloc (.cells #[.string (bk x1), .string (bk x2)] 47)) (.slice (some ⟨wd.heap.size, 0, none⟩) 1 1) [(x1, x2)] := (Rk.made (E := spE) (xs := [(x1, x2)]) q2 rfl (by unfold maxLen; simp)).rd
          refine hK'.out _ _ (.inr (clS _ hC5)) ?_
          clear hK' K' q1 q2 q3 hCd yS
          try simp only [List.getElem_toArray, List.getElem_cons_succ, List.getElem_cons_zero, Act.put, List.setIfInBounds_toArray, List.set_cons_zero, List.set_cons_succ]
          generalize wd.alloc (.cells #[.string (bk x1), .string (bk x2)] 47) = w5 at *
          have kq := kpc w5 _ hrow
          refine wpAnyL_one 10 (by kernel_rfl) rfl (by kernel_rfl) ?_
          intro K' hK'
          go_simp
          go_at_call 26
          refine kq.mono ?_
          rintro e w6 ⟨pv, rfl, hPv, hb6⟩
          have hC6 := hC5.below hb6
          have hS6 := clS _ hC6
          refine hK'.out _ _ (.inr hS6) ?_
          clear hK' K' kq hC5 hrow hb6
          try simp only [List.getElem_toArray, List.getElem_cons_succ, List.getElem_cons_zero, Act.put, List.setIfInBounds_toArray, List.set_cons_zero, List.set_cons_succ]
          have r7 := append_spH hC6.rn hPv (by omega) (by have := hpl; omega)
          refine wpAnyL_one 11 (by kernel_rfl) rfl (by kernel_rfl) ?_
          intro K' hK'
          refine op_run r7 _ _ rfl (by rfl) (by rfl) ?_
          intro v7 w7 hp7
          have hC7 := hC6.push hp7
          have hS7 := clS _ hC7
          refine hK'.out _ _ (.inr hS7) ?_
          clear hK' K' r7 hC6 hp7 hS6
          try simp only [List.getElem_toArray, List.getElem_cons_succ, List.getElem_cons_zero, Act.put, List.setIfInBounds_toArray, List.set_cons_zero, List.set_cons_succ]
          refine wpAnyL_take 12 rfl (by kernel_rfl) (by kernel_rfl) (by kernel_rfl) (by kernel_rfl) (fun _ _ _ h => h) (by kernel_rfl) (by intro w' hS'; obtain ⟨a0, a1, a2, a3⟩ := hS'; go_simp <;> rfl) hS7 ?_
          try simp only [List.getElem_toArray, List.getElem_cons_succ, List.getElem_cons_zero, Act.put, List.setIfInBounds_toArray, List.set_cons_zero, List.set_cons_succ]
          refine wpAnyL_done (by kernel_rfl) (NoPanic.normal ?_) _
          go_wp2
          go_roundg (gk - 1)
          case measure => omega
          case rel => exact ⟨k + 1, v7, by omega, by go_num, rfl, by rw [HK.out]; exact hC7⟩
        · have hkli : ¬ (k : Int) < (L.length : Int) := by omega
          obtain rfl : k = L.length := by omega
          have hCn := hC.rn
          rw [List.take_length, ← HNX.out] at hCn
          have hCb := hC.base
          have hCo := fun k hk => (hC.off k hk).1
          clear hC
          go_wp2
          go_roundg (gE - 1)
          case measure => omega
          case rel => exact ⟨i + 1, nx, by omega, by go_num, rfl, hCn, hCo, hCb⟩
    · have hlti : ¬ (i : Int) < (l.length : Int) := by omega
      obtain rfl : i = l.length := by omega
      have E : Hid (B = decide (LF l.length = [])) := by show _ = _; rw [HB.out, HLF.out, List.take_length]
      obtain ⟨fa, fc, hlf, -⟩ := hR.shape
      subst hlf
      clear HB HLF hfew h2 hF hR hokH
      generalize LF l.length = L at *
      cases L with
      | nil =>
        have E2 : Hid (B = true) := E.out
        clear E
        go_wp2
        go_ret
        exact ⟨by rw [E2.out]; rfl, hb⟩
      | cons x L =>
        have E2 : Hid (B = false) := by show _ = _; rw [E.out]; rfl
        have hne : ¬ (((x :: L).length : Nat) : Int) = 0 := by simp; omega
        have hneb : ((((x :: L).length : Nat) : Int) == 0) = false := by simp; omega
        clear E
        generalize (x :: L).length = m at *
        go_wp2
        go_ret
        exact ⟨by rw [E2.out]; rfl, hb⟩
end Go.Proofs.YtfpbgfmnjpamlaaGreat

