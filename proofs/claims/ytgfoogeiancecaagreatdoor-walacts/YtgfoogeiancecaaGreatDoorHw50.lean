import Derived.Test.YtgfoogeiancecaaGreatDoorHw49
import Derived.Test.YtgfoogeiancecaaGreatDoorHw43
import Derived.Test.YtgfoogeiancecaaGreatDoorHw47
import Derived.Test.YtgfoogeiancecaaGreatDoorHw24
/- The contract of a log's Compact. -/
namespace Go.Proofs.YtgfoogeiancecaaGreatDoor
open Go.RowKit Go.Shelf WalMath DiskMath
attribute [local go_sem] Oper.semAt_some
set_option maxRecDepth 100000
set_option linter.unusedSimpArgs false
set_option linter.unusedVariables false

/-- What Compact tells and leaves. -/
def CompT (U : Nat → Prop) (w : World) (v d : Value) (sg : List Seg) (fs : Files) (idx : Nat) (e : Ending) (w' : World) : Prop :=
  ((∃ s ∈ sg, hasIx s idx) ∧ e = .returned (.int .i64 0) ∧ ∃ n, n < sg.length ∧ (∀ (j : Nat) (t : Seg), j < n → sg[j]? = some t → lastIx 0 t.recs ≤ idx) ∧ (n + 1 < sg.length → ∀ t, sg[n]? = some t → idx < lastIx 0 t.recs) ∧ LgN U w v d (sg.drop n) (rmN ((sg.take n).map Seg.num) fs) w') ∨
  ((∀ s ∈ sg, ¬ hasIx s idx) ∧ e = .returned (.int .i64 4) ∧ LgN U w v d sg fs w')

set_option maxHeartbeats 4000000 in
theorem compact_w {U : Nat → Prop} {w : World} {v d : Value} {sg : List Seg} {fs : Files} (idx : Nat) (hT : Tb w) (hL : Lg U w v d sg fs) (hU2 : ∀ b, U b → 2 ≤ b) (hw : Whole sg fs) (hidx : idx < 18446744073709551616) :
    Calls Tryz.prog 12 #[v, .int .u64 (idx : Int)] w (CompT U w v d sg fs idx) := by
  have hlen := hw.len
  have hLb := fun W (hb : Below w.heap.size w W) => LgN.below hL hb
  obtain ⟨S, σ, q, sv, rfl, hD, hW, hS, hU⟩ := hL.ex
  have ka := wawake_of hT hD hW hw.cons
  have kf : ∀ W, Below w.heap.size w W → Calls Tryz.prog 31 #[.pointer (some ⟨q, 0, none⟩), .int .u64 (idx : Int)] W (FoundT W sg idx) := fun W hb => find_w idx (hW.below hb) hw.len (fun s hs => by
    obtain ⟨h1, h2, h3, h4, h5, -⟩ := hw.at_ s hs
    refine ⟨by omega, h4, fun ha hb => ?_⟩
    by_cases he : s.recs = []
    · rw [he] at ha
      have : idx ≤ 0 := ha
      omega
    · obtain ⟨r, hr, -⟩ := has_rec h4 h5 ⟨he, hb, ha⟩
      have := (List.getElem?_eq_some_iff.1 hr).1
      omega) hidx
  obtain ⟨sa, sc, hsv, -⟩ := hW.segs.shape
  have E1 : Hid ((∃ s ∈ sg, hasIx s idx) → ∀ n w', n < sg.length → (∀ (j : Nat) (t : Seg), j < n → sg[j]? = some t → lastIx 0 t.recs ≤ idx) → (n + 1 < sg.length → ∀ t, sg[n]? = some t → idx < lastIx 0 t.recs) → LgN U w (.pointer (some ⟨q, 0, none⟩)) d (sg.drop n) (rmN ((sg.take n).map Seg.num) fs) w' → CompT U w (.pointer (some ⟨q, 0, none⟩)) d sg fs idx (.returned (.int .i64 0)) w') := fun h n w' a b c e => .inl ⟨h, rfl, n, a, b, c, e⟩
  have E2 : Hid (∀ w', (∀ s ∈ sg, ¬ hasIx s idx) → LgN U w (.pointer (some ⟨q, 0, none⟩)) d sg fs w' → CompT U w (.pointer (some ⟨q, 0, none⟩)) d sg fs idx (.returned (.int .i64 4)) w') := fun w' a b => .inr ⟨a, rfl, b⟩
  obtain ⟨dq, rfl⟩ := hD.shape
  generalize CompT U w (.pointer (some ⟨q, 0, none⟩)) (.pointer (some ⟨dq, 0, none⟩)) sg fs idx = T at *
  go_enter Tryz.func12, Tryz.ntmps12
  go_wp2_with fail
  refine ka.mono ?_
  rintro e w1 ⟨rfl, b1⟩
  have kf1 := kf w1 b1
  clear ka kf
  go_wp2_with fail
  refine kf1.mono ?_
  rintro e w2 ⟨b2', hfnd⟩
  have b2 := b1.trans (b2'.mono b1.size)
  clear kf1
  rcases hfnd with ⟨i, s, hs, hhas, rfl⟩ | ⟨hno, rfl⟩
  · have hin := (E1.out ⟨s, List.mem_of_getElem? hs, hhas⟩)
    have hinH : Hid _ := hin
    have hil := (List.getElem?_eq_some_iff.1 hs).1
    clear E1 E2 hLb hin hs hhas
    obtain ⟨N, hN⟩ : ∃ N, Hid (N + 1 = sg.length) := ⟨sg.length - 1, by show _ = _; omega⟩
    have hN0 : N ≤ 1000 := by have := hN.out; omega
    obtain ⟨M, hM⟩ : ∃ M, Hid (M = sg.length) := ⟨_, rfl⟩
    have hwr : IntKind.i64.wrap ((M : Int) - 1) = (N : Int) := by
      rw [show (M : Int) - 1 = (N : Int) by have := hN.out; have := hM.out; omega]
      exact IntWalk.i64_in _ (by omega)
    clear hil hlen
    have hsg0 : 0 < sg.length := by have := hN.out; omega
    have hK2 : Kept S w w2 := Below.kept b2
    have hD2 := diskOf.below hD b2
    obtain ⟨gg, hsvg, hcap, hcm⟩ : ∃ gg, sa = some ⟨gg, 0, none⟩ ∧ sg.length ≤ sc ∧ sc ≤ maxLen := by
      obtain ⟨g', cap', e, h1, h2, -⟩ := hW.segs.cells (by intro e; rw [e] at hsg0; simp at hsg0)
      rw [hsv] at e
      injection e with e1 e2 e3
      subst e3
      exact ⟨g', e1, h1, h2⟩
    subst hsvg
    subst hsv
    have hcell : Hid (∀ W, Kept S w W → ∀ W', Below W.heap.size W W' → W'.cell? ⟨q, 0, none⟩ = some (.pointer (some ⟨dq, 0, none⟩)) ∧ W'.cell? ⟨q, 1, none⟩ = some (.slice (some ⟨gg, 0, none⟩) M sc) ∧ ∀ n (t : Seg), sg[n]? = some t → t.num < 100000000 ∧ ∃ pa pc, W'.cell? ⟨gg, n * 2, none⟩ = some (.int .i64 (t.num : Int)) ∧ W'.cell? ⟨gg, n * 2 + 1, none⟩ = some (.slice pa t.recs.length pc) ∧ Pv W' (.slice pa t.recs.length pc) (plc 0 t.recs)) := fun W hk W' hb => by
      have hWW := (hW.kept hk hS).below hb
      obtain ⟨hq1, hat⟩ := row_k hWW
      have hq := hWW.block
      rw [hM.out]
      refine ⟨by rw [cells_of_block hq]; rfl, by rw [cells_of_block hq]; rfl, fun n t ht => ⟨(hw.at_ t (List.mem_of_getElem? ht)).1, ?_⟩⟩
      obtain ⟨g, cap, pa, pc, e1, h1, h2, h3, h4⟩ := hat n t ht
      cases e1
      exact ⟨pa, pc, (h3 _ (Below.refl _ _)).1, (h3 _ (Below.refl _ _)).2, h4 _ (Below.refl _ _)⟩
    have hcf : Hid (∀ W', Kept S w W' → ∀ W, Kept S w W → ∀ n (t : Seg) x, sg[n]? = some t → W.cell? ⟨gg, n * 2 + 1, none⟩ = some x → W'.cell? ⟨gg, n * 2 + 1, none⟩ = some x) := fun W' hk' W hk n t x ht hx => by
      have hgm : σ gg = (2, 0) := hW.segs.row gg rfl
      have hgS : ¬ S gg := fun h => by have := hS gg h; rw [hgm] at this; cases this
      have hgl : gg < w.heap.size := hW.segs.lt gg (by rw [hgm]; simp)
      have e1 := hk.block gg hgl hgS
      have e2 := hk'.block gg hgl hgS
      rw [← hx]
      simp only [World.cell?, e1, e2]
    have hTk : Hid (∀ W, Kept S w W → Tb W) := fun W hk => hT.outside (Below.refl _ _) hk (fun h => by have := hU2 0 ((hU 0).2 (.inl h)); omega) (fun h => by have := hU2 1 ((hU 1).2 (.inl h)); omega)
    have hsmall : Hid (∀ t ∈ sg, t.recs.length ≤ 1000) := fun t ht => (hw.at_ t ht).2.1
    have hfront : Hid (∀ n W, n < sg.length → Dk S W (.pointer (some ⟨dq, 0, none⟩)) (rmN ((sg.take n).map Seg.num) fs) → Kept S w W → ∀ W', Below W.heap.size W W' → Calls Tryz.prog 37 #[.slice (some ⟨gg, 0, none⟩) M sc, .int .i64 0, .int .i64 (n : Int)] W' fun e w5 => ∃ a m c, e = .returned (.slice a m c) ∧ w5.cell? ⟨q, 1, none⟩ = some (.slice (some ⟨gg, 0, none⟩) M sc) ∧ w5.frozen? ⟨q, 1, none⟩ = false ∧ Hid (LgN U w (.pointer (some ⟨q, 0, none⟩)) (.pointer (some ⟨dq, 0, none⟩)) (sg.drop n) (rmN ((sg.take n).map Seg.num) fs) (w5.setCell ⟨q, 1, none⟩ (.slice a m c)))) := fun n W hn hDn hk W' hb => by
      have hKU : Kept U w W := ⟨hk.os, hk.tape, hk.output, hk.size, fun b hb hns => hk.block b hb fun h => hns ((hU b).2 (.inl h))⟩
      have := front_state (hW.kept hk hS) hDn hS hb hn hw.len hcap hcm hKU hU
      rw [← hM.out] at this
      refine this.mono ?_
      rintro e w5 ⟨a, m, c, rfl, h1, h2, h3⟩
      exact ⟨a, m, c, rfl, h1, h2, ⟨U, ⟨S, σ, q, _, rfl, h3.out.disk, h3.out.at_, hS, hU⟩, fun _ h => .inl h, h3.out.kept⟩⟩
    have hrm : Hid (∀ n (t : Seg) W W', sg[n]? = some t → Dk S W (.pointer (some ⟨dq, 0, none⟩)) (rmN ((sg.take n).map Seg.num) fs) → Kept S w W → Below W.heap.size W W' → Calls Tryz.prog 36 #[.pointer (some ⟨dq, 0, none⟩), .string (segName t.num)] W' fun e w' => (∃ c : Int, e = .returned (.int .i64 c)) ∧ Hid (Dk S w' (.pointer (some ⟨dq, 0, none⟩)) (rmN ((sg.take (n + 1)).map Seg.num) fs)) ∧ Kept S w w') := fun n t W W' ht hDn hk hb => by
      refine (dremove_same (segName t.num) (segName_max _) (diskOf.below hDn hb)).mono ?_
      rintro e w' ⟨he, hD', hk'⟩
      refine ⟨⟨_, he⟩, ?_, (hk.trans (fun _ h => .inl h) (Below.kept hb)).trans (fun _ h => .inl h) hk'⟩
      have hl := (List.getElem?_eq_some_iff.1 ht).1
      rw [List.take_succ_eq_append_getElem hl, List.map_append, List.map_singleton, rmN_snoc]
      rw [List.getElem?_eq_getElem hl] at ht
      rw [Option.some.inj ht]
      exact hD'
    clear hD hW hw hL hcap hcm hS hU hT b1 b2' b2 hsg0
    go_wp2
    go_loopg [8] (N + 1) (fun g s8 wr => ∃ n : Nat, n + g = N + 1 ∧ n ≤ N ∧ s8 = .int .i64 (n : Int) ∧ Hid (Dk S wr (.pointer (some ⟨dq, 0, none⟩)) (rmN ((sg.take n).map Seg.num) fs)) ∧ Kept S w wr ∧ Hid (∀ (j : Nat) (t : Seg), j < n → sg[j]? = some t → lastIx 0 t.recs ≤ idx))
    case atStart => exact ⟨0, by omega, by omega, rfl, hD2, hK2, fun j t hj => by omega⟩
    case round =>
      obtain ⟨n, hn, hnN, rfl, hDn, hKn, hpre⟩ := hrel
      have hnH : Hid (n + gk = N + 1) := hn
      clear hn hD2 hK2
      by_cases hlt : n < N
      · have hy := List.getElem?_eq_getElem (l := sg) (i := n) (by have := hN.out; omega)
        generalize sg[n]'(by have := hN.out; omega) = t at *
        have hnM : (n : Int) < (M : Int) := by have := hN.out; have := hM.out; omega
        obtain ⟨c0, c1, hat⟩ := hcell.out wr hKn wr (Below.refl _ _)
        obtain ⟨hnum, pa, pc, d0, d1, hP⟩ := hat n t hy
        have hti := hsmall.out t (List.mem_of_getElem? hy)
        have kl := slast_of t.num _ _ wr hP (by rw [plc_length]; omega)
        rw [lastI_plc] at kl
        have hlti : (n : Int) < (N : Int) := by omega
        have hcW : Hid (∀ W', Below wr.heap.size wr W' → W'.cell? ⟨q, 0, none⟩ = some (.pointer (some ⟨dq, 0, none⟩)) ∧ W'.cell? ⟨q, 1, none⟩ = some (.slice (some ⟨gg, 0, none⟩) M sc) ∧ W'.cell? ⟨gg, n * 2, none⟩ = some (.int .i64 (t.num : Int)) ∧ W'.cell? ⟨gg, n * 2 + 1, none⟩ = some (.slice pa t.recs.length pc)) := fun W' hb => by
          obtain ⟨x0, x1, -⟩ := hcell.out wr hKn W' hb
          exact ⟨x0, x1, (hb.cell (p := ⟨gg, n * 2, none⟩) (World.block_lt_of_cell? wr _ d0)).trans d0, (hb.cell (p := ⟨gg, n * 2 + 1, none⟩) (World.block_lt_of_cell? wr _ d1)).trans d1⟩
        have hsame : Hid (∀ W', Kept S w W' → W'.cell? ⟨gg, n * 2 + 1, none⟩ = some (.slice pa t.recs.length pc)) := fun W' hk => hcf.out W' hk wr hKn n t _ hy d1
        have hnums : Hid (t.num < 100000000) := hnum
        have hRH : Hid (lastIx 0 t.recs = lastIx 0 t.recs) := rfl
        obtain ⟨R, hR⟩ : ∃ R, Hid (R = lastIx 0 t.recs) := ⟨_, rfl⟩
        rw [← hR.out] at kl
        clear hat hP hnum hti hRH
        generalize t.recs.length = RL at *
        go_wp2_with fail
        refine kl.mono ?_
        rintro e v1 ⟨rfl, t1⟩
        clear kl c0 c1 d0 d1
        obtain ⟨c0, c1, d0, d1⟩ := hcW.out v1 t1
        have hyH : Hid (sg[n]? = some t) := hy
        clear hy
        by_cases hgo : R ≤ idx
        · have hgoi : (R : Int) ≤ (idx : Int) := by omega
          have hwn : IntKind.i64.wrap ((n : Int) + 1) = ((n + 1 : Nat) : Int) := by
            rw [show (n : Int) + 1 = ((n + 1 : Nat) : Int) by omega]
            exact IntWalk.i64_in _ (by omega)
          have hpre2 : Hid (∀ (j : Nat) (y : Seg), j < n + 1 → sg[j]? = some y → lastIx 0 y.recs ≤ idx) := fun j z hj hz => by
            rcases Nat.lt_succ_iff_lt_or_eq.1 hj with hj | hj
            · exact hpre.out j z hj hz
            · subst hj
              rw [hyH.out] at hz
              cases hz
              rw [← hR.out]
              exact hgo
          have hcK : Hid (∀ W', Kept S w W' → W'.cell? ⟨q, 0, none⟩ = some (.pointer (some ⟨dq, 0, none⟩)) ∧ W'.cell? ⟨q, 1, none⟩ = some (.slice (some ⟨gg, 0, none⟩) M sc) ∧ W'.cell? ⟨gg, n * 2, none⟩ = some (.int .i64 (t.num : Int)) ∧ W'.cell? ⟨gg, n * 2 + 1, none⟩ = some (.slice pa RL pc)) := fun W' hk => by
            obtain ⟨x0, x1, x2⟩ := hcell.out W' hk W' (Below.refl _ _)
            obtain ⟨-, pa', pc', x3, x4, -⟩ := x2 n t hyH.out
            exact ⟨x0, x1, x3, hsame.out W' hk⟩
          go_wp2
          refine wp_region_L (fun w' => w'.cell? ⟨q, 0, none⟩ = some (.pointer (some ⟨dq, 0, none⟩)) ∧ w'.cell? ⟨q, 1, none⟩ = some (.slice (some ⟨gg, 0, none⟩) M sc) ∧ w'.cell? ⟨gg, n * 2, none⟩ = some (.int .i64 (t.num : Int)) ∧ w'.cell? ⟨gg, n * 2 + 1, none⟩ = some (.slice pa RL pc)) [] (by kernel_rfl) ?_
          have td : Below wr.heap.size wr v1.drew := t1.drew
          have kn := sname_of t.num (.slice pa RL pc) v1.drew ((hTk.out wr hKn).new td) hnums.out
          have yS : (fun w' : World => w'.cell? ⟨q, 0, none⟩ = some (.pointer (some ⟨dq, 0, none⟩)) ∧ w'.cell? ⟨q, 1, none⟩ = some (.slice (some ⟨gg, 0, none⟩) M sc) ∧ w'.cell? ⟨gg, n * 2, none⟩ = some (.int .i64 (t.num : Int)) ∧ w'.cell? ⟨gg, n * 2 + 1, none⟩ = some (.slice pa RL pc)) v1.drew := hcW.out _ td
          generalize v1.drew = vd at *
          clear c0 c1 d0 d1
          refine wpAnyL_take 0 rfl (by kernel_rfl) (by kernel_rfl) (by kernel_rfl) (by kernel_rfl) (fun _ _ _ h => h) (by kernel_rfl) (by intro w' hS'; obtain ⟨x1, x2, x3, x4⟩ := hS'; go_simp <;> rfl) yS ?_
          try simp only [List.getElem_toArray, List.getElem_cons_succ, List.getElem_cons_zero, Act.put, List.setIfInBounds_toArray, List.set_cons_zero, List.set_cons_succ]
          refine wpAnyL_take 1 rfl (by kernel_rfl) (by kernel_rfl) (by kernel_rfl) (by kernel_rfl) (fun _ _ _ h => h) (by kernel_rfl) (by intro w' hS'; obtain ⟨x1, x2, x3, x4⟩ := hS'; go_simp <;> rfl) yS ?_
          try simp only [List.getElem_toArray, List.getElem_cons_succ, List.getElem_cons_zero, Act.put, List.setIfInBounds_toArray, List.set_cons_zero, List.set_cons_succ]
          refine wpAnyL_take 2 rfl (by kernel_rfl) (by kernel_rfl) (by kernel_rfl) (by kernel_rfl) (fun _ _ _ h => h) (by kernel_rfl) (by intro w' hS'; obtain ⟨x1, x2, x3, x4⟩ := hS'; go_simp <;> rfl) yS ?_
          try simp only [List.getElem_toArray, List.getElem_cons_succ, List.getElem_cons_zero, Act.put, List.setIfInBounds_toArray, List.set_cons_zero, List.set_cons_succ]
          refine wpAnyL_take 3 rfl (by kernel_rfl) (by kernel_rfl) (by kernel_rfl) (by kernel_rfl) (fun _ _ _ h => h) (by kernel_rfl) (by intro w' hS'; obtain ⟨x1, x2, x3, x4⟩ := hS'; go_simp <;> rfl) yS ?_
          try simp only [List.getElem_toArray, List.getElem_cons_succ, List.getElem_cons_zero, Act.put, List.setIfInBounds_toArray, List.set_cons_zero, List.set_cons_succ]
          refine wpAnyL_take 4 rfl (by kernel_rfl) (by kernel_rfl) (by kernel_rfl) (by kernel_rfl) (fun _ _ _ h => h) (by kernel_rfl) (by intro w' hS'; obtain ⟨x1, x2, x3, x4⟩ := hS'; go_simp <;> rfl) yS ?_
          try simp only [List.getElem_toArray, List.getElem_cons_succ, List.getElem_cons_zero, Act.put, List.setIfInBounds_toArray, List.set_cons_zero, List.set_cons_succ]
          refine wpAnyL_take 5 rfl (by kernel_rfl) (by kernel_rfl) (by kernel_rfl) (by kernel_rfl) (fun _ _ _ h => h) (by kernel_rfl) (by intro w' hS'; obtain ⟨x1, x2, x3, x4⟩ := hS'; go_simp <;> rfl) yS ?_
          try simp only [List.getElem_toArray, List.getElem_cons_succ, List.getElem_cons_zero, Act.put, List.setIfInBounds_toArray, List.set_cons_zero, List.set_cons_succ]
          refine wpAnyL_take 6 rfl (by kernel_rfl) (by kernel_rfl) (by kernel_rfl) (by kernel_rfl) (fun _ _ _ h => h) (by kernel_rfl) (by intro w' hS'; obtain ⟨x1, x2, x3, x4⟩ := hS'; go_simp <;> rfl) yS ?_
          try simp only [List.getElem_toArray, List.getElem_cons_succ, List.getElem_cons_zero, Act.put, List.setIfInBounds_toArray, List.set_cons_zero, List.set_cons_succ]
          refine wpAnyL_take 7 rfl (by kernel_rfl) (by kernel_rfl) (by kernel_rfl) (by kernel_rfl) (fun _ _ _ h => h) (by kernel_rfl) (by intro w' hS'; obtain ⟨x1, x2, x3, x4⟩ := hS'; go_simp <;> rfl) yS ?_
          try simp only [List.getElem_toArray, List.getElem_cons_succ, List.getElem_cons_zero, Act.put, List.setIfInBounds_toArray, List.set_cons_zero, List.set_cons_succ]
          refine wpAnyL_take 8 rfl (by kernel_rfl) (by kernel_rfl) (by kernel_rfl) (by kernel_rfl) (fun _ _ _ h => h) (by kernel_rfl) (by intro w' hS'; obtain ⟨x1, x2, x3, x4⟩ := hS'; go_simp <;> rfl) yS ?_
          try simp only [List.getElem_toArray, List.getElem_cons_succ, List.getElem_cons_zero, Act.put, List.setIfInBounds_toArray, List.set_cons_zero, List.set_cons_succ]
          refine wpAnyL_take 9 rfl (by kernel_rfl) (by kernel_rfl) (by kernel_rfl) (by kernel_rfl) (fun _ _ _ h => h) (by kernel_rfl) (by intro w' hS'; obtain ⟨x1, x2, x3, x4⟩ := hS'; go_simp <;> rfl) yS ?_
          try simp only [List.getElem_toArray, List.getElem_cons_succ, List.getElem_cons_zero, Act.put, List.setIfInBounds_toArray, List.set_cons_zero, List.set_cons_succ]
          refine wpAnyL_take 10 rfl (by kernel_rfl) (by kernel_rfl) (by kernel_rfl) (by kernel_rfl) (fun _ _ _ h => h) (by kernel_rfl) (by intro w' hS'; obtain ⟨x1, x2, x3, x4⟩ := hS'; go_simp <;> rfl) yS ?_
          try simp only [List.getElem_toArray, List.getElem_cons_succ, List.getElem_cons_zero, Act.put, List.setIfInBounds_toArray, List.set_cons_zero, List.set_cons_succ]
          refine wpAnyL_one 11 (by kernel_rfl) rfl (by kernel_rfl) ?_
          intro K' hK'
          go_simp
          go_at_call 28
          refine kn.mono ?_
          rintro e v2 ⟨rfl, t2'⟩
          have t2 := td.trans (t2'.mono td.size)
          have yS2 := hcW.out v2 t2
          have kr := hrm.out n t wr v2 hyH.out hDn.out hKn t2
          clear kn t2'
          refine hK'.out _ _ (.inr yS2) ?_
          clear hK' K'
          try simp only [List.getElem_toArray, List.getElem_cons_succ, List.getElem_cons_zero, Act.put, List.setIfInBounds_toArray, List.set_cons_zero, List.set_cons_succ]
          refine wpAnyL_one 12 (by kernel_rfl) rfl (by kernel_rfl) ?_
          intro K' hK'
          go_simp
          go_at_call 36
          refine kr.mono ?_
          rintro e v3 ⟨⟨cc, rfl⟩, hD3, hK3⟩
          have yS3 := hcK.out v3 hK3
          refine hK'.out _ _ (.inr yS3) ?_
          clear hK' K'
          try simp only [List.getElem_toArray, List.getElem_cons_succ, List.getElem_cons_zero, Act.put, List.setIfInBounds_toArray, List.set_cons_zero, List.set_cons_succ]
          refine wpAnyL_done (by kernel_rfl) (NoPanic.normal ?_) _
          clear yS yS2 yS3 kr
          go_wp2
          go_roundg (gk - 1)
          case measure => have := hnH.out; omega
          case rel => exact ⟨n + 1, by have := hnH.out; omega, by omega, by go_num, hD3, hK3, hpre2⟩
        · have hgoi : ¬ (R : Int) ≤ (idx : Int) := by omega
          have kd := hfront.out n wr (by have := hN.out; omega) hDn.out hKn v1 t1
          have hend := fun w' => hinH.out n w' (by have := hN.out; omega) hpre.out (fun _ y hy => by
            rw [hyH.out] at hy
            cases hy
            have := hR.out
            omega)
          have hendH : Hid _ := hend
          clear hend
          go_wp2_with fail
          refine kd.mono ?_
          rintro e w5 ⟨a, m, c, rfl, y1, y2, hA⟩
          have hEE := hendH.out _ hA.out
          clear hA hendH kd hinH
          go_wp2
          all_goals first | exact hEE | (go_ret; exact hEE)
      · have hneq : n = N := by omega
        subst hneq
        have hlti : ¬ (n : Int) < (n : Int) := by omega
        obtain ⟨c0, c1, -⟩ := hcell.out wr hKn wr (Below.refl _ _)
        have kd := hfront.out n wr (by have := hN.out; omega) hDn.out hKn wr (Below.refl _ _)
        have hend := fun w' => hinH.out n w' (by have := hN.out; omega) hpre.out (fun h => by have := hN.out; omega)
        have hendH : Hid _ := hend
        clear hend
        go_wp2_with fail
        refine kd.mono ?_
        rintro e w5 ⟨a, m, c, rfl, y1, y2, hA⟩
        have hEE := hendH.out _ hA.out
        clear hA hendH kd hinH
        go_wp2
        all_goals first | exact hEE | (go_ret; exact hEE)
  · have e2 := E2.out w2 hno (hLb w2 b2)
    clear E1 E2
    go_wp2
    first | exact e2 | (go_ret; exact e2)
end Go.Proofs.YtgfoogeiancecaaGreatDoor

/- Plain mathematics of WalActs: the state of a log that was begun on an empty disk, through appends, syncs, cuts, compactings and crashes: its numbers and its indexes may begin anywhere. -/
namespace Go.Proofs.YtgfoogeiancecaaGreatDoor.Ac
open Go.RowKit WalMath DiskMath
set_option linter.unusedSimpArgs false
set_option linter.unusedVariables false

/-- The numbers rise by one from b + 1 on. -/
def Nums (b : Nat) (sg : List Seg) : Prop := (sg.length ≤ 1000 ∧ b ≤ 1000) ∧ ∀ (i : Nat) (t : Seg), sg[i]? = some t → t.num = b + i + 1
theorem FF_rises {b : Nat} {pre : List Seg} {s : Seg} {k : Nat} (h : Nums b (pre ++ [s])) : Rises strOrd (FF pre s k) := by
  have hn : ∀ (i : Nat) (f : File), (FF pre s k)[i]? = some f → f.name = segName (b + i + 1) ∧ i ≤ 1000 ∧ b ≤ 1000 := fun i f hf => by
    have hl := (List.getElem?_eq_some_iff.1 hf).1
    rw [FF_len] at hl
    obtain ⟨h1, h1b⟩ := h.1
    rw [List.length_append, List.length_singleton] at h1
    have hs := List.getElem?_eq_getElem (show i < (pre ++ [s]).length by simp; omega)
    have e := congrArg (fun l => l[i]?) (FF_names pre s k)
    simp only [List.getElem?_map, hf, hs, Option.map_some] at e
    rw [h.2 i _ hs] at e
    exact ⟨Option.some.inj e, by omega, h1b⟩
  refine rises_lt fun i j f g hf hg hij => ?_
  rw [(hn i f hf).1, (hn j g hg).1]
  have := (hn j g hg).2
  exact segName_lt (by omega) (by omega)
theorem FF_get {b : Nat} {pre : List Seg} {s : Seg} {k : Nat} (h : Nums b (pre ++ [s])) : get (FF pre s k) (segName s.num) = some (fl s k) := (FF_rises h).get_of_mem (f := fl s k) (by simp [FF])
theorem FF_put {b : Nat} {pre : List Seg} {s t : Seg} {k m : Nat} (h : Nums b (pre ++ [s])) (hn : t.num = s.num) : putF (FF pre s k) (fl t m) = FF pre t m := by
  rw [put_place (fs := FF pre s k) (i := pre.length) (f := fl s k) (g := fl t m) (FF_rises h) (FF_last pre s k) (by show segName t.num = segName s.num; rw [hn])]
  unfold FF
  rw [List.take_append_of_le_length (by simp), List.take_of_length_le (by simp), List.drop_of_length_le (by simp)]

theorem FF_sync {b : Nat} {pre : List Seg} {s : Seg} {k : Nat} (h : Nums b (pre ++ [s])) : (dSync (FF pre s k) (segName s.num)).1 = FF pre s (sz s.recs) := by
  unfold dSync
  rw [FF_get h]
  exact FF_put (t := s) h rfl
theorem FF_append {b : Nat} {pre : List Seg} {s : Seg} {k : Nat} (h : Nums b (pre ++ [s])) (r : Rec) (hs : sz s.recs + (recB r).length ≤ 65536) : dAppend (FF pre s k) (segName s.num) (recB r) = (FF pre ⟨s.num, s.recs ++ [r]⟩ k, 0) := by
  unfold dAppend
  rw [if_neg (by rw [segName_may]; simp), FF_get h]
  dsimp only
  rw [if_neg (by show ¬ (65536 < (joinR s.recs).length + _); unfold sz at hs; omega)]
  have := FF_put (t := ⟨s.num, s.recs ++ [r]⟩) (m := k) (k := k) h rfl
  rw [← this]
  unfold fl
  rw [joinR_append, joinR_single]
theorem FF_new {b : Nat} {pre : List Seg} {s : Seg} (r : Rec) (h : Nums b (pre ++ [s] ++ [⟨s.num + 1, [r]⟩])) (hl : pre.length < 60) (hs : (recB r).length ≤ 65536) : dAppend (FF pre s (sz s.recs)) (segName (s.num + 1)) (recB r) = (FF (pre ++ [s]) ⟨s.num + 1, [r]⟩ 0, 0) := by
  have hr := FF_rises (k := 0) h
  have e : FF (pre ++ [s]) ⟨s.num + 1, [r]⟩ 0 = FF pre s (sz s.recs) ++ [⟨segName (s.num + 1), recB r, 0⟩] := by
    simp [FF, fl, joinR_single]
  rw [e] at hr ⊢
  have hg : get (FF pre s (sz s.recs)) (segName (s.num + 1)) = none := by
    rw [get_none]
    intro f hf e
    have := rises_end hr f hf
    rw [e] at this
    exact strOrd.irr _ this
  unfold dAppend
  rw [if_neg (by rw [segName_may]; simp), hg]
  dsimp only
  rw [if_neg (by rw [FF_len]; omega), put_snoc hr]
theorem FF_cut {b : Nat} {pre : List Seg} {s : Seg} {k : Nat} (h : Nums b (pre ++ [s])) (j : Nat) : (dCut (FF pre s k) (segName s.num) (sz (s.recs.take j) : Int)).1 = FF pre (segTo s j) (min k (sz (s.recs.take j))) := by
  have hle := sz_take_le s.recs j
  unfold dCut
  rw [FF_get h]
  dsimp only
  rw [if_neg (by show ¬ (_ ∨ ((joinR s.recs).length : Int) < _); unfold sz at *; omega)]
  have := FF_put (t := segTo s j) (m := min k (sz (s.recs.take j))) (k := k) h rfl
  rw [← this]
  unfold fl segTo
  rw [Int.toNat_natCast, joinR_to]

theorem nums_take {b : Nat} {pre : List Seg} {s t : Seg} {i : Nat} (h : Nums b (pre ++ [s])) (hi : (pre ++ [s])[i]? = some t) : Nums b (pre.take i ++ [t]) ∧ (pre ++ [s]).take i = pre.take i := by
  have hl := (List.getElem?_eq_some_iff.1 hi).1
  obtain ⟨h1, h1b⟩ := h.1
  rw [List.length_append, List.length_singleton] at hl h1
  have e : (pre ++ [s]).take i = pre.take i := by rw [List.take_append_of_le_length (by omega)]
  have e2 : pre.take i ++ [t] = (pre ++ [s]).take (i + 1) := by
    rw [List.take_succ_eq_append_getElem (by simp; omega), e]
    rw [List.getElem?_eq_getElem (by simp; omega)] at hi
    rw [Option.some.inj hi]
  refine ⟨⟨⟨by simp; omega, h1b⟩, fun n u hu => ?_⟩, e⟩
  rw [e2] at hu
  have hn : n < i + 1 := by
    have := (List.getElem?_eq_some_iff.1 hu).1
    rw [List.length_take] at this
    omega
  rw [List.getElem?_take_of_lt hn] at hu
  exact h.2 n u hu

/-- What CutFrom leaves of the files. -/
theorem FF_cutFs {b : Nat} {pre : List Seg} {s t : Seg} {k i : Nat} (h : Nums b (pre ++ [s])) (hi : (pre ++ [s])[i]? = some t) (j : Nat) : cutFs (pre ++ [s]) i t j (FF pre s k) = FF (pre.take i) (segTo t j) (min (safeAt pre i t k) (sz (t.recs.take j))) := by
  obtain ⟨hn, he⟩ := nums_take h hi
  have hrm : rmN (((pre ++ [s]).drop (i + 1)).map Seg.num).reverse (FF pre s k) = FF (pre.take i) t (safeAt pre i t k) := by
    have hr := FF_rises (k := k) h
    have e := FF_take (k := k) hi
    rw [← List.take_append_drop (i + 1) (FF pre s k)] at hr ⊢
    rw [rm_end _ _ _ _ rfl hr, e]
    rw [List.map_drop, FF_names, List.map_drop, List.map_drop]
  unfold cutFs leaveF cutSg
  rw [hrm, List.getLast?_concat]
  exact FF_cut hn j

theorem Idx.snoc {o : Nat} {rs : List Rec} {r : Rec} (h : Idx o rs) (hr : r.index = o + rs.length + 1) : Idx o (rs ++ [r]) := fun n q hq => by
  by_cases hn : n < rs.length
  · rw [List.getElem?_append_left hn] at hq
    exact h n q hq
  · rw [List.getElem?_append_right (by omega)] at hq
    have : n = rs.length := by
      have := (List.getElem?_eq_some_iff.1 hq).1
      simp at this
      omega
    subst this
    simp at hq
    rw [← hq]
    omega

/-- A log's state: its numbers begin behind b, its indexes behind o; all its records have at most B bytes; at most C records were appended. -/
structure Gd (b o : Nat) (pre : List Seg) (s : Seg) (k B C : Nat) : Prop where
  num : Nums b (pre ++ [s])
  ok : okAll (recsOf (pre ++ [s]))
  idx : Idx o (recsOf (pre ++ [s]))
  big : ∀ t ∈ pre, 4096 < sz t.recs
  sml : ∀ t ∈ pre ++ [s], sz t.recs ≤ 9000
  safe : k ≤ sz s.recs
  bud : sz (recsOf (pre ++ [s])) ≤ B
  cnt : (recsOf (pre ++ [s])).length ≤ C
  nb : s.num ≤ C
  gr : pre = [] ∨ o + (recsOf pre).length + 1 < 18446744073709551616

theorem Gd.len {b o : Nat} {pre : List Seg} {s : Seg} {k B C : Nat} (h : Gd b o pre s k B C) (hB : B ≤ 42500) : pre.length ≤ 10 := by
  have := big_len h.big
  have h2 := h.bud
  rw [recsOf_snoc, sz_append] at h2
  omega
theorem Gd.whole {b o : Nat} {pre : List Seg} {s : Seg} {k B C : Nat} (h : Gd b o pre s k B C) (hB : B ≤ 42500) (hC : C ≤ 1000) : Whole (pre ++ [s]) (FF pre s k) := by
  have hl := h.len hB
  refine ⟨by simp; omega, fun t ht => ?_⟩
  obtain ⟨i, hi⟩ := List.getElem?_of_mem ht
  have hil := (List.getElem?_eq_some_iff.1 hi).1
  rw [List.length_append, List.length_singleton] at hil
  have hn := h.num.2 i t hi
  have hnb := h.num.1.2
  have h1 := recs_le ht
  have h2 := h.cnt
  have h3 := h.sml t ht
  refine ⟨by omega, by omega, by omega, fun r hr => h.ok r (mem_recs ht hr), (h.idx.at hi).chn0, ?_⟩
  have hmem : ∃ m, fl t m ∈ FF pre s k := by
    rcases List.mem_append.1 ht with h | h
    · exact ⟨sz t.recs, by unfold FF; exact List.mem_append_left _ (List.mem_map.2 ⟨t, h, rfl⟩)⟩
    · rw [List.mem_singleton.1 h]
      exact ⟨k, by simp [FF]⟩
  obtain ⟨m, hm⟩ := hmem
  exact ⟨fl t m, (FF_rises h.num).get_of_mem hm, rfl⟩
theorem Gd.few {b o : Nat} {pre : List Seg} {s : Seg} {k B C : Nat} (h : Gd b o pre s k B C) (hB : B ≤ 42500) (hC : C ≤ 1000) : Few (pre ++ [s]) := by
  have hl := h.len hB
  refine ⟨by simp; omega, fun t ht => ?_, fun i j a b ha hb hij e => ?_, fun t ht u hu e => ?_⟩
  · obtain ⟨h1, h2, -⟩ := (h.whole hB hC).at_ t ht
    exact ⟨h1, h2, h.sml t ht⟩
  · have := h.num.2 i a ha
    have := h.num.2 j b hb
    omega
  · rw [List.getLast?_concat] at ht
    cases ht
    obtain ⟨i, hi⟩ := List.getElem?_of_mem hu
    have h1 := h.num.2 i u hi
    have h2 := h.num.2 pre.length s (by simp)
    have := (List.getElem?_eq_some_iff.1 hi).1
    rw [List.length_append, List.length_singleton] at this
    omega

theorem nums_snoc {b : Nat} {pre : List Seg} {s : Seg} {t : Seg} (h : Nums b (pre ++ [s])) (hl : pre.length ≤ 500) (ht : t.num = s.num + 1) : Nums b (pre ++ [s] ++ [t]) := by
  refine ⟨⟨by simp; omega, h.1.2⟩, fun i u hu => ?_⟩
  by_cases hi : i < (pre ++ [s]).length
  · rw [List.getElem?_append_left hi] at hu
    exact h.2 i u hu
  · rw [List.getElem?_append_right (by omega)] at hu
    have he : i = (pre ++ [s]).length := by
      have := (List.getElem?_eq_some_iff.1 hu).1
      simp at this hi
      simp
      omega
    subst he
    simp at hu
    have h2 := h.2 pre.length s (by simp)
    rw [← hu, ht, h2]
    simp
    omega
theorem nums_same {b : Nat} {pre : List Seg} {s t : Seg} (h : Nums b (pre ++ [s])) (ht : t.num = s.num) : Nums b (pre ++ [t]) := by
  refine ⟨⟨by have := h.1.1; simpa using this, h.1.2⟩, fun i u hu => ?_⟩
  by_cases hi : i < pre.length
  · rw [List.getElem?_append_left hi] at hu
    exact h.2 i u (by rw [List.getElem?_append_left hi]; exact hu)
  · have he : i = pre.length := by
      have := (List.getElem?_eq_some_iff.1 hu).1
      simp at this
      omega
    subst he
    have h2 := h.2 pre.length s (by simp)
    simp at hu
    rw [← hu, ht, h2]

end Go.Proofs.YtgfoogeiancecaaGreatDoor.Ac

/- Plain mathematics of WalActs, further: what each act leaves of a log's state. -/
namespace Go.Proofs.YtgfoogeiancecaaGreatDoor.Ac
open Go.RowKit WalMath DiskMath
set_option linter.unusedSimpArgs false
set_option linter.unusedVariables false

/-- The state of a log, or nothing at all. -/
def As (sg : List Seg) (fs : Files) (B C : Nat) : Prop := (sg = [] ∧ fs = []) ∨ ∃ b o pre s k, sg = pre ++ [s] ∧ fs = FF pre s k ∧ Gd b o pre s k B C
theorem As.nil (B C : Nat) : As [] [] B C := .inl ⟨rfl, rfl⟩
theorem As.whole {sg : List Seg} {fs : Files} {B C : Nat} (h : As sg fs B C) (hB : B ≤ 42500) (hC : C ≤ 1000) : Whole sg fs := by
  rcases h with ⟨rfl, rfl⟩ | ⟨b, o, pre, s, k, rfl, rfl, hG⟩
  · exact ⟨by simp, fun t ht => by cases ht⟩
  · exact hG.whole hB hC
theorem As.few {sg : List Seg} {fs : Files} {B C : Nat} (h : As sg fs B C) (hB : B ≤ 42500) (hC : C ≤ 1000) : Few sg := by
  rcases h with ⟨rfl, rfl⟩ | ⟨b, o, pre, s, k, rfl, rfl, hG⟩
  · exact ⟨by simp, (fun t ht => by cases ht), (fun i j a b ha => by simp at ha), (fun t ht => by simp at ht)⟩
  · exact hG.few hB hC
theorem As.idx {sg : List Seg} {fs : Files} {B C : Nat} (h : As sg fs B C) : ∃ o, Idx o (recsOf sg) := by
  rcases h with ⟨rfl, rfl⟩ | ⟨b, o, pre, s, k, rfl, rfl, hG⟩
  · exact ⟨0, fun n r hr => by simp [recsOf] at hr⟩
  · exact ⟨o, hG.idx⟩
theorem As.ok {sg : List Seg} {fs : Files} {B C : Nat} (h : As sg fs B C) : okAll (recsOf sg) := by
  rcases h with ⟨rfl, rfl⟩ | ⟨b, o, pre, s, k, rfl, rfl, hG⟩
  · exact fun r hr => by simp [recsOf] at hr
  · exact hG.ok
theorem As.cnt {sg : List Seg} {fs : Files} {B C : Nat} (h : As sg fs B C) : (recsOf sg).length ≤ C := by
  rcases h with ⟨rfl, rfl⟩ | ⟨b, o, pre, s, k, rfl, rfl, hG⟩
  · simp [recsOf]
  · exact hG.cnt
theorem As.mono {sg : List Seg} {fs : Files} {B B' C C' : Nat} (h : As sg fs B C) (h2 : B ≤ B') (h3 : C ≤ C') : As sg fs B' C' := by
  rcases h with ⟨rfl, rfl⟩ | ⟨b, o, pre, s, k, rfl, rfl, hG⟩
  · exact .inl ⟨rfl, rfl⟩
  · exact .inr ⟨b, o, pre, s, k, rfl, rfl, ⟨hG.num, hG.ok, hG.idx, hG.big, hG.sml, hG.safe, Nat.le_trans hG.bud h2, Nat.le_trans hG.cnt h3, Nat.le_trans hG.nb h3, hG.gr⟩⟩
theorem As.sync {sg : List Seg} {fs : Files} {B C : Nat} (h : As sg fs B C) : As sg (syncF sg fs) B C := by
  rcases h with ⟨rfl, rfl⟩ | ⟨b, o, pre, s, k, rfl, rfl, hG⟩
  · exact .inl ⟨rfl, rfl⟩
  · have e : syncF (pre ++ [s]) (FF pre s k) = FF pre s (sz s.recs) := by
      unfold syncF
      rw [List.getLast?_concat]
      exact FF_sync hG.num
    rw [e]
    exact .inr ⟨b, o, pre, s, _, rfl, rfl, ⟨hG.num, hG.ok, hG.idx, hG.big, hG.sml, Nat.le_refl _, hG.bud, hG.cnt, hG.nb, hG.gr⟩⟩

theorem recs_pre {pre : List Seg} (hb : ∀ t ∈ pre, 4096 < sz t.recs) (h : recsOf pre = []) : pre = [] := by
  cases pre with
  | nil => rfl
  | cons t l =>
    have := hb t (by simp)
    have e : recsOf (t :: l) = t.recs ++ recsOf l := by simp [recsOf]
    rw [e] at h
    rw [(List.append_eq_nil_iff.1 h).1] at this
    have h0 : 4096 < 0 := this
    omega

/-- A record follows. -/
theorem As.append {sg : List Seg} {fs : Files} {B C : Nat} (h : As sg fs B C) (r : Rec) (hok : okRec r) (hlen : (recB r).length ≤ 4900) (hr : recsOf sg = [] ∨ r.index = lastIx 0 (recsOf sg) + 1) (hB : B + (recB r).length ≤ 42500) (hC : C ≤ 1000) :
    roomN sg < 100000000 ∧ recsOf (addS sg (roomN sg) r) = recsOf sg ++ [r] ∧ ∃ fs2, dAppend (roomF sg fs) (segName (roomN sg)) (recB r) = (fs2, 0) ∧ As (addS sg (roomN sg) r) fs2 (B + (recB r).length) (C + 1) := by
  rcases h with ⟨rfl, rfl⟩ | ⟨b, o, pre, s, k, rfl, rfl, hG⟩
  · refine ⟨by decide, by simp [addS, recsOf], _, FF_first r (by omega), .inr ⟨0, r.index - 1, [], ⟨1, [r]⟩, 0, rfl, rfl, ⟨⟨⟨by simp, by omega⟩, fun i t ht => ?_⟩, ?_, ?_, (fun t ht => by cases ht), ?_, Nat.zero_le _, ?_, ?_, by show 1 ≤ C + 1; omega, .inl rfl⟩⟩⟩
    · cases i with
      | zero => simp at ht; rw [← ht]
      | succ n => simp at ht
    · intro q hq
      simp [recsOf] at hq
      rw [hq]
      exact hok
    · intro n q hq
      cases n with
      | zero =>
        simp [recsOf] at hq
        rw [← hq]
        have := hok.1
        omega
      | succ n => simp [recsOf] at hq
    · intro t ht
      simp at ht
      rw [ht]
      show sz [r] ≤ _
      rw [sz_single]
      omega
    · show sz [r] ≤ _
      rw [sz_single]
      omega
    · simp [recsOf]
  · have hl := hG.len (by omega)
    have hnum := hG.num.2 pre.length s (by simp)
    have hsml := hG.sml s (by simp)
    have hbud := hG.bud
    have hcnt := hG.cnt
    have hnb := hG.nb
    have hbb := hG.num.1.2
    obtain ⟨o', hidx, hio, hgr⟩ : ∃ o', Idx o' (recsOf (pre ++ [s])) ∧ r.index = o' + (recsOf (pre ++ [s])).length + 1 ∧ (pre = [] ∨ o' + (recsOf pre).length + 1 < 18446744073709551616) := by
      by_cases he : recsOf (pre ++ [s]) = []
      · refine ⟨r.index - 1, fun n q hq => by rw [he] at hq; simp at hq, by rw [he]; have := hok.1; simp; omega, .inl ?_⟩
        rw [recsOf_snoc] at he
        exact recs_pre hG.big (List.append_eq_nil_iff.1 he).1
      · rcases hr with h | h
        · exact absurd h he
        · rw [hG.idx.last0 he] at h
          exact ⟨o, hG.idx, h, hG.gr⟩
    by_cases h4 : sz s.recs ≤ 4096
    · have e1 : roomN (pre ++ [s]) = s.num := by unfold roomN; rw [List.getLast?_concat]; exact if_pos h4
      have e2 : roomF (pre ++ [s]) (FF pre s k) = FF pre s k := by unfold roomF; rw [List.getLast?_concat]; exact if_pos h4
      have e3 : addS (pre ++ [s]) s.num r = pre ++ [⟨s.num, s.recs ++ [r]⟩] := by
        unfold addS
        rw [List.getLast?_concat]
        dsimp only
        rw [if_pos rfl, show (pre ++ [s]).length - 1 = pre.length by simp, List.set_append_right _ _ (Nat.le_refl _)]
        simp
      have e4 : recsOf (pre ++ [⟨s.num, s.recs ++ [r]⟩]) = recsOf (pre ++ [s]) ++ [r] := by simp [recsOf]
      rw [e1, e2, e3, e4]
      refine ⟨by omega, rfl, _, FF_append hG.num r (by omega), .inr ⟨b, o', pre, _, k, rfl, rfl, ⟨nums_same hG.num rfl, ?_, ?_, hG.big, ?_, ?_, ?_, ?_, by show s.num ≤ C + 1; omega, hgr⟩⟩⟩
      · rw [e4]
        intro q hq
        rcases List.mem_append.1 hq with h | h
        · exact hG.ok q h
        · rw [List.mem_singleton.1 h]
          exact hok
      · rw [e4]
        exact Idx.snoc hidx hio
      · intro t ht
        rcases List.mem_append.1 ht with h | h
        · exact hG.sml t (List.mem_append_left _ h)
        · rw [List.mem_singleton.1 h]
          show sz (s.recs ++ [r]) ≤ _
          rw [sz_append, sz_single]
          omega
      · show k ≤ sz (s.recs ++ [r])
        have := hG.safe
        rw [sz_append]
        omega
      · rw [e4, sz_append, sz_single]
        omega
      · rw [e4, List.length_append, List.length_singleton]
        omega
    · have e1 : roomN (pre ++ [s]) = s.num + 1 := by unfold roomN; rw [List.getLast?_concat]; exact if_neg h4
      have e2 : roomF (pre ++ [s]) (FF pre s k) = FF pre s (sz s.recs) := by unfold roomF; rw [List.getLast?_concat]; dsimp only; rw [if_neg h4]; exact FF_sync hG.num
      have e3 : addS (pre ++ [s]) (s.num + 1) r = pre ++ [s] ++ [⟨s.num + 1, [r]⟩] := by
        unfold addS
        rw [List.getLast?_concat]
        dsimp only
        rw [if_neg (by omega)]
      have e4 : recsOf (pre ++ [s] ++ [⟨s.num + 1, [r]⟩]) = recsOf (pre ++ [s]) ++ [r] := by simp [recsOf]
      have hN := nums_snoc (t := ⟨s.num + 1, [r]⟩) hG.num (by omega) rfl
      rw [e1, e2, e3, e4]
      refine ⟨by omega, rfl, _, FF_new r hN (by omega) (by omega), .inr ⟨b, o', pre ++ [s], _, 0, rfl, rfl, ⟨hN, ?_, ?_, ?_, ?_, Nat.zero_le _, ?_, ?_, by show s.num + 1 ≤ C + 1; omega, .inr (by have := hok.2.1; omega)⟩⟩⟩
      · rw [e4]
        intro q hq
        rcases List.mem_append.1 hq with h | h
        · exact hG.ok q h
        · rw [List.mem_singleton.1 h]
          exact hok
      · rw [e4]
        exact Idx.snoc hidx hio
      · intro t ht
        rcases List.mem_append.1 ht with h | h
        · exact hG.big t h
        · rw [List.mem_singleton.1 h]
          omega
      · intro t ht
        rcases List.mem_append.1 ht with h | h
        · exact hG.sml t h
        · rw [List.mem_singleton.1 h]
          show sz [r] ≤ _
          rw [sz_single]
          omega
      · rw [e4, sz_append, sz_single]
        omega
      · rw [e4, List.length_append, List.length_singleton]
        omega

/-- The records from the n-th on are taken away. -/
theorem As.cut {sg : List Seg} {fs : Files} {B C : Nat} (h : As sg fs B C) {ix i : Nat} {t : Seg} (ht : sg[i]? = some t) (hx : hasIx t ix) :
    As (cutSg sg i t (ix - firstIx t.recs)) (cutFs sg i t (ix - firstIx t.recs) fs) B C ∧ fs.length = sg.length := by
  obtain ⟨hne, h1, h2⟩ := hx
  obtain ⟨j, hj⟩ : ∃ j, j = ix - firstIx t.recs := ⟨_, rfl⟩
  rw [← hj]
  have e1 : recsOf (cutSg sg i t j) = (recsOf sg).take ((recsOf (sg.take i)).length + min j t.recs.length) := by
    unfold cutSg
    rw [recsOf_snoc, recsOf_at ht, List.take_length_add_append, List.take_append_of_le_length (by omega)]
    congr 1
    show t.recs.take j = _
    rw [List.take_eq_take_iff]
    omega
  generalize (recsOf (sg.take i)).length + min j t.recs.length = n at e1
  rcases h with ⟨rfl, rfl⟩ | ⟨b, o, pre, s, k, rfl, rfl, hG⟩
  · simp at ht
  obtain ⟨hN, hT⟩ := nums_take hG.num ht
  have hil := (List.getElem?_eq_some_iff.1 ht).1
  rw [List.length_append, List.length_singleton] at hil
  rw [FF_cutFs hG.num ht]
  have e2 : cutSg (pre ++ [s]) i t j = pre.take i ++ [segTo t j] := by unfold cutSg; rw [hT]
  rw [e2] at e1 ⊢
  refine ⟨.inr ⟨b, o, _, _, _, rfl, rfl, ⟨nums_same hN rfl, ?_, ?_, fun u hu => hG.big u (List.mem_of_mem_take hu), ?_, Nat.min_le_right _ _, ?_, ?_, ?_, ?_⟩⟩, by rw [FF_len]; simp⟩
  · rw [e1]
    exact fun r hr => hG.ok r (List.mem_of_mem_take hr)
  · rw [e1]
    exact hG.idx.take n
  · intro u hu
    rcases List.mem_append.1 hu with h | h
    · exact hG.sml u (List.mem_append_left _ (List.mem_of_mem_take h))
    · rw [List.mem_singleton.1 h]
      have := hG.sml t (List.mem_of_getElem? ht)
      have h3 := sz_take_le t.recs j
      show sz (t.recs.take j) ≤ _
      omega
  · rw [e1]
    have := sz_take_le (recsOf (pre ++ [s])) n
    have := hG.bud
    omega
  · rw [e1, List.length_take]
    have := hG.cnt
    omega
  · show t.num ≤ C
    have h1 := hG.num.2 i t ht
    have h2 := hG.num.2 pre.length s (by simp)
    have := hG.nb
    omega
  · rcases hG.gr with h | h
    · left
      rw [h]
      simp
    · right
      have : (recsOf (pre.take i)).length ≤ (recsOf pre).length := by
        conv => rhs; rw [← List.take_append_drop i pre, recsOf_append, List.length_append]
        omega
      omega

theorem rm_front : ∀ (ns : List Nat) (A B : Files), Rises strOrd (A ++ B) → A.map (·.name) = ns.map segName → rmN ns (A ++ B) = B
  | [], A, B, hr, he => by
    have hA : A = [] := by simpa using he
    subst hA
    rfl
  | m :: ns, A, B, hr, he => by
    cases A with
    | nil => simp at he
    | cons f A =>
      rw [List.map_cons, List.map_cons] at he
      injection he with e1 e2
      have hg : get (f :: (A ++ B)) (segName m) = some f := by
        rw [← e1]
        exact Rises.get_of_mem (O := strOrd) (l := f :: (A ++ B)) hr (by simp)
      have e4 : (dRemove (f :: (A ++ B)) (segName m)).1 = A ++ B := by
        unfold dRemove
        rw [hg]
        show out _ _ = _
        unfold out
        rw [List.filter_cons_of_neg (by simp [e1]), List.filter_eq_self]
        intro g hgm
        have := hr.1 g hgm
        simp only [decide_eq_true_eq]
        intro e
        rw [e, ← e1] at this
        exact strOrd.irr _ this
      show rmN ns (dRemove (f :: (A ++ B)) (segName m)).1 = B
      rw [e4]
      exact rm_front ns A B hr.2 e2
/-- The first segments are taken away. -/
theorem As.compact {sg : List Seg} {fs : Files} {B C : Nat} (h : As sg fs B C) (hC : C ≤ 1000) (n : Nat) (hn : n < sg.length) : As (sg.drop n) (rmN ((sg.take n).map Seg.num) fs) B C := by
  rcases h with ⟨rfl, rfl⟩ | ⟨b, o, pre, s, k, rfl, rfl, hG⟩
  · simp at hn
  rw [List.length_append, List.length_singleton] at hn
  have ed : (pre ++ [s]).drop n = pre.drop n ++ [s] := by rw [List.drop_append_of_le_length (by omega)]
  have et : (pre ++ [s]).take n = pre.take n := by rw [List.take_append_of_le_length (by omega)]
  have eF : FF pre s k = (pre.take n).map (fun t => fl t (sz t.recs)) ++ FF (pre.drop n) s k := by
    unfold FF
    rw [← List.append_assoc, ← List.map_append, List.take_append_drop]
  have hr := FF_rises (k := k) hG.num
  rw [eF] at hr
  have er : rmN ((pre.take n).map Seg.num) (FF pre s k) = FF (pre.drop n) s k := by
    rw [eF]
    refine rm_front _ _ _ hr ?_
    simp [fl, Function.comp_def]
  have hsum : recsOf (pre ++ [s]) = recsOf (pre.take n) ++ recsOf (pre.drop n ++ [s]) := by
    rw [← recsOf_append, ← List.append_assoc, List.take_append_drop]
  rw [et, ed, er]
  have hl := hG.num.1
  rw [List.length_append, List.length_singleton] at hl
  have h2 := hG.num.2 pre.length s (by simp)
  have hnb := hG.nb
  refine .inr ⟨b + n, o + (recsOf (pre.take n)).length, _, _, _, rfl, rfl, ⟨⟨⟨by simp; omega, ?_⟩, fun i t ht => ?_⟩, ?_, ?_, fun t ht => hG.big t (List.mem_of_mem_drop ht), ?_, hG.safe, ?_, ?_, hnb, ?_⟩⟩
  · omega
  · rw [← ed, List.getElem?_drop] at ht
    have := hG.num.2 _ t ht
    omega
  · intro r hr
    exact hG.ok r (by rw [hsum]; exact List.mem_append_right _ hr)
  · intro m r hr
    have := hG.idx ((recsOf (pre.take n)).length + m) r (by rw [hsum, List.getElem?_append_right (by omega), show (recsOf (pre.take n)).length + m - (recsOf (pre.take n)).length = m by omega]; exact hr)
    omega
  · intro t ht
    rw [← ed] at ht
    exact hG.sml t (List.mem_of_mem_drop ht)
  · have := hG.bud
    rw [hsum, sz_append] at this
    omega
  · have := hG.cnt
    rw [hsum, List.length_append] at this
    omega
  · rcases hG.gr with h | h
    · left
      rw [h]
      simp
    · right
      have : (recsOf pre).length = (recsOf (pre.take n)).length + (recsOf (pre.drop n)).length := by
        rw [← List.length_append, ← recsOf_append, List.take_append_drop]
      omega
theorem mx_of {b o : Nat} {pre : List Seg} {s : Seg} {k B C : Nat} (hG : Gd b o pre s k B C) (c : Nat) : ∀ i, i < (pre.map (fun t => (t, sz t.recs)) ++ [(s, c)]).length → lastIx 0 (xrecs ((pre.map (fun t => (t, sz t.recs)) ++ [(s, c)]).take i)) + 1 < 18446744073709551616 := fun i hi => by
  rw [List.length_append, List.length_map, List.length_singleton] at hi
  have e : xrecs ((pre.map (fun t => (t, sz t.recs)) ++ [(s, c)]).take i) = recsOf (pre.take i) := by
    rw [List.take_append_of_le_length (by simp; omega), ← List.map_take]
    unfold xrecs recsOf
    rw [List.flatMap_map]
  rw [e]
  have hx : Idx o (recsOf (pre.take i)) := by
    have h1 := hG.idx.take (recsOf (pre.take i)).length
    have e2 : recsOf (pre ++ [s]) = recsOf (pre.take i) ++ (recsOf (pre.drop i) ++ s.recs) := by rw [recsOf_snoc, ← List.append_assoc, ← recsOf_append, List.take_append_drop]
    rw [e2, List.take_left'] at h1
    · exact h1
    · rfl
  by_cases he : recsOf (pre.take i) = []
  · rw [he]
    show 0 + 1 < _
    omega
  · rw [hx.last0 he]
    rcases hG.gr with h | h
    · rw [h] at he
      exact absurd (by simp [recsOf]) he
    · have : (recsOf pre).length = (recsOf (pre.take i)).length + (recsOf (pre.drop i)).length := by
        rw [← List.length_append, ← recsOf_append, List.take_append_drop]
      omega
/-- Behind a crash and an opening a beginning is there, all that was safe among it. -/
theorem As.crash {sg : List Seg} {fs : Files} {B C : Nat} (h : As sg fs B C) (cuts : List Int) (hB : B ≤ 42500) (hC : C ≤ 1000) :
    ∃ xs : List (Seg × Nat), RSt (DiskMath.crash fs cuts) xs ∧ As (xs.map cutS) (leaveF (xs.map cutS) (DiskMath.crash fs cuts)) B C := by
  rcases h with ⟨rfl, rfl⟩ | ⟨b, o, pre, s, k, rfl, rfl, hG⟩
  · exact ⟨[], ⟨⟨rfl, (fun i f x hf => by simp [DiskMath.crash] at hf)⟩, ⟨(fun i x y hx => by simp at hx), (fun x hx => by cases hx), (fun x hx => by cases hx), trivial, (fun i x hx => by simp at hx), (fun x hx => by cases hx), by simp⟩, fun i hi => by simp at hi⟩, .inl ⟨rfl, rfl⟩⟩
  obtain ⟨c, hc1, hc2, hce⟩ := FF_crash (pre := pre) hG.safe cuts
  have hl := hG.len hB
  have hw := hG.whole hB hC
  have exs : ∀ x ∈ pre.map (fun t => (t, sz t.recs)) ++ [(s, c)], x.1 ∈ pre ++ [s] := fun x hx => by
    rcases List.mem_append.1 hx with h | h
    · obtain ⟨t, ht, rfl⟩ := List.mem_map.1 h
      exact List.mem_append_left _ ht
    · rw [List.mem_singleton.1 h]
      simp
  have efst : (pre.map (fun t => (t, sz t.recs)) ++ [(s, c)]).map Prod.fst = pre ++ [s] := by simp [Function.comp_def]
  have eget : ∀ (i : Nat) (x : Seg × Nat), (pre.map (fun t => (t, sz t.recs)) ++ [(s, c)])[i]? = some x → (pre ++ [s])[i]? = some x.1 := fun i x hx => by
    rw [← efst, List.getElem?_map, hx]
    rfl
  have erec : xrecs (pre.map (fun t => (t, sz t.recs)) ++ [(s, c)]) = recsOf (pre ++ [s]) := by simp [xrecs, recsOf, List.flatMap_map]
  have ecut : (pre.map (fun t => (t, sz t.recs)) ++ [(s, c)]).map cutS = pre ++ [segTo s (cutN s.recs c)] := by
    rw [List.map_append, List.map_map]
    congr 1
    conv => rhs; rw [← List.map_id pre]
    apply List.map_congr_left
    intro t _
    show (⟨t.num, t.recs.take (cutN t.recs (sz t.recs))⟩ : Seg) = t
    rw [cutN_all t.recs _ (Nat.le_refl _), List.take_of_length_le (Nat.le_refl _)]
  have hcl := cutN_le s.recs c
  have hcs := cutN_sz s.recs c
  have hmx : ∀ i, i < (pre.map (fun t => (t, sz t.recs)) ++ [(s, c)]).length → lastIx 0 (xrecs ((pre.map (fun t => (t, sz t.recs)) ++ [(s, c)]).take i)) + 1 < 18446744073709551616 := mx_of hG c
  refine ⟨pre.map (fun t => (t, sz t.recs)) ++ [(s, c)], ⟨⟨?_, fun i f x hf hx => ?_⟩, ⟨fun i x y hx hy => ?_, fun x hx => ?_, fun x hx r hr => hG.ok r (mem_recs (exs x hx) hr), by rw [erec]; exact hG.idx.chn0, fun i x hx hi => ?_, fun x hx => ?_, by simp; omega⟩, hmx⟩, ?_⟩
  · rw [crash_length, FF_len]
    simp
  · rw [hce] at hf
    by_cases hi : i < pre.length
    · rw [List.getElem?_append_left (by simpa using hi), List.getElem?_map, List.getElem?_eq_getElem hi] at hf
      rw [List.map_append, List.getElem?_append_left (by simpa using hi), List.map_map, List.getElem?_map, List.getElem?_eq_getElem hi] at hx
      cases hf
      cases hx
      refine ⟨rfl, ?_⟩
      exact (joinR_all _).symm
    · rw [List.getElem?_append_right (by simp; omega)] at hf
      rw [List.map_append, List.getElem?_append_right (by simp; omega)] at hx
      simp only [List.length_map] at hf hx
      by_cases he : i = pre.length
      · subst he
        simp at hf hx
        rw [← hf, ← hx]
        exact ⟨rfl, rfl⟩
      · obtain ⟨m, hm⟩ : ∃ m, i - pre.length = m + 1 := ⟨i - pre.length - 1, by omega⟩
        rw [hm] at hf
        simp at hf
  · have h1 := hG.num.2 i x.1 (eget i x hx)
    have h2 := hG.num.2 (i + 1) y.1 (eget (i + 1) y hy)
    omega
  · obtain ⟨i, hi⟩ := List.getElem?_of_mem hx
    have h1 := hG.num.2 i x.1 (eget i x hi)
    have := (hw.at_ x.1 (exs x hx)).1
    omega
  · rw [List.getElem?_append_left (by simp at hi; simpa using hi), List.getElem?_map] at hx
    have hil : i < pre.length := by simp at hi; omega
    rw [List.getElem?_eq_getElem hil] at hx
    cases hx
    exact Nat.le_refl _
  · obtain ⟨-, h1, h2, -⟩ := hw.at_ x.1 (exs x hx)
    exact ⟨by omega, by omega⟩
  · rw [ecut]
    have efs : leaveF (pre ++ [segTo s (cutN s.recs c)]) (DiskMath.crash (FF pre s k) cuts) = FF pre (segTo s (cutN s.recs c)) (sz (s.recs.take (cutN s.recs c))) := by
      unfold leaveF
      rw [List.getLast?_concat, hce]
      have hr := crash_rises (O := strOrd) cuts (FF_rises (k := k) hG.num)
      rw [hce] at hr
      show (dCut _ (segName s.num) (sz (s.recs.take (cutN s.recs c)) : Int)).1 = _
      unfold dCut
      rw [get_snoc hr, if_pos rfl]
      dsimp only
      have hle : sz (s.recs.take (cutN s.recs c)) ≤ (joinR s.recs).length := sz_take_le s.recs _
      have hc2' : c ≤ (joinR s.recs).length := hc2
      rw [if_neg (by rw [List.length_take]; omega)]
      rw [Int.toNat_natCast, List.take_take, Nat.min_eq_left hcs, joinR_to, Nat.min_eq_right hcs]
      dsimp only
      rw [put_place (i := pre.length) (f := ⟨segName s.num, (joinR s.recs).take c, c⟩) (g := ⟨segName s.num, joinR (s.recs.take (cutN s.recs c)), sz (s.recs.take (cutN s.recs c))⟩) hr (by simp) rfl]
      rw [List.take_append_of_le_length (by simp), List.take_of_length_le (by simp), List.drop_of_length_le (by simp)]
      rfl
    rw [efs]
    have e9 : recsOf (pre ++ [segTo s (cutN s.recs c)]) = (recsOf (pre ++ [s])).take ((recsOf pre).length + cutN s.recs c) := by
      rw [recsOf_snoc, recsOf_snoc, List.take_length_add_append]
      rfl
    refine .inr ⟨b, o, pre, _, _, rfl, rfl, ⟨nums_same hG.num rfl, ?_, ?_, hG.big, ?_, Nat.le_refl _, ?_, ?_, hG.nb, hG.gr⟩⟩
    · rw [e9]
      exact fun r hr => hG.ok r (List.mem_of_mem_take hr)
    · rw [e9]
      exact hG.idx.take _
    · intro u hu
      rcases List.mem_append.1 hu with h | h
      · exact hG.sml u (List.mem_append_left _ h)
      · rw [List.mem_singleton.1 h]
        have := hG.sml s (by simp)
        have h3 := sz_take_le s.recs (cutN s.recs c)
        show sz (s.recs.take _) ≤ _
        omega
    · rw [e9]
      have := sz_take_le (recsOf (pre ++ [s])) ((recsOf pre).length + cutN s.recs c)
      have := hG.bud
      omega
    · rw [e9, List.length_take]
      have := hG.cnt
      omega
end Go.Proofs.YtgfoogeiancecaaGreatDoor.Ac

/- Plain mathematics of WalActs: the document's answers and the program's are alike. -/
namespace Go.Proofs.YtgfoogeiancecaaGreatDoor.Ac
open Go.RowKit WalMath DiskMath
set_option linter.unusedSimpArgs false
set_option linter.unusedVariables false

/-- Segments whose files are whole. -/
def xsOf (sg : List Seg) : List (Seg × Nat) := sg.map fun t => (t, sz t.recs)
theorem cutS_whole (t : Seg) : cutS (t, sz t.recs) = t := by
  show (⟨t.num, t.recs.take (cutN t.recs (sz t.recs))⟩ : Seg) = t
  rw [cutN_all t.recs _ (Nat.le_refl _), List.take_of_length_le (Nat.le_refl _)]
theorem xsOf_cut (sg : List Seg) : (xsOf sg).map cutS = sg := by
  unfold xsOf
  rw [List.map_map]
  conv => rhs; rw [← List.map_id sg]
  exact List.map_congr_left fun t _ => cutS_whole t
theorem xsOf_get {sg : List Seg} {i : Nat} {x : Seg × Nat} (h : (xsOf sg)[i]? = some x) : ∃ t, sg[i]? = some t ∧ x = (t, sz t.recs) := by
  unfold xsOf at h
  rw [List.getElem?_map] at h
  cases ht : sg[i]? with
  | none => rw [ht] at h; cases h
  | some t => rw [ht] at h; cases h; exact ⟨t, rfl, rfl⟩
theorem xsOf_len (sg : List Seg) : (xsOf sg).length = sg.length := List.length_map _
theorem rrecs_xsOf (sg : List Seg) : rrecs (xsOf sg) = recsOf sg := by
  unfold rrecs xsOf recsOf
  rw [List.flatMap_map]
  congr 1
  funext t
  rw [cutS_whole]
theorem xsOf_last (sg : List Seg) : (xsOf sg).getLast? = sg.getLast?.map fun t => (t, sz t.recs) := by
  unfold xsOf
  rw [List.getLast?_map]

theorem As.rst {sg : List Seg} {fs : Files} {B C : Nat} (h : As sg fs B C) (hB : B ≤ 42500) (hC : C ≤ 1000) : RSt fs (xsOf sg) := by
  rcases h with ⟨rfl, rfl⟩ | ⟨b, o, pre, s, k, rfl, rfl, hG⟩
  · exact ⟨⟨rfl, (fun i f x hf => by simp at hf)⟩, ⟨(fun i x y hx => by simp [xsOf] at hx), (fun x hx => by cases hx), (fun x hx => by cases hx), trivial, (fun i x hx => by simp [xsOf] at hx), (fun x hx => by cases hx), by simp [xsOf]⟩, fun i hi => by simp [xsOf] at hi⟩
  have hl := hG.len hB
  have hw := hG.whole hB hC
  have exs : ∀ x ∈ xsOf (pre ++ [s]), x.1 ∈ pre ++ [s] := fun x hx => by
    obtain ⟨t, ht, rfl⟩ := List.mem_map.1 hx
    exact ht
  have erec : xrecs (xsOf (pre ++ [s])) = recsOf (pre ++ [s]) := by
    unfold xrecs xsOf recsOf
    rw [List.flatMap_map]
  have e0 : xsOf (pre ++ [s]) = pre.map (fun t => (t, sz t.recs)) ++ [(s, sz s.recs)] := by simp [xsOf]
  refine ⟨⟨by rw [FF_len]; simp [xsOf], fun i f x hf hx => ?_⟩, ⟨fun i x y hx hy => ?_, fun x hx => ?_, fun x hx r hr => hG.ok r (mem_recs (exs x hx) hr), by rw [erec]; exact hG.idx.chn0, fun i x hx hi => ?_, fun x hx => ?_, by rw [xsOf_len]; simp; omega⟩, by rw [e0]; exact mx_of hG _⟩
  · rw [List.getElem?_map] at hx
    cases hy : (xsOf (pre ++ [s]))[i]? with
    | none => rw [hy] at hx; cases hx
    | some y =>
      rw [hy] at hx
      cases hx
      obtain ⟨t, ht, rfl⟩ := xsOf_get hy
      have : ∃ m, f = fl t m := by
        unfold FF at hf
        by_cases hi : i < pre.length
        · rw [List.getElem?_append_left (by simpa using hi), List.getElem?_map, List.getElem?_eq_getElem hi] at hf
          rw [List.getElem?_append_left hi, List.getElem?_eq_getElem hi] at ht
          cases hf
          cases ht
          exact ⟨_, rfl⟩
        · have hil := (List.getElem?_eq_some_iff.1 ht).1
          rw [List.length_append, List.length_singleton] at hil
          have he : i = pre.length := by omega
          subst he
          simp at hf ht
          rw [← hf, ← ht]
          exact ⟨_, rfl⟩
      obtain ⟨m, rfl⟩ := this
      exact ⟨rfl, (joinR_all _).symm⟩
  · obtain ⟨t, ht, rfl⟩ := xsOf_get hx
    obtain ⟨u, hu, rfl⟩ := xsOf_get hy
    have h1 := hG.num.2 i t ht
    have h2 := hG.num.2 (i + 1) u hu
    show u.num = t.num + 1
    omega
  · obtain ⟨i, hi⟩ := List.getElem?_of_mem hx
    obtain ⟨t, ht, rfl⟩ := xsOf_get hi
    have h1 := hG.num.2 i t ht
    have := (hw.at_ t (List.mem_of_getElem? ht)).1
    show 0 < t.num ∧ t.num < _
    omega
  · obtain ⟨t, ht, rfl⟩ := xsOf_get hx
    exact Nat.le_refl _
  · obtain ⟨-, h1, h2, -⟩ := hw.at_ x.1 (exs x hx)
    exact ⟨by omega, by omega⟩

theorem rsync_xsOf (sg : List Seg) (fs : Files) : rsyncF fs (xsOf sg) = syncF sg fs := by
  unfold rsyncF syncF
  rw [xsOf_last]
  cases sg.getLast? <;> rfl
theorem ropen_xs (xs : List (Seg × Nat)) (fs : Files) : ropenF fs xs = leaveF (xs.map cutS) fs := by
  unfold ropenF leaveF
  rw [List.getLast?_map]
  cases xs.getLast? <;> rfl

theorem rapp_zero (sg : List Seg) (fs : Files) (r : Rec) (h : r.index = 0) : rappF fs (xsOf sg) r = (fs, 1) := by
  unfold rappF
  rw [if_pos h]
theorem rapp_long (sg : List Seg) (fs : Files) (r : Rec) (h : r.index ≠ 0) (h2 : 4096 < r.data.length) : rappF fs (xsOf sg) r = (fs, 3) := by
  unfold rappF
  rw [if_neg h, if_pos h2]
theorem rapp_gap (sg : List Seg) (fs : Files) (r : Rec) (h : r.index ≠ 0) (h2 : ¬ 4096 < r.data.length) (h3 : recsOf sg ≠ []) (h4 : r.index ≠ lastIx 0 (recsOf sg) + 1) (h5 : lastIx 0 (recsOf sg) < 18446744073709551616) : rappF fs (xsOf sg) r = (fs, 12) := by
  unfold rappF
  rw [if_neg h, if_neg h2, if_pos]
  rw [rrecs_xsOf]
  refine ⟨h3, ?_⟩
  omega

/-- A file that is begun, and then has bytes, has them at once. -/
theorem append_twice {fs fs2 : Files} (n : Nat) (b : List Nat) (hr : Rises strOrd fs) (hg : get fs (segName n) = none) (h : dAppend fs (segName n) b = (fs2, 0)) :
    (dAppend fs (segName n) []).2 = 0 ∧ dAppend (dAppend fs (segName n) []).1 (segName n) b = (fs2, 0) := by
  unfold dAppend at h
  rw [if_neg (by rw [segName_may]; simp), hg] at h
  dsimp only at h
  split at h
  · cases h
  · rename_i hno
    have e1 : dAppend fs (segName n) [] = (putF fs ⟨segName n, [], 0⟩, 0) := by
      unfold dAppend
      rw [if_neg (by rw [segName_may]; simp), hg]
      dsimp only
      rw [if_neg (by simp; omega)]
    rw [e1]
    refine ⟨rfl, ?_⟩
    have hg2 : get (putF fs ⟨segName n, [], 0⟩) (segName n) = some ⟨segName n, [], 0⟩ := by
      unfold putF
      rw [put_get _ hr, if_pos rfl]
    unfold dAppend
    rw [if_neg (by rw [segName_may]; simp), hg2]
    dsimp only
    rw [if_neg (by simp; omega), ← h]
    congr 1
    refine rises_ext (put_rises (put_rises hr)) (put_rises hr) fun m => ?_
    unfold putF
    rw [put_get m (put_rises hr), put_get m hr, put_get m hr]
    simp
    split <;> rfl

theorem rapp_ok {sg : List Seg} {fs fs2 : Files} {B C : Nat} (h : As sg fs B C) (hB : B ≤ 42500) (hC : C ≤ 1000) (r : Rec) (hok : okRec r) (hr : recsOf sg = [] ∨ r.index = lastIx 0 (recsOf sg) + 1) (hn : roomN sg < 100000000) (hap : dAppend (roomF sg fs) (segName (roomN sg)) (recB r) = (fs2, 0)) : rappF fs (xsOf sg) r = (fs2, 0) := by
  have h0 := hok.1
  have h1 := hok.2.1
  have h2 := hok.2.2.1
  unfold rappF
  rw [if_neg (by omega), if_neg (by omega), if_neg (by
    rw [rrecs_xsOf]
    rintro ⟨a, b⟩
    rcases hr with h | h
    · exact a h
    · rw [← h, Nat.mod_eq_of_lt h1] at b
      exact b rfl), xsOf_last]
  rcases h with ⟨rfl, rfl⟩ | ⟨b, o, pre, s, k, rfl, rfl, hG⟩
  · obtain ⟨a1, a2⟩ := append_twice 1 (recB r) (fs := []) trivial (get_nil _) hap
    show rnewF [] 1 r = _
    unfold rnewF rputF
    rw [if_neg (by omega), if_pos a1, a2, if_pos rfl]
  · rw [List.getLast?_concat]
    show (if 4096 < sz (cutS (s, sz s.recs)).recs then rnewF (dSync (FF pre s k) (segName s.num)).1 (s.num + 1) r else rputF (FF pre s k) s.num r) = _
    rw [cutS_whole]
    by_cases h4 : sz s.recs ≤ 4096
    · have e1 : roomN (pre ++ [s]) = s.num := by unfold roomN; rw [List.getLast?_concat]; exact if_pos h4
      have e2 : roomF (pre ++ [s]) (FF pre s k) = FF pre s k := by unfold roomF; rw [List.getLast?_concat]; exact if_pos h4
      rw [e1, e2] at hap
      rw [if_neg (by omega)]
      unfold rputF
      rw [hap, if_pos rfl]
    · have e1 : roomN (pre ++ [s]) = s.num + 1 := by unfold roomN; rw [List.getLast?_concat]; exact if_neg h4
      have e2 : roomF (pre ++ [s]) (FF pre s k) = FF pre s (sz s.recs) := by unfold roomF; rw [List.getLast?_concat]; dsimp only; rw [if_neg h4]; exact FF_sync hG.num
      rw [e1, e2] at hap
      rw [e1] at hn
      rw [if_pos (by omega), FF_sync hG.num]
      have hN := nums_snoc (t := ⟨s.num + 1, [r]⟩) hG.num (by have := hG.len hB; omega) rfl
      have hrs := FF_rises (k := 0) hN
      have e : FF (pre ++ [s]) ⟨s.num + 1, [r]⟩ 0 = FF pre s (sz s.recs) ++ [⟨segName (s.num + 1), recB r, 0⟩] := by
        simp [FF, fl, joinR_single]
      rw [e] at hrs
      have hg : get (FF pre s (sz s.recs)) (segName (s.num + 1)) = none := by
        rw [get_none]
        intro f hf e
        have := rises_end hrs f hf
        rw [e] at this
        exact strOrd.irr _ this
      obtain ⟨a1, a2⟩ := append_twice (s.num + 1) (recB r) (FF_rises hG.num) hg hap
      unfold rnewF rputF
      rw [if_neg (by omega), if_pos a1, a2, if_pos rfl]

/-- An index is in one place alone. -/
theorem As.place {sg : List Seg} {fs : Files} {B C : Nat} (h : As sg fs B C) {i i' k ix : Nat} {t t' : Seg} {r : Rec} (ht : sg[i]? = some t) (hx : hasIx t ix) (ht' : sg[i']? = some t') (hk : t'.recs[k]? = some r) (hr : r.index = ix) : i = i' ∧ k = ix - firstIx t.recs := by
  obtain ⟨o, hidx⟩ := h.idx
  have h1 := hidx.at ht
  have h2 := hidx.at ht'
  obtain ⟨hne, a, b⟩ := hx
  rw [h1.first hne] at a ⊢
  rw [h1.last0 hne] at b
  have h3 := h2 k r hk
  have hkl := (List.getElem?_eq_some_iff.1 hk).1
  have step : ∀ (i j : Nat) (t : Seg), sg[i]? = some t → i < j → (recsOf (sg.take i)).length + t.recs.length ≤ (recsOf (sg.take j)).length := fun i j t ht hij => by
    have e : recsOf (sg.take j) = recsOf ((sg.take j).take i) ++ (t.recs ++ recsOf ((sg.take j).drop (i + 1))) := recsOf_at (by rw [List.getElem?_take_of_lt hij]; exact ht)
    have e2 := congrArg List.length e
    rw [List.length_append, List.length_append, List.take_take, Nat.min_eq_left (by omega)] at e2
    omega
  have hii : i = i' := by
    rcases Nat.lt_trichotomy i i' with h | h | h
    · have := step i i' t ht h
      omega
    · exact h
    · have := step i' i t' ht' h
      omega
  subst hii
  rw [ht] at ht'
  cases ht'
  exact ⟨rfl, by omega⟩
/-- A record that is there has its index. -/
theorem As.hasIx {sg : List Seg} {fs : Files} {B C : Nat} (h : As sg fs B C) {i k : Nat} {t : Seg} {r : Rec} (ht : sg[i]? = some t) (hk : t.recs[k]? = some r) : hasIx t r.index := by
  obtain ⟨o, hidx⟩ := h.idx
  have h1 := hidx.at ht
  have hkl := (List.getElem?_eq_some_iff.1 hk).1
  have hne : t.recs ≠ [] := by intro e; rw [e] at hkl; simp at hkl
  have h3 := h1 k r hk
  refine ⟨hne, ?_, ?_⟩
  · rw [h1.first hne]
    omega
  · rw [h1.last0 hne]
    omega

/-- What the document's CutFrom leaves is what the program's leaves. -/
theorem rcut_xsOf {sg : List Seg} (fs : Files) {i k : Nat} {t : Seg} (ht : sg[i]? = some t) : (dCut (rmTo fs (xsOf sg) i) (segName t.num) (sz ((cutS (t, sz t.recs)).recs.take k) : Int)).1 = cutFs sg i t k fs := by
  unfold cutFs leaveF cutSg
  rw [List.getLast?_concat, cutS_whole]
  show _ = (dCut _ (segName t.num) (sz (t.recs.take k) : Int)).1
  congr 2
  unfold rmTo xsOf
  rw [← List.map_drop, List.map_map]
  rfl
/-- Both take as many first segments away. -/
theorem comp_same {sg : List Seg} {ix n m : Nat} (hn : n < sg.length) (hm : m < sg.length) (a1 : ∀ (j : Nat) (t : Seg), j < n → sg[j]? = some t → lastIx 0 t.recs ≤ ix) (a2 : n + 1 < sg.length → ∀ t, sg[n]? = some t → ix < lastIx 0 t.recs)
    (b1 : ∀ (j : Nat) (t : Seg), j < m → sg[j]? = some t → lastIx 0 t.recs ≤ ix) (b2 : m + 1 < sg.length → ∀ t, sg[m]? = some t → ix < lastIx 0 t.recs) : n = m := by
  rcases Nat.lt_trichotomy n m with h | h | h
  · have := a2 (by omega) _ (List.getElem?_eq_getElem hn)
    have := b1 n _ h (List.getElem?_eq_getElem hn)
    omega
  · exact h
  · have := b2 (by omega) _ (List.getElem?_eq_getElem hm)
    have := a1 m _ h (List.getElem?_eq_getElem hm)
    omega
theorem rmFst_xsOf (sg : List Seg) (fs : Files) (n : Nat) : rmFst fs (xsOf sg) n = rmN ((sg.take n).map Seg.num) fs := by
  unfold rmFst xsOf
  rw [← List.map_take, List.map_map]
  rfl
end Go.Proofs.YtgfoogeiancecaaGreatDoor.Ac

/- The contract of the law's 'is': a log has just the records that its disk's files say. -/
namespace Go.Proofs.YtgfoogeiancecaaGreatDoor
open Go.RowKit WalMath DiskMath
attribute [local go_sem] Oper.semAt_some
set_option maxRecDepth 100000
set_option linter.unusedSimpArgs false
set_option linter.unusedVariables false

/-- The record that Get finds, and that there is none other. -/
theorem as_rec_at {sg : List Seg} {fs : Files} {B C : Nat} (h : Ac.As sg fs B C) {t : Seg} {r r' : Rec} {n : Nat} (ht : t ∈ sg) (hr : r ∈ t.recs) (hn : (recsOf sg)[n]? = some r') (hi : r.index = r'.index) : r = r' := by
  obtain ⟨o, hidx⟩ := h.idx
  obtain ⟨m, hm⟩ := List.getElem?_of_mem (mem_recs ht hr)
  have h1 := hidx m r hm
  have h2 := hidx n r' hn
  have e : m = n := by omega
  subst e
  rw [hm] at hn
  exact Option.some.inj hn
theorem as_there {sg : List Seg} {fs : Files} {B C : Nat} (h : Ac.As sg fs B C) {r : Rec} {n : Nat} (hn : (recsOf sg)[n]? = some r) : ∃ t ∈ sg, hasIx t r.index := by
  have hl := (List.getElem?_eq_some_iff.1 hn).1
  obtain ⟨i, t, h1, h2, h3⟩ := seg_of sg n hl
  obtain ⟨o, hidx⟩ := h.idx
  have hi := hidx.at h1
  have hr := hidx n r hn
  have hne : t.recs ≠ [] := by intro e; rw [e] at h3; simp at h3; omega
  refine ⟨t, List.mem_of_getElem? h1, hne, ?_, ?_⟩
  · rw [hi.first hne]
    omega
  · rw [hi.last0 hne]
    omega

set_option maxHeartbeats 4000000 in
theorem is_of {S : Nat → Prop} {σ : Wm} {w : World} {q B C : Nat} {d sv lv : Value} {sg : List Seg} {fs : Files} (hT : Tb w) (hD : Dk S w d fs) (hW : WalAt σ w q d sv sg) (h : Ac.As sg fs B C) (hB : B ≤ 42500) (hC : C ≤ 1000) (hF : @Fv keepAll w lv fs) :
    Calls Tryz.prog 19 #[.pointer (some ⟨q, 0, none⟩), d, lv] w fun e w' => e = .returned (.bool true) ∧ Below w.heap.size w w' := by
  letI := keepAll
  have hw := h.whole hB hC
  have hrst := h.rst hB hC
  have hok := h.ok
  have hcnt := h.cnt
  have hby := hD.byte
  have hsd := diskOf.sound hD
  have kfi := dfiles_of hD
  have ksm : Hid (∀ W ov, Below w.heap.size w W → Fw w.heap.size W ov fs → Calls Tryz.prog 53 #[ov, lv] W fun e w' => e = .returned (.bool true) ∧ Below W.heap.size W w') := fun W ov hb hW => sameF_of fs ov lv W (Fo.fv (Fw.fo hW (Nat.zero_le _))) (hF.below hb) hby (by have := hsd.2.1; omega)
  have krd : Hid (∀ W, Below w.heap.size w W → Calls Tryz.prog 49 #[lv] W fun e w' => ∃ ov, e = .returned ov ∧ RecRd w' ov (recsOf sg) ∧ Below W.heap.size W w') := fun W hb => by
    have := rread_of fs (Ac.xsOf sg) lv W (hF.below hb) hrst
    rw [Ac.rrecs_xsOf] at this
    exact this
  have kget : ∀ W idx, Below w.heap.size w W → idx < 18446744073709551616 → Calls Tryz.prog 55 #[.pointer (some ⟨q, 0, none⟩), .int .u64 ((idx : Nat) : Int)] W (GetT W sg idx) := fun W idx hb hi => get_of idx (hT.new hb) (diskOf.below hD hb) (hW.below hb) hw hi
  have kfst : ∀ W, Below w.heap.size w W → Calls Tryz.prog 56 #[.pointer (some ⟨q, 0, none⟩)] W fun e w' => e = .returned (.int .u64 (firstIx (recsOf sg) : Int)) ∧ Below W.heap.size W w' := fun W hb => first_of (hT.new hb) (diskOf.below hD hb) (hW.below hb) hw.cons
  have klst : ∀ W, Below w.heap.size w W → Calls Tryz.prog 7 #[.pointer (some ⟨q, 0, none⟩)] W fun e w' => e = .returned (.int .u64 (lastIx 0 (recsOf sg) : Int)) ∧ Below W.heap.size W w' := fun W hb => last_of (hT.new hb) (diskOf.below hD hb) (hW.below hb) hw.cons (fun s hs => by have := (hw.at_ s hs).2.1; omega)
  obtain ⟨o, hidx⟩ := h.idx
  obtain ⟨F, hFd⟩ : ∃ F, Hid (F = firstIx (recsOf sg)) := ⟨_, rfl⟩
  obtain ⟨L, hLd⟩ : ∃ L, Hid (L = lastIx 0 (recsOf sg)) := ⟨_, rfl⟩
  rw [← hFd.out] at kfst
  rw [← hLd.out] at klst
  obtain ⟨N, hN⟩ : ∃ N, Hid (N = (recsOf sg).length) := ⟨_, rfl⟩
  have hN1 : N ≤ 1000 := by have := hN.out; omega
  have hL64 : L < 18446744073709551616 := by
    rw [hLd.out]
    by_cases he : recsOf sg = []
    · rw [he]
      show 0 < _
      omega
    · rw [hidx.last0 he]
      have hl : 0 < (recsOf sg).length := List.length_pos_iff.2 he
      have hg := List.getElem?_eq_getElem (l := recsOf sg) (i := (recsOf sg).length - 1) (by omega)
      have h1 := hidx _ _ hg
      have h2 := (hok _ (List.getElem_mem (l := recsOf sg) (n := (recsOf sg).length - 1) (by omega))).2.1
      omega
  -- no record has index 0, nor the one behind the last
  obtain ⟨X, hX, hX64, hXno⟩ : ∃ X : Nat, IntKind.u64.wrap ((L : Int) + 1) = (X : Int) ∧ X < 18446744073709551616 ∧ ∀ t ∈ sg, ¬ hasIx t X := by
    have hno0 : ∀ t ∈ sg, ¬ hasIx t 0 := fun t ht hx => by
      obtain ⟨i, hi⟩ := List.getElem?_of_mem ht
      have h1 := hidx.at hi
      have := hx.2.1
      rw [h1.first hx.1] at this
      omega
    by_cases hl : L + 1 = 18446744073709551616
    · refine ⟨0, ?_, by omega, hno0⟩
      rw [show (L : Int) + 1 = 18446744073709551616 by omega]
      decide
    · refine ⟨L + 1, IntWalk.u64_in _ (by omega), by omega, fun t ht hx => ?_⟩
      obtain ⟨i, hi⟩ := List.getElem?_of_mem ht
      have h1 := hidx.at hi
      have h2 := hx.2.2
      rw [h1.last0 hx.1] at h2
      have h3 := congrArg List.length (recsOf_at hi)
      simp only [List.length_append] at h3
      have hne : recsOf sg ≠ [] := by
        intro e
        rw [e] at h3
        have := List.length_pos_iff.2 hx.1
        simp at h3
        omega
      have h4 := hidx.last0 hne
      rw [← hLd.out] at h4
      omega
  have kno : ∀ W idx, Below w.heap.size w W → idx < 18446744073709551616 → (∀ t ∈ sg, ¬ hasIx t idx) → Calls Tryz.prog 55 #[.pointer (some ⟨q, 0, none⟩), .int .u64 ((idx : Nat) : Int)] W fun e w' => e = .returned (.tuple #[.slice none 0 0, .bool false]) ∧ Below W.heap.size W w' := fun W idx hb hi hn => (kget W idx hb hi).mono fun e w' hg => by
    obtain ⟨h1, h2⟩ := hg
    rcases h2 with ⟨s, hs, r, hr, hri, -⟩ | ⟨-, he⟩
    · obtain ⟨i, hi'⟩ := List.getElem?_of_mem hs
      obtain ⟨k, hk⟩ := List.getElem?_of_mem hr
      exact absurd (hri ▸ h.hasIx hi' hk) (hn s hs)
    · exact ⟨he, h1⟩
  have hz0 : ∀ t ∈ sg, ¬ hasIx t 0 := fun t ht hx => by
    obtain ⟨i, hi⟩ := List.getElem?_of_mem ht
    have h1 := hidx.at hi
    have := hx.2.1
    rw [h1.first hx.1] at this
    omega
  have kall : Hid (∀ w4 ov, Below w.heap.size w w4 → RecRd w4 ov (recsOf sg) → ∃ ao cap, ov = .slice ao N cap ∧
      Hid (∀ W', Below w4.heap.size w4 W' → ∀ n, n < N → ∃ hb, ao = some ⟨hb, 0, none⟩ ∧ ∃ ix : Nat, Calls Tryz.prog 55 #[.pointer (some ⟨q, 0, none⟩), .int .u64 (ix : Int)] W' (fun e w' => ∃ va vn vc va2 vn2 vc2 t, e = .returned (.tuple #[.slice va vn vc, .bool true]) ∧ Below w4.heap.size w4 w' ∧ (w'.drew.cell? ⟨hb, n * 2 + 1, none⟩ = some (.slice va2 vn2 vc2) ∧ (convert 32 9 (.slice va vn vc)).run Tryz.prog w'.drew = .ok (.string t) w'.drew ∧ (convert 32 9 (.slice va2 vn2 vc2)).run Tryz.prog w'.drew = .ok (.string t) w'.drew)) ∧ W'.cell? ⟨hb, n * 2, none⟩ = some (.int .u64 (ix : Int))) ∧
      Hid (∀ p, N = p + 1 → ∃ hb, ao = some ⟨hb, 0, none⟩ ∧ w4.cell? ⟨hb, 0, none⟩ = some (.int .u64 (F : Int)) ∧ w4.cell? ⟨hb, p * 2, none⟩ = some (.int .u64 (L : Int)))) := fun w4 ov b4 hR => by
    obtain ⟨ao, cap, e, hR⟩ := hR
    rw [← hN.out] at e
    refine ⟨ao, cap, e, fun W' hb n hn => ?_, fun p hp => ?_⟩
    · have hg := List.getElem?_eq_getElem (show n < (recsOf sg).length by rw [← hN.out]; exact hn)
      generalize (recsOf sg)[n]'(by rw [← hN.out]; exact hn) = r at hg
      obtain ⟨hbk, da, dc, e1, c1, c2, c3⟩ := hR n r hg
      have hokr := hok r (List.mem_of_getElem? hg)
      have hbw := b4.trans (hb.mono b4.size)
      refine ⟨hbk, e1, r.index, (kget W' r.index hbw hokr.2.1).mono fun e w' hG => ?_, (hb.cell (p := ⟨hbk, n * 2, none⟩) (World.block_lt_of_cell? w4 _ c1)).trans c1⟩
      obtain ⟨h1, h2⟩ := hG
      have hb' := hb.trans (h1.mono hb.size)
      rcases h2 with ⟨s, hs, r', hr', hri, v, he, hBv⟩ | ⟨hno, -⟩
      · have hrr := as_rec_at h hs hr' hg hri
        subst hrr
        have hd : Below w'.heap.size w' w'.drew := (Below.refl _ _).drew
        have hb2 := hb'.trans (hd.mono hb'.size)
        have u1 := str_of (hBv.below hd) hokr.2.2.2
        have u2 := Fr.str_of (c3.below hb2) hokr.2.2.2
        obtain ⟨va, vc, rfl, -⟩ := id hBv
        exact ⟨va, _, vc, da, _, dc, _, he, hb', (hb2.cell (p := ⟨hbk, n * 2 + 1, none⟩) (World.block_lt_of_cell? w4 _ c2)).trans c2, u1, u2⟩
      · obtain ⟨t, ht, hx⟩ := as_there h hg
        exact absurd hx (hno t ht)
    · have hl : 0 < (recsOf sg).length := by rw [← hN.out]; omega
      have hne : recsOf sg ≠ [] := List.length_pos_iff.1 hl
      have hg0 := List.getElem?_eq_getElem hl
      have hgp := List.getElem?_eq_getElem (show p < (recsOf sg).length by rw [← hN.out]; omega)
      obtain ⟨hbk, da, dc, e1, c1, -⟩ := hR 0 _ hg0
      obtain ⟨hbk2, da2, dc2, e2, c2, -⟩ := hR p _ hgp
      rw [e1] at e2
      cases e2
      refine ⟨hbk, e1, ?_, ?_⟩
      · rw [show (0 : Nat) = 0 * 2 by rfl, c1, hidx 0 _ hg0, hFd.out, hidx.first hne]
      · rw [c2, hidx p _ hgp, hLd.out, hidx.last0 hne, ← hN.out, hp]
        rfl
  obtain ⟨dq, rfl⟩ := hD.shape
  obtain ⟨la, ln, lc, rfl⟩ : ∃ ao m cap, lv = .slice ao m cap := by
    obtain ⟨ao, cap, e⟩ := hF.shape
    exact ⟨_, _, _, e⟩
  have hzero : N = 0 → F = 0 ∧ L = 0 := fun h0 => by
    have : recsOf sg = [] := List.eq_nil_of_length_eq_zero (by rw [← hN.out]; exact h0)
    rw [hFd.out, hLd.out, this]
    exact ⟨rfl, rfl⟩
  have kNoH : Hid (∀ w4, Below w.heap.size w w4 → Hid (∀ W, Below w4.heap.size w4 W → Calls Tryz.prog 55 #[.pointer (some ⟨q, 0, none⟩), .int .u64 (X : Int)] W fun e w' => e = .returned (.tuple #[.slice none 0 0, .bool false]) ∧ Below w4.heap.size w4 w') ∧ Hid (∀ W, Below w4.heap.size w4 W → Calls Tryz.prog 55 #[.pointer (some ⟨q, 0, none⟩), .int .u64 0] W fun e w' => e = .returned (.tuple #[.slice none 0 0, .bool false]) ∧ Below w4.heap.size w4 w') ∧ Hid (∀ W, Below w4.heap.size w4 W → Calls Tryz.prog 56 #[.pointer (some ⟨q, 0, none⟩)] W fun e w' => e = .returned (.int .u64 (F : Int)) ∧ Below w4.heap.size w4 w') ∧ Hid (∀ W, Below w4.heap.size w4 W → Calls Tryz.prog 7 #[.pointer (some ⟨q, 0, none⟩)] W fun e w' => e = .returned (.int .u64 (L : Int)) ∧ Below w4.heap.size w4 w')) := fun w4 b4 =>
    ⟨fun W hb => (kno W X (b4.trans (hb.mono b4.size)) hX64 hXno).mono fun e w' h => ⟨h.1, hb.trans (h.2.mono hb.size)⟩,
     fun W hb => (kno W 0 (b4.trans (hb.mono b4.size)) (by omega) hz0).mono fun e w' h => ⟨h.1, hb.trans (h.2.mono hb.size)⟩,
     fun W hb => (kfst W (b4.trans (hb.mono b4.size))).mono fun e w' h => ⟨h.1, hb.trans (h.2.mono hb.size)⟩,
     fun W hb => (klst W (b4.trans (hb.mono b4.size))).mono fun e w' h => ⟨h.1, hb.trans (h.2.mono hb.size)⟩⟩
  clear kno kget kfst klst hz0 hXno hX64 hidx hok hcnt hby hsd hw hrst h hD hW hT hF hL64 hC hB
  go_enter Tryz.func19, Tryz.ntmps19
  go_wp2_with fail
  refine kfi.mono ?_
  rintro e w1 ⟨ov, rfl, hW1, b1⟩
  have ks := ksm.out w1 ov b1 hW1
  obtain ⟨fa, fc, rfl⟩ := hW1.shape
  clear kfi ksm hW1
  go_wp2_with fail
  refine ks.mono ?_
  rintro e w2 ⟨rfl, b2'⟩
  have b2 := b1.trans (b2'.mono b1.size)
  have kr := krd.out w2 b2
  clear ks krd b2'
  go_wp2_with fail
  refine kr.mono ?_
  rintro e w4 ⟨av, rfl, hR4, b4'⟩
  have b4 := b2.trans (b4'.mono b2.size)
  obtain ⟨ao, cap, rfl, kYes0, hends⟩ := kall.out w4 av b4 hR4
  obtain ⟨kNo, kZero, kF, kL⟩ := kNoH.out w4 b4
  clear kr kall kNoH hR4 b4' b1 b2
  rcases Nat.eq_zero_or_pos N with h0 | h0
  · obtain ⟨rfl, rfl⟩ := hzero h0
    subst h0
    obtain ⟨hb, hhb⟩ : ∃ hb : Nat, hb = 0 := ⟨_, rfl⟩
    have kYes : Hid (∀ W', Below w4.heap.size w4 W' → ∀ n, n < 0 → ao = some ⟨hb, 0, none⟩ ∧ ∃ ix : Nat, Calls Tryz.prog 55 #[.pointer (some ⟨q, 0, none⟩), .int .u64 (ix : Int)] W' (fun e w' => ∃ va vn vc va2 vn2 vc2 t, e = .returned (.tuple #[.slice va vn vc, .bool true]) ∧ Below w4.heap.size w4 w' ∧ (w'.drew.cell? ⟨hb, n * 2 + 1, none⟩ = some (.slice va2 vn2 vc2) ∧ (convert 32 9 (.slice va vn vc)).run Tryz.prog w'.drew = .ok (.string t) w'.drew ∧ (convert 32 9 (.slice va2 vn2 vc2)).run Tryz.prog w'.drew = .ok (.string t) w'.drew)) ∧ W'.cell? ⟨hb, n * 2, none⟩ = some (.int .u64 (ix : Int))) := fun W' _ n hn => by omega
    clear kYes0 hends hzero hhb
    have hN0 : ¬ (0 : Int) < 0 := by omega
    have hX1 : IntKind.u64.wrap ((0 : Int) + 1) = (X : Int) := hX
    have hX2 : IntKind.u64.wrap 1 = (X : Int) := hX
    go_wp2
    go_loopg [10] 0 (fun g s10 wx => ∃ n : Nat, n + g = 0 ∧ s10 = .int .i64 (n : Int) ∧ Below w4.heap.size w4 wx)
    case atStart => exact ⟨0, by simp, rfl, by first | exact Below.refl _ _ | exact (Below.refl _ _).drew⟩
    case round =>
      obtain ⟨n, hn, rfl, bx⟩ := hrel
      by_cases hnm : n < 0
      · exact absurd hnm (by omega)
      · have hnm' : n = 0 := by omega
        rw [hnm']
        have hNN : ¬ (0 : Int) < 0 := by omega
        clear kYes hnm hnm' hn
        have k7 := kNo.out wr bx
        clear kNo
        go_wp2_with fail
        refine k7.mono ?_
        rintro e w7 ⟨rfl, b7⟩
        have k8 := kZero.out w7 b7
        clear k7 kZero
        go_wp2_with fail
        refine k8.mono ?_
        rintro e w8 ⟨rfl, b8⟩
        have k9 := kF.out w8 b8
        clear k8 kF
        go_wp2_with fail
        refine k9.mono ?_
        rintro e w9 ⟨rfl, b9⟩
        have k10 := kL.out w9 b9
        clear k9 kL
        go_wp2_with fail
        refine k10.mono ?_
        rintro e w10 ⟨rfl, b10⟩
        have b11 := b4.trans (b10.mono b4.size)
        clear k10
        go_wp2
        all_goals first | exact ⟨rfl, b11⟩ | (go_ret; exact ⟨rfl, b11⟩)
  · obtain ⟨p, hp⟩ : ∃ p, N = p + 1 := ⟨N - 1, by omega⟩
    obtain ⟨hb, rfl, c0, c1⟩ := hends.out p hp
    have kYes : Hid (∀ W', Below w4.heap.size w4 W' → ∀ n, n < N → hb = hb ∧ ∃ ix : Nat, Calls Tryz.prog 55 #[.pointer (some ⟨q, 0, none⟩), .int .u64 (ix : Int)] W' (fun e w' => ∃ va vn vc va2 vn2 vc2 t, e = .returned (.tuple #[.slice va vn vc, .bool true]) ∧ Below w4.heap.size w4 w' ∧ (w'.drew.cell? ⟨hb, n * 2 + 1, none⟩ = some (.slice va2 vn2 vc2) ∧ (convert 32 9 (.slice va vn vc)).run Tryz.prog w'.drew = .ok (.string t) w'.drew ∧ (convert 32 9 (.slice va2 vn2 vc2)).run Tryz.prog w'.drew = .ok (.string t) w'.drew)) ∧ W'.cell? ⟨hb, n * 2, none⟩ = some (.int .u64 (ix : Int))) := fun W' hb' n hn => by
      obtain ⟨hb2, e, ix, k1, k2⟩ := kYes0.out W' hb' n hn
      cases e
      exact ⟨rfl, ix, k1, k2⟩
    have hwp : IntKind.i64.wrap ((N : Int) - 1) = (p : Int) := by
      rw [show (N : Int) - 1 = (p : Int) by omega]
      exact IntWalk.i64_in _ (by omega)
    have hpN : (p : Int) < (N : Int) := by omega
    have hN0 : (0 : Int) < (N : Int) := by omega
    have hpH : Hid (N = p + 1) := hp
    clear kYes0 hends hzero hp
    have y0 : w4.drew.cell? ⟨hb, 0, none⟩ = some (.int .u64 (F : Int)) ∧ w4.drew.cell? ⟨hb, p * 2, none⟩ = some (.int .u64 (L : Int)) := ⟨c0, c1⟩
    clear c0 c1
    go_wp2
    go_region_held3 (fun w' => w'.cell? ⟨hb, 0, none⟩ = some (.int .u64 (F : Int)) ∧ w'.cell? ⟨hb, p * 2, none⟩ = some (.int .u64 (L : Int)))
      (exact y0) (fail)
    clear y0
    go_wp2
    go_loopg [10] N (fun g s10 wx => ∃ n : Nat, n + g = N ∧ s10 = .int .i64 (n : Int) ∧ Below w4.heap.size w4 wx)
    case atStart => exact ⟨0, by simp, rfl, by first | exact Below.refl _ _ | exact (Below.refl _ _).drew⟩
    case round =>
      obtain ⟨n, hn, rfl, bx⟩ := hrel
      by_cases hnm : n < N
      · have hni : (n : Int) < (N : Int) := by omega
        obtain ⟨hr, ix, k6, yc⟩ := kYes.out wr bx n hnm
        clear hr
        clear kYes kNo kZero kF kL
        go_wp2_with fail
        refine k6.mono ?_
        rintro e w6 ⟨va, vn, vc, va2, vn2, vc2, t, rfl, b6, y0⟩
        clear k6 yc
        go_wp2
        go_region_held3 (fun w' => w'.cell? ⟨hb, n * 2 + 1, none⟩ = some (.slice va2 vn2 vc2) ∧ (convert 32 9 (.slice va vn vc)).run Tryz.prog w' = .ok (.string t) w' ∧ (convert 32 9 (.slice va2 vn2 vc2)).run Tryz.prog w' = .ok (.string t) w')
          (exact y0) (fail)
        go_wp2
        go_roundg (gk - 1)
        case measure => omega
        case rel => exact ⟨n + 1, by omega, by go_num, b6.drew⟩
      · have hnm' : n = N := by omega
        rw [hnm']
        have hNN : ¬ (N : Int) < (N : Int) := by omega
        clear kYes hnm hnm' hn
        have k7 := kNo.out wr bx
        clear kNo
        go_wp2_with fail
        refine k7.mono ?_
        rintro e w7 ⟨rfl, b7⟩
        have k8 := kZero.out w7 b7
        clear k7 kZero
        go_wp2_with fail
        refine k8.mono ?_
        rintro e w8 ⟨rfl, b8⟩
        have k9 := kF.out w8 b8
        clear k8 kF
        go_wp2_with fail
        refine k9.mono ?_
        rintro e w9 ⟨rfl, b9⟩
        have k10 := kL.out w9 b9
        clear k9 kL
        go_wp2_with fail
        refine k10.mono ?_
        rintro e w10 ⟨rfl, b10⟩
        have b11 := b4.trans (b10.mono b4.size)
        clear k10
        go_wp2
        all_goals first | exact ⟨rfl, b11⟩ | (go_ret; exact ⟨rfl, b11⟩)
end Go.Proofs.YtgfoogeiancecaaGreatDoor

