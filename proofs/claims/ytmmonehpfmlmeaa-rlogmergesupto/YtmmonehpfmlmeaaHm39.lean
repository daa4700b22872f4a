import Derived.Test.YtmmonehpfmlmeaaHm37
import Derived.Test.YtmmonehpfmlmeaaHm38
/- The contract of the document's Merge. -/
namespace Go.Proofs.Ytmmonehpfmlmeaa
open Go.RowKit QuorumMath RlogMath
set_option maxRecDepth 100000
set_option linter.unusedSimpArgs false
set_option linter.unusedVariables false

/-- A row of entries is not touched where a log's box is. -/
theorem rk_farT {w : World} {g i : Nat} {st : Value} {L : List Ez} {cs : Array Value} (h : Rk entE w 25 st L) (hg : w.heap[g]? = some (.cells cs 28 (0, 0))) (u : Value) : Rk entE (w.setCell ⟨g, i, none⟩ u) 25 st L := h.same fun k hk => by
  obtain ⟨cs', hc⟩ := h.block hk
  refine set_far (fun e => ?_) u
  rw [e, hc] at hg
  simp at hg
theorem rk_farT5 {w : World} {g : Nat} {st : Value} {L : List Ez} {cs : Array Value} (h : Rk entE w 25 st L) (hg : w.heap[g]? = some (.cells cs 28 (0, 0))) (x0 x1 x2 x3 x4 : Value) : Rk entE (((((w.setCell ⟨g, 0, none⟩ x0).setCell ⟨g, 1, none⟩ x1).setCell ⟨g, 2, none⟩ x2).setCell ⟨g, 3, none⟩ x3).setCell ⟨g, 4, none⟩ x4) 25 st L := by
  obtain ⟨_, g1⟩ := lg_stays hg 0 x0
  obtain ⟨_, g2⟩ := lg_stays g1 1 x1
  obtain ⟨_, g3⟩ := lg_stays g2 2 x2
  obtain ⟨_, g4⟩ := lg_stays g3 3 x3
  exact rk_farT (rk_farT (rk_farT (rk_farT (rk_farT h hg _) g1 _) g2 _) g3 _) g4 _
/-- Entries below an index. -/
def ltZ (x : Nat) (l : List Ez) : List Ez := l.filter fun z => decide (z.1.idx < x)
theorem ltZ_M (x : Nat) (l : List Ez) : mes (ltZ x l) = (mes l).filter fun e => decide (e.idx < x) := by
  unfold mes ltZ
  rw [List.filter_map]
  rfl
theorem ltZ_at {l : List Ez} {k : Nat} {z : Ez} (hz : l[k]? = some z) (x : Nat) : ltZ x (l.take (k + 1)) = if z.1.idx < x then ltZ x (l.take k) ++ [z] else ltZ x (l.take k) := by
  unfold ltZ
  rw [take_succ_get hz, List.filter_append]
  split <;> rename_i h
  · simp [h]
  · simp [h]
theorem ltZ_len (x : Nat) (l : List Ez) : (ltZ x l).length ≤ l.length := List.length_filter_le _ _

set_option maxHeartbeats 32000000 in
theorem rmerge_of (b : Ez) (zs : List Ez) (lv : Value) (x t : Nat) (ys : List Ez) (yv : Value) (w : World) (hD : DataV w b) (hL : EntsV w lv zs) (hY : EntsV w yv ys) (hbo : EzOk b) (hok : ∀ z ∈ zs, EzOk z) (hoy : ∀ z ∈ ys, EzOk z) (hx : x < 18446744073709551616) (hlen : zs.length ≤ 2000000) (hleny : ys.length ≤ 2000000) (hdl : b.1.data.length ≤ 1000000000) : Calls Try.prog 30 #[lgv b lv, .int .u64 (x : Int), .int .u64 (t : Int), yv] w fun e w' => Lg3T (mergeM b.1 (mes zs) x t (mes ys)) e w' ∧ Below w.heap.size w w' := by
  obtain ⟨R, HR⟩ : ∃ R, Hid (R = mergeM b.1 (mes zs) x t (mes ys)) := ⟨_, rfl⟩
  rw [← HR.out]
  obtain ⟨hs, hb0, cl⟩ := lg_box w b lv
  have kmH : Hid (∀ W, Below w.heap.size w W → _) := fun W hW => may_of b zs lv W (hD.below hW) (hL.below hW) hbo hok (by omega) hdl
  have kfH : Hid (∀ W, Below w.heap.size w W → _) := fun W hW => behind_of x t ys yv W (hY.below hW) hx hoy (by omega)
  have ktH : Hid (∀ W, Below w.heap.size w W → _) := fun W hW => rterm_of b zs lv x W (hL.below hW) (by omega)
  have HDZ : Hid (∀ z ∈ zs, ∀ W, Below w.heap.size w W → DataV W z) := fun z hz W hW => (hL.2 z hz).below hW
  have HDY : Hid (∀ z ∈ ys, ∀ W, Below w.heap.size w W → DataV W z) := fun z hz W hW => (hY.2 z hz).below hW
  have HDB : Hid (∀ W, Below w.heap.size w W → DataV W b) := fun W hW => hD.below hW
  have HYR : Hid (Rd entE w yv ys) := hY.1
  have HLR : Hid (Rd entE w lv zs) := hL.1
  obtain ⟨la, lc, rfl, hlc, -⟩ := hL.1.shape
  obtain ⟨ya, yc, rfl, hyc, -⟩ := hY.1.shape
  obtain ⟨q1, q2, q3⟩ := one_box (w.alloc (lgc b (.slice la zs.length lc))) (.cells #[.int .u64 0, .int .u64 0, .int .i64 0, .slice none 0 0, .slice none 0 0] 28)
  rw [hs] at q1 q2 q3
  have hb2 := hb0.trans (q3.mono (Nat.le_succ _))
  have km := kmH.out _ hb2
  have HN : Hid (mayB b.1 (mes zs) = false → R = _) := fun h => HR.out.trans (mrg_no h)
  have HBd : Hid (behB x t (mes ys) = false → R = _) := fun h => HR.out.trans (mrg_bad h)
  have HO : Hid (mayB b.1 (mes zs) = true → behB x t (mes ys) = true → x < b.1.idx → R = _) := fun h h2 h3 => HR.out.trans (mrg_old h h2 h3)
  have HG : Hid (mayB b.1 (mes zs) = true → behB x t (mes ys) = true → ¬ x < b.1.idx → ¬ termM b.1 (mes zs) x = some t → R = _) := fun h h2 h3 h4 => HR.out.trans (mrg_gap h h2 h3 h4)
  have HFo : Hid (mayB b.1 (mes zs) = true → behB x t (mes ys) = true → ¬ x < b.1.idx → termM b.1 (mes zs) x = some t → R = _) := fun h h2 h3 h4 => HR.out.trans (fold_all h h2 h3 h4)
  have HPL : Hid (mayB b.1 (mes zs) = true → termM b.1 (mes zs) x = some t → x ≤ 4611686018427392000) := fun h h2 => by
    have h3 := term_place h h2
    have h4 := may_last h
    omega
  have hml : (mes ys).length = ys.length := by simp [mes]
  rw [hml] at HFo
  clear hD hL hY hok hoy hbo HR kmH hml hdl
  generalize mayB b.1 (mes zs) = B at *
  generalize behB x t (mes ys) = BY at *
  generalize termM b.1 (mes zs) x = TM at *
  obtain ⟨⟨ix, tm, kd, dt⟩, sa, sn, sc⟩ := b
  dsimp only [lgc, lgv] at *
  obtain ⟨c0, c1, c2, c3, c4⟩ := cl _ q3
  go_enter Try.func30, Try.ntmps30
  go_wp2_with fail
  refine km.mono ?_
  rintro e w2 ⟨rfl, hb21⟩
  rw [q1] at hb21
  have q22 := (hb21.block (w.heap.size + 1) (by omega)).trans q2
  have hA2 := q3.trans (hb21.mono (by omega))
  have hbw2 := hb2.trans (hb21.mono (by omega))
  obtain ⟨c0, c1, c2, c3, c4⟩ := cl w2 hA2
  have hsz2 : w.heap.size + 2 ≤ w2.heap.size := by have := hb21.size; omega
  clear km q1 q2 q3 hb2 hb21
  cases B with
  | false =>
    have E : Hid (_ = _) := HN.out rfl
    clear HN HBd HO HG HFo HPL kfH ktH cl
    obtain ⟨⟨f0, f1, f2, f3, f4⟩, o0, o1, o2, o3, o4⟩ := lg_cells q22
    go_wp2
    (try simp only [Exit.inBlock, Exit.then])
    refine bodyPost_ret (results_lg3 rfl _ _ (w.heap.size + 1) _ _ _ _ _ rfl (lg_set q22 _ _ _ _ _)) rfl ?_
    exact ⟨lg3_none _ E.out, lg_set_below hbw2 (by omega) _ _ _ _ _⟩
  | true =>
    have kf := kfH.out w2 hbw2
    have HCLb : Hid (∀ W, Below (w.heap.size + 1) w2 W → _) := fun W hW => cl W (hA2.trans hW)
    clear HN kfH cl hA2
    go_wp2_with fail
    refine kf.mono ?_
    rintro e w3 ⟨rfl, hb32⟩
    have q33 := (hb32.block (w.heap.size + 1) (by omega)).trans q22
    have hbw3 := hbw2.trans (hb32.mono hbw2.size)
    have hA3 : Below (w.heap.size + 1) w2 w3 := hb32.mono (by omega)
    have hsz3 : w.heap.size + 2 ≤ w3.heap.size := by have := hb32.size; omega
    obtain ⟨c0, c1, c2, c3, c4⟩ := HCLb.out w3 hA3
    clear kf hb32 hbw2 q22
    cases BY with
    | false =>
      have E : Hid (_ = _) := HBd.out rfl
      clear HBd HO HG HFo HPL ktH HCLb
      obtain ⟨⟨f0, f1, f2, f3, f4⟩, o0, o1, o2, o3, o4⟩ := lg_cells q33
      go_wp2
      (try simp only [Exit.inBlock, Exit.then])
      refine bodyPost_ret (results_lg3 rfl _ _ (w.heap.size + 1) _ _ _ _ _ rfl (lg_set q33 _ _ _ _ _)) rfl ?_
      exact ⟨lg3_none _ E.out, lg_set_below hbw3 (by omega) _ _ _ _ _⟩
    | true =>
      by_cases hold : x < ix
      · have holdi : (x : Int) < (ix : Int) := by omega
        have E : Hid (_ = _) := HO.out (by trivial) (by trivial) hold
        clear HBd HO HG HFo HPL ktH HCLb
        obtain ⟨⟨f0, f1, f2, f3, f4⟩, o0, o1, o2, o3, o4⟩ := lg_cells q33
        go_wp2
        (try simp only [Exit.inBlock, Exit.then])
        refine bodyPost_ret (results_lg3 rfl _ _ (w.heap.size + 1) _ _ _ _ _ rfl (lg_set q33 _ _ _ _ _)) rfl ?_
        exact ⟨lg3_none _ E.out, lg_set_below hbw3 (by omega) _ _ _ _ _⟩
      · have holdi : ¬ (x : Int) < (ix : Int) := by omega
        have kt := ktH.out w3 hbw3
        clear ktH HO HBd
        go_wp2_with fail
        refine kt.mono ?_
        rintro e w4 ⟨rfl, hb43⟩
        have q44 := (hb43.block (w.heap.size + 1) (by omega)).trans q33
        have hbw4 := hbw3.trans (hb43.mono hbw3.size)
        have hA4 : Below (w.heap.size + 1) w2 w4 := hA3.trans (hb43.mono (by omega))
        have hsz4 : w.heap.size + 2 ≤ w4.heap.size := by have := hb43.size; omega
        obtain ⟨c0, c1, c2, c3, c4⟩ := HCLb.out w4 hA4
        clear kt hb43 hbw3 q33 hA3
        by_cases htm : TM = some t
        · subst htm
          have HRF : Hid (_ = _) := HFo.out (by trivial) (by trivial) hold rfl
          have hxl := HPL.out (by trivial) rfl
          obtain ⟨x9, hx9⟩ : ∃ x9, x9 = x + ys.length := ⟨_, rfl⟩
          have HX9 : Hid (x9 = x + ys.length) := hx9
          have hxa : IntKind.u64.wrap ((x : Int) + (ys.length : Int)) = (x9 : Int) := by rw [IntWalk.u64_in _ (by omega)]; omega
          have hyu : IntKind.u64.wrap (ys.length : Int) = (ys.length : Int) := IntWalk.u64_in _ (by omega)
          have HCL : Hid (∀ W, Below w4.heap.size w4 W → _) := fun W hW => HCLb.out W (hA4.trans (hW.mono (by omega)))
          have HLW : Hid (∀ W, Below w4.heap.size w4 W → Rd entE W (.slice la zs.length lc) zs) := fun W hW => HLR.out.below (hbw4.trans (hW.mono hbw4.size))
          have hzl9 : zs.length ≤ 10000000000 := by omega
          dsimp only [termV]
          clear HCLb HFo HPL HG hx9 hold hxl hA4
          go_wp2
          clear c0 c1 c2 c3 c4
          (try simp only [Exit.inBlock, Exit.then])
          refine wp_region_L (fun W => Below w4.heap.size w4 W) [] (by kernel_rfl) ?_
          have hS0 : (fun W => Below w4.heap.size w4 W) w4.drew := (Below.refl _ w4).drew
          generalize w4.drew = W0 at *
          refine wpAnyL_take 0 rfl (by kernel_rfl) (by kernel_rfl) (by kernel_rfl) (by kernel_rfl) (fun _ _ _ h => h) (by kernel_rfl) (by intro w' hS'; have hz := hS'; obtain ⟨c0, c1, c2, c3, c4⟩ := HCL.out _ hz; go_simp <;> rfl) hS0 ?_
          try simp only [List.getElem_toArray, List.getElem_cons_succ, List.getElem_cons_zero, Act.put, List.setIfInBounds_toArray, List.set_cons_zero, List.set_cons_succ]
          refine wpAnyL_take 1 rfl (by kernel_rfl) (by kernel_rfl) (by kernel_rfl) (by kernel_rfl) (fun _ _ _ h => h) (by kernel_rfl) (by intro w' hS'; have hz := hS'; obtain ⟨c0, c1, c2, c3, c4⟩ := HCL.out _ hz; go_simp <;> rfl) hS0 ?_
          try simp only [List.getElem_toArray, List.getElem_cons_succ, List.getElem_cons_zero, Act.put, List.setIfInBounds_toArray, List.set_cons_zero, List.set_cons_succ]
          refine wpAnyL_take 3 rfl (by kernel_rfl) (by kernel_rfl) (by kernel_rfl) (by kernel_rfl) (fun _ _ _ h => h) (by kernel_rfl) (by intro w' hS'; have hz := hS'; obtain ⟨c0, c1, c2, c3, c4⟩ := HCL.out _ hz; go_simp <;> rfl) hS0 ?_
          try simp only [List.getElem_toArray, List.getElem_cons_succ, List.getElem_cons_zero, Act.put, List.setIfInBounds_toArray, List.set_cons_zero, List.set_cons_succ]
          refine wpAnyL_take 4 rfl (by kernel_rfl) (by kernel_rfl) (by kernel_rfl) (by kernel_rfl) (fun _ _ _ h => h) (by kernel_rfl) (by intro w' hS'; have hz := hS'; obtain ⟨c0, c1, c2, c3, c4⟩ := HCL.out _ hz; go_simp <;> rfl) hS0 ?_
          try simp only [List.getElem_toArray, List.getElem_cons_succ, List.getElem_cons_zero, Act.put, List.setIfInBounds_toArray, List.set_cons_zero, List.set_cons_succ]
          refine wpAnyL_two 2 7 (by kernel_rfl) rfl rfl (by kernel_rfl) (by kernel_rfl) ?_ ?_
          · intro K' hK'
            go_simp
            have hS1 : (fun W => Below w4.heap.size w4 W) (W0.alloc (.cells #[] 25)) := hS0.alloc hS0.size _
            have R1 : Rk entE (W0.alloc (.cells #[] 25)) 25 (.slice (some ⟨W0.heap.size, 0, none⟩) 0 0) [] := Rk.made (E := entE) (xs := []) (heap_alloc_new _ _) rfl (by unfold maxLen; simp)
            have hv0 : w4.heap.size ≤ W0.heap.size := hS0.size
            refine hK'.out _ _ (.inr hS1) ?_
            clear hK' K'
            try simp only [List.getElem_toArray, List.getElem_cons_succ, List.getElem_cons_zero, Act.put, List.setIfInBounds_toArray, List.set_cons_zero, List.set_cons_succ]
            generalize W0.alloc (.cells #[] 25) = W1 at *
            refine wpAnyL_two 5 7 (by kernel_rfl) rfl rfl (by kernel_rfl) (by kernel_rfl) ?_ ?_
            · intro K' hK'
              have rH : Hid _ := app_ents R1 (HLW.out _ hS1) (by simp) hzl9
              refine op_by _ _ _ rfl _ _ rfl rfl rH.out ?_
              intro v9 W2 p2
              have hO9 : ∀ k, v9.ownBlock = some k → w4.heap.size ≤ k := fun k hk => by
                rcases p2.2.2 k hk with h | h
                · cases h; exact hv0
                · exact Nat.le_trans hS1.size h
              have hS2 : (fun W => Below w4.heap.size w4 W) W2 := hS1.trans (grown_below p2.2.1 hS1.size (fun k hk => by cases hk; exact hv0))
              have R2 := p2.1
              rw [List.nil_append] at R2
              obtain ⟨va9, vc9, hv9, -⟩ := R2.shape
              subst hv9
              clear rH p2
              refine hK'.out _ _ (.inr hS2) ?_
              clear hK' K'
              try simp only [List.getElem_toArray, List.getElem_cons_succ, List.getElem_cons_zero, Act.put, List.setIfInBounds_toArray, List.set_cons_zero, List.set_cons_succ]
              refine wpAnyL_take 6 rfl (by kernel_rfl) (by kernel_rfl) (by kernel_rfl) (by kernel_rfl) (fun _ _ _ h => h) (by kernel_rfl) (by intro w' hS'; have hz := hS'; obtain ⟨c0, c1, c2, c3, c4⟩ := HCL.out _ hz; go_simp <;> rfl) hS2 ?_
              try simp only [List.getElem_toArray, List.getElem_cons_succ, List.getElem_cons_zero, Act.put, List.setIfInBounds_toArray, List.set_cons_zero, List.set_cons_succ]
              refine wpAnyL_one 7 (by kernel_rfl) rfl (by kernel_rfl) ?_
              intro K' hK'
              go_simp
              have hS3 : (fun W => Below w4.heap.size w4 W) (W2.alloc (.cells #[.int .u64 0, .int .u64 0, .int .i64 0, .slice none 0 0, .slice none 0 0] 28)) := hS2.alloc hS2.size _
              have G3 : (W2.alloc (.cells #[.int .u64 0, .int .u64 0, .int .i64 0, .slice none 0 0, .slice none 0 0] 28)).heap[W2.heap.size]? = _ := heap_alloc_new _ _
              have hgg : w4.heap.size ≤ W2.heap.size := hS2.size
              have R3 := Rk.same (w' := W2.alloc (.cells #[.int .u64 0, .int .u64 0, .int .i64 0, .slice none 0 0, .slice none 0 0] 28)) R2 fun k hk => heap_alloc_old _ _ (R2.lt hk)
              refine hK'.out _ _ (.inr hS3) ?_
              clear hK' K'
              try simp only [List.getElem_toArray, List.getElem_cons_succ, List.getElem_cons_zero, Act.put, List.setIfInBounds_toArray, List.set_cons_zero, List.set_cons_succ]
              generalize W2.alloc (.cells #[.int .u64 0, .int .u64 0, .int .i64 0, .slice none 0 0, .slice none 0 0] 28) = W3 at *
              refine wpAnyL_one 8 (by kernel_rfl) rfl (by kernel_rfl) ?_
              intro K' hK'
              go_simp
              obtain ⟨⟨f0, f1, f2, f3, f4⟩, o0, o1, o2, o3, o4⟩ := lg_cells G3
              have hS9 : (fun W => Below w4.heap.size w4 W) _ := lg_set_below hS3 (g := W2.heap.size) hgg (.int .u64 (ix : Int)) (.int .u64 (tm : Int)) (.int .i64 kd) (.slice sa sn sc) (.slice va9 zs.length vc9)
              have HF := lg_set G3 (.int .u64 (ix : Int)) (.int .u64 (tm : Int)) (.int .i64 kd) (.slice sa sn sc) (.slice va9 zs.length vc9)
              have O9 := rk_farT5 (g := W2.heap.size) R3 G3 (.int .u64 (ix : Int)) (.int .u64 (tm : Int)) (.int .i64 kd) (.slice sa sn sc) (.slice va9 zs.length vc9)
              go_simp
              refine hK'.out _ _ (.inr hS9) ?_
              clear hK' K'
              try simp only [List.getElem_toArray, List.getElem_cons_succ, List.getElem_cons_zero, Act.put, List.setIfInBounds_toArray, List.set_cons_zero, List.set_cons_succ]
              refine wpAnyL_done (by kernel_rfl) (NoPanic.normal ?_) _
              generalize (((((W3.setCell ⟨W2.heap.size, 0, none⟩ (.int .u64 (ix : Int))).setCell ⟨W2.heap.size, 1, none⟩ (.int .u64 (tm : Int))).setCell ⟨W2.heap.size, 2, none⟩ (.int .i64 kd)).setCell ⟨W2.heap.size, 3, none⟩ (.slice sa sn sc)).setCell ⟨W2.heap.size, 4, none⟩ (.slice va9 zs.length vc9)) = w9 at *
              generalize W2.heap.size = g9 at *
              clear G3 R3 f0 f1 f2 f3 f4 o0 o1 o2 o3 o4 HLW
              have hO9w : Ow entE 25 w4.heap.size w9 (.slice va9 zs.length vc9) zs := ⟨O9, hO9⟩
              clear O9 hO9
              go_wp2
              go_loopg [14, 15, 16, 17, 18] ys.length (fun gh s s15 s16 s17 s18 wr => ∃ (i : Nat) (st : Value) (OZ : List Ez), i + gh = ys.length ∧ s = .int .i64 (i : Int) ∧ wr.heap[g9]? = some (.cells #[.int .u64 (ix : Int), .int .u64 (tm : Int), .int .i64 kd, .slice sa sn sc, st] 28 (0, 0)) ∧ Ow entE 25 w4.heap.size wr st OZ ∧ Hid (mes OZ = ((mes ys).take i).foldl (stepM ⟨ix, tm, kd, dt⟩) (mes zs)) ∧ Hid (∀ z ∈ OZ, z ∈ zs ∨ z ∈ ys) ∧ Below w4.heap.size w4 wr)
              case atStart => exact ⟨0, _, zs, by simp, rfl, HF, hO9w, by rw [List.take_zero]; exact rfl, fun z hz => .inl hz, hS9⟩
              case round =>
                obtain ⟨i, st, OZ, hig, rfl, hG, hO, HM, HZI, hb⟩ := hrel
                obtain ⟨go, hgo⟩ : ∃ go, go = gk := ⟨_, rfl⟩
                clear hO9w HF hS9
                have hglt : g9 < wr.heap.size := (Array.getElem?_eq_some_iff.1 hG).1
                have hlO : OZ.length ≤ 8000000 := by
                  have h1 := congrArg List.length HM.out
                  have h2 := fold_len (b := ⟨ix, tm, kd, dt⟩) ((mes ys).take i) (mes zs)
                  simp only [mes, List.length_map, List.length_take] at h1 h2
                  omega
                by_cases hlt : i < ys.length
                · have hlti : (i : Int) < (ys.length : Int) := by omega
                  have hz : ys[i]? = some ys[i] := List.getElem?_eq_getElem hlt
                  obtain ⟨z, hzz⟩ : ∃ z, z = ys[i] := ⟨_, rfl⟩
                  rw [← hzz] at hz
                  clear hzz
                  obtain ⟨p, off, rfl, c⟩ := rde_at HYR.out hz
                  have HZ : Hid (∀ W, Below wr.heap.size wr W → _) := fun W hW => c W (hbw4.trans ((hb.trans (hW.mono hb.size)).mono hbw4.size))
                  have hE : EntsV wr st OZ := ⟨hO.1.rd, fun y hy => (HZI.out y hy).elim (fun h => HDZ.out y h wr (hbw4.trans (hb.mono hbw4.size))) (fun h => HDY.out y h wr (hbw4.trans (hb.mono hbw4.size)))⟩
                  have KTe : Hid (∀ W, Below wr.heap.size wr W → _) := fun W hW => rterm_of (⟨ix, tm, kd, dt⟩, sa, sn, sc) OZ st z.1.idx W (hE.below hW) (by omega)
                  have HM5 : Hid (((mes ys).take (i + 1)).foldl (stepM ⟨ix, tm, kd, dt⟩) (mes zs) = stepM ⟨ix, tm, kd, dt⟩ (mes OZ) z.1) := by
                    show _ = _
                    rw [take_succ_get (mes_at hz), List.foldl_append, ← HM.out]
                    rfl
                  have HYES : Hid (termM ⟨ix, tm, kd, dt⟩ (mes OZ) z.1.idx = some z.1.term → Hid (mes OZ = ((mes ys).take (i + 1)).foldl (stepM ⟨ix, tm, kd, dt⟩) (mes zs))) := fun h => by
                    show _ = _
                    rw [HM5.out]
                    unfold stepM
                    rw [if_pos h]
                  have HNO : Hid (¬ termM ⟨ix, tm, kd, dt⟩ (mes OZ) z.1.idx = some z.1.term → Hid (mes (ltZ z.1.idx OZ ++ [z]) = ((mes ys).take (i + 1)).foldl (stepM ⟨ix, tm, kd, dt⟩) (mes zs))) := fun h => by
                    show _ = _
                    rw [HM5.out]
                    unfold stepM
                    rw [if_neg h]
                    show List.map _ _ = _
                    rw [List.map_append, ← ltZ_M]
                    rfl
                  have HZ6 : Hid (∀ y ∈ ltZ z.1.idx OZ ++ [z], y ∈ zs ∨ y ∈ ys) := fun y hy => by
                    rw [List.mem_append, List.mem_singleton] at hy
                    rcases hy with hy | rfl
                    · exact HZI.out y (List.mem_filter.1 hy).1
                    · exact .inr (List.mem_of_getElem? hz)
                  obtain ⟨⟨ix2, tm2, kd2, dt2⟩, sa2, sn2, sc2⟩ := z
                  dsimp only [lgv] at *
                  generalize hTT : termM ⟨ix, tm, kd, dt⟩ (mes OZ) ix2 = TT at *
                  clear hTT hz c HM5 hE HM
                  obtain ⟨sta0, stc0, hst0, -⟩ := hO.1.shape
                  by_cases hTy : TT = some tm2
                  · have HM6 := HYES.out hTy
                    subst hTy
                    clear HNO HYES HZ6
                    subst hst0
                    go_wp2
                    (try simp only [Exit.inBlock, Exit.then])
                    refine wp_region_L (fun W => Below wr.heap.size wr W) [] (by kernel_rfl) ?_
                    have hS0 : (fun W => Below wr.heap.size wr W) wr.drew := (Below.refl _ wr).drew
                    generalize wr.drew = W0 at *
                    refine wpAnyL_take 0 rfl (by kernel_rfl) (by kernel_rfl) (by kernel_rfl) (by kernel_rfl) (fun _ _ _ h => h) (by kernel_rfl) (by intro w' hS'; have hz := hS'; obtain ⟨-, a0, a1, a2, a3, a4⟩ := lg_cells ((hz.block g9 hglt).trans hG); obtain ⟨z0, z1, z2, z3⟩ := HZ.out _ hz; go_simp <;> rfl) hS0 ?_
                    try simp only [List.getElem_toArray, List.getElem_cons_succ, List.getElem_cons_zero, Act.put, List.setIfInBounds_toArray, List.set_cons_zero, List.set_cons_succ]
                    refine wpAnyL_take 1 rfl (by kernel_rfl) (by kernel_rfl) (by kernel_rfl) (by kernel_rfl) (fun _ _ _ h => h) (by kernel_rfl) (by intro w' hS'; have hz := hS'; obtain ⟨-, a0, a1, a2, a3, a4⟩ := lg_cells ((hz.block g9 hglt).trans hG); obtain ⟨z0, z1, z2, z3⟩ := HZ.out _ hz; go_simp <;> rfl) hS0 ?_
                    try simp only [List.getElem_toArray, List.getElem_cons_succ, List.getElem_cons_zero, Act.put, List.setIfInBounds_toArray, List.set_cons_zero, List.set_cons_succ]
                    refine wpAnyL_take 2 rfl (by kernel_rfl) (by kernel_rfl) (by kernel_rfl) (by kernel_rfl) (fun _ _ _ h => h) (by kernel_rfl) (by intro w' hS'; have hz := hS'; obtain ⟨-, a0, a1, a2, a3, a4⟩ := lg_cells ((hz.block g9 hglt).trans hG); obtain ⟨z0, z1, z2, z3⟩ := HZ.out _ hz; go_simp <;> rfl) hS0 ?_
                    try simp only [List.getElem_toArray, List.getElem_cons_succ, List.getElem_cons_zero, Act.put, List.setIfInBounds_toArray, List.set_cons_zero, List.set_cons_succ]
                    refine wpAnyL_take 3 rfl (by kernel_rfl) (by kernel_rfl) (by kernel_rfl) (by kernel_rfl) (fun _ _ _ h => h) (by kernel_rfl) (by intro w' hS'; have hz := hS'; obtain ⟨-, a0, a1, a2, a3, a4⟩ := lg_cells ((hz.block g9 hglt).trans hG); obtain ⟨z0, z1, z2, z3⟩ := HZ.out _ hz; go_simp <;> rfl) hS0 ?_
                    try simp only [List.getElem_toArray, List.getElem_cons_succ, List.getElem_cons_zero, Act.put, List.setIfInBounds_toArray, List.set_cons_zero, List.set_cons_succ]
                    refine wpAnyL_take 4 rfl (by kernel_rfl) (by kernel_rfl) (by kernel_rfl) (by kernel_rfl) (fun _ _ _ h => h) (by kernel_rfl) (by intro w' hS'; have hz := hS'; obtain ⟨-, a0, a1, a2, a3, a4⟩ := lg_cells ((hz.block g9 hglt).trans hG); obtain ⟨z0, z1, z2, z3⟩ := HZ.out _ hz; go_simp <;> rfl) hS0 ?_
                    try simp only [List.getElem_toArray, List.getElem_cons_succ, List.getElem_cons_zero, Act.put, List.setIfInBounds_toArray, List.set_cons_zero, List.set_cons_succ]
                    refine wpAnyL_take 5 rfl (by kernel_rfl) (by kernel_rfl) (by kernel_rfl) (by kernel_rfl) (fun _ _ _ h => h) (by kernel_rfl) (by intro w' hS'; have hz := hS'; obtain ⟨-, a0, a1, a2, a3, a4⟩ := lg_cells ((hz.block g9 hglt).trans hG); obtain ⟨z0, z1, z2, z3⟩ := HZ.out _ hz; go_simp <;> rfl) hS0 ?_
                    try simp only [List.getElem_toArray, List.getElem_cons_succ, List.getElem_cons_zero, Act.put, List.setIfInBounds_toArray, List.set_cons_zero, List.set_cons_succ]
                    refine wpAnyL_one 6 (by kernel_rfl) rfl (by kernel_rfl) ?_
                    intro K' hK'
                    go_simp
                    go_at_call 17
                    refine (KTe.out _ hS0).mono ?_
                    rintro e w12 ⟨rfl, hb1⟩
                    have hS1 : (fun W => Below wr.heap.size wr W) w12 := keep_on hS0 hb1
                    dsimp only [termV]
                    refine hK'.out _ _ (.inr hS1) ?_
                    clear hK' K'
                    try simp only [List.getElem_toArray, List.getElem_cons_succ, List.getElem_cons_zero, Act.put, List.setIfInBounds_toArray, List.set_cons_zero, List.set_cons_succ]
                    refine wpAnyL_take 7 rfl (by kernel_rfl) (by kernel_rfl) (by kernel_rfl) (by kernel_rfl) (fun _ _ _ h => h) (by kernel_rfl) (by intro w' hS'; have hz := hS'; obtain ⟨-, a0, a1, a2, a3, a4⟩ := lg_cells ((hz.block g9 hglt).trans hG); obtain ⟨z0, z1, z2, z3⟩ := HZ.out _ hz; go_simp <;> rfl) hS1 ?_
                    try simp only [List.getElem_toArray, List.getElem_cons_succ, List.getElem_cons_zero, Act.put, List.setIfInBounds_toArray, List.set_cons_zero, List.set_cons_succ]
                    refine wpAnyL_take 8 rfl (by kernel_rfl) (by kernel_rfl) (by kernel_rfl) (by kernel_rfl) (fun _ _ _ h => h) (by kernel_rfl) (by intro w' hS'; have hz := hS'; obtain ⟨-, a0, a1, a2, a3, a4⟩ := lg_cells ((hz.block g9 hglt).trans hG); obtain ⟨z0, z1, z2, z3⟩ := HZ.out _ hz; go_simp <;> rfl) hS1 ?_
                    try simp only [List.getElem_toArray, List.getElem_cons_succ, List.getElem_cons_zero, Act.put, List.setIfInBounds_toArray, List.set_cons_zero, List.set_cons_succ]
                    refine wpAnyL_take 9 rfl (by kernel_rfl) (by kernel_rfl) (by kernel_rfl) (by kernel_rfl) (fun _ _ _ h => h) (by kernel_rfl) (by intro w' hS'; have hz := hS'; obtain ⟨-, a0, a1, a2, a3, a4⟩ := lg_cells ((hz.block g9 hglt).trans hG); obtain ⟨z0, z1, z2, z3⟩ := HZ.out _ hz; go_simp <;> rfl) hS1 ?_
                    try simp only [List.getElem_toArray, List.getElem_cons_succ, List.getElem_cons_zero, Act.put, List.setIfInBounds_toArray, List.set_cons_zero, List.set_cons_succ]
                    refine wpAnyL_take 10 rfl (by kernel_rfl) (by kernel_rfl) (by kernel_rfl) (by kernel_rfl) (fun _ _ _ h => h) (by kernel_rfl) (by intro w' hS'; have hz := hS'; obtain ⟨-, a0, a1, a2, a3, a4⟩ := lg_cells ((hz.block g9 hglt).trans hG); obtain ⟨z0, z1, z2, z3⟩ := HZ.out _ hz; go_simp <;> rfl) hS1 ?_
                    try simp only [List.getElem_toArray, List.getElem_cons_succ, List.getElem_cons_zero, Act.put, List.setIfInBounds_toArray, List.set_cons_zero, List.set_cons_succ]
                    refine wpAnyL_take 11 rfl (by kernel_rfl) (by kernel_rfl) (by kernel_rfl) (by kernel_rfl) (fun _ _ _ h => h) (by kernel_rfl) (by intro w' hS'; have hz := hS'; obtain ⟨-, a0, a1, a2, a3, a4⟩ := lg_cells ((hz.block g9 hglt).trans hG); obtain ⟨z0, z1, z2, z3⟩ := HZ.out _ hz; go_simp <;> rfl) hS1 ?_
                    try simp only [List.getElem_toArray, List.getElem_cons_succ, List.getElem_cons_zero, Act.put, List.setIfInBounds_toArray, List.set_cons_zero, List.set_cons_succ]
                    refine wpAnyL_done (by kernel_rfl) (NoPanic.normal ?_) _
                    obtain ⟨z0, z1, z2, z3⟩ := HZ.out _ hS1
                    have hG12 := (hS1.block g9 hglt).trans hG
                    have hO12 := hO.below hS1
                    have hb12 := hb.trans (hS1.mono hb.size)
                    clear HZ KTe hG hO
                    go_wp2
                    go_roundg (go - 1)
                    case measure => omega
                    case rel => exact ⟨i + 1, _, OZ, by omega, by go_num, hG12, hO12, HM6, HZI, hb12⟩
                  · have HM6 := HNO.out hTy
                    clear HNO HYES
                    cases TT with
                    | none =>
                      clear hTy
                      subst hst0
                      go_wp2
                      (try simp only [Exit.inBlock, Exit.then])
                      refine wp_region_L (fun W => Below wr.heap.size wr W) [] (by kernel_rfl) ?_
                      have hS0 : (fun W => Below wr.heap.size wr W) wr.drew := (Below.refl _ wr).drew
                      generalize wr.drew = W0 at *
                      refine wpAnyL_take 0 rfl (by kernel_rfl) (by kernel_rfl) (by kernel_rfl) (by kernel_rfl) (fun _ _ _ h => h) (by kernel_rfl) (by intro w' hS'; have hz := hS'; obtain ⟨-, a0, a1, a2, a3, a4⟩ := lg_cells ((hz.block g9 hglt).trans hG); obtain ⟨z0, z1, z2, z3⟩ := HZ.out _ hz; go_simp <;> rfl) hS0 ?_
                      try simp only [List.getElem_toArray, List.getElem_cons_succ, List.getElem_cons_zero, Act.put, List.setIfInBounds_toArray, List.set_cons_zero, List.set_cons_succ]
                      refine wpAnyL_take 1 rfl (by kernel_rfl) (by kernel_rfl) (by kernel_rfl) (by kernel_rfl) (fun _ _ _ h => h) (by kernel_rfl) (by intro w' hS'; have hz := hS'; obtain ⟨-, a0, a1, a2, a3, a4⟩ := lg_cells ((hz.block g9 hglt).trans hG); obtain ⟨z0, z1, z2, z3⟩ := HZ.out _ hz; go_simp <;> rfl) hS0 ?_
                      try simp only [List.getElem_toArray, List.getElem_cons_succ, List.getElem_cons_zero, Act.put, List.setIfInBounds_toArray, List.set_cons_zero, List.set_cons_succ]
                      refine wpAnyL_take 2 rfl (by kernel_rfl) (by kernel_rfl) (by kernel_rfl) (by kernel_rfl) (fun _ _ _ h => h) (by kernel_rfl) (by intro w' hS'; have hz := hS'; obtain ⟨-, a0, a1, a2, a3, a4⟩ := lg_cells ((hz.block g9 hglt).trans hG); obtain ⟨z0, z1, z2, z3⟩ := HZ.out _ hz; go_simp <;> rfl) hS0 ?_
                      try simp only [List.getElem_toArray, List.getElem_cons_succ, List.getElem_cons_zero, Act.put, List.setIfInBounds_toArray, List.set_cons_zero, List.set_cons_succ]
                      refine wpAnyL_take 3 rfl (by kernel_rfl) (by kernel_rfl) (by kernel_rfl) (by kernel_rfl) (fun _ _ _ h => h) (by kernel_rfl) (by intro w' hS'; have hz := hS'; obtain ⟨-, a0, a1, a2, a3, a4⟩ := lg_cells ((hz.block g9 hglt).trans hG); obtain ⟨z0, z1, z2, z3⟩ := HZ.out _ hz; go_simp <;> rfl) hS0 ?_
                      try simp only [List.getElem_toArray, List.getElem_cons_succ, List.getElem_cons_zero, Act.put, List.setIfInBounds_toArray, List.set_cons_zero, List.set_cons_succ]
                      refine wpAnyL_take 4 rfl (by kernel_rfl) (by kernel_rfl) (by kernel_rfl) (by kernel_rfl) (fun _ _ _ h => h) (by kernel_rfl) (by intro w' hS'; have hz := hS'; obtain ⟨-, a0, a1, a2, a3, a4⟩ := lg_cells ((hz.block g9 hglt).trans hG); obtain ⟨z0, z1, z2, z3⟩ := HZ.out _ hz; go_simp <;> rfl) hS0 ?_
                      try simp only [List.getElem_toArray, List.getElem_cons_succ, List.getElem_cons_zero, Act.put, List.setIfInBounds_toArray, List.set_cons_zero, List.set_cons_succ]
                      refine wpAnyL_take 5 rfl (by kernel_rfl) (by kernel_rfl) (by kernel_rfl) (by kernel_rfl) (fun _ _ _ h => h) (by kernel_rfl) (by intro w' hS'; have hz := hS'; obtain ⟨-, a0, a1, a2, a3, a4⟩ := lg_cells ((hz.block g9 hglt).trans hG); obtain ⟨z0, z1, z2, z3⟩ := HZ.out _ hz; go_simp <;> rfl) hS0 ?_
                      try simp only [List.getElem_toArray, List.getElem_cons_succ, List.getElem_cons_zero, Act.put, List.setIfInBounds_toArray, List.set_cons_zero, List.set_cons_succ]
                      refine wpAnyL_one 6 (by kernel_rfl) rfl (by kernel_rfl) ?_
                      intro K' hK'
                      go_simp
                      go_at_call 17
                      refine (KTe.out _ hS0).mono ?_
                      rintro e w12 ⟨rfl, hb1⟩
                      have hS1 : (fun W => Below wr.heap.size wr W) w12 := keep_on hS0 hb1
                      dsimp only [termV]
                      refine hK'.out _ _ (.inr hS1) ?_
                      clear hK' K'
                      try simp only [List.getElem_toArray, List.getElem_cons_succ, List.getElem_cons_zero, Act.put, List.setIfInBounds_toArray, List.set_cons_zero, List.set_cons_succ]
                      refine wpAnyL_take 7 rfl (by kernel_rfl) (by kernel_rfl) (by kernel_rfl) (by kernel_rfl) (fun _ _ _ h => h) (by kernel_rfl) (by intro w' hS'; have hz := hS'; obtain ⟨-, a0, a1, a2, a3, a4⟩ := lg_cells ((hz.block g9 hglt).trans hG); obtain ⟨z0, z1, z2, z3⟩ := HZ.out _ hz; go_simp <;> rfl) hS1 ?_
                      try simp only [List.getElem_toArray, List.getElem_cons_succ, List.getElem_cons_zero, Act.put, List.setIfInBounds_toArray, List.set_cons_zero, List.set_cons_succ]
                      refine wpAnyL_take 8 rfl (by kernel_rfl) (by kernel_rfl) (by kernel_rfl) (by kernel_rfl) (fun _ _ _ h => h) (by kernel_rfl) (by intro w' hS'; have hz := hS'; obtain ⟨-, a0, a1, a2, a3, a4⟩ := lg_cells ((hz.block g9 hglt).trans hG); obtain ⟨z0, z1, z2, z3⟩ := HZ.out _ hz; go_simp <;> rfl) hS1 ?_
                      try simp only [List.getElem_toArray, List.getElem_cons_succ, List.getElem_cons_zero, Act.put, List.setIfInBounds_toArray, List.set_cons_zero, List.set_cons_succ]
                      refine wpAnyL_take 9 rfl (by kernel_rfl) (by kernel_rfl) (by kernel_rfl) (by kernel_rfl) (fun _ _ _ h => h) (by kernel_rfl) (by intro w' hS'; have hz := hS'; obtain ⟨-, a0, a1, a2, a3, a4⟩ := lg_cells ((hz.block g9 hglt).trans hG); obtain ⟨z0, z1, z2, z3⟩ := HZ.out _ hz; go_simp <;> rfl) hS1 ?_
                      try simp only [List.getElem_toArray, List.getElem_cons_succ, List.getElem_cons_zero, Act.put, List.setIfInBounds_toArray, List.set_cons_zero, List.set_cons_succ]
                      refine wpAnyL_take 10 rfl (by kernel_rfl) (by kernel_rfl) (by kernel_rfl) (by kernel_rfl) (fun _ _ _ h => h) (by kernel_rfl) (by intro w' hS'; have hz := hS'; obtain ⟨-, a0, a1, a2, a3, a4⟩ := lg_cells ((hz.block g9 hglt).trans hG); obtain ⟨z0, z1, z2, z3⟩ := HZ.out _ hz; go_simp <;> rfl) hS1 ?_
                      try simp only [List.getElem_toArray, List.getElem_cons_succ, List.getElem_cons_zero, Act.put, List.setIfInBounds_toArray, List.set_cons_zero, List.set_cons_succ]
                      refine wpAnyL_take 11 rfl (by kernel_rfl) (by kernel_rfl) (by kernel_rfl) (by kernel_rfl) (fun _ _ _ h => h) (by kernel_rfl) (by intro w' hS'; have hz := hS'; obtain ⟨-, a0, a1, a2, a3, a4⟩ := lg_cells ((hz.block g9 hglt).trans hG); obtain ⟨z0, z1, z2, z3⟩ := HZ.out _ hz; go_simp <;> rfl) hS1 ?_
                      try simp only [List.getElem_toArray, List.getElem_cons_succ, List.getElem_cons_zero, Act.put, List.setIfInBounds_toArray, List.set_cons_zero, List.set_cons_succ]
                      refine wpAnyL_done (by kernel_rfl) (NoPanic.normal ?_) _
                      clear KTe
                      have hG12 := (hS1.block g9 hglt).trans hG
                      have hO12 := hO.below hS1
                      have hb12 := hb.trans (hS1.mono hb.size)
                      have HZ2 : Hid (∀ W, Below w12.heap.size w12 W → _) := fun W hW => HZ.out W (hS1.trans (hW.mono hS1.size))
                      have hg12 : g9 < w12.heap.size := Nat.lt_of_lt_of_le hglt hS1.size
                      obtain ⟨q1, q2, q3⟩ := one_box w12 (.cells #[] 25)
                      have hK0 : Ow entE 25 w12.heap.size (w12.alloc (.cells #[] 25)) (.slice (some ⟨w12.heap.size, 0, none⟩) 0 0) (ltZ ix2 (OZ.take 0)) := ⟨by rw [List.take_zero]; exact Rk.made (E := entE) (xs := []) q2 rfl (by unfold maxLen; simp), fun k hk => by cases hk; exact Nat.le_refl _⟩
                      obtain ⟨z0, z1, z2, z3⟩ := HZ2.out _ (Below.refl _ _)
                      clear q1 q2 hG hO HZ
                      go_wp2
                      generalize w12.alloc (.cells #[] 25) = w13 at *
                      clear z0 z1 z2 z3
                      go_loopg [17, 18] OZ.length (fun gh s17 s18 wr => ∃ (k : Nat) (kst : Value), k + gh = OZ.length ∧ s18 = .int .i64 (k : Int) ∧ kst = s17 ∧ Ow entE 25 w12.heap.size wr kst (ltZ ix2 (OZ.take k)) ∧ Below w12.heap.size w12 wr)
                      case atStart => exact ⟨0, _, by simp, rfl, rfl, hK0, q3⟩
                      case round =>
                        obtain ⟨k, kst, hkg, rfl, rfl, hKo, hbk⟩ := hrel
                        clear hK0 q3
                        have hGk := (hbk.block g9 hg12).trans hG12
                        obtain ⟨⟨f0, f1, f2, f3, f4⟩, o0, o1, o2, o3, o4⟩ := lg_cells hGk
                        obtain ⟨z0, z1, z2, z3⟩ := HZ2.out _ hbk
                        have hlz : (ltZ ix2 (OZ.take k)).length ≤ 10000000000 := by
                          have h1 := ltZ_len ix2 (OZ.take k)
                          have h2 : (OZ.take k).length ≤ OZ.length := by rw [List.length_take]; omega
                          omega
                        obtain ⟨ka9, kc9, hkst, -⟩ := hKo.1.shape
                        by_cases hlk : k < OZ.length
                        · have hlki : (k : Int) < (OZ.length : Int) := by omega
                          have hy : OZ[k]? = some OZ[k] := List.getElem?_eq_getElem hlk
                          obtain ⟨y, hyy⟩ : ∃ y, y = OZ[k] := ⟨_, rfl⟩
                          rw [← hyy] at hy
                          clear hyy
                          obtain ⟨py, poff, rfl, cy⟩ := rde_at hO12.1.rd hy
                          obtain ⟨y0, y1, y2, y3⟩ := cy wr hbk
                          have HKS := ltZ_at hy ix2
                          have hrunH : Hid _ := push_ent y hKo.1 hlz
                          obtain ⟨⟨iy, ty, ky, dy⟩, say, sny, scy⟩ := y
                          dsimp only at y0 y1 y2 y3 HKS hrunH
                          by_cases hlt2 : iy < ix2
                          · have hlt2i : (iy : Int) < (ix2 : Int) := by omega
                            have hlt2d : decide (iy < ix2) = true := by simpa using hlt2
                            rw [if_pos hlt2] at HKS
                            have HKH : Hid (_ = _) := HKS
                            clear HKS cy hy hlt2
                            generalize ltZ ix2 (OZ.take k) = LK at *
                            subst hkst
                            go_wp2
                            go_quiet (fail)
                            have hKq := hKo.below (below_dN (Below.refl _ wr) nq)
                            have hbq : Below w12.heap.size w12 (wr.drewN nq) := below_dN hbk nq
                            have hrunH2 : Hid _ := push_ent (⟨iy, ty, ky, dy⟩, say, sny, scy) hKq.1 hlz
                            dsimp only at hrunH2
                            have hGq := (hbq.block g9 hg12).trans hG12
                            obtain ⟨-, r0, r1, r2, r3, r4⟩ := lg_cells hGq
                            have YQ : (wr.drewN nq).cell? ⟨py, poff + k * 4, none⟩ = some (.int .u64 (iy : Int)) ∧ (wr.drewN nq).cell? ⟨py, poff + k * 4 + 1, none⟩ = some (.int .u64 (ty : Int)) ∧ (wr.drewN nq).cell? ⟨py, poff + k * 4 + 2, none⟩ = some (.int .i64 ky) ∧ (wr.drewN nq).cell? ⟨py, poff + k * 4 + 3, none⟩ = some (.slice say sny scy) := ⟨y0, y1, y2, y3⟩
                            clear hKo hbk hrunH f0 f1 f2 f3 f4 o0 o1 o2 o3 o4 y0 y1 y2 y3 z0 z1 z2 z3 hGk
                            generalize wr.drewN nq = wr at *
                            obtain ⟨y0, y1, y2, y3⟩ := YQ
                            go_wp2_with (at_builtin; refine wp_by rfl _ _ _ rfl _ _ rfl rfl hrunH2.out ?_)
                            intro v6 w6 hp6
                            obtain ⟨hO6, hb6⟩ := hKq.push hbq.size hp6
                            rw [← HKH.out] at hO6
                            clear hp6 hrunH2 hKq HKH
                            go_wp2
                            go_roundg (gk - 1)
                            case measure => omega
                            case rel => exact ⟨k + 1, v6, by omega, by go_num, rfl, hO6, hbq.trans hb6⟩
                          · have hlt2i : ¬ (iy : Int) < (ix2 : Int) := by omega
                            have hlt2d : decide (iy < ix2) = false := by simpa using hlt2
                            rw [if_neg hlt2] at HKS
                            have HKH : Hid (_ = _) := HKS
                            clear HKS cy hy hlt2 hrunH
                            subst hkst
                            go_wp2
                            go_quiet (fail)
                            go_wp2
                            go_roundg (gk - 1)
                            case measure => omega
                            case rel => exact ⟨k + 1, _, by omega, by go_num, rfl, by rw [HKH.out]; exact hKo.below (below_dN (Below.refl _ wr) nq), below_dN hbk nq⟩
                        · have hlki : ¬ (k : Int) < (OZ.length : Int) := by omega
                          rw [List.take_of_length_le (by omega)] at hKo hkst hlz
                          have hrunH : Hid _ := push_ent (⟨ix2, tm2, kd2, dt2⟩, sa2, sn2, sc2) hKo.1 hlz
                          dsimp only at hrunH
                          generalize ltZ ix2 OZ = LK at *
                          subst hkst
                          clear hO12
                          go_wp2_with (at_builtin; refine wp_by rfl _ _ _ rfl _ _ rfl rfl hrunH.out ?_)
                          intro v6 w6 hp6
                          obtain ⟨hO6, hb6⟩ := hKo.push hbk.size hp6
                          have hb126 := hbk.trans hb6
                          have hG6 := (hb126.block g9 hg12).trans hG12
                          obtain ⟨⟨g0, g1, g2, g3, g4⟩, r0, r1, r2, r3, r4⟩ := lg_cells hG6
                          clear hp6 hrunH hKo f0 f1 f2 f3 f4 o0 o1 o2 o3 o4 z0 z1 z2 z3 hGk hbk hb6 hG12
                          generalize LK ++ [((⟨ix2, tm2, kd2, dt2⟩, sa2, sn2, sc2) : Ez)] = L6 at *
                          obtain ⟨va6, vc6, hv6, -⟩ := hO6.1.shape
                          generalize hn6 : L6.length = n6 at hv6
                          subst hv6
                          have hGf := lg_set4 hG6 (.slice va6 n6 vc6)
                          have hOf : Ow entE 25 w4.heap.size _ _ _ := ⟨rk_farT (i := 4) hO6.1 hG6 (.slice va6 n6 vc6), fun k hk => Nat.le_trans hb12.size (hO6.2 k hk)⟩
                          have hbf := (hb12.trans (hb126.mono hb12.size)).setCell (p := ⟨g9, 4, none⟩) hgg (.slice va6 n6 vc6)
                          clear hO6 hn6
                          go_wp2
                          go_roundg (go - 1)
                          case measure => omega
                          case rel => exact ⟨i + 1, _, L6, by omega, by go_num, hGf, hOf, HM6, HZ6, hbf⟩
                    | some t9 =>
                      have ht9 : ¬ t9 = tm2 := fun e => hTy (by rw [e])
                      have ht9b : ((t9 : Int) == (tm2 : Int)) = false := by simp; omega
                      have ht9i : ¬ (t9 : Int) = (tm2 : Int) := by omega
                      clear hTy ht9
                      subst hst0
                      go_wp2
                      (try simp only [Exit.inBlock, Exit.then])
                      refine wp_region_L (fun W => Below wr.heap.size wr W) [] (by kernel_rfl) ?_
                      have hS0 : (fun W => Below wr.heap.size wr W) wr.drew := (Below.refl _ wr).drew
                      generalize wr.drew = W0 at *
                      refine wpAnyL_take 0 rfl (by kernel_rfl) (by kernel_rfl) (by kernel_rfl) (by kernel_rfl) (fun _ _ _ h => h) (by kernel_rfl) (by intro w' hS'; have hz := hS'; obtain ⟨-, a0, a1, a2, a3, a4⟩ := lg_cells ((hz.block g9 hglt).trans hG); obtain ⟨z0, z1, z2, z3⟩ := HZ.out _ hz; go_simp <;> rfl) hS0 ?_
                      try simp only [List.getElem_toArray, List.getElem_cons_succ, List.getElem_cons_zero, Act.put, List.setIfInBounds_toArray, List.set_cons_zero, List.set_cons_succ]
                      refine wpAnyL_take 1 rfl (by kernel_rfl) (by kernel_rfl) (by kernel_rfl) (by kernel_rfl) (fun _ _ _ h => h) (by kernel_rfl) (by intro w' hS'; have hz := hS'; obtain ⟨-, a0, a1, a2, a3, a4⟩ := lg_cells ((hz.block g9 hglt).trans hG); obtain ⟨z0, z1, z2, z3⟩ := HZ.out _ hz; go_simp <;> rfl) hS0 ?_
                      try simp only [List.getElem_toArray, List.getElem_cons_succ, List.getElem_cons_zero, Act.put, List.setIfInBounds_toArray, List.set_cons_zero, List.set_cons_succ]
                      refine wpAnyL_take 2 rfl (by kernel_rfl) (by kernel_rfl) (by kernel_rfl) (by kernel_rfl) (fun _ _ _ h => h) (by kernel_rfl) (by intro w' hS'; have hz := hS'; obtain ⟨-, a0, a1, a2, a3, a4⟩ := lg_cells ((hz.block g9 hglt).trans hG); obtain ⟨z0, z1, z2, z3⟩ := HZ.out _ hz; go_simp <;> rfl) hS0 ?_
                      try simp only [List.getElem_toArray, List.getElem_cons_succ, List.getElem_cons_zero, Act.put, List.setIfInBounds_toArray, List.set_cons_zero, List.set_cons_succ]
                      refine wpAnyL_take 3 rfl (by kernel_rfl) (by kernel_rfl) (by kernel_rfl) (by kernel_rfl) (fun _ _ _ h => h) (by kernel_rfl) (by intro w' hS'; have hz := hS'; obtain ⟨-, a0, a1, a2, a3, a4⟩ := lg_cells ((hz.block g9 hglt).trans hG); obtain ⟨z0, z1, z2, z3⟩ := HZ.out _ hz; go_simp <;> rfl) hS0 ?_
                      try simp only [List.getElem_toArray, List.getElem_cons_succ, List.getElem_cons_zero, Act.put, List.setIfInBounds_toArray, List.set_cons_zero, List.set_cons_succ]
                      refine wpAnyL_take 4 rfl (by kernel_rfl) (by kernel_rfl) (by kernel_rfl) (by kernel_rfl) (fun _ _ _ h => h) (by kernel_rfl) (by intro w' hS'; have hz := hS'; obtain ⟨-, a0, a1, a2, a3, a4⟩ := lg_cells ((hz.block g9 hglt).trans hG); obtain ⟨z0, z1, z2, z3⟩ := HZ.out _ hz; go_simp <;> rfl) hS0 ?_
                      try simp only [List.getElem_toArray, List.getElem_cons_succ, List.getElem_cons_zero, Act.put, List.setIfInBounds_toArray, List.set_cons_zero, List.set_cons_succ]
                      refine wpAnyL_take 5 rfl (by kernel_rfl) (by kernel_rfl) (by kernel_rfl) (by kernel_rfl) (fun _ _ _ h => h) (by kernel_rfl) (by intro w' hS'; have hz := hS'; obtain ⟨-, a0, a1, a2, a3, a4⟩ := lg_cells ((hz.block g9 hglt).trans hG); obtain ⟨z0, z1, z2, z3⟩ := HZ.out _ hz; go_simp <;> rfl) hS0 ?_
                      try simp only [List.getElem_toArray, List.getElem_cons_succ, List.getElem_cons_zero, Act.put, List.setIfInBounds_toArray, List.set_cons_zero, List.set_cons_succ]
                      refine wpAnyL_one 6 (by kernel_rfl) rfl (by kernel_rfl) ?_
                      intro K' hK'
                      go_simp
                      go_at_call 17
                      refine (KTe.out _ hS0).mono ?_
                      rintro e w12 ⟨rfl, hb1⟩
                      have hS1 : (fun W => Below wr.heap.size wr W) w12 := keep_on hS0 hb1
                      dsimp only [termV]
                      refine hK'.out _ _ (.inr hS1) ?_
                      clear hK' K'
                      try simp only [List.getElem_toArray, List.getElem_cons_succ, List.getElem_cons_zero, Act.put, List.setIfInBounds_toArray, List.set_cons_zero, List.set_cons_succ]
                      refine wpAnyL_take 7 rfl (by kernel_rfl) (by kernel_rfl) (by kernel_rfl) (by kernel_rfl) (fun _ _ _ h => h) (by kernel_rfl) (by intro w' hS'; have hz := hS'; obtain ⟨-, a0, a1, a2, a3, a4⟩ := lg_cells ((hz.block g9 hglt).trans hG); obtain ⟨z0, z1, z2, z3⟩ := HZ.out _ hz; go_simp <;> rfl) hS1 ?_
                      try simp only [List.getElem_toArray, List.getElem_cons_succ, List.getElem_cons_zero, Act.put, List.setIfInBounds_toArray, List.set_cons_zero, List.set_cons_succ]
                      refine wpAnyL_take 8 rfl (by kernel_rfl) (by kernel_rfl) (by kernel_rfl) (by kernel_rfl) (fun _ _ _ h => h) (by kernel_rfl) (by intro w' hS'; have hz := hS'; obtain ⟨-, a0, a1, a2, a3, a4⟩ := lg_cells ((hz.block g9 hglt).trans hG); obtain ⟨z0, z1, z2, z3⟩ := HZ.out _ hz; go_simp <;> rfl) hS1 ?_
                      try simp only [List.getElem_toArray, List.getElem_cons_succ, List.getElem_cons_zero, Act.put, List.setIfInBounds_toArray, List.set_cons_zero, List.set_cons_succ]
                      refine wpAnyL_take 9 rfl (by kernel_rfl) (by kernel_rfl) (by kernel_rfl) (by kernel_rfl) (fun _ _ _ h => h) (by kernel_rfl) (by intro w' hS'; have hz := hS'; obtain ⟨-, a0, a1, a2, a3, a4⟩ := lg_cells ((hz.block g9 hglt).trans hG); obtain ⟨z0, z1, z2, z3⟩ := HZ.out _ hz; go_simp <;> rfl) hS1 ?_
                      try simp only [List.getElem_toArray, List.getElem_cons_succ, List.getElem_cons_zero, Act.put, List.setIfInBounds_toArray, List.set_cons_zero, List.set_cons_succ]
                      refine wpAnyL_take 10 rfl (by kernel_rfl) (by kernel_rfl) (by kernel_rfl) (by kernel_rfl) (fun _ _ _ h => h) (by kernel_rfl) (by intro w' hS'; have hz := hS'; obtain ⟨-, a0, a1, a2, a3, a4⟩ := lg_cells ((hz.block g9 hglt).trans hG); obtain ⟨z0, z1, z2, z3⟩ := HZ.out _ hz; go_simp <;> rfl) hS1 ?_
                      try simp only [List.getElem_toArray, List.getElem_cons_succ, List.getElem_cons_zero, Act.put, List.setIfInBounds_toArray, List.set_cons_zero, List.set_cons_succ]
                      refine wpAnyL_take 11 rfl (by kernel_rfl) (by kernel_rfl) (by kernel_rfl) (by kernel_rfl) (fun _ _ _ h => h) (by kernel_rfl) (by intro w' hS'; have hz := hS'; obtain ⟨-, a0, a1, a2, a3, a4⟩ := lg_cells ((hz.block g9 hglt).trans hG); obtain ⟨z0, z1, z2, z3⟩ := HZ.out _ hz; go_simp <;> rfl) hS1 ?_
                      try simp only [List.getElem_toArray, List.getElem_cons_succ, List.getElem_cons_zero, Act.put, List.setIfInBounds_toArray, List.set_cons_zero, List.set_cons_succ]
                      refine wpAnyL_done (by kernel_rfl) (NoPanic.normal ?_) _
                      clear KTe
                      have hG12 := (hS1.block g9 hglt).trans hG
                      have hO12 := hO.below hS1
                      have hb12 := hb.trans (hS1.mono hb.size)
                      have HZ2 : Hid (∀ W, Below w12.heap.size w12 W → _) := fun W hW => HZ.out W (hS1.trans (hW.mono hS1.size))
                      have hg12 : g9 < w12.heap.size := Nat.lt_of_lt_of_le hglt hS1.size
                      obtain ⟨q1, q2, q3⟩ := one_box w12 (.cells #[] 25)
                      have hK0 : Ow entE 25 w12.heap.size (w12.alloc (.cells #[] 25)) (.slice (some ⟨w12.heap.size, 0, none⟩) 0 0) (ltZ ix2 (OZ.take 0)) := ⟨by rw [List.take_zero]; exact Rk.made (E := entE) (xs := []) q2 rfl (by unfold maxLen; simp), fun k hk => by cases hk; exact Nat.le_refl _⟩
                      obtain ⟨z0, z1, z2, z3⟩ := HZ2.out _ (Below.refl _ _)
                      clear q1 q2 hG hO HZ
                      go_wp2
                      generalize w12.alloc (.cells #[] 25) = w13 at *
                      clear z0 z1 z2 z3
                      go_loopg [17, 18] OZ.length (fun gh s17 s18 wr => ∃ (k : Nat) (kst : Value), k + gh = OZ.length ∧ s18 = .int .i64 (k : Int) ∧ kst = s17 ∧ Ow entE 25 w12.heap.size wr kst (ltZ ix2 (OZ.take k)) ∧ Below w12.heap.size w12 wr)
                      case atStart => exact ⟨0, _, by simp, rfl, rfl, hK0, q3⟩
                      case round =>
                        obtain ⟨k, kst, hkg, rfl, rfl, hKo, hbk⟩ := hrel
                        clear hK0 q3
                        have hGk := (hbk.block g9 hg12).trans hG12
                        obtain ⟨⟨f0, f1, f2, f3, f4⟩, o0, o1, o2, o3, o4⟩ := lg_cells hGk
                        obtain ⟨z0, z1, z2, z3⟩ := HZ2.out _ hbk
                        have hlz : (ltZ ix2 (OZ.take k)).length ≤ 10000000000 := by
                          have h1 := ltZ_len ix2 (OZ.take k)
                          have h2 : (OZ.take k).length ≤ OZ.length := by rw [List.length_take]; omega
                          omega
                        obtain ⟨ka9, kc9, hkst, -⟩ := hKo.1.shape
                        by_cases hlk : k < OZ.length
                        · have hlki : (k : Int) < (OZ.length : Int) := by omega
                          have hy : OZ[k]? = some OZ[k] := List.getElem?_eq_getElem hlk
                          obtain ⟨y, hyy⟩ : ∃ y, y = OZ[k] := ⟨_, rfl⟩
                          rw [← hyy] at hy
                          clear hyy
                          obtain ⟨py, poff, rfl, cy⟩ := rde_at hO12.1.rd hy
                          obtain ⟨y0, y1, y2, y3⟩ := cy wr hbk
                          have HKS := ltZ_at hy ix2
                          have hrunH : Hid _ := push_ent y hKo.1 hlz
                          obtain ⟨⟨iy, ty, ky, dy⟩, say, sny, scy⟩ := y
                          dsimp only at y0 y1 y2 y3 HKS hrunH
                          by_cases hlt2 : iy < ix2
                          · have hlt2i : (iy : Int) < (ix2 : Int) := by omega
                            have hlt2d : decide (iy < ix2) = true := by simpa using hlt2
                            rw [if_pos hlt2] at HKS
                            have HKH : Hid (_ = _) := HKS
                            clear HKS cy hy hlt2
                            generalize ltZ ix2 (OZ.take k) = LK at *
                            subst hkst
                            go_wp2
                            go_quiet (fail)
                            have hKq := hKo.below (below_dN (Below.refl _ wr) nq)
                            have hbq : Below w12.heap.size w12 (wr.drewN nq) := below_dN hbk nq
                            have hrunH2 : Hid _ := push_ent (⟨iy, ty, ky, dy⟩, say, sny, scy) hKq.1 hlz
                            dsimp only at hrunH2
                            have hGq := (hbq.block g9 hg12).trans hG12
                            obtain ⟨-, r0, r1, r2, r3, r4⟩ := lg_cells hGq
                            have YQ : (wr.drewN nq).cell? ⟨py, poff + k * 4, none⟩ = some (.int .u64 (iy : Int)) ∧ (wr.drewN nq).cell? ⟨py, poff + k * 4 + 1, none⟩ = some (.int .u64 (ty : Int)) ∧ (wr.drewN nq).cell? ⟨py, poff + k * 4 + 2, none⟩ = some (.int .i64 ky) ∧ (wr.drewN nq).cell? ⟨py, poff + k * 4 + 3, none⟩ = some (.slice say sny scy) := ⟨y0, y1, y2, y3⟩
                            clear hKo hbk hrunH f0 f1 f2 f3 f4 o0 o1 o2 o3 o4 y0 y1 y2 y3 z0 z1 z2 z3 hGk
                            generalize wr.drewN nq = wr at *
                            obtain ⟨y0, y1, y2, y3⟩ := YQ
                            go_wp2_with (at_builtin; refine wp_by rfl _ _ _ rfl _ _ rfl rfl hrunH2.out ?_)
                            intro v6 w6 hp6
                            obtain ⟨hO6, hb6⟩ := hKq.push hbq.size hp6
                            rw [← HKH.out] at hO6
                            clear hp6 hrunH2 hKq HKH
                            go_wp2
                            go_roundg (gk - 1)
                            case measure => omega
                            case rel => exact ⟨k + 1, v6, by omega, by go_num, rfl, hO6, hbq.trans hb6⟩
                          · have hlt2i : ¬ (iy : Int) < (ix2 : Int) := by omega
                            have hlt2d : decide (iy < ix2) = false := by simpa using hlt2
                            rw [if_neg hlt2] at HKS
                            have HKH : Hid (_ = _) := HKS
                            clear HKS cy hy hlt2 hrunH
                            subst hkst
                            go_wp2
                            go_quiet (fail)
                            go_wp2
                            go_roundg (gk - 1)
                            case measure => omega
                            case rel => exact ⟨k + 1, _, by omega, by go_num, rfl, by rw [HKH.out]; exact hKo.below (below_dN (Below.refl _ wr) nq), below_dN hbk nq⟩
                        · have hlki : ¬ (k : Int) < (OZ.length : Int) := by omega
                          rw [List.take_of_length_le (by omega)] at hKo hkst hlz
                          have hrunH : Hid _ := push_ent (⟨ix2, tm2, kd2, dt2⟩, sa2, sn2, sc2) hKo.1 hlz
                          dsimp only at hrunH
                          generalize ltZ ix2 OZ = LK at *
                          subst hkst
                          clear hO12
                          go_wp2_with (at_builtin; refine wp_by rfl _ _ _ rfl _ _ rfl rfl hrunH.out ?_)
                          intro v6 w6 hp6
                          obtain ⟨hO6, hb6⟩ := hKo.push hbk.size hp6
                          have hb126 := hbk.trans hb6
                          have hG6 := (hb126.block g9 hg12).trans hG12
                          obtain ⟨⟨g0, g1, g2, g3, g4⟩, r0, r1, r2, r3, r4⟩ := lg_cells hG6
                          clear hp6 hrunH hKo f0 f1 f2 f3 f4 o0 o1 o2 o3 o4 z0 z1 z2 z3 hGk hbk hb6 hG12
                          generalize LK ++ [((⟨ix2, tm2, kd2, dt2⟩, sa2, sn2, sc2) : Ez)] = L6 at *
                          obtain ⟨va6, vc6, hv6, -⟩ := hO6.1.shape
                          generalize hn6 : L6.length = n6 at hv6
                          subst hv6
                          have hGf := lg_set4 hG6 (.slice va6 n6 vc6)
                          have hOf : Ow entE 25 w4.heap.size _ _ _ := ⟨rk_farT (i := 4) hO6.1 hG6 (.slice va6 n6 vc6), fun k hk => Nat.le_trans hb12.size (hO6.2 k hk)⟩
                          have hbf := (hb12.trans (hb126.mono hb12.size)).setCell (p := ⟨g9, 4, none⟩) hgg (.slice va6 n6 vc6)
                          clear hO6 hn6
                          go_wp2
                          go_roundg (go - 1)
                          case measure => omega
                          case rel => exact ⟨i + 1, _, L6, by omega, by go_num, hGf, hOf, HM6, HZ6, hbf⟩
                · have hlti : ¬ (i : Int) < (ys.length : Int) := by omega
                  have HMF : Hid (mes OZ = (mes ys).foldl (stepM ⟨ix, tm, kd, dt⟩) (mes zs)) := by
                    show _ = _
                    rw [HM.out, List.take_of_length_le (by simp [mes]; omega)]
                  have hml : (mes OZ).length = OZ.length := by simp [mes]
                  have hRR := HRF.out
                  rw [← HMF.out, hml] at hRR
                  have hbwr := hbw4.trans (hb.mono hbw4.size)
                  have qr := (hb.block (w.heap.size + 1) (by omega)).trans q44
                  obtain ⟨⟨f0, f1, f2, f3, f4⟩, o0, o1, o2, o3, o4⟩ := lg_cells qr
                  obtain ⟨⟨f0', f1', f2', f3', f4'⟩, o0', o1', o2', o3', o4'⟩ := lg_cells hG
                  have hDr := HDB.out wr hbwr
                  have hEr : EntsV wr st OZ := ⟨hO.1.rd, fun y hy => (HZI.out y hy).elim (fun h => HDZ.out y h wr hbwr) (fun h => HDY.out y h wr hbwr)⟩
                  obtain ⟨sta0, stc0, hst0, -⟩ := hO.1.shape
                  have hgne : w.heap.size + 1 ≠ g9 := by omega
                  by_cases h4 : 4096 < OZ.length
                  · have h4i : (4096 : Int) < (OZ.length : Int) := by omega
                    rw [if_pos h4] at hRR
                    have E : Hid (_ = _) := hRR
                    subst hst0
                    clear HM HMF hRR hEr hDr hO
                    go_wp2
                    (try simp only [Exit.inBlock, Exit.then])
                    refine bodyPost_ret (results_lg3 rfl _ _ (w.heap.size + 1) _ _ _ _ _ rfl (lg_set qr _ _ _ _ _)) rfl ?_
                    exact ⟨lg3_none _ E.out, lg_set_below hbwr (by omega) _ _ _ _ _⟩
                  · have h4i : ¬ (4096 : Int) < (OZ.length : Int) := by omega
                    rw [if_neg h4] at hRR
                    have E : Hid (_ = _) := hRR
                    have HF := lg_set qr (.int .u64 (ix : Int)) (.int .u64 (tm : Int)) (.int .i64 kd) (.slice sa sn sc) st
                    have hbf := lg_set_below hbwr (g := w.heap.size + 1) (by omega) (.int .u64 (ix : Int)) (.int .u64 (tm : Int)) (.int .i64 kd) (.slice sa sn sc) st
                    have OF := rk_farT5 (g := w.heap.size + 1) hO.1 qr (.int .u64 (ix : Int)) (.int .u64 (tm : Int)) (.int .i64 kd) (.slice sa sn sc) st
                    have hfin : Hid (Lg3T R (.returned (.tuple #[.agg #[.int .u64 (ix : Int), .int .u64 (tm : Int), .int .i64 kd, .slice sa sn sc, st], .int .u64 (x9 : Int), .int .i64 0])) (((((wr.setCell ⟨w.heap.size + 1, 0, none⟩ (.int .u64 (ix : Int))).setCell ⟨w.heap.size + 1, 1, none⟩ (.int .u64 (tm : Int))).setCell ⟨w.heap.size + 1, 2, none⟩ (.int .i64 kd)).setCell ⟨w.heap.size + 1, 3, none⟩ (.slice sa sn sc)).setCell ⟨w.heap.size + 1, 4, none⟩ st)) := by
                      show Lg3T R _ _
                      rw [E.out, HX9.out]
                      exact ⟨_, rfl, (sa, sn, sc), OZ, st, rfl, HDB.out _ hbf, ⟨OF.rd, fun y hy => (HZI.out y hy).elim (fun h => HDZ.out y h _ hbf) (fun h => HDY.out y h _ hbf)⟩, rfl⟩
                    clear HM HMF hRR hEr hDr hO OF E
                    subst hst0
                    go_wp2
                    (try simp only [Exit.inBlock, Exit.then])
                    refine bodyPost_ret (results_lg3 rfl _ _ (w.heap.size + 1) _ _ _ _ _ rfl HF) rfl ?_
                    exact ⟨hfin.out, hbf⟩
            · intro K' hK'
              go_simp
              have hS2 : (fun W => Below w4.heap.size w4 W) (W1.alloc (.cells #[.int .u64 0, .int .u64 0, .int .i64 0, .slice none 0 0, .slice none 0 0] 28)) := hS1.alloc hS1.size _
              have G2 : (W1.alloc (.cells #[.int .u64 0, .int .u64 0, .int .i64 0, .slice none 0 0, .slice none 0 0] 28)).heap[W1.heap.size]? = _ := heap_alloc_new _ _
              have hgg : w4.heap.size ≤ W1.heap.size := hS1.size
              have R2 := Rk.same (w' := W1.alloc (.cells #[.int .u64 0, .int .u64 0, .int .i64 0, .slice none 0 0, .slice none 0 0] 28)) R1 fun k hk => heap_alloc_old _ _ (R1.lt hk)
              refine hK'.out _ _ (.inr hS2) ?_
              clear hK' K'
              try simp only [List.getElem_toArray, List.getElem_cons_succ, List.getElem_cons_zero, Act.put, List.setIfInBounds_toArray, List.set_cons_zero, List.set_cons_succ]
              generalize W1.alloc (.cells #[.int .u64 0, .int .u64 0, .int .i64 0, .slice none 0 0, .slice none 0 0] 28) = W2 at *
              refine wpAnyL_one 5 (by kernel_rfl) rfl (by kernel_rfl) ?_
              intro K' hK'
              have rH : Hid _ := app_ents R2 (HLW.out _ hS2) (by simp) hzl9
              refine op_by _ _ _ rfl _ _ rfl rfl rH.out ?_
              intro v9 W3 p3
              have hO9 : ∀ k, v9.ownBlock = some k → w4.heap.size ≤ k := fun k hk => by
                rcases p3.2.2 k hk with h | h
                · cases h; exact hv0
                · exact Nat.le_trans hS2.size h
              have hS3 : (fun W => Below w4.heap.size w4 W) W3 := hS2.trans (grown_below p3.2.1 hS2.size (fun k hk => by cases hk; exact hv0))
              have G3 := (p3.2.1.block W1.heap.size ((Array.getElem?_eq_some_iff.1 G2).1) (fun e => by
                obtain ⟨cs, hc⟩ := Rk.block R2 e.symm
                rw [G2] at hc
                simp at hc)).trans G2
              have R3 := p3.1
              rw [List.nil_append] at R3
              obtain ⟨va9, vc9, hv9, -⟩ := R3.shape
              subst hv9
              clear rH p3
              refine hK'.out _ _ (.inr hS3) ?_
              clear hK' K'
              try simp only [List.getElem_toArray, List.getElem_cons_succ, List.getElem_cons_zero, Act.put, List.setIfInBounds_toArray, List.set_cons_zero, List.set_cons_succ]
              refine wpAnyL_take 6 rfl (by kernel_rfl) (by kernel_rfl) (by kernel_rfl) (by kernel_rfl) (fun _ _ _ h => h) (by kernel_rfl) (by intro w' hS'; have hz := hS'; obtain ⟨c0, c1, c2, c3, c4⟩ := HCL.out _ hz; go_simp <;> rfl) hS3 ?_
              try simp only [List.getElem_toArray, List.getElem_cons_succ, List.getElem_cons_zero, Act.put, List.setIfInBounds_toArray, List.set_cons_zero, List.set_cons_succ]
              refine wpAnyL_one 8 (by kernel_rfl) rfl (by kernel_rfl) ?_
              intro K' hK'
              go_simp
              obtain ⟨⟨f0, f1, f2, f3, f4⟩, o0, o1, o2, o3, o4⟩ := lg_cells G3
              have hS9 : (fun W => Below w4.heap.size w4 W) _ := lg_set_below hS3 (g := W1.heap.size) hgg (.int .u64 (ix : Int)) (.int .u64 (tm : Int)) (.int .i64 kd) (.slice sa sn sc) (.slice va9 zs.length vc9)
              have HF := lg_set G3 (.int .u64 (ix : Int)) (.int .u64 (tm : Int)) (.int .i64 kd) (.slice sa sn sc) (.slice va9 zs.length vc9)
              have O9 := rk_farT5 (g := W1.heap.size) R3 G3 (.int .u64 (ix : Int)) (.int .u64 (tm : Int)) (.int .i64 kd) (.slice sa sn sc) (.slice va9 zs.length vc9)
              go_simp
              refine hK'.out _ _ (.inr hS9) ?_
              clear hK' K'
              try simp only [List.getElem_toArray, List.getElem_cons_succ, List.getElem_cons_zero, Act.put, List.setIfInBounds_toArray, List.set_cons_zero, List.set_cons_succ]
              refine wpAnyL_done (by kernel_rfl) (NoPanic.normal ?_) _
              generalize (((((W3.setCell ⟨W1.heap.size, 0, none⟩ (.int .u64 (ix : Int))).setCell ⟨W1.heap.size, 1, none⟩ (.int .u64 (tm : Int))).setCell ⟨W1.heap.size, 2, none⟩ (.int .i64 kd)).setCell ⟨W1.heap.size, 3, none⟩ (.slice sa sn sc)).setCell ⟨W1.heap.size, 4, none⟩ (.slice va9 zs.length vc9)) = w9 at *
              generalize W1.heap.size = g9 at *
              clear G3 R3 f0 f1 f2 f3 f4 o0 o1 o2 o3 o4 HLW
              have hO9w : Ow entE 25 w4.heap.size w9 (.slice va9 zs.length vc9) zs := ⟨O9, hO9⟩
              clear O9 hO9
              go_wp2
              go_loopg [14, 15, 16, 17, 18] ys.length (fun gh s s15 s16 s17 s18 wr => ∃ (i : Nat) (st : Value) (OZ : List Ez), i + gh = ys.length ∧ s = .int .i64 (i : Int) ∧ wr.heap[g9]? = some (.cells #[.int .u64 (ix : Int), .int .u64 (tm : Int), .int .i64 kd, .slice sa sn sc, st] 28 (0, 0)) ∧ Ow entE 25 w4.heap.size wr st OZ ∧ Hid (mes OZ = ((mes ys).take i).foldl (stepM ⟨ix, tm, kd, dt⟩) (mes zs)) ∧ Hid (∀ z ∈ OZ, z ∈ zs ∨ z ∈ ys) ∧ Below w4.heap.size w4 wr)
              case atStart => exact ⟨0, _, zs, by simp, rfl, HF, hO9w, by rw [List.take_zero]; exact rfl, fun z hz => .inl hz, hS9⟩
              case round =>
                obtain ⟨i, st, OZ, hig, rfl, hG, hO, HM, HZI, hb⟩ := hrel
                obtain ⟨go, hgo⟩ : ∃ go, go = gk := ⟨_, rfl⟩
                clear hO9w HF hS9
                have hglt : g9 < wr.heap.size := (Array.getElem?_eq_some_iff.1 hG).1
                have hlO : OZ.length ≤ 8000000 := by
                  have h1 := congrArg List.length HM.out
                  have h2 := fold_len (b := ⟨ix, tm, kd, dt⟩) ((mes ys).take i) (mes zs)
                  simp only [mes, List.length_map, List.length_take] at h1 h2
                  omega
                by_cases hlt : i < ys.length
                · have hlti : (i : Int) < (ys.length : Int) := by omega
                  have hz : ys[i]? = some ys[i] := List.getElem?_eq_getElem hlt
                  obtain ⟨z, hzz⟩ : ∃ z, z = ys[i] := ⟨_, rfl⟩
                  rw [← hzz] at hz
                  clear hzz
                  obtain ⟨p, off, rfl, c⟩ := rde_at HYR.out hz
                  have HZ : Hid (∀ W, Below wr.heap.size wr W → _) := fun W hW => c W (hbw4.trans ((hb.trans (hW.mono hb.size)).mono hbw4.size))
                  have hE : EntsV wr st OZ := ⟨hO.1.rd, fun y hy => (HZI.out y hy).elim (fun h => HDZ.out y h wr (hbw4.trans (hb.mono hbw4.size))) (fun h => HDY.out y h wr (hbw4.trans (hb.mono hbw4.size)))⟩
                  have KTe : Hid (∀ W, Below wr.heap.size wr W → _) := fun W hW => rterm_of (⟨ix, tm, kd, dt⟩, sa, sn, sc) OZ st z.1.idx W (hE.below hW) (by omega)
                  have HM5 : Hid (((mes ys).take (i + 1)).foldl (stepM ⟨ix, tm, kd, dt⟩) (mes zs) = stepM ⟨ix, tm, kd, dt⟩ (mes OZ) z.1) := by
                    show _ = _
                    rw [take_succ_get (mes_at hz), List.foldl_append, ← HM.out]
                    rfl
                  have HYES : Hid (termM ⟨ix, tm, kd, dt⟩ (mes OZ) z.1.idx = some z.1.term → Hid (mes OZ = ((mes ys).take (i + 1)).foldl (stepM ⟨ix, tm, kd, dt⟩) (mes zs))) := fun h => by
                    show _ = _
                    rw [HM5.out]
                    unfold stepM
                    rw [if_pos h]
                  have HNO : Hid (¬ termM ⟨ix, tm, kd, dt⟩ (mes OZ) z.1.idx = some z.1.term → Hid (mes (ltZ z.1.idx OZ ++ [z]) = ((mes ys).take (i + 1)).foldl (stepM ⟨ix, tm, kd, dt⟩) (mes zs))) := fun h => by
                    show _ = _
                    rw [HM5.out]
                    unfold stepM
                    rw [if_neg h]
                    show List.map _ _ = _
                    rw [List.map_append, ← ltZ_M]
                    rfl
                  have HZ6 : Hid (∀ y ∈ ltZ z.1.idx OZ ++ [z], y ∈ zs ∨ y ∈ ys) := fun y hy => by
                    rw [List.mem_append, List.mem_singleton] at hy
                    rcases hy with hy | rfl
                    · exact HZI.out y (List.mem_filter.1 hy).1
                    · exact .inr (List.mem_of_getElem? hz)
                  obtain ⟨⟨ix2, tm2, kd2, dt2⟩, sa2, sn2, sc2⟩ := z
                  dsimp only [lgv] at *
                  generalize hTT : termM ⟨ix, tm, kd, dt⟩ (mes OZ) ix2 = TT at *
                  clear hTT hz c HM5 hE HM
                  obtain ⟨sta0, stc0, hst0, -⟩ := hO.1.shape
                  by_cases hTy : TT = some tm2
                  · have HM6 := HYES.out hTy
                    subst hTy
                    clear HNO HYES HZ6
                    subst hst0
                    go_wp2
                    (try simp only [Exit.inBlock, Exit.then])
                    refine wp_region_L (fun W => Below wr.heap.size wr W) [] (by kernel_rfl) ?_
                    have hS0 : (fun W => Below wr.heap.size wr W) wr.drew := (Below.refl _ wr).drew
                    generalize wr.drew = W0 at *
                    refine wpAnyL_take 0 rfl (by kernel_rfl) (by kernel_rfl) (by kernel_rfl) (by kernel_rfl) (fun _ _ _ h => h) (by kernel_rfl) (by intro w' hS'; have hz := hS'; obtain ⟨-, a0, a1, a2, a3, a4⟩ := lg_cells ((hz.block g9 hglt).trans hG); obtain ⟨z0, z1, z2, z3⟩ := HZ.out _ hz; go_simp <;> rfl) hS0 ?_
                    try simp only [List.getElem_toArray, List.getElem_cons_succ, List.getElem_cons_zero, Act.put, List.setIfInBounds_toArray, List.set_cons_zero, List.set_cons_succ]
                    refine wpAnyL_take 1 rfl (by kernel_rfl) (by kernel_rfl) (by kernel_rfl) (by kernel_rfl) (fun _ _ _ h => h) (by kernel_rfl) (by intro w' hS'; have hz := hS'; obtain ⟨-, a0, a1, a2, a3, a4⟩ := lg_cells ((hz.block g9 hglt).trans hG); obtain ⟨z0, z1, z2, z3⟩ := HZ.out _ hz; go_simp <;> rfl) hS0 ?_
                    try simp only [List.getElem_toArray, List.getElem_cons_succ, List.getElem_cons_zero, Act.put, List.setIfInBounds_toArray, List.set_cons_zero, List.set_cons_succ]
                    refine wpAnyL_take 2 rfl (by kernel_rfl) (by kernel_rfl) (by kernel_rfl) (by kernel_rfl) (fun _ _ _ h => h) (by kernel_rfl) (by intro w' hS'; have hz := hS'; obtain ⟨-, a0, a1, a2, a3, a4⟩ := lg_cells ((hz.block g9 hglt).trans hG); obtain ⟨z0, z1, z2, z3⟩ := HZ.out _ hz; go_simp <;> rfl) hS0 ?_
                    try simp only [List.getElem_toArray, List.getElem_cons_succ, List.getElem_cons_zero, Act.put, List.setIfInBounds_toArray, List.set_cons_zero, List.set_cons_succ]
                    refine wpAnyL_take 3 rfl (by kernel_rfl) (by kernel_rfl) (by kernel_rfl) (by kernel_rfl) (fun _ _ _ h => h) (by kernel_rfl) (by intro w' hS'; have hz := hS'; obtain ⟨-, a0, a1, a2, a3, a4⟩ := lg_cells ((hz.block g9 hglt).trans hG); obtain ⟨z0, z1, z2, z3⟩ := HZ.out _ hz; go_simp <;> rfl) hS0 ?_
                    try simp only [List.getElem_toArray, List.getElem_cons_succ, List.getElem_cons_zero, Act.put, List.setIfInBounds_toArray, List.set_cons_zero, List.set_cons_succ]
                    refine wpAnyL_take 4 rfl (by kernel_rfl) (by kernel_rfl) (by kernel_rfl) (by kernel_rfl) (fun _ _ _ h => h) (by kernel_rfl) (by intro w' hS'; have hz := hS'; obtain ⟨-, a0, a1, a2, a3, a4⟩ := lg_cells ((hz.block g9 hglt).trans hG); obtain ⟨z0, z1, z2, z3⟩ := HZ.out _ hz; go_simp <;> rfl) hS0 ?_
                    try simp only [List.getElem_toArray, List.getElem_cons_succ, List.getElem_cons_zero, Act.put, List.setIfInBounds_toArray, List.set_cons_zero, List.set_cons_succ]
                    refine wpAnyL_take 5 rfl (by kernel_rfl) (by kernel_rfl) (by kernel_rfl) (by kernel_rfl) (fun _ _ _ h => h) (by kernel_rfl) (by intro w' hS'; have hz := hS'; obtain ⟨-, a0, a1, a2, a3, a4⟩ := lg_cells ((hz.block g9 hglt).trans hG); obtain ⟨z0, z1, z2, z3⟩ := HZ.out _ hz; go_simp <;> rfl) hS0 ?_
                    try simp only [List.getElem_toArray, List.getElem_cons_succ, List.getElem_cons_zero, Act.put, List.setIfInBounds_toArray, List.set_cons_zero, List.set_cons_succ]
                    refine wpAnyL_one 6 (by kernel_rfl) rfl (by kernel_rfl) ?_
                    intro K' hK'
                    go_simp
                    go_at_call 17
                    refine (KTe.out _ hS0).mono ?_
                    rintro e w12 ⟨rfl, hb1⟩
                    have hS1 : (fun W => Below wr.heap.size wr W) w12 := keep_on hS0 hb1
                    dsimp only [termV]
                    refine hK'.out _ _ (.inr hS1) ?_
                    clear hK' K'
                    try simp only [List.getElem_toArray, List.getElem_cons_succ, List.getElem_cons_zero, Act.put, List.setIfInBounds_toArray, List.set_cons_zero, List.set_cons_succ]
                    refine wpAnyL_take 7 rfl (by kernel_rfl) (by kernel_rfl) (by kernel_rfl) (by kernel_rfl) (fun _ _ _ h => h) (by kernel_rfl) (by intro w' hS'; have hz := hS'; obtain ⟨-, a0, a1, a2, a3, a4⟩ := lg_cells ((hz.block g9 hglt).trans hG); obtain ⟨z0, z1, z2, z3⟩ := HZ.out _ hz; go_simp <;> rfl) hS1 ?_
                    try simp only [List.getElem_toArray, List.getElem_cons_succ, List.getElem_cons_zero, Act.put, List.setIfInBounds_toArray, List.set_cons_zero, List.set_cons_succ]
                    refine wpAnyL_take 8 rfl (by kernel_rfl) (by kernel_rfl) (by kernel_rfl) (by kernel_rfl) (fun _ _ _ h => h) (by kernel_rfl) (by intro w' hS'; have hz := hS'; obtain ⟨-, a0, a1, a2, a3, a4⟩ := lg_cells ((hz.block g9 hglt).trans hG); obtain ⟨z0, z1, z2, z3⟩ := HZ.out _ hz; go_simp <;> rfl) hS1 ?_
                    try simp only [List.getElem_toArray, List.getElem_cons_succ, List.getElem_cons_zero, Act.put, List.setIfInBounds_toArray, List.set_cons_zero, List.set_cons_succ]
                    refine wpAnyL_take 9 rfl (by kernel_rfl) (by kernel_rfl) (by kernel_rfl) (by kernel_rfl) (fun _ _ _ h => h) (by kernel_rfl) (by intro w' hS'; have hz := hS'; obtain ⟨-, a0, a1, a2, a3, a4⟩ := lg_cells ((hz.block g9 hglt).trans hG); obtain ⟨z0, z1, z2, z3⟩ := HZ.out _ hz; go_simp <;> rfl) hS1 ?_
                    try simp only [List.getElem_toArray, List.getElem_cons_succ, List.getElem_cons_zero, Act.put, List.setIfInBounds_toArray, List.set_cons_zero, List.set_cons_succ]
                    refine wpAnyL_take 10 rfl (by kernel_rfl) (by kernel_rfl) (by kernel_rfl) (by kernel_rfl) (fun _ _ _ h => h) (by kernel_rfl) (by intro w' hS'; have hz := hS'; obtain ⟨-, a0, a1, a2, a3, a4⟩ := lg_cells ((hz.block g9 hglt).trans hG); obtain ⟨z0, z1, z2, z3⟩ := HZ.out _ hz; go_simp <;> rfl) hS1 ?_
                    try simp only [List.getElem_toArray, List.getElem_cons_succ, List.getElem_cons_zero, Act.put, List.setIfInBounds_toArray, List.set_cons_zero, List.set_cons_succ]
                    refine wpAnyL_take 11 rfl (by kernel_rfl) (by kernel_rfl) (by kernel_rfl) (by kernel_rfl) (fun _ _ _ h => h) (by kernel_rfl) (by intro w' hS'; have hz := hS'; obtain ⟨-, a0, a1, a2, a3, a4⟩ := lg_cells ((hz.block g9 hglt).trans hG); obtain ⟨z0, z1, z2, z3⟩ := HZ.out _ hz; go_simp <;> rfl) hS1 ?_
                    try simp only [List.getElem_toArray, List.getElem_cons_succ, List.getElem_cons_zero, Act.put, List.setIfInBounds_toArray, List.set_cons_zero, List.set_cons_succ]
                    refine wpAnyL_done (by kernel_rfl) (NoPanic.normal ?_) _
                    obtain ⟨z0, z1, z2, z3⟩ := HZ.out _ hS1
                    have hG12 := (hS1.block g9 hglt).trans hG
                    have hO12 := hO.below hS1
                    have hb12 := hb.trans (hS1.mono hb.size)
                    clear HZ KTe hG hO
                    go_wp2
                    go_roundg (go - 1)
                    case measure => omega
                    case rel => exact ⟨i + 1, _, OZ, by omega, by go_num, hG12, hO12, HM6, HZI, hb12⟩
                  · have HM6 := HNO.out hTy
                    clear HNO HYES
                    cases TT with
                    | none =>
                      clear hTy
                      subst hst0
                      go_wp2
                      (try simp only [Exit.inBlock, Exit.then])
                      refine wp_region_L (fun W => Below wr.heap.size wr W) [] (by kernel_rfl) ?_
                      have hS0 : (fun W => Below wr.heap.size wr W) wr.drew := (Below.refl _ wr).drew
                      generalize wr.drew = W0 at *
                      refine wpAnyL_take 0 rfl (by kernel_rfl) (by kernel_rfl) (by kernel_rfl) (by kernel_rfl) (fun _ _ _ h => h) (by kernel_rfl) (by intro w' hS'; have hz := hS'; obtain ⟨-, a0, a1, a2, a3, a4⟩ := lg_cells ((hz.block g9 hglt).trans hG); obtain ⟨z0, z1, z2, z3⟩ := HZ.out _ hz; go_simp <;> rfl) hS0 ?_
                      try simp only [List.getElem_toArray, List.getElem_cons_succ, List.getElem_cons_zero, Act.put, List.setIfInBounds_toArray, List.set_cons_zero, List.set_cons_succ]
                      refine wpAnyL_take 1 rfl (by kernel_rfl) (by kernel_rfl) (by kernel_rfl) (by kernel_rfl) (fun _ _ _ h => h) (by kernel_rfl) (by intro w' hS'; have hz := hS'; obtain ⟨-, a0, a1, a2, a3, a4⟩ := lg_cells ((hz.block g9 hglt).trans hG); obtain ⟨z0, z1, z2, z3⟩ := HZ.out _ hz; go_simp <;> rfl) hS0 ?_
                      try simp only [List.getElem_toArray, List.getElem_cons_succ, List.getElem_cons_zero, Act.put, List.setIfInBounds_toArray, List.set_cons_zero, List.set_cons_succ]
                      refine wpAnyL_take 2 rfl (by kernel_rfl) (by kernel_rfl) (by kernel_rfl) (by kernel_rfl) (fun _ _ _ h => h) (by kernel_rfl) (by intro w' hS'; have hz := hS'; obtain ⟨-, a0, a1, a2, a3, a4⟩ := lg_cells ((hz.block g9 hglt).trans hG); obtain ⟨z0, z1, z2, z3⟩ := HZ.out _ hz; go_simp <;> rfl) hS0 ?_
                      try simp only [List.getElem_toArray, List.getElem_cons_succ, List.getElem_cons_zero, Act.put, List.setIfInBounds_toArray, List.set_cons_zero, List.set_cons_succ]
                      refine wpAnyL_take 3 rfl (by kernel_rfl) (by kernel_rfl) (by kernel_rfl) (by kernel_rfl) (fun _ _ _ h => h) (by kernel_rfl) (by intro w' hS'; have hz := hS'; obtain ⟨-, a0, a1, a2, a3, a4⟩ := lg_cells ((hz.block g9 hglt).trans hG); obtain ⟨z0, z1, z2, z3⟩ := HZ.out _ hz; go_simp <;> rfl) hS0 ?_
                      try simp only [List.getElem_toArray, List.getElem_cons_succ, List.getElem_cons_zero, Act.put, List.setIfInBounds_toArray, List.set_cons_zero, List.set_cons_succ]
                      refine wpAnyL_take 4 rfl (by kernel_rfl) (by kernel_rfl) (by kernel_rfl) (by kernel_rfl) (fun _ _ _ h => h) (by kernel_rfl) (by intro w' hS'; have hz := hS'; obtain ⟨-, a0, a1, a2, a3, a4⟩ := lg_cells ((hz.block g9 hglt).trans hG); obtain ⟨z0, z1, z2, z3⟩ := HZ.out _ hz; go_simp <;> rfl) hS0 ?_
                      try simp only [List.getElem_toArray, List.getElem_cons_succ, List.getElem_cons_zero, Act.put, List.setIfInBounds_toArray, List.set_cons_zero, List.set_cons_succ]
                      refine wpAnyL_take 5 rfl (by kernel_rfl) (by kernel_rfl) (by kernel_rfl) (by kernel_rfl) (fun _ _ _ h => h) (by kernel_rfl) (by intro w' hS'; have hz := hS'; obtain ⟨-, a0, a1, a2, a3, a4⟩ := lg_cells ((hz.block g9 hglt).trans hG); obtain ⟨z0, z1, z2, z3⟩ := HZ.out _ hz; go_simp <;> rfl) hS0 ?_
                      try simp only [List.getElem_toArray, List.getElem_cons_succ, List.getElem_cons_zero, Act.put, List.setIfInBounds_toArray, List.set_cons_zero, List.set_cons_succ]
                      refine wpAnyL_one 6 (by kernel_rfl) rfl (by kernel_rfl) ?_
                      intro K' hK'
                      go_simp
                      go_at_call 17
                      refine (KTe.out _ hS0).mono ?_
                      rintro e w12 ⟨rfl, hb1⟩
                      have hS1 : (fun W => Below wr.heap.size wr W) w12 := keep_on hS0 hb1
                      dsimp only [termV]
                      refine hK'.out _ _ (.inr hS1) ?_
                      clear hK' K'
                      try simp only [List.getElem_toArray, List.getElem_cons_succ, List.getElem_cons_zero, Act.put, List.setIfInBounds_toArray, List.set_cons_zero, List.set_cons_succ]
                      refine wpAnyL_take 7 rfl (by kernel_rfl) (by kernel_rfl) (by kernel_rfl) (by kernel_rfl) (fun _ _ _ h => h) (by kernel_rfl) (by intro w' hS'; have hz := hS'; obtain ⟨-, a0, a1, a2, a3, a4⟩ := lg_cells ((hz.block g9 hglt).trans hG); obtain ⟨z0, z1, z2, z3⟩ := HZ.out _ hz; go_simp <;> rfl) hS1 ?_
                      try simp only [List.getElem_toArray, List.getElem_cons_succ, List.getElem_cons_zero, Act.put, List.setIfInBounds_toArray, List.set_cons_zero, List.set_cons_succ]
                      refine wpAnyL_take 8 rfl (by kernel_rfl) (by kernel_rfl) (by kernel_rfl) (by kernel_rfl) (fun _ _ _ h => h) (by kernel_rfl) (by intro w' hS'; have hz := hS'; obtain ⟨-, a0, a1, a2, a3, a4⟩ := lg_cells ((hz.block g9 hglt).trans hG); obtain ⟨z0, z1, z2, z3⟩ := HZ.out _ hz; go_simp <;> rfl) hS1 ?_
                      try simp only [List.getElem_toArray, List.getElem_cons_succ, List.getElem_cons_zero, Act.put, List.setIfInBounds_toArray, List.set_cons_zero, List.set_cons_succ]
                      refine wpAnyL_take 9 rfl (by kernel_rfl) (by kernel_rfl) (by kernel_rfl) (by kernel_rfl) (fun _ _ _ h => h) (by kernel_rfl) (by intro w' hS'; have hz := hS'; obtain ⟨-, a0, a1, a2, a3, a4⟩ := lg_cells ((hz.block g9 hglt).trans hG); obtain ⟨z0, z1, z2, z3⟩ := HZ.out _ hz; go_simp <;> rfl) hS1 ?_
                      try simp only [List.getElem_toArray, List.getElem_cons_succ, List.getElem_cons_zero, Act.put, List.setIfInBounds_toArray, List.set_cons_zero, List.set_cons_succ]
                      refine wpAnyL_take 10 rfl (by kernel_rfl) (by kernel_rfl) (by kernel_rfl) (by kernel_rfl) (fun _ _ _ h => h) (by kernel_rfl) (by intro w' hS'; have hz := hS'; obtain ⟨-, a0, a1, a2, a3, a4⟩ := lg_cells ((hz.block g9 hglt).trans hG); obtain ⟨z0, z1, z2, z3⟩ := HZ.out _ hz; go_simp <;> rfl) hS1 ?_
                      try simp only [List.getElem_toArray, List.getElem_cons_succ, List.getElem_cons_zero, Act.put, List.setIfInBounds_toArray, List.set_cons_zero, List.set_cons_succ]
                      refine wpAnyL_take 11 rfl (by kernel_rfl) (by kernel_rfl) (by kernel_rfl) (by kernel_rfl) (fun _ _ _ h => h) (by kernel_rfl) (by intro w' hS'; have hz := hS'; obtain ⟨-, a0, a1, a2, a3, a4⟩ := lg_cells ((hz.block g9 hglt).trans hG); obtain ⟨z0, z1, z2, z3⟩ := HZ.out _ hz; go_simp <;> rfl) hS1 ?_
                      try simp only [List.getElem_toArray, List.getElem_cons_succ, List.getElem_cons_zero, Act.put, List.setIfInBounds_toArray, List.set_cons_zero, List.set_cons_succ]
                      refine wpAnyL_done (by kernel_rfl) (NoPanic.normal ?_) _
                      clear KTe
                      have hG12 := (hS1.block g9 hglt).trans hG
                      have hO12 := hO.below hS1
                      have hb12 := hb.trans (hS1.mono hb.size)
                      have HZ2 : Hid (∀ W, Below w12.heap.size w12 W → _) := fun W hW => HZ.out W (hS1.trans (hW.mono hS1.size))
                      have hg12 : g9 < w12.heap.size := Nat.lt_of_lt_of_le hglt hS1.size
                      obtain ⟨q1, q2, q3⟩ := one_box w12 (.cells #[] 25)
                      have hK0 : Ow entE 25 w12.heap.size (w12.alloc (.cells #[] 25)) (.slice (some ⟨w12.heap.size, 0, none⟩) 0 0) (ltZ ix2 (OZ.take 0)) := ⟨by rw [List.take_zero]; exact Rk.made (E := entE) (xs := []) q2 rfl (by unfold maxLen; simp), fun k hk => by cases hk; exact Nat.le_refl _⟩
                      obtain ⟨z0, z1, z2, z3⟩ := HZ2.out _ (Below.refl _ _)
                      clear q1 q2 hG hO HZ
                      go_wp2
                      generalize w12.alloc (.cells #[] 25) = w13 at *
                      clear z0 z1 z2 z3
                      go_loopg [17, 18] OZ.length (fun gh s17 s18 wr => ∃ (k : Nat) (kst : Value), k + gh = OZ.length ∧ s18 = .int .i64 (k : Int) ∧ kst = s17 ∧ Ow entE 25 w12.heap.size wr kst (ltZ ix2 (OZ.take k)) ∧ Below w12.heap.size w12 wr)
                      case atStart => exact ⟨0, _, by simp, rfl, rfl, hK0, q3⟩
                      case round =>
                        obtain ⟨k, kst, hkg, rfl, rfl, hKo, hbk⟩ := hrel
                        clear hK0 q3
                        have hGk := (hbk.block g9 hg12).trans hG12
                        obtain ⟨⟨f0, f1, f2, f3, f4⟩, o0, o1, o2, o3, o4⟩ := lg_cells hGk
                        obtain ⟨z0, z1, z2, z3⟩ := HZ2.out _ hbk
                        have hlz : (ltZ ix2 (OZ.take k)).length ≤ 10000000000 := by
                          have h1 := ltZ_len ix2 (OZ.take k)
                          have h2 : (OZ.take k).length ≤ OZ.length := by rw [List.length_take]; omega
                          omega
                        obtain ⟨ka9, kc9, hkst, -⟩ := hKo.1.shape
                        by_cases hlk : k < OZ.length
                        · have hlki : (k : Int) < (OZ.length : Int) := by omega
                          have hy : OZ[k]? = some OZ[k] := List.getElem?_eq_getElem hlk
                          obtain ⟨y, hyy⟩ : ∃ y, y = OZ[k] := ⟨_, rfl⟩
                          rw [← hyy] at hy
                          clear hyy
                          obtain ⟨py, poff, rfl, cy⟩ := rde_at hO12.1.rd hy
                          obtain ⟨y0, y1, y2, y3⟩ := cy wr hbk
                          have HKS := ltZ_at hy ix2
                          have hrunH : Hid _ := push_ent y hKo.1 hlz
                          obtain ⟨⟨iy, ty, ky, dy⟩, say, sny, scy⟩ := y
                          dsimp only at y0 y1 y2 y3 HKS hrunH
                          by_cases hlt2 : iy < ix2
                          · have hlt2i : (iy : Int) < (ix2 : Int) := by omega
                            have hlt2d : decide (iy < ix2) = true := by simpa using hlt2
                            rw [if_pos hlt2] at HKS
                            have HKH : Hid (_ = _) := HKS
                            clear HKS cy hy hlt2
                            generalize ltZ ix2 (OZ.take k) = LK at *
                            subst hkst
                            go_wp2
                            go_quiet (fail)
                            have hKq := hKo.below (below_dN (Below.refl _ wr) nq)
                            have hbq : Below w12.heap.size w12 (wr.drewN nq) := below_dN hbk nq
                            have hrunH2 : Hid _ := push_ent (⟨iy, ty, ky, dy⟩, say, sny, scy) hKq.1 hlz
                            dsimp only at hrunH2
                            have hGq := (hbq.block g9 hg12).trans hG12
                            obtain ⟨-, r0, r1, r2, r3, r4⟩ := lg_cells hGq
                            have YQ : (wr.drewN nq).cell? ⟨py, poff + k * 4, none⟩ = some (.int .u64 (iy : Int)) ∧ (wr.drewN nq).cell? ⟨py, poff + k * 4 + 1, none⟩ = some (.int .u64 (ty : Int)) ∧ (wr.drewN nq).cell? ⟨py, poff + k * 4 + 2, none⟩ = some (.int .i64 ky) ∧ (wr.drewN nq).cell? ⟨py, poff + k * 4 + 3, none⟩ = some (.slice say sny scy) := ⟨y0, y1, y2, y3⟩
                            clear hKo hbk hrunH f0 f1 f2 f3 f4 o0 o1 o2 o3 o4 y0 y1 y2 y3 z0 z1 z2 z3 hGk
                            generalize wr.drewN nq = wr at *
                            obtain ⟨y0, y1, y2, y3⟩ := YQ
                            go_wp2_with (at_builtin; refine wp_by rfl _ _ _ rfl _ _ rfl rfl hrunH2.out ?_)
                            intro v6 w6 hp6
                            obtain ⟨hO6, hb6⟩ := hKq.push hbq.size hp6
                            rw [← HKH.out] at hO6
                            clear hp6 hrunH2 hKq HKH
                            go_wp2
                            go_roundg (gk - 1)
                            case measure => omega
                            case rel => exact ⟨k + 1, v6, by omega, by go_num, rfl, hO6, hbq.trans hb6⟩
                          · have hlt2i : ¬ (iy : Int) < (ix2 : Int) := by omega
                            have hlt2d : decide (iy < ix2) = false := by simpa using hlt2
                            rw [if_neg hlt2] at HKS
                            have HKH : Hid (_ = _) := HKS
                            clear HKS cy hy hlt2 hrunH
                            subst hkst
                            go_wp2
                            go_quiet (fail)
                            go_wp2
                            go_roundg (gk - 1)
                            case measure => omega
                            case rel => exact ⟨k + 1, _, by omega, by go_num, rfl, by rw [HKH.out]; exact hKo.below (below_dN (Below.refl _ wr) nq), below_dN hbk nq⟩
                        · have hlki : ¬ (k : Int) < (OZ.length : Int) := by omega
                          rw [List.take_of_length_le (by omega)] at hKo hkst hlz
                          have hrunH : Hid _ := push_ent (⟨ix2, tm2, kd2, dt2⟩, sa2, sn2, sc2) hKo.1 hlz
                          dsimp only at hrunH
                          generalize ltZ ix2 OZ = LK at *
                          subst hkst
                          clear hO12
                          go_wp2_with (at_builtin; refine wp_by rfl _ _ _ rfl _ _ rfl rfl hrunH.out ?_)
                          intro v6 w6 hp6
                          obtain ⟨hO6, hb6⟩ := hKo.push hbk.size hp6
                          have hb126 := hbk.trans hb6
                          have hG6 := (hb126.block g9 hg12).trans hG12
                          obtain ⟨⟨g0, g1, g2, g3, g4⟩, r0, r1, r2, r3, r4⟩ := lg_cells hG6
                          clear hp6 hrunH hKo f0 f1 f2 f3 f4 o0 o1 o2 o3 o4 z0 z1 z2 z3 hGk hbk hb6 hG12
                          generalize LK ++ [((⟨ix2, tm2, kd2, dt2⟩, sa2, sn2, sc2) : Ez)] = L6 at *
                          obtain ⟨va6, vc6, hv6, -⟩ := hO6.1.shape
                          generalize hn6 : L6.length = n6 at hv6
                          subst hv6
                          have hGf := lg_set4 hG6 (.slice va6 n6 vc6)
                          have hOf : Ow entE 25 w4.heap.size _ _ _ := ⟨rk_farT (i := 4) hO6.1 hG6 (.slice va6 n6 vc6), fun k hk => Nat.le_trans hb12.size (hO6.2 k hk)⟩
                          have hbf := (hb12.trans (hb126.mono hb12.size)).setCell (p := ⟨g9, 4, none⟩) hgg (.slice va6 n6 vc6)
                          clear hO6 hn6
                          go_wp2
                          go_roundg (go - 1)
                          case measure => omega
                          case rel => exact ⟨i + 1, _, L6, by omega, by go_num, hGf, hOf, HM6, HZ6, hbf⟩
                    | some t9 =>
                      have ht9 : ¬ t9 = tm2 := fun e => hTy (by rw [e])
                      have ht9b : ((t9 : Int) == (tm2 : Int)) = false := by simp; omega
                      have ht9i : ¬ (t9 : Int) = (tm2 : Int) := by omega
                      clear hTy ht9
                      subst hst0
                      go_wp2
                      (try simp only [Exit.inBlock, Exit.then])
                      refine wp_region_L (fun W => Below wr.heap.size wr W) [] (by kernel_rfl) ?_
                      have hS0 : (fun W => Below wr.heap.size wr W) wr.drew := (Below.refl _ wr).drew
                      generalize wr.drew = W0 at *
                      refine wpAnyL_take 0 rfl (by kernel_rfl) (by kernel_rfl) (by kernel_rfl) (by kernel_rfl) (fun _ _ _ h => h) (by kernel_rfl) (by intro w' hS'; have hz := hS'; obtain ⟨-, a0, a1, a2, a3, a4⟩ := lg_cells ((hz.block g9 hglt).trans hG); obtain ⟨z0, z1, z2, z3⟩ := HZ.out _ hz; go_simp <;> rfl) hS0 ?_
                      try simp only [List.getElem_toArray, List.getElem_cons_succ, List.getElem_cons_zero, Act.put, List.setIfInBounds_toArray, List.set_cons_zero, List.set_cons_succ]
                      refine wpAnyL_take 1 rfl (by kernel_rfl) (by kernel_rfl) (by kernel_rfl) (by kernel_rfl) (fun _ _ _ h => h) (by kernel_rfl) (by intro w' hS'; have hz := hS'; obtain ⟨-, a0, a1, a2, a3, a4⟩ := lg_cells ((hz.block g9 hglt).trans hG); obtain ⟨z0, z1, z2, z3⟩ := HZ.out _ hz; go_simp <;> rfl) hS0 ?_
                      try simp only [List.getElem_toArray, List.getElem_cons_succ, List.getElem_cons_zero, Act.put, List.setIfInBounds_toArray, List.set_cons_zero, List.set_cons_succ]
                      refine wpAnyL_take 2 rfl (by kernel_rfl) (by kernel_rfl) (by kernel_rfl) (by kernel_rfl) (fun _ _ _ h => h) (by kernel_rfl) (by intro w' hS'; have hz := hS'; obtain ⟨-, a0, a1, a2, a3, a4⟩ := lg_cells ((hz.block g9 hglt).trans hG); obtain ⟨z0, z1, z2, z3⟩ := HZ.out _ hz; go_simp <;> rfl) hS0 ?_
                      try simp only [List.getElem_toArray, List.getElem_cons_succ, List.getElem_cons_zero, Act.put, List.setIfInBounds_toArray, List.set_cons_zero, List.set_cons_succ]
                      refine wpAnyL_take 3 rfl (by kernel_rfl) (by kernel_rfl) (by kernel_rfl) (by kernel_rfl) (fun _ _ _ h => h) (by kernel_rfl) (by intro w' hS'; have hz := hS'; obtain ⟨-, a0, a1, a2, a3, a4⟩ := lg_cells ((hz.block g9 hglt).trans hG); obtain ⟨z0, z1, z2, z3⟩ := HZ.out _ hz; go_simp <;> rfl) hS0 ?_
                      try simp only [List.getElem_toArray, List.getElem_cons_succ, List.getElem_cons_zero, Act.put, List.setIfInBounds_toArray, List.set_cons_zero, List.set_cons_succ]
                      refine wpAnyL_take 4 rfl (by kernel_rfl) (by kernel_rfl) (by kernel_rfl) (by kernel_rfl) (fun _ _ _ h => h) (by kernel_rfl) (by intro w' hS'; have hz := hS'; obtain ⟨-, a0, a1, a2, a3, a4⟩ := lg_cells ((hz.block g9 hglt).trans hG); obtain ⟨z0, z1, z2, z3⟩ := HZ.out _ hz; go_simp <;> rfl) hS0 ?_
                      try simp only [List.getElem_toArray, List.getElem_cons_succ, List.getElem_cons_zero, Act.put, List.setIfInBounds_toArray, List.set_cons_zero, List.set_cons_succ]
                      refine wpAnyL_take 5 rfl (by kernel_rfl) (by kernel_rfl) (by kernel_rfl) (by kernel_rfl) (fun _ _ _ h => h) (by kernel_rfl) (by intro w' hS'; have hz := hS'; obtain ⟨-, a0, a1, a2, a3, a4⟩ := lg_cells ((hz.block g9 hglt).trans hG); obtain ⟨z0, z1, z2, z3⟩ := HZ.out _ hz; go_simp <;> rfl) hS0 ?_
                      try simp only [List.getElem_toArray, List.getElem_cons_succ, List.getElem_cons_zero, Act.put, List.setIfInBounds_toArray, List.set_cons_zero, List.set_cons_succ]
                      refine wpAnyL_one 6 (by kernel_rfl) rfl (by kernel_rfl) ?_
                      intro K' hK'
                      go_simp
                      go_at_call 17
                      refine (KTe.out _ hS0).mono ?_
                      rintro e w12 ⟨rfl, hb1⟩
                      have hS1 : (fun W => Below wr.heap.size wr W) w12 := keep_on hS0 hb1
                      dsimp only [termV]
                      refine hK'.out _ _ (.inr hS1) ?_
                      clear hK' K'
                      try simp only [List.getElem_toArray, List.getElem_cons_succ, List.getElem_cons_zero, Act.put, List.setIfInBounds_toArray, List.set_cons_zero, List.set_cons_succ]
                      refine wpAnyL_take 7 rfl (by kernel_rfl) (by kernel_rfl) (by kernel_rfl) (by kernel_rfl) (fun _ _ _ h => h) (by kernel_rfl) (by intro w' hS'; have hz := hS'; obtain ⟨-, a0, a1, a2, a3, a4⟩ := lg_cells ((hz.block g9 hglt).trans hG); obtain ⟨z0, z1, z2, z3⟩ := HZ.out _ hz; go_simp <;> rfl) hS1 ?_
                      try simp only [List.getElem_toArray, List.getElem_cons_succ, List.getElem_cons_zero, Act.put, List.setIfInBounds_toArray, List.set_cons_zero, List.set_cons_succ]
                      refine wpAnyL_take 8 rfl (by kernel_rfl) (by kernel_rfl) (by kernel_rfl) (by kernel_rfl) (fun _ _ _ h => h) (by kernel_rfl) (by intro w' hS'; have hz := hS'; obtain ⟨-, a0, a1, a2, a3, a4⟩ := lg_cells ((hz.block g9 hglt).trans hG); obtain ⟨z0, z1, z2, z3⟩ := HZ.out _ hz; go_simp <;> rfl) hS1 ?_
                      try simp only [List.getElem_toArray, List.getElem_cons_succ, List.getElem_cons_zero, Act.put, List.setIfInBounds_toArray, List.set_cons_zero, List.set_cons_succ]
                      refine wpAnyL_take 9 rfl (by kernel_rfl) (by kernel_rfl) (by kernel_rfl) (by kernel_rfl) (fun _ _ _ h => h) (by kernel_rfl) (by intro w' hS'; have hz := hS'; obtain ⟨-, a0, a1, a2, a3, a4⟩ := lg_cells ((hz.block g9 hglt).trans hG); obtain ⟨z0, z1, z2, z3⟩ := HZ.out _ hz; go_simp <;> rfl) hS1 ?_
                      try simp only [List.getElem_toArray, List.getElem_cons_succ, List.getElem_cons_zero, Act.put, List.setIfInBounds_toArray, List.set_cons_zero, List.set_cons_succ]
                      refine wpAnyL_take 10 rfl (by kernel_rfl) (by kernel_rfl) (by kernel_rfl) (by kernel_rfl) (fun _ _ _ h => h) (by kernel_rfl) (by intro w' hS'; have hz := hS'; obtain ⟨-, a0, a1, a2, a3, a4⟩ := lg_cells ((hz.block g9 hglt).trans hG); obtain ⟨z0, z1, z2, z3⟩ := HZ.out _ hz; go_simp <;> rfl) hS1 ?_
                      try simp only [List.getElem_toArray, List.getElem_cons_succ, List.getElem_cons_zero, Act.put, List.setIfInBounds_toArray, List.set_cons_zero, List.set_cons_succ]
                      refine wpAnyL_take 11 rfl (by kernel_rfl) (by kernel_rfl) (by kernel_rfl) (by kernel_rfl) (fun _ _ _ h => h) (by kernel_rfl) (by intro w' hS'; have hz := hS'; obtain ⟨-, a0, a1, a2, a3, a4⟩ := lg_cells ((hz.block g9 hglt).trans hG); obtain ⟨z0, z1, z2, z3⟩ := HZ.out _ hz; go_simp <;> rfl) hS1 ?_
                      try simp only [List.getElem_toArray, List.getElem_cons_succ, List.getElem_cons_zero, Act.put, List.setIfInBounds_toArray, List.set_cons_zero, List.set_cons_succ]
                      refine wpAnyL_done (by kernel_rfl) (NoPanic.normal ?_) _
                      clear KTe
                      have hG12 := (hS1.block g9 hglt).trans hG
                      have hO12 := hO.below hS1
                      have hb12 := hb.trans (hS1.mono hb.size)
                      have HZ2 : Hid (∀ W, Below w12.heap.size w12 W → _) := fun W hW => HZ.out W (hS1.trans (hW.mono hS1.size))
                      have hg12 : g9 < w12.heap.size := Nat.lt_of_lt_of_le hglt hS1.size
                      obtain ⟨q1, q2, q3⟩ := one_box w12 (.cells #[] 25)
                      have hK0 : Ow entE 25 w12.heap.size (w12.alloc (.cells #[] 25)) (.slice (some ⟨w12.heap.size, 0, none⟩) 0 0) (ltZ ix2 (OZ.take 0)) := ⟨by rw [List.take_zero]; exact Rk.made (E := entE) (xs := []) q2 rfl (by unfold maxLen; simp), fun k hk => by cases hk; exact Nat.le_refl _⟩
                      obtain ⟨z0, z1, z2, z3⟩ := HZ2.out _ (Below.refl _ _)
                      clear q1 q2 hG hO HZ
                      go_wp2
                      generalize w12.alloc (.cells #[] 25) = w13 at *
                      clear z0 z1 z2 z3
                      go_loopg [17, 18] OZ.length (fun gh s17 s18 wr => ∃ (k : Nat) (kst : Value), k + gh = OZ.length ∧ s18 = .int .i64 (k : Int) ∧ kst = s17 ∧ Ow entE 25 w12.heap.size wr kst (ltZ ix2 (OZ.take k)) ∧ Below w12.heap.size w12 wr)
                      case atStart => exact ⟨0, _, by simp, rfl, rfl, hK0, q3⟩
                      case round =>
                        obtain ⟨k, kst, hkg, rfl, rfl, hKo, hbk⟩ := hrel
                        clear hK0 q3
                        have hGk := (hbk.block g9 hg12).trans hG12
                        obtain ⟨⟨f0, f1, f2, f3, f4⟩, o0, o1, o2, o3, o4⟩ := lg_cells hGk
                        obtain ⟨z0, z1, z2, z3⟩ := HZ2.out _ hbk
                        have hlz : (ltZ ix2 (OZ.take k)).length ≤ 10000000000 := by
                          have h1 := ltZ_len ix2 (OZ.take k)
                          have h2 : (OZ.take k).length ≤ OZ.length := by rw [List.length_take]; omega
                          omega
                        obtain ⟨ka9, kc9, hkst, -⟩ := hKo.1.shape
                        by_cases hlk : k < OZ.length
                        · have hlki : (k : Int) < (OZ.length : Int) := by omega
                          have hy : OZ[k]? = some OZ[k] := List.getElem?_eq_getElem hlk
                          obtain ⟨y, hyy⟩ : ∃ y, y = OZ[k] := ⟨_, rfl⟩
                          rw [← hyy] at hy
                          clear hyy
                          obtain ⟨py, poff, rfl, cy⟩ := rde_at hO12.1.rd hy
                          obtain ⟨y0, y1, y2, y3⟩ := cy wr hbk
                          have HKS := ltZ_at hy ix2
                          have hrunH : Hid _ := push_ent y hKo.1 hlz
                          obtain ⟨⟨iy, ty, ky, dy⟩, say, sny, scy⟩ := y
                          dsimp only at y0 y1 y2 y3 HKS hrunH
                          by_cases hlt2 : iy < ix2
                          · have hlt2i : (iy : Int) < (ix2 : Int) := by omega
                            have hlt2d : decide (iy < ix2) = true := by simpa using hlt2
                            rw [if_pos hlt2] at HKS
                            have HKH : Hid (_ = _) := HKS
                            clear HKS cy hy hlt2
                            generalize ltZ ix2 (OZ.take k) = LK at *
                            subst hkst
                            go_wp2
                            go_quiet (fail)
                            have hKq := hKo.below (below_dN (Below.refl _ wr) nq)
                            have hbq : Below w12.heap.size w12 (wr.drewN nq) := below_dN hbk nq
                            have hrunH2 : Hid _ := push_ent (⟨iy, ty, ky, dy⟩, say, sny, scy) hKq.1 hlz
                            dsimp only at hrunH2
                            have hGq := (hbq.block g9 hg12).trans hG12
                            obtain ⟨-, r0, r1, r2, r3, r4⟩ := lg_cells hGq
                            have YQ : (wr.drewN nq).cell? ⟨py, poff + k * 4, none⟩ = some (.int .u64 (iy : Int)) ∧ (wr.drewN nq).cell? ⟨py, poff + k * 4 + 1, none⟩ = some (.int .u64 (ty : Int)) ∧ (wr.drewN nq).cell? ⟨py, poff + k * 4 + 2, none⟩ = some (.int .i64 ky) ∧ (wr.drewN nq).cell? ⟨py, poff + k * 4 + 3, none⟩ = some (.slice say sny scy) := ⟨y0, y1, y2, y3⟩
                            clear hKo hbk hrunH f0 f1 f2 f3 f4 o0 o1 o2 o3 o4 y0 y1 y2 y3 z0 z1 z2 z3 hGk
                            generalize wr.drewN nq = wr at *
                            obtain ⟨y0, y1, y2, y3⟩ := YQ
                            go_wp2_with (at_builtin; refine wp_by rfl _ _ _ rfl _ _ rfl rfl hrunH2.out ?_)
                            intro v6 w6 hp6
                            obtain ⟨hO6, hb6⟩ := hKq.push hbq.size hp6
                            rw [← HKH.out] at hO6
                            clear hp6 hrunH2 hKq HKH
                            go_wp2
                            go_roundg (gk - 1)
                            case measure => omega
                            case rel => exact ⟨k + 1, v6, by omega, by go_num, rfl, hO6, hbq.trans hb6⟩
                          · have hlt2i : ¬ (iy : Int) < (ix2 : Int) := by omega
                            have hlt2d : decide (iy < ix2) = false := by simpa using hlt2
                            rw [if_neg hlt2] at HKS
                            have HKH : Hid (_ = _) := HKS
                            clear HKS cy hy hlt2 hrunH
                            subst hkst
                            go_wp2
                            go_quiet (fail)
                            go_wp2
                            go_roundg (gk - 1)
                            case measure => omega
                            case rel => exact ⟨k + 1, _, by omega, by go_num, rfl, by rw [HKH.out]; exact hKo.below (below_dN (Below.refl _ wr) nq), below_dN hbk nq⟩
                        · have hlki : ¬ (k : Int) < (OZ.length : Int) := by omega
                          rw [List.take_of_length_le (by omega)] at hKo hkst hlz
                          have hrunH : Hid _ := push_ent (⟨ix2, tm2, kd2, dt2⟩, sa2, sn2, sc2) hKo.1 hlz
                          dsimp only at hrunH
                          generalize ltZ ix2 OZ = LK at *
                          subst hkst
                          clear hO12
                          go_wp2_with (at_builtin; refine wp_by rfl _ _ _ rfl _ _ rfl rfl hrunH.out ?_)
                          intro v6 w6 hp6
                          obtain ⟨hO6, hb6⟩ := hKo.push hbk.size hp6
                          have hb126 := hbk.trans hb6
                          have hG6 := (hb126.block g9 hg12).trans hG12
                          obtain ⟨⟨g0, g1, g2, g3, g4⟩, r0, r1, r2, r3, r4⟩ := lg_cells hG6
                          clear hp6 hrunH hKo f0 f1 f2 f3 f4 o0 o1 o2 o3 o4 z0 z1 z2 z3 hGk hbk hb6 hG12
                          generalize LK ++ [((⟨ix2, tm2, kd2, dt2⟩, sa2, sn2, sc2) : Ez)] = L6 at *
                          obtain ⟨va6, vc6, hv6, -⟩ := hO6.1.shape
                          generalize hn6 : L6.length = n6 at hv6
                          subst hv6
                          have hGf := lg_set4 hG6 (.slice va6 n6 vc6)
                          have hOf : Ow entE 25 w4.heap.size _ _ _ := ⟨rk_farT (i := 4) hO6.1 hG6 (.slice va6 n6 vc6), fun k hk => Nat.le_trans hb12.size (hO6.2 k hk)⟩
                          have hbf := (hb12.trans (hb126.mono hb12.size)).setCell (p := ⟨g9, 4, none⟩) hgg (.slice va6 n6 vc6)
                          clear hO6 hn6
                          go_wp2
                          go_roundg (go - 1)
                          case measure => omega
                          case rel => exact ⟨i + 1, _, L6, by omega, by go_num, hGf, hOf, HM6, HZ6, hbf⟩
                · have hlti : ¬ (i : Int) < (ys.length : Int) := by omega
                  have HMF : Hid (mes OZ = (mes ys).foldl (stepM ⟨ix, tm, kd, dt⟩) (mes zs)) := by
                    show _ = _
                    rw [HM.out, List.take_of_length_le (by simp [mes]; omega)]
                  have hml : (mes OZ).length = OZ.length := by simp [mes]
                  have hRR := HRF.out
                  rw [← HMF.out, hml] at hRR
                  have hbwr := hbw4.trans (hb.mono hbw4.size)
                  have qr := (hb.block (w.heap.size + 1) (by omega)).trans q44
                  obtain ⟨⟨f0, f1, f2, f3, f4⟩, o0, o1, o2, o3, o4⟩ := lg_cells qr
                  obtain ⟨⟨f0', f1', f2', f3', f4'⟩, o0', o1', o2', o3', o4'⟩ := lg_cells hG
                  have hDr := HDB.out wr hbwr
                  have hEr : EntsV wr st OZ := ⟨hO.1.rd, fun y hy => (HZI.out y hy).elim (fun h => HDZ.out y h wr hbwr) (fun h => HDY.out y h wr hbwr)⟩
                  obtain ⟨sta0, stc0, hst0, -⟩ := hO.1.shape
                  have hgne : w.heap.size + 1 ≠ g9 := by omega
                  by_cases h4 : 4096 < OZ.length
                  · have h4i : (4096 : Int) < (OZ.length : Int) := by omega
                    rw [if_pos h4] at hRR
                    have E : Hid (_ = _) := hRR
                    subst hst0
                    clear HM HMF hRR hEr hDr hO
                    go_wp2
                    (try simp only [Exit.inBlock, Exit.then])
                    refine bodyPost_ret (results_lg3 rfl _ _ (w.heap.size + 1) _ _ _ _ _ rfl (lg_set qr _ _ _ _ _)) rfl ?_
                    exact ⟨lg3_none _ E.out, lg_set_below hbwr (by omega) _ _ _ _ _⟩
                  · have h4i : ¬ (4096 : Int) < (OZ.length : Int) := by omega
                    rw [if_neg h4] at hRR
                    have E : Hid (_ = _) := hRR
                    have HF := lg_set qr (.int .u64 (ix : Int)) (.int .u64 (tm : Int)) (.int .i64 kd) (.slice sa sn sc) st
                    have hbf := lg_set_below hbwr (g := w.heap.size + 1) (by omega) (.int .u64 (ix : Int)) (.int .u64 (tm : Int)) (.int .i64 kd) (.slice sa sn sc) st
                    have OF := rk_farT5 (g := w.heap.size + 1) hO.1 qr (.int .u64 (ix : Int)) (.int .u64 (tm : Int)) (.int .i64 kd) (.slice sa sn sc) st
                    have hfin : Hid (Lg3T R (.returned (.tuple #[.agg #[.int .u64 (ix : Int), .int .u64 (tm : Int), .int .i64 kd, .slice sa sn sc, st], .int .u64 (x9 : Int), .int .i64 0])) (((((wr.setCell ⟨w.heap.size + 1, 0, none⟩ (.int .u64 (ix : Int))).setCell ⟨w.heap.size + 1, 1, none⟩ (.int .u64 (tm : Int))).setCell ⟨w.heap.size + 1, 2, none⟩ (.int .i64 kd)).setCell ⟨w.heap.size + 1, 3, none⟩ (.slice sa sn sc)).setCell ⟨w.heap.size + 1, 4, none⟩ st)) := by
                      show Lg3T R _ _
                      rw [E.out, HX9.out]
                      exact ⟨_, rfl, (sa, sn, sc), OZ, st, rfl, HDB.out _ hbf, ⟨OF.rd, fun y hy => (HZI.out y hy).elim (fun h => HDZ.out y h _ hbf) (fun h => HDY.out y h _ hbf)⟩, rfl⟩
                    clear HM HMF hRR hEr hDr hO OF E
                    subst hst0
                    go_wp2
                    (try simp only [Exit.inBlock, Exit.then])
                    refine bodyPost_ret (results_lg3 rfl _ _ (w.heap.size + 1) _ _ _ _ _ rfl HF) rfl ?_
                    exact ⟨hfin.out, hbf⟩
          · intro K' hK'
            go_simp
            have hS1 : (fun W => Below w4.heap.size w4 W) (W0.alloc (.cells #[.int .u64 0, .int .u64 0, .int .i64 0, .slice none 0 0, .slice none 0 0] 28)) := hS0.alloc hS0.size _
            have G1 : (W0.alloc (.cells #[.int .u64 0, .int .u64 0, .int .i64 0, .slice none 0 0, .slice none 0 0] 28)).heap[W0.heap.size]? = _ := heap_alloc_new _ _
            have hgg : w4.heap.size ≤ W0.heap.size := hS0.size
            refine hK'.out _ _ (.inr hS1) ?_
            clear hK' K'
            try simp only [List.getElem_toArray, List.getElem_cons_succ, List.getElem_cons_zero, Act.put, List.setIfInBounds_toArray, List.set_cons_zero, List.set_cons_succ]
            generalize W0.alloc (.cells #[.int .u64 0, .int .u64 0, .int .i64 0, .slice none 0 0, .slice none 0 0] 28) = W1 at *
            refine wpAnyL_one 2 (by kernel_rfl) rfl (by kernel_rfl) ?_
            intro K' hK'
            go_simp
            have hS2 : (fun W => Below w4.heap.size w4 W) (W1.alloc (.cells #[] 25)) := hS1.alloc hS1.size _
            have R2 : Rk entE (W1.alloc (.cells #[] 25)) 25 (.slice (some ⟨W1.heap.size, 0, none⟩) 0 0) [] := Rk.made (E := entE) (xs := []) (heap_alloc_new _ _) rfl (by unfold maxLen; simp)
            have hv0 : w4.heap.size ≤ W1.heap.size := hS1.size
            have G2 : (W1.alloc (.cells #[] 25)).heap[W0.heap.size]? = _ := (heap_alloc_old _ _ ((Array.getElem?_eq_some_iff.1 G1).1)).trans G1
            refine hK'.out _ _ (.inr hS2) ?_
            clear hK' K'
            try simp only [List.getElem_toArray, List.getElem_cons_succ, List.getElem_cons_zero, Act.put, List.setIfInBounds_toArray, List.set_cons_zero, List.set_cons_succ]
            generalize W1.alloc (.cells #[] 25) = W2 at *
            refine wpAnyL_one 5 (by kernel_rfl) rfl (by kernel_rfl) ?_
            intro K' hK'
            have rH : Hid _ := app_ents R2 (HLW.out _ hS2) (by simp) hzl9
            refine op_by _ _ _ rfl _ _ rfl rfl rH.out ?_
            intro v9 W3 p3
            have hO9 : ∀ k, v9.ownBlock = some k → w4.heap.size ≤ k := fun k hk => by
              rcases p3.2.2 k hk with h | h
              · cases h; exact hv0
              · exact Nat.le_trans hS2.size h
            have hS3 : (fun W => Below w4.heap.size w4 W) W3 := hS2.trans (grown_below p3.2.1 hS2.size (fun k hk => by cases hk; exact hv0))
            have G3 := (p3.2.1.block W0.heap.size ((Array.getElem?_eq_some_iff.1 G2).1) (fun e => by
              obtain ⟨cs, hc⟩ := Rk.block R2 e.symm
              rw [G2] at hc
              simp at hc)).trans G2
            have R3 := p3.1
            rw [List.nil_append] at R3
            obtain ⟨va9, vc9, hv9, -⟩ := R3.shape
            subst hv9
            clear rH p3
            refine hK'.out _ _ (.inr hS3) ?_
            clear hK' K'
            try simp only [List.getElem_toArray, List.getElem_cons_succ, List.getElem_cons_zero, Act.put, List.setIfInBounds_toArray, List.set_cons_zero, List.set_cons_succ]
            refine wpAnyL_take 6 rfl (by kernel_rfl) (by kernel_rfl) (by kernel_rfl) (by kernel_rfl) (fun _ _ _ h => h) (by kernel_rfl) (by intro w' hS'; have hz := hS'; obtain ⟨c0, c1, c2, c3, c4⟩ := HCL.out _ hz; go_simp <;> rfl) hS3 ?_
            try simp only [List.getElem_toArray, List.getElem_cons_succ, List.getElem_cons_zero, Act.put, List.setIfInBounds_toArray, List.set_cons_zero, List.set_cons_succ]
            refine wpAnyL_one 8 (by kernel_rfl) rfl (by kernel_rfl) ?_
            intro K' hK'
            go_simp
            obtain ⟨⟨f0, f1, f2, f3, f4⟩, o0, o1, o2, o3, o4⟩ := lg_cells G3
            have hS9 : (fun W => Below w4.heap.size w4 W) _ := lg_set_below hS3 (g := W0.heap.size) hgg (.int .u64 (ix : Int)) (.int .u64 (tm : Int)) (.int .i64 kd) (.slice sa sn sc) (.slice va9 zs.length vc9)
            have HF := lg_set G3 (.int .u64 (ix : Int)) (.int .u64 (tm : Int)) (.int .i64 kd) (.slice sa sn sc) (.slice va9 zs.length vc9)
            have O9 := rk_farT5 (g := W0.heap.size) R3 G3 (.int .u64 (ix : Int)) (.int .u64 (tm : Int)) (.int .i64 kd) (.slice sa sn sc) (.slice va9 zs.length vc9)
            go_simp
            refine hK'.out _ _ (.inr hS9) ?_
            clear hK' K'
            try simp only [List.getElem_toArray, List.getElem_cons_succ, List.getElem_cons_zero, Act.put, List.setIfInBounds_toArray, List.set_cons_zero, List.set_cons_succ]
            refine wpAnyL_done (by kernel_rfl) (NoPanic.normal ?_) _
            generalize (((((W3.setCell ⟨W0.heap.size, 0, none⟩ (.int .u64 (ix : Int))).setCell ⟨W0.heap.size, 1, none⟩ (.int .u64 (tm : Int))).setCell ⟨W0.heap.size, 2, none⟩ (.int .i64 kd)).setCell ⟨W0.heap.size, 3, none⟩ (.slice sa sn sc)).setCell ⟨W0.heap.size, 4, none⟩ (.slice va9 zs.length vc9)) = w9 at *
            generalize W0.heap.size = g9 at *
            clear G3 R3 f0 f1 f2 f3 f4 o0 o1 o2 o3 o4 HLW
            have hO9w : Ow entE 25 w4.heap.size w9 (.slice va9 zs.length vc9) zs := ⟨O9, hO9⟩
            clear O9 hO9
            go_wp2
            go_loopg [14, 15, 16, 17, 18] ys.length (fun gh s s15 s16 s17 s18 wr => ∃ (i : Nat) (st : Value) (OZ : List Ez), i + gh = ys.length ∧ s = .int .i64 (i : Int) ∧ wr.heap[g9]? = some (.cells #[.int .u64 (ix : Int), .int .u64 (tm : Int), .int .i64 kd, .slice sa sn sc, st] 28 (0, 0)) ∧ Ow entE 25 w4.heap.size wr st OZ ∧ Hid (mes OZ = ((mes ys).take i).foldl (stepM ⟨ix, tm, kd, dt⟩) (mes zs)) ∧ Hid (∀ z ∈ OZ, z ∈ zs ∨ z ∈ ys) ∧ Below w4.heap.size w4 wr)
            case atStart => exact ⟨0, _, zs, by simp, rfl, HF, hO9w, by rw [List.take_zero]; exact rfl, fun z hz => .inl hz, hS9⟩
            case round =>
              obtain ⟨i, st, OZ, hig, rfl, hG, hO, HM, HZI, hb⟩ := hrel
              obtain ⟨go, hgo⟩ : ∃ go, go = gk := ⟨_, rfl⟩
              clear hO9w HF hS9
              have hglt : g9 < wr.heap.size := (Array.getElem?_eq_some_iff.1 hG).1
              have hlO : OZ.length ≤ 8000000 := by
                have h1 := congrArg List.length HM.out
                have h2 := fold_len (b := ⟨ix, tm, kd, dt⟩) ((mes ys).take i) (mes zs)
                simp only [mes, List.length_map, List.length_take] at h1 h2
                omega
              by_cases hlt : i < ys.length
              · have hlti : (i : Int) < (ys.length : Int) := by omega
                have hz : ys[i]? = some ys[i] := List.getElem?_eq_getElem hlt
                obtain ⟨z, hzz⟩ : ∃ z, z = ys[i] := ⟨_, rfl⟩
                rw [← hzz] at hz
                clear hzz
                obtain ⟨p, off, rfl, c⟩ := rde_at HYR.out hz
                have HZ : Hid (∀ W, Below wr.heap.size wr W → _) := fun W hW => c W (hbw4.trans ((hb.trans (hW.mono hb.size)).mono hbw4.size))
                have hE : EntsV wr st OZ := ⟨hO.1.rd, fun y hy => (HZI.out y hy).elim (fun h => HDZ.out y h wr (hbw4.trans (hb.mono hbw4.size))) (fun h => HDY.out y h wr (hbw4.trans (hb.mono hbw4.size)))⟩
                have KTe : Hid (∀ W, Below wr.heap.size wr W → _) := fun W hW => rterm_of (⟨ix, tm, kd, dt⟩, sa, sn, sc) OZ st z.1.idx W (hE.below hW) (by omega)
                have HM5 : Hid (((mes ys).take (i + 1)).foldl (stepM ⟨ix, tm, kd, dt⟩) (mes zs) = stepM ⟨ix, tm, kd, dt⟩ (mes OZ) z.1) := by
                  show _ = _
                  rw [take_succ_get (mes_at hz), List.foldl_append, ← HM.out]
                  rfl
                have HYES : Hid (termM ⟨ix, tm, kd, dt⟩ (mes OZ) z.1.idx = some z.1.term → Hid (mes OZ = ((mes ys).take (i + 1)).foldl (stepM ⟨ix, tm, kd, dt⟩) (mes zs))) := fun h => by
                  show _ = _
                  rw [HM5.out]
                  unfold stepM
                  rw [if_pos h]
                have HNO : Hid (¬ termM ⟨ix, tm, kd, dt⟩ (mes OZ) z.1.idx = some z.1.term → Hid (mes (ltZ z.1.idx OZ ++ [z]) = ((mes ys).take (i + 1)).foldl (stepM ⟨ix, tm, kd, dt⟩) (mes zs))) := fun h => by
                  show _ = _
                  rw [HM5.out]
                  unfold stepM
                  rw [if_neg h]
                  show List.map _ _ = _
                  rw [List.map_append, ← ltZ_M]
                  rfl
                have HZ6 : Hid (∀ y ∈ ltZ z.1.idx OZ ++ [z], y ∈ zs ∨ y ∈ ys) := fun y hy => by
                  rw [List.mem_append, List.mem_singleton] at hy
                  rcases hy with hy | rfl
                  · exact HZI.out y (List.mem_filter.1 hy).1
                  · exact .inr (List.mem_of_getElem? hz)
                obtain ⟨⟨ix2, tm2, kd2, dt2⟩, sa2, sn2, sc2⟩ := z
                dsimp only [lgv] at *
                generalize hTT : termM ⟨ix, tm, kd, dt⟩ (mes OZ) ix2 = TT at *
                clear hTT hz c HM5 hE HM
                obtain ⟨sta0, stc0, hst0, -⟩ := hO.1.shape
                by_cases hTy : TT = some tm2
                · have HM6 := HYES.out hTy
                  subst hTy
                  clear HNO HYES HZ6
                  subst hst0
                  go_wp2
                  (try simp only [Exit.inBlock, Exit.then])
                  refine wp_region_L (fun W => Below wr.heap.size wr W) [] (by kernel_rfl) ?_
                  have hS0 : (fun W => Below wr.heap.size wr W) wr.drew := (Below.refl _ wr).drew
                  generalize wr.drew = W0 at *
                  refine wpAnyL_take 0 rfl (by kernel_rfl) (by kernel_rfl) (by kernel_rfl) (by kernel_rfl) (fun _ _ _ h => h) (by kernel_rfl) (by intro w' hS'; have hz := hS'; obtain ⟨-, a0, a1, a2, a3, a4⟩ := lg_cells ((hz.block g9 hglt).trans hG); obtain ⟨z0, z1, z2, z3⟩ := HZ.out _ hz; go_simp <;> rfl) hS0 ?_
                  try simp only [List.getElem_toArray, List.getElem_cons_succ, List.getElem_cons_zero, Act.put, List.setIfInBounds_toArray, List.set_cons_zero, List.set_cons_succ]
                  refine wpAnyL_take 1 rfl (by kernel_rfl) (by kernel_rfl) (by kernel_rfl) (by kernel_rfl) (fun _ _ _ h => h) (by kernel_rfl) (by intro w' hS'; have hz := hS'; obtain ⟨-, a0, a1, a2, a3, a4⟩ := lg_cells ((hz.block g9 hglt).trans hG); obtain ⟨z0, z1, z2, z3⟩ := HZ.out _ hz; go_simp <;> rfl) hS0 ?_
                  try simp only [List.getElem_toArray, List.getElem_cons_succ, List.getElem_cons_zero, Act.put, List.setIfInBounds_toArray, List.set_cons_zero, List.set_cons_succ]
                  refine wpAnyL_take 2 rfl (by kernel_rfl) (by kernel_rfl) (by kernel_rfl) (by kernel_rfl) (fun _ _ _ h => h) (by kernel_rfl) (by intro w' hS'; have hz := hS'; obtain ⟨-, a0, a1, a2, a3, a4⟩ := lg_cells ((hz.block g9 hglt).trans hG); obtain ⟨z0, z1, z2, z3⟩ := HZ.out _ hz; go_simp <;> rfl) hS0 ?_
                  try simp only [List.getElem_toArray, List.getElem_cons_succ, List.getElem_cons_zero, Act.put, List.setIfInBounds_toArray, List.set_cons_zero, List.set_cons_succ]
                  refine wpAnyL_take 3 rfl (by kernel_rfl) (by kernel_rfl) (by kernel_rfl) (by kernel_rfl) (fun _ _ _ h => h) (by kernel_rfl) (by intro w' hS'; have hz := hS'; obtain ⟨-, a0, a1, a2, a3, a4⟩ := lg_cells ((hz.block g9 hglt).trans hG); obtain ⟨z0, z1, z2, z3⟩ := HZ.out _ hz; go_simp <;> rfl) hS0 ?_
                  try simp only [List.getElem_toArray, List.getElem_cons_succ, List.getElem_cons_zero, Act.put, List.setIfInBounds_toArray, List.set_cons_zero, List.set_cons_succ]
                  refine wpAnyL_take 4 rfl (by kernel_rfl) (by kernel_rfl) (by kernel_rfl) (by kernel_rfl) (fun _ _ _ h => h) (by kernel_rfl) (by intro w' hS'; have hz := hS'; obtain ⟨-, a0, a1, a2, a3, a4⟩ := lg_cells ((hz.block g9 hglt).trans hG); obtain ⟨z0, z1, z2, z3⟩ := HZ.out _ hz; go_simp <;> rfl) hS0 ?_
                  try simp only [List.getElem_toArray, List.getElem_cons_succ, List.getElem_cons_zero, Act.put, List.setIfInBounds_toArray, List.set_cons_zero, List.set_cons_succ]
                  refine wpAnyL_take 5 rfl (by kernel_rfl) (by kernel_rfl) (by kernel_rfl) (by kernel_rfl) (fun _ _ _ h => h) (by kernel_rfl) (by intro w' hS'; have hz := hS'; obtain ⟨-, a0, a1, a2, a3, a4⟩ := lg_cells ((hz.block g9 hglt).trans hG); obtain ⟨z0, z1, z2, z3⟩ := HZ.out _ hz; go_simp <;> rfl) hS0 ?_
                  try simp only [List.getElem_toArray, List.getElem_cons_succ, List.getElem_cons_zero, Act.put, List.setIfInBounds_toArray, List.set_cons_zero, List.set_cons_succ]
                  refine wpAnyL_one 6 (by kernel_rfl) rfl (by kernel_rfl) ?_
                  intro K' hK'
                  go_simp
                  go_at_call 17
                  refine (KTe.out _ hS0).mono ?_
                  rintro e w12 ⟨rfl, hb1⟩
                  have hS1 : (fun W => Below wr.heap.size wr W) w12 := keep_on hS0 hb1
                  dsimp only [termV]
                  refine hK'.out _ _ (.inr hS1) ?_
                  clear hK' K'
                  try simp only [List.getElem_toArray, List.getElem_cons_succ, List.getElem_cons_zero, Act.put, List.setIfInBounds_toArray, List.set_cons_zero, List.set_cons_succ]
                  refine wpAnyL_take 7 rfl (by kernel_rfl) (by kernel_rfl) (by kernel_rfl) (by kernel_rfl) (fun _ _ _ h => h) (by kernel_rfl) (by intro w' hS'; have hz := hS'; obtain ⟨-, a0, a1, a2, a3, a4⟩ := lg_cells ((hz.block g9 hglt).trans hG); obtain ⟨z0, z1, z2, z3⟩ := HZ.out _ hz; go_simp <;> rfl) hS1 ?_
                  try simp only [List.getElem_toArray, List.getElem_cons_succ, List.getElem_cons_zero, Act.put, List.setIfInBounds_toArray, List.set_cons_zero, List.set_cons_succ]
                  refine wpAnyL_take 8 rfl (by kernel_rfl) (by kernel_rfl) (by kernel_rfl) (by kernel_rfl) (fun _ _ _ h => h) (by kernel_rfl) (by intro w' hS'; have hz := hS'; obtain ⟨-, a0, a1, a2, a3, a4⟩ := lg_cells ((hz.block g9 hglt).trans hG); obtain ⟨z0, z1, z2, z3⟩ := HZ.out _ hz; go_simp <;> rfl) hS1 ?_
                  try simp only [List.getElem_toArray, List.getElem_cons_succ, List.getElem_cons_zero, Act.put, List.setIfInBounds_toArray, List.set_cons_zero, List.set_cons_succ]
                  refine wpAnyL_take 9 rfl (by kernel_rfl) (by kernel_rfl) (by kernel_rfl) (by kernel_rfl) (fun _ _ _ h => h) (by kernel_rfl) (by intro w' hS'; have hz := hS'; obtain ⟨-, a0, a1, a2, a3, a4⟩ := lg_cells ((hz.block g9 hglt).trans hG); obtain ⟨z0, z1, z2, z3⟩ := HZ.out _ hz; go_simp <;> rfl) hS1 ?_
                  try simp only [List.getElem_toArray, List.getElem_cons_succ, List.getElem_cons_zero, Act.put, List.setIfInBounds_toArray, List.set_cons_zero, List.set_cons_succ]
                  refine wpAnyL_take 10 rfl (by kernel_rfl) (by kernel_rfl) (by kernel_rfl) (by kernel_rfl) (fun _ _ _ h => h) (by kernel_rfl) (by intro w' hS'; have hz := hS'; obtain ⟨-, a0, a1, a2, a3, a4⟩ := lg_cells ((hz.block g9 hglt).trans hG); obtain ⟨z0, z1, z2, z3⟩ := HZ.out _ hz; go_simp <;> rfl) hS1 ?_
                  try simp only [List.getElem_toArray, List.getElem_cons_succ, List.getElem_cons_zero, Act.put, List.setIfInBounds_toArray, List.set_cons_zero, List.set_cons_succ]
                  refine wpAnyL_take 11 rfl (by kernel_rfl) (by kernel_rfl) (by kernel_rfl) (by kernel_rfl) (fun _ _ _ h => h) (by kernel_rfl) (by intro w' hS'; have hz := hS'; obtain ⟨-, a0, a1, a2, a3, a4⟩ := lg_cells ((hz.block g9 hglt).trans hG); obtain ⟨z0, z1, z2, z3⟩ := HZ.out _ hz; go_simp <;> rfl) hS1 ?_
                  try simp only [List.getElem_toArray, List.getElem_cons_succ, List.getElem_cons_zero, Act.put, List.setIfInBounds_toArray, List.set_cons_zero, List.set_cons_succ]
                  refine wpAnyL_done (by kernel_rfl) (NoPanic.normal ?_) _
                  obtain ⟨z0, z1, z2, z3⟩ := HZ.out _ hS1
                  have hG12 := (hS1.block g9 hglt).trans hG
                  have hO12 := hO.below hS1
                  have hb12 := hb.trans (hS1.mono hb.size)
                  clear HZ KTe hG hO
                  go_wp2
                  go_roundg (go - 1)
                  case measure => omega
                  case rel => exact ⟨i + 1, _, OZ, by omega, by go_num, hG12, hO12, HM6, HZI, hb12⟩
                · have HM6 := HNO.out hTy
                  clear HNO HYES
                  cases TT with
                  | none =>
                    clear hTy
                    subst hst0
                    go_wp2
                    (try simp only [Exit.inBlock, Exit.then])
                    refine wp_region_L (fun W => Below wr.heap.size wr W) [] (by kernel_rfl) ?_
                    have hS0 : (fun W => Below wr.heap.size wr W) wr.drew := (Below.refl _ wr).drew
                    generalize wr.drew = W0 at *
                    refine wpAnyL_take 0 rfl (by kernel_rfl) (by kernel_rfl) (by kernel_rfl) (by kernel_rfl) (fun _ _ _ h => h) (by kernel_rfl) (by intro w' hS'; have hz := hS'; obtain ⟨-, a0, a1, a2, a3, a4⟩ := lg_cells ((hz.block g9 hglt).trans hG); obtain ⟨z0, z1, z2, z3⟩ := HZ.out _ hz; go_simp <;> rfl) hS0 ?_
                    try simp only [List.getElem_toArray, List.getElem_cons_succ, List.getElem_cons_zero, Act.put, List.setIfInBounds_toArray, List.set_cons_zero, List.set_cons_succ]
                    refine wpAnyL_take 1 rfl (by kernel_rfl) (by kernel_rfl) (by kernel_rfl) (by kernel_rfl) (fun _ _ _ h => h) (by kernel_rfl) (by intro w' hS'; have hz := hS'; obtain ⟨-, a0, a1, a2, a3, a4⟩ := lg_cells ((hz.block g9 hglt).trans hG); obtain ⟨z0, z1, z2, z3⟩ := HZ.out _ hz; go_simp <;> rfl) hS0 ?_
                    try simp only [List.getElem_toArray, List.getElem_cons_succ, List.getElem_cons_zero, Act.put, List.setIfInBounds_toArray, List.set_cons_zero, List.set_cons_succ]
                    refine wpAnyL_take 2 rfl (by kernel_rfl) (by kernel_rfl) (by kernel_rfl) (by kernel_rfl) (fun _ _ _ h => h) (by kernel_rfl) (by intro w' hS'; have hz := hS'; obtain ⟨-, a0, a1, a2, a3, a4⟩ := lg_cells ((hz.block g9 hglt).trans hG); obtain ⟨z0, z1, z2, z3⟩ := HZ.out _ hz; go_simp <;> rfl) hS0 ?_
                    try simp only [List.getElem_toArray, List.getElem_cons_succ, List.getElem_cons_zero, Act.put, List.setIfInBounds_toArray, List.set_cons_zero, List.set_cons_succ]
                    refine wpAnyL_take 3 rfl (by kernel_rfl) (by kernel_rfl) (by kernel_rfl) (by kernel_rfl) (fun _ _ _ h => h) (by kernel_rfl) (by intro w' hS'; have hz := hS'; obtain ⟨-, a0, a1, a2, a3, a4⟩ := lg_cells ((hz.block g9 hglt).trans hG); obtain ⟨z0, z1, z2, z3⟩ := HZ.out _ hz; go_simp <;> rfl) hS0 ?_
                    try simp only [List.getElem_toArray, List.getElem_cons_succ, List.getElem_cons_zero, Act.put, List.setIfInBounds_toArray, List.set_cons_zero, List.set_cons_succ]
                    refine wpAnyL_take 4 rfl (by kernel_rfl) (by kernel_rfl) (by kernel_rfl) (by kernel_rfl) (fun _ _ _ h => h) (by kernel_rfl) (by intro w' hS'; have hz := hS'; obtain ⟨-, a0, a1, a2, a3, a4⟩ := lg_cells ((hz.block g9 hglt).trans hG); obtain ⟨z0, z1, z2, z3⟩ := HZ.out _ hz; go_simp <;> rfl) hS0 ?_
                    try simp only [List.getElem_toArray, List.getElem_cons_succ, List.getElem_cons_zero, Act.put, List.setIfInBounds_toArray, List.set_cons_zero, List.set_cons_succ]
                    refine wpAnyL_take 5 rfl (by kernel_rfl) (by kernel_rfl) (by kernel_rfl) (by kernel_rfl) (fun _ _ _ h => h) (by kernel_rfl) (by intro w' hS'; have hz := hS'; obtain ⟨-, a0, a1, a2, a3, a4⟩ := lg_cells ((hz.block g9 hglt).trans hG); obtain ⟨z0, z1, z2, z3⟩ := HZ.out _ hz; go_simp <;> rfl) hS0 ?_
                    try simp only [List.getElem_toArray, List.getElem_cons_succ, List.getElem_cons_zero, Act.put, List.setIfInBounds_toArray, List.set_cons_zero, List.set_cons_succ]
                    refine wpAnyL_one 6 (by kernel_rfl) rfl (by kernel_rfl) ?_
                    intro K' hK'
                    go_simp
                    go_at_call 17
                    refine (KTe.out _ hS0).mono ?_
                    rintro e w12 ⟨rfl, hb1⟩
                    have hS1 : (fun W => Below wr.heap.size wr W) w12 := keep_on hS0 hb1
                    dsimp only [termV]
                    refine hK'.out _ _ (.inr hS1) ?_
                    clear hK' K'
                    try simp only [List.getElem_toArray, List.getElem_cons_succ, List.getElem_cons_zero, Act.put, List.setIfInBounds_toArray, List.set_cons_zero, List.set_cons_succ]
                    refine wpAnyL_take 7 rfl (by kernel_rfl) (by kernel_rfl) (by kernel_rfl) (by kernel_rfl) (fun _ _ _ h => h) (by kernel_rfl) (by intro w' hS'; have hz := hS'; obtain ⟨-, a0, a1, a2, a3, a4⟩ := lg_cells ((hz.block g9 hglt).trans hG); obtain ⟨z0, z1, z2, z3⟩ := HZ.out _ hz; go_simp <;> rfl) hS1 ?_
                    try simp only [List.getElem_toArray, List.getElem_cons_succ, List.getElem_cons_zero, Act.put, List.setIfInBounds_toArray, List.set_cons_zero, List.set_cons_succ]
                    refine wpAnyL_take 8 rfl (by kernel_rfl) (by kernel_rfl) (by kernel_rfl) (by kernel_rfl) (fun _ _ _ h => h) (by kernel_rfl) (by intro w' hS'; have hz := hS'; obtain ⟨-, a0, a1, a2, a3, a4⟩ := lg_cells ((hz.block g9 hglt).trans hG); obtain ⟨z0, z1, z2, z3⟩ := HZ.out _ hz; go_simp <;> rfl) hS1 ?_
                    try simp only [List.getElem_toArray, List.getElem_cons_succ, List.getElem_cons_zero, Act.put, List.setIfInBounds_toArray, List.set_cons_zero, List.set_cons_succ]
                    refine wpAnyL_take 9 rfl (by kernel_rfl) (by kernel_rfl) (by kernel_rfl) (by kernel_rfl) (fun _ _ _ h => h) (by kernel_rfl) (by intro w' hS'; have hz := hS'; obtain ⟨-, a0, a1, a2, a3, a4⟩ := lg_cells ((hz.block g9 hglt).trans hG); obtain ⟨z0, z1, z2, z3⟩ := HZ.out _ hz; go_simp <;> rfl) hS1 ?_
                    try simp only [List.getElem_toArray, List.getElem_cons_succ, List.getElem_cons_zero, Act.put, List.setIfInBounds_toArray, List.set_cons_zero, List.set_cons_succ]
                    refine wpAnyL_take 10 rfl (by kernel_rfl) (by kernel_rfl) (by kernel_rfl) (by kernel_rfl) (fun _ _ _ h => h) (by kernel_rfl) (by intro w' hS'; have hz := hS'; obtain ⟨-, a0, a1, a2, a3, a4⟩ := lg_cells ((hz.block g9 hglt).trans hG); obtain ⟨z0, z1, z2, z3⟩ := HZ.out _ hz; go_simp <;> rfl) hS1 ?_
                    try simp only [List.getElem_toArray, List.getElem_cons_succ, List.getElem_cons_zero, Act.put, List.setIfInBounds_toArray, List.set_cons_zero, List.set_cons_succ]
                    refine wpAnyL_take 11 rfl (by kernel_rfl) (by kernel_rfl) (by kernel_rfl) (by kernel_rfl) (fun _ _ _ h => h) (by kernel_rfl) (by intro w' hS'; have hz := hS'; obtain ⟨-, a0, a1, a2, a3, a4⟩ := lg_cells ((hz.block g9 hglt).trans hG); obtain ⟨z0, z1, z2, z3⟩ := HZ.out _ hz; go_simp <;> rfl) hS1 ?_
                    try simp only [List.getElem_toArray, List.getElem_cons_succ, List.getElem_cons_zero, Act.put, List.setIfInBounds_toArray, List.set_cons_zero, List.set_cons_succ]
                    refine wpAnyL_done (by kernel_rfl) (NoPanic.normal ?_) _
                    clear KTe
                    have hG12 := (hS1.block g9 hglt).trans hG
                    have hO12 := hO.below hS1
                    have hb12 := hb.trans (hS1.mono hb.size)
                    have HZ2 : Hid (∀ W, Below w12.heap.size w12 W → _) := fun W hW => HZ.out W (hS1.trans (hW.mono hS1.size))
                    have hg12 : g9 < w12.heap.size := Nat.lt_of_lt_of_le hglt hS1.size
                    obtain ⟨q1, q2, q3⟩ := one_box w12 (.cells #[] 25)
                    have hK0 : Ow entE 25 w12.heap.size (w12.alloc (.cells #[] 25)) (.slice (some ⟨w12.heap.size, 0, none⟩) 0 0) (ltZ ix2 (OZ.take 0)) := ⟨by rw [List.take_zero]; exact Rk.made (E := entE) (xs := []) q2 rfl (by unfold maxLen; simp), fun k hk => by cases hk; exact Nat.le_refl _⟩
                    obtain ⟨z0, z1, z2, z3⟩ := HZ2.out _ (Below.refl _ _)
                    clear q1 q2 hG hO HZ
                    go_wp2
                    generalize w12.alloc (.cells #[] 25) = w13 at *
                    clear z0 z1 z2 z3
                    go_loopg [17, 18] OZ.length (fun gh s17 s18 wr => ∃ (k : Nat) (kst : Value), k + gh = OZ.length ∧ s18 = .int .i64 (k : Int) ∧ kst = s17 ∧ Ow entE 25 w12.heap.size wr kst (ltZ ix2 (OZ.take k)) ∧ Below w12.heap.size w12 wr)
                    case atStart => exact ⟨0, _, by simp, rfl, rfl, hK0, q3⟩
                    case round =>
                      obtain ⟨k, kst, hkg, rfl, rfl, hKo, hbk⟩ := hrel
                      clear hK0 q3
                      have hGk := (hbk.block g9 hg12).trans hG12
                      obtain ⟨⟨f0, f1, f2, f3, f4⟩, o0, o1, o2, o3, o4⟩ := lg_cells hGk
                      obtain ⟨z0, z1, z2, z3⟩ := HZ2.out _ hbk
                      have hlz : (ltZ ix2 (OZ.take k)).length ≤ 10000000000 := by
                        have h1 := ltZ_len ix2 (OZ.take k)
                        have h2 : (OZ.take k).length ≤ OZ.length := by rw [List.length_take]; omega
                        omega
                      obtain ⟨ka9, kc9, hkst, -⟩ := hKo.1.shape
                      by_cases hlk : k < OZ.length
                      · have hlki : (k : Int) < (OZ.length : Int) := by omega
                        have hy : OZ[k]? = some OZ[k] := List.getElem?_eq_getElem hlk
                        obtain ⟨y, hyy⟩ : ∃ y, y = OZ[k] := ⟨_, rfl⟩
                        rw [← hyy] at hy
                        clear hyy
                        obtain ⟨py, poff, rfl, cy⟩ := rde_at hO12.1.rd hy
                        obtain ⟨y0, y1, y2, y3⟩ := cy wr hbk
                        have HKS := ltZ_at hy ix2
                        have hrunH : Hid _ := push_ent y hKo.1 hlz
                        obtain ⟨⟨iy, ty, ky, dy⟩, say, sny, scy⟩ := y
                        dsimp only at y0 y1 y2 y3 HKS hrunH
                        by_cases hlt2 : iy < ix2
                        · have hlt2i : (iy : Int) < (ix2 : Int) := by omega
                          have hlt2d : decide (iy < ix2) = true := by simpa using hlt2
                          rw [if_pos hlt2] at HKS
                          have HKH : Hid (_ = _) := HKS
                          clear HKS cy hy hlt2
                          generalize ltZ ix2 (OZ.take k) = LK at *
                          subst hkst
                          go_wp2
                          go_quiet (fail)
                          have hKq := hKo.below (below_dN (Below.refl _ wr) nq)
                          have hbq : Below w12.heap.size w12 (wr.drewN nq) := below_dN hbk nq
                          have hrunH2 : Hid _ := push_ent (⟨iy, ty, ky, dy⟩, say, sny, scy) hKq.1 hlz
                          dsimp only at hrunH2
                          have hGq := (hbq.block g9 hg12).trans hG12
                          obtain ⟨-, r0, r1, r2, r3, r4⟩ := lg_cells hGq
                          have YQ : (wr.drewN nq).cell? ⟨py, poff + k * 4, none⟩ = some (.int .u64 (iy : Int)) ∧ (wr.drewN nq).cell? ⟨py, poff + k * 4 + 1, none⟩ = some (.int .u64 (ty : Int)) ∧ (wr.drewN nq).cell? ⟨py, poff + k * 4 + 2, none⟩ = some (.int .i64 ky) ∧ (wr.drewN nq).cell? ⟨py, poff + k * 4 + 3, none⟩ = some (.slice say sny scy) := ⟨y0, y1, y2, y3⟩
                          clear hKo hbk hrunH f0 f1 f2 f3 f4 o0 o1 o2 o3 o4 y0 y1 y2 y3 z0 z1 z2 z3 hGk
                          generalize wr.drewN nq = wr at *
                          obtain ⟨y0, y1, y2, y3⟩ := YQ
                          go_wp2_with (at_builtin; refine wp_by rfl _ _ _ rfl _ _ rfl rfl hrunH2.out ?_)
                          intro v6 w6 hp6
                          obtain ⟨hO6, hb6⟩ := hKq.push hbq.size hp6
                          rw [← HKH.out] at hO6
                          clear hp6 hrunH2 hKq HKH
                          go_wp2
                          go_roundg (gk - 1)
                          case measure => omega
                          case rel => exact ⟨k + 1, v6, by omega, by go_num, rfl, hO6, hbq.trans hb6⟩
                        · have hlt2i : ¬ (iy : Int) < (ix2 : Int) := by omega
                          have hlt2d : decide (iy < ix2) = false := by simpa using hlt2
                          rw [if_neg hlt2] at HKS
                          have HKH : Hid (_ = _) := HKS
                          clear HKS cy hy hlt2 hrunH
                          subst hkst
                          go_wp2
                          go_quiet (fail)
                          go_wp2
                          go_roundg (gk - 1)
                          case measure => omega
                          case rel => exact ⟨k + 1, _, by omega, by go_num, rfl, by rw [HKH.out]; exact hKo.below (below_dN (Below.refl _ wr) nq), below_dN hbk nq⟩
                      · have hlki : ¬ (k : Int) < (OZ.length : Int) := by omega
                        rw [List.take_of_length_le (by omega)] at hKo hkst hlz
                        have hrunH : Hid _ := push_ent (⟨ix2, tm2, kd2, dt2⟩, sa2, sn2, sc2) hKo.1 hlz
                        dsimp only at hrunH
                        generalize ltZ ix2 OZ = LK at *
                        subst hkst
                        clear hO12
                        go_wp2_with (at_builtin; refine wp_by rfl _ _ _ rfl _ _ rfl rfl hrunH.out ?_)
                        intro v6 w6 hp6
                        obtain ⟨hO6, hb6⟩ := hKo.push hbk.size hp6
                        have hb126 := hbk.trans hb6
                        have hG6 := (hb126.block g9 hg12).trans hG12
                        obtain ⟨⟨g0, g1, g2, g3, g4⟩, r0, r1, r2, r3, r4⟩ := lg_cells hG6
                        clear hp6 hrunH hKo f0 f1 f2 f3 f4 o0 o1 o2 o3 o4 z0 z1 z2 z3 hGk hbk hb6 hG12
                        generalize LK ++ [((⟨ix2, tm2, kd2, dt2⟩, sa2, sn2, sc2) : Ez)] = L6 at *
                        obtain ⟨va6, vc6, hv6, -⟩ := hO6.1.shape
                        generalize hn6 : L6.length = n6 at hv6
                        subst hv6
                        have hGf := lg_set4 hG6 (.slice va6 n6 vc6)
                        have hOf : Ow entE 25 w4.heap.size _ _ _ := ⟨rk_farT (i := 4) hO6.1 hG6 (.slice va6 n6 vc6), fun k hk => Nat.le_trans hb12.size (hO6.2 k hk)⟩
                        have hbf := (hb12.trans (hb126.mono hb12.size)).setCell (p := ⟨g9, 4, none⟩) hgg (.slice va6 n6 vc6)
                        clear hO6 hn6
                        go_wp2
                        go_roundg (go - 1)
                        case measure => omega
                        case rel => exact ⟨i + 1, _, L6, by omega, by go_num, hGf, hOf, HM6, HZ6, hbf⟩
                  | some t9 =>
                    have ht9 : ¬ t9 = tm2 := fun e => hTy (by rw [e])
                    have ht9b : ((t9 : Int) == (tm2 : Int)) = false := by simp; omega
                    have ht9i : ¬ (t9 : Int) = (tm2 : Int) := by omega
                    clear hTy ht9
                    subst hst0
                    go_wp2
                    (try simp only [Exit.inBlock, Exit.then])
                    refine wp_region_L (fun W => Below wr.heap.size wr W) [] (by kernel_rfl) ?_
                    have hS0 : (fun W => Below wr.heap.size wr W) wr.drew := (Below.refl _ wr).drew
                    generalize wr.drew = W0 at *
                    refine wpAnyL_take 0 rfl (by kernel_rfl) (by kernel_rfl) (by kernel_rfl) (by kernel_rfl) (fun _ _ _ h => h) (by kernel_rfl) (by intro w' hS'; have hz := hS'; obtain ⟨-, a0, a1, a2, a3, a4⟩ := lg_cells ((hz.block g9 hglt).trans hG); obtain ⟨z0, z1, z2, z3⟩ := HZ.out _ hz; go_simp <;> rfl) hS0 ?_
                    try simp only [List.getElem_toArray, List.getElem_cons_succ, List.getElem_cons_zero, Act.put, List.setIfInBounds_toArray, List.set_cons_zero, List.set_cons_succ]
                    refine wpAnyL_take 1 rfl (by kernel_rfl) (by kernel_rfl) (by kernel_rfl) (by kernel_rfl) (fun _ _ _ h => h) (by kernel_rfl) (by intro w' hS'; have hz := hS'; obtain ⟨-, a0, a1, a2, a3, a4⟩ := lg_cells ((hz.block g9 hglt).trans hG); obtain ⟨z0, z1, z2, z3⟩ := HZ.out _ hz; go_simp <;> rfl) hS0 ?_
                    try simp only [List.getElem_toArray, List.getElem_cons_succ, List.getElem_cons_zero, Act.put, List.setIfInBounds_toArray, List.set_cons_zero, List.set_cons_succ]
                    refine wpAnyL_take 2 rfl (by kernel_rfl) (by kernel_rfl) (by kernel_rfl) (by kernel_rfl) (fun _ _ _ h => h) (by kernel_rfl) (by intro w' hS'; have hz := hS'; obtain ⟨-, a0, a1, a2, a3, a4⟩ := lg_cells ((hz.block g9 hglt).trans hG); obtain ⟨z0, z1, z2, z3⟩ := HZ.out _ hz; go_simp <;> rfl) hS0 ?_
                    try simp only [List.getElem_toArray, List.getElem_cons_succ, List.getElem_cons_zero, Act.put, List.setIfInBounds_toArray, List.set_cons_zero, List.set_cons_succ]
                    refine wpAnyL_take 3 rfl (by kernel_rfl) (by kernel_rfl) (by kernel_rfl) (by kernel_rfl) (fun _ _ _ h => h) (by kernel_rfl) (by intro w' hS'; have hz := hS'; obtain ⟨-, a0, a1, a2, a3, a4⟩ := lg_cells ((hz.block g9 hglt).trans hG); obtain ⟨z0, z1, z2, z3⟩ := HZ.out _ hz; go_simp <;> rfl) hS0 ?_
                    try simp only [List.getElem_toArray, List.getElem_cons_succ, List.getElem_cons_zero, Act.put, List.setIfInBounds_toArray, List.set_cons_zero, List.set_cons_succ]
                    refine wpAnyL_take 4 rfl (by kernel_rfl) (by kernel_rfl) (by kernel_rfl) (by kernel_rfl) (fun _ _ _ h => h) (by kernel_rfl) (by intro w' hS'; have hz := hS'; obtain ⟨-, a0, a1, a2, a3, a4⟩ := lg_cells ((hz.block g9 hglt).trans hG); obtain ⟨z0, z1, z2, z3⟩ := HZ.out _ hz; go_simp <;> rfl) hS0 ?_
                    try simp only [List.getElem_toArray, List.getElem_cons_succ, List.getElem_cons_zero, Act.put, List.setIfInBounds_toArray, List.set_cons_zero, List.set_cons_succ]
                    refine wpAnyL_take 5 rfl (by kernel_rfl) (by kernel_rfl) (by kernel_rfl) (by kernel_rfl) (fun _ _ _ h => h) (by kernel_rfl) (by intro w' hS'; have hz := hS'; obtain ⟨-, a0, a1, a2, a3, a4⟩ := lg_cells ((hz.block g9 hglt).trans hG); obtain ⟨z0, z1, z2, z3⟩ := HZ.out _ hz; go_simp <;> rfl) hS0 ?_
                    try simp only [List.getElem_toArray, List.getElem_cons_succ, List.getElem_cons_zero, Act.put, List.setIfInBounds_toArray, List.set_cons_zero, List.set_cons_succ]
                    refine wpAnyL_one 6 (by kernel_rfl) rfl (by kernel_rfl) ?_
                    intro K' hK'
                    go_simp
                    go_at_call 17
                    refine (KTe.out _ hS0).mono ?_
                    rintro e w12 ⟨rfl, hb1⟩
                    have hS1 : (fun W => Below wr.heap.size wr W) w12 := keep_on hS0 hb1
                    dsimp only [termV]
                    refine hK'.out _ _ (.inr hS1) ?_
                    clear hK' K'
                    try simp only [List.getElem_toArray, List.getElem_cons_succ, List.getElem_cons_zero, Act.put, List.setIfInBounds_toArray, List.set_cons_zero, List.set_cons_succ]
                    refine wpAnyL_take 7 rfl (by kernel_rfl) (by kernel_rfl) (by kernel_rfl) (by kernel_rfl) (fun _ _ _ h => h) (by kernel_rfl) (by intro w' hS'; have hz := hS'; obtain ⟨-, a0, a1, a2, a3, a4⟩ := lg_cells ((hz.block g9 hglt).trans hG); obtain ⟨z0, z1, z2, z3⟩ := HZ.out _ hz; go_simp <;> rfl) hS1 ?_
                    try simp only [List.getElem_toArray, List.getElem_cons_succ, List.getElem_cons_zero, Act.put, List.setIfInBounds_toArray, List.set_cons_zero, List.set_cons_succ]
                    refine wpAnyL_take 8 rfl (by kernel_rfl) (by kernel_rfl) (by kernel_rfl) (by kernel_rfl) (fun _ _ _ h => h) (by kernel_rfl) (by intro w' hS'; have hz := hS'; obtain ⟨-, a0, a1, a2, a3, a4⟩ := lg_cells ((hz.block g9 hglt).trans hG); obtain ⟨z0, z1, z2, z3⟩ := HZ.out _ hz; go_simp <;> rfl) hS1 ?_
                    try simp only [List.getElem_toArray, List.getElem_cons_succ, List.getElem_cons_zero, Act.put, List.setIfInBounds_toArray, List.set_cons_zero, List.set_cons_succ]
                    refine wpAnyL_take 9 rfl (by kernel_rfl) (by kernel_rfl) (by kernel_rfl) (by kernel_rfl) (fun _ _ _ h => h) (by kernel_rfl) (by intro w' hS'; have hz := hS'; obtain ⟨-, a0, a1, a2, a3, a4⟩ := lg_cells ((hz.block g9 hglt).trans hG); obtain ⟨z0, z1, z2, z3⟩ := HZ.out _ hz; go_simp <;> rfl) hS1 ?_
                    try simp only [List.getElem_toArray, List.getElem_cons_succ, List.getElem_cons_zero, Act.put, List.setIfInBounds_toArray, List.set_cons_zero, List.set_cons_succ]
                    refine wpAnyL_take 10 rfl (by kernel_rfl) (by kernel_rfl) (by kernel_rfl) (by kernel_rfl) (fun _ _ _ h => h) (by kernel_rfl) (by intro w' hS'; have hz := hS'; obtain ⟨-, a0, a1, a2, a3, a4⟩ := lg_cells ((hz.block g9 hglt).trans hG); obtain ⟨z0, z1, z2, z3⟩ := HZ.out _ hz; go_simp <;> rfl) hS1 ?_
                    try simp only [List.getElem_toArray, List.getElem_cons_succ, List.getElem_cons_zero, Act.put, List.setIfInBounds_toArray, List.set_cons_zero, List.set_cons_succ]
                    refine wpAnyL_take 11 rfl (by kernel_rfl) (by kernel_rfl) (by kernel_rfl) (by kernel_rfl) (fun _ _ _ h => h) (by kernel_rfl) (by intro w' hS'; have hz := hS'; obtain ⟨-, a0, a1, a2, a3, a4⟩ := lg_cells ((hz.block g9 hglt).trans hG); obtain ⟨z0, z1, z2, z3⟩ := HZ.out _ hz; go_simp <;> rfl) hS1 ?_
                    try simp only [List.getElem_toArray, List.getElem_cons_succ, List.getElem_cons_zero, Act.put, List.setIfInBounds_toArray, List.set_cons_zero, List.set_cons_succ]
                    refine wpAnyL_done (by kernel_rfl) (NoPanic.normal ?_) _
                    clear KTe
                    have hG12 := (hS1.block g9 hglt).trans hG
                    have hO12 := hO.below hS1
                    have hb12 := hb.trans (hS1.mono hb.size)
                    have HZ2 : Hid (∀ W, Below w12.heap.size w12 W → _) := fun W hW => HZ.out W (hS1.trans (hW.mono hS1.size))
                    have hg12 : g9 < w12.heap.size := Nat.lt_of_lt_of_le hglt hS1.size
                    obtain ⟨q1, q2, q3⟩ := one_box w12 (.cells #[] 25)
                    have hK0 : Ow entE 25 w12.heap.size (w12.alloc (.cells #[] 25)) (.slice (some ⟨w12.heap.size, 0, none⟩) 0 0) (ltZ ix2 (OZ.take 0)) := ⟨by rw [List.take_zero]; exact Rk.made (E := entE) (xs := []) q2 rfl (by unfold maxLen; simp), fun k hk => by cases hk; exact Nat.le_refl _⟩
                    obtain ⟨z0, z1, z2, z3⟩ := HZ2.out _ (Below.refl _ _)
                    clear q1 q2 hG hO HZ
                    go_wp2
                    generalize w12.alloc (.cells #[] 25) = w13 at *
                    clear z0 z1 z2 z3
                    go_loopg [17, 18] OZ.length (fun gh s17 s18 wr => ∃ (k : Nat) (kst : Value), k + gh = OZ.length ∧ s18 = .int .i64 (k : Int) ∧ kst = s17 ∧ Ow entE 25 w12.heap.size wr kst (ltZ ix2 (OZ.take k)) ∧ Below w12.heap.size w12 wr)
                    case atStart => exact ⟨0, _, by simp, rfl, rfl, hK0, q3⟩
                    case round =>
                      obtain ⟨k, kst, hkg, rfl, rfl, hKo, hbk⟩ := hrel
                      clear hK0 q3
                      have hGk := (hbk.block g9 hg12).trans hG12
                      obtain ⟨⟨f0, f1, f2, f3, f4⟩, o0, o1, o2, o3, o4⟩ := lg_cells hGk
                      obtain ⟨z0, z1, z2, z3⟩ := HZ2.out _ hbk
                      have hlz : (ltZ ix2 (OZ.take k)).length ≤ 10000000000 := by
                        have h1 := ltZ_len ix2 (OZ.take k)
                        have h2 : (OZ.take k).length ≤ OZ.length := by rw [List.length_take]; omega
                        omega
                      obtain ⟨ka9, kc9, hkst, -⟩ := hKo.1.shape
                      by_cases hlk : k < OZ.length
                      · have hlki : (k : Int) < (OZ.length : Int) := by omega
                        have hy : OZ[k]? = some OZ[k] := List.getElem?_eq_getElem hlk
                        obtain ⟨y, hyy⟩ : ∃ y, y = OZ[k] := ⟨_, rfl⟩
                        rw [← hyy] at hy
                        clear hyy
                        obtain ⟨py, poff, rfl, cy⟩ := rde_at hO12.1.rd hy
                        obtain ⟨y0, y1, y2, y3⟩ := cy wr hbk
                        have HKS := ltZ_at hy ix2
                        have hrunH : Hid _ := push_ent y hKo.1 hlz
                        obtain ⟨⟨iy, ty, ky, dy⟩, say, sny, scy⟩ := y
                        dsimp only at y0 y1 y2 y3 HKS hrunH
                        by_cases hlt2 : iy < ix2
                        · have hlt2i : (iy : Int) < (ix2 : Int) := by omega
                          have hlt2d : decide (iy < ix2) = true := by simpa using hlt2
                          rw [if_pos hlt2] at HKS
                          have HKH : Hid (_ = _) := HKS
                          clear HKS cy hy hlt2
                          generalize ltZ ix2 (OZ.take k) = LK at *
                          subst hkst
                          go_wp2
                          go_quiet (fail)
                          have hKq := hKo.below (below_dN (Below.refl _ wr) nq)
                          have hbq : Below w12.heap.size w12 (wr.drewN nq) := below_dN hbk nq
                          have hrunH2 : Hid _ := push_ent (⟨iy, ty, ky, dy⟩, say, sny, scy) hKq.1 hlz
                          dsimp only at hrunH2
                          have hGq := (hbq.block g9 hg12).trans hG12
                          obtain ⟨-, r0, r1, r2, r3, r4⟩ := lg_cells hGq
                          have YQ : (wr.drewN nq).cell? ⟨py, poff + k * 4, none⟩ = some (.int .u64 (iy : Int)) ∧ (wr.drewN nq).cell? ⟨py, poff + k * 4 + 1, none⟩ = some (.int .u64 (ty : Int)) ∧ (wr.drewN nq).cell? ⟨py, poff + k * 4 + 2, none⟩ = some (.int .i64 ky) ∧ (wr.drewN nq).cell? ⟨py, poff + k * 4 + 3, none⟩ = some (.slice say sny scy) := ⟨y0, y1, y2, y3⟩
                          clear hKo hbk hrunH f0 f1 f2 f3 f4 o0 o1 o2 o3 o4 y0 y1 y2 y3 z0 z1 z2 z3 hGk
                          generalize wr.drewN nq = wr at *
                          obtain ⟨y0, y1, y2, y3⟩ := YQ
                          go_wp2_with (at_builtin; refine wp_by rfl _ _ _ rfl _ _ rfl rfl hrunH2.out ?_)
                          intro v6 w6 hp6
                          obtain ⟨hO6, hb6⟩ := hKq.push hbq.size hp6
                          rw [← HKH.out] at hO6
                          clear hp6 hrunH2 hKq HKH
                          go_wp2
                          go_roundg (gk - 1)
                          case measure => omega
                          case rel => exact ⟨k + 1, v6, by omega, by go_num, rfl, hO6, hbq.trans hb6⟩
                        · have hlt2i : ¬ (iy : Int) < (ix2 : Int) := by omega
                          have hlt2d : decide (iy < ix2) = false := by simpa using hlt2
                          rw [if_neg hlt2] at HKS
                          have HKH : Hid (_ = _) := HKS
                          clear HKS cy hy hlt2 hrunH
                          subst hkst
                          go_wp2
                          go_quiet (fail)
                          go_wp2
                          go_roundg (gk - 1)
                          case measure => omega
                          case rel => exact ⟨k + 1, _, by omega, by go_num, rfl, by rw [HKH.out]; exact hKo.below (below_dN (Below.refl _ wr) nq), below_dN hbk nq⟩
                      · have hlki : ¬ (k : Int) < (OZ.length : Int) := by omega
                        rw [List.take_of_length_le (by omega)] at hKo hkst hlz
                        have hrunH : Hid _ := push_ent (⟨ix2, tm2, kd2, dt2⟩, sa2, sn2, sc2) hKo.1 hlz
                        dsimp only at hrunH
                        generalize ltZ ix2 OZ = LK at *
                        subst hkst
                        clear hO12
                        go_wp2_with (at_builtin; refine wp_by rfl _ _ _ rfl _ _ rfl rfl hrunH.out ?_)
                        intro v6 w6 hp6
                        obtain ⟨hO6, hb6⟩ := hKo.push hbk.size hp6
                        have hb126 := hbk.trans hb6
                        have hG6 := (hb126.block g9 hg12).trans hG12
                        obtain ⟨⟨g0, g1, g2, g3, g4⟩, r0, r1, r2, r3, r4⟩ := lg_cells hG6
                        clear hp6 hrunH hKo f0 f1 f2 f3 f4 o0 o1 o2 o3 o4 z0 z1 z2 z3 hGk hbk hb6 hG12
                        generalize LK ++ [((⟨ix2, tm2, kd2, dt2⟩, sa2, sn2, sc2) : Ez)] = L6 at *
                        obtain ⟨va6, vc6, hv6, -⟩ := hO6.1.shape
                        generalize hn6 : L6.length = n6 at hv6
                        subst hv6
                        have hGf := lg_set4 hG6 (.slice va6 n6 vc6)
                        have hOf : Ow entE 25 w4.heap.size _ _ _ := ⟨rk_farT (i := 4) hO6.1 hG6 (.slice va6 n6 vc6), fun k hk => Nat.le_trans hb12.size (hO6.2 k hk)⟩
                        have hbf := (hb12.trans (hb126.mono hb12.size)).setCell (p := ⟨g9, 4, none⟩) hgg (.slice va6 n6 vc6)
                        clear hO6 hn6
                        go_wp2
                        go_roundg (go - 1)
                        case measure => omega
                        case rel => exact ⟨i + 1, _, L6, by omega, by go_num, hGf, hOf, HM6, HZ6, hbf⟩
              · have hlti : ¬ (i : Int) < (ys.length : Int) := by omega
                have HMF : Hid (mes OZ = (mes ys).foldl (stepM ⟨ix, tm, kd, dt⟩) (mes zs)) := by
                  show _ = _
                  rw [HM.out, List.take_of_length_le (by simp [mes]; omega)]
                have hml : (mes OZ).length = OZ.length := by simp [mes]
                have hRR := HRF.out
                rw [← HMF.out, hml] at hRR
                have hbwr := hbw4.trans (hb.mono hbw4.size)
                have qr := (hb.block (w.heap.size + 1) (by omega)).trans q44
                obtain ⟨⟨f0, f1, f2, f3, f4⟩, o0, o1, o2, o3, o4⟩ := lg_cells qr
                obtain ⟨⟨f0', f1', f2', f3', f4'⟩, o0', o1', o2', o3', o4'⟩ := lg_cells hG
                have hDr := HDB.out wr hbwr
                have hEr : EntsV wr st OZ := ⟨hO.1.rd, fun y hy => (HZI.out y hy).elim (fun h => HDZ.out y h wr hbwr) (fun h => HDY.out y h wr hbwr)⟩
                obtain ⟨sta0, stc0, hst0, -⟩ := hO.1.shape
                have hgne : w.heap.size + 1 ≠ g9 := by omega
                by_cases h4 : 4096 < OZ.length
                · have h4i : (4096 : Int) < (OZ.length : Int) := by omega
                  rw [if_pos h4] at hRR
                  have E : Hid (_ = _) := hRR
                  subst hst0
                  clear HM HMF hRR hEr hDr hO
                  go_wp2
                  (try simp only [Exit.inBlock, Exit.then])
                  refine bodyPost_ret (results_lg3 rfl _ _ (w.heap.size + 1) _ _ _ _ _ rfl (lg_set qr _ _ _ _ _)) rfl ?_
                  exact ⟨lg3_none _ E.out, lg_set_below hbwr (by omega) _ _ _ _ _⟩
                · have h4i : ¬ (4096 : Int) < (OZ.length : Int) := by omega
                  rw [if_neg h4] at hRR
                  have E : Hid (_ = _) := hRR
                  have HF := lg_set qr (.int .u64 (ix : Int)) (.int .u64 (tm : Int)) (.int .i64 kd) (.slice sa sn sc) st
                  have hbf := lg_set_below hbwr (g := w.heap.size + 1) (by omega) (.int .u64 (ix : Int)) (.int .u64 (tm : Int)) (.int .i64 kd) (.slice sa sn sc) st
                  have OF := rk_farT5 (g := w.heap.size + 1) hO.1 qr (.int .u64 (ix : Int)) (.int .u64 (tm : Int)) (.int .i64 kd) (.slice sa sn sc) st
                  have hfin : Hid (Lg3T R (.returned (.tuple #[.agg #[.int .u64 (ix : Int), .int .u64 (tm : Int), .int .i64 kd, .slice sa sn sc, st], .int .u64 (x9 : Int), .int .i64 0])) (((((wr.setCell ⟨w.heap.size + 1, 0, none⟩ (.int .u64 (ix : Int))).setCell ⟨w.heap.size + 1, 1, none⟩ (.int .u64 (tm : Int))).setCell ⟨w.heap.size + 1, 2, none⟩ (.int .i64 kd)).setCell ⟨w.heap.size + 1, 3, none⟩ (.slice sa sn sc)).setCell ⟨w.heap.size + 1, 4, none⟩ st)) := by
                    show Lg3T R _ _
                    rw [E.out, HX9.out]
                    exact ⟨_, rfl, (sa, sn, sc), OZ, st, rfl, HDB.out _ hbf, ⟨OF.rd, fun y hy => (HZI.out y hy).elim (fun h => HDZ.out y h _ hbf) (fun h => HDY.out y h _ hbf)⟩, rfl⟩
                  clear HM HMF hRR hEr hDr hO OF E
                  subst hst0
                  go_wp2
                  (try simp only [Exit.inBlock, Exit.then])
                  refine bodyPost_ret (results_lg3 rfl _ _ (w.heap.size + 1) _ _ _ _ _ rfl HF) rfl ?_
                  exact ⟨hfin.out, hbf⟩
        · have E : Hid (_ = _) := HG.out (by trivial) (by trivial) hold htm
          clear HG HFo HPL HCLb
          cases TM with
          | none =>
            dsimp only [termV]
            obtain ⟨⟨f0, f1, f2, f3, f4⟩, o0, o1, o2, o3, o4⟩ := lg_cells q44
            go_wp2
            (try simp only [Exit.inBlock, Exit.then])
            refine bodyPost_ret (results_lg3 rfl _ _ (w.heap.size + 1) _ _ _ _ _ rfl (lg_set q44 _ _ _ _ _)) rfl ?_
            exact ⟨lg3_none _ E.out, lg_set_below hbw4 (by omega) _ _ _ _ _⟩
          | some t9 =>
            dsimp only [termV]
            have ht9 : ((t9 : Int) != (t : Int)) = true := by
              have : t9 ≠ t := fun e => htm (by rw [e])
              simp; omega
            clear htm
            obtain ⟨⟨f0, f1, f2, f3, f4⟩, o0, o1, o2, o3, o4⟩ := lg_cells q44
            go_wp2
            (try simp only [Exit.inBlock, Exit.then])
            refine bodyPost_ret (results_lg3 rfl _ _ (w.heap.size + 1) _ _ _ _ _ rfl (lg_set q44 _ _ _ _ _)) rfl ?_
            exact ⟨lg3_none _ E.out, lg_set_below hbw4 (by omega) _ _ _ _ _⟩
end Go.Proofs.Ytmmonehpfmlmeaa

