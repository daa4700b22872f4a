import Derived.Test.YtlgnnfhnkfjafaaHp27
/- The contracts of Merge, and of the document's own Merge. -/
namespace Go.Proofs.Ytlgnnfhnkfjafaa
open Go.RowKit SpanMath ChartMath
set_option maxRecDepth 100000
set_option linter.unusedSimpArgs false
set_option linter.unusedVariables false

theorem chart_link {l : List Rg} (hC : Chart l) {i : Nat} {q r : Rg} (h0 : 0 < i) (hq : l[i - 1]? = some q) (hr : l[i]? = some r) : q.1.2 = r.1.1 ∧ q.1.2 ≠ [] := by
  obtain ⟨ha, hal⟩ := around2 h0 hq hr
  have h1 := hC.chn
  rw [ha, List.append_assoc] at h1
  obtain ⟨m, _, h3⟩ := (chn_append _ _ _ _).1 h1
  obtain ⟨n, h4, _⟩ := (thn_append _ _ _ _).1 h3
  cases m with
  | none => obtain ⟨h5, _⟩ := h4; cases h5
  | some b =>
    simp only [Thn, Chn] at h4
    rcases h4 with ⟨_, ⟨_, h6, _⟩ | ⟨h6, _, h7, _⟩⟩
    · simp at h6
    · exact ⟨h7.symm, h6⟩
/-- The four cells of a range. -/
def At4 (W : World) (b o : Nat) (r1 r2 : K) (rg re : Int) : Prop := W.cell? ⟨b, o, none⟩ = some (.string (bk r1)) ∧ W.cell? ⟨b, o + 1, none⟩ = some (.string (bk r2)) ∧ W.cell? ⟨b, o + 2, none⟩ = some (.int .i64 rg) ∧ W.cell? ⟨b, o + 3, none⟩ = some (.int .u64 re)
theorem cv_at {w : World} {l : List Rg} {n cap : Nat} {ao : Option Addr} (hF : Cv w (.slice ao n cap) l) {i : Nat} {r : Rg} (hr : l[i]? = some r) : ∃ b off, ao = some ⟨b, off, none⟩ ∧ ∀ W, Below w.heap.size w W → At4 W b (off + i * 4) r.1.1 r.1.2 r.2.1 r.2.2 := by
  obtain ⟨ao', cap', e', h2⟩ := hF
  cases e'
  obtain ⟨b, off, rfl, d0, d1, d2, d3⟩ := h2 i r hr
  have hlb := World.block_lt_of_cell? w _ d0
  exact ⟨b, off, rfl, fun W hW => ⟨(hW.cell (p := ⟨b, off + i * 4, none⟩) hlb).trans d0, (hW.cell (p := ⟨b, off + i * 4 + 1, none⟩) hlb).trans d1, (hW.cell (p := ⟨b, off + i * 4 + 2, none⟩) hlb).trans d2, (hW.cell (p := ⟨b, off + i * 4 + 3, none⟩) hlb).trans d3⟩⟩

set_option maxHeartbeats 8000000 in
theorem cmerge_of (l : List Rg) (lv : Value) (k : K) (w : World) (hF : Rd rgE w lv l) : Calls Try.prog 33 #[lv, .string (bk k)] w fun e w' => TurnT (mergeM l k) e w' ∧ Below w.heap.size w w' := by
  obtain ⟨T, HT⟩ : ∃ T, Hid (T = TurnT (mergeM l k)) := ⟨_, rfl⟩
  rw [← HT.out]
  have kf := find_of l lv k w hF.cv
  obtain ⟨ao, cap, rfl, hcap, hao, -⟩ := id hF
  cases hf : findM l k with
  | none =>
    rw [hf] at kf
    unfold findV at kf
    have E1 : Hid (∀ W, T (.returned (.tuple #[.slice none 0 0, .int .i64 1])) W) := fun W => by rw [HT.out]; unfold mergeM; rw [hf]; exact ⟨_, rfl, rd_nil _⟩
    clear HT hf hF
    go_enter Try.func33, Try.ntmps33
    go_wp2_with fail
    refine kf.mono ?_
    rintro e w1 ⟨rfl, hb1⟩
    go_wp2
    go_ret2
    exact ⟨E1.out _, hb1⟩
  | some i =>
    rw [hf] at kf
    unfold findV at kf
    obtain ⟨hC, hkl, r, hr, hh⟩ := findM_some hf
    have hil : i < l.length := (List.getElem?_eq_some_iff.1 hr).1
    have hlen := hC.len
    obtain ⟨q, hq⟩ : ∃ q, l[i - 1]? = some q := ⟨l[i - 1], List.getElem?_eq_getElem (by omega)⟩
    have HT1 : Hid (T = TurnT (if i = 0 ∨ r.1.1 ≠ k then ([], 4) else if q.2.1 ≠ r.2.1 then ([], 10) else putM l (i - 1) (i + 1) [((q.1.1, r.1.2), q.2.1)])) := by
      show _ = _
      rw [HT.out]
      unfold mergeM
      rw [hf]
      simp only [hr, hq]
    have hlink := fun h0 => chart_link hC (i := i) h0 hq hr
    have hmr := hC.ok r (List.mem_of_getElem? hr)
    have hmq := hC.ok q (List.mem_of_getElem? hq)
    simp only [rOk, Bool.and_eq_true] at hmr hmq
    replace hmr := hmr.1.1
    replace hmq := hmq.1.1
    obtain ⟨b, off, rfl, cr⟩ := cv_at hF.cv hr
    obtain ⟨b', off', e', cq⟩ := cv_at hF.cv hq
    cases e'
    obtain ⟨⟨r1, r2⟩, rg, re⟩ := r
    obtain ⟨⟨p1, p2⟩, pg, pe⟩ := q
    have i1 : (i : Int) < (l.length : Int) := by omega
    have i0 : (0 : Int) ≤ (i : Int) := by omega
    dsimp only at HT1 hh hlink cr cq
    clear HT hf hr hq
    by_cases hz : i = 0
    · have E1 : Hid (∀ W, T (.returned (.tuple #[.slice none 0 0, .int .i64 4])) W) := fun W => by rw [HT1.out, if_pos (.inl hz)]; exact ⟨_, rfl, rd_nil _⟩
      have hzi : ((i : Int) == 0) = true := by simp [hz]
      clear HT1 hF hC hlink cr cq hz
      go_enter Try.func33, Try.ntmps33
      go_wp2_with fail
      refine kf.mono ?_
      rintro e w1 ⟨rfl, hb1⟩
      go_wp2
      go_ret2
      exact ⟨E1.out _, hb1⟩
    · have hz1 : 0 < i := by omega
      have hzi : ((i : Int) == 0) = false := by simp; omega
      obtain ⟨hl1, hl2⟩ := hlink hz1
      by_cases hk : r1 = k
      · have dk : decide (r1 = k) = true := decide_eq_true hk
        obtain ⟨J, hJ⟩ : ∃ J, J = i - 1 := ⟨_, rfl⟩
        have j1 : IntKind.i64.wrap ((i : Int) - 1) = (J : Int) := by rw [IntWalk.i64_in _ (by omega)]; omega
        have j2 : (0 : Int) ≤ (J : Int) := by omega
        have j3 : (J : Int) < (l.length : Int) := by omega
        have jw : IntKind.i64.wrap ((i : Int) + 1) = (i : Int) + 1 := IntWalk.i64_in _ (by omega)
        rw [← hJ] at cq
        have hj : joinP (p1, p2) (r1, r2) = ((p1, r2), 0) := by
          unfold joinP
          rw [hmq, hmr, Bool.and_self, if_pos rfl, if_neg]
          rintro (h | h)
          · exact h hl1
          · exact hl2 h
        have kj := fun W => join_of (p1, p2) (r1, r2) W
        rw [hj] at kj
        unfold joinV at kj
        obtain ⟨M, hM⟩ : ∃ M, M = putM l (i - 1) (i + 1) (([((p1, r2), pg, 0)] : List Rg).map fun r => (r.1, r.2.1)) := ⟨_, rfl⟩
        have HT2 : Hid (T = TurnT (if pg ≠ rg then ([], 10) else M)) := by show _ = _; rw [HT1.out, if_neg (by rintro (h | h); exact hz h; exact h hk), hM]; rfl
        have kr := fun X wv (hX : Below w.heap.size w X) (hW : Rd rgE X wv [((p1, r2), pg, 0)]) => replace_of l [((p1, r2), pg, 0)] _ wv (i - 1) (i + 1) X (hF.below hX) hW hC (by omega) (by omega) (by simp) (by simp)
        rw [← hM, ← hJ, show (((i + 1 : Nat)) : Int) = (i : Int) + 1 by omega] at kr
        obtain ⟨m1, m2⟩ := M
        clear HT1 hM hF hC hlink hk hz hh hmr hmq hj hl1 hl2 hJ
        go_enter Try.func33, Try.ntmps33
        go_wp2_with fail
        refine kf.mono ?_
        rintro e w1 ⟨rfl, hb1⟩
        obtain ⟨c0, c1, c2, c3⟩ := cr w1 hb1
        clear kf
        go_wp2_with fail
        have hcW : ∀ W, Below w.heap.size w W → (W.cell? ⟨b, off + J * 4, none⟩ = some (.string (bk p1)) ∧ W.cell? ⟨b, off + J * 4 + 1, none⟩ = some (.string (bk p2)) ∧ W.cell? ⟨b, off + J * 4 + 2, none⟩ = some (.int .i64 pg) ∧ W.cell? ⟨b, off + J * 4 + 3, none⟩ = some (.int .u64 pe) ∧ W.cell? ⟨b, off + i * 4, none⟩ = some (.string (bk r1)) ∧ W.cell? ⟨b, off + i * 4 + 1, none⟩ = some (.string (bk r2)) ∧ W.cell? ⟨b, off + i * 4 + 2, none⟩ = some (.int .i64 rg) ∧ W.cell? ⟨b, off + i * 4 + 3, none⟩ = some (.int .u64 re)) := fun W hW => by
          obtain ⟨a0, a1, a2, a3⟩ := cq W hW
          obtain ⟨b0, b1, b2, b3⟩ := cr W hW
          exact ⟨a0, a1, a2, a3, b0, b1, b2, b3⟩
        have hbd := hb1.drew
        obtain ⟨a0, a1, a2, a3⟩ := cq w1 hb1
        have nb : w1.heap.size ≠ b := Nat.ne_of_gt (World.block_lt_of_cell? w1 _ c0)
        have nb1 : w1.heap.size + 1 ≠ b := by have := World.block_lt_of_cell? w1 _ c0; dsimp only at this; omega
        clear cr cq
        go_region_held3 (fun W => W.cell? ⟨b, off + J * 4, none⟩ = some (.string (bk p1)) ∧ W.cell? ⟨b, off + J * 4 + 1, none⟩ = some (.string (bk p2)) ∧ W.cell? ⟨b, off + J * 4 + 2, none⟩ = some (.int .i64 pg) ∧ W.cell? ⟨b, off + J * 4 + 3, none⟩ = some (.int .u64 pe) ∧ W.cell? ⟨b, off + i * 4, none⟩ = some (.string (bk r1)) ∧ W.cell? ⟨b, off + i * 4 + 1, none⟩ = some (.string (bk r2)) ∧ W.cell? ⟨b, off + i * 4 + 2, none⟩ = some (.int .i64 rg) ∧ W.cell? ⟨b, off + i * 4 + 3, none⟩ = some (.int .u64 re)) (first | exact hcW _ hbd | go_keep) (fail)
        · obtain ⟨t1, t2, t3, t4⟩ := two_boxes w1 (.cells #[.string (bk p1), .string (bk p2), .int .i64 pg, .int .u64 pe] 47) (.cells #[.string (bk r1), .string (bk r2), .int .i64 rg, .int .u64 re] 47)
          have hbz := (hb1.trans (t4.mono hb1.size)).drew
          have z0 : (((w1.alloc (.cells #[.string (bk p1), .string (bk p2), .int .i64 pg, .int .u64 pe] 47)).alloc (.cells #[.string (bk r1), .string (bk r2), .int .i64 rg, .int .u64 re] 47)).drew).heap[w1.heap.size]? = some (.cells #[.string (bk p1), .string (bk p2), .int .i64 pg, .int .u64 pe] 47) := t2
          have z1 : (((w1.alloc (.cells #[.string (bk p1), .string (bk p2), .int .i64 pg, .int .u64 pe] 47)).alloc (.cells #[.string (bk r1), .string (bk r2), .int .i64 rg, .int .u64 re] 47)).drew).heap[w1.heap.size + 1]? = some (.cells #[.string (bk r1), .string (bk r2), .int .i64 rg, .int .u64 re] 47) := t3
          clear t1 t2 t3 t4 hcW hbd a0 a1 a2 a3 c0 c1 c2 c3 nb nb1
          generalize ((w1.alloc (.cells #[.string (bk p1), .string (bk p2), .int .i64 pg, .int .u64 pe] 47)).alloc (.cells #[.string (bk r1), .string (bk r2), .int .i64 rg, .int .u64 re] 47)).drew = wz at *
          generalize w1.heap.size + 1 = N1 at *
          generalize w1.heap.size = N0 at *
          have x0 : wz.cell? ⟨N0, 0, none⟩ = some (.string (bk p1)) := by rw [cells_of_block z0]; rfl
          have x1 : wz.cell? ⟨N0, 1, none⟩ = some (.string (bk p2)) := by rw [cells_of_block z0]; rfl
          have x2 : wz.cell? ⟨N0, 2, none⟩ = some (.int .i64 pg) := by rw [cells_of_block z0]; rfl
          have y0 : wz.cell? ⟨N1, 0, none⟩ = some (.string (bk r1)) := by rw [cells_of_block z1]; rfl
          have y1 : wz.cell? ⟨N1, 1, none⟩ = some (.string (bk r2)) := by rw [cells_of_block z1]; rfl
          have y2 : wz.cell? ⟨N1, 2, none⟩ = some (.int .i64 rg) := by rw [cells_of_block z1]; rfl
          have hLl := (Array.getElem?_eq_some_iff.1 z0).1
          by_cases hg : pg = rg
          · have hgb : (pg == rg) = true := by simp [hg]
            have HT3 : Hid (T = TurnT (m1, m2)) := by show _ = _; rw [HT2.out, if_neg (by simp [hg])]
            have kj1 := kj wz
            clear HT2 hg z1 kj
            go_wp2_with fail
            refine kj1.mono ?_
            rintro e w2 ⟨rfl, hb2⟩
            clear kj1
            have hb3 := hbz.trans (hb2.mono hbz.size)
            have u2 : w2.cell? ⟨N0, 2, none⟩ = some (.int .i64 pg) := by
              have := (hb2.block N0 hLl).trans z0
              rw [cells_of_block this]; rfl
            have hLn : N0 < w2.heap.size := Nat.lt_of_lt_of_le hLl hb2.size
            clear x0 x1 x2 y0 y1 y2 z0 hb2 hLl
            obtain ⟨s1, s2, s3⟩ := one_box w2 (.cells #[.string (bk p1), .string (bk r2)] 43)
            obtain ⟨q1, q2, q3⟩ := one_box (w2.alloc (.cells #[.string (bk p1), .string (bk r2)] 43)) (.cells #[.string (bk p1), .string (bk r2), .int .i64 pg, .int .u64 0] 47)
            have hb4 := hb3.trans ((s3.trans (q3.mono s3.size)).mono hb3.size)
            rw [s1] at q2
            have kr1 := kr _ (.slice (some ⟨w2.heap.size + 1, 0, none⟩) 1 1) hb4 (Rk.made (E := rgE) (xs := [((p1, r2), pg, 0)]) q2 rfl (by unfold maxLen; simp)).rd
            clear kr s1 s2 s3 q1 q2 q3
            go_wp2_with fail
            refine kr1.mono ?_
            rintro e w5 ⟨⟨v, rfl, hRd⟩, hb5⟩
            have hb6 := hb4.trans (hb5.mono hb4.size)
            clear kr1 hb5
            go_wp2
            go_ret2
            exact ⟨by rw [HT3.out]; exact ⟨v, rfl, hRd⟩, hb6⟩
          · have hgb : (pg == rg) = false := by simpa using hg
            have E1 : Hid (∀ W, T (.returned (.tuple #[.slice none 0 0, .int .i64 10])) W) := fun W => by rw [HT2.out, if_pos hg]; exact ⟨_, rfl, rd_nil _⟩
            clear HT2 hg z0 z1 kj kr
            go_wp2
            go_ret2
            exact ⟨E1.out _, hbz⟩
        · obtain ⟨t1, t2, t3, t4⟩ := two_boxes w1 (.cells #[.string (bk r1), .string (bk r2), .int .i64 rg, .int .u64 re] 47) (.cells #[.string (bk p1), .string (bk p2), .int .i64 pg, .int .u64 pe] 47)
          have hbz := (hb1.trans (t4.mono hb1.size)).drew
          have z0 : (((w1.alloc (.cells #[.string (bk r1), .string (bk r2), .int .i64 rg, .int .u64 re] 47)).alloc (.cells #[.string (bk p1), .string (bk p2), .int .i64 pg, .int .u64 pe] 47)).drew).heap[w1.heap.size + 1]? = some (.cells #[.string (bk p1), .string (bk p2), .int .i64 pg, .int .u64 pe] 47) := t3
          have z1 : (((w1.alloc (.cells #[.string (bk r1), .string (bk r2), .int .i64 rg, .int .u64 re] 47)).alloc (.cells #[.string (bk p1), .string (bk p2), .int .i64 pg, .int .u64 pe] 47)).drew).heap[w1.heap.size]? = some (.cells #[.string (bk r1), .string (bk r2), .int .i64 rg, .int .u64 re] 47) := t2
          clear t1 t2 t3 t4 hcW hbd a0 a1 a2 a3 c0 c1 c2 c3 nb nb1
          generalize ((w1.alloc (.cells #[.string (bk r1), .string (bk r2), .int .i64 rg, .int .u64 re] 47)).alloc (.cells #[.string (bk p1), .string (bk p2), .int .i64 pg, .int .u64 pe] 47)).drew = wz at *
          generalize w1.heap.size + 1 = N1 at *
          generalize w1.heap.size = N0 at *
          have x0 : wz.cell? ⟨N1, 0, none⟩ = some (.string (bk p1)) := by rw [cells_of_block z0]; rfl
          have x1 : wz.cell? ⟨N1, 1, none⟩ = some (.string (bk p2)) := by rw [cells_of_block z0]; rfl
          have x2 : wz.cell? ⟨N1, 2, none⟩ = some (.int .i64 pg) := by rw [cells_of_block z0]; rfl
          have y0 : wz.cell? ⟨N0, 0, none⟩ = some (.string (bk r1)) := by rw [cells_of_block z1]; rfl
          have y1 : wz.cell? ⟨N0, 1, none⟩ = some (.string (bk r2)) := by rw [cells_of_block z1]; rfl
          have y2 : wz.cell? ⟨N0, 2, none⟩ = some (.int .i64 rg) := by rw [cells_of_block z1]; rfl
          have hLl := (Array.getElem?_eq_some_iff.1 z0).1
          by_cases hg : pg = rg
          · have hgb : (pg == rg) = true := by simp [hg]
            have HT3 : Hid (T = TurnT (m1, m2)) := by show _ = _; rw [HT2.out, if_neg (by simp [hg])]
            have kj1 := kj wz
            clear HT2 hg z1 kj
            go_wp2_with fail
            refine kj1.mono ?_
            rintro e w2 ⟨rfl, hb2⟩
            clear kj1
            have hb3 := hbz.trans (hb2.mono hbz.size)
            have u2 : w2.cell? ⟨N1, 2, none⟩ = some (.int .i64 pg) := by
              have := (hb2.block N1 hLl).trans z0
              rw [cells_of_block this]; rfl
            have hLn : N1 < w2.heap.size := Nat.lt_of_lt_of_le hLl hb2.size
            clear x0 x1 x2 y0 y1 y2 z0 hb2 hLl
            obtain ⟨s1, s2, s3⟩ := one_box w2 (.cells #[.string (bk p1), .string (bk r2)] 43)
            obtain ⟨q1, q2, q3⟩ := one_box (w2.alloc (.cells #[.string (bk p1), .string (bk r2)] 43)) (.cells #[.string (bk p1), .string (bk r2), .int .i64 pg, .int .u64 0] 47)
            have hb4 := hb3.trans ((s3.trans (q3.mono s3.size)).mono hb3.size)
            rw [s1] at q2
            have kr1 := kr _ (.slice (some ⟨w2.heap.size + 1, 0, none⟩) 1 1) hb4 (Rk.made (E := rgE) (xs := [((p1, r2), pg, 0)]) q2 rfl (by unfold maxLen; simp)).rd
            clear kr s1 s2 s3 q1 q2 q3
            go_wp2_with fail
            refine kr1.mono ?_
            rintro e w5 ⟨⟨v, rfl, hRd⟩, hb5⟩
            have hb6 := hb4.trans (hb5.mono hb4.size)
            clear kr1 hb5
            go_wp2
            go_ret2
            exact ⟨by rw [HT3.out]; exact ⟨v, rfl, hRd⟩, hb6⟩
          · have hgb : (pg == rg) = false := by simpa using hg
            have E1 : Hid (∀ W, T (.returned (.tuple #[.slice none 0 0, .int .i64 10])) W) := fun W => by rw [HT2.out, if_pos hg]; exact ⟨_, rfl, rd_nil _⟩
            clear HT2 hg z0 z1 kj kr
            go_wp2
            go_ret2
            exact ⟨E1.out _, hbz⟩
      · have dk : decide (r1 = k) = false := decide_eq_false hk
        have E1 : Hid (∀ W, T (.returned (.tuple #[.slice none 0 0, .int .i64 4])) W) := fun W => by rw [HT1.out, if_pos (.inr hk)]; exact ⟨_, rfl, rd_nil _⟩
        clear HT1 hF hC hlink cq hz hk hl1 hl2
        go_enter Try.func33, Try.ntmps33
        go_wp2_with fail
        refine kf.mono ?_
        rintro e w1 ⟨rfl, hb1⟩
        obtain ⟨c0, c1, c2, c3⟩ := cr w1 hb1
        clear cr
        go_wp2
        go_ret2
        exact ⟨E1.out _, hb1⟩
end Go.Proofs.Ytlgnnfhnkfjafaa

