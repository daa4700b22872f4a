import Derived.Test.YtlgnnfhnkfjafaaHp26
/- The contracts of Split, and of the document's own Split. -/
namespace Go.Proofs.Ytlgnnfhnkfjafaa
open Go.RowKit SpanMath ChartMath
set_option maxRecDepth 100000
set_option linter.unusedSimpArgs false
set_option linter.unusedVariables false

set_option maxHeartbeats 8000000 in
theorem csplit_of (l : List Rg) (lv : Value) (k : K) (w : World) (hF : Rd rgE w lv l) : Calls Try.prog 30 #[lv, .string (bk k)] w fun e w' => TurnT (splitM l k) e w' ∧ Below w.heap.size w w' := by
  obtain ⟨T, HT⟩ : ∃ T, Hid (T = TurnT (splitM l k)) := ⟨_, rfl⟩
  rw [← HT.out]
  have kf := find_of l lv k w hF.cv
  obtain ⟨ao, cap, rfl, hcap, hao, -⟩ := id hF
  cases hf : findM l k with
  | none =>
    rw [hf] at kf
    unfold findV at kf
    have E1 : Hid (∀ W, T (.returned (.tuple #[.slice none 0 0, .int .i64 1])) W) := fun W => by rw [HT.out]; unfold splitM; rw [hf]; exact ⟨_, rfl, rd_nil _⟩
    clear HT hf hF
    go_enter Try.func30, Try.ntmps30
    go_wp2_with fail
    refine kf.mono ?_
    rintro e w1 ⟨rfl, hb1⟩
    go_wp2
    go_ret2
    exact ⟨E1.out _, hb1⟩
  | some i =>
    rw [hf] at kf
    unfold findV at kf
    obtain ⟨hC, hkl, r, hr, hh⟩ := findM_some hf
    have hil : i < l.length := (List.getElem?_eq_some_iff.1 hr).1
    have hlen := hC.len
    have HT1 : Hid (T = TurnT (if r.1.1 = k then ([], 6) else putM l i (i + 1) [((r.1.1, k), r.2.1), ((k, r.1.2), r.2.1)])) := by
      show _ = _
      rw [HT.out]
      unfold splitM
      rw [hf]
      simp only [hr]
    have hmr : may r.1 = true := by
      have := hC.ok r (List.mem_of_getElem? hr)
      simp only [rOk, Bool.and_eq_true] at this
      exact this.1.1
    obtain ⟨ao', cap', e', h2⟩ := hF.cv
    cases e'
    obtain ⟨b, off, rfl, d0, d1, d2, d3⟩ := h2 i r hr
    obtain ⟨⟨r1, r2⟩, rg, re⟩ := r
    have hlb := World.block_lt_of_cell? w _ d0
    have cl : ∀ W, Below w.heap.size w W → W.cell? ⟨b, off + i * 4, none⟩ = some (.string (bk r1)) ∧ W.cell? ⟨b, off + i * 4 + 1, none⟩ = some (.string (bk r2)) ∧ W.cell? ⟨b, off + i * 4 + 2, none⟩ = some (.int .i64 rg) ∧ W.cell? ⟨b, off + i * 4 + 3, none⟩ = some (.int .u64 re) := fun W hW =>
      ⟨(hW.cell (p := ⟨b, off + i * 4, none⟩) hlb).trans d0, (hW.cell (p := ⟨b, off + i * 4 + 1, none⟩) hlb).trans d1, (hW.cell (p := ⟨b, off + i * 4 + 2, none⟩) hlb).trans d2, (hW.cell (p := ⟨b, off + i * 4 + 3, none⟩) hlb).trans d3⟩
    have ks := fun W => split_of (r1, r2) k W
    have i1 : (i : Int) < (l.length : Int) := by omega
    dsimp only at HT1 hh hmr
    clear d0 d1 d2 d3 h2 HT hf hr
    by_cases hk : r1 = k
    · subst hk
      have E1 : Hid (∀ W, T (.returned (.tuple #[.slice none 0 0, .int .i64 6])) W) := fun W => by rw [HT1.out, if_pos rfl]; exact ⟨_, rfl, rd_nil _⟩
      have hsp : splitP (r1, r2) r1 = (([], []), ([], []), 10) := by unfold splitP; simp [hmr, hkl]
      rw [hsp] at ks
      unfold splitV at ks
      clear HT1 hsp hF hC
      go_enter Try.func30, Try.ntmps30
      go_wp2_with fail
      refine kf.mono ?_
      rintro e w1 ⟨rfl, hb1⟩
      obtain ⟨c0, c1, c2, c3⟩ := cl w1 hb1
      have hbb := hb1.trans (((Below.refl w1.heap.size w1).alloc (Nat.le_refl _) (.cells #[.string (bk r1), .string (bk r2), .int .i64 rg, .int .u64 re] 47)).mono hb1.size)
      clear cl kf
      go_wp2_with fail
      refine (ks _).mono ?_
      rintro e w2 ⟨rfl, hb2⟩
      have hb3 := hbb.trans (hb2.mono hbb.size)
      go_wp2
      go_ret2
      exact ⟨E1.out _, (hb3.alloc hb3.size _).alloc (by have := hb3.size; simp; omega) _⟩
    · have HT2 : Hid (T = TurnT (putM l i (i + 1) (([((r1, k), rg, 0), ((k, r2), rg, 0)] : List Rg).map fun r => (r.1, r.2.1)))) := by show _ = _; rw [HT1.out, if_neg hk]; rfl
      have hsp : splitP (r1, r2) k = ((r1, k), (k, r2), 0) := by
        unfold splitP
        rw [hmr, decide_eq_true hkl, Bool.and_self, if_pos rfl, if_neg]
        rintro (h | h)
        · rw [hh] at h; cases h
        · exact hk h.symm
      rw [hsp] at ks
      unfold splitV at ks
      have kr := fun X wv (hX : Below w.heap.size w X) (hW : Rd rgE X wv [((r1, k), rg, 0), ((k, r2), rg, 0)]) => replace_of l [((r1, k), rg, 0), ((k, r2), rg, 0)] _ wv i (i + 1) X (hF.below hX) hW hC (by omega) (by omega) (by simp) (by simp)
      obtain ⟨⟨m1, m2⟩, hM⟩ : ∃ M, M = putM l i (i + 1) (([((r1, k), rg, 0), ((k, r2), rg, 0)] : List Rg).map fun r => (r.1, r.2.1)) := ⟨_, rfl⟩
      rw [← hM] at kr HT2
      clear HT1 hsp hF hC hh hmr hk hM
      go_enter Try.func30, Try.ntmps30
      go_wp2_with fail
      refine kf.mono ?_
      rintro e w1 ⟨rfl, hb1⟩
      obtain ⟨c0, c1, c2, c3⟩ := cl w1 hb1
      obtain ⟨q1, q2, q3⟩ := one_box w1 (.cells #[.string (bk r1), .string (bk r2), .int .i64 rg, .int .u64 re] 47)
      have hbb := hb1.trans (q3.mono hb1.size)
      have ks1 := ks (w1.alloc (.cells #[.string (bk r1), .string (bk r2), .int .i64 rg, .int .u64 re] 47))
      clear cl kf ks
      go_wp2_with fail
      refine ks1.mono ?_
      rintro e w2 ⟨rfl, hb2⟩
      clear ks1
      have hb3 := hbb.trans (hb2.mono hbb.size)
      have y2 : w2.cell? ⟨w1.heap.size, 2, none⟩ = some (.int .i64 rg) := by
        have := (hb2.block w1.heap.size (by rw [q1]; omega)).trans q2
        rw [cells_of_block this]; rfl
      have hlt2 : w1.heap.size < w2.heap.size := by have := hb2.size; omega
      clear hb2 q1 q2 q3
      obtain ⟨p1, p2, p3, p4⟩ := two_boxes w2 (.cells #[.string (bk r1), .string (bk k)] 43) (.cells #[.string (bk k), .string (bk r2)] 43)
      obtain ⟨q1, q2, q3⟩ := one_box ((w2.alloc (.cells #[.string (bk r1), .string (bk k)] 43)).alloc (.cells #[.string (bk k), .string (bk r2)] 43)) (.cells #[.string (bk r1), .string (bk k), .int .i64 rg, .int .u64 0, .string (bk k), .string (bk r2), .int .i64 rg, .int .u64 0] 47)
      have hb4 := hb3.trans ((p4.trans (q3.mono p4.size)).mono hb3.size)
      rw [p1] at q2
      have kr1 := kr _ (.slice (some ⟨w2.heap.size + 1 + 1, 0, none⟩) 2 2) hb4 (Rk.made (E := rgE) (xs := [((r1, k), rg, 0), ((k, r2), rg, 0)]) q2 rfl (by unfold maxLen; simp)).rd
      rw [show (((i + 1 : Nat)) : Int) = (i : Int) + 1 by omega] at kr1
      clear kr p1 p2 p3 p4 q1 q2 q3
      go_wp2_with fail
      refine kr1.mono ?_
      rintro e w5 ⟨⟨v, rfl, hRd⟩, hb5⟩
      have hb6 := hb4.trans (hb5.mono hb4.size)
      clear kr1 hb5
      go_wp2
      go_ret2
      exact ⟨by rw [HT2.out]; exact ⟨v, rfl, hRd⟩, hb6⟩

set_option maxHeartbeats 8000000 in
theorem rsplit_of (l : List Rg) (lv : Value) (k : K) (w : World) (hF : Rd rgE w lv l) : Calls Try.prog 32 #[lv, .string (bk k)] w fun e w' => TurnT (splitM l k) e w' ∧ Below w.heap.size w w' := by
  obtain ⟨T, HT⟩ : ∃ T, Hid (T = TurnT (splitM l k)) := ⟨_, rfl⟩
  rw [← HT.out]
  have kf := rfind_of l lv k w hF.cv
  obtain ⟨ao, cap, rfl, hcap, hao, -⟩ := id hF
  cases hf : findM l k with
  | none =>
    rw [hf] at kf
    unfold idxI at kf
    have E1 : Hid (∀ W, T (.returned (.tuple #[.slice none 0 0, .int .i64 1])) W) := fun W => by rw [HT.out]; unfold splitM; rw [hf]; exact ⟨_, rfl, rd_nil _⟩
    clear HT hf hF
    go_enter Try.func32, Try.ntmps32
    go_wp2_with fail
    refine kf.mono ?_
    rintro e w1 ⟨rfl, hb1⟩
    go_wp2
    go_ret2
    exact ⟨E1.out _, hb1⟩
  | some i =>
    rw [hf] at kf
    unfold idxI at kf
    obtain ⟨hC, hkl, r, hr, hh⟩ := findM_some hf
    have hil : i < l.length := (List.getElem?_eq_some_iff.1 hr).1
    have hlen := hC.len
    have HT1 : Hid (T = TurnT (if r.1.1 = k then ([], 6) else putM l i (i + 1) [((r.1.1, k), r.2.1), ((k, r.1.2), r.2.1)])) := by
      show _ = _
      rw [HT.out]
      unfold splitM
      rw [hf]
      simp only [hr]
    obtain ⟨ao', cap', e', h2⟩ := hF.cv
    cases e'
    obtain ⟨b, off, rfl, d0, d1, d2, d3⟩ := h2 i r hr
    obtain ⟨⟨r1, r2⟩, rg, re⟩ := r
    have hlb := World.block_lt_of_cell? w _ d0
    have cl : ∀ W, Below w.heap.size w W → W.cell? ⟨b, off + i * 4, none⟩ = some (.string (bk r1)) ∧ W.cell? ⟨b, off + i * 4 + 1, none⟩ = some (.string (bk r2)) ∧ W.cell? ⟨b, off + i * 4 + 2, none⟩ = some (.int .i64 rg) ∧ W.cell? ⟨b, off + i * 4 + 3, none⟩ = some (.int .u64 re) := fun W hW =>
      ⟨(hW.cell (p := ⟨b, off + i * 4, none⟩) hlb).trans d0, (hW.cell (p := ⟨b, off + i * 4 + 1, none⟩) hlb).trans d1, (hW.cell (p := ⟨b, off + i * 4 + 2, none⟩) hlb).trans d2, (hW.cell (p := ⟨b, off + i * 4 + 3, none⟩) hlb).trans d3⟩
    have i1 : (i : Int) < (l.length : Int) := by omega
    have i0 : ¬ (i : Int) < 0 := by omega
    dsimp only at HT1 hh
    clear d0 d1 d2 d3 h2 HT hf hr
    by_cases hk : r1 = k
    · have dk : decide (r1 = k) = true := decide_eq_true hk
      have E1 : Hid (∀ W, T (.returned (.tuple #[.slice none 0 0, .int .i64 6])) W) := fun W => by rw [HT1.out, if_pos hk]; exact ⟨_, rfl, rd_nil _⟩
      clear HT1 hF hC hk
      go_enter Try.func32, Try.ntmps32
      go_wp2_with fail
      refine kf.mono ?_
      rintro e w1 ⟨rfl, hb1⟩
      obtain ⟨c0, c1, c2, c3⟩ := cl w1 hb1
      have hbb := hb1.trans (((Below.refl w1.heap.size w1).alloc (Nat.le_refl _) (.cells #[.string (bk r1), .string (bk r2), .int .i64 rg, .int .u64 re] 47)).mono hb1.size)
      clear cl kf
      go_wp2
      go_ret2
      exact ⟨E1.out _, hbb⟩
    · have dk : decide (r1 = k) = false := decide_eq_false hk
      have HT2 : Hid (T = TurnT (putM l i (i + 1) (([((r1, k), rg, re), ((k, r2), rg, re)] : List Rg).map fun r => (r.1, r.2.1)))) := by show _ = _; rw [HT1.out, if_neg hk]; rfl
      have kr := fun X wv (hX : Below w.heap.size w X) (hW : Rd rgE X wv [((r1, k), rg, re), ((k, r2), rg, re)]) => rput_of l [((r1, k), rg, re), ((k, r2), rg, re)] _ wv i (i + 1) X (hF.below hX) hW hC (by omega) (by omega) (by simp) (by simp)
      obtain ⟨⟨m1, m2⟩, hM⟩ : ∃ M, M = putM l i (i + 1) (([((r1, k), rg, re), ((k, r2), rg, re)] : List Rg).map fun r => (r.1, r.2.1)) := ⟨_, rfl⟩
      rw [← hM] at kr HT2
      clear HT1 hF hC hh hk hM
      go_enter Try.func32, Try.ntmps32
      go_wp2_with fail
      refine kf.mono ?_
      rintro e w1 ⟨rfl, hb1⟩
      obtain ⟨c0, c1, c2, c3⟩ := cl w1 hb1
      clear cl kf
      obtain ⟨q1, q2, q3⟩ := one_box w1 (.cells #[.string (bk r1), .string (bk r2), .int .i64 rg, .int .u64 re] 47)
      have hbb := hb1.trans (q3.mono hb1.size)
      go_wp2_with fail
      generalize hwb : w1.alloc (.cells #[.string (bk r1), .string (bk r2), .int .i64 rg, .int .u64 re] 47) = wb at *
      generalize w1.heap.size = N at *
      have x0 : wb.cell? ⟨N, 0, none⟩ = some (.string (bk r1)) := by rw [cells_of_block q2]; rfl
      have x1 : wb.cell? ⟨N, 1, none⟩ = some (.string (bk r2)) := by rw [cells_of_block q2]; rfl
      have x2 : wb.cell? ⟨N, 2, none⟩ = some (.int .i64 rg) := by rw [cells_of_block q2]; rfl
      have x3 : wb.cell? ⟨N, 3, none⟩ = some (.int .u64 re) := by rw [cells_of_block q2]; rfl
      have fin : ∀ o1 o2 : Obj, Calls Try.prog 44 #[.slice (some ⟨b, off, none⟩) l.length cap, .int .i64 (i : Int), .int .i64 ((i : Int) + 1), .slice (some ⟨N + 1 + 1 + 1, 0, none⟩) 2 2] (((wb.alloc o1).alloc o2).alloc (.cells #[.string (bk r1), .string (bk k), .int .i64 rg, .int .u64 re, .string (bk k), .string (bk r2), .int .i64 rg, .int .u64 re] 47)).drew fun e w' => TurnT (m1, m2) e w' ∧ Below w.heap.size w w' := fun o1 o2 => by
        obtain ⟨p1, p2, p3, p4⟩ := two_boxes wb o1 o2
        obtain ⟨u1, u2, u3⟩ := one_box ((wb.alloc o1).alloc o2) (.cells #[.string (bk r1), .string (bk k), .int .i64 rg, .int .u64 re, .string (bk k), .string (bk r2), .int .i64 rg, .int .u64 re] 47)
        have hb4 := (hbb.trans ((p4.trans (u3.mono p4.size)).mono hbb.size)).drew
        rw [p1, q1] at u2
        have kr1 := kr _ (.slice (some ⟨N + 1 + 1 + 1, 0, none⟩) 2 2) hb4 (Rk.made (E := rgE) (xs := [((r1, k), rg, re), ((k, r2), rg, re)]) u2 rfl (by unfold maxLen; simp)).rd
        rw [show (((i + 1 : Nat)) : Int) = (i : Int) + 1 by omega] at kr1
        refine kr1.mono ?_
        rintro e w5 ⟨hT, hb5⟩
        exact ⟨hT, hb4.trans (hb5.mono hb4.size)⟩
      clear hwb q2 q3 c0 c1 c2 c3 kr
      go_region_held3 (fun w' => w'.cell? ⟨N, 0, none⟩ = some (.string (bk r1)) ∧ w'.cell? ⟨N, 1, none⟩ = some (.string (bk r2)) ∧ w'.cell? ⟨N, 2, none⟩ = some (.int .i64 rg) ∧ w'.cell? ⟨N, 3, none⟩ = some (.int .u64 re)) (first | exact ⟨x0, x1, x2, x3⟩ | go_keep) (fail)
      all_goals go_wp2_with fail
      all_goals
        refine (fin _ _).mono ?_
        rintro e w5 ⟨⟨v, rfl, hRd⟩, hb5⟩
        clear fin
        go_wp2
        go_ret2
        exact ⟨by rw [HT2.out]; exact ⟨v, rfl, hRd⟩, hb5⟩
end Go.Proofs.Ytlgnnfhnkfjafaa

