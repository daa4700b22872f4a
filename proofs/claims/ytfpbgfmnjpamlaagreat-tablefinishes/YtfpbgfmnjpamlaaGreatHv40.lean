import Derived.Test.YtfpbgfmnjpamlaaGreatHv32
import Derived.Test.YtfpbgfmnjpamlaaGreatHv34
import Derived.Test.YtfpbgfmnjpamlaaGreatHv01
import Derived.Test.YtfpbgfmnjpamlaaGreatHv16
/- The law's acquire and awake. -/
namespace Go.Proofs.YtfpbgfmnjpamlaaGreat
open Go.RowKit LeaseMath
set_option maxRecDepth 100000
set_option linter.unusedSimpArgs false
set_option linter.unusedVariables false

theorem results_cl {fn : Func} {p : Tmp} (h : fn.results = #[.cell p 33]) (tmps : Array Value) (w : World) (g : Nat) (a b c d : Value)
  (hp : tmps.getD p undef = .pointer (some ⟨g, 0, none⟩)) (hg : w.heap[g]? = some (.cells #[a, b, c, d] 33 (0, 0))) :
  (results fn tmps).run Tryz.prog w = .ok (.agg #[a, b, c, d]) w := by
 have hp' : tmps[p]?.getD undef = .pointer (some ⟨g, 0, none⟩) := by simpa using hp
 simp [results, h, hp', asAddr, run_loadVar_row w g 33 33 #[a, b, c, d] (0, 0) _ hg Tryz.underlying33 rfl (by kernel_rfl)]
theorem acquire_of (ao : Option Addr) (n cap : Nat) (w : World) : Calls Tryz.prog 31 #[.slice ao n cap] w fun e w' => e = .returned (.agg #[.int .i64 1, .slice ao n cap, .int .u64 0, .int .i64 5]) ∧ Below w.heap.size w w' := by
 obtain ⟨q1, q2, q3⟩ := one_box w (.cells #[.int .i64 1, .slice ao n cap, .int .u64 0, .int .i64 5] 33)
 go_enter Tryz.func31, Tryz.ntmps31
 go_wp2
 (try simp only [Exit.inBlock, Exit.then])
 refine bodyPost_ret (results_cl rfl _ _ w.heap.size _ _ _ _ rfl q2) rfl ?_
 exact ⟨rfl, q3⟩
/-- The tables of awake. -/
def aw0 : Tb := ⟨0, [([], [])], [], [], [], []⟩
def awC : Cl := ⟨1, [[97], [98]], 0, 5⟩
def awD : Cl := ⟨1, [[97]], 0, 5⟩
def awM : List It := [([97], (0, 1), 1, 5, 5), ([98], (0, 1), 1, 5, 5)]
def aw1 : Tb := ⟨0, [([], [])], [], [], [], awM⟩
def aw2 : Tb := ⟨0, [([], [])], [], [([97], 5, 5), ([98], 5, 5)], [], []⟩
theorem aw_prep : prepM aw0 (0, 1) awC 5 awM = (aw1, 0) := by kernel_rfl
theorem aw_fin : finM aw1 (0, 1) true = (aw2, 2, 0) := by kernel_rfl
theorem aw_insp : inspM aw2 [98] = (5, 0) := by decide
theorem aw_busy : prepM aw2 (0, 2) awD 6 [] = (noT, 8) := by kernel_rfl
theorem aw_perm : awM.Perm (aw0.ints ++ moreM awC.keys (0, 1) awC.kind (tokM awC.kind awC.token 5) awC.ttl) ∧ awM.Pairwise (fun a b => a.1 < b.1) := ⟨List.Perm.refl _, by decide⟩
theorem aw_refuse : refAll aw2 1 0 6 [[97]] = 8 := by decide
end Go.Proofs.YtfpbgfmnjpamlaaGreat

/- The law's awake. -/
namespace Go.Proofs.YtfpbgfmnjpamlaaGreat
open Go.RowKit LeaseMath
set_option maxRecDepth 100000
set_option linter.unusedSimpArgs false
set_option linter.unusedVariables false

theorem set6_size (w : World) (g : Nat) (a b c d e f : Value) : (set6 w g a b c d e f).heap.size = w.heap.size := by
 unfold set6
 simp
theorem awP1 {W : World} {g b : Nat} (hs : W.heap[g]? = some (.cells #[.string { data := #[] }, .string { data := #[] }] 47 (0, 0))) (hb : W.heap[b]? = some (.cells #[.string { data := #[97] }, .string { data := #[98] }] 9 (0, 0))) :
  Calls Tryz.prog 11 #[.agg #[.int .i64 0, .slice (some ⟨g, 0, none⟩) 1 1, .slice none 0 0, .slice none 0 0, .slice none 0 0, .slice none 0 0], .agg #[.int .i64 0, .int .u64 1], .agg #[.int .i64 1, .slice (some ⟨b, 0, none⟩) 2 2, .int .u64 0, .int .i64 5], .int .u64 5] W fun e w' => (∃ z1, e = .returned (.tuple #[tv z1, .int .i64 0]) ∧ z1.t = aw1 ∧ TbO W.heap.size w' z1) ∧ Below W.heap.size W w' := by
 have hR : TbR W ⟨aw0, (some ⟨g, 0, none⟩, 1), (none, 0), (none, 0), (none, 0), (none, 0)⟩ := ⟨(Rk.made (E := spE) (xs := [(([] : K), ([] : K))]) hs rfl (by unfold maxLen; simp)).rd, Rd.nil _ _, Rd.nil _ _, Rd.nil _ _, Rd.nil _ _⟩
 have hK : Rd kyE W (.slice (some ⟨b, 0, none⟩) 2 2) awC.keys := (Rk.made (E := kyE) (xs := [([97] : K), [98]]) hb rfl (by unfold maxLen; simp)).rd
 have K := prepare_of ⟨aw0, (some ⟨g, 0, none⟩, 1), (none, 0), (none, 0), (none, 0), (none, 0)⟩ (0, 1) awC (some ⟨b, 0, none⟩, 2) 5 awM W hR hK (Nat.zero_le _) (Nat.zero_le _) (Nat.zero_le _) (by decide) (fun _ _ _ _ _ _ => aw_perm)
 rw [aw_prep] at K
 refine Calls.mono (show Calls Tryz.prog 11 _ W _ from K) ?_
 rintro e w' ⟨⟨z1, rfl, h1, h2⟩, hb'⟩
 exact ⟨⟨z1, rfl, h1, h2⟩, hb'⟩
theorem awF {W : World} {z : Tz} (h : z.t = aw1) (hR : TbR W z) : Calls Tryz.prog 14 #[tv z, .agg #[.int .i64 0, .int .u64 1], .bool true] W fun e w' => (∃ z1, e = .returned (.tuple #[tv z1, .int .i64 2, .int .i64 0]) ∧ z1.t = aw2 ∧ TbO W.heap.size w' z1) ∧ Below W.heap.size W w' := by
 have K := finish_of z (0, 1) true W hR (by rw [h]; decide) (by rw [h]; decide) (by rw [h]; decide) (by rw [h]; decide)
 rw [h, aw_fin] at K
 refine Calls.mono (show Calls Tryz.prog 14 _ W _ from K) ?_
 rintro e w' ⟨⟨z1, rfl, h1, h2⟩, hb'⟩
 exact ⟨⟨z1, rfl, h1, h2⟩, hb'⟩
theorem awI {W : World} {z : Tz} (h : z.t = aw2) (hR : TbR W z) : Calls Tryz.prog 28 #[tv z, .string { data := #[98] }] W fun e w' => e = .returned (.tuple #[.int .u64 5, .int .i64 0]) ∧ Below W.heap.size W w' := by
 have K := inspect_of z [98] W hR (by rw [h]; decide) (by rw [h]; decide)
 rw [h, aw_insp] at K
 exact K
theorem awP2 {W : World} {b : Nat} {z : Tz} (h : z.t = aw2) (hR : TbR W z) (hb : W.heap[b]? = some (.cells #[.string { data := #[97] }] 9 (0, 0))) :
  Calls Tryz.prog 11 #[tv z, .agg #[.int .i64 0, .int .u64 2], .agg #[.int .i64 1, .slice (some ⟨b, 0, none⟩) 1 1, .int .u64 0, .int .i64 5], .int .u64 6] W fun e w' => (∃ z1 : Tz, e = .returned (.tuple #[tv z1, .int .i64 8])) ∧ Below W.heap.size W w' := by
 have hK : Rd kyE W (.slice (some ⟨b, 0, none⟩) 1 1) awD.keys := (Rk.made (E := kyE) (xs := [([97] : K)]) hb rfl (by unfold maxLen; simp)).rd
 have K := prepare_of z (0, 2) awD (some ⟨b, 0, none⟩, 1) 6 [] W hR hK (by rw [h]; decide) (by rw [h]; decide) (by rw [h]; decide) (by decide) (fun _ _ _ _ _ h9 => by rw [h] at h9; exact absurd (aw_refuse.symm.trans h9) (by decide))
 rw [h, aw_busy] at K
 refine Calls.mono (show Calls Tryz.prog 11 _ W _ from K) ?_
 rintro e w' ⟨⟨z1, rfl, h1, h2⟩, hb'⟩
 exact ⟨⟨z1, rfl⟩, hb'⟩

set_option maxHeartbeats 16000000 in
theorem awake_of (w : World) : Calls Tryz.prog 10 #[] w fun e w' => e = .returned (.bool true) ∧ Below w.heap.size w w' := by
 obtain ⟨q1, q2, q3, q4⟩ := two_boxes6 w (.cells #[.string { data := #[] }, .string { data := #[] }] 47) (.cells #[.int .i64 0, .slice (some ⟨w.heap.size, 0, none⟩) 1 1, .slice none 0 0, .slice none 0 0, .slice none 0 0, .slice none 0 0] 27)
 go_enter Tryz.func10, Tryz.ntmps10
 go_wp2
 obtain ⟨X, hX⟩ : ∃ X, ((w.alloc (.cells #[.string { data := #[] }, .string { data := #[] }] 47)).alloc (.cells #[.int .i64 0, .slice (some ⟨w.heap.size, 0, none⟩) 1 1, .slice none 0 0, .slice none 0 0, .slice none 0 0, .slice none 0 0] 27)).drew = X := ⟨_, rfl⟩
 have hb0 : Below (w.heap.size + 2) X X := Below.refl _ _
 have hzX : w.heap.size + 2 ≤ X.heap.size := by rw [← hX]; show _ ≤ ((w.alloc _).alloc _).heap.size; omega
 have HA : Hid (∀ W, Below (w.heap.size + 2) X W → Below w.heap.size w W ∧ W.heap[w.heap.size + 1]? = some (.cells #[.int .i64 0, .slice (some ⟨w.heap.size, 0, none⟩) 1 1, .slice none 0 0, .slice none 0 0, .slice none 0 0, .slice none 0 0] 27 (0, 0)) ∧ W.heap[w.heap.size]? = some (.cells #[.string { data := #[] }, .string { data := #[] }] 47 (0, 0))) := fun W hW => by
  have hX2 : Below w.heap.size w X := by rw [← hX]; exact q4.drew
  have e1 : X.heap[w.heap.size + 1]? = some (.cells #[.int .i64 0, .slice (some ⟨w.heap.size, 0, none⟩) 1 1, .slice none 0 0, .slice none 0 0, .slice none 0 0, .slice none 0 0] 27 (0, 0)) := by rw [← hX]; exact q3
  have e2 : X.heap[w.heap.size]? = some (.cells #[.string { data := #[] }, .string { data := #[] }] 47 (0, 0)) := by rw [← hX]; exact q2
  exact ⟨hX2.trans (hW.mono (by omega)), (hW.block (w.heap.size + 1) (by omega)).trans e1, (hW.block w.heap.size (by omega)).trans e2⟩
 clear q1 q2 q3 q4
 refine wp_region_L (fun _ => True) [] (by kernel_rfl) ?_
 rw [hX]
 refine wpAnyL_take 1 rfl (by kernel_rfl) (by kernel_rfl) (by kernel_rfl) (by kernel_rfl) (fun _ _ _ h => h) (wanted_none rfl) (by intro w' hS'; go_simp <;> rfl) trivial ?_
 try simp only [pa, pb, pc, Act.put, pd, pe, pf]
 refine wpAnyL_two 0 2 (by kernel_rfl) rfl rfl (wanted_none rfl) (wanted_none rfl) ?_ ?_
 ·intro K' hK'
  obtain ⟨-, c0, c1, c2, c3, c4, c5⟩ := t_cells (HA.out _ hb0).2.1
  go_simp
  refine hK'.out _ _ (.inr trivial) ?_
  clear hK' K'
  try simp only [pa, pb, pc, Act.put, pd, pe, pf]
  clear c0 c1 c2 c3 c4 c5
  refine wpAnyL_one 2 (by kernel_rfl) rfl (wanted_none rfl) ?_
  intro K' hK'
  obtain ⟨bz, bs, bb⟩ := one_box X (.cells #[.string { data := #[97] }, .string { data := #[98] }] 9) 
  have hb1 := keep_step hb0 hzX bb
  go_simp
  refine hK'.out _ _ (.inr trivial) ?_
  clear hK' K'
  try simp only [pa, pb, pc, Act.put, pd, pe, pf]
  refine wpAnyL_one 3 (by kernel_rfl) rfl (wanted_none rfl) ?_
  intro K' hK'
  go_simp
  go_at_call 31
  refine (acquire_of _ _ _ _).mono ?_
  rintro e X2 ⟨rfl, hbc⟩
  have hb2 := keep_step hb1 hzX hbc
  have bs2 := (hbc.block X.heap.size (by omega)).trans bs
  refine hK'.out _ _ (.inr trivial) ?_
  clear hK' K'
  try simp only [pa, pb, pc, Act.put, pd, pe, pf]
  have KP := awP1 (HA.out _ hb2).2.2 bs2
  refine wpAnyL_one 4 (by kernel_rfl) rfl (wanted_none rfl) ?_
  intro K' hK'
  go_simp
  go_at_call 11
  refine KP.mono ?_
  rintro e X3 ⟨⟨z1, rfl, hz1_, hR1⟩, hbc⟩
  have hz1 : Hid (z1.t = aw1) := hz1_
  clear hz1_
  have hb3 := keep_step hb2 hzX hbc
  clear KP hbc
  refine hK'.out _ _ (.inr trivial) ?_
  clear hK' K'
  try simp only [pa, pb, pc, Act.put, pd, pe, pf]
  refine wpAnyL_take 5 rfl (by kernel_rfl) (by kernel_rfl) (by kernel_rfl) (by kernel_rfl) (fun _ _ _ h => h) (wanted_none rfl) (by intro w' hS'; go_simp <;> rfl) trivial ?_
  try simp only [pa, pb, pc, Act.put, pd, pe, pf]
  refine wpAnyL_take 6 rfl (by kernel_rfl) (by kernel_rfl) (by kernel_rfl) (by kernel_rfl) (fun _ _ _ h => h) (wanted_none rfl) (by intro w' hS'; go_simp <;> rfl) trivial ?_
  try simp only [pa, pb, pc, Act.put, pd, pe, pf]
  refine wpAnyL_take 7 rfl (by kernel_rfl) (by kernel_rfl) (by kernel_rfl) (by kernel_rfl) (fun _ _ _ h => h) (wanted_none rfl) (by intro w' hS'; go_simp <;> rfl) trivial ?_
  try simp only [pa, pb, pc, Act.put, pd, pe, pf]
  obtain ⟨t1, ⟨a1, s1⟩, ⟨a2, s2⟩, ⟨a3, s3⟩, ⟨a4, s4⟩, ⟨a5, s5⟩⟩ := z1
  have pb := (HA.out _ hb3).2.1
  obtain ⟨⟨f0, f1, f2, f3, f4, f5⟩, x0, x1, x2, x3, x4, x5⟩ := t_cells pb
  have P5 := set6_block pb (.int .i64 t1.now) (.slice a1 t1.spans.length s1) (.slice a2 t1.frozen.length s2) (.slice a3 t1.holds.length s3) (.slice a4 t1.marks.length s4) (.slice a5 t1.ints.length s5)
  have T5 := hR1.setc pb (grown_set6 (.int .i64 t1.now) (.slice a1 t1.spans.length s1) (.slice a2 t1.frozen.length s2) (.slice a3 t1.holds.length s3) (.slice a4 t1.marks.length s4) (.slice a5 t1.ints.length s5))
  have B5 := set6_below (.int .i64 t1.now) (.slice a1 t1.spans.length s1) (.slice a2 t1.frozen.length s2) (.slice a3 t1.holds.length s3) (.slice a4 t1.marks.length s4) (.slice a5 t1.ints.length s5) (g := w.heap.size + 1) (HA.out _ hb3).1 (Nat.le_succ _)
  unfold set6 at P5 T5 B5
  dsimp only [tv] at *
  obtain ⟨W5, hW5⟩ : ∃ W, (((((X3.setCell ⟨w.heap.size + 1, 0, none⟩ (.int .i64 t1.now)).setCell ⟨w.heap.size + 1, 1, none⟩ (.slice a1 t1.spans.length s1)).setCell ⟨w.heap.size + 1, 2, none⟩ (.slice a2 t1.frozen.length s2)).setCell ⟨w.heap.size + 1, 3, none⟩ (.slice a3 t1.holds.length s3)).setCell ⟨w.heap.size + 1, 4, none⟩ (.slice a4 t1.marks.length s4)).setCell ⟨w.heap.size + 1, 5, none⟩ (.slice a5 t1.ints.length s5) = W := ⟨_, rfl⟩
  rw [hW5] at P5 T5 B5
  clear pb hR1
  refine wpAnyL_one 8 (by kernel_rfl) rfl (wanted_none rfl) ?_
  intro K' hK'
  go_simp
  refine hK'.out _ _ (.inr trivial) ?_
  clear hK' K'
  try simp only [pa, pb, pc, Act.put, pd, pe, pf]
  refine wpAnyL_take 9 rfl (by kernel_rfl) (by kernel_rfl) (by kernel_rfl) (by kernel_rfl) (fun _ _ _ h => h) (wanted_none rfl) (by intro w' hS'; go_simp <;> rfl) trivial ?_
  try simp only [pa, pb, pc, Act.put, pd, pe, pf]
  refine wpAnyL_done (by kernel_rfl) (NoPanic.normal ?_) _
  have Z5 : w.heap.size + 2 ≤ W5.heap.size := by rw [← hW5]; simp; have := hb3.size; omega
  obtain ⟨-, y0, y1, y2, y3, y4, y5⟩ := t_cells P5
  have KF := awF (z := ⟨t1, (a1, s1), (a2, s2), (a3, s3), (a4, s4), (a5, s5)⟩) hz1.out T5.tbr
  clear T5 hX HA hzX hb0
  dsimp only [tv] at KF
  go_wp2_with fail
  refine KF.mono ?_
  rintro e W6 ⟨⟨z2, rfl, hz2_, hR2⟩, hb6⟩
  have hz2 : Hid (z2.t = aw2) := hz2_
  clear hz2_
  have p6 := (hb6.block (w.heap.size + 1) (by omega)).trans P5
  have B6 := keep_step B5 (Nat.le_refl _) hb6
  obtain ⟨t2, ⟨a1, s1⟩, ⟨a2, s2⟩, ⟨a3, s3⟩, ⟨a4, s4⟩, ⟨a5, s5⟩⟩ := z2
  obtain ⟨⟨f0, f1, f2, f3, f4, f5⟩, x0, x1, x2, x3, x4, x5⟩ := t_cells p6
  have P7 := set6_block p6 (.int .i64 t2.now) (.slice a1 t2.spans.length s1) (.slice a2 t2.frozen.length s2) (.slice a3 t2.holds.length s3) (.slice a4 t2.marks.length s4) (.slice a5 t2.ints.length s5)
  have T7 := hR2.setc p6 (grown_set6 (.int .i64 t2.now) (.slice a1 t2.spans.length s1) (.slice a2 t2.frozen.length s2) (.slice a3 t2.holds.length s3) (.slice a4 t2.marks.length s4) (.slice a5 t2.ints.length s5))
  have B7 := set6_below (.int .i64 t2.now) (.slice a1 t2.spans.length s1) (.slice a2 t2.frozen.length s2) (.slice a3 t2.holds.length s3) (.slice a4 t2.marks.length s4) (.slice a5 t2.ints.length s5) (g := w.heap.size + 1) B6 (Nat.le_succ _)
  have Z7 : w.heap.size + 2 ≤ (set6 W6 (w.heap.size + 1) (.int .i64 t2.now) (.slice a1 t2.spans.length s1) (.slice a2 t2.frozen.length s2) (.slice a3 t2.holds.length s3) (.slice a4 t2.marks.length s4) (.slice a5 t2.ints.length s5)).heap.size := by rw [set6_size]; exact Nat.le_trans Z5 hb6.size
  unfold set6 at P7 T7 B7 Z7
  dsimp only [tv] at *
  obtain ⟨W7, hW7⟩ : ∃ W, (((((W6.setCell ⟨w.heap.size + 1, 0, none⟩ (.int .i64 t2.now)).setCell ⟨w.heap.size + 1, 1, none⟩ (.slice a1 t2.spans.length s1)).setCell ⟨w.heap.size + 1, 2, none⟩ (.slice a2 t2.frozen.length s2)).setCell ⟨w.heap.size + 1, 3, none⟩ (.slice a3 t2.holds.length s3)).setCell ⟨w.heap.size + 1, 4, none⟩ (.slice a4 t2.marks.length s4)).setCell ⟨w.heap.size + 1, 5, none⟩ (.slice a5 t2.ints.length s5) = W := ⟨_, rfl⟩
  rw [hW7] at P7 T7 B7 Z7
  obtain ⟨-, m0, m1, m2, m3, m4, m5⟩ := t_cells P7
  have KI := awI (z := ⟨t2, (a1, s1), (a2, s2), (a3, s3), (a4, s4), (a5, s5)⟩) hz2.out T7.tbr
  dsimp only [tv] at KI
  clear KF hb6 p6 B6 hR2
  go_wp2_with fail
  refine KI.mono ?_
  rintro e W8 ⟨rfl, hb8⟩
  go_wp2
  obtain ⟨Y, hY⟩ : ∃ Y, W8.drew = Y := ⟨_, rfl⟩
  have hbY0 : Below Y.heap.size Y Y := Below.refl _ _
  have hzY2 : w.heap.size + 2 ≤ Y.heap.size := by rw [← hY]; exact Nat.le_trans Z7 hb8.size
  have hzY : Y.heap.size ≤ Y.heap.size := Nat.le_refl _
  have BY : Below W7.heap.size W7 Y := by rw [← hY]; exact hb8.drew
  have hYb : Y.heap[w.heap.size + 1]? = _ := (BY.block (w.heap.size + 1) (by omega)).trans P7
  have HY : Hid (∀ W, Below Y.heap.size Y W → Below w.heap.size w W) := fun W hW => (B7.trans (BY.mono (Nat.le_trans (Nat.le_add_right _ _) Z7))).trans (hW.mono (Nat.le_trans (Nat.le_add_right _ _) hzY2))
  have HS : Hid (∀ W, Below Y.heap.size Y W → (fun W => (W.cell? ⟨w.heap.size + 1, 0, none⟩ = some (.int .i64 t2.now) ∧ W.cell? ⟨w.heap.size + 1, 1, none⟩ = some (.slice a1 t2.spans.length s1) ∧ W.cell? ⟨w.heap.size + 1, 2, none⟩ = some (.slice a2 t2.frozen.length s2) ∧ W.cell? ⟨w.heap.size + 1, 3, none⟩ = some (.slice a3 t2.holds.length s3) ∧ W.cell? ⟨w.heap.size + 1, 4, none⟩ = some (.slice a4 t2.marks.length s4) ∧ W.cell? ⟨w.heap.size + 1, 5, none⟩ = some (.slice a5 t2.ints.length s5)) ∧ Below Y.heap.size Y W) W) := fun W hW => by
   obtain ⟨-, v0, v1, v2, v3, v4, v5⟩ := t_cells ((hW.block (w.heap.size + 1) (by omega)).trans hYb)
   exact ⟨⟨v0, v1, v2, v3, v4, v5⟩, hW⟩
  have HT : Hid (∀ W, Below Y.heap.size Y W → TbR W ⟨t2, (a1, s1), (a2, s2), (a3, s3), (a4, s4), (a5, s5)⟩) := fun W hW => ((T7.tbr.below BY)).below hW
  clear KI hb8 T7 B7 BY P7 P5 B5 Z5 Z7 hYb y0 y1 y2 y3 y4 y5 m0 m1 m2 m3 m4 m5 x0 x1 x2 x3 x4 x5 f0 f1 f2 f3 f4 f5
  refine wp_region_L (fun W => (W.cell? ⟨w.heap.size + 1, 0, none⟩ = some (.int .i64 t2.now) ∧ W.cell? ⟨w.heap.size + 1, 1, none⟩ = some (.slice a1 t2.spans.length s1) ∧ W.cell? ⟨w.heap.size + 1, 2, none⟩ = some (.slice a2 t2.frozen.length s2) ∧ W.cell? ⟨w.heap.size + 1, 3, none⟩ = some (.slice a3 t2.holds.length s3) ∧ W.cell? ⟨w.heap.size + 1, 4, none⟩ = some (.slice a4 t2.marks.length s4) ∧ W.cell? ⟨w.heap.size + 1, 5, none⟩ = some (.slice a5 t2.ints.length s5)) ∧ Below Y.heap.size Y W) [] (by kernel_rfl) ?_
  rw [hY]
  refine wpAnyL_take 0 rfl (by kernel_rfl) (by kernel_rfl) (by kernel_rfl) (by kernel_rfl) (fun _ _ _ h => h) (wanted_none rfl) (by intro w' hS'; obtain ⟨⟨x0, x1, x2, x3, x4, x5⟩, xb⟩ := hS'; go_simp <;> rfl) (HS.out _ hbY0) ?_
  try simp only [pa, pb, pc, Act.put, pd, pe, pf]
  refine wpAnyL_take 1 rfl (by kernel_rfl) (by kernel_rfl) (by kernel_rfl) (by kernel_rfl) (fun _ _ _ h => h) (wanted_none rfl) (by intro w' hS'; obtain ⟨⟨x0, x1, x2, x3, x4, x5⟩, xb⟩ := hS'; go_simp <;> rfl) (HS.out _ hbY0) ?_
  try simp only [pa, pb, pc, Act.put, pd, pe, pf]
  refine wpAnyL_two 2 8 (by kernel_rfl) rfl rfl (wanted_none rfl) (wanted_none rfl) ?_ ?_
  ·intro K' hK'
   obtain ⟨-, bs0, bb0⟩ := one_box Y (.cells #[.string { data := #[97] }] 9)
   have hb0 := keep_step hbY0 hzY bb0
   go_simp
   refine hK'.out _ _ (.inr (HS.out _ hb0)) ?_
   clear hK' K'
   try simp only [pa, pb, pc, Act.put, pd, pe, pf]
   obtain ⟨Y02, hY02⟩ : ∃ V, Y.alloc (.cells #[.string { data := #[97] }] 9) = V := ⟨_, rfl⟩
   rw [hY02] at hb0 bs0
   rw [hY02]
   refine wpAnyL_two 3 8 (by kernel_rfl) rfl rfl (wanted_none rfl) (wanted_none rfl) ?_ ?_
   ·intro K' hK'
    go_simp
    go_at_call 31
    refine (acquire_of _ _ _ _).mono ?_
    rintro e Y13 ⟨rfl, hbc1⟩
    have hb1 := keep_step hb0 hzY hbc1
    have bs1 := (hbc1.block (Y.heap.size) (Array.getElem?_eq_some_iff.1 bs0).1).trans bs0
    refine hK'.out _ _ (.inr (HS.out _ hb1)) ?_
    clear hK' K'
    try simp only [pa, pb, pc, Act.put, pd, pe, pf]
    refine wpAnyL_two 4 8 (by kernel_rfl) rfl rfl (wanted_none rfl) (wanted_none rfl) ?_ ?_
    ·intro K' hK'
     go_simp
     go_at_call 11
     refine (awP2 hz2.out (HT.out _ hb1) bs1).mono ?_
     rintro e Y24 ⟨⟨z3, rfl⟩, hbc2⟩
     have hb2 := keep_step hb1 hzY hbc2
     refine hK'.out _ _ (.inr (HS.out _ hb2)) ?_
     clear hK' K'
     try simp only [pa, pb, pc, Act.put, pd, pe, pf]
     refine wpAnyL_take 5 rfl (by kernel_rfl) (by kernel_rfl) (by kernel_rfl) (by kernel_rfl) (fun _ _ _ h => h) (wanted_none rfl) (by intro w' hS'; obtain ⟨⟨x0, x1, x2, x3, x4, x5⟩, xb⟩ := hS'; go_simp <;> rfl) (HS.out _ hb2) ?_
     try simp only [pa, pb, pc, Act.put, pd, pe, pf]
     refine wpAnyL_take 6 rfl (by kernel_rfl) (by kernel_rfl) (by kernel_rfl) (by kernel_rfl) (fun _ _ _ h => h) (wanted_none rfl) (by intro w' hS'; obtain ⟨⟨x0, x1, x2, x3, x4, x5⟩, xb⟩ := hS'; go_simp <;> rfl) (HS.out _ hb2) ?_
     try simp only [pa, pb, pc, Act.put, pd, pe, pf]
     refine wpAnyL_take 7 rfl (by kernel_rfl) (by kernel_rfl) (by kernel_rfl) (by kernel_rfl) (fun _ _ _ h => h) (wanted_none rfl) (by intro w' hS'; obtain ⟨⟨x0, x1, x2, x3, x4, x5⟩, xb⟩ := hS'; go_simp <;> rfl) (HS.out _ hb2) ?_
     try simp only [pa, pb, pc, Act.put, pd, pe, pf]
     refine wpAnyL_one 8 (by kernel_rfl) rfl (wanted_none rfl) ?_
     intro K' hK'
     obtain ⟨-, gb3, bb3⟩ := one_box Y24 (.cells #[.int .i64 0, .slice none 0 0, .slice none 0 0, .slice none 0 0, .slice none 0 0, .slice none 0 0] 27)
     have hb3 := keep_step hb2 hzY bb3
     go_simp
     refine hK'.out _ _ (.inr (HS.out _ hb3)) ?_
     clear hK' K'
     try simp only [pa, pb, pc, Act.put, pd, pe, pf]
     obtain ⟨Y38, hY38⟩ : ∃ V, Y24.alloc (.cells #[.int .i64 0, .slice none 0 0, .slice none 0 0, .slice none 0 0, .slice none 0 0, .slice none 0 0] 27) = V := ⟨_, rfl⟩
     rw [hY38] at hb3 gb3
     rw [hY38]
     obtain ⟨t3, ⟨o1, n1⟩, ⟨o2, n2⟩, ⟨o3, n3⟩, ⟨o4, n4⟩, ⟨o5, n5⟩⟩ := z3
     obtain ⟨⟨f0, f1, f2, f3, f4, f5⟩, i0, i1, i2, i3, i4, i5⟩ := t_cells gb3
     have BF := set6_below (.int .i64 t3.now) (.slice o1 t3.spans.length n1) (.slice o2 t3.frozen.length n2) (.slice o3 t3.holds.length n3) (.slice o4 t3.marks.length n4) (.slice o5 t3.ints.length n5) (g := Y24.heap.size) hb3 hb2.size
     unfold set6 at BF
     dsimp only [tv] at *
     refine wpAnyL_one 9 (by kernel_rfl) rfl (wanted_none rfl) ?_
     intro K' hK'
     go_simp
     refine hK'.out _ _ (.inr (HS.out _ BF)) ?_
     clear hK' K'
     try simp only [pa, pb, pc, Act.put, pd, pe, pf]
     refine wpAnyL_take 10 rfl (by kernel_rfl) (by kernel_rfl) (by kernel_rfl) (by kernel_rfl) (fun _ _ _ h => h) (wanted_none rfl) (by intro w' hS'; obtain ⟨⟨x0, x1, x2, x3, x4, x5⟩, xb⟩ := hS'; go_simp <;> rfl) (HS.out _ BF) ?_
     try simp only [pa, pb, pc, Act.put, pd, pe, pf]
     refine wpAnyL_done (by kernel_rfl) (NoPanic.normal ?_) _
     have hfin := (HY.out _ BF)
     clear BF f0 f1 f2 f3 f4 f5 i0 i1 i2 i3 i4 i5
     go_wp2
     go_ret
     exact ⟨by first | rfl | simp, hfin⟩
    ·intro K' hK'
     obtain ⟨-, gb2, bb2⟩ := one_box Y13 (.cells #[.int .i64 0, .slice none 0 0, .slice none 0 0, .slice none 0 0, .slice none 0 0, .slice none 0 0] 27)
     have hb2 := keep_step hb1 hzY bb2
     have bs2 := (bb2.block (Y.heap.size) (by have := (Array.getElem?_eq_some_iff.1 bs1).1; omega)).trans bs1
     go_simp
     refine hK'.out _ _ (.inr (HS.out _ hb2)) ?_
     clear hK' K'
     try simp only [pa, pb, pc, Act.put, pd, pe, pf]
     obtain ⟨Y28, hY28⟩ : ∃ V, Y13.alloc (.cells #[.int .i64 0, .slice none 0 0, .slice none 0 0, .slice none 0 0, .slice none 0 0, .slice none 0 0] 27) = V := ⟨_, rfl⟩
     rw [hY28] at hb2 gb2 bs2
     rw [hY28]
     refine wpAnyL_one 4 (by kernel_rfl) rfl (wanted_none rfl) ?_
     intro K' hK'
     go_simp
     go_at_call 11
     refine (awP2 hz2.out (HT.out _ hb2) bs2).mono ?_
     rintro e Y34 ⟨⟨z3, rfl⟩, hbc3⟩
     have hb3 := keep_step hb2 hzY hbc3
     have gb3 := (hbc3.block (Y13.heap.size) (Array.getElem?_eq_some_iff.1 gb2).1).trans gb2
     refine hK'.out _ _ (.inr (HS.out _ hb3)) ?_
     clear hK' K'
     try simp only [pa, pb, pc, Act.put, pd, pe, pf]
     refine wpAnyL_take 5 rfl (by kernel_rfl) (by kernel_rfl) (by kernel_rfl) (by kernel_rfl) (fun _ _ _ h => h) (wanted_none rfl) (by intro w' hS'; obtain ⟨⟨x0, x1, x2, x3, x4, x5⟩, xb⟩ := hS'; go_simp <;> rfl) (HS.out _ hb3) ?_
     try simp only [pa, pb, pc, Act.put, pd, pe, pf]
     refine wpAnyL_take 6 rfl (by kernel_rfl) (by kernel_rfl) (by kernel_rfl) (by kernel_rfl) (fun _ _ _ h => h) (wanted_none rfl) (by intro w' hS'; obtain ⟨⟨x0, x1, x2, x3, x4, x5⟩, xb⟩ := hS'; go_simp <;> rfl) (HS.out _ hb3) ?_
     try simp only [pa, pb, pc, Act.put, pd, pe, pf]
     refine wpAnyL_take 7 rfl (by kernel_rfl) (by kernel_rfl) (by kernel_rfl) (by kernel_rfl) (fun _ _ _ h => h) (wanted_none rfl) (by intro w' hS'; obtain ⟨⟨x0, x1, x2, x3, x4, x5⟩, xb⟩ := hS'; go_simp <;> rfl) (HS.out _ hb3) ?_
     try simp only [pa, pb, pc, Act.put, pd, pe, pf]
     obtain ⟨t3, ⟨o1, n1⟩, ⟨o2, n2⟩, ⟨o3, n3⟩, ⟨o4, n4⟩, ⟨o5, n5⟩⟩ := z3
     obtain ⟨⟨f0, f1, f2, f3, f4, f5⟩, i0, i1, i2, i3, i4, i5⟩ := t_cells gb3
     have BF := set6_below (.int .i64 t3.now) (.slice o1 t3.spans.length n1) (.slice o2 t3.frozen.length n2) (.slice o3 t3.holds.length n3) (.slice o4 t3.marks.length n4) (.slice o5 t3.ints.length n5) (g := Y13.heap.size) hb3 hb1.size
     unfold set6 at BF
     dsimp only [tv] at *
     refine wpAnyL_one 9 (by kernel_rfl) rfl (wanted_none rfl) ?_
     intro K' hK'
     go_simp
     refine hK'.out _ _ (.inr (HS.out _ BF)) ?_
     clear hK' K'
     try simp only [pa, pb, pc, Act.put, pd, pe, pf]
     refine wpAnyL_take 10 rfl (by kernel_rfl) (by kernel_rfl) (by kernel_rfl) (by kernel_rfl) (fun _ _ _ h => h) (wanted_none rfl) (by intro w' hS'; obtain ⟨⟨x0, x1, x2, x3, x4, x5⟩, xb⟩ := hS'; go_simp <;> rfl) (HS.out _ BF) ?_
     try simp only [pa, pb, pc, Act.put, pd, pe, pf]
     refine wpAnyL_done (by kernel_rfl) (NoPanic.normal ?_) _
     have hfin := (HY.out _ BF)
     clear BF f0 f1 f2 f3 f4 f5 i0 i1 i2 i3 i4 i5
     go_wp2
     go_ret
     exact ⟨by first | rfl | simp, hfin⟩
   ·intro K' hK'
    obtain ⟨-, gb1, bb1⟩ := one_box Y02 (.cells #[.int .i64 0, .slice none 0 0, .slice none 0 0, .slice none 0 0, .slice none 0 0, .slice none 0 0] 27)
    have hb1 := keep_step hb0 hzY bb1
    have bs1 := (bb1.block (Y.heap.size) (by have := (Array.getElem?_eq_some_iff.1 bs0).1; omega)).trans bs0
    go_simp
    refine hK'.out _ _ (.inr (HS.out _ hb1)) ?_
    clear hK' K'
    try simp only [pa, pb, pc, Act.put, pd, pe, pf]
    obtain ⟨Y18, hY18⟩ : ∃ V, Y02.alloc (.cells #[.int .i64 0, .slice none 0 0, .slice none 0 0, .slice none 0 0, .slice none 0 0, .slice none 0 0] 27) = V := ⟨_, rfl⟩
    rw [hY18] at hb1 gb1 bs1
    rw [hY18]
    refine wpAnyL_one 3 (by kernel_rfl) rfl (wanted_none rfl) ?_
    intro K' hK'
    go_simp
    go_at_call 31
    refine (acquire_of _ _ _ _).mono ?_
    rintro e Y23 ⟨rfl, hbc2⟩
    have hb2 := keep_step hb1 hzY hbc2
    have bs2 := (hbc2.block (Y.heap.size) (Array.getElem?_eq_some_iff.1 bs1).1).trans bs1
    have gb2 := (hbc2.block (Y02.heap.size) (Array.getElem?_eq_some_iff.1 gb1).1).trans gb1
    refine hK'.out _ _ (.inr (HS.out _ hb2)) ?_
    clear hK' K'
    try simp only [pa, pb, pc, Act.put, pd, pe, pf]
    refine wpAnyL_one 4 (by kernel_rfl) rfl (wanted_none rfl) ?_
    intro K' hK'
    go_simp
    go_at_call 11
    refine (awP2 hz2.out (HT.out _ hb2) bs2).mono ?_
    rintro e Y34 ⟨⟨z3, rfl⟩, hbc3⟩
    have hb3 := keep_step hb2 hzY hbc3
    have gb3 := (hbc3.block (Y02.heap.size) (Array.getElem?_eq_some_iff.1 gb2).1).trans gb2
    refine hK'.out _ _ (.inr (HS.out _ hb3)) ?_
    clear hK' K'
    try simp only [pa, pb, pc, Act.put, pd, pe, pf]
    refine wpAnyL_take 5 rfl (by kernel_rfl) (by kernel_rfl) (by kernel_rfl) (by kernel_rfl) (fun _ _ _ h => h) (wanted_none rfl) (by intro w' hS'; obtain ⟨⟨x0, x1, x2, x3, x4, x5⟩, xb⟩ := hS'; go_simp <;> rfl) (HS.out _ hb3) ?_
    try simp only [pa, pb, pc, Act.put, pd, pe, pf]
    refine wpAnyL_take 6 rfl (by kernel_rfl) (by kernel_rfl) (by kernel_rfl) (by kernel_rfl) (fun _ _ _ h => h) (wanted_none rfl) (by intro w' hS'; obtain ⟨⟨x0, x1, x2, x3, x4, x5⟩, xb⟩ := hS'; go_simp <;> rfl) (HS.out _ hb3) ?_
    try simp only [pa, pb, pc, Act.put, pd, pe, pf]
    refine wpAnyL_take 7 rfl (by kernel_rfl) (by kernel_rfl) (by kernel_rfl) (by kernel_rfl) (fun _ _ _ h => h) (wanted_none rfl) (by intro w' hS'; obtain ⟨⟨x0, x1, x2, x3, x4, x5⟩, xb⟩ := hS'; go_simp <;> rfl) (HS.out _ hb3) ?_
    try simp only [pa, pb, pc, Act.put, pd, pe, pf]
    obtain ⟨t3, ⟨o1, n1⟩, ⟨o2, n2⟩, ⟨o3, n3⟩, ⟨o4, n4⟩, ⟨o5, n5⟩⟩ := z3
    obtain ⟨⟨f0, f1, f2, f3, f4, f5⟩, i0, i1, i2, i3, i4, i5⟩ := t_cells gb3
    have BF := set6_below (.int .i64 t3.now) (.slice o1 t3.spans.length n1) (.slice o2 t3.frozen.length n2) (.slice o3 t3.holds.length n3) (.slice o4 t3.marks.length n4) (.slice o5 t3.ints.length n5) (g := Y02.heap.size) hb3 hb0.size
    unfold set6 at BF
    dsimp only [tv] at *
    refine wpAnyL_one 9 (by kernel_rfl) rfl (wanted_none rfl) ?_
    intro K' hK'
    go_simp
    refine hK'.out _ _ (.inr (HS.out _ BF)) ?_
    clear hK' K'
    try simp only [pa, pb, pc, Act.put, pd, pe, pf]
    refine wpAnyL_take 10 rfl (by kernel_rfl) (by kernel_rfl) (by kernel_rfl) (by kernel_rfl) (fun _ _ _ h => h) (wanted_none rfl) (by intro w' hS'; obtain ⟨⟨x0, x1, x2, x3, x4, x5⟩, xb⟩ := hS'; go_simp <;> rfl) (HS.out _ BF) ?_
    try simp only [pa, pb, pc, Act.put, pd, pe, pf]
    refine wpAnyL_done (by kernel_rfl) (NoPanic.normal ?_) _
    have hfin := (HY.out _ BF)
    clear BF f0 f1 f2 f3 f4 f5 i0 i1 i2 i3 i4 i5
    go_wp2
    go_ret
    exact ⟨by first | rfl | simp, hfin⟩
  ·intro K' hK'
   obtain ⟨-, gb0, bb0⟩ := one_box Y (.cells #[.int .i64 0, .slice none 0 0, .slice none 0 0, .slice none 0 0, .slice none 0 0, .slice none 0 0] 27)
   have hb0 := keep_step hbY0 hzY bb0
   go_simp
   refine hK'.out _ _ (.inr (HS.out _ hb0)) ?_
   clear hK' K'
   try simp only [pa, pb, pc, Act.put, pd, pe, pf]
   obtain ⟨Y08, hY08⟩ : ∃ V, Y.alloc (.cells #[.int .i64 0, .slice none 0 0, .slice none 0 0, .slice none 0 0, .slice none 0 0, .slice none 0 0] 27) = V := ⟨_, rfl⟩
   rw [hY08] at hb0 gb0
   rw [hY08]
   refine wpAnyL_one 2 (by kernel_rfl) rfl (wanted_none rfl) ?_
   intro K' hK'
   obtain ⟨-, bs1, bb1⟩ := one_box Y08 (.cells #[.string { data := #[97] }] 9)
   have hb1 := keep_step hb0 hzY bb1
   have gb1 := (bb1.block Y.heap.size (by have := (Array.getElem?_eq_some_iff.1 gb0).1; omega)).trans gb0
   go_simp
   refine hK'.out _ _ (.inr (HS.out _ hb1)) ?_
   clear hK' K'
   try simp only [pa, pb, pc, Act.put, pd, pe, pf]
   obtain ⟨Y12, hY12⟩ : ∃ V, Y08.alloc (.cells #[.string { data := #[97] }] 9) = V := ⟨_, rfl⟩
   rw [hY12] at hb1 bs1 gb1
   rw [hY12]
   refine wpAnyL_one 3 (by kernel_rfl) rfl (wanted_none rfl) ?_
   intro K' hK'
   go_simp
   go_at_call 31
   refine (acquire_of _ _ _ _).mono ?_
   rintro e Y23 ⟨rfl, hbc2⟩
   have hb2 := keep_step hb1 hzY hbc2
   have bs2 := (hbc2.block (Y08.heap.size) (Array.getElem?_eq_some_iff.1 bs1).1).trans bs1
   have gb2 := (hbc2.block (Y.heap.size) (Array.getElem?_eq_some_iff.1 gb1).1).trans gb1
   refine hK'.out _ _ (.inr (HS.out _ hb2)) ?_
   clear hK' K'
   try simp only [pa, pb, pc, Act.put, pd, pe, pf]
   refine wpAnyL_one 4 (by kernel_rfl) rfl (wanted_none rfl) ?_
   intro K' hK'
   go_simp
   go_at_call 11
   refine (awP2 hz2.out (HT.out _ hb2) bs2).mono ?_
   rintro e Y34 ⟨⟨z3, rfl⟩, hbc3⟩
   have hb3 := keep_step hb2 hzY hbc3
   have gb3 := (hbc3.block (Y.heap.size) (Array.getElem?_eq_some_iff.1 gb2).1).trans gb2
   refine hK'.out _ _ (.inr (HS.out _ hb3)) ?_
   clear hK' K'
   try simp only [pa, pb, pc, Act.put, pd, pe, pf]
   refine wpAnyL_take 5 rfl (by kernel_rfl) (by kernel_rfl) (by kernel_rfl) (by kernel_rfl) (fun _ _ _ h => h) (wanted_none rfl) (by intro w' hS'; obtain ⟨⟨x0, x1, x2, x3, x4, x5⟩, xb⟩ := hS'; go_simp <;> rfl) (HS.out _ hb3) ?_
   try simp only [pa, pb, pc, Act.put, pd, pe, pf]
   refine wpAnyL_take 6 rfl (by kernel_rfl) (by kernel_rfl) (by kernel_rfl) (by kernel_rfl) (fun _ _ _ h => h) (wanted_none rfl) (by intro w' hS'; obtain ⟨⟨x0, x1, x2, x3, x4, x5⟩, xb⟩ := hS'; go_simp <;> rfl) (HS.out _ hb3) ?_
   try simp only [pa, pb, pc, Act.put, pd, pe, pf]
   refine wpAnyL_take 7 rfl (by kernel_rfl) (by kernel_rfl) (by kernel_rfl) (by kernel_rfl) (fun _ _ _ h => h) (wanted_none rfl) (by intro w' hS'; obtain ⟨⟨x0, x1, x2, x3, x4, x5⟩, xb⟩ := hS'; go_simp <;> rfl) (HS.out _ hb3) ?_
   try simp only [pa, pb, pc, Act.put, pd, pe, pf]
   obtain ⟨t3, ⟨o1, n1⟩, ⟨o2, n2⟩, ⟨o3, n3⟩, ⟨o4, n4⟩, ⟨o5, n5⟩⟩ := z3
   obtain ⟨⟨f0, f1, f2, f3, f4, f5⟩, i0, i1, i2, i3, i4, i5⟩ := t_cells gb3
   have BF := set6_below (.int .i64 t3.now) (.slice o1 t3.spans.length n1) (.slice o2 t3.frozen.length n2) (.slice o3 t3.holds.length n3) (.slice o4 t3.marks.length n4) (.slice o5 t3.ints.length n5) (g := Y.heap.size) hb3 hbY0.size
   unfold set6 at BF
   dsimp only [tv] at *
   refine wpAnyL_one 9 (by kernel_rfl) rfl (wanted_none rfl) ?_
   intro K' hK'
   go_simp
   refine hK'.out _ _ (.inr (HS.out _ BF)) ?_
   clear hK' K'
   try simp only [pa, pb, pc, Act.put, pd, pe, pf]
   refine wpAnyL_take 10 rfl (by kernel_rfl) (by kernel_rfl) (by kernel_rfl) (by kernel_rfl) (fun _ _ _ h => h) (wanted_none rfl) (by intro w' hS'; obtain ⟨⟨x0, x1, x2, x3, x4, x5⟩, xb⟩ := hS'; go_simp <;> rfl) (HS.out _ BF) ?_
   try simp only [pa, pb, pc, Act.put, pd, pe, pf]
   refine wpAnyL_done (by kernel_rfl) (NoPanic.normal ?_) _
   have hfin := (HY.out _ BF)
   clear BF f0 f1 f2 f3 f4 f5 i0 i1 i2 i3 i4 i5
   go_wp2
   go_ret
   exact ⟨by first | rfl | simp, hfin⟩
 ·intro K' hK'
  obtain ⟨bz, bs, bb⟩ := one_box X (.cells #[.string { data := #[97] }, .string { data := #[98] }] 9) 
  have hb1 := keep_step hb0 hzX bb
  go_simp
  refine hK'.out _ _ (.inr trivial) ?_
  clear hK' K'
  try simp only [pa, pb, pc, Act.put, pd, pe, pf]
  refine wpAnyL_two 0 3 (by kernel_rfl) rfl rfl (wanted_none rfl) (wanted_none rfl) ?_ ?_
  ·intro K' hK'
   obtain ⟨-, c0, c1, c2, c3, c4, c5⟩ := t_cells (HA.out _ hb1).2.1
   go_simp
   refine hK'.out _ _ (.inr trivial) ?_
   clear hK' K'
   try simp only [pa, pb, pc, Act.put, pd, pe, pf]
   clear c0 c1 c2 c3 c4 c5
   refine wpAnyL_one 3 (by kernel_rfl) rfl (wanted_none rfl) ?_
   intro K' hK'
   go_simp
   go_at_call 31
   refine (acquire_of _ _ _ _).mono ?_
   rintro e X2 ⟨rfl, hbc⟩
   have hb2 := keep_step hb1 hzX hbc
   have bs2 := (hbc.block X.heap.size (by omega)).trans bs
   refine hK'.out _ _ (.inr trivial) ?_
   clear hK' K'
   try simp only [pa, pb, pc, Act.put, pd, pe, pf]
   have KP := awP1 (HA.out _ hb2).2.2 bs2
   refine wpAnyL_one 4 (by kernel_rfl) rfl (wanted_none rfl) ?_
   intro K' hK'
   go_simp
   go_at_call 11
   refine KP.mono ?_
   rintro e X3 ⟨⟨z1, rfl, hz1_, hR1⟩, hbc⟩
   have hz1 : Hid (z1.t = aw1) := hz1_
   clear hz1_
   have hb3 := keep_step hb2 hzX hbc
   clear KP hbc
   refine hK'.out _ _ (.inr trivial) ?_
   clear hK' K'
   try simp only [pa, pb, pc, Act.put, pd, pe, pf]
   refine wpAnyL_take 5 rfl (by kernel_rfl) (by kernel_rfl) (by kernel_rfl) (by kernel_rfl) (fun _ _ _ h => h) (wanted_none rfl) (by intro w' hS'; go_simp <;> rfl) trivial ?_
   try simp only [pa, pb, pc, Act.put, pd, pe, pf]
   refine wpAnyL_take 6 rfl (by kernel_rfl) (by kernel_rfl) (by kernel_rfl) (by kernel_rfl) (fun _ _ _ h => h) (wanted_none rfl) (by intro w' hS'; go_simp <;> rfl) trivial ?_
   try simp only [pa, pb, pc, Act.put, pd, pe, pf]
   refine wpAnyL_take 7 rfl (by kernel_rfl) (by kernel_rfl) (by kernel_rfl) (by kernel_rfl) (fun _ _ _ h => h) (wanted_none rfl) (by intro w' hS'; go_simp <;> rfl) trivial ?_
   try simp only [pa, pb, pc, Act.put, pd, pe, pf]
   obtain ⟨t1, ⟨a1, s1⟩, ⟨a2, s2⟩, ⟨a3, s3⟩, ⟨a4, s4⟩, ⟨a5, s5⟩⟩ := z1
   have pb := (HA.out _ hb3).2.1
   obtain ⟨⟨f0, f1, f2, f3, f4, f5⟩, x0, x1, x2, x3, x4, x5⟩ := t_cells pb
   have P5 := set6_block pb (.int .i64 t1.now) (.slice a1 t1.spans.length s1) (.slice a2 t1.frozen.length s2) (.slice a3 t1.holds.length s3) (.slice a4 t1.marks.length s4) (.slice a5 t1.ints.length s5)
   have T5 := hR1.setc pb (grown_set6 (.int .i64 t1.now) (.slice a1 t1.spans.length s1) (.slice a2 t1.frozen.length s2) (.slice a3 t1.holds.length s3) (.slice a4 t1.marks.length s4) (.slice a5 t1.ints.length s5))
   have B5 := set6_below (.int .i64 t1.now) (.slice a1 t1.spans.length s1) (.slice a2 t1.frozen.length s2) (.slice a3 t1.holds.length s3) (.slice a4 t1.marks.length s4) (.slice a5 t1.ints.length s5) (g := w.heap.size + 1) (HA.out _ hb3).1 (Nat.le_succ _)
   unfold set6 at P5 T5 B5
   dsimp only [tv] at *
   obtain ⟨W5, hW5⟩ : ∃ W, (((((X3.setCell ⟨w.heap.size + 1, 0, none⟩ (.int .i64 t1.now)).setCell ⟨w.heap.size + 1, 1, none⟩ (.slice a1 t1.spans.length s1)).setCell ⟨w.heap.size + 1, 2, none⟩ (.slice a2 t1.frozen.length s2)).setCell ⟨w.heap.size + 1, 3, none⟩ (.slice a3 t1.holds.length s3)).setCell ⟨w.heap.size + 1, 4, none⟩ (.slice a4 t1.marks.length s4)).setCell ⟨w.heap.size + 1, 5, none⟩ (.slice a5 t1.ints.length s5) = W := ⟨_, rfl⟩
   rw [hW5] at P5 T5 B5
   clear pb hR1
   refine wpAnyL_one 8 (by kernel_rfl) rfl (wanted_none rfl) ?_
   intro K' hK'
   go_simp
   refine hK'.out _ _ (.inr trivial) ?_
   clear hK' K'
   try simp only [pa, pb, pc, Act.put, pd, pe, pf]
   refine wpAnyL_take 9 rfl (by kernel_rfl) (by kernel_rfl) (by kernel_rfl) (by kernel_rfl) (fun _ _ _ h => h) (wanted_none rfl) (by intro w' hS'; go_simp <;> rfl) trivial ?_
   try simp only [pa, pb, pc, Act.put, pd, pe, pf]
   refine wpAnyL_done (by kernel_rfl) (NoPanic.normal ?_) _
   have Z5 : w.heap.size + 2 ≤ W5.heap.size := by rw [← hW5]; simp; have := hb3.size; omega
   obtain ⟨-, y0, y1, y2, y3, y4, y5⟩ := t_cells P5
   have KF := awF (z := ⟨t1, (a1, s1), (a2, s2), (a3, s3), (a4, s4), (a5, s5)⟩) hz1.out T5.tbr
   clear T5 hX HA hzX hb0
   dsimp only [tv] at KF
   go_wp2_with fail
   refine KF.mono ?_
   rintro e W6 ⟨⟨z2, rfl, hz2_, hR2⟩, hb6⟩
   have hz2 : Hid (z2.t = aw2) := hz2_
   clear hz2_
   have p6 := (hb6.block (w.heap.size + 1) (by omega)).trans P5
   have B6 := keep_step B5 (Nat.le_refl _) hb6
   obtain ⟨t2, ⟨a1, s1⟩, ⟨a2, s2⟩, ⟨a3, s3⟩, ⟨a4, s4⟩, ⟨a5, s5⟩⟩ := z2
   obtain ⟨⟨f0, f1, f2, f3, f4, f5⟩, x0, x1, x2, x3, x4, x5⟩ := t_cells p6
   have P7 := set6_block p6 (.int .i64 t2.now) (.slice a1 t2.spans.length s1) (.slice a2 t2.frozen.length s2) (.slice a3 t2.holds.length s3) (.slice a4 t2.marks.length s4) (.slice a5 t2.ints.length s5)
   have T7 := hR2.setc p6 (grown_set6 (.int .i64 t2.now) (.slice a1 t2.spans.length s1) (.slice a2 t2.frozen.length s2) (.slice a3 t2.holds.length s3) (.slice a4 t2.marks.length s4) (.slice a5 t2.ints.length s5))
   have B7 := set6_below (.int .i64 t2.now) (.slice a1 t2.spans.length s1) (.slice a2 t2.frozen.length s2) (.slice a3 t2.holds.length s3) (.slice a4 t2.marks.length s4) (.slice a5 t2.ints.length s5) (g := w.heap.size + 1) B6 (Nat.le_succ _)
   have Z7 : w.heap.size + 2 ≤ (set6 W6 (w.heap.size + 1) (.int .i64 t2.now) (.slice a1 t2.spans.length s1) (.slice a2 t2.frozen.length s2) (.slice a3 t2.holds.length s3) (.slice a4 t2.marks.length s4) (.slice a5 t2.ints.length s5)).heap.size := by rw [set6_size]; exact Nat.le_trans Z5 hb6.size
   unfold set6 at P7 T7 B7 Z7
   dsimp only [tv] at *
   obtain ⟨W7, hW7⟩ : ∃ W, (((((W6.setCell ⟨w.heap.size + 1, 0, none⟩ (.int .i64 t2.now)).setCell ⟨w.heap.size + 1, 1, none⟩ (.slice a1 t2.spans.length s1)).setCell ⟨w.heap.size + 1, 2, none⟩ (.slice a2 t2.frozen.length s2)).setCell ⟨w.heap.size + 1, 3, none⟩ (.slice a3 t2.holds.length s3)).setCell ⟨w.heap.size + 1, 4, none⟩ (.slice a4 t2.marks.length s4)).setCell ⟨w.heap.size + 1, 5, none⟩ (.slice a5 t2.ints.length s5) = W := ⟨_, rfl⟩
   rw [hW7] at P7 T7 B7 Z7
   obtain ⟨-, m0, m1, m2, m3, m4, m5⟩ := t_cells P7
   have KI := awI (z := ⟨t2, (a1, s1), (a2, s2), (a3, s3), (a4, s4), (a5, s5)⟩) hz2.out T7.tbr
   dsimp only [tv] at KI
   clear KF hb6 p6 B6 hR2
   go_wp2_with fail
   refine KI.mono ?_
   rintro e W8 ⟨rfl, hb8⟩
   go_wp2
   obtain ⟨Y, hY⟩ : ∃ Y, W8.drew = Y := ⟨_, rfl⟩
   have hbY0 : Below Y.heap.size Y Y := Below.refl _ _
   have hzY2 : w.heap.size + 2 ≤ Y.heap.size := by rw [← hY]; exact Nat.le_trans Z7 hb8.size
   have hzY : Y.heap.size ≤ Y.heap.size := Nat.le_refl _
   have BY : Below W7.heap.size W7 Y := by rw [← hY]; exact hb8.drew
   have hYb : Y.heap[w.heap.size + 1]? = _ := (BY.block (w.heap.size + 1) (by omega)).trans P7
   have HY : Hid (∀ W, Below Y.heap.size Y W → Below w.heap.size w W) := fun W hW => (B7.trans (BY.mono (Nat.le_trans (Nat.le_add_right _ _) Z7))).trans (hW.mono (Nat.le_trans (Nat.le_add_right _ _) hzY2))
   have HS : Hid (∀ W, Below Y.heap.size Y W → (fun W => (W.cell? ⟨w.heap.size + 1, 0, none⟩ = some (.int .i64 t2.now) ∧ W.cell? ⟨w.heap.size + 1, 1, none⟩ = some (.slice a1 t2.spans.length s1) ∧ W.cell? ⟨w.heap.size + 1, 2, none⟩ = some (.slice a2 t2.frozen.length s2) ∧ W.cell? ⟨w.heap.size + 1, 3, none⟩ = some (.slice a3 t2.holds.length s3) ∧ W.cell? ⟨w.heap.size + 1, 4, none⟩ = some (.slice a4 t2.marks.length s4) ∧ W.cell? ⟨w.heap.size + 1, 5, none⟩ = some (.slice a5 t2.ints.length s5)) ∧ Below Y.heap.size Y W) W) := fun W hW => by
    obtain ⟨-, v0, v1, v2, v3, v4, v5⟩ := t_cells ((hW.block (w.heap.size + 1) (by omega)).trans hYb)
    exact ⟨⟨v0, v1, v2, v3, v4, v5⟩, hW⟩
   have HT : Hid (∀ W, Below Y.heap.size Y W → TbR W ⟨t2, (a1, s1), (a2, s2), (a3, s3), (a4, s4), (a5, s5)⟩) := fun W hW => ((T7.tbr.below BY)).below hW
   clear KI hb8 T7 B7 BY P7 P5 B5 Z5 Z7 hYb y0 y1 y2 y3 y4 y5 m0 m1 m2 m3 m4 m5 x0 x1 x2 x3 x4 x5 f0 f1 f2 f3 f4 f5
   refine wp_region_L (fun W => (W.cell? ⟨w.heap.size + 1, 0, none⟩ = some (.int .i64 t2.now) ∧ W.cell? ⟨w.heap.size + 1, 1, none⟩ = some (.slice a1 t2.spans.length s1) ∧ W.cell? ⟨w.heap.size + 1, 2, none⟩ = some (.slice a2 t2.frozen.length s2) ∧ W.cell? ⟨w.heap.size + 1, 3, none⟩ = some (.slice a3 t2.holds.length s3) ∧ W.cell? ⟨w.heap.size + 1, 4, none⟩ = some (.slice a4 t2.marks.length s4) ∧ W.cell? ⟨w.heap.size + 1, 5, none⟩ = some (.slice a5 t2.ints.length s5)) ∧ Below Y.heap.size Y W) [] (by kernel_rfl) ?_
   rw [hY]
   refine wpAnyL_take 0 rfl (by kernel_rfl) (by kernel_rfl) (by kernel_rfl) (by kernel_rfl) (fun _ _ _ h => h) (wanted_none rfl) (by intro w' hS'; obtain ⟨⟨x0, x1, x2, x3, x4, x5⟩, xb⟩ := hS'; go_simp <;> rfl) (HS.out _ hbY0) ?_
   try simp only [pa, pb, pc, Act.put, pd, pe, pf]
   refine wpAnyL_take 1 rfl (by kernel_rfl) (by kernel_rfl) (by kernel_rfl) (by kernel_rfl) (fun _ _ _ h => h) (wanted_none rfl) (by intro w' hS'; obtain ⟨⟨x0, x1, x2, x3, x4, x5⟩, xb⟩ := hS'; go_simp <;> rfl) (HS.out _ hbY0) ?_
   try simp only [pa, pb, pc, Act.put, pd, pe, pf]
   refine wpAnyL_two 2 8 (by kernel_rfl) rfl rfl (wanted_none rfl) (wanted_none rfl) ?_ ?_
   ·intro K' hK'
    obtain ⟨-, bs0, bb0⟩ := one_box Y (.cells #[.string { data := #[97] }] 9)
    have hb0 := keep_step hbY0 hzY bb0
    go_simp
    refine hK'.out _ _ (.inr (HS.out _ hb0)) ?_
    clear hK' K'
    try simp only [pa, pb, pc, Act.put, pd, pe, pf]
    obtain ⟨Y02, hY02⟩ : ∃ V, Y.alloc (.cells #[.string { data := #[97] }] 9) = V := ⟨_, rfl⟩
    rw [hY02] at hb0 bs0
    rw [hY02]
    refine wpAnyL_two 3 8 (by kernel_rfl) rfl rfl (wanted_none rfl) (wanted_none rfl) ?_ ?_
    ·intro K' hK'
     go_simp
     go_at_call 31
     refine (acquire_of _ _ _ _).mono ?_
     rintro e Y13 ⟨rfl, hbc1⟩
     have hb1 := keep_step hb0 hzY hbc1
     have bs1 := (hbc1.block (Y.heap.size) (Array.getElem?_eq_some_iff.1 bs0).1).trans bs0
     refine hK'.out _ _ (.inr (HS.out _ hb1)) ?_
     clear hK' K'
     try simp only [pa, pb, pc, Act.put, pd, pe, pf]
     refine wpAnyL_two 4 8 (by kernel_rfl) rfl rfl (wanted_none rfl) (wanted_none rfl) ?_ ?_
     ·intro K' hK'
      go_simp
      go_at_call 11
      refine (awP2 hz2.out (HT.out _ hb1) bs1).mono ?_
      rintro e Y24 ⟨⟨z3, rfl⟩, hbc2⟩
      have hb2 := keep_step hb1 hzY hbc2
      refine hK'.out _ _ (.inr (HS.out _ hb2)) ?_
      clear hK' K'
      try simp only [pa, pb, pc, Act.put, pd, pe, pf]
      refine wpAnyL_take 5 rfl (by kernel_rfl) (by kernel_rfl) (by kernel_rfl) (by kernel_rfl) (fun _ _ _ h => h) (wanted_none rfl) (by intro w' hS'; obtain ⟨⟨x0, x1, x2, x3, x4, x5⟩, xb⟩ := hS'; go_simp <;> rfl) (HS.out _ hb2) ?_
      try simp only [pa, pb, pc, Act.put, pd, pe, pf]
      refine wpAnyL_take 6 rfl (by kernel_rfl) (by kernel_rfl) (by kernel_rfl) (by kernel_rfl) (fun _ _ _ h => h) (wanted_none rfl) (by intro w' hS'; obtain ⟨⟨x0, x1, x2, x3, x4, x5⟩, xb⟩ := hS'; go_simp <;> rfl) (HS.out _ hb2) ?_
      try simp only [pa, pb, pc, Act.put, pd, pe, pf]
      refine wpAnyL_take 7 rfl (by kernel_rfl) (by kernel_rfl) (by kernel_rfl) (by kernel_rfl) (fun _ _ _ h => h) (wanted_none rfl) (by intro w' hS'; obtain ⟨⟨x0, x1, x2, x3, x4, x5⟩, xb⟩ := hS'; go_simp <;> rfl) (HS.out _ hb2) ?_
      try simp only [pa, pb, pc, Act.put, pd, pe, pf]
      refine wpAnyL_one 8 (by kernel_rfl) rfl (wanted_none rfl) ?_
      intro K' hK'
      obtain ⟨-, gb3, bb3⟩ := one_box Y24 (.cells #[.int .i64 0, .slice none 0 0, .slice none 0 0, .slice none 0 0, .slice none 0 0, .slice none 0 0] 27)
      have hb3 := keep_step hb2 hzY bb3
      go_simp
      refine hK'.out _ _ (.inr (HS.out _ hb3)) ?_
      clear hK' K'
      try simp only [pa, pb, pc, Act.put, pd, pe, pf]
      obtain ⟨Y38, hY38⟩ : ∃ V, Y24.alloc (.cells #[.int .i64 0, .slice none 0 0, .slice none 0 0, .slice none 0 0, .slice none 0 0, .slice none 0 0] 27) = V := ⟨_, rfl⟩
      rw [hY38] at hb3 gb3
      rw [hY38]
      obtain ⟨t3, ⟨o1, n1⟩, ⟨o2, n2⟩, ⟨o3, n3⟩, ⟨o4, n4⟩, ⟨o5, n5⟩⟩ := z3
      obtain ⟨⟨f0, f1, f2, f3, f4, f5⟩, i0, i1, i2, i3, i4, i5⟩ := t_cells gb3
      have BF := set6_below (.int .i64 t3.now) (.slice o1 t3.spans.length n1) (.slice o2 t3.frozen.length n2) (.slice o3 t3.holds.length n3) (.slice o4 t3.marks.length n4) (.slice o5 t3.ints.length n5) (g := Y24.heap.size) hb3 hb2.size
      unfold set6 at BF
      dsimp only [tv] at *
      refine wpAnyL_one 9 (by kernel_rfl) rfl (wanted_none rfl) ?_
      intro K' hK'
      go_simp
      refine hK'.out _ _ (.inr (HS.out _ BF)) ?_
      clear hK' K'
      try simp only [pa, pb, pc, Act.put, pd, pe, pf]
      refine wpAnyL_take 10 rfl (by kernel_rfl) (by kernel_rfl) (by kernel_rfl) (by kernel_rfl) (fun _ _ _ h => h) (wanted_none rfl) (by intro w' hS'; obtain ⟨⟨x0, x1, x2, x3, x4, x5⟩, xb⟩ := hS'; go_simp <;> rfl) (HS.out _ BF) ?_
      try simp only [pa, pb, pc, Act.put, pd, pe, pf]
      refine wpAnyL_done (by kernel_rfl) (NoPanic.normal ?_) _
      have hfin := (HY.out _ BF)
      clear BF f0 f1 f2 f3 f4 f5 i0 i1 i2 i3 i4 i5
      go_wp2
      go_ret
      exact ⟨by first | rfl | simp, hfin⟩
     ·intro K' hK'
      obtain ⟨-, gb2, bb2⟩ := one_box Y13 (.cells #[.int .i64 0, .slice none 0 0, .slice none 0 0, .slice none 0 0, .slice none 0 0, .slice none 0 0] 27)
      have hb2 := keep_step hb1 hzY bb2
      have bs2 := (bb2.block (Y.heap.size) (by have := (Array.getElem?_eq_some_iff.1 bs1).1; omega)).trans bs1
      go_simp
      refine hK'.out _ _ (.inr (HS.out _ hb2)) ?_
      clear hK' K'
      try simp only [pa, pb, pc, Act.put, pd, pe, pf]
      obtain ⟨Y28, hY28⟩ : ∃ V, Y13.alloc (.cells #[.int .i64 0, .slice none 0 0, .slice none 0 0, .slice none 0 0, .slice none 0 0, .slice none 0 0] 27) = V := ⟨_, rfl⟩
      rw [hY28] at hb2 gb2 bs2
      rw [hY28]
      refine wpAnyL_one 4 (by kernel_rfl) rfl (wanted_none rfl) ?_
      intro K' hK'
      go_simp
      go_at_call 11
      refine (awP2 hz2.out (HT.out _ hb2) bs2).mono ?_
      rintro e Y34 ⟨⟨z3, rfl⟩, hbc3⟩
      have hb3 := keep_step hb2 hzY hbc3
      have gb3 := (hbc3.block (Y13.heap.size) (Array.getElem?_eq_some_iff.1 gb2).1).trans gb2
      refine hK'.out _ _ (.inr (HS.out _ hb3)) ?_
      clear hK' K'
      try simp only [pa, pb, pc, Act.put, pd, pe, pf]
      refine wpAnyL_take 5 rfl (by kernel_rfl) (by kernel_rfl) (by kernel_rfl) (by kernel_rfl) (fun _ _ _ h => h) (wanted_none rfl) (by intro w' hS'; obtain ⟨⟨x0, x1, x2, x3, x4, x5⟩, xb⟩ := hS'; go_simp <;> rfl) (HS.out _ hb3) ?_
      try simp only [pa, pb, pc, Act.put, pd, pe, pf]
      refine wpAnyL_take 6 rfl (by kernel_rfl) (by kernel_rfl) (by kernel_rfl) (by kernel_rfl) (fun _ _ _ h => h) (wanted_none rfl) (by intro w' hS'; obtain ⟨⟨x0, x1, x2, x3, x4, x5⟩, xb⟩ := hS'; go_simp <;> rfl) (HS.out _ hb3) ?_
      try simp only [pa, pb, pc, Act.put, pd, pe, pf]
      refine wpAnyL_take 7 rfl (by kernel_rfl) (by kernel_rfl) (by kernel_rfl) (by kernel_rfl) (fun _ _ _ h => h) (wanted_none rfl) (by intro w' hS'; obtain ⟨⟨x0, x1, x2, x3, x4, x5⟩, xb⟩ := hS'; go_simp <;> rfl) (HS.out _ hb3) ?_
      try simp only [pa, pb, pc, Act.put, pd, pe, pf]
      obtain ⟨t3, ⟨o1, n1⟩, ⟨o2, n2⟩, ⟨o3, n3⟩, ⟨o4, n4⟩, ⟨o5, n5⟩⟩ := z3
      obtain ⟨⟨f0, f1, f2, f3, f4, f5⟩, i0, i1, i2, i3, i4, i5⟩ := t_cells gb3
      have BF := set6_below (.int .i64 t3.now) (.slice o1 t3.spans.length n1) (.slice o2 t3.frozen.length n2) (.slice o3 t3.holds.length n3) (.slice o4 t3.marks.length n4) (.slice o5 t3.ints.length n5) (g := Y13.heap.size) hb3 hb1.size
      unfold set6 at BF
      dsimp only [tv] at *
      refine wpAnyL_one 9 (by kernel_rfl) rfl (wanted_none rfl) ?_
      intro K' hK'
      go_simp
      refine hK'.out _ _ (.inr (HS.out _ BF)) ?_
      clear hK' K'
      try simp only [pa, pb, pc, Act.put, pd, pe, pf]
      refine wpAnyL_take 10 rfl (by kernel_rfl) (by kernel_rfl) (by kernel_rfl) (by kernel_rfl) (fun _ _ _ h => h) (wanted_none rfl) (by intro w' hS'; obtain ⟨⟨x0, x1, x2, x3, x4, x5⟩, xb⟩ := hS'; go_simp <;> rfl) (HS.out _ BF) ?_
      try simp only [pa, pb, pc, Act.put, pd, pe, pf]
      refine wpAnyL_done (by kernel_rfl) (NoPanic.normal ?_) _
      have hfin := (HY.out _ BF)
      clear BF f0 f1 f2 f3 f4 f5 i0 i1 i2 i3 i4 i5
      go_wp2
      go_ret
      exact ⟨by first | rfl | simp, hfin⟩
    ·intro K' hK'
     obtain ⟨-, gb1, bb1⟩ := one_box Y02 (.cells #[.int .i64 0, .slice none 0 0, .slice none 0 0, .slice none 0 0, .slice none 0 0, .slice none 0 0] 27)
     have hb1 := keep_step hb0 hzY bb1
     have bs1 := (bb1.block (Y.heap.size) (by have := (Array.getElem?_eq_some_iff.1 bs0).1; omega)).trans bs0
     go_simp
     refine hK'.out _ _ (.inr (HS.out _ hb1)) ?_
     clear hK' K'
     try simp only [pa, pb, pc, Act.put, pd, pe, pf]
     obtain ⟨Y18, hY18⟩ : ∃ V, Y02.alloc (.cells #[.int .i64 0, .slice none 0 0, .slice none 0 0, .slice none 0 0, .slice none 0 0, .slice none 0 0] 27) = V := ⟨_, rfl⟩
     rw [hY18] at hb1 gb1 bs1
     rw [hY18]
     refine wpAnyL_one 3 (by kernel_rfl) rfl (wanted_none rfl) ?_
     intro K' hK'
     go_simp
     go_at_call 31
     refine (acquire_of _ _ _ _).mono ?_
     rintro e Y23 ⟨rfl, hbc2⟩
     have hb2 := keep_step hb1 hzY hbc2
     have bs2 := (hbc2.block (Y.heap.size) (Array.getElem?_eq_some_iff.1 bs1).1).trans bs1
     have gb2 := (hbc2.block (Y02.heap.size) (Array.getElem?_eq_some_iff.1 gb1).1).trans gb1
     refine hK'.out _ _ (.inr (HS.out _ hb2)) ?_
     clear hK' K'
     try simp only [pa, pb, pc, Act.put, pd, pe, pf]
     refine wpAnyL_one 4 (by kernel_rfl) rfl (wanted_none rfl) ?_
     intro K' hK'
     go_simp
     go_at_call 11
     refine (awP2 hz2.out (HT.out _ hb2) bs2).mono ?_
     rintro e Y34 ⟨⟨z3, rfl⟩, hbc3⟩
     have hb3 := keep_step hb2 hzY hbc3
     have gb3 := (hbc3.block (Y02.heap.size) (Array.getElem?_eq_some_iff.1 gb2).1).trans gb2
     refine hK'.out _ _ (.inr (HS.out _ hb3)) ?_
     clear hK' K'
     try simp only [pa, pb, pc, Act.put, pd, pe, pf]
     refine wpAnyL_take 5 rfl (by kernel_rfl) (by kernel_rfl) (by kernel_rfl) (by kernel_rfl) (fun _ _ _ h => h) (wanted_none rfl) (by intro w' hS'; obtain ⟨⟨x0, x1, x2, x3, x4, x5⟩, xb⟩ := hS'; go_simp <;> rfl) (HS.out _ hb3) ?_
     try simp only [pa, pb, pc, Act.put, pd, pe, pf]
     refine wpAnyL_take 6 rfl (by kernel_rfl) (by kernel_rfl) (by kernel_rfl) (by kernel_rfl) (fun _ _ _ h => h) (wanted_none rfl) (by intro w' hS'; obtain ⟨⟨x0, x1, x2, x3, x4, x5⟩, xb⟩ := hS'; go_simp <;> rfl) (HS.out _ hb3) ?_
     try simp only [pa, pb, pc, Act.put, pd, pe, pf]
     refine wpAnyL_take 7 rfl (by kernel_rfl) (by kernel_rfl) (by kernel_rfl) (by kernel_rfl) (fun _ _ _ h => h) (wanted_none rfl) (by intro w' hS'; obtain ⟨⟨x0, x1, x2, x3, x4, x5⟩, xb⟩ := hS'; go_simp <;> rfl) (HS.out _ hb3) ?_
     try simp only [pa, pb, pc, Act.put, pd, pe, pf]
     obtain ⟨t3, ⟨o1, n1⟩, ⟨o2, n2⟩, ⟨o3, n3⟩, ⟨o4, n4⟩, ⟨o5, n5⟩⟩ := z3
     obtain ⟨⟨f0, f1, f2, f3, f4, f5⟩, i0, i1, i2, i3, i4, i5⟩ := t_cells gb3
     have BF := set6_below (.int .i64 t3.now) (.slice o1 t3.spans.length n1) (.slice o2 t3.frozen.length n2) (.slice o3 t3.holds.length n3) (.slice o4 t3.marks.length n4) (.slice o5 t3.ints.length n5) (g := Y02.heap.size) hb3 hb0.size
     unfold set6 at BF
     dsimp only [tv] at *
     refine wpAnyL_one 9 (by kernel_rfl) rfl (wanted_none rfl) ?_
     intro K' hK'
     go_simp
     refine hK'.out _ _ (.inr (HS.out _ BF)) ?_
     clear hK' K'
     try simp only [pa, pb, pc, Act.put, pd, pe, pf]
     refine wpAnyL_take 10 rfl (by kernel_rfl) (by kernel_rfl) (by kernel_rfl) (by kernel_rfl) (fun _ _ _ h => h) (wanted_none rfl) (by intro w' hS'; obtain ⟨⟨x0, x1, x2, x3, x4, x5⟩, xb⟩ := hS'; go_simp <;> rfl) (HS.out _ BF) ?_
     try simp only [pa, pb, pc, Act.put, pd, pe, pf]
     refine wpAnyL_done (by kernel_rfl) (NoPanic.normal ?_) _
     have hfin := (HY.out _ BF)
     clear BF f0 f1 f2 f3 f4 f5 i0 i1 i2 i3 i4 i5
     go_wp2
     go_ret
     exact ⟨by first | rfl | simp, hfin⟩
   ·intro K' hK'
    obtain ⟨-, gb0, bb0⟩ := one_box Y (.cells #[.int .i64 0, .slice none 0 0, .slice none 0 0, .slice none 0 0, .slice none 0 0, .slice none 0 0] 27)
    have hb0 := keep_step hbY0 hzY bb0
    go_simp
    refine hK'.out _ _ (.inr (HS.out _ hb0)) ?_
    clear hK' K'
    try simp only [pa, pb, pc, Act.put, pd, pe, pf]
    obtain ⟨Y08, hY08⟩ : ∃ V, Y.alloc (.cells #[.int .i64 0, .slice none 0 0, .slice none 0 0, .slice none 0 0, .slice none 0 0, .slice none 0 0] 27) = V := ⟨_, rfl⟩
    rw [hY08] at hb0 gb0
    rw [hY08]
    refine wpAnyL_one 2 (by kernel_rfl) rfl (wanted_none rfl) ?_
    intro K' hK'
    obtain ⟨-, bs1, bb1⟩ := one_box Y08 (.cells #[.string { data := #[97] }] 9)
    have hb1 := keep_step hb0 hzY bb1
    have gb1 := (bb1.block Y.heap.size (by have := (Array.getElem?_eq_some_iff.1 gb0).1; omega)).trans gb0
    go_simp
    refine hK'.out _ _ (.inr (HS.out _ hb1)) ?_
    clear hK' K'
    try simp only [pa, pb, pc, Act.put, pd, pe, pf]
    obtain ⟨Y12, hY12⟩ : ∃ V, Y08.alloc (.cells #[.string { data := #[97] }] 9) = V := ⟨_, rfl⟩
    rw [hY12] at hb1 bs1 gb1
    rw [hY12]
    refine wpAnyL_one 3 (by kernel_rfl) rfl (wanted_none rfl) ?_
    intro K' hK'
    go_simp
    go_at_call 31
    refine (acquire_of _ _ _ _).mono ?_
    rintro e Y23 ⟨rfl, hbc2⟩
    have hb2 := keep_step hb1 hzY hbc2
    have bs2 := (hbc2.block (Y08.heap.size) (Array.getElem?_eq_some_iff.1 bs1).1).trans bs1
    have gb2 := (hbc2.block (Y.heap.size) (Array.getElem?_eq_some_iff.1 gb1).1).trans gb1
    refine hK'.out _ _ (.inr (HS.out _ hb2)) ?_
    clear hK' K'
    try simp only [pa, pb, pc, Act.put, pd, pe, pf]
    refine wpAnyL_one 4 (by kernel_rfl) rfl (wanted_none rfl) ?_
    intro K' hK'
    go_simp
    go_at_call 11
    refine (awP2 hz2.out (HT.out _ hb2) bs2).mono ?_
    rintro e Y34 ⟨⟨z3, rfl⟩, hbc3⟩
    have hb3 := keep_step hb2 hzY hbc3
    have gb3 := (hbc3.block (Y.heap.size) (Array.getElem?_eq_some_iff.1 gb2).1).trans gb2
    refine hK'.out _ _ (.inr (HS.out _ hb3)) ?_
    clear hK' K'
    try simp only [pa, pb, pc, Act.put, pd, pe, pf]
    refine wpAnyL_take 5 rfl (by kernel_rfl) (by kernel_rfl) (by kernel_rfl) (by kernel_rfl) (fun _ _ _ h => h) (wanted_none rfl) (by intro w' hS'; obtain ⟨⟨x0, x1, x2, x3, x4, x5⟩, xb⟩ := hS'; go_simp <;> rfl) (HS.out _ hb3) ?_
    try simp only [pa, pb, pc, Act.put, pd, pe, pf]
    refine wpAnyL_take 6 rfl (by kernel_rfl) (by kernel_rfl) (by kernel_rfl) (by kernel_rfl) (fun _ _ _ h => h) (wanted_none rfl) (by intro w' hS'; obtain ⟨⟨x0, x1, x2, x3, x4, x5⟩, xb⟩ := hS'; go_simp <;> rfl) (HS.out _ hb3) ?_
    try simp only [pa, pb, pc, Act.put, pd, pe, pf]
    refine wpAnyL_take 7 rfl (by kernel_rfl) (by kernel_rfl) (by kernel_rfl) (by kernel_rfl) (fun _ _ _ h => h) (wanted_none rfl) (by intro w' hS'; obtain ⟨⟨x0, x1, x2, x3, x4, x5⟩, xb⟩ := hS'; go_simp <;> rfl) (HS.out _ hb3) ?_
    try simp only [pa, pb, pc, Act.put, pd, pe, pf]
    obtain ⟨t3, ⟨o1, n1⟩, ⟨o2, n2⟩, ⟨o3, n3⟩, ⟨o4, n4⟩, ⟨o5, n5⟩⟩ := z3
    obtain ⟨⟨f0, f1, f2, f3, f4, f5⟩, i0, i1, i2, i3, i4, i5⟩ := t_cells gb3
    have BF := set6_below (.int .i64 t3.now) (.slice o1 t3.spans.length n1) (.slice o2 t3.frozen.length n2) (.slice o3 t3.holds.length n3) (.slice o4 t3.marks.length n4) (.slice o5 t3.ints.length n5) (g := Y.heap.size) hb3 hbY0.size
    unfold set6 at BF
    dsimp only [tv] at *
    refine wpAnyL_one 9 (by kernel_rfl) rfl (wanted_none rfl) ?_
    intro K' hK'
    go_simp
    refine hK'.out _ _ (.inr (HS.out _ BF)) ?_
    clear hK' K'
    try simp only [pa, pb, pc, Act.put, pd, pe, pf]
    refine wpAnyL_take 10 rfl (by kernel_rfl) (by kernel_rfl) (by kernel_rfl) (by kernel_rfl) (fun _ _ _ h => h) (wanted_none rfl) (by intro w' hS'; obtain ⟨⟨x0, x1, x2, x3, x4, x5⟩, xb⟩ := hS'; go_simp <;> rfl) (HS.out _ BF) ?_
    try simp only [pa, pb, pc, Act.put, pd, pe, pf]
    refine wpAnyL_done (by kernel_rfl) (NoPanic.normal ?_) _
    have hfin := (HY.out _ BF)
    clear BF f0 f1 f2 f3 f4 f5 i0 i1 i2 i3 i4 i5
    go_wp2
    go_ret
    exact ⟨by first | rfl | simp, hfin⟩
  ·intro K' hK'
   go_simp
   go_at_call 31
   refine (acquire_of _ _ _ _).mono ?_
   rintro e X2 ⟨rfl, hbc⟩
   have hb2 := keep_step hb1 hzX hbc
   have bs2 := (hbc.block X.heap.size (by omega)).trans bs
   refine hK'.out _ _ (.inr trivial) ?_
   clear hK' K'
   try simp only [pa, pb, pc, Act.put, pd, pe, pf]
   refine wpAnyL_one 0 (by kernel_rfl) rfl (wanted_none rfl) ?_
   intro K' hK'
   obtain ⟨-, c0, c1, c2, c3, c4, c5⟩ := t_cells (HA.out _ hb2).2.1
   go_simp
   refine hK'.out _ _ (.inr trivial) ?_
   clear hK' K'
   try simp only [pa, pb, pc, Act.put, pd, pe, pf]
   clear c0 c1 c2 c3 c4 c5
   have KP := awP1 (HA.out _ hb2).2.2 bs2
   refine wpAnyL_one 4 (by kernel_rfl) rfl (wanted_none rfl) ?_
   intro K' hK'
   go_simp
   go_at_call 11
   refine KP.mono ?_
   rintro e X3 ⟨⟨z1, rfl, hz1_, hR1⟩, hbc⟩
   have hz1 : Hid (z1.t = aw1) := hz1_
   clear hz1_
   have hb3 := keep_step hb2 hzX hbc
   clear KP hbc
   refine hK'.out _ _ (.inr trivial) ?_
   clear hK' K'
   try simp only [pa, pb, pc, Act.put, pd, pe, pf]
   refine wpAnyL_take 5 rfl (by kernel_rfl) (by kernel_rfl) (by kernel_rfl) (by kernel_rfl) (fun _ _ _ h => h) (wanted_none rfl) (by intro w' hS'; go_simp <;> rfl) trivial ?_
   try simp only [pa, pb, pc, Act.put, pd, pe, pf]
   refine wpAnyL_take 6 rfl (by kernel_rfl) (by kernel_rfl) (by kernel_rfl) (by kernel_rfl) (fun _ _ _ h => h) (wanted_none rfl) (by intro w' hS'; go_simp <;> rfl) trivial ?_
   try simp only [pa, pb, pc, Act.put, pd, pe, pf]
   refine wpAnyL_take 7 rfl (by kernel_rfl) (by kernel_rfl) (by kernel_rfl) (by kernel_rfl) (fun _ _ _ h => h) (wanted_none rfl) (by intro w' hS'; go_simp <;> rfl) trivial ?_
   try simp only [pa, pb, pc, Act.put, pd, pe, pf]
   obtain ⟨t1, ⟨a1, s1⟩, ⟨a2, s2⟩, ⟨a3, s3⟩, ⟨a4, s4⟩, ⟨a5, s5⟩⟩ := z1
   have pb := (HA.out _ hb3).2.1
   obtain ⟨⟨f0, f1, f2, f3, f4, f5⟩, x0, x1, x2, x3, x4, x5⟩ := t_cells pb
   have P5 := set6_block pb (.int .i64 t1.now) (.slice a1 t1.spans.length s1) (.slice a2 t1.frozen.length s2) (.slice a3 t1.holds.length s3) (.slice a4 t1.marks.length s4) (.slice a5 t1.ints.length s5)
   have T5 := hR1.setc pb (grown_set6 (.int .i64 t1.now) (.slice a1 t1.spans.length s1) (.slice a2 t1.frozen.length s2) (.slice a3 t1.holds.length s3) (.slice a4 t1.marks.length s4) (.slice a5 t1.ints.length s5))
   have B5 := set6_below (.int .i64 t1.now) (.slice a1 t1.spans.length s1) (.slice a2 t1.frozen.length s2) (.slice a3 t1.holds.length s3) (.slice a4 t1.marks.length s4) (.slice a5 t1.ints.length s5) (g := w.heap.size + 1) (HA.out _ hb3).1 (Nat.le_succ _)
   unfold set6 at P5 T5 B5
   dsimp only [tv] at *
   obtain ⟨W5, hW5⟩ : ∃ W, (((((X3.setCell ⟨w.heap.size + 1, 0, none⟩ (.int .i64 t1.now)).setCell ⟨w.heap.size + 1, 1, none⟩ (.slice a1 t1.spans.length s1)).setCell ⟨w.heap.size + 1, 2, none⟩ (.slice a2 t1.frozen.length s2)).setCell ⟨w.heap.size + 1, 3, none⟩ (.slice a3 t1.holds.length s3)).setCell ⟨w.heap.size + 1, 4, none⟩ (.slice a4 t1.marks.length s4)).setCell ⟨w.heap.size + 1, 5, none⟩ (.slice a5 t1.ints.length s5) = W := ⟨_, rfl⟩
   rw [hW5] at P5 T5 B5
   clear pb hR1
   refine wpAnyL_one 8 (by kernel_rfl) rfl (wanted_none rfl) ?_
   intro K' hK'
   go_simp
   refine hK'.out _ _ (.inr trivial) ?_
   clear hK' K'
   try simp only [pa, pb, pc, Act.put, pd, pe, pf]
   refine wpAnyL_take 9 rfl (by kernel_rfl) (by kernel_rfl) (by kernel_rfl) (by kernel_rfl) (fun _ _ _ h => h) (wanted_none rfl) (by intro w' hS'; go_simp <;> rfl) trivial ?_
   try simp only [pa, pb, pc, Act.put, pd, pe, pf]
   refine wpAnyL_done (by kernel_rfl) (NoPanic.normal ?_) _
   have Z5 : w.heap.size + 2 ≤ W5.heap.size := by rw [← hW5]; simp; have := hb3.size; omega
   obtain ⟨-, y0, y1, y2, y3, y4, y5⟩ := t_cells P5
   have KF := awF (z := ⟨t1, (a1, s1), (a2, s2), (a3, s3), (a4, s4), (a5, s5)⟩) hz1.out T5.tbr
   clear T5 hX HA hzX hb0
   dsimp only [tv] at KF
   go_wp2_with fail
   refine KF.mono ?_
   rintro e W6 ⟨⟨z2, rfl, hz2_, hR2⟩, hb6⟩
   have hz2 : Hid (z2.t = aw2) := hz2_
   clear hz2_
   have p6 := (hb6.block (w.heap.size + 1) (by omega)).trans P5
   have B6 := keep_step B5 (Nat.le_refl _) hb6
   obtain ⟨t2, ⟨a1, s1⟩, ⟨a2, s2⟩, ⟨a3, s3⟩, ⟨a4, s4⟩, ⟨a5, s5⟩⟩ := z2
   obtain ⟨⟨f0, f1, f2, f3, f4, f5⟩, x0, x1, x2, x3, x4, x5⟩ := t_cells p6
   have P7 := set6_block p6 (.int .i64 t2.now) (.slice a1 t2.spans.length s1) (.slice a2 t2.frozen.length s2) (.slice a3 t2.holds.length s3) (.slice a4 t2.marks.length s4) (.slice a5 t2.ints.length s5)
   have T7 := hR2.setc p6 (grown_set6 (.int .i64 t2.now) (.slice a1 t2.spans.length s1) (.slice a2 t2.frozen.length s2) (.slice a3 t2.holds.length s3) (.slice a4 t2.marks.length s4) (.slice a5 t2.ints.length s5))
   have B7 := set6_below (.int .i64 t2.now) (.slice a1 t2.spans.length s1) (.slice a2 t2.frozen.length s2) (.slice a3 t2.holds.length s3) (.slice a4 t2.marks.length s4) (.slice a5 t2.ints.length s5) (g := w.heap.size + 1) B6 (Nat.le_succ _)
   have Z7 : w.heap.size + 2 ≤ (set6 W6 (w.heap.size + 1) (.int .i64 t2.now) (.slice a1 t2.spans.length s1) (.slice a2 t2.frozen.length s2) (.slice a3 t2.holds.length s3) (.slice a4 t2.marks.length s4) (.slice a5 t2.ints.length s5)).heap.size := by rw [set6_size]; exact Nat.le_trans Z5 hb6.size
   unfold set6 at P7 T7 B7 Z7
   dsimp only [tv] at *
   obtain ⟨W7, hW7⟩ : ∃ W, (((((W6.setCell ⟨w.heap.size + 1, 0, none⟩ (.int .i64 t2.now)).setCell ⟨w.heap.size + 1, 1, none⟩ (.slice a1 t2.spans.length s1)).setCell ⟨w.heap.size + 1, 2, none⟩ (.slice a2 t2.frozen.length s2)).setCell ⟨w.heap.size + 1, 3, none⟩ (.slice a3 t2.holds.length s3)).setCell ⟨w.heap.size + 1, 4, none⟩ (.slice a4 t2.marks.length s4)).setCell ⟨w.heap.size + 1, 5, none⟩ (.slice a5 t2.ints.length s5) = W := ⟨_, rfl⟩
   rw [hW7] at P7 T7 B7 Z7
   obtain ⟨-, m0, m1, m2, m3, m4, m5⟩ := t_cells P7
   have KI := awI (z := ⟨t2, (a1, s1), (a2, s2), (a3, s3), (a4, s4), (a5, s5)⟩) hz2.out T7.tbr
   dsimp only [tv] at KI
   clear KF hb6 p6 B6 hR2
   go_wp2_with fail
   refine KI.mono ?_
   rintro e W8 ⟨rfl, hb8⟩
   go_wp2
   obtain ⟨Y, hY⟩ : ∃ Y, W8.drew = Y := ⟨_, rfl⟩
   have hbY0 : Below Y.heap.size Y Y := Below.refl _ _
   have hzY2 : w.heap.size + 2 ≤ Y.heap.size := by rw [← hY]; exact Nat.le_trans Z7 hb8.size
   have hzY : Y.heap.size ≤ Y.heap.size := Nat.le_refl _
   have BY : Below W7.heap.size W7 Y := by rw [← hY]; exact hb8.drew
   have hYb : Y.heap[w.heap.size + 1]? = _ := (BY.block (w.heap.size + 1) (by omega)).trans P7
   have HY : Hid (∀ W, Below Y.heap.size Y W → Below w.heap.size w W) := fun W hW => (B7.trans (BY.mono (Nat.le_trans (Nat.le_add_right _ _) Z7))).trans (hW.mono (Nat.le_trans (Nat.le_add_right _ _) hzY2))
   have HS : Hid (∀ W, Below Y.heap.size Y W → (fun W => (W.cell? ⟨w.heap.size + 1, 0, none⟩ = some (.int .i64 t2.now) ∧ W.cell? ⟨w.heap.size + 1, 1, none⟩ = some (.slice a1 t2.spans.length s1) ∧ W.cell? ⟨w.heap.size + 1, 2, none⟩ = some (.slice a2 t2.frozen.length s2) ∧ W.cell? ⟨w.heap.size + 1, 3, none⟩ = some (.slice a3 t2.holds.length s3) ∧ W.cell? ⟨w.heap.size + 1, 4, none⟩ = some (.slice a4 t2.marks.length s4) ∧ W.cell? ⟨w.heap.size + 1, 5, none⟩ = some (.slice a5 t2.ints.length s5)) ∧ Below Y.heap.size Y W) W) := fun W hW => by
    obtain ⟨-, v0, v1, v2, v3, v4, v5⟩ := t_cells ((hW.block (w.heap.size + 1) (by omega)).trans hYb)
    exact ⟨⟨v0, v1, v2, v3, v4, v5⟩, hW⟩
   have HT : Hid (∀ W, Below Y.heap.size Y W → TbR W ⟨t2, (a1, s1), (a2, s2), (a3, s3), (a4, s4), (a5, s5)⟩) := fun W hW => ((T7.tbr.below BY)).below hW
   clear KI hb8 T7 B7 BY P7 P5 B5 Z5 Z7 hYb y0 y1 y2 y3 y4 y5 m0 m1 m2 m3 m4 m5 x0 x1 x2 x3 x4 x5 f0 f1 f2 f3 f4 f5
   refine wp_region_L (fun W => (W.cell? ⟨w.heap.size + 1, 0, none⟩ = some (.int .i64 t2.now) ∧ W.cell? ⟨w.heap.size + 1, 1, none⟩ = some (.slice a1 t2.spans.length s1) ∧ W.cell? ⟨w.heap.size + 1, 2, none⟩ = some (.slice a2 t2.frozen.length s2) ∧ W.cell? ⟨w.heap.size + 1, 3, none⟩ = some (.slice a3 t2.holds.length s3) ∧ W.cell? ⟨w.heap.size + 1, 4, none⟩ = some (.slice a4 t2.marks.length s4) ∧ W.cell? ⟨w.heap.size + 1, 5, none⟩ = some (.slice a5 t2.ints.length s5)) ∧ Below Y.heap.size Y W) [] (by kernel_rfl) ?_
   rw [hY]
   refine wpAnyL_take 0 rfl (by kernel_rfl) (by kernel_rfl) (by kernel_rfl) (by kernel_rfl) (fun _ _ _ h => h) (wanted_none rfl) (by intro w' hS'; obtain ⟨⟨x0, x1, x2, x3, x4, x5⟩, xb⟩ := hS'; go_simp <;> rfl) (HS.out _ hbY0) ?_
   try simp only [pa, pb, pc, Act.put, pd, pe, pf]
   refine wpAnyL_take 1 rfl (by kernel_rfl) (by kernel_rfl) (by kernel_rfl) (by kernel_rfl) (fun _ _ _ h => h) (wanted_none rfl) (by intro w' hS'; obtain ⟨⟨x0, x1, x2, x3, x4, x5⟩, xb⟩ := hS'; go_simp <;> rfl) (HS.out _ hbY0) ?_
   try simp only [pa, pb, pc, Act.put, pd, pe, pf]
   refine wpAnyL_two 2 8 (by kernel_rfl) rfl rfl (wanted_none rfl) (wanted_none rfl) ?_ ?_
   ·intro K' hK'
    obtain ⟨-, bs0, bb0⟩ := one_box Y (.cells #[.string { data := #[97] }] 9)
    have hb0 := keep_step hbY0 hzY bb0
    go_simp
    refine hK'.out _ _ (.inr (HS.out _ hb0)) ?_
    clear hK' K'
    try simp only [pa, pb, pc, Act.put, pd, pe, pf]
    obtain ⟨Y02, hY02⟩ : ∃ V, Y.alloc (.cells #[.string { data := #[97] }] 9) = V := ⟨_, rfl⟩
    rw [hY02] at hb0 bs0
    rw [hY02]
    refine wpAnyL_two 3 8 (by kernel_rfl) rfl rfl (wanted_none rfl) (wanted_none rfl) ?_ ?_
    ·intro K' hK'
     go_simp
     go_at_call 31
     refine (acquire_of _ _ _ _).mono ?_
     rintro e Y13 ⟨rfl, hbc1⟩
     have hb1 := keep_step hb0 hzY hbc1
     have bs1 := (hbc1.block (Y.heap.size) (Array.getElem?_eq_some_iff.1 bs0).1).trans bs0
     refine hK'.out _ _ (.inr (HS.out _ hb1)) ?_
     clear hK' K'
     try simp only [pa, pb, pc, Act.put, pd, pe, pf]
     refine wpAnyL_two 4 8 (by kernel_rfl) rfl rfl (wanted_none rfl) (wanted_none rfl) ?_ ?_
     ·intro K' hK'
      go_simp
      go_at_call 11
      refine (awP2 hz2.out (HT.out _ hb1) bs1).mono ?_
      rintro e Y24 ⟨⟨z3, rfl⟩, hbc2⟩
      have hb2 := keep_step hb1 hzY hbc2
      refine hK'.out _ _ (.inr (HS.out _ hb2)) ?_
      clear hK' K'
      try simp only [pa, pb, pc, Act.put, pd, pe, pf]
      refine wpAnyL_take 5 rfl (by kernel_rfl) (by kernel_rfl) (by kernel_rfl) (by kernel_rfl) (fun _ _ _ h => h) (wanted_none rfl) (by intro w' hS'; obtain ⟨⟨x0, x1, x2, x3, x4, x5⟩, xb⟩ := hS'; go_simp <;> rfl) (HS.out _ hb2) ?_
      try simp only [pa, pb, pc, Act.put, pd, pe, pf]
      refine wpAnyL_take 6 rfl (by kernel_rfl) (by kernel_rfl) (by kernel_rfl) (by kernel_rfl) (fun _ _ _ h => h) (wanted_none rfl) (by intro w' hS'; obtain ⟨⟨x0, x1, x2, x3, x4, x5⟩, xb⟩ := hS'; go_simp <;> rfl) (HS.out _ hb2) ?_
      try simp only [pa, pb, pc, Act.put, pd, pe, pf]
      refine wpAnyL_take 7 rfl (by kernel_rfl) (by kernel_rfl) (by kernel_rfl) (by kernel_rfl) (fun _ _ _ h => h) (wanted_none rfl) (by intro w' hS'; obtain ⟨⟨x0, x1, x2, x3, x4, x5⟩, xb⟩ := hS'; go_simp <;> rfl) (HS.out _ hb2) ?_
      try simp only [pa, pb, pc, Act.put, pd, pe, pf]
      refine wpAnyL_one 8 (by kernel_rfl) rfl (wanted_none rfl) ?_
      intro K' hK'
      obtain ⟨-, gb3, bb3⟩ := one_box Y24 (.cells #[.int .i64 0, .slice none 0 0, .slice none 0 0, .slice none 0 0, .slice none 0 0, .slice none 0 0] 27)
      have hb3 := keep_step hb2 hzY bb3
      go_simp
      refine hK'.out _ _ (.inr (HS.out _ hb3)) ?_
      clear hK' K'
      try simp only [pa, pb, pc, Act.put, pd, pe, pf]
      obtain ⟨Y38, hY38⟩ : ∃ V, Y24.alloc (.cells #[.int .i64 0, .slice none 0 0, .slice none 0 0, .slice none 0 0, .slice none 0 0, .slice none 0 0] 27) = V := ⟨_, rfl⟩
      rw [hY38] at hb3 gb3
      rw [hY38]
      obtain ⟨t3, ⟨o1, n1⟩, ⟨o2, n2⟩, ⟨o3, n3⟩, ⟨o4, n4⟩, ⟨o5, n5⟩⟩ := z3
      obtain ⟨⟨f0, f1, f2, f3, f4, f5⟩, i0, i1, i2, i3, i4, i5⟩ := t_cells gb3
      have BF := set6_below (.int .i64 t3.now) (.slice o1 t3.spans.length n1) (.slice o2 t3.frozen.length n2) (.slice o3 t3.holds.length n3) (.slice o4 t3.marks.length n4) (.slice o5 t3.ints.length n5) (g := Y24.heap.size) hb3 hb2.size
      unfold set6 at BF
      dsimp only [tv] at *
      refine wpAnyL_one 9 (by kernel_rfl) rfl (wanted_none rfl) ?_
      intro K' hK'
      go_simp
      refine hK'.out _ _ (.inr (HS.out _ BF)) ?_
      clear hK' K'
      try simp only [pa, pb, pc, Act.put, pd, pe, pf]
      refine wpAnyL_take 10 rfl (by kernel_rfl) (by kernel_rfl) (by kernel_rfl) (by kernel_rfl) (fun _ _ _ h => h) (wanted_none rfl) (by intro w' hS'; obtain ⟨⟨x0, x1, x2, x3, x4, x5⟩, xb⟩ := hS'; go_simp <;> rfl) (HS.out _ BF) ?_
      try simp only [pa, pb, pc, Act.put, pd, pe, pf]
      refine wpAnyL_done (by kernel_rfl) (NoPanic.normal ?_) _
      have hfin := (HY.out _ BF)
      clear BF f0 f1 f2 f3 f4 f5 i0 i1 i2 i3 i4 i5
      go_wp2
      go_ret
      exact ⟨by first | rfl | simp, hfin⟩
     ·intro K' hK'
      obtain ⟨-, gb2, bb2⟩ := one_box Y13 (.cells #[.int .i64 0, .slice none 0 0, .slice none 0 0, .slice none 0 0, .slice none 0 0, .slice none 0 0] 27)
      have hb2 := keep_step hb1 hzY bb2
      have bs2 := (bb2.block (Y.heap.size) (by have := (Array.getElem?_eq_some_iff.1 bs1).1; omega)).trans bs1
      go_simp
      refine hK'.out _ _ (.inr (HS.out _ hb2)) ?_
      clear hK' K'
      try simp only [pa, pb, pc, Act.put, pd, pe, pf]
      obtain ⟨Y28, hY28⟩ : ∃ V, Y13.alloc (.cells #[.int .i64 0, .slice none 0 0, .slice none 0 0, .slice none 0 0, .slice none 0 0, .slice none 0 0] 27) = V := ⟨_, rfl⟩
      rw [hY28] at hb2 gb2 bs2
      rw [hY28]
      refine wpAnyL_one 4 (by kernel_rfl) rfl (wanted_none rfl) ?_
      intro K' hK'
      go_simp
      go_at_call 11
      refine (awP2 hz2.out (HT.out _ hb2) bs2).mono ?_
      rintro e Y34 ⟨⟨z3, rfl⟩, hbc3⟩
      have hb3 := keep_step hb2 hzY hbc3
      have gb3 := (hbc3.block (Y13.heap.size) (Array.getElem?_eq_some_iff.1 gb2).1).trans gb2
      refine hK'.out _ _ (.inr (HS.out _ hb3)) ?_
      clear hK' K'
      try simp only [pa, pb, pc, Act.put, pd, pe, pf]
      refine wpAnyL_take 5 rfl (by kernel_rfl) (by kernel_rfl) (by kernel_rfl) (by kernel_rfl) (fun _ _ _ h => h) (wanted_none rfl) (by intro w' hS'; obtain ⟨⟨x0, x1, x2, x3, x4, x5⟩, xb⟩ := hS'; go_simp <;> rfl) (HS.out _ hb3) ?_
      try simp only [pa, pb, pc, Act.put, pd, pe, pf]
      refine wpAnyL_take 6 rfl (by kernel_rfl) (by kernel_rfl) (by kernel_rfl) (by kernel_rfl) (fun _ _ _ h => h) (wanted_none rfl) (by intro w' hS'; obtain ⟨⟨x0, x1, x2, x3, x4, x5⟩, xb⟩ := hS'; go_simp <;> rfl) (HS.out _ hb3) ?_
      try simp only [pa, pb, pc, Act.put, pd, pe, pf]
      refine wpAnyL_take 7 rfl (by kernel_rfl) (by kernel_rfl) (by kernel_rfl) (by kernel_rfl) (fun _ _ _ h => h) (wanted_none rfl) (by intro w' hS'; obtain ⟨⟨x0, x1, x2, x3, x4, x5⟩, xb⟩ := hS'; go_simp <;> rfl) (HS.out _ hb3) ?_
      try simp only [pa, pb, pc, Act.put, pd, pe, pf]
      obtain ⟨t3, ⟨o1, n1⟩, ⟨o2, n2⟩, ⟨o3, n3⟩, ⟨o4, n4⟩, ⟨o5, n5⟩⟩ := z3
      obtain ⟨⟨f0, f1, f2, f3, f4, f5⟩, i0, i1, i2, i3, i4, i5⟩ := t_cells gb3
      have BF := set6_below (.int .i64 t3.now) (.slice o1 t3.spans.length n1) (.slice o2 t3.frozen.length n2) (.slice o3 t3.holds.length n3) (.slice o4 t3.marks.length n4) (.slice o5 t3.ints.length n5) (g := Y13.heap.size) hb3 hb1.size
      unfold set6 at BF
      dsimp only [tv] at *
      refine wpAnyL_one 9 (by kernel_rfl) rfl (wanted_none rfl) ?_
      intro K' hK'
      go_simp
      refine hK'.out _ _ (.inr (HS.out _ BF)) ?_
      clear hK' K'
      try simp only [pa, pb, pc, Act.put, pd, pe, pf]
      refine wpAnyL_take 10 rfl (by kernel_rfl) (by kernel_rfl) (by kernel_rfl) (by kernel_rfl) (fun _ _ _ h => h) (wanted_none rfl) (by intro w' hS'; obtain ⟨⟨x0, x1, x2, x3, x4, x5⟩, xb⟩ := hS'; go_simp <;> rfl) (HS.out _ BF) ?_
      try simp only [pa, pb, pc, Act.put, pd, pe, pf]
      refine wpAnyL_done (by kernel_rfl) (NoPanic.normal ?_) _
      have hfin := (HY.out _ BF)
      clear BF f0 f1 f2 f3 f4 f5 i0 i1 i2 i3 i4 i5
      go_wp2
      go_ret
      exact ⟨by first | rfl | simp, hfin⟩
    ·intro K' hK'
     obtain ⟨-, gb1, bb1⟩ := one_box Y02 (.cells #[.int .i64 0, .slice none 0 0, .slice none 0 0, .slice none 0 0, .slice none 0 0, .slice none 0 0] 27)
     have hb1 := keep_step hb0 hzY bb1
     have bs1 := (bb1.block (Y.heap.size) (by have := (Array.getElem?_eq_some_iff.1 bs0).1; omega)).trans bs0
     go_simp
     refine hK'.out _ _ (.inr (HS.out _ hb1)) ?_
     clear hK' K'
     try simp only [pa, pb, pc, Act.put, pd, pe, pf]
     obtain ⟨Y18, hY18⟩ : ∃ V, Y02.alloc (.cells #[.int .i64 0, .slice none 0 0, .slice none 0 0, .slice none 0 0, .slice none 0 0, .slice none 0 0] 27) = V := ⟨_, rfl⟩
     rw [hY18] at hb1 gb1 bs1
     rw [hY18]
     refine wpAnyL_one 3 (by kernel_rfl) rfl (wanted_none rfl) ?_
     intro K' hK'
     go_simp
     go_at_call 31
     refine (acquire_of _ _ _ _).mono ?_
     rintro e Y23 ⟨rfl, hbc2⟩
     have hb2 := keep_step hb1 hzY hbc2
     have bs2 := (hbc2.block (Y.heap.size) (Array.getElem?_eq_some_iff.1 bs1).1).trans bs1
     have gb2 := (hbc2.block (Y02.heap.size) (Array.getElem?_eq_some_iff.1 gb1).1).trans gb1
     refine hK'.out _ _ (.inr (HS.out _ hb2)) ?_
     clear hK' K'
     try simp only [pa, pb, pc, Act.put, pd, pe, pf]
     refine wpAnyL_one 4 (by kernel_rfl) rfl (wanted_none rfl) ?_
     intro K' hK'
     go_simp
     go_at_call 11
     refine (awP2 hz2.out (HT.out _ hb2) bs2).mono ?_
     rintro e Y34 ⟨⟨z3, rfl⟩, hbc3⟩
     have hb3 := keep_step hb2 hzY hbc3
     have gb3 := (hbc3.block (Y02.heap.size) (Array.getElem?_eq_some_iff.1 gb2).1).trans gb2
     refine hK'.out _ _ (.inr (HS.out _ hb3)) ?_
     clear hK' K'
     try simp only [pa, pb, pc, Act.put, pd, pe, pf]
     refine wpAnyL_take 5 rfl (by kernel_rfl) (by kernel_rfl) (by kernel_rfl) (by kernel_rfl) (fun _ _ _ h => h) (wanted_none rfl) (by intro w' hS'; obtain ⟨⟨x0, x1, x2, x3, x4, x5⟩, xb⟩ := hS'; go_simp <;> rfl) (HS.out _ hb3) ?_
     try simp only [pa, pb, pc, Act.put, pd, pe, pf]
     refine wpAnyL_take 6 rfl (by kernel_rfl) (by kernel_rfl) (by kernel_rfl) (by kernel_rfl) (fun _ _ _ h => h) (wanted_none rfl) (by intro w' hS'; obtain ⟨⟨x0, x1, x2, x3, x4, x5⟩, xb⟩ := hS'; go_simp <;> rfl) (HS.out _ hb3) ?_
     try simp only [pa, pb, pc, Act.put, pd, pe, pf]
     refine wpAnyL_take 7 rfl (by kernel_rfl) (by kernel_rfl) (by kernel_rfl) (by kernel_rfl) (fun _ _ _ h => h) (wanted_none rfl) (by intro w' hS'; obtain ⟨⟨x0, x1, x2, x3, x4, x5⟩, xb⟩ := hS'; go_simp <;> rfl) (HS.out _ hb3) ?_
     try simp only [pa, pb, pc, Act.put, pd, pe, pf]
     obtain ⟨t3, ⟨o1, n1⟩, ⟨o2, n2⟩, ⟨o3, n3⟩, ⟨o4, n4⟩, ⟨o5, n5⟩⟩ := z3
     obtain ⟨⟨f0, f1, f2, f3, f4, f5⟩, i0, i1, i2, i3, i4, i5⟩ := t_cells gb3
     have BF := set6_below (.int .i64 t3.now) (.slice o1 t3.spans.length n1) (.slice o2 t3.frozen.length n2) (.slice o3 t3.holds.length n3) (.slice o4 t3.marks.length n4) (.slice o5 t3.ints.length n5) (g := Y02.heap.size) hb3 hb0.size
     unfold set6 at BF
     dsimp only [tv] at *
     refine wpAnyL_one 9 (by kernel_rfl) rfl (wanted_none rfl) ?_
     intro K' hK'
     go_simp
     refine hK'.out _ _ (.inr (HS.out _ BF)) ?_
     clear hK' K'
     try simp only [pa, pb, pc, Act.put, pd, pe, pf]
     refine wpAnyL_take 10 rfl (by kernel_rfl) (by kernel_rfl) (by kernel_rfl) (by kernel_rfl) (fun _ _ _ h => h) (wanted_none rfl) (by intro w' hS'; obtain ⟨⟨x0, x1, x2, x3, x4, x5⟩, xb⟩ := hS'; go_simp <;> rfl) (HS.out _ BF) ?_
     try simp only [pa, pb, pc, Act.put, pd, pe, pf]
     refine wpAnyL_done (by kernel_rfl) (NoPanic.normal ?_) _
     have hfin := (HY.out _ BF)
     clear BF f0 f1 f2 f3 f4 f5 i0 i1 i2 i3 i4 i5
     go_wp2
     go_ret
     exact ⟨by first | rfl | simp, hfin⟩
   ·intro K' hK'
    obtain ⟨-, gb0, bb0⟩ := one_box Y (.cells #[.int .i64 0, .slice none 0 0, .slice none 0 0, .slice none 0 0, .slice none 0 0, .slice none 0 0] 27)
    have hb0 := keep_step hbY0 hzY bb0
    go_simp
    refine hK'.out _ _ (.inr (HS.out _ hb0)) ?_
    clear hK' K'
    try simp only [pa, pb, pc, Act.put, pd, pe, pf]
    obtain ⟨Y08, hY08⟩ : ∃ V, Y.alloc (.cells #[.int .i64 0, .slice none 0 0, .slice none 0 0, .slice none 0 0, .slice none 0 0, .slice none 0 0] 27) = V := ⟨_, rfl⟩
    rw [hY08] at hb0 gb0
    rw [hY08]
    refine wpAnyL_one 2 (by kernel_rfl) rfl (wanted_none rfl) ?_
    intro K' hK'
    obtain ⟨-, bs1, bb1⟩ := one_box Y08 (.cells #[.string { data := #[97] }] 9)
    have hb1 := keep_step hb0 hzY bb1
    have gb1 := (bb1.block Y.heap.size (by have := (Array.getElem?_eq_some_iff.1 gb0).1; omega)).trans gb0
    go_simp
    refine hK'.out _ _ (.inr (HS.out _ hb1)) ?_
    clear hK' K'
    try simp only [pa, pb, pc, Act.put, pd, pe, pf]
    obtain ⟨Y12, hY12⟩ : ∃ V, Y08.alloc (.cells #[.string { data := #[97] }] 9) = V := ⟨_, rfl⟩
    rw [hY12] at hb1 bs1 gb1
    rw [hY12]
    refine wpAnyL_one 3 (by kernel_rfl) rfl (wanted_none rfl) ?_
    intro K' hK'
    go_simp
    go_at_call 31
    refine (acquire_of _ _ _ _).mono ?_
    rintro e Y23 ⟨rfl, hbc2⟩
    have hb2 := keep_step hb1 hzY hbc2
    have bs2 := (hbc2.block (Y08.heap.size) (Array.getElem?_eq_some_iff.1 bs1).1).trans bs1
    have gb2 := (hbc2.block (Y.heap.size) (Array.getElem?_eq_some_iff.1 gb1).1).trans gb1
    refine hK'.out _ _ (.inr (HS.out _ hb2)) ?_
    clear hK' K'
    try simp only [pa, pb, pc, Act.put, pd, pe, pf]
    refine wpAnyL_one 4 (by kernel_rfl) rfl (wanted_none rfl) ?_
    intro K' hK'
    go_simp
    go_at_call 11
    refine (awP2 hz2.out (HT.out _ hb2) bs2).mono ?_
    rintro e Y34 ⟨⟨z3, rfl⟩, hbc3⟩
    have hb3 := keep_step hb2 hzY hbc3
    have gb3 := (hbc3.block (Y.heap.size) (Array.getElem?_eq_some_iff.1 gb2).1).trans gb2
    refine hK'.out _ _ (.inr (HS.out _ hb3)) ?_
    clear hK' K'
    try simp only [pa, pb, pc, Act.put, pd, pe, pf]
    refine wpAnyL_take 5 rfl (by kernel_rfl) (by kernel_rfl) (by kernel_rfl) (by kernel_rfl) (fun _ _ _ h => h) (wanted_none rfl) (by intro w' hS'; obtain ⟨⟨x0, x1, x2, x3, x4, x5⟩, xb⟩ := hS'; go_simp <;> rfl) (HS.out _ hb3) ?_
    try simp only [pa, pb, pc, Act.put, pd, pe, pf]
    refine wpAnyL_take 6 rfl (by kernel_rfl) (by kernel_rfl) (by kernel_rfl) (by kernel_rfl) (fun _ _ _ h => h) (wanted_none rfl) (by intro w' hS'; obtain ⟨⟨x0, x1, x2, x3, x4, x5⟩, xb⟩ := hS'; go_simp <;> rfl) (HS.out _ hb3) ?_
    try simp only [pa, pb, pc, Act.put, pd, pe, pf]
    refine wpAnyL_take 7 rfl (by kernel_rfl) (by kernel_rfl) (by kernel_rfl) (by kernel_rfl) (fun _ _ _ h => h) (wanted_none rfl) (by intro w' hS'; obtain ⟨⟨x0, x1, x2, x3, x4, x5⟩, xb⟩ := hS'; go_simp <;> rfl) (HS.out _ hb3) ?_
    try simp only [pa, pb, pc, Act.put, pd, pe, pf]
    obtain ⟨t3, ⟨o1, n1⟩, ⟨o2, n2⟩, ⟨o3, n3⟩, ⟨o4, n4⟩, ⟨o5, n5⟩⟩ := z3
    obtain ⟨⟨f0, f1, f2, f3, f4, f5⟩, i0, i1, i2, i3, i4, i5⟩ := t_cells gb3
    have BF := set6_below (.int .i64 t3.now) (.slice o1 t3.spans.length n1) (.slice o2 t3.frozen.length n2) (.slice o3 t3.holds.length n3) (.slice o4 t3.marks.length n4) (.slice o5 t3.ints.length n5) (g := Y.heap.size) hb3 hbY0.size
    unfold set6 at BF
    dsimp only [tv] at *
    refine wpAnyL_one 9 (by kernel_rfl) rfl (wanted_none rfl) ?_
    intro K' hK'
    go_simp
    refine hK'.out _ _ (.inr (HS.out _ BF)) ?_
    clear hK' K'
    try simp only [pa, pb, pc, Act.put, pd, pe, pf]
    refine wpAnyL_take 10 rfl (by kernel_rfl) (by kernel_rfl) (by kernel_rfl) (by kernel_rfl) (fun _ _ _ h => h) (wanted_none rfl) (by intro w' hS'; obtain ⟨⟨x0, x1, x2, x3, x4, x5⟩, xb⟩ := hS'; go_simp <;> rfl) (HS.out _ BF) ?_
    try simp only [pa, pb, pc, Act.put, pd, pe, pf]
    refine wpAnyL_done (by kernel_rfl) (NoPanic.normal ?_) _
    have hfin := (HY.out _ BF)
    clear BF f0 f1 f2 f3 f4 f5 i0 i1 i2 i3 i4 i5
    go_wp2
    go_ret
    exact ⟨by first | rfl | simp, hfin⟩
end Go.Proofs.YtfpbgfmnjpamlaaGreat

