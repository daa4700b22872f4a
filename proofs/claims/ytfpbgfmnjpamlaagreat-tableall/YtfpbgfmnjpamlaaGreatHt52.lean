import Derived.Test.YtfpbgfmnjpamlaaGreatHt46
import Derived.Test.YtfpbgfmnjpamlaaGreatHt42
import Derived.Test.YtfpbgfmnjpamlaaGreatHt50
import Derived.Test.YtfpbgfmnjpamlaaGreatHt51
/- The law TableAll: what its calls tell. -/
namespace Go.Proofs.YtfpbgfmnjpamlaaGreat
open Go.RowKit LeaseMath
set_option maxRecDepth 100000
set_option linter.unusedSimpArgs false
set_option linter.unusedVariables false

theorem cells7 {w : World} {g : Nat} {a b c d e f h : Value} {t : TypeId} (H : w.heap[g]? = some (.cells #[a, b, c, d, e, f, h] t (0, 0))) : w.cell? ⟨g, 0, none⟩ = some a ∧ w.cell? ⟨g, 1, none⟩ = some b ∧ w.cell? ⟨g, 2, none⟩ = some c ∧ w.cell? ⟨g, 3, none⟩ = some d ∧ w.cell? ⟨g, 4, none⟩ = some e ∧ w.cell? ⟨g, 5, none⟩ = some f ∧ w.cell? ⟨g, 6, none⟩ = some h := by
  refine ⟨?_, ?_, ?_, ?_, ?_, ?_, ?_⟩ <;> rw [cells_of_block H] <;> rfl
theorem cells6 {w : World} {g : Nat} {a b c d e f : Value} {t : TypeId} (H : w.heap[g]? = some (.cells #[a, b, c, d, e, f] t (0, 0))) : w.cell? ⟨g, 0, none⟩ = some a ∧ w.cell? ⟨g, 1, none⟩ = some b ∧ w.cell? ⟨g, 2, none⟩ = some c ∧ w.cell? ⟨g, 3, none⟩ = some d ∧ w.cell? ⟨g, 4, none⟩ = some e ∧ w.cell? ⟨g, 5, none⟩ = some f := by
  refine ⟨?_, ?_, ?_, ?_, ?_, ?_⟩ <;> rw [cells_of_block H] <;> rfl
/-- What Prepare tells, with the document's list. -/
def prepW (t : Tb) (d : Cq) (c : Cl) (tk : Nat) : Tb × Int := prepM t d c tk (mrg t.ints (moreM c.keys d c.kind (tokM c.kind c.token tk) c.ttl))
theorem light_iff {t : Tb} : lightT t = true ↔ t.holds.length + t.marks.length + t.ints.length ≤ 100 ∧ t.spans.length + t.frozen.length ≤ 24 := by
  unfold lightT locksN
  simp
theorem prep_law (z : Tz) (d : Cq) (c : Cl) (a : Sa) (tk : Nat) (w : World) (hR : TbR w z) (hK : Rd kyE w (.slice a.1 c.keys.length a.2) c.keys) (hl : lightT z.t = true) (hk : c.keys.length ≤ 40) :
    Calls Tryz.prog 11 #[tv z, idv d, cv c a, .int .u64 (tk : Int)] w fun e w' => PrepT w.heap.size (prepW z.t d c tk) e w' ∧ Below w.heap.size w w' := by
  obtain ⟨l1, l2⟩ := light_iff.1 hl
  exact prepare_of z d c a tk _ w hR hK (by omega) (by omega) (by omega) (by omega) fun h1 h2 _ _ _ h6 => mrg_ok h1 h2 h6
theorem prep_no {t : Tb} {d : Cq} {c : Cl} {tk : Nat} (h : (prepW t d c tk).2 ≠ 0) : (prepW t d c tk).1 = noT := by
  unfold prepW prepM at h ⊢
  split at h
  · rename_i h0; rw [if_pos h0]
  · rename_i h0
    rw [if_neg h0]
    split at h
    · rename_i h1
      rw [if_pos h1]
      split at h
      · exact absurd rfl h
      · rename_i h2; rw [if_neg h2]
    · rename_i h1
      rw [if_neg h1]
      split at h
      · rename_i h2; rw [if_pos h2]
      · rename_i h2
        rw [if_neg h2]
        split at h
        · rename_i h3; rw [if_pos h3]
        · exact absurd rfl h
theorem prepW_ok {t : Tb} {d : Cq} {c : Cl} {tk : Nat} (h : (prepW t d c tk).2 = 0) : okT (prepW t d c tk).1 = true ∧ (mineM (prepW t d c tk).1.ints d).length = c.keys.length ∧ (mineM (prepW t d c tk).1.ints d).length ≠ 0 := by
  obtain ⟨h1, h2, h3⟩ := prep_ok (M := mrg t.ints (moreM c.keys d c.kind (tokM c.kind c.token tk) c.ttl)) (fun h1 h2 _ _ _ h6 => mrg_ok h1 h2 h6) h
  have h4 := congrArg List.length h2
  rw [List.length_map] at h4
  have h5 := (keysB_len h3).1
  unfold prepW
  exact ⟨h1, h4, by omega⟩
theorem ok_sizes {t : Tb} (h : okT t = true) : t.spans.length ≤ 64 ∧ t.frozen.length ≤ 64 ∧ t.holds.length ≤ 1024 ∧ t.marks.length ≤ 1024 ∧ t.ints.length ≤ 1024 := by
  have s1 := okT_spans h
  have s2 := (okT_iff.1 h).2.2.1
  unfold locksN at s2
  exact ⟨s1.1, s1.2, by omega, by omega, by omega⟩
theorem fin_law (z : Tz) (d : Cq) (cm : Bool) (w : World) (hR : TbR w z) (h : okT z.t = true) (hm : (mineM z.t.ints d).length ≠ 0) {n : Nat} (hn : (mineM z.t.ints d).length = n) :
    Calls Tryz.prog 14 #[tv z, idv d, .bool cm] w fun e w' => (∃ z' : Tz, e = .returned (.tuple #[tv z', .int .i64 (n : Int), .int .i64 0]) ∧ z'.t = (finM z.t d cm).1 ∧ TbO w.heap.size w' z') ∧ Below w.heap.size w w' := by
  obtain ⟨s1, s2, s3, s4, s5⟩ := ok_sizes h
  refine (finish_of z d cm w hR (by omega) (by omega) (by omega) fun x hx => ?_).mono ?_
  · exact turn_kind (int_iff.1 ((ints_iff.1 (okT_iff.1 h).2.2.2.2).1 x (mine_mem.1 hx).1)).2.1
  · rintro e w' ⟨⟨z', rfl, h1, h2⟩, hb⟩
    have h3 := (fin_ok cm h hm).2.1
    rw [h3, hn]
    exact ⟨⟨z', rfl, h1, h2⟩, hb⟩
/-- Who has a key when all is finished. -/
theorem insp_law {t : Tb} {d : Cq} {y : It} (z : Tz) (w : World) (hR : TbR w z) (hz : z.t = (finM t d true).1) (h : okT t = true) (hy : y ∈ t.ints) (hd : y.2.1 = d) :
    Calls Tryz.prog 28 #[tv z, .string (bk y.1)] w fun e w' => (∃ who : Nat, e = .returned (.tuple #[.int .u64 (who : Int), .int .i64 0]) ∧ (y.2.2.1 = 1 → who = y.2.2.2.1) ∧ (y.2.2.1 = 2 → who = 0)) ∧ Below w.heap.size w w' := by
  obtain ⟨f1, f2, f3⟩ := fin_who h hy hd
  have hmem : y ∈ mineM t.ints d := mine_mem.2 ⟨hy, hd⟩
  have hm : (mineM t.ints d).length ≠ 0 := by
    intro h0
    rw [List.length_eq_zero_iff.1 h0] at hmem
    exact absurd hmem List.not_mem_nil
  have hok := (fin_ok true h hm).1
  rw [← hz] at hok f1 f2 f3
  obtain ⟨s1, s2, s3, s4, s5⟩ := ok_sizes hok
  refine (inspect_of z y.1 w hR (by omega) (by omega)).mono ?_
  rintro e w' ⟨rfl, hb⟩
  rw [f1]
  exact ⟨⟨_, rfl, f2, f3⟩, hb⟩
theorem same_law {t : Tb} {d : Cq} (x y : Tz) (w : World) (hX : TbR w x) (hY : TbR w y) (hx : x.t = (finM t d false).1) (hy : y.t = t) (h : okT t = true) (hm : (mineM t.ints d).length ≠ 0) :
    Calls Tryz.prog 30 #[.slice x.h.1 x.t.holds.length x.h.2, .slice y.h.1 y.t.holds.length y.h.2] w fun e w' => e = .returned (.bool true) ∧ Below w.heap.size w w' := by
  have e1 : x.t.holds = y.t.holds := by rw [hx, fin_holds h hm, hy]
  have s3 := (ok_sizes h).2.2.1
  rw [← hy] at s3
  have hX' := hX.2.2.1
  have hY' := hY.2.2.1
  rw [e1] at hX' ⊢
  exact sameh_of y.t.holds _ _ w hX' hY' (by omega)
theorem zero_law (z : Tz) (w : World) (hR : TbR w z) (hz : z.t = noT) : Calls Tryz.prog 29 #[tv z, .agg #[.int .i64 0, .slice none 0 0, .slice none 0 0, .slice none 0 0, .slice none 0 0, .slice none 0 0]] w fun e w' => e = .returned (.bool true) ∧ Below w.heap.size w w' :=
  rsame_of z noZ w hR ⟨Rd.nil _ _, Rd.nil _ _, Rd.nil _ _, Rd.nil _ _, Rd.nil _ _⟩ hz (by rw [hz]; exact Nat.zero_le _) (by rw [hz]; exact Nat.zero_le _) (by rw [hz]; exact Nat.zero_le _) (by rw [hz]; exact Nat.zero_le _) (by rw [hz]; exact Nat.zero_le _)
end Go.Proofs.YtfpbgfmnjpamlaaGreat

/- The law TableAll. -/
namespace Go.Proofs.YtfpbgfmnjpamlaaGreat
open Go.RowKit LeaseMath
set_option maxRecDepth 100000
set_option linter.unusedSimpArgs false
set_option linter.unusedVariables false

@[reducible] def xc (d : Cq) (c : Cl) (a : Sa) (tk : Nat) : Obj := .cells #[.int .i64 d.1, .int .u64 (d.2 : Int), .int .i64 c.kind, .slice a.1 c.keys.length a.2, .int .u64 (c.token : Int), .int .i64 c.ttl, .int .u64 (tk : Int)] 35
@[reducible] def xval (d : Cq) (c : Cl) (a : Sa) (tk : Nat) : Value := .agg #[.int .i64 d.1, .int .u64 (d.2 : Int), .int .i64 c.kind, .slice a.1 c.keys.length a.2, .int .u64 (c.token : Int), .int .i64 c.ttl, .int .u64 (tk : Int)]
set_option maxHeartbeats 16000000 in
theorem all_law (z : Tz) (d : Cq) (c : Cl) (a : Sa) (tk : Nat) (w : World) (hR : TbR w z) (hK : Rd kyE w (.slice a.1 c.keys.length a.2) c.keys) (g0 : z.t.spans.length ≤ 140737488355328) (g1 : z.t.frozen.length ≤ 140737488355328) (g2 : z.t.holds.length ≤ 140737488355328) (g3 : z.t.marks.length ≤ 140737488355328) (g4 : z.t.ints.length ≤ 140737488355328) (g5 : c.keys.length ≤ 140737488355328) :
    Calls Tryz.prog 8 #[tv z, xval d c a tk] w fun e w' => e = .returned (.bool true) ∧ Below w.heap.size w w' := by
  have k9 : Hid (∀ W, _) := fun W => light_of z W (by omega) (by omega) (by omega) (by omega) (by omega)
  have k10 : Hid (∀ W, _) := fun W => awake_of W
  have k11 : Hid (lightT z.t = true → c.keys.length ≤ 40 → ∀ W, Below w.heap.size w W → _) := fun h h' W hW => prep_law z d c a tk W (hR.below hW) (hK.below hW) h h'
  obtain ⟨LT, hLT⟩ : ∃ b, Hid (b = lightT z.t) := ⟨_, rfl⟩
  rw [← hLT.out] at k9 k11
  obtain ⟨q1, q2, q3, q4⟩ := two_boxes6 w (tc z) (xc d c a tk)
  obtain ⟨w0, hw0⟩ : ∃ W, (w.alloc (tc z)).alloc (xc d c a tk) = W := ⟨_, rfl⟩
  rw [hw0] at q1 q2 q3 q4
  have HPN : Hid ((prepW z.t d c tk).2 ≠ 0 → (prepW z.t d c tk).1 = noT) := prep_no
  have HPY : Hid ((prepW z.t d c tk).2 = 0 → okT (prepW z.t d c tk).1 = true ∧ (mineM (prepW z.t d c tk).1.ints d).length = c.keys.length ∧ (mineM (prepW z.t d c tk).1.ints d).length ≠ 0) := prepW_ok
  obtain ⟨PW, hPW⟩ : ∃ P, Hid (P = prepW z.t d c tk) := ⟨_, rfl⟩
  rw [← hPW.out] at k11 HPN HPY
  clear hLT hPW hR hK g0 g1 g2 g3 g4
  obtain ⟨⟨nw, sp, fr, hs_, ms, is⟩, ⟨sa, sc⟩, ⟨fa, fc⟩, ⟨ha, hc⟩, ⟨ma, mc⟩, ⟨ia, ic_⟩⟩ := z
  obtain ⟨d1, d2⟩ := d
  obtain ⟨kd, ks, ct, tt⟩ := c
  obtain ⟨aa, ac⟩ := a
  dsimp only [tv, tc, xval, xc, cv, idv] at *
  have HC : Hid (∀ W, Below (w.heap.size + 2) w0 W → Below w.heap.size w W ∧ W.heap[w.heap.size]? = _ ∧ W.heap[w.heap.size + 1]? = _) := fun W hW => ⟨q4.trans (hW.mono (by omega)), (hW.block w.heap.size (by omega)).trans q2, (hW.block (w.heap.size + 1) (by omega)).trans q3⟩
  have hz : w.heap.size + 2 ≤ w0.heap.size := by omega
  have hb0 : Below (w.heap.size + 2) w0 w0 := Below.refl _ _
  obtain ⟨c0, c1, c2, c3, c4, c5⟩ := cells6 q2
  obtain ⟨x0, x1, x2, x3, x4, x5, x6⟩ := cells7 q3
  clear q1 q2 q3 q4
  go_enter Tryz.func8, Tryz.ntmps8
  go_wp2_with fail
  refine (k9.out _).mono ?_
  rintro e w1 ⟨rfl, hbc⟩
  have hb1 := keep_step hb0 hz hbc
  clear hbc c0 c1 c2 c3 c4 c5 x0 x1 x2 x3 x4 x5 x6 k9
  obtain ⟨-, P1, X1⟩ := HC.out _ hb1
  obtain ⟨c0, c1, c2, c3, c4, c5⟩ := cells6 P1
  obtain ⟨x0, x1, x2, x3, x4, x5, x6⟩ := cells7 X1
  cases LT with
  | false =>
    clear k11 HPN HPY
    go_wp2_with fail
    refine (k10.out _).mono ?_
    rintro e w2 ⟨rfl, hbc⟩
    go_wp2
    go_ret
    exact ⟨rfl, (HC.out _ (keep_step hb1 hz hbc)).1⟩
  | true =>
    by_cases hk : 40 < ks.length
    · have hki : (40 : Int) < (ks.length : Int) := by omega
      have hkd : decide ((40 : Int) < (ks.length : Int)) = true := decide_eq_true hki
      clear k11 HPN HPY
      go_wp2_with fail
      refine (k10.out _).mono ?_
      rintro e w2 ⟨rfl, hbc⟩
      go_wp2
      go_ret
      exact ⟨rfl, (HC.out _ (keep_step hb1 hz hbc)).1⟩
    · have hki : ¬ (40 : Int) < (ks.length : Int) := by omega
      have hkd : decide ((40 : Int) < (ks.length : Int)) = false := decide_eq_false hki
      have K11 := k11.out rfl (by omega) w1 (HC.out _ hb1).1
      clear k11
      go_wp2_with fail
      refine K11.mono ?_
      rintro e w2 ⟨⟨z2, rfl, hz2_, hO2⟩, hbc⟩
      have hz2 : Hid (z2.t = PW.1) := hz2_
      clear hz2_
      have hb2 := keep_step hb1 hz hbc
      have hzw2 : w.heap.size + 2 ≤ w2.heap.size := Nat.le_trans hz hb2.size
      obtain ⟨s2, p2, b2⟩ := one_box w2 (tc z2)
      have hR2 : TbR w2 z2 := hO2.tbr
      obtain ⟨w3, hw3⟩ : ∃ W, w2.alloc (tc z2) = W := ⟨_, rfl⟩
      rw [hw3] at s2 p2 b2
      have hb3 := hb2.trans (b2.mono hzw2)
      have HR2 : Hid (∀ W, Below w2.heap.size w2 W → TbR W z2) := fun W hW => hR2.below hW
      clear hO2 hR2 hbc c0 c1 c2 c3 c4 c5 x0 x1 x2 x3 x4 x5 x6 P1 X1
      obtain ⟨t2, ⟨a1, v1⟩, ⟨a2, v2⟩, ⟨a3, v3⟩, ⟨a4, v4⟩, ⟨a5, v5⟩⟩ := z2
      dsimp only [tv, tc] at *
      obtain ⟨PT, PC⟩ := PW
      dsimp only at *
      obtain ⟨-, P1, X1⟩ := HC.out _ hb3
      obtain ⟨x0, x1, x2, x3, x4, x5, x6⟩ := cells7 X1
      obtain ⟨c0, c1, c2, c3, c4, c5⟩ := cells6 p2
      have hbA : Below (w2.heap.size + 1) w3 w3 := Below.refl _ _
      have hzA : w2.heap.size + 1 ≤ w3.heap.size := by omega
      have HA : Hid (∀ W, Below (w2.heap.size + 1) w3 W → Below w.heap.size w W ∧ W.heap[w2.heap.size]? = _ ∧ W.heap[w.heap.size + 1]? = _ ∧ Below w2.heap.size w2 W) := fun W hW => ⟨(HC.out _ (hb3.trans (hW.mono (by omega)))).1, (hW.block w2.heap.size (by omega)).trans p2, (hW.block (w.heap.size + 1) (by omega)).trans X1, b2.trans (hW.mono (by omega))⟩
      by_cases hpc : PC = 0
      · have hpb : (PC != 0) = false := by simpa using hpc
        obtain ⟨ok2, mn2, mz2⟩ := HPY.out hpc
        rw [← hz2.out] at ok2 mn2 mz2
        rw [hpc]
        have OK2 : Hid (okT t2 = true) := ok2
        have MN2 : Hid ((mineM t2.ints (d1, d2)).length = ks.length) := mn2
        have MZ2 : Hid ((mineM t2.ints (d1, d2)).length ≠ 0) := mz2
        clear ok2 mn2 mz2 HPN HPY hz2 hpc hpb
        have KF := fin_law ⟨t2, (a1, v1), (a2, v2), (a3, v3), (a4, v4), (a5, v5)⟩ (d1, d2) true w3 (HR2.out _ (HA.out _ hbA).2.2.2) OK2.out MZ2.out MN2.out
        dsimp only [tv, idv] at KF
        go_wp2_with fail
        refine KF.mono ?_
        rintro e w4 ⟨⟨z4, rfl, hz4_, hO4⟩, hbc⟩
        have hz4 : Hid (z4.t = (finM t2 (d1, d2) true).1) := hz4_
        have hb4 := keep_step hbA hzA hbc
        have hR4 : TbR w4 z4 := hO4.tbr
        clear hz4_ hbc KF hO4 c0 c1 c2 c3 c4 c5 x0 x1 x2 x3 x4 x5 x6 P1 X1 p2 b2 s2
        obtain ⟨s4, p4, b4⟩ := one_box w4 (tc z4)
        obtain ⟨w5, hw5⟩ : ∃ W, w4.alloc (tc z4) = W := ⟨_, rfl⟩
        rw [hw5] at s4 p4 b4
        have hzw4 : w2.heap.size + 1 ≤ w4.heap.size := Nat.le_trans hzA hb4.size
        have hb5 := hb4.trans (b4.mono hzw4)
        have HR4 : Hid (∀ W, Below w4.heap.size w4 W → TbR W z4) := fun W hW => hR4.below hW
        obtain ⟨-, PA, XA, -⟩ := HA.out _ hb5
        obtain ⟨x0, x1, x2, x3, x4, x5, x6⟩ := cells7 XA
        obtain ⟨c0, c1, c2, c3, c4, c5⟩ := cells6 PA
        have HB : Hid (∀ W, Below (w4.heap.size + 1) w5 W → Below (w2.heap.size + 1) w3 W ∧ W.heap[w4.heap.size]? = _ ∧ Below w4.heap.size w4 W) := fun W hW => ⟨hb5.trans (hW.mono (by omega)), (hW.block w4.heap.size (by omega)).trans p4, b4.trans (hW.mono (by omega))⟩
        have hbB : Below (w4.heap.size + 1) w5 w5 := Below.refl _ _
        have hzB : w4.heap.size + 1 ≤ w5.heap.size := by omega
        have KG := fin_law ⟨t2, (a1, v1), (a2, v2), (a3, v3), (a4, v4), (a5, v5)⟩ (d1, d2) false w5 (HR2.out _ (HA.out _ hb5).2.2.2) OK2.out MZ2.out MN2.out
        dsimp only [tv, idv] at KG
        obtain ⟨t4, ⟨o1, n1⟩, ⟨o2, n2⟩, ⟨o3, n3⟩, ⟨o4, n4⟩, ⟨o5, n5⟩⟩ := z4
        dsimp only [tv, tc] at *
        clear hR4
        go_wp2_with fail
        refine KG.mono ?_
        rintro e w6 ⟨⟨z6, rfl, hz6_, hO6⟩, hbc⟩
        have hz6 : Hid (z6.t = (finM t2 (d1, d2) false).1) := hz6_
        have hb6 := keep_step hbB hzB hbc
        have hR6 : TbR w6 z6 := hO6.tbr
        clear hz6_ hbc KG hO6 c0 c1 c2 c3 c4 c5 x0 x1 x2 x3 x4 x5 x6 PA XA p4 b4 s4
        obtain ⟨s6, p6, b6⟩ := one_box w6 (tc z6)
        obtain ⟨w7, hw7⟩ : ∃ W, w6.alloc (tc z6) = W := ⟨_, rfl⟩
        rw [hw7] at s6 p6 b6
        have hzw6 : w4.heap.size + 1 ≤ w6.heap.size := Nat.le_trans hzB hb6.size
        have hb7 := hb6.trans (b6.mono hzw6)
        obtain ⟨hA7, PB, -⟩ := HB.out _ hb7
        obtain ⟨-, PA, XA, hW27⟩ := HA.out _ hA7
        have KS := same_law (t := t2) (d := (d1, d2)) z6 ⟨t2, (a1, v1), (a2, v2), (a3, v3), (a4, v4), (a5, v5)⟩ w7 (hR6.below b6) (HR2.out _ hW27) hz6.out rfl OK2.out MZ2.out
        obtain ⟨t6, ⟨m1, r1⟩, ⟨m2, r2⟩, ⟨m3, r3⟩, ⟨m4, r4⟩, ⟨m5, r5⟩⟩ := z6
        dsimp only [tv, tc] at *
        obtain ⟨x0, x1, x2, x3, x4, x5, x6⟩ := cells7 XA
        obtain ⟨c0, c1, c2, c3, c4, c5⟩ := cells6 PA
        obtain ⟨y0, y1, y2, y3, y4, y5⟩ := cells6 p6
        clear hR6 hz6 hW27
        go_wp2_with fail
        refine KS.mono ?_
        rintro e w8 ⟨rfl, hbc⟩
        have hb8 : Below (w4.heap.size + 1) w5 w8 := hb7.trans (hbc.mono (by have := hb7.size; omega))
        clear hbc KS c0 c1 c2 c3 c4 c5 x0 x1 x2 x3 x4 x5 x6 y0 y1 y2 y3 y4 y5 PA XA PB p6 b6 s6 hA7 hb6 hb7 hw7
        have HI : Hid (∀ W, Below (w4.heap.size + 1) w5 W → Rd itE W (.slice a5 t2.ints.length v5) t2.ints) := fun W hW => (HR2.out _ (HA.out _ (HB.out _ hW).1).2.2.2).2.2.2.2
        obtain ⟨hA8, PB, -⟩ := HB.out _ hb8
        obtain ⟨-, PA, XA, -⟩ := HA.out _ hA8
        obtain ⟨c0, c1, c2, c3, c4, c5⟩ := cells6 PA
        have HLN : Hid (t2.ints.length ≤ 1024) := (ok_sizes OK2.out).2.2.2.2
        go_wp2
        clear c0 c1 c2 c3 c4 c5 PA XA PB hA8 hb0 hb1 hb2 hb3 hbA hb4 hb5 hbB MN2 MZ2
        go_loopg [12] t2.ints.length (fun g s12 wr => ∃ i : Nat, i + g = t2.ints.length ∧ s12 = .int .i64 (i : Int) ∧ Below (w4.heap.size + 1) w5 wr)
        case atStart => exact ⟨0, by omega, rfl, hb8⟩
        case round =>
          obtain ⟨i, hig, rfl, hb⟩ := hrel
          clear hb8
          obtain ⟨hAr, PB, -⟩ := HB.out _ hb
          obtain ⟨hWr, PA, XA, -⟩ := HA.out _ hAr
          obtain ⟨c0, c1, c2, c3, c4, c5⟩ := cells6 PA
          have hln := HLN.out
          by_cases hlt : i < t2.ints.length
          · have hlti : (i : Int) < (t2.ints.length : Int) := by omega
            have hx : t2.ints[i]? = some t2.ints[i] := List.getElem?_eq_getElem hlt
            obtain ⟨y, hyy⟩ : ∃ y, y = t2.ints[i] := ⟨_, rfl⟩
            rw [← hyy] at hx
            clear hyy
            have HM : Hid (y ∈ t2.ints) := List.mem_of_getElem? hx
            obtain ⟨b, off, ea, cc⟩ := rdx_at (HI.out _ hb) hx
            subst ea
            obtain ⟨e0, e1, e2, e3, e4, e5⟩ := cc wr (Below.refl _ _)
            obtain ⟨hsy, hby, cly⟩ := it_box wr y
            obtain ⟨wy, hwy⟩ : ∃ W, wr.alloc (ic y) = W := ⟨_, rfl⟩
            rw [hwy] at hsy hby cly
            have hby2 := hb.trans (hby.mono (by have := hb.size; omega))
            obtain ⟨hAy, QB, -⟩ := HB.out _ hby2
            obtain ⟨hWy, QA, QX, -⟩ := HA.out _ hAy
            obtain ⟨x0, x1, -, -, -, -, -⟩ := cells7 QX
            obtain ⟨f0, f1, f2, f3, f4, f5⟩ := cly wy (Below.refl _ _)
            obtain ⟨n0, n1', n2', n3', n4', n5'⟩ := cells6 QB
            by_cases hyd : y.2.1 = (d1, d2)
            · have KI := insp_law (t := t2) (d := (d1, d2)) (y := y) ⟨t4, (o1, n1), (o2, n2), (o3, n3), (o4, n4), (o5, n5)⟩ wy (HR4.out _ (HB.out _ hby2).2.2) hz4.out OK2.out HM.out hyd
              obtain ⟨k, ⟨yc, yq⟩, yk, yt, yl⟩ := y
              dsimp only [tv, ic] at *
              obtain ⟨rfl, rfl⟩ : yc = d1 ∧ yq = d2 := by simpa using hyd
              clear hyd hx cc
              go_wp2_with fail
              refine KI.mono ?_
              rintro e w9 ⟨⟨who, rfl, hw1, hw2⟩, hbc⟩
              have hb9 := keep_step hby2 (by have := hby2.size; omega) hbc
              have g' := cly w9 (hbc.mono (by omega))
              obtain ⟨l0, l1, l2, l3, l4, l5⟩ := g'
              clear KI hbc f0 f1 f2 f3 f4 f5 n0 n1' n2' n3' n4' n5' x0 x1 QB QA QX cly e0 e1 e2 e3 e4 e5
              by_cases hk1 : yk = 1
              · have hk1b : (yk == 1) = true := by simpa using hk1
                have hk2b : (yk == 2) = false := by simp [hk1]
                have hwb : ((who : Int) != (yt : Int)) = false := by simp [hw1 hk1]
                clear hw1 hw2 hk1
                go_wp2
                go_roundg (gk - 1)
                case measure => omega
                case rel => exact ⟨i + 1, by omega, by go_num, hb9⟩
              · have hk1b : (yk == 1) = false := by simpa using hk1
                by_cases hk2 : yk = 2
                · have hk2b : (yk == 2) = true := by simpa using hk2
                  have hwb : ((who : Int) != 0) = false := by simp [hw2 hk2]
                  clear hw1 hw2 hk1 hk2
                  go_wp2
                  go_roundg (gk - 1)
                  case measure => omega
                  case rel => exact ⟨i + 1, by omega, by go_num, hb9⟩
                · have hk2b : (yk == 2) = false := by simpa using hk2
                  clear hw1 hw2 hk1 hk2
                  go_wp2
                  go_roundg (gk - 1)
                  case measure => omega
                  case rel => exact ⟨i + 1, by omega, by go_num, hb9⟩
            · obtain ⟨k, ⟨yc, yq⟩, yk, yt, yl⟩ := y
              dsimp only [ic] at *
              clear hx cc cly n0 n1' n2' n3' n4' n5' QB QA QX
              by_cases h1 : yc = d1
              · have h2 : ¬ yq = d2 := fun h2 => hyd (by rw [h1, h2])
                have h1d : decide (yc = d1) = true := decide_eq_true h1
                have h2d : decide (yq = d2) = false := decide_eq_false h2
                clear hyd h1
                go_wp2
                go_roundg (gk - 1)
                case measure => omega
                case rel => exact ⟨i + 1, by omega, by go_num, hby2⟩
              · have h1d : decide (yc = d1) = false := decide_eq_false h1
                clear hyd
                go_wp2
                go_roundg (gk - 1)
                case measure => omega
                case rel => exact ⟨i + 1, by omega, by go_num, hby2⟩
          · have hlti : ¬ (i : Int) < (t2.ints.length : Int) := by omega
            clear HI
            go_wp2_with fail
            refine (k10.out _).mono ?_
            rintro e w9 ⟨rfl, hbc⟩
            have hb9 := keep_step hb (by have := hb.size; omega) hbc
            go_wp2
            go_ret
            exact ⟨rfl, (HA.out _ (HB.out _ hb9).1).1⟩
      · have hpb : (PC != 0) = true := by simpa using hpc
        have hz0 : t2 = noT := hz2.out.trans (HPN.out hpc)
        have KZ := zero_law ⟨t2, (a1, v1), (a2, v2), (a3, v3), (a4, v4), (a5, v5)⟩ w3 (HR2.out _ (HA.out _ hbA).2.2.2) hz0
        dsimp only [tv] at KZ
        clear hz0 HPN HPY hz2 hpc
        go_wp2_with fail
        refine KZ.mono ?_
        rintro e w4 ⟨rfl, hbc⟩
        have hb4 := keep_step hbA hzA hbc
        go_wp2_with fail
        refine (k10.out _).mono ?_
        rintro e w5 ⟨rfl, hbc'⟩
        have hb5 := keep_step hb4 hzA hbc'
        go_wp2
        go_ret
        exact ⟨rfl, (HA.out _ hb5).1⟩
end Go.Proofs.YtfpbgfmnjpamlaaGreat

