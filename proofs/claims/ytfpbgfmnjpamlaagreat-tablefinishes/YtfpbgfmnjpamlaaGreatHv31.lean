import Derived.Test.YtfpbgfmnjpamlaaGreatHv30
import Derived.Test.YtfpbgfmnjpamlaaGreatHv19
import Derived.Test.YtfpbgfmnjpamlaaGreatHv10
/- Prepare of the program. -/
namespace Go.Proofs.YtfpbgfmnjpamlaaGreat
open Go.RowKit LeaseMath
set_option maxRecDepth 100000
set_option linter.unusedSimpArgs false
set_option linter.unusedVariables false

/-- The token that an intent bears. -/
def tokM (kd : Int) (ct tk : Nat) : Nat := if kd = 1 then tk else ct
/-- What Prepare tells: a table and a code; M: the intents as they are then. -/
def prepM (t : Tb) (d : Cq) (c : Cl) (tk : Nat) (M : List It) : Tb × Int :=
 if (okT t && callB c && idB d && decide (tk ≠ 0)) = false then (noT, 1)
 else if 0 < (mineM t.ints d).length then (if (mineM t.ints d).map (fun x => x.1) = c.keys then (t, 0) else (noT, 9))
 else if refAll t c.kind c.token tk c.keys ≠ 0 then (noT, refAll t c.kind c.token tk c.keys)
 else if 1024 < locksN t + c.keys.length then (noT, 2)
 else ({ t with ints := M }, 0)
def PrepT (n : Nat) (m : Tb × Int) (e : Ending) (w' : World) : Prop := ∃ z : Tz, e = .returned (.tuple #[tv z, .int .i64 m.2]) ∧ z.t = m.1 ∧ TbO n w' z
theorem PrepT.mk {n : Nat} {w : World} {z : Tz} {t : Tb} {c : Int} {m : Tb × Int} (h : m = (t, c)) (hz : z.t = t) (hT : TbO n w z) : PrepT n m (.returned (.tuple #[tv z, .int .i64 c])) w := ⟨z, by rw [h], by rw [h]; exact hz, hT⟩
theorem noZ_o (n : Nat) (w : World) : TbO n w noZ := ⟨Ow.nil _ _ _ _, Ow.nil _ _ _ _, Ow.nil _ _ _ _, Ow.nil _ _ _ _, Ow.nil _ _ _ _⟩
/-- What a call for keys to turn and no table's being greater come to. -/
theorem keysB_len {l : List K} (h : keysB l = true) : 1 ≤ l.length ∧ l.length ≤ 16 := by
 unfold keysB at h
 simp only [Bool.and_eq_true, decide_eq_true_eq] at h
 exact ⟨h.1.2, h.2⟩
theorem keysB_iff {l : List K} : keysB l = true ↔ (∀ k ∈ l, k.length ≤ 64) ∧ l.Pairwise (· < ·) ∧ 1 ≤ l.length ∧ l.length ≤ 16 := by
 unfold keysB upB
 simp only [Bool.and_eq_true, decide_eq_true_eq, walk_iff, List.mem_map, List.pairwise_map, and_assoc]
 constructor
 ·rintro ⟨h1, h2, h3⟩
  exact ⟨fun k hk => h1 (k, ()) ⟨k, hk, rfl⟩, h2, h3⟩
 ·rintro ⟨h1, h2, h3⟩
  exact ⟨by rintro _ ⟨k, hk, rfl⟩; exact h1 k hk, h2, h3⟩
theorem callB_iff {c : Cl} : callB c = true ↔ turnB c.kind c.ttl = true ∧ keysB c.keys = true ∧ (c.token = 0 ↔ c.kind = 1) := by
 unfold callB
 rw [Bool.and_eq_true, Bool.and_eq_true, and_assoc, beq_iff_eq, decide_eq_decide]
theorem okT_iff {t : Tb} : okT t = true ↔ timeB t.now = true ∧ spansB t = true ∧ locksN t ≤ 1024 ∧ locksB t.spans t.holds t.marks = true ∧ intsB t.spans t.ints = true := by
 unfold okT
 simp only [Bool.and_eq_true, decide_eq_true_eq, and_assoc]
theorem okT_holds {t : Tb} (h : okT t = true) : mayB holdB t.holds = true ∧ mayB markB t.marks = true := by
 have := (okT_iff.1 h).2.2.2.1
 unfold locksB at this
 simp only [Bool.and_eq_true, and_assoc] at this
 exact ⟨this.1, this.2.1⟩
theorem okT_spans {t : Tb} (h : okT t = true) : t.spans.length ≤ 64 ∧ t.frozen.length ≤ 64 := by
 have := (okT_iff.1 h).2.1
 unfold spansB at this
 simp only [Bool.and_eq_true] at this
 exact ⟨(SpanMath.formB_iff.1 this.1.1).1, (SpanMath.formB_iff.1 this.1.2).1⟩

set_option maxHeartbeats 16000000 in
theorem prepare_of (z : Tz) (d : Cq) (c : Cl) (a : Sa) (tk : Nat) (M : List It) (w : World) (hR : TbR w z) (hK : Rd kyE w (.slice a.1 c.keys.length a.2) c.keys) (g2 : z.t.holds.length ≤ 1000000) (g3 : z.t.marks.length ≤ 1000000) (g4 : z.t.ints.length ≤ 1000000) (g5 : c.keys.length ≤ 1000000)
  (hM_ : okT z.t = true → callB c = true → idB d = true → tk ≠ 0 → (mineM z.t.ints d).length = 0 → refAll z.t c.kind c.token tk c.keys = 0 → M.Perm (z.t.ints ++ moreM c.keys d c.kind (tokM c.kind c.token tk) c.ttl) ∧ M.Pairwise (fun a b => a.1 < b.1)) :
  Calls Tryz.prog 11 #[tv z, idv d, cv c a, .int .u64 (tk : Int)] w fun e w' => PrepT w.heap.size (prepM z.t d c tk M) e w' ∧ Below w.heap.size w w' := by
 obtain ⟨PM, HPM⟩ : ∃ PM, Hid (PM = prepM z.t d c tk M) := ⟨_, rfl⟩
 rw [← HPM.out]
 have hRH : Hid (TbR w z) := hR
 have hKH : Hid (Rd kyE w (.slice a.1 c.keys.length a.2) c.keys) := hK
 have k1 : Hid (∀ W, Below w.heap.size w W → _) := fun W hW => tcheck_of z W (hRH.out.below hW) (by omega) (by omega) (by omega)
 have k2 : Hid (∀ W, Below w.heap.size w W → _) := fun W hW => checkCall_of c a W (hKH.out.below hW) (by omega)
 have k3 : Hid (∀ W, Below w.heap.size w W → _) := fun W (_ : Below w.heap.size w W) => mayId_of d W
 have k4 : Hid (∀ W, Below w.heap.size w W → _) := fun W hW => intents_of z d W (hRH.out.below hW) (by omega)
 have k6 : Hid (okT z.t = true → ∀ W, Below w.heap.size w W → _) := fun h W hW => own_of z W (hRH.out.below hW) (by have := okT_spans h; omega) (by have := okT_spans h; omega) g2 g3 g4
 have k7 : Hid (okT z.t = true → callB c = true → ∀ W, Below w.heap.size w W → _) := fun h h' W hW => refusal_of z c a tk W (hRH.out.below hW) (hKH.out.below hW) (okT_holds h).1 g3 g4 g5 (keysB_iff.1 (callB_iff.1 h').2.1).1
 have k8 : Hid (∀ W, Below w.heap.size w W → _) := fun W (_ : Below w.heap.size w W) => locks_of z W (by omega) (by omega) (by omega)
 have k9 : Hid (okT z.t = true → callB c = true → M.Perm (z.t.ints ++ moreM c.keys d c.kind (tokM c.kind c.token tk) c.ttl) → M.Pairwise (fun a b => a.1 < b.1) → ∀ W, Below w.heap.size w W → Calls Tryz.prog 41 #[tv z, idv d, cv c a, .int .u64 (tk : Int)] W fun e w' => (∃ z', e = .returned (tv z') ∧ z'.t = { z.t with ints := M } ∧ TbO W.heap.size w' z') ∧ Below W.heap.size W w') := fun h h' p1 p2 W hW => by
  have s1 := okT_spans h
  have s2 := (okT_iff.1 h).2.2.1
  unfold locksN at s2
  have s3 := keysB_len (callB_iff.1 h').2.1
  by_cases hk : c.kind = 1
  ·exact intending_acq z d c a tk M W (hRH.out.below hW) (hKH.out.below hW) (by omega) (by omega) g2 g3 (by omega) (by omega) hk (by unfold tokM at p1; rw [if_pos hk] at p1; exact p1) p2
  ·exact intending_not z d c a tk M W (hRH.out.below hW) (hKH.out.below hW) (by omega) (by omega) g2 g3 (by omega) (by omega) hk (by unfold tokM at p1; rw [if_neg hk] at p1; exact p1) p2
 have HM : Hid (okT z.t = true → callB c = true → idB d = true → tk ≠ 0 → (mineM z.t.ints d).length = 0 → refAll z.t c.kind c.token tk c.keys = 0 → M.Perm (z.t.ints ++ moreM c.keys d c.kind (tokM c.kind c.token tk) c.ttl) ∧ M.Pairwise (fun a b => a.1 < b.1)) := hM_
 have HPE : Hid (prepM z.t d c tk M = (if (okT z.t && callB c && idB d && decide (tk ≠ 0)) = false then (noT, 1) else if 0 < (mineM z.t.ints d).length then (if (mineM z.t.ints d).map (fun x => x.1) = c.keys then (z.t, 0) else (noT, 9)) else if refAll z.t c.kind c.token tk c.keys ≠ 0 then (noT, refAll z.t c.kind c.token tk c.keys) else if 1024 < locksN z.t + c.keys.length then (noT, 2) else ({ z.t with ints := M }, 0))) := rfl
 have hN : Hid (locksN z.t + c.keys.length ≤ 4000000) := by show _ ≤ _; unfold locksN; omega
 have hml : Hid ((mineM z.t.ints d).length ≤ 1000000) := by
  show _ ≤ _
  have := List.length_filter_le (fun x : It => decide (x.2.1 = d)) z.t.ints
  unfold mineM
  omega
 obtain ⟨O, HO⟩ : ∃ O, Hid (O = okT z.t) := ⟨_, rfl⟩
 obtain ⟨CB, HCB⟩ : ∃ O, Hid (O = callB c) := ⟨_, rfl⟩
 obtain ⟨ID, HID⟩ : ∃ O, Hid (O = idB d) := ⟨_, rfl⟩
 obtain ⟨MI, HMI⟩ : ∃ O, Hid (O = mineM z.t.ints d) := ⟨_, rfl⟩
 obtain ⟨RF, HRF⟩ : ∃ O, Hid (O = refAll z.t c.kind c.token tk c.keys) := ⟨_, rfl⟩
 obtain ⟨N, HN⟩ : ∃ O, Hid (O = locksN z.t) := ⟨_, rfl⟩
 rw [← HO.out] at k1 k6 k7 k9 HM HPE
 rw [← HCB.out] at k2 k7 k9 HM HPE
 rw [← HID.out] at k3 HM HPE
 rw [← HMI.out] at k4 HM HPE hml
 rw [← HRF.out] at k7 HM HPE
 rw [← HN.out] at k8 HPE hN
 replace HPM : Hid (PM = _) := HPM.out.trans HPE.out
 clear HO HCB HID HMI HRF HN HPE hM_ hR hK
 obtain ⟨⟨nw, sp, fr, hs_, ms, is⟩, ⟨sa, sc⟩, ⟨fa, fc⟩, ⟨ha, hc⟩, ⟨ma, mc⟩, ⟨ia, ic_⟩⟩ := z
 obtain ⟨kd, ks, ct, tt⟩ := c
 obtain ⟨ca, cb⟩ := a
 obtain ⟨d1_, d2_⟩ := d
 dsimp only [tv, idv, cv] at *
 obtain ⟨q1, q2, q3, q4, q5, q6⟩ := four_boxes w (.cells #[.int .i64 nw, .slice sa sp.length sc, .slice fa fr.length fc, .slice ha hs_.length hc, .slice ma ms.length mc, .slice ia is.length ic_] 27) (.cells #[.int .i64 d1_, .int .u64 (d2_ : Int)] 30) (.cells #[.int .i64 kd, .slice ca ks.length cb, .int .u64 (ct : Int), .int .i64 tt] 33) (.cells #[.int .i64 0, .slice none 0 0, .slice none 0 0, .slice none 0 0, .slice none 0 0, .slice none 0 0] 27)
 obtain ⟨w0, hw0⟩ : ∃ W, (((w.alloc (.cells #[.int .i64 nw, .slice sa sp.length sc, .slice fa fr.length fc, .slice ha hs_.length hc, .slice ma ms.length mc, .slice ia is.length ic_] 27)).alloc (.cells #[.int .i64 d1_, .int .u64 (d2_ : Int)] 30)).alloc (.cells #[.int .i64 kd, .slice ca ks.length cb, .int .u64 (ct : Int), .int .i64 tt] 33)).alloc (.cells #[.int .i64 0, .slice none 0 0, .slice none 0 0, .slice none 0 0, .slice none 0 0, .slice none 0 0] 27) = W := ⟨_, rfl⟩
 rw [hw0] at q1 q2 q3 q4 q5 q6
 have HB : Hid (∀ W, Below (w.heap.size + 4) w0 W → Below w.heap.size w W ∧ W.heap[w.heap.size + 3]? = some (.cells #[.int .i64 0, .slice none 0 0, .slice none 0 0, .slice none 0 0, .slice none 0 0, .slice none 0 0] 27 (0, 0))) := fun W hW => ⟨q6.trans (hW.mono (by omega)), (hW.block (w.heap.size + 3) (by omega)).trans q5⟩
 have HC : Hid (∀ W, Below (w.heap.size + 4) w0 W → W.cell? ⟨w.heap.size, 0, none⟩ = some (.int .i64 nw) ∧ W.cell? ⟨w.heap.size, 1, none⟩ = some (.slice sa sp.length sc) ∧ W.cell? ⟨w.heap.size, 2, none⟩ = some (.slice fa fr.length fc) ∧ W.cell? ⟨w.heap.size, 3, none⟩ = some (.slice ha hs_.length hc) ∧ W.cell? ⟨w.heap.size, 4, none⟩ = some (.slice ma ms.length mc) ∧ W.cell? ⟨w.heap.size, 5, none⟩ = some (.slice ia is.length ic_) ∧ W.cell? ⟨w.heap.size + 1, 0, none⟩ = some (.int .i64 d1_) ∧ W.cell? ⟨w.heap.size + 1, 1, none⟩ = some (.int .u64 (d2_ : Int)) ∧ W.cell? ⟨w.heap.size + 2, 0, none⟩ = some (.int .i64 kd) ∧ W.cell? ⟨w.heap.size + 2, 1, none⟩ = some (.slice ca ks.length cb) ∧ W.cell? ⟨w.heap.size + 2, 2, none⟩ = some (.int .u64 (ct : Int)) ∧ W.cell? ⟨w.heap.size + 2, 3, none⟩ = some (.int .i64 tt)) := fun W hW => by
  have e0 := (hW.block w.heap.size (by omega)).trans q2
  have e1 := (hW.block (w.heap.size + 1) (by omega)).trans q3
  have e2 := (hW.block (w.heap.size + 2) (by omega)).trans q4
  exact ⟨by rw [cells_of_block e0]; rfl, by rw [cells_of_block e0]; rfl, by rw [cells_of_block e0]; rfl, by rw [cells_of_block e0]; rfl, by rw [cells_of_block e0]; rfl, by rw [cells_of_block e0]; rfl, by rw [cells_of_block e1]; rfl, by rw [cells_of_block e1]; rfl, by rw [cells_of_block e2]; rfl, by rw [cells_of_block e2]; rfl, by rw [cells_of_block e2]; rfl, by rw [cells_of_block e2]; rfl⟩
 have hz4 : Hid (w.heap.size + 4 ≤ w0.heap.size) := by show _ ≤ _; omega
 have hb0 : Below (w.heap.size + 4) w0 w0 := Below.refl _ _
 obtain ⟨c0, c1, c2, c3, c4, c5, d0, d1, e0, e1, e2, e3⟩ := HC.out w0 hb0
 clear q1 q2 q3 q4 q5 q6 g2 g3 g4
 go_enter Tryz.func11, Tryz.ntmps11
 cases O with
 | false =>
  have E : Hid (PM = (noT, 1)) := by show _ = _; rw [HPM.out]; rfl
  clear HPM k2 k3 k4 k6 k7 k8 k9 HM
  go_wp2_with fail
  refine (k1.out _ (HB.out _ hb0).1).mono ?_
  rintro e w1 ⟨rfl, hbc⟩
  have hb1 := keep_step hb0 hz4.out hbc
  obtain ⟨c0, c1, c2, c3, c4, c5, d0, d1, e0, e1, e2, e3⟩ := HC.out w1 hb1
  clear hbc
  obtain ⟨hbw, hblk⟩ := HB.out w1 hb1
  obtain ⟨⟨f0, f1, f2, f3, f4, f5⟩, b0, b1, b2, b3, b4, b5⟩ := t_cells hblk
  have S6 := set6_block hblk (.int .i64 0) (.slice none 0 0) (.slice none 0 0) (.slice none 0 0) (.slice none 0 0) (.slice none 0 0)
  have B6 := set6_below (.int .i64 0) (.slice none 0 0) (.slice none 0 0) (.slice none 0 0) (.slice none 0 0) (.slice none 0 0) (g := w.heap.size + 3) hbw (by omega)
  unfold set6 at S6 B6
  clear hblk hbw HB HC
  go_wp2
  (try simp only [Exit.inBlock, Exit.then])
  refine bodyPost_ret (results_tbe rfl _ _ (w.heap.size + 3) _ _ _ _ _ _ rfl S6) rfl ?_
  exact ⟨PrepT.mk (z := noZ) E.out rfl (noZ_o _ _), B6⟩
 | true =>
  cases CB with
  | false =>
   have E : Hid (PM = (noT, 1)) := by show _ = _; rw [HPM.out]; rfl
   clear HPM k3 k4 k6 k7 k8 k9 HM
   go_wp2_with fail
   refine (k1.out _ (HB.out _ hb0).1).mono ?_
   rintro e w1 ⟨rfl, hbc⟩
   have hb1 := keep_step hb0 hz4.out hbc
   obtain ⟨c0, c1, c2, c3, c4, c5, d0, d1, e0, e1, e2, e3⟩ := HC.out w1 hb1
   clear hbc
   go_wp2_with fail
   refine (k2.out _ (HB.out _ hb1).1).mono ?_
   rintro e w2 ⟨rfl, hbc⟩
   have hb2 := keep_step hb1 hz4.out hbc
   obtain ⟨c0, c1, c2, c3, c4, c5, d0, d1, e0, e1, e2, e3⟩ := HC.out w2 hb2
   clear hbc
   obtain ⟨hbw, hblk⟩ := HB.out w2 hb2
   obtain ⟨⟨f0, f1, f2, f3, f4, f5⟩, b0, b1, b2, b3, b4, b5⟩ := t_cells hblk
   have S6 := set6_block hblk (.int .i64 0) (.slice none 0 0) (.slice none 0 0) (.slice none 0 0) (.slice none 0 0) (.slice none 0 0)
   have B6 := set6_below (.int .i64 0) (.slice none 0 0) (.slice none 0 0) (.slice none 0 0) (.slice none 0 0) (.slice none 0 0) (g := w.heap.size + 3) hbw (by omega)
   unfold set6 at S6 B6
   clear hblk hbw HB HC
   go_wp2
   (try simp only [Exit.inBlock, Exit.then])
   refine bodyPost_ret (results_tbe rfl _ _ (w.heap.size + 3) _ _ _ _ _ _ rfl S6) rfl ?_
   exact ⟨PrepT.mk (z := noZ) E.out rfl (noZ_o _ _), B6⟩
  | true =>
   cases ID with
   | false =>
    have E : Hid (PM = (noT, 1)) := by show _ = _; rw [HPM.out]; rfl
    clear HPM k4 k6 k7 k8 k9 HM
    go_wp2_with fail
    refine (k1.out _ (HB.out _ hb0).1).mono ?_
    rintro e w1 ⟨rfl, hbc⟩
    have hb1 := keep_step hb0 hz4.out hbc
    obtain ⟨c0, c1, c2, c3, c4, c5, d0, d1, e0, e1, e2, e3⟩ := HC.out w1 hb1
    clear hbc
    go_wp2_with fail
    refine (k2.out _ (HB.out _ hb1).1).mono ?_
    rintro e w2 ⟨rfl, hbc⟩
    have hb2 := keep_step hb1 hz4.out hbc
    obtain ⟨c0, c1, c2, c3, c4, c5, d0, d1, e0, e1, e2, e3⟩ := HC.out w2 hb2
    clear hbc
    go_wp2_with fail
    refine (k3.out _ (HB.out _ hb2).1).mono ?_
    rintro e w3 ⟨rfl, hbc⟩
    have hb3 := keep_step hb2 hz4.out hbc
    obtain ⟨c0, c1, c2, c3, c4, c5, d0, d1, e0, e1, e2, e3⟩ := HC.out w3 hb3
    clear hbc
    obtain ⟨hbw, hblk⟩ := HB.out w3 hb3
    obtain ⟨⟨f0, f1, f2, f3, f4, f5⟩, b0, b1, b2, b3, b4, b5⟩ := t_cells hblk
    have S6 := set6_block hblk (.int .i64 0) (.slice none 0 0) (.slice none 0 0) (.slice none 0 0) (.slice none 0 0) (.slice none 0 0)
    have B6 := set6_below (.int .i64 0) (.slice none 0 0) (.slice none 0 0) (.slice none 0 0) (.slice none 0 0) (.slice none 0 0) (g := w.heap.size + 3) hbw (by omega)
    unfold set6 at S6 B6
    clear hblk hbw HB HC
    go_wp2
    (try simp only [Exit.inBlock, Exit.then])
    refine bodyPost_ret (results_tbe rfl _ _ (w.heap.size + 3) _ _ _ _ _ _ rfl S6) rfl ?_
    exact ⟨PrepT.mk (z := noZ) E.out rfl (noZ_o _ _), B6⟩
   | true =>
    by_cases h0 : tk = 0
    ·have h0d : ((tk : Int) == 0) = true := by simpa using h0
     have E : Hid (PM = (noT, 1)) := by show _ = _; rw [HPM.out, h0]; rfl
     clear HPM k4 k6 k7 k8 k9 HM h0
     go_wp2_with fail
     refine (k1.out _ (HB.out _ hb0).1).mono ?_
     rintro e w1 ⟨rfl, hbc⟩
     have hb1 := keep_step hb0 hz4.out hbc
     obtain ⟨c0, c1, c2, c3, c4, c5, d0, d1, e0, e1, e2, e3⟩ := HC.out w1 hb1
     clear hbc
     go_wp2_with fail
     refine (k2.out _ (HB.out _ hb1).1).mono ?_
     rintro e w2 ⟨rfl, hbc⟩
     have hb2 := keep_step hb1 hz4.out hbc
     obtain ⟨c0, c1, c2, c3, c4, c5, d0, d1, e0, e1, e2, e3⟩ := HC.out w2 hb2
     clear hbc
     go_wp2_with fail
     refine (k3.out _ (HB.out _ hb2).1).mono ?_
     rintro e w3 ⟨rfl, hbc⟩
     have hb3 := keep_step hb2 hz4.out hbc
     obtain ⟨c0, c1, c2, c3, c4, c5, d0, d1, e0, e1, e2, e3⟩ := HC.out w3 hb3
     clear hbc
     obtain ⟨hbw, hblk⟩ := HB.out w3 hb3
     obtain ⟨⟨f0, f1, f2, f3, f4, f5⟩, b0, b1, b2, b3, b4, b5⟩ := t_cells hblk
     have S6 := set6_block hblk (.int .i64 0) (.slice none 0 0) (.slice none 0 0) (.slice none 0 0) (.slice none 0 0) (.slice none 0 0)
     have B6 := set6_below (.int .i64 0) (.slice none 0 0) (.slice none 0 0) (.slice none 0 0) (.slice none 0 0) (.slice none 0 0) (g := w.heap.size + 3) hbw (by omega)
     unfold set6 at S6 B6
     clear hblk hbw HB HC
     go_wp2
     (try simp only [Exit.inBlock, Exit.then])
     refine bodyPost_ret (results_tbe rfl _ _ (w.heap.size + 3) _ _ _ _ _ _ rfl S6) rfl ?_
     exact ⟨PrepT.mk (z := noZ) E.out rfl (noZ_o _ _), B6⟩
    ·have h0d : ((tk : Int) == 0) = false := by simpa using h0
     have HM2 : Hid (MI.length = 0 → RF = 0 → _) := HM.out rfl rfl rfl h0
     have HPM2 : Hid (PM = (if 0 < MI.length then (if MI.map (fun x => x.1) = ks then (⟨nw, sp, fr, hs_, ms, is⟩, 0) else (noT, 9)) else if RF ≠ 0 then (noT, RF) else if 1024 < N + ks.length then (noT, 2) else (⟨nw, sp, fr, hs_, ms, M⟩, 0))) := by show _ = _; rw [HPM.out, if_neg (by simp [h0])]
     have k6' : Hid _ := k6.out rfl
     have k7' : Hid _ := k7.out rfl rfl
     have k9' : Hid _ := k9.out rfl rfl
     clear HPM HM k6 k7 k9 h0
     go_wp2_with fail
     refine (k1.out _ (HB.out _ hb0).1).mono ?_
     rintro e w1 ⟨rfl, hbc⟩
     have hb1 := keep_step hb0 hz4.out hbc
     obtain ⟨c0, c1, c2, c3, c4, c5, d0, d1, e0, e1, e2, e3⟩ := HC.out w1 hb1
     clear hbc
     go_wp2_with fail
     refine (k2.out _ (HB.out _ hb1).1).mono ?_
     rintro e w2 ⟨rfl, hbc⟩
     have hb2 := keep_step hb1 hz4.out hbc
     obtain ⟨c0, c1, c2, c3, c4, c5, d0, d1, e0, e1, e2, e3⟩ := HC.out w2 hb2
     clear hbc
     go_wp2_with fail
     refine (k3.out _ (HB.out _ hb2).1).mono ?_
     rintro e w3 ⟨rfl, hbc⟩
     have hb3 := keep_step hb2 hz4.out hbc
     obtain ⟨c0, c1, c2, c3, c4, c5, d0, d1, e0, e1, e2, e3⟩ := HC.out w3 hb3
     clear hbc
     go_wp2_with fail
     refine (k4.out _ (HB.out _ hb3).1).mono ?_
     rintro e w4 ⟨⟨mv_, rfl, hMO⟩, hbc⟩
     have hb4 := keep_step hb3 hz4.out hbc
     obtain ⟨c0, c1, c2, c3, c4, c5, d0, d1, e0, e1, e2, e3⟩ := HC.out w4 hb4
     obtain ⟨xa, xc, hmv, -⟩ := hMO.1.shape
     clear hbc
     by_cases hmi : 0 < MI.length
     ·have hmi2 : (0 : Int) < (MI.length : Int) := by omega
      have K5 := equalF_of MI ks mv_ (.slice ca ks.length cb) w4 hMO.1.rd (hKH.out.below (HB.out w4 hb4).1) (by have := hml.out; omega)
      by_cases hme : MI.map (fun x => x.1) = ks
      ·rw [decide_eq_true hme] at K5
       have E : Hid (PM = (⟨nw, sp, fr, hs_, ms, is⟩, 0)) := by show _ = _; rw [HPM2.out, if_pos hmi, if_pos hme]
       clear HPM2 HM2 k7' k8 k9' hme hmi hMO
       generalize MI.length = ml at *
       subst hmv
       go_wp2_with fail
       refine K5.mono ?_
       rintro e w5 ⟨rfl, hbc⟩
       have hb5 := keep_step hb4 hz4.out hbc
       obtain ⟨c0, c1, c2, c3, c4, c5, d0, d1, e0, e1, e2, e3⟩ := HC.out w5 hb5
       clear hbc K5
       go_wp2_with fail
       refine (k6'.out _ (HB.out _ hb5).1).mono ?_
       rintro e w6 ⟨⟨z1, rfl, ht1, hT1⟩, hbc⟩
       have hb6 := keep_step hb5 hz4.out hbc
       clear hbc k6'
       obtain ⟨t1, ⟨a1, s1⟩, ⟨a2, s2⟩, ⟨a3, s3⟩, ⟨a4, s4⟩, ⟨a5, s5⟩⟩ := z1
       dsimp only at ht1
       subst ht1
       dsimp only [tv] at *
       obtain ⟨hbw, hblk⟩ := HB.out w6 hb6
       obtain ⟨⟨f0, f1, f2, f3, f4, f5⟩, b0, b1, b2, b3, b4, b5⟩ := t_cells hblk
       have S6 := set6_block hblk (.int .i64 nw) (.slice a1 sp.length s1) (.slice a2 fr.length s2) (.slice a3 hs_.length s3) (.slice a4 ms.length s4) (.slice a5 is.length s5)
       have B6 := set6_below (.int .i64 nw) (.slice a1 sp.length s1) (.slice a2 fr.length s2) (.slice a3 hs_.length s3) (.slice a4 ms.length s4) (.slice a5 is.length s5) (g := w.heap.size + 3) hbw (by omega)
       have T6 := (hT1.mono (Nat.le_trans hz4.out hb5.size)).keep (fun k hk _ => set6_other (g := w.heap.size + 3) (.int .i64 nw) (.slice a1 sp.length s1) (.slice a2 fr.length s2) (.slice a3 hs_.length s3) (.slice a4 ms.length s4) (.slice a5 is.length s5) (by omega))
       unfold set6 at S6 B6 T6
       clear hblk hbw HB HC hT1
       go_wp2
       (try simp only [Exit.inBlock, Exit.then])
       refine bodyPost_ret (results_tbe rfl _ _ (w.heap.size + 3) _ _ _ _ _ _ rfl S6) rfl ?_
       exact ⟨PrepT.mk (z := ⟨⟨nw, sp, fr, hs_, ms, is⟩, (a1, s1), (a2, s2), (a3, s3), (a4, s4), (a5, s5)⟩) E.out rfl (T6.mono (Nat.le_add_right _ _)), B6⟩
      ·rw [decide_eq_false hme] at K5
       have E : Hid (PM = (noT, 9)) := by show _ = _; rw [HPM2.out, if_pos hmi, if_neg hme]
       clear HPM2 HM2 k6' k7' k8 k9' hme hmi hMO
       generalize MI.length = ml at *
       subst hmv
       go_wp2_with fail
       refine K5.mono ?_
       rintro e w5 ⟨rfl, hbc⟩
       have hb5 := keep_step hb4 hz4.out hbc
       clear hbc K5
       obtain ⟨hbw, hblk⟩ := HB.out w5 hb5
       obtain ⟨⟨f0, f1, f2, f3, f4, f5⟩, b0, b1, b2, b3, b4, b5⟩ := t_cells hblk
       have S6 := set6_block hblk (.int .i64 0) (.slice none 0 0) (.slice none 0 0) (.slice none 0 0) (.slice none 0 0) (.slice none 0 0)
       have B6 := set6_below (.int .i64 0) (.slice none 0 0) (.slice none 0 0) (.slice none 0 0) (.slice none 0 0) (.slice none 0 0) (g := w.heap.size + 3) hbw (by omega)
       unfold set6 at S6 B6
       clear hblk hbw HB HC
       go_wp2
       (try simp only [Exit.inBlock, Exit.then])
       refine bodyPost_ret (results_tbe rfl _ _ (w.heap.size + 3) _ _ _ _ _ _ rfl S6) rfl ?_
       exact ⟨PrepT.mk (z := noZ) E.out rfl (noZ_o _ _), B6⟩
     ·have hmi2 : ¬ (0 : Int) < (MI.length : Int) := by omega
      have hmi3 : MI.length = 0 := by omega
      have HM3 : Hid (RF = 0 → _) := HM2.out hmi3
      have HPM3 : Hid (PM = (if RF ≠ 0 then (noT, RF) else if 1024 < N + ks.length then (noT, 2) else (⟨nw, sp, fr, hs_, ms, M⟩, 0))) := by show _ = _; rw [HPM2.out, if_neg hmi]
      rw [hmi3] at hmv hmi2
      clear HPM2 HM2 hmi hmi3 k6' hMO hml
      subst hmv
      by_cases hrf : RF = 0
      ·have HM4 : Hid _ := HM3.out hrf
       have HPM4 : Hid (PM = (if 1024 < N + ks.length then (noT, 2) else (⟨nw, sp, fr, hs_, ms, M⟩, 0))) := by show _ = _; rw [HPM3.out, if_neg (fun h => h hrf)]
       subst hrf
       clear HM3 HPM3
       go_wp2_with fail
       refine (k7'.out _ (HB.out _ hb4).1).mono ?_
       rintro e w5 ⟨rfl, hbc⟩
       have hb5 := keep_step hb4 hz4.out hbc
       clear hbc k7' c0 c1 c2 c3 c4 c5 d0 d1 e0 e1 e2 e3
       obtain ⟨c0, c1, c2, c3, c4, c5, d0, d1, e0, e1, e2, e3⟩ := HC.out w5 hb5
       have j2 : IntKind.i64.wrap ((N : Int) + (ks.length : Int)) = (N : Int) + (ks.length : Int) := IntWalk.i64_in _ (by have := hN.out; omega)
       have hS0 : (fun W => (W.cell? ⟨w.heap.size, 0, none⟩ = some (.int .i64 nw) ∧ W.cell? ⟨w.heap.size, 1, none⟩ = some (.slice sa sp.length sc) ∧ W.cell? ⟨w.heap.size, 2, none⟩ = some (.slice fa fr.length fc) ∧ W.cell? ⟨w.heap.size, 3, none⟩ = some (.slice ha hs_.length hc) ∧ W.cell? ⟨w.heap.size, 4, none⟩ = some (.slice ma ms.length mc) ∧ W.cell? ⟨w.heap.size, 5, none⟩ = some (.slice ia is.length ic_) ∧ W.cell? ⟨w.heap.size + 2, 1, none⟩ = some (.slice ca ks.length cb)) ∧ Below (w.heap.size + 4) w0 W) w5.drew := by
        obtain ⟨x0, x1, x2, x3, x4, x5, -, -, -, x6, -, -⟩ := HC.out w5.drew hb5.drew
        exact ⟨⟨x0, x1, x2, x3, x4, x5, x6⟩, hb5.drew⟩
       have KC : Hid (∀ W, (fun W => (W.cell? ⟨w.heap.size, 0, none⟩ = some (.int .i64 nw) ∧ W.cell? ⟨w.heap.size, 1, none⟩ = some (.slice sa sp.length sc) ∧ W.cell? ⟨w.heap.size, 2, none⟩ = some (.slice fa fr.length fc) ∧ W.cell? ⟨w.heap.size, 3, none⟩ = some (.slice ha hs_.length hc) ∧ W.cell? ⟨w.heap.size, 4, none⟩ = some (.slice ma ms.length mc) ∧ W.cell? ⟨w.heap.size, 5, none⟩ = some (.slice ia is.length ic_) ∧ W.cell? ⟨w.heap.size + 2, 1, none⟩ = some (.slice ca ks.length cb)) ∧ Below (w.heap.size + 4) w0 W) W → Calls Tryz.prog 40 #[.agg #[.int .i64 nw, .slice sa sp.length sc, .slice fa fr.length fc, .slice ha hs_.length hc, .slice ma ms.length mc, .slice ia is.length ic_]] W fun e w' => e = .returned (.int .i64 (N : Int)) ∧ (fun W => (W.cell? ⟨w.heap.size, 0, none⟩ = some (.int .i64 nw) ∧ W.cell? ⟨w.heap.size, 1, none⟩ = some (.slice sa sp.length sc) ∧ W.cell? ⟨w.heap.size, 2, none⟩ = some (.slice fa fr.length fc) ∧ W.cell? ⟨w.heap.size, 3, none⟩ = some (.slice ha hs_.length hc) ∧ W.cell? ⟨w.heap.size, 4, none⟩ = some (.slice ma ms.length mc) ∧ W.cell? ⟨w.heap.size, 5, none⟩ = some (.slice ia is.length ic_) ∧ W.cell? ⟨w.heap.size + 2, 1, none⟩ = some (.slice ca ks.length cb)) ∧ Below (w.heap.size + 4) w0 W) w') := fun W hW => by
        refine (k8.out W (HB.out W hW.2).1).mono ?_
        rintro e w' ⟨rfl, hb'⟩
        have hb9 := keep_step hW.2 hz4.out hb'
        obtain ⟨x0, x1, x2, x3, x4, x5, -, -, -, x6, -, -⟩ := HC.out w' hb9
        exact ⟨rfl, ⟨x0, x1, x2, x3, x4, x5, x6⟩, hb9⟩
       clear k8
       go_wp2
       by_cases hfull : 1024 < N + ks.length
       ·have hfi : (1024 : Int) < (N : Int) + (ks.length : Int) := by omega
        have E : Hid (PM = (noT, 2)) := by show _ = _; rw [HPM4.out, if_pos hfull]
        clear HPM4 HM4 k9' hfull
        refine wp_region_L (fun W => (W.cell? ⟨w.heap.size, 0, none⟩ = some (.int .i64 nw) ∧ W.cell? ⟨w.heap.size, 1, none⟩ = some (.slice sa sp.length sc) ∧ W.cell? ⟨w.heap.size, 2, none⟩ = some (.slice fa fr.length fc) ∧ W.cell? ⟨w.heap.size, 3, none⟩ = some (.slice ha hs_.length hc) ∧ W.cell? ⟨w.heap.size, 4, none⟩ = some (.slice ma ms.length mc) ∧ W.cell? ⟨w.heap.size, 5, none⟩ = some (.slice ia is.length ic_) ∧ W.cell? ⟨w.heap.size + 2, 1, none⟩ = some (.slice ca ks.length cb)) ∧ Below (w.heap.size + 4) w0 W) [] (by kernel_rfl) ?_
        have yS : (fun W => (W.cell? ⟨w.heap.size, 0, none⟩ = some (.int .i64 nw) ∧ W.cell? ⟨w.heap.size, 1, none⟩ = some (.slice sa sp.length sc) ∧ W.cell? ⟨w.heap.size, 2, none⟩ = some (.slice fa fr.length fc) ∧ W.cell? ⟨w.heap.size, 3, none⟩ = some (.slice ha hs_.length hc) ∧ W.cell? ⟨w.heap.size, 4, none⟩ = some (.slice ma ms.length mc) ∧ W.cell? ⟨w.heap.size, 5, none⟩ = some (.slice ia is.length ic_) ∧ W.cell? ⟨w.heap.size + 2, 1, none⟩ = some (.slice ca ks.length cb)) ∧ Below (w.heap.size + 4) w0 W) w5.drew := hS0
        refine tkg 0 rfl (by intro w' hS'; obtain ⟨⟨x0, x1, x2, x3, x4, x5, x6⟩, xb⟩ := hS'; go_simp <;> rfl) yS ?_
        try simp only [pa, pb, pc, Act.put, pd, pe, pf]
        refine tkg 2 rfl (by intro w' hS'; obtain ⟨⟨x0, x1, x2, x3, x4, x5, x6⟩, xb⟩ := hS'; go_simp <;> rfl) yS ?_
        try simp only [pa, pb, pc, Act.put, pd, pe, pf]
        refine tkg 3 rfl (by intro w' hS'; obtain ⟨⟨x0, x1, x2, x3, x4, x5, x6⟩, xb⟩ := hS'; go_simp <;> rfl) yS ?_
        try simp only [pa, pb, pc, Act.put, pd, pe, pf]
        refine tkg 4 rfl (by intro w' hS'; obtain ⟨⟨x0, x1, x2, x3, x4, x5, x6⟩, xb⟩ := hS'; go_simp <;> rfl) yS ?_
        try simp only [pa, pb, pc, Act.put, pd, pe, pf]
        refine wpAnyL_one 1 (by kernel_rfl) rfl (by kernel_rfl) ?_
        intro K' hK'
        go_simp
        go_at_call 40
        refine (KC.out _ yS).mono ?_
        rintro e w6 ⟨rfl, hS1⟩
        refine hK'.out _ _ (.inr hS1) ?_
        clear hK' K'
        try simp only [pa, pb, pc, Act.put, pd, pe, pf]
        refine tkg 5 rfl (by intro w' hS'; obtain ⟨⟨x0, x1, x2, x3, x4, x5, x6⟩, xb⟩ := hS'; go_simp <;> rfl) hS1 ?_
        try simp only [pa, pb, pc, Act.put, pd, pe, pf]
        refine tkg 6 rfl (by intro w' hS'; obtain ⟨⟨x0, x1, x2, x3, x4, x5, x6⟩, xb⟩ := hS'; go_simp <;> rfl) hS1 ?_
        try simp only [pa, pb, pc, Act.put, pd, pe, pf]
        refine wpAnyL_done (by kernel_rfl) (NoPanic.normal ?_) _
        have hb6 : Below (w.heap.size + 4) w0 w6 := hS1.2
        clear hS1 yS hS0 KC c0 c1 c2 c3 c4 c5 d0 d1 e0 e1 e2 e3
        obtain ⟨c0, c1, c2, c3, c4, c5, d0, d1, e0, e1, e2, e3⟩ := HC.out w6 hb6
        obtain ⟨hbw, hblk⟩ := HB.out w6 hb6
        obtain ⟨⟨f0, f1, f2, f3, f4, f5⟩, b0, b1, b2, b3, b4, b5⟩ := t_cells hblk
        have S6 := set6_block hblk (.int .i64 0) (.slice none 0 0) (.slice none 0 0) (.slice none 0 0) (.slice none 0 0) (.slice none 0 0)
        have B6 := set6_below (.int .i64 0) (.slice none 0 0) (.slice none 0 0) (.slice none 0 0) (.slice none 0 0) (.slice none 0 0) (g := w.heap.size + 3) hbw (by omega)
        unfold set6 at S6 B6
        clear hblk hbw HB HC
        go_wp2
        (try simp only [Exit.inBlock, Exit.then])
        refine bodyPost_ret (results_tbe rfl _ _ (w.heap.size + 3) _ _ _ _ _ _ rfl S6) rfl ?_
        exact ⟨PrepT.mk (z := noZ) E.out rfl (noZ_o _ _), B6⟩
       ·have hfi : ¬ (1024 : Int) < (N : Int) + (ks.length : Int) := by omega
        have E : Hid (PM = (⟨nw, sp, fr, hs_, ms, M⟩, 0)) := by show _ = _; rw [HPM4.out, if_neg hfull]
        have K9 : Hid _ := k9'.out HM4.out.1 HM4.out.2
        clear HPM4 HM4 k9' hfull
        refine wp_region_L (fun W => (W.cell? ⟨w.heap.size, 0, none⟩ = some (.int .i64 nw) ∧ W.cell? ⟨w.heap.size, 1, none⟩ = some (.slice sa sp.length sc) ∧ W.cell? ⟨w.heap.size, 2, none⟩ = some (.slice fa fr.length fc) ∧ W.cell? ⟨w.heap.size, 3, none⟩ = some (.slice ha hs_.length hc) ∧ W.cell? ⟨w.heap.size, 4, none⟩ = some (.slice ma ms.length mc) ∧ W.cell? ⟨w.heap.size, 5, none⟩ = some (.slice ia is.length ic_) ∧ W.cell? ⟨w.heap.size + 2, 1, none⟩ = some (.slice ca ks.length cb)) ∧ Below (w.heap.size + 4) w0 W) [] (by kernel_rfl) ?_
        have yS : (fun W => (W.cell? ⟨w.heap.size, 0, none⟩ = some (.int .i64 nw) ∧ W.cell? ⟨w.heap.size, 1, none⟩ = some (.slice sa sp.length sc) ∧ W.cell? ⟨w.heap.size, 2, none⟩ = some (.slice fa fr.length fc) ∧ W.cell? ⟨w.heap.size, 3, none⟩ = some (.slice ha hs_.length hc) ∧ W.cell? ⟨w.heap.size, 4, none⟩ = some (.slice ma ms.length mc) ∧ W.cell? ⟨w.heap.size, 5, none⟩ = some (.slice ia is.length ic_) ∧ W.cell? ⟨w.heap.size + 2, 1, none⟩ = some (.slice ca ks.length cb)) ∧ Below (w.heap.size + 4) w0 W) w5.drew := hS0
        refine tkg 0 rfl (by intro w' hS'; obtain ⟨⟨x0, x1, x2, x3, x4, x5, x6⟩, xb⟩ := hS'; go_simp <;> rfl) yS ?_
        try simp only [pa, pb, pc, Act.put, pd, pe, pf]
        refine tkg 2 rfl (by intro w' hS'; obtain ⟨⟨x0, x1, x2, x3, x4, x5, x6⟩, xb⟩ := hS'; go_simp <;> rfl) yS ?_
        try simp only [pa, pb, pc, Act.put, pd, pe, pf]
        refine tkg 3 rfl (by intro w' hS'; obtain ⟨⟨x0, x1, x2, x3, x4, x5, x6⟩, xb⟩ := hS'; go_simp <;> rfl) yS ?_
        try simp only [pa, pb, pc, Act.put, pd, pe, pf]
        refine tkg 4 rfl (by intro w' hS'; obtain ⟨⟨x0, x1, x2, x3, x4, x5, x6⟩, xb⟩ := hS'; go_simp <;> rfl) yS ?_
        try simp only [pa, pb, pc, Act.put, pd, pe, pf]
        refine wpAnyL_one 1 (by kernel_rfl) rfl (by kernel_rfl) ?_
        intro K' hK'
        go_simp
        go_at_call 40
        refine (KC.out _ yS).mono ?_
        rintro e w6 ⟨rfl, hS1⟩
        refine hK'.out _ _ (.inr hS1) ?_
        clear hK' K'
        try simp only [pa, pb, pc, Act.put, pd, pe, pf]
        refine tkg 5 rfl (by intro w' hS'; obtain ⟨⟨x0, x1, x2, x3, x4, x5, x6⟩, xb⟩ := hS'; go_simp <;> rfl) hS1 ?_
        try simp only [pa, pb, pc, Act.put, pd, pe, pf]
        refine tkg 6 rfl (by intro w' hS'; obtain ⟨⟨x0, x1, x2, x3, x4, x5, x6⟩, xb⟩ := hS'; go_simp <;> rfl) hS1 ?_
        try simp only [pa, pb, pc, Act.put, pd, pe, pf]
        refine wpAnyL_done (by kernel_rfl) (NoPanic.normal ?_) _
        have hb6 : Below (w.heap.size + 4) w0 w6 := hS1.2
        clear hS1 yS hS0 KC c0 c1 c2 c3 c4 c5 d0 d1 e0 e1 e2 e3
        obtain ⟨c0, c1, c2, c3, c4, c5, d0, d1, e0, e1, e2, e3⟩ := HC.out w6 hb6
        go_wp2_with fail
        refine (K9.out _ (HB.out _ hb6).1).mono ?_
        rintro e w7 ⟨⟨z1, rfl, ht1, hT1⟩, hbc⟩
        have hb7 := keep_step hb6 hz4.out hbc
        clear hbc K9
        obtain ⟨t1, ⟨a1, s1⟩, ⟨a2, s2⟩, ⟨a3, s3⟩, ⟨a4, s4⟩, ⟨a5, s5⟩⟩ := z1
        dsimp only at ht1
        subst ht1
        dsimp only [tv] at *
        obtain ⟨hbw, hblk⟩ := HB.out w7 hb7
        obtain ⟨⟨f0, f1, f2, f3, f4, f5⟩, b0, b1, b2, b3, b4, b5⟩ := t_cells hblk
        have S6 := set6_block hblk (.int .i64 nw) (.slice a1 sp.length s1) (.slice a2 fr.length s2) (.slice a3 hs_.length s3) (.slice a4 ms.length s4) (.slice a5 M.length s5)
        have B6 := set6_below (.int .i64 nw) (.slice a1 sp.length s1) (.slice a2 fr.length s2) (.slice a3 hs_.length s3) (.slice a4 ms.length s4) (.slice a5 M.length s5) (g := w.heap.size + 3) hbw (by omega)
        have T6 := (hT1.mono (Nat.le_trans hz4.out hb6.size)).keep (fun k hk _ => set6_other (g := w.heap.size + 3) (.int .i64 nw) (.slice a1 sp.length s1) (.slice a2 fr.length s2) (.slice a3 hs_.length s3) (.slice a4 ms.length s4) (.slice a5 M.length s5) (by omega))
        unfold set6 at S6 B6 T6
        clear hblk hbw HB HC hT1
        go_wp2
        (try simp only [Exit.inBlock, Exit.then])
        refine bodyPost_ret (results_tbe rfl _ _ (w.heap.size + 3) _ _ _ _ _ _ rfl S6) rfl ?_
        exact ⟨PrepT.mk (z := ⟨⟨nw, sp, fr, hs_, ms, M⟩, (a1, s1), (a2, s2), (a3, s3), (a4, s4), (a5, s5)⟩) E.out rfl (T6.mono (Nat.le_add_right _ _)), B6⟩
      ·have hrf2 : (RF != 0) = true := by simpa using hrf
       have hrf3 : (RF == 0) = false := by simpa using hrf
       have E : Hid (PM = (noT, RF)) := by show _ = _; rw [HPM3.out, if_pos hrf]
       clear HM3 HPM3 k8 k9' hrf
       go_wp2_with fail
       refine (k7'.out _ (HB.out _ hb4).1).mono ?_
       rintro e w5 ⟨rfl, hbc⟩
       have hb5 := keep_step hb4 hz4.out hbc
       clear hbc k7'
       obtain ⟨hbw, hblk⟩ := HB.out w5 hb5
       obtain ⟨⟨f0, f1, f2, f3, f4, f5⟩, b0, b1, b2, b3, b4, b5⟩ := t_cells hblk
       have S6 := set6_block hblk (.int .i64 0) (.slice none 0 0) (.slice none 0 0) (.slice none 0 0) (.slice none 0 0) (.slice none 0 0)
       have B6 := set6_below (.int .i64 0) (.slice none 0 0) (.slice none 0 0) (.slice none 0 0) (.slice none 0 0) (.slice none 0 0) (g := w.heap.size + 3) hbw (by omega)
       unfold set6 at S6 B6
       clear hblk hbw HB HC
       go_wp2
       (try simp only [Exit.inBlock, Exit.then])
       refine bodyPost_ret (results_tbe rfl _ _ (w.heap.size + 3) _ _ _ _ _ _ rfl S6) rfl ?_
       exact ⟨PrepT.mk (z := noZ) E.out rfl (noZ_o _ _), B6⟩
end Go.Proofs.YtfpbgfmnjpamlaaGreat

