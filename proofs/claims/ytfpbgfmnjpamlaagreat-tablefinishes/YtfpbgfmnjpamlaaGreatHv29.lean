import Derived.Test.YtfpbgfmnjpamlaaGreatHv28
import Derived.Test.YtfpbgfmnjpamlaaGreatHv09
import Derived.Test.YtfpbgfmnjpamlaaGreatHv22
import Derived.Test.YtfpbgfmnjpamlaaGreatHv06
import Derived.Test.YtfpbgfmnjpamlaaGreatHv07
import Derived.Deep.QuietTactic
/- maySpans, mayLocks with their closures. -/
namespace Go.Proofs.YtfpbgfmnjpamlaaGreat
open Go.RowKit LeaseMath Go.Maps
set_option maxRecDepth 100000
set_option linter.unusedSimpArgs false
set_option linter.unusedVariables false

theorem zeroU64 (w : World) : (zeroValue 28).run Tryz.prog w = .ok (.int .u64 0) w := by kernel_rfl
theorem any_not {α : Type} (p : α → Bool) (l : List α) : (!(l.any fun x => !p x)) = l.all p := by
 induction l with
 | nil => rfl
 | cons x l ih => rw [List.any_cons, List.all_cons, ← ih]; cases p x <;> simp
theorem sp1_of {w : World} {q : Nat} {a : Option Addr} {n c : Nat} {l : List Sp} (hq : w.cell? ⟨q, 1, none⟩ = some (.slice a n c)) (hR : Rd spE w (.slice a n c) l) (s : Sp) :
  Calls Tryz.prog 153 #[sv s, .pointer (some ⟨q, 0, none⟩)] w fun e w' => e = .returned (.bool (!covP l s)) ∧ Below w.heap.size w w' := by
 obtain ⟨x, y⟩ := s
 obtain ⟨hs, hb, cl⟩ := box_all w #[.string (bk x), .string (bk y)] 47
 have c0 := cl _ (Below.refl _ _) 0 _ rfl
 have c1 := cl _ (Below.refl _ _) 1 _ rfl
 have hq1 := (hb.cell (p := ⟨q, 1, none⟩) (World.block_lt_of_cell? w _ hq)).trans hq
 have kc := covers_of l (.slice a n c) (x, y) _ ((hR.below hb).sv)
 obtain ⟨B, HB⟩ : ∃ B, B = covP l (x, y) := ⟨_, rfl⟩
 rw [← HB] at kc ⊢
 rw [hs] at kc
 clear cl hq HB hR
 go_enter Tryz.func153, Tryz.ntmps153
 go_wp2_with fail
 refine kc.mono ?_
 rintro e w1 ⟨rfl, hb1⟩
 go_wp2
 go_ret
 exact ⟨rfl, hb.trans (hb1.mono (Nat.le_succ _))⟩

set_option maxHeartbeats 1000000 in
theorem maySpans_of (z : Tz) (w : World) (hR : TbR w z) : Calls Tryz.prog 93 #[tv z] w fun e w' => e = .returned (.bool (spansB z.t)) ∧ Below w.heap.size w w' := by
 obtain ⟨B, HB⟩ : ∃ B, Hid (B = spansB z.t) := ⟨_, rfl⟩
 rw [← HB.out]
 obtain ⟨hs, hb, cl⟩ := tb_box w z
 have k1 := fun W (hW : Below w.heap.size w W) => form_of z.t.spans _ W ((hR.1.below hW).sv)
 have k2 := fun W (hW : Below w.heap.size w W) => form_of z.t.frozen _ W ((hR.2.1.below hW).sv)
 have k3 := fun (hf : SpanMath.formB z.t.frozen = true) W (hW : Below (w.heap.size + 1) (w.alloc (tc z)) W) => anySpans_of (fun s => !covP z.t.spans s) z.t.frozen (.slice z.f.1 z.t.frozen.length z.f.2) (.pointer (some ⟨w.heap.size, 0, none⟩)) W (hR.2.1.below (hb.trans (hW.mono (Nat.le_succ _)))) (by have := (SpanMath.formB_iff.1 hf).1; omega) (fun s W' _ hW' => sp1_of (cl W' (hW.trans (hW'.mono (by have := hW.size; omega)))).2.1 (hR.1.below ((hb.trans (hW.mono (Nat.le_succ _))).trans (hW'.mono (Nat.le_trans hb.size (Nat.le_trans (by omega) hW.size))))) s)
 obtain ⟨c0, c1, c2, c3, c4, c5⟩ := cl _ (Below.refl _ _)
 have BW : ∀ W, Below (w.heap.size + 1) (w.alloc (tc z)) W → Below w.heap.size w W := fun W hW => hb.trans (hW.mono (Nat.le_succ _))
 have K1 := k1 _ hb
 rw [hs] at K1
 have hsz : w.heap.size + 1 ≤ (w.alloc (tc z)).heap.size := by omega
 dsimp only [tv, tc] at *
 clear hR
 cases h1 : SpanMath.formB z.t.spans with
 | false =>
  have E : Hid (B = false) := by show _ = _; rw [HB.out]; unfold spansB; rw [h1]; rfl
  rw [h1] at K1
  clear HB h1 k1 k2 k3
  go_enter Tryz.func93, Tryz.ntmps93
  go_wp2_with fail
  refine K1.mono ?_
  rintro e w1 ⟨rfl, hb1⟩
  go_wp2
  go_ret
  exact ⟨by rw [E.out]; rfl, BW _ hb1⟩
 | true =>
  rw [h1] at K1
  clear k1
  cases h2 : SpanMath.formB z.t.frozen with
  | false =>
   have E : Hid (B = false) := by show _ = _; rw [HB.out]; unfold spansB; rw [h2]; simp
   rw [h2] at k2
   clear HB h1 h2 k3
   go_enter Tryz.func93, Tryz.ntmps93
   go_wp2_with fail
   refine K1.mono ?_
   rintro e w1 ⟨rfl, hb1⟩
   have K2 := k2 w1 (BW _ hb1)
   obtain ⟨e0, e1, e2, e3, e4, e5⟩ := cl _ hb1
   clear k2
   go_wp2_with fail
   refine K2.mono ?_
   rintro e w2 ⟨rfl, hb2⟩
   go_wp2
   go_ret
   exact ⟨by rw [E.out]; rfl, keep_step (BW _ hb1) (Nat.le_refl _) hb2⟩
  | true =>
   have k3' := k3 h2
   have E : Hid (B = !(z.t.frozen.any fun s => !covP z.t.spans s)) := by show _ = _; rw [HB.out]; unfold spansB; rw [h1, h2, any_not]; rfl
   rw [h2] at k2
   clear HB h1 h2 k3
   generalize (z.t.frozen.any fun s => !covP z.t.spans s) = A at *
   go_enter Tryz.func93, Tryz.ntmps93
   go_wp2_with fail
   refine K1.mono ?_
   rintro e w1 ⟨rfl, hb1⟩
   have K2 := k2 w1 (BW _ hb1)
   obtain ⟨e0, e1, e2, e3, e4, e5⟩ := cl _ hb1
   clear k2
   go_wp2_with fail
   refine K2.mono ?_
   rintro e w2 ⟨rfl, hb2⟩
   have hb2' := keep_step hb1 hsz hb2
   have K3 := k3' w2 hb2'
   obtain ⟨f0, f1, f2, f3, f4, f5⟩ := cl _ hb2'
   clear k3' K1 K2
   go_wp2_with fail
   refine K3.mono ?_
   rintro e w3 ⟨rfl, hb3⟩
   go_wp2
   go_ret
   exact ⟨by rw [E.out]; first | rfl | simp, keep_step (BW _ hb2') (Nat.le_refl _) hb3⟩

set_option maxHeartbeats 1000000 in
theorem lm1_of {w : World} {q1 q2 b c : Nat} {a : Option Addr} {n cp : Nat} {sp : List Sp} {hs : List Hd} (h1 : w.cell? ⟨q1, 0, none⟩ = some (.map (some b))) (hMp : Mp w b (hM hs) c) (h2 : w.cell? ⟨q2, 0, none⟩ = some (.slice a n cp)) (hR : Rd spE w (.slice a n cp) sp) (m : Mk) (hm : m.1.length ≤ 64) :
  Calls Tryz.prog 130 #[mv m, .pointer (some ⟨q1, 0, none⟩), .pointer (some ⟨q2, 0, none⟩)] w fun e w' => e = .returned (.bool (!(decide (heldN hs m.1 = 0) && inP sp m.1))) ∧ Below w.heap.size w w' := by
 obtain ⟨k, t⟩ := m
 obtain ⟨hz, hb, cl⟩ := mk_box w (k, t)
 obtain ⟨c0, c1⟩ := cl _ (Below.refl _ _)
 have g1 := (hb.cell (p := ⟨q1, 0, none⟩) (World.block_lt_of_cell? w _ h1)).trans h1
 have g2 := (hb.cell (p := ⟨q2, 0, none⟩) (World.block_lt_of_cell? w _ h2)).trans h2
 have HM1 : Hid (Mp (w.alloc (mc (k, t))) b (hM hs) c) := hMp.below hb
 have kc := in_of sp (.slice a n cp) k _ ((hR.below hb).sv)
 have hsz : (bk k).size ≤ maxLen := by rw [bk_size]; unfold maxLen; dsimp only at hm; omega
 have HA := hM_at hs k
 obtain ⟨B, HB⟩ : ∃ B, B = inP sp k := ⟨_, rfl⟩
 dsimp only [mv, mc] at *
 rw [← HB] at kc ⊢
 rw [hz] at kc
 clear cl hMp HB hR h1 h2
 by_cases h0 : heldN hs k = 0
 ·rw [h0] at HA
  rw [h0]
  have d0 : ((0 : Int) != 0) = false := rfl
  clear h0
  go_enter Tryz.func130, Tryz.ntmps130
  go_wp2_with (first | (refine wp_mp_at rfl _ _ _ _ rfl Tryz.underlying57 (zeroU64 _) _ _ _ HM1.out rfl (bk k) rfl hsz ?_; rw [HA]))
  refine kc.mono ?_
  rintro e w1 ⟨rfl, hb1⟩
  go_wp2
  go_ret
  exact ⟨by simp, hb.trans (hb1.mono (Nat.le_succ _))⟩
 ·obtain ⟨N, hN⟩ : ∃ N : Nat, N = heldN hs k := ⟨_, rfl⟩
  rw [← hN] at HA h0
  rw [← hN]
  have d0 : ((N : Int) != 0) = true := by simpa using h0
  have d1 : ((N : Int) == 0) = false := by simpa using h0
  have E : Hid ((!(decide (N = 0) && B)) = true) := by show _ = _; rw [decide_eq_false h0]; rfl
  rw [E.out]
  clear h0 kc hN
  go_enter Tryz.func130, Tryz.ntmps130
  go_wp2_with (first | (refine wp_mp_at rfl _ _ _ _ rfl Tryz.underlying57 (zeroU64 _) _ _ _ HM1.out rfl (bk k) rfl hsz ?_; rw [HA]))
  go_ret
  exact ⟨rfl, hb⟩

theorem lh1_of {w : World} {q : Nat} {a : Option Addr} {n cp : Nat} {sp : List Sp} (h2 : w.cell? ⟨q, 0, none⟩ = some (.slice a n cp)) (hR : Rd spE w (.slice a n cp) sp) (x : Hd) :
  Calls Tryz.prog 132 #[hv x, .pointer (some ⟨q, 0, none⟩)] w fun e w' => e = .returned (.bool (!inP sp x.1)) ∧ Below w.heap.size w w' := by
 obtain ⟨k, t, u⟩ := x
 obtain ⟨hz, hb, cl⟩ := hd_box w (k, t, u)
 obtain ⟨c0, c1, c2⟩ := cl _ (Below.refl _ _)
 have g2 := (hb.cell (p := ⟨q, 0, none⟩) (World.block_lt_of_cell? w _ h2)).trans h2
 have kc := in_of sp (.slice a n cp) k _ ((hR.below hb).sv)
 obtain ⟨B, HB⟩ : ∃ B, B = inP sp k := ⟨_, rfl⟩
 dsimp only [hv, hc] at *
 rw [← HB] at kc ⊢
 rw [hz] at kc
 clear cl HB hR h2
 go_enter Tryz.func132, Tryz.ntmps132
 go_wp2_with fail
 refine kc.mono ?_
 rintro e w1 ⟨rfl, hb1⟩
 go_wp2
 go_ret
 exact ⟨rfl, hb.trans (hb1.mono (Nat.le_succ _))⟩
end Go.Proofs.YtfpbgfmnjpamlaaGreat

/- mayLocks. -/
namespace Go.Proofs.YtfpbgfmnjpamlaaGreat
open Go.RowKit LeaseMath Go.Maps
set_option maxRecDepth 100000
set_option linter.unusedSimpArgs false
set_option linter.unusedVariables false

theorem all_any {α : Type} (p : α → Bool) (l : List α) : l.all p = !(l.any fun x => !p x) := (any_not p l).symm
set_option maxHeartbeats 2000000 in
theorem mayLocks_of (sp : List Sp) (sa ha ma : Sa) (hs : List Hd) (ms : List Mk) (w : World) (hS : Rd spE w (.slice sa.1 sp.length sa.2) sp) (hH : Rd holdE w (.slice ha.1 hs.length ha.2) hs) (hM_ : Rd markE w (.slice ma.1 ms.length ma.2) ms) : Calls Tryz.prog 69 #[.slice sa.1 sp.length sa.2, .slice ha.1 hs.length ha.2, .slice ma.1 ms.length ma.2] w fun e w' => e = .returned (.bool (locksB sp hs ms)) ∧ Below w.heap.size w w' := by
 obtain ⟨B, HB⟩ : ∃ B, Hid (B = locksB sp hs ms) := ⟨_, rfl⟩
 rw [← HB.out]
 obtain ⟨hz, hb, cl⟩ := box_all w #[.slice sa.1 sp.length sa.2] 22
 have BW : ∀ W, Below (w.heap.size + 1) (w.alloc (.cells #[.slice sa.1 sp.length sa.2] 22)) W → Below w.heap.size w W := fun W hW => hb.trans (hW.mono (Nat.le_succ _))
 have c0 := cl _ (Below.refl _ _) 0 _ rfl
 have hsz : w.heap.size + 1 ≤ (w.alloc (.cells #[.slice sa.1 sp.length sa.2] 22)).heap.size := by omega
 have K1 := checkh_of (hH.below hb)
 rw [hz] at K1
 have k2 := fun W (hW : Below w.heap.size w W) => checkm_of (hM_.below hW)
 have k3 := fun (h : mayB holdB hs = true) W (hW : Below w.heap.size w W) => holders_of hs (.slice ha.1 hs.length ha.2) W (hH.below hW) h
 have k4 : Hid (∀ (hm : mayB markB ms = true) (W : World) (b q : Nat) (c : Nat), Below (w.heap.size + 1) (w.alloc (.cells #[.slice sa.1 sp.length sa.2] 22)) W → W.cell? ⟨q, 0, none⟩ = some (.map (some b)) → Mp W b (hM hs) c → Calls Tryz.prog 129 #[.slice ma.1 ms.length ma.2, .func (.func 130) #[] #[.pointer (some ⟨q, 0, none⟩), .pointer (some ⟨w.heap.size, 0, none⟩)]] W fun e w' => e = .returned (.bool (ms.any fun m => !(decide (heldN hs m.1 = 0) && inP sp m.1))) ∧ Below W.heap.size W w') := fun hm W b q c hW hq hMp => by
  have hmm := may_iff.1 hm
  refine anyMarks_of _ ms _ _ _ W (hM_.below (BW W hW)) (by omega) fun m W' hmem hW' => ?_
  have hq' := (hW'.cell (p := ⟨q, 0, none⟩) (World.block_lt_of_cell? W _ hq)).trans hq
  have hW2 := hW.trans (hW'.mono (by have := hW.size; omega))
  exact lm1_of hq' (hMp.below hW') (cl W' hW2 0 _ rfl) (hS.below (BW W' hW2)) m (mark_iff.1 (hmm.2.1 m hmem)).1
 have k5 : Hid (∀ (hm : mayB holdB hs = true) (W : World), Below (w.heap.size + 1) (w.alloc (.cells #[.slice sa.1 sp.length sa.2] 22)) W → Calls Tryz.prog 131 #[.slice ha.1 hs.length ha.2, .func (.func 132) #[] #[.pointer (some ⟨w.heap.size, 0, none⟩)]] W fun e w' => e = .returned (.bool (hs.any fun x => !inP sp x.1)) ∧ Below W.heap.size W w') := fun hm W hW => by
  have hmm := may_iff.1 hm
  refine anyHolds_of (fun x => !inP sp x.1) hs _ _ W (hH.below (BW W hW)) (by omega) fun x W' hmem hW' => ?_
  have hW2 := hW.trans (hW'.mono (by have := hW.size; omega))
  exact lh1_of (cl W' hW2 0 _ rfl) (hS.below (BW W' hW2)) x
 clear hS hH hM_
 cases h1 : mayB holdB hs with
 | false =>
  have E : Hid (B = false) := by show _ = _; rw [HB.out]; unfold locksB; rw [h1]; rfl
  rw [h1] at K1
  simp only [Bool.false_eq_true, if_false] at K1
  clear HB h1 k2 k3 k4 k5
  go_enter Tryz.func69, Tryz.ntmps69
  go_wp2_with fail
  refine K1.mono ?_
  rintro e w1 ⟨rfl, hb1⟩
  go_wp2
  go_ret
  exact ⟨by rw [E.out]; rfl, BW _ hb1⟩
 | true =>
  rw [h1] at K1
  simp only [if_true] at K1
  have k3' := k3 h1
  have k5' : Hid _ := k5.out h1
  clear k3 k5
  cases h2 : mayB markB ms with
  | false =>
   have E : Hid (B = false) := by show _ = _; rw [HB.out]; unfold locksB; rw [h2]; simp
   rw [h2] at k2
   simp only [Bool.false_eq_true, if_false] at k2
   clear HB h1 h2 k3' k4 k5'
   go_enter Tryz.func69, Tryz.ntmps69
   go_wp2_with fail
   refine K1.mono ?_
   rintro e w1 ⟨rfl, hb1⟩
   have K2 := k2 w1 (BW _ hb1)
   clear k2
   go_wp2_with fail
   refine K2.mono ?_
   rintro e w2 ⟨rfl, hb2⟩
   go_wp2
   go_ret
   exact ⟨by rw [E.out]; rfl, keep_step (BW _ hb1) (Nat.le_refl _) hb2⟩
  | true =>
   rw [h2] at k2
   simp only [if_true] at k2
   have k4' : Hid _ := k4.out h2
   have E : Hid (B = ((!(ms.any fun m => !(decide (heldN hs m.1 = 0) && inP sp m.1))) && !(hs.any fun x => !inP sp x.1))) := by show _ = _; rw [HB.out]; unfold locksB; rw [h1, h2, all_any, all_any]; rfl
   clear HB h1 h2 k4
   generalize (ms.any fun m => !(decide (heldN hs m.1 = 0) && inP sp m.1)) = AM at *
   generalize (hs.any fun x => !inP sp x.1) = AH at *
   go_enter Tryz.func69, Tryz.ntmps69
   go_wp2_with fail
   refine K1.mono ?_
   rintro e w1 ⟨rfl, hb1⟩
   have K2 := k2 w1 (BW _ hb1)
   clear k2
   go_wp2_with fail
   refine K2.mono ?_
   rintro e w2 ⟨rfl, hb2⟩
   have hb2' := keep_step hb1 hsz hb2
   have K3 := k3' w2 (BW _ hb2')
   clear k3' K1 K2
   go_wp2_with fail
   refine K3.mono ?_
   rintro e w3 ⟨⟨b, rfl, hbn, hMp⟩, hb3⟩
   have hb3' := keep_step hb2' hsz hb3
   obtain ⟨hz4, hb4, cl4⟩ := box_all w3 #[.map (some b)] 57
   have d0 := cl4 _ (Below.refl _ _) 0 _ rfl
   have hb4' := keep_step hb3' hsz hb4
   have K4 := k4'.out _ b w3.heap.size hs.length hb4' d0 (hMp.below hb4)
   have hsz4 : w.heap.size + 1 ≤ (w3.alloc (.cells #[.map (some b)] 57)).heap.size := Nat.le_trans hsz hb4'.size
   clear k4' cl4 K3 hMp hbn
   go_wp2_with fail
   refine K4.mono ?_
   rintro e w5 ⟨rfl, hb5⟩
   have hb5' := keep_step hb4' hsz hb5
   have K5 := k5'.out w5 hb5'
   clear k5' K4
   cases AM with
   | true =>
    go_wp2
    go_ret
    exact ⟨by rw [E.out]; rfl, BW _ hb5'⟩
   | false =>
    go_wp2_with fail
    refine K5.mono ?_
    rintro e w6 ⟨rfl, hb6⟩
    go_wp2
    go_ret
    exact ⟨by rw [E.out]; first | rfl | simp, BW _ (keep_step hb5' hsz hb6)⟩
end Go.Proofs.YtfpbgfmnjpamlaaGreat

/- mayIntents. -/
namespace Go.Proofs.YtfpbgfmnjpamlaaGreat
open Go.RowKit LeaseMath
set_option maxRecDepth 100000
set_option linter.unusedSimpArgs false
set_option linter.unusedVariables false

set_option maxHeartbeats 4000000 in
theorem mayIntents_of (z : Tz) (w : World) (hR : TbR w z) (hlen : z.t.ints.length ≤ 1000000000) : Calls Tryz.prog 94 #[tv z] w fun e w' => e = .returned (.bool (intsB z.t.spans z.t.ints)) ∧ Below w.heap.size w w' := by
 obtain ⟨B, HB⟩ : ∃ B, Hid (B = intsB z.t.spans z.t.ints) := ⟨_, rfl⟩
 rw [← HB.out]
 obtain ⟨hs, hb, cl⟩ := tb_box w z
 have BW : Hid (∀ W, Below (w.heap.size + 1) (w.alloc (tc z)) W → Below w.heap.size w W) := fun W hW => hb.trans (hW.mono (Nat.le_succ _))
 have hsz : Hid (w.heap.size + 1 ≤ (w.alloc (tc z)).heap.size) := by show _ ≤ _; omega
 have hS : Hid (Rd spE w (.slice z.s.1 z.t.spans.length z.s.2) z.t.spans) := hR.1
 have hI : Hid (Rd itE w (.slice z.i.1 z.t.ints.length z.i.2) z.t.ints) := hR.2.2.2.2
 obtain ⟨⟨nw, sp, fr, hs_, ms, is⟩, ⟨sa, sc⟩, ⟨fa, fc⟩, ⟨ha, hc⟩, ⟨ma, mc⟩, ⟨ia, ic_⟩⟩ := z
 dsimp only [tv, tc] at *
 obtain ⟨e0, e1, e2, e3, e4, e5⟩ := cl _ (Below.refl _ _)
 have HP0 : Hid (B = walk (intB sp) (prev is 0) (is.drop 0)) := HB.out
 clear HB hR hb hs
 go_enter Tryz.func94, Tryz.ntmps94
 go_wp2
 generalize w.alloc (.cells #[.int .i64 nw, .slice sa sp.length sc, .slice fa fr.length fc, .slice ha hs_.length hc, .slice ma ms.length mc, .slice ia is.length ic_] 27) = w0 at *
 go_loopg [8] is.length (fun g s8 wr => ∃ i : Nat, i + g = is.length ∧ s8 = .int .i64 (i : Int) ∧ Below (w.heap.size + 1) w0 wr ∧ Hid (B = walk (intB sp) (prev is i) (is.drop i)))
 case atStart => exact ⟨0, by omega, rfl, Below.refl _ _, HP0⟩
 case round =>
  obtain ⟨i, hig, rfl, hbr, HP⟩ := hrel
  clear HP0 e0 e1 e2 e3 e4 e5
  by_cases hlt : i < is.length
  ·have hlti : (i : Int) < (is.length : Int) := by omega
   have hx : is[i]? = some is[i] := List.getElem?_eq_getElem hlt
   obtain ⟨x, hxx⟩ : ∃ x, x = is[i] := ⟨_, rfl⟩
   rw [← hxx] at hx
   clear hxx
   obtain ⟨b, off, ea, cc⟩ := rdx_at hI.out hx
   subst ea
   obtain ⟨a0, a1, a2, a3, a4, a5⟩ := cc wr (BW.out wr hbr)
   obtain ⟨hsx, hbx, clx⟩ := it_box wr x
   have HA := walk_at (ok := intB sp) (p := prev is i) hx
   have hxH : Hid (is[i]? = some x) := hx
   obtain ⟨k, ⟨c, q⟩, kd, tk, tt⟩ := x
   dsimp only [ic] at *
   have hszx : Hid (wr.heap.size + 1 ≤ (wr.alloc (.cells #[.string (bk k), .int .i64 c, .int .u64 (q : Int), .int .i64 kd, .int .u64 (tk : Int), .int .i64 tt] 63)).heap.size) := by show _ ≤ _; omega
   have BX : Hid (∀ W, Below (wr.heap.size + 1) (wr.alloc (.cells #[.string (bk k), .int .i64 c, .int .u64 (q : Int), .int .i64 kd, .int .u64 (tk : Int), .int .i64 tt] 63)) W → Below (w.heap.size + 1) w0 W) := fun W hW => (keep_step hbr hsz.out hbx).trans (hW.mono (Nat.le_trans (Nat.le_trans hsz.out hbr.size) (Nat.le_succ _)))
   have clT : ∀ W, Below (w.heap.size + 1) w0 W → _ := cl
   have kin : Hid (∀ W, Below w.heap.size w W → Calls Tryz.prog 88 #[.slice sa sp.length sc, .string (bk k)] W fun e w' => e = .returned (.bool (inP sp k)) ∧ Below W.heap.size W w') := fun W hW => in_of sp _ k W ((hS.out.below hW).sv)
   obtain ⟨d0, d1, d2, d3, d4, d5⟩ := clx _ (Below.refl _ _)
   obtain ⟨c0, c1, c2, c3, c4, c5⟩ := clT _ (BX.out _ (Below.refl _ _))
   clear hsx hbx cc hx
   have EI : Hid (intB sp (k, (c, q), kd, tk, tt) = (idB (c, q) && turnB kd tt && decide (tk ≠ 0) && inP sp k)) := rfl
   cases hi : idB (c, q) with
   | false =>
    have E : Hid (B = false) := by show _ = _; rw [HP.out, HA, EI.out, hi]; simp
    clear HP HA EI hxH
    go_wp2_with fail
    refine (mayId_of (c, q) _).mono ?_
    rintro e w1 ⟨rfl, hb1⟩
    rw [hi]
    have hx1 := keep_step (Below.refl (wr.heap.size + 1) (wr.alloc (.cells #[.string (bk k), .int .i64 c, .int .u64 (q : Int), .int .i64 kd, .int .u64 (tk : Int), .int .i64 tt] 63))) hszx.out hb1
    obtain ⟨d0, d1, d2, d3, d4, d5⟩ := clx w1 hx1
    obtain ⟨c0, c1, c2, c3, c4, c5⟩ := clT w1 (BX.out w1 hx1)
    go_wp2
    go_ret
    exact ⟨by rw [E.out]; rfl, BW.out _ (BX.out _ hx1)⟩
   | true =>
    cases ht : turnB kd tt with
    | false =>
     have E : Hid (B = false) := by show _ = _; rw [HP.out, HA, EI.out, ht]; simp
     clear HP HA EI hxH
     go_wp2_with fail
     refine (mayId_of (c, q) _).mono ?_
     rintro e w1 ⟨rfl, hb1⟩
     rw [hi]
     have hx1 := keep_step (Below.refl (wr.heap.size + 1) (wr.alloc (.cells #[.string (bk k), .int .i64 c, .int .u64 (q : Int), .int .i64 kd, .int .u64 (tk : Int), .int .i64 tt] 63))) hszx.out hb1
     obtain ⟨d0, d1, d2, d3, d4, d5⟩ := clx w1 hx1
     obtain ⟨c0, c1, c2, c3, c4, c5⟩ := clT w1 (BX.out w1 hx1)
     go_wp2_with fail
     refine (mayTurn_of kd tt _).mono ?_
     rintro e w1' ⟨rfl, hw1'⟩
     subst hw1'
     rw [ht]
     go_wp2
     go_ret
     exact ⟨by rw [E.out]; rfl, BW.out _ (BX.out _ hx1)⟩
    | true =>
     by_cases h0 : tk = 0
     ·have E : Hid (B = false) := by show _ = _; rw [HP.out, HA, EI.out, h0]; simp
      have h0d : ((tk : Int) == 0) = true := by simpa using h0
      clear HP HA EI hxH h0
      go_wp2_with fail
      refine (mayId_of (c, q) _).mono ?_
      rintro e w1 ⟨rfl, hb1⟩
      rw [hi]
      have hx1 := keep_step (Below.refl (wr.heap.size + 1) (wr.alloc (.cells #[.string (bk k), .int .i64 c, .int .u64 (q : Int), .int .i64 kd, .int .u64 (tk : Int), .int .i64 tt] 63))) hszx.out hb1
      obtain ⟨d0, d1, d2, d3, d4, d5⟩ := clx w1 hx1
      obtain ⟨c0, c1, c2, c3, c4, c5⟩ := clT w1 (BX.out w1 hx1)
      go_wp2_with fail
      refine (mayTurn_of kd tt _).mono ?_
      rintro e w1' ⟨rfl, hw1'⟩
      subst hw1'
      rw [ht]
      go_wp2
      go_ret
      exact ⟨by rw [E.out]; rfl, BW.out _ (BX.out _ hx1)⟩
     ·have h0d : ((tk : Int) == 0) = false := by simpa using h0
      cases hin : inP sp k with
      | false =>
       have E : Hid (B = false) := by show _ = _; rw [HP.out, HA, EI.out, hin]; simp
       clear HP HA EI hxH h0
       go_wp2_with fail
       refine (mayId_of (c, q) _).mono ?_
       rintro e w1 ⟨rfl, hb1⟩
       rw [hi]
       have hx1 := keep_step (Below.refl (wr.heap.size + 1) (wr.alloc (.cells #[.string (bk k), .int .i64 c, .int .u64 (q : Int), .int .i64 kd, .int .u64 (tk : Int), .int .i64 tt] 63))) hszx.out hb1
       obtain ⟨d0, d1, d2, d3, d4, d5⟩ := clx w1 hx1
       obtain ⟨c0, c1, c2, c3, c4, c5⟩ := clT w1 (BX.out w1 hx1)
       go_wp2_with fail
       refine (mayTurn_of kd tt _).mono ?_
       rintro e w1' ⟨rfl, hw1'⟩
       subst hw1'
       rw [ht]
       go_wp2_with fail
       refine (kin.out w1' (BW.out w1' (BX.out w1' hx1))).mono ?_
       rintro e w2 ⟨rfl, hb2⟩
       rw [hin]
       have hx2 := keep_step hx1 hszx.out hb2
       obtain ⟨d0, d1, d2, d3, d4, d5⟩ := clx w2 hx2
       obtain ⟨c0, c1, c2, c3, c4, c5⟩ := clT w2 (BX.out w2 hx2)
       go_wp2
       go_ret
       exact ⟨by rw [E.out]; rfl, BW.out _ (BX.out _ hx2)⟩
      | true =>
       have HA2 : Hid (B = (lnk (prev is i) (k, (c, q), kd, tk, tt) && walk (intB sp) (some (k, (c, q), kd, tk, tt)) (is.drop (i + 1)))) := by show _ = _; rw [HP.out, HA, EI.out, hi, ht, hin, decide_eq_true h0]; simp
       have HN : Hid (prev is (i + 1) = some (k, (c, q), kd, tk, tt)) := prev_succ hxH.out
       clear HP HA EI h0
       by_cases hi0 : i = 0
       ·have HR : Hid (B = walk (intB sp) (prev is (i + 1)) (is.drop (i + 1))) := by show _ = _; rw [HA2.out, HN.out]; simp [hi0, prev, lnk]
        have HI0 : Hid (i = 0) := hi0
        have HZ : Hid ((i : Int) = 0) := by show _ = _; omega
        clear HA2 HN hi0
        go_wp2_with fail
        refine (mayId_of (c, q) _).mono ?_
        rintro e w1 ⟨rfl, hb1⟩
        rw [hi]
        have hx1 := keep_step (Below.refl (wr.heap.size + 1) (wr.alloc (.cells #[.string (bk k), .int .i64 c, .int .u64 (q : Int), .int .i64 kd, .int .u64 (tk : Int), .int .i64 tt] 63))) hszx.out hb1
        obtain ⟨d0, d1, d2, d3, d4, d5⟩ := clx w1 hx1
        obtain ⟨c0, c1, c2, c3, c4, c5⟩ := clT w1 (BX.out w1 hx1)
        go_wp2_with fail
        refine (mayTurn_of kd tt _).mono ?_
        rintro e w1' ⟨rfl, hw1'⟩
        subst hw1'
        rw [ht]
        go_wp2_with fail
        refine (kin.out w1' (BW.out w1' (BX.out w1' hx1))).mono ?_
        rintro e w2 ⟨rfl, hb2⟩
        rw [hin]
        have hx2 := keep_step hx1 hszx.out hb2
        obtain ⟨d0, d1, d2, d3, d4, d5⟩ := clx w2 hx2
        obtain ⟨c0, c1, c2, c3, c4, c5⟩ := clT w2 (BX.out w2 hx2)
        go_wp2
        rw [HZ.out]
        refine wp_region_L (fun W => (W.cell? ⟨w.heap.size, 5, none⟩ = some (.slice (some ⟨b, off, none⟩) is.length ic_) ∧ W.cell? ⟨wr.heap.size, 0, none⟩ = some (.string (bk k))) ∧ Below (wr.heap.size + 1) (wr.alloc (.cells #[.string (bk k), .int .i64 c, .int .u64 (q : Int), .int .i64 kd, .int .u64 (tk : Int), .int .i64 tt] 63)) W) [] (by kernel_rfl) ?_
        have yS : (fun W => (W.cell? ⟨w.heap.size, 5, none⟩ = some (.slice (some ⟨b, off, none⟩) is.length ic_) ∧ W.cell? ⟨wr.heap.size, 0, none⟩ = some (.string (bk k))) ∧ Below (wr.heap.size + 1) (wr.alloc (.cells #[.string (bk k), .int .i64 c, .int .u64 (q : Int), .int .i64 kd, .int .u64 (tk : Int), .int .i64 tt] 63)) W) w2.drew := ⟨⟨(clT _ (BX.out _ hx2.drew)).2.2.2.2.2, (clx _ hx2.drew).1⟩, hx2.drew⟩
        refine tkg 0 rfl (by intro w' hS'; obtain ⟨⟨x0, x1⟩, xb⟩ := hS'; go_simp <;> rfl) yS ?_
        try simp only [pa, pb, pc, Act.put, pd, pe, pf]
        refine tkg 1 rfl (by intro w' hS'; obtain ⟨⟨x0, x1⟩, xb⟩ := hS'; go_simp <;> rfl) yS ?_
        try simp only [pa, pb, pc, Act.put, pd, pe, pf]
        refine tkg 2 rfl (by intro w' hS'; obtain ⟨⟨x0, x1⟩, xb⟩ := hS'; go_simp <;> rfl) yS ?_
        try simp only [pa, pb, pc, Act.put, pd, pe, pf]
        refine skg 3 rfl yS ?_
        try simp only [pa, pb, pc, Act.put, pd, pe, pf]
        refine skg 4 rfl yS ?_
        try simp only [pa, pb, pc, Act.put, pd, pe, pf]
        refine skg 5 rfl yS ?_
        try simp only [pa, pb, pc, Act.put, pd, pe, pf]
        refine skg 6 rfl yS ?_
        try simp only [pa, pb, pc, Act.put, pd, pe, pf]
        refine skg 7 rfl yS ?_
        try simp only [pa, pb, pc, Act.put, pd, pe, pf]
        refine skg 8 rfl yS ?_
        try simp only [pa, pb, pc, Act.put, pd, pe, pf]
        refine skg 9 rfl yS ?_
        try simp only [pa, pb, pc, Act.put, pd, pe, pf]
        refine skg 10 rfl yS ?_
        try simp only [pa, pb, pc, Act.put, pd, pe, pf]
        refine skg 11 rfl yS ?_
        try simp only [pa, pb, pc, Act.put, pd, pe, pf]
        refine skg 12 rfl yS ?_
        try simp only [pa, pb, pc, Act.put, pd, pe, pf]
        refine tkg 13 rfl (by intro w' hS'; obtain ⟨⟨x0, x1⟩, xb⟩ := hS'; go_simp <;> rfl) yS ?_
        try simp only [pa, pb, pc, Act.put, pd, pe, pf]
        refine wpAnyL_done (by kernel_rfl) (NoPanic.normal ?_) _

        go_wp2
        go_roundg (gk - 1)
        case measure => omega
        case rel => exact ⟨i + 1, by omega, by rw [HI0.out]; rfl, BX.out _ yS.2, HR⟩
       ·have hip : (0 : Int) < (i : Int) := by omega
        have hy : is[i - 1]? = some is[i - 1] := List.getElem?_eq_getElem (by omega)
        obtain ⟨y, hyy⟩ : ∃ y, y = is[i - 1] := ⟨_, rfl⟩
        rw [← hyy] at hy
        clear hyy
        have HV : Hid (prev is i = some y) := by show _ = _; unfold prev; rw [if_neg hi0]; exact hy
        obtain ⟨b', off', ea, cy⟩ := rdx_at hI.out hy
        cases ea
        have cy0 := fun W hW => (cy W hW).1
        have hin0 : 0 < i := by omega
        have hi1 : (1 : Int) ≤ (i : Int) := by omega
        have hi1n : 1 ≤ i := by omega
        have hipd : decide ((0 : Int) < (i : Int)) = true := decide_eq_true hip
        have j1 : IntKind.i64.wrap ((i : Int) - 1) = (i : Int) - 1 := IntWalk.i64_in _ (by omega)
        have j2 : (0 : Int) ≤ (i : Int) - 1 := by omega
        have j3 : (i : Int) - 1 < (is.length : Int) := by omega
        have j4 : ((i : Int) - 1).toNat = i - 1 := by omega
        have HL : Hid (lnk (prev is i) (k, (c, q), kd, tk, tt) = decide (y.1 < k)) := by show _ = _; rw [HV.out]; rfl
        obtain ⟨yk, yr⟩ := y
        dsimp only at cy0
        clear cy hy HV
        by_cases hyk : yk < k
        ·have hge : decide (k ≤ yk) = false := decide_eq_false (by grind)
         have HR : Hid (B = walk (intB sp) (prev is (i + 1)) (is.drop (i + 1))) := by show _ = _; rw [HA2.out, HN.out, HL.out, decide_eq_true hyk]; rfl
         clear HA2 HN HL hyk
         go_wp2_with fail
         refine (mayId_of (c, q) _).mono ?_
         rintro e w1 ⟨rfl, hb1⟩
         rw [hi]
         have hx1 := keep_step (Below.refl (wr.heap.size + 1) (wr.alloc (.cells #[.string (bk k), .int .i64 c, .int .u64 (q : Int), .int .i64 kd, .int .u64 (tk : Int), .int .i64 tt] 63))) hszx.out hb1
         obtain ⟨d0, d1, d2, d3, d4, d5⟩ := clx w1 hx1
         obtain ⟨c0, c1, c2, c3, c4, c5⟩ := clT w1 (BX.out w1 hx1)
         go_wp2_with fail
         refine (mayTurn_of kd tt _).mono ?_
         rintro e w1' ⟨rfl, hw1'⟩
         subst hw1'
         rw [ht]
         go_wp2_with fail
         refine (kin.out w1' (BW.out w1' (BX.out w1' hx1))).mono ?_
         rintro e w2 ⟨rfl, hb2⟩
         rw [hin]
         have hx2 := keep_step hx1 hszx.out hb2
         obtain ⟨d0, d1, d2, d3, d4, d5⟩ := clx w2 hx2
         obtain ⟨c0, c1, c2, c3, c4, c5⟩ := clT w2 (BX.out w2 hx2)
         go_wp2
         refine wp_region_L (fun W => (W.cell? ⟨w.heap.size, 5, none⟩ = some (.slice (some ⟨b, off, none⟩) is.length ic_) ∧ W.cell? ⟨wr.heap.size, 0, none⟩ = some (.string (bk k)) ∧ W.cell? ⟨b, off + (i - 1) * 6, none⟩ = some (.string (bk yk))) ∧ Below (wr.heap.size + 1) (wr.alloc (.cells #[.string (bk k), .int .i64 c, .int .u64 (q : Int), .int .i64 kd, .int .u64 (tk : Int), .int .i64 tt] 63)) W) [] (by kernel_rfl) ?_
         have yS : (fun W => (W.cell? ⟨w.heap.size, 5, none⟩ = some (.slice (some ⟨b, off, none⟩) is.length ic_) ∧ W.cell? ⟨wr.heap.size, 0, none⟩ = some (.string (bk k)) ∧ W.cell? ⟨b, off + (i - 1) * 6, none⟩ = some (.string (bk yk))) ∧ Below (wr.heap.size + 1) (wr.alloc (.cells #[.string (bk k), .int .i64 c, .int .u64 (q : Int), .int .i64 kd, .int .u64 (tk : Int), .int .i64 tt] 63)) W) w2.drew := ⟨⟨(clT _ (BX.out _ hx2.drew)).2.2.2.2.2, (clx _ hx2.drew).1, cy0 _ (BW.out _ (BX.out _ hx2.drew))⟩, hx2.drew⟩
         refine tkg 0 rfl (by intro w' hS'; obtain ⟨⟨x0, x1, x2⟩, xb⟩ := hS'; go_simp <;> rfl) yS ?_
         try simp only [pa, pb, pc, Act.put, pd, pe, pf]
         refine tkg 1 rfl (by intro w' hS'; obtain ⟨⟨x0, x1, x2⟩, xb⟩ := hS'; go_simp <;> rfl) yS ?_
         try simp only [pa, pb, pc, Act.put, pd, pe, pf]
         refine tkg 2 rfl (by intro w' hS'; obtain ⟨⟨x0, x1, x2⟩, xb⟩ := hS'; go_simp <;> rfl) yS ?_
         try simp only [pa, pb, pc, Act.put, pd, pe, pf]
         refine tkg 3 rfl (by intro w' hS'; obtain ⟨⟨x0, x1, x2⟩, xb⟩ := hS'; go_simp <;> rfl) yS ?_
         try simp only [pa, pb, pc, Act.put, pd, pe, pf]
         refine tkg 4 rfl (by intro w' hS'; obtain ⟨⟨x0, x1, x2⟩, xb⟩ := hS'; go_simp <;> rfl) yS ?_
         try simp only [pa, pb, pc, Act.put, pd, pe, pf]
         refine tkg 5 rfl (by intro w' hS'; obtain ⟨⟨x0, x1, x2⟩, xb⟩ := hS'; go_simp <;> rfl) yS ?_
         try simp only [pa, pb, pc, Act.put, pd, pe, pf]
         refine tkg 6 rfl (by intro w' hS'; obtain ⟨⟨x0, x1, x2⟩, xb⟩ := hS'; go_simp <;> rfl) yS ?_
         try simp only [pa, pb, pc, Act.put, pd, pe, pf]
         refine tkg 7 rfl (by intro w' hS'; obtain ⟨⟨x0, x1, x2⟩, xb⟩ := hS'; go_simp <;> rfl) yS ?_
         try simp only [pa, pb, pc, Act.put, pd, pe, pf]
         refine tkg 8 rfl (by intro w' hS'; obtain ⟨⟨x0, x1, x2⟩, xb⟩ := hS'; go_simp <;> rfl) yS ?_
         try simp only [pa, pb, pc, Act.put, pd, pe, pf]
         refine tkg 9 rfl (by intro w' hS'; obtain ⟨⟨x0, x1, x2⟩, xb⟩ := hS'; go_simp <;> rfl) yS ?_
         try simp only [pa, pb, pc, Act.put, pd, pe, pf]
         refine tkg 10 rfl (by intro w' hS'; obtain ⟨⟨x0, x1, x2⟩, xb⟩ := hS'; go_simp <;> rfl) yS ?_
         try simp only [pa, pb, pc, Act.put, pd, pe, pf]
         refine tkg 11 rfl (by intro w' hS'; obtain ⟨⟨x0, x1, x2⟩, xb⟩ := hS'; go_simp <;> rfl) yS ?_
         try simp only [pa, pb, pc, Act.put, pd, pe, pf]
         refine tkg 12 rfl (by intro w' hS'; obtain ⟨⟨x0, x1, x2⟩, xb⟩ := hS'; go_simp <;> rfl) yS ?_
         try simp only [pa, pb, pc, Act.put, pd, pe, pf]
         refine tkg 13 rfl (by intro w' hS'; obtain ⟨⟨x0, x1, x2⟩, xb⟩ := hS'; go_simp <;> rfl) yS ?_
         try simp only [pa, pb, pc, Act.put, pd, pe, pf]
         refine wpAnyL_done (by kernel_rfl) (NoPanic.normal ?_) _

         go_wp2
         go_roundg (gk - 1)
         case measure => omega
         case rel => exact ⟨i + 1, by omega, by go_num, BX.out _ yS.2, HR⟩
        ·have hge : decide (k ≤ yk) = true := decide_eq_true (by grind)
         have E : Hid (B = false) := by show _ = _; rw [HA2.out, HL.out, decide_eq_false hyk]; rfl
         clear HA2 HN HL hyk
         go_wp2_with fail
         refine (mayId_of (c, q) _).mono ?_
         rintro e w1 ⟨rfl, hb1⟩
         rw [hi]
         have hx1 := keep_step (Below.refl (wr.heap.size + 1) (wr.alloc (.cells #[.string (bk k), .int .i64 c, .int .u64 (q : Int), .int .i64 kd, .int .u64 (tk : Int), .int .i64 tt] 63))) hszx.out hb1
         obtain ⟨d0, d1, d2, d3, d4, d5⟩ := clx w1 hx1
         obtain ⟨c0, c1, c2, c3, c4, c5⟩ := clT w1 (BX.out w1 hx1)
         go_wp2_with fail
         refine (mayTurn_of kd tt _).mono ?_
         rintro e w1' ⟨rfl, hw1'⟩
         subst hw1'
         rw [ht]
         go_wp2_with fail
         refine (kin.out w1' (BW.out w1' (BX.out w1' hx1))).mono ?_
         rintro e w2 ⟨rfl, hb2⟩
         rw [hin]
         have hx2 := keep_step hx1 hszx.out hb2
         obtain ⟨d0, d1, d2, d3, d4, d5⟩ := clx w2 hx2
         obtain ⟨c0, c1, c2, c3, c4, c5⟩ := clT w2 (BX.out w2 hx2)
         go_wp2
         refine wp_region_L (fun W => (W.cell? ⟨w.heap.size, 5, none⟩ = some (.slice (some ⟨b, off, none⟩) is.length ic_) ∧ W.cell? ⟨wr.heap.size, 0, none⟩ = some (.string (bk k)) ∧ W.cell? ⟨b, off + (i - 1) * 6, none⟩ = some (.string (bk yk))) ∧ Below (wr.heap.size + 1) (wr.alloc (.cells #[.string (bk k), .int .i64 c, .int .u64 (q : Int), .int .i64 kd, .int .u64 (tk : Int), .int .i64 tt] 63)) W) [] (by kernel_rfl) ?_
         have yS : (fun W => (W.cell? ⟨w.heap.size, 5, none⟩ = some (.slice (some ⟨b, off, none⟩) is.length ic_) ∧ W.cell? ⟨wr.heap.size, 0, none⟩ = some (.string (bk k)) ∧ W.cell? ⟨b, off + (i - 1) * 6, none⟩ = some (.string (bk yk))) ∧ Below (wr.heap.size + 1) (wr.alloc (.cells #[.string (bk k), .int .i64 c, .int .u64 (q : Int), .int .i64 kd, .int .u64 (tk : Int), .int .i64 tt] 63)) W) w2.drew := ⟨⟨(clT _ (BX.out _ hx2.drew)).2.2.2.2.2, (clx _ hx2.drew).1, cy0 _ (BW.out _ (BX.out _ hx2.drew))⟩, hx2.drew⟩
         refine tkg 0 rfl (by intro w' hS'; obtain ⟨⟨x0, x1, x2⟩, xb⟩ := hS'; go_simp <;> rfl) yS ?_
         try simp only [pa, pb, pc, Act.put, pd, pe, pf]
         refine tkg 1 rfl (by intro w' hS'; obtain ⟨⟨x0, x1, x2⟩, xb⟩ := hS'; go_simp <;> rfl) yS ?_
         try simp only [pa, pb, pc, Act.put, pd, pe, pf]
         refine tkg 2 rfl (by intro w' hS'; obtain ⟨⟨x0, x1, x2⟩, xb⟩ := hS'; go_simp <;> rfl) yS ?_
         try simp only [pa, pb, pc, Act.put, pd, pe, pf]
         refine tkg 3 rfl (by intro w' hS'; obtain ⟨⟨x0, x1, x2⟩, xb⟩ := hS'; go_simp <;> rfl) yS ?_
         try simp only [pa, pb, pc, Act.put, pd, pe, pf]
         refine tkg 4 rfl (by intro w' hS'; obtain ⟨⟨x0, x1, x2⟩, xb⟩ := hS'; go_simp <;> rfl) yS ?_
         try simp only [pa, pb, pc, Act.put, pd, pe, pf]
         refine tkg 5 rfl (by intro w' hS'; obtain ⟨⟨x0, x1, x2⟩, xb⟩ := hS'; go_simp <;> rfl) yS ?_
         try simp only [pa, pb, pc, Act.put, pd, pe, pf]
         refine tkg 6 rfl (by intro w' hS'; obtain ⟨⟨x0, x1, x2⟩, xb⟩ := hS'; go_simp <;> rfl) yS ?_
         try simp only [pa, pb, pc, Act.put, pd, pe, pf]
         refine tkg 7 rfl (by intro w' hS'; obtain ⟨⟨x0, x1, x2⟩, xb⟩ := hS'; go_simp <;> rfl) yS ?_
         try simp only [pa, pb, pc, Act.put, pd, pe, pf]
         refine tkg 8 rfl (by intro w' hS'; obtain ⟨⟨x0, x1, x2⟩, xb⟩ := hS'; go_simp <;> rfl) yS ?_
         try simp only [pa, pb, pc, Act.put, pd, pe, pf]
         refine tkg 9 rfl (by intro w' hS'; obtain ⟨⟨x0, x1, x2⟩, xb⟩ := hS'; go_simp <;> rfl) yS ?_
         try simp only [pa, pb, pc, Act.put, pd, pe, pf]
         refine tkg 10 rfl (by intro w' hS'; obtain ⟨⟨x0, x1, x2⟩, xb⟩ := hS'; go_simp <;> rfl) yS ?_
         try simp only [pa, pb, pc, Act.put, pd, pe, pf]
         refine tkg 11 rfl (by intro w' hS'; obtain ⟨⟨x0, x1, x2⟩, xb⟩ := hS'; go_simp <;> rfl) yS ?_
         try simp only [pa, pb, pc, Act.put, pd, pe, pf]
         refine tkg 12 rfl (by intro w' hS'; obtain ⟨⟨x0, x1, x2⟩, xb⟩ := hS'; go_simp <;> rfl) yS ?_
         try simp only [pa, pb, pc, Act.put, pd, pe, pf]
         refine tkg 13 rfl (by intro w' hS'; obtain ⟨⟨x0, x1, x2⟩, xb⟩ := hS'; go_simp <;> rfl) yS ?_
         try simp only [pa, pb, pc, Act.put, pd, pe, pf]
         refine wpAnyL_done (by kernel_rfl) (NoPanic.normal ?_) _

         go_wp2
         go_ret
         exact ⟨by rw [E.out]; rfl, BW.out _ (BX.out _ yS.2)⟩
  ·have hlti : ¬ (i : Int) < (is.length : Int) := by omega
   have E : Hid (B = true) := by show _ = _; rw [HP.out]; exact walk_end (by omega)
   clear HP
   go_wp2
   go_ret
   exact ⟨by rw [E.out]; rfl, BW.out _ hbr⟩
end Go.Proofs.YtfpbgfmnjpamlaaGreat

/- Check, mayKeys, CheckCall of table. -/
namespace Go.Proofs.YtfpbgfmnjpamlaaGreat
open Go.RowKit LeaseMath
set_option maxRecDepth 100000
set_option linter.unusedSimpArgs false
set_option linter.unusedVariables false

set_option maxHeartbeats 2000000 in
theorem tcheck_of (z : Tz) (w : World) (hR : TbR w z) (g1 : z.t.holds.length ≤ 1000000000) (g2 : z.t.marks.length ≤ 1000000000) (g3 : z.t.ints.length ≤ 1000000000) : Calls Tryz.prog 32 #[tv z] w fun e w' => e = .returned (.int .i64 (if okT z.t then 0 else 1)) ∧ Below w.heap.size w w' := by
 obtain ⟨B, HB⟩ : ∃ B : Int, Hid (B = if okT z.t then 0 else 1) := ⟨_, rfl⟩
 rw [← HB.out]
 obtain ⟨hs, hb, cl⟩ := tb_box w z
 have BW : ∀ W, Below (w.heap.size + 1) (w.alloc (tc z)) W → Below w.heap.size w W := fun W hW => hb.trans (hW.mono (Nat.le_succ _))
 have hsz : Hid (w.heap.size + 1 ≤ (w.alloc (tc z)).heap.size) := by show _ ≤ _; omega
 have hx0 : Below (w.heap.size + 1) (w.alloc (tc z)) (w.alloc (tc z)) := Below.refl _ _
 obtain ⟨c0, c1, c2, c3, c4, c5⟩ := cl _ hx0
 have k1 : Hid (∀ W, Below w.heap.size w W → _) := fun W hW => maySpans_of z W (hR.below hW)
 have k2 : Hid (∀ W, Below w.heap.size w W → _) := fun W (_ : Below w.heap.size w W) => locks_of z W g1 g2 g3
 have k3 : Hid (∀ W, Below w.heap.size w W → _) := fun W hW => mayLocks_of z.t.spans z.s z.h z.m z.t.holds z.t.marks W (hR.1.below hW) (hR.2.2.1.below hW) (hR.2.2.2.1.below hW)
 have k4 : Hid (∀ W, Below w.heap.size w W → _) := fun W hW => mayIntents_of z W (hR.below hW) g3
 have EO : Hid (okT z.t = (timeB z.t.now && spansB z.t && decide (locksN z.t ≤ 1024) && locksB z.t.spans z.t.holds z.t.marks && intsB z.t.spans z.t.ints)) := rfl
 obtain ⟨S, HS⟩ : ∃ S, S = spansB z.t := ⟨_, rfl⟩
 obtain ⟨N, HN⟩ : ∃ N, N = locksN z.t := ⟨_, rfl⟩
 obtain ⟨L, HL⟩ : ∃ L, L = locksB z.t.spans z.t.holds z.t.marks := ⟨_, rfl⟩
 obtain ⟨I, HI⟩ : ∃ I, I = intsB z.t.spans z.t.ints := ⟨_, rfl⟩
 rw [← HS] at k1 EO
 rw [← HN] at k2 EO
 rw [← HL] at k3 EO
 rw [← HI] at k4 EO
 replace HB : Hid (B = if (timeB z.t.now && S && decide (N ≤ 1024) && L && I) then 0 else 1) := by show _ = _; rw [← EO.out]; exact HB.out
 clear HS HN HL HI EO hR g1 g2 g3 hb hs
 obtain ⟨⟨nw, sp, fr, hs_, ms, is⟩, ⟨sa, sc⟩, ⟨fa, fc⟩, ⟨ha, hc⟩, ⟨ma, mc⟩, ⟨ia, ic_⟩⟩ := z
 dsimp only [tv, tc] at *
 by_cases h0 : 0 ≤ nw
 ·have h0i : ¬ nw < 0 := by omega
  by_cases h1 : nw ≤ 2147483647
  ·have h1i : ¬ 2147483647 < nw := by omega
   have HT : Hid (timeB nw = true) := by show _ = _; simp [timeB, h0, h1]
   cases S with
   | false =>
    have E : Hid (B = 1) := by show _ = _; rw [HB.out]; simp
    clear HB k2 k3 k4 HT h0 h1
    go_enter Tryz.func32, Tryz.ntmps32
    go_wp2_with fail
    refine (k1.out _ (BW _ hx0)).mono ?_
    rintro e w1 ⟨rfl, hbc⟩
    have hx1 := keep_step hx0 hsz.out hbc
    obtain ⟨c0, c1, c2, c3, c4, c5⟩ := cl w1 hx1
    clear hbc
    go_wp2
    go_ret
    exact ⟨by rw [E.out]; first | rfl | simp, BW _ hx1⟩
   | true =>
    by_cases h2 : N ≤ 1024
    ·have h2i : ¬ (1024 : Int) < (N : Int) := by omega
     cases L with
     | false =>
      have E : Hid (B = 1) := by show _ = _; rw [HB.out]; simp
      clear HB k4 HT h0 h1 h2
      go_enter Tryz.func32, Tryz.ntmps32
      go_wp2_with fail
      refine (k1.out _ (BW _ hx0)).mono ?_
      rintro e w1 ⟨rfl, hbc⟩
      have hx1 := keep_step hx0 hsz.out hbc
      obtain ⟨c0, c1, c2, c3, c4, c5⟩ := cl w1 hx1
      clear hbc
      go_wp2_with fail
      refine (k2.out _ (BW _ hx1)).mono ?_
      rintro e w2 ⟨rfl, hbc⟩
      have hx2 := keep_step hx1 hsz.out hbc
      obtain ⟨c0, c1, c2, c3, c4, c5⟩ := cl w2 hx2
      clear hbc
      go_wp2_with fail
      refine (k3.out _ (BW _ hx2)).mono ?_
      rintro e w3 ⟨rfl, hbc⟩
      have hx3 := keep_step hx2 hsz.out hbc
      obtain ⟨c0, c1, c2, c3, c4, c5⟩ := cl w3 hx3
      clear hbc
      go_wp2
      go_ret
      exact ⟨by rw [E.out]; first | rfl | simp, BW _ hx3⟩
     | true =>
      cases I with
      | false =>
       have E : Hid (B = 1) := by show _ = _; rw [HB.out, HT.out, decide_eq_true h2]; simp
       clear HB HT h0 h1 h2
       go_enter Tryz.func32, Tryz.ntmps32
       go_wp2_with fail
       refine (k1.out _ (BW _ hx0)).mono ?_
       rintro e w1 ⟨rfl, hbc⟩
       have hx1 := keep_step hx0 hsz.out hbc
       obtain ⟨c0, c1, c2, c3, c4, c5⟩ := cl w1 hx1
       clear hbc
       go_wp2_with fail
       refine (k2.out _ (BW _ hx1)).mono ?_
       rintro e w2 ⟨rfl, hbc⟩
       have hx2 := keep_step hx1 hsz.out hbc
       obtain ⟨c0, c1, c2, c3, c4, c5⟩ := cl w2 hx2
       clear hbc
       go_wp2_with fail
       refine (k3.out _ (BW _ hx2)).mono ?_
       rintro e w3 ⟨rfl, hbc⟩
       have hx3 := keep_step hx2 hsz.out hbc
       obtain ⟨c0, c1, c2, c3, c4, c5⟩ := cl w3 hx3
       clear hbc
       go_wp2_with fail
       refine (k4.out _ (BW _ hx3)).mono ?_
       rintro e w4 ⟨rfl, hbc⟩
       have hx4 := keep_step hx3 hsz.out hbc
       obtain ⟨c0, c1, c2, c3, c4, c5⟩ := cl w4 hx4
       clear hbc
       go_wp2
       go_ret
       exact ⟨by rw [E.out]; first | rfl | simp, BW _ hx4⟩
      | true =>
       have E : Hid (B = 0) := by show _ = _; rw [HB.out, HT.out, decide_eq_true h2]; simp
       clear HB HT h0 h1 h2
       go_enter Tryz.func32, Tryz.ntmps32
       go_wp2_with fail
       refine (k1.out _ (BW _ hx0)).mono ?_
       rintro e w1 ⟨rfl, hbc⟩
       have hx1 := keep_step hx0 hsz.out hbc
       obtain ⟨c0, c1, c2, c3, c4, c5⟩ := cl w1 hx1
       clear hbc
       go_wp2_with fail
       refine (k2.out _ (BW _ hx1)).mono ?_
       rintro e w2 ⟨rfl, hbc⟩
       have hx2 := keep_step hx1 hsz.out hbc
       obtain ⟨c0, c1, c2, c3, c4, c5⟩ := cl w2 hx2
       clear hbc
       go_wp2_with fail
       refine (k3.out _ (BW _ hx2)).mono ?_
       rintro e w3 ⟨rfl, hbc⟩
       have hx3 := keep_step hx2 hsz.out hbc
       obtain ⟨c0, c1, c2, c3, c4, c5⟩ := cl w3 hx3
       clear hbc
       go_wp2_with fail
       refine (k4.out _ (BW _ hx3)).mono ?_
       rintro e w4 ⟨rfl, hbc⟩
       have hx4 := keep_step hx3 hsz.out hbc
       obtain ⟨c0, c1, c2, c3, c4, c5⟩ := cl w4 hx4
       clear hbc
       go_wp2
       go_ret
       exact ⟨by rw [E.out]; first | rfl | simp, BW _ hx4⟩
    ·have h2i : (1024 : Int) < (N : Int) := by omega
     have E : Hid (B = 1) := by show _ = _; rw [HB.out, decide_eq_false h2]; simp
     clear HB k3 k4 HT h0 h1 h2
     go_enter Tryz.func32, Tryz.ntmps32
     go_wp2_with fail
     refine (k1.out _ (BW _ hx0)).mono ?_
     rintro e w1 ⟨rfl, hbc⟩
     have hx1 := keep_step hx0 hsz.out hbc
     obtain ⟨c0, c1, c2, c3, c4, c5⟩ := cl w1 hx1
     clear hbc
     go_wp2_with fail
     refine (k2.out _ (BW _ hx1)).mono ?_
     rintro e w2 ⟨rfl, hbc⟩
     have hx2 := keep_step hx1 hsz.out hbc
     obtain ⟨c0, c1, c2, c3, c4, c5⟩ := cl w2 hx2
     clear hbc
     go_wp2
     go_ret
     exact ⟨by rw [E.out]; first | rfl | simp, BW _ hx2⟩
  ·have h1i : 2147483647 < nw := by omega
   have E : Hid (B = 1) := by show _ = _; rw [HB.out]; simp [timeB, h1]
   clear HB k1 k2 k3 k4 h0 h1
   go_enter Tryz.func32, Tryz.ntmps32
   go_wp2
   go_ret
   exact ⟨by rw [E.out]; first | rfl | simp, BW _ hx0⟩
 ·have h0i : nw < 0 := by omega
  have E : Hid (B = 1) := by show _ = _; rw [HB.out]; simp [timeB, h0]
  clear HB k1 k2 k3 k4 h0
  go_enter Tryz.func32, Tryz.ntmps32
  go_wp2
  go_ret
  exact ⟨by rw [E.out]; first | rfl | simp, BW _ hx0⟩

theorem upB_at {l : List K} {i : Nat} {k : K} (h : l[i]? = some k) (p : Option (K × Unit)) : walk (fun p : K × Unit => decide (p.1.length ≤ 64)) p ((l.map fun k => (k, ())).drop i) = (decide (k.length ≤ 64) && lnk p (k, ()) && walk (fun p : K × Unit => decide (p.1.length ≤ 64)) (some (k, ())) ((l.map fun k => (k, ())).drop (i + 1))) := by
 have : (l.map fun k => (k, ()))[i]? = some (k, ()) := by rw [List.getElem?_map, h]; rfl
 exact walk_at this
set_option maxHeartbeats 2000000 in
theorem mayKeys_of (l : List K) (lv : Value) (w : World) (hL : Rd kyE w lv l) (hlen : l.length ≤ 1000000000) : Calls Tryz.prog 96 #[lv] w fun e w' => e = .returned (.bool (keysB l)) ∧ w' = w := by
 obtain ⟨B, HB⟩ : ∃ B, Hid (B = keysB l) := ⟨_, rfl⟩
 rw [← HB.out]
 have HL : Hid (Rd kyE w lv l) := hL
 obtain ⟨ao, cap, rfl, -, -⟩ := hL.shape
 clear hL
 have HP0 : Hid (B = (walk (fun p : K × Unit => decide (p.1.length ≤ 64)) (prev (l.map fun k => (k, ())) 0) ((l.map fun k => (k, ())).drop 0) && (decide (1 ≤ l.length) && decide (l.length ≤ 16)))) := by show _ = _; rw [HB.out]; unfold keysB upB; rw [Bool.and_assoc]; rfl
 clear HB
 go_enter Tryz.func96, Tryz.ntmps96
 go_wp2
 go_loopg [7] l.length (fun g s7 wr => ∃ i : Nat, i + g = l.length ∧ s7 = .int .i64 (i : Int) ∧ wr = w ∧ Hid (B = (walk (fun p : K × Unit => decide (p.1.length ≤ 64)) (prev (l.map fun k => (k, ())) i) ((l.map fun k => (k, ())).drop i) && (decide (1 ≤ l.length) && decide (l.length ≤ 16)))))
 case atStart => exact ⟨0, by omega, rfl, rfl, HP0⟩
 case round =>
  obtain ⟨i, hig, rfl, hwr, HP⟩ := hrel
  subst hwr
  clear HP0
  by_cases hlt : i < l.length
  ·have hlti : (i : Int) < (l.length : Int) := by omega
   have hx : l[i]? = some l[i] := List.getElem?_eq_getElem hlt
   obtain ⟨k, hkk⟩ : ∃ k, k = l[i] := ⟨_, rfl⟩
   rw [← hkk] at hx
   clear hkk
   obtain ⟨b, off, ea, cc⟩ := rds_at HL.out hx
   subst ea
   have c0 := cc wr (Below.refl _ _)
   have HA := upB_at hx (prev (l.map fun k => (k, ())) i)
   have kk := tkey_of k wr
   have hxH : Hid ((l.map fun k => (k, ()))[i]? = some (k, ())) := by show _ = _; rw [List.getElem?_map, hx]; rfl
   by_cases hk : k.length ≤ 64
   ·rw [decide_eq_true hk] at kk
    have HA2 : Hid (B = (lnk (prev (l.map fun k => (k, ())) i) (k, ()) && walk (fun p : K × Unit => decide (p.1.length ≤ 64)) (prev (l.map fun k => (k, ())) (i + 1)) ((l.map fun k => (k, ())).drop (i + 1)) && (decide (1 ≤ l.length) && decide (l.length ≤ 16)))) := by show _ = _; rw [HP.out, HA, decide_eq_true hk, prev_succ hxH.out]; simp
    clear HP HA cc hk hxH
    by_cases hi0 : i = 0
    ·have HR : Hid (B = (walk (fun p : K × Unit => decide (p.1.length ≤ 64)) (prev (l.map fun k => (k, ())) (i + 1)) ((l.map fun k => (k, ())).drop (i + 1)) && (decide (1 ≤ l.length) && decide (l.length ≤ 16)))) := by show _ = _; rw [HA2.out]; simp [hi0, prev, lnk]
     have hip : ¬ (0 : Int) < (i : Int) := by omega
     have hipn : ¬ 0 < i := by omega
     have HI0 : Hid (i = 0) := hi0
     clear HA2 hi0 hx
     go_wp2_with fail
     refine kk.mono ?_
     rintro e w1 ⟨rfl, hw1⟩
     subst hw1
     go_wp2
     go_roundg (gk - 1)
     case measure => omega
     case rel => exact ⟨i + 1, by omega, by go_num, rfl, HR⟩
    ·have hip : (0 : Int) < (i : Int) := by omega
     have hin0 : 0 < i := by omega
     have hi1 : (1 : Int) ≤ (i : Int) := by omega
     have hi1n : 1 ≤ i := by omega
     have hy : l[i - 1]? = some l[i - 1] := List.getElem?_eq_getElem (by omega)
     obtain ⟨y, hyy⟩ : ∃ y, y = l[i - 1] := ⟨_, rfl⟩
     rw [← hyy] at hy
     clear hyy
     obtain ⟨b', off', ea, cy⟩ := rds_at HL.out hy
     cases ea
     have g0 := cy wr (Below.refl _ _)
     have j1 : IntKind.i64.wrap ((i : Int) - 1) = (i : Int) - 1 := IntWalk.i64_in _ (by omega)
     have j2 : (0 : Int) ≤ (i : Int) - 1 := by omega
     have j3 : (i : Int) - 1 < (l.length : Int) := by omega
     have j4 : ((i : Int) - 1).toNat = i - 1 := by omega
     have HLk : Hid (lnk (prev (l.map fun k => (k, ())) i) (k, ()) = decide (y < k)) := by
      show _ = _
      unfold prev
      rw [if_neg hi0, List.getElem?_map, hy]
      rfl
     clear cy hy hx
     by_cases hyk : y < k
     ·have hge : decide (k ≤ y) = false := decide_eq_false (by grind)
      have HR : Hid (B = (walk (fun p : K × Unit => decide (p.1.length ≤ 64)) (prev (l.map fun k => (k, ())) (i + 1)) ((l.map fun k => (k, ())).drop (i + 1)) && (decide (1 ≤ l.length) && decide (l.length ≤ 16)))) := by show _ = _; rw [HA2.out, HLk.out, decide_eq_true hyk]; rfl
      clear HA2 HLk hyk hi0
      go_wp2_with fail
      refine kk.mono ?_
      rintro e w1 ⟨rfl, hw1⟩
      subst hw1
      go_wp2
      go_roundg (gk - 1)
      case measure => omega
      case rel => exact ⟨i + 1, by omega, by go_num, rfl, HR⟩
     ·have hge : decide (k ≤ y) = true := decide_eq_true (by grind)
      have E : Hid (B = false) := by show _ = _; rw [HA2.out, HLk.out, decide_eq_false hyk]; rfl
      clear HA2 HLk hyk hi0
      go_wp2_with fail
      refine kk.mono ?_
      rintro e w1 ⟨rfl, hw1⟩
      subst hw1
      go_wp2
      go_ret
      exact ⟨by rw [E.out]; rfl, rfl⟩
   ·rw [decide_eq_false hk] at kk
    have E : Hid (B = false) := by show _ = _; rw [HP.out, HA, decide_eq_false hk]; rfl
    clear HP HA cc hk hx hxH
    go_wp2_with fail
    refine kk.mono ?_
    rintro e w1 ⟨rfl, hw1⟩
    subst hw1
    go_wp2
    go_ret
    exact ⟨by rw [E.out]; rfl, rfl⟩
  ·have hlti : ¬ (i : Int) < (l.length : Int) := by omega
   have HB : Hid (B = (decide (1 ≤ l.length) && decide (l.length ≤ 16))) := by show _ = _; rw [HP.out, walk_end (by rw [List.length_map]; omega)]; rfl
   clear HP HL
   by_cases h1 : 1 ≤ l.length
   ·have h1i : (1 : Int) ≤ (l.length : Int) := by omega
    by_cases h2 : l.length ≤ 16
    ·have h2i : (l.length : Int) ≤ 16 := by omega
     have E : Hid (B = true) := by show _ = _; rw [HB.out]; simp [h1, h2]
     clear HB
     go_wp2
     go_ret
     exact ⟨by rw [E.out]; rfl, rfl⟩
    ·have h2i : ¬ (l.length : Int) ≤ 16 := by omega
     have h2d : decide ((l.length : Int) ≤ 16) = false := decide_eq_false h2i
     have E : Hid (B = false) := by show _ = _; rw [HB.out]; simp [h2]
     clear HB h2
     go_wp2
     go_ret
     exact ⟨by rw [E.out]; rfl, rfl⟩
   ·have h1d : decide ((1 : Int) ≤ (l.length : Int)) = false := decide_eq_false (by omega)
    have E : Hid (B = false) := by show _ = _; rw [HB.out]; simp [h1]
    clear HB
    have hl0 : l.length = 0 := by omega
    rw [hl0] at hlti h1d ⊢
    go_wp2
    go_ret
    exact ⟨by rw [E.out]; rfl, rfl⟩

set_option maxHeartbeats 2000000 in
theorem checkCall_of (c : Cl) (a : Sa) (w : World) (hL : Rd kyE w (.slice a.1 c.keys.length a.2) c.keys) (hlen : c.keys.length ≤ 1000000000) : Calls Tryz.prog 33 #[cv c a] w fun e w' => e = .returned (.int .i64 (if callB c then 0 else 1)) ∧ Below w.heap.size w w' := by
 obtain ⟨B, HB⟩ : ∃ B : Int, Hid (B = if callB c then 0 else 1) := ⟨_, rfl⟩
 rw [← HB.out]
 obtain ⟨hs, hb, cl⟩ := cl_box w c a
 obtain ⟨c0, c1, c2, c3⟩ := cl _ (Below.refl _ _)
 have kt := fun W => mayTurn_of c.kind c.ttl W
 have kk := mayKeys_of c.keys _ _ (hL.below hb) hlen
 have EO : Hid (callB c = (turnB c.kind c.ttl && keysB c.keys && (decide (c.token = 0) == decide (c.kind = 1)))) := rfl
 obtain ⟨T, HT⟩ : ∃ T, T = turnB c.kind c.ttl := ⟨_, rfl⟩
 obtain ⟨U, HU⟩ : ∃ U, U = keysB c.keys := ⟨_, rfl⟩
 rw [← HT] at kt EO
 rw [← HU] at kk EO
 replace HB : Hid (B = if (T && U && (decide (c.token = 0) == decide (c.kind = 1))) then 0 else 1) := by show _ = _; rw [← EO.out]; exact HB.out
 clear HT HU EO hL hlen cl hs
 obtain ⟨kd, ks, tk, tt⟩ := c
 obtain ⟨aa, ac⟩ := a
 dsimp only [cv, cc_] at *
 cases T with
 | false =>
  have E : Hid (B = 1) := by show _ = _; rw [HB.out]; simp
  clear HB kk
  go_enter Tryz.func33, Tryz.ntmps33
  go_wp2_with fail
  refine (kt _).mono ?_
  rintro e w1 ⟨rfl, hw1⟩
  subst hw1
  go_wp2
  go_ret
  exact ⟨by rw [E.out]; rfl, hb⟩
 | true =>
  cases U with
  | false =>
   have E : Hid (B = 1) := by show _ = _; rw [HB.out]; simp
   clear HB
   go_enter Tryz.func33, Tryz.ntmps33
   go_wp2_with fail
   refine (kt _).mono ?_
   rintro e w1 ⟨rfl, hw1⟩
   subst hw1
   go_wp2_with fail
   refine kk.mono ?_
   rintro e w2 ⟨rfl, hw2⟩
   subst hw2
   go_wp2
   go_ret
   exact ⟨by rw [E.out]; rfl, hb⟩
  | true =>
   by_cases h1 : tk = 0
   ·have h1d : ((tk : Int) == 0) = true := by simpa using h1
    by_cases h2 : kd = 1
    ·have h2d : (kd == 1) = true := by simpa using h2
     have E : Hid (B = 0) := by show _ = _; rw [HB.out]; simp [h1, h2]
     clear HB h1 h2
     go_enter Tryz.func33, Tryz.ntmps33
     go_wp2_with fail
     refine (kt _).mono ?_
     rintro e w1 ⟨rfl, hw1⟩
     subst hw1
     go_wp2_with fail
     refine kk.mono ?_
     rintro e w2 ⟨rfl, hw2⟩
     subst hw2
     go_wp2
     go_ret
     exact ⟨by rw [E.out]; rfl, hb⟩
    ·have h2d : (kd == 1) = false := by simpa using h2
     have E : Hid (B = 1) := by show _ = _; rw [HB.out]; simp [h1, h2]
     clear HB h1 h2
     go_enter Tryz.func33, Tryz.ntmps33
     go_wp2_with fail
     refine (kt _).mono ?_
     rintro e w1 ⟨rfl, hw1⟩
     subst hw1
     go_wp2_with fail
     refine kk.mono ?_
     rintro e w2 ⟨rfl, hw2⟩
     subst hw2
     go_wp2
     go_ret
     exact ⟨by rw [E.out]; rfl, hb⟩
   ·have h1d : ((tk : Int) == 0) = false := by simpa using h1
    by_cases h2 : kd = 1
    ·have h2d : (kd == 1) = true := by simpa using h2
     have E : Hid (B = 1) := by show _ = _; rw [HB.out]; simp [h1, h2]
     clear HB h1 h2
     go_enter Tryz.func33, Tryz.ntmps33
     go_wp2_with fail
     refine (kt _).mono ?_
     rintro e w1 ⟨rfl, hw1⟩
     subst hw1
     go_wp2_with fail
     refine kk.mono ?_
     rintro e w2 ⟨rfl, hw2⟩
     subst hw2
     go_wp2
     go_ret
     exact ⟨by rw [E.out]; rfl, hb⟩
    ·have h2d : (kd == 1) = false := by simpa using h2
     have E : Hid (B = 0) := by show _ = _; rw [HB.out]; simp [h1, h2]
     clear HB h1 h2
     go_enter Tryz.func33, Tryz.ntmps33
     go_wp2_with fail
     refine (kt _).mono ?_
     rintro e w1 ⟨rfl, hw1⟩
     subst hw1
     go_wp2_with fail
     refine kk.mono ?_
     rintro e w2 ⟨rfl, hw2⟩
     subst hw2
     go_wp2
     go_ret
     exact ⟨by rw [E.out]; rfl, hb⟩
end Go.Proofs.YtfpbgfmnjpamlaaGreat

