import Derived.Test.YtfpbgfmnjpamlaaGreatHt37
import Derived.Test.YtfpbgfmnjpamlaaGreatHt11
import Derived.Test.YtfpbgfmnjpamlaaGreatHt28
import Derived.Test.YtfpbgfmnjpamlaaGreatHt08
/- maySpans, mayLocks with their closures. -/
namespace Go.Proofs.YtfpbgfmnjpamlaaGreat
open Go.RowKit LeaseMath Go.Maps
set_option maxRecDepth 100000
set_option linter.unusedSimpArgs false
set_option linter.unusedVariables false

theorem zeroU64 (w : World) : (zeroValue 28).run Tryz.prog w = .ok (.int .u64 0) w := by kernel_rfl
theorem any_not {α : Type} (p : α → Bool) (l : List α) : (!(l.any fun x => !p x)) = l.all p := by
  induction l with
  | nil => rfl
  | cons x l ih => rw [List.any_cons, List.all_cons, ← ih]; cases p x <;> simp
theorem sp1_of {w : World} {q : Nat} {a : Option Addr} {n c : Nat} {l : List Sp} (hq : w.cell? ⟨q, 1, none⟩ = some (.slice a n c)) (hR : Rd spE w (.slice a n c) l) (s : Sp) :
    Calls Tryz.prog 153 #[sv s, .pointer (some ⟨q, 0, none⟩)] w fun e w' => e = .returned (.bool (!covP l s)) ∧ Below w.heap.size w w' := by
  obtain ⟨x, y⟩ := s
  obtain ⟨hs, hb, cl⟩ := box_all w #[.string (bk x), .string (bk y)] 47
  have c0 := cl _ (Below.refl _ _) 0 _ rfl
  have c1 := cl _ (Below.refl _ _) 1 _ rfl
  have hq1 := (hb.cell (p := ⟨q, 1, none⟩) (World.block_lt_of_cell? w _ hq)).trans hq
  have kc := covers_of l (.slice a n c) (x, y) _ ((hR.below hb).sv)
  obtain ⟨B, HB⟩ : ∃ B, B = covP l (x, y) := ⟨_, rfl⟩
  rw [← HB] at kc ⊢
  rw [hs] at kc
  clear cl hq HB hR
  go_enter Tryz.func153, Tryz.ntmps153
  go_wp2_with fail
  refine kc.mono ?_
  rintro e w1 ⟨rfl, hb1⟩
  go_wp2
  go_ret
  exact ⟨rfl, hb.trans (hb1.mono (Nat.le_succ _))⟩

set_option maxHeartbeats 1000000 in
theorem maySpans_of (z : Tz) (w : World) (hR : TbR w z) : Calls Tryz.prog 93 #[tv z] w fun e w' => e = .returned (.bool (spansB z.t)) ∧ Below w.heap.size w w' := by
  obtain ⟨B, HB⟩ : ∃ B, Hid (B = spansB z.t) := ⟨_, rfl⟩
  rw [← HB.out]
  obtain ⟨hs, hb, cl⟩ := tb_box w z
  have k1 := fun W (hW : Below w.heap.size w W) => form_of z.t.spans _ W ((hR.1.below hW).sv)
  have k2 := fun W (hW : Below w.heap.size w W) => form_of z.t.frozen _ W ((hR.2.1.below hW).sv)
  have k3 := fun (hf : SpanMath.formB z.t.frozen = true) W (hW : Below (w.heap.size + 1) (w.alloc (tc z)) W) => anySpans_of (fun s => !covP z.t.spans s) z.t.frozen (.slice z.f.1 z.t.frozen.length z.f.2) (.pointer (some ⟨w.heap.size, 0, none⟩)) W (hR.2.1.below (hb.trans (hW.mono (Nat.le_succ _)))) (by have := (SpanMath.formB_iff.1 hf).1; omega) (fun s W' _ hW' => sp1_of (cl W' (hW.trans (hW'.mono (by have := hW.size; omega)))).2.1 (hR.1.below ((hb.trans (hW.mono (Nat.le_succ _))).trans (hW'.mono (Nat.le_trans hb.size (Nat.le_trans (by omega) hW.size))))) s)
  obtain ⟨c0, c1, c2, c3, c4, c5⟩ := cl _ (Below.refl _ _)
  have BW : ∀ W, Below (w.heap.size + 1) (w.alloc (tc z)) W → Below w.heap.size w W := fun W hW => hb.trans (hW.mono (Nat.le_succ _))
  have K1 := k1 _ hb
  rw [hs] at K1
  have hsz : w.heap.size + 1 ≤ (w.alloc (tc z)).heap.size := by omega
  dsimp only [tv, tc] at *
  clear hR
  cases h1 : SpanMath.formB z.t.spans with
  | false =>
    have E : Hid (B = false) := by show _ = _; rw [HB.out]; unfold spansB; rw [h1]; rfl
    rw [h1] at K1
    clear HB h1 k1 k2 k3
    go_enter Tryz.func93, Tryz.ntmps93
    go_wp2_with fail
    refine K1.mono ?_
    rintro e w1 ⟨rfl, hb1⟩
    go_wp2
    go_ret
    exact ⟨by rw [E.out]; rfl, BW _ hb1⟩
  | true =>
    rw [h1] at K1
    clear k1
    cases h2 : SpanMath.formB z.t.frozen with
    | false =>
      have E : Hid (B = false) := by show _ = _; rw [HB.out]; unfold spansB; rw [h2]; simp
      rw [h2] at k2
      clear HB h1 h2 k3
      go_enter Tryz.func93, Tryz.ntmps93
      go_wp2_with fail
      refine K1.mono ?_
      rintro e w1 ⟨rfl, hb1⟩
      have K2 := k2 w1 (BW _ hb1)
      obtain ⟨e0, e1, e2, e3, e4, e5⟩ := cl _ hb1
      clear k2
      go_wp2_with fail
      refine K2.mono ?_
      rintro e w2 ⟨rfl, hb2⟩
      go_wp2
      go_ret
      exact ⟨by rw [E.out]; rfl, keep_step (BW _ hb1) (Nat.le_refl _) hb2⟩
    | true =>
      have k3' := k3 h2
      have E : Hid (B = !(z.t.frozen.any fun s => !covP z.t.spans s)) := by show _ = _; rw [HB.out]; unfold spansB; rw [h1, h2, any_not]; rfl
      rw [h2] at k2
      clear HB h1 h2 k3
      generalize (z.t.frozen.any fun s => !covP z.t.spans s) = A at *
      go_enter Tryz.func93, Tryz.ntmps93
      go_wp2_with fail
      refine K1.mono ?_
      rintro e w1 ⟨rfl, hb1⟩
      have K2 := k2 w1 (BW _ hb1)
      obtain ⟨e0, e1, e2, e3, e4, e5⟩ := cl _ hb1
      clear k2
      go_wp2_with fail
      refine K2.mono ?_
      rintro e w2 ⟨rfl, hb2⟩
      have hb2' := keep_step hb1 hsz hb2
      have K3 := k3' w2 hb2'
      obtain ⟨f0, f1, f2, f3, f4, f5⟩ := cl _ hb2'
      clear k3' K1 K2
      go_wp2_with fail
      refine K3.mono ?_
      rintro e w3 ⟨rfl, hb3⟩
      go_wp2
      go_ret
      exact ⟨by rw [E.out]; first | rfl | simp, keep_step (BW _ hb2') (Nat.le_refl _) hb3⟩

set_option maxHeartbeats 1000000 in
theorem lm1_of {w : World} {q1 q2 b c : Nat} {a : Option Addr} {n cp : Nat} {sp : List Sp} {hs : List Hd} (h1 : w.cell? ⟨q1, 0, none⟩ = some (.map (some b))) (hMp : Mp w b (hM hs) c) (h2 : w.cell? ⟨q2, 0, none⟩ = some (.slice a n cp)) (hR : Rd spE w (.slice a n cp) sp) (m : Mk) (hm : m.1.length ≤ 64) :
    Calls Tryz.prog 130 #[mv m, .pointer (some ⟨q1, 0, none⟩), .pointer (some ⟨q2, 0, none⟩)] w fun e w' => e = .returned (.bool (!(decide (heldN hs m.1 = 0) && inP sp m.1))) ∧ Below w.heap.size w w' := by
  obtain ⟨k, t⟩ := m
  obtain ⟨hz, hb, cl⟩ := mk_box w (k, t)
  obtain ⟨c0, c1⟩ := cl _ (Below.refl _ _)
  have g1 := (hb.cell (p := ⟨q1, 0, none⟩) (World.block_lt_of_cell? w _ h1)).trans h1
  have g2 := (hb.cell (p := ⟨q2, 0, none⟩) (World.block_lt_of_cell? w _ h2)).trans h2
  have HM1 : Hid (Mp (w.alloc (mc (k, t))) b (hM hs) c) := hMp.below hb
  have kc := in_of sp (.slice a n cp) k _ ((hR.below hb).sv)
  have hsz : (bk k).size ≤ maxLen := by rw [bk_size]; unfold maxLen; dsimp only at hm; omega
  have HA := hM_at hs k
  obtain ⟨B, HB⟩ : ∃ B, B = inP sp k := ⟨_, rfl⟩
  dsimp only [mv, mc] at *
  rw [← HB] at kc ⊢
  rw [hz] at kc
  clear cl hMp HB hR h1 h2
  by_cases h0 : heldN hs k = 0
  · rw [h0] at HA
    rw [h0]
    have d0 : ((0 : Int) != 0) = false := rfl
    clear h0
    go_enter Tryz.func130, Tryz.ntmps130
    go_wp2_with (first | (refine wp_mp_at rfl _ _ _ _ rfl Tryz.underlying57 (zeroU64 _) _ _ _ HM1.out rfl (bk k) rfl hsz ?_; rw [HA]))
    refine kc.mono ?_
    rintro e w1 ⟨rfl, hb1⟩
    go_wp2
    go_ret
    exact ⟨by simp, hb.trans (hb1.mono (Nat.le_succ _))⟩
  · obtain ⟨N, hN⟩ : ∃ N : Nat, N = heldN hs k := ⟨_, rfl⟩
    rw [← hN] at HA h0
    rw [← hN]
    have d0 : ((N : Int) != 0) = true := by simpa using h0
    have d1 : ((N : Int) == 0) = false := by simpa using h0
    have E : Hid ((!(decide (N = 0) && B)) = true) := by show _ = _; rw [decide_eq_false h0]; rfl
    rw [E.out]
    clear h0 kc hN
    go_enter Tryz.func130, Tryz.ntmps130
    go_wp2_with (first | (refine wp_mp_at rfl _ _ _ _ rfl Tryz.underlying57 (zeroU64 _) _ _ _ HM1.out rfl (bk k) rfl hsz ?_; rw [HA]))
    go_ret
    exact ⟨rfl, hb⟩

theorem lh1_of {w : World} {q : Nat} {a : Option Addr} {n cp : Nat} {sp : List Sp} (h2 : w.cell? ⟨q, 0, none⟩ = some (.slice a n cp)) (hR : Rd spE w (.slice a n cp) sp) (x : Hd) :
    Calls Tryz.prog 132 #[hv x, .pointer (some ⟨q, 0, none⟩)] w fun e w' => e = .returned (.bool (!inP sp x.1)) ∧ Below w.heap.size w w' := by
  obtain ⟨k, t, u⟩ := x
  obtain ⟨hz, hb, cl⟩ := hd_box w (k, t, u)
  obtain ⟨c0, c1, c2⟩ := cl _ (Below.refl _ _)
  have g2 := (hb.cell (p := ⟨q, 0, none⟩) (World.block_lt_of_cell? w _ h2)).trans h2
  have kc := in_of sp (.slice a n cp) k _ ((hR.below hb).sv)
  obtain ⟨B, HB⟩ : ∃ B, B = inP sp k := ⟨_, rfl⟩
  dsimp only [hv, hc] at *
  rw [← HB] at kc ⊢
  rw [hz] at kc
  clear cl HB hR h2
  go_enter Tryz.func132, Tryz.ntmps132
  go_wp2_with fail
  refine kc.mono ?_
  rintro e w1 ⟨rfl, hb1⟩
  go_wp2
  go_ret
  exact ⟨rfl, hb.trans (hb1.mono (Nat.le_succ _))⟩
end Go.Proofs.YtfpbgfmnjpamlaaGreat

/- mayLocks. -/
namespace Go.Proofs.YtfpbgfmnjpamlaaGreat
open Go.RowKit LeaseMath Go.Maps
set_option maxRecDepth 100000
set_option linter.unusedSimpArgs false
set_option linter.unusedVariables false

theorem all_any {α : Type} (p : α → Bool) (l : List α) : l.all p = !(l.any fun x => !p x) := (any_not p l).symm
set_option maxHeartbeats 2000000 in
theorem mayLocks_of (sp : List Sp) (sa ha ma : Sa) (hs : List Hd) (ms : List Mk) (w : World) (hS : Rd spE w (.slice sa.1 sp.length sa.2) sp) (hH : Rd holdE w (.slice ha.1 hs.length ha.2) hs) (hM_ : Rd markE w (.slice ma.1 ms.length ma.2) ms) : Calls Tryz.prog 69 #[.slice sa.1 sp.length sa.2, .slice ha.1 hs.length ha.2, .slice ma.1 ms.length ma.2] w fun e w' => e = .returned (.bool (locksB sp hs ms)) ∧ Below w.heap.size w w' := by
  obtain ⟨B, HB⟩ : ∃ B, Hid (B = locksB sp hs ms) := ⟨_, rfl⟩
  rw [← HB.out]
  obtain ⟨hz, hb, cl⟩ := box_all w #[.slice sa.1 sp.length sa.2] 22
  have BW : ∀ W, Below (w.heap.size + 1) (w.alloc (.cells #[.slice sa.1 sp.length sa.2] 22)) W → Below w.heap.size w W := fun W hW => hb.trans (hW.mono (Nat.le_succ _))
  have c0 := cl _ (Below.refl _ _) 0 _ rfl
  have hsz : w.heap.size + 1 ≤ (w.alloc (.cells #[.slice sa.1 sp.length sa.2] 22)).heap.size := by omega
  have K1 := checkh_of (hH.below hb)
  rw [hz] at K1
  have k2 := fun W (hW : Below w.heap.size w W) => checkm_of (hM_.below hW)
  have k3 := fun (h : mayB holdB hs = true) W (hW : Below w.heap.size w W) => holders_of hs (.slice ha.1 hs.length ha.2) W (hH.below hW) h
  have k4 : Hid (∀ (hm : mayB markB ms = true) (W : World) (b q : Nat) (c : Nat), Below (w.heap.size + 1) (w.alloc (.cells #[.slice sa.1 sp.length sa.2] 22)) W → W.cell? ⟨q, 0, none⟩ = some (.map (some b)) → Mp W b (hM hs) c → Calls Tryz.prog 129 #[.slice ma.1 ms.length ma.2, .func (.func 130) #[] #[.pointer (some ⟨q, 0, none⟩), .pointer (some ⟨w.heap.size, 0, none⟩)]] W fun e w' => e = .returned (.bool (ms.any fun m => !(decide (heldN hs m.1 = 0) && inP sp m.1))) ∧ Below W.heap.size W w') := fun hm W b q c hW hq hMp => by
    have hmm := may_iff.1 hm
    refine anyMarks_of _ ms _ _ _ W (hM_.below (BW W hW)) (by omega) fun m W' hmem hW' => ?_
    have hq' := (hW'.cell (p := ⟨q, 0, none⟩) (World.block_lt_of_cell? W _ hq)).trans hq
    have hW2 := hW.trans (hW'.mono (by have := hW.size; omega))
    exact lm1_of hq' (hMp.below hW') (cl W' hW2 0 _ rfl) (hS.below (BW W' hW2)) m (mark_iff.1 (hmm.2.1 m hmem)).1
  have k5 : Hid (∀ (hm : mayB holdB hs = true) (W : World), Below (w.heap.size + 1) (w.alloc (.cells #[.slice sa.1 sp.length sa.2] 22)) W → Calls Tryz.prog 131 #[.slice ha.1 hs.length ha.2, .func (.func 132) #[] #[.pointer (some ⟨w.heap.size, 0, none⟩)]] W fun e w' => e = .returned (.bool (hs.any fun x => !inP sp x.1)) ∧ Below W.heap.size W w') := fun hm W hW => by
    have hmm := may_iff.1 hm
    refine anyHolds_of (fun x => !inP sp x.1) hs _ _ W (hH.below (BW W hW)) (by omega) fun x W' hmem hW' => ?_
    have hW2 := hW.trans (hW'.mono (by have := hW.size; omega))
    exact lh1_of (cl W' hW2 0 _ rfl) (hS.below (BW W' hW2)) x
  clear hS hH hM_
  cases h1 : mayB holdB hs with
  | false =>
    have E : Hid (B = false) := by show _ = _; rw [HB.out]; unfold locksB; rw [h1]; rfl
    rw [h1] at K1
    simp only [Bool.false_eq_true, if_false] at K1
    clear HB h1 k2 k3 k4 k5
    go_enter Tryz.func69, Tryz.ntmps69
    go_wp2_with fail
    refine K1.mono ?_
    rintro e w1 ⟨rfl, hb1⟩
    go_wp2
    go_ret
    exact ⟨by rw [E.out]; rfl, BW _ hb1⟩
  | true =>
    rw [h1] at K1
    simp only [if_true] at K1
    have k3' := k3 h1
    have k5' : Hid _ := k5.out h1
    clear k3 k5
    cases h2 : mayB markB ms with
    | false =>
      have E : Hid (B = false) := by show _ = _; rw [HB.out]; unfold locksB; rw [h2]; simp
      rw [h2] at k2
      simp only [Bool.false_eq_true, if_false] at k2
      clear HB h1 h2 k3' k4 k5'
      go_enter Tryz.func69, Tryz.ntmps69
      go_wp2_with fail
      refine K1.mono ?_
      rintro e w1 ⟨rfl, hb1⟩
      have K2 := k2 w1 (BW _ hb1)
      clear k2
      go_wp2_with fail
      refine K2.mono ?_
      rintro e w2 ⟨rfl, hb2⟩
      go_wp2
      go_ret
      exact ⟨by rw [E.out]; rfl, keep_step (BW _ hb1) (Nat.le_refl _) hb2⟩
    | true =>
      rw [h2] at k2
      simp only [if_true] at k2
      have k4' : Hid _ := k4.out h2
      have E : Hid (B = ((!(ms.any fun m => !(decide (heldN hs m.1 = 0) && inP sp m.1))) && !(hs.any fun x => !inP sp x.1))) := by show _ = _; rw [HB.out]; unfold locksB; rw [h1, h2, all_any, all_any]; rfl
      clear HB h1 h2 k4
      generalize (ms.any fun m => !(decide (heldN hs m.1 = 0) && inP sp m.1)) = AM at *
      generalize (hs.any fun x => !inP sp x.1) = AH at *
      go_enter Tryz.func69, Tryz.ntmps69
      go_wp2_with fail
      refine K1.mono ?_
      rintro e w1 ⟨rfl, hb1⟩
      have K2 := k2 w1 (BW _ hb1)
      clear k2
      go_wp2_with fail
      refine K2.mono ?_
      rintro e w2 ⟨rfl, hb2⟩
      have hb2' := keep_step hb1 hsz hb2
      have K3 := k3' w2 (BW _ hb2')
      clear k3' K1 K2
      go_wp2_with fail
      refine K3.mono ?_
      rintro e w3 ⟨⟨b, rfl, hbn, hMp⟩, hb3⟩
      have hb3' := keep_step hb2' hsz hb3
      obtain ⟨hz4, hb4, cl4⟩ := box_all w3 #[.map (some b)] 57
      have d0 := cl4 _ (Below.refl _ _) 0 _ rfl
      have hb4' := keep_step hb3' hsz hb4
      have K4 := k4'.out _ b w3.heap.size hs.length hb4' d0 (hMp.below hb4)
      have hsz4 : w.heap.size + 1 ≤ (w3.alloc (.cells #[.map (some b)] 57)).heap.size := Nat.le_trans hsz hb4'.size
      clear k4' cl4 K3 hMp hbn
      go_wp2_with fail
      refine K4.mono ?_
      rintro e w5 ⟨rfl, hb5⟩
      have hb5' := keep_step hb4' hsz hb5
      have K5 := k5'.out w5 hb5'
      clear k5' K4
      cases AM with
      | true =>
        go_wp2
        go_ret
        exact ⟨by rw [E.out]; rfl, BW _ hb5'⟩
      | false =>
        go_wp2_with fail
        refine K5.mono ?_
        rintro e w6 ⟨rfl, hb6⟩
        go_wp2
        go_ret
        exact ⟨by rw [E.out]; first | rfl | simp, BW _ (keep_step hb5' hsz hb6)⟩
end Go.Proofs.YtfpbgfmnjpamlaaGreat

