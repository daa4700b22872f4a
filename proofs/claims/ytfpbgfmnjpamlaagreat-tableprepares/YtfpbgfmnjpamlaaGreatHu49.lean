import Derived.Test.YtfpbgfmnjpamlaaGreatHu45
import Derived.Test.YtfpbgfmnjpamlaaGreatHu41
/- The document's refused. -/
namespace Go.Proofs.YtfpbgfmnjpamlaaGreat
open Go.RowKit LeaseMath
set_option maxRecDepth 100000
set_option linter.unusedSimpArgs false
set_option linter.unusedVariables false

theorem cells4 {w : World} {g : Nat} {a b c d : Value} {t : TypeId} (H : w.heap[g]? = some (.cells #[a, b, c, d] t (0, 0))) : w.cell? ⟨g, 0, none⟩ = some a ∧ w.cell? ⟨g, 1, none⟩ = some b ∧ w.cell? ⟨g, 2, none⟩ = some c ∧ w.cell? ⟨g, 3, none⟩ = some d := by
 refine ⟨?_, ?_, ?_, ?_⟩ <;> rw [cells_of_block H] <;> rfl
theorem cells3 {w : World} {g : Nat} {a b c : Value} {t : TypeId} (H : w.heap[g]? = some (.cells #[a, b, c] t (0, 0))) : w.cell? ⟨g, 0, none⟩ = some a ∧ w.cell? ⟨g, 1, none⟩ = some b ∧ w.cell? ⟨g, 2, none⟩ = some c := by
 refine ⟨?_, ?_, ?_⟩ <;> rw [cells_of_block H] <;> rfl
set_option maxHeartbeats 8000000 in
theorem rrefused_of (z : Tz) (k : K) (c : Cl) (a : Sa) (tk : Nat) (w : World) (hR : TbR w z) (g0 : z.t.spans.length ≤ 1000000) (g1 : z.t.frozen.length ≤ 1000000) (g2 : z.t.holds.length ≤ 1000000) (g3 : z.t.marks.length ≤ 1000000) (g4 : z.t.ints.length ≤ 1000000) :
  Calls Tryz.prog 44 #[tv z, .string (bk k), cv c a, .int .u64 (tk : Int)] w fun e w' => e = .returned (.int .i64 (rref z.t c.kind c.token tk k)) ∧ Below w.heap.size w w' := by
 obtain ⟨RV, HRV⟩ : ∃ r, Hid (r = rref z.t c.kind c.token tk k) := ⟨_, rfl⟩
 rw [← HRV.out]
 have k1 : Hid (∀ W, Below w.heap.size w W → _) := fun W hW => rintent_of z k W (hR.below hW) (by omega)
 have k2 : Hid (∀ W, Below w.heap.size w W → _) := fun W hW => rfind_of z.t.holds _ k W (hR.2.2.1.below hW) (by omega)
 have k3 : Hid (∀ W, Below w.heap.size w W → _) := fun W hW => refIn_of z.t.spans _ k W ((hR.1.below hW).sv) g0
 have k4 : Hid (∀ W, Below w.heap.size w W → _) := fun W hW => refIn_of z.t.frozen _ k W ((hR.2.1.below hW).sv) g1
 have k5 : Hid (∀ W, Below w.heap.size w W → _) := fun W hW => rlast_of z.t.marks _ k W (hR.2.2.2.1.below hW) (by omega)
 have HE : Hid (rref z.t c.kind c.token tk k = (if SpanMath.isIn z.t.spans k = false then 10
  else if (itdB z.t.ints k || SpanMath.isIn z.t.frozen k) = true then 9
  else if c.kind = 1 then (if (findM z.t.holds k).isSome = true then 8 else if tk ≤ lastM z.t.marks k then 9 else 0)
  else (if (!(findM z.t.holds k).isSome || decide ((goth (findM z.t.holds k)).2.1 ≠ c.token)) = true then 4 else 0))) := rfl
 obtain ⟨S, HS⟩ : ∃ b, b = SpanMath.isIn z.t.spans k := ⟨_, rfl⟩
 obtain ⟨I, HI⟩ : ∃ b, b = itdB z.t.ints k := ⟨_, rfl⟩
 obtain ⟨F, HF⟩ : ∃ b, b = SpanMath.isIn z.t.frozen k := ⟨_, rfl⟩
 obtain ⟨L, HL⟩ : ∃ n, n = lastM z.t.marks k := ⟨_, rfl⟩
 obtain ⟨G, HG⟩ : ∃ b, b = (findM z.t.holds k).isSome := ⟨_, rfl⟩
 obtain ⟨⟨hk, ht, hu⟩, HH⟩ : ∃ h : Hd, h = goth (findM z.t.holds k) := ⟨_, rfl⟩
 rw [← HS] at k3 HE
 rw [← HI] at k1 HE
 rw [← HF] at k4 HE
 rw [← HL] at k5 HE
 rw [← HG] at k2 HE
 rw [← HH] at k2 HE
 replace HRV : Hid (RV = _) := HRV.out.trans HE.out
 clear HE HS HI HF HL HG HH hR g0 g1 g2 g3 g4
 obtain ⟨q1, q2, q3, q4⟩ := two_boxes6 w (tc z) (cc_ c a)
 obtain ⟨w0, hw0⟩ : ∃ W, (w.alloc (tc z)).alloc (cc_ c a) = W := ⟨_, rfl⟩
 rw [hw0] at q1 q2 q3 q4
 obtain ⟨⟨nw, sp, fr, hs_, ms, is⟩, ⟨sa, sc⟩, ⟨fa, fc⟩, ⟨ha, hc⟩, ⟨ma, mc⟩, ⟨ia, ic_⟩⟩ := z
 obtain ⟨kd, ks, ct, tt⟩ := c
 obtain ⟨aa, ac⟩ := a
 dsimp only [tv, tc, cv, cc_, hv] at *
 have HC : Hid (∀ W, Below (w.heap.size + 2) w0 W → Below w.heap.size w W ∧ W.heap[w.heap.size]? = _ ∧ W.heap[w.heap.size + 1]? = _) := fun W hW => ⟨q4.trans (hW.mono (by omega)), (hW.block w.heap.size (by omega)).trans q2, (hW.block (w.heap.size + 1) (by omega)).trans q3⟩
 have hz : w.heap.size + 2 ≤ w0.heap.size := by omega
 have hb0 : Below (w.heap.size + 2) w0 w0 := Below.refl _ _
 obtain ⟨c0, c1, c2, c3, c4, c5⟩ := cells6 q2
 clear q1 q2 q3 q4
 go_enter Tryz.func44, Tryz.ntmps44
 go_wp2_with fail
 refine (k1.out _ (HC.out _ hb0).1).mono ?_
 rintro e w1 ⟨⟨x, rfl⟩, hbc⟩
 have hb1 := keep_step hb0 hz hbc
 have hb1' := hb1.alloc (Nat.le_trans hz hb1.size) (ic x)
 obtain ⟨xk, ⟨xd1, xd2⟩, xkd, xtk, xtt⟩ := x
 dsimp only [iv, ic] at *
 obtain ⟨w2, hw2⟩ : ∃ W, w1.alloc (.cells #[.string (bk xk), .int .i64 xd1, .int .u64 (xd2 : Int), .int .i64 xkd, .int .u64 (xtk : Int), .int .i64 xtt] 63) = W := ⟨_, rfl⟩
 rw [hw2] at hb1'
 clear hbc c0 c1 c2 c3 c4 c5 hb1
 obtain ⟨-, P, X⟩ := HC.out _ hb1'
 obtain ⟨c0, c1, c2, c3, c4, c5⟩ := cells6 P
 go_wp2_with fail
 refine (k2.out _ (HC.out _ hb1').1).mono ?_
 rintro e w3 ⟨rfl, hbc⟩
 have hb3 := keep_step hb1' hz hbc
 obtain ⟨s4, p4, b4⟩ := one_box w3 (.cells #[.string (bk hk), .int .u64 (ht : Int), .int .i64 hu] 59)
 obtain ⟨w4, hw4⟩ : ∃ W, w3.alloc (.cells #[.string (bk hk), .int .u64 (ht : Int), .int .i64 hu] 59) = W := ⟨_, rfl⟩
 rw [hw4] at s4 p4 b4
 have hb4 := hb3.trans (b4.mono (Nat.le_trans hz hb3.size))
 have hz4 : w.heap.size + 2 ≤ w3.heap.size := Nat.le_trans hz hb3.size
 have HD : Hid (∀ W, Below (w3.heap.size + 1) w4 W → Below w.heap.size w W ∧ W.heap[w.heap.size]? = _ ∧ W.heap[w.heap.size + 1]? = _ ∧ W.heap[w3.heap.size]? = _) := fun W hW => ⟨(HC.out _ (hb4.trans (hW.mono (by omega)))).1, (HC.out _ (hb4.trans (hW.mono (by omega)))).2.1, (HC.out _ (hb4.trans (hW.mono (by omega)))).2.2, (hW.block w3.heap.size (by omega)).trans p4⟩
 have hbD : Below (w3.heap.size + 1) w4 w4 := Below.refl _ _
 have hzD : w3.heap.size + 1 ≤ w4.heap.size := by omega
 clear hbc c0 c1 c2 c3 c4 c5 P X hb3 hb4 s4 p4 b4 hb1' hb0 HC
 obtain ⟨-, P, -, -⟩ := HD.out _ hbD
 obtain ⟨c0, c1, c2, c3, c4, c5⟩ := cells6 P
 go_wp2_with fail
 refine (k3.out _ (HD.out _ hbD).1).mono ?_
 rintro e w5 ⟨rfl, hbc⟩
 have hb5 := keep_step hbD hzD hbc
 clear hbc c0 c1 c2 c3 c4 c5 P k1 k2 k3 hbD
 obtain ⟨-, P, X, Y⟩ := HD.out _ hb5
 obtain ⟨c0, c1, c2, c3, c4, c5⟩ := cells6 P
 obtain ⟨x0, x1, x2, x3⟩ := cells4 X
 obtain ⟨y0, y1, y2⟩ := cells3 Y
 cases S with
 | false =>
  have E : Hid (RV = 10) := by show _ = _; rw [HRV.out]; rfl
  clear HRV
  go_wp2
  go_ret
  exact ⟨by rw [E.out]; rfl, (HD.out _ hb5).1⟩
 | true =>
  cases I with
  | true =>
   have E : Hid (RV = 9) := by show _ = _; rw [HRV.out]; rfl
   clear HRV
   go_wp2
   go_ret
   exact ⟨by rw [E.out]; rfl, (HD.out _ hb5).1⟩
  | false =>
   go_wp2_with fail
   refine (k4.out _ (HD.out _ hb5).1).mono ?_
   rintro e w6 ⟨rfl, hbc⟩
   have hb6 := keep_step hb5 hzD hbc
   clear hbc c0 c1 c2 c3 c4 c5 x0 x1 x2 x3 y0 y1 y2 P X Y k4
   obtain ⟨-, P, X, Y⟩ := HD.out _ hb6
   obtain ⟨c0, c1, c2, c3, c4, c5⟩ := cells6 P
   obtain ⟨x0, x1, x2, x3⟩ := cells4 X
   obtain ⟨y0, y1, y2⟩ := cells3 Y
   cases F with
   | true =>
    have E : Hid (RV = 9) := by show _ = _; rw [HRV.out]; rfl
    clear HRV
    go_wp2
    go_ret
    exact ⟨by rw [E.out]; rfl, (HD.out _ hb6).1⟩
   | false =>
    by_cases h1 : kd = 1
    ·have h1d : (kd == 1) = true := by simpa using h1
     cases G with
     | true =>
      have E : Hid (RV = 8) := by show _ = _; rw [HRV.out, if_neg (by decide), if_neg (by decide), if_pos h1]; rfl
      clear HRV h1
      go_wp2
      go_ret
      exact ⟨by rw [E.out]; rfl, (HD.out _ hb6).1⟩
     | false =>
      have K5 := k5.out _ (HD.out _ hb6).1
      replace HRV : Hid (RV = if tk ≤ L then 9 else 0) := by show _ = _; rw [HRV.out, if_neg (by decide), if_neg (by decide), if_pos h1, if_neg (by decide)]
      clear h1 k5
      go_wp2_with fail
      refine K5.mono ?_
      rintro e w7 ⟨rfl, hw7⟩
      subst hw7
      by_cases h2 : tk ≤ L
      ·have h2i : (tk : Int) ≤ (L : Int) := by omega
       have h2d : decide ((tk : Int) ≤ (L : Int)) = true := decide_eq_true h2i
       have h2n : decide (tk ≤ L) = true := decide_eq_true h2
       have E : Hid (RV = 9) := by show _ = _; rw [HRV.out, if_pos h2]
       clear HRV
       go_wp2
       go_ret
       exact ⟨by rw [E.out]; rfl, (HD.out _ hb6).1⟩
      ·have h2i : ¬ (tk : Int) ≤ (L : Int) := by omega
       have h2d : decide ((tk : Int) ≤ (L : Int)) = false := decide_eq_false h2i
       have h2n : decide (tk ≤ L) = false := decide_eq_false h2
       have E : Hid (RV = 0) := by show _ = _; rw [HRV.out, if_neg h2]
       clear HRV
       go_wp2
       go_ret
       exact ⟨by rw [E.out]; rfl, (HD.out _ hb6).1⟩
    ·have h1d : (kd == 1) = false := by simpa using h1
     replace HRV : Hid (RV = if (!G || decide (ht ≠ ct)) = true then 4 else 0) := by show _ = _; rw [HRV.out, if_neg (by decide), if_neg (by decide), if_neg h1]
     clear h1 k5
     cases G with
     | false =>
      have E : Hid (RV = 4) := by show _ = _; rw [HRV.out]; rfl
      clear HRV
      go_wp2
      go_ret
      exact ⟨by rw [E.out]; rfl, (HD.out _ hb6).1⟩
     | true =>
      by_cases h2 : ht = ct
      ·have h2d : ((ht : Int) != (ct : Int)) = false := by simp [h2]
       have E : Hid (RV = 0) := by show _ = _; rw [HRV.out, if_neg (by simp [h2])]
       clear HRV h2
       go_wp2
       go_ret
       exact ⟨by rw [E.out]; rfl, (HD.out _ hb6).1⟩
      ·have h2d : ((ht : Int) != (ct : Int)) = true := by rw [bne_iff_ne]; omega
       have E : Hid (RV = 4) := by show _ = _; rw [HRV.out, if_pos (by simp [h2])]
       clear HRV h2
       go_wp2
       go_ret
       exact ⟨by rw [E.out]; rfl, (HD.out _ hb6).1⟩
end Go.Proofs.YtfpbgfmnjpamlaaGreat

