import Derived.Test.YtglbjimpaoikfaaHe41
import Derived.Test.YtglbjimpaoikfaaHe29
/- The law's light and awake. -/
namespace Go.Proofs.Ytglbjimpaoikfaa
open Go.RowKit LeaseMath QuorumMath
set_option maxRecDepth 100000
set_option linter.unusedSimpArgs false
set_option linter.unusedVariables false

def aw0 : Tx := ⟨(0, 1), 1, [[97]], 0, 5, [1, 2], 1, [], [], 0⟩
def aw1 : Tx := ⟨(0, 1), 1, [[97]], 5, 5, [1, 2], 1, [], [], 0⟩
def aw2 : Tx := ⟨(0, 1), 1, [[97]], 5, 5, [1, 2], 1, [1], [], 0⟩
def aw3 : Tx := ⟨(0, 1), 1, [[97]], 5, 5, [1, 2], 2, [1, 2], [], 0⟩
def awC : Cl := ⟨1, [[97]], 0, 5⟩
theorem aw_begin : beginM (0, 1) awC [1, 2] = (aw0, 0) := by kernel_rfl
theorem aw_token : tokenM aw0 5 (allB aw0 aw0.yes) = (aw1, 0) := by kernel_rfl
theorem aw_v1 : agreeM (setY aw1 (aw1.yes.take 0 ++ [1] ++ aw1.yes.drop 0)) (allB (setY aw1 (aw1.yes.take 0 ++ [1] ++ aw1.yes.drop 0)) (aw1.yes.take 0 ++ [1] ++ aw1.yes.drop 0)) = aw2 := by kernel_rfl
theorem aw_v2 : agreeM (setY aw2 (aw2.yes.take 1 ++ [2] ++ aw2.yes.drop 1)) (allB (setY aw2 (aw2.yes.take 1 ++ [2] ++ aw2.yes.drop 1)) (aw2.yes.take 1 ++ [2] ++ aw2.yes.drop 1)) = aw3 := by kernel_rfl
theorem aw_reply : replyM aw3 = (0, 5, true) := by kernel_rfl
theorem aw_tell : tellM aw3 = [1, 2] := by kernel_rfl
theorem aw_ok1 : okX aw1 = true := by kernel_rfl
theorem aw_ok2 : okX aw2 = true := by kernel_rfl
theorem XO.xrA {n : Nat} {w : World} {z : Xz} (h : XO n w z) : XR w z := ⟨h.1.1.rd, h.2.1.1.rd, h.2.2.1.1.rd, h.2.2.2.1.rd⟩
theorem awB {W : World} {b c : Nat} (hb : W.heap[b]? = some (.cells #[.string { data := #[97] }] 9 (0, 0))) (hc : W.heap[c]? = some (.cells #[.int .i64 1, .int .i64 2] 3 (0, 0))) :
    Calls Try.prog 30 #[.agg #[.int .i64 0, .int .u64 1], .agg #[.int .i64 1, .slice (some ⟨b, 0, none⟩) 1 1, .int .u64 0, .int .i64 5], .slice (some ⟨c, 0, none⟩) 2 2] W fun e w' => (∃ (ka : Option Addr) (kc : Nat) (ga : Option Addr) (gc : Nat) (ya : Option Addr) (yc : Nat) (da : Option Addr) (dc : Nat), e = .returned (.tuple #[.agg #[.int .i64 0, .int .u64 1, .int .i64 1, .slice ka 1 kc, .int .u64 0, .int .i64 5, .slice ga 2 gc, .int .i64 1, .slice ya 0 yc, .slice da 0 dc, .int .i64 0], .int .i64 0]) ∧ XO W.heap.size w' ⟨aw0, (ka, kc), (ga, gc), (ya, yc), (da, dc)⟩) ∧ Below W.heap.size W w' := by
  have hK : Rd kyE W (.slice (some ⟨b, 0, none⟩) 1 1) awC.keys := (Rk.made (E := kyE) (xs := [([97] : K)]) hb rfl (by unfold maxLen; simp)).rd
  have hG : Rd intE W (.slice (some ⟨c, 0, none⟩) 2 2) [1, 2] := (Rk.made (E := intE) (xs := [1, 2]) hc rfl (by unfold maxLen; simp)).rd
  refine Calls.mono (begin_of (0, 1) awC (some ⟨b, 0, none⟩, 1) [1, 2] (some ⟨c, 0, none⟩, 2) W hK hG (by decide) (by decide)) ?_
  rintro e w' ⟨R, hR, ⟨⟨k1, k2⟩, ⟨g1, g2⟩, ⟨y1, y2⟩, ⟨d1, d2⟩, he, hO⟩, hB⟩
  obtain rfl : R = (aw0, 0) := hR.out.trans aw_begin
  exact ⟨⟨k1, k2, g1, g2, y1, y2, d1, d2, he, hO⟩, hB⟩
theorem awT {W : World} {ka : Option Addr} {kc : Nat} {ga : Option Addr} {gc : Nat} {ya : Option Addr} {yc : Nat} {da : Option Addr} {dc : Nat} (h : XR W ⟨aw0, (ka, kc), (ga, gc), (ya, yc), (da, dc)⟩) : Calls Try.prog 23 #[.agg #[.int .i64 0, .int .u64 1, .int .i64 1, .slice ka 1 kc, .int .u64 0, .int .i64 5, .slice ga 2 gc, .int .i64 1, .slice ya 0 yc, .slice da 0 dc, .int .i64 0], .int .u64 5] W fun e w' => (∃ (ka : Option Addr) (kc : Nat) (ga : Option Addr) (gc : Nat) (ya : Option Addr) (yc : Nat) (da : Option Addr) (dc : Nat), e = .returned (.tuple #[.agg #[.int .i64 0, .int .u64 1, .int .i64 1, .slice ka 1 kc, .int .u64 5, .int .i64 5, .slice ga 2 gc, .int .i64 1, .slice ya 0 yc, .slice da 0 dc, .int .i64 0], .int .i64 0]) ∧ XO W.heap.size w' ⟨aw1, (ka, kc), (ga, gc), (ya, yc), (da, dc)⟩) ∧ Below W.heap.size W w' := by
  refine Calls.mono (token_of ⟨aw0, (ka, kc), (ga, gc), (ya, yc), (da, dc)⟩ 5 W h (by show aw0.keys.length ≤ _; decide) (by show aw0.groups.length ≤ _; decide) (by show aw0.yes.length ≤ _; decide) (by show aw0.done.length ≤ _; decide)) ?_
  rintro e w' ⟨⟨⟨k1, k2⟩, ⟨g1, g2⟩, ⟨y1, y2⟩, ⟨d1, d2⟩, he, hO⟩, hB⟩
  rw [aw_token] at he hO
  exact ⟨⟨k1, k2, g1, g2, y1, y2, d1, d2, he, hO⟩, hB⟩
theorem awV1 {W : World} {ka : Option Addr} {kc : Nat} {ga : Option Addr} {gc : Nat} {ya : Option Addr} {yc : Nat} {da : Option Addr} {dc : Nat} (h : XR W ⟨aw1, (ka, kc), (ga, gc), (ya, yc), (da, dc)⟩) : Calls Try.prog 26 #[.agg #[.int .i64 0, .int .u64 1, .int .i64 1, .slice ka 1 kc, .int .u64 5, .int .i64 5, .slice ga 2 gc, .int .i64 1, .slice ya 0 yc, .slice da 0 dc, .int .i64 0], .int .i64 1, .int .i64 0] W fun e w' => (∃ (ka : Option Addr) (kc : Nat) (ga : Option Addr) (gc : Nat) (ya : Option Addr) (yc : Nat) (da : Option Addr) (dc : Nat), e = .returned (.tuple #[.agg #[.int .i64 0, .int .u64 1, .int .i64 1, .slice ka 1 kc, .int .u64 5, .int .i64 5, .slice ga 2 gc, .int .i64 1, .slice ya 1 yc, .slice da 0 dc, .int .i64 0], .int .i64 0]) ∧ XO W.heap.size w' ⟨aw2, (ka, kc), (ga, gc), (ya, yc), (da, dc)⟩) ∧ Below W.heap.size W w' := by
  have hS : Spot aw1.yes 1 0 := ⟨by decide, fun j x hj hx => by omega, fun j x hj hx => by simp [aw1] at hx⟩
  refine Calls.mono (voted_yes ⟨aw1, (ka, kc), (ga, gc), (ya, yc), (da, dc)⟩ 1 0 0 W h (by show aw1.keys.length ≤ _; decide) (by show aw1.groups.length ≤ _; decide) (by show aw1.yes.length ≤ _; decide) (by show aw1.done.length ≤ _; decide) hS (by show aw1.yes.Pairwise (· ≤ ·); decide) aw_ok1 (by show (1 : Int) ∈ aw1.groups; decide) (by show aw1.state = 1; decide) rfl (by show (1 : Int) ∉ aw1.yes; decide)) ?_
  rintro e w' ⟨⟨⟨k1, k2⟩, ⟨g1, g2⟩, ⟨y1, y2⟩, ⟨d1, d2⟩, he, hO⟩, hB⟩
  rw [aw_v1] at he hO
  exact ⟨⟨k1, k2, g1, g2, y1, y2, d1, d2, he, hO⟩, hB⟩
theorem awV2 {W : World} {ka : Option Addr} {kc : Nat} {ga : Option Addr} {gc : Nat} {ya : Option Addr} {yc : Nat} {da : Option Addr} {dc : Nat} (h : XR W ⟨aw2, (ka, kc), (ga, gc), (ya, yc), (da, dc)⟩) : Calls Try.prog 26 #[.agg #[.int .i64 0, .int .u64 1, .int .i64 1, .slice ka 1 kc, .int .u64 5, .int .i64 5, .slice ga 2 gc, .int .i64 1, .slice ya 1 yc, .slice da 0 dc, .int .i64 0], .int .i64 2, .int .i64 0] W fun e w' => (∃ (ka : Option Addr) (kc : Nat) (ga : Option Addr) (gc : Nat) (ya : Option Addr) (yc : Nat) (da : Option Addr) (dc : Nat), e = .returned (.tuple #[.agg #[.int .i64 0, .int .u64 1, .int .i64 1, .slice ka 1 kc, .int .u64 5, .int .i64 5, .slice ga 2 gc, .int .i64 2, .slice ya 2 yc, .slice da 0 dc, .int .i64 0], .int .i64 0]) ∧ XO W.heap.size w' ⟨aw3, (ka, kc), (ga, gc), (ya, yc), (da, dc)⟩) ∧ Below W.heap.size W w' := by
  have hS : Spot aw2.yes 2 1 := ⟨by decide, fun j x hj hx => by obtain rfl : j = 0 := (by omega); simp [aw2] at hx; omega, fun j x hj hx => by have := (List.getElem?_eq_some_iff.1 hx).1; simp [aw2] at this; omega⟩
  refine Calls.mono (voted_yes ⟨aw2, (ka, kc), (ga, gc), (ya, yc), (da, dc)⟩ 2 0 1 W h (by show aw2.keys.length ≤ _; decide) (by show aw2.groups.length ≤ _; decide) (by show aw2.yes.length ≤ _; decide) (by show aw2.done.length ≤ _; decide) hS (by show aw2.yes.Pairwise (· ≤ ·); decide) aw_ok2 (by show (2 : Int) ∈ aw2.groups; decide) (by show aw2.state = 1; decide) rfl (by show (2 : Int) ∉ aw2.yes; decide)) ?_
  rintro e w' ⟨⟨⟨k1, k2⟩, ⟨g1, g2⟩, ⟨y1, y2⟩, ⟨d1, d2⟩, he, hO⟩, hB⟩
  rw [aw_v2] at he hO
  exact ⟨⟨k1, k2, g1, g2, y1, y2, d1, d2, he, hO⟩, hB⟩
theorem awR {W : World} {ka : Option Addr} {kc : Nat} {ga : Option Addr} {gc : Nat} {ya : Option Addr} {yc : Nat} {da : Option Addr} {dc : Nat} (h : XR W ⟨aw3, (ka, kc), (ga, gc), (ya, yc), (da, dc)⟩) : Calls Try.prog 9 #[.agg #[.int .i64 0, .int .u64 1, .int .i64 1, .slice ka 1 kc, .int .u64 5, .int .i64 5, .slice ga 2 gc, .int .i64 2, .slice ya 2 yc, .slice da 0 dc, .int .i64 0]] W fun e w' => e = .returned (.tuple #[.agg #[.int .i64 0, .int .u64 5, .slice none 0 0], .bool true]) ∧ Below W.heap.size W w' := by
  have K := reply_of ⟨aw3, (ka, kc), (ga, gc), (ya, yc), (da, dc)⟩ W h (by show aw3.keys.length ≤ _; decide) (by show aw3.groups.length ≤ _; decide) (by show aw3.yes.length ≤ _; decide) (by show aw3.done.length ≤ _; decide)
  rw [aw_reply] at K
  exact K
theorem awL {W : World} {ka : Option Addr} {kc : Nat} {ga : Option Addr} {gc : Nat} {ya : Option Addr} {yc : Nat} {da : Option Addr} {dc : Nat} (h : XR W ⟨aw3, (ka, kc), (ga, gc), (ya, yc), (da, dc)⟩) : Calls Try.prog 17 #[.agg #[.int .i64 0, .int .u64 1, .int .i64 1, .slice ka 1 kc, .int .u64 5, .int .i64 5, .slice ga 2 gc, .int .i64 2, .slice ya 2 yc, .slice da 0 dc, .int .i64 0]] W fun e w' => (∃ a c, e = .returned (.slice a 2 c)) ∧ Below W.heap.size W w' := by
  refine Calls.mono (tell_of ⟨aw3, (ka, kc), (ga, gc), (ya, yc), (da, dc)⟩ W h (by show aw3.keys.length ≤ _; decide) (by show aw3.groups.length ≤ _; decide) (by show aw3.yes.length ≤ _; decide) (by show aw3.done.length ≤ _; decide)) ?_
  rintro e w' ⟨v, rfl, hO, hB⟩
  rw [aw_tell] at hO
  obtain ⟨a, c, rfl, -⟩ := hO.1.shape
  exact ⟨⟨a, c, rfl⟩, hB⟩
set_option maxHeartbeats 16000000 in
theorem awake_of (w : World) : Calls Try.prog 8 #[] w fun e w' => e = .returned (.bool true) ∧ Below w.heap.size w w' := by
  obtain ⟨q1, q2, q3, q4⟩ := two_boxesX w (.cells #[.string { data := #[97] }] 9) (.cells #[.int .i64 1, .int .i64 2] 3)
  have k1 := awB q2 q3
  clear q1 q2 q3
  go_enter Try.func8, Try.ntmps8
  go_wp2_with fail
  refine k1.mono ?_
  rintro e w1 ⟨⟨ka, kc, ga, gc, ya, yc, da, dc, rfl, O1⟩, h1⟩
  have b1 : Below w.heap.size w w1 := q4.trans (h1.mono q4.size)
  obtain ⟨s1, x1, p1⟩ := one_box w1 (.cells #[.int .i64 0, .int .u64 1, .int .i64 1, .slice ka 1 kc, .int .u64 0, .int .i64 5, .slice ga 2 gc, .int .i64 1, .slice ya 0 yc, .slice da 0 dc, .int .i64 0] 29)
  have B1 := b1.trans (p1.mono b1.size)
  have hn : Hid (w.heap.size ≤ w1.heap.size) := b1.size
  have k2 := awT (O1.below p1).xrA
  have l1 : Hid (w1.heap.size < (w1.alloc (.cells #[.int .i64 0, .int .u64 1, .int .i64 1, .slice ka 1 kc, .int .u64 0, .int .i64 5, .slice ga 2 gc, .int .i64 1, .slice ya 0 yc, .slice da 0 dc, .int .i64 0] 29)).heap.size) := by show _ < _; omega
  obtain ⟨c0, c1, c2, c3, c4, c5, c6, c7, c8, c9, c10⟩ := cells11 x1
  clear s1 p1 b1 h1 O1 k1 q4
  go_wp2_with fail
  refine k2.mono ?_
  rintro e w2 ⟨⟨ka, kc, ga, gc, ya, yc, da, dc, rfl, O2⟩, h2⟩
  have y2 := (h2.block w1.heap.size l1.out).trans x1
  have b2 := B1.trans (h2.mono B1.size)
  obtain ⟨e0, e1, e2, e3, e4, e5, e6, e7, e8, e9, e10⟩ := cells11 y2
  obtain ⟨f0, f1, f2, f3, f4, f5, f6, f7, f8, f9, f10⟩ := f_cells11 y2
  have X2 := set11_block y2 (.int .i64 0) (.int .u64 1) (.int .i64 1) (.slice ka 1 kc) (.int .u64 5) (.int .i64 5) (.slice ga 2 gc) (.int .i64 1) (.slice ya 0 yc) (.slice da 0 dc) (.int .i64 0)
  have B2 := set11_below (.int .i64 0) (.int .u64 1) (.int .i64 1) (.slice ka 1 kc) (.int .u64 5) (.int .i64 5) (.slice ga 2 gc) (.int .i64 1) (.slice ya 0 yc) (.slice da 0 dc) (.int .i64 0) (g := w1.heap.size) b2 hn.out
  have P2 := O2.at_other y2 (fun k hk => set11_other (.int .i64 0) (.int .u64 1) (.int .i64 1) (.slice ka 1 kc) (.int .u64 5) (.int .i64 5) (.slice ga 2 gc) (.int .i64 1) (.slice ya 0 yc) (.slice da 0 dc) (.int .i64 0) hk)
  obtain ⟨W2, hW2⟩ : ∃ W, set11 w2 w1.heap.size (.int .i64 0) (.int .u64 1) (.int .i64 1) (.slice ka 1 kc) (.int .u64 5) (.int .i64 5) (.slice ga 2 gc) (.int .i64 1) (.slice ya 0 yc) (.slice da 0 dc) (.int .i64 0) = W := ⟨_, rfl⟩
  rw [hW2] at X2 B2 P2
  unfold set11 at hW2
  have l2 : Hid (w1.heap.size < W2.heap.size) := (Array.getElem?_eq_some_iff.1 X2).1
  have k3 := awV1 P2.xrA
  
  obtain ⟨c0, c1, c2, c3, c4, c5, c6, c7, c8, c9, c10⟩ := cells11 X2
  clear k2 h2 b2 O2 y2 x1 B1 P2
  go_wp2_with fail
  refine k3.mono ?_
  rintro e w3 ⟨⟨ka, kc, ga, gc, ya, yc, da, dc, rfl, O3⟩, h3⟩
  have y3 := (h3.block w1.heap.size l2.out).trans X2
  have b3 := B2.trans (h3.mono B2.size)
  obtain ⟨e0, e1, e2, e3, e4, e5, e6, e7, e8, e9, e10⟩ := cells11 y3
  obtain ⟨f0, f1, f2, f3, f4, f5, f6, f7, f8, f9, f10⟩ := f_cells11 y3
  have X3 := set11_block y3 (.int .i64 0) (.int .u64 1) (.int .i64 1) (.slice ka 1 kc) (.int .u64 5) (.int .i64 5) (.slice ga 2 gc) (.int .i64 1) (.slice ya 1 yc) (.slice da 0 dc) (.int .i64 0)
  have B3 := set11_below (.int .i64 0) (.int .u64 1) (.int .i64 1) (.slice ka 1 kc) (.int .u64 5) (.int .i64 5) (.slice ga 2 gc) (.int .i64 1) (.slice ya 1 yc) (.slice da 0 dc) (.int .i64 0) (g := w1.heap.size) b3 hn.out
  have P3 := O3.at_other y3 (fun k hk => set11_other (.int .i64 0) (.int .u64 1) (.int .i64 1) (.slice ka 1 kc) (.int .u64 5) (.int .i64 5) (.slice ga 2 gc) (.int .i64 1) (.slice ya 1 yc) (.slice da 0 dc) (.int .i64 0) hk)
  obtain ⟨W3, hW3⟩ : ∃ W, set11 w3 w1.heap.size (.int .i64 0) (.int .u64 1) (.int .i64 1) (.slice ka 1 kc) (.int .u64 5) (.int .i64 5) (.slice ga 2 gc) (.int .i64 1) (.slice ya 1 yc) (.slice da 0 dc) (.int .i64 0) = W := ⟨_, rfl⟩
  rw [hW3] at X3 B3 P3
  unfold set11 at hW3
  have l3 : Hid (w1.heap.size < W3.heap.size) := (Array.getElem?_eq_some_iff.1 X3).1
  have k4 := awV2 P3.xrA
  
  obtain ⟨c0, c1, c2, c3, c4, c5, c6, c7, c8, c9, c10⟩ := cells11 X3
  clear k3 h3 b3 O3 y3 X2 B2 P3
  go_wp2_with fail
  refine k4.mono ?_
  rintro e w4 ⟨⟨ka, kc, ga, gc, ya, yc, da, dc, rfl, O4⟩, h4⟩
  have y4 := (h4.block w1.heap.size l3.out).trans X3
  have b4 := B3.trans (h4.mono B3.size)
  obtain ⟨e0, e1, e2, e3, e4, e5, e6, e7, e8, e9, e10⟩ := cells11 y4
  obtain ⟨f0, f1, f2, f3, f4, f5, f6, f7, f8, f9, f10⟩ := f_cells11 y4
  have X4 := set11_block y4 (.int .i64 0) (.int .u64 1) (.int .i64 1) (.slice ka 1 kc) (.int .u64 5) (.int .i64 5) (.slice ga 2 gc) (.int .i64 2) (.slice ya 2 yc) (.slice da 0 dc) (.int .i64 0)
  have B4 := set11_below (.int .i64 0) (.int .u64 1) (.int .i64 1) (.slice ka 1 kc) (.int .u64 5) (.int .i64 5) (.slice ga 2 gc) (.int .i64 2) (.slice ya 2 yc) (.slice da 0 dc) (.int .i64 0) (g := w1.heap.size) b4 hn.out
  have P4 := O4.at_other y4 (fun k hk => set11_other (.int .i64 0) (.int .u64 1) (.int .i64 1) (.slice ka 1 kc) (.int .u64 5) (.int .i64 5) (.slice ga 2 gc) (.int .i64 2) (.slice ya 2 yc) (.slice da 0 dc) (.int .i64 0) hk)
  obtain ⟨W4, hW4⟩ : ∃ W, set11 w4 w1.heap.size (.int .i64 0) (.int .u64 1) (.int .i64 1) (.slice ka 1 kc) (.int .u64 5) (.int .i64 5) (.slice ga 2 gc) (.int .i64 2) (.slice ya 2 yc) (.slice da 0 dc) (.int .i64 0) = W := ⟨_, rfl⟩
  rw [hW4] at X4 B4 P4
  unfold set11 at hW4
  have l4 : Hid (w1.heap.size < W4.heap.size) := (Array.getElem?_eq_some_iff.1 X4).1
  have k5 := awR P4.xrA
  have P4z : Hid (XO _ _ ⟨aw3, (ka, kc), (ga, gc), (ya, yc), (da, dc)⟩) := P4
  obtain ⟨c0, c1, c2, c3, c4, c5, c6, c7, c8, c9, c10⟩ := cells11 X4
  clear k4 h4 b4 O4 y4 X3 B3 P4
  go_wp2_with fail
  refine k5.mono ?_
  rintro e w5 ⟨rfl, h5⟩
  have x5 := (h5.block w1.heap.size l4.out).trans X4
  have b5 := B4.trans (h5.mono B4.size)
  obtain ⟨s6, r6, p6⟩ := one_box w5 (.cells #[.int .i64 0, .int .u64 5, .slice none 0 0] 34)
  have x6 := (p6.block w1.heap.size (Array.getElem?_eq_some_iff.1 x5).1).trans x5
  have b6 := b5.trans (p6.mono b5.size)
  have P6 := XO.below (XO.below P4z.out h5) p6
  have k6 := awL P6.xrA
  obtain ⟨c0, c1, c2, c3, c4, c5, c6, c7, c8, c9, c10⟩ := cells11 x6
  obtain ⟨m0, m1, m2⟩ := cells3 r6
  clear k5 h5 x5 b5 s6 r6 p6 x6 P6 P4z X4 B4 l4
  go_wp2_with fail
  refine k6.mono ?_
  rintro e w7 ⟨⟨a, c, rfl⟩, h7⟩
  have b7 : Hid _ := b6.trans (h7.mono b6.size)
  clear k6 h7 b6
  go_wp2
  go_ret
  exact ⟨rfl, b7.out⟩
end Go.Proofs.Ytglbjimpaoikfaa

