import Derived.Test.YtglbjimpaoikfaaHx29
/- Ask, Tell of txn, and the document's. -/
namespace Go.Proofs.Ytglbjimpaoikfaa
open Go.RowKit LeaseMath
set_option maxRecDepth 100000
set_option linter.unusedSimpArgs false
set_option linter.unusedVariables false

def askM (x : Tx) : List Int := if okX x = true ∧ x.state = 1 ∧ x.token ≠ 0 then lack x.yes x.groups else []
def tellM (x : Tx) : List Int := if okX x = true ∧ (x.state = 2 ∨ x.state = 3) then lack x.done x.groups else []
theorem okX_state {x : Tx} (h : okX x = true) : x.state = 1 ∨ x.state = 2 ∨ x.state = 3 ∨ x.state = 4 := by
 unfold okX at h
 rw [Bool.and_eq_true] at h
 have h2 := h.2
 unfold stateB at h2
 by_cases h1 : x.state = 1
 ·exact .inl h1
 by_cases h2' : x.state = 2
 ·exact .inr (.inl h2')
 by_cases h3 : x.state = 3
 ·exact .inr (.inr (.inl h3))
 by_cases h4 : x.state = 4
 ·exact .inr (.inr (.inr h4))
 rw [if_neg h1, if_neg h2', if_neg h3, if_neg h4] at h2
 cases h2
set_option maxHeartbeats 4000000 in
theorem ask_of (z : Xz) (w : World) (hR : XR w z) (gk : z.t.keys.length ≤ 1000000) (g1 : z.t.groups.length ≤ 1000000) (g2 : z.t.yes.length ≤ 1000000) (g3 : z.t.done.length ≤ 1000000) : Calls Try.prog 15 #[xv z] w fun e w' => ∃ v, e = .returned v ∧ Ow intE 3 w.heap.size w' v (askM z.t) ∧ Below w.heap.size w w' := by
 obtain ⟨L, HL⟩ : ∃ L, Hid (L = askM z.t) := ⟨_, rfl⟩
 rw [← HL.out]
 obtain ⟨hs, hb, cl⟩ := x_boxC w z
 have BW : ∀ W, Below (w.heap.size + 1) (w.alloc (xc z)) W → Below w.heap.size w W := fun W hW => hb.trans (hW.mono (Nat.le_succ _))
 have hsz : Hid (w.heap.size + 1 ≤ (w.alloc (xc z)).heap.size) := by show _ ≤ _; omega
 have hx0 : Below (w.heap.size + 1) (w.alloc (xc z)) (w.alloc (xc z)) := Below.refl _ _
 obtain ⟨c0, c1, c2, c3, c4, c5, c6, c7, c8, c9, c10⟩ := cells11 (cl _ hx0)
 have k1 : Hid (∀ W, Below (w.heap.size + 1) (w.alloc (xc z)) W → _) := fun W hW => xcheck_of z W (hR.below (BW W hW)) gk (by omega) (by omega) (by omega)
 have k2 : Hid (∀ W, Below (w.heap.size + 1) (w.alloc (xc z)) W → _) := fun W hW => without_of z.t.yes z.t.groups _ _ W (hR.2.2.1.below (BW W hW)) (hR.2.1.below (BW W hW)) g2 g1
 have hok := @okX_state z.t
 unfold askM at HL
 replace cl : Hid (∀ W, Below (w.heap.size + 1) (w.alloc (xc z)) W → W.heap[w.heap.size]? = some (xc z)) := cl
 generalize okX z.t = b at *
 obtain ⟨LL, HLL⟩ : ∃ LL, LL = lack z.t.yes z.t.groups := ⟨_, rfl⟩
 rw [← HLL] at k2 HL
 clear HLL hR gk g1 g2 g3 hb hs
 obtain ⟨⟨⟨i1, i2⟩, kd, ks, tk, tt, gs, st, ys, ds, cd⟩, ⟨ka, kc⟩, ⟨ga, gc⟩, ⟨ya, yc⟩, ⟨da, dc⟩⟩ := z
 dsimp only [xv, xc] at *
 cases b with
 | false =>
  try simp only [Bool.false_eq_true, if_false] at k1
  have E : Hid (L = []) := by show _ = _; rw [HL.out]; rw [if_neg (by simp)]
  clear HL hok k2
  go_enter Try.func15, Try.ntmps15
  go_wp2_with fail
  refine (k1.out _ hx0).mono ?_
  rintro e w1 ⟨rfl, hbc⟩
  have hx1 := keep_step hx0 hsz.out hbc
  obtain ⟨c0, c1, c2, c3, c4, c5, c6, c7, c8, c9, c10⟩ := cells11 (cl.out w1 hx1)
  clear hbc
  go_wp2
  go_ret
  exact ⟨_, rfl, by rw [E.out]; exact Ow.nil _ _ _ _, BW _ hx1⟩
 | true =>
  try simp only [if_true] at k1
  by_cases h1 : st = 1
  ·have h1d : (st != 1) = false := by simp [h1]
   by_cases h2 : tk = 0
   ·have h2d : ((tk : Int) == 0) = true := by simp [h2]
    have E : Hid (L = []) := by show _ = _; rw [HL.out]; rw [if_neg (fun h => h.2.2 h2)]
    clear HL hok k2 h1 h2
    go_enter Try.func15, Try.ntmps15
    go_wp2_with fail
    refine (k1.out _ hx0).mono ?_
    rintro e w1 ⟨rfl, hbc⟩
    have hx1 := keep_step hx0 hsz.out hbc
    obtain ⟨c0, c1, c2, c3, c4, c5, c6, c7, c8, c9, c10⟩ := cells11 (cl.out w1 hx1)
    clear hbc
    go_wp2
    go_ret
    exact ⟨_, rfl, by rw [E.out]; exact Ow.nil _ _ _ _, BW _ hx1⟩
   ·have h2d : ((tk : Int) == 0) = false := by simpa using h2
    have E : Hid (L = LL) := by show _ = _; rw [HL.out]; rw [if_pos ⟨rfl, h1, h2⟩]
    clear HL hok h1 h2
    go_enter Try.func15, Try.ntmps15
    go_wp2_with fail
    refine (k1.out _ hx0).mono ?_
    rintro e w1 ⟨rfl, hbc⟩
    have hx1 := keep_step hx0 hsz.out hbc
    obtain ⟨c0, c1, c2, c3, c4, c5, c6, c7, c8, c9, c10⟩ := cells11 (cl.out w1 hx1)
    clear hbc
    go_wp2_with fail
    refine (k2.out _ hx1).mono ?_
    rintro e wv ⟨v, rfl, hO, hbc⟩
    have hxv := keep_step hx1 hsz.out hbc
    have hO' : Hid (Ow intE 3 w.heap.size wv v L) := by show Ow _ _ _ _ _ _; rw [E.out]; exact hO.mono (BW _ hx1).size
    obtain ⟨va, vc, rfl, -⟩ := hO.1.shape
    clear hO hbc
    go_wp2
    go_ret
    exact ⟨_, rfl, hO'.out, BW _ hxv⟩
  ·have h1d : (st != 1) = true := by simpa using h1
   have E : Hid (L = []) := by show _ = _; rw [HL.out]; rw [if_neg (fun h => h1 h.2.1)]
   clear HL hok k2 h1
   go_enter Try.func15, Try.ntmps15
   go_wp2_with fail
   refine (k1.out _ hx0).mono ?_
   rintro e w1 ⟨rfl, hbc⟩
   have hx1 := keep_step hx0 hsz.out hbc
   obtain ⟨c0, c1, c2, c3, c4, c5, c6, c7, c8, c9, c10⟩ := cells11 (cl.out w1 hx1)
   clear hbc
   go_wp2
   go_ret
   exact ⟨_, rfl, by rw [E.out]; exact Ow.nil _ _ _ _, BW _ hx1⟩
set_option maxHeartbeats 4000000 in
theorem rask_of (z : Xz) (w : World) (hR : XR w z) (gk : z.t.keys.length ≤ 1000000) (g1 : z.t.groups.length ≤ 1000000) (g2 : z.t.yes.length ≤ 1000000) (g3 : z.t.done.length ≤ 1000000) : Calls Try.prog 16 #[xv z] w fun e w' => ∃ v, e = .returned v ∧ Ow intE 3 w.heap.size w' v (askM z.t) ∧ Below w.heap.size w w' := by
 obtain ⟨L, HL⟩ : ∃ L, Hid (L = askM z.t) := ⟨_, rfl⟩
 rw [← HL.out]
 obtain ⟨hs, hb, cl⟩ := x_boxC w z
 have BW : ∀ W, Below (w.heap.size + 1) (w.alloc (xc z)) W → Below w.heap.size w W := fun W hW => hb.trans (hW.mono (Nat.le_succ _))
 have hsz : Hid (w.heap.size + 1 ≤ (w.alloc (xc z)).heap.size) := by show _ ≤ _; omega
 have hx0 : Below (w.heap.size + 1) (w.alloc (xc z)) (w.alloc (xc z)) := Below.refl _ _
 obtain ⟨c0, c1, c2, c3, c4, c5, c6, c7, c8, c9, c10⟩ := cells11 (cl _ hx0)
 have k1 : Hid (∀ W, Below (w.heap.size + 1) (w.alloc (xc z)) W → _) := fun W hW => rmay_of z W (hR.below (BW W hW)) gk (by omega) (by omega) (by omega)
 have k2 : Hid (∀ W, Below (w.heap.size + 1) (w.alloc (xc z)) W → _) := fun W hW => rbut_of z.t.yes z.t.groups _ _ W (hR.2.2.1.below (BW W hW)) (hR.2.1.below (BW W hW)) g2 g1
 have hok := @okX_state z.t
 unfold askM at HL
 replace cl : Hid (∀ W, Below (w.heap.size + 1) (w.alloc (xc z)) W → W.heap[w.heap.size]? = some (xc z)) := cl
 generalize okX z.t = b at *
 obtain ⟨LL, HLL⟩ : ∃ LL, LL = lack z.t.yes z.t.groups := ⟨_, rfl⟩
 rw [← HLL] at k2 HL
 clear HLL hR gk g1 g2 g3 hb hs
 obtain ⟨⟨⟨i1, i2⟩, kd, ks, tk, tt, gs, st, ys, ds, cd⟩, ⟨ka, kc⟩, ⟨ga, gc⟩, ⟨ya, yc⟩, ⟨da, dc⟩⟩ := z
 dsimp only [xv, xc] at *
 cases b with
 | false =>
  try simp only [Bool.false_eq_true, if_false] at k1
  have E : Hid (L = []) := by show _ = _; rw [HL.out]; rw [if_neg (by simp)]
  clear HL hok k2
  go_enter Try.func16, Try.ntmps16
  go_wp2_with fail
  refine (k1.out _ hx0).mono ?_
  rintro e w1 ⟨rfl, hbc⟩
  have hx1 := keep_step hx0 hsz.out hbc
  obtain ⟨c0, c1, c2, c3, c4, c5, c6, c7, c8, c9, c10⟩ := cells11 (cl.out w1 hx1)
  clear hbc
  go_wp2
  go_ret
  exact ⟨_, rfl, by rw [E.out]; exact Ow.nil _ _ _ _, BW _ hx1⟩
 | true =>
  try simp only [if_true] at k1
  by_cases h1 : st = 1
  ·have h1d : (st != 1) = false := by simp [h1]
   by_cases h2 : tk = 0
   ·have h2d : ((tk : Int) == 0) = true := by simp [h2]
    have E : Hid (L = []) := by show _ = _; rw [HL.out]; rw [if_neg (fun h => h.2.2 h2)]
    clear HL hok k2 h1 h2
    go_enter Try.func16, Try.ntmps16
    go_wp2_with fail
    refine (k1.out _ hx0).mono ?_
    rintro e w1 ⟨rfl, hbc⟩
    have hx1 := keep_step hx0 hsz.out hbc
    obtain ⟨c0, c1, c2, c3, c4, c5, c6, c7, c8, c9, c10⟩ := cells11 (cl.out w1 hx1)
    clear hbc
    go_wp2
    go_ret
    exact ⟨_, rfl, by rw [E.out]; exact Ow.nil _ _ _ _, BW _ hx1⟩
   ·have h2d : ((tk : Int) == 0) = false := by simpa using h2
    have E : Hid (L = LL) := by show _ = _; rw [HL.out]; rw [if_pos ⟨rfl, h1, h2⟩]
    clear HL hok h1 h2
    go_enter Try.func16, Try.ntmps16
    go_wp2_with fail
    refine (k1.out _ hx0).mono ?_
    rintro e w1 ⟨rfl, hbc⟩
    have hx1 := keep_step hx0 hsz.out hbc
    obtain ⟨c0, c1, c2, c3, c4, c5, c6, c7, c8, c9, c10⟩ := cells11 (cl.out w1 hx1)
    clear hbc
    go_wp2_with fail
    refine (k2.out _ hx1).mono ?_
    rintro e wv ⟨v, rfl, hO, hbc⟩
    have hxv := keep_step hx1 hsz.out hbc
    have hO' : Hid (Ow intE 3 w.heap.size wv v L) := by show Ow _ _ _ _ _ _; rw [E.out]; exact hO.mono (BW _ hx1).size
    obtain ⟨va, vc, rfl, -⟩ := hO.1.shape
    clear hO hbc
    go_wp2
    go_ret
    exact ⟨_, rfl, hO'.out, BW _ hxv⟩
  ·have h1d : (st != 1) = true := by simpa using h1
   have E : Hid (L = []) := by show _ = _; rw [HL.out]; rw [if_neg (fun h => h1 h.2.1)]
   clear HL hok k2 h1
   go_enter Try.func16, Try.ntmps16
   go_wp2_with fail
   refine (k1.out _ hx0).mono ?_
   rintro e w1 ⟨rfl, hbc⟩
   have hx1 := keep_step hx0 hsz.out hbc
   obtain ⟨c0, c1, c2, c3, c4, c5, c6, c7, c8, c9, c10⟩ := cells11 (cl.out w1 hx1)
   clear hbc
   go_wp2
   go_ret
   exact ⟨_, rfl, by rw [E.out]; exact Ow.nil _ _ _ _, BW _ hx1⟩
set_option maxHeartbeats 4000000 in
theorem tell_of (z : Xz) (w : World) (hR : XR w z) (gk : z.t.keys.length ≤ 1000000) (g1 : z.t.groups.length ≤ 1000000) (g2 : z.t.yes.length ≤ 1000000) (g3 : z.t.done.length ≤ 1000000) : Calls Try.prog 17 #[xv z] w fun e w' => ∃ v, e = .returned v ∧ Ow intE 3 w.heap.size w' v (tellM z.t) ∧ Below w.heap.size w w' := by
 obtain ⟨L, HL⟩ : ∃ L, Hid (L = tellM z.t) := ⟨_, rfl⟩
 rw [← HL.out]
 obtain ⟨hs, hb, cl⟩ := x_boxC w z
 have BW : ∀ W, Below (w.heap.size + 1) (w.alloc (xc z)) W → Below w.heap.size w W := fun W hW => hb.trans (hW.mono (Nat.le_succ _))
 have hsz : Hid (w.heap.size + 1 ≤ (w.alloc (xc z)).heap.size) := by show _ ≤ _; omega
 have hx0 : Below (w.heap.size + 1) (w.alloc (xc z)) (w.alloc (xc z)) := Below.refl _ _
 obtain ⟨c0, c1, c2, c3, c4, c5, c6, c7, c8, c9, c10⟩ := cells11 (cl _ hx0)
 have k1 : Hid (∀ W, Below (w.heap.size + 1) (w.alloc (xc z)) W → _) := fun W hW => xcheck_of z W (hR.below (BW W hW)) gk (by omega) (by omega) (by omega)
 have k2 : Hid (∀ W, Below (w.heap.size + 1) (w.alloc (xc z)) W → _) := fun W hW => without_of z.t.done z.t.groups _ _ W (hR.2.2.2.below (BW W hW)) (hR.2.1.below (BW W hW)) g3 g1
 have k3 : Hid (∀ W : World, _) := fun W => told_of z W
 have hok := @okX_state z.t
 unfold tellM at HL
 replace cl : Hid (∀ W, Below (w.heap.size + 1) (w.alloc (xc z)) W → W.heap[w.heap.size]? = some (xc z)) := cl
 generalize okX z.t = b at *
 obtain ⟨LL, HLL⟩ : ∃ LL, LL = lack z.t.done z.t.groups := ⟨_, rfl⟩
 rw [← HLL] at k2 HL
 clear HLL hR gk g1 g2 g3 hb hs
 obtain ⟨⟨⟨i1, i2⟩, kd, ks, tk, tt, gs, st, ys, ds, cd⟩, ⟨ka, kc⟩, ⟨ga, gc⟩, ⟨ya, yc⟩, ⟨da, dc⟩⟩ := z
 dsimp only [xv, xc] at *
 cases b with
 | false =>
  try simp only [Bool.false_eq_true, if_false] at k1
  have E : Hid (L = []) := by show _ = _; rw [HL.out]; rw [if_neg (by simp)]
  clear HL hok k2 k3
  go_enter Try.func17, Try.ntmps17
  go_wp2_with fail
  refine (k1.out _ hx0).mono ?_
  rintro e w1 ⟨rfl, hbc⟩
  have hx1 := keep_step hx0 hsz.out hbc
  obtain ⟨c0, c1, c2, c3, c4, c5, c6, c7, c8, c9, c10⟩ := cells11 (cl.out w1 hx1)
  clear hbc
  go_wp2
  go_ret
  exact ⟨_, rfl, by rw [E.out]; exact Ow.nil _ _ _ _, BW _ hx1⟩
 | true =>
  try simp only [if_true] at k1
  by_cases h1 : st = 2 ∨ st = 3
  ·have ht : (decide (st = 2) || decide (st = 3)) = true := by simpa using h1
   rw [ht] at k3
   have E : Hid (L = LL) := by show _ = _; rw [HL.out]; rw [if_pos ⟨rfl, h1⟩]
   clear HL hok h1 ht
   go_enter Try.func17, Try.ntmps17
   go_wp2_with fail
   refine (k1.out _ hx0).mono ?_
   rintro e w1 ⟨rfl, hbc⟩
   have hx1 := keep_step hx0 hsz.out hbc
   obtain ⟨c0, c1, c2, c3, c4, c5, c6, c7, c8, c9, c10⟩ := cells11 (cl.out w1 hx1)
   clear hbc
   go_wp2_with fail
   refine (k3.out _).mono ?_
   rintro e w2 ⟨rfl, hbc⟩
   have hx2 := keep_step hx1 hsz.out hbc
   obtain ⟨c0, c1, c2, c3, c4, c5, c6, c7, c8, c9, c10⟩ := cells11 (cl.out w2 hx2)
   clear hbc
   go_wp2_with fail
   refine (k2.out _ hx2).mono ?_
   rintro e wv ⟨v, rfl, hO, hbc⟩
   have hxv := keep_step hx2 hsz.out hbc
   have hO' : Hid (Ow intE 3 w.heap.size wv v L) := by show Ow _ _ _ _ _ _; rw [E.out]; exact hO.mono (BW _ hx2).size
   obtain ⟨va, vc, rfl, -⟩ := hO.1.shape
   clear hO hbc
   go_wp2
   go_ret
   exact ⟨_, rfl, hO'.out, BW _ hxv⟩
  ·have ht : (decide (st = 2) || decide (st = 3)) = false := by simpa using h1
   rw [ht] at k3
   have E : Hid (L = []) := by show _ = _; rw [HL.out]; rw [if_neg (fun h => h1 h.2)]
   clear HL hok k2 h1 ht
   go_enter Try.func17, Try.ntmps17
   go_wp2_with fail
   refine (k1.out _ hx0).mono ?_
   rintro e w1 ⟨rfl, hbc⟩
   have hx1 := keep_step hx0 hsz.out hbc
   obtain ⟨c0, c1, c2, c3, c4, c5, c6, c7, c8, c9, c10⟩ := cells11 (cl.out w1 hx1)
   clear hbc
   go_wp2_with fail
   refine (k3.out _).mono ?_
   rintro e w2 ⟨rfl, hbc⟩
   have hx2 := keep_step hx1 hsz.out hbc
   obtain ⟨c0, c1, c2, c3, c4, c5, c6, c7, c8, c9, c10⟩ := cells11 (cl.out w2 hx2)
   clear hbc
   go_wp2
   go_ret
   exact ⟨_, rfl, by rw [E.out]; exact Ow.nil _ _ _ _, BW _ hx2⟩
set_option maxHeartbeats 4000000 in
theorem rtell_of (z : Xz) (w : World) (hR : XR w z) (gk : z.t.keys.length ≤ 1000000) (g1 : z.t.groups.length ≤ 1000000) (g2 : z.t.yes.length ≤ 1000000) (g3 : z.t.done.length ≤ 1000000) : Calls Try.prog 18 #[xv z] w fun e w' => ∃ v, e = .returned v ∧ Ow intE 3 w.heap.size w' v (tellM z.t) ∧ Below w.heap.size w w' := by
 obtain ⟨L, HL⟩ : ∃ L, Hid (L = tellM z.t) := ⟨_, rfl⟩
 rw [← HL.out]
 obtain ⟨hs, hb, cl⟩ := x_boxC w z
 have BW : ∀ W, Below (w.heap.size + 1) (w.alloc (xc z)) W → Below w.heap.size w W := fun W hW => hb.trans (hW.mono (Nat.le_succ _))
 have hsz : Hid (w.heap.size + 1 ≤ (w.alloc (xc z)).heap.size) := by show _ ≤ _; omega
 have hx0 : Below (w.heap.size + 1) (w.alloc (xc z)) (w.alloc (xc z)) := Below.refl _ _
 obtain ⟨c0, c1, c2, c3, c4, c5, c6, c7, c8, c9, c10⟩ := cells11 (cl _ hx0)
 have k1 : Hid (∀ W, Below (w.heap.size + 1) (w.alloc (xc z)) W → _) := fun W hW => rmay_of z W (hR.below (BW W hW)) gk (by omega) (by omega) (by omega)
 have k2 : Hid (∀ W, Below (w.heap.size + 1) (w.alloc (xc z)) W → _) := fun W hW => rbut_of z.t.done z.t.groups _ _ W (hR.2.2.2.below (BW W hW)) (hR.2.1.below (BW W hW)) g3 g1
 have hok := @okX_state z.t
 unfold tellM at HL
 replace cl : Hid (∀ W, Below (w.heap.size + 1) (w.alloc (xc z)) W → W.heap[w.heap.size]? = some (xc z)) := cl
 generalize okX z.t = b at *
 obtain ⟨LL, HLL⟩ : ∃ LL, LL = lack z.t.done z.t.groups := ⟨_, rfl⟩
 rw [← HLL] at k2 HL
 clear HLL hR gk g1 g2 g3 hb hs
 obtain ⟨⟨⟨i1, i2⟩, kd, ks, tk, tt, gs, st, ys, ds, cd⟩, ⟨ka, kc⟩, ⟨ga, gc⟩, ⟨ya, yc⟩, ⟨da, dc⟩⟩ := z
 dsimp only [xv, xc] at *
 cases b with
 | false =>
  try simp only [Bool.false_eq_true, if_false] at k1
  have E : Hid (L = []) := by show _ = _; rw [HL.out]; rw [if_neg (by simp)]
  clear HL hok k2
  go_enter Try.func18, Try.ntmps18
  go_wp2_with fail
  refine (k1.out _ hx0).mono ?_
  rintro e w1 ⟨rfl, hbc⟩
  have hx1 := keep_step hx0 hsz.out hbc
  obtain ⟨c0, c1, c2, c3, c4, c5, c6, c7, c8, c9, c10⟩ := cells11 (cl.out w1 hx1)
  clear hbc
  go_wp2
  go_ret
  exact ⟨_, rfl, by rw [E.out]; exact Ow.nil _ _ _ _, BW _ hx1⟩
 | true =>
  try simp only [if_true] at k1
  by_cases h1 : st = 1
  ·have h1d : (st == 1) = true := by simp [h1]
   have E : Hid (L = []) := by show _ = _; rw [HL.out]; rw [if_neg (fun h => by have := h.2; omega)]
   clear HL hok k2 h1
   go_enter Try.func18, Try.ntmps18
   go_wp2_with fail
   refine (k1.out _ hx0).mono ?_
   rintro e w1 ⟨rfl, hbc⟩
   have hx1 := keep_step hx0 hsz.out hbc
   obtain ⟨c0, c1, c2, c3, c4, c5, c6, c7, c8, c9, c10⟩ := cells11 (cl.out w1 hx1)
   clear hbc
   go_wp2
   go_ret
   exact ⟨_, rfl, by rw [E.out]; exact Ow.nil _ _ _ _, BW _ hx1⟩
  ·have h1d : (st == 1) = false := by simpa using h1
   by_cases h2 : st = 4
   ·have h2d : (st == 4) = true := by simp [h2]
    have E : Hid (L = []) := by show _ = _; rw [HL.out]; rw [if_neg (fun h => by have := h.2; omega)]
    clear HL hok k2 h1 h2
    go_enter Try.func18, Try.ntmps18
    go_wp2_with fail
    refine (k1.out _ hx0).mono ?_
    rintro e w1 ⟨rfl, hbc⟩
    have hx1 := keep_step hx0 hsz.out hbc
    obtain ⟨c0, c1, c2, c3, c4, c5, c6, c7, c8, c9, c10⟩ := cells11 (cl.out w1 hx1)
    clear hbc
    go_wp2
    go_ret
    exact ⟨_, rfl, by rw [E.out]; exact Ow.nil _ _ _ _, BW _ hx1⟩
   ·have h2d : (st == 4) = false := by simpa using h2
    have E : Hid (L = LL) := by show _ = _; rw [HL.out]; rw [if_pos ⟨rfl, by have := hok rfl; omega⟩]
    clear HL hok h1 h2
    go_enter Try.func18, Try.ntmps18
    go_wp2_with fail
    refine (k1.out _ hx0).mono ?_
    rintro e w1 ⟨rfl, hbc⟩
    have hx1 := keep_step hx0 hsz.out hbc
    obtain ⟨c0, c1, c2, c3, c4, c5, c6, c7, c8, c9, c10⟩ := cells11 (cl.out w1 hx1)
    clear hbc
    go_wp2_with fail
    refine (k2.out _ hx1).mono ?_
    rintro e wv ⟨v, rfl, hO, hbc⟩
    have hxv := keep_step hx1 hsz.out hbc
    have hO' : Hid (Ow intE 3 w.heap.size wv v L) := by show Ow _ _ _ _ _ _; rw [E.out]; exact hO.mono (BW _ hx1).size
    obtain ⟨va, vc, rfl, -⟩ := hO.1.shape
    clear hO hbc
    go_wp2
    go_ret
    exact ⟨_, rfl, hO'.out, BW _ hxv⟩
end Go.Proofs.Ytglbjimpaoikfaa

