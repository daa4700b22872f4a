import Derived.Test.YtglbjimpaoikfaaHe28
import Derived.Test.YtglbjimpaoikfaaHe22
/- Ask, Tell of txn, and the document's. -/
namespace Go.Proofs.Ytglbjimpaoikfaa
open Go.RowKit LeaseMath
set_option maxRecDepth 100000
set_option linter.unusedSimpArgs false
set_option linter.unusedVariables false

def askM (x : Tx) : List Int := if okX x = true ∧ x.state = 1 ∧ x.token ≠ 0 then lack x.yes x.groups else []
def tellM (x : Tx) : List Int := if okX x = true ∧ (x.state = 2 ∨ x.state = 3) then lack x.done x.groups else []
theorem okX_state {x : Tx} (h : okX x = true) : x.state = 1 ∨ x.state = 2 ∨ x.state = 3 ∨ x.state = 4 := by
  unfold okX at h
  rw [Bool.and_eq_true] at h
  have h2 := h.2
  unfold stateB at h2
  by_cases h1 : x.state = 1
  · exact .inl h1
  by_cases h2' : x.state = 2
  · exact .inr (.inl h2')
  by_cases h3 : x.state = 3
  · exact .inr (.inr (.inl h3))
  by_cases h4 : x.state = 4
  · exact .inr (.inr (.inr h4))
  rw [if_neg h1, if_neg h2', if_neg h3, if_neg h4] at h2
  cases h2
set_option maxHeartbeats 4000000 in
theorem ask_of (z : Xz) (w : World) (hR : XR w z) (gk : z.t.keys.length ≤ 1000000) (g1 : z.t.groups.length ≤ 1000000) (g2 : z.t.yes.length ≤ 1000000) (g3 : z.t.done.length ≤ 1000000) : Calls Try.prog 15 #[xv z] w fun e w' => ∃ v, e = .returned v ∧ Ow intE 3 w.heap.size w' v (askM z.t) ∧ Below w.heap.size w w' := by
  obtain ⟨L, HL⟩ : ∃ L, Hid (L = askM z.t) := ⟨_, rfl⟩
  rw [← HL.out]
  obtain ⟨hs, hb, cl⟩ := x_boxC w z
  have BW : ∀ W, Below (w.heap.size + 1) (w.alloc (xc z)) W → Below w.heap.size w W := fun W hW => hb.trans (hW.mono (Nat.le_succ _))
  have hsz : Hid (w.heap.size + 1 ≤ (w.alloc (xc z)).heap.size) := by show _ ≤ _; omega
  have hx0 : Below (w.heap.size + 1) (w.alloc (xc z)) (w.alloc (xc z)) := Below.refl _ _
  obtain ⟨c0, c1, c2, c3, c4, c5, c6, c7, c8, c9, c10⟩ := cells11 (cl _ hx0)
  have k1 : Hid (∀ W, Below (w.heap.size + 1) (w.alloc (xc z)) W → _) := fun W hW => xcheck_of z W (hR.below (BW W hW)) gk (by omega) (by omega) (by omega)
  have k2 : Hid (∀ W, Below (w.heap.size + 1) (w.alloc (xc z)) W → _) := fun W hW => without_of z.t.yes z.t.groups _ _ W (hR.2.2.1.below (BW W hW)) (hR.2.1.below (BW W hW)) g2 g1
  have hok := @okX_state z.t
  unfold askM at HL
  replace cl : Hid (∀ W, Below (w.heap.size + 1) (w.alloc (xc z)) W → W.heap[w.heap.size]? = some (xc z)) := cl
  generalize okX z.t = b at *
  obtain ⟨LL, HLL⟩ : ∃ LL, LL = lack z.t.yes z.t.groups := ⟨_, rfl⟩
  rw [← HLL] at k2 HL
  clear HLL hR gk g1 g2 g3 hb hs
  obtain ⟨⟨⟨i1, i2⟩, kd, ks, tk, tt, gs, st, ys, ds, cd⟩, ⟨ka, kc⟩, ⟨ga, gc⟩, ⟨ya, yc⟩, ⟨da, dc⟩⟩ := z
  dsimp only [xv, xc] at *
  cases b with
  | false =>
    try simp only [Bool.false_eq_true, if_false] at k1
    have E : Hid (L = []) := by show _ = _; rw [HL.out]; rw [if_neg (by simp)]
    clear HL hok k2
    go_enter Try.func15, Try.ntmps15
    go_wp2_with fail
    refine (k1.out _ hx0).mono ?_
    rintro e w1 ⟨rfl, hbc⟩
    have hx1 := keep_step hx0 hsz.out hbc
    obtain ⟨c0, c1, c2, c3, c4, c5, c6, c7, c8, c9, c10⟩ := cells11 (cl.out w1 hx1)
    clear hbc
    go_wp2
    go_ret
    exact ⟨_, rfl, by rw [E.out]; exact Ow.nil _ _ _ _, BW _ hx1⟩
  | true =>
    try simp only [if_true] at k1
    by_cases h1 : st = 1
    · have h1d : (st != 1) = false := by simp [h1]
      by_cases h2 : tk = 0
      · have h2d : ((tk : Int) == 0) = true := by simp [h2]
        have E : Hid (L = []) := by show _ = _; rw [HL.out]; rw [if_neg (fun h => h.2.2 h2)]
        clear HL hok k2 h1 h2
        go_enter Try.func15, Try.ntmps15
        go_wp2_with fail
        refine (k1.out _ hx0).mono ?_
        rintro e w1 ⟨rfl, hbc⟩
        have hx1 := keep_step hx0 hsz.out hbc
        obtain ⟨c0, c1, c2, c3, c4, c5, c6, c7, c8, c9, c10⟩ := cells11 (cl.out w1 hx1)
        clear hbc
        go_wp2
        go_ret
        exact ⟨_, rfl, by rw [E.out]; exact Ow.nil _ _ _ _, BW _ hx1⟩
      · have h2d : ((tk : Int) == 0) = false := by simpa using h2
        have E : Hid (L = LL) := by show _ = _; rw [HL.out]; rw [if_pos ⟨rfl, h1, h2⟩]
        clear HL hok h1 h2
        go_enter Try.func15, Try.ntmps15
        go_wp2_with fail
        refine (k1.out _ hx0).mono ?_
        rintro e w1 ⟨rfl, hbc⟩
        have hx1 := keep_step hx0 hsz.out hbc
        obtain ⟨c0, c1, c2, c3, c4, c5, c6, c7, c8, c9, c10⟩ := cells11 (cl.out w1 hx1)
        clear hbc
        go_wp2_with fail
        refine (k2.out _ hx1).mono ?_
        rintro e wv ⟨v, rfl, hO, hbc⟩
        have hxv := keep_step hx1 hsz.out hbc
        have hO' : Hid (Ow intE 3 w.heap.size wv v L) := by show Ow _ _ _ _ _ _; rw [E.out]; exact hO.mono (BW _ hx1).size
        obtain ⟨va, vc, rfl, -⟩ := hO.1.shape
        clear hO hbc
        go_wp2
        go_ret
        exact ⟨_, rfl, hO'.out, BW _ hxv⟩
    · have h1d : (st != 1) = true := by simpa using h1
      have E : Hid (L = []) := by show _ = _; rw [HL.out]; rw [if_neg (fun h => h1 h.2.1)]
      clear HL hok k2 h1
      go_enter Try.func15, Try.ntmps15
      go_wp2_with fail
      refine (k1.out _ hx0).mono ?_
      rintro e w1 ⟨rfl, hbc⟩
      have hx1 := keep_step hx0 hsz.out hbc
      obtain ⟨c0, c1, c2, c3, c4, c5, c6, c7, c8, c9, c10⟩ := cells11 (cl.out w1 hx1)
      clear hbc
      go_wp2
      go_ret
      exact ⟨_, rfl, by rw [E.out]; exact Ow.nil _ _ _ _, BW _ hx1⟩
set_option maxHeartbeats 4000000 in
theorem tell_of (z : Xz) (w : World) (hR : XR w z) (gk : z.t.keys.length ≤ 1000000) (g1 : z.t.groups.length ≤ 1000000) (g2 : z.t.yes.length ≤ 1000000) (g3 : z.t.done.length ≤ 1000000) : Calls Try.prog 17 #[xv z] w fun e w' => ∃ v, e = .returned v ∧ Ow intE 3 w.heap.size w' v (tellM z.t) ∧ Below w.heap.size w w' := by
  obtain ⟨L, HL⟩ : ∃ L, Hid (L = tellM z.t) := ⟨_, rfl⟩
  rw [← HL.out]
  obtain ⟨hs, hb, cl⟩ := x_boxC w z
  have BW : ∀ W, Below (w.heap.size + 1) (w.alloc (xc z)) W → Below w.heap.size w W := fun W hW => hb.trans (hW.mono (Nat.le_succ _))
  have hsz : Hid (w.heap.size + 1 ≤ (w.alloc (xc z)).heap.size) := by show _ ≤ _; omega
  have hx0 : Below (w.heap.size + 1) (w.alloc (xc z)) (w.alloc (xc z)) := Below.refl _ _
  obtain ⟨c0, c1, c2, c3, c4, c5, c6, c7, c8, c9, c10⟩ := cells11 (cl _ hx0)
  have k1 : Hid (∀ W, Below (w.heap.size + 1) (w.alloc (xc z)) W → _) := fun W hW => xcheck_of z W (hR.below (BW W hW)) gk (by omega) (by omega) (by omega)
  have k2 : Hid (∀ W, Below (w.heap.size + 1) (w.alloc (xc z)) W → _) := fun W hW => without_of z.t.done z.t.groups _ _ W (hR.2.2.2.below (BW W hW)) (hR.2.1.below (BW W hW)) g3 g1
  have k3 : Hid (∀ W : World, _) := fun W => told_of z W
  have hok := @okX_state z.t
  unfold tellM at HL
  replace cl : Hid (∀ W, Below (w.heap.size + 1) (w.alloc (xc z)) W → W.heap[w.heap.size]? = some (xc z)) := cl
  generalize okX z.t = b at *
  obtain ⟨LL, HLL⟩ : ∃ LL, LL = lack z.t.done z.t.groups := ⟨_, rfl⟩
  rw [← HLL] at k2 HL
  clear HLL hR gk g1 g2 g3 hb hs
  obtain ⟨⟨⟨i1, i2⟩, kd, ks, tk, tt, gs, st, ys, ds, cd⟩, ⟨ka, kc⟩, ⟨ga, gc⟩, ⟨ya, yc⟩, ⟨da, dc⟩⟩ := z
  dsimp only [xv, xc] at *
  cases b with
  | false =>
    try simp only [Bool.false_eq_true, if_false] at k1
    have E : Hid (L = []) := by show _ = _; rw [HL.out]; rw [if_neg (by simp)]
    clear HL hok k2 k3
    go_enter Try.func17, Try.ntmps17
    go_wp2_with fail
    refine (k1.out _ hx0).mono ?_
    rintro e w1 ⟨rfl, hbc⟩
    have hx1 := keep_step hx0 hsz.out hbc
    obtain ⟨c0, c1, c2, c3, c4, c5, c6, c7, c8, c9, c10⟩ := cells11 (cl.out w1 hx1)
    clear hbc
    go_wp2
    go_ret
    exact ⟨_, rfl, by rw [E.out]; exact Ow.nil _ _ _ _, BW _ hx1⟩
  | true =>
    try simp only [if_true] at k1
    by_cases h1 : st = 2 ∨ st = 3
    · have ht : (decide (st = 2) || decide (st = 3)) = true := by simpa using h1
      rw [ht] at k3
      have E : Hid (L = LL) := by show _ = _; rw [HL.out]; rw [if_pos ⟨rfl, h1⟩]
      clear HL hok h1 ht
      go_enter Try.func17, Try.ntmps17
      go_wp2_with fail
      refine (k1.out _ hx0).mono ?_
      rintro e w1 ⟨rfl, hbc⟩
      have hx1 := keep_step hx0 hsz.out hbc
      obtain ⟨c0, c1, c2, c3, c4, c5, c6, c7, c8, c9, c10⟩ := cells11 (cl.out w1 hx1)
      clear hbc
      go_wp2_with fail
      refine (k3.out _).mono ?_
      rintro e w2 ⟨rfl, hbc⟩
      have hx2 := keep_step hx1 hsz.out hbc
      obtain ⟨c0, c1, c2, c3, c4, c5, c6, c7, c8, c9, c10⟩ := cells11 (cl.out w2 hx2)
      clear hbc
      go_wp2_with fail
      refine (k2.out _ hx2).mono ?_
      rintro e wv ⟨v, rfl, hO, hbc⟩
      have hxv := keep_step hx2 hsz.out hbc
      have hO' : Hid (Ow intE 3 w.heap.size wv v L) := by show Ow _ _ _ _ _ _; rw [E.out]; exact hO.mono (BW _ hx2).size
      obtain ⟨va, vc, rfl, -⟩ := hO.1.shape
      clear hO hbc
      go_wp2
      go_ret
      exact ⟨_, rfl, hO'.out, BW _ hxv⟩
    · have ht : (decide (st = 2) || decide (st = 3)) = false := by simpa using h1
      rw [ht] at k3
      have E : Hid (L = []) := by show _ = _; rw [HL.out]; rw [if_neg (fun h => h1 h.2)]
      clear HL hok k2 h1 ht
      go_enter Try.func17, Try.ntmps17
      go_wp2_with fail
      refine (k1.out _ hx0).mono ?_
      rintro e w1 ⟨rfl, hbc⟩
      have hx1 := keep_step hx0 hsz.out hbc
      obtain ⟨c0, c1, c2, c3, c4, c5, c6, c7, c8, c9, c10⟩ := cells11 (cl.out w1 hx1)
      clear hbc
      go_wp2_with fail
      refine (k3.out _).mono ?_
      rintro e w2 ⟨rfl, hbc⟩
      have hx2 := keep_step hx1 hsz.out hbc
      obtain ⟨c0, c1, c2, c3, c4, c5, c6, c7, c8, c9, c10⟩ := cells11 (cl.out w2 hx2)
      clear hbc
      go_wp2
      go_ret
      exact ⟨_, rfl, by rw [E.out]; exact Ow.nil _ _ _ _, BW _ hx2⟩
end Go.Proofs.Ytglbjimpaoikfaa

/- Reply of txn, and the document's. -/
namespace Go.Proofs.Ytglbjimpaoikfaa
open Go.RowKit LeaseMath
set_option maxRecDepth 100000
set_option linter.unusedSimpArgs false
set_option linter.unusedVariables false

def set3 (w : World) (g : Nat) (a b c : Value) : World := ((w.setCell ⟨g, 0, none⟩ a).setCell ⟨g, 1, none⟩ b).setCell ⟨g, 2, none⟩ c
theorem set3_block {w : World} {g : Nat} {a b c : Value} {t : TypeId} (h : w.heap[g]? = some (.cells #[a, b, c] t (0, 0))) (a' b' c' : Value) : (set3 w g a' b' c').heap[g]? = some (.cells #[a', b', c'] t (0, 0)) := by
  unfold set3
  rw [set_block (set_block (set_block h _) _) _]
  simp
theorem set3_below {n g : Nat} {w0 w : World} (a b c : Value) (hB : Below n w0 w) (hn : n ≤ g) : Below n w0 (set3 w g a b c) := ((hB.setCell (p := ⟨g, 0, none⟩) hn _).setCell (p := ⟨g, 1, none⟩) hn _).setCell (p := ⟨g, 2, none⟩) hn _
theorem f_cells3 {w : World} {g : Nat} {a b c : Value} {t : TypeId} (h : w.heap[g]? = some (.cells #[a, b, c] t (0, 0))) : (w.frozen? ⟨g, 0, none⟩ = false ∧ w.frozen? ⟨g, 1, none⟩ = false ∧ w.frozen? ⟨g, 2, none⟩ = false) := ⟨frozen_of h 0, frozen_of h 1, frozen_of h 2⟩
theorem cells3 {w : World} {g : Nat} {a b c : Value} {t : TypeId} (H : w.heap[g]? = some (.cells #[a, b, c] t (0, 0))) : w.cell? ⟨g, 0, none⟩ = some a ∧ w.cell? ⟨g, 1, none⟩ = some b ∧ w.cell? ⟨g, 2, none⟩ = some c := by
  refine ⟨?_, ?_, ?_⟩ <;> rw [cells_of_block H] <;> rfl
theorem results_rp {fn : Func} {p u : Tmp} (h : fn.results = #[.cell p 34, .tmp u]) (tmps : Array Value) (w : World) (g : Nat) (a b c : Value)
    (hp : tmps.getD p undef = .pointer (some ⟨g, 0, none⟩)) (hg : w.heap[g]? = some (.cells #[a, b, c] 34 (0, 0))) :
    (results fn tmps).run Try.prog w = .ok (.tuple #[.agg #[a, b, c], tmps.getD u undef]) w := by
  have hp' : tmps[p]?.getD undef = .pointer (some ⟨g, 0, none⟩) := by simpa using hp
  simp [results, h, hp', asAddr, run_loadVar_row w g 34 34 #[a, b, c] (0, 0) _ hg Try.underlying34 rfl (by kernel_rfl)]
@[reducible] def rpv (c : Int) (t : Nat) : Value := .agg #[.int .i64 c, .int .u64 (t : Int), .slice none 0 0]
/-- What came of it. -/
def replyM (x : Tx) : Int × Nat × Bool := if okX x = true ∧ x.state ≠ 1 then (x.code, if x.code = 0 ∧ x.kind = 1 then x.token else 0, true) else (0, 0, false)
set_option maxHeartbeats 4000000 in
theorem reply_of (z : Xz) (w : World) (hR : XR w z) (gk : z.t.keys.length ≤ 1000000) (g1 : z.t.groups.length ≤ 1000000) (g2 : z.t.yes.length ≤ 1000000) (g3 : z.t.done.length ≤ 1000000) : Calls Try.prog 9 #[xv z] w fun e w' => e = .returned (.tuple #[rpv (replyM z.t).1 (replyM z.t).2.1, .bool (replyM z.t).2.2]) ∧ Below w.heap.size w w' := by
  obtain ⟨R1, H1⟩ : ∃ R, Hid (R = replyM z.t) := ⟨_, rfl⟩
  rw [← H1.out]
  obtain ⟨q1, q2, q3, q4⟩ := two_boxesX w (xc z) (.cells #[.int .i64 0, .int .u64 0, .slice none 0 0] 34)
  obtain ⟨w0, hw0⟩ : ∃ W, (w.alloc (xc z)).alloc (.cells #[.int .i64 0, .int .u64 0, .slice none 0 0] 34) = W := ⟨_, rfl⟩
  rw [hw0] at q1 q2 q3 q4
  have k1 := xcheck_of z w0 (hR.below q4) gk (by omega) (by omega) (by omega)
  unfold replyM at H1
  generalize okX z.t = b at *
  clear hR gk g1 g2 g3
  have A2 : Hid (∀ W, Below w0.heap.size w0 W → W.heap[w.heap.size]? = some (xc z)) := fun W hW => (hW.block _ (by omega)).trans q2
  have A3 : Hid (∀ W, Below w0.heap.size w0 W → W.heap[w.heap.size + 1]? = some (.cells #[.int .i64 0, .int .u64 0, .slice none 0 0] 34 (0, 0))) := fun W hW => (hW.block _ (by omega)).trans q3
  have A4 : Hid (∀ W, Below w0.heap.size w0 W → Below w.heap.size w W ∧ w.heap.size + 1 < W.heap.size) := fun W hW => ⟨q4.trans (hW.mono (by omega)), by have := hW.size; omega⟩
  obtain ⟨⟨⟨i1, i2⟩, kd, ks, tk, tt, gs, st, ys, ds, cd⟩, ⟨ka, kc⟩, ⟨ga, gc⟩, ⟨ya, yc⟩, ⟨da, dc⟩⟩ := z
  dsimp only [xv, xc] at *
  obtain ⟨c0, c1, c2, c3, c4, c5, c6, c7, c8, c9, c10⟩ := cells11 q2
  clear q1 q2 q3 q4
  cases b with
  | false =>
    try simp only [Bool.false_eq_true, if_false] at k1
    have E : Hid (R1 = (0, 0, false)) := by show _ = _; rw [H1.out]; rw [if_neg (by simp)]
    clear H1 
    go_enter Try.func9, Try.ntmps9
    go_wp2_with fail
    refine k1.mono ?_
    rintro e wc ⟨rfl, hbc⟩
    have B2 := A2.out wc hbc
    have B3 := A3.out wc hbc
    obtain ⟨B4, B5⟩ := A4.out wc hbc
    clear A2 A3 A4 hbc k1
    obtain ⟨c0, c1, c2, c3, c4, c5, c6, c7, c8, c9, c10⟩ := cells11 B2
    obtain ⟨y0, y1, y2⟩ := cells3 B3
    obtain ⟨f0, f1, f2⟩ := f_cells3 B3
    have S := set3_block B3 (.int .i64 0) (.int .u64 0) (.slice none 0 0)
    have B := set3_below (.int .i64 0) (.int .u64 0) (.slice none 0 0) (g := w.heap.size + 1) B4 (Nat.le_succ _)
    unfold set3 at S B
    clear B2 B3 B4 B5
    go_wp2
    refine bodyPost_ret (results_rp rfl _ _ (w.heap.size + 1) _ _ _ rfl S) rfl ?_
    exact ⟨by rw [E.out]; first | rfl | simp, B⟩
  | true =>
    try simp only [if_true] at k1
    by_cases h1 : st = 1
    · have h1d : (st == 1) = true := by simp [h1]
      have E : Hid (R1 = (0, 0, false)) := by show _ = _; rw [H1.out]; rw [if_neg (fun h => h.2 h1)]
      clear H1 h1
      go_enter Try.func9, Try.ntmps9
      go_wp2_with fail
      refine k1.mono ?_
      rintro e wc ⟨rfl, hbc⟩
      have B2 := A2.out wc hbc
      have B3 := A3.out wc hbc
      obtain ⟨B4, B5⟩ := A4.out wc hbc
      clear A2 A3 A4 hbc k1
      obtain ⟨c0, c1, c2, c3, c4, c5, c6, c7, c8, c9, c10⟩ := cells11 B2
      obtain ⟨y0, y1, y2⟩ := cells3 B3
      obtain ⟨f0, f1, f2⟩ := f_cells3 B3
      have S := set3_block B3 (.int .i64 0) (.int .u64 0) (.slice none 0 0)
      have B := set3_below (.int .i64 0) (.int .u64 0) (.slice none 0 0) (g := w.heap.size + 1) B4 (Nat.le_succ _)
      unfold set3 at S B
      clear B2 B3 B4 B5
      go_wp2
      refine bodyPost_ret (results_rp rfl _ _ (w.heap.size + 1) _ _ _ rfl S) rfl ?_
      exact ⟨by rw [E.out]; first | rfl | simp, B⟩
    · have h1d : (st == 1) = false := by simpa using h1
      by_cases h2 : cd = 0
      · have h2d : (cd == 0) = true := by simp [h2]
        by_cases h3 : kd = 1
        · have h3d : (kd == 1) = true := by simp [h3]
          have E : Hid (R1 = (cd, tk, true)) := by show _ = _; rw [H1.out]; rw [if_pos ⟨rfl, h1⟩]; (try dsimp only); rw [if_pos ⟨h2, h3⟩]
          clear H1 h1 h2 h3
          go_enter Try.func9, Try.ntmps9
          go_wp2_with fail
          refine k1.mono ?_
          rintro e wc ⟨rfl, hbc⟩
          have B2 := A2.out wc hbc
          have B3 := A3.out wc hbc
          obtain ⟨B4, B5⟩ := A4.out wc hbc
          clear A2 A3 A4 hbc k1
          obtain ⟨c0, c1, c2, c3, c4, c5, c6, c7, c8, c9, c10⟩ := cells11 B2
          obtain ⟨y0, y1, y2⟩ := cells3 B3
          obtain ⟨f0, f1, f2⟩ := f_cells3 B3
          obtain ⟨-, r2x, r3x⟩ := one_box wc (.cells #[.int .i64 cd, .int .u64 0, .slice none 0 0] 34)
          have D2x := (r3x.block w.heap.size (by omega)).trans B2
          have D3x := (r3x.block (w.heap.size + 1) (by omega)).trans B3
          have D4x := B4.trans (r3x.mono B4.size)
          obtain ⟨dx0, dx1, dx2, dx3, dx4, dx5, dx6, dx7, dx8, dx9, dx10⟩ := cells11 D2x
          obtain ⟨mx0, mx1, mx2⟩ := cells3 r2x
          obtain ⟨lx0, lx1, lx2⟩ := f_cells3 r2x
          obtain ⟨ox0, ox1, ox2⟩ := cells3 D3x
          obtain ⟨gx0, gx1, gx2⟩ := f_cells3 D3x
          obtain ⟨-, r2y, r3y⟩ := one_box wc (.cells #[.int .i64 cd, .int .u64 (tk : Int), .slice none 0 0] 34)
          have D2y := (r3y.block w.heap.size (by omega)).trans B2
          have D3y := (r3y.block (w.heap.size + 1) (by omega)).trans B3
          have D4y := B4.trans (r3y.mono B4.size)
          obtain ⟨dy0, dy1, dy2, dy3, dy4, dy5, dy6, dy7, dy8, dy9, dy10⟩ := cells11 D2y
          obtain ⟨my0, my1, my2⟩ := cells3 r2y
          obtain ⟨ly0, ly1, ly2⟩ := f_cells3 r2y
          obtain ⟨oy0, oy1, oy2⟩ := cells3 D3y
          obtain ⟨gy0, gy1, gy2⟩ := f_cells3 D3y
          have S := set3_block D3y (.int .i64 cd) (.int .u64 (tk : Int)) (.slice none 0 0)
          have B := set3_below (.int .i64 cd) (.int .u64 (tk : Int)) (.slice none 0 0) (g := w.heap.size + 1) D4y (Nat.le_succ _)
          unfold set3 at S B
          clear B2 B3 B4 B5 D2x D3x D4x r2x r3x D2y D3y D4y r2y r3y
          go_wp2
          refine bodyPost_ret (results_rp rfl _ _ (w.heap.size + 1) _ _ _ rfl S) rfl ?_
          exact ⟨by rw [E.out]; first | rfl | simp, B⟩
        · have h3d : (kd == 1) = false := by simpa using h3
          have E : Hid (R1 = (cd, 0, true)) := by show _ = _; rw [H1.out]; rw [if_pos ⟨rfl, h1⟩]; (try dsimp only); rw [if_neg (fun h => h3 h.2)]
          clear H1 h1 h2 h3
          go_enter Try.func9, Try.ntmps9
          go_wp2_with fail
          refine k1.mono ?_
          rintro e wc ⟨rfl, hbc⟩
          have B2 := A2.out wc hbc
          have B3 := A3.out wc hbc
          obtain ⟨B4, B5⟩ := A4.out wc hbc
          clear A2 A3 A4 hbc k1
          obtain ⟨c0, c1, c2, c3, c4, c5, c6, c7, c8, c9, c10⟩ := cells11 B2
          obtain ⟨y0, y1, y2⟩ := cells3 B3
          obtain ⟨f0, f1, f2⟩ := f_cells3 B3
          obtain ⟨-, r2x, r3x⟩ := one_box wc (.cells #[.int .i64 cd, .int .u64 0, .slice none 0 0] 34)
          have D2x := (r3x.block w.heap.size (by omega)).trans B2
          have D3x := (r3x.block (w.heap.size + 1) (by omega)).trans B3
          have D4x := B4.trans (r3x.mono B4.size)
          obtain ⟨dx0, dx1, dx2, dx3, dx4, dx5, dx6, dx7, dx8, dx9, dx10⟩ := cells11 D2x
          obtain ⟨mx0, mx1, mx2⟩ := cells3 r2x
          obtain ⟨lx0, lx1, lx2⟩ := f_cells3 r2x
          obtain ⟨ox0, ox1, ox2⟩ := cells3 D3x
          obtain ⟨gx0, gx1, gx2⟩ := f_cells3 D3x
          have S := set3_block D3x (.int .i64 cd) (.int .u64 0) (.slice none 0 0)
          have B := set3_below (.int .i64 cd) (.int .u64 0) (.slice none 0 0) (g := w.heap.size + 1) D4x (Nat.le_succ _)
          unfold set3 at S B
          clear B2 B3 B4 B5 D2x D3x D4x r2x r3x
          go_wp2
          refine bodyPost_ret (results_rp rfl _ _ (w.heap.size + 1) _ _ _ rfl S) rfl ?_
          exact ⟨by rw [E.out]; first | rfl | simp, B⟩
      · have h2d : (cd == 0) = false := by simpa using h2
        have E : Hid (R1 = (cd, 0, true)) := by show _ = _; rw [H1.out]; rw [if_pos ⟨rfl, h1⟩]; (try dsimp only); rw [if_neg (fun h => h2 h.1)]
        clear H1 h1 h2
        go_enter Try.func9, Try.ntmps9
        go_wp2_with fail
        refine k1.mono ?_
        rintro e wc ⟨rfl, hbc⟩
        have B2 := A2.out wc hbc
        have B3 := A3.out wc hbc
        obtain ⟨B4, B5⟩ := A4.out wc hbc
        clear A2 A3 A4 hbc k1
        obtain ⟨c0, c1, c2, c3, c4, c5, c6, c7, c8, c9, c10⟩ := cells11 B2
        obtain ⟨y0, y1, y2⟩ := cells3 B3
        obtain ⟨f0, f1, f2⟩ := f_cells3 B3
        obtain ⟨-, r2x, r3x⟩ := one_box wc (.cells #[.int .i64 cd, .int .u64 0, .slice none 0 0] 34)
        have D2x := (r3x.block w.heap.size (by omega)).trans B2
        have D3x := (r3x.block (w.heap.size + 1) (by omega)).trans B3
        have D4x := B4.trans (r3x.mono B4.size)
        obtain ⟨dx0, dx1, dx2, dx3, dx4, dx5, dx6, dx7, dx8, dx9, dx10⟩ := cells11 D2x
        obtain ⟨mx0, mx1, mx2⟩ := cells3 r2x
        obtain ⟨lx0, lx1, lx2⟩ := f_cells3 r2x
        obtain ⟨ox0, ox1, ox2⟩ := cells3 D3x
        obtain ⟨gx0, gx1, gx2⟩ := f_cells3 D3x
        have S := set3_block D3x (.int .i64 cd) (.int .u64 0) (.slice none 0 0)
        have B := set3_below (.int .i64 cd) (.int .u64 0) (.slice none 0 0) (g := w.heap.size + 1) D4x (Nat.le_succ _)
        unfold set3 at S B
        clear B2 B3 B4 B5 D2x D3x D4x r2x r3x
        go_wp2
        refine bodyPost_ret (results_rp rfl _ _ (w.heap.size + 1) _ _ _ rfl S) rfl ?_
        exact ⟨by rw [E.out]; first | rfl | simp, B⟩
end Go.Proofs.Ytglbjimpaoikfaa

