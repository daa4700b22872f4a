import Derived.Test.YtglbjimpaoikfaaHd49
/- The law TxnDecides answers true. -/
namespace Go.Proofs.Ytglbjimpaoikfaa
open Go.RowKit LeaseMath QuorumMath
set_option maxRecDepth 100000
set_option linter.unusedSimpArgs false
set_option linter.unusedVariables false

abbrev Sy := Int × Int × Int × Nat
def sayE : El Sy := ⟨fun r => [.int .i64 r.1, .int .i64 r.2.1, .int .i64 r.2.2.1, .int .u64 (r.2.2.2 : Int)], 4, fun _ => rfl, fun x u hu => by
  simp only [List.mem_cons, List.not_mem_nil, or_false] at hu
  rcases hu with rfl | rfl | rfl | rfl <;> rfl, by decide⟩
theorem say_at {w : World} {ao : Option Addr} {n cap : Nat} {xs : List Sy} (h : Rd sayE w (.slice ao n cap) xs) {i : Nat} {x : Sy} (hx : xs[i]? = some x) : ∃ b off, ao = some ⟨b, off, none⟩ ∧ ∀ W, Below w.heap.size w W → W.cell? ⟨b, off + i * 4, none⟩ = some (.int .i64 x.1) ∧ W.cell? ⟨b, off + i * 4 + 1, none⟩ = some (.int .i64 x.2.1) ∧ W.cell? ⟨b, off + i * 4 + 2, none⟩ = some (.int .i64 x.2.2.1) ∧ W.cell? ⟨b, off + i * 4 + 3, none⟩ = some (.int .u64 (x.2.2.2 : Int)) := by
  obtain ⟨ao', cap', e, _, _, h2⟩ := h
  cases e
  obtain ⟨b, off, r1, r2⟩ := h2 i x 0 _ hx rfl
  obtain ⟨b', off', r3, r4⟩ := h2 i x 1 _ hx rfl
  cases r1.symm.trans r3
  obtain ⟨b', off', r5, r6⟩ := h2 i x 2 _ hx rfl
  cases r1.symm.trans r5
  obtain ⟨b', off', r7, r8⟩ := h2 i x 3 _ hx rfl
  cases r1.symm.trans r7
  have s2 : w.cell? ⟨b, off + i * 4, none⟩ = some (.int .i64 x.1) := r2
  have s4 : w.cell? ⟨b, off + i * 4 + 1, none⟩ = some (.int .i64 x.2.1) := r4
  have s6 : w.cell? ⟨b, off + i * 4 + 2, none⟩ = some (.int .i64 x.2.2.1) := r6
  have s8 : w.cell? ⟨b, off + i * 4 + 3, none⟩ = some (.int .u64 (x.2.2.2 : Int)) := r8
  exact ⟨b, off, r1, fun W hW => ⟨(hW.cell (p := ⟨b, off + i * 4, none⟩) (World.block_lt_of_cell? w _ s2)).trans s2, (hW.cell (p := ⟨b, off + i * 4 + 1, none⟩) (World.block_lt_of_cell? w _ s4)).trans s4, (hW.cell (p := ⟨b, off + i * 4 + 2, none⟩) (World.block_lt_of_cell? w _ s6)).trans s6, (hW.cell (p := ⟨b, off + i * 4 + 3, none⟩) (World.block_lt_of_cell? w _ s8)).trans s8⟩⟩
theorem at_ltD {w : World} {n : Nat} {x : Obj} (h : w.heap[n]? = some x) : n < w.heap.size := (Array.getElem?_eq_some_iff.1 h).1
/-- A record is read: from what was given, or from rows of one's own. -/
def XQ (w W : World) (z : Xz) : Prop := XR w z ∨ XO w.heap.size W z
theorem XQ.xr {w W : World} {z : Xz} (h : XQ w W z) (hb : Below w.heap.size w W) : XR W z := h.elim (fun h => h.below hb) fun h => h.xr
theorem XQ.below {w W W' : World} {z : Xz} (h : XQ w W z) (hb : Below W.heap.size W W') : XQ w W' z := h.imp id fun h => h.below hb
theorem XQ.other {w W W' : World} {g : Nat} {cs : Array Value} {z : Xz} (h : XQ w W z) (hg : W.heap[g]? = some (.cells cs 29 (0, 0))) (hw : ∀ k, k ≠ g → W'.heap[k]? = W.heap[k]?) : XQ w W' z := h.imp id fun h => h.at_other hg hw
theorem XQ.otherR {w W W' : World} {g : Nat} {cs : Array Value} {z : Xz} (h : XQ w W z) (hg : W.heap[g]? = some (.cells cs 34 (0, 0))) (hw : ∀ k, k ≠ g → W'.heap[k]? = W.heap[k]?) : XQ w W' z := h.imp id fun h => ⟨Ow.at_other h.1 hg (by decide) hw, Ow.at_other h.2.1 hg (by decide) hw, Ow.at_other h.2.2.1 hg (by decide) hw, Ow.at_other h.2.2.2 hg (by decide) hw⟩
theorem set3_other {w : World} {g k : Nat} (a b c : Value) (h : k ≠ g) : (set3 w g a b c).heap[k]? = w.heap[k]? := by
  unfold set3
  rw [set_other h, set_other h, set_other h]
theorem decides_light {x : Tx} (h : lightX x = true) : x.keys.length ≤ 40 ∧ x.groups.length ≤ 40 ∧ x.yes.length ≤ 40 ∧ x.done.length ≤ 40 := by
  unfold lightX at h
  simp only [Bool.and_eq_true, decide_eq_true_eq] at h
  exact ⟨h.1.1.1, h.1.1.2, h.1.2, h.2⟩
set_option maxHeartbeats 64000000 in
theorem decides_law (z : Xz) (ss : List Sy) (lv : Value) (w : World) (hR : XR w z) (hL : Rd sayE w lv ss) (hlen : ss.length ≤ 140737488355328) (gk : z.t.keys.length ≤ 140737488355328) (g1 : z.t.groups.length ≤ 140737488355328) (g2 : z.t.yes.length ≤ 140737488355328) (g3 : z.t.done.length ≤ 140737488355328) : Calls Try.prog 5 #[xv z, lv] w fun e w' => e = .returned (.bool true) ∧ Below w.heap.size w w' := by
  have HLL : Hid (Rd sayE w lv ss) := hL
  obtain ⟨lo, lc, rfl, -, -⟩ := hL.shape
  clear hL
  obtain ⟨q1, q2, q3⟩ := x_box w z
  obtain ⟨w0, hw0⟩ : ∃ W, w.alloc (xc z) = W := ⟨_, rfl⟩
  rw [hw0] at q1 q2 q3
  have k0 := light_of z w0 gk g1 g2 g3
  have hw0s : Hid (w.heap.size < w0.heap.size) := by show _ < _; omega
  generalize hlx : lightX z.t = lx at *
  obtain ⟨Z, hZ⟩ : ∃ Z, Hid (Z = z) := ⟨_, rfl⟩
  have GL : Hid (lx = true → Z.t.keys.length ≤ 40 ∧ Z.t.groups.length ≤ 40 ∧ Z.t.yes.length ≤ 40 ∧ Z.t.done.length ≤ 40) := fun h => by
    rw [hZ.out]
    exact decides_light (by rw [hlx]; exact h)
  have HR : Hid (XR w z) := hR
  have KM : Hid (lx = true → ∀ W, Below w.heap.size w W → _) := fun h W hW => rmay_of z W (hR.below hW) (by have := GL.out h; rw [hZ.out] at this; omega) (by have := GL.out h; rw [hZ.out] at this; omega) (by have := GL.out h; rw [hZ.out] at this; omega) (by have := GL.out h; rw [hZ.out] at this; omega)
  have KR : Hid (lx = true → ∀ W, Below w.heap.size w W → _) := fun h W hW => reply_of z W (hR.below hW) (by have := GL.out h; rw [hZ.out] at this; omega) (by have := GL.out h; rw [hZ.out] at this; omega) (by have := GL.out h; rw [hZ.out] at this; omega) (by have := GL.out h; rw [hZ.out] at this; omega)
  clear hlx gk g1 g2 g3 hR GL hZ Z
  obtain ⟨x0, ⟨ka0, kc0⟩, ⟨ga0, gc0⟩, ⟨ya0, yc0⟩, ⟨da0, dc0⟩⟩ := z
  dsimp only [xv, xc] at k0 q2 KM KR
  obtain ⟨c0, c1, c2, c3, c4, c5, c6, c7, c8, c9, c10⟩ := cells11 q2
  go_enter Try.func5, Try.ntmps5
  go_wp2_with fail
  refine k0.mono ?_
  rintro e w1 ⟨rfl, hbc⟩
  have P1 := (hbc.block _ hw0s.out).trans q2
  have hb1 := q3.trans (hbc.mono q3.size)
  obtain ⟨c0, c1, c2, c3, c4, c5, c6, c7, c8, c9, c10⟩ := cells11 P1
  clear k0 hbc q1 q3
  cases lx with
  | false =>
    have kA := awake_of w1
    clear KM KR q2 P1
    go_wp2_with fail
    refine kA.mono ?_
    rintro e w2 ⟨rfl, hbc⟩
    go_wp2
    go_ret
    exact ⟨rfl, hb1.trans (hbc.mono hb1.size)⟩
  | true =>
    have k1 := KM.out rfl w1 hb1
    clear q2
    go_wp2_with fail
    refine k1.mono ?_
    rintro e w2 ⟨rfl, hbc⟩
    have P2 := (hbc.block _ (at_ltD P1)).trans P1
    have hb2 := hb1.trans (hbc.mono hb1.size)
    obtain ⟨c0, c1, c2, c3, c4, c5, c6, c7, c8, c9, c10⟩ := cells11 P2
    clear k1 hbc hb1 P1 KM
    cases hok : okX x0 with
    | false =>
      have kA := awake_of w2
      clear KR P2
      go_wp2_with fail
      refine kA.mono ?_
      rintro e w3 ⟨rfl, hbc⟩
      go_wp2
      go_ret
      exact ⟨rfl, hb2.trans (hbc.mono hb2.size)⟩
    | true =>
      have HOK : Hid (okX x0 = true) := hok
      clear hok
      have k2 := KR.out (by trivial) w2 hb2
      clear KR
      obtain ⟨NO, HNO⟩ : ∃ b, Hid ((x0.code != 0) = b) := ⟨_, rfl⟩
      have hno := HNO.out
      go_wp2_with fail
      refine k2.mono ?_
      rintro e w3 ⟨rfl, hbc⟩
      have P3 := (hbc.block _ (at_ltD P2)).trans P2
      have hb3 := hb2.trans (hbc.mono hb2.size)
      obtain ⟨z3, r3, p3⟩ := one_box w3 (.cells #[.int .i64 (replyM x0).1, .int .u64 ((replyM x0).2.1 : Int), .slice none 0 0] 34)
      have P4 : Hid _ := (p3.block _ (at_ltD P3)).trans P3
      have hb4 : Hid _ := hb3.trans (p3.mono hb3.size)
      have hq4 : Hid (XQ w (w3.alloc (.cells #[.int .i64 (replyM x0).1, .int .u64 ((replyM x0).2.1 : Int), .slice none 0 0] 34)) ⟨x0, (ka0, kc0), (ga0, gc0), (ya0, yc0), (da0, dc0)⟩) := .inl HR.out
      have hnr : Hid (w.heap.size < w3.heap.size) := at_ltD P3
      have r4 : Hid _ := r3
      have hNO2 : Hid (NO = decide (x0.code ≠ 0)) := by show _ = _; rw [← HNO.out]; by_cases h : x0.code = 0 <;> simp [h]
      clear k2 hbc hb2 P2 hb3 P3 z3 r3 p3 hno HNO HR
      go_wp2
      go_loopg [5, 7, 8] (ss.length + 1) (fun g s5 s7 s8 wr => ∃ (i : Nat) (x : Tx) (ka : Option Addr) (kc : Nat) (ga : Option Addr) (gc : Nat) (ya : Option Addr) (yc : Nat) (da : Option Addr) (dc : Nat), i + g = ss.length + 1 ∧ s5 = .bool (decide (x.code ≠ 0)) ∧ s7 = .bool (replyM x).2.2 ∧ s8 = .int .i64 (i : Int) ∧ Hid (okX x = true) ∧ Hid (wr.heap[w.heap.size]? = some (.cells #[.int .i64 x.id.1, .int .u64 (x.id.2 : Int), .int .i64 x.kind, .slice ka x.keys.length kc, .int .u64 (x.token : Int), .int .i64 x.ttl, .slice ga x.groups.length gc, .int .i64 x.state, .slice ya x.yes.length yc, .slice da x.done.length dc, .int .i64 x.code] 29 (0, 0))) ∧ Hid (wr.heap[w3.heap.size]? = some (.cells #[.int .i64 (replyM x).1, .int .u64 ((replyM x).2.1 : Int), .slice none 0 0] 34 (0, 0))) ∧ Hid (XQ w wr ⟨x, (ka, kc), (ga, gc), (ya, yc), (da, dc)⟩) ∧ Hid (Below w.heap.size w wr))
      case atStart => exact ⟨0, x0, ka0, kc0, ga0, gc0, ya0, yc0, da0, dc0, by omega, by rw [← hNO2.out], rfl, rfl, HOK, P4, r4, hq4, hb4⟩
      case round =>
        clear P4 r4 hq4 hb4 hNO2 HOK c0 c1 c2 c3 c4 c5 c6 c7 c8 c9 c10
        obtain ⟨i, x, ka, kc, ga, gc, ya, yc, da, dc, hig, rfl, rfl, rfl, hok, PX, PR, hq, hb⟩ := hrel
        have HIG : Hid (i + gk = ss.length + 1) := hig
        obtain ⟨rc, rt, rd, HRX⟩ : ∃ (rc : Int) (rt : Nat) (rd : Bool), Hid (replyM x = (rc, rt, rd)) := ⟨_, _, _, rfl⟩
        rw [HRX.out] at PR
        rw [HRX.out]
        dsimp only at PR ⊢
        by_cases hlt : i < ss.length ∧ i < 100
        · have hx : ss[i]? = some ss[i] := List.getElem?_eq_getElem hlt.1
          obtain ⟨⟨sa, sg, sc, sk⟩, hs⟩ : ∃ s, s = ss[i] := ⟨_, rfl⟩
          rw [← hs] at hx
          obtain ⟨b, off, rfl, hsay⟩ := say_at HLL.out hx
          obtain ⟨q1, q2, q3, q4⟩ := two_boxesX wr (.cells #[.int .i64 sa, .int .i64 sg, .int .i64 sc, .int .u64 (sk : Int)] 47) (.cells #[.int .i64 0, .int .u64 0, .int .i64 0, .slice none 0 0, .int .u64 0, .int .i64 0, .slice none 0 0, .int .i64 0, .slice none 0 0, .slice none 0 0, .int .i64 0] 29)
          obtain ⟨e0, e1, e2, e3⟩ := hsay _ hb.out
          dsimp only at e0 e1 e2 e3
          have PXA : Hid _ := (q4.block _ (at_ltD PX.out)).trans PX.out
          have PRA : Hid _ := (q4.block _ (at_ltD PR.out)).trans PR.out
          have hqA : Hid (XQ w _ ⟨x, (ka, kc), (ga, gc), (ya, yc), (da, dc)⟩) := hq.out.below q4
          have hbA : Hid _ := hb.out.trans (q4.mono hb.out.size)
          have ny : Hid (w.heap.size ≠ wr.heap.size + 1 ∧ w3.heap.size ≠ wr.heap.size + 1 ∧ w.heap.size ≠ w3.heap.size ∧ w.heap.size ≤ wr.heap.size + 1) := ⟨by have := at_ltD PX.out; omega, by have := at_ltD PR.out; omega, Nat.ne_of_lt hnr.out, by have := at_ltD PX.out; omega⟩
          have hlti : (i : Int) < (ss.length : Int) := by omega
          have hltd : decide ((i : Int) < (ss.length : Int)) = true := decide_eq_true hlti
          have hlt1 : (i : Int) < 100 := by omega
          have hlt1d : decide ((i : Int) < 100) = true := decide_eq_true hlt1
          have j1 : (0 : Int) ≤ (i : Int) := by omega
          have lz : wr.heap.size + 1 < ((wr.alloc (.cells #[.int .i64 sa, .int .i64 sg, .int .i64 sc, .int .u64 (sk : Int)] 47)).alloc (.cells #[.int .i64 0, .int .u64 0, .int .i64 0, .slice none 0 0, .int .u64 0, .int .i64 0, .slice none 0 0, .int .i64 0, .slice none 0 0, .slice none 0 0, .int .i64 0] 29)).heap.size := by omega
          replace lz : Hid _ := lz
          obtain ⟨c0, c1, c2, c3, c4, c5, c6, c7, c8, c9, c10⟩ := cells11 PXA.out
          obtain ⟨s0, s1, s2, s3⟩ := cells4 q2
          have xr : Hid (XR _ ⟨x, (ka, kc), (ga, gc), (ya, yc), (da, dc)⟩) := hqA.out.xr hbA.out
          have gl : Hid _ := ok_lens hok.out
          clear hx hs hlt hig hsay
          by_cases h0 : sa = 0
          · have h0d : (sa == 0) = true := by simp [h0]
            clear h0
            have kcl := token_of ⟨x, (ka, kc), (ga, gc), (ya, yc), (da, dc)⟩ sk _ xr.out (Nat.le_trans gl.out.1 (by decide)) (Nat.le_trans gl.out.2.1 (by decide)) (Nat.le_trans gl.out.2.2.1 (by decide)) (Nat.le_trans gl.out.2.2.2 (by decide))
            have HST : Hid (∀ y, tokenM x sk (allB x x.yes) = (y, 0) → _) := fun y h => step_token hok.out h
            generalize hM : tokenM x sk (allB x x.yes) = MM at *
            clear hM
            obtain ⟨y, C⟩ := MM
            dsimp only [xv] at kcl
            by_cases hC : C = 0
            · subst hC
              obtain ⟨⟨a1, a2, a3, a4⟩, b1, b2, b3⟩ := HST.out y rfl
              have hoky : Hid (okX y = true) := a1
              have hle : Hid (x.yes.length ≤ y.yes.length ∧ x.done.length ≤ y.done.length) := ⟨a2, a3⟩
              have yl : Hid _ := ok_lens a1
              obtain ⟨-, -, rfl⟩ : rc = 0 ∧ rt = 0 ∧ rd = false := by have := HRX.out.symm.trans (reply_open b1); simpa using this
              have hnoY : Hid (decide (x.code ≠ 0) = decide (y.code ≠ 0)) := by show _ = _; rw [b2, b3]
              have hno : decide (x.code ≠ 0) = false := by rw [b3]; rfl
              rw [hno]
              replace hnoY : Hid (decide (y.code ≠ 0) = false) := by show _ = _; rw [← hnoY.out, hno]
              by_cases hs : y.state = 1
              · obtain ⟨qc, hqc⟩ : ∃ q : Int, q = 0 := ⟨_, rfl⟩
                obtain ⟨qt, hqt⟩ : ∃ q : Nat, q = 0 := ⟨_, rfl⟩
                have hry : Hid (replyM y = (qc, qt, false)) := by show _ = _; rw [reply_open hs, hqc, hqt]
                clear a1 a2 a3 a4 hs b1 b2 b3 hno hqc hqt HST
                go_wp2_with fail
                refine kcl.mono ?_
                rintro e w4 ⟨⟨⟨ka1, kc1⟩, ⟨ga1, gc1⟩, ⟨ya1, yc1⟩, ⟨da1, dc1⟩, rfl, OY⟩, hbc⟩
                have PY := (hbc.block _ lz.out).trans q3
                have PX4 := (hbc.block _ (at_ltD PXA.out)).trans PXA.out
                have PR4 := (hbc.block _ (at_ltD PRA.out)).trans PRA.out
                have PS4 := (hbc.block wr.heap.size (Nat.lt_trans (Nat.lt_succ_self _) lz.out)).trans q2
                have hb4 := hbA.out.trans (hbc.mono hbA.out.size)
                have hq4 := hqA.out.below hbc
                have OYm := OY.mono hbA.out.size
                obtain ⟨c0, c1, c2, c3, c4, c5, c6, c7, c8, c9, c10⟩ := cells11 PY
                obtain ⟨f0, f1, f2, f3, f4, f5, f6, f7, f8, f9, f10⟩ := f_cells11 PY
                have PYW := set11_block PY (.int .i64 y.id.1) (.int .u64 (y.id.2 : Int)) (.int .i64 y.kind) (.slice ka1 y.keys.length kc1) (.int .u64 (y.token : Int)) (.int .i64 y.ttl) (.slice ga1 y.groups.length gc1) (.int .i64 y.state) (.slice ya1 y.yes.length yc1) (.slice da1 y.done.length dc1) (.int .i64 y.code)
                have PXW := (set11_other (.int .i64 y.id.1) (.int .u64 (y.id.2 : Int)) (.int .i64 y.kind) (.slice ka1 y.keys.length kc1) (.int .u64 (y.token : Int)) (.int .i64 y.ttl) (.slice ga1 y.groups.length gc1) (.int .i64 y.state) (.slice ya1 y.yes.length yc1) (.slice da1 y.done.length dc1) (.int .i64 y.code) ny.out.1).trans PX4
                have PRW := (set11_other (.int .i64 y.id.1) (.int .u64 (y.id.2 : Int)) (.int .i64 y.kind) (.slice ka1 y.keys.length kc1) (.int .u64 (y.token : Int)) (.int .i64 y.ttl) (.slice ga1 y.groups.length gc1) (.int .i64 y.state) (.slice ya1 y.yes.length yc1) (.slice da1 y.done.length dc1) (.int .i64 y.code) ny.out.2.1).trans PR4
                have PSW := (set11_other (.int .i64 y.id.1) (.int .u64 (y.id.2 : Int)) (.int .i64 y.kind) (.slice ka1 y.keys.length kc1) (.int .u64 (y.token : Int)) (.int .i64 y.ttl) (.slice ga1 y.groups.length gc1) (.int .i64 y.state) (.slice ya1 y.yes.length yc1) (.slice da1 y.done.length dc1) (.int .i64 y.code) (show wr.heap.size ≠ wr.heap.size + 1 from Nat.ne_of_lt (Nat.lt_succ_self _))).trans PS4
                have hbW := set11_below (.int .i64 y.id.1) (.int .u64 (y.id.2 : Int)) (.int .i64 y.kind) (.slice ka1 y.keys.length kc1) (.int .u64 (y.token : Int)) (.int .i64 y.ttl) (.slice ga1 y.groups.length gc1) (.int .i64 y.state) (.slice ya1 y.yes.length yc1) (.slice da1 y.done.length dc1) (.int .i64 y.code) (g := wr.heap.size + 1) hb4 ny.out.2.2.2
                have OYW := OYm.at_other PY (fun k hk => set11_other (.int .i64 y.id.1) (.int .u64 (y.id.2 : Int)) (.int .i64 y.kind) (.slice ka1 y.keys.length kc1) (.int .u64 (y.token : Int)) (.int .i64 y.ttl) (.slice ga1 y.groups.length gc1) (.int .i64 y.state) (.slice ya1 y.yes.length yc1) (.slice da1 y.done.length dc1) (.int .i64 y.code) hk)
                have hqW := hq4.other PY (fun k hk => set11_other (.int .i64 y.id.1) (.int .u64 (y.id.2 : Int)) (.int .i64 y.kind) (.slice ka1 y.keys.length kc1) (.int .u64 (y.token : Int)) (.int .i64 y.ttl) (.slice ga1 y.groups.length gc1) (.int .i64 y.state) (.slice ya1 y.yes.length yc1) (.slice da1 y.done.length dc1) (.int .i64 y.code) hk)
                obtain ⟨W1, hW1⟩ : ∃ W, set11 w4 (wr.heap.size + 1) (.int .i64 y.id.1) (.int .u64 (y.id.2 : Int)) (.int .i64 y.kind) (.slice ka1 y.keys.length kc1) (.int .u64 (y.token : Int)) (.int .i64 y.ttl) (.slice ga1 y.groups.length gc1) (.int .i64 y.state) (.slice ya1 y.yes.length yc1) (.slice da1 y.done.length dc1) (.int .i64 y.code) = W := ⟨_, rfl⟩
                rw [hW1] at PYW PXW PRW PSW hbW OYW hqW
                unfold set11 at hW1
                obtain ⟨s0, s1, s2, s3⟩ := cells4 PSW
                replace PYW : Hid (W1.heap[wr.heap.size + 1]? = some (.cells #[.int .i64 y.id.1, .int .u64 (y.id.2 : Int), .int .i64 y.kind, .slice ka1 y.keys.length kc1, .int .u64 (y.token : Int), .int .i64 y.ttl, .slice ga1 y.groups.length gc1, .int .i64 y.state, .slice ya1 y.yes.length yc1, .slice da1 y.done.length dc1, .int .i64 y.code] 29 (0, 0))) := PYW
                replace PXW : Hid (W1.heap[w.heap.size]? = some (.cells #[.int .i64 x.id.1, .int .u64 (x.id.2 : Int), .int .i64 x.kind, .slice ka x.keys.length kc, .int .u64 (x.token : Int), .int .i64 x.ttl, .slice ga x.groups.length gc, .int .i64 x.state, .slice ya x.yes.length yc, .slice da x.done.length dc, .int .i64 x.code] 29 (0, 0))) := PXW
                replace PRW : Hid (W1.heap[w3.heap.size]? = some (.cells #[.int .i64 rc, .int .u64 (rt : Int), .slice none 0 0] 34 (0, 0))) := PRW
                replace OYW : Hid (XO w.heap.size W1 ⟨y, (ka1, kc1), (ga1, gc1), (ya1, yc1), (da1, dc1)⟩) := OYW
                replace hbW : Hid (Below w.heap.size w W1) := hbW
                replace hqW : Hid (XQ w W1 ⟨x, (ka, kc), (ga, gc), (ya, yc), (da, dc)⟩) := hqW
                clear kcl hbc PY PX4 PR4 PS4 PSW hb4 hq4 OY OYm q1 q2 q3 q4 PXA PRA hqA hbA PX PR hq hb lz xr gl
                have kM := rmay_of ⟨y, (ka1, kc1), (ga1, gc1), (ya1, yc1), (da1, dc1)⟩ W1 OYW.out.xr (Nat.le_trans yl.out.1 (by decide)) (Nat.le_trans yl.out.2.1 (by decide)) (Nat.le_trans yl.out.2.2.1 (by decide)) (Nat.le_trans yl.out.2.2.2 (by decide))
                rw [hoky.out] at kM
                obtain ⟨c0, c1, c2, c3, c4, c5, c6, c7, c8, c9, c10⟩ := cells11 PXW.out
                obtain ⟨d0, d1, d2, d3, d4, d5, d6, d7, d8, d9, d10⟩ := cells11 PYW.out
                dsimp only [xv] at kM
                go_wp2_with fail
                refine kM.mono ?_
                rintro e w5 ⟨rfl, hbc⟩
                have P5 := (hbc.block _ (at_ltD PXW.out)).trans PXW.out
                have Y5 := (hbc.block _ (at_ltD PYW.out)).trans PYW.out
                have R5 := (hbc.block _ (at_ltD PRW.out)).trans PRW.out
                have hb5 := hbW.out.trans (hbc.mono hbW.out.size)
                obtain ⟨c0, c1, c2, c3, c4, c5, c6, c7, c8, c9, c10⟩ := cells11 P5
                obtain ⟨d0, d1, d2, d3, d4, d5, d6, d7, d8, d9, d10⟩ := cells11 Y5
                obtain ⟨f0, f1, f2, f3, f4, f5, f6, f7, f8, f9, f10⟩ := f_cells11 P5
                have P6 := set11_block P5 (.int .i64 y.id.1) (.int .u64 (y.id.2 : Int)) (.int .i64 y.kind) (.slice ka1 y.keys.length kc1) (.int .u64 (y.token : Int)) (.int .i64 y.ttl) (.slice ga1 y.groups.length gc1) (.int .i64 y.state) (.slice ya1 y.yes.length yc1) (.slice da1 y.done.length dc1) (.int .i64 y.code)
                have R6 := (set11_other (.int .i64 y.id.1) (.int .u64 (y.id.2 : Int)) (.int .i64 y.kind) (.slice ka1 y.keys.length kc1) (.int .u64 (y.token : Int)) (.int .i64 y.ttl) (.slice ga1 y.groups.length gc1) (.int .i64 y.state) (.slice ya1 y.yes.length yc1) (.slice da1 y.done.length dc1) (.int .i64 y.code) ny.out.2.2.1.symm).trans R5
                have hb6 := set11_below (.int .i64 y.id.1) (.int .u64 (y.id.2 : Int)) (.int .i64 y.kind) (.slice ka1 y.keys.length kc1) (.int .u64 (y.token : Int)) (.int .i64 y.ttl) (.slice ga1 y.groups.length gc1) (.int .i64 y.state) (.slice ya1 y.yes.length yc1) (.slice da1 y.done.length dc1) (.int .i64 y.code) (g := w.heap.size) hb5 (Nat.le_refl _)
                have O6 := XO.at_other (XO.below OYW.out hbc) P5 (fun k hk => set11_other (.int .i64 y.id.1) (.int .u64 (y.id.2 : Int)) (.int .i64 y.kind) (.slice ka1 y.keys.length kc1) (.int .u64 (y.token : Int)) (.int .i64 y.ttl) (.slice ga1 y.groups.length gc1) (.int .i64 y.state) (.slice ya1 y.yes.length yc1) (.slice da1 y.done.length dc1) (.int .i64 y.code) hk)
                obtain ⟨W6, hW6⟩ : ∃ W, set11 w5 w.heap.size (.int .i64 y.id.1) (.int .u64 (y.id.2 : Int)) (.int .i64 y.kind) (.slice ka1 y.keys.length kc1) (.int .u64 (y.token : Int)) (.int .i64 y.ttl) (.slice ga1 y.groups.length gc1) (.int .i64 y.state) (.slice ya1 y.yes.length yc1) (.slice da1 y.done.length dc1) (.int .i64 y.code) = W := ⟨_, rfl⟩
                rw [hW6] at P6 R6 hb6 O6
                unfold set11 at hW6
                have kR := reply_of ⟨y, (ka1, kc1), (ga1, gc1), (ya1, yc1), (da1, dc1)⟩ W6 O6.xr (Nat.le_trans yl.out.1 (by decide)) (Nat.le_trans yl.out.2.1 (by decide)) (Nat.le_trans yl.out.2.2.1 (by decide)) (Nat.le_trans yl.out.2.2.2 (by decide))
                rw [hry.out] at kR
                replace P6 : Hid (W6.heap[w.heap.size]? = some (.cells #[.int .i64 y.id.1, .int .u64 (y.id.2 : Int), .int .i64 y.kind, .slice ka1 y.keys.length kc1, .int .u64 (y.token : Int), .int .i64 y.ttl, .slice ga1 y.groups.length gc1, .int .i64 y.state, .slice ya1 y.yes.length yc1, .slice da1 y.done.length dc1, .int .i64 y.code] 29 (0, 0))) := P6
                replace R6 : Hid (W6.heap[w3.heap.size]? = some (.cells #[.int .i64 rc, .int .u64 (rt : Int), .slice none 0 0] 34 (0, 0))) := R6
                replace O6 : Hid (XO w.heap.size W6 ⟨y, (ka1, kc1), (ga1, gc1), (ya1, yc1), (da1, dc1)⟩) := O6
                replace hb6 : Hid (Below w.heap.size w W6) := hb6
                obtain ⟨c0, c1, c2, c3, c4, c5, c6, c7, c8, c9, c10⟩ := cells11 P6.out
                dsimp only [xv, rpv] at kR
                have l1 : ¬ (y.yes.length : Int) < (x.yes.length : Int) := by have := hle.out.1; omega
                have l1d : decide ((y.yes.length : Int) < (x.yes.length : Int)) = false := decide_eq_false l1
                have l2 : ¬ (y.done.length : Int) < (x.done.length : Int) := by have := hle.out.2; omega
                have l2d : decide ((y.done.length : Int) < (x.done.length : Int)) = false := decide_eq_false l2
                clear kM hbc P5 Y5 R5 hb5 PXW PYW PRW hbW OYW
                go_wp2_with fail
                refine kR.mono ?_
                rintro e w7 ⟨rfl, hbc⟩
                have P7 := (hbc.block _ (at_ltD P6.out)).trans P6.out
                have R7 := (hbc.block _ (at_ltD R6.out)).trans R6.out
                have hb7 := hb6.out.trans (hbc.mono hb6.out.size)
                obtain ⟨z7, q7, p7⟩ := one_box w7 (.cells #[.int .i64 qc, .int .u64 (qt : Int), .slice none 0 0] 34)
                have P8 : Hid _ := (p7.block _ (at_ltD P7)).trans P7
                have R8 : Hid _ := (p7.block _ (at_ltD R7)).trans R7
                have hb8 : Hid _ := hb7.trans (p7.mono hb7.size)
                have O8 : Hid (XO w.heap.size _ ⟨y, (ka1, kc1), (ga1, gc1), (ya1, yc1), (da1, dc1)⟩) := XO.below (XO.below O6.out hbc) p7
                have q8 : Hid _ := q7
                have nq : Hid (w3.heap.size ≠ w7.heap.size) := by have := at_ltD R7; show _ ≠ _; omega
                obtain ⟨c0, c1, c2, c3, c4, c5, c6, c7, c8, c9, c10⟩ := cells11 P8.out
                obtain ⟨m0, m1, m2⟩ := cells3 q8.out
                obtain ⟨u0, u1, u2⟩ := cells3 R8.out
                obtain ⟨v0, v1, v2⟩ := f_cells3 R8.out
                clear kR hbc P6 R6 O6 hb6 P7 R7 hb7 z7 q7 p7 l1 l1d l2 l2d
                have R10 := set3_block R8.out (.int .i64 qc) (.int .u64 (qt : Int)) (.slice none 0 0)
                have P10 := (set3_other (.int .i64 qc) (.int .u64 (qt : Int)) (.slice none 0 0) ny.out.2.2.1).trans P8.out
                have hb10 := set3_below (.int .i64 qc) (.int .u64 (qt : Int)) (.slice none 0 0) (g := w3.heap.size) hb8.out (Nat.le_of_lt hnr.out)
                have O10 : XQ w _ ⟨y, (ka1, kc1), (ga1, gc1), (ya1, yc1), (da1, dc1)⟩ := XQ.otherR (.inr O8.out) R8.out (fun k hk => set3_other (.int .i64 qc) (.int .u64 (qt : Int)) (.slice none 0 0) hk)
                unfold set3 at R10 P10 hb10 O10
                have F10 : Hid _ := (⟨R10, P10, hb10, O10⟩ : _ ∧ _ ∧ _ ∧ _)
                clear R10 P10 hb10 O10 P8 R8 O8 hb8 q8
                go_wp2
                go_roundg (gk - 1)
                case measure => have := HIG.out; omega
                case rel => exact ⟨i + 1, y, ka1, kc1, ga1, gc1, ya1, yc1, da1, dc1, by have := HIG.out; omega, by first | rfl | (rw [hnoY.out]), by rw [hry.out], by go_num, hoky, F10.out.2.1, by rw [hry.out]; exact F10.out.1, F10.out.2.2.2, F10.out.2.2.1⟩
              · obtain ⟨qc, hqc⟩ : ∃ q, q = y.code := ⟨_, rfl⟩
                obtain ⟨qt, hqt⟩ : ∃ q, q = (if y.code = 0 ∧ y.kind = 1 then y.token else 0) := ⟨_, rfl⟩
                have hry : Hid (replyM y = (qc, qt, true)) := by show _ = _; rw [reply_done a1 hs, hqc, hqt]
                have hcz : (qc == 0) = true := by rw [hqc, b2]; rfl
                have hyg : ((y.yes.length : Int) != (y.groups.length : Int)) = false := by rw [commit_all a1 hs b2]; simp
                clear a1 a2 a3 a4 hs b1 b2 b3 hno hqc hqt HST
                go_wp2_with fail
                refine kcl.mono ?_
                rintro e w4 ⟨⟨⟨ka1, kc1⟩, ⟨ga1, gc1⟩, ⟨ya1, yc1⟩, ⟨da1, dc1⟩, rfl, OY⟩, hbc⟩
                have PY := (hbc.block _ lz.out).trans q3
                have PX4 := (hbc.block _ (at_ltD PXA.out)).trans PXA.out
                have PR4 := (hbc.block _ (at_ltD PRA.out)).trans PRA.out
                have PS4 := (hbc.block wr.heap.size (Nat.lt_trans (Nat.lt_succ_self _) lz.out)).trans q2
                have hb4 := hbA.out.trans (hbc.mono hbA.out.size)
                have hq4 := hqA.out.below hbc
                have OYm := OY.mono hbA.out.size
                obtain ⟨c0, c1, c2, c3, c4, c5, c6, c7, c8, c9, c10⟩ := cells11 PY
                obtain ⟨f0, f1, f2, f3, f4, f5, f6, f7, f8, f9, f10⟩ := f_cells11 PY
                have PYW := set11_block PY (.int .i64 y.id.1) (.int .u64 (y.id.2 : Int)) (.int .i64 y.kind) (.slice ka1 y.keys.length kc1) (.int .u64 (y.token : Int)) (.int .i64 y.ttl) (.slice ga1 y.groups.length gc1) (.int .i64 y.state) (.slice ya1 y.yes.length yc1) (.slice da1 y.done.length dc1) (.int .i64 y.code)
                have PXW := (set11_other (.int .i64 y.id.1) (.int .u64 (y.id.2 : Int)) (.int .i64 y.kind) (.slice ka1 y.keys.length kc1) (.int .u64 (y.token : Int)) (.int .i64 y.ttl) (.slice ga1 y.groups.length gc1) (.int .i64 y.state) (.slice ya1 y.yes.length yc1) (.slice da1 y.done.length dc1) (.int .i64 y.code) ny.out.1).trans PX4
                have PRW := (set11_other (.int .i64 y.id.1) (.int .u64 (y.id.2 : Int)) (.int .i64 y.kind) (.slice ka1 y.keys.length kc1) (.int .u64 (y.token : Int)) (.int .i64 y.ttl) (.slice ga1 y.groups.length gc1) (.int .i64 y.state) (.slice ya1 y.yes.length yc1) (.slice da1 y.done.length dc1) (.int .i64 y.code) ny.out.2.1).trans PR4
                have PSW := (set11_other (.int .i64 y.id.1) (.int .u64 (y.id.2 : Int)) (.int .i64 y.kind) (.slice ka1 y.keys.length kc1) (.int .u64 (y.token : Int)) (.int .i64 y.ttl) (.slice ga1 y.groups.length gc1) (.int .i64 y.state) (.slice ya1 y.yes.length yc1) (.slice da1 y.done.length dc1) (.int .i64 y.code) (show wr.heap.size ≠ wr.heap.size + 1 from Nat.ne_of_lt (Nat.lt_succ_self _))).trans PS4
                have hbW := set11_below (.int .i64 y.id.1) (.int .u64 (y.id.2 : Int)) (.int .i64 y.kind) (.slice ka1 y.keys.length kc1) (.int .u64 (y.token : Int)) (.int .i64 y.ttl) (.slice ga1 y.groups.length gc1) (.int .i64 y.state) (.slice ya1 y.yes.length yc1) (.slice da1 y.done.length dc1) (.int .i64 y.code) (g := wr.heap.size + 1) hb4 ny.out.2.2.2
                have OYW := OYm.at_other PY (fun k hk => set11_other (.int .i64 y.id.1) (.int .u64 (y.id.2 : Int)) (.int .i64 y.kind) (.slice ka1 y.keys.length kc1) (.int .u64 (y.token : Int)) (.int .i64 y.ttl) (.slice ga1 y.groups.length gc1) (.int .i64 y.state) (.slice ya1 y.yes.length yc1) (.slice da1 y.done.length dc1) (.int .i64 y.code) hk)
                have hqW := hq4.other PY (fun k hk => set11_other (.int .i64 y.id.1) (.int .u64 (y.id.2 : Int)) (.int .i64 y.kind) (.slice ka1 y.keys.length kc1) (.int .u64 (y.token : Int)) (.int .i64 y.ttl) (.slice ga1 y.groups.length gc1) (.int .i64 y.state) (.slice ya1 y.yes.length yc1) (.slice da1 y.done.length dc1) (.int .i64 y.code) hk)
                obtain ⟨W1, hW1⟩ : ∃ W, set11 w4 (wr.heap.size + 1) (.int .i64 y.id.1) (.int .u64 (y.id.2 : Int)) (.int .i64 y.kind) (.slice ka1 y.keys.length kc1) (.int .u64 (y.token : Int)) (.int .i64 y.ttl) (.slice ga1 y.groups.length gc1) (.int .i64 y.state) (.slice ya1 y.yes.length yc1) (.slice da1 y.done.length dc1) (.int .i64 y.code) = W := ⟨_, rfl⟩
                rw [hW1] at PYW PXW PRW PSW hbW OYW hqW
                unfold set11 at hW1
                obtain ⟨s0, s1, s2, s3⟩ := cells4 PSW
                replace PYW : Hid (W1.heap[wr.heap.size + 1]? = some (.cells #[.int .i64 y.id.1, .int .u64 (y.id.2 : Int), .int .i64 y.kind, .slice ka1 y.keys.length kc1, .int .u64 (y.token : Int), .int .i64 y.ttl, .slice ga1 y.groups.length gc1, .int .i64 y.state, .slice ya1 y.yes.length yc1, .slice da1 y.done.length dc1, .int .i64 y.code] 29 (0, 0))) := PYW
                replace PXW : Hid (W1.heap[w.heap.size]? = some (.cells #[.int .i64 x.id.1, .int .u64 (x.id.2 : Int), .int .i64 x.kind, .slice ka x.keys.length kc, .int .u64 (x.token : Int), .int .i64 x.ttl, .slice ga x.groups.length gc, .int .i64 x.state, .slice ya x.yes.length yc, .slice da x.done.length dc, .int .i64 x.code] 29 (0, 0))) := PXW
                replace PRW : Hid (W1.heap[w3.heap.size]? = some (.cells #[.int .i64 rc, .int .u64 (rt : Int), .slice none 0 0] 34 (0, 0))) := PRW
                replace OYW : Hid (XO w.heap.size W1 ⟨y, (ka1, kc1), (ga1, gc1), (ya1, yc1), (da1, dc1)⟩) := OYW
                replace hbW : Hid (Below w.heap.size w W1) := hbW
                replace hqW : Hid (XQ w W1 ⟨x, (ka, kc), (ga, gc), (ya, yc), (da, dc)⟩) := hqW
                clear kcl hbc PY PX4 PR4 PS4 PSW hb4 hq4 OY OYm q1 q2 q3 q4 PXA PRA hqA hbA PX PR hq hb lz xr gl
                have kM := rmay_of ⟨y, (ka1, kc1), (ga1, gc1), (ya1, yc1), (da1, dc1)⟩ W1 OYW.out.xr (Nat.le_trans yl.out.1 (by decide)) (Nat.le_trans yl.out.2.1 (by decide)) (Nat.le_trans yl.out.2.2.1 (by decide)) (Nat.le_trans yl.out.2.2.2 (by decide))
                rw [hoky.out] at kM
                obtain ⟨c0, c1, c2, c3, c4, c5, c6, c7, c8, c9, c10⟩ := cells11 PXW.out
                obtain ⟨d0, d1, d2, d3, d4, d5, d6, d7, d8, d9, d10⟩ := cells11 PYW.out
                dsimp only [xv] at kM
                go_wp2_with fail
                refine kM.mono ?_
                rintro e w5 ⟨rfl, hbc⟩
                have P5 := (hbc.block _ (at_ltD PXW.out)).trans PXW.out
                have Y5 := (hbc.block _ (at_ltD PYW.out)).trans PYW.out
                have R5 := (hbc.block _ (at_ltD PRW.out)).trans PRW.out
                have hb5 := hbW.out.trans (hbc.mono hbW.out.size)
                obtain ⟨c0, c1, c2, c3, c4, c5, c6, c7, c8, c9, c10⟩ := cells11 P5
                obtain ⟨d0, d1, d2, d3, d4, d5, d6, d7, d8, d9, d10⟩ := cells11 Y5
                obtain ⟨f0, f1, f2, f3, f4, f5, f6, f7, f8, f9, f10⟩ := f_cells11 P5
                have P6 := set11_block P5 (.int .i64 y.id.1) (.int .u64 (y.id.2 : Int)) (.int .i64 y.kind) (.slice ka1 y.keys.length kc1) (.int .u64 (y.token : Int)) (.int .i64 y.ttl) (.slice ga1 y.groups.length gc1) (.int .i64 y.state) (.slice ya1 y.yes.length yc1) (.slice da1 y.done.length dc1) (.int .i64 y.code)
                have R6 := (set11_other (.int .i64 y.id.1) (.int .u64 (y.id.2 : Int)) (.int .i64 y.kind) (.slice ka1 y.keys.length kc1) (.int .u64 (y.token : Int)) (.int .i64 y.ttl) (.slice ga1 y.groups.length gc1) (.int .i64 y.state) (.slice ya1 y.yes.length yc1) (.slice da1 y.done.length dc1) (.int .i64 y.code) ny.out.2.2.1.symm).trans R5
                have hb6 := set11_below (.int .i64 y.id.1) (.int .u64 (y.id.2 : Int)) (.int .i64 y.kind) (.slice ka1 y.keys.length kc1) (.int .u64 (y.token : Int)) (.int .i64 y.ttl) (.slice ga1 y.groups.length gc1) (.int .i64 y.state) (.slice ya1 y.yes.length yc1) (.slice da1 y.done.length dc1) (.int .i64 y.code) (g := w.heap.size) hb5 (Nat.le_refl _)
                have O6 := XO.at_other (XO.below OYW.out hbc) P5 (fun k hk => set11_other (.int .i64 y.id.1) (.int .u64 (y.id.2 : Int)) (.int .i64 y.kind) (.slice ka1 y.keys.length kc1) (.int .u64 (y.token : Int)) (.int .i64 y.ttl) (.slice ga1 y.groups.length gc1) (.int .i64 y.state) (.slice ya1 y.yes.length yc1) (.slice da1 y.done.length dc1) (.int .i64 y.code) hk)
                obtain ⟨W6, hW6⟩ : ∃ W, set11 w5 w.heap.size (.int .i64 y.id.1) (.int .u64 (y.id.2 : Int)) (.int .i64 y.kind) (.slice ka1 y.keys.length kc1) (.int .u64 (y.token : Int)) (.int .i64 y.ttl) (.slice ga1 y.groups.length gc1) (.int .i64 y.state) (.slice ya1 y.yes.length yc1) (.slice da1 y.done.length dc1) (.int .i64 y.code) = W := ⟨_, rfl⟩
                rw [hW6] at P6 R6 hb6 O6
                unfold set11 at hW6
                have kR := reply_of ⟨y, (ka1, kc1), (ga1, gc1), (ya1, yc1), (da1, dc1)⟩ W6 O6.xr (Nat.le_trans yl.out.1 (by decide)) (Nat.le_trans yl.out.2.1 (by decide)) (Nat.le_trans yl.out.2.2.1 (by decide)) (Nat.le_trans yl.out.2.2.2 (by decide))
                rw [hry.out] at kR
                replace P6 : Hid (W6.heap[w.heap.size]? = some (.cells #[.int .i64 y.id.1, .int .u64 (y.id.2 : Int), .int .i64 y.kind, .slice ka1 y.keys.length kc1, .int .u64 (y.token : Int), .int .i64 y.ttl, .slice ga1 y.groups.length gc1, .int .i64 y.state, .slice ya1 y.yes.length yc1, .slice da1 y.done.length dc1, .int .i64 y.code] 29 (0, 0))) := P6
                replace R6 : Hid (W6.heap[w3.heap.size]? = some (.cells #[.int .i64 rc, .int .u64 (rt : Int), .slice none 0 0] 34 (0, 0))) := R6
                replace O6 : Hid (XO w.heap.size W6 ⟨y, (ka1, kc1), (ga1, gc1), (ya1, yc1), (da1, dc1)⟩) := O6
                replace hb6 : Hid (Below w.heap.size w W6) := hb6
                obtain ⟨c0, c1, c2, c3, c4, c5, c6, c7, c8, c9, c10⟩ := cells11 P6.out
                dsimp only [xv, rpv] at kR
                have l1 : ¬ (y.yes.length : Int) < (x.yes.length : Int) := by have := hle.out.1; omega
                have l1d : decide ((y.yes.length : Int) < (x.yes.length : Int)) = false := decide_eq_false l1
                have l2 : ¬ (y.done.length : Int) < (x.done.length : Int) := by have := hle.out.2; omega
                have l2d : decide ((y.done.length : Int) < (x.done.length : Int)) = false := decide_eq_false l2
                clear kM hbc P5 Y5 R5 hb5 PXW PYW PRW hbW OYW
                go_wp2_with fail
                refine kR.mono ?_
                rintro e w7 ⟨rfl, hbc⟩
                have P7 := (hbc.block _ (at_ltD P6.out)).trans P6.out
                have R7 := (hbc.block _ (at_ltD R6.out)).trans R6.out
                have hb7 := hb6.out.trans (hbc.mono hb6.out.size)
                obtain ⟨z7, q7, p7⟩ := one_box w7 (.cells #[.int .i64 qc, .int .u64 (qt : Int), .slice none 0 0] 34)
                have P8 : Hid _ := (p7.block _ (at_ltD P7)).trans P7
                have R8 : Hid _ := (p7.block _ (at_ltD R7)).trans R7
                have hb8 : Hid _ := hb7.trans (p7.mono hb7.size)
                have O8 : Hid (XO w.heap.size _ ⟨y, (ka1, kc1), (ga1, gc1), (ya1, yc1), (da1, dc1)⟩) := XO.below (XO.below O6.out hbc) p7
                have q8 : Hid _ := q7
                have nq : Hid (w3.heap.size ≠ w7.heap.size) := by have := at_ltD R7; show _ ≠ _; omega
                obtain ⟨c0, c1, c2, c3, c4, c5, c6, c7, c8, c9, c10⟩ := cells11 P8.out
                obtain ⟨m0, m1, m2⟩ := cells3 q8.out
                obtain ⟨u0, u1, u2⟩ := cells3 R8.out
                obtain ⟨v0, v1, v2⟩ := f_cells3 R8.out
                clear kR hbc P6 R6 O6 hb6 P7 R7 hb7 z7 q7 p7 l1 l1d l2 l2d
                have R10 := set3_block R8.out (.int .i64 qc) (.int .u64 (qt : Int)) (.slice none 0 0)
                have P10 := (set3_other (.int .i64 qc) (.int .u64 (qt : Int)) (.slice none 0 0) ny.out.2.2.1).trans P8.out
                have hb10 := set3_below (.int .i64 qc) (.int .u64 (qt : Int)) (.slice none 0 0) (g := w3.heap.size) hb8.out (Nat.le_of_lt hnr.out)
                have O10 : XQ w _ ⟨y, (ka1, kc1), (ga1, gc1), (ya1, yc1), (da1, dc1)⟩ := XQ.otherR (.inr O8.out) R8.out (fun k hk => set3_other (.int .i64 qc) (.int .u64 (qt : Int)) (.slice none 0 0) hk)
                unfold set3 at R10 P10 hb10 O10
                have F10 : Hid _ := (⟨R10, P10, hb10, O10⟩ : _ ∧ _ ∧ _ ∧ _)
                clear R10 P10 hb10 O10 P8 R8 O8 hb8 q8
                go_wp2
                go_roundg (gk - 1)
                case measure => have := HIG.out; omega
                case rel => exact ⟨i + 1, y, ka1, kc1, ga1, gc1, ya1, yc1, da1, dc1, by have := HIG.out; omega, by first | rfl | (rw [hnoY.out]), by rw [hry.out], by go_num, hoky, F10.out.2.1, by rw [hry.out]; exact F10.out.1, F10.out.2.2.2, F10.out.2.2.1⟩
            · have hCd : (C != 0) = true := by simpa using hC
              clear hC HST
              go_wp2_with fail
              refine kcl.mono ?_
              rintro e w4 ⟨⟨⟨ka1, kc1⟩, ⟨ga1, gc1⟩, ⟨ya1, yc1⟩, ⟨da1, dc1⟩, rfl, OY⟩, hbc⟩
              have PY := (hbc.block _ lz.out).trans q3
              have PX4 := (hbc.block _ (at_ltD PXA.out)).trans PXA.out
              have PR4 := (hbc.block _ (at_ltD PRA.out)).trans PRA.out
              have PS4 := (hbc.block wr.heap.size (Nat.lt_trans (Nat.lt_succ_self _) lz.out)).trans q2
              have hb4 := hbA.out.trans (hbc.mono hbA.out.size)
              have hq4 := hqA.out.below hbc
              have OYm := OY.mono hbA.out.size
              obtain ⟨c0, c1, c2, c3, c4, c5, c6, c7, c8, c9, c10⟩ := cells11 PY
              obtain ⟨f0, f1, f2, f3, f4, f5, f6, f7, f8, f9, f10⟩ := f_cells11 PY
              have PYW := set11_block PY (.int .i64 y.id.1) (.int .u64 (y.id.2 : Int)) (.int .i64 y.kind) (.slice ka1 y.keys.length kc1) (.int .u64 (y.token : Int)) (.int .i64 y.ttl) (.slice ga1 y.groups.length gc1) (.int .i64 y.state) (.slice ya1 y.yes.length yc1) (.slice da1 y.done.length dc1) (.int .i64 y.code)
              have PXW := (set11_other (.int .i64 y.id.1) (.int .u64 (y.id.2 : Int)) (.int .i64 y.kind) (.slice ka1 y.keys.length kc1) (.int .u64 (y.token : Int)) (.int .i64 y.ttl) (.slice ga1 y.groups.length gc1) (.int .i64 y.state) (.slice ya1 y.yes.length yc1) (.slice da1 y.done.length dc1) (.int .i64 y.code) ny.out.1).trans PX4
              have PRW := (set11_other (.int .i64 y.id.1) (.int .u64 (y.id.2 : Int)) (.int .i64 y.kind) (.slice ka1 y.keys.length kc1) (.int .u64 (y.token : Int)) (.int .i64 y.ttl) (.slice ga1 y.groups.length gc1) (.int .i64 y.state) (.slice ya1 y.yes.length yc1) (.slice da1 y.done.length dc1) (.int .i64 y.code) ny.out.2.1).trans PR4
              have PSW := (set11_other (.int .i64 y.id.1) (.int .u64 (y.id.2 : Int)) (.int .i64 y.kind) (.slice ka1 y.keys.length kc1) (.int .u64 (y.token : Int)) (.int .i64 y.ttl) (.slice ga1 y.groups.length gc1) (.int .i64 y.state) (.slice ya1 y.yes.length yc1) (.slice da1 y.done.length dc1) (.int .i64 y.code) (show wr.heap.size ≠ wr.heap.size + 1 from Nat.ne_of_lt (Nat.lt_succ_self _))).trans PS4
              have hbW := set11_below (.int .i64 y.id.1) (.int .u64 (y.id.2 : Int)) (.int .i64 y.kind) (.slice ka1 y.keys.length kc1) (.int .u64 (y.token : Int)) (.int .i64 y.ttl) (.slice ga1 y.groups.length gc1) (.int .i64 y.state) (.slice ya1 y.yes.length yc1) (.slice da1 y.done.length dc1) (.int .i64 y.code) (g := wr.heap.size + 1) hb4 ny.out.2.2.2
              have OYW := OYm.at_other PY (fun k hk => set11_other (.int .i64 y.id.1) (.int .u64 (y.id.2 : Int)) (.int .i64 y.kind) (.slice ka1 y.keys.length kc1) (.int .u64 (y.token : Int)) (.int .i64 y.ttl) (.slice ga1 y.groups.length gc1) (.int .i64 y.state) (.slice ya1 y.yes.length yc1) (.slice da1 y.done.length dc1) (.int .i64 y.code) hk)
              have hqW := hq4.other PY (fun k hk => set11_other (.int .i64 y.id.1) (.int .u64 (y.id.2 : Int)) (.int .i64 y.kind) (.slice ka1 y.keys.length kc1) (.int .u64 (y.token : Int)) (.int .i64 y.ttl) (.slice ga1 y.groups.length gc1) (.int .i64 y.state) (.slice ya1 y.yes.length yc1) (.slice da1 y.done.length dc1) (.int .i64 y.code) hk)
              obtain ⟨W1, hW1⟩ : ∃ W, set11 w4 (wr.heap.size + 1) (.int .i64 y.id.1) (.int .u64 (y.id.2 : Int)) (.int .i64 y.kind) (.slice ka1 y.keys.length kc1) (.int .u64 (y.token : Int)) (.int .i64 y.ttl) (.slice ga1 y.groups.length gc1) (.int .i64 y.state) (.slice ya1 y.yes.length yc1) (.slice da1 y.done.length dc1) (.int .i64 y.code) = W := ⟨_, rfl⟩
              rw [hW1] at PYW PXW PRW PSW hbW OYW hqW
              unfold set11 at hW1
              obtain ⟨s0, s1, s2, s3⟩ := cells4 PSW
              replace PYW : Hid (W1.heap[wr.heap.size + 1]? = some (.cells #[.int .i64 y.id.1, .int .u64 (y.id.2 : Int), .int .i64 y.kind, .slice ka1 y.keys.length kc1, .int .u64 (y.token : Int), .int .i64 y.ttl, .slice ga1 y.groups.length gc1, .int .i64 y.state, .slice ya1 y.yes.length yc1, .slice da1 y.done.length dc1, .int .i64 y.code] 29 (0, 0))) := PYW
              replace PXW : Hid (W1.heap[w.heap.size]? = some (.cells #[.int .i64 x.id.1, .int .u64 (x.id.2 : Int), .int .i64 x.kind, .slice ka x.keys.length kc, .int .u64 (x.token : Int), .int .i64 x.ttl, .slice ga x.groups.length gc, .int .i64 x.state, .slice ya x.yes.length yc, .slice da x.done.length dc, .int .i64 x.code] 29 (0, 0))) := PXW
              replace PRW : Hid (W1.heap[w3.heap.size]? = some (.cells #[.int .i64 rc, .int .u64 (rt : Int), .slice none 0 0] 34 (0, 0))) := PRW
              replace OYW : Hid (XO w.heap.size W1 ⟨y, (ka1, kc1), (ga1, gc1), (ya1, yc1), (da1, dc1)⟩) := OYW
              replace hbW : Hid (Below w.heap.size w W1) := hbW
              replace hqW : Hid (XQ w W1 ⟨x, (ka, kc), (ga, gc), (ya, yc), (da, dc)⟩) := hqW
              clear kcl hbc PY PX4 PR4 PS4 PSW hb4 hq4 OY OYm q1 q2 q3 q4 PXA PRA hqA hbA PX PR hq hb lz xr gl
              go_wp2
              go_roundg (gk - 1)
              case measure => have := HIG.out; omega
              case rel => exact ⟨i + 1, x, ka, kc, ga, gc, ya, yc, da, dc, by have := HIG.out; omega, by first | rfl | simp, by rw [HRX.out], by go_num, hok, PXW, by rw [HRX.out]; exact PRW, hqW, hbW⟩
          · have h0d : (sa == 0) = false := by simpa using h0
            by_cases h1 : sa = 1
            · have h1d : (sa == 1) = true := by simp [h1]
              clear h0 h1
              have kcl := applied_m ⟨x, (ka, kc), (ga, gc), (ya, yc), (da, dc)⟩ sg _ xr.out gl.out.1 gl.out.2.1 gl.out.2.2.1 gl.out.2.2.2
              have HST : Hid (∀ y, appliedM x sg (plusL x.done sg 16) (subB x.groups (plusL x.done sg 16)) = (y, 0) → _) := fun y h => step_applied hok.out h
              generalize hM : appliedM x sg (plusL x.done sg 16) (subB x.groups (plusL x.done sg 16)) = MM at *
              clear hM
              obtain ⟨y, C⟩ := MM
              dsimp only [xv] at kcl
              by_cases hC : C = 0
              · subst hC
                obtain ⟨⟨a1, a2, a3, a4⟩, b1⟩ := HST.out y rfl
                have hoky : Hid (okX y = true) := a1
                have hle : Hid (x.yes.length ≤ y.yes.length ∧ x.done.length ≤ y.done.length) := ⟨a2, a3⟩
                have yl : Hid _ := ok_lens a1
                obtain ⟨hs, b2, b3, b4⟩ := a4 b1
                obtain ⟨hqc, hqt, rfl⟩ : rc = y.code ∧ rt = (if y.code = 0 ∧ y.kind = 1 then y.token else 0) ∧ rd = true := by
                  have := HRX.out.symm.trans (reply_done hok.out b1)
                  rw [b2, b3, b4]
                  simpa using this
                have hry : Hid (replyM y = (rc, rt, true)) := by show _ = _; rw [reply_done a1 hs, hqc, hqt]
                have hnoY : Hid (decide (x.code ≠ 0) = decide (y.code ≠ 0)) := by show _ = _; rw [b2]
                by_cases hz : y.code = 0
                · have hno : decide (x.code ≠ 0) = false := by rw [← b2, hz]; rfl
                  rw [hno]
                  replace hnoY : Hid (decide (y.code ≠ 0) = false) := by show _ = _; rw [← hnoY.out, hno]
                  have hcz : (rc == 0) = true := by rw [hqc, hz]; rfl
                  have hyg : ((y.yes.length : Int) != (y.groups.length : Int)) = false := by rw [commit_all a1 hs hz]; simp
                  clear a1 a2 a3 a4 hs b1 b2 b3 b4 hno hqc hqt hz HST
                  go_wp2_with fail
                  refine kcl.mono ?_
                  rintro e w4 ⟨⟨⟨ka1, kc1⟩, ⟨ga1, gc1⟩, ⟨ya1, yc1⟩, ⟨da1, dc1⟩, rfl, OY⟩, hbc⟩
                  have PY := (hbc.block _ lz.out).trans q3
                  have PX4 := (hbc.block _ (at_ltD PXA.out)).trans PXA.out
                  have PR4 := (hbc.block _ (at_ltD PRA.out)).trans PRA.out
                  have PS4 := (hbc.block wr.heap.size (Nat.lt_trans (Nat.lt_succ_self _) lz.out)).trans q2
                  have hb4 := hbA.out.trans (hbc.mono hbA.out.size)
                  have hq4 := hqA.out.below hbc
                  have OYm := OY.mono hbA.out.size
                  obtain ⟨c0, c1, c2, c3, c4, c5, c6, c7, c8, c9, c10⟩ := cells11 PY
                  obtain ⟨f0, f1, f2, f3, f4, f5, f6, f7, f8, f9, f10⟩ := f_cells11 PY
                  have PYW := set11_block PY (.int .i64 y.id.1) (.int .u64 (y.id.2 : Int)) (.int .i64 y.kind) (.slice ka1 y.keys.length kc1) (.int .u64 (y.token : Int)) (.int .i64 y.ttl) (.slice ga1 y.groups.length gc1) (.int .i64 y.state) (.slice ya1 y.yes.length yc1) (.slice da1 y.done.length dc1) (.int .i64 y.code)
                  have PXW := (set11_other (.int .i64 y.id.1) (.int .u64 (y.id.2 : Int)) (.int .i64 y.kind) (.slice ka1 y.keys.length kc1) (.int .u64 (y.token : Int)) (.int .i64 y.ttl) (.slice ga1 y.groups.length gc1) (.int .i64 y.state) (.slice ya1 y.yes.length yc1) (.slice da1 y.done.length dc1) (.int .i64 y.code) ny.out.1).trans PX4
                  have PRW := (set11_other (.int .i64 y.id.1) (.int .u64 (y.id.2 : Int)) (.int .i64 y.kind) (.slice ka1 y.keys.length kc1) (.int .u64 (y.token : Int)) (.int .i64 y.ttl) (.slice ga1 y.groups.length gc1) (.int .i64 y.state) (.slice ya1 y.yes.length yc1) (.slice da1 y.done.length dc1) (.int .i64 y.code) ny.out.2.1).trans PR4
                  have PSW := (set11_other (.int .i64 y.id.1) (.int .u64 (y.id.2 : Int)) (.int .i64 y.kind) (.slice ka1 y.keys.length kc1) (.int .u64 (y.token : Int)) (.int .i64 y.ttl) (.slice ga1 y.groups.length gc1) (.int .i64 y.state) (.slice ya1 y.yes.length yc1) (.slice da1 y.done.length dc1) (.int .i64 y.code) (show wr.heap.size ≠ wr.heap.size + 1 from Nat.ne_of_lt (Nat.lt_succ_self _))).trans PS4
                  have hbW := set11_below (.int .i64 y.id.1) (.int .u64 (y.id.2 : Int)) (.int .i64 y.kind) (.slice ka1 y.keys.length kc1) (.int .u64 (y.token : Int)) (.int .i64 y.ttl) (.slice ga1 y.groups.length gc1) (.int .i64 y.state) (.slice ya1 y.yes.length yc1) (.slice da1 y.done.length dc1) (.int .i64 y.code) (g := wr.heap.size + 1) hb4 ny.out.2.2.2
                  have OYW := OYm.at_other PY (fun k hk => set11_other (.int .i64 y.id.1) (.int .u64 (y.id.2 : Int)) (.int .i64 y.kind) (.slice ka1 y.keys.length kc1) (.int .u64 (y.token : Int)) (.int .i64 y.ttl) (.slice ga1 y.groups.length gc1) (.int .i64 y.state) (.slice ya1 y.yes.length yc1) (.slice da1 y.done.length dc1) (.int .i64 y.code) hk)
                  have hqW := hq4.other PY (fun k hk => set11_other (.int .i64 y.id.1) (.int .u64 (y.id.2 : Int)) (.int .i64 y.kind) (.slice ka1 y.keys.length kc1) (.int .u64 (y.token : Int)) (.int .i64 y.ttl) (.slice ga1 y.groups.length gc1) (.int .i64 y.state) (.slice ya1 y.yes.length yc1) (.slice da1 y.done.length dc1) (.int .i64 y.code) hk)
                  obtain ⟨W1, hW1⟩ : ∃ W, set11 w4 (wr.heap.size + 1) (.int .i64 y.id.1) (.int .u64 (y.id.2 : Int)) (.int .i64 y.kind) (.slice ka1 y.keys.length kc1) (.int .u64 (y.token : Int)) (.int .i64 y.ttl) (.slice ga1 y.groups.length gc1) (.int .i64 y.state) (.slice ya1 y.yes.length yc1) (.slice da1 y.done.length dc1) (.int .i64 y.code) = W := ⟨_, rfl⟩
                  rw [hW1] at PYW PXW PRW PSW hbW OYW hqW
                  unfold set11 at hW1
                  obtain ⟨s0, s1, s2, s3⟩ := cells4 PSW
                  replace PYW : Hid (W1.heap[wr.heap.size + 1]? = some (.cells #[.int .i64 y.id.1, .int .u64 (y.id.2 : Int), .int .i64 y.kind, .slice ka1 y.keys.length kc1, .int .u64 (y.token : Int), .int .i64 y.ttl, .slice ga1 y.groups.length gc1, .int .i64 y.state, .slice ya1 y.yes.length yc1, .slice da1 y.done.length dc1, .int .i64 y.code] 29 (0, 0))) := PYW
                  replace PXW : Hid (W1.heap[w.heap.size]? = some (.cells #[.int .i64 x.id.1, .int .u64 (x.id.2 : Int), .int .i64 x.kind, .slice ka x.keys.length kc, .int .u64 (x.token : Int), .int .i64 x.ttl, .slice ga x.groups.length gc, .int .i64 x.state, .slice ya x.yes.length yc, .slice da x.done.length dc, .int .i64 x.code] 29 (0, 0))) := PXW
                  replace PRW : Hid (W1.heap[w3.heap.size]? = some (.cells #[.int .i64 rc, .int .u64 (rt : Int), .slice none 0 0] 34 (0, 0))) := PRW
                  replace OYW : Hid (XO w.heap.size W1 ⟨y, (ka1, kc1), (ga1, gc1), (ya1, yc1), (da1, dc1)⟩) := OYW
                  replace hbW : Hid (Below w.heap.size w W1) := hbW
                  replace hqW : Hid (XQ w W1 ⟨x, (ka, kc), (ga, gc), (ya, yc), (da, dc)⟩) := hqW
                  clear kcl hbc PY PX4 PR4 PS4 PSW hb4 hq4 OY OYm q1 q2 q3 q4 PXA PRA hqA hbA PX PR hq hb lz xr gl
                  have kM := rmay_of ⟨y, (ka1, kc1), (ga1, gc1), (ya1, yc1), (da1, dc1)⟩ W1 OYW.out.xr (Nat.le_trans yl.out.1 (by decide)) (Nat.le_trans yl.out.2.1 (by decide)) (Nat.le_trans yl.out.2.2.1 (by decide)) (Nat.le_trans yl.out.2.2.2 (by decide))
                  rw [hoky.out] at kM
                  obtain ⟨c0, c1, c2, c3, c4, c5, c6, c7, c8, c9, c10⟩ := cells11 PXW.out
                  obtain ⟨d0, d1, d2, d3, d4, d5, d6, d7, d8, d9, d10⟩ := cells11 PYW.out
                  dsimp only [xv] at kM
                  go_wp2_with fail
                  refine kM.mono ?_
                  rintro e w5 ⟨rfl, hbc⟩
                  have P5 := (hbc.block _ (at_ltD PXW.out)).trans PXW.out
                  have Y5 := (hbc.block _ (at_ltD PYW.out)).trans PYW.out
                  have R5 := (hbc.block _ (at_ltD PRW.out)).trans PRW.out
                  have hb5 := hbW.out.trans (hbc.mono hbW.out.size)
                  obtain ⟨c0, c1, c2, c3, c4, c5, c6, c7, c8, c9, c10⟩ := cells11 P5
                  obtain ⟨d0, d1, d2, d3, d4, d5, d6, d7, d8, d9, d10⟩ := cells11 Y5
                  obtain ⟨f0, f1, f2, f3, f4, f5, f6, f7, f8, f9, f10⟩ := f_cells11 P5
                  have P6 := set11_block P5 (.int .i64 y.id.1) (.int .u64 (y.id.2 : Int)) (.int .i64 y.kind) (.slice ka1 y.keys.length kc1) (.int .u64 (y.token : Int)) (.int .i64 y.ttl) (.slice ga1 y.groups.length gc1) (.int .i64 y.state) (.slice ya1 y.yes.length yc1) (.slice da1 y.done.length dc1) (.int .i64 y.code)
                  have R6 := (set11_other (.int .i64 y.id.1) (.int .u64 (y.id.2 : Int)) (.int .i64 y.kind) (.slice ka1 y.keys.length kc1) (.int .u64 (y.token : Int)) (.int .i64 y.ttl) (.slice ga1 y.groups.length gc1) (.int .i64 y.state) (.slice ya1 y.yes.length yc1) (.slice da1 y.done.length dc1) (.int .i64 y.code) ny.out.2.2.1.symm).trans R5
                  have hb6 := set11_below (.int .i64 y.id.1) (.int .u64 (y.id.2 : Int)) (.int .i64 y.kind) (.slice ka1 y.keys.length kc1) (.int .u64 (y.token : Int)) (.int .i64 y.ttl) (.slice ga1 y.groups.length gc1) (.int .i64 y.state) (.slice ya1 y.yes.length yc1) (.slice da1 y.done.length dc1) (.int .i64 y.code) (g := w.heap.size) hb5 (Nat.le_refl _)
                  have O6 := XO.at_other (XO.below OYW.out hbc) P5 (fun k hk => set11_other (.int .i64 y.id.1) (.int .u64 (y.id.2 : Int)) (.int .i64 y.kind) (.slice ka1 y.keys.length kc1) (.int .u64 (y.token : Int)) (.int .i64 y.ttl) (.slice ga1 y.groups.length gc1) (.int .i64 y.state) (.slice ya1 y.yes.length yc1) (.slice da1 y.done.length dc1) (.int .i64 y.code) hk)
                  obtain ⟨W6, hW6⟩ : ∃ W, set11 w5 w.heap.size (.int .i64 y.id.1) (.int .u64 (y.id.2 : Int)) (.int .i64 y.kind) (.slice ka1 y.keys.length kc1) (.int .u64 (y.token : Int)) (.int .i64 y.ttl) (.slice ga1 y.groups.length gc1) (.int .i64 y.state) (.slice ya1 y.yes.length yc1) (.slice da1 y.done.length dc1) (.int .i64 y.code) = W := ⟨_, rfl⟩
                  rw [hW6] at P6 R6 hb6 O6
                  unfold set11 at hW6
                  have kR := reply_of ⟨y, (ka1, kc1), (ga1, gc1), (ya1, yc1), (da1, dc1)⟩ W6 O6.xr (Nat.le_trans yl.out.1 (by decide)) (Nat.le_trans yl.out.2.1 (by decide)) (Nat.le_trans yl.out.2.2.1 (by decide)) (Nat.le_trans yl.out.2.2.2 (by decide))
                  rw [hry.out] at kR
                  replace P6 : Hid (W6.heap[w.heap.size]? = some (.cells #[.int .i64 y.id.1, .int .u64 (y.id.2 : Int), .int .i64 y.kind, .slice ka1 y.keys.length kc1, .int .u64 (y.token : Int), .int .i64 y.ttl, .slice ga1 y.groups.length gc1, .int .i64 y.state, .slice ya1 y.yes.length yc1, .slice da1 y.done.length dc1, .int .i64 y.code] 29 (0, 0))) := P6
                  replace R6 : Hid (W6.heap[w3.heap.size]? = some (.cells #[.int .i64 rc, .int .u64 (rt : Int), .slice none 0 0] 34 (0, 0))) := R6
                  replace O6 : Hid (XO w.heap.size W6 ⟨y, (ka1, kc1), (ga1, gc1), (ya1, yc1), (da1, dc1)⟩) := O6
                  replace hb6 : Hid (Below w.heap.size w W6) := hb6
                  obtain ⟨c0, c1, c2, c3, c4, c5, c6, c7, c8, c9, c10⟩ := cells11 P6.out
                  dsimp only [xv, rpv] at kR
                  have l1 : ¬ (y.yes.length : Int) < (x.yes.length : Int) := by have := hle.out.1; omega
                  have l1d : decide ((y.yes.length : Int) < (x.yes.length : Int)) = false := decide_eq_false l1
                  have l2 : ¬ (y.done.length : Int) < (x.done.length : Int) := by have := hle.out.2; omega
                  have l2d : decide ((y.done.length : Int) < (x.done.length : Int)) = false := decide_eq_false l2
                  clear kM hbc P5 Y5 R5 hb5 PXW PYW PRW hbW OYW
                  go_wp2_with fail
                  refine kR.mono ?_
                  rintro e w7 ⟨rfl, hbc⟩
                  have P7 := (hbc.block _ (at_ltD P6.out)).trans P6.out
                  have R7 := (hbc.block _ (at_ltD R6.out)).trans R6.out
                  have hb7 := hb6.out.trans (hbc.mono hb6.out.size)
                  obtain ⟨z7, q7, p7⟩ := one_box w7 (.cells #[.int .i64 rc, .int .u64 (rt : Int), .slice none 0 0] 34)
                  have P8 : Hid _ := (p7.block _ (at_ltD P7)).trans P7
                  have R8 : Hid _ := (p7.block _ (at_ltD R7)).trans R7
                  have hb8 : Hid _ := hb7.trans (p7.mono hb7.size)
                  have O8 : Hid (XO w.heap.size _ ⟨y, (ka1, kc1), (ga1, gc1), (ya1, yc1), (da1, dc1)⟩) := XO.below (XO.below O6.out hbc) p7
                  have q8 : Hid _ := q7
                  have nq : Hid (w3.heap.size ≠ w7.heap.size) := by have := at_ltD R7; show _ ≠ _; omega
                  obtain ⟨c0, c1, c2, c3, c4, c5, c6, c7, c8, c9, c10⟩ := cells11 P8.out
                  obtain ⟨m0, m1, m2⟩ := cells3 q8.out
                  obtain ⟨u0, u1, u2⟩ := cells3 R8.out
                  obtain ⟨v0, v1, v2⟩ := f_cells3 R8.out
                  clear kR hbc P6 R6 O6 hb6 P7 R7 hb7 z7 q7 p7 l1 l1d l2 l2d
                  have kS := sameReply_of rc rt (w7.alloc (.cells #[.int .i64 rc, .int .u64 (rt : Int), .slice none 0 0] 34))
                  dsimp only [rpv] at kS
                  go_wp2_with fail
                  refine kS.mono ?_
                  rintro e w9 ⟨rfl, hbc⟩
                  have P9 : Hid _ := (hbc.block _ (at_ltD P8.out)).trans P8.out
                  have R9 : Hid _ := (hbc.block _ (at_ltD R8.out)).trans R8.out
                  have Q9 : Hid _ := (hbc.block _ (at_ltD q8.out)).trans q8.out
                  have hb9 : Hid _ := hb8.out.trans (hbc.mono hb8.out.size)
                  have O9 : Hid (XO w.heap.size w9 ⟨y, (ka1, kc1), (ga1, gc1), (ya1, yc1), (da1, dc1)⟩) := XO.below O8.out hbc
                  obtain ⟨c0, c1, c2, c3, c4, c5, c6, c7, c8, c9, c10⟩ := cells11 P9.out
                  obtain ⟨m0, m1, m2⟩ := cells3 Q9.out
                  obtain ⟨u0, u1, u2⟩ := cells3 R9.out
                  obtain ⟨v0, v1, v2⟩ := f_cells3 R9.out
                  clear kS hbc P8 R8 O8 hb8 q8
                  have R10 := set3_block R9.out (.int .i64 rc) (.int .u64 (rt : Int)) (.slice none 0 0)
                  have P10 := (set3_other (.int .i64 rc) (.int .u64 (rt : Int)) (.slice none 0 0) ny.out.2.2.1).trans P9.out
                  have hb10 := set3_below (.int .i64 rc) (.int .u64 (rt : Int)) (.slice none 0 0) (g := w3.heap.size) hb9.out (Nat.le_of_lt hnr.out)
                  have O10 : XQ w _ ⟨y, (ka1, kc1), (ga1, gc1), (ya1, yc1), (da1, dc1)⟩ := XQ.otherR (.inr O9.out) R9.out (fun k hk => set3_other (.int .i64 rc) (.int .u64 (rt : Int)) (.slice none 0 0) hk)
                  unfold set3 at R10 P10 hb10 O10
                  have F10 : Hid _ := (⟨R10, P10, hb10, O10⟩ : _ ∧ _ ∧ _ ∧ _)
                  clear R10 P10 hb10 O10 P9 R9 O9 hb9 Q9
                  go_wp2
                  go_roundg (gk - 1)
                  case measure => have := HIG.out; omega
                  case rel => exact ⟨i + 1, y, ka1, kc1, ga1, gc1, ya1, yc1, da1, dc1, by have := HIG.out; omega, by first | rfl | (rw [hnoY.out]), by rw [hry.out], by go_num, hoky, F10.out.2.1, by rw [hry.out]; exact F10.out.1, F10.out.2.2.2, F10.out.2.2.1⟩
                · have hno : decide (x.code ≠ 0) = true := by rw [← b2]; simpa using hz
                  rw [hno]
                  replace hnoY : Hid (decide (y.code ≠ 0) = true) := by show _ = _; rw [← hnoY.out, hno]
                  have hcz : (rc == 0) = false := by rw [hqc]; simpa using hz
                  clear a1 a2 a3 a4 hs b1 b2 b3 b4 hno hqc hqt hz HST
                  go_wp2_with fail
                  refine kcl.mono ?_
                  rintro e w4 ⟨⟨⟨ka1, kc1⟩, ⟨ga1, gc1⟩, ⟨ya1, yc1⟩, ⟨da1, dc1⟩, rfl, OY⟩, hbc⟩
                  have PY := (hbc.block _ lz.out).trans q3
                  have PX4 := (hbc.block _ (at_ltD PXA.out)).trans PXA.out
                  have PR4 := (hbc.block _ (at_ltD PRA.out)).trans PRA.out
                  have PS4 := (hbc.block wr.heap.size (Nat.lt_trans (Nat.lt_succ_self _) lz.out)).trans q2
                  have hb4 := hbA.out.trans (hbc.mono hbA.out.size)
                  have hq4 := hqA.out.below hbc
                  have OYm := OY.mono hbA.out.size
                  obtain ⟨c0, c1, c2, c3, c4, c5, c6, c7, c8, c9, c10⟩ := cells11 PY
                  obtain ⟨f0, f1, f2, f3, f4, f5, f6, f7, f8, f9, f10⟩ := f_cells11 PY
                  have PYW := set11_block PY (.int .i64 y.id.1) (.int .u64 (y.id.2 : Int)) (.int .i64 y.kind) (.slice ka1 y.keys.length kc1) (.int .u64 (y.token : Int)) (.int .i64 y.ttl) (.slice ga1 y.groups.length gc1) (.int .i64 y.state) (.slice ya1 y.yes.length yc1) (.slice da1 y.done.length dc1) (.int .i64 y.code)
                  have PXW := (set11_other (.int .i64 y.id.1) (.int .u64 (y.id.2 : Int)) (.int .i64 y.kind) (.slice ka1 y.keys.length kc1) (.int .u64 (y.token : Int)) (.int .i64 y.ttl) (.slice ga1 y.groups.length gc1) (.int .i64 y.state) (.slice ya1 y.yes.length yc1) (.slice da1 y.done.length dc1) (.int .i64 y.code) ny.out.1).trans PX4
                  have PRW := (set11_other (.int .i64 y.id.1) (.int .u64 (y.id.2 : Int)) (.int .i64 y.kind) (.slice ka1 y.keys.length kc1) (.int .u64 (y.token : Int)) (.int .i64 y.ttl) (.slice ga1 y.groups.length gc1) (.int .i64 y.state) (.slice ya1 y.yes.length yc1) (.slice da1 y.done.length dc1) (.int .i64 y.code) ny.out.2.1).trans PR4
                  have PSW := (set11_other (.int .i64 y.id.1) (.int .u64 (y.id.2 : Int)) (.int .i64 y.kind) (.slice ka1 y.keys.length kc1) (.int .u64 (y.token : Int)) (.int .i64 y.ttl) (.slice ga1 y.groups.length gc1) (.int .i64 y.state) (.slice ya1 y.yes.length yc1) (.slice da1 y.done.length dc1) (.int .i64 y.code) (show wr.heap.size ≠ wr.heap.size + 1 from Nat.ne_of_lt (Nat.lt_succ_self _))).trans PS4
                  have hbW := set11_below (.int .i64 y.id.1) (.int .u64 (y.id.2 : Int)) (.int .i64 y.kind) (.slice ka1 y.keys.length kc1) (.int .u64 (y.token : Int)) (.int .i64 y.ttl) (.slice ga1 y.groups.length gc1) (.int .i64 y.state) (.slice ya1 y.yes.length yc1) (.slice da1 y.done.length dc1) (.int .i64 y.code) (g := wr.heap.size + 1) hb4 ny.out.2.2.2
                  have OYW := OYm.at_other PY (fun k hk => set11_other (.int .i64 y.id.1) (.int .u64 (y.id.2 : Int)) (.int .i64 y.kind) (.slice ka1 y.keys.length kc1) (.int .u64 (y.token : Int)) (.int .i64 y.ttl) (.slice ga1 y.groups.length gc1) (.int .i64 y.state) (.slice ya1 y.yes.length yc1) (.slice da1 y.done.length dc1) (.int .i64 y.code) hk)
                  have hqW := hq4.other PY (fun k hk => set11_other (.int .i64 y.id.1) (.int .u64 (y.id.2 : Int)) (.int .i64 y.kind) (.slice ka1 y.keys.length kc1) (.int .u64 (y.token : Int)) (.int .i64 y.ttl) (.slice ga1 y.groups.length gc1) (.int .i64 y.state) (.slice ya1 y.yes.length yc1) (.slice da1 y.done.length dc1) (.int .i64 y.code) hk)
                  obtain ⟨W1, hW1⟩ : ∃ W, set11 w4 (wr.heap.size + 1) (.int .i64 y.id.1) (.int .u64 (y.id.2 : Int)) (.int .i64 y.kind) (.slice ka1 y.keys.length kc1) (.int .u64 (y.token : Int)) (.int .i64 y.ttl) (.slice ga1 y.groups.length gc1) (.int .i64 y.state) (.slice ya1 y.yes.length yc1) (.slice da1 y.done.length dc1) (.int .i64 y.code) = W := ⟨_, rfl⟩
                  rw [hW1] at PYW PXW PRW PSW hbW OYW hqW
                  unfold set11 at hW1
                  obtain ⟨s0, s1, s2, s3⟩ := cells4 PSW
                  replace PYW : Hid (W1.heap[wr.heap.size + 1]? = some (.cells #[.int .i64 y.id.1, .int .u64 (y.id.2 : Int), .int .i64 y.kind, .slice ka1 y.keys.length kc1, .int .u64 (y.token : Int), .int .i64 y.ttl, .slice ga1 y.groups.length gc1, .int .i64 y.state, .slice ya1 y.yes.length yc1, .slice da1 y.done.length dc1, .int .i64 y.code] 29 (0, 0))) := PYW
                  replace PXW : Hid (W1.heap[w.heap.size]? = some (.cells #[.int .i64 x.id.1, .int .u64 (x.id.2 : Int), .int .i64 x.kind, .slice ka x.keys.length kc, .int .u64 (x.token : Int), .int .i64 x.ttl, .slice ga x.groups.length gc, .int .i64 x.state, .slice ya x.yes.length yc, .slice da x.done.length dc, .int .i64 x.code] 29 (0, 0))) := PXW
                  replace PRW : Hid (W1.heap[w3.heap.size]? = some (.cells #[.int .i64 rc, .int .u64 (rt : Int), .slice none 0 0] 34 (0, 0))) := PRW
                  replace OYW : Hid (XO w.heap.size W1 ⟨y, (ka1, kc1), (ga1, gc1), (ya1, yc1), (da1, dc1)⟩) := OYW
                  replace hbW : Hid (Below w.heap.size w W1) := hbW
                  replace hqW : Hid (XQ w W1 ⟨x, (ka, kc), (ga, gc), (ya, yc), (da, dc)⟩) := hqW
                  clear kcl hbc PY PX4 PR4 PS4 PSW hb4 hq4 OY OYm q1 q2 q3 q4 PXA PRA hqA hbA PX PR hq hb lz xr gl
                  have kM := rmay_of ⟨y, (ka1, kc1), (ga1, gc1), (ya1, yc1), (da1, dc1)⟩ W1 OYW.out.xr (Nat.le_trans yl.out.1 (by decide)) (Nat.le_trans yl.out.2.1 (by decide)) (Nat.le_trans yl.out.2.2.1 (by decide)) (Nat.le_trans yl.out.2.2.2 (by decide))
                  rw [hoky.out] at kM
                  obtain ⟨c0, c1, c2, c3, c4, c5, c6, c7, c8, c9, c10⟩ := cells11 PXW.out
                  obtain ⟨d0, d1, d2, d3, d4, d5, d6, d7, d8, d9, d10⟩ := cells11 PYW.out
                  dsimp only [xv] at kM
                  go_wp2_with fail
                  refine kM.mono ?_
                  rintro e w5 ⟨rfl, hbc⟩
                  have P5 := (hbc.block _ (at_ltD PXW.out)).trans PXW.out
                  have Y5 := (hbc.block _ (at_ltD PYW.out)).trans PYW.out
                  have R5 := (hbc.block _ (at_ltD PRW.out)).trans PRW.out
                  have hb5 := hbW.out.trans (hbc.mono hbW.out.size)
                  obtain ⟨c0, c1, c2, c3, c4, c5, c6, c7, c8, c9, c10⟩ := cells11 P5
                  obtain ⟨d0, d1, d2, d3, d4, d5, d6, d7, d8, d9, d10⟩ := cells11 Y5
                  obtain ⟨f0, f1, f2, f3, f4, f5, f6, f7, f8, f9, f10⟩ := f_cells11 P5
                  have P6 := set11_block P5 (.int .i64 y.id.1) (.int .u64 (y.id.2 : Int)) (.int .i64 y.kind) (.slice ka1 y.keys.length kc1) (.int .u64 (y.token : Int)) (.int .i64 y.ttl) (.slice ga1 y.groups.length gc1) (.int .i64 y.state) (.slice ya1 y.yes.length yc1) (.slice da1 y.done.length dc1) (.int .i64 y.code)
                  have R6 := (set11_other (.int .i64 y.id.1) (.int .u64 (y.id.2 : Int)) (.int .i64 y.kind) (.slice ka1 y.keys.length kc1) (.int .u64 (y.token : Int)) (.int .i64 y.ttl) (.slice ga1 y.groups.length gc1) (.int .i64 y.state) (.slice ya1 y.yes.length yc1) (.slice da1 y.done.length dc1) (.int .i64 y.code) ny.out.2.2.1.symm).trans R5
                  have hb6 := set11_below (.int .i64 y.id.1) (.int .u64 (y.id.2 : Int)) (.int .i64 y.kind) (.slice ka1 y.keys.length kc1) (.int .u64 (y.token : Int)) (.int .i64 y.ttl) (.slice ga1 y.groups.length gc1) (.int .i64 y.state) (.slice ya1 y.yes.length yc1) (.slice da1 y.done.length dc1) (.int .i64 y.code) (g := w.heap.size) hb5 (Nat.le_refl _)
                  have O6 := XO.at_other (XO.below OYW.out hbc) P5 (fun k hk => set11_other (.int .i64 y.id.1) (.int .u64 (y.id.2 : Int)) (.int .i64 y.kind) (.slice ka1 y.keys.length kc1) (.int .u64 (y.token : Int)) (.int .i64 y.ttl) (.slice ga1 y.groups.length gc1) (.int .i64 y.state) (.slice ya1 y.yes.length yc1) (.slice da1 y.done.length dc1) (.int .i64 y.code) hk)
                  obtain ⟨W6, hW6⟩ : ∃ W, set11 w5 w.heap.size (.int .i64 y.id.1) (.int .u64 (y.id.2 : Int)) (.int .i64 y.kind) (.slice ka1 y.keys.length kc1) (.int .u64 (y.token : Int)) (.int .i64 y.ttl) (.slice ga1 y.groups.length gc1) (.int .i64 y.state) (.slice ya1 y.yes.length yc1) (.slice da1 y.done.length dc1) (.int .i64 y.code) = W := ⟨_, rfl⟩
                  rw [hW6] at P6 R6 hb6 O6
                  unfold set11 at hW6
                  have kR := reply_of ⟨y, (ka1, kc1), (ga1, gc1), (ya1, yc1), (da1, dc1)⟩ W6 O6.xr (Nat.le_trans yl.out.1 (by decide)) (Nat.le_trans yl.out.2.1 (by decide)) (Nat.le_trans yl.out.2.2.1 (by decide)) (Nat.le_trans yl.out.2.2.2 (by decide))
                  rw [hry.out] at kR
                  replace P6 : Hid (W6.heap[w.heap.size]? = some (.cells #[.int .i64 y.id.1, .int .u64 (y.id.2 : Int), .int .i64 y.kind, .slice ka1 y.keys.length kc1, .int .u64 (y.token : Int), .int .i64 y.ttl, .slice ga1 y.groups.length gc1, .int .i64 y.state, .slice ya1 y.yes.length yc1, .slice da1 y.done.length dc1, .int .i64 y.code] 29 (0, 0))) := P6
                  replace R6 : Hid (W6.heap[w3.heap.size]? = some (.cells #[.int .i64 rc, .int .u64 (rt : Int), .slice none 0 0] 34 (0, 0))) := R6
                  replace O6 : Hid (XO w.heap.size W6 ⟨y, (ka1, kc1), (ga1, gc1), (ya1, yc1), (da1, dc1)⟩) := O6
                  replace hb6 : Hid (Below w.heap.size w W6) := hb6
                  obtain ⟨c0, c1, c2, c3, c4, c5, c6, c7, c8, c9, c10⟩ := cells11 P6.out
                  dsimp only [xv, rpv] at kR
                  have l1 : ¬ (y.yes.length : Int) < (x.yes.length : Int) := by have := hle.out.1; omega
                  have l1d : decide ((y.yes.length : Int) < (x.yes.length : Int)) = false := decide_eq_false l1
                  have l2 : ¬ (y.done.length : Int) < (x.done.length : Int) := by have := hle.out.2; omega
                  have l2d : decide ((y.done.length : Int) < (x.done.length : Int)) = false := decide_eq_false l2
                  clear kM hbc P5 Y5 R5 hb5 PXW PYW PRW hbW OYW
                  go_wp2_with fail
                  refine kR.mono ?_
                  rintro e w7 ⟨rfl, hbc⟩
                  have P7 := (hbc.block _ (at_ltD P6.out)).trans P6.out
                  have R7 := (hbc.block _ (at_ltD R6.out)).trans R6.out
                  have hb7 := hb6.out.trans (hbc.mono hb6.out.size)
                  obtain ⟨z7, q7, p7⟩ := one_box w7 (.cells #[.int .i64 rc, .int .u64 (rt : Int), .slice none 0 0] 34)
                  have P8 : Hid _ := (p7.block _ (at_ltD P7)).trans P7
                  have R8 : Hid _ := (p7.block _ (at_ltD R7)).trans R7
                  have hb8 : Hid _ := hb7.trans (p7.mono hb7.size)
                  have O8 : Hid (XO w.heap.size _ ⟨y, (ka1, kc1), (ga1, gc1), (ya1, yc1), (da1, dc1)⟩) := XO.below (XO.below O6.out hbc) p7
                  have q8 : Hid _ := q7
                  have nq : Hid (w3.heap.size ≠ w7.heap.size) := by have := at_ltD R7; show _ ≠ _; omega
                  obtain ⟨c0, c1, c2, c3, c4, c5, c6, c7, c8, c9, c10⟩ := cells11 P8.out
                  obtain ⟨m0, m1, m2⟩ := cells3 q8.out
                  obtain ⟨u0, u1, u2⟩ := cells3 R8.out
                  obtain ⟨v0, v1, v2⟩ := f_cells3 R8.out
                  clear kR hbc P6 R6 O6 hb6 P7 R7 hb7 z7 q7 p7 l1 l1d l2 l2d
                  have kS := sameReply_of rc rt (w7.alloc (.cells #[.int .i64 rc, .int .u64 (rt : Int), .slice none 0 0] 34))
                  dsimp only [rpv] at kS
                  go_wp2_with fail
                  refine kS.mono ?_
                  rintro e w9 ⟨rfl, hbc⟩
                  have P9 : Hid _ := (hbc.block _ (at_ltD P8.out)).trans P8.out
                  have R9 : Hid _ := (hbc.block _ (at_ltD R8.out)).trans R8.out
                  have Q9 : Hid _ := (hbc.block _ (at_ltD q8.out)).trans q8.out
                  have hb9 : Hid _ := hb8.out.trans (hbc.mono hb8.out.size)
                  have O9 : Hid (XO w.heap.size w9 ⟨y, (ka1, kc1), (ga1, gc1), (ya1, yc1), (da1, dc1)⟩) := XO.below O8.out hbc
                  obtain ⟨c0, c1, c2, c3, c4, c5, c6, c7, c8, c9, c10⟩ := cells11 P9.out
                  obtain ⟨m0, m1, m2⟩ := cells3 Q9.out
                  obtain ⟨u0, u1, u2⟩ := cells3 R9.out
                  obtain ⟨v0, v1, v2⟩ := f_cells3 R9.out
                  clear kS hbc P8 R8 O8 hb8 q8
                  have R10 := set3_block R9.out (.int .i64 rc) (.int .u64 (rt : Int)) (.slice none 0 0)
                  have P10 := (set3_other (.int .i64 rc) (.int .u64 (rt : Int)) (.slice none 0 0) ny.out.2.2.1).trans P9.out
                  have hb10 := set3_below (.int .i64 rc) (.int .u64 (rt : Int)) (.slice none 0 0) (g := w3.heap.size) hb9.out (Nat.le_of_lt hnr.out)
                  have O10 : XQ w _ ⟨y, (ka1, kc1), (ga1, gc1), (ya1, yc1), (da1, dc1)⟩ := XQ.otherR (.inr O9.out) R9.out (fun k hk => set3_other (.int .i64 rc) (.int .u64 (rt : Int)) (.slice none 0 0) hk)
                  unfold set3 at R10 P10 hb10 O10
                  have F10 : Hid _ := (⟨R10, P10, hb10, O10⟩ : _ ∧ _ ∧ _ ∧ _)
                  clear R10 P10 hb10 O10 P9 R9 O9 hb9 Q9
                  go_wp2
                  go_roundg (gk - 1)
                  case measure => have := HIG.out; omega
                  case rel => exact ⟨i + 1, y, ka1, kc1, ga1, gc1, ya1, yc1, da1, dc1, by have := HIG.out; omega, by first | rfl | (rw [hnoY.out]), by rw [hry.out], by go_num, hoky, F10.out.2.1, by rw [hry.out]; exact F10.out.1, F10.out.2.2.2, F10.out.2.2.1⟩
              · have hCd : (C != 0) = true := by simpa using hC
                clear hC HST
                go_wp2_with fail
                refine kcl.mono ?_
                rintro e w4 ⟨⟨⟨ka1, kc1⟩, ⟨ga1, gc1⟩, ⟨ya1, yc1⟩, ⟨da1, dc1⟩, rfl, OY⟩, hbc⟩
                have PY := (hbc.block _ lz.out).trans q3
                have PX4 := (hbc.block _ (at_ltD PXA.out)).trans PXA.out
                have PR4 := (hbc.block _ (at_ltD PRA.out)).trans PRA.out
                have PS4 := (hbc.block wr.heap.size (Nat.lt_trans (Nat.lt_succ_self _) lz.out)).trans q2
                have hb4 := hbA.out.trans (hbc.mono hbA.out.size)
                have hq4 := hqA.out.below hbc
                have OYm := OY.mono hbA.out.size
                obtain ⟨c0, c1, c2, c3, c4, c5, c6, c7, c8, c9, c10⟩ := cells11 PY
                obtain ⟨f0, f1, f2, f3, f4, f5, f6, f7, f8, f9, f10⟩ := f_cells11 PY
                have PYW := set11_block PY (.int .i64 y.id.1) (.int .u64 (y.id.2 : Int)) (.int .i64 y.kind) (.slice ka1 y.keys.length kc1) (.int .u64 (y.token : Int)) (.int .i64 y.ttl) (.slice ga1 y.groups.length gc1) (.int .i64 y.state) (.slice ya1 y.yes.length yc1) (.slice da1 y.done.length dc1) (.int .i64 y.code)
                have PXW := (set11_other (.int .i64 y.id.1) (.int .u64 (y.id.2 : Int)) (.int .i64 y.kind) (.slice ka1 y.keys.length kc1) (.int .u64 (y.token : Int)) (.int .i64 y.ttl) (.slice ga1 y.groups.length gc1) (.int .i64 y.state) (.slice ya1 y.yes.length yc1) (.slice da1 y.done.length dc1) (.int .i64 y.code) ny.out.1).trans PX4
                have PRW := (set11_other (.int .i64 y.id.1) (.int .u64 (y.id.2 : Int)) (.int .i64 y.kind) (.slice ka1 y.keys.length kc1) (.int .u64 (y.token : Int)) (.int .i64 y.ttl) (.slice ga1 y.groups.length gc1) (.int .i64 y.state) (.slice ya1 y.yes.length yc1) (.slice da1 y.done.length dc1) (.int .i64 y.code) ny.out.2.1).trans PR4
                have PSW := (set11_other (.int .i64 y.id.1) (.int .u64 (y.id.2 : Int)) (.int .i64 y.kind) (.slice ka1 y.keys.length kc1) (.int .u64 (y.token : Int)) (.int .i64 y.ttl) (.slice ga1 y.groups.length gc1) (.int .i64 y.state) (.slice ya1 y.yes.length yc1) (.slice da1 y.done.length dc1) (.int .i64 y.code) (show wr.heap.size ≠ wr.heap.size + 1 from Nat.ne_of_lt (Nat.lt_succ_self _))).trans PS4
                have hbW := set11_below (.int .i64 y.id.1) (.int .u64 (y.id.2 : Int)) (.int .i64 y.kind) (.slice ka1 y.keys.length kc1) (.int .u64 (y.token : Int)) (.int .i64 y.ttl) (.slice ga1 y.groups.length gc1) (.int .i64 y.state) (.slice ya1 y.yes.length yc1) (.slice da1 y.done.length dc1) (.int .i64 y.code) (g := wr.heap.size + 1) hb4 ny.out.2.2.2
                have OYW := OYm.at_other PY (fun k hk => set11_other (.int .i64 y.id.1) (.int .u64 (y.id.2 : Int)) (.int .i64 y.kind) (.slice ka1 y.keys.length kc1) (.int .u64 (y.token : Int)) (.int .i64 y.ttl) (.slice ga1 y.groups.length gc1) (.int .i64 y.state) (.slice ya1 y.yes.length yc1) (.slice da1 y.done.length dc1) (.int .i64 y.code) hk)
                have hqW := hq4.other PY (fun k hk => set11_other (.int .i64 y.id.1) (.int .u64 (y.id.2 : Int)) (.int .i64 y.kind) (.slice ka1 y.keys.length kc1) (.int .u64 (y.token : Int)) (.int .i64 y.ttl) (.slice ga1 y.groups.length gc1) (.int .i64 y.state) (.slice ya1 y.yes.length yc1) (.slice da1 y.done.length dc1) (.int .i64 y.code) hk)
                obtain ⟨W1, hW1⟩ : ∃ W, set11 w4 (wr.heap.size + 1) (.int .i64 y.id.1) (.int .u64 (y.id.2 : Int)) (.int .i64 y.kind) (.slice ka1 y.keys.length kc1) (.int .u64 (y.token : Int)) (.int .i64 y.ttl) (.slice ga1 y.groups.length gc1) (.int .i64 y.state) (.slice ya1 y.yes.length yc1) (.slice da1 y.done.length dc1) (.int .i64 y.code) = W := ⟨_, rfl⟩
                rw [hW1] at PYW PXW PRW PSW hbW OYW hqW
                unfold set11 at hW1
                obtain ⟨s0, s1, s2, s3⟩ := cells4 PSW
                replace PYW : Hid (W1.heap[wr.heap.size + 1]? = some (.cells #[.int .i64 y.id.1, .int .u64 (y.id.2 : Int), .int .i64 y.kind, .slice ka1 y.keys.length kc1, .int .u64 (y.token : Int), .int .i64 y.ttl, .slice ga1 y.groups.length gc1, .int .i64 y.state, .slice ya1 y.yes.length yc1, .slice da1 y.done.length dc1, .int .i64 y.code] 29 (0, 0))) := PYW
                replace PXW : Hid (W1.heap[w.heap.size]? = some (.cells #[.int .i64 x.id.1, .int .u64 (x.id.2 : Int), .int .i64 x.kind, .slice ka x.keys.length kc, .int .u64 (x.token : Int), .int .i64 x.ttl, .slice ga x.groups.length gc, .int .i64 x.state, .slice ya x.yes.length yc, .slice da x.done.length dc, .int .i64 x.code] 29 (0, 0))) := PXW
                replace PRW : Hid (W1.heap[w3.heap.size]? = some (.cells #[.int .i64 rc, .int .u64 (rt : Int), .slice none 0 0] 34 (0, 0))) := PRW
                replace OYW : Hid (XO w.heap.size W1 ⟨y, (ka1, kc1), (ga1, gc1), (ya1, yc1), (da1, dc1)⟩) := OYW
                replace hbW : Hid (Below w.heap.size w W1) := hbW
                replace hqW : Hid (XQ w W1 ⟨x, (ka, kc), (ga, gc), (ya, yc), (da, dc)⟩) := hqW
                clear kcl hbc PY PX4 PR4 PS4 PSW hb4 hq4 OY OYm q1 q2 q3 q4 PXA PRA hqA hbA PX PR hq hb lz xr gl
                go_wp2
                go_roundg (gk - 1)
                case measure => have := HIG.out; omega
                case rel => exact ⟨i + 1, x, ka, kc, ga, gc, ya, yc, da, dc, by have := HIG.out; omega, by first | rfl | simp, by rw [HRX.out], by go_num, hok, PXW, by rw [HRX.out]; exact PRW, hqW, hbW⟩
            · have h1d : (sa == 1) = false := by simpa using h1
              clear h0 h1
              have kcl := voted_m ⟨x, (ka, kc), (ga, gc), (ya, yc), (da, dc)⟩ sg sc _ xr.out gl.out.1 gl.out.2.1 gl.out.2.2.1 gl.out.2.2.2
              have HST : Hid (∀ y, votedM x sg sc (plusL x.yes sg 16) (subB x.groups (plusL x.yes sg 16)) = (y, 0) → _) := fun y h => step_voted hok.out h
              generalize hM : votedM x sg sc (plusL x.yes sg 16) (subB x.groups (plusL x.yes sg 16)) = MM at *
              clear hM
              obtain ⟨y, C⟩ := MM
              dsimp only [xv] at kcl
              by_cases hC : C = 0
              · subst hC
                obtain ⟨⟨a1, a2, a3, a4⟩, b1, b2, b3, b4⟩ := HST.out y rfl
                have hoky : Hid (okX y = true) := a1
                have hle : Hid (x.yes.length ≤ y.yes.length ∧ x.done.length ≤ y.done.length) := ⟨a2, a3⟩
                have yl : Hid _ := ok_lens a1
                obtain ⟨-, -, rfl⟩ : rc = 0 ∧ rt = 0 ∧ rd = false := by have := HRX.out.symm.trans (reply_open b1); simpa using this
                have hno : decide (x.code ≠ 0) = false := by rw [b2]; rfl
                rw [hno]
                by_cases hc : sc = 0
                · have hcd : (sc != 0) = false := by simp [hc]
                  have hnoY : Hid (decide (y.code ≠ 0) = false) := by show _ = _; rw [b3, hc]; rfl
                  by_cases hs : y.state = 1
                  · obtain ⟨qc, hqc⟩ : ∃ q : Int, q = 0 := ⟨_, rfl⟩
                    obtain ⟨qt, hqt⟩ : ∃ q : Nat, q = 0 := ⟨_, rfl⟩
                    have hry : Hid (replyM y = (qc, qt, false)) := by show _ = _; rw [reply_open hs, hqc, hqt]
                    clear a1 a2 a3 a4 hs b1 b2 b3 b4 hno hqc hqt hc HST
                    go_wp2_with fail
                    refine kcl.mono ?_
                    rintro e w4 ⟨⟨⟨ka1, kc1⟩, ⟨ga1, gc1⟩, ⟨ya1, yc1⟩, ⟨da1, dc1⟩, rfl, OY⟩, hbc⟩
                    have PY := (hbc.block _ lz.out).trans q3
                    have PX4 := (hbc.block _ (at_ltD PXA.out)).trans PXA.out
                    have PR4 := (hbc.block _ (at_ltD PRA.out)).trans PRA.out
                    have PS4 := (hbc.block wr.heap.size (Nat.lt_trans (Nat.lt_succ_self _) lz.out)).trans q2
                    have hb4 := hbA.out.trans (hbc.mono hbA.out.size)
                    have hq4 := hqA.out.below hbc
                    have OYm := OY.mono hbA.out.size
                    obtain ⟨c0, c1, c2, c3, c4, c5, c6, c7, c8, c9, c10⟩ := cells11 PY
                    obtain ⟨f0, f1, f2, f3, f4, f5, f6, f7, f8, f9, f10⟩ := f_cells11 PY
                    have PYW := set11_block PY (.int .i64 y.id.1) (.int .u64 (y.id.2 : Int)) (.int .i64 y.kind) (.slice ka1 y.keys.length kc1) (.int .u64 (y.token : Int)) (.int .i64 y.ttl) (.slice ga1 y.groups.length gc1) (.int .i64 y.state) (.slice ya1 y.yes.length yc1) (.slice da1 y.done.length dc1) (.int .i64 y.code)
                    have PXW := (set11_other (.int .i64 y.id.1) (.int .u64 (y.id.2 : Int)) (.int .i64 y.kind) (.slice ka1 y.keys.length kc1) (.int .u64 (y.token : Int)) (.int .i64 y.ttl) (.slice ga1 y.groups.length gc1) (.int .i64 y.state) (.slice ya1 y.yes.length yc1) (.slice da1 y.done.length dc1) (.int .i64 y.code) ny.out.1).trans PX4
                    have PRW := (set11_other (.int .i64 y.id.1) (.int .u64 (y.id.2 : Int)) (.int .i64 y.kind) (.slice ka1 y.keys.length kc1) (.int .u64 (y.token : Int)) (.int .i64 y.ttl) (.slice ga1 y.groups.length gc1) (.int .i64 y.state) (.slice ya1 y.yes.length yc1) (.slice da1 y.done.length dc1) (.int .i64 y.code) ny.out.2.1).trans PR4
                    have PSW := (set11_other (.int .i64 y.id.1) (.int .u64 (y.id.2 : Int)) (.int .i64 y.kind) (.slice ka1 y.keys.length kc1) (.int .u64 (y.token : Int)) (.int .i64 y.ttl) (.slice ga1 y.groups.length gc1) (.int .i64 y.state) (.slice ya1 y.yes.length yc1) (.slice da1 y.done.length dc1) (.int .i64 y.code) (show wr.heap.size ≠ wr.heap.size + 1 from Nat.ne_of_lt (Nat.lt_succ_self _))).trans PS4
                    have hbW := set11_below (.int .i64 y.id.1) (.int .u64 (y.id.2 : Int)) (.int .i64 y.kind) (.slice ka1 y.keys.length kc1) (.int .u64 (y.token : Int)) (.int .i64 y.ttl) (.slice ga1 y.groups.length gc1) (.int .i64 y.state) (.slice ya1 y.yes.length yc1) (.slice da1 y.done.length dc1) (.int .i64 y.code) (g := wr.heap.size + 1) hb4 ny.out.2.2.2
                    have OYW := OYm.at_other PY (fun k hk => set11_other (.int .i64 y.id.1) (.int .u64 (y.id.2 : Int)) (.int .i64 y.kind) (.slice ka1 y.keys.length kc1) (.int .u64 (y.token : Int)) (.int .i64 y.ttl) (.slice ga1 y.groups.length gc1) (.int .i64 y.state) (.slice ya1 y.yes.length yc1) (.slice da1 y.done.length dc1) (.int .i64 y.code) hk)
                    have hqW := hq4.other PY (fun k hk => set11_other (.int .i64 y.id.1) (.int .u64 (y.id.2 : Int)) (.int .i64 y.kind) (.slice ka1 y.keys.length kc1) (.int .u64 (y.token : Int)) (.int .i64 y.ttl) (.slice ga1 y.groups.length gc1) (.int .i64 y.state) (.slice ya1 y.yes.length yc1) (.slice da1 y.done.length dc1) (.int .i64 y.code) hk)
                    obtain ⟨W1, hW1⟩ : ∃ W, set11 w4 (wr.heap.size + 1) (.int .i64 y.id.1) (.int .u64 (y.id.2 : Int)) (.int .i64 y.kind) (.slice ka1 y.keys.length kc1) (.int .u64 (y.token : Int)) (.int .i64 y.ttl) (.slice ga1 y.groups.length gc1) (.int .i64 y.state) (.slice ya1 y.yes.length yc1) (.slice da1 y.done.length dc1) (.int .i64 y.code) = W := ⟨_, rfl⟩
                    rw [hW1] at PYW PXW PRW PSW hbW OYW hqW
                    unfold set11 at hW1
                    obtain ⟨s0, s1, s2, s3⟩ := cells4 PSW
                    replace PYW : Hid (W1.heap[wr.heap.size + 1]? = some (.cells #[.int .i64 y.id.1, .int .u64 (y.id.2 : Int), .int .i64 y.kind, .slice ka1 y.keys.length kc1, .int .u64 (y.token : Int), .int .i64 y.ttl, .slice ga1 y.groups.length gc1, .int .i64 y.state, .slice ya1 y.yes.length yc1, .slice da1 y.done.length dc1, .int .i64 y.code] 29 (0, 0))) := PYW
                    replace PXW : Hid (W1.heap[w.heap.size]? = some (.cells #[.int .i64 x.id.1, .int .u64 (x.id.2 : Int), .int .i64 x.kind, .slice ka x.keys.length kc, .int .u64 (x.token : Int), .int .i64 x.ttl, .slice ga x.groups.length gc, .int .i64 x.state, .slice ya x.yes.length yc, .slice da x.done.length dc, .int .i64 x.code] 29 (0, 0))) := PXW
                    replace PRW : Hid (W1.heap[w3.heap.size]? = some (.cells #[.int .i64 rc, .int .u64 (rt : Int), .slice none 0 0] 34 (0, 0))) := PRW
                    replace OYW : Hid (XO w.heap.size W1 ⟨y, (ka1, kc1), (ga1, gc1), (ya1, yc1), (da1, dc1)⟩) := OYW
                    replace hbW : Hid (Below w.heap.size w W1) := hbW
                    replace hqW : Hid (XQ w W1 ⟨x, (ka, kc), (ga, gc), (ya, yc), (da, dc)⟩) := hqW
                    clear kcl hbc PY PX4 PR4 PS4 PSW hb4 hq4 OY OYm q1 q2 q3 q4 PXA PRA hqA hbA PX PR hq hb lz xr gl
                    have kM := rmay_of ⟨y, (ka1, kc1), (ga1, gc1), (ya1, yc1), (da1, dc1)⟩ W1 OYW.out.xr (Nat.le_trans yl.out.1 (by decide)) (Nat.le_trans yl.out.2.1 (by decide)) (Nat.le_trans yl.out.2.2.1 (by decide)) (Nat.le_trans yl.out.2.2.2 (by decide))
                    rw [hoky.out] at kM
                    obtain ⟨c0, c1, c2, c3, c4, c5, c6, c7, c8, c9, c10⟩ := cells11 PXW.out
                    obtain ⟨d0, d1, d2, d3, d4, d5, d6, d7, d8, d9, d10⟩ := cells11 PYW.out
                    dsimp only [xv] at kM
                    go_wp2_with fail
                    refine kM.mono ?_
                    rintro e w5 ⟨rfl, hbc⟩
                    have P5 := (hbc.block _ (at_ltD PXW.out)).trans PXW.out
                    have Y5 := (hbc.block _ (at_ltD PYW.out)).trans PYW.out
                    have R5 := (hbc.block _ (at_ltD PRW.out)).trans PRW.out
                    have hb5 := hbW.out.trans (hbc.mono hbW.out.size)
                    obtain ⟨c0, c1, c2, c3, c4, c5, c6, c7, c8, c9, c10⟩ := cells11 P5
                    obtain ⟨d0, d1, d2, d3, d4, d5, d6, d7, d8, d9, d10⟩ := cells11 Y5
                    obtain ⟨f0, f1, f2, f3, f4, f5, f6, f7, f8, f9, f10⟩ := f_cells11 P5
                    have P6 := set11_block P5 (.int .i64 y.id.1) (.int .u64 (y.id.2 : Int)) (.int .i64 y.kind) (.slice ka1 y.keys.length kc1) (.int .u64 (y.token : Int)) (.int .i64 y.ttl) (.slice ga1 y.groups.length gc1) (.int .i64 y.state) (.slice ya1 y.yes.length yc1) (.slice da1 y.done.length dc1) (.int .i64 y.code)
                    have R6 := (set11_other (.int .i64 y.id.1) (.int .u64 (y.id.2 : Int)) (.int .i64 y.kind) (.slice ka1 y.keys.length kc1) (.int .u64 (y.token : Int)) (.int .i64 y.ttl) (.slice ga1 y.groups.length gc1) (.int .i64 y.state) (.slice ya1 y.yes.length yc1) (.slice da1 y.done.length dc1) (.int .i64 y.code) ny.out.2.2.1.symm).trans R5
                    have hb6 := set11_below (.int .i64 y.id.1) (.int .u64 (y.id.2 : Int)) (.int .i64 y.kind) (.slice ka1 y.keys.length kc1) (.int .u64 (y.token : Int)) (.int .i64 y.ttl) (.slice ga1 y.groups.length gc1) (.int .i64 y.state) (.slice ya1 y.yes.length yc1) (.slice da1 y.done.length dc1) (.int .i64 y.code) (g := w.heap.size) hb5 (Nat.le_refl _)
                    have O6 := XO.at_other (XO.below OYW.out hbc) P5 (fun k hk => set11_other (.int .i64 y.id.1) (.int .u64 (y.id.2 : Int)) (.int .i64 y.kind) (.slice ka1 y.keys.length kc1) (.int .u64 (y.token : Int)) (.int .i64 y.ttl) (.slice ga1 y.groups.length gc1) (.int .i64 y.state) (.slice ya1 y.yes.length yc1) (.slice da1 y.done.length dc1) (.int .i64 y.code) hk)
                    obtain ⟨W6, hW6⟩ : ∃ W, set11 w5 w.heap.size (.int .i64 y.id.1) (.int .u64 (y.id.2 : Int)) (.int .i64 y.kind) (.slice ka1 y.keys.length kc1) (.int .u64 (y.token : Int)) (.int .i64 y.ttl) (.slice ga1 y.groups.length gc1) (.int .i64 y.state) (.slice ya1 y.yes.length yc1) (.slice da1 y.done.length dc1) (.int .i64 y.code) = W := ⟨_, rfl⟩
                    rw [hW6] at P6 R6 hb6 O6
                    unfold set11 at hW6
                    have kR := reply_of ⟨y, (ka1, kc1), (ga1, gc1), (ya1, yc1), (da1, dc1)⟩ W6 O6.xr (Nat.le_trans yl.out.1 (by decide)) (Nat.le_trans yl.out.2.1 (by decide)) (Nat.le_trans yl.out.2.2.1 (by decide)) (Nat.le_trans yl.out.2.2.2 (by decide))
                    rw [hry.out] at kR
                    replace P6 : Hid (W6.heap[w.heap.size]? = some (.cells #[.int .i64 y.id.1, .int .u64 (y.id.2 : Int), .int .i64 y.kind, .slice ka1 y.keys.length kc1, .int .u64 (y.token : Int), .int .i64 y.ttl, .slice ga1 y.groups.length gc1, .int .i64 y.state, .slice ya1 y.yes.length yc1, .slice da1 y.done.length dc1, .int .i64 y.code] 29 (0, 0))) := P6
                    replace R6 : Hid (W6.heap[w3.heap.size]? = some (.cells #[.int .i64 rc, .int .u64 (rt : Int), .slice none 0 0] 34 (0, 0))) := R6
                    replace O6 : Hid (XO w.heap.size W6 ⟨y, (ka1, kc1), (ga1, gc1), (ya1, yc1), (da1, dc1)⟩) := O6
                    replace hb6 : Hid (Below w.heap.size w W6) := hb6
                    obtain ⟨c0, c1, c2, c3, c4, c5, c6, c7, c8, c9, c10⟩ := cells11 P6.out
                    dsimp only [xv, rpv] at kR
                    have l1 : ¬ (y.yes.length : Int) < (x.yes.length : Int) := by have := hle.out.1; omega
                    have l1d : decide ((y.yes.length : Int) < (x.yes.length : Int)) = false := decide_eq_false l1
                    have l2 : ¬ (y.done.length : Int) < (x.done.length : Int) := by have := hle.out.2; omega
                    have l2d : decide ((y.done.length : Int) < (x.done.length : Int)) = false := decide_eq_false l2
                    clear kM hbc P5 Y5 R5 hb5 PXW PYW PRW hbW OYW
                    go_wp2_with fail
                    refine kR.mono ?_
                    rintro e w7 ⟨rfl, hbc⟩
                    have P7 := (hbc.block _ (at_ltD P6.out)).trans P6.out
                    have R7 := (hbc.block _ (at_ltD R6.out)).trans R6.out
                    have hb7 := hb6.out.trans (hbc.mono hb6.out.size)
                    obtain ⟨z7, q7, p7⟩ := one_box w7 (.cells #[.int .i64 qc, .int .u64 (qt : Int), .slice none 0 0] 34)
                    have P8 : Hid _ := (p7.block _ (at_ltD P7)).trans P7
                    have R8 : Hid _ := (p7.block _ (at_ltD R7)).trans R7
                    have hb8 : Hid _ := hb7.trans (p7.mono hb7.size)
                    have O8 : Hid (XO w.heap.size _ ⟨y, (ka1, kc1), (ga1, gc1), (ya1, yc1), (da1, dc1)⟩) := XO.below (XO.below O6.out hbc) p7
                    have q8 : Hid _ := q7
                    have nq : Hid (w3.heap.size ≠ w7.heap.size) := by have := at_ltD R7; show _ ≠ _; omega
                    obtain ⟨c0, c1, c2, c3, c4, c5, c6, c7, c8, c9, c10⟩ := cells11 P8.out
                    obtain ⟨m0, m1, m2⟩ := cells3 q8.out
                    obtain ⟨u0, u1, u2⟩ := cells3 R8.out
                    obtain ⟨v0, v1, v2⟩ := f_cells3 R8.out
                    clear kR hbc P6 R6 O6 hb6 P7 R7 hb7 z7 q7 p7 l1 l1d l2 l2d
                    have R10 := set3_block R8.out (.int .i64 qc) (.int .u64 (qt : Int)) (.slice none 0 0)
                    have P10 := (set3_other (.int .i64 qc) (.int .u64 (qt : Int)) (.slice none 0 0) ny.out.2.2.1).trans P8.out
                    have hb10 := set3_below (.int .i64 qc) (.int .u64 (qt : Int)) (.slice none 0 0) (g := w3.heap.size) hb8.out (Nat.le_of_lt hnr.out)
                    have O10 : XQ w _ ⟨y, (ka1, kc1), (ga1, gc1), (ya1, yc1), (da1, dc1)⟩ := XQ.otherR (.inr O8.out) R8.out (fun k hk => set3_other (.int .i64 qc) (.int .u64 (qt : Int)) (.slice none 0 0) hk)
                    unfold set3 at R10 P10 hb10 O10
                    have F10 : Hid _ := (⟨R10, P10, hb10, O10⟩ : _ ∧ _ ∧ _ ∧ _)
                    clear R10 P10 hb10 O10 P8 R8 O8 hb8 q8
                    go_wp2
                    go_roundg (gk - 1)
                    case measure => have := HIG.out; omega
                    case rel => exact ⟨i + 1, y, ka1, kc1, ga1, gc1, ya1, yc1, da1, dc1, by have := HIG.out; omega, by first | rfl | (rw [hnoY.out]), by rw [hry.out], by go_num, hoky, F10.out.2.1, by rw [hry.out]; exact F10.out.1, F10.out.2.2.2, F10.out.2.2.1⟩
                  · obtain ⟨qc, hqc⟩ : ∃ q, q = y.code := ⟨_, rfl⟩
                    obtain ⟨qt, hqt⟩ : ∃ q, q = (if y.code = 0 ∧ y.kind = 1 then y.token else 0) := ⟨_, rfl⟩
                    have hry : Hid (replyM y = (qc, qt, true)) := by show _ = _; rw [reply_done a1 hs, hqc, hqt]
                    have hcz : (qc == 0) = true := by rw [hqc, b3, hc]; rfl
                    have hyg : ((y.yes.length : Int) != (y.groups.length : Int)) = false := by rw [commit_all a1 hs (b3.trans hc)]; simp
                    clear a1 a2 a3 a4 hs b1 b2 b3 b4 hno hqc hqt hc HST
                    go_wp2_with fail
                    refine kcl.mono ?_
                    rintro e w4 ⟨⟨⟨ka1, kc1⟩, ⟨ga1, gc1⟩, ⟨ya1, yc1⟩, ⟨da1, dc1⟩, rfl, OY⟩, hbc⟩
                    have PY := (hbc.block _ lz.out).trans q3
                    have PX4 := (hbc.block _ (at_ltD PXA.out)).trans PXA.out
                    have PR4 := (hbc.block _ (at_ltD PRA.out)).trans PRA.out
                    have PS4 := (hbc.block wr.heap.size (Nat.lt_trans (Nat.lt_succ_self _) lz.out)).trans q2
                    have hb4 := hbA.out.trans (hbc.mono hbA.out.size)
                    have hq4 := hqA.out.below hbc
                    have OYm := OY.mono hbA.out.size
                    obtain ⟨c0, c1, c2, c3, c4, c5, c6, c7, c8, c9, c10⟩ := cells11 PY
                    obtain ⟨f0, f1, f2, f3, f4, f5, f6, f7, f8, f9, f10⟩ := f_cells11 PY
                    have PYW := set11_block PY (.int .i64 y.id.1) (.int .u64 (y.id.2 : Int)) (.int .i64 y.kind) (.slice ka1 y.keys.length kc1) (.int .u64 (y.token : Int)) (.int .i64 y.ttl) (.slice ga1 y.groups.length gc1) (.int .i64 y.state) (.slice ya1 y.yes.length yc1) (.slice da1 y.done.length dc1) (.int .i64 y.code)
                    have PXW := (set11_other (.int .i64 y.id.1) (.int .u64 (y.id.2 : Int)) (.int .i64 y.kind) (.slice ka1 y.keys.length kc1) (.int .u64 (y.token : Int)) (.int .i64 y.ttl) (.slice ga1 y.groups.length gc1) (.int .i64 y.state) (.slice ya1 y.yes.length yc1) (.slice da1 y.done.length dc1) (.int .i64 y.code) ny.out.1).trans PX4
                    have PRW := (set11_other (.int .i64 y.id.1) (.int .u64 (y.id.2 : Int)) (.int .i64 y.kind) (.slice ka1 y.keys.length kc1) (.int .u64 (y.token : Int)) (.int .i64 y.ttl) (.slice ga1 y.groups.length gc1) (.int .i64 y.state) (.slice ya1 y.yes.length yc1) (.slice da1 y.done.length dc1) (.int .i64 y.code) ny.out.2.1).trans PR4
                    have PSW := (set11_other (.int .i64 y.id.1) (.int .u64 (y.id.2 : Int)) (.int .i64 y.kind) (.slice ka1 y.keys.length kc1) (.int .u64 (y.token : Int)) (.int .i64 y.ttl) (.slice ga1 y.groups.length gc1) (.int .i64 y.state) (.slice ya1 y.yes.length yc1) (.slice da1 y.done.length dc1) (.int .i64 y.code) (show wr.heap.size ≠ wr.heap.size + 1 from Nat.ne_of_lt (Nat.lt_succ_self _))).trans PS4
                    have hbW := set11_below (.int .i64 y.id.1) (.int .u64 (y.id.2 : Int)) (.int .i64 y.kind) (.slice ka1 y.keys.length kc1) (.int .u64 (y.token : Int)) (.int .i64 y.ttl) (.slice ga1 y.groups.length gc1) (.int .i64 y.state) (.slice ya1 y.yes.length yc1) (.slice da1 y.done.length dc1) (.int .i64 y.code) (g := wr.heap.size + 1) hb4 ny.out.2.2.2
                    have OYW := OYm.at_other PY (fun k hk => set11_other (.int .i64 y.id.1) (.int .u64 (y.id.2 : Int)) (.int .i64 y.kind) (.slice ka1 y.keys.length kc1) (.int .u64 (y.token : Int)) (.int .i64 y.ttl) (.slice ga1 y.groups.length gc1) (.int .i64 y.state) (.slice ya1 y.yes.length yc1) (.slice da1 y.done.length dc1) (.int .i64 y.code) hk)
                    have hqW := hq4.other PY (fun k hk => set11_other (.int .i64 y.id.1) (.int .u64 (y.id.2 : Int)) (.int .i64 y.kind) (.slice ka1 y.keys.length kc1) (.int .u64 (y.token : Int)) (.int .i64 y.ttl) (.slice ga1 y.groups.length gc1) (.int .i64 y.state) (.slice ya1 y.yes.length yc1) (.slice da1 y.done.length dc1) (.int .i64 y.code) hk)
                    obtain ⟨W1, hW1⟩ : ∃ W, set11 w4 (wr.heap.size + 1) (.int .i64 y.id.1) (.int .u64 (y.id.2 : Int)) (.int .i64 y.kind) (.slice ka1 y.keys.length kc1) (.int .u64 (y.token : Int)) (.int .i64 y.ttl) (.slice ga1 y.groups.length gc1) (.int .i64 y.state) (.slice ya1 y.yes.length yc1) (.slice da1 y.done.length dc1) (.int .i64 y.code) = W := ⟨_, rfl⟩
                    rw [hW1] at PYW PXW PRW PSW hbW OYW hqW
                    unfold set11 at hW1
                    obtain ⟨s0, s1, s2, s3⟩ := cells4 PSW
                    replace PYW : Hid (W1.heap[wr.heap.size + 1]? = some (.cells #[.int .i64 y.id.1, .int .u64 (y.id.2 : Int), .int .i64 y.kind, .slice ka1 y.keys.length kc1, .int .u64 (y.token : Int), .int .i64 y.ttl, .slice ga1 y.groups.length gc1, .int .i64 y.state, .slice ya1 y.yes.length yc1, .slice da1 y.done.length dc1, .int .i64 y.code] 29 (0, 0))) := PYW
                    replace PXW : Hid (W1.heap[w.heap.size]? = some (.cells #[.int .i64 x.id.1, .int .u64 (x.id.2 : Int), .int .i64 x.kind, .slice ka x.keys.length kc, .int .u64 (x.token : Int), .int .i64 x.ttl, .slice ga x.groups.length gc, .int .i64 x.state, .slice ya x.yes.length yc, .slice da x.done.length dc, .int .i64 x.code] 29 (0, 0))) := PXW
                    replace PRW : Hid (W1.heap[w3.heap.size]? = some (.cells #[.int .i64 rc, .int .u64 (rt : Int), .slice none 0 0] 34 (0, 0))) := PRW
                    replace OYW : Hid (XO w.heap.size W1 ⟨y, (ka1, kc1), (ga1, gc1), (ya1, yc1), (da1, dc1)⟩) := OYW
                    replace hbW : Hid (Below w.heap.size w W1) := hbW
                    replace hqW : Hid (XQ w W1 ⟨x, (ka, kc), (ga, gc), (ya, yc), (da, dc)⟩) := hqW
                    clear kcl hbc PY PX4 PR4 PS4 PSW hb4 hq4 OY OYm q1 q2 q3 q4 PXA PRA hqA hbA PX PR hq hb lz xr gl
                    have kM := rmay_of ⟨y, (ka1, kc1), (ga1, gc1), (ya1, yc1), (da1, dc1)⟩ W1 OYW.out.xr (Nat.le_trans yl.out.1 (by decide)) (Nat.le_trans yl.out.2.1 (by decide)) (Nat.le_trans yl.out.2.2.1 (by decide)) (Nat.le_trans yl.out.2.2.2 (by decide))
                    rw [hoky.out] at kM
                    obtain ⟨c0, c1, c2, c3, c4, c5, c6, c7, c8, c9, c10⟩ := cells11 PXW.out
                    obtain ⟨d0, d1, d2, d3, d4, d5, d6, d7, d8, d9, d10⟩ := cells11 PYW.out
                    dsimp only [xv] at kM
                    go_wp2_with fail
                    refine kM.mono ?_
                    rintro e w5 ⟨rfl, hbc⟩
                    have P5 := (hbc.block _ (at_ltD PXW.out)).trans PXW.out
                    have Y5 := (hbc.block _ (at_ltD PYW.out)).trans PYW.out
                    have R5 := (hbc.block _ (at_ltD PRW.out)).trans PRW.out
                    have hb5 := hbW.out.trans (hbc.mono hbW.out.size)
                    obtain ⟨c0, c1, c2, c3, c4, c5, c6, c7, c8, c9, c10⟩ := cells11 P5
                    obtain ⟨d0, d1, d2, d3, d4, d5, d6, d7, d8, d9, d10⟩ := cells11 Y5
                    obtain ⟨f0, f1, f2, f3, f4, f5, f6, f7, f8, f9, f10⟩ := f_cells11 P5
                    have P6 := set11_block P5 (.int .i64 y.id.1) (.int .u64 (y.id.2 : Int)) (.int .i64 y.kind) (.slice ka1 y.keys.length kc1) (.int .u64 (y.token : Int)) (.int .i64 y.ttl) (.slice ga1 y.groups.length gc1) (.int .i64 y.state) (.slice ya1 y.yes.length yc1) (.slice da1 y.done.length dc1) (.int .i64 y.code)
                    have R6 := (set11_other (.int .i64 y.id.1) (.int .u64 (y.id.2 : Int)) (.int .i64 y.kind) (.slice ka1 y.keys.length kc1) (.int .u64 (y.token : Int)) (.int .i64 y.ttl) (.slice ga1 y.groups.length gc1) (.int .i64 y.state) (.slice ya1 y.yes.length yc1) (.slice da1 y.done.length dc1) (.int .i64 y.code) ny.out.2.2.1.symm).trans R5
                    have hb6 := set11_below (.int .i64 y.id.1) (.int .u64 (y.id.2 : Int)) (.int .i64 y.kind) (.slice ka1 y.keys.length kc1) (.int .u64 (y.token : Int)) (.int .i64 y.ttl) (.slice ga1 y.groups.length gc1) (.int .i64 y.state) (.slice ya1 y.yes.length yc1) (.slice da1 y.done.length dc1) (.int .i64 y.code) (g := w.heap.size) hb5 (Nat.le_refl _)
                    have O6 := XO.at_other (XO.below OYW.out hbc) P5 (fun k hk => set11_other (.int .i64 y.id.1) (.int .u64 (y.id.2 : Int)) (.int .i64 y.kind) (.slice ka1 y.keys.length kc1) (.int .u64 (y.token : Int)) (.int .i64 y.ttl) (.slice ga1 y.groups.length gc1) (.int .i64 y.state) (.slice ya1 y.yes.length yc1) (.slice da1 y.done.length dc1) (.int .i64 y.code) hk)
                    obtain ⟨W6, hW6⟩ : ∃ W, set11 w5 w.heap.size (.int .i64 y.id.1) (.int .u64 (y.id.2 : Int)) (.int .i64 y.kind) (.slice ka1 y.keys.length kc1) (.int .u64 (y.token : Int)) (.int .i64 y.ttl) (.slice ga1 y.groups.length gc1) (.int .i64 y.state) (.slice ya1 y.yes.length yc1) (.slice da1 y.done.length dc1) (.int .i64 y.code) = W := ⟨_, rfl⟩
                    rw [hW6] at P6 R6 hb6 O6
                    unfold set11 at hW6
                    have kR := reply_of ⟨y, (ka1, kc1), (ga1, gc1), (ya1, yc1), (da1, dc1)⟩ W6 O6.xr (Nat.le_trans yl.out.1 (by decide)) (Nat.le_trans yl.out.2.1 (by decide)) (Nat.le_trans yl.out.2.2.1 (by decide)) (Nat.le_trans yl.out.2.2.2 (by decide))
                    rw [hry.out] at kR
                    replace P6 : Hid (W6.heap[w.heap.size]? = some (.cells #[.int .i64 y.id.1, .int .u64 (y.id.2 : Int), .int .i64 y.kind, .slice ka1 y.keys.length kc1, .int .u64 (y.token : Int), .int .i64 y.ttl, .slice ga1 y.groups.length gc1, .int .i64 y.state, .slice ya1 y.yes.length yc1, .slice da1 y.done.length dc1, .int .i64 y.code] 29 (0, 0))) := P6
                    replace R6 : Hid (W6.heap[w3.heap.size]? = some (.cells #[.int .i64 rc, .int .u64 (rt : Int), .slice none 0 0] 34 (0, 0))) := R6
                    replace O6 : Hid (XO w.heap.size W6 ⟨y, (ka1, kc1), (ga1, gc1), (ya1, yc1), (da1, dc1)⟩) := O6
                    replace hb6 : Hid (Below w.heap.size w W6) := hb6
                    obtain ⟨c0, c1, c2, c3, c4, c5, c6, c7, c8, c9, c10⟩ := cells11 P6.out
                    dsimp only [xv, rpv] at kR
                    have l1 : ¬ (y.yes.length : Int) < (x.yes.length : Int) := by have := hle.out.1; omega
                    have l1d : decide ((y.yes.length : Int) < (x.yes.length : Int)) = false := decide_eq_false l1
                    have l2 : ¬ (y.done.length : Int) < (x.done.length : Int) := by have := hle.out.2; omega
                    have l2d : decide ((y.done.length : Int) < (x.done.length : Int)) = false := decide_eq_false l2
                    clear kM hbc P5 Y5 R5 hb5 PXW PYW PRW hbW OYW
                    go_wp2_with fail
                    refine kR.mono ?_
                    rintro e w7 ⟨rfl, hbc⟩
                    have P7 := (hbc.block _ (at_ltD P6.out)).trans P6.out
                    have R7 := (hbc.block _ (at_ltD R6.out)).trans R6.out
                    have hb7 := hb6.out.trans (hbc.mono hb6.out.size)
                    obtain ⟨z7, q7, p7⟩ := one_box w7 (.cells #[.int .i64 qc, .int .u64 (qt : Int), .slice none 0 0] 34)
                    have P8 : Hid _ := (p7.block _ (at_ltD P7)).trans P7
                    have R8 : Hid _ := (p7.block _ (at_ltD R7)).trans R7
                    have hb8 : Hid _ := hb7.trans (p7.mono hb7.size)
                    have O8 : Hid (XO w.heap.size _ ⟨y, (ka1, kc1), (ga1, gc1), (ya1, yc1), (da1, dc1)⟩) := XO.below (XO.below O6.out hbc) p7
                    have q8 : Hid _ := q7
                    have nq : Hid (w3.heap.size ≠ w7.heap.size) := by have := at_ltD R7; show _ ≠ _; omega
                    obtain ⟨c0, c1, c2, c3, c4, c5, c6, c7, c8, c9, c10⟩ := cells11 P8.out
                    obtain ⟨m0, m1, m2⟩ := cells3 q8.out
                    obtain ⟨u0, u1, u2⟩ := cells3 R8.out
                    obtain ⟨v0, v1, v2⟩ := f_cells3 R8.out
                    clear kR hbc P6 R6 O6 hb6 P7 R7 hb7 z7 q7 p7 l1 l1d l2 l2d
                    have R10 := set3_block R8.out (.int .i64 qc) (.int .u64 (qt : Int)) (.slice none 0 0)
                    have P10 := (set3_other (.int .i64 qc) (.int .u64 (qt : Int)) (.slice none 0 0) ny.out.2.2.1).trans P8.out
                    have hb10 := set3_below (.int .i64 qc) (.int .u64 (qt : Int)) (.slice none 0 0) (g := w3.heap.size) hb8.out (Nat.le_of_lt hnr.out)
                    have O10 : XQ w _ ⟨y, (ka1, kc1), (ga1, gc1), (ya1, yc1), (da1, dc1)⟩ := XQ.otherR (.inr O8.out) R8.out (fun k hk => set3_other (.int .i64 qc) (.int .u64 (qt : Int)) (.slice none 0 0) hk)
                    unfold set3 at R10 P10 hb10 O10
                    have F10 : Hid _ := (⟨R10, P10, hb10, O10⟩ : _ ∧ _ ∧ _ ∧ _)
                    clear R10 P10 hb10 O10 P8 R8 O8 hb8 q8
                    go_wp2
                    go_roundg (gk - 1)
                    case measure => have := HIG.out; omega
                    case rel => exact ⟨i + 1, y, ka1, kc1, ga1, gc1, ya1, yc1, da1, dc1, by have := HIG.out; omega, by first | rfl | (rw [hnoY.out]), by rw [hry.out], by go_num, hoky, F10.out.2.1, by rw [hry.out]; exact F10.out.1, F10.out.2.2.2, F10.out.2.2.1⟩
                · have hcd : (sc != 0) = true := by simpa using hc
                  have hnoY : Hid (decide (y.code ≠ 0) = true) := by show _ = _; rw [b3]; simpa using hc
                  have hs : y.state ≠ 1 := by rw [b4 hc]; decide
                  obtain ⟨qc, hqc⟩ : ∃ q, q = y.code := ⟨_, rfl⟩
                  obtain ⟨qt, hqt⟩ : ∃ q, q = (if y.code = 0 ∧ y.kind = 1 then y.token else 0) := ⟨_, rfl⟩
                  have hry : Hid (replyM y = (qc, qt, true)) := by show _ = _; rw [reply_done a1 hs, hqc, hqt]
                  have hcz : (qc == 0) = false := by rw [hqc, b3]; simpa using hc
                  clear a1 a2 a3 a4 hs b1 b2 b3 b4 hno hqc hqt hc HST
                  go_wp2_with fail
                  refine kcl.mono ?_
                  rintro e w4 ⟨⟨⟨ka1, kc1⟩, ⟨ga1, gc1⟩, ⟨ya1, yc1⟩, ⟨da1, dc1⟩, rfl, OY⟩, hbc⟩
                  have PY := (hbc.block _ lz.out).trans q3
                  have PX4 := (hbc.block _ (at_ltD PXA.out)).trans PXA.out
                  have PR4 := (hbc.block _ (at_ltD PRA.out)).trans PRA.out
                  have PS4 := (hbc.block wr.heap.size (Nat.lt_trans (Nat.lt_succ_self _) lz.out)).trans q2
                  have hb4 := hbA.out.trans (hbc.mono hbA.out.size)
                  have hq4 := hqA.out.below hbc
                  have OYm := OY.mono hbA.out.size
                  obtain ⟨c0, c1, c2, c3, c4, c5, c6, c7, c8, c9, c10⟩ := cells11 PY
                  obtain ⟨f0, f1, f2, f3, f4, f5, f6, f7, f8, f9, f10⟩ := f_cells11 PY
                  have PYW := set11_block PY (.int .i64 y.id.1) (.int .u64 (y.id.2 : Int)) (.int .i64 y.kind) (.slice ka1 y.keys.length kc1) (.int .u64 (y.token : Int)) (.int .i64 y.ttl) (.slice ga1 y.groups.length gc1) (.int .i64 y.state) (.slice ya1 y.yes.length yc1) (.slice da1 y.done.length dc1) (.int .i64 y.code)
                  have PXW := (set11_other (.int .i64 y.id.1) (.int .u64 (y.id.2 : Int)) (.int .i64 y.kind) (.slice ka1 y.keys.length kc1) (.int .u64 (y.token : Int)) (.int .i64 y.ttl) (.slice ga1 y.groups.length gc1) (.int .i64 y.state) (.slice ya1 y.yes.length yc1) (.slice da1 y.done.length dc1) (.int .i64 y.code) ny.out.1).trans PX4
                  have PRW := (set11_other (.int .i64 y.id.1) (.int .u64 (y.id.2 : Int)) (.int .i64 y.kind) (.slice ka1 y.keys.length kc1) (.int .u64 (y.token : Int)) (.int .i64 y.ttl) (.slice ga1 y.groups.length gc1) (.int .i64 y.state) (.slice ya1 y.yes.length yc1) (.slice da1 y.done.length dc1) (.int .i64 y.code) ny.out.2.1).trans PR4
                  have PSW := (set11_other (.int .i64 y.id.1) (.int .u64 (y.id.2 : Int)) (.int .i64 y.kind) (.slice ka1 y.keys.length kc1) (.int .u64 (y.token : Int)) (.int .i64 y.ttl) (.slice ga1 y.groups.length gc1) (.int .i64 y.state) (.slice ya1 y.yes.length yc1) (.slice da1 y.done.length dc1) (.int .i64 y.code) (show wr.heap.size ≠ wr.heap.size + 1 from Nat.ne_of_lt (Nat.lt_succ_self _))).trans PS4
                  have hbW := set11_below (.int .i64 y.id.1) (.int .u64 (y.id.2 : Int)) (.int .i64 y.kind) (.slice ka1 y.keys.length kc1) (.int .u64 (y.token : Int)) (.int .i64 y.ttl) (.slice ga1 y.groups.length gc1) (.int .i64 y.state) (.slice ya1 y.yes.length yc1) (.slice da1 y.done.length dc1) (.int .i64 y.code) (g := wr.heap.size + 1) hb4 ny.out.2.2.2
                  have OYW := OYm.at_other PY (fun k hk => set11_other (.int .i64 y.id.1) (.int .u64 (y.id.2 : Int)) (.int .i64 y.kind) (.slice ka1 y.keys.length kc1) (.int .u64 (y.token : Int)) (.int .i64 y.ttl) (.slice ga1 y.groups.length gc1) (.int .i64 y.state) (.slice ya1 y.yes.length yc1) (.slice da1 y.done.length dc1) (.int .i64 y.code) hk)
                  have hqW := hq4.other PY (fun k hk => set11_other (.int .i64 y.id.1) (.int .u64 (y.id.2 : Int)) (.int .i64 y.kind) (.slice ka1 y.keys.length kc1) (.int .u64 (y.token : Int)) (.int .i64 y.ttl) (.slice ga1 y.groups.length gc1) (.int .i64 y.state) (.slice ya1 y.yes.length yc1) (.slice da1 y.done.length dc1) (.int .i64 y.code) hk)
                  obtain ⟨W1, hW1⟩ : ∃ W, set11 w4 (wr.heap.size + 1) (.int .i64 y.id.1) (.int .u64 (y.id.2 : Int)) (.int .i64 y.kind) (.slice ka1 y.keys.length kc1) (.int .u64 (y.token : Int)) (.int .i64 y.ttl) (.slice ga1 y.groups.length gc1) (.int .i64 y.state) (.slice ya1 y.yes.length yc1) (.slice da1 y.done.length dc1) (.int .i64 y.code) = W := ⟨_, rfl⟩
                  rw [hW1] at PYW PXW PRW PSW hbW OYW hqW
                  unfold set11 at hW1
                  obtain ⟨s0, s1, s2, s3⟩ := cells4 PSW
                  replace PYW : Hid (W1.heap[wr.heap.size + 1]? = some (.cells #[.int .i64 y.id.1, .int .u64 (y.id.2 : Int), .int .i64 y.kind, .slice ka1 y.keys.length kc1, .int .u64 (y.token : Int), .int .i64 y.ttl, .slice ga1 y.groups.length gc1, .int .i64 y.state, .slice ya1 y.yes.length yc1, .slice da1 y.done.length dc1, .int .i64 y.code] 29 (0, 0))) := PYW
                  replace PXW : Hid (W1.heap[w.heap.size]? = some (.cells #[.int .i64 x.id.1, .int .u64 (x.id.2 : Int), .int .i64 x.kind, .slice ka x.keys.length kc, .int .u64 (x.token : Int), .int .i64 x.ttl, .slice ga x.groups.length gc, .int .i64 x.state, .slice ya x.yes.length yc, .slice da x.done.length dc, .int .i64 x.code] 29 (0, 0))) := PXW
                  replace PRW : Hid (W1.heap[w3.heap.size]? = some (.cells #[.int .i64 rc, .int .u64 (rt : Int), .slice none 0 0] 34 (0, 0))) := PRW
                  replace OYW : Hid (XO w.heap.size W1 ⟨y, (ka1, kc1), (ga1, gc1), (ya1, yc1), (da1, dc1)⟩) := OYW
                  replace hbW : Hid (Below w.heap.size w W1) := hbW
                  replace hqW : Hid (XQ w W1 ⟨x, (ka, kc), (ga, gc), (ya, yc), (da, dc)⟩) := hqW
                  clear kcl hbc PY PX4 PR4 PS4 PSW hb4 hq4 OY OYm q1 q2 q3 q4 PXA PRA hqA hbA PX PR hq hb lz xr gl
                  have kM := rmay_of ⟨y, (ka1, kc1), (ga1, gc1), (ya1, yc1), (da1, dc1)⟩ W1 OYW.out.xr (Nat.le_trans yl.out.1 (by decide)) (Nat.le_trans yl.out.2.1 (by decide)) (Nat.le_trans yl.out.2.2.1 (by decide)) (Nat.le_trans yl.out.2.2.2 (by decide))
                  rw [hoky.out] at kM
                  obtain ⟨c0, c1, c2, c3, c4, c5, c6, c7, c8, c9, c10⟩ := cells11 PXW.out
                  obtain ⟨d0, d1, d2, d3, d4, d5, d6, d7, d8, d9, d10⟩ := cells11 PYW.out
                  dsimp only [xv] at kM
                  go_wp2_with fail
                  refine kM.mono ?_
                  rintro e w5 ⟨rfl, hbc⟩
                  have P5 := (hbc.block _ (at_ltD PXW.out)).trans PXW.out
                  have Y5 := (hbc.block _ (at_ltD PYW.out)).trans PYW.out
                  have R5 := (hbc.block _ (at_ltD PRW.out)).trans PRW.out
                  have hb5 := hbW.out.trans (hbc.mono hbW.out.size)
                  obtain ⟨c0, c1, c2, c3, c4, c5, c6, c7, c8, c9, c10⟩ := cells11 P5
                  obtain ⟨d0, d1, d2, d3, d4, d5, d6, d7, d8, d9, d10⟩ := cells11 Y5
                  obtain ⟨f0, f1, f2, f3, f4, f5, f6, f7, f8, f9, f10⟩ := f_cells11 P5
                  have P6 := set11_block P5 (.int .i64 y.id.1) (.int .u64 (y.id.2 : Int)) (.int .i64 y.kind) (.slice ka1 y.keys.length kc1) (.int .u64 (y.token : Int)) (.int .i64 y.ttl) (.slice ga1 y.groups.length gc1) (.int .i64 y.state) (.slice ya1 y.yes.length yc1) (.slice da1 y.done.length dc1) (.int .i64 y.code)
                  have R6 := (set11_other (.int .i64 y.id.1) (.int .u64 (y.id.2 : Int)) (.int .i64 y.kind) (.slice ka1 y.keys.length kc1) (.int .u64 (y.token : Int)) (.int .i64 y.ttl) (.slice ga1 y.groups.length gc1) (.int .i64 y.state) (.slice ya1 y.yes.length yc1) (.slice da1 y.done.length dc1) (.int .i64 y.code) ny.out.2.2.1.symm).trans R5
                  have hb6 := set11_below (.int .i64 y.id.1) (.int .u64 (y.id.2 : Int)) (.int .i64 y.kind) (.slice ka1 y.keys.length kc1) (.int .u64 (y.token : Int)) (.int .i64 y.ttl) (.slice ga1 y.groups.length gc1) (.int .i64 y.state) (.slice ya1 y.yes.length yc1) (.slice da1 y.done.length dc1) (.int .i64 y.code) (g := w.heap.size) hb5 (Nat.le_refl _)
                  have O6 := XO.at_other (XO.below OYW.out hbc) P5 (fun k hk => set11_other (.int .i64 y.id.1) (.int .u64 (y.id.2 : Int)) (.int .i64 y.kind) (.slice ka1 y.keys.length kc1) (.int .u64 (y.token : Int)) (.int .i64 y.ttl) (.slice ga1 y.groups.length gc1) (.int .i64 y.state) (.slice ya1 y.yes.length yc1) (.slice da1 y.done.length dc1) (.int .i64 y.code) hk)
                  obtain ⟨W6, hW6⟩ : ∃ W, set11 w5 w.heap.size (.int .i64 y.id.1) (.int .u64 (y.id.2 : Int)) (.int .i64 y.kind) (.slice ka1 y.keys.length kc1) (.int .u64 (y.token : Int)) (.int .i64 y.ttl) (.slice ga1 y.groups.length gc1) (.int .i64 y.state) (.slice ya1 y.yes.length yc1) (.slice da1 y.done.length dc1) (.int .i64 y.code) = W := ⟨_, rfl⟩
                  rw [hW6] at P6 R6 hb6 O6
                  unfold set11 at hW6
                  have kR := reply_of ⟨y, (ka1, kc1), (ga1, gc1), (ya1, yc1), (da1, dc1)⟩ W6 O6.xr (Nat.le_trans yl.out.1 (by decide)) (Nat.le_trans yl.out.2.1 (by decide)) (Nat.le_trans yl.out.2.2.1 (by decide)) (Nat.le_trans yl.out.2.2.2 (by decide))
                  rw [hry.out] at kR
                  replace P6 : Hid (W6.heap[w.heap.size]? = some (.cells #[.int .i64 y.id.1, .int .u64 (y.id.2 : Int), .int .i64 y.kind, .slice ka1 y.keys.length kc1, .int .u64 (y.token : Int), .int .i64 y.ttl, .slice ga1 y.groups.length gc1, .int .i64 y.state, .slice ya1 y.yes.length yc1, .slice da1 y.done.length dc1, .int .i64 y.code] 29 (0, 0))) := P6
                  replace R6 : Hid (W6.heap[w3.heap.size]? = some (.cells #[.int .i64 rc, .int .u64 (rt : Int), .slice none 0 0] 34 (0, 0))) := R6
                  replace O6 : Hid (XO w.heap.size W6 ⟨y, (ka1, kc1), (ga1, gc1), (ya1, yc1), (da1, dc1)⟩) := O6
                  replace hb6 : Hid (Below w.heap.size w W6) := hb6
                  obtain ⟨c0, c1, c2, c3, c4, c5, c6, c7, c8, c9, c10⟩ := cells11 P6.out
                  dsimp only [xv, rpv] at kR
                  have l1 : ¬ (y.yes.length : Int) < (x.yes.length : Int) := by have := hle.out.1; omega
                  have l1d : decide ((y.yes.length : Int) < (x.yes.length : Int)) = false := decide_eq_false l1
                  have l2 : ¬ (y.done.length : Int) < (x.done.length : Int) := by have := hle.out.2; omega
                  have l2d : decide ((y.done.length : Int) < (x.done.length : Int)) = false := decide_eq_false l2
                  clear kM hbc P5 Y5 R5 hb5 PXW PYW PRW hbW OYW
                  go_wp2_with fail
                  refine kR.mono ?_
                  rintro e w7 ⟨rfl, hbc⟩
                  have P7 := (hbc.block _ (at_ltD P6.out)).trans P6.out
                  have R7 := (hbc.block _ (at_ltD R6.out)).trans R6.out
                  have hb7 := hb6.out.trans (hbc.mono hb6.out.size)
                  obtain ⟨z7, q7, p7⟩ := one_box w7 (.cells #[.int .i64 qc, .int .u64 (qt : Int), .slice none 0 0] 34)
                  have P8 : Hid _ := (p7.block _ (at_ltD P7)).trans P7
                  have R8 : Hid _ := (p7.block _ (at_ltD R7)).trans R7
                  have hb8 : Hid _ := hb7.trans (p7.mono hb7.size)
                  have O8 : Hid (XO w.heap.size _ ⟨y, (ka1, kc1), (ga1, gc1), (ya1, yc1), (da1, dc1)⟩) := XO.below (XO.below O6.out hbc) p7
                  have q8 : Hid _ := q7
                  have nq : Hid (w3.heap.size ≠ w7.heap.size) := by have := at_ltD R7; show _ ≠ _; omega
                  obtain ⟨c0, c1, c2, c3, c4, c5, c6, c7, c8, c9, c10⟩ := cells11 P8.out
                  obtain ⟨m0, m1, m2⟩ := cells3 q8.out
                  obtain ⟨u0, u1, u2⟩ := cells3 R8.out
                  obtain ⟨v0, v1, v2⟩ := f_cells3 R8.out
                  clear kR hbc P6 R6 O6 hb6 P7 R7 hb7 z7 q7 p7 l1 l1d l2 l2d
                  have R10 := set3_block R8.out (.int .i64 qc) (.int .u64 (qt : Int)) (.slice none 0 0)
                  have P10 := (set3_other (.int .i64 qc) (.int .u64 (qt : Int)) (.slice none 0 0) ny.out.2.2.1).trans P8.out
                  have hb10 := set3_below (.int .i64 qc) (.int .u64 (qt : Int)) (.slice none 0 0) (g := w3.heap.size) hb8.out (Nat.le_of_lt hnr.out)
                  have O10 : XQ w _ ⟨y, (ka1, kc1), (ga1, gc1), (ya1, yc1), (da1, dc1)⟩ := XQ.otherR (.inr O8.out) R8.out (fun k hk => set3_other (.int .i64 qc) (.int .u64 (qt : Int)) (.slice none 0 0) hk)
                  unfold set3 at R10 P10 hb10 O10
                  have F10 : Hid _ := (⟨R10, P10, hb10, O10⟩ : _ ∧ _ ∧ _ ∧ _)
                  clear R10 P10 hb10 O10 P8 R8 O8 hb8 q8
                  go_wp2
                  go_roundg (gk - 1)
                  case measure => have := HIG.out; omega
                  case rel => exact ⟨i + 1, y, ka1, kc1, ga1, gc1, ya1, yc1, da1, dc1, by have := HIG.out; omega, by first | rfl | (rw [hnoY.out]), by rw [hry.out], by go_num, hoky, F10.out.2.1, by rw [hry.out]; exact F10.out.1, F10.out.2.2.2, F10.out.2.2.1⟩
              · have hCd : (C != 0) = true := by simpa using hC
                have hCe : (C == 0) = false := by simpa using hC
                clear hC HST
                cases hno : decide (x.code ≠ 0) with
                | false =>
                  have HN : Hid _ := hno
                  clear hno
                  go_wp2_with fail
                  refine kcl.mono ?_
                  rintro e w4 ⟨⟨⟨ka1, kc1⟩, ⟨ga1, gc1⟩, ⟨ya1, yc1⟩, ⟨da1, dc1⟩, rfl, OY⟩, hbc⟩
                  have PY := (hbc.block _ lz.out).trans q3
                  have PX4 := (hbc.block _ (at_ltD PXA.out)).trans PXA.out
                  have PR4 := (hbc.block _ (at_ltD PRA.out)).trans PRA.out
                  have PS4 := (hbc.block wr.heap.size (Nat.lt_trans (Nat.lt_succ_self _) lz.out)).trans q2
                  have hb4 := hbA.out.trans (hbc.mono hbA.out.size)
                  have hq4 := hqA.out.below hbc
                  have OYm := OY.mono hbA.out.size
                  obtain ⟨c0, c1, c2, c3, c4, c5, c6, c7, c8, c9, c10⟩ := cells11 PY
                  obtain ⟨f0, f1, f2, f3, f4, f5, f6, f7, f8, f9, f10⟩ := f_cells11 PY
                  have PYW := set11_block PY (.int .i64 y.id.1) (.int .u64 (y.id.2 : Int)) (.int .i64 y.kind) (.slice ka1 y.keys.length kc1) (.int .u64 (y.token : Int)) (.int .i64 y.ttl) (.slice ga1 y.groups.length gc1) (.int .i64 y.state) (.slice ya1 y.yes.length yc1) (.slice da1 y.done.length dc1) (.int .i64 y.code)
                  have PXW := (set11_other (.int .i64 y.id.1) (.int .u64 (y.id.2 : Int)) (.int .i64 y.kind) (.slice ka1 y.keys.length kc1) (.int .u64 (y.token : Int)) (.int .i64 y.ttl) (.slice ga1 y.groups.length gc1) (.int .i64 y.state) (.slice ya1 y.yes.length yc1) (.slice da1 y.done.length dc1) (.int .i64 y.code) ny.out.1).trans PX4
                  have PRW := (set11_other (.int .i64 y.id.1) (.int .u64 (y.id.2 : Int)) (.int .i64 y.kind) (.slice ka1 y.keys.length kc1) (.int .u64 (y.token : Int)) (.int .i64 y.ttl) (.slice ga1 y.groups.length gc1) (.int .i64 y.state) (.slice ya1 y.yes.length yc1) (.slice da1 y.done.length dc1) (.int .i64 y.code) ny.out.2.1).trans PR4
                  have PSW := (set11_other (.int .i64 y.id.1) (.int .u64 (y.id.2 : Int)) (.int .i64 y.kind) (.slice ka1 y.keys.length kc1) (.int .u64 (y.token : Int)) (.int .i64 y.ttl) (.slice ga1 y.groups.length gc1) (.int .i64 y.state) (.slice ya1 y.yes.length yc1) (.slice da1 y.done.length dc1) (.int .i64 y.code) (show wr.heap.size ≠ wr.heap.size + 1 from Nat.ne_of_lt (Nat.lt_succ_self _))).trans PS4
                  have hbW := set11_below (.int .i64 y.id.1) (.int .u64 (y.id.2 : Int)) (.int .i64 y.kind) (.slice ka1 y.keys.length kc1) (.int .u64 (y.token : Int)) (.int .i64 y.ttl) (.slice ga1 y.groups.length gc1) (.int .i64 y.state) (.slice ya1 y.yes.length yc1) (.slice da1 y.done.length dc1) (.int .i64 y.code) (g := wr.heap.size + 1) hb4 ny.out.2.2.2
                  have OYW := OYm.at_other PY (fun k hk => set11_other (.int .i64 y.id.1) (.int .u64 (y.id.2 : Int)) (.int .i64 y.kind) (.slice ka1 y.keys.length kc1) (.int .u64 (y.token : Int)) (.int .i64 y.ttl) (.slice ga1 y.groups.length gc1) (.int .i64 y.state) (.slice ya1 y.yes.length yc1) (.slice da1 y.done.length dc1) (.int .i64 y.code) hk)
                  have hqW := hq4.other PY (fun k hk => set11_other (.int .i64 y.id.1) (.int .u64 (y.id.2 : Int)) (.int .i64 y.kind) (.slice ka1 y.keys.length kc1) (.int .u64 (y.token : Int)) (.int .i64 y.ttl) (.slice ga1 y.groups.length gc1) (.int .i64 y.state) (.slice ya1 y.yes.length yc1) (.slice da1 y.done.length dc1) (.int .i64 y.code) hk)
                  obtain ⟨W1, hW1⟩ : ∃ W, set11 w4 (wr.heap.size + 1) (.int .i64 y.id.1) (.int .u64 (y.id.2 : Int)) (.int .i64 y.kind) (.slice ka1 y.keys.length kc1) (.int .u64 (y.token : Int)) (.int .i64 y.ttl) (.slice ga1 y.groups.length gc1) (.int .i64 y.state) (.slice ya1 y.yes.length yc1) (.slice da1 y.done.length dc1) (.int .i64 y.code) = W := ⟨_, rfl⟩
                  rw [hW1] at PYW PXW PRW PSW hbW OYW hqW
                  unfold set11 at hW1
                  obtain ⟨s0, s1, s2, s3⟩ := cells4 PSW
                  replace PYW : Hid (W1.heap[wr.heap.size + 1]? = some (.cells #[.int .i64 y.id.1, .int .u64 (y.id.2 : Int), .int .i64 y.kind, .slice ka1 y.keys.length kc1, .int .u64 (y.token : Int), .int .i64 y.ttl, .slice ga1 y.groups.length gc1, .int .i64 y.state, .slice ya1 y.yes.length yc1, .slice da1 y.done.length dc1, .int .i64 y.code] 29 (0, 0))) := PYW
                  replace PXW : Hid (W1.heap[w.heap.size]? = some (.cells #[.int .i64 x.id.1, .int .u64 (x.id.2 : Int), .int .i64 x.kind, .slice ka x.keys.length kc, .int .u64 (x.token : Int), .int .i64 x.ttl, .slice ga x.groups.length gc, .int .i64 x.state, .slice ya x.yes.length yc, .slice da x.done.length dc, .int .i64 x.code] 29 (0, 0))) := PXW
                  replace PRW : Hid (W1.heap[w3.heap.size]? = some (.cells #[.int .i64 rc, .int .u64 (rt : Int), .slice none 0 0] 34 (0, 0))) := PRW
                  replace OYW : Hid (XO w.heap.size W1 ⟨y, (ka1, kc1), (ga1, gc1), (ya1, yc1), (da1, dc1)⟩) := OYW
                  replace hbW : Hid (Below w.heap.size w W1) := hbW
                  replace hqW : Hid (XQ w W1 ⟨x, (ka, kc), (ga, gc), (ya, yc), (da, dc)⟩) := hqW
                  clear kcl hbc PY PX4 PR4 PS4 PSW hb4 hq4 OY OYm q1 q2 q3 q4 PXA PRA hqA hbA PX PR hq hb lz xr gl
                  go_wp2
                  go_roundg (gk - 1)
                  case measure => have := HIG.out; omega
                  case rel => exact ⟨i + 1, x, ka, kc, ga, gc, ya, yc, da, dc, by have := HIG.out; omega, by first | (rw [HN.out]; done) | simp [HN.out], by rw [HRX.out], by go_num, hok, PXW, by rw [HRX.out]; exact PRW, hqW, hbW⟩
                | true =>
                  have HN : Hid _ := hno
                  clear hno
                  go_wp2_with fail
                  refine kcl.mono ?_
                  rintro e w4 ⟨⟨⟨ka1, kc1⟩, ⟨ga1, gc1⟩, ⟨ya1, yc1⟩, ⟨da1, dc1⟩, rfl, OY⟩, hbc⟩
                  have PY := (hbc.block _ lz.out).trans q3
                  have PX4 := (hbc.block _ (at_ltD PXA.out)).trans PXA.out
                  have PR4 := (hbc.block _ (at_ltD PRA.out)).trans PRA.out
                  have PS4 := (hbc.block wr.heap.size (Nat.lt_trans (Nat.lt_succ_self _) lz.out)).trans q2
                  have hb4 := hbA.out.trans (hbc.mono hbA.out.size)
                  have hq4 := hqA.out.below hbc
                  have OYm := OY.mono hbA.out.size
                  obtain ⟨c0, c1, c2, c3, c4, c5, c6, c7, c8, c9, c10⟩ := cells11 PY
                  obtain ⟨f0, f1, f2, f3, f4, f5, f6, f7, f8, f9, f10⟩ := f_cells11 PY
                  have PYW := set11_block PY (.int .i64 y.id.1) (.int .u64 (y.id.2 : Int)) (.int .i64 y.kind) (.slice ka1 y.keys.length kc1) (.int .u64 (y.token : Int)) (.int .i64 y.ttl) (.slice ga1 y.groups.length gc1) (.int .i64 y.state) (.slice ya1 y.yes.length yc1) (.slice da1 y.done.length dc1) (.int .i64 y.code)
                  have PXW := (set11_other (.int .i64 y.id.1) (.int .u64 (y.id.2 : Int)) (.int .i64 y.kind) (.slice ka1 y.keys.length kc1) (.int .u64 (y.token : Int)) (.int .i64 y.ttl) (.slice ga1 y.groups.length gc1) (.int .i64 y.state) (.slice ya1 y.yes.length yc1) (.slice da1 y.done.length dc1) (.int .i64 y.code) ny.out.1).trans PX4
                  have PRW := (set11_other (.int .i64 y.id.1) (.int .u64 (y.id.2 : Int)) (.int .i64 y.kind) (.slice ka1 y.keys.length kc1) (.int .u64 (y.token : Int)) (.int .i64 y.ttl) (.slice ga1 y.groups.length gc1) (.int .i64 y.state) (.slice ya1 y.yes.length yc1) (.slice da1 y.done.length dc1) (.int .i64 y.code) ny.out.2.1).trans PR4
                  have PSW := (set11_other (.int .i64 y.id.1) (.int .u64 (y.id.2 : Int)) (.int .i64 y.kind) (.slice ka1 y.keys.length kc1) (.int .u64 (y.token : Int)) (.int .i64 y.ttl) (.slice ga1 y.groups.length gc1) (.int .i64 y.state) (.slice ya1 y.yes.length yc1) (.slice da1 y.done.length dc1) (.int .i64 y.code) (show wr.heap.size ≠ wr.heap.size + 1 from Nat.ne_of_lt (Nat.lt_succ_self _))).trans PS4
                  have hbW := set11_below (.int .i64 y.id.1) (.int .u64 (y.id.2 : Int)) (.int .i64 y.kind) (.slice ka1 y.keys.length kc1) (.int .u64 (y.token : Int)) (.int .i64 y.ttl) (.slice ga1 y.groups.length gc1) (.int .i64 y.state) (.slice ya1 y.yes.length yc1) (.slice da1 y.done.length dc1) (.int .i64 y.code) (g := wr.heap.size + 1) hb4 ny.out.2.2.2
                  have OYW := OYm.at_other PY (fun k hk => set11_other (.int .i64 y.id.1) (.int .u64 (y.id.2 : Int)) (.int .i64 y.kind) (.slice ka1 y.keys.length kc1) (.int .u64 (y.token : Int)) (.int .i64 y.ttl) (.slice ga1 y.groups.length gc1) (.int .i64 y.state) (.slice ya1 y.yes.length yc1) (.slice da1 y.done.length dc1) (.int .i64 y.code) hk)
                  have hqW := hq4.other PY (fun k hk => set11_other (.int .i64 y.id.1) (.int .u64 (y.id.2 : Int)) (.int .i64 y.kind) (.slice ka1 y.keys.length kc1) (.int .u64 (y.token : Int)) (.int .i64 y.ttl) (.slice ga1 y.groups.length gc1) (.int .i64 y.state) (.slice ya1 y.yes.length yc1) (.slice da1 y.done.length dc1) (.int .i64 y.code) hk)
                  obtain ⟨W1, hW1⟩ : ∃ W, set11 w4 (wr.heap.size + 1) (.int .i64 y.id.1) (.int .u64 (y.id.2 : Int)) (.int .i64 y.kind) (.slice ka1 y.keys.length kc1) (.int .u64 (y.token : Int)) (.int .i64 y.ttl) (.slice ga1 y.groups.length gc1) (.int .i64 y.state) (.slice ya1 y.yes.length yc1) (.slice da1 y.done.length dc1) (.int .i64 y.code) = W := ⟨_, rfl⟩
                  rw [hW1] at PYW PXW PRW PSW hbW OYW hqW
                  unfold set11 at hW1
                  obtain ⟨s0, s1, s2, s3⟩ := cells4 PSW
                  replace PYW : Hid (W1.heap[wr.heap.size + 1]? = some (.cells #[.int .i64 y.id.1, .int .u64 (y.id.2 : Int), .int .i64 y.kind, .slice ka1 y.keys.length kc1, .int .u64 (y.token : Int), .int .i64 y.ttl, .slice ga1 y.groups.length gc1, .int .i64 y.state, .slice ya1 y.yes.length yc1, .slice da1 y.done.length dc1, .int .i64 y.code] 29 (0, 0))) := PYW
                  replace PXW : Hid (W1.heap[w.heap.size]? = some (.cells #[.int .i64 x.id.1, .int .u64 (x.id.2 : Int), .int .i64 x.kind, .slice ka x.keys.length kc, .int .u64 (x.token : Int), .int .i64 x.ttl, .slice ga x.groups.length gc, .int .i64 x.state, .slice ya x.yes.length yc, .slice da x.done.length dc, .int .i64 x.code] 29 (0, 0))) := PXW
                  replace PRW : Hid (W1.heap[w3.heap.size]? = some (.cells #[.int .i64 rc, .int .u64 (rt : Int), .slice none 0 0] 34 (0, 0))) := PRW
                  replace OYW : Hid (XO w.heap.size W1 ⟨y, (ka1, kc1), (ga1, gc1), (ya1, yc1), (da1, dc1)⟩) := OYW
                  replace hbW : Hid (Below w.heap.size w W1) := hbW
                  replace hqW : Hid (XQ w W1 ⟨x, (ka, kc), (ga, gc), (ya, yc), (da, dc)⟩) := hqW
                  clear kcl hbc PY PX4 PR4 PS4 PSW hb4 hq4 OY OYm q1 q2 q3 q4 PXA PRA hqA hbA PX PR hq hb lz xr gl
                  go_wp2
                  go_roundg (gk - 1)
                  case measure => have := HIG.out; omega
                  case rel => exact ⟨i + 1, x, ka, kc, ga, gc, ya, yc, da, dc, by have := HIG.out; omega, by first | (rw [HN.out]; done) | simp [HN.out], by rw [HRX.out], by go_num, hok, PXW, by rw [HRX.out]; exact PRW, hqW, hbW⟩
        · obtain ⟨c0, c1, c2, c3, c4, c5, c6, c7, c8, c9, c10⟩ := cells11 PX.out
          have kA := awake_of wr
          by_cases h1 : i < ss.length
          · have h2 : ¬ i < 100 := fun h => hlt ⟨h1, h⟩
            have h1i : (i : Int) < (ss.length : Int) := by omega
            have h1d : decide ((i : Int) < (ss.length : Int)) = true := decide_eq_true h1i
            have h2i : ¬ (i : Int) < 100 := by omega
            have h2d : decide ((i : Int) < 100) = false := decide_eq_false h2i
            clear h1 h2 hig
            by_cases h4 : x.state = 4
            · have h4d : (x.state != 4) = false := by simp [h4]
              have hall : ((x.done.length : Int) == (x.groups.length : Int)) = true := by rw [closed_all hok.out h4]; simp
              clear h4 hlt
              go_wp2_with fail
              refine kA.mono ?_
              rintro e wz ⟨rfl, hbc⟩
              have hE : Hid _ := hb.out.trans (hbc.mono hb.out.size)
              clear kA hbc
              go_wp2
              go_ret
              exact ⟨rfl, hE.out⟩
            · have h4d : (x.state != 4) = true := by simpa using h4
              clear h4 hlt
              go_wp2_with fail
              refine kA.mono ?_
              rintro e wz ⟨rfl, hbc⟩
              have hE : Hid _ := hb.out.trans (hbc.mono hb.out.size)
              clear kA hbc
              go_wp2
              go_ret
              exact ⟨rfl, hE.out⟩
          · have h1i : ¬ (i : Int) < (ss.length : Int) := by omega
            have h1d : decide ((i : Int) < (ss.length : Int)) = false := decide_eq_false h1i
            clear h1 hig
            by_cases h4 : x.state = 4
            · have h4d : (x.state != 4) = false := by simp [h4]
              have hall : ((x.done.length : Int) == (x.groups.length : Int)) = true := by rw [closed_all hok.out h4]; simp
              clear h4 hlt
              go_wp2_with fail
              refine kA.mono ?_
              rintro e wz ⟨rfl, hbc⟩
              have hE : Hid _ := hb.out.trans (hbc.mono hb.out.size)
              clear kA hbc
              go_wp2
              go_ret
              exact ⟨rfl, hE.out⟩
            · have h4d : (x.state != 4) = true := by simpa using h4
              clear h4 hlt
              go_wp2_with fail
              refine kA.mono ?_
              rintro e wz ⟨rfl, hbc⟩
              have hE : Hid _ := hb.out.trans (hbc.mono hb.out.size)
              clear kA hbc
              go_wp2
              go_ret
              exact ⟨rfl, hE.out⟩
end Go.Proofs.Ytglbjimpaoikfaa

