import Derived.Test.YtglbjimpaoikfaaHe47
import Derived.Test.YtglbjimpaoikfaaHe49
import Derived.Test.YtglbjimpaoikfaaHe29
import Derived.Test.YtglbjimpaoikfaaHe50
/- The law TxnEnds answers true. -/
namespace Go.Proofs.Ytglbjimpaoikfaa
open Go.RowKit LeaseMath QuorumMath
set_option maxRecDepth 100000
set_option linter.unusedSimpArgs false
set_option linter.unusedVariables false

theorem at_ltE {w : World} {n : Nat} {x : Obj} (h : w.heap[n]? = some x) : n < w.heap.size := (Array.getElem?_eq_some_iff.1 h).1
theorem below_rowE {n g : Nat} {w w' : World} (h : Below n w w') (hg : n ≤ g) (cs : Array Value) : Below n w (w'.setRow g cs) :=
  ⟨h.os, h.tape, h.output, by rw [setRow_size]; exact h.size, fun k hk => (setRow_other w' g k cs (by omega)).trans (h.block k hk)⟩
theorem bit_int (a : Nat) (y : Int) : (((a : Int) / 2 ^ (y.toNat - 1)).tmod 2 == 1) = bitB a y := by
  unfold bitB
  rw [show (y - 1).toNat = y.toNat - 1 by omega]
  generalize y.toNat - 1 = k
  have h : ((a : Int) / 2 ^ k).tmod 2 = ((a / 2 ^ k % 2 : Nat) : Int) := by
    rw [show ((a : Int) / 2 ^ k) = ((a / 2 ^ k : Nat) : Int) by push_cast; rfl]
    generalize a / 2 ^ k = m
    rw [Int.tmod_eq_emod_of_nonneg (by omega)]
    omega
  rw [h, Bool.eq_iff_iff, beq_iff_eq, beq_iff_eq]
  omega
theorem bits16 {a b : Nat} (ha : a < 65536) (hb : b < 65536) : (bits .and .u16 (a : Int) (b : Int) == 0) = decide (a &&& b = 0) := by
  have h1 : (BitVec.ofInt 16 (a : Int)).toNat = a := by simp [BitVec.toNat_ofInt]; omega
  have h2 : (BitVec.ofInt 16 (b : Int)).toNat = b := by simp [BitVec.toNat_ofInt]; omega
  have h3 : (BitVec.ofInt 16 (a : Int) &&& BitVec.ofInt 16 (b : Int)).toNat = a &&& b := by rw [BitVec.toNat_and, h1, h2]
  have h4 : a &&& b < 65536 := Nat.lt_of_le_of_lt Nat.and_le_left ha
  have h5 : bits .and .u16 (a : Int) (b : Int) = ((a &&& b : Nat) : Int) := by
    show IntKind.u16.wrap (((BitVec.ofInt 16 (a : Int) &&& BitVec.ofInt 16 (b : Int)).toNat : Nat) : Int) = _
    rw [h3]
    exact IntWalk.u16_in _ (by omega)
  rw [h5]
  by_cases h : a &&& b = 0
  · rw [decide_eq_true h, h]; rfl
  · rw [decide_eq_false h]
    simpa using h
set_option maxHeartbeats 64000000 in
theorem ends_law (d : Cq) (c : Cl) (k : Sa) (a b : Nat) (w : World) (hK : Rd kyE w (.slice k.1 c.keys.length k.2) c.keys) (gk : c.keys.length * 16 ≤ 140737488355328) (ha : a < 65536) (hb : b < 65536) : Calls Try.prog 6 #[.agg #[.int .i64 d.1, .int .u64 (d.2 : Int)], cv c k, .agg #[.int .u16 (a : Int), .int .u16 (b : Int)]] w fun e w' => e = .returned (.bool true) ∧ Below w.heap.size w w' := by
  have KB : Hid (∀ (gs : List Int) (g : Sa) W, Below w.heap.size w W → Rd intE W (.slice g.1 gs.length g.2) gs → gs.length ≤ 1000000 → _) := fun gs g W hW hg hl => beginG_of d c k gs g W (hK.below hW) hg gk hl
  have KM : Hid (∀ (gs : List Int) (g : Sa) W, Below w.heap.size w W → Rd intE W (.slice g.1 gs.length g.2) gs → gs.length ≤ 1000000 → _) := fun gs g W hW hg hl => rmayG_of ⟨⟨d, c.kind, c.keys, c.token, c.ttl, gs, 1, [], [], 0⟩, k, g, (none, 0), (none, 0)⟩ W ⟨hK.below hW, hg, Rd.nil _ _, Rd.nil _ _⟩ gk (by show gs.length ≤ _; omega) (by simp) (by simp)
  have HNO : Hid (∀ gs, okX (beginX d c gs) = false → _) := fun gs h => begin_no (d := d) (c := c) (G := gs) h
  have HBP : Hid (∀ gs, okX (beginX d c gs) = true → _) := fun gs h => begin_p (d := d) (c := c) (G := gs) (b := b) h
  have HAND := bits16 ha hb
  have HZ : Hid (a &&& b = 0 ↔ _) := and_zero (a := a) (b := b) ha
  have HA : Hid (a < 65536 ∧ b < 65536) := ⟨ha, hb⟩
  clear hK gk ha hb
  obtain ⟨i1, i2⟩ := d
  obtain ⟨kd, ks, tk, tt⟩ := c
  obtain ⟨ak, ck⟩ := k
  dsimp only [cv, xv] at *
  obtain ⟨p1, p2, p3, p4⟩ := two_boxesX w (.cells #[.int .i64 i1, .int .u64 (i2 : Int)] 24) (.cells #[.int .i64 kd, .slice ak ks.length ck, .int .u64 (tk : Int), .int .i64 tt] 43)
  obtain ⟨v0, hv0⟩ : ∃ W, (w.alloc (.cells #[.int .i64 i1, .int .u64 (i2 : Int)] 24)).alloc (.cells #[.int .i64 kd, .slice ak ks.length ck, .int .u64 (tk : Int), .int .i64 tt] 43) = W := ⟨_, rfl⟩
  rw [hv0] at p1 p2 p3 p4
  obtain ⟨r1, r2, r3⟩ := one_box v0 (.cells #[.int .u16 (a : Int), .int .u16 (b : Int)] 57)
  obtain ⟨w0, hw0⟩ : ∃ W, v0.alloc (.cells #[.int .u16 (a : Int), .int .u16 (b : Int)] 57) = W := ⟨_, rfl⟩
  rw [hw0] at r1 r2 r3
  have hb0 := p4.trans (r3.mono (by omega))
  have q2 := (r3.block w.heap.size (by omega)).trans p2
  have q3 := (r3.block (w.heap.size + 1) (by omega)).trans p3
  have HI : Hid (∀ W, Below w0.heap.size w0 W → Below w.heap.size w W ∧ (W.cell? ⟨w.heap.size, 0, none⟩ = some (.int .i64 i1) ∧ W.cell? ⟨w.heap.size, 1, none⟩ = some (.int .u64 (i2 : Int))) ∧ (W.cell? ⟨w.heap.size + 1, 0, none⟩ = some (.int .i64 kd) ∧ W.cell? ⟨w.heap.size + 1, 1, none⟩ = some (.slice ak ks.length ck) ∧ W.cell? ⟨w.heap.size + 1, 2, none⟩ = some (.int .u64 (tk : Int)) ∧ W.cell? ⟨w.heap.size + 1, 3, none⟩ = some (.int .i64 tt)) ∧ W.cell? ⟨v0.heap.size, 0, none⟩ = some (.int .u16 (a : Int)) ∧ W.cell? ⟨v0.heap.size, 1, none⟩ = some (.int .u16 (b : Int))) := fun W hW => ⟨hb0.trans (hW.mono hb0.size), cells2 ((hW.block w.heap.size (by omega)).trans q2), cells4 ((hW.block (w.heap.size + 1) (by omega)).trans q3), cells2 ((hW.block v0.heap.size (by omega)).trans r2)⟩
  have hw0s : Hid (w.heap.size ≤ w0.heap.size) := hb0.size
  obtain ⟨o1, o2, o3⟩ := one_box w0 (.cells #[] 3)
  have hO0 : Hid (Ow intE 3 w0.heap.size (w0.alloc (.cells #[] 3)) (.slice (some ⟨w0.heap.size, 0, none⟩) 0 0) []) := ⟨Rk.made (xs := []) o2 rfl (by unfold maxLen; simp), fun k hk => by cases hk; exact Nat.le_refl _⟩
  clear p1 p2 p3 p4 r1 r2 r3 hb0 q2 q3 o1 o2
  go_enter Try.func6, Try.ntmps6
  go_wp2
  go_loopg [7, 8] 16 (fun g s7 s8 wr => ∃ (i : Nat) (y : Int) (st : Value), i + g = 16 ∧ y = (i : Int) + 1 ∧ s8 = .int .i64 y ∧ st = s7 ∧ Ow intE 3 w0.heap.size wr st (grpsN a i) ∧ Below w0.heap.size w0 wr)
  case atStart => exact ⟨0, 1, _, rfl, rfl, rfl, rfl, hO0.out, o3⟩
  case round =>
    obtain ⟨i, y, st, hig, hyi, rfl, rfl, hO, hb⟩ := hrel
    by_cases hlt : i < 16
    · have hle : y ≤ 16 := by omega
      have hge : 1 ≤ y := by omega
      have j0 : IntKind.i64.wrap (y + 1) = y + 1 := IntWalk.i64_in _ (by omega)
      have j1 : IntKind.i64.wrap (y - 1) = y - 1 := IntWalk.i64_in _ (by omega)
      have j2 : IntKind.u64.wrap (y - 1) = y - 1 := IntWalk.u64_in _ (by omega)
      have hyn : Hid (y = (i : Int) + 1) := hyi
      have HI2 : Hid (i + gk = 16 ∧ i < 16) := ⟨hig, hlt⟩
      obtain ⟨-, -, -, c0, c1⟩ := HI.out wr hb
      have hll := grps_len a i
      have hbd := bit_int a y
      cases hbit : bitB a y with
      | true =>
        rw [hbit] at hbd
        have hrun : Hid _ := push_int y hO.1 (by omega)
        have HP : Hid (∀ v' w', PushT intE 3 wr st (grpsN a i ++ [y]) v' w' → Ow intE 3 w0.heap.size w' v' (grpsN a (i + 1)) ∧ Below w0.heap.size wr w') := fun v' w' h => by
          rw [grps_succ, ← hyn.out, if_pos hbit, hyn.out, ← hyn.out]
          exact hO.push hb.size h
        obtain ⟨sa, sc, rfl, -⟩ := hO.1.shape
        generalize grpsN a i = L at *
        clear hO hyi hll hig hlt hbit hO0 o3
        go_wp2_with (at_builtin; refine wp_by rfl _ _ _ rfl _ _ rfl rfl hrun.out ?_)
        intro u w2 hp
        obtain ⟨h1, h2⟩ := HP.out u w2 hp
        obtain ⟨ua, uc, rfl, -⟩ := h1.1.shape
        have hb2 := hb.trans h2
        clear hrun HP hp h2
        go_wp2
        go_roundg (gk - 1)
        case measure => have := HI2.out; omega
        case rel => exact ⟨i + 1, y + 1, _, by have := HI2.out; omega, by rw [hyn.out]; omega, by first | rfl | go_num, rfl, h1, hb2⟩
      | false =>
        rw [hbit] at hbd
        have HO : Hid (Ow intE 3 w0.heap.size wr st (grpsN a (i + 1))) := by
          show Ow _ _ _ _ _ _
          rw [grps_succ, ← hyn.out, if_neg (by rw [hbit]; decide)]
          exact hO
        obtain ⟨sa, sc, rfl, -⟩ := hO.1.shape
        clear hO hyi hll hig hlt hbit hO0 o3
        go_wp2
        go_roundg (gk - 1)
        case measure => have := HI2.out; omega
        case rel => exact ⟨i + 1, y + 1, _, by have := HI2.out; omega, by rw [hyn.out]; omega, by first | rfl | go_num, rfl, HO.out, hb⟩
    · have hle : ¬ y ≤ 16 := by omega
      obtain rfl : i = 16 := by omega
      obtain ⟨sa, sc, rfl, -⟩ := hO.1.shape
      have HO : Hid (Ow intE 3 w0.heap.size wr _ (grpsN a 16)) := hO
      obtain ⟨bw, ⟨x0, x1⟩, ⟨u0, u1, u2, u3⟩, c0, c1⟩ := HI.out wr hb
      have HG : Hid (Rd intE wr (.slice sa (grpsN a 16).length sc) (grpsN a 16)) := hO.1.rd
      have HGL : Hid ((grpsN a 16).length ≤ 16) := grps_len a 16
      obtain ⟨G, hG⟩ : ∃ G, grpsN a 16 = G := ⟨_, rfl⟩
      rw [hG] at HG HGL HO HZ ⊢
      clear hO hyi hO0 o3 hlt hig hG
      cases hok : okX (beginX (i1, i2) ⟨kd, ks, tk, tt⟩ G) with
      | false =>
        have kB : Calls Try.prog 30 #[.agg #[.int .i64 i1, .int .u64 (i2 : Int)], .agg #[.int .i64 kd, .slice ak ks.length ck, .int .u64 (tk : Int), .int .i64 tt], .slice sa G.length sc] wr fun e w' => (∃ (ka : Option Addr) (kc : Nat) (ga : Option Addr) (gc : Nat) (ya : Option Addr) (yc : Nat) (da : Option Addr) (dc : Nat), e = .returned (.tuple #[.agg #[.int .i64 0, .int .u64 0, .int .i64 0, .slice ka 0 kc, .int .u64 0, .int .i64 0, .slice ga 0 gc, .int .i64 0, .slice ya 0 yc, .slice da 0 dc, .int .i64 0], .int .i64 1])) ∧ Below wr.heap.size wr w' := (KB.out G (sa, sc) wr bw HG.out (by have := HGL.out; omega)).mono fun e w' h => by
          obtain ⟨R, hR, ⟨⟨ka, kc⟩, ⟨ga, gc⟩, ⟨ya, yc⟩, ⟨da, dc⟩, he, _⟩, hB⟩ := h
          obtain rfl : R = (noX, 1) := by rw [hR.out]; unfold beginM; rw [if_neg (by rw [hok]; decide)]
          exact ⟨⟨ka, kc, ga, gc, ya, yc, da, dc, he⟩, hB⟩
        have hrec := HNO.out G hok
        replace hrec : Hid _ := hrec
        clear KB HBP HAND HZ HA hok
        go_wp2_with fail
        refine kB.mono ?_
        rintro e w4 ⟨⟨ka, kc, ga, gc, ya, yc, da, dc, rfl⟩, hbc⟩
        have hb4 := hb.trans (hbc.mono hb.size)
        obtain ⟨z4, r4, p4⟩ := one_box w4 (.cells #[.int .i64 0, .int .u64 0, .int .i64 0, .slice ka 0 kc, .int .u64 0, .int .i64 0, .slice ga 0 gc, .int .i64 0, .slice ya 0 yc, .slice da 0 dc, .int .i64 0] 29)
        have hb5 := hb4.trans (p4.mono hb4.size)
        obtain ⟨bw5, ⟨x0, x1⟩, ⟨u0, u1, u2, u3⟩, c0, c1⟩ := HI.out _ hb5
        have kM := KM.out G (sa, sc) _ bw5 ((HG.out.below hbc).below p4) (by have := HGL.out; omega)
        have hrec := hrec.out
        try dsimp only at kM hrec
        generalize okX ⟨(i1, i2), kd, ks, tk, tt, G, 1, [], [], 0⟩ = o at *
        clear kB hbc hb4 z4 r4 p4 bw5 KM HNO HG HGL HO hb bw
        cases o with
        | false =>
          clear hrec
          go_wp2_with fail
          refine kM.mono ?_
          rintro e w6 ⟨rfl, hbm⟩
          have hb6 := hb5.trans (hbm.mono hb5.size)
          obtain ⟨-, ⟨x0, x1⟩, ⟨u0, u1, u2, u3⟩, c0, c1⟩ := HI.out _ hb6
          clear kM hbm hb5
          have kA := awake_of w6
          go_wp2_with fail
          refine kA.mono ?_
          rintro e wz ⟨rfl, hbz⟩
          have hE : Hid _ := (HI.out _ (hb6.trans (hbz.mono hb6.size))).1
          clear kA hbz
          go_wp2
          go_ret
          exact ⟨rfl, hE.out⟩
        | true =>
          obtain ⟨hk1, ht⟩ := hrec.resolve_left (by decide)
          have hkd : (kd == 1) = true := by simp [hk1]
          have htd : ((tk : Int) != 0) = true := by simpa using ht
          clear hrec hk1 ht
          go_wp2_with fail
          refine kM.mono ?_
          rintro e w6 ⟨rfl, hbm⟩
          have hb6 := hb5.trans (hbm.mono hb5.size)
          obtain ⟨-, ⟨x0, x1⟩, ⟨u0, u1, u2, u3⟩, c0, c1⟩ := HI.out _ hb6
          clear kM hbm hb5
          have kA := awake_of w6
          go_wp2_with fail
          refine kA.mono ?_
          rintro e wz ⟨rfl, hbz⟩
          have hE : Hid _ := (HI.out _ (hb6.trans (hbz.mono hb6.size))).1
          clear kA hbz
          go_wp2
          go_ret
          exact ⟨rfl, hE.out⟩
      | true =>
        obtain ⟨X0, hX0⟩ : ∃ X, X = beginX (i1, i2) ⟨kd, ks, tk, tt⟩ G := ⟨_, rfl⟩
        have kB : Calls Try.prog 30 #[.agg #[.int .i64 i1, .int .u64 (i2 : Int)], .agg #[.int .i64 kd, .slice ak ks.length ck, .int .u64 (tk : Int), .int .i64 tt], .slice sa G.length sc] wr fun e w' => (∃ (ka : Option Addr) (kc : Nat) (ga : Option Addr) (gc : Nat) (ya : Option Addr) (yc : Nat) (da : Option Addr) (dc : Nat), e = .returned (.tuple #[.agg #[.int .i64 X0.id.1, .int .u64 (X0.id.2 : Int), .int .i64 X0.kind, .slice ka X0.keys.length kc, .int .u64 (X0.token : Int), .int .i64 X0.ttl, .slice ga X0.groups.length gc, .int .i64 X0.state, .slice ya X0.yes.length yc, .slice da X0.done.length dc, .int .i64 X0.code], .int .i64 0]) ∧ XO wr.heap.size w' ⟨X0, (ka, kc), (ga, gc), (ya, yc), (da, dc)⟩) ∧ Below wr.heap.size wr w' := (KB.out G (sa, sc) wr bw HG.out (by have := HGL.out; omega)).mono fun e w' h => by
          obtain ⟨R, hR, ⟨⟨ka, kc⟩, ⟨ga, gc⟩, ⟨ya, yc⟩, ⟨da, dc⟩, he, hO⟩, hB⟩ := h
          obtain rfl : R = (X0, 0) := by rw [hR.out]; unfold beginM; rw [if_pos hok, hX0]
          exact ⟨⟨ka, kc, ga, gc, ya, yc, da, dc, he, hO⟩, hB⟩
        have hP0 := HBP.out G hok
        rw [← hX0] at hP0 hok
        have hokX : Hid (okX X0 = true) := hok
        try dsimp only at hP0
        replace hP0 : Hid _ := hP0
        clear KB KM HNO HBP hX0 hok HO
        go_wp2_with fail
        refine kB.mono ?_
        rintro e w4 ⟨⟨ka, kc, ga, gc, ya, yc, da, dc, rfl, O4⟩, hbc⟩
        have hb4 := hb.trans (hbc.mono hb.size)
        have hNB : Hid (w0.heap.size ≤ w4.heap.size) := hb4.size
        obtain ⟨z4, r4, p4⟩ := one_box w4 (.cells #[.int .i64 X0.id.1, .int .u64 (X0.id.2 : Int), .int .i64 X0.kind, .slice ka X0.keys.length kc, .int .u64 (X0.token : Int), .int .i64 X0.ttl, .slice ga X0.groups.length gc, .int .i64 X0.state, .slice ya X0.yes.length yc, .slice da X0.done.length dc, .int .i64 X0.code] 29)
        have HB5 : Hid (Below w0.heap.size w0 (w4.alloc (.cells #[.int .i64 X0.id.1, .int .u64 (X0.id.2 : Int), .int .i64 X0.kind, .slice ka X0.keys.length kc, .int .u64 (X0.token : Int), .int .i64 X0.ttl, .slice ga X0.groups.length gc, .int .i64 X0.state, .slice ya X0.yes.length yc, .slice da X0.done.length dc, .int .i64 X0.code] 29))) := hb4.trans (p4.mono hb4.size)
        have PB5 : Hid ((w4.alloc (.cells #[.int .i64 X0.id.1, .int .u64 (X0.id.2 : Int), .int .i64 X0.kind, .slice ka X0.keys.length kc, .int .u64 (X0.token : Int), .int .i64 X0.ttl, .slice ga X0.groups.length gc, .int .i64 X0.state, .slice ya X0.yes.length yc, .slice da X0.done.length dc, .int .i64 X0.code] 29)).heap[w4.heap.size]? = some (.cells #[.int .i64 X0.id.1, .int .u64 (X0.id.2 : Int), .int .i64 X0.kind, .slice ka X0.keys.length kc, .int .u64 (X0.token : Int), .int .i64 X0.ttl, .slice ga X0.groups.length gc, .int .i64 X0.state, .slice ya X0.yes.length yc, .slice da X0.done.length dc, .int .i64 X0.code] 29 (0, 0))) := r4
        have OX5 : Hid (XO w0.heap.size (w4.alloc (.cells #[.int .i64 X0.id.1, .int .u64 (X0.id.2 : Int), .int .i64 X0.kind, .slice ka X0.keys.length kc, .int .u64 (X0.token : Int), .int .i64 X0.ttl, .slice ga X0.groups.length gc, .int .i64 X0.state, .slice ya X0.yes.length yc, .slice da X0.done.length dc, .int .i64 X0.code] 29)) ⟨X0, (ka, kc), (ga, gc), (ya, yc), (da, dc)⟩) := XO.below (O4.mono hb.size) p4
        obtain ⟨-, ⟨x0, x1⟩, ⟨u0, u1, u2, u3⟩, c0, c1⟩ := HI.out _ HB5.out
        clear kB hbc hb4 z4 r4 p4 O4 bw hb HG
        by_cases hk : kd = 1
        · have hkd : (kd == 1) = true := by simp [hk]
          obtain ⟨y0, hy0, hA0⟩ := hP0.out.2 hk
          have hPs : Hid (AskP G b y0 0 ∨ TelP G b y0 0) := .inl hA0
          have gl := ok_lens hokX.out
          have kT := token_of ⟨X0, (ka, kc), (ga, gc), (ya, yc), (da, dc)⟩ 9 _ OX5.out.xr (Nat.le_trans gl.1 (by decide)) (Nat.le_trans gl.2.1 (by decide)) (Nat.le_trans gl.2.2.1 (by decide)) (Nat.le_trans gl.2.2.2 (by decide))
          try dsimp only at kT
          rw [hy0] at kT
          dsimp only [xv] at kT
          obtain ⟨e0, e1, e2, e3, e4, e5, e6, e7, e8, e9, e10⟩ := cells11 PB5.out
          clear hk hP0 hA0 hy0 gl hokX
          go_wp2_with fail
          refine kT.mono ?_
          rintro e w6 ⟨⟨⟨ka2, kc2⟩, ⟨ga2, gc2⟩, ⟨ya2, yc2⟩, ⟨da2, dc2⟩, rfl, O6⟩, hbt⟩
          have P6 := (hbt.block _ (at_ltE PB5.out)).trans PB5.out
          have hb6 := HB5.out.trans (hbt.mono HB5.out.size)
          obtain ⟨e0, e1, e2, e3, e4, e5, e6, e7, e8, e9, e10⟩ := cells11 P6
          obtain ⟨f0, f1, f2, f3, f4, f5, f6, f7, f8, f9, f10⟩ := f_cells11 P6
          have P7 := set11_block P6 (.int .i64 y0.id.1) (.int .u64 (y0.id.2 : Int)) (.int .i64 y0.kind) (.slice ka2 y0.keys.length kc2) (.int .u64 (y0.token : Int)) (.int .i64 y0.ttl) (.slice ga2 y0.groups.length gc2) (.int .i64 y0.state) (.slice ya2 y0.yes.length yc2) (.slice da2 y0.done.length dc2) (.int .i64 y0.code)
          have hb7 := set11_below (.int .i64 y0.id.1) (.int .u64 (y0.id.2 : Int)) (.int .i64 y0.kind) (.slice ka2 y0.keys.length kc2) (.int .u64 (y0.token : Int)) (.int .i64 y0.ttl) (.slice ga2 y0.groups.length gc2) (.int .i64 y0.state) (.slice ya2 y0.yes.length yc2) (.slice da2 y0.done.length dc2) (.int .i64 y0.code) (g := w4.heap.size) hb6 hNB.out
          have O7 := XO.at_other (O6.mono HB5.out.size) P6 (fun k hk => set11_other (.int .i64 y0.id.1) (.int .u64 (y0.id.2 : Int)) (.int .i64 y0.kind) (.slice ka2 y0.keys.length kc2) (.int .u64 (y0.token : Int)) (.int .i64 y0.ttl) (.slice ga2 y0.groups.length gc2) (.int .i64 y0.state) (.slice ya2 y0.yes.length yc2) (.slice da2 y0.done.length dc2) (.int .i64 y0.code) hk)
          unfold set11 at P7 hb7 O7
          have PBs : Hid _ := P7
          have HBs : Hid _ := hb7
          have OXs : Hid _ := O7
          clear kT hbt P6 hb6 P7 hb7 O7 O6 PB5 OX5 HB5
          go_wp2
          go_loopg [10, 11] 41 (fun g s10 s11 wr => ∃ (n : Nat) (x : Tx) (ka : Option Addr) (kc : Nat) (ga : Option Addr) (gc : Nat) (ya : Option Addr) (yc : Nat) (da : Option Addr) (dc : Nat), n + g = 41 ∧ s10 = .int .i64 0 ∧ s11 = .int .i64 (n : Int) ∧ Hid (wr.heap[w4.heap.size]? = some (.cells #[.int .i64 x.id.1, .int .u64 (x.id.2 : Int), .int .i64 x.kind, .slice ka x.keys.length kc, .int .u64 (x.token : Int), .int .i64 x.ttl, .slice ga x.groups.length gc, .int .i64 x.state, .slice ya x.yes.length yc, .slice da x.done.length dc, .int .i64 x.code] 29 (0, 0))) ∧ Hid (XO w0.heap.size wr ⟨x, (ka, kc), (ga, gc), (ya, yc), (da, dc)⟩) ∧ Hid (Below w0.heap.size w0 wr) ∧ Hid (AskP G b x n ∨ TelP G b x n))
          case atStart => exact ⟨0, y0, ka2, kc2, ga2, gc2, ya2, yc2, da2, dc2, by omega, rfl, rfl, PBs, OXs, HBs, hPs⟩
          case round =>
            clear PBs OXs HBs hPs
            obtain ⟨n, x, ka, kc, ga, gc, ya, yc, da, dc, hng, rfl, rfl, PX, OX, hbl, hP⟩ := hrel
            have HNG : Hid (n + gk = 41) := hng
            obtain ⟨c0, c1, c2, c3, c4, c5, c6, c7, c8, c9, c10⟩ := cells11 PX.out
            rcases hP.out with hA | hT
            · clear hP
              obtain ⟨ha, hnG, ht⟩ := ask_p hA
              have hok' := hA.1
              have hst : x.state = 1 := hA.2.2.1
              have hst1 : (x.state != 4) = true := by rw [hst]; decide
              have hgG := HGL.out
              have gl : Hid _ := ok_lens hok'
              have kAsk : Hid (∀ W, XR W ⟨x, (ka, kc), (ga, gc), (ya, yc), (da, dc)⟩ → _) := fun W h => ask_of ⟨x, (ka, kc), (ga, gc), (ya, yc), (da, dc)⟩ W h (Nat.le_trans gl.out.1 (by decide)) (Nat.le_trans gl.out.2.1 (by decide)) (Nat.le_trans gl.out.2.2.1 (by decide)) (Nat.le_trans gl.out.2.2.2 (by decide))
              have kTel : Hid (∀ W, XR W ⟨x, (ka, kc), (ga, gc), (ya, yc), (da, dc)⟩ → _) := fun W h => tell_of ⟨x, (ka, kc), (ga, gc), (ya, yc), (da, dc)⟩ W h (Nat.le_trans gl.out.1 (by decide)) (Nat.le_trans gl.out.2.1 (by decide)) (Nat.le_trans gl.out.2.2.1 (by decide)) (Nat.le_trans gl.out.2.2.2 (by decide))
              try dsimp only [xv] at kAsk kTel
              have hn40 : (n : Int) < 40 := by omega
              have hn40d : decide ((n : Int) < 40) = true := decide_eq_true hn40
              have hn40H : Hid ((n : Int) < 40) := hn40
              rw [ha] at kAsk
              rw [ht] at kTel
              obtain ⟨g, hgx⟩ : ∃ g, G[n]? = some g := ⟨_, List.getElem?_eq_getElem hnG⟩
              have hAL : (G.drop n)[0]? = some g := by rw [List.getElem?_drop]; simpa using hgx
              have hg12 : 1 ≤ g ∧ g ≤ 16 := grp_mem (ok_iff.1 hok').2.2.2.2.1 (by rw [hA.2.1]; exact List.mem_of_getElem? hgx)
              have hAl : (0 : Int) < ((G.drop n).length : Int) := by have := (List.getElem?_eq_some_iff.1 hAL).1; omega
              generalize G.drop n = AL at *
              have hAld : decide ((0 : Int) < (AL.length : Int)) = true := decide_eq_true hAl
              replace hA : Hid (AskP G b x n) := hA
              replace hgx : Hid (G[n]? = some g) := hgx
              replace hAL : Hid (AL[0]? = some g) := hAL
              replace hst : Hid (x.state = 1) := hst
              replace hg12 : Hid (1 ≤ g ∧ g ≤ 16) := hg12
              clear ha ht hok' hgG hnG hng
              obtain ⟨wd, hwd⟩ : ∃ W, wr.drew = W := ⟨_, rfl⟩
              have hbd : Below w0.heap.size w0 wd := by rw [← hwd]; exact hbl.out.drew
              have PD : wd.heap[w4.heap.size]? = some (.cells #[.int .i64 x.id.1, .int .u64 (x.id.2 : Int), .int .i64 x.kind, .slice ka x.keys.length kc, .int .u64 (x.token : Int), .int .i64 x.ttl, .slice ga x.groups.length gc, .int .i64 x.state, .slice ya x.yes.length yc, .slice da x.done.length dc, .int .i64 x.code] 29 (0, 0)) := by rw [← hwd]; exact PX.out
              have OD : XO w0.heap.size wd ⟨x, (ka, kc), (ga, gc), (ya, yc), (da, dc)⟩ := by rw [← hwd]; exact XO.below OX.out ((Below.refl _ wr).drew)
              have cl : Hid (∀ W, Below wd.heap.size wd W → W.cell? ⟨w4.heap.size, 0, none⟩ = some (.int .i64 x.id.1) ∧ W.cell? ⟨w4.heap.size, 1, none⟩ = some (.int .u64 (x.id.2 : Int)) ∧ W.cell? ⟨w4.heap.size, 2, none⟩ = some (.int .i64 x.kind) ∧ W.cell? ⟨w4.heap.size, 3, none⟩ = some (.slice ka x.keys.length kc) ∧ W.cell? ⟨w4.heap.size, 4, none⟩ = some (.int .u64 (x.token : Int)) ∧ W.cell? ⟨w4.heap.size, 5, none⟩ = some (.int .i64 x.ttl) ∧ W.cell? ⟨w4.heap.size, 6, none⟩ = some (.slice ga x.groups.length gc) ∧ W.cell? ⟨w4.heap.size, 7, none⟩ = some (.int .i64 x.state) ∧ W.cell? ⟨w4.heap.size, 8, none⟩ = some (.slice ya x.yes.length yc) ∧ W.cell? ⟨w4.heap.size, 9, none⟩ = some (.slice da x.done.length dc) ∧ W.cell? ⟨w4.heap.size, 10, none⟩ = some (.int .i64 x.code)) := fun W hW => cells11 ((hW.block _ (at_ltE PD)).trans PD)
              have hy0 : Below wd.heap.size wd wd := Below.refl _ _
              have yS0 : (fun W : World => (W.cell? ⟨w4.heap.size, 0, none⟩ = some (.int .i64 x.id.1) ∧ W.cell? ⟨w4.heap.size, 1, none⟩ = some (.int .u64 (x.id.2 : Int)) ∧ W.cell? ⟨w4.heap.size, 2, none⟩ = some (.int .i64 x.kind) ∧ W.cell? ⟨w4.heap.size, 3, none⟩ = some (.slice ka x.keys.length kc) ∧ W.cell? ⟨w4.heap.size, 4, none⟩ = some (.int .u64 (x.token : Int)) ∧ W.cell? ⟨w4.heap.size, 5, none⟩ = some (.int .i64 x.ttl) ∧ W.cell? ⟨w4.heap.size, 6, none⟩ = some (.slice ga x.groups.length gc) ∧ W.cell? ⟨w4.heap.size, 7, none⟩ = some (.int .i64 x.state) ∧ W.cell? ⟨w4.heap.size, 8, none⟩ = some (.slice ya x.yes.length yc) ∧ W.cell? ⟨w4.heap.size, 9, none⟩ = some (.slice da x.done.length dc) ∧ W.cell? ⟨w4.heap.size, 10, none⟩ = some (.int .i64 x.code)) ∧ Below wd.heap.size wd W) wd := ⟨cl.out _ hy0, hy0⟩
              have hwdH : Hid (wr.drew = wd) := hwd
              replace PD : Hid (wd.heap[w4.heap.size]? = some (.cells #[.int .i64 x.id.1, .int .u64 (x.id.2 : Int), .int .i64 x.kind, .slice ka x.keys.length kc, .int .u64 (x.token : Int), .int .i64 x.ttl, .slice ga x.groups.length gc, .int .i64 x.state, .slice ya x.yes.length yc, .slice da x.done.length dc, .int .i64 x.code] 29 (0, 0))) := PD
              replace OD : Hid (XO w0.heap.size wd ⟨x, (ka, kc), (ga, gc), (ya, yc), (da, dc)⟩) := OD
              replace hbd : Hid (Below w0.heap.size w0 wd) := hbd
              clear hwd PX OX hbl
              go_wp2_with fail
              refine wp_region_L (fun W : World => (W.cell? ⟨w4.heap.size, 0, none⟩ = some (.int .i64 x.id.1) ∧ W.cell? ⟨w4.heap.size, 1, none⟩ = some (.int .u64 (x.id.2 : Int)) ∧ W.cell? ⟨w4.heap.size, 2, none⟩ = some (.int .i64 x.kind) ∧ W.cell? ⟨w4.heap.size, 3, none⟩ = some (.slice ka x.keys.length kc) ∧ W.cell? ⟨w4.heap.size, 4, none⟩ = some (.int .u64 (x.token : Int)) ∧ W.cell? ⟨w4.heap.size, 5, none⟩ = some (.int .i64 x.ttl) ∧ W.cell? ⟨w4.heap.size, 6, none⟩ = some (.slice ga x.groups.length gc) ∧ W.cell? ⟨w4.heap.size, 7, none⟩ = some (.int .i64 x.state) ∧ W.cell? ⟨w4.heap.size, 8, none⟩ = some (.slice ya x.yes.length yc) ∧ W.cell? ⟨w4.heap.size, 9, none⟩ = some (.slice da x.done.length dc) ∧ W.cell? ⟨w4.heap.size, 10, none⟩ = some (.int .i64 x.code)) ∧ Below wd.heap.size wd W) [] (by kernel_rfl) ?_
              rw [hwdH.out]
              refine wpAnyL_take 0 rfl (by kernel_rfl) (by kernel_rfl) (by kernel_rfl) (by kernel_rfl) (fun _ _ _ h => h) (by kernel_rfl) (by intro w' hS'; obtain ⟨⟨x0, x1, x2, x3, x4, x5, x6, x7, x8, x9, x10⟩, xb⟩ := hS'; go_simp <;> rfl) yS0 ?_
              try simp only [List.getElem_toArray, List.getElem_cons_succ, List.getElem_cons_zero, Act.put, List.setIfInBounds_toArray, List.set_cons_zero, List.set_cons_succ]
              refine wpAnyL_take 2 rfl (by kernel_rfl) (by kernel_rfl) (by kernel_rfl) (by kernel_rfl) (fun _ _ _ h => h) (by kernel_rfl) (by intro w' hS'; obtain ⟨⟨x0, x1, x2, x3, x4, x5, x6, x7, x8, x9, x10⟩, xb⟩ := hS'; go_simp <;> rfl) yS0 ?_
              try simp only [List.getElem_toArray, List.getElem_cons_succ, List.getElem_cons_zero, Act.put, List.setIfInBounds_toArray, List.set_cons_zero, List.set_cons_succ]
              refine wpAnyL_one 1 (by kernel_rfl) rfl (by kernel_rfl) ?_
              intro K' hK'
              go_simp
              go_at_call 15
              refine (kAsk.out _ (XO.below OD.out hy0).xr).mono ?_
              rintro e wc1 ⟨u0, rfl, Q0, hbc⟩
              obtain ⟨pa, pc, rfl, -⟩ := Q0.1.shape
              have hy1 := hy0.trans (hbc.mono hy0.size)
              have yS1 : (fun W : World => (W.cell? ⟨w4.heap.size, 0, none⟩ = some (.int .i64 x.id.1) ∧ W.cell? ⟨w4.heap.size, 1, none⟩ = some (.int .u64 (x.id.2 : Int)) ∧ W.cell? ⟨w4.heap.size, 2, none⟩ = some (.int .i64 x.kind) ∧ W.cell? ⟨w4.heap.size, 3, none⟩ = some (.slice ka x.keys.length kc) ∧ W.cell? ⟨w4.heap.size, 4, none⟩ = some (.int .u64 (x.token : Int)) ∧ W.cell? ⟨w4.heap.size, 5, none⟩ = some (.int .i64 x.ttl) ∧ W.cell? ⟨w4.heap.size, 6, none⟩ = some (.slice ga x.groups.length gc) ∧ W.cell? ⟨w4.heap.size, 7, none⟩ = some (.int .i64 x.state) ∧ W.cell? ⟨w4.heap.size, 8, none⟩ = some (.slice ya x.yes.length yc) ∧ W.cell? ⟨w4.heap.size, 9, none⟩ = some (.slice da x.done.length dc) ∧ W.cell? ⟨w4.heap.size, 10, none⟩ = some (.int .i64 x.code)) ∧ Below wd.heap.size wd W) wc1 := ⟨cl.out _ hy1, hy1⟩
              have AR1 : Hid (Rd intE wc1 (.slice pa AL.length pc) AL) := Q0.1.rd
              clear hbc Q0 kAsk
              refine hK'.out _ _ (.inr yS1) ?_
              clear hK' K'
              try simp only [List.getElem_toArray, List.getElem_cons_succ, List.getElem_cons_zero, Act.put, List.setIfInBounds_toArray, List.set_cons_zero, List.set_cons_succ]
              refine wpAnyL_one 3 (by kernel_rfl) rfl (by kernel_rfl) ?_
              intro K' hK'
              go_simp
              go_at_call 17
              refine (kTel.out _ (XO.below OD.out hy1).xr).mono ?_
              rintro e wc2 ⟨u1, rfl, Q1, hbc⟩
              obtain ⟨qa, qc, rfl, -⟩ := Q1.1.shape
              have hy2 := hy1.trans (hbc.mono hy1.size)
              have yS2 : (fun W : World => (W.cell? ⟨w4.heap.size, 0, none⟩ = some (.int .i64 x.id.1) ∧ W.cell? ⟨w4.heap.size, 1, none⟩ = some (.int .u64 (x.id.2 : Int)) ∧ W.cell? ⟨w4.heap.size, 2, none⟩ = some (.int .i64 x.kind) ∧ W.cell? ⟨w4.heap.size, 3, none⟩ = some (.slice ka x.keys.length kc) ∧ W.cell? ⟨w4.heap.size, 4, none⟩ = some (.int .u64 (x.token : Int)) ∧ W.cell? ⟨w4.heap.size, 5, none⟩ = some (.int .i64 x.ttl) ∧ W.cell? ⟨w4.heap.size, 6, none⟩ = some (.slice ga x.groups.length gc) ∧ W.cell? ⟨w4.heap.size, 7, none⟩ = some (.int .i64 x.state) ∧ W.cell? ⟨w4.heap.size, 8, none⟩ = some (.slice ya x.yes.length yc) ∧ W.cell? ⟨w4.heap.size, 9, none⟩ = some (.slice da x.done.length dc) ∧ W.cell? ⟨w4.heap.size, 10, none⟩ = some (.int .i64 x.code)) ∧ Below wd.heap.size wd W) wc2 := ⟨cl.out _ hy2, hy2⟩
              have AR2 : Hid (Rd intE wc2 (.slice pa AL.length pc) AL) := Rd.below AR1.out hbc
              have AT2 : Hid (Rd intE wc2 (.slice qa ([] : List Int).length qc) ([] : List Int)) := Q1.1.rd
              clear hbc Q1 kTel
              refine hK'.out _ _ (.inr yS2) ?_
              clear hK' K'
              try simp only [List.getElem_toArray, List.getElem_cons_succ, List.getElem_cons_zero, Act.put, List.setIfInBounds_toArray, List.set_cons_zero, List.set_cons_succ]
              refine wpAnyL_take 4 rfl (by kernel_rfl) (by kernel_rfl) (by kernel_rfl) (by kernel_rfl) (fun _ _ _ h => h) (by kernel_rfl) (by intro w' hS'; obtain ⟨⟨x0, x1, x2, x3, x4, x5, x6, x7, x8, x9, x10⟩, xb⟩ := hS'; go_simp <;> rfl) yS2 ?_
              try simp only [List.getElem_toArray, List.getElem_cons_succ, List.getElem_cons_zero, Act.put, List.setIfInBounds_toArray, List.set_cons_zero, List.set_cons_succ]
              refine wpAnyL_take 5 rfl (by kernel_rfl) (by kernel_rfl) (by kernel_rfl) (by kernel_rfl) (fun _ _ _ h => h) (by kernel_rfl) (by intro w' hS'; obtain ⟨⟨x0, x1, x2, x3, x4, x5, x6, x7, x8, x9, x10⟩, xb⟩ := hS'; go_simp <;> rfl) yS2 ?_
              try simp only [List.getElem_toArray, List.getElem_cons_succ, List.getElem_cons_zero, Act.put, List.setIfInBounds_toArray, List.set_cons_zero, List.set_cons_succ]
              refine wpAnyL_done (by kernel_rfl) (NoPanic.normal ?_) _
              have hb2 : Below w0.heap.size w0 wc2 := hbd.out.trans (hy2.mono hbd.out.size)
              have P2 := (hy2.block _ (at_ltE PD.out)).trans PD.out
              have O2 := XO.below OD.out hy2
              obtain ⟨-, -, -, a0, a1⟩ := HI.out _ hb2
              replace P2 : Hid (wc2.heap[w4.heap.size]? = some (.cells #[.int .i64 x.id.1, .int .u64 (x.id.2 : Int), .int .i64 x.kind, .slice ka x.keys.length kc, .int .u64 (x.token : Int), .int .i64 x.ttl, .slice ga x.groups.length gc, .int .i64 x.state, .slice ya x.yes.length yc, .slice da x.done.length dc, .int .i64 x.code] 29 (0, 0))) := P2
              replace O2 : Hid (XO w0.heap.size wc2 ⟨x, (ka, kc), (ga, gc), (ya, yc), (da, dc)⟩) := O2
              replace hb2 : Hid (Below w0.heap.size w0 wc2) := hb2
              obtain ⟨bb, off, rfl, hel⟩ := rdi_at AR2.out hAL.out
              have e0 : Hid (∀ W, Below wc2.heap.size wc2 W → W.cell? ⟨bb, off, none⟩ = some (.int .i64 g)) := fun W hW => hel W hW
              have e00 := e0.out wc2 (Below.refl _ _)
              have hg1 : 1 ≤ g := hg12.out.1
              have hg2 : g ≤ 16 := hg12.out.2
              have j1 : IntKind.i64.wrap (g - 1) = g - 1 := IntWalk.i64_in _ (by omega)
              have j2 : IntKind.u64.wrap (g - 1) = g - 1 := IntWalk.u64_in _ (by omega)
              have hbd2 := bit_int b g
              have hA := hA.out
              have hgx := hgx.out
              clear hel yS0 yS1 yS2 hy0 hy1 hy2 cl PD OD hbd AR1
              cases hbit : bitB b g with
              | false =>
                rw [hbit] at hbd2
                obtain ⟨y, hy, hPy⟩ := ask_yes hA hgx hbit
                replace hPy : Hid (AskP G b y (n + 1) ∨ TelP G b y (n + 1)) := hPy
                have kV : Hid (∀ W, XR W ⟨x, (ka, kc), (ga, gc), (ya, yc), (da, dc)⟩ → _) := fun W h => voted_m ⟨x, (ka, kc), (ga, gc), (ya, yc), (da, dc)⟩ g 0 W h gl.out.1 gl.out.2.1 gl.out.2.2.1 gl.out.2.2.2
                try dsimp only at kV
                rw [hy] at kV
                dsimp only [xv] at kV
                clear hy hbit hA hgx hAL hg12 hst AR2 AT2
                go_wp2
                go_quiet (fail)
                go_wp2
                obtain ⟨wE, hwE⟩ : ∃ W, (wc2.drewN nq).drew = W := ⟨_, rfl⟩
                have hE : Below wc2.heap.size wc2 wE := by rw [← hwE]; exact (below_drewN (Below.refl _ _) nq).drew
                have PE : Hid (wE.heap[w4.heap.size]? = some (.cells #[.int .i64 x.id.1, .int .u64 (x.id.2 : Int), .int .i64 x.kind, .slice ka x.keys.length kc, .int .u64 (x.token : Int), .int .i64 x.ttl, .slice ga x.groups.length gc, .int .i64 x.state, .slice ya x.yes.length yc, .slice da x.done.length dc, .int .i64 x.code] 29 (0, 0))) := (hE.block _ (at_ltE P2.out)).trans P2.out
                have OE : Hid (XO w0.heap.size wE ⟨x, (ka, kc), (ga, gc), (ya, yc), (da, dc)⟩) := XO.below O2.out hE
                have hbE : Hid (Below w0.heap.size w0 wE) := hb2.out.trans (hE.mono hb2.out.size)
                have clE : Hid (∀ W, Below wE.heap.size wE W → (W.cell? ⟨w4.heap.size, 0, none⟩ = some (.int .i64 x.id.1) ∧ W.cell? ⟨w4.heap.size, 1, none⟩ = some (.int .u64 (x.id.2 : Int)) ∧ W.cell? ⟨w4.heap.size, 2, none⟩ = some (.int .i64 x.kind) ∧ W.cell? ⟨w4.heap.size, 3, none⟩ = some (.slice ka x.keys.length kc) ∧ W.cell? ⟨w4.heap.size, 4, none⟩ = some (.int .u64 (x.token : Int)) ∧ W.cell? ⟨w4.heap.size, 5, none⟩ = some (.int .i64 x.ttl) ∧ W.cell? ⟨w4.heap.size, 6, none⟩ = some (.slice ga x.groups.length gc) ∧ W.cell? ⟨w4.heap.size, 7, none⟩ = some (.int .i64 x.state) ∧ W.cell? ⟨w4.heap.size, 8, none⟩ = some (.slice ya x.yes.length yc) ∧ W.cell? ⟨w4.heap.size, 9, none⟩ = some (.slice da x.done.length dc) ∧ W.cell? ⟨w4.heap.size, 10, none⟩ = some (.int .i64 x.code)) ∧ W.cell? ⟨bb, off, none⟩ = some (.int .i64 g)) := fun W hW => ⟨cells11 ((hW.block _ (at_ltE PE.out)).trans PE.out), e0.out W (hE.trans (hW.mono hE.size))⟩
                have y0 : (fun W : World => ((W.cell? ⟨w4.heap.size, 0, none⟩ = some (.int .i64 x.id.1) ∧ W.cell? ⟨w4.heap.size, 1, none⟩ = some (.int .u64 (x.id.2 : Int)) ∧ W.cell? ⟨w4.heap.size, 2, none⟩ = some (.int .i64 x.kind) ∧ W.cell? ⟨w4.heap.size, 3, none⟩ = some (.slice ka x.keys.length kc) ∧ W.cell? ⟨w4.heap.size, 4, none⟩ = some (.int .u64 (x.token : Int)) ∧ W.cell? ⟨w4.heap.size, 5, none⟩ = some (.int .i64 x.ttl) ∧ W.cell? ⟨w4.heap.size, 6, none⟩ = some (.slice ga x.groups.length gc) ∧ W.cell? ⟨w4.heap.size, 7, none⟩ = some (.int .i64 x.state) ∧ W.cell? ⟨w4.heap.size, 8, none⟩ = some (.slice ya x.yes.length yc) ∧ W.cell? ⟨w4.heap.size, 9, none⟩ = some (.slice da x.done.length dc) ∧ W.cell? ⟨w4.heap.size, 10, none⟩ = some (.int .i64 x.code)) ∧ W.cell? ⟨bb, off, none⟩ = some (.int .i64 g)) ∧ Below wE.heap.size wE W) wE := ⟨clE.out _ (Below.refl _ _), Below.refl _ _⟩
                clear hE P2 O2 hb2
                refine wp_region_L (fun W : World => ((W.cell? ⟨w4.heap.size, 0, none⟩ = some (.int .i64 x.id.1) ∧ W.cell? ⟨w4.heap.size, 1, none⟩ = some (.int .u64 (x.id.2 : Int)) ∧ W.cell? ⟨w4.heap.size, 2, none⟩ = some (.int .i64 x.kind) ∧ W.cell? ⟨w4.heap.size, 3, none⟩ = some (.slice ka x.keys.length kc) ∧ W.cell? ⟨w4.heap.size, 4, none⟩ = some (.int .u64 (x.token : Int)) ∧ W.cell? ⟨w4.heap.size, 5, none⟩ = some (.int .i64 x.ttl) ∧ W.cell? ⟨w4.heap.size, 6, none⟩ = some (.slice ga x.groups.length gc) ∧ W.cell? ⟨w4.heap.size, 7, none⟩ = some (.int .i64 x.state) ∧ W.cell? ⟨w4.heap.size, 8, none⟩ = some (.slice ya x.yes.length yc) ∧ W.cell? ⟨w4.heap.size, 9, none⟩ = some (.slice da x.done.length dc) ∧ W.cell? ⟨w4.heap.size, 10, none⟩ = some (.int .i64 x.code)) ∧ W.cell? ⟨bb, off, none⟩ = some (.int .i64 g)) ∧ Below wE.heap.size wE W) [8, 9, 10] (by kernel_rfl) ?_
                rw [hwE]
                clear hwE
                refine wpAnyL_takeU 0 [0, 5, 6, 7] rfl (by kernel_rfl) (by kernel_rfl) (by kernel_rfl) (by kernel_rfl) (fun _ _ _ h => h) (by kernel_rfl) (by intro w' hS'; obtain ⟨⟨⟨x0, x1, x2, x3, x4, x5, x6, x7, x8, x9, x10⟩, xe⟩, xb⟩ := hS'; go_simp <;> rfl) y0 ?_
                try simp only [List.getElem_toArray, List.getElem_cons_succ, List.getElem_cons_zero, Act.put, List.setIfInBounds_toArray, List.set_cons_zero, List.set_cons_succ]
                refine wpAnyL_takeU 1 [1, 2, 3, 5, 6, 7] rfl (by kernel_rfl) (by kernel_rfl) (by kernel_rfl) (by kernel_rfl) (fun _ _ _ h => h) (by kernel_rfl) (by intro w' hS'; obtain ⟨⟨⟨x0, x1, x2, x3, x4, x5, x6, x7, x8, x9, x10⟩, xe⟩, xb⟩ := hS'; go_simp <;> rfl) y0 ?_
                try simp only [List.getElem_toArray, List.getElem_cons_succ, List.getElem_cons_zero, Act.put, List.setIfInBounds_toArray, List.set_cons_zero, List.set_cons_succ]
                refine wpAnyL_takeU 2 [2, 3, 5, 6, 7] rfl (by kernel_rfl) (by kernel_rfl) (by kernel_rfl) (by kernel_rfl) (fun _ _ _ h => h) (by kernel_rfl) (by intro w' hS'; obtain ⟨⟨⟨x0, x1, x2, x3, x4, x5, x6, x7, x8, x9, x10⟩, xe⟩, xb⟩ := hS'; go_simp <;> rfl) y0 ?_
                try simp only [List.getElem_toArray, List.getElem_cons_succ, List.getElem_cons_zero, Act.put, List.setIfInBounds_toArray, List.set_cons_zero, List.set_cons_succ]
                refine wpAnyL_takeU 3 [3, 5, 6, 7] rfl (by kernel_rfl) (by kernel_rfl) (by kernel_rfl) (by kernel_rfl) (fun _ _ _ h => h) (by kernel_rfl) (by intro w' hS'; obtain ⟨⟨⟨x0, x1, x2, x3, x4, x5, x6, x7, x8, x9, x10⟩, xe⟩, xb⟩ := hS'; go_simp <;> rfl) y0 ?_
                try simp only [List.getElem_toArray, List.getElem_cons_succ, List.getElem_cons_zero, Act.put, List.setIfInBounds_toArray, List.set_cons_zero, List.set_cons_succ]
                refine wpAnyL_takeU 4 [4, 5, 6, 7] rfl (by kernel_rfl) (by kernel_rfl) (by kernel_rfl) (by kernel_rfl) (fun _ _ _ h => h) (by kernel_rfl) (by intro w' hS'; obtain ⟨⟨⟨x0, x1, x2, x3, x4, x5, x6, x7, x8, x9, x10⟩, xe⟩, xb⟩ := hS'; go_simp <;> rfl) y0 ?_
                try simp only [List.getElem_toArray, List.getElem_cons_succ, List.getElem_cons_zero, Act.put, List.setIfInBounds_toArray, List.set_cons_zero, List.set_cons_succ]
                refine wpAnyL_one 5 (by kernel_rfl) rfl (by kernel_rfl) ?_
                intro K' hK'
                go_simp
                go_at_call 26
                refine (kV.out wE OE.out.xr).mono ?_
                rintro e wv ⟨⟨⟨ka1, kc1⟩, ⟨ga1, gc1⟩, ⟨ya1, yc1⟩, ⟨da1, dc1⟩, rfl, OY⟩, hbc⟩
                have y1 : (fun W : World => ((W.cell? ⟨w4.heap.size, 0, none⟩ = some (.int .i64 x.id.1) ∧ W.cell? ⟨w4.heap.size, 1, none⟩ = some (.int .u64 (x.id.2 : Int)) ∧ W.cell? ⟨w4.heap.size, 2, none⟩ = some (.int .i64 x.kind) ∧ W.cell? ⟨w4.heap.size, 3, none⟩ = some (.slice ka x.keys.length kc) ∧ W.cell? ⟨w4.heap.size, 4, none⟩ = some (.int .u64 (x.token : Int)) ∧ W.cell? ⟨w4.heap.size, 5, none⟩ = some (.int .i64 x.ttl) ∧ W.cell? ⟨w4.heap.size, 6, none⟩ = some (.slice ga x.groups.length gc) ∧ W.cell? ⟨w4.heap.size, 7, none⟩ = some (.int .i64 x.state) ∧ W.cell? ⟨w4.heap.size, 8, none⟩ = some (.slice ya x.yes.length yc) ∧ W.cell? ⟨w4.heap.size, 9, none⟩ = some (.slice da x.done.length dc) ∧ W.cell? ⟨w4.heap.size, 10, none⟩ = some (.int .i64 x.code)) ∧ W.cell? ⟨bb, off, none⟩ = some (.int .i64 g)) ∧ Below wE.heap.size wE W) wv := ⟨clE.out _ hbc, hbc⟩
                have PV : wv.heap[w4.heap.size]? = some (.cells #[.int .i64 x.id.1, .int .u64 (x.id.2 : Int), .int .i64 x.kind, .slice ka x.keys.length kc, .int .u64 (x.token : Int), .int .i64 x.ttl, .slice ga x.groups.length gc, .int .i64 x.state, .slice ya x.yes.length yc, .slice da x.done.length dc, .int .i64 x.code] 29 (0, 0)) := (hbc.block _ (at_ltE PE.out)).trans PE.out
                have hbV := hbE.out.trans (hbc.mono hbE.out.size)
                have PN : Hid ((wv.setRow w4.heap.size #[.int .i64 y.id.1, .int .u64 (y.id.2 : Int), .int .i64 y.kind, .slice ka1 y.keys.length kc1, .int .u64 (y.token : Int), .int .i64 y.ttl, .slice ga1 y.groups.length gc1, .int .i64 y.state, .slice ya1 y.yes.length yc1, .slice da1 y.done.length dc1, .int .i64 y.code]).heap[w4.heap.size]? = some (.cells #[.int .i64 y.id.1, .int .u64 (y.id.2 : Int), .int .i64 y.kind, .slice ka1 y.keys.length kc1, .int .u64 (y.token : Int), .int .i64 y.ttl, .slice ga1 y.groups.length gc1, .int .i64 y.state, .slice ya1 y.yes.length yc1, .slice da1 y.done.length dc1, .int .i64 y.code] 29 (0, 0))) := setRow_heap _ _ _ _ _ _ PV
                have hbN : Hid (Below w0.heap.size w0 (wv.setRow w4.heap.size #[.int .i64 y.id.1, .int .u64 (y.id.2 : Int), .int .i64 y.kind, .slice ka1 y.keys.length kc1, .int .u64 (y.token : Int), .int .i64 y.ttl, .slice ga1 y.groups.length gc1, .int .i64 y.state, .slice ya1 y.yes.length yc1, .slice da1 y.done.length dc1, .int .i64 y.code])) := below_rowE hbV hNB.out _
                have ON : Hid (XO w0.heap.size (wv.setRow w4.heap.size #[.int .i64 y.id.1, .int .u64 (y.id.2 : Int), .int .i64 y.kind, .slice ka1 y.keys.length kc1, .int .u64 (y.token : Int), .int .i64 y.ttl, .slice ga1 y.groups.length gc1, .int .i64 y.state, .slice ya1 y.yes.length yc1, .slice da1 y.done.length dc1, .int .i64 y.code]) ⟨y, (ka1, kc1), (ga1, gc1), (ya1, yc1), (da1, dc1)⟩) := XO.at_other (OY.mono hbE.out.size) PV (fun k hk => setRow_other _ _ _ _ hk)
                clear hbc OY hbV
                refine hK'.out _ _ (.inr y1) ?_
                clear hK' K'
                try simp only [List.getElem_toArray, List.getElem_cons_succ, List.getElem_cons_zero, Act.put, List.setIfInBounds_toArray, List.set_cons_zero, List.set_cons_succ]
                refine wpAnyL_takeU 6 [6, 7] rfl (by kernel_rfl) (by kernel_rfl) (by kernel_rfl) (by kernel_rfl) (fun _ _ _ h => h) (by kernel_rfl) (by intro w' hS'; go_simp <;> rfl) y1 ?_
                try simp only [List.getElem_toArray, List.getElem_cons_succ, List.getElem_cons_zero, Act.put, List.setIfInBounds_toArray, List.set_cons_zero, List.set_cons_succ]
                refine wpAnyL_two 7 8 (by kernel_rfl) rfl rfl (by kernel_rfl) (by kernel_rfl) ?_ ?_
                · intro K' hK'
                  go_simp
                  refine hK'.out _ _ (.inr y1) ?_
                  clear hK' K'
                  try simp only [List.getElem_toArray, List.getElem_cons_succ, List.getElem_cons_zero, Act.put, List.setIfInBounds_toArray, List.set_cons_zero, List.set_cons_succ]
                  refine wpAnyL_two 8 9 (by kernel_rfl) rfl rfl (by kernel_rfl) (by kernel_rfl) ?_ ?_
                  · intro K' hK'
                    go_simp
                    refine hK'.out _ _ (.inl (by decide)) ?_
                    clear hK' K'
                    try simp only [List.getElem_toArray, List.getElem_cons_succ, List.getElem_cons_zero, Act.put, List.setIfInBounds_toArray, List.set_cons_zero, List.set_cons_succ]
                    refine wpAnyL_one 9 (by kernel_rfl) rfl (by kernel_rfl) ?_
                    intro K' hK'
                    refine wp_store_row 29 _ _ rfl (w4.heap.size) #[.int .i64 y.id.1, .int .u64 (y.id.2 : Int), .int .i64 y.kind, .slice ka1 y.keys.length kc1, .int .u64 (y.token : Int), .int .i64 y.ttl, .slice ga1 y.groups.length gc1, .int .i64 y.state, .slice ya1 y.yes.length yc1, .slice da1 y.done.length dc1, .int .i64 y.code] rfl rfl _ _ PV (by kernel_rfl) rfl (by simp [Value.oneCell']) ?_
                    refine hK'.out _ _ (.inl (by decide)) ?_
                    clear hK' K'
                    try simp only [List.getElem_toArray, List.getElem_cons_succ, List.getElem_cons_zero, Act.put, List.setIfInBounds_toArray, List.set_cons_zero, List.set_cons_succ]
                    refine wpAnyL_one 10 (by kernel_rfl) rfl (by kernel_rfl) ?_
                    intro K' hK'
                    go_simp
                    refine hK'.out _ _ (.inl (by decide)) ?_
                    clear hK' K'
                    try simp only [List.getElem_toArray, List.getElem_cons_succ, List.getElem_cons_zero, Act.put, List.setIfInBounds_toArray, List.set_cons_zero, List.set_cons_succ]
                    refine wpAnyL_done (by kernel_rfl) (NoPanic.normal ?_) _
                    go_wp2
                    go_roundg (gk - 1)
                    case measure => have := HNG.out; have := hn40H.out; omega
                    case rel => exact ⟨n + 1, y, ka1, kc1, ga1, gc1, ya1, yc1, da1, dc1, by have := HNG.out; have := hn40H.out; omega, rfl, by have := hn40H.out; go_num, PN, ON, hbN, hPy⟩
                  · intro K' hK'
                    refine wp_store_row 29 _ _ rfl (w4.heap.size) #[.int .i64 y.id.1, .int .u64 (y.id.2 : Int), .int .i64 y.kind, .slice ka1 y.keys.length kc1, .int .u64 (y.token : Int), .int .i64 y.ttl, .slice ga1 y.groups.length gc1, .int .i64 y.state, .slice ya1 y.yes.length yc1, .slice da1 y.done.length dc1, .int .i64 y.code] rfl rfl _ _ PV (by kernel_rfl) rfl (by simp [Value.oneCell']) ?_
                    refine hK'.out _ _ (.inl (by decide)) ?_
                    clear hK' K'
                    try simp only [List.getElem_toArray, List.getElem_cons_succ, List.getElem_cons_zero, Act.put, List.setIfInBounds_toArray, List.set_cons_zero, List.set_cons_succ]
                    refine wpAnyL_one 8 (by kernel_rfl) rfl (by kernel_rfl) ?_
                    intro K' hK'
                    go_simp
                    refine hK'.out _ _ (.inl (by decide)) ?_
                    clear hK' K'
                    try simp only [List.getElem_toArray, List.getElem_cons_succ, List.getElem_cons_zero, Act.put, List.setIfInBounds_toArray, List.set_cons_zero, List.set_cons_succ]
                    refine wpAnyL_one 10 (by kernel_rfl) rfl (by kernel_rfl) ?_
                    intro K' hK'
                    go_simp
                    refine hK'.out _ _ (.inl (by decide)) ?_
                    clear hK' K'
                    try simp only [List.getElem_toArray, List.getElem_cons_succ, List.getElem_cons_zero, Act.put, List.setIfInBounds_toArray, List.set_cons_zero, List.set_cons_succ]
                    refine wpAnyL_done (by kernel_rfl) (NoPanic.normal ?_) _
                    go_wp2
                    go_roundg (gk - 1)
                    case measure => have := HNG.out; have := hn40H.out; omega
                    case rel => exact ⟨n + 1, y, ka1, kc1, ga1, gc1, ya1, yc1, da1, dc1, by have := HNG.out; have := hn40H.out; omega, rfl, by have := hn40H.out; go_num, PN, ON, hbN, hPy⟩
                · intro K' hK'
                  go_simp
                  refine hK'.out _ _ (.inl (by decide)) ?_
                  clear hK' K'
                  try simp only [List.getElem_toArray, List.getElem_cons_succ, List.getElem_cons_zero, Act.put, List.setIfInBounds_toArray, List.set_cons_zero, List.set_cons_succ]
                  refine wpAnyL_one 7 (by kernel_rfl) rfl (by kernel_rfl) ?_
                  intro K' hK'
                  go_simp
                  refine hK'.out _ _ (.inr y1) ?_
                  clear hK' K'
                  try simp only [List.getElem_toArray, List.getElem_cons_succ, List.getElem_cons_zero, Act.put, List.setIfInBounds_toArray, List.set_cons_zero, List.set_cons_succ]
                  refine wpAnyL_one 9 (by kernel_rfl) rfl (by kernel_rfl) ?_
                  intro K' hK'
                  refine wp_store_row 29 _ _ rfl (w4.heap.size) #[.int .i64 y.id.1, .int .u64 (y.id.2 : Int), .int .i64 y.kind, .slice ka1 y.keys.length kc1, .int .u64 (y.token : Int), .int .i64 y.ttl, .slice ga1 y.groups.length gc1, .int .i64 y.state, .slice ya1 y.yes.length yc1, .slice da1 y.done.length dc1, .int .i64 y.code] rfl rfl _ _ PV (by kernel_rfl) rfl (by simp [Value.oneCell']) ?_
                  refine hK'.out _ _ (.inl (by decide)) ?_
                  clear hK' K'
                  try simp only [List.getElem_toArray, List.getElem_cons_succ, List.getElem_cons_zero, Act.put, List.setIfInBounds_toArray, List.set_cons_zero, List.set_cons_succ]
                  refine wpAnyL_one 10 (by kernel_rfl) rfl (by kernel_rfl) ?_
                  intro K' hK'
                  go_simp
                  refine hK'.out _ _ (.inl (by decide)) ?_
                  clear hK' K'
                  try simp only [List.getElem_toArray, List.getElem_cons_succ, List.getElem_cons_zero, Act.put, List.setIfInBounds_toArray, List.set_cons_zero, List.set_cons_succ]
                  refine wpAnyL_done (by kernel_rfl) (NoPanic.normal ?_) _
                  go_wp2
                  go_roundg (gk - 1)
                  case measure => have := HNG.out; have := hn40H.out; omega
                  case rel => exact ⟨n + 1, y, ka1, kc1, ga1, gc1, ya1, yc1, da1, dc1, by have := HNG.out; have := hn40H.out; omega, rfl, by have := hn40H.out; go_num, PN, ON, hbN, hPy⟩
              | true =>
                rw [hbit] at hbd2
                obtain ⟨y, hy, hPy⟩ := ask_no hA hgx hbit
                replace hPy : Hid (AskP G b y (n + 1) ∨ TelP G b y (n + 1)) := hPy
                have kV : Hid (∀ W, XR W ⟨x, (ka, kc), (ga, gc), (ya, yc), (da, dc)⟩ → _) := fun W h => voted_m ⟨x, (ka, kc), (ga, gc), (ya, yc), (da, dc)⟩ g 8 W h gl.out.1 gl.out.2.1 gl.out.2.2.1 gl.out.2.2.2
                try dsimp only at kV
                rw [hy] at kV
                dsimp only [xv] at kV
                clear hy hbit hA hgx hAL hg12 hst AR2 AT2
                go_wp2
                go_quiet (fail)
                go_wp2
                obtain ⟨wE, hwE⟩ : ∃ W, (wc2.drewN nq).drew = W := ⟨_, rfl⟩
                have hE : Below wc2.heap.size wc2 wE := by rw [← hwE]; exact (below_drewN (Below.refl _ _) nq).drew
                have PE : Hid (wE.heap[w4.heap.size]? = some (.cells #[.int .i64 x.id.1, .int .u64 (x.id.2 : Int), .int .i64 x.kind, .slice ka x.keys.length kc, .int .u64 (x.token : Int), .int .i64 x.ttl, .slice ga x.groups.length gc, .int .i64 x.state, .slice ya x.yes.length yc, .slice da x.done.length dc, .int .i64 x.code] 29 (0, 0))) := (hE.block _ (at_ltE P2.out)).trans P2.out
                have OE : Hid (XO w0.heap.size wE ⟨x, (ka, kc), (ga, gc), (ya, yc), (da, dc)⟩) := XO.below O2.out hE
                have hbE : Hid (Below w0.heap.size w0 wE) := hb2.out.trans (hE.mono hb2.out.size)
                have clE : Hid (∀ W, Below wE.heap.size wE W → (W.cell? ⟨w4.heap.size, 0, none⟩ = some (.int .i64 x.id.1) ∧ W.cell? ⟨w4.heap.size, 1, none⟩ = some (.int .u64 (x.id.2 : Int)) ∧ W.cell? ⟨w4.heap.size, 2, none⟩ = some (.int .i64 x.kind) ∧ W.cell? ⟨w4.heap.size, 3, none⟩ = some (.slice ka x.keys.length kc) ∧ W.cell? ⟨w4.heap.size, 4, none⟩ = some (.int .u64 (x.token : Int)) ∧ W.cell? ⟨w4.heap.size, 5, none⟩ = some (.int .i64 x.ttl) ∧ W.cell? ⟨w4.heap.size, 6, none⟩ = some (.slice ga x.groups.length gc) ∧ W.cell? ⟨w4.heap.size, 7, none⟩ = some (.int .i64 x.state) ∧ W.cell? ⟨w4.heap.size, 8, none⟩ = some (.slice ya x.yes.length yc) ∧ W.cell? ⟨w4.heap.size, 9, none⟩ = some (.slice da x.done.length dc) ∧ W.cell? ⟨w4.heap.size, 10, none⟩ = some (.int .i64 x.code)) ∧ W.cell? ⟨bb, off, none⟩ = some (.int .i64 g)) := fun W hW => ⟨cells11 ((hW.block _ (at_ltE PE.out)).trans PE.out), e0.out W (hE.trans (hW.mono hE.size))⟩
                have y0 : (fun W : World => ((W.cell? ⟨w4.heap.size, 0, none⟩ = some (.int .i64 x.id.1) ∧ W.cell? ⟨w4.heap.size, 1, none⟩ = some (.int .u64 (x.id.2 : Int)) ∧ W.cell? ⟨w4.heap.size, 2, none⟩ = some (.int .i64 x.kind) ∧ W.cell? ⟨w4.heap.size, 3, none⟩ = some (.slice ka x.keys.length kc) ∧ W.cell? ⟨w4.heap.size, 4, none⟩ = some (.int .u64 (x.token : Int)) ∧ W.cell? ⟨w4.heap.size, 5, none⟩ = some (.int .i64 x.ttl) ∧ W.cell? ⟨w4.heap.size, 6, none⟩ = some (.slice ga x.groups.length gc) ∧ W.cell? ⟨w4.heap.size, 7, none⟩ = some (.int .i64 x.state) ∧ W.cell? ⟨w4.heap.size, 8, none⟩ = some (.slice ya x.yes.length yc) ∧ W.cell? ⟨w4.heap.size, 9, none⟩ = some (.slice da x.done.length dc) ∧ W.cell? ⟨w4.heap.size, 10, none⟩ = some (.int .i64 x.code)) ∧ W.cell? ⟨bb, off, none⟩ = some (.int .i64 g)) ∧ Below wE.heap.size wE W) wE := ⟨clE.out _ (Below.refl _ _), Below.refl _ _⟩
                clear hE P2 O2 hb2
                refine wp_region_L (fun W : World => ((W.cell? ⟨w4.heap.size, 0, none⟩ = some (.int .i64 x.id.1) ∧ W.cell? ⟨w4.heap.size, 1, none⟩ = some (.int .u64 (x.id.2 : Int)) ∧ W.cell? ⟨w4.heap.size, 2, none⟩ = some (.int .i64 x.kind) ∧ W.cell? ⟨w4.heap.size, 3, none⟩ = some (.slice ka x.keys.length kc) ∧ W.cell? ⟨w4.heap.size, 4, none⟩ = some (.int .u64 (x.token : Int)) ∧ W.cell? ⟨w4.heap.size, 5, none⟩ = some (.int .i64 x.ttl) ∧ W.cell? ⟨w4.heap.size, 6, none⟩ = some (.slice ga x.groups.length gc) ∧ W.cell? ⟨w4.heap.size, 7, none⟩ = some (.int .i64 x.state) ∧ W.cell? ⟨w4.heap.size, 8, none⟩ = some (.slice ya x.yes.length yc) ∧ W.cell? ⟨w4.heap.size, 9, none⟩ = some (.slice da x.done.length dc) ∧ W.cell? ⟨w4.heap.size, 10, none⟩ = some (.int .i64 x.code)) ∧ W.cell? ⟨bb, off, none⟩ = some (.int .i64 g)) ∧ Below wE.heap.size wE W) [8, 9, 10] (by kernel_rfl) ?_
                rw [hwE]
                clear hwE
                refine wpAnyL_takeU 0 [0, 5, 6, 7] rfl (by kernel_rfl) (by kernel_rfl) (by kernel_rfl) (by kernel_rfl) (fun _ _ _ h => h) (by kernel_rfl) (by intro w' hS'; obtain ⟨⟨⟨x0, x1, x2, x3, x4, x5, x6, x7, x8, x9, x10⟩, xe⟩, xb⟩ := hS'; go_simp <;> rfl) y0 ?_
                try simp only [List.getElem_toArray, List.getElem_cons_succ, List.getElem_cons_zero, Act.put, List.setIfInBounds_toArray, List.set_cons_zero, List.set_cons_succ]
                refine wpAnyL_takeU 1 [1, 2, 3, 5, 6, 7] rfl (by kernel_rfl) (by kernel_rfl) (by kernel_rfl) (by kernel_rfl) (fun _ _ _ h => h) (by kernel_rfl) (by intro w' hS'; obtain ⟨⟨⟨x0, x1, x2, x3, x4, x5, x6, x7, x8, x9, x10⟩, xe⟩, xb⟩ := hS'; go_simp <;> rfl) y0 ?_
                try simp only [List.getElem_toArray, List.getElem_cons_succ, List.getElem_cons_zero, Act.put, List.setIfInBounds_toArray, List.set_cons_zero, List.set_cons_succ]
                refine wpAnyL_takeU 2 [2, 3, 5, 6, 7] rfl (by kernel_rfl) (by kernel_rfl) (by kernel_rfl) (by kernel_rfl) (fun _ _ _ h => h) (by kernel_rfl) (by intro w' hS'; obtain ⟨⟨⟨x0, x1, x2, x3, x4, x5, x6, x7, x8, x9, x10⟩, xe⟩, xb⟩ := hS'; go_simp <;> rfl) y0 ?_
                try simp only [List.getElem_toArray, List.getElem_cons_succ, List.getElem_cons_zero, Act.put, List.setIfInBounds_toArray, List.set_cons_zero, List.set_cons_succ]
                refine wpAnyL_takeU 3 [3, 5, 6, 7] rfl (by kernel_rfl) (by kernel_rfl) (by kernel_rfl) (by kernel_rfl) (fun _ _ _ h => h) (by kernel_rfl) (by intro w' hS'; obtain ⟨⟨⟨x0, x1, x2, x3, x4, x5, x6, x7, x8, x9, x10⟩, xe⟩, xb⟩ := hS'; go_simp <;> rfl) y0 ?_
                try simp only [List.getElem_toArray, List.getElem_cons_succ, List.getElem_cons_zero, Act.put, List.setIfInBounds_toArray, List.set_cons_zero, List.set_cons_succ]
                refine wpAnyL_takeU 4 [4, 5, 6, 7] rfl (by kernel_rfl) (by kernel_rfl) (by kernel_rfl) (by kernel_rfl) (fun _ _ _ h => h) (by kernel_rfl) (by intro w' hS'; obtain ⟨⟨⟨x0, x1, x2, x3, x4, x5, x6, x7, x8, x9, x10⟩, xe⟩, xb⟩ := hS'; go_simp <;> rfl) y0 ?_
                try simp only [List.getElem_toArray, List.getElem_cons_succ, List.getElem_cons_zero, Act.put, List.setIfInBounds_toArray, List.set_cons_zero, List.set_cons_succ]
                refine wpAnyL_one 5 (by kernel_rfl) rfl (by kernel_rfl) ?_
                intro K' hK'
                go_simp
                go_at_call 26
                refine (kV.out wE OE.out.xr).mono ?_
                rintro e wv ⟨⟨⟨ka1, kc1⟩, ⟨ga1, gc1⟩, ⟨ya1, yc1⟩, ⟨da1, dc1⟩, rfl, OY⟩, hbc⟩
                have y1 : (fun W : World => ((W.cell? ⟨w4.heap.size, 0, none⟩ = some (.int .i64 x.id.1) ∧ W.cell? ⟨w4.heap.size, 1, none⟩ = some (.int .u64 (x.id.2 : Int)) ∧ W.cell? ⟨w4.heap.size, 2, none⟩ = some (.int .i64 x.kind) ∧ W.cell? ⟨w4.heap.size, 3, none⟩ = some (.slice ka x.keys.length kc) ∧ W.cell? ⟨w4.heap.size, 4, none⟩ = some (.int .u64 (x.token : Int)) ∧ W.cell? ⟨w4.heap.size, 5, none⟩ = some (.int .i64 x.ttl) ∧ W.cell? ⟨w4.heap.size, 6, none⟩ = some (.slice ga x.groups.length gc) ∧ W.cell? ⟨w4.heap.size, 7, none⟩ = some (.int .i64 x.state) ∧ W.cell? ⟨w4.heap.size, 8, none⟩ = some (.slice ya x.yes.length yc) ∧ W.cell? ⟨w4.heap.size, 9, none⟩ = some (.slice da x.done.length dc) ∧ W.cell? ⟨w4.heap.size, 10, none⟩ = some (.int .i64 x.code)) ∧ W.cell? ⟨bb, off, none⟩ = some (.int .i64 g)) ∧ Below wE.heap.size wE W) wv := ⟨clE.out _ hbc, hbc⟩
                have PV : wv.heap[w4.heap.size]? = some (.cells #[.int .i64 x.id.1, .int .u64 (x.id.2 : Int), .int .i64 x.kind, .slice ka x.keys.length kc, .int .u64 (x.token : Int), .int .i64 x.ttl, .slice ga x.groups.length gc, .int .i64 x.state, .slice ya x.yes.length yc, .slice da x.done.length dc, .int .i64 x.code] 29 (0, 0)) := (hbc.block _ (at_ltE PE.out)).trans PE.out
                have hbV := hbE.out.trans (hbc.mono hbE.out.size)
                have PN : Hid ((wv.setRow w4.heap.size #[.int .i64 y.id.1, .int .u64 (y.id.2 : Int), .int .i64 y.kind, .slice ka1 y.keys.length kc1, .int .u64 (y.token : Int), .int .i64 y.ttl, .slice ga1 y.groups.length gc1, .int .i64 y.state, .slice ya1 y.yes.length yc1, .slice da1 y.done.length dc1, .int .i64 y.code]).heap[w4.heap.size]? = some (.cells #[.int .i64 y.id.1, .int .u64 (y.id.2 : Int), .int .i64 y.kind, .slice ka1 y.keys.length kc1, .int .u64 (y.token : Int), .int .i64 y.ttl, .slice ga1 y.groups.length gc1, .int .i64 y.state, .slice ya1 y.yes.length yc1, .slice da1 y.done.length dc1, .int .i64 y.code] 29 (0, 0))) := setRow_heap _ _ _ _ _ _ PV
                have hbN : Hid (Below w0.heap.size w0 (wv.setRow w4.heap.size #[.int .i64 y.id.1, .int .u64 (y.id.2 : Int), .int .i64 y.kind, .slice ka1 y.keys.length kc1, .int .u64 (y.token : Int), .int .i64 y.ttl, .slice ga1 y.groups.length gc1, .int .i64 y.state, .slice ya1 y.yes.length yc1, .slice da1 y.done.length dc1, .int .i64 y.code])) := below_rowE hbV hNB.out _
                have ON : Hid (XO w0.heap.size (wv.setRow w4.heap.size #[.int .i64 y.id.1, .int .u64 (y.id.2 : Int), .int .i64 y.kind, .slice ka1 y.keys.length kc1, .int .u64 (y.token : Int), .int .i64 y.ttl, .slice ga1 y.groups.length gc1, .int .i64 y.state, .slice ya1 y.yes.length yc1, .slice da1 y.done.length dc1, .int .i64 y.code]) ⟨y, (ka1, kc1), (ga1, gc1), (ya1, yc1), (da1, dc1)⟩) := XO.at_other (OY.mono hbE.out.size) PV (fun k hk => setRow_other _ _ _ _ hk)
                clear hbc OY hbV
                refine hK'.out _ _ (.inr y1) ?_
                clear hK' K'
                try simp only [List.getElem_toArray, List.getElem_cons_succ, List.getElem_cons_zero, Act.put, List.setIfInBounds_toArray, List.set_cons_zero, List.set_cons_succ]
                refine wpAnyL_takeU 6 [6, 7] rfl (by kernel_rfl) (by kernel_rfl) (by kernel_rfl) (by kernel_rfl) (fun _ _ _ h => h) (by kernel_rfl) (by intro w' hS'; go_simp <;> rfl) y1 ?_
                try simp only [List.getElem_toArray, List.getElem_cons_succ, List.getElem_cons_zero, Act.put, List.setIfInBounds_toArray, List.set_cons_zero, List.set_cons_succ]
                refine wpAnyL_two 7 8 (by kernel_rfl) rfl rfl (by kernel_rfl) (by kernel_rfl) ?_ ?_
                · intro K' hK'
                  go_simp
                  refine hK'.out _ _ (.inr y1) ?_
                  clear hK' K'
                  try simp only [List.getElem_toArray, List.getElem_cons_succ, List.getElem_cons_zero, Act.put, List.setIfInBounds_toArray, List.set_cons_zero, List.set_cons_succ]
                  refine wpAnyL_two 8 9 (by kernel_rfl) rfl rfl (by kernel_rfl) (by kernel_rfl) ?_ ?_
                  · intro K' hK'
                    go_simp
                    refine hK'.out _ _ (.inl (by decide)) ?_
                    clear hK' K'
                    try simp only [List.getElem_toArray, List.getElem_cons_succ, List.getElem_cons_zero, Act.put, List.setIfInBounds_toArray, List.set_cons_zero, List.set_cons_succ]
                    refine wpAnyL_one 9 (by kernel_rfl) rfl (by kernel_rfl) ?_
                    intro K' hK'
                    refine wp_store_row 29 _ _ rfl (w4.heap.size) #[.int .i64 y.id.1, .int .u64 (y.id.2 : Int), .int .i64 y.kind, .slice ka1 y.keys.length kc1, .int .u64 (y.token : Int), .int .i64 y.ttl, .slice ga1 y.groups.length gc1, .int .i64 y.state, .slice ya1 y.yes.length yc1, .slice da1 y.done.length dc1, .int .i64 y.code] rfl rfl _ _ PV (by kernel_rfl) rfl (by simp [Value.oneCell']) ?_
                    refine hK'.out _ _ (.inl (by decide)) ?_
                    clear hK' K'
                    try simp only [List.getElem_toArray, List.getElem_cons_succ, List.getElem_cons_zero, Act.put, List.setIfInBounds_toArray, List.set_cons_zero, List.set_cons_succ]
                    refine wpAnyL_one 10 (by kernel_rfl) rfl (by kernel_rfl) ?_
                    intro K' hK'
                    go_simp
                    refine hK'.out _ _ (.inl (by decide)) ?_
                    clear hK' K'
                    try simp only [List.getElem_toArray, List.getElem_cons_succ, List.getElem_cons_zero, Act.put, List.setIfInBounds_toArray, List.set_cons_zero, List.set_cons_succ]
                    refine wpAnyL_done (by kernel_rfl) (NoPanic.normal ?_) _
                    go_wp2
                    go_roundg (gk - 1)
                    case measure => have := HNG.out; have := hn40H.out; omega
                    case rel => exact ⟨n + 1, y, ka1, kc1, ga1, gc1, ya1, yc1, da1, dc1, by have := HNG.out; have := hn40H.out; omega, rfl, by have := hn40H.out; go_num, PN, ON, hbN, hPy⟩
                  · intro K' hK'
                    refine wp_store_row 29 _ _ rfl (w4.heap.size) #[.int .i64 y.id.1, .int .u64 (y.id.2 : Int), .int .i64 y.kind, .slice ka1 y.keys.length kc1, .int .u64 (y.token : Int), .int .i64 y.ttl, .slice ga1 y.groups.length gc1, .int .i64 y.state, .slice ya1 y.yes.length yc1, .slice da1 y.done.length dc1, .int .i64 y.code] rfl rfl _ _ PV (by kernel_rfl) rfl (by simp [Value.oneCell']) ?_
                    refine hK'.out _ _ (.inl (by decide)) ?_
                    clear hK' K'
                    try simp only [List.getElem_toArray, List.getElem_cons_succ, List.getElem_cons_zero, Act.put, List.setIfInBounds_toArray, List.set_cons_zero, List.set_cons_succ]
                    refine wpAnyL_one 8 (by kernel_rfl) rfl (by kernel_rfl) ?_
                    intro K' hK'
                    go_simp
                    refine hK'.out _ _ (.inl (by decide)) ?_
                    clear hK' K'
                    try simp only [List.getElem_toArray, List.getElem_cons_succ, List.getElem_cons_zero, Act.put, List.setIfInBounds_toArray, List.set_cons_zero, List.set_cons_succ]
                    refine wpAnyL_one 10 (by kernel_rfl) rfl (by kernel_rfl) ?_
                    intro K' hK'
                    go_simp
                    refine hK'.out _ _ (.inl (by decide)) ?_
                    clear hK' K'
                    try simp only [List.getElem_toArray, List.getElem_cons_succ, List.getElem_cons_zero, Act.put, List.setIfInBounds_toArray, List.set_cons_zero, List.set_cons_succ]
                    refine wpAnyL_done (by kernel_rfl) (NoPanic.normal ?_) _
                    go_wp2
                    go_roundg (gk - 1)
                    case measure => have := HNG.out; have := hn40H.out; omega
                    case rel => exact ⟨n + 1, y, ka1, kc1, ga1, gc1, ya1, yc1, da1, dc1, by have := HNG.out; have := hn40H.out; omega, rfl, by have := hn40H.out; go_num, PN, ON, hbN, hPy⟩
                · intro K' hK'
                  go_simp
                  refine hK'.out _ _ (.inl (by decide)) ?_
                  clear hK' K'
                  try simp only [List.getElem_toArray, List.getElem_cons_succ, List.getElem_cons_zero, Act.put, List.setIfInBounds_toArray, List.set_cons_zero, List.set_cons_succ]
                  refine wpAnyL_one 7 (by kernel_rfl) rfl (by kernel_rfl) ?_
                  intro K' hK'
                  go_simp
                  refine hK'.out _ _ (.inr y1) ?_
                  clear hK' K'
                  try simp only [List.getElem_toArray, List.getElem_cons_succ, List.getElem_cons_zero, Act.put, List.setIfInBounds_toArray, List.set_cons_zero, List.set_cons_succ]
                  refine wpAnyL_one 9 (by kernel_rfl) rfl (by kernel_rfl) ?_
                  intro K' hK'
                  refine wp_store_row 29 _ _ rfl (w4.heap.size) #[.int .i64 y.id.1, .int .u64 (y.id.2 : Int), .int .i64 y.kind, .slice ka1 y.keys.length kc1, .int .u64 (y.token : Int), .int .i64 y.ttl, .slice ga1 y.groups.length gc1, .int .i64 y.state, .slice ya1 y.yes.length yc1, .slice da1 y.done.length dc1, .int .i64 y.code] rfl rfl _ _ PV (by kernel_rfl) rfl (by simp [Value.oneCell']) ?_
                  refine hK'.out _ _ (.inl (by decide)) ?_
                  clear hK' K'
                  try simp only [List.getElem_toArray, List.getElem_cons_succ, List.getElem_cons_zero, Act.put, List.setIfInBounds_toArray, List.set_cons_zero, List.set_cons_succ]
                  refine wpAnyL_one 10 (by kernel_rfl) rfl (by kernel_rfl) ?_
                  intro K' hK'
                  go_simp
                  refine hK'.out _ _ (.inl (by decide)) ?_
                  clear hK' K'
                  try simp only [List.getElem_toArray, List.getElem_cons_succ, List.getElem_cons_zero, Act.put, List.setIfInBounds_toArray, List.set_cons_zero, List.set_cons_succ]
                  refine wpAnyL_done (by kernel_rfl) (NoPanic.normal ?_) _
                  go_wp2
                  go_roundg (gk - 1)
                  case measure => have := HNG.out; have := hn40H.out; omega
                  case rel => exact ⟨n + 1, y, ka1, kc1, ga1, gc1, ya1, yc1, da1, dc1, by have := HNG.out; have := hn40H.out; omega, rfl, by have := hn40H.out; go_num, PN, ON, hbN, hPy⟩
            · clear hP
              by_cases h4 : x.state = 4
              · have hst1 : (x.state != 4) = false := by simp [h4]
                have hst2 : (x.state == 4) = true := by simp [h4]
                have gl : Hid _ := ok_lens hT.1
                have hn40 : (n : Int) < 40 := by
                  obtain ⟨-, -, -, -, j, -, h6, h7, -⟩ := hT
                  have := HGL.out
                  omega
                have hn40d : decide ((n : Int) < 40) = true := decide_eq_true hn40
                have kR := reply_of ⟨x, (ka, kc), (ga, gc), (ya, yc), (da, dc)⟩ wr OX.out.xr (Nat.le_trans gl.out.1 (by decide)) (Nat.le_trans gl.out.2.1 (by decide)) (Nat.le_trans gl.out.2.2.1 (by decide)) (Nat.le_trans gl.out.2.2.2 (by decide))
                have hrd : replyM x = _ := reply_done hT.1 hT.2.2.1
                obtain ⟨qt, hqt⟩ : ∃ q, q = (if x.code = 0 ∧ x.kind = 1 then x.token else 0) := ⟨_, rfl⟩
                rw [← hqt] at hrd
                try dsimp only at kR
                rw [hrd] at kR
                dsimp only [xv, rpv] at kR
                have hq : (x.code == 0) = decide (a &&& b = 0) := by
                  rw [Bool.eq_iff_iff, beq_iff_eq, decide_eq_true_eq, hT.2.2.2.1]
                  exact HZ.out.symm
                rw [← hq] at HAND
                obtain ⟨q, hq0⟩ : ∃ q, (x.code == 0) = q := ⟨_, rfl⟩
                rw [hq0] at HAND
                have hqq : (q == q) = true := by simp
                clear hrd hqt h4 hT gl hng hq
                go_wp2_with fail
                refine kR.mono ?_
                rintro e w6 ⟨rfl, hbc⟩
                have hb6 := hbl.out.trans (hbc.mono hbl.out.size)
                have P6 := (hbc.block _ (at_ltE PX.out)).trans PX.out
                obtain ⟨z7, r7, p7⟩ := one_box w6 (.cells #[.int .i64 x.code, .int .u64 (qt : Int), .slice none 0 0] 34)
                have hb7 := hb6.trans (p7.mono hb6.size)
                have P7 := (p7.block _ (at_ltE P6)).trans P6
                obtain ⟨-, -, -, a0, a1⟩ := HI.out _ hb7
                obtain ⟨c0, c1, c2, c3, c4, c5, c6, c7, c8, c9, c10⟩ := cells11 P7
                obtain ⟨m0, m1, m2⟩ := cells3 r7
                have hb7H : Hid (Below w0.heap.size w0 (w6.alloc (.cells #[.int .i64 x.code, .int .u64 (qt : Int), .slice none 0 0] 34))) := hb7
                have kA := awake_of (w6.alloc (.cells #[.int .i64 x.code, .int .u64 (qt : Int), .slice none 0 0] 34))
                clear kR hbc hb6 P6 z7 r7 p7 hb7 P7 PX OX hbl
                go_wp2_with fail
                refine kA.mono ?_
                rintro e wz ⟨rfl, hbz⟩
                have hE : Hid _ := (HI.out _ (hb7H.out.trans (hbz.mono hb7H.out.size))).1
                clear kA hbz
                go_wp2
                go_ret
                exact ⟨rfl, hE.out⟩
              · obtain ⟨ha, j, hdj, hnj, hjG, ht⟩ := tel_p hT h4
                have hok' := hT.1
                have hst1 : (x.state != 4) = true := by simpa using h4
                have hgG := HGL.out
                have gl : Hid _ := ok_lens hok'
                have kAsk : Hid (∀ W, XR W ⟨x, (ka, kc), (ga, gc), (ya, yc), (da, dc)⟩ → _) := fun W h => ask_of ⟨x, (ka, kc), (ga, gc), (ya, yc), (da, dc)⟩ W h (Nat.le_trans gl.out.1 (by decide)) (Nat.le_trans gl.out.2.1 (by decide)) (Nat.le_trans gl.out.2.2.1 (by decide)) (Nat.le_trans gl.out.2.2.2 (by decide))
                have kTel : Hid (∀ W, XR W ⟨x, (ka, kc), (ga, gc), (ya, yc), (da, dc)⟩ → _) := fun W h => tell_of ⟨x, (ka, kc), (ga, gc), (ya, yc), (da, dc)⟩ W h (Nat.le_trans gl.out.1 (by decide)) (Nat.le_trans gl.out.2.1 (by decide)) (Nat.le_trans gl.out.2.2.1 (by decide)) (Nat.le_trans gl.out.2.2.2 (by decide))
                try dsimp only [xv] at kAsk kTel
                have hn40 : (n : Int) < 40 := by omega
                have hn40d : decide ((n : Int) < 40) = true := decide_eq_true hn40
                have hn40H : Hid ((n : Int) < 40) := hn40
                rw [ha] at kAsk
                rw [ht] at kTel
                obtain ⟨g, hgx⟩ : ∃ g, G[j]? = some g := ⟨_, List.getElem?_eq_getElem hjG⟩
                have hAL : (G.drop j)[0]? = some g := by rw [List.getElem?_drop]; simpa using hgx
                have hAl : (0 : Int) < ((G.drop j).length : Int) := by have := (List.getElem?_eq_some_iff.1 hAL).1; omega
                obtain ⟨y, hy, hPy0⟩ := tel_one hT h4 hdj hgx
                have hPy : Hid (AskP G b y (n + 1) ∨ TelP G b y (n + 1)) := .inr hPy0
                generalize G.drop j = AL at *
                have hAld : decide ((0 : Int) < (AL.length : Int)) = true := decide_eq_true hAl
                replace hAL : Hid (AL[0]? = some g) := hAL
                have kV : Hid (∀ W, XR W ⟨x, (ka, kc), (ga, gc), (ya, yc), (da, dc)⟩ → _) := fun W h => applied_m ⟨x, (ka, kc), (ga, gc), (ya, yc), (da, dc)⟩ g W h gl.out.1 gl.out.2.1 gl.out.2.2.1 gl.out.2.2.2
                try dsimp only at kV
                rw [hy] at kV
                dsimp only [xv] at kV
                clear ha ht hok' hgG hy hPy0 hgx hdj hnj hjG hT h4
                obtain ⟨wd, hwd⟩ : ∃ W, wr.drew = W := ⟨_, rfl⟩
                have hbd : Below w0.heap.size w0 wd := by rw [← hwd]; exact hbl.out.drew
                have PD : wd.heap[w4.heap.size]? = some (.cells #[.int .i64 x.id.1, .int .u64 (x.id.2 : Int), .int .i64 x.kind, .slice ka x.keys.length kc, .int .u64 (x.token : Int), .int .i64 x.ttl, .slice ga x.groups.length gc, .int .i64 x.state, .slice ya x.yes.length yc, .slice da x.done.length dc, .int .i64 x.code] 29 (0, 0)) := by rw [← hwd]; exact PX.out
                have OD : XO w0.heap.size wd ⟨x, (ka, kc), (ga, gc), (ya, yc), (da, dc)⟩ := by rw [← hwd]; exact XO.below OX.out ((Below.refl _ wr).drew)
                have cl : Hid (∀ W, Below wd.heap.size wd W → W.cell? ⟨w4.heap.size, 0, none⟩ = some (.int .i64 x.id.1) ∧ W.cell? ⟨w4.heap.size, 1, none⟩ = some (.int .u64 (x.id.2 : Int)) ∧ W.cell? ⟨w4.heap.size, 2, none⟩ = some (.int .i64 x.kind) ∧ W.cell? ⟨w4.heap.size, 3, none⟩ = some (.slice ka x.keys.length kc) ∧ W.cell? ⟨w4.heap.size, 4, none⟩ = some (.int .u64 (x.token : Int)) ∧ W.cell? ⟨w4.heap.size, 5, none⟩ = some (.int .i64 x.ttl) ∧ W.cell? ⟨w4.heap.size, 6, none⟩ = some (.slice ga x.groups.length gc) ∧ W.cell? ⟨w4.heap.size, 7, none⟩ = some (.int .i64 x.state) ∧ W.cell? ⟨w4.heap.size, 8, none⟩ = some (.slice ya x.yes.length yc) ∧ W.cell? ⟨w4.heap.size, 9, none⟩ = some (.slice da x.done.length dc) ∧ W.cell? ⟨w4.heap.size, 10, none⟩ = some (.int .i64 x.code)) := fun W hW => cells11 ((hW.block _ (at_ltE PD)).trans PD)
                have hy0 : Below wd.heap.size wd wd := Below.refl _ _
                have yS0 : (fun W : World => (W.cell? ⟨w4.heap.size, 0, none⟩ = some (.int .i64 x.id.1) ∧ W.cell? ⟨w4.heap.size, 1, none⟩ = some (.int .u64 (x.id.2 : Int)) ∧ W.cell? ⟨w4.heap.size, 2, none⟩ = some (.int .i64 x.kind) ∧ W.cell? ⟨w4.heap.size, 3, none⟩ = some (.slice ka x.keys.length kc) ∧ W.cell? ⟨w4.heap.size, 4, none⟩ = some (.int .u64 (x.token : Int)) ∧ W.cell? ⟨w4.heap.size, 5, none⟩ = some (.int .i64 x.ttl) ∧ W.cell? ⟨w4.heap.size, 6, none⟩ = some (.slice ga x.groups.length gc) ∧ W.cell? ⟨w4.heap.size, 7, none⟩ = some (.int .i64 x.state) ∧ W.cell? ⟨w4.heap.size, 8, none⟩ = some (.slice ya x.yes.length yc) ∧ W.cell? ⟨w4.heap.size, 9, none⟩ = some (.slice da x.done.length dc) ∧ W.cell? ⟨w4.heap.size, 10, none⟩ = some (.int .i64 x.code)) ∧ Below wd.heap.size wd W) wd := ⟨cl.out _ hy0, hy0⟩
                have hwdH : Hid (wr.drew = wd) := hwd
                replace PD : Hid (wd.heap[w4.heap.size]? = some (.cells #[.int .i64 x.id.1, .int .u64 (x.id.2 : Int), .int .i64 x.kind, .slice ka x.keys.length kc, .int .u64 (x.token : Int), .int .i64 x.ttl, .slice ga x.groups.length gc, .int .i64 x.state, .slice ya x.yes.length yc, .slice da x.done.length dc, .int .i64 x.code] 29 (0, 0))) := PD
                replace OD : Hid (XO w0.heap.size wd ⟨x, (ka, kc), (ga, gc), (ya, yc), (da, dc)⟩) := OD
                replace hbd : Hid (Below w0.heap.size w0 wd) := hbd
                clear hwd PX OX hbl
                go_wp2_with fail
                refine wp_region_L (fun W : World => (W.cell? ⟨w4.heap.size, 0, none⟩ = some (.int .i64 x.id.1) ∧ W.cell? ⟨w4.heap.size, 1, none⟩ = some (.int .u64 (x.id.2 : Int)) ∧ W.cell? ⟨w4.heap.size, 2, none⟩ = some (.int .i64 x.kind) ∧ W.cell? ⟨w4.heap.size, 3, none⟩ = some (.slice ka x.keys.length kc) ∧ W.cell? ⟨w4.heap.size, 4, none⟩ = some (.int .u64 (x.token : Int)) ∧ W.cell? ⟨w4.heap.size, 5, none⟩ = some (.int .i64 x.ttl) ∧ W.cell? ⟨w4.heap.size, 6, none⟩ = some (.slice ga x.groups.length gc) ∧ W.cell? ⟨w4.heap.size, 7, none⟩ = some (.int .i64 x.state) ∧ W.cell? ⟨w4.heap.size, 8, none⟩ = some (.slice ya x.yes.length yc) ∧ W.cell? ⟨w4.heap.size, 9, none⟩ = some (.slice da x.done.length dc) ∧ W.cell? ⟨w4.heap.size, 10, none⟩ = some (.int .i64 x.code)) ∧ Below wd.heap.size wd W) [] (by kernel_rfl) ?_
                rw [hwdH.out]
                refine wpAnyL_take 0 rfl (by kernel_rfl) (by kernel_rfl) (by kernel_rfl) (by kernel_rfl) (fun _ _ _ h => h) (by kernel_rfl) (by intro w' hS'; obtain ⟨⟨x0, x1, x2, x3, x4, x5, x6, x7, x8, x9, x10⟩, xb⟩ := hS'; go_simp <;> rfl) yS0 ?_
                try simp only [List.getElem_toArray, List.getElem_cons_succ, List.getElem_cons_zero, Act.put, List.setIfInBounds_toArray, List.set_cons_zero, List.set_cons_succ]
                refine wpAnyL_take 2 rfl (by kernel_rfl) (by kernel_rfl) (by kernel_rfl) (by kernel_rfl) (fun _ _ _ h => h) (by kernel_rfl) (by intro w' hS'; obtain ⟨⟨x0, x1, x2, x3, x4, x5, x6, x7, x8, x9, x10⟩, xb⟩ := hS'; go_simp <;> rfl) yS0 ?_
                try simp only [List.getElem_toArray, List.getElem_cons_succ, List.getElem_cons_zero, Act.put, List.setIfInBounds_toArray, List.set_cons_zero, List.set_cons_succ]
                refine wpAnyL_one 1 (by kernel_rfl) rfl (by kernel_rfl) ?_
                intro K' hK'
                go_simp
                go_at_call 15
                refine (kAsk.out _ (XO.below OD.out hy0).xr).mono ?_
                rintro e wc1 ⟨u0, rfl, Q0, hbc⟩
                obtain ⟨pa, pc, rfl, -⟩ := Q0.1.shape
                have hy1 := hy0.trans (hbc.mono hy0.size)
                have yS1 : (fun W : World => (W.cell? ⟨w4.heap.size, 0, none⟩ = some (.int .i64 x.id.1) ∧ W.cell? ⟨w4.heap.size, 1, none⟩ = some (.int .u64 (x.id.2 : Int)) ∧ W.cell? ⟨w4.heap.size, 2, none⟩ = some (.int .i64 x.kind) ∧ W.cell? ⟨w4.heap.size, 3, none⟩ = some (.slice ka x.keys.length kc) ∧ W.cell? ⟨w4.heap.size, 4, none⟩ = some (.int .u64 (x.token : Int)) ∧ W.cell? ⟨w4.heap.size, 5, none⟩ = some (.int .i64 x.ttl) ∧ W.cell? ⟨w4.heap.size, 6, none⟩ = some (.slice ga x.groups.length gc) ∧ W.cell? ⟨w4.heap.size, 7, none⟩ = some (.int .i64 x.state) ∧ W.cell? ⟨w4.heap.size, 8, none⟩ = some (.slice ya x.yes.length yc) ∧ W.cell? ⟨w4.heap.size, 9, none⟩ = some (.slice da x.done.length dc) ∧ W.cell? ⟨w4.heap.size, 10, none⟩ = some (.int .i64 x.code)) ∧ Below wd.heap.size wd W) wc1 := ⟨cl.out _ hy1, hy1⟩
                have AR1 : Hid (Rd intE wc1 (.slice pa ([] : List Int).length pc) ([] : List Int)) := Q0.1.rd
                clear hbc Q0 kAsk
                refine hK'.out _ _ (.inr yS1) ?_
                clear hK' K'
                try simp only [List.getElem_toArray, List.getElem_cons_succ, List.getElem_cons_zero, Act.put, List.setIfInBounds_toArray, List.set_cons_zero, List.set_cons_succ]
                refine wpAnyL_one 3 (by kernel_rfl) rfl (by kernel_rfl) ?_
                intro K' hK'
                go_simp
                go_at_call 17
                refine (kTel.out _ (XO.below OD.out hy1).xr).mono ?_
                rintro e wc2 ⟨u1, rfl, Q1, hbc⟩
                obtain ⟨qa, qc, rfl, -⟩ := Q1.1.shape
                have hy2 := hy1.trans (hbc.mono hy1.size)
                have yS2 : (fun W : World => (W.cell? ⟨w4.heap.size, 0, none⟩ = some (.int .i64 x.id.1) ∧ W.cell? ⟨w4.heap.size, 1, none⟩ = some (.int .u64 (x.id.2 : Int)) ∧ W.cell? ⟨w4.heap.size, 2, none⟩ = some (.int .i64 x.kind) ∧ W.cell? ⟨w4.heap.size, 3, none⟩ = some (.slice ka x.keys.length kc) ∧ W.cell? ⟨w4.heap.size, 4, none⟩ = some (.int .u64 (x.token : Int)) ∧ W.cell? ⟨w4.heap.size, 5, none⟩ = some (.int .i64 x.ttl) ∧ W.cell? ⟨w4.heap.size, 6, none⟩ = some (.slice ga x.groups.length gc) ∧ W.cell? ⟨w4.heap.size, 7, none⟩ = some (.int .i64 x.state) ∧ W.cell? ⟨w4.heap.size, 8, none⟩ = some (.slice ya x.yes.length yc) ∧ W.cell? ⟨w4.heap.size, 9, none⟩ = some (.slice da x.done.length dc) ∧ W.cell? ⟨w4.heap.size, 10, none⟩ = some (.int .i64 x.code)) ∧ Below wd.heap.size wd W) wc2 := ⟨cl.out _ hy2, hy2⟩
                have AR2 : Hid (Rd intE wc2 (.slice pa ([] : List Int).length pc) ([] : List Int)) := Rd.below AR1.out hbc
                have AT2 : Hid (Rd intE wc2 (.slice qa AL.length qc) AL) := Q1.1.rd
                clear hbc Q1 kTel
                refine hK'.out _ _ (.inr yS2) ?_
                clear hK' K'
                try simp only [List.getElem_toArray, List.getElem_cons_succ, List.getElem_cons_zero, Act.put, List.setIfInBounds_toArray, List.set_cons_zero, List.set_cons_succ]
                refine wpAnyL_take 4 rfl (by kernel_rfl) (by kernel_rfl) (by kernel_rfl) (by kernel_rfl) (fun _ _ _ h => h) (by kernel_rfl) (by intro w' hS'; obtain ⟨⟨x0, x1, x2, x3, x4, x5, x6, x7, x8, x9, x10⟩, xb⟩ := hS'; go_simp <;> rfl) yS2 ?_
                try simp only [List.getElem_toArray, List.getElem_cons_succ, List.getElem_cons_zero, Act.put, List.setIfInBounds_toArray, List.set_cons_zero, List.set_cons_succ]
                refine wpAnyL_take 5 rfl (by kernel_rfl) (by kernel_rfl) (by kernel_rfl) (by kernel_rfl) (fun _ _ _ h => h) (by kernel_rfl) (by intro w' hS'; obtain ⟨⟨x0, x1, x2, x3, x4, x5, x6, x7, x8, x9, x10⟩, xb⟩ := hS'; go_simp <;> rfl) yS2 ?_
                try simp only [List.getElem_toArray, List.getElem_cons_succ, List.getElem_cons_zero, Act.put, List.setIfInBounds_toArray, List.set_cons_zero, List.set_cons_succ]
                refine wpAnyL_done (by kernel_rfl) (NoPanic.normal ?_) _
                have hb2 : Below w0.heap.size w0 wc2 := hbd.out.trans (hy2.mono hbd.out.size)
                have P2 := (hy2.block _ (at_ltE PD.out)).trans PD.out
                have O2 := XO.below OD.out hy2
                obtain ⟨-, -, -, a0, a1⟩ := HI.out _ hb2
                replace P2 : Hid (wc2.heap[w4.heap.size]? = some (.cells #[.int .i64 x.id.1, .int .u64 (x.id.2 : Int), .int .i64 x.kind, .slice ka x.keys.length kc, .int .u64 (x.token : Int), .int .i64 x.ttl, .slice ga x.groups.length gc, .int .i64 x.state, .slice ya x.yes.length yc, .slice da x.done.length dc, .int .i64 x.code] 29 (0, 0))) := P2
                replace O2 : Hid (XO w0.heap.size wc2 ⟨x, (ka, kc), (ga, gc), (ya, yc), (da, dc)⟩) := O2
                replace hb2 : Hid (Below w0.heap.size w0 wc2) := hb2
                obtain ⟨bb, off, rfl, hel⟩ := rdi_at AT2.out hAL.out
                have e0 : Hid (∀ W, Below wc2.heap.size wc2 W → W.cell? ⟨bb, off, none⟩ = some (.int .i64 g)) := fun W hW => hel W hW
                clear hel yS0 yS1 yS2 hy0 hy1 hy2 cl PD OD hbd AR1 AR2 AT2 hAL hng
                go_wp2_with fail
                obtain ⟨wE, hwE⟩ : ∃ W, wc2.drew = W := ⟨_, rfl⟩
                have hE : Below wc2.heap.size wc2 wE := by rw [← hwE]; exact (Below.refl _ _).drew
                have PE : Hid (wE.heap[w4.heap.size]? = some (.cells #[.int .i64 x.id.1, .int .u64 (x.id.2 : Int), .int .i64 x.kind, .slice ka x.keys.length kc, .int .u64 (x.token : Int), .int .i64 x.ttl, .slice ga x.groups.length gc, .int .i64 x.state, .slice ya x.yes.length yc, .slice da x.done.length dc, .int .i64 x.code] 29 (0, 0))) := (hE.block _ (at_ltE P2.out)).trans P2.out
                have OE : Hid (XO w0.heap.size wE ⟨x, (ka, kc), (ga, gc), (ya, yc), (da, dc)⟩) := XO.below O2.out hE
                have hbE : Hid (Below w0.heap.size w0 wE) := hb2.out.trans (hE.mono hb2.out.size)
                have clE : Hid (∀ W, Below wE.heap.size wE W → (W.cell? ⟨w4.heap.size, 0, none⟩ = some (.int .i64 x.id.1) ∧ W.cell? ⟨w4.heap.size, 1, none⟩ = some (.int .u64 (x.id.2 : Int)) ∧ W.cell? ⟨w4.heap.size, 2, none⟩ = some (.int .i64 x.kind) ∧ W.cell? ⟨w4.heap.size, 3, none⟩ = some (.slice ka x.keys.length kc) ∧ W.cell? ⟨w4.heap.size, 4, none⟩ = some (.int .u64 (x.token : Int)) ∧ W.cell? ⟨w4.heap.size, 5, none⟩ = some (.int .i64 x.ttl) ∧ W.cell? ⟨w4.heap.size, 6, none⟩ = some (.slice ga x.groups.length gc) ∧ W.cell? ⟨w4.heap.size, 7, none⟩ = some (.int .i64 x.state) ∧ W.cell? ⟨w4.heap.size, 8, none⟩ = some (.slice ya x.yes.length yc) ∧ W.cell? ⟨w4.heap.size, 9, none⟩ = some (.slice da x.done.length dc) ∧ W.cell? ⟨w4.heap.size, 10, none⟩ = some (.int .i64 x.code)) ∧ W.cell? ⟨bb, off, none⟩ = some (.int .i64 g)) := fun W hW => ⟨cells11 ((hW.block _ (at_ltE PE.out)).trans PE.out), e0.out W (hE.trans (hW.mono hE.size))⟩
                have y0 : (fun W : World => ((W.cell? ⟨w4.heap.size, 0, none⟩ = some (.int .i64 x.id.1) ∧ W.cell? ⟨w4.heap.size, 1, none⟩ = some (.int .u64 (x.id.2 : Int)) ∧ W.cell? ⟨w4.heap.size, 2, none⟩ = some (.int .i64 x.kind) ∧ W.cell? ⟨w4.heap.size, 3, none⟩ = some (.slice ka x.keys.length kc) ∧ W.cell? ⟨w4.heap.size, 4, none⟩ = some (.int .u64 (x.token : Int)) ∧ W.cell? ⟨w4.heap.size, 5, none⟩ = some (.int .i64 x.ttl) ∧ W.cell? ⟨w4.heap.size, 6, none⟩ = some (.slice ga x.groups.length gc) ∧ W.cell? ⟨w4.heap.size, 7, none⟩ = some (.int .i64 x.state) ∧ W.cell? ⟨w4.heap.size, 8, none⟩ = some (.slice ya x.yes.length yc) ∧ W.cell? ⟨w4.heap.size, 9, none⟩ = some (.slice da x.done.length dc) ∧ W.cell? ⟨w4.heap.size, 10, none⟩ = some (.int .i64 x.code)) ∧ W.cell? ⟨bb, off, none⟩ = some (.int .i64 g)) ∧ Below wE.heap.size wE W) wE := ⟨clE.out _ (Below.refl _ _), Below.refl _ _⟩
                clear hE P2 O2 hb2
                refine wp_region_L (fun W : World => ((W.cell? ⟨w4.heap.size, 0, none⟩ = some (.int .i64 x.id.1) ∧ W.cell? ⟨w4.heap.size, 1, none⟩ = some (.int .u64 (x.id.2 : Int)) ∧ W.cell? ⟨w4.heap.size, 2, none⟩ = some (.int .i64 x.kind) ∧ W.cell? ⟨w4.heap.size, 3, none⟩ = some (.slice ka x.keys.length kc) ∧ W.cell? ⟨w4.heap.size, 4, none⟩ = some (.int .u64 (x.token : Int)) ∧ W.cell? ⟨w4.heap.size, 5, none⟩ = some (.int .i64 x.ttl) ∧ W.cell? ⟨w4.heap.size, 6, none⟩ = some (.slice ga x.groups.length gc) ∧ W.cell? ⟨w4.heap.size, 7, none⟩ = some (.int .i64 x.state) ∧ W.cell? ⟨w4.heap.size, 8, none⟩ = some (.slice ya x.yes.length yc) ∧ W.cell? ⟨w4.heap.size, 9, none⟩ = some (.slice da x.done.length dc) ∧ W.cell? ⟨w4.heap.size, 10, none⟩ = some (.int .i64 x.code)) ∧ W.cell? ⟨bb, off, none⟩ = some (.int .i64 g)) ∧ Below wE.heap.size wE W) [7, 8, 9] (by kernel_rfl) ?_
                rw [hwE]
                clear hwE
                refine wpAnyL_takeU 0 [0, 4, 5, 6] rfl (by kernel_rfl) (by kernel_rfl) (by kernel_rfl) (by kernel_rfl) (fun _ _ _ h => h) (by kernel_rfl) (by intro w' hS'; obtain ⟨⟨⟨x0, x1, x2, x3, x4, x5, x6, x7, x8, x9, x10⟩, xe⟩, xb⟩ := hS'; go_simp <;> rfl) y0 ?_
                try simp only [List.getElem_toArray, List.getElem_cons_succ, List.getElem_cons_zero, Act.put, List.setIfInBounds_toArray, List.set_cons_zero, List.set_cons_succ]
                refine wpAnyL_takeU 1 [1, 2, 3, 4, 5, 6] rfl (by kernel_rfl) (by kernel_rfl) (by kernel_rfl) (by kernel_rfl) (fun _ _ _ h => h) (by kernel_rfl) (by intro w' hS'; obtain ⟨⟨⟨x0, x1, x2, x3, x4, x5, x6, x7, x8, x9, x10⟩, xe⟩, xb⟩ := hS'; go_simp <;> rfl) y0 ?_
                try simp only [List.getElem_toArray, List.getElem_cons_succ, List.getElem_cons_zero, Act.put, List.setIfInBounds_toArray, List.set_cons_zero, List.set_cons_succ]
                refine wpAnyL_takeU 2 [2, 3, 4, 5, 6] rfl (by kernel_rfl) (by kernel_rfl) (by kernel_rfl) (by kernel_rfl) (fun _ _ _ h => h) (by kernel_rfl) (by intro w' hS'; obtain ⟨⟨⟨x0, x1, x2, x3, x4, x5, x6, x7, x8, x9, x10⟩, xe⟩, xb⟩ := hS'; go_simp <;> rfl) y0 ?_
                try simp only [List.getElem_toArray, List.getElem_cons_succ, List.getElem_cons_zero, Act.put, List.setIfInBounds_toArray, List.set_cons_zero, List.set_cons_succ]
                refine wpAnyL_takeU 3 [3, 4, 5, 6] rfl (by kernel_rfl) (by kernel_rfl) (by kernel_rfl) (by kernel_rfl) (fun _ _ _ h => h) (by kernel_rfl) (by intro w' hS'; obtain ⟨⟨⟨x0, x1, x2, x3, x4, x5, x6, x7, x8, x9, x10⟩, xe⟩, xb⟩ := hS'; go_simp <;> rfl) y0 ?_
                try simp only [List.getElem_toArray, List.getElem_cons_succ, List.getElem_cons_zero, Act.put, List.setIfInBounds_toArray, List.set_cons_zero, List.set_cons_succ]
                refine wpAnyL_one 4 (by kernel_rfl) rfl (by kernel_rfl) ?_
                intro K' hK'
                go_simp
                go_at_call 28
                refine (kV.out wE OE.out.xr).mono ?_
                rintro e wv ⟨⟨⟨ka1, kc1⟩, ⟨ga1, gc1⟩, ⟨ya1, yc1⟩, ⟨da1, dc1⟩, rfl, OY⟩, hbc⟩
                have y1 : (fun W : World => ((W.cell? ⟨w4.heap.size, 0, none⟩ = some (.int .i64 x.id.1) ∧ W.cell? ⟨w4.heap.size, 1, none⟩ = some (.int .u64 (x.id.2 : Int)) ∧ W.cell? ⟨w4.heap.size, 2, none⟩ = some (.int .i64 x.kind) ∧ W.cell? ⟨w4.heap.size, 3, none⟩ = some (.slice ka x.keys.length kc) ∧ W.cell? ⟨w4.heap.size, 4, none⟩ = some (.int .u64 (x.token : Int)) ∧ W.cell? ⟨w4.heap.size, 5, none⟩ = some (.int .i64 x.ttl) ∧ W.cell? ⟨w4.heap.size, 6, none⟩ = some (.slice ga x.groups.length gc) ∧ W.cell? ⟨w4.heap.size, 7, none⟩ = some (.int .i64 x.state) ∧ W.cell? ⟨w4.heap.size, 8, none⟩ = some (.slice ya x.yes.length yc) ∧ W.cell? ⟨w4.heap.size, 9, none⟩ = some (.slice da x.done.length dc) ∧ W.cell? ⟨w4.heap.size, 10, none⟩ = some (.int .i64 x.code)) ∧ W.cell? ⟨bb, off, none⟩ = some (.int .i64 g)) ∧ Below wE.heap.size wE W) wv := ⟨clE.out _ hbc, hbc⟩
                have PV : wv.heap[w4.heap.size]? = some (.cells #[.int .i64 x.id.1, .int .u64 (x.id.2 : Int), .int .i64 x.kind, .slice ka x.keys.length kc, .int .u64 (x.token : Int), .int .i64 x.ttl, .slice ga x.groups.length gc, .int .i64 x.state, .slice ya x.yes.length yc, .slice da x.done.length dc, .int .i64 x.code] 29 (0, 0)) := (hbc.block _ (at_ltE PE.out)).trans PE.out
                have hbV := hbE.out.trans (hbc.mono hbE.out.size)
                have PN : Hid ((wv.setRow w4.heap.size #[.int .i64 y.id.1, .int .u64 (y.id.2 : Int), .int .i64 y.kind, .slice ka1 y.keys.length kc1, .int .u64 (y.token : Int), .int .i64 y.ttl, .slice ga1 y.groups.length gc1, .int .i64 y.state, .slice ya1 y.yes.length yc1, .slice da1 y.done.length dc1, .int .i64 y.code]).heap[w4.heap.size]? = some (.cells #[.int .i64 y.id.1, .int .u64 (y.id.2 : Int), .int .i64 y.kind, .slice ka1 y.keys.length kc1, .int .u64 (y.token : Int), .int .i64 y.ttl, .slice ga1 y.groups.length gc1, .int .i64 y.state, .slice ya1 y.yes.length yc1, .slice da1 y.done.length dc1, .int .i64 y.code] 29 (0, 0))) := setRow_heap _ _ _ _ _ _ PV
                have hbN : Hid (Below w0.heap.size w0 (wv.setRow w4.heap.size #[.int .i64 y.id.1, .int .u64 (y.id.2 : Int), .int .i64 y.kind, .slice ka1 y.keys.length kc1, .int .u64 (y.token : Int), .int .i64 y.ttl, .slice ga1 y.groups.length gc1, .int .i64 y.state, .slice ya1 y.yes.length yc1, .slice da1 y.done.length dc1, .int .i64 y.code])) := below_rowE hbV hNB.out _
                have ON : Hid (XO w0.heap.size (wv.setRow w4.heap.size #[.int .i64 y.id.1, .int .u64 (y.id.2 : Int), .int .i64 y.kind, .slice ka1 y.keys.length kc1, .int .u64 (y.token : Int), .int .i64 y.ttl, .slice ga1 y.groups.length gc1, .int .i64 y.state, .slice ya1 y.yes.length yc1, .slice da1 y.done.length dc1, .int .i64 y.code]) ⟨y, (ka1, kc1), (ga1, gc1), (ya1, yc1), (da1, dc1)⟩) := XO.at_other (OY.mono hbE.out.size) PV (fun k hk => setRow_other _ _ _ _ hk)
                clear hbc OY hbV
                refine hK'.out _ _ (.inr y1) ?_
                clear hK' K'
                try simp only [List.getElem_toArray, List.getElem_cons_succ, List.getElem_cons_zero, Act.put, List.setIfInBounds_toArray, List.set_cons_zero, List.set_cons_succ]
                refine wpAnyL_takeU 5 [5, 6] rfl (by kernel_rfl) (by kernel_rfl) (by kernel_rfl) (by kernel_rfl) (fun _ _ _ h => h) (by kernel_rfl) (by intro w' hS'; go_simp <;> rfl) y1 ?_
                try simp only [List.getElem_toArray, List.getElem_cons_succ, List.getElem_cons_zero, Act.put, List.setIfInBounds_toArray, List.set_cons_zero, List.set_cons_succ]
                refine wpAnyL_two 6 7 (by kernel_rfl) rfl rfl (by kernel_rfl) (by kernel_rfl) ?_ ?_
                · intro K' hK'
                  go_simp
                  refine hK'.out _ _ (.inr y1) ?_
                  clear hK' K'
                  try simp only [List.getElem_toArray, List.getElem_cons_succ, List.getElem_cons_zero, Act.put, List.setIfInBounds_toArray, List.set_cons_zero, List.set_cons_succ]
                  refine wpAnyL_two 7 8 (by kernel_rfl) rfl rfl (by kernel_rfl) (by kernel_rfl) ?_ ?_
                  · intro K' hK'
                    go_simp
                    refine hK'.out _ _ (.inl (by decide)) ?_
                    clear hK' K'
                    try simp only [List.getElem_toArray, List.getElem_cons_succ, List.getElem_cons_zero, Act.put, List.setIfInBounds_toArray, List.set_cons_zero, List.set_cons_succ]
                    refine wpAnyL_one 8 (by kernel_rfl) rfl (by kernel_rfl) ?_
                    intro K' hK'
                    refine wp_store_row 29 _ _ rfl (w4.heap.size) #[.int .i64 y.id.1, .int .u64 (y.id.2 : Int), .int .i64 y.kind, .slice ka1 y.keys.length kc1, .int .u64 (y.token : Int), .int .i64 y.ttl, .slice ga1 y.groups.length gc1, .int .i64 y.state, .slice ya1 y.yes.length yc1, .slice da1 y.done.length dc1, .int .i64 y.code] rfl rfl _ _ PV (by kernel_rfl) rfl (by simp [Value.oneCell']) ?_
                    refine hK'.out _ _ (.inl (by decide)) ?_
                    clear hK' K'
                    try simp only [List.getElem_toArray, List.getElem_cons_succ, List.getElem_cons_zero, Act.put, List.setIfInBounds_toArray, List.set_cons_zero, List.set_cons_succ]
                    refine wpAnyL_one 9 (by kernel_rfl) rfl (by kernel_rfl) ?_
                    intro K' hK'
                    go_simp
                    refine hK'.out _ _ (.inl (by decide)) ?_
                    clear hK' K'
                    try simp only [List.getElem_toArray, List.getElem_cons_succ, List.getElem_cons_zero, Act.put, List.setIfInBounds_toArray, List.set_cons_zero, List.set_cons_succ]
                    refine wpAnyL_done (by kernel_rfl) (NoPanic.normal ?_) _
                    go_wp2
                    go_roundg (gk - 1)
                    case measure => have := HNG.out; have := hn40H.out; omega
                    case rel => exact ⟨n + 1, y, ka1, kc1, ga1, gc1, ya1, yc1, da1, dc1, by have := HNG.out; have := hn40H.out; omega, rfl, by have := hn40H.out; go_num, PN, ON, hbN, hPy⟩
                  · intro K' hK'
                    refine wp_store_row 29 _ _ rfl (w4.heap.size) #[.int .i64 y.id.1, .int .u64 (y.id.2 : Int), .int .i64 y.kind, .slice ka1 y.keys.length kc1, .int .u64 (y.token : Int), .int .i64 y.ttl, .slice ga1 y.groups.length gc1, .int .i64 y.state, .slice ya1 y.yes.length yc1, .slice da1 y.done.length dc1, .int .i64 y.code] rfl rfl _ _ PV (by kernel_rfl) rfl (by simp [Value.oneCell']) ?_
                    refine hK'.out _ _ (.inl (by decide)) ?_
                    clear hK' K'
                    try simp only [List.getElem_toArray, List.getElem_cons_succ, List.getElem_cons_zero, Act.put, List.setIfInBounds_toArray, List.set_cons_zero, List.set_cons_succ]
                    refine wpAnyL_one 7 (by kernel_rfl) rfl (by kernel_rfl) ?_
                    intro K' hK'
                    go_simp
                    refine hK'.out _ _ (.inl (by decide)) ?_
                    clear hK' K'
                    try simp only [List.getElem_toArray, List.getElem_cons_succ, List.getElem_cons_zero, Act.put, List.setIfInBounds_toArray, List.set_cons_zero, List.set_cons_succ]
                    refine wpAnyL_one 9 (by kernel_rfl) rfl (by kernel_rfl) ?_
                    intro K' hK'
                    go_simp
                    refine hK'.out _ _ (.inl (by decide)) ?_
                    clear hK' K'
                    try simp only [List.getElem_toArray, List.getElem_cons_succ, List.getElem_cons_zero, Act.put, List.setIfInBounds_toArray, List.set_cons_zero, List.set_cons_succ]
                    refine wpAnyL_done (by kernel_rfl) (NoPanic.normal ?_) _
                    go_wp2
                    go_roundg (gk - 1)
                    case measure => have := HNG.out; have := hn40H.out; omega
                    case rel => exact ⟨n + 1, y, ka1, kc1, ga1, gc1, ya1, yc1, da1, dc1, by have := HNG.out; have := hn40H.out; omega, rfl, by have := hn40H.out; go_num, PN, ON, hbN, hPy⟩
                · intro K' hK'
                  go_simp
                  refine hK'.out _ _ (.inl (by decide)) ?_
                  clear hK' K'
                  try simp only [List.getElem_toArray, List.getElem_cons_succ, List.getElem_cons_zero, Act.put, List.setIfInBounds_toArray, List.set_cons_zero, List.set_cons_succ]
                  refine wpAnyL_one 6 (by kernel_rfl) rfl (by kernel_rfl) ?_
                  intro K' hK'
                  go_simp
                  refine hK'.out _ _ (.inr y1) ?_
                  clear hK' K'
                  try simp only [List.getElem_toArray, List.getElem_cons_succ, List.getElem_cons_zero, Act.put, List.setIfInBounds_toArray, List.set_cons_zero, List.set_cons_succ]
                  refine wpAnyL_one 8 (by kernel_rfl) rfl (by kernel_rfl) ?_
                  intro K' hK'
                  refine wp_store_row 29 _ _ rfl (w4.heap.size) #[.int .i64 y.id.1, .int .u64 (y.id.2 : Int), .int .i64 y.kind, .slice ka1 y.keys.length kc1, .int .u64 (y.token : Int), .int .i64 y.ttl, .slice ga1 y.groups.length gc1, .int .i64 y.state, .slice ya1 y.yes.length yc1, .slice da1 y.done.length dc1, .int .i64 y.code] rfl rfl _ _ PV (by kernel_rfl) rfl (by simp [Value.oneCell']) ?_
                  refine hK'.out _ _ (.inl (by decide)) ?_
                  clear hK' K'
                  try simp only [List.getElem_toArray, List.getElem_cons_succ, List.getElem_cons_zero, Act.put, List.setIfInBounds_toArray, List.set_cons_zero, List.set_cons_succ]
                  refine wpAnyL_one 9 (by kernel_rfl) rfl (by kernel_rfl) ?_
                  intro K' hK'
                  go_simp
                  refine hK'.out _ _ (.inl (by decide)) ?_
                  clear hK' K'
                  try simp only [List.getElem_toArray, List.getElem_cons_succ, List.getElem_cons_zero, Act.put, List.setIfInBounds_toArray, List.set_cons_zero, List.set_cons_succ]
                  refine wpAnyL_done (by kernel_rfl) (NoPanic.normal ?_) _
                  go_wp2
                  go_roundg (gk - 1)
                  case measure => have := HNG.out; have := hn40H.out; omega
                  case rel => exact ⟨n + 1, y, ka1, kc1, ga1, gc1, ya1, yc1, da1, dc1, by have := HNG.out; have := hn40H.out; omega, rfl, by have := hn40H.out; go_num, PN, ON, hbN, hPy⟩
        · have hkd : (kd == 1) = false := by simpa using hk
          have hPs : Hid (AskP G b X0 0 ∨ TelP G b X0 0) := .inl (hP0.out.1 hk)
          clear hk hP0 hokX
          go_wp2
          go_loopg [10, 11] 41 (fun g s10 s11 wr => ∃ (n : Nat) (x : Tx) (ka : Option Addr) (kc : Nat) (ga : Option Addr) (gc : Nat) (ya : Option Addr) (yc : Nat) (da : Option Addr) (dc : Nat), n + g = 41 ∧ s10 = .int .i64 0 ∧ s11 = .int .i64 (n : Int) ∧ Hid (wr.heap[w4.heap.size]? = some (.cells #[.int .i64 x.id.1, .int .u64 (x.id.2 : Int), .int .i64 x.kind, .slice ka x.keys.length kc, .int .u64 (x.token : Int), .int .i64 x.ttl, .slice ga x.groups.length gc, .int .i64 x.state, .slice ya x.yes.length yc, .slice da x.done.length dc, .int .i64 x.code] 29 (0, 0))) ∧ Hid (XO w0.heap.size wr ⟨x, (ka, kc), (ga, gc), (ya, yc), (da, dc)⟩) ∧ Hid (Below w0.heap.size w0 wr) ∧ Hid (AskP G b x n ∨ TelP G b x n))
          case atStart => exact ⟨0, X0, ka, kc, ga, gc, ya, yc, da, dc, by omega, rfl, rfl, PB5, OX5, HB5, hPs⟩
          case round =>
            clear PB5 OX5 HB5 hPs
            obtain ⟨n, x, ka, kc, ga, gc, ya, yc, da, dc, hng, rfl, rfl, PX, OX, hbl, hP⟩ := hrel
            have HNG : Hid (n + gk = 41) := hng
            obtain ⟨c0, c1, c2, c3, c4, c5, c6, c7, c8, c9, c10⟩ := cells11 PX.out
            rcases hP.out with hA | hT
            · clear hP
              obtain ⟨ha, hnG, ht⟩ := ask_p hA
              have hok' := hA.1
              have hst : x.state = 1 := hA.2.2.1
              have hst1 : (x.state != 4) = true := by rw [hst]; decide
              have hgG := HGL.out
              have gl : Hid _ := ok_lens hok'
              have kAsk : Hid (∀ W, XR W ⟨x, (ka, kc), (ga, gc), (ya, yc), (da, dc)⟩ → _) := fun W h => ask_of ⟨x, (ka, kc), (ga, gc), (ya, yc), (da, dc)⟩ W h (Nat.le_trans gl.out.1 (by decide)) (Nat.le_trans gl.out.2.1 (by decide)) (Nat.le_trans gl.out.2.2.1 (by decide)) (Nat.le_trans gl.out.2.2.2 (by decide))
              have kTel : Hid (∀ W, XR W ⟨x, (ka, kc), (ga, gc), (ya, yc), (da, dc)⟩ → _) := fun W h => tell_of ⟨x, (ka, kc), (ga, gc), (ya, yc), (da, dc)⟩ W h (Nat.le_trans gl.out.1 (by decide)) (Nat.le_trans gl.out.2.1 (by decide)) (Nat.le_trans gl.out.2.2.1 (by decide)) (Nat.le_trans gl.out.2.2.2 (by decide))
              try dsimp only [xv] at kAsk kTel
              have hn40 : (n : Int) < 40 := by omega
              have hn40d : decide ((n : Int) < 40) = true := decide_eq_true hn40
              have hn40H : Hid ((n : Int) < 40) := hn40
              rw [ha] at kAsk
              rw [ht] at kTel
              obtain ⟨g, hgx⟩ : ∃ g, G[n]? = some g := ⟨_, List.getElem?_eq_getElem hnG⟩
              have hAL : (G.drop n)[0]? = some g := by rw [List.getElem?_drop]; simpa using hgx
              have hg12 : 1 ≤ g ∧ g ≤ 16 := grp_mem (ok_iff.1 hok').2.2.2.2.1 (by rw [hA.2.1]; exact List.mem_of_getElem? hgx)
              have hAl : (0 : Int) < ((G.drop n).length : Int) := by have := (List.getElem?_eq_some_iff.1 hAL).1; omega
              generalize G.drop n = AL at *
              have hAld : decide ((0 : Int) < (AL.length : Int)) = true := decide_eq_true hAl
              replace hA : Hid (AskP G b x n) := hA
              replace hgx : Hid (G[n]? = some g) := hgx
              replace hAL : Hid (AL[0]? = some g) := hAL
              replace hst : Hid (x.state = 1) := hst
              replace hg12 : Hid (1 ≤ g ∧ g ≤ 16) := hg12
              clear ha ht hok' hgG hnG hng
              obtain ⟨wd, hwd⟩ : ∃ W, wr.drew = W := ⟨_, rfl⟩
              have hbd : Below w0.heap.size w0 wd := by rw [← hwd]; exact hbl.out.drew
              have PD : wd.heap[w4.heap.size]? = some (.cells #[.int .i64 x.id.1, .int .u64 (x.id.2 : Int), .int .i64 x.kind, .slice ka x.keys.length kc, .int .u64 (x.token : Int), .int .i64 x.ttl, .slice ga x.groups.length gc, .int .i64 x.state, .slice ya x.yes.length yc, .slice da x.done.length dc, .int .i64 x.code] 29 (0, 0)) := by rw [← hwd]; exact PX.out
              have OD : XO w0.heap.size wd ⟨x, (ka, kc), (ga, gc), (ya, yc), (da, dc)⟩ := by rw [← hwd]; exact XO.below OX.out ((Below.refl _ wr).drew)
              have cl : Hid (∀ W, Below wd.heap.size wd W → W.cell? ⟨w4.heap.size, 0, none⟩ = some (.int .i64 x.id.1) ∧ W.cell? ⟨w4.heap.size, 1, none⟩ = some (.int .u64 (x.id.2 : Int)) ∧ W.cell? ⟨w4.heap.size, 2, none⟩ = some (.int .i64 x.kind) ∧ W.cell? ⟨w4.heap.size, 3, none⟩ = some (.slice ka x.keys.length kc) ∧ W.cell? ⟨w4.heap.size, 4, none⟩ = some (.int .u64 (x.token : Int)) ∧ W.cell? ⟨w4.heap.size, 5, none⟩ = some (.int .i64 x.ttl) ∧ W.cell? ⟨w4.heap.size, 6, none⟩ = some (.slice ga x.groups.length gc) ∧ W.cell? ⟨w4.heap.size, 7, none⟩ = some (.int .i64 x.state) ∧ W.cell? ⟨w4.heap.size, 8, none⟩ = some (.slice ya x.yes.length yc) ∧ W.cell? ⟨w4.heap.size, 9, none⟩ = some (.slice da x.done.length dc) ∧ W.cell? ⟨w4.heap.size, 10, none⟩ = some (.int .i64 x.code)) := fun W hW => cells11 ((hW.block _ (at_ltE PD)).trans PD)
              have hy0 : Below wd.heap.size wd wd := Below.refl _ _
              have yS0 : (fun W : World => (W.cell? ⟨w4.heap.size, 0, none⟩ = some (.int .i64 x.id.1) ∧ W.cell? ⟨w4.heap.size, 1, none⟩ = some (.int .u64 (x.id.2 : Int)) ∧ W.cell? ⟨w4.heap.size, 2, none⟩ = some (.int .i64 x.kind) ∧ W.cell? ⟨w4.heap.size, 3, none⟩ = some (.slice ka x.keys.length kc) ∧ W.cell? ⟨w4.heap.size, 4, none⟩ = some (.int .u64 (x.token : Int)) ∧ W.cell? ⟨w4.heap.size, 5, none⟩ = some (.int .i64 x.ttl) ∧ W.cell? ⟨w4.heap.size, 6, none⟩ = some (.slice ga x.groups.length gc) ∧ W.cell? ⟨w4.heap.size, 7, none⟩ = some (.int .i64 x.state) ∧ W.cell? ⟨w4.heap.size, 8, none⟩ = some (.slice ya x.yes.length yc) ∧ W.cell? ⟨w4.heap.size, 9, none⟩ = some (.slice da x.done.length dc) ∧ W.cell? ⟨w4.heap.size, 10, none⟩ = some (.int .i64 x.code)) ∧ Below wd.heap.size wd W) wd := ⟨cl.out _ hy0, hy0⟩
              have hwdH : Hid (wr.drew = wd) := hwd
              replace PD : Hid (wd.heap[w4.heap.size]? = some (.cells #[.int .i64 x.id.1, .int .u64 (x.id.2 : Int), .int .i64 x.kind, .slice ka x.keys.length kc, .int .u64 (x.token : Int), .int .i64 x.ttl, .slice ga x.groups.length gc, .int .i64 x.state, .slice ya x.yes.length yc, .slice da x.done.length dc, .int .i64 x.code] 29 (0, 0))) := PD
              replace OD : Hid (XO w0.heap.size wd ⟨x, (ka, kc), (ga, gc), (ya, yc), (da, dc)⟩) := OD
              replace hbd : Hid (Below w0.heap.size w0 wd) := hbd
              clear hwd PX OX hbl
              go_wp2_with fail
              refine wp_region_L (fun W : World => (W.cell? ⟨w4.heap.size, 0, none⟩ = some (.int .i64 x.id.1) ∧ W.cell? ⟨w4.heap.size, 1, none⟩ = some (.int .u64 (x.id.2 : Int)) ∧ W.cell? ⟨w4.heap.size, 2, none⟩ = some (.int .i64 x.kind) ∧ W.cell? ⟨w4.heap.size, 3, none⟩ = some (.slice ka x.keys.length kc) ∧ W.cell? ⟨w4.heap.size, 4, none⟩ = some (.int .u64 (x.token : Int)) ∧ W.cell? ⟨w4.heap.size, 5, none⟩ = some (.int .i64 x.ttl) ∧ W.cell? ⟨w4.heap.size, 6, none⟩ = some (.slice ga x.groups.length gc) ∧ W.cell? ⟨w4.heap.size, 7, none⟩ = some (.int .i64 x.state) ∧ W.cell? ⟨w4.heap.size, 8, none⟩ = some (.slice ya x.yes.length yc) ∧ W.cell? ⟨w4.heap.size, 9, none⟩ = some (.slice da x.done.length dc) ∧ W.cell? ⟨w4.heap.size, 10, none⟩ = some (.int .i64 x.code)) ∧ Below wd.heap.size wd W) [] (by kernel_rfl) ?_
              rw [hwdH.out]
              refine wpAnyL_take 0 rfl (by kernel_rfl) (by kernel_rfl) (by kernel_rfl) (by kernel_rfl) (fun _ _ _ h => h) (by kernel_rfl) (by intro w' hS'; obtain ⟨⟨x0, x1, x2, x3, x4, x5, x6, x7, x8, x9, x10⟩, xb⟩ := hS'; go_simp <;> rfl) yS0 ?_
              try simp only [List.getElem_toArray, List.getElem_cons_succ, List.getElem_cons_zero, Act.put, List.setIfInBounds_toArray, List.set_cons_zero, List.set_cons_succ]
              refine wpAnyL_take 2 rfl (by kernel_rfl) (by kernel_rfl) (by kernel_rfl) (by kernel_rfl) (fun _ _ _ h => h) (by kernel_rfl) (by intro w' hS'; obtain ⟨⟨x0, x1, x2, x3, x4, x5, x6, x7, x8, x9, x10⟩, xb⟩ := hS'; go_simp <;> rfl) yS0 ?_
              try simp only [List.getElem_toArray, List.getElem_cons_succ, List.getElem_cons_zero, Act.put, List.setIfInBounds_toArray, List.set_cons_zero, List.set_cons_succ]
              refine wpAnyL_one 1 (by kernel_rfl) rfl (by kernel_rfl) ?_
              intro K' hK'
              go_simp
              go_at_call 15
              refine (kAsk.out _ (XO.below OD.out hy0).xr).mono ?_
              rintro e wc1 ⟨u0, rfl, Q0, hbc⟩
              obtain ⟨pa, pc, rfl, -⟩ := Q0.1.shape
              have hy1 := hy0.trans (hbc.mono hy0.size)
              have yS1 : (fun W : World => (W.cell? ⟨w4.heap.size, 0, none⟩ = some (.int .i64 x.id.1) ∧ W.cell? ⟨w4.heap.size, 1, none⟩ = some (.int .u64 (x.id.2 : Int)) ∧ W.cell? ⟨w4.heap.size, 2, none⟩ = some (.int .i64 x.kind) ∧ W.cell? ⟨w4.heap.size, 3, none⟩ = some (.slice ka x.keys.length kc) ∧ W.cell? ⟨w4.heap.size, 4, none⟩ = some (.int .u64 (x.token : Int)) ∧ W.cell? ⟨w4.heap.size, 5, none⟩ = some (.int .i64 x.ttl) ∧ W.cell? ⟨w4.heap.size, 6, none⟩ = some (.slice ga x.groups.length gc) ∧ W.cell? ⟨w4.heap.size, 7, none⟩ = some (.int .i64 x.state) ∧ W.cell? ⟨w4.heap.size, 8, none⟩ = some (.slice ya x.yes.length yc) ∧ W.cell? ⟨w4.heap.size, 9, none⟩ = some (.slice da x.done.length dc) ∧ W.cell? ⟨w4.heap.size, 10, none⟩ = some (.int .i64 x.code)) ∧ Below wd.heap.size wd W) wc1 := ⟨cl.out _ hy1, hy1⟩
              have AR1 : Hid (Rd intE wc1 (.slice pa AL.length pc) AL) := Q0.1.rd
              clear hbc Q0 kAsk
              refine hK'.out _ _ (.inr yS1) ?_
              clear hK' K'
              try simp only [List.getElem_toArray, List.getElem_cons_succ, List.getElem_cons_zero, Act.put, List.setIfInBounds_toArray, List.set_cons_zero, List.set_cons_succ]
              refine wpAnyL_one 3 (by kernel_rfl) rfl (by kernel_rfl) ?_
              intro K' hK'
              go_simp
              go_at_call 17
              refine (kTel.out _ (XO.below OD.out hy1).xr).mono ?_
              rintro e wc2 ⟨u1, rfl, Q1, hbc⟩
              obtain ⟨qa, qc, rfl, -⟩ := Q1.1.shape
              have hy2 := hy1.trans (hbc.mono hy1.size)
              have yS2 : (fun W : World => (W.cell? ⟨w4.heap.size, 0, none⟩ = some (.int .i64 x.id.1) ∧ W.cell? ⟨w4.heap.size, 1, none⟩ = some (.int .u64 (x.id.2 : Int)) ∧ W.cell? ⟨w4.heap.size, 2, none⟩ = some (.int .i64 x.kind) ∧ W.cell? ⟨w4.heap.size, 3, none⟩ = some (.slice ka x.keys.length kc) ∧ W.cell? ⟨w4.heap.size, 4, none⟩ = some (.int .u64 (x.token : Int)) ∧ W.cell? ⟨w4.heap.size, 5, none⟩ = some (.int .i64 x.ttl) ∧ W.cell? ⟨w4.heap.size, 6, none⟩ = some (.slice ga x.groups.length gc) ∧ W.cell? ⟨w4.heap.size, 7, none⟩ = some (.int .i64 x.state) ∧ W.cell? ⟨w4.heap.size, 8, none⟩ = some (.slice ya x.yes.length yc) ∧ W.cell? ⟨w4.heap.size, 9, none⟩ = some (.slice da x.done.length dc) ∧ W.cell? ⟨w4.heap.size, 10, none⟩ = some (.int .i64 x.code)) ∧ Below wd.heap.size wd W) wc2 := ⟨cl.out _ hy2, hy2⟩
              have AR2 : Hid (Rd intE wc2 (.slice pa AL.length pc) AL) := Rd.below AR1.out hbc
              have AT2 : Hid (Rd intE wc2 (.slice qa ([] : List Int).length qc) ([] : List Int)) := Q1.1.rd
              clear hbc Q1 kTel
              refine hK'.out _ _ (.inr yS2) ?_
              clear hK' K'
              try simp only [List.getElem_toArray, List.getElem_cons_succ, List.getElem_cons_zero, Act.put, List.setIfInBounds_toArray, List.set_cons_zero, List.set_cons_succ]
              refine wpAnyL_take 4 rfl (by kernel_rfl) (by kernel_rfl) (by kernel_rfl) (by kernel_rfl) (fun _ _ _ h => h) (by kernel_rfl) (by intro w' hS'; obtain ⟨⟨x0, x1, x2, x3, x4, x5, x6, x7, x8, x9, x10⟩, xb⟩ := hS'; go_simp <;> rfl) yS2 ?_
              try simp only [List.getElem_toArray, List.getElem_cons_succ, List.getElem_cons_zero, Act.put, List.setIfInBounds_toArray, List.set_cons_zero, List.set_cons_succ]
              refine wpAnyL_take 5 rfl (by kernel_rfl) (by kernel_rfl) (by kernel_rfl) (by kernel_rfl) (fun _ _ _ h => h) (by kernel_rfl) (by intro w' hS'; obtain ⟨⟨x0, x1, x2, x3, x4, x5, x6, x7, x8, x9, x10⟩, xb⟩ := hS'; go_simp <;> rfl) yS2 ?_
              try simp only [List.getElem_toArray, List.getElem_cons_succ, List.getElem_cons_zero, Act.put, List.setIfInBounds_toArray, List.set_cons_zero, List.set_cons_succ]
              refine wpAnyL_done (by kernel_rfl) (NoPanic.normal ?_) _
              have hb2 : Below w0.heap.size w0 wc2 := hbd.out.trans (hy2.mono hbd.out.size)
              have P2 := (hy2.block _ (at_ltE PD.out)).trans PD.out
              have O2 := XO.below OD.out hy2
              obtain ⟨-, -, -, a0, a1⟩ := HI.out _ hb2
              replace P2 : Hid (wc2.heap[w4.heap.size]? = some (.cells #[.int .i64 x.id.1, .int .u64 (x.id.2 : Int), .int .i64 x.kind, .slice ka x.keys.length kc, .int .u64 (x.token : Int), .int .i64 x.ttl, .slice ga x.groups.length gc, .int .i64 x.state, .slice ya x.yes.length yc, .slice da x.done.length dc, .int .i64 x.code] 29 (0, 0))) := P2
              replace O2 : Hid (XO w0.heap.size wc2 ⟨x, (ka, kc), (ga, gc), (ya, yc), (da, dc)⟩) := O2
              replace hb2 : Hid (Below w0.heap.size w0 wc2) := hb2
              obtain ⟨bb, off, rfl, hel⟩ := rdi_at AR2.out hAL.out
              have e0 : Hid (∀ W, Below wc2.heap.size wc2 W → W.cell? ⟨bb, off, none⟩ = some (.int .i64 g)) := fun W hW => hel W hW
              have e00 := e0.out wc2 (Below.refl _ _)
              have hg1 : 1 ≤ g := hg12.out.1
              have hg2 : g ≤ 16 := hg12.out.2
              have j1 : IntKind.i64.wrap (g - 1) = g - 1 := IntWalk.i64_in _ (by omega)
              have j2 : IntKind.u64.wrap (g - 1) = g - 1 := IntWalk.u64_in _ (by omega)
              have hbd2 := bit_int b g
              have hA := hA.out
              have hgx := hgx.out
              clear hel yS0 yS1 yS2 hy0 hy1 hy2 cl PD OD hbd AR1
              cases hbit : bitB b g with
              | false =>
                rw [hbit] at hbd2
                obtain ⟨y, hy, hPy⟩ := ask_yes hA hgx hbit
                replace hPy : Hid (AskP G b y (n + 1) ∨ TelP G b y (n + 1)) := hPy
                have kV : Hid (∀ W, XR W ⟨x, (ka, kc), (ga, gc), (ya, yc), (da, dc)⟩ → _) := fun W h => voted_m ⟨x, (ka, kc), (ga, gc), (ya, yc), (da, dc)⟩ g 0 W h gl.out.1 gl.out.2.1 gl.out.2.2.1 gl.out.2.2.2
                try dsimp only at kV
                rw [hy] at kV
                dsimp only [xv] at kV
                clear hy hbit hA hgx hAL hg12 hst AR2 AT2
                go_wp2
                go_quiet (fail)
                go_wp2
                obtain ⟨wE, hwE⟩ : ∃ W, (wc2.drewN nq).drew = W := ⟨_, rfl⟩
                have hE : Below wc2.heap.size wc2 wE := by rw [← hwE]; exact (below_drewN (Below.refl _ _) nq).drew
                have PE : Hid (wE.heap[w4.heap.size]? = some (.cells #[.int .i64 x.id.1, .int .u64 (x.id.2 : Int), .int .i64 x.kind, .slice ka x.keys.length kc, .int .u64 (x.token : Int), .int .i64 x.ttl, .slice ga x.groups.length gc, .int .i64 x.state, .slice ya x.yes.length yc, .slice da x.done.length dc, .int .i64 x.code] 29 (0, 0))) := (hE.block _ (at_ltE P2.out)).trans P2.out
                have OE : Hid (XO w0.heap.size wE ⟨x, (ka, kc), (ga, gc), (ya, yc), (da, dc)⟩) := XO.below O2.out hE
                have hbE : Hid (Below w0.heap.size w0 wE) := hb2.out.trans (hE.mono hb2.out.size)
                have clE : Hid (∀ W, Below wE.heap.size wE W → (W.cell? ⟨w4.heap.size, 0, none⟩ = some (.int .i64 x.id.1) ∧ W.cell? ⟨w4.heap.size, 1, none⟩ = some (.int .u64 (x.id.2 : Int)) ∧ W.cell? ⟨w4.heap.size, 2, none⟩ = some (.int .i64 x.kind) ∧ W.cell? ⟨w4.heap.size, 3, none⟩ = some (.slice ka x.keys.length kc) ∧ W.cell? ⟨w4.heap.size, 4, none⟩ = some (.int .u64 (x.token : Int)) ∧ W.cell? ⟨w4.heap.size, 5, none⟩ = some (.int .i64 x.ttl) ∧ W.cell? ⟨w4.heap.size, 6, none⟩ = some (.slice ga x.groups.length gc) ∧ W.cell? ⟨w4.heap.size, 7, none⟩ = some (.int .i64 x.state) ∧ W.cell? ⟨w4.heap.size, 8, none⟩ = some (.slice ya x.yes.length yc) ∧ W.cell? ⟨w4.heap.size, 9, none⟩ = some (.slice da x.done.length dc) ∧ W.cell? ⟨w4.heap.size, 10, none⟩ = some (.int .i64 x.code)) ∧ W.cell? ⟨bb, off, none⟩ = some (.int .i64 g)) := fun W hW => ⟨cells11 ((hW.block _ (at_ltE PE.out)).trans PE.out), e0.out W (hE.trans (hW.mono hE.size))⟩
                have y0 : (fun W : World => ((W.cell? ⟨w4.heap.size, 0, none⟩ = some (.int .i64 x.id.1) ∧ W.cell? ⟨w4.heap.size, 1, none⟩ = some (.int .u64 (x.id.2 : Int)) ∧ W.cell? ⟨w4.heap.size, 2, none⟩ = some (.int .i64 x.kind) ∧ W.cell? ⟨w4.heap.size, 3, none⟩ = some (.slice ka x.keys.length kc) ∧ W.cell? ⟨w4.heap.size, 4, none⟩ = some (.int .u64 (x.token : Int)) ∧ W.cell? ⟨w4.heap.size, 5, none⟩ = some (.int .i64 x.ttl) ∧ W.cell? ⟨w4.heap.size, 6, none⟩ = some (.slice ga x.groups.length gc) ∧ W.cell? ⟨w4.heap.size, 7, none⟩ = some (.int .i64 x.state) ∧ W.cell? ⟨w4.heap.size, 8, none⟩ = some (.slice ya x.yes.length yc) ∧ W.cell? ⟨w4.heap.size, 9, none⟩ = some (.slice da x.done.length dc) ∧ W.cell? ⟨w4.heap.size, 10, none⟩ = some (.int .i64 x.code)) ∧ W.cell? ⟨bb, off, none⟩ = some (.int .i64 g)) ∧ Below wE.heap.size wE W) wE := ⟨clE.out _ (Below.refl _ _), Below.refl _ _⟩
                clear hE P2 O2 hb2
                refine wp_region_L (fun W : World => ((W.cell? ⟨w4.heap.size, 0, none⟩ = some (.int .i64 x.id.1) ∧ W.cell? ⟨w4.heap.size, 1, none⟩ = some (.int .u64 (x.id.2 : Int)) ∧ W.cell? ⟨w4.heap.size, 2, none⟩ = some (.int .i64 x.kind) ∧ W.cell? ⟨w4.heap.size, 3, none⟩ = some (.slice ka x.keys.length kc) ∧ W.cell? ⟨w4.heap.size, 4, none⟩ = some (.int .u64 (x.token : Int)) ∧ W.cell? ⟨w4.heap.size, 5, none⟩ = some (.int .i64 x.ttl) ∧ W.cell? ⟨w4.heap.size, 6, none⟩ = some (.slice ga x.groups.length gc) ∧ W.cell? ⟨w4.heap.size, 7, none⟩ = some (.int .i64 x.state) ∧ W.cell? ⟨w4.heap.size, 8, none⟩ = some (.slice ya x.yes.length yc) ∧ W.cell? ⟨w4.heap.size, 9, none⟩ = some (.slice da x.done.length dc) ∧ W.cell? ⟨w4.heap.size, 10, none⟩ = some (.int .i64 x.code)) ∧ W.cell? ⟨bb, off, none⟩ = some (.int .i64 g)) ∧ Below wE.heap.size wE W) [8, 9, 10] (by kernel_rfl) ?_
                rw [hwE]
                clear hwE
                refine wpAnyL_takeU 0 [0, 5, 6, 7] rfl (by kernel_rfl) (by kernel_rfl) (by kernel_rfl) (by kernel_rfl) (fun _ _ _ h => h) (by kernel_rfl) (by intro w' hS'; obtain ⟨⟨⟨x0, x1, x2, x3, x4, x5, x6, x7, x8, x9, x10⟩, xe⟩, xb⟩ := hS'; go_simp <;> rfl) y0 ?_
                try simp only [List.getElem_toArray, List.getElem_cons_succ, List.getElem_cons_zero, Act.put, List.setIfInBounds_toArray, List.set_cons_zero, List.set_cons_succ]
                refine wpAnyL_takeU 1 [1, 2, 3, 5, 6, 7] rfl (by kernel_rfl) (by kernel_rfl) (by kernel_rfl) (by kernel_rfl) (fun _ _ _ h => h) (by kernel_rfl) (by intro w' hS'; obtain ⟨⟨⟨x0, x1, x2, x3, x4, x5, x6, x7, x8, x9, x10⟩, xe⟩, xb⟩ := hS'; go_simp <;> rfl) y0 ?_
                try simp only [List.getElem_toArray, List.getElem_cons_succ, List.getElem_cons_zero, Act.put, List.setIfInBounds_toArray, List.set_cons_zero, List.set_cons_succ]
                refine wpAnyL_takeU 2 [2, 3, 5, 6, 7] rfl (by kernel_rfl) (by kernel_rfl) (by kernel_rfl) (by kernel_rfl) (fun _ _ _ h => h) (by kernel_rfl) (by intro w' hS'; obtain ⟨⟨⟨x0, x1, x2, x3, x4, x5, x6, x7, x8, x9, x10⟩, xe⟩, xb⟩ := hS'; go_simp <;> rfl) y0 ?_
                try simp only [List.getElem_toArray, List.getElem_cons_succ, List.getElem_cons_zero, Act.put, List.setIfInBounds_toArray, List.set_cons_zero, List.set_cons_succ]
                refine wpAnyL_takeU 3 [3, 5, 6, 7] rfl (by kernel_rfl) (by kernel_rfl) (by kernel_rfl) (by kernel_rfl) (fun _ _ _ h => h) (by kernel_rfl) (by intro w' hS'; obtain ⟨⟨⟨x0, x1, x2, x3, x4, x5, x6, x7, x8, x9, x10⟩, xe⟩, xb⟩ := hS'; go_simp <;> rfl) y0 ?_
                try simp only [List.getElem_toArray, List.getElem_cons_succ, List.getElem_cons_zero, Act.put, List.setIfInBounds_toArray, List.set_cons_zero, List.set_cons_succ]
                refine wpAnyL_takeU 4 [4, 5, 6, 7] rfl (by kernel_rfl) (by kernel_rfl) (by kernel_rfl) (by kernel_rfl) (fun _ _ _ h => h) (by kernel_rfl) (by intro w' hS'; obtain ⟨⟨⟨x0, x1, x2, x3, x4, x5, x6, x7, x8, x9, x10⟩, xe⟩, xb⟩ := hS'; go_simp <;> rfl) y0 ?_
                try simp only [List.getElem_toArray, List.getElem_cons_succ, List.getElem_cons_zero, Act.put, List.setIfInBounds_toArray, List.set_cons_zero, List.set_cons_succ]
                refine wpAnyL_one 5 (by kernel_rfl) rfl (by kernel_rfl) ?_
                intro K' hK'
                go_simp
                go_at_call 26
                refine (kV.out wE OE.out.xr).mono ?_
                rintro e wv ⟨⟨⟨ka1, kc1⟩, ⟨ga1, gc1⟩, ⟨ya1, yc1⟩, ⟨da1, dc1⟩, rfl, OY⟩, hbc⟩
                have y1 : (fun W : World => ((W.cell? ⟨w4.heap.size, 0, none⟩ = some (.int .i64 x.id.1) ∧ W.cell? ⟨w4.heap.size, 1, none⟩ = some (.int .u64 (x.id.2 : Int)) ∧ W.cell? ⟨w4.heap.size, 2, none⟩ = some (.int .i64 x.kind) ∧ W.cell? ⟨w4.heap.size, 3, none⟩ = some (.slice ka x.keys.length kc) ∧ W.cell? ⟨w4.heap.size, 4, none⟩ = some (.int .u64 (x.token : Int)) ∧ W.cell? ⟨w4.heap.size, 5, none⟩ = some (.int .i64 x.ttl) ∧ W.cell? ⟨w4.heap.size, 6, none⟩ = some (.slice ga x.groups.length gc) ∧ W.cell? ⟨w4.heap.size, 7, none⟩ = some (.int .i64 x.state) ∧ W.cell? ⟨w4.heap.size, 8, none⟩ = some (.slice ya x.yes.length yc) ∧ W.cell? ⟨w4.heap.size, 9, none⟩ = some (.slice da x.done.length dc) ∧ W.cell? ⟨w4.heap.size, 10, none⟩ = some (.int .i64 x.code)) ∧ W.cell? ⟨bb, off, none⟩ = some (.int .i64 g)) ∧ Below wE.heap.size wE W) wv := ⟨clE.out _ hbc, hbc⟩
                have PV : wv.heap[w4.heap.size]? = some (.cells #[.int .i64 x.id.1, .int .u64 (x.id.2 : Int), .int .i64 x.kind, .slice ka x.keys.length kc, .int .u64 (x.token : Int), .int .i64 x.ttl, .slice ga x.groups.length gc, .int .i64 x.state, .slice ya x.yes.length yc, .slice da x.done.length dc, .int .i64 x.code] 29 (0, 0)) := (hbc.block _ (at_ltE PE.out)).trans PE.out
                have hbV := hbE.out.trans (hbc.mono hbE.out.size)
                have PN : Hid ((wv.setRow w4.heap.size #[.int .i64 y.id.1, .int .u64 (y.id.2 : Int), .int .i64 y.kind, .slice ka1 y.keys.length kc1, .int .u64 (y.token : Int), .int .i64 y.ttl, .slice ga1 y.groups.length gc1, .int .i64 y.state, .slice ya1 y.yes.length yc1, .slice da1 y.done.length dc1, .int .i64 y.code]).heap[w4.heap.size]? = some (.cells #[.int .i64 y.id.1, .int .u64 (y.id.2 : Int), .int .i64 y.kind, .slice ka1 y.keys.length kc1, .int .u64 (y.token : Int), .int .i64 y.ttl, .slice ga1 y.groups.length gc1, .int .i64 y.state, .slice ya1 y.yes.length yc1, .slice da1 y.done.length dc1, .int .i64 y.code] 29 (0, 0))) := setRow_heap _ _ _ _ _ _ PV
                have hbN : Hid (Below w0.heap.size w0 (wv.setRow w4.heap.size #[.int .i64 y.id.1, .int .u64 (y.id.2 : Int), .int .i64 y.kind, .slice ka1 y.keys.length kc1, .int .u64 (y.token : Int), .int .i64 y.ttl, .slice ga1 y.groups.length gc1, .int .i64 y.state, .slice ya1 y.yes.length yc1, .slice da1 y.done.length dc1, .int .i64 y.code])) := below_rowE hbV hNB.out _
                have ON : Hid (XO w0.heap.size (wv.setRow w4.heap.size #[.int .i64 y.id.1, .int .u64 (y.id.2 : Int), .int .i64 y.kind, .slice ka1 y.keys.length kc1, .int .u64 (y.token : Int), .int .i64 y.ttl, .slice ga1 y.groups.length gc1, .int .i64 y.state, .slice ya1 y.yes.length yc1, .slice da1 y.done.length dc1, .int .i64 y.code]) ⟨y, (ka1, kc1), (ga1, gc1), (ya1, yc1), (da1, dc1)⟩) := XO.at_other (OY.mono hbE.out.size) PV (fun k hk => setRow_other _ _ _ _ hk)
                clear hbc OY hbV
                refine hK'.out _ _ (.inr y1) ?_
                clear hK' K'
                try simp only [List.getElem_toArray, List.getElem_cons_succ, List.getElem_cons_zero, Act.put, List.setIfInBounds_toArray, List.set_cons_zero, List.set_cons_succ]
                refine wpAnyL_takeU 6 [6, 7] rfl (by kernel_rfl) (by kernel_rfl) (by kernel_rfl) (by kernel_rfl) (fun _ _ _ h => h) (by kernel_rfl) (by intro w' hS'; go_simp <;> rfl) y1 ?_
                try simp only [List.getElem_toArray, List.getElem_cons_succ, List.getElem_cons_zero, Act.put, List.setIfInBounds_toArray, List.set_cons_zero, List.set_cons_succ]
                refine wpAnyL_two 7 8 (by kernel_rfl) rfl rfl (by kernel_rfl) (by kernel_rfl) ?_ ?_
                · intro K' hK'
                  go_simp
                  refine hK'.out _ _ (.inr y1) ?_
                  clear hK' K'
                  try simp only [List.getElem_toArray, List.getElem_cons_succ, List.getElem_cons_zero, Act.put, List.setIfInBounds_toArray, List.set_cons_zero, List.set_cons_succ]
                  refine wpAnyL_two 8 9 (by kernel_rfl) rfl rfl (by kernel_rfl) (by kernel_rfl) ?_ ?_
                  · intro K' hK'
                    go_simp
                    refine hK'.out _ _ (.inl (by decide)) ?_
                    clear hK' K'
                    try simp only [List.getElem_toArray, List.getElem_cons_succ, List.getElem_cons_zero, Act.put, List.setIfInBounds_toArray, List.set_cons_zero, List.set_cons_succ]
                    refine wpAnyL_one 9 (by kernel_rfl) rfl (by kernel_rfl) ?_
                    intro K' hK'
                    refine wp_store_row 29 _ _ rfl (w4.heap.size) #[.int .i64 y.id.1, .int .u64 (y.id.2 : Int), .int .i64 y.kind, .slice ka1 y.keys.length kc1, .int .u64 (y.token : Int), .int .i64 y.ttl, .slice ga1 y.groups.length gc1, .int .i64 y.state, .slice ya1 y.yes.length yc1, .slice da1 y.done.length dc1, .int .i64 y.code] rfl rfl _ _ PV (by kernel_rfl) rfl (by simp [Value.oneCell']) ?_
                    refine hK'.out _ _ (.inl (by decide)) ?_
                    clear hK' K'
                    try simp only [List.getElem_toArray, List.getElem_cons_succ, List.getElem_cons_zero, Act.put, List.setIfInBounds_toArray, List.set_cons_zero, List.set_cons_succ]
                    refine wpAnyL_one 10 (by kernel_rfl) rfl (by kernel_rfl) ?_
                    intro K' hK'
                    go_simp
                    refine hK'.out _ _ (.inl (by decide)) ?_
                    clear hK' K'
                    try simp only [List.getElem_toArray, List.getElem_cons_succ, List.getElem_cons_zero, Act.put, List.setIfInBounds_toArray, List.set_cons_zero, List.set_cons_succ]
                    refine wpAnyL_done (by kernel_rfl) (NoPanic.normal ?_) _
                    go_wp2
                    go_roundg (gk - 1)
                    case measure => have := HNG.out; have := hn40H.out; omega
                    case rel => exact ⟨n + 1, y, ka1, kc1, ga1, gc1, ya1, yc1, da1, dc1, by have := HNG.out; have := hn40H.out; omega, rfl, by have := hn40H.out; go_num, PN, ON, hbN, hPy⟩
                  · intro K' hK'
                    refine wp_store_row 29 _ _ rfl (w4.heap.size) #[.int .i64 y.id.1, .int .u64 (y.id.2 : Int), .int .i64 y.kind, .slice ka1 y.keys.length kc1, .int .u64 (y.token : Int), .int .i64 y.ttl, .slice ga1 y.groups.length gc1, .int .i64 y.state, .slice ya1 y.yes.length yc1, .slice da1 y.done.length dc1, .int .i64 y.code] rfl rfl _ _ PV (by kernel_rfl) rfl (by simp [Value.oneCell']) ?_
                    refine hK'.out _ _ (.inl (by decide)) ?_
                    clear hK' K'
                    try simp only [List.getElem_toArray, List.getElem_cons_succ, List.getElem_cons_zero, Act.put, List.setIfInBounds_toArray, List.set_cons_zero, List.set_cons_succ]
                    refine wpAnyL_one 8 (by kernel_rfl) rfl (by kernel_rfl) ?_
                    intro K' hK'
                    go_simp
                    refine hK'.out _ _ (.inl (by decide)) ?_
                    clear hK' K'
                    try simp only [List.getElem_toArray, List.getElem_cons_succ, List.getElem_cons_zero, Act.put, List.setIfInBounds_toArray, List.set_cons_zero, List.set_cons_succ]
                    refine wpAnyL_one 10 (by kernel_rfl) rfl (by kernel_rfl) ?_
                    intro K' hK'
                    go_simp
                    refine hK'.out _ _ (.inl (by decide)) ?_
                    clear hK' K'
                    try simp only [List.getElem_toArray, List.getElem_cons_succ, List.getElem_cons_zero, Act.put, List.setIfInBounds_toArray, List.set_cons_zero, List.set_cons_succ]
                    refine wpAnyL_done (by kernel_rfl) (NoPanic.normal ?_) _
                    go_wp2
                    go_roundg (gk - 1)
                    case measure => have := HNG.out; have := hn40H.out; omega
                    case rel => exact ⟨n + 1, y, ka1, kc1, ga1, gc1, ya1, yc1, da1, dc1, by have := HNG.out; have := hn40H.out; omega, rfl, by have := hn40H.out; go_num, PN, ON, hbN, hPy⟩
                · intro K' hK'
                  go_simp
                  refine hK'.out _ _ (.inl (by decide)) ?_
                  clear hK' K'
                  try simp only [List.getElem_toArray, List.getElem_cons_succ, List.getElem_cons_zero, Act.put, List.setIfInBounds_toArray, List.set_cons_zero, List.set_cons_succ]
                  refine wpAnyL_one 7 (by kernel_rfl) rfl (by kernel_rfl) ?_
                  intro K' hK'
                  go_simp
                  refine hK'.out _ _ (.inr y1) ?_
                  clear hK' K'
                  try simp only [List.getElem_toArray, List.getElem_cons_succ, List.getElem_cons_zero, Act.put, List.setIfInBounds_toArray, List.set_cons_zero, List.set_cons_succ]
                  refine wpAnyL_one 9 (by kernel_rfl) rfl (by kernel_rfl) ?_
                  intro K' hK'
                  refine wp_store_row 29 _ _ rfl (w4.heap.size) #[.int .i64 y.id.1, .int .u64 (y.id.2 : Int), .int .i64 y.kind, .slice ka1 y.keys.length kc1, .int .u64 (y.token : Int), .int .i64 y.ttl, .slice ga1 y.groups.length gc1, .int .i64 y.state, .slice ya1 y.yes.length yc1, .slice da1 y.done.length dc1, .int .i64 y.code] rfl rfl _ _ PV (by kernel_rfl) rfl (by simp [Value.oneCell']) ?_
                  refine hK'.out _ _ (.inl (by decide)) ?_
                  clear hK' K'
                  try simp only [List.getElem_toArray, List.getElem_cons_succ, List.getElem_cons_zero, Act.put, List.setIfInBounds_toArray, List.set_cons_zero, List.set_cons_succ]
                  refine wpAnyL_one 10 (by kernel_rfl) rfl (by kernel_rfl) ?_
                  intro K' hK'
                  go_simp
                  refine hK'.out _ _ (.inl (by decide)) ?_
                  clear hK' K'
                  try simp only [List.getElem_toArray, List.getElem_cons_succ, List.getElem_cons_zero, Act.put, List.setIfInBounds_toArray, List.set_cons_zero, List.set_cons_succ]
                  refine wpAnyL_done (by kernel_rfl) (NoPanic.normal ?_) _
                  go_wp2
                  go_roundg (gk - 1)
                  case measure => have := HNG.out; have := hn40H.out; omega
                  case rel => exact ⟨n + 1, y, ka1, kc1, ga1, gc1, ya1, yc1, da1, dc1, by have := HNG.out; have := hn40H.out; omega, rfl, by have := hn40H.out; go_num, PN, ON, hbN, hPy⟩
              | true =>
                rw [hbit] at hbd2
                obtain ⟨y, hy, hPy⟩ := ask_no hA hgx hbit
                replace hPy : Hid (AskP G b y (n + 1) ∨ TelP G b y (n + 1)) := hPy
                have kV : Hid (∀ W, XR W ⟨x, (ka, kc), (ga, gc), (ya, yc), (da, dc)⟩ → _) := fun W h => voted_m ⟨x, (ka, kc), (ga, gc), (ya, yc), (da, dc)⟩ g 8 W h gl.out.1 gl.out.2.1 gl.out.2.2.1 gl.out.2.2.2
                try dsimp only at kV
                rw [hy] at kV
                dsimp only [xv] at kV
                clear hy hbit hA hgx hAL hg12 hst AR2 AT2
                go_wp2
                go_quiet (fail)
                go_wp2
                obtain ⟨wE, hwE⟩ : ∃ W, (wc2.drewN nq).drew = W := ⟨_, rfl⟩
                have hE : Below wc2.heap.size wc2 wE := by rw [← hwE]; exact (below_drewN (Below.refl _ _) nq).drew
                have PE : Hid (wE.heap[w4.heap.size]? = some (.cells #[.int .i64 x.id.1, .int .u64 (x.id.2 : Int), .int .i64 x.kind, .slice ka x.keys.length kc, .int .u64 (x.token : Int), .int .i64 x.ttl, .slice ga x.groups.length gc, .int .i64 x.state, .slice ya x.yes.length yc, .slice da x.done.length dc, .int .i64 x.code] 29 (0, 0))) := (hE.block _ (at_ltE P2.out)).trans P2.out
                have OE : Hid (XO w0.heap.size wE ⟨x, (ka, kc), (ga, gc), (ya, yc), (da, dc)⟩) := XO.below O2.out hE
                have hbE : Hid (Below w0.heap.size w0 wE) := hb2.out.trans (hE.mono hb2.out.size)
                have clE : Hid (∀ W, Below wE.heap.size wE W → (W.cell? ⟨w4.heap.size, 0, none⟩ = some (.int .i64 x.id.1) ∧ W.cell? ⟨w4.heap.size, 1, none⟩ = some (.int .u64 (x.id.2 : Int)) ∧ W.cell? ⟨w4.heap.size, 2, none⟩ = some (.int .i64 x.kind) ∧ W.cell? ⟨w4.heap.size, 3, none⟩ = some (.slice ka x.keys.length kc) ∧ W.cell? ⟨w4.heap.size, 4, none⟩ = some (.int .u64 (x.token : Int)) ∧ W.cell? ⟨w4.heap.size, 5, none⟩ = some (.int .i64 x.ttl) ∧ W.cell? ⟨w4.heap.size, 6, none⟩ = some (.slice ga x.groups.length gc) ∧ W.cell? ⟨w4.heap.size, 7, none⟩ = some (.int .i64 x.state) ∧ W.cell? ⟨w4.heap.size, 8, none⟩ = some (.slice ya x.yes.length yc) ∧ W.cell? ⟨w4.heap.size, 9, none⟩ = some (.slice da x.done.length dc) ∧ W.cell? ⟨w4.heap.size, 10, none⟩ = some (.int .i64 x.code)) ∧ W.cell? ⟨bb, off, none⟩ = some (.int .i64 g)) := fun W hW => ⟨cells11 ((hW.block _ (at_ltE PE.out)).trans PE.out), e0.out W (hE.trans (hW.mono hE.size))⟩
                have y0 : (fun W : World => ((W.cell? ⟨w4.heap.size, 0, none⟩ = some (.int .i64 x.id.1) ∧ W.cell? ⟨w4.heap.size, 1, none⟩ = some (.int .u64 (x.id.2 : Int)) ∧ W.cell? ⟨w4.heap.size, 2, none⟩ = some (.int .i64 x.kind) ∧ W.cell? ⟨w4.heap.size, 3, none⟩ = some (.slice ka x.keys.length kc) ∧ W.cell? ⟨w4.heap.size, 4, none⟩ = some (.int .u64 (x.token : Int)) ∧ W.cell? ⟨w4.heap.size, 5, none⟩ = some (.int .i64 x.ttl) ∧ W.cell? ⟨w4.heap.size, 6, none⟩ = some (.slice ga x.groups.length gc) ∧ W.cell? ⟨w4.heap.size, 7, none⟩ = some (.int .i64 x.state) ∧ W.cell? ⟨w4.heap.size, 8, none⟩ = some (.slice ya x.yes.length yc) ∧ W.cell? ⟨w4.heap.size, 9, none⟩ = some (.slice da x.done.length dc) ∧ W.cell? ⟨w4.heap.size, 10, none⟩ = some (.int .i64 x.code)) ∧ W.cell? ⟨bb, off, none⟩ = some (.int .i64 g)) ∧ Below wE.heap.size wE W) wE := ⟨clE.out _ (Below.refl _ _), Below.refl _ _⟩
                clear hE P2 O2 hb2
                refine wp_region_L (fun W : World => ((W.cell? ⟨w4.heap.size, 0, none⟩ = some (.int .i64 x.id.1) ∧ W.cell? ⟨w4.heap.size, 1, none⟩ = some (.int .u64 (x.id.2 : Int)) ∧ W.cell? ⟨w4.heap.size, 2, none⟩ = some (.int .i64 x.kind) ∧ W.cell? ⟨w4.heap.size, 3, none⟩ = some (.slice ka x.keys.length kc) ∧ W.cell? ⟨w4.heap.size, 4, none⟩ = some (.int .u64 (x.token : Int)) ∧ W.cell? ⟨w4.heap.size, 5, none⟩ = some (.int .i64 x.ttl) ∧ W.cell? ⟨w4.heap.size, 6, none⟩ = some (.slice ga x.groups.length gc) ∧ W.cell? ⟨w4.heap.size, 7, none⟩ = some (.int .i64 x.state) ∧ W.cell? ⟨w4.heap.size, 8, none⟩ = some (.slice ya x.yes.length yc) ∧ W.cell? ⟨w4.heap.size, 9, none⟩ = some (.slice da x.done.length dc) ∧ W.cell? ⟨w4.heap.size, 10, none⟩ = some (.int .i64 x.code)) ∧ W.cell? ⟨bb, off, none⟩ = some (.int .i64 g)) ∧ Below wE.heap.size wE W) [8, 9, 10] (by kernel_rfl) ?_
                rw [hwE]
                clear hwE
                refine wpAnyL_takeU 0 [0, 5, 6, 7] rfl (by kernel_rfl) (by kernel_rfl) (by kernel_rfl) (by kernel_rfl) (fun _ _ _ h => h) (by kernel_rfl) (by intro w' hS'; obtain ⟨⟨⟨x0, x1, x2, x3, x4, x5, x6, x7, x8, x9, x10⟩, xe⟩, xb⟩ := hS'; go_simp <;> rfl) y0 ?_
                try simp only [List.getElem_toArray, List.getElem_cons_succ, List.getElem_cons_zero, Act.put, List.setIfInBounds_toArray, List.set_cons_zero, List.set_cons_succ]
                refine wpAnyL_takeU 1 [1, 2, 3, 5, 6, 7] rfl (by kernel_rfl) (by kernel_rfl) (by kernel_rfl) (by kernel_rfl) (fun _ _ _ h => h) (by kernel_rfl) (by intro w' hS'; obtain ⟨⟨⟨x0, x1, x2, x3, x4, x5, x6, x7, x8, x9, x10⟩, xe⟩, xb⟩ := hS'; go_simp <;> rfl) y0 ?_
                try simp only [List.getElem_toArray, List.getElem_cons_succ, List.getElem_cons_zero, Act.put, List.setIfInBounds_toArray, List.set_cons_zero, List.set_cons_succ]
                refine wpAnyL_takeU 2 [2, 3, 5, 6, 7] rfl (by kernel_rfl) (by kernel_rfl) (by kernel_rfl) (by kernel_rfl) (fun _ _ _ h => h) (by kernel_rfl) (by intro w' hS'; obtain ⟨⟨⟨x0, x1, x2, x3, x4, x5, x6, x7, x8, x9, x10⟩, xe⟩, xb⟩ := hS'; go_simp <;> rfl) y0 ?_
                try simp only [List.getElem_toArray, List.getElem_cons_succ, List.getElem_cons_zero, Act.put, List.setIfInBounds_toArray, List.set_cons_zero, List.set_cons_succ]
                refine wpAnyL_takeU 3 [3, 5, 6, 7] rfl (by kernel_rfl) (by kernel_rfl) (by kernel_rfl) (by kernel_rfl) (fun _ _ _ h => h) (by kernel_rfl) (by intro w' hS'; obtain ⟨⟨⟨x0, x1, x2, x3, x4, x5, x6, x7, x8, x9, x10⟩, xe⟩, xb⟩ := hS'; go_simp <;> rfl) y0 ?_
                try simp only [List.getElem_toArray, List.getElem_cons_succ, List.getElem_cons_zero, Act.put, List.setIfInBounds_toArray, List.set_cons_zero, List.set_cons_succ]
                refine wpAnyL_takeU 4 [4, 5, 6, 7] rfl (by kernel_rfl) (by kernel_rfl) (by kernel_rfl) (by kernel_rfl) (fun _ _ _ h => h) (by kernel_rfl) (by intro w' hS'; obtain ⟨⟨⟨x0, x1, x2, x3, x4, x5, x6, x7, x8, x9, x10⟩, xe⟩, xb⟩ := hS'; go_simp <;> rfl) y0 ?_
                try simp only [List.getElem_toArray, List.getElem_cons_succ, List.getElem_cons_zero, Act.put, List.setIfInBounds_toArray, List.set_cons_zero, List.set_cons_succ]
                refine wpAnyL_one 5 (by kernel_rfl) rfl (by kernel_rfl) ?_
                intro K' hK'
                go_simp
                go_at_call 26
                refine (kV.out wE OE.out.xr).mono ?_
                rintro e wv ⟨⟨⟨ka1, kc1⟩, ⟨ga1, gc1⟩, ⟨ya1, yc1⟩, ⟨da1, dc1⟩, rfl, OY⟩, hbc⟩
                have y1 : (fun W : World => ((W.cell? ⟨w4.heap.size, 0, none⟩ = some (.int .i64 x.id.1) ∧ W.cell? ⟨w4.heap.size, 1, none⟩ = some (.int .u64 (x.id.2 : Int)) ∧ W.cell? ⟨w4.heap.size, 2, none⟩ = some (.int .i64 x.kind) ∧ W.cell? ⟨w4.heap.size, 3, none⟩ = some (.slice ka x.keys.length kc) ∧ W.cell? ⟨w4.heap.size, 4, none⟩ = some (.int .u64 (x.token : Int)) ∧ W.cell? ⟨w4.heap.size, 5, none⟩ = some (.int .i64 x.ttl) ∧ W.cell? ⟨w4.heap.size, 6, none⟩ = some (.slice ga x.groups.length gc) ∧ W.cell? ⟨w4.heap.size, 7, none⟩ = some (.int .i64 x.state) ∧ W.cell? ⟨w4.heap.size, 8, none⟩ = some (.slice ya x.yes.length yc) ∧ W.cell? ⟨w4.heap.size, 9, none⟩ = some (.slice da x.done.length dc) ∧ W.cell? ⟨w4.heap.size, 10, none⟩ = some (.int .i64 x.code)) ∧ W.cell? ⟨bb, off, none⟩ = some (.int .i64 g)) ∧ Below wE.heap.size wE W) wv := ⟨clE.out _ hbc, hbc⟩
                have PV : wv.heap[w4.heap.size]? = some (.cells #[.int .i64 x.id.1, .int .u64 (x.id.2 : Int), .int .i64 x.kind, .slice ka x.keys.length kc, .int .u64 (x.token : Int), .int .i64 x.ttl, .slice ga x.groups.length gc, .int .i64 x.state, .slice ya x.yes.length yc, .slice da x.done.length dc, .int .i64 x.code] 29 (0, 0)) := (hbc.block _ (at_ltE PE.out)).trans PE.out
                have hbV := hbE.out.trans (hbc.mono hbE.out.size)
                have PN : Hid ((wv.setRow w4.heap.size #[.int .i64 y.id.1, .int .u64 (y.id.2 : Int), .int .i64 y.kind, .slice ka1 y.keys.length kc1, .int .u64 (y.token : Int), .int .i64 y.ttl, .slice ga1 y.groups.length gc1, .int .i64 y.state, .slice ya1 y.yes.length yc1, .slice da1 y.done.length dc1, .int .i64 y.code]).heap[w4.heap.size]? = some (.cells #[.int .i64 y.id.1, .int .u64 (y.id.2 : Int), .int .i64 y.kind, .slice ka1 y.keys.length kc1, .int .u64 (y.token : Int), .int .i64 y.ttl, .slice ga1 y.groups.length gc1, .int .i64 y.state, .slice ya1 y.yes.length yc1, .slice da1 y.done.length dc1, .int .i64 y.code] 29 (0, 0))) := setRow_heap _ _ _ _ _ _ PV
                have hbN : Hid (Below w0.heap.size w0 (wv.setRow w4.heap.size #[.int .i64 y.id.1, .int .u64 (y.id.2 : Int), .int .i64 y.kind, .slice ka1 y.keys.length kc1, .int .u64 (y.token : Int), .int .i64 y.ttl, .slice ga1 y.groups.length gc1, .int .i64 y.state, .slice ya1 y.yes.length yc1, .slice da1 y.done.length dc1, .int .i64 y.code])) := below_rowE hbV hNB.out _
                have ON : Hid (XO w0.heap.size (wv.setRow w4.heap.size #[.int .i64 y.id.1, .int .u64 (y.id.2 : Int), .int .i64 y.kind, .slice ka1 y.keys.length kc1, .int .u64 (y.token : Int), .int .i64 y.ttl, .slice ga1 y.groups.length gc1, .int .i64 y.state, .slice ya1 y.yes.length yc1, .slice da1 y.done.length dc1, .int .i64 y.code]) ⟨y, (ka1, kc1), (ga1, gc1), (ya1, yc1), (da1, dc1)⟩) := XO.at_other (OY.mono hbE.out.size) PV (fun k hk => setRow_other _ _ _ _ hk)
                clear hbc OY hbV
                refine hK'.out _ _ (.inr y1) ?_
                clear hK' K'
                try simp only [List.getElem_toArray, List.getElem_cons_succ, List.getElem_cons_zero, Act.put, List.setIfInBounds_toArray, List.set_cons_zero, List.set_cons_succ]
                refine wpAnyL_takeU 6 [6, 7] rfl (by kernel_rfl) (by kernel_rfl) (by kernel_rfl) (by kernel_rfl) (fun _ _ _ h => h) (by kernel_rfl) (by intro w' hS'; go_simp <;> rfl) y1 ?_
                try simp only [List.getElem_toArray, List.getElem_cons_succ, List.getElem_cons_zero, Act.put, List.setIfInBounds_toArray, List.set_cons_zero, List.set_cons_succ]
                refine wpAnyL_two 7 8 (by kernel_rfl) rfl rfl (by kernel_rfl) (by kernel_rfl) ?_ ?_
                · intro K' hK'
                  go_simp
                  refine hK'.out _ _ (.inr y1) ?_
                  clear hK' K'
                  try simp only [List.getElem_toArray, List.getElem_cons_succ, List.getElem_cons_zero, Act.put, List.setIfInBounds_toArray, List.set_cons_zero, List.set_cons_succ]
                  refine wpAnyL_two 8 9 (by kernel_rfl) rfl rfl (by kernel_rfl) (by kernel_rfl) ?_ ?_
                  · intro K' hK'
                    go_simp
                    refine hK'.out _ _ (.inl (by decide)) ?_
                    clear hK' K'
                    try simp only [List.getElem_toArray, List.getElem_cons_succ, List.getElem_cons_zero, Act.put, List.setIfInBounds_toArray, List.set_cons_zero, List.set_cons_succ]
                    refine wpAnyL_one 9 (by kernel_rfl) rfl (by kernel_rfl) ?_
                    intro K' hK'
                    refine wp_store_row 29 _ _ rfl (w4.heap.size) #[.int .i64 y.id.1, .int .u64 (y.id.2 : Int), .int .i64 y.kind, .slice ka1 y.keys.length kc1, .int .u64 (y.token : Int), .int .i64 y.ttl, .slice ga1 y.groups.length gc1, .int .i64 y.state, .slice ya1 y.yes.length yc1, .slice da1 y.done.length dc1, .int .i64 y.code] rfl rfl _ _ PV (by kernel_rfl) rfl (by simp [Value.oneCell']) ?_
                    refine hK'.out _ _ (.inl (by decide)) ?_
                    clear hK' K'
                    try simp only [List.getElem_toArray, List.getElem_cons_succ, List.getElem_cons_zero, Act.put, List.setIfInBounds_toArray, List.set_cons_zero, List.set_cons_succ]
                    refine wpAnyL_one 10 (by kernel_rfl) rfl (by kernel_rfl) ?_
                    intro K' hK'
                    go_simp
                    refine hK'.out _ _ (.inl (by decide)) ?_
                    clear hK' K'
                    try simp only [List.getElem_toArray, List.getElem_cons_succ, List.getElem_cons_zero, Act.put, List.setIfInBounds_toArray, List.set_cons_zero, List.set_cons_succ]
                    refine wpAnyL_done (by kernel_rfl) (NoPanic.normal ?_) _
                    go_wp2
                    go_roundg (gk - 1)
                    case measure => have := HNG.out; have := hn40H.out; omega
                    case rel => exact ⟨n + 1, y, ka1, kc1, ga1, gc1, ya1, yc1, da1, dc1, by have := HNG.out; have := hn40H.out; omega, rfl, by have := hn40H.out; go_num, PN, ON, hbN, hPy⟩
                  · intro K' hK'
                    refine wp_store_row 29 _ _ rfl (w4.heap.size) #[.int .i64 y.id.1, .int .u64 (y.id.2 : Int), .int .i64 y.kind, .slice ka1 y.keys.length kc1, .int .u64 (y.token : Int), .int .i64 y.ttl, .slice ga1 y.groups.length gc1, .int .i64 y.state, .slice ya1 y.yes.length yc1, .slice da1 y.done.length dc1, .int .i64 y.code] rfl rfl _ _ PV (by kernel_rfl) rfl (by simp [Value.oneCell']) ?_
                    refine hK'.out _ _ (.inl (by decide)) ?_
                    clear hK' K'
                    try simp only [List.getElem_toArray, List.getElem_cons_succ, List.getElem_cons_zero, Act.put, List.setIfInBounds_toArray, List.set_cons_zero, List.set_cons_succ]
                    refine wpAnyL_one 8 (by kernel_rfl) rfl (by kernel_rfl) ?_
                    intro K' hK'
                    go_simp
                    refine hK'.out _ _ (.inl (by decide)) ?_
                    clear hK' K'
                    try simp only [List.getElem_toArray, List.getElem_cons_succ, List.getElem_cons_zero, Act.put, List.setIfInBounds_toArray, List.set_cons_zero, List.set_cons_succ]
                    refine wpAnyL_one 10 (by kernel_rfl) rfl (by kernel_rfl) ?_
                    intro K' hK'
                    go_simp
                    refine hK'.out _ _ (.inl (by decide)) ?_
                    clear hK' K'
                    try simp only [List.getElem_toArray, List.getElem_cons_succ, List.getElem_cons_zero, Act.put, List.setIfInBounds_toArray, List.set_cons_zero, List.set_cons_succ]
                    refine wpAnyL_done (by kernel_rfl) (NoPanic.normal ?_) _
                    go_wp2
                    go_roundg (gk - 1)
                    case measure => have := HNG.out; have := hn40H.out; omega
                    case rel => exact ⟨n + 1, y, ka1, kc1, ga1, gc1, ya1, yc1, da1, dc1, by have := HNG.out; have := hn40H.out; omega, rfl, by have := hn40H.out; go_num, PN, ON, hbN, hPy⟩
                · intro K' hK'
                  go_simp
                  refine hK'.out _ _ (.inl (by decide)) ?_
                  clear hK' K'
                  try simp only [List.getElem_toArray, List.getElem_cons_succ, List.getElem_cons_zero, Act.put, List.setIfInBounds_toArray, List.set_cons_zero, List.set_cons_succ]
                  refine wpAnyL_one 7 (by kernel_rfl) rfl (by kernel_rfl) ?_
                  intro K' hK'
                  go_simp
                  refine hK'.out _ _ (.inr y1) ?_
                  clear hK' K'
                  try simp only [List.getElem_toArray, List.getElem_cons_succ, List.getElem_cons_zero, Act.put, List.setIfInBounds_toArray, List.set_cons_zero, List.set_cons_succ]
                  refine wpAnyL_one 9 (by kernel_rfl) rfl (by kernel_rfl) ?_
                  intro K' hK'
                  refine wp_store_row 29 _ _ rfl (w4.heap.size) #[.int .i64 y.id.1, .int .u64 (y.id.2 : Int), .int .i64 y.kind, .slice ka1 y.keys.length kc1, .int .u64 (y.token : Int), .int .i64 y.ttl, .slice ga1 y.groups.length gc1, .int .i64 y.state, .slice ya1 y.yes.length yc1, .slice da1 y.done.length dc1, .int .i64 y.code] rfl rfl _ _ PV (by kernel_rfl) rfl (by simp [Value.oneCell']) ?_
                  refine hK'.out _ _ (.inl (by decide)) ?_
                  clear hK' K'
                  try simp only [List.getElem_toArray, List.getElem_cons_succ, List.getElem_cons_zero, Act.put, List.setIfInBounds_toArray, List.set_cons_zero, List.set_cons_succ]
                  refine wpAnyL_one 10 (by kernel_rfl) rfl (by kernel_rfl) ?_
                  intro K' hK'
                  go_simp
                  refine hK'.out _ _ (.inl (by decide)) ?_
                  clear hK' K'
                  try simp only [List.getElem_toArray, List.getElem_cons_succ, List.getElem_cons_zero, Act.put, List.setIfInBounds_toArray, List.set_cons_zero, List.set_cons_succ]
                  refine wpAnyL_done (by kernel_rfl) (NoPanic.normal ?_) _
                  go_wp2
                  go_roundg (gk - 1)
                  case measure => have := HNG.out; have := hn40H.out; omega
                  case rel => exact ⟨n + 1, y, ka1, kc1, ga1, gc1, ya1, yc1, da1, dc1, by have := HNG.out; have := hn40H.out; omega, rfl, by have := hn40H.out; go_num, PN, ON, hbN, hPy⟩
            · clear hP
              by_cases h4 : x.state = 4
              · have hst1 : (x.state != 4) = false := by simp [h4]
                have hst2 : (x.state == 4) = true := by simp [h4]
                have gl : Hid _ := ok_lens hT.1
                have hn40 : (n : Int) < 40 := by
                  obtain ⟨-, -, -, -, j, -, h6, h7, -⟩ := hT
                  have := HGL.out
                  omega
                have hn40d : decide ((n : Int) < 40) = true := decide_eq_true hn40
                have kR := reply_of ⟨x, (ka, kc), (ga, gc), (ya, yc), (da, dc)⟩ wr OX.out.xr (Nat.le_trans gl.out.1 (by decide)) (Nat.le_trans gl.out.2.1 (by decide)) (Nat.le_trans gl.out.2.2.1 (by decide)) (Nat.le_trans gl.out.2.2.2 (by decide))
                have hrd : replyM x = _ := reply_done hT.1 hT.2.2.1
                obtain ⟨qt, hqt⟩ : ∃ q, q = (if x.code = 0 ∧ x.kind = 1 then x.token else 0) := ⟨_, rfl⟩
                rw [← hqt] at hrd
                try dsimp only at kR
                rw [hrd] at kR
                dsimp only [xv, rpv] at kR
                have hq : (x.code == 0) = decide (a &&& b = 0) := by
                  rw [Bool.eq_iff_iff, beq_iff_eq, decide_eq_true_eq, hT.2.2.2.1]
                  exact HZ.out.symm
                rw [← hq] at HAND
                obtain ⟨q, hq0⟩ : ∃ q, (x.code == 0) = q := ⟨_, rfl⟩
                rw [hq0] at HAND
                have hqq : (q == q) = true := by simp
                clear hrd hqt h4 hT gl hng hq
                go_wp2_with fail
                refine kR.mono ?_
                rintro e w6 ⟨rfl, hbc⟩
                have hb6 := hbl.out.trans (hbc.mono hbl.out.size)
                have P6 := (hbc.block _ (at_ltE PX.out)).trans PX.out
                obtain ⟨z7, r7, p7⟩ := one_box w6 (.cells #[.int .i64 x.code, .int .u64 (qt : Int), .slice none 0 0] 34)
                have hb7 := hb6.trans (p7.mono hb6.size)
                have P7 := (p7.block _ (at_ltE P6)).trans P6
                obtain ⟨-, -, -, a0, a1⟩ := HI.out _ hb7
                obtain ⟨c0, c1, c2, c3, c4, c5, c6, c7, c8, c9, c10⟩ := cells11 P7
                obtain ⟨m0, m1, m2⟩ := cells3 r7
                have hb7H : Hid (Below w0.heap.size w0 (w6.alloc (.cells #[.int .i64 x.code, .int .u64 (qt : Int), .slice none 0 0] 34))) := hb7
                have kA := awake_of (w6.alloc (.cells #[.int .i64 x.code, .int .u64 (qt : Int), .slice none 0 0] 34))
                clear kR hbc hb6 P6 z7 r7 p7 hb7 P7 PX OX hbl
                go_wp2_with fail
                refine kA.mono ?_
                rintro e wz ⟨rfl, hbz⟩
                have hE : Hid _ := (HI.out _ (hb7H.out.trans (hbz.mono hb7H.out.size))).1
                clear kA hbz
                go_wp2
                go_ret
                exact ⟨rfl, hE.out⟩
              · obtain ⟨ha, j, hdj, hnj, hjG, ht⟩ := tel_p hT h4
                have hok' := hT.1
                have hst1 : (x.state != 4) = true := by simpa using h4
                have hgG := HGL.out
                have gl : Hid _ := ok_lens hok'
                have kAsk : Hid (∀ W, XR W ⟨x, (ka, kc), (ga, gc), (ya, yc), (da, dc)⟩ → _) := fun W h => ask_of ⟨x, (ka, kc), (ga, gc), (ya, yc), (da, dc)⟩ W h (Nat.le_trans gl.out.1 (by decide)) (Nat.le_trans gl.out.2.1 (by decide)) (Nat.le_trans gl.out.2.2.1 (by decide)) (Nat.le_trans gl.out.2.2.2 (by decide))
                have kTel : Hid (∀ W, XR W ⟨x, (ka, kc), (ga, gc), (ya, yc), (da, dc)⟩ → _) := fun W h => tell_of ⟨x, (ka, kc), (ga, gc), (ya, yc), (da, dc)⟩ W h (Nat.le_trans gl.out.1 (by decide)) (Nat.le_trans gl.out.2.1 (by decide)) (Nat.le_trans gl.out.2.2.1 (by decide)) (Nat.le_trans gl.out.2.2.2 (by decide))
                try dsimp only [xv] at kAsk kTel
                have hn40 : (n : Int) < 40 := by omega
                have hn40d : decide ((n : Int) < 40) = true := decide_eq_true hn40
                have hn40H : Hid ((n : Int) < 40) := hn40
                rw [ha] at kAsk
                rw [ht] at kTel
                obtain ⟨g, hgx⟩ : ∃ g, G[j]? = some g := ⟨_, List.getElem?_eq_getElem hjG⟩
                have hAL : (G.drop j)[0]? = some g := by rw [List.getElem?_drop]; simpa using hgx
                have hAl : (0 : Int) < ((G.drop j).length : Int) := by have := (List.getElem?_eq_some_iff.1 hAL).1; omega
                obtain ⟨y, hy, hPy0⟩ := tel_one hT h4 hdj hgx
                have hPy : Hid (AskP G b y (n + 1) ∨ TelP G b y (n + 1)) := .inr hPy0
                generalize G.drop j = AL at *
                have hAld : decide ((0 : Int) < (AL.length : Int)) = true := decide_eq_true hAl
                replace hAL : Hid (AL[0]? = some g) := hAL
                have kV : Hid (∀ W, XR W ⟨x, (ka, kc), (ga, gc), (ya, yc), (da, dc)⟩ → _) := fun W h => applied_m ⟨x, (ka, kc), (ga, gc), (ya, yc), (da, dc)⟩ g W h gl.out.1 gl.out.2.1 gl.out.2.2.1 gl.out.2.2.2
                try dsimp only at kV
                rw [hy] at kV
                dsimp only [xv] at kV
                clear ha ht hok' hgG hy hPy0 hgx hdj hnj hjG hT h4
                obtain ⟨wd, hwd⟩ : ∃ W, wr.drew = W := ⟨_, rfl⟩
                have hbd : Below w0.heap.size w0 wd := by rw [← hwd]; exact hbl.out.drew
                have PD : wd.heap[w4.heap.size]? = some (.cells #[.int .i64 x.id.1, .int .u64 (x.id.2 : Int), .int .i64 x.kind, .slice ka x.keys.length kc, .int .u64 (x.token : Int), .int .i64 x.ttl, .slice ga x.groups.length gc, .int .i64 x.state, .slice ya x.yes.length yc, .slice da x.done.length dc, .int .i64 x.code] 29 (0, 0)) := by rw [← hwd]; exact PX.out
                have OD : XO w0.heap.size wd ⟨x, (ka, kc), (ga, gc), (ya, yc), (da, dc)⟩ := by rw [← hwd]; exact XO.below OX.out ((Below.refl _ wr).drew)
                have cl : Hid (∀ W, Below wd.heap.size wd W → W.cell? ⟨w4.heap.size, 0, none⟩ = some (.int .i64 x.id.1) ∧ W.cell? ⟨w4.heap.size, 1, none⟩ = some (.int .u64 (x.id.2 : Int)) ∧ W.cell? ⟨w4.heap.size, 2, none⟩ = some (.int .i64 x.kind) ∧ W.cell? ⟨w4.heap.size, 3, none⟩ = some (.slice ka x.keys.length kc) ∧ W.cell? ⟨w4.heap.size, 4, none⟩ = some (.int .u64 (x.token : Int)) ∧ W.cell? ⟨w4.heap.size, 5, none⟩ = some (.int .i64 x.ttl) ∧ W.cell? ⟨w4.heap.size, 6, none⟩ = some (.slice ga x.groups.length gc) ∧ W.cell? ⟨w4.heap.size, 7, none⟩ = some (.int .i64 x.state) ∧ W.cell? ⟨w4.heap.size, 8, none⟩ = some (.slice ya x.yes.length yc) ∧ W.cell? ⟨w4.heap.size, 9, none⟩ = some (.slice da x.done.length dc) ∧ W.cell? ⟨w4.heap.size, 10, none⟩ = some (.int .i64 x.code)) := fun W hW => cells11 ((hW.block _ (at_ltE PD)).trans PD)
                have hy0 : Below wd.heap.size wd wd := Below.refl _ _
                have yS0 : (fun W : World => (W.cell? ⟨w4.heap.size, 0, none⟩ = some (.int .i64 x.id.1) ∧ W.cell? ⟨w4.heap.size, 1, none⟩ = some (.int .u64 (x.id.2 : Int)) ∧ W.cell? ⟨w4.heap.size, 2, none⟩ = some (.int .i64 x.kind) ∧ W.cell? ⟨w4.heap.size, 3, none⟩ = some (.slice ka x.keys.length kc) ∧ W.cell? ⟨w4.heap.size, 4, none⟩ = some (.int .u64 (x.token : Int)) ∧ W.cell? ⟨w4.heap.size, 5, none⟩ = some (.int .i64 x.ttl) ∧ W.cell? ⟨w4.heap.size, 6, none⟩ = some (.slice ga x.groups.length gc) ∧ W.cell? ⟨w4.heap.size, 7, none⟩ = some (.int .i64 x.state) ∧ W.cell? ⟨w4.heap.size, 8, none⟩ = some (.slice ya x.yes.length yc) ∧ W.cell? ⟨w4.heap.size, 9, none⟩ = some (.slice da x.done.length dc) ∧ W.cell? ⟨w4.heap.size, 10, none⟩ = some (.int .i64 x.code)) ∧ Below wd.heap.size wd W) wd := ⟨cl.out _ hy0, hy0⟩
                have hwdH : Hid (wr.drew = wd) := hwd
                replace PD : Hid (wd.heap[w4.heap.size]? = some (.cells #[.int .i64 x.id.1, .int .u64 (x.id.2 : Int), .int .i64 x.kind, .slice ka x.keys.length kc, .int .u64 (x.token : Int), .int .i64 x.ttl, .slice ga x.groups.length gc, .int .i64 x.state, .slice ya x.yes.length yc, .slice da x.done.length dc, .int .i64 x.code] 29 (0, 0))) := PD
                replace OD : Hid (XO w0.heap.size wd ⟨x, (ka, kc), (ga, gc), (ya, yc), (da, dc)⟩) := OD
                replace hbd : Hid (Below w0.heap.size w0 wd) := hbd
                clear hwd PX OX hbl
                go_wp2_with fail
                refine wp_region_L (fun W : World => (W.cell? ⟨w4.heap.size, 0, none⟩ = some (.int .i64 x.id.1) ∧ W.cell? ⟨w4.heap.size, 1, none⟩ = some (.int .u64 (x.id.2 : Int)) ∧ W.cell? ⟨w4.heap.size, 2, none⟩ = some (.int .i64 x.kind) ∧ W.cell? ⟨w4.heap.size, 3, none⟩ = some (.slice ka x.keys.length kc) ∧ W.cell? ⟨w4.heap.size, 4, none⟩ = some (.int .u64 (x.token : Int)) ∧ W.cell? ⟨w4.heap.size, 5, none⟩ = some (.int .i64 x.ttl) ∧ W.cell? ⟨w4.heap.size, 6, none⟩ = some (.slice ga x.groups.length gc) ∧ W.cell? ⟨w4.heap.size, 7, none⟩ = some (.int .i64 x.state) ∧ W.cell? ⟨w4.heap.size, 8, none⟩ = some (.slice ya x.yes.length yc) ∧ W.cell? ⟨w4.heap.size, 9, none⟩ = some (.slice da x.done.length dc) ∧ W.cell? ⟨w4.heap.size, 10, none⟩ = some (.int .i64 x.code)) ∧ Below wd.heap.size wd W) [] (by kernel_rfl) ?_
                rw [hwdH.out]
                refine wpAnyL_take 0 rfl (by kernel_rfl) (by kernel_rfl) (by kernel_rfl) (by kernel_rfl) (fun _ _ _ h => h) (by kernel_rfl) (by intro w' hS'; obtain ⟨⟨x0, x1, x2, x3, x4, x5, x6, x7, x8, x9, x10⟩, xb⟩ := hS'; go_simp <;> rfl) yS0 ?_
                try simp only [List.getElem_toArray, List.getElem_cons_succ, List.getElem_cons_zero, Act.put, List.setIfInBounds_toArray, List.set_cons_zero, List.set_cons_succ]
                refine wpAnyL_take 2 rfl (by kernel_rfl) (by kernel_rfl) (by kernel_rfl) (by kernel_rfl) (fun _ _ _ h => h) (by kernel_rfl) (by intro w' hS'; obtain ⟨⟨x0, x1, x2, x3, x4, x5, x6, x7, x8, x9, x10⟩, xb⟩ := hS'; go_simp <;> rfl) yS0 ?_
                try simp only [List.getElem_toArray, List.getElem_cons_succ, List.getElem_cons_zero, Act.put, List.setIfInBounds_toArray, List.set_cons_zero, List.set_cons_succ]
                refine wpAnyL_one 1 (by kernel_rfl) rfl (by kernel_rfl) ?_
                intro K' hK'
                go_simp
                go_at_call 15
                refine (kAsk.out _ (XO.below OD.out hy0).xr).mono ?_
                rintro e wc1 ⟨u0, rfl, Q0, hbc⟩
                obtain ⟨pa, pc, rfl, -⟩ := Q0.1.shape
                have hy1 := hy0.trans (hbc.mono hy0.size)
                have yS1 : (fun W : World => (W.cell? ⟨w4.heap.size, 0, none⟩ = some (.int .i64 x.id.1) ∧ W.cell? ⟨w4.heap.size, 1, none⟩ = some (.int .u64 (x.id.2 : Int)) ∧ W.cell? ⟨w4.heap.size, 2, none⟩ = some (.int .i64 x.kind) ∧ W.cell? ⟨w4.heap.size, 3, none⟩ = some (.slice ka x.keys.length kc) ∧ W.cell? ⟨w4.heap.size, 4, none⟩ = some (.int .u64 (x.token : Int)) ∧ W.cell? ⟨w4.heap.size, 5, none⟩ = some (.int .i64 x.ttl) ∧ W.cell? ⟨w4.heap.size, 6, none⟩ = some (.slice ga x.groups.length gc) ∧ W.cell? ⟨w4.heap.size, 7, none⟩ = some (.int .i64 x.state) ∧ W.cell? ⟨w4.heap.size, 8, none⟩ = some (.slice ya x.yes.length yc) ∧ W.cell? ⟨w4.heap.size, 9, none⟩ = some (.slice da x.done.length dc) ∧ W.cell? ⟨w4.heap.size, 10, none⟩ = some (.int .i64 x.code)) ∧ Below wd.heap.size wd W) wc1 := ⟨cl.out _ hy1, hy1⟩
                have AR1 : Hid (Rd intE wc1 (.slice pa ([] : List Int).length pc) ([] : List Int)) := Q0.1.rd
                clear hbc Q0 kAsk
                refine hK'.out _ _ (.inr yS1) ?_
                clear hK' K'
                try simp only [List.getElem_toArray, List.getElem_cons_succ, List.getElem_cons_zero, Act.put, List.setIfInBounds_toArray, List.set_cons_zero, List.set_cons_succ]
                refine wpAnyL_one 3 (by kernel_rfl) rfl (by kernel_rfl) ?_
                intro K' hK'
                go_simp
                go_at_call 17
                refine (kTel.out _ (XO.below OD.out hy1).xr).mono ?_
                rintro e wc2 ⟨u1, rfl, Q1, hbc⟩
                obtain ⟨qa, qc, rfl, -⟩ := Q1.1.shape
                have hy2 := hy1.trans (hbc.mono hy1.size)
                have yS2 : (fun W : World => (W.cell? ⟨w4.heap.size, 0, none⟩ = some (.int .i64 x.id.1) ∧ W.cell? ⟨w4.heap.size, 1, none⟩ = some (.int .u64 (x.id.2 : Int)) ∧ W.cell? ⟨w4.heap.size, 2, none⟩ = some (.int .i64 x.kind) ∧ W.cell? ⟨w4.heap.size, 3, none⟩ = some (.slice ka x.keys.length kc) ∧ W.cell? ⟨w4.heap.size, 4, none⟩ = some (.int .u64 (x.token : Int)) ∧ W.cell? ⟨w4.heap.size, 5, none⟩ = some (.int .i64 x.ttl) ∧ W.cell? ⟨w4.heap.size, 6, none⟩ = some (.slice ga x.groups.length gc) ∧ W.cell? ⟨w4.heap.size, 7, none⟩ = some (.int .i64 x.state) ∧ W.cell? ⟨w4.heap.size, 8, none⟩ = some (.slice ya x.yes.length yc) ∧ W.cell? ⟨w4.heap.size, 9, none⟩ = some (.slice da x.done.length dc) ∧ W.cell? ⟨w4.heap.size, 10, none⟩ = some (.int .i64 x.code)) ∧ Below wd.heap.size wd W) wc2 := ⟨cl.out _ hy2, hy2⟩
                have AR2 : Hid (Rd intE wc2 (.slice pa ([] : List Int).length pc) ([] : List Int)) := Rd.below AR1.out hbc
                have AT2 : Hid (Rd intE wc2 (.slice qa AL.length qc) AL) := Q1.1.rd
                clear hbc Q1 kTel
                refine hK'.out _ _ (.inr yS2) ?_
                clear hK' K'
                try simp only [List.getElem_toArray, List.getElem_cons_succ, List.getElem_cons_zero, Act.put, List.setIfInBounds_toArray, List.set_cons_zero, List.set_cons_succ]
                refine wpAnyL_take 4 rfl (by kernel_rfl) (by kernel_rfl) (by kernel_rfl) (by kernel_rfl) (fun _ _ _ h => h) (by kernel_rfl) (by intro w' hS'; obtain ⟨⟨x0, x1, x2, x3, x4, x5, x6, x7, x8, x9, x10⟩, xb⟩ := hS'; go_simp <;> rfl) yS2 ?_
                try simp only [List.getElem_toArray, List.getElem_cons_succ, List.getElem_cons_zero, Act.put, List.setIfInBounds_toArray, List.set_cons_zero, List.set_cons_succ]
                refine wpAnyL_take 5 rfl (by kernel_rfl) (by kernel_rfl) (by kernel_rfl) (by kernel_rfl) (fun _ _ _ h => h) (by kernel_rfl) (by intro w' hS'; obtain ⟨⟨x0, x1, x2, x3, x4, x5, x6, x7, x8, x9, x10⟩, xb⟩ := hS'; go_simp <;> rfl) yS2 ?_
                try simp only [List.getElem_toArray, List.getElem_cons_succ, List.getElem_cons_zero, Act.put, List.setIfInBounds_toArray, List.set_cons_zero, List.set_cons_succ]
                refine wpAnyL_done (by kernel_rfl) (NoPanic.normal ?_) _
                have hb2 : Below w0.heap.size w0 wc2 := hbd.out.trans (hy2.mono hbd.out.size)
                have P2 := (hy2.block _ (at_ltE PD.out)).trans PD.out
                have O2 := XO.below OD.out hy2
                obtain ⟨-, -, -, a0, a1⟩ := HI.out _ hb2
                replace P2 : Hid (wc2.heap[w4.heap.size]? = some (.cells #[.int .i64 x.id.1, .int .u64 (x.id.2 : Int), .int .i64 x.kind, .slice ka x.keys.length kc, .int .u64 (x.token : Int), .int .i64 x.ttl, .slice ga x.groups.length gc, .int .i64 x.state, .slice ya x.yes.length yc, .slice da x.done.length dc, .int .i64 x.code] 29 (0, 0))) := P2
                replace O2 : Hid (XO w0.heap.size wc2 ⟨x, (ka, kc), (ga, gc), (ya, yc), (da, dc)⟩) := O2
                replace hb2 : Hid (Below w0.heap.size w0 wc2) := hb2
                obtain ⟨bb, off, rfl, hel⟩ := rdi_at AT2.out hAL.out
                have e0 : Hid (∀ W, Below wc2.heap.size wc2 W → W.cell? ⟨bb, off, none⟩ = some (.int .i64 g)) := fun W hW => hel W hW
                clear hel yS0 yS1 yS2 hy0 hy1 hy2 cl PD OD hbd AR1 AR2 AT2 hAL hng
                go_wp2_with fail
                obtain ⟨wE, hwE⟩ : ∃ W, wc2.drew = W := ⟨_, rfl⟩
                have hE : Below wc2.heap.size wc2 wE := by rw [← hwE]; exact (Below.refl _ _).drew
                have PE : Hid (wE.heap[w4.heap.size]? = some (.cells #[.int .i64 x.id.1, .int .u64 (x.id.2 : Int), .int .i64 x.kind, .slice ka x.keys.length kc, .int .u64 (x.token : Int), .int .i64 x.ttl, .slice ga x.groups.length gc, .int .i64 x.state, .slice ya x.yes.length yc, .slice da x.done.length dc, .int .i64 x.code] 29 (0, 0))) := (hE.block _ (at_ltE P2.out)).trans P2.out
                have OE : Hid (XO w0.heap.size wE ⟨x, (ka, kc), (ga, gc), (ya, yc), (da, dc)⟩) := XO.below O2.out hE
                have hbE : Hid (Below w0.heap.size w0 wE) := hb2.out.trans (hE.mono hb2.out.size)
                have clE : Hid (∀ W, Below wE.heap.size wE W → (W.cell? ⟨w4.heap.size, 0, none⟩ = some (.int .i64 x.id.1) ∧ W.cell? ⟨w4.heap.size, 1, none⟩ = some (.int .u64 (x.id.2 : Int)) ∧ W.cell? ⟨w4.heap.size, 2, none⟩ = some (.int .i64 x.kind) ∧ W.cell? ⟨w4.heap.size, 3, none⟩ = some (.slice ka x.keys.length kc) ∧ W.cell? ⟨w4.heap.size, 4, none⟩ = some (.int .u64 (x.token : Int)) ∧ W.cell? ⟨w4.heap.size, 5, none⟩ = some (.int .i64 x.ttl) ∧ W.cell? ⟨w4.heap.size, 6, none⟩ = some (.slice ga x.groups.length gc) ∧ W.cell? ⟨w4.heap.size, 7, none⟩ = some (.int .i64 x.state) ∧ W.cell? ⟨w4.heap.size, 8, none⟩ = some (.slice ya x.yes.length yc) ∧ W.cell? ⟨w4.heap.size, 9, none⟩ = some (.slice da x.done.length dc) ∧ W.cell? ⟨w4.heap.size, 10, none⟩ = some (.int .i64 x.code)) ∧ W.cell? ⟨bb, off, none⟩ = some (.int .i64 g)) := fun W hW => ⟨cells11 ((hW.block _ (at_ltE PE.out)).trans PE.out), e0.out W (hE.trans (hW.mono hE.size))⟩
                have y0 : (fun W : World => ((W.cell? ⟨w4.heap.size, 0, none⟩ = some (.int .i64 x.id.1) ∧ W.cell? ⟨w4.heap.size, 1, none⟩ = some (.int .u64 (x.id.2 : Int)) ∧ W.cell? ⟨w4.heap.size, 2, none⟩ = some (.int .i64 x.kind) ∧ W.cell? ⟨w4.heap.size, 3, none⟩ = some (.slice ka x.keys.length kc) ∧ W.cell? ⟨w4.heap.size, 4, none⟩ = some (.int .u64 (x.token : Int)) ∧ W.cell? ⟨w4.heap.size, 5, none⟩ = some (.int .i64 x.ttl) ∧ W.cell? ⟨w4.heap.size, 6, none⟩ = some (.slice ga x.groups.length gc) ∧ W.cell? ⟨w4.heap.size, 7, none⟩ = some (.int .i64 x.state) ∧ W.cell? ⟨w4.heap.size, 8, none⟩ = some (.slice ya x.yes.length yc) ∧ W.cell? ⟨w4.heap.size, 9, none⟩ = some (.slice da x.done.length dc) ∧ W.cell? ⟨w4.heap.size, 10, none⟩ = some (.int .i64 x.code)) ∧ W.cell? ⟨bb, off, none⟩ = some (.int .i64 g)) ∧ Below wE.heap.size wE W) wE := ⟨clE.out _ (Below.refl _ _), Below.refl _ _⟩
                clear hE P2 O2 hb2
                refine wp_region_L (fun W : World => ((W.cell? ⟨w4.heap.size, 0, none⟩ = some (.int .i64 x.id.1) ∧ W.cell? ⟨w4.heap.size, 1, none⟩ = some (.int .u64 (x.id.2 : Int)) ∧ W.cell? ⟨w4.heap.size, 2, none⟩ = some (.int .i64 x.kind) ∧ W.cell? ⟨w4.heap.size, 3, none⟩ = some (.slice ka x.keys.length kc) ∧ W.cell? ⟨w4.heap.size, 4, none⟩ = some (.int .u64 (x.token : Int)) ∧ W.cell? ⟨w4.heap.size, 5, none⟩ = some (.int .i64 x.ttl) ∧ W.cell? ⟨w4.heap.size, 6, none⟩ = some (.slice ga x.groups.length gc) ∧ W.cell? ⟨w4.heap.size, 7, none⟩ = some (.int .i64 x.state) ∧ W.cell? ⟨w4.heap.size, 8, none⟩ = some (.slice ya x.yes.length yc) ∧ W.cell? ⟨w4.heap.size, 9, none⟩ = some (.slice da x.done.length dc) ∧ W.cell? ⟨w4.heap.size, 10, none⟩ = some (.int .i64 x.code)) ∧ W.cell? ⟨bb, off, none⟩ = some (.int .i64 g)) ∧ Below wE.heap.size wE W) [7, 8, 9] (by kernel_rfl) ?_
                rw [hwE]
                clear hwE
                refine wpAnyL_takeU 0 [0, 4, 5, 6] rfl (by kernel_rfl) (by kernel_rfl) (by kernel_rfl) (by kernel_rfl) (fun _ _ _ h => h) (by kernel_rfl) (by intro w' hS'; obtain ⟨⟨⟨x0, x1, x2, x3, x4, x5, x6, x7, x8, x9, x10⟩, xe⟩, xb⟩ := hS'; go_simp <;> rfl) y0 ?_
                try simp only [List.getElem_toArray, List.getElem_cons_succ, List.getElem_cons_zero, Act.put, List.setIfInBounds_toArray, List.set_cons_zero, List.set_cons_succ]
                refine wpAnyL_takeU 1 [1, 2, 3, 4, 5, 6] rfl (by kernel_rfl) (by kernel_rfl) (by kernel_rfl) (by kernel_rfl) (fun _ _ _ h => h) (by kernel_rfl) (by intro w' hS'; obtain ⟨⟨⟨x0, x1, x2, x3, x4, x5, x6, x7, x8, x9, x10⟩, xe⟩, xb⟩ := hS'; go_simp <;> rfl) y0 ?_
                try simp only [List.getElem_toArray, List.getElem_cons_succ, List.getElem_cons_zero, Act.put, List.setIfInBounds_toArray, List.set_cons_zero, List.set_cons_succ]
                refine wpAnyL_takeU 2 [2, 3, 4, 5, 6] rfl (by kernel_rfl) (by kernel_rfl) (by kernel_rfl) (by kernel_rfl) (fun _ _ _ h => h) (by kernel_rfl) (by intro w' hS'; obtain ⟨⟨⟨x0, x1, x2, x3, x4, x5, x6, x7, x8, x9, x10⟩, xe⟩, xb⟩ := hS'; go_simp <;> rfl) y0 ?_
                try simp only [List.getElem_toArray, List.getElem_cons_succ, List.getElem_cons_zero, Act.put, List.setIfInBounds_toArray, List.set_cons_zero, List.set_cons_succ]
                refine wpAnyL_takeU 3 [3, 4, 5, 6] rfl (by kernel_rfl) (by kernel_rfl) (by kernel_rfl) (by kernel_rfl) (fun _ _ _ h => h) (by kernel_rfl) (by intro w' hS'; obtain ⟨⟨⟨x0, x1, x2, x3, x4, x5, x6, x7, x8, x9, x10⟩, xe⟩, xb⟩ := hS'; go_simp <;> rfl) y0 ?_
                try simp only [List.getElem_toArray, List.getElem_cons_succ, List.getElem_cons_zero, Act.put, List.setIfInBounds_toArray, List.set_cons_zero, List.set_cons_succ]
                refine wpAnyL_one 4 (by kernel_rfl) rfl (by kernel_rfl) ?_
                intro K' hK'
                go_simp
                go_at_call 28
                refine (kV.out wE OE.out.xr).mono ?_
                rintro e wv ⟨⟨⟨ka1, kc1⟩, ⟨ga1, gc1⟩, ⟨ya1, yc1⟩, ⟨da1, dc1⟩, rfl, OY⟩, hbc⟩
                have y1 : (fun W : World => ((W.cell? ⟨w4.heap.size, 0, none⟩ = some (.int .i64 x.id.1) ∧ W.cell? ⟨w4.heap.size, 1, none⟩ = some (.int .u64 (x.id.2 : Int)) ∧ W.cell? ⟨w4.heap.size, 2, none⟩ = some (.int .i64 x.kind) ∧ W.cell? ⟨w4.heap.size, 3, none⟩ = some (.slice ka x.keys.length kc) ∧ W.cell? ⟨w4.heap.size, 4, none⟩ = some (.int .u64 (x.token : Int)) ∧ W.cell? ⟨w4.heap.size, 5, none⟩ = some (.int .i64 x.ttl) ∧ W.cell? ⟨w4.heap.size, 6, none⟩ = some (.slice ga x.groups.length gc) ∧ W.cell? ⟨w4.heap.size, 7, none⟩ = some (.int .i64 x.state) ∧ W.cell? ⟨w4.heap.size, 8, none⟩ = some (.slice ya x.yes.length yc) ∧ W.cell? ⟨w4.heap.size, 9, none⟩ = some (.slice da x.done.length dc) ∧ W.cell? ⟨w4.heap.size, 10, none⟩ = some (.int .i64 x.code)) ∧ W.cell? ⟨bb, off, none⟩ = some (.int .i64 g)) ∧ Below wE.heap.size wE W) wv := ⟨clE.out _ hbc, hbc⟩
                have PV : wv.heap[w4.heap.size]? = some (.cells #[.int .i64 x.id.1, .int .u64 (x.id.2 : Int), .int .i64 x.kind, .slice ka x.keys.length kc, .int .u64 (x.token : Int), .int .i64 x.ttl, .slice ga x.groups.length gc, .int .i64 x.state, .slice ya x.yes.length yc, .slice da x.done.length dc, .int .i64 x.code] 29 (0, 0)) := (hbc.block _ (at_ltE PE.out)).trans PE.out
                have hbV := hbE.out.trans (hbc.mono hbE.out.size)
                have PN : Hid ((wv.setRow w4.heap.size #[.int .i64 y.id.1, .int .u64 (y.id.2 : Int), .int .i64 y.kind, .slice ka1 y.keys.length kc1, .int .u64 (y.token : Int), .int .i64 y.ttl, .slice ga1 y.groups.length gc1, .int .i64 y.state, .slice ya1 y.yes.length yc1, .slice da1 y.done.length dc1, .int .i64 y.code]).heap[w4.heap.size]? = some (.cells #[.int .i64 y.id.1, .int .u64 (y.id.2 : Int), .int .i64 y.kind, .slice ka1 y.keys.length kc1, .int .u64 (y.token : Int), .int .i64 y.ttl, .slice ga1 y.groups.length gc1, .int .i64 y.state, .slice ya1 y.yes.length yc1, .slice da1 y.done.length dc1, .int .i64 y.code] 29 (0, 0))) := setRow_heap _ _ _ _ _ _ PV
                have hbN : Hid (Below w0.heap.size w0 (wv.setRow w4.heap.size #[.int .i64 y.id.1, .int .u64 (y.id.2 : Int), .int .i64 y.kind, .slice ka1 y.keys.length kc1, .int .u64 (y.token : Int), .int .i64 y.ttl, .slice ga1 y.groups.length gc1, .int .i64 y.state, .slice ya1 y.yes.length yc1, .slice da1 y.done.length dc1, .int .i64 y.code])) := below_rowE hbV hNB.out _
                have ON : Hid (XO w0.heap.size (wv.setRow w4.heap.size #[.int .i64 y.id.1, .int .u64 (y.id.2 : Int), .int .i64 y.kind, .slice ka1 y.keys.length kc1, .int .u64 (y.token : Int), .int .i64 y.ttl, .slice ga1 y.groups.length gc1, .int .i64 y.state, .slice ya1 y.yes.length yc1, .slice da1 y.done.length dc1, .int .i64 y.code]) ⟨y, (ka1, kc1), (ga1, gc1), (ya1, yc1), (da1, dc1)⟩) := XO.at_other (OY.mono hbE.out.size) PV (fun k hk => setRow_other _ _ _ _ hk)
                clear hbc OY hbV
                refine hK'.out _ _ (.inr y1) ?_
                clear hK' K'
                try simp only [List.getElem_toArray, List.getElem_cons_succ, List.getElem_cons_zero, Act.put, List.setIfInBounds_toArray, List.set_cons_zero, List.set_cons_succ]
                refine wpAnyL_takeU 5 [5, 6] rfl (by kernel_rfl) (by kernel_rfl) (by kernel_rfl) (by kernel_rfl) (fun _ _ _ h => h) (by kernel_rfl) (by intro w' hS'; go_simp <;> rfl) y1 ?_
                try simp only [List.getElem_toArray, List.getElem_cons_succ, List.getElem_cons_zero, Act.put, List.setIfInBounds_toArray, List.set_cons_zero, List.set_cons_succ]
                refine wpAnyL_two 6 7 (by kernel_rfl) rfl rfl (by kernel_rfl) (by kernel_rfl) ?_ ?_
                · intro K' hK'
                  go_simp
                  refine hK'.out _ _ (.inr y1) ?_
                  clear hK' K'
                  try simp only [List.getElem_toArray, List.getElem_cons_succ, List.getElem_cons_zero, Act.put, List.setIfInBounds_toArray, List.set_cons_zero, List.set_cons_succ]
                  refine wpAnyL_two 7 8 (by kernel_rfl) rfl rfl (by kernel_rfl) (by kernel_rfl) ?_ ?_
                  · intro K' hK'
                    go_simp
                    refine hK'.out _ _ (.inl (by decide)) ?_
                    clear hK' K'
                    try simp only [List.getElem_toArray, List.getElem_cons_succ, List.getElem_cons_zero, Act.put, List.setIfInBounds_toArray, List.set_cons_zero, List.set_cons_succ]
                    refine wpAnyL_one 8 (by kernel_rfl) rfl (by kernel_rfl) ?_
                    intro K' hK'
                    refine wp_store_row 29 _ _ rfl (w4.heap.size) #[.int .i64 y.id.1, .int .u64 (y.id.2 : Int), .int .i64 y.kind, .slice ka1 y.keys.length kc1, .int .u64 (y.token : Int), .int .i64 y.ttl, .slice ga1 y.groups.length gc1, .int .i64 y.state, .slice ya1 y.yes.length yc1, .slice da1 y.done.length dc1, .int .i64 y.code] rfl rfl _ _ PV (by kernel_rfl) rfl (by simp [Value.oneCell']) ?_
                    refine hK'.out _ _ (.inl (by decide)) ?_
                    clear hK' K'
                    try simp only [List.getElem_toArray, List.getElem_cons_succ, List.getElem_cons_zero, Act.put, List.setIfInBounds_toArray, List.set_cons_zero, List.set_cons_succ]
                    refine wpAnyL_one 9 (by kernel_rfl) rfl (by kernel_rfl) ?_
                    intro K' hK'
                    go_simp
                    refine hK'.out _ _ (.inl (by decide)) ?_
                    clear hK' K'
                    try simp only [List.getElem_toArray, List.getElem_cons_succ, List.getElem_cons_zero, Act.put, List.setIfInBounds_toArray, List.set_cons_zero, List.set_cons_succ]
                    refine wpAnyL_done (by kernel_rfl) (NoPanic.normal ?_) _
                    go_wp2
                    go_roundg (gk - 1)
                    case measure => have := HNG.out; have := hn40H.out; omega
                    case rel => exact ⟨n + 1, y, ka1, kc1, ga1, gc1, ya1, yc1, da1, dc1, by have := HNG.out; have := hn40H.out; omega, rfl, by have := hn40H.out; go_num, PN, ON, hbN, hPy⟩
                  · intro K' hK'
                    refine wp_store_row 29 _ _ rfl (w4.heap.size) #[.int .i64 y.id.1, .int .u64 (y.id.2 : Int), .int .i64 y.kind, .slice ka1 y.keys.length kc1, .int .u64 (y.token : Int), .int .i64 y.ttl, .slice ga1 y.groups.length gc1, .int .i64 y.state, .slice ya1 y.yes.length yc1, .slice da1 y.done.length dc1, .int .i64 y.code] rfl rfl _ _ PV (by kernel_rfl) rfl (by simp [Value.oneCell']) ?_
                    refine hK'.out _ _ (.inl (by decide)) ?_
                    clear hK' K'
                    try simp only [List.getElem_toArray, List.getElem_cons_succ, List.getElem_cons_zero, Act.put, List.setIfInBounds_toArray, List.set_cons_zero, List.set_cons_succ]
                    refine wpAnyL_one 7 (by kernel_rfl) rfl (by kernel_rfl) ?_
                    intro K' hK'
                    go_simp
                    refine hK'.out _ _ (.inl (by decide)) ?_
                    clear hK' K'
                    try simp only [List.getElem_toArray, List.getElem_cons_succ, List.getElem_cons_zero, Act.put, List.setIfInBounds_toArray, List.set_cons_zero, List.set_cons_succ]
                    refine wpAnyL_one 9 (by kernel_rfl) rfl (by kernel_rfl) ?_
                    intro K' hK'
                    go_simp
                    refine hK'.out _ _ (.inl (by decide)) ?_
                    clear hK' K'
                    try simp only [List.getElem_toArray, List.getElem_cons_succ, List.getElem_cons_zero, Act.put, List.setIfInBounds_toArray, List.set_cons_zero, List.set_cons_succ]
                    refine wpAnyL_done (by kernel_rfl) (NoPanic.normal ?_) _
                    go_wp2
                    go_roundg (gk - 1)
                    case measure => have := HNG.out; have := hn40H.out; omega
                    case rel => exact ⟨n + 1, y, ka1, kc1, ga1, gc1, ya1, yc1, da1, dc1, by have := HNG.out; have := hn40H.out; omega, rfl, by have := hn40H.out; go_num, PN, ON, hbN, hPy⟩
                · intro K' hK'
                  go_simp
                  refine hK'.out _ _ (.inl (by decide)) ?_
                  clear hK' K'
                  try simp only [List.getElem_toArray, List.getElem_cons_succ, List.getElem_cons_zero, Act.put, List.setIfInBounds_toArray, List.set_cons_zero, List.set_cons_succ]
                  refine wpAnyL_one 6 (by kernel_rfl) rfl (by kernel_rfl) ?_
                  intro K' hK'
                  go_simp
                  refine hK'.out _ _ (.inr y1) ?_
                  clear hK' K'
                  try simp only [List.getElem_toArray, List.getElem_cons_succ, List.getElem_cons_zero, Act.put, List.setIfInBounds_toArray, List.set_cons_zero, List.set_cons_succ]
                  refine wpAnyL_one 8 (by kernel_rfl) rfl (by kernel_rfl) ?_
                  intro K' hK'
                  refine wp_store_row 29 _ _ rfl (w4.heap.size) #[.int .i64 y.id.1, .int .u64 (y.id.2 : Int), .int .i64 y.kind, .slice ka1 y.keys.length kc1, .int .u64 (y.token : Int), .int .i64 y.ttl, .slice ga1 y.groups.length gc1, .int .i64 y.state, .slice ya1 y.yes.length yc1, .slice da1 y.done.length dc1, .int .i64 y.code] rfl rfl _ _ PV (by kernel_rfl) rfl (by simp [Value.oneCell']) ?_
                  refine hK'.out _ _ (.inl (by decide)) ?_
                  clear hK' K'
                  try simp only [List.getElem_toArray, List.getElem_cons_succ, List.getElem_cons_zero, Act.put, List.setIfInBounds_toArray, List.set_cons_zero, List.set_cons_succ]
                  refine wpAnyL_one 9 (by kernel_rfl) rfl (by kernel_rfl) ?_
                  intro K' hK'
                  go_simp
                  refine hK'.out _ _ (.inl (by decide)) ?_
                  clear hK' K'
                  try simp only [List.getElem_toArray, List.getElem_cons_succ, List.getElem_cons_zero, Act.put, List.setIfInBounds_toArray, List.set_cons_zero, List.set_cons_succ]
                  refine wpAnyL_done (by kernel_rfl) (NoPanic.normal ?_) _
                  go_wp2
                  go_roundg (gk - 1)
                  case measure => have := HNG.out; have := hn40H.out; omega
                  case rel => exact ⟨n + 1, y, ka1, kc1, ga1, gc1, ya1, yc1, da1, dc1, by have := HNG.out; have := hn40H.out; omega, rfl, by have := hn40H.out; go_num, PN, ON, hbN, hPy⟩
end Go.Proofs.Ytglbjimpaoikfaa

