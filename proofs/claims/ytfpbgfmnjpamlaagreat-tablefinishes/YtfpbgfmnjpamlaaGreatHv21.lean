import Derived.Test.YtfpbgfmnjpamlaaGreatHv20
/- Where a hold's place is. -/
namespace Go.Proofs.YtfpbgfmnjpamlaaGreat
open Go.RowKit LeaseMath
set_option maxRecDepth 100000
set_option linter.unusedSimpArgs false
set_option linter.unusedVariables false

set_option maxHeartbeats 1000000 in
theorem put1h_of {w : World} {q : Nat} (hq : w.cell? ⟨q, 0, none⟩ = some (.func (.func 152) #[] #[])) (z : Hd) (c : K) : Calls Tryz.prog 181 #[hv z, .string (bk c), .pointer (some ⟨q, 0, none⟩)] w fun e w' => e = .returned (.int .i64 (cmpM z.1 c)) ∧ Below w.heap.size w w' := by
 have hql := World.block_lt_of_cell? w _ hq
 dsimp only at hql
 obtain ⟨hs, hb, cl⟩ := hd_box w z
 obtain ⟨c0, c1, c2⟩ := cl _ (Below.refl _ _)
 have hq1 := (hb.cell (p := ⟨q, 0, none⟩) hql).trans hq
 have kk := keyh_of z (w.alloc (hc z))
 rw [hs] at kk
 have kc := fun W => compare_of z.1 c W
 obtain ⟨k, t, u⟩ := z
 dsimp only [hv, hc] at *
 generalize cmpM k c = R at *
 clear cl hq
 go_enter Tryz.func181, Tryz.ntmps181
 go_wp2_with fail
 refine kk.mono ?_
 rintro e w1 ⟨rfl, hb1⟩
 clear kk
 go_wp2_with fail
 refine (kc _).mono ?_
 rintro e w2 ⟨rfl, hw2⟩
 subst hw2
 go_wp2
 go_ret
 exact ⟨rfl, hb.trans (hb1.mono (Nat.le_succ _))⟩

set_option maxHeartbeats 4000000 in
theorem searchh_of (zs : List Hd) (lv : Value) (c : K) (K : Nat) (w : World) {q : Nat} (hq : w.cell? ⟨q, 0, none⟩ = some (.func (.func 152) #[] #[])) (hF : Rd holdE w lv zs) (hlen : zs.length ≤ 1000000) (hS : Plc zs c K) : Calls Tryz.prog 180 #[lv, .string (bk c), .func (.func 181) #[] #[.pointer (some ⟨q, 0, none⟩)]] w fun e w' => e = .returned (.tuple #[.int .i64 (K : Int), .bool (hasB zs K c)]) ∧ Below w.heap.size w w' := by
 obtain ⟨B, HB⟩ : ∃ B, Hid (B = hasB zs K c) := ⟨_, rfl⟩
 rw [← HB.out]
 have HS : Hid (Plc zs c K) := hS
 have hKl : K ≤ zs.length := hS.1
 have hql := World.block_lt_of_cell? w _ hq
 dsimp only at hql
 have hqW : ∀ W, Below w.heap.size w W → W.cell? ⟨q, 0, none⟩ = some (.func (.func 152) #[] #[]) := fun W hW => (hW.cell (p := ⟨q, 0, none⟩) hql).trans hq
 have HK : Hid (∀ z W, Below w.heap.size w W → Calls Tryz.prog 181 #[hv z, .string (bk c), .pointer (some ⟨q, 0, none⟩)] W fun e w' => e = .returned (.int .i64 (cmpM z.1 c)) ∧ Below W.heap.size W w') := fun z W hW => put1h_of (hqW W hW) z c
 have HL : Hid (Rd holdE w lv zs) := hF
 obtain ⟨ao, cap, rfl, -, -⟩ := hF.shape
 clear hS hF hqW hq
 go_enter Tryz.func180, Tryz.ntmps180
 go_wp2
 go_loopg [9, 10] (zs.length + 1) (fun g s9 s10 wr => ∃ i j : Nat, i ≤ K ∧ K ≤ j ∧ j ≤ zs.length ∧ j - i < g ∧ s9 = .int .i64 (i : Int) ∧ s10 = .int .i64 (j : Int) ∧ Below w.heap.size w wr)
 case atStart => exact ⟨0, zs.length, Nat.zero_le _, hKl, Nat.le_refl _, by omega, rfl, rfl, Below.refl _ _⟩
 case round =>
  obtain ⟨i, j, hiK, hKj, hjl, hg, rfl, rfl, hb⟩ := hrel
  by_cases hij : i < j
  ·have hiji : (i : Int) < (j : Int) := by omega
   obtain ⟨h, hh⟩ : ∃ h : Nat, Hid (h = (i + j) / 2) := ⟨_, rfl⟩
   have hh1 : i ≤ h := by have := hh.out; omega
   have hh2 : h < j := by have := hh.out; omega
   have hhl : h < zs.length := by omega
   have hx : zs[h]? = some zs[h] := List.getElem?_eq_getElem hhl
   obtain ⟨z, hxx⟩ : ∃ x, x = zs[h] := ⟨_, rfl⟩
   rw [← hxx] at hx
   clear hxx
   obtain ⟨b, off, rfl, cc⟩ := rdh_at HL.out hx
   obtain ⟨c0, c1, c2⟩ := cc wr hb
   have kl := HK.out z wr hb
   have hle : z.1 < c → h < K := fun hxz => by
    by_cases hk : K ≤ h
    ·have := HS.out.2.2 h z hk hx
     exact absurd this (by grind)
    ·omega
   have hge : ¬ z.1 < c → K ≤ h := fun hxz => by
    by_cases hk : h < K
    ·have := HS.out.2.1 h z hk hx
     exact absurd this hxz
    ·omega
   have q1 : ((i : Int) + (j : Int)) / 2 = (h : Int) := by have := hh.out; omega
   have q2 : (((i : Int) + (j : Int)) / 2).toNat = h := by omega
   obtain ⟨k, t, u⟩ := z
   dsimp only [hv] at *
   by_cases hxz : k < c
   ·rw [cmp_lt hxz] at kl
    have hhK := hle hxz
    clear hle hge HS HB HL cc hx HK hxz
    go_wp2_with fail
    refine kl.mono ?_
    rintro e w1 ⟨rfl, hb1⟩
    have hb2 := hb.trans (hb1.mono hb.size)
    clear kl c0 c1 c2
    go_wp2
    go_roundg (gk - 1)
    case measure => omega
    case rel => exact ⟨h + 1, j, by omega, hKj, hjl, by omega, by go_num, rfl, hb2⟩
   ·have hhK := hge hxz
    have hR0 := cmp_ge hxz
    generalize cmpM k c = R at *
    clear hle hge HS HB HL cc hx HK hxz
    go_wp2_with fail
    refine kl.mono ?_
    rintro e w1 ⟨rfl, hb1⟩
    have hb2 := hb.trans (hb1.mono hb.size)
    clear kl c0 c1 c2
    go_wp2
    go_roundg (gk - 1)
    case measure => omega
    case rel => exact ⟨i, h, by omega, hhK, by omega, by omega, rfl, by go_num, hb2⟩
  ·have hiji : ¬ (i : Int) < (j : Int) := by omega
   obtain rfl : i = K := by omega
   obtain rfl : i = j := by omega
   by_cases hil : i < zs.length
   ·have hili : (i : Int) < (zs.length : Int) := by omega
    have hx : zs[i]? = some zs[i] := List.getElem?_eq_getElem hil
    obtain ⟨z, hxx⟩ : ∃ x, x = zs[i] := ⟨_, rfl⟩
    rw [← hxx] at hx
    clear hxx
    obtain ⟨b, off, rfl, cc⟩ := rdh_at HL.out hx
    obtain ⟨c0, c1, c2⟩ := cc wr hb
    have kl := HK.out z wr hb
    have hBz : B = decide (z.1 = c) := by rw [HB.out]; unfold hasB; rw [hx]
    obtain ⟨k, t, u⟩ := z
    dsimp only [hv] at *
    by_cases hxz : k = c
    ·have E : Hid (B = true) := by show _ = _; rw [hBz, decide_eq_true hxz]
     have hR : cmpM k c = 0 := by rw [hxz]; exact cmp_eq c
     rw [hR] at kl
     clear HS HB HL cc hx HK hBz hR hxz
     go_wp2_with fail
     refine kl.mono ?_
     rintro e w1 ⟨rfl, hb1⟩
     have hb2 := hb.trans (hb1.mono hb.size)
     clear kl c0 c1 c2
     go_wp2
     go_ret2
     exact ⟨by rw [E.out]; rfl, hb2⟩
    ·have E : Hid (B = false) := by show _ = _; rw [hBz, decide_eq_false hxz]
     have hR0 := cmp_ne hxz
     generalize cmpM k c = R at *
     have hR1 : (R == 0) = false := by simpa using hR0
     clear HS HB HL cc hx HK hBz hxz
     go_wp2_with fail
     refine kl.mono ?_
     rintro e w1 ⟨rfl, hb1⟩
     have hb2 := hb.trans (hb1.mono hb.size)
     clear kl c0 c1 c2
     go_wp2
     go_ret2
     exact ⟨by rw [E.out]; rfl, hb2⟩
   ·have hili : ¬ (i : Int) < (zs.length : Int) := by omega
    have E : Hid (B = false) := by
     show _ = _
     rw [HB.out]
     unfold hasB
     rw [List.getElem?_eq_none (by omega)]
    clear HS HB HL HK
    go_wp2
    go_ret2
    exact ⟨by rw [E.out]; rfl, hb⟩
end Go.Proofs.YtfpbgfmnjpamlaaGreat

