import Derived.Test.YtfpbgfmnjpamlaaGreatHv09
/- part at intents; intents; intended; slices.EqualFunc. -/
namespace Go.Proofs.YtfpbgfmnjpamlaaGreat
open Go.RowKit LeaseMath
set_option maxRecDepth 100000
set_option linter.unusedSimpArgs false
set_option linter.unusedVariables false

@[go_sem high] theorem eqIn_id (w : World) (a b : Int) (x y : Nat) : (Op.equalIn 10000 30 (.agg #[.int .i64 a, .int .u64 (x : Int)]) (.agg #[.int .i64 b, .int .u64 (y : Int)])).run Tryz.prog w = .ok (decide (a = b) && decide (x = y)) w := by
 have u4 := Tryz.underlying3
 have a4 := Tryz.isAgg3
 have z4 := Tryz.sizeOf3
 have u5 := Tryz.underlying28
 have a5 := Tryz.isAgg28
 have z5 := Tryz.sizeOf28
 have hS : Tryz.prog.underlying 30 = some (.struct (Tryz.prog.fieldsOf 30)) := by kernel_rfl
 have hp : Tryz.prog.stoodInHeld 30 = false := by kernel_rfl
 rw [show (10000 : Nat) = 9999 + 1 from rfl, run_equalIn_agg w 9999 30 _ _ hS hp]
 simp only [Program.fieldsOf, Tryz.underlying30]
 go_simp
 by_cases h1 : a = b <;> by_cases h2 : x = y <;> simp [h1, h2] <;> omega
/-- Two rows of one type that grow side by side. -/
def TwoO {α : Type} (E : El α) (t : TypeId) (n : Nat) (w : World) (u : Value) (P : List α) (v : Value) (Q : List α) : Prop := Ow E t n w u P ∧ Ow E t n w v Q ∧ ∀ k, u.ownBlock = some k → v.ownBlock ≠ some k
theorem TwoO.left {α : Type} {E : El α} {t : TypeId} {n : Nat} {w w' : World} {u u' v : Value} {P P' Q : List α} (h : TwoO E t n w u P v Q) (hn : n ≤ w.heap.size) (hp : PushT E t w u P' u' w') : TwoO E t n w' u' P' v Q ∧ Below n w w' := by
 obtain ⟨h1, h2⟩ := h.1.push hn hp
 refine ⟨⟨h1, ⟨h.2.1.1.same fun k hk => hp.2.1.block k (h.2.1.1.lt hk) (fun e => h.2.2 k e.symm hk), h.2.1.2⟩, fun k hk hv => ?_⟩, h2⟩
 rcases hp.2.2 k hk with h' | h'
 ·exact h.2.2 k h' hv
 ·have := h.2.1.1.lt hv
  omega
theorem TwoO.right {α : Type} {E : El α} {t : TypeId} {n : Nat} {w w' : World} {u v v' : Value} {P Q Q' : List α} (h : TwoO E t n w u P v Q) (hn : n ≤ w.heap.size) (hp : PushT E t w v Q' v' w') : TwoO E t n w' u P v' Q' ∧ Below n w w' := by
 obtain ⟨h1, h2⟩ := h.2.1.push hn hp
 refine ⟨⟨⟨h.1.1.same fun k hk => hp.2.1.block k (h.1.1.lt hk) (fun e => h.2.2 k hk e.symm), h.1.2⟩, h1, fun k hk hv => ?_⟩, h2⟩
 rcases hp.2.2 k hv with h' | h'
 ·exact h.2.2 k hk h'
 ·have := h.1.1.lt hk
  omega
theorem TwoO.below {α : Type} {E : El α} {t : TypeId} {n : Nat} {w w' : World} {u v : Value} {P Q : List α} (h : TwoO E t n w u P v Q) (hb : Below w.heap.size w w') : TwoO E t n w' u P v Q := ⟨h.1.below hb, h.2.1.below hb, h.2.2⟩
theorem fl_yes {α : Type} {p : α → Bool} {l : List α} {i : Nat} {s : α} (h : l[i]? = some s) (hp : p s = true) : (l.take (i + 1)).filter p = (l.take i).filter p ++ [s] := by
 rw [take_succ_get h, List.filter_append]
 simp [hp]
theorem fl_no {α : Type} {p : α → Bool} {l : List α} {i : Nat} {s : α} (h : l[i]? = some s) (hp : p s = false) : (l.take (i + 1)).filter p = (l.take i).filter p := by
 rw [take_succ_get h, List.filter_append]
 simp [hp]
theorem fl_len {α : Type} (p : α → Bool) (l : List α) (i : Nat) : ((l.take i).filter p).length ≤ l.length := by
 have := List.length_filter_le p (l.take i)
 rw [List.length_take] at this
 omega
theorem results_two {fn : Func} {t u : Tmp} (h : fn.results = #[.tmp t, .tmp u]) (tmps : Array Value) (P : Program) (w : World) :
  (results fn tmps).run P w = .ok (.tuple #[tmps.getD t undef, tmps.getD u undef]) w := by
 simp [results, h]

set_option maxHeartbeats 4000000 in
theorem partI_of (P : It → Bool) (zs : List It) (lv p0 : Value) (w : World) (hL : Rd itE w lv zs) (hlen : zs.length ≤ 1000000000) (hP : ∀ z W, z ∈ zs → Below w.heap.size w W → Calls Tryz.prog 98 #[iv z, p0] W fun e w' => e = .returned (.bool (P z)) ∧ Below W.heap.size W w') :
  Calls Tryz.prog 97 #[lv, .func (.func 98) #[] #[p0]] w fun e w' => (∃ u v, e = .returned (.tuple #[u, v]) ∧ TwoO itE 63 w.heap.size w' u (zs.filter P) v (zs.filter (fun x => !P x))) ∧ Below w.heap.size w w' := by
 have HL : Hid (Rd itE w lv zs) := hL
 have HP0 : Hid (∀ z W, z ∈ zs → Below w.heap.size w W → Calls Tryz.prog 98 #[iv z, p0] W fun e w' => e = .returned (.bool (P z)) ∧ Below W.heap.size W w') := hP
 obtain ⟨ao, cap, rfl, -, -⟩ := hL.shape
 clear hL hP
 go_enter Tryz.func97, Tryz.ntmps97
 go_wp2
 go_loopg [4, 5, 10] zs.length (fun g s4 s5 s10 wr => ∃ (i : Nat) (su sv_ : Value), i + g = zs.length ∧ s10 = .int .i64 (i : Int) ∧ su = s4 ∧ sv_ = s5 ∧ TwoO itE 63 w.heap.size wr su ((zs.take i).filter P) sv_ ((zs.take i).filter (fun x => !P x)) ∧ Below w.heap.size w wr)
 case atStart => exact ⟨0, _, _, by omega, rfl, rfl, rfl, ⟨by rw [List.take_zero]; exact Ow.nil _ _ _ _, by rw [List.take_zero]; exact Ow.nil _ _ _ _, fun k hk => by cases hk⟩, Below.refl _ _⟩
 case round =>
  obtain ⟨i, su, sv_, hig, rfl, rfl, rfl, hO, hb⟩ := hrel
  obtain ⟨ua, uc, hsu, -⟩ := hO.1.1.shape
  obtain ⟨va, vc, hsv, -⟩ := hO.2.1.1.shape
  by_cases hlt : i < zs.length
  ·have hlti : (i : Int) < (zs.length : Int) := by omega
   have hx : zs[i]? = some zs[i] := List.getElem?_eq_getElem hlt
   obtain ⟨z, hzz⟩ : ∃ z, z = zs[i] := ⟨_, rfl⟩
   rw [← hzz] at hx
   clear hzz
   obtain ⟨b, off, rfl, cc⟩ := rdx_at HL.out hx
   obtain ⟨c0, c1, c2, c3, c4, c5⟩ := cc wr hb
   obtain ⟨hsx, hbx, clx⟩ := it_box wr z
   obtain ⟨d0, d1, d2, d3, d4, d5⟩ := clx _ (Below.refl _ _)
   have hbx1 := hbx
   have kf := HP0.out z (wr.alloc (ic z)) (List.mem_of_getElem? hx) (keep_step hb (Nat.le_refl _) hbx)
   have hszx : Hid (wr.heap.size + 1 ≤ (wr.alloc (ic z)).heap.size) := by show _ ≤ _; omega
   clear HP0
   cases hh : P z with
   | true =>
    rw [hh] at kf
    have HN : Hid ((zs.take (i + 1)).filter P = (zs.take i).filter P ++ [z]) := fl_yes hx hh
    have HM : Hid ((zs.take (i + 1)).filter (fun x => !P x) = (zs.take i).filter (fun x => !P x)) := fl_no hx (by rw [hh]; rfl)
    obtain ⟨k, ⟨c, q⟩, kd, tk, tt⟩ := z
    dsimp only [iv, ic] at *
    clear hh hx cc hsx hbx
    go_wp2_with fail
    refine kf.mono ?_
    rintro e w2 ⟨rfl, hb2⟩
    have hx2 := keep_step (Below.refl (wr.heap.size + 1) (wr.alloc (.cells #[.string (bk k), .int .i64 c, .int .u64 (q : Int), .int .i64 kd, .int .u64 (tk : Int), .int .i64 tt] 63))) hszx.out hb2
    obtain ⟨e0, e1, e2, e3, e4, e5⟩ := clx w2 hx2
    have hbr2 := hbx1.trans (hx2.mono (Nat.le_succ _))
    have hO2 := hO.below hbr2
    have hbw2 := keep_step hb (Nat.le_refl _) hbr2
    have hrunH : Hid _ := push_it (k, (c, q), kd, tk, tt) hO2.1.1 (by have := fl_len P zs i; omega)
    have HGP : Hid (∀ v' w', PushT itE 63 w2 su ((zs.take i).filter P ++ [(k, (c, q), kd, tk, tt)]) v' w' → TwoO itE 63 w.heap.size w' v' ((zs.take (i + 1)).filter P) sv_ ((zs.take (i + 1)).filter (fun x => !P x)) ∧ Below w.heap.size w2 w') := fun v' w' hp => by
     rw [HN.out, HM.out]
     exact hO2.left hbw2.size hp
    clear hO hO2 kf clx hx2 hbr2 hbx1 HN HM HL
    generalize ((zs.take i).filter P).length = n1 at hsu
    generalize ((zs.take i).filter (fun x => !P x)).length = n2 at hsv
    subst hsu hsv
    go_wp2_with (at_builtin; refine wp_by rfl _ _ _ rfl _ _ rfl rfl hrunH.out ?_)
    intro v6 w6 hp6
    obtain ⟨hO6, hb6⟩ := HGP.out v6 w6 hp6
    have hb06 := hbw2.trans hb6
    clear hrunH hp6 hb6 HGP hb hbw2
    go_wp2
    go_roundg (gk - 1)
    case measure => omega
    case rel => exact ⟨i + 1, v6, _, by omega, by go_num, rfl, rfl, hO6, hb06⟩
   | false =>
    rw [hh] at kf
    have HN : Hid ((zs.take (i + 1)).filter P = (zs.take i).filter P) := fl_no hx hh
    have HM : Hid ((zs.take (i + 1)).filter (fun x => !P x) = (zs.take i).filter (fun x => !P x) ++ [z]) := fl_yes hx (by rw [hh]; rfl)
    obtain ⟨k, ⟨c, q⟩, kd, tk, tt⟩ := z
    dsimp only [iv, ic] at *
    clear hh hx cc hsx hbx
    go_wp2_with fail
    refine kf.mono ?_
    rintro e w2 ⟨rfl, hb2⟩
    have hx2 := keep_step (Below.refl (wr.heap.size + 1) (wr.alloc (.cells #[.string (bk k), .int .i64 c, .int .u64 (q : Int), .int .i64 kd, .int .u64 (tk : Int), .int .i64 tt] 63))) hszx.out hb2
    obtain ⟨e0, e1, e2, e3, e4, e5⟩ := clx w2 hx2
    have hbr2 := hbx1.trans (hx2.mono (Nat.le_succ _))
    have hO2 := hO.below hbr2
    have hbw2 := keep_step hb (Nat.le_refl _) hbr2
    have hrunH : Hid _ := push_it (k, (c, q), kd, tk, tt) hO2.2.1.1 (by have := fl_len (fun x => !P x) zs i; omega)
    have HGP : Hid (∀ v' w', PushT itE 63 w2 sv_ ((zs.take i).filter (fun x => !P x) ++ [(k, (c, q), kd, tk, tt)]) v' w' → TwoO itE 63 w.heap.size w' su ((zs.take (i + 1)).filter P) v' ((zs.take (i + 1)).filter (fun x => !P x)) ∧ Below w.heap.size w2 w') := fun v' w' hp => by
     rw [HN.out, HM.out]
     exact hO2.right hbw2.size hp
    clear hO hO2 kf clx hx2 hbr2 hbx1 HN HM HL
    generalize ((zs.take i).filter P).length = n1 at hsu
    generalize ((zs.take i).filter (fun x => !P x)).length = n2 at hsv
    subst hsu hsv
    go_wp2_with (at_builtin; refine wp_by rfl _ _ _ rfl _ _ rfl rfl hrunH.out ?_)
    intro v6 w6 hp6
    obtain ⟨hO6, hb6⟩ := HGP.out v6 w6 hp6
    have hb06 := hbw2.trans hb6
    clear hrunH hp6 hb6 HGP hb hbw2
    go_wp2
    go_roundg (gk - 1)
    case measure => omega
    case rel => exact ⟨i + 1, _, v6, by omega, by go_num, rfl, rfl, hO6, hb06⟩
  ·have hlti : ¬ (i : Int) < (zs.length : Int) := by omega
   rw [List.take_of_length_le (by omega)] at hO
   clear HL HP0
   generalize (zs.filter P).length = n1 at *
   subst hsu hsv
   go_wp2
   refine bodyPost_ret (results_two rfl _ _ _) rfl ?_
   exact ⟨⟨_, _, rfl, hO⟩, hb⟩

theorem ints1_of {w : World} {q : Nat} {d : Cq} (h1 : w.cell? ⟨q, 0, none⟩ = some (.int .i64 d.1)) (h2 : w.cell? ⟨q, 1, none⟩ = some (.int .u64 (d.2 : Int))) (x : It) :
  Calls Tryz.prog 98 #[iv x, .pointer (some ⟨q, 0, none⟩)] w fun e w' => e = .returned (.bool (decide (x.2.1 = d))) ∧ Below w.heap.size w w' := by
 obtain ⟨k, ⟨c, y⟩, kd, tk, tt⟩ := x
 obtain ⟨d1, d2⟩ := d
 obtain ⟨hs, hb, cl⟩ := it_box w (k, (c, y), kd, tk, tt)
 obtain ⟨c0, c1, c2, c3, c4, c5⟩ := cl _ (Below.refl _ _)
 have g1 := (hb.cell (p := ⟨q, 0, none⟩) (World.block_lt_of_cell? w _ h1)).trans h1
 have g2 := (hb.cell (p := ⟨q, 1, none⟩) (World.block_lt_of_cell? w _ h2)).trans h2
 have E : Hid (decide (((c, y) : Cq) = (d1, d2)) = (decide (c = d1) && decide (y = d2))) := by show _ = _; rw [Bool.eq_iff_iff]; simp
 dsimp only [iv, ic] at *
 rw [E.out]
 clear cl h1 h2 E
 go_enter Tryz.func98, Tryz.ntmps98
 go_wp2
 go_ret
 exact ⟨rfl, hb⟩
/-- A transaction's intents. -/
def mineM (l : List It) (d : Cq) : List It := l.filter fun x => decide (x.2.1 = d)
set_option maxHeartbeats 1000000 in
theorem intents_of (z : Tz) (d : Cq) (w : World) (hR : TbR w z) (hlen : z.t.ints.length ≤ 1000000000) : Calls Tryz.prog 35 #[tv z, idv d] w fun e w' => (∃ v, e = .returned v ∧ Ow itE 63 w.heap.size w' v (mineM z.t.ints d)) ∧ Below w.heap.size w w' := by
 obtain ⟨h1, b1, l1⟩ := tb_box w z
 obtain ⟨h2, b2, l2⟩ := id_box (w.alloc (tc z)) d
 rw [h1] at h2 b2 l2
 have bb := b1.trans (b2.mono (Nat.le_succ _))
 obtain ⟨d0, d1, d2, d3, d4, d5⟩ := l1 _ b2
 have K : Calls Tryz.prog 97 #[.slice z.i.1 z.t.ints.length z.i.2, .func (.func 98) #[] #[.pointer (some ⟨w.heap.size + 1, 0, none⟩)]] ((w.alloc (tc z)).alloc (idc d)) _ := partI_of (fun x => decide (x.2.1 = d)) z.t.ints _ _ _ (hR.2.2.2.2.below bb) hlen fun x W _ hW => ints1_of (l2 W (hW.mono (by omega))).1 (l2 W (hW.mono (by omega))).2 x
 have hle : w.heap.size ≤ ((w.alloc (tc z)).alloc (idc d)).heap.size := by omega
 clear hR l1 l2 hlen h1 h2 b1 b2
 dsimp only [tv, tc, idv, idc] at *
 go_enter Tryz.func35, Tryz.ntmps35
 go_wp2_with fail
 refine K.mono ?_
 rintro e w3 ⟨⟨u, v, rfl, hT⟩, hb3⟩
 obtain ⟨ua, uc, rfl, -, -⟩ := hT.1.1.rd.shape
 obtain ⟨va, vc, rfl, -, -⟩ := hT.2.1.1.rd.shape
 have hO := hT.1.mono hle
 clear hT K
 go_wp2
 go_ret
 exact ⟨⟨_, rfl, hO⟩, keep_step bb (Nat.le_refl _) hb3⟩

theorem itd1_of {w : World} {q : Nat} {c : K} (h1 : w.cell? ⟨q, 0, none⟩ = some (.string (bk c))) (x : It) :
  Calls Tryz.prog 150 #[iv x, .pointer (some ⟨q, 0, none⟩)] w fun e w' => e = .returned (.bool (decide (x.1 = c))) ∧ Below w.heap.size w w' := by
 obtain ⟨k, ⟨c', y⟩, kd, tk, tt⟩ := x
 obtain ⟨hs, hb, cl⟩ := it_box w (k, (c', y), kd, tk, tt)
 obtain ⟨c0, c1, c2, c3, c4, c5⟩ := cl _ (Below.refl _ _)
 have g1 := (hb.cell (p := ⟨q, 0, none⟩) (World.block_lt_of_cell? w _ h1)).trans h1
 dsimp only [iv, ic] at *
 clear cl h1
 go_enter Tryz.func150, Tryz.ntmps150
 go_wp2
 go_ret
 exact ⟨rfl, hb⟩
/-- Is a key about to turn? -/
def itdB (l : List It) (c : K) : Bool := l.any fun x => decide (x.1 = c)
set_option maxHeartbeats 1000000 in
theorem intended_of (z : Tz) (c : K) (w : World) (hR : TbR w z) (hlen : z.t.ints.length ≤ 1000000000) : Calls Tryz.prog 89 #[tv z, .string (bk c)] w fun e w' => e = .returned (.bool (itdB z.t.ints c)) ∧ Below w.heap.size w w' := by
 obtain ⟨h1, b1, l1⟩ := tb_box w z
 obtain ⟨h2, b2, l2⟩ := box_all (w.alloc (tc z)) #[.string (bk c)] 9
 rw [h1] at h2 b2 l2
 have bb := b1.trans (b2.mono (Nat.le_succ _))
 obtain ⟨d0, d1, d2, d3, d4, d5⟩ := l1 _ b2
 have K : Calls Tryz.prog 58 #[.slice z.i.1 z.t.ints.length z.i.2, .func (.func 150) #[] #[.pointer (some ⟨w.heap.size + 1, 0, none⟩)]] ((w.alloc (tc z)).alloc (.cells #[.string (bk c)] 9)) _ := anyInts_of (fun x => decide (x.1 = c)) z.t.ints _ _ _ (hR.2.2.2.2.below bb) (by omega) fun x W _ hW => itd1_of (l2 W (hW.mono (by omega)) 0 _ rfl) x
 obtain ⟨B, HB⟩ : ∃ B, Hid (B = itdB z.t.ints c) := ⟨_, rfl⟩
 rw [← HB.out]
 have HB' : Hid (B = z.t.ints.any fun x => decide (x.1 = c)) := HB
 clear hR l1 l2 hlen h1 h2 b1 b2 HB
 rw [← HB'.out] at K
 clear HB'
 dsimp only [tv, tc] at *
 go_enter Tryz.func89, Tryz.ntmps89
 go_wp2_with fail
 refine K.mono ?_
 rintro e w3 ⟨rfl, hb3⟩
 go_wp2
 go_ret
 exact ⟨rfl, keep_step bb (Nat.le_refl _) hb3⟩

theorem prep1_of (x : It) (c : K) (w : World) : Calls Tryz.prog 37 #[iv x, .string (bk c)] w fun e w' => e = .returned (.bool (decide (x.1 = c))) ∧ Below w.heap.size w w' := by
 obtain ⟨k, ⟨c', y⟩, kd, tk, tt⟩ := x
 obtain ⟨hs, hb, cl⟩ := it_box w (k, (c', y), kd, tk, tt)
 obtain ⟨c0, c1, c2, c3, c4, c5⟩ := cl _ (Below.refl _ _)
 dsimp only [iv, ic] at *
 clear cl
 go_enter Tryz.func37, Tryz.ntmps37
 go_wp2
 go_ret
 exact ⟨rfl, hb⟩
theorem map_drop_ne {l : List It} {m : List K} {i : Nat} {x : It} {c : K} (hx : l[i]? = some x) (hc : m[i]? = some c) (hn : x.1 ≠ c) : l.map (fun x => x.1) ≠ m := by
 intro e
 have h1 : (l.map fun x => x.1)[i]? = some x.1 := by rw [List.getElem?_map, hx]; rfl
 rw [e, hc] at h1
 exact hn (Option.some.inj h1).symm
set_option maxHeartbeats 2000000 in
theorem equalF_of (l : List It) (m : List K) (lv mv_ : Value) (w : World) (hL : Rd itE w lv l) (hM_ : Rd kyE w mv_ m) (hlen : l.length ≤ 1000000000) : Calls Tryz.prog 36 #[lv, mv_, .func (.func 37) #[] #[]] w fun e w' => e = .returned (.bool (decide (l.map (fun x => x.1) = m))) ∧ Below w.heap.size w w' := by
 obtain ⟨B, HB⟩ : ∃ B, Hid (B = decide (l.map (fun x => x.1) = m)) := ⟨_, rfl⟩
 rw [← HB.out]
 have HL : Hid (Rd itE w lv l) := hL
 have HM : Hid (Rd kyE w mv_ m) := hM_
 obtain ⟨ao, cap, rfl, -, -⟩ := hL.shape
 obtain ⟨bo, cbp, rfl, -, -⟩ := hM_.shape
 clear hL hM_
 by_cases hl : l.length = m.length
 ·have hli : ((l.length : Int) != (m.length : Int)) = false := by simp [hl]
  have HP0 : Hid (∀ j x c, j < 0 → l[j]? = some x → m[j]? = some c → x.1 = c) := fun j x c h => by omega
  go_enter Tryz.func36, Tryz.ntmps36
  go_wp2
  go_loopg [17] l.length (fun g s17 wr => ∃ i : Nat, i + g = l.length ∧ s17 = .int .i64 (i : Int) ∧ Below w.heap.size w wr ∧ Hid (∀ j x c, j < i → l[j]? = some x → m[j]? = some c → x.1 = c))
  case atStart => exact ⟨0, by omega, rfl, Below.refl _ _, HP0⟩
  case round =>
   obtain ⟨i, hig, rfl, hb, HP⟩ := hrel
   clear HP0
   by_cases hlt : i < l.length
   ·have hlti : (i : Int) < (l.length : Int) := by omega
    have hltm : (i : Int) < (m.length : Int) := by omega
    have hx : l[i]? = some l[i] := List.getElem?_eq_getElem hlt
    have hy : m[i]? = some (m[i]'(by omega)) := List.getElem?_eq_getElem (by omega)
    obtain ⟨x, hxx⟩ : ∃ x, x = l[i] := ⟨_, rfl⟩
    obtain ⟨c, hcc⟩ : ∃ c, c = m[i]'(by omega) := ⟨_, rfl⟩
    rw [← hxx] at hx
    rw [← hcc] at hy
    clear hxx hcc
    obtain ⟨b, off, rfl, cc⟩ := rdx_at HL.out hx
    obtain ⟨b', off', rfl, cy⟩ := rds_at HM.out hy
    obtain ⟨a0, a1, a2, a3, a4, a5⟩ := cc wr hb
    obtain ⟨hsx, hbx, clx⟩ := it_box wr x
    obtain ⟨d0, d1, d2, d3, d4, d5⟩ := clx _ (Below.refl _ _)
    have hb1 := keep_step hb (Nat.le_refl _) hbx
    have g0 := cy _ hb1
    have kf := fun W => prep1_of x c W
    by_cases hk : x.1 = c
    ·have HN : Hid (∀ j x c, j < i + 1 → l[j]? = some x → m[j]? = some c → x.1 = c) := fun j x' c' hj hx' hc' => by
      by_cases hji : j = i
      ·subst hji
       rw [hx] at hx'
       rw [hy] at hc'
       cases hx'
       cases hc'
       exact hk
      ·exact HP.out j x' c' (by omega) hx' hc'
     rw [decide_eq_true hk] at kf
     obtain ⟨k, ⟨c', y⟩, kd, tk, tt⟩ := x
     dsimp only [iv, ic] at *
     clear HP HL HM cc cy clx hsx hbx hx hy hk hl hli
     go_wp2_with fail
     refine (kf _).mono ?_
     rintro e w2 ⟨rfl, hb2⟩
     go_wp2
     go_roundg (gk - 1)
     case measure => omega
     case rel => exact ⟨i + 1, by omega, by go_num, keep_step hb1 (Nat.le_refl _) hb2, HN⟩
    ·have E : Hid (B = false) := by show _ = _; rw [HB.out]; exact decide_eq_false (map_drop_ne hx hy hk)
     rw [decide_eq_false hk] at kf
     obtain ⟨k, ⟨c', y⟩, kd, tk, tt⟩ := x
     dsimp only [iv, ic] at *
     clear HP HL HM cc cy clx hsx hbx hx hy hk HB hl hli
     go_wp2_with fail
     refine (kf _).mono ?_
     rintro e w2 ⟨rfl, hb2⟩
     go_wp2
     go_ret
     exact ⟨by rw [E.out]; rfl, keep_step hb1 (Nat.le_refl _) hb2⟩
   ·have hlti : ¬ (i : Int) < (l.length : Int) := by omega
    have E : Hid (B = true) := by
     show _ = _
     rw [HB.out]
     refine decide_eq_true (List.ext_getElem? fun j => ?_)
     rw [List.getElem?_map]
     by_cases hj : j < l.length
     ·rw [List.getElem?_eq_getElem hj, List.getElem?_eq_getElem (by omega)]
      exact congrArg some (HP.out j _ _ (by omega) (List.getElem?_eq_getElem hj) (List.getElem?_eq_getElem (by omega)))
     ·rw [List.getElem?_eq_none (by omega), List.getElem?_eq_none (by omega)]
      rfl
    clear HP HL HM HB
    go_wp2
    go_ret
    exact ⟨by rw [E.out]; rfl, hb⟩
 ·have hli : ((l.length : Int) != (m.length : Int)) = true := by simpa using (by omega : ¬ (l.length : Int) = (m.length : Int))
  have E : Hid (B = false) := by
   show _ = _
   rw [HB.out]
   refine decide_eq_false fun e => hl ?_
   rw [← e, List.length_map]
  clear HB HL HM hl
  go_enter Tryz.func36, Tryz.ntmps36
  go_wp2
  go_ret
  exact ⟨by rw [E.out]; rfl, Below.refl _ _⟩
end Go.Proofs.YtfpbgfmnjpamlaaGreat

