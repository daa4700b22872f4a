import Derived.Test.YtfpbgfmnjpamlaaGreatHv07
import Derived.Test.YtfpbgfmnjpamlaaGreatHv15
/- The contracts of slices.Grow and slices.Concat at holds and marks. -/
namespace Go.Proofs.YtfpbgfmnjpamlaaGreat
open Go.RowKit LeaseMath
set_option maxRecDepth 100000
set_option linter.unusedSimpArgs false
set_option linter.unusedVariables false

set_option maxHeartbeats 2000000 in
theorem growh_of (n : Nat) (h0 : 0 < n) (hn : n ≤ 1000000) (w : World) : Calls Tryz.prog 172 #[.slice none 0 0, .int .i64 (n : Int)] w fun e w' => ∃ v, e = .returned v ∧ Ow holdE 59 w.heap.size w' v [] ∧ Below w.heap.size w w' := by
 obtain ⟨i0, i1, i2, i3, i4⟩ := info_get infoHold
 have hrz : ∀ ty, (Builtin.append_ #[23, 3] ty #[.slice none 0 0, .int .i64 (n : Int)]).run Tryz.prog w = _ := fun ty =>
  Lib.run_append_grow_zeros w 23 3 ty 59 i0 _ .i64 .i64 Tryz.underlying23 Tryz.underlying3 i1 i2 none 0 0 [] (run_firstCells_none w.drew i0.size 0 0 0) n h0 (by rw [i3]; decide) (by omega) (by omega) (by rw [i4]; omega) (by
   rw [i4, Nat.zero_add]
   unfold Builtin.nextslicecap
   rw [if_pos (by omega)]
   omega)
 have hG := grownCap_ge w (0 + n) 0 59
 have hG2 := grownCap_le_maxLen w (0 + n) 0 59 (by unfold maxLen; omega)
 rw [Nat.zero_add] at hrz hG hG2
 generalize hGG : grownCap w n 0 59 = G at *
 obtain ⟨CS, hCS⟩ : ∃ CS, CS = (([] : List Value).toArray ++ Builtin.zeroCells (Value.agg #[.string { data := #[] }, .int .u64 0, .int .i64 0]).cells n ++ Builtin.zeroCells (Value.agg #[.string { data := #[] }, .int .u64 0, .int .i64 0]).cells (G - n)) := ⟨_, rfl⟩
 rw [← hCS] at hrz
 have hsz : CS.size = G * 3 := by
  rw [hCS, Array.size_append, Array.size_append, zeroCells_size, zeroCells_size, show (Value.agg #[.string { data := #[] }, .int .u64 0, .int .i64 0]).cells.size = 3 from rfl]
  simp
  omega
 have hG9 : G ≤ 9223372036854775807 := by unfold maxLen at hG2; omega
 have hni : (0 : Int) < (n : Int) := by omega
 have hni2 : ¬ (n : Int) < 0 := by omega
 have hni3 : IntKind.i64.wrap ((n : Int) - 0) = (n : Int) := by rw [Int.sub_zero]; exact IntWalk.i64_in _ (by omega)
 have hfin : Ow holdE 59 w.heap.size (w.drew.alloc (.cells CS 59)) (.slice (some ⟨w.heap.size, 0, none⟩) 0 G) [] ∧ Below w.heap.size w (w.drew.alloc (.cells CS 59)) := by
  refine ⟨⟨⟨by simp [El.flat], .inr ⟨w.heap.size, G, CS, rfl, Nat.zero_le _, heap_alloc_new w.drew _, Nat.zero_le _, hG2, hsz, by simp [El.flat]⟩⟩, fun k hk => ?_⟩, (Below.refl _ _).drew.alloc (Nat.le_refl _) _⟩
  cases hk
  exact Nat.le_refl _
 clear hCS hGG hsz hG2
 have hrzH : Hid _ := hrz
 clear hrz
 go_enter Tryz.func172, Tryz.ntmps172
 go_wp2_with (at_builtin; refine Lib.wpList_append_run _ rfl _ _ _ _ rfl _ _ rfl rfl _ _ (hrzH.out _) ?_)
 go_ret
 exact ⟨_, rfl, hfin⟩

set_option maxHeartbeats 4000000 in
theorem concath_of (q : Nat) (vs : List Value) (ls : List (List Hd)) (w : World) (hq : ∀ (i : Nat) (v : Value), vs[i]? = some v → w.cell? ⟨q, i, none⟩ = some v) (hv : ∀ (i : Nat) (v : Value) (xs : List Hd), vs[i]? = some v → ls[i]? = some xs → Rd holdE w v xs) (K : Nat) (hK : K ≤ 3) (hl : vs.length = K) (hl2 : ls.length = K) (hpos : 0 < ls.flatten.length) (htot : ls.flatten.length ≤ 3000) :
  Calls Tryz.prog 136 #[.slice (some ⟨q, 0, none⟩) K K] w fun e w' => ∃ v, e = .returned v ∧ Ow holdE 59 w.heap.size w' v ls.flatten ∧ Below w.heap.size w w' := by
 have hsum : ∀ i xs, ls[i]? = some xs → (ls.take (i + 1)).flatten = (ls.take i).flatten ++ xs := fun i xs h => by
  rw [take_succ_get h, List.flatten_append]
  simp
 have hle : ∀ i, (ls.take i).flatten.length ≤ 3000 := fun i => by
  have : ls.flatten = (ls.take i).flatten ++ (ls.drop i).flatten := by rw [← List.flatten_append, List.take_append_drop]
  rw [this, List.length_append] at htot
  omega
 obtain ⟨F, HF⟩ : ∃ F : Nat → Nat, Hid (∀ i, F i = (ls.take i).flatten.length) := ⟨_, fun _ => rfl⟩
 have kg := fun W => growh_of (F K) (by rw [HF.out, List.take_of_length_le (by omega)]; exact hpos) (by rw [HF.out]; have := hle K; omega) W
 have hF0 : F 0 = 0 := by rw [HF.out]; simp
 go_enter Tryz.func136, Tryz.ntmps136
 go_wp2
 go_loopg [3, 11] K (fun g s3 s11 wr => ∃ (i : Nat), i + g = K ∧ s11 = .int .i64 (i : Int) ∧ s3 = .int .i64 ((F i : Nat) : Int) ∧ wr = w)
 case atStart => exact ⟨0, by simp, rfl, by rw [hF0]; rfl, rfl⟩
 case round =>
  obtain ⟨i, hig, rfl, rfl, rfl⟩ := hrel
  by_cases hlt : i < K
  ·have hlti : (i : Int) < (K : Int) := by omega
   have hi3 : i < K := hlt
   obtain ⟨v, hvi⟩ : ∃ v, vs[i]? = some v := ⟨vs[i]'(by omega), List.getElem?_eq_getElem _⟩
   obtain ⟨xs, hxi⟩ : ∃ xs, ls[i]? = some xs := ⟨ls[i]'(by omega), List.getElem?_eq_getElem _⟩
   have c0 := hq i v hvi
   obtain ⟨ao, cap, rfl, -⟩ := hv i v xs hvi hxi
   have h1 := hsum i xs hxi
   have h2 := hle (i + 1)
   have H3 : Hid (F (i + 1) = F i + xs.length) := by show _ = _; rw [HF.out, HF.out, h1, List.length_append]
   have h3 : F i + xs.length ≤ 3000 := by rw [← H3.out, HF.out]; exact h2
   have h4 : ¬ (((F i : Nat) : Int) + ((xs.length : Nat) : Int)) < 0 := by omega
   have h5 : IntKind.i64.wrap (((F i : Nat) : Int) + ((xs.length : Nat) : Int)) = ((F i : Nat) : Int) + ((xs.length : Nat) : Int) := IntWalk.i64_in _ (by omega)
   clear hvi hxi h1 h2 hv hq hsum hle kg hF0 HF hpos htot
   generalize hFi : F i = a at *
   clear hFi
   generalize xs.length = b at *
   go_wp2
   go_roundg (gk - 1)
   case measure => omega
   case rel => exact ⟨i + 1, by omega, by go_num, by rw [H3.out, Int.natCast_add], rfl⟩
  ·have hlti : ¬ (i : Int) < (K : Int) := by omega
   obtain rfl : K = i := by omega
   have kg1 := kg wr
   go_wp2_with fail
   refine kg1.mono ?_
   rintro e w1 ⟨v1, rfl, hO1, hb1⟩
   clear kg kg1 hF0 HF hpos htot
   have hO1' : Ow holdE 59 wr.heap.size w1 v1 ((ls.take 0).flatten) := by simpa using hO1
   clear hO1
   obtain ⟨w, hw⟩ : ∃ w, w = wr := ⟨_, rfl⟩
   subst hw
   go_wp2
   go_loopg [6, 27] K (fun g s6 s27 wr => ∃ (i : Nat) (st : Value), i + g = K ∧ s27 = .int .i64 (i : Int) ∧ st = s6 ∧ Ow holdE 59 w.heap.size wr st ((ls.take i).flatten) ∧ Below w.heap.size w wr)
   case atStart => exact ⟨0, _, by simp, rfl, rfl, hO1', hb1⟩
   case round =>
    obtain ⟨i, st, hig, rfl, rfl, hO, hb⟩ := hrel
    clear hO1' hb1
    by_cases hlt : i < K
    ·have hlti : (i : Int) < (K : Int) := by omega
     have hi3 : i < K := hlt
     obtain ⟨v, hvi⟩ : ∃ v, vs[i]? = some v := ⟨vs[i]'(by omega), List.getElem?_eq_getElem _⟩
     obtain ⟨xs, hxi⟩ : ∃ xs, ls[i]? = some xs := ⟨ls[i]'(by omega), List.getElem?_eq_getElem _⟩
     have c0 := (hb.cell (p := ⟨q, i, none⟩) (World.block_lt_of_cell? w _ (hq i v hvi))).trans (hq i v hvi)
     have hRx := (hv i v xs hvi hxi).below hb
     have HS : Hid ((ls.take (i + 1)).flatten = (ls.take i).flatten ++ xs) := hsum i xs hxi
     have hle1 := hle i
     have hxl : xs.length ≤ 1000000 := by
      have := hle (i + 1)
      rw [HS.out, List.length_append] at this
      omega
     have hrun : Hid _ := append_hold hO.1 hRx (by omega) hxl
     obtain ⟨ax, cx, rfl, -⟩ := id hRx
     obtain ⟨sa, sc, hst, -⟩ := hO.1.shape
     clear hvi hxi hv hq hRx
     generalize (ls.take i).flatten = A at *
     generalize xs.length = xl at *
     subst hst
     go_wp2_with (at_builtin; refine wp_by rfl _ _ _ rfl _ _ rfl rfl hrun.out ?_)
     intro v6 w6 hp6
     obtain ⟨hO2, hb2⟩ := hO.push hb.size hp6
     clear hO hrun hp6
     go_wp2
     go_roundg (gk - 1)
     case measure => omega
     case rel => exact ⟨i + 1, v6, by omega, by go_num, rfl, by rw [HS.out]; exact hO2, hb.trans hb2⟩
    ·have hlti : ¬ (i : Int) < (K : Int) := by omega
     obtain rfl : K = i := by omega
     rw [List.take_of_length_le (by omega)] at hO
     clear hv hq hsum hle
     go_wp2
     go_ret
     exact ⟨_, rfl, hO, hb⟩

set_option maxHeartbeats 2000000 in
theorem growm_of (n : Nat) (h0 : 0 < n) (hn : n ≤ 1000000) (w : World) : Calls Tryz.prog 176 #[.slice none 0 0, .int .i64 (n : Int)] w fun e w' => ∃ v, e = .returned v ∧ Ow markE 61 w.heap.size w' v [] ∧ Below w.heap.size w w' := by
 obtain ⟨i0, i1, i2, i3, i4⟩ := info_get infoMark
 have hrz : ∀ ty, (Builtin.append_ #[24, 3] ty #[.slice none 0 0, .int .i64 (n : Int)]).run Tryz.prog w = _ := fun ty =>
  Lib.run_append_grow_zeros w 24 3 ty 61 i0 _ .i64 .i64 Tryz.underlying24 Tryz.underlying3 i1 i2 none 0 0 [] (run_firstCells_none w.drew i0.size 0 0 0) n h0 (by rw [i3]; decide) (by omega) (by omega) (by rw [i4]; omega) (by
   rw [i4, Nat.zero_add]
   unfold Builtin.nextslicecap
   rw [if_pos (by omega)]
   omega)
 have hG := grownCap_ge w (0 + n) 0 61
 have hG2 := grownCap_le_maxLen w (0 + n) 0 61 (by unfold maxLen; omega)
 rw [Nat.zero_add] at hrz hG hG2
 generalize hGG : grownCap w n 0 61 = G at *
 obtain ⟨CS, hCS⟩ : ∃ CS, CS = (([] : List Value).toArray ++ Builtin.zeroCells (Value.agg #[.string { data := #[] }, .int .u64 0]).cells n ++ Builtin.zeroCells (Value.agg #[.string { data := #[] }, .int .u64 0]).cells (G - n)) := ⟨_, rfl⟩
 rw [← hCS] at hrz
 have hsz : CS.size = G * 2 := by
  rw [hCS, Array.size_append, Array.size_append, zeroCells_size, zeroCells_size, show (Value.agg #[.string { data := #[] }, .int .u64 0]).cells.size = 2 from rfl]
  simp
  omega
 have hG9 : G ≤ 9223372036854775807 := by unfold maxLen at hG2; omega
 have hni : (0 : Int) < (n : Int) := by omega
 have hni2 : ¬ (n : Int) < 0 := by omega
 have hni3 : IntKind.i64.wrap ((n : Int) - 0) = (n : Int) := by rw [Int.sub_zero]; exact IntWalk.i64_in _ (by omega)
 have hfin : Ow markE 61 w.heap.size (w.drew.alloc (.cells CS 61)) (.slice (some ⟨w.heap.size, 0, none⟩) 0 G) [] ∧ Below w.heap.size w (w.drew.alloc (.cells CS 61)) := by
  refine ⟨⟨⟨by simp [El.flat], .inr ⟨w.heap.size, G, CS, rfl, Nat.zero_le _, heap_alloc_new w.drew _, Nat.zero_le _, hG2, hsz, by simp [El.flat]⟩⟩, fun k hk => ?_⟩, (Below.refl _ _).drew.alloc (Nat.le_refl _) _⟩
  cases hk
  exact Nat.le_refl _
 clear hCS hGG hsz hG2
 have hrzH : Hid _ := hrz
 clear hrz
 go_enter Tryz.func176, Tryz.ntmps176
 go_wp2_with (at_builtin; refine Lib.wpList_append_run _ rfl _ _ _ _ rfl _ _ rfl rfl _ _ (hrzH.out _) ?_)
 go_ret
 exact ⟨_, rfl, hfin⟩

set_option maxHeartbeats 4000000 in
theorem concatm_of (q : Nat) (vs : List Value) (ls : List (List Mk)) (w : World) (hq : ∀ (i : Nat) (v : Value), vs[i]? = some v → w.cell? ⟨q, i, none⟩ = some v) (hv : ∀ (i : Nat) (v : Value) (xs : List Mk), vs[i]? = some v → ls[i]? = some xs → Rd markE w v xs) (K : Nat) (hK : K ≤ 3) (hl : vs.length = K) (hl2 : ls.length = K) (hpos : 0 < ls.flatten.length) (htot : ls.flatten.length ≤ 3000) :
  Calls Tryz.prog 140 #[.slice (some ⟨q, 0, none⟩) K K] w fun e w' => ∃ v, e = .returned v ∧ Ow markE 61 w.heap.size w' v ls.flatten ∧ Below w.heap.size w w' := by
 have hsum : ∀ i xs, ls[i]? = some xs → (ls.take (i + 1)).flatten = (ls.take i).flatten ++ xs := fun i xs h => by
  rw [take_succ_get h, List.flatten_append]
  simp
 have hle : ∀ i, (ls.take i).flatten.length ≤ 3000 := fun i => by
  have : ls.flatten = (ls.take i).flatten ++ (ls.drop i).flatten := by rw [← List.flatten_append, List.take_append_drop]
  rw [this, List.length_append] at htot
  omega
 obtain ⟨F, HF⟩ : ∃ F : Nat → Nat, Hid (∀ i, F i = (ls.take i).flatten.length) := ⟨_, fun _ => rfl⟩
 have kg := fun W => growm_of (F K) (by rw [HF.out, List.take_of_length_le (by omega)]; exact hpos) (by rw [HF.out]; have := hle K; omega) W
 have hF0 : F 0 = 0 := by rw [HF.out]; simp
 go_enter Tryz.func140, Tryz.ntmps140
 go_wp2
 go_loopg [3, 11] K (fun g s3 s11 wr => ∃ (i : Nat), i + g = K ∧ s11 = .int .i64 (i : Int) ∧ s3 = .int .i64 ((F i : Nat) : Int) ∧ wr = w)
 case atStart => exact ⟨0, by simp, rfl, by rw [hF0]; rfl, rfl⟩
 case round =>
  obtain ⟨i, hig, rfl, rfl, rfl⟩ := hrel
  by_cases hlt : i < K
  ·have hlti : (i : Int) < (K : Int) := by omega
   have hi3 : i < K := hlt
   obtain ⟨v, hvi⟩ : ∃ v, vs[i]? = some v := ⟨vs[i]'(by omega), List.getElem?_eq_getElem _⟩
   obtain ⟨xs, hxi⟩ : ∃ xs, ls[i]? = some xs := ⟨ls[i]'(by omega), List.getElem?_eq_getElem _⟩
   have c0 := hq i v hvi
   obtain ⟨ao, cap, rfl, -⟩ := hv i v xs hvi hxi
   have h1 := hsum i xs hxi
   have h2 := hle (i + 1)
   have H3 : Hid (F (i + 1) = F i + xs.length) := by show _ = _; rw [HF.out, HF.out, h1, List.length_append]
   have h3 : F i + xs.length ≤ 3000 := by rw [← H3.out, HF.out]; exact h2
   have h4 : ¬ (((F i : Nat) : Int) + ((xs.length : Nat) : Int)) < 0 := by omega
   have h5 : IntKind.i64.wrap (((F i : Nat) : Int) + ((xs.length : Nat) : Int)) = ((F i : Nat) : Int) + ((xs.length : Nat) : Int) := IntWalk.i64_in _ (by omega)
   clear hvi hxi h1 h2 hv hq hsum hle kg hF0 HF hpos htot
   generalize hFi : F i = a at *
   clear hFi
   generalize xs.length = b at *
   go_wp2
   go_roundg (gk - 1)
   case measure => omega
   case rel => exact ⟨i + 1, by omega, by go_num, by rw [H3.out, Int.natCast_add], rfl⟩
  ·have hlti : ¬ (i : Int) < (K : Int) := by omega
   obtain rfl : K = i := by omega
   have kg1 := kg wr
   go_wp2_with fail
   refine kg1.mono ?_
   rintro e w1 ⟨v1, rfl, hO1, hb1⟩
   clear kg kg1 hF0 HF hpos htot
   have hO1' : Ow markE 61 wr.heap.size w1 v1 ((ls.take 0).flatten) := by simpa using hO1
   clear hO1
   obtain ⟨w, hw⟩ : ∃ w, w = wr := ⟨_, rfl⟩
   subst hw
   go_wp2
   go_loopg [6, 27] K (fun g s6 s27 wr => ∃ (i : Nat) (st : Value), i + g = K ∧ s27 = .int .i64 (i : Int) ∧ st = s6 ∧ Ow markE 61 w.heap.size wr st ((ls.take i).flatten) ∧ Below w.heap.size w wr)
   case atStart => exact ⟨0, _, by simp, rfl, rfl, hO1', hb1⟩
   case round =>
    obtain ⟨i, st, hig, rfl, rfl, hO, hb⟩ := hrel
    clear hO1' hb1
    by_cases hlt : i < K
    ·have hlti : (i : Int) < (K : Int) := by omega
     have hi3 : i < K := hlt
     obtain ⟨v, hvi⟩ : ∃ v, vs[i]? = some v := ⟨vs[i]'(by omega), List.getElem?_eq_getElem _⟩
     obtain ⟨xs, hxi⟩ : ∃ xs, ls[i]? = some xs := ⟨ls[i]'(by omega), List.getElem?_eq_getElem _⟩
     have c0 := (hb.cell (p := ⟨q, i, none⟩) (World.block_lt_of_cell? w _ (hq i v hvi))).trans (hq i v hvi)
     have hRx := (hv i v xs hvi hxi).below hb
     have HS : Hid ((ls.take (i + 1)).flatten = (ls.take i).flatten ++ xs) := hsum i xs hxi
     have hle1 := hle i
     have hxl : xs.length ≤ 1000000 := by
      have := hle (i + 1)
      rw [HS.out, List.length_append] at this
      omega
     have hrun : Hid _ := append_mark hO.1 hRx (by omega) hxl
     obtain ⟨ax, cx, rfl, -⟩ := id hRx
     obtain ⟨sa, sc, hst, -⟩ := hO.1.shape
     clear hvi hxi hv hq hRx
     generalize (ls.take i).flatten = A at *
     generalize xs.length = xl at *
     subst hst
     go_wp2_with (at_builtin; refine wp_by rfl _ _ _ rfl _ _ rfl rfl hrun.out ?_)
     intro v6 w6 hp6
     obtain ⟨hO2, hb2⟩ := hO.push hb.size hp6
     clear hO hrun hp6
     go_wp2
     go_roundg (gk - 1)
     case measure => omega
     case rel => exact ⟨i + 1, v6, by omega, by go_num, rfl, by rw [HS.out]; exact hO2, hb.trans hb2⟩
    ·have hlti : ¬ (i : Int) < (K : Int) := by omega
     obtain rfl : K = i := by omega
     rw [List.take_of_length_le (by omega)] at hO
     clear hv hq hsum hle
     go_wp2
     go_ret
     exact ⟨_, rfl, hO, hb⟩

end Go.Proofs.YtfpbgfmnjpamlaaGreat

/- What slices' ends and rows of one read like; what put tells. -/
namespace Go.Proofs.YtfpbgfmnjpamlaaGreat
open Go.RowKit LeaseMath
set_option maxRecDepth 100000
set_option linter.unusedSimpArgs false
set_option linter.unusedVariables false

theorem wanted_none {o : Oper} {y : Nat → Option Bool} (h : o.guard = none) : Region.wanted o y = true := by
 unfold Region.wanted
 rw [h]
theorem rd_back {α : Type} {E : El α} {w : World} {ao : Option Addr} {n cap : Nat} {xs : List α} (h : Rd E w (.slice ao n cap) xs) {k : Nat} (hk : k ≤ xs.length) : Rd E w (.slice (if cap = k then ao else ao.map (fun x => x.add (k * E.k))) (n - k) (cap - k)) (xs.drop k) := by
 cases ao with
 | none =>
  obtain ⟨ao', cap', e, h0, h1, h2⟩ := h
  cases e
  have := h1 rfl
  subst this
  obtain rfl : xs = [] := List.eq_nil_of_length_eq_zero (by omega)
  obtain rfl : k = 0 := by simpa using hk
  exact ⟨none, 0, by simp, by simp, fun _ => rfl, fun i x j u hx => by simp at hx⟩
 | some ad =>
  by_cases hn : xs.length = 0
  ·obtain rfl : xs = [] := List.eq_nil_of_length_eq_zero hn
   obtain rfl : k = 0 := by simpa using hk
   obtain ⟨ao', cap', e, h0, h1, h2⟩ := h
   cases e
   exact ⟨if cap = 0 then some ad else (some ad).map (fun x => x.add (0 * E.k)), cap - 0, rfl, by simp, (by split <;> simp), fun i x j u hx => by simp at hx⟩
  ·have hpos : 0 < xs.length := by omega
   obtain ⟨b, off, e, -⟩ : ∃ b off, (some ad : Option Addr) = some ⟨b, off, none⟩ ∧ True := by
    obtain ⟨ao', cap', e, h0, h1, h2⟩ := id h
    cases e
    obtain ⟨b, off, r1, _⟩ := h2 0 xs[0] 0 ((E.enc xs[0])[0]'(by rw [E.len]; exact E.pos)) (List.getElem?_eq_getElem hpos) (List.getElem?_eq_getElem _)
    exact ⟨b, off, r1, trivial⟩
   obtain rfl := Option.some.inj e
   have h9 := Rd.back h hk
   rw [show (Option.map (fun x => Addr.add x (k * E.k)) (some (⟨b, off, none⟩ : Addr))) = some ⟨b, off + k * E.k, none⟩ by simp [Addr.add_lit]]
   exact h9
/-- What is put: its answer. -/
def putC {β : Type} (l : List (K × β)) (k : Nat) (s : K × β) : List (K × β) × Int := if (keptM l k s).length ≤ 1024 then (keptM l k s, 0) else ([], 2)
theorem putC_has {β : Type} {l : List (K × β)} {k : Nat} {s : K × β} (hl : l.length ≤ 1024) (hk : k ≤ l.length) (h : hasB l k s.1 = true) : putC l k s = (l.take k ++ [s] ++ l.drop (k + 1), 0) := by
 unfold putC
 rw [if_pos (by rw [kept_len hk, h]; simpa using hl)]
 unfold keptM behN
 rw [h]
 rfl
theorem putC_full {β : Type} {l : List (K × β)} {k : Nat} {s : K × β} (hl : l.length = 1024) (hk : k ≤ l.length) (h : hasB l k s.1 = false) : putC l k s = ([], 2) := by
 unfold putC
 rw [if_neg (by rw [kept_len hk, h]; simp; omega)]
theorem putC_not {β : Type} {l : List (K × β)} {k : Nat} {s : K × β} (hl : l.length < 1024) (hk : k ≤ l.length) (h : hasB l k s.1 = false) : putC l k s = (l.take k ++ [s] ++ l.drop k, 0) := by
 unfold putC
 rw [if_pos (by rw [kept_len hk, h]; simp; omega)]
 unfold keptM behN
 rw [h]
 rfl
def PutT {α : Type} (E : El α) (t : TypeId) (n : Nat) (m : List α × Int) (e : Ending) (w' : World) : Prop := ∃ v, e = .returned (.tuple #[v, .int .i64 m.2]) ∧ Ow E t n w' v m.1
end Go.Proofs.YtfpbgfmnjpamlaaGreat

