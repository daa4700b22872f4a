import Derived.Test.YtfpbgfmnjpamlaaGreatHv08
import Derived.Test.YtfpbgfmnjpamlaaGreatHv16
/- slices.Grow at the nil slice and slices.Concat of intents. -/
namespace Go.Proofs.YtfpbgfmnjpamlaaGreat
open Go.RowKit LeaseMath
set_option maxRecDepth 100000
set_option linter.unusedSimpArgs false
set_option linter.unusedVariables false

set_option maxHeartbeats 2000000 in
theorem growx_of (n : Nat) (h0 : 0 < n) (hn : n ≤ 1000000) (w : World) : Calls Tryz.prog 178 #[.slice none 0 0, .int .i64 (n : Int)] w fun e w' => ∃ v, e = .returned v ∧ Ow itE 63 w.heap.size w' v [] ∧ Below w.heap.size w w' := by
 obtain ⟨i0, i1, i2, i3, i4⟩ := info_get infoIt
 have hrz : ∀ ty, (Builtin.append_ #[25, 3] ty #[.slice none 0 0, .int .i64 (n : Int)]).run Tryz.prog w = _ := fun ty =>
  Lib.run_append_grow_zeros w 25 3 ty 63 i0 _ .i64 .i64 Tryz.underlying25 Tryz.underlying3 i1 i2 none 0 0 [] (run_firstCells_none w.drew i0.size 0 0 0) n h0 (by rw [i3]; decide) (by omega) (by omega) (by rw [i4]; omega) (by
   rw [i4, Nat.zero_add]
   unfold Builtin.nextslicecap
   rw [if_pos (by omega)]
   omega)
 have hG := grownCap_ge w (0 + n) 0 63
 have hG2 := grownCap_le_maxLen w (0 + n) 0 63 (by unfold maxLen; omega)
 rw [Nat.zero_add] at hrz hG hG2
 generalize hGG : grownCap w n 0 63 = G at *
 obtain ⟨CS, hCS⟩ : ∃ CS, CS = (([] : List Value).toArray ++ Builtin.zeroCells (Value.agg #[.string { data := #[] }, .int .i64 0, .int .u64 0, .int .i64 0, .int .u64 0, .int .i64 0]).cells n ++ Builtin.zeroCells (Value.agg #[.string { data := #[] }, .int .i64 0, .int .u64 0, .int .i64 0, .int .u64 0, .int .i64 0]).cells (G - n)) := ⟨_, rfl⟩
 rw [← hCS] at hrz
 have hsz : CS.size = G * 6 := by
  rw [hCS, Array.size_append, Array.size_append, zeroCells_size, zeroCells_size, show (Value.agg #[.string { data := #[] }, .int .i64 0, .int .u64 0, .int .i64 0, .int .u64 0, .int .i64 0]).cells.size = 6 from rfl]
  simp
  omega
 have hG9 : G ≤ 9223372036854775807 := by unfold maxLen at hG2; omega
 have hni : (0 : Int) < (n : Int) := by omega
 have hni2 : ¬ (n : Int) < 0 := by omega
 have hni3 : IntKind.i64.wrap ((n : Int) - 0) = (n : Int) := by rw [Int.sub_zero]; exact IntWalk.i64_in _ (by omega)
 have hfin : Ow itE 63 w.heap.size (w.drew.alloc (.cells CS 63)) (.slice (some ⟨w.heap.size, 0, none⟩) 0 G) [] ∧ Below w.heap.size w (w.drew.alloc (.cells CS 63)) := by
  refine ⟨⟨⟨by simp [El.flat], .inr ⟨w.heap.size, G, CS, rfl, Nat.zero_le _, heap_alloc_new w.drew _, Nat.zero_le _, hG2, hsz, by simp [El.flat]⟩⟩, fun k hk => ?_⟩, (Below.refl _ _).drew.alloc (Nat.le_refl _) _⟩
  cases hk
  exact Nat.le_refl _
 clear hCS hGG hsz hG2
 have hrzH : Hid _ := hrz
 clear hrz
 go_enter Tryz.func178, Tryz.ntmps178
 go_wp2_with (at_builtin; refine Lib.wpList_append_run _ rfl _ _ _ _ rfl _ _ rfl rfl _ _ (hrzH.out _) ?_)
 go_ret
 exact ⟨_, rfl, hfin⟩

set_option maxHeartbeats 4000000 in
theorem concatx_of (q : Nat) (vs : List Value) (ls : List (List It)) (w : World) (hq : ∀ (i : Nat) (v : Value), vs[i]? = some v → w.cell? ⟨q, i, none⟩ = some v) (hv : ∀ (i : Nat) (v : Value) (xs : List It), vs[i]? = some v → ls[i]? = some xs → Rd itE w v xs) (K : Nat) (hK : K ≤ 3) (hl : vs.length = K) (hl2 : ls.length = K) (hpos : 0 < ls.flatten.length) (htot : ls.flatten.length ≤ 3000) :
  Calls Tryz.prog 156 #[.slice (some ⟨q, 0, none⟩) K K] w fun e w' => ∃ v, e = .returned v ∧ Ow itE 63 w.heap.size w' v ls.flatten ∧ Below w.heap.size w w' := by
 have hsum : ∀ i xs, ls[i]? = some xs → (ls.take (i + 1)).flatten = (ls.take i).flatten ++ xs := fun i xs h => by
  rw [take_succ_get h, List.flatten_append]
  simp
 have hle : ∀ i, (ls.take i).flatten.length ≤ 3000 := fun i => by
  have : ls.flatten = (ls.take i).flatten ++ (ls.drop i).flatten := by rw [← List.flatten_append, List.take_append_drop]
  rw [this, List.length_append] at htot
  omega
 obtain ⟨F, HF⟩ : ∃ F : Nat → Nat, Hid (∀ i, F i = (ls.take i).flatten.length) := ⟨_, fun _ => rfl⟩
 have kg := fun W => growx_of (F K) (by rw [HF.out, List.take_of_length_le (by omega)]; exact hpos) (by rw [HF.out]; have := hle K; omega) W
 have hF0 : F 0 = 0 := by rw [HF.out]; simp
 go_enter Tryz.func156, Tryz.ntmps156
 go_wp2
 go_loopg [3, 11] K (fun g s3 s11 wr => ∃ (i : Nat), i + g = K ∧ s11 = .int .i64 (i : Int) ∧ s3 = .int .i64 ((F i : Nat) : Int) ∧ wr = w)
 case atStart => exact ⟨0, by simp, rfl, by rw [hF0]; rfl, rfl⟩
 case round =>
  obtain ⟨i, hig, rfl, rfl, rfl⟩ := hrel
  by_cases hlt : i < K
  ·have hlti : (i : Int) < (K : Int) := by omega
   have hi3 : i < K := hlt
   obtain ⟨v, hvi⟩ : ∃ v, vs[i]? = some v := ⟨vs[i]'(by omega), List.getElem?_eq_getElem _⟩
   obtain ⟨xs, hxi⟩ : ∃ xs, ls[i]? = some xs := ⟨ls[i]'(by omega), List.getElem?_eq_getElem _⟩
   have c0 := hq i v hvi
   obtain ⟨ao, cap, rfl, -⟩ := hv i v xs hvi hxi
   have h1 := hsum i xs hxi
   have h2 := hle (i + 1)
   have H3 : Hid (F (i + 1) = F i + xs.length) := by show _ = _; rw [HF.out, HF.out, h1, List.length_append]
   have h3 : F i + xs.length ≤ 3000 := by rw [← H3.out, HF.out]; exact h2
   have h4 : ¬ (((F i : Nat) : Int) + ((xs.length : Nat) : Int)) < 0 := by omega
   have h5 : IntKind.i64.wrap (((F i : Nat) : Int) + ((xs.length : Nat) : Int)) = ((F i : Nat) : Int) + ((xs.length : Nat) : Int) := IntWalk.i64_in _ (by omega)
   clear hvi hxi h1 h2 hv hq hsum hle kg hF0 HF hpos htot
   generalize hFi : F i = a at *
   clear hFi
   generalize xs.length = b at *
   go_wp2
   go_roundg (gk - 1)
   case measure => omega
   case rel => exact ⟨i + 1, by omega, by go_num, by rw [H3.out, Int.natCast_add], rfl⟩
  ·have hlti : ¬ (i : Int) < (K : Int) := by omega
   obtain rfl : K = i := by omega
   have kg1 := kg wr
   go_wp2_with fail
   refine kg1.mono ?_
   rintro e w1 ⟨v1, rfl, hO1, hb1⟩
   clear kg kg1 hF0 HF hpos htot
   have hO1' : Ow itE 63 wr.heap.size w1 v1 ((ls.take 0).flatten) := by simpa using hO1
   clear hO1
   obtain ⟨w, hw⟩ : ∃ w, w = wr := ⟨_, rfl⟩
   subst hw
   go_wp2
   go_loopg [6, 27] K (fun g s6 s27 wr => ∃ (i : Nat) (st : Value), i + g = K ∧ s27 = .int .i64 (i : Int) ∧ st = s6 ∧ Ow itE 63 w.heap.size wr st ((ls.take i).flatten) ∧ Below w.heap.size w wr)
   case atStart => exact ⟨0, _, by simp, rfl, rfl, hO1', hb1⟩
   case round =>
    obtain ⟨i, st, hig, rfl, rfl, hO, hb⟩ := hrel
    clear hO1' hb1
    by_cases hlt : i < K
    ·have hlti : (i : Int) < (K : Int) := by omega
     have hi3 : i < K := hlt
     obtain ⟨v, hvi⟩ : ∃ v, vs[i]? = some v := ⟨vs[i]'(by omega), List.getElem?_eq_getElem _⟩
     obtain ⟨xs, hxi⟩ : ∃ xs, ls[i]? = some xs := ⟨ls[i]'(by omega), List.getElem?_eq_getElem _⟩
     have c0 := (hb.cell (p := ⟨q, i, none⟩) (World.block_lt_of_cell? w _ (hq i v hvi))).trans (hq i v hvi)
     have hRx := (hv i v xs hvi hxi).below hb
     have HS : Hid ((ls.take (i + 1)).flatten = (ls.take i).flatten ++ xs) := hsum i xs hxi
     have hle1 := hle i
     have hxl : xs.length ≤ 1000000 := by
      have := hle (i + 1)
      rw [HS.out, List.length_append] at this
      omega
     have hrun : Hid _ := append_it hO.1 hRx (by omega) hxl
     obtain ⟨ax, cx, rfl, -⟩ := id hRx
     obtain ⟨sa, sc, hst, -⟩ := hO.1.shape
     clear hvi hxi hv hq hRx
     generalize (ls.take i).flatten = A at *
     generalize xs.length = xl at *
     subst hst
     go_wp2_with (at_builtin; refine wp_by rfl _ _ _ rfl _ _ rfl rfl hrun.out ?_)
     intro v6 w6 hp6
     obtain ⟨hO2, hb2⟩ := hO.push hb.size hp6
     clear hO hrun hp6
     go_wp2
     go_roundg (gk - 1)
     case measure => omega
     case rel => exact ⟨i + 1, v6, by omega, by go_num, rfl, by rw [HS.out]; exact hO2, hb.trans hb2⟩
    ·have hlti : ¬ (i : Int) < (K : Int) := by omega
     obtain rfl : K = i := by omega
     rw [List.take_of_length_le (by omega)] at hO
     clear hv hq hsum hle
     go_wp2
     go_ret
     exact ⟨_, rfl, hO, hb⟩

end Go.Proofs.YtfpbgfmnjpamlaaGreat

