import Derived.Test.YtlgnnfhnkfjafaaHp23
/- Rows of ranges: appends, parts of slices, slices.Grow at the nil slice, slices.Concat; the document's own Same. -/
namespace Go.Proofs.Ytlgnnfhnkfjafaa
open Go.RowKit SpanMath ChartMath
set_option maxRecDepth 100000
set_option linter.unusedSimpArgs false
set_option linter.unusedVariables false

/-- Its beginning, its end. -/
theorem Rd.front {α : Type} {E : El α} {w : World} {ao : Option Addr} {n cap : Nat} {xs : List α} (h : Rd E w (.slice ao n cap) xs) {k : Nat} (hk : k ≤ xs.length) : Rd E w (.slice ao k cap) (xs.take k) := by
  obtain ⟨ao', cap', e, h0, h1, h2⟩ := h
  cases e
  have hl : (xs.take k).length = k := by rw [List.length_take]; omega
  refine ⟨ao, cap, by rw [hl], by rw [hl]; omega, h1, fun i x j u hx hu => h2 i x j u ?_ hu⟩
  rw [List.getElem?_take] at hx
  split at hx
  · exact hx
  · cases hx
theorem Rd.back {α : Type} {E : El α} {w : World} {b off n cap : Nat} {xs : List α} (h : Rd E w (.slice (some ⟨b, off, none⟩) n cap) xs) {k : Nat} (hk : k ≤ xs.length) : Rd E w (.slice (if cap = k then some ⟨b, off, none⟩ else some ⟨b, off + k * E.k, none⟩) (n - k) (cap - k)) (xs.drop k) := by
  obtain ⟨ao', cap', e, h0, h1, h2⟩ := h
  cases e
  have hl : (xs.drop k).length = xs.length - k := by rw [List.length_drop]
  refine ⟨_, _, by rw [hl], by rw [hl]; omega, (by split <;> simp), fun i x j u hx hu => ?_⟩
  rw [List.getElem?_drop] at hx
  obtain ⟨b', off', r1, r2⟩ := h2 (k + i) x j u hx hu
  cases r1
  have hi := (List.getElem?_eq_some_iff.1 hx).1
  refine ⟨b, off + k * E.k, by rw [if_neg (by omega)], ?_⟩
  rw [show off + k * E.k + (i * E.k + j) = off + ((k + i) * E.k + j) by rw [Nat.add_mul]; omega]
  exact r2
theorem infoRg : (Try.prog.info? 47).map (fun i => (i.zero, i.size, i.bytes)) = some (some (.agg #[.string ByteArray.empty, .string ByteArray.empty, .int .i64 0, .int .u64 0]), 4, 48) := by kernel_rfl
/-- 'append(v, x...)' of ranges. -/
theorem append_rg {w : World} {v x : Value} {xs ys : List Rg} (h : Rk rgE w 47 v xs) (hx : Rd rgE w x ys) (hlen : xs.length ≤ 1000000) (hly : ys.length ≤ 1000000) :
    ∀ ty, ∃ v' w', (Builtin.append_ #[22, 22] ty #[v, x]).run Try.prog w = .ok v' w' ∧ PushT rgE 47 w v (xs ++ ys) v' w' := by
  obtain ⟨i0, h1, h2, h3, h4⟩ := info_get infoRg
  exact append_rd rgE w 22 47 i0 _ 48 Try.underlying22 h1 h2 h3 h4 rfl (by decide) v x xs ys h hx hlen hly
/-- A row of one's own, in blocks from n on. -/
def OwnG (n : Nat) (w : World) (v : Value) (l : List Rg) : Prop := Rk rgE w 47 v l ∧ ∀ k, v.ownBlock = some k → n ≤ k
theorem OwnG.nil (n : Nat) (w : World) : OwnG n w (.slice none 0 0) [] := ⟨Rk.nil _ _ _, fun k hk => by cases hk⟩
theorem OwnG.below {n : Nat} {w w' : World} {v : Value} {l : List Rg} (h : OwnG n w v l) (hb : Below w.heap.size w w') : OwnG n w' v l := ⟨h.1.same fun k hk => hb.block k (h.1.lt hk), h.2⟩
theorem OwnG.push {n : Nat} {w w' : World} {v v' : Value} {l l' : List Rg} (h : OwnG n w v l) (hn : n ≤ w.heap.size) (hp : PushT rgE 47 w v l' v' w') : OwnG n w' v' l' ∧ Below n w w' := by
  obtain ⟨h1, h2, h3⟩ := hp
  refine ⟨⟨h1, fun k hk => ?_⟩, grown_below h2 hn h.2⟩
  rcases h3 k hk with h' | h'
  · exact h.2 k h'
  · omega
/-- One range more. -/
theorem push_rg {w : World} {v : Value} {xs : List Rg} (r : Rg) (h : Rk rgE w 47 v xs) (hlen : xs.length ≤ 1000000) :
    ∀ ty, ∃ v' w', (Builtin.append_ #[22, 22] ty #[v, .slice (some ⟨w.heap.size, 0, none⟩) 1 1]).run Try.prog (w.alloc (.cells (rc r) 47)) = .ok v' w' ∧ PushT rgE 47 w v (xs ++ [r]) v' w' := by
  intro ty
  obtain ⟨hsz, hn0, hbb⟩ := one_box w (.cells (rc r) 47)
  have hx : Rd rgE (w.alloc (.cells (rc r) 47)) (.slice (some ⟨w.heap.size, 0, none⟩) 1 1) [r] := (Rk.made (xs := [r]) hn0 rfl (by unfold maxLen; simp)).rd
  obtain ⟨v', w', h1, h2, h3, h4⟩ := append_rg (h.same fun k hk => hbb.block k (h.lt hk)) hx hlen (by simp) ty
  refine ⟨v', w', h1, h2, grown_of_below hbb h3, fun k hk => ?_⟩
  rcases h4 k hk with h' | h'
  · exact .inl h'
  · exact .inr (by omega)

set_option maxHeartbeats 2000000 in
theorem rgrow_of (n : Nat) (h0 : 0 < n) (hn : n ≤ 1000000) (w : World) : Calls Try.prog 57 #[.slice none 0 0, .int .i64 (n : Int)] w fun e w' => ∃ v, e = .returned v ∧ OwnG w.heap.size w' v [] ∧ Below w.heap.size w w' := by
  obtain ⟨i0, i1, i2, i3, i4⟩ := info_get infoRg
  have hrz : ∀ ty, (Builtin.append_ #[22, 3] ty #[.slice none 0 0, .int .i64 (n : Int)]).run Try.prog w = _ := fun ty =>
    Lib.run_append_grow_zeros w 22 3 ty 47 i0 _ .i64 .i64 Try.underlying22 Try.underlying3 i1 i2 none 0 0 [] (run_firstCells_none w.drew i0.size 0 0 0) n h0 (by rw [i3]; decide) (by omega) (by omega) (by rw [i4]; omega) (by
      rw [i4, Nat.zero_add]
      unfold Builtin.nextslicecap
      rw [if_pos (by omega)]
      omega)
  have hG := grownCap_ge w (0 + n) 0 47
  have hG2 := grownCap_le_maxLen w (0 + n) 0 47 (by unfold maxLen; omega)
  rw [Nat.zero_add] at hrz hG hG2
  generalize hGG : grownCap w n 0 47 = G at *
  obtain ⟨CS, hCS⟩ : ∃ CS, CS = (([] : List Value).toArray ++ Builtin.zeroCells (Value.agg #[.string ByteArray.empty, .string ByteArray.empty, .int .i64 0, .int .u64 0]).cells n ++ Builtin.zeroCells (Value.agg #[.string ByteArray.empty, .string ByteArray.empty, .int .i64 0, .int .u64 0]).cells (G - n)) := ⟨_, rfl⟩
  rw [← hCS] at hrz
  have hsz : CS.size = G * 4 := by
    rw [hCS, Array.size_append, Array.size_append, zeroCells_size, zeroCells_size, show (Value.agg #[.string ByteArray.empty, .string ByteArray.empty, .int .i64 0, .int .u64 0]).cells.size = 4 from rfl]
    simp
    omega
  have hG9 : G ≤ 9223372036854775807 := by unfold maxLen at hG2; omega
  have hni : (0 : Int) < (n : Int) := by omega
  have hni2 : ¬ (n : Int) < 0 := by omega
  have hni3 : IntKind.i64.wrap ((n : Int) - 0) = (n : Int) := by rw [Int.sub_zero]; exact IntWalk.i64_in _ (by omega)
  have hfin : OwnG w.heap.size (w.drew.alloc (.cells CS 47)) (.slice (some ⟨w.heap.size, 0, none⟩) 0 G) [] ∧ Below w.heap.size w (w.drew.alloc (.cells CS 47)) := by
    refine ⟨⟨⟨by simp [El.flat], .inr ⟨w.heap.size, G, CS, rfl, Nat.zero_le _, heap_alloc_new w.drew _, Nat.zero_le _, hG2, hsz, by simp [El.flat]⟩⟩, fun k hk => ?_⟩, (Below.refl _ _).drew.alloc (Nat.le_refl _) _⟩
    cases hk
    exact Nat.le_refl _
  clear hCS hGG hsz hG2
  have hrzH : Hid _ := hrz
  clear hrz
  go_enter Try.func57, Try.ntmps57
  go_wp2_with (at_builtin; refine Lib.wpList_append_run _ rfl _ _ _ _ rfl _ _ rfl rfl _ _ (hrzH.out _) ?_)
  go_ret
  exact ⟨_, rfl, hfin⟩

set_option maxHeartbeats 4000000 in
theorem rconcat_of (q : Nat) (vs : List Value) (ls : List (List Rg)) (w : World) (hq : ∀ (i : Nat) (v : Value), vs[i]? = some v → w.cell? ⟨q, i, none⟩ = some v) (hv : ∀ (i : Nat) (v : Value) (xs : List Rg), vs[i]? = some v → ls[i]? = some xs → Rd rgE w v xs) (hl : vs.length = 3) (hl2 : ls.length = 3) (hpos : 0 < ls.flatten.length) (htot : ls.flatten.length ≤ 1000) :
    Calls Try.prog 55 #[.slice (some ⟨q, 0, none⟩) 3 3] w fun e w' => ∃ v, e = .returned v ∧ OwnG w.heap.size w' v ls.flatten ∧ Below w.heap.size w w' := by
  have hsum : ∀ i xs, ls[i]? = some xs → (ls.take (i + 1)).flatten = (ls.take i).flatten ++ xs := fun i xs h => by
    rw [take_succ_get h, List.flatten_append]
    simp
  have hle : ∀ i, (ls.take i).flatten.length ≤ 1000 := fun i => by
    have : ls.flatten = (ls.take i).flatten ++ (ls.drop i).flatten := by rw [← List.flatten_append, List.take_append_drop]
    rw [this, List.length_append] at htot
    omega
  obtain ⟨F, HF⟩ : ∃ F : Nat → Nat, Hid (∀ i, F i = (ls.take i).flatten.length) := ⟨_, fun _ => rfl⟩
  have kg := fun W => rgrow_of (F 3) (by rw [HF.out, List.take_of_length_le (by omega)]; exact hpos) (by rw [HF.out]; have := hle 3; omega) W
  have hF0 : F 0 = 0 := by rw [HF.out]; simp
  go_enter Try.func55, Try.ntmps55
  go_wp2
  go_loopg [3, 11] 3 (fun g s3 s11 wr => ∃ (i : Nat), i + g = 3 ∧ s11 = .int .i64 (i : Int) ∧ s3 = .int .i64 ((F i : Nat) : Int) ∧ wr = w)
  case atStart => exact ⟨0, by simp, rfl, by rw [hF0]; rfl, rfl⟩
  case round =>
    obtain ⟨i, hig, rfl, rfl, rfl⟩ := hrel
    by_cases hlt : i < 3
    · have hlti : (i : Int) < 3 := by omega
      have hi3 : i < 3 := hlt
      obtain ⟨v, hvi⟩ : ∃ v, vs[i]? = some v := ⟨vs[i]'(by omega), List.getElem?_eq_getElem _⟩
      obtain ⟨xs, hxi⟩ : ∃ xs, ls[i]? = some xs := ⟨ls[i]'(by omega), List.getElem?_eq_getElem _⟩
      have c0 := hq i v hvi
      obtain ⟨ao, cap, rfl, -⟩ := hv i v xs hvi hxi
      have h1 := hsum i xs hxi
      have h2 := hle (i + 1)
      have H3 : Hid (F (i + 1) = F i + xs.length) := by show _ = _; rw [HF.out, HF.out, h1, List.length_append]
      have h3 : F i + xs.length ≤ 1000 := by rw [← H3.out, HF.out]; exact h2
      have h4 : ¬ (((F i : Nat) : Int) + ((xs.length : Nat) : Int)) < 0 := by omega
      have h5 : IntKind.i64.wrap (((F i : Nat) : Int) + ((xs.length : Nat) : Int)) = ((F i : Nat) : Int) + ((xs.length : Nat) : Int) := IntWalk.i64_in _ (by omega)
      clear hvi hxi h1 h2 hv hq hsum hle kg hF0 HF hpos htot
      generalize hFi : F i = a at *
      clear hFi
      generalize xs.length = b at *
      go_wp2
      go_roundg (gk - 1)
      case measure => omega
      case rel => exact ⟨i + 1, by omega, by go_num, by rw [H3.out, Int.natCast_add], rfl⟩
    · have hlti : ¬ (i : Int) < 3 := by omega
      obtain rfl : i = 3 := by omega
      have kg1 := kg wr
      go_wp2_with fail
      refine kg1.mono ?_
      rintro e w1 ⟨v1, rfl, hO1, hb1⟩
      clear kg kg1 hF0 HF hpos htot
      have hO1' : OwnG wr.heap.size w1 v1 ((ls.take 0).flatten) := by simpa using hO1
      clear hO1
      obtain ⟨w, hw⟩ : ∃ w, w = wr := ⟨_, rfl⟩
      subst hw
      go_wp2
      go_loopg [6, 27] 3 (fun g s6 s27 wr => ∃ (i : Nat) (st : Value), i + g = 3 ∧ s27 = .int .i64 (i : Int) ∧ st = s6 ∧ OwnG w.heap.size wr st ((ls.take i).flatten) ∧ Below w.heap.size w wr)
      case atStart => exact ⟨0, _, by simp, rfl, rfl, hO1', hb1⟩
      case round =>
        obtain ⟨i, st, hig, rfl, rfl, hO, hb⟩ := hrel
        clear hO1' hb1
        by_cases hlt : i < 3
        · have hlti : (i : Int) < 3 := by omega
          have hi3 : i < 3 := hlt
          obtain ⟨v, hvi⟩ : ∃ v, vs[i]? = some v := ⟨vs[i]'(by omega), List.getElem?_eq_getElem _⟩
          obtain ⟨xs, hxi⟩ : ∃ xs, ls[i]? = some xs := ⟨ls[i]'(by omega), List.getElem?_eq_getElem _⟩
          have c0 := (hb.cell (p := ⟨q, i, none⟩) (World.block_lt_of_cell? w _ (hq i v hvi))).trans (hq i v hvi)
          have hRx := (hv i v xs hvi hxi).below hb
          have HS : Hid ((ls.take (i + 1)).flatten = (ls.take i).flatten ++ xs) := hsum i xs hxi
          have hle1 := hle i
          have hxl : xs.length ≤ 1000000 := by
            have := hle (i + 1)
            rw [HS.out, List.length_append] at this
            omega
          have hrun : Hid _ := append_rg hO.1 hRx (by omega) hxl
          obtain ⟨ax, cx, rfl, -⟩ := id hRx
          obtain ⟨sa, sc, hst, -⟩ := hO.1.shape
          clear hvi hxi hv hq hRx
          generalize (ls.take i).flatten = A at *
          generalize xs.length = xl at *
          subst hst
          go_wp2_with (at_builtin; refine wp_by rfl _ _ _ rfl _ _ rfl rfl hrun.out ?_)
          intro v6 w6 hp6
          obtain ⟨hO2, hb2⟩ := hO.push hb.size hp6
          clear hO hrun hp6
          go_wp2
          go_roundg (gk - 1)
          case measure => omega
          case rel => exact ⟨i + 1, v6, by omega, by go_num, rfl, by rw [HS.out]; exact hO2, hb.trans hb2⟩
        · have hlti : ¬ (i : Int) < 3 := by omega
          obtain rfl : i = 3 := by omega
          rw [List.take_of_length_le (by omega)] at hO
          clear hv hq hsum hle
          go_wp2
          go_ret
          exact ⟨_, rfl, hO, hb⟩

set_option maxHeartbeats 4000000 in
theorem csame_of (l : List Rg) (lv mv : Value) (w : World) (hF : Cv w lv l) (hG : Cv w mv l) (hlen : l.length ≤ 1000000000000000) : Calls Try.prog 14 #[lv, mv] w fun e w' => e = .returned (.bool true) ∧ Below w.heap.size w w' := by
  obtain ⟨ao, cap, rfl, h2⟩ := id hF
  obtain ⟨am, cm, rfl, h3⟩ := id hG
  go_enter Try.func14, Try.ntmps14
  go_wp2
  go_loopg [5] l.length (fun g s5 wr => ∃ i : Nat, i + g = l.length ∧ s5 = .int .i64 (i : Int) ∧ Below w.heap.size w wr)
  case atStart => exact ⟨0, by simp, rfl, Below.refl _ _⟩
  case round =>
    obtain ⟨i, hig, rfl, hb⟩ := hrel
    by_cases hlt : i < l.length
    · have hlti : (i : Int) < (l.length : Int) := by omega
      have hx : l[i]? = some l[i] := List.getElem?_eq_getElem hlt
      obtain ⟨b, off, rfl, d0, d1, d2, d3⟩ := h2 i _ hx
      obtain ⟨b', off', rfl, f0, f1, f2, f3⟩ := h3 i _ hx
      obtain ⟨x, hs⟩ : ∃ s, s = l[i] := ⟨_, rfl⟩
      rw [← hs] at d0 d1 d2 d3 f0 f1 f2 f3
      obtain ⟨⟨x1, x2⟩, xg, xe⟩ := x
      have hl1 := World.block_lt_of_cell? w _ d0
      have hl2 := World.block_lt_of_cell? w _ f0
      have c0 := (hb.cell (p := ⟨b, off + i * 4, none⟩) hl1).trans d0
      have c1 := (hb.cell (p := ⟨b, off + i * 4 + 1, none⟩) hl1).trans d1
      have c2 := (hb.cell (p := ⟨b, off + i * 4 + 2, none⟩) hl1).trans d2
      have c3 := (hb.cell (p := ⟨b, off + i * 4 + 3, none⟩) hl1).trans d3
      have c4 := (hb.cell (p := ⟨b', off' + i * 4, none⟩) hl2).trans f0
      have c5 := (hb.cell (p := ⟨b', off' + i * 4 + 1, none⟩) hl2).trans f1
      have c6 := (hb.cell (p := ⟨b', off' + i * 4 + 2, none⟩) hl2).trans f2
      have c7 := (hb.cell (p := ⟨b', off' + i * 4 + 3, none⟩) hl2).trans f3
      clear hx hs d0 d1 d2 d3 f0 f1 f2 f3 h2 h3 hF hG hl1 hl2
      go_wp2
      go_quiet (fail)
      go_wp2
      go_roundg (gk - 1)
      case measure => omega
      case rel => exact ⟨i + 1, by omega, by go_num, below_drewN hb nq⟩
    · have hlti : ¬ (i : Int) < (l.length : Int) := by omega
      clear h2 h3 hF hG
      go_wp2
      go_ret
      exact ⟨rfl, hb⟩
end Go.Proofs.Ytlgnnfhnkfjafaa

