import Derived.Test.YtjkjekhbfjjnjaaHb16
/- The law BagOwns answers true and leaves all memory as it was: the walk. -/
namespace Go.Proofs.Ytjkjekhbfjjnjaa
open Go.RowKit Go.Maps
set_option maxRecDepth 100000
set_option linter.unusedSimpArgs false
set_option linter.unusedVariables false

/-- Bytes of one's own that are turned one by one: from i on they are still those of d. -/
def Rt (n : Nat) (w : World) (v : Value) (d : List Nat) (i : Nat) : Prop :=
  ∃ ao cap, v = .slice ao d.length cap ∧ (0 < d.length → ∃ g cur fz, ao = some ⟨g, 0, none⟩ ∧ n ≤ g ∧ w.heap[g]? = some (.cells cur 5 fz) ∧ (∀ j, j < d.length → ¬ (fz.1 ≤ j ∧ j < fz.2)) ∧ (∀ j, j < d.length → ∃ c : Int, cur[j]? = some (.int .u8 c)) ∧ ∀ j c : Nat, i ≤ j → d[j]? = some c → cur[j]? = some (.int .u8 (c : Int)))
theorem Nb.rt {n : Nat} {w : World} {v : Value} {d : List Nat} (h : Nb n w v d) : Rt n w v d 0 := by
  obtain ⟨g, cap, cur, fz, rfl, h1, h2, h3, h4, h5, h6⟩ := h
  exact ⟨_, _, rfl, fun _ => ⟨g, cur, fz, rfl, h3, h4, fun j hj => by omega, fun j hj => ⟨_, h6 j d[j] (List.getElem?_eq_getElem hj)⟩, fun j c _ hj => h6 j c hj⟩⟩
theorem Own.rt {n : Nat} {w : World} {v : Value} {d : List Nat} (h : Own n w v d) : Rt n w v d 0 := by
  obtain ⟨_, ⟨rfl, h0⟩ | ⟨g, cap, cur, rfl, hg, hb, hl, hm, hs, ht⟩⟩ := h
  · exact ⟨none, 0, by rw [h0], fun h => by omega⟩
  · have hc : ∀ j c : Nat, d[j]? = some c → cur[j]? = some (.int .u8 (c : Int)) := fun j c hj => by
      have h1 : (bc d)[j]? = some (.int .u8 (c : Int)) := by simp [bc, hj]
      rw [← ht, List.getElem?_take] at h1
      split at h1
      · simpa using h1
      · cases h1
    exact ⟨_, _, rfl, fun _ => ⟨g, cur, (0, 0), rfl, hg, hb, fun j _ => by dsimp only; omega, fun j hj => ⟨_, hc j d[j] (List.getElem?_eq_getElem hj)⟩, fun j c _ hj => hc j c hj⟩⟩
theorem Rt.shape {n : Nat} {w : World} {v : Value} {d : List Nat} {i : Nat} (h : Rt n w v d i) : ∃ ao cap, v = .slice ao d.length cap := by
  obtain ⟨ao, cap, e, _⟩ := h
  exact ⟨ao, cap, e⟩
theorem Rt.kept {n : Nat} {w w' : World} {v : Value} {d : List Nat} {i : Nat} (h : Rt n w v d i) {p m : Nat} {fv : Value} {l : List Msg} {P : Int → Int → Bool} {N : Nat} (hA : BagAt w p m fv l P N) (hk : Kept (Mine p m fv) w w') : Rt n w' v d i := by
  obtain ⟨ao, cap, e, h2⟩ := h
  refine ⟨ao, cap, e, fun h0 => ?_⟩
  obtain ⟨g, cur, fz, r1, r2, r3, r4⟩ := h2 h0
  refine ⟨g, cur, fz, r1, r2, (hk.block g (Array.getElem?_eq_some_iff.1 r3).1 ?_).trans r3, r4⟩
  rintro (rfl | rfl | hg)
  · rw [hA.box] at r3
    injection r3 with r3
    injection r3 with _ r3
    cases r3
  · obtain ⟨c, _, hM⟩ := hA.map
    obtain ⟨es, cl, hb⟩ := hM.block
    rw [hb] at r3
    cases r3
  · obtain ⟨cs, hcs⟩ := hA.row.block hg
    rw [hcs] at r3
    injection r3 with r3
    injection r3 with _ r3
    cases r3
theorem Rt.step {n : Nat} {w : World} {v : Value} {d : List Nat} {i : Nat} (h : Rt n w v d i) (hi : i < d.length) :
    ∃ g cap, v = .slice (some ⟨g, 0, none⟩) d.length cap ∧ w.cell? ⟨g, i, none⟩ = some (.int .u8 (d[i] : Int)) ∧ w.frozen? ⟨g, i, none⟩ = false ∧ ∀ u : Int, Rt n (w.setCell ⟨g, i, none⟩ (.int .u8 u)) v d (i + 1) ∧ Below n w (w.setCell ⟨g, i, none⟩ (.int .u8 u)) ∧ ∀ n' p m l P N, BagNew n' w p m l P N → BagNew n' (w.setCell ⟨g, i, none⟩ (.int .u8 u)) p m l P N := by
  obtain ⟨ao, cap, rfl, h2⟩ := h
  obtain ⟨g, cur, fz, rfl, r2, r3, r4, r5, r6⟩ := h2 (by omega)
  refine ⟨g, cap, rfl, ?_, ?_, fun u => ⟨⟨_, _, rfl, fun _ => ⟨g, cur.setIfInBounds i (.int .u8 u), fz, rfl, r2, by simp [World.setCell, Array.getElem?_modify, r3], r4, fun j hj => ?_, fun j c hij hj => ?_⟩⟩, (Below.refl n w).setCell (p := ⟨g, i, none⟩) r2 _, fun n' p m l P N hB => ?_⟩⟩
  · have := r6 i d[i] (Nat.le_refl _) (List.getElem?_eq_getElem hi)
    simp [World.cell?, r3, this]
  · have := r4 i hi
    simp [World.frozen?, r3]
    omega
  · by_cases e : i = j
    · subst e
      obtain ⟨c, hc⟩ := r5 i hi
      have := (Array.getElem?_eq_some_iff.1 hc).1
      exact ⟨u, by simp [this]⟩
    · obtain ⟨c, hc⟩ := r5 j hj
      exact ⟨c, by rw [Array.getElem?_setIfInBounds_ne e]; exact hc⟩
  · rw [Array.getElem?_setIfInBounds_ne (by omega)]
    exact r6 j c (by omega) hj
  · obtain ⟨fv, hA, hM⟩ := hB
    refine ⟨fv, hA.same fun k hk => Below.heap_setCell _ _ _ _ ?_, hM⟩
    rintro rfl
    rcases hk with rfl | rfl | hg
    · have := r3
      rw [hA.box] at this
      injection this with this
      injection this with _ this
      cases this
    · obtain ⟨c, _, hMp⟩ := hA.map
      obtain ⟨es, cl, hb⟩ := hMp.block
      have := r3
      rw [hb] at this
      cases this
    · obtain ⟨cs, hcs⟩ := hA.row.block hg
      have := r3
      rw [hcs] at this
      injection this with this
      injection this with _ this
      cases this

set_option maxHeartbeats 4000000 in
theorem owns_law (bv : Value) (bl : List Nat) (w : World) (hB : @Bs keepAll w.heap.size w bv bl) (hby : ∀ c ∈ bl, c < 256) (hlen : bl.length ≤ 140737488355328) :
    Calls Try.prog 7 #[bv] w fun e w' => e = .returned (.bool true) ∧ Below w.heap.size w w' := by
  have k0 := new_of w
  have ka := awake_of
  have hml : bl.length ≤ maxLen := by unfold maxLen; omega
  have hok : MsgOk (1, 2, bl) := ⟨⟨by show (-9223372036854775808 : Int) ≤ 1; decide, by show (1 : Int) ≤ _; decide⟩, ⟨by show (-9223372036854775808 : Int) ≤ 2; decide, by show (2 : Int) ≤ _; decide⟩, hby, hml⟩
  have hstr : ∀ w', Below w.heap.size w w' → (convert 31 9 bv).run Try.prog w' = .ok (.string (str bl)) w' := fun w' hb => @str_of keepAll _ _ _ _ (@Bs.below keepAll _ _ _ _ _ hB hb) hby
  have hcell : ∀ W, Below w.heap.size w W → ∀ i (hi : i < bl.length), ∃ g off cap, bv = .slice (some ⟨g, off, none⟩) bl.length cap ∧ W.cell? ⟨g, off + i, none⟩ = some (.int .u8 (bl[i] : Int)) := fun W hW i hi => by
    obtain ⟨ao, cap, rfl, _, _, _, h5⟩ := @Bs.below keepAll _ _ _ _ _ hB hW
    obtain ⟨g, off, rfl, _, h6⟩ := h5 (by rintro rfl; simp at hi)
    exact ⟨g, off, cap, rfl, h6 i bl[i] (List.getElem?_eq_getElem hi)⟩
  obtain ⟨ab, cb, hbv, -⟩ := id hB
  go_enter Try.func7, Try.ntmps7
  rw [hbv]
  go_wp2_with fail
  refine k0.mono ?_
  rintro e w1 ⟨p, m, fv, rfl, hA, hM, hb1⟩
  have a1 := (Below.refl w1.heap.size w1).alloc (Nat.le_refl _) (.cells #[] 5)
  have hO : Own w1.heap.size (w1.alloc (.cells #[] 5)) (.slice (some ⟨w1.heap.size, 0, none⟩) 0 0) [] := own_new w1 #[] [] rfl (by decide)
  have hB1 := @Bs.below keepAll _ _ _ _ _ hB (hb1.trans (a1.mono hb1.size))
  rw [hbv] at hB1
  have hl0 : ([] : List Nat).length + bl.length ≤ 140737488355328 := by simpa using hlen
  clear k0
  go_wp2_with (at_builtin; refine @wpList_append_bs keepAll _ _ _ _ _ _ rfl _ _ rfl w1.heap.size _ [] rfl hO a1.size w.heap.size _ bl rfl hB1 hl0 ?_)
  intro v2 w2 hO2 hb2
  have hB2 := @Own.bs keepAll _ _ _ _ hO2 (Nat.zero_le _)
  have hb12 := a1.trans hb2
  have hw2 := hb1.trans (hb12.mono hb1.size)
  have hR2 := (Own.rt hO2)
  have hA2 := hA.below hb12
  obtain ⟨a2, c2, rfl⟩ := hO2.shape
  have kp := post_yes hA2 1 2 _ bl hB2 hok (by simp)
  clear hO hO2 hB1 hB2 hl0 a1 hA
  go_wp2_with fail
  refine kp.mono ?_
  rintro e w3 ⟨rfl, hD3⟩
  obtain ⟨fv3, hA3, hk3, hn3⟩ := hD3
  have hR3 := hR2.kept hA2 hk3
  obtain ⟨⟨fv3', hA3', hM3⟩, hb3⟩ := BagNew.did (n := w.heap.size) (l := []) hw2.size hM ⟨fv3, hA3, hk3, hn3⟩
  have hw3 := hw2.trans hb3
  have kt := twice_yes hA3' 0 (1, 2, bl) rfl (by simp)
  clear kp hA2 hR2 hk3 hn3 hA3 hM
  go_wp2_with fail
  refine kt.mono ?_
  rintro e w4 ⟨rfl, fv4, hA4, hk4, hn4⟩
  have hR4 := hR3.kept hA3' hk4
  obtain ⟨hB4, hb4⟩ := BagNew.did (n := w.heap.size) (l := []) hw3.size hM3 ⟨fv4, hA4, hk4, hn4⟩
  have hw4 := hw3.trans hb4
  have hR4' : Rt w.heap.size w4 (.slice a2 bl.length c2) bl 0 := by
    obtain ⟨ao, cap, e, h2⟩ := hR4
    refine ⟨ao, cap, e, fun h0 => ?_⟩
    obtain ⟨g, cur, fz, r1, r2, r3⟩ := h2 h0
    exact ⟨g, cur, fz, r1, Nat.le_trans hb1.size r2, r3⟩
  clear kt hA3' hR3 hk4 hn4 hA4 hM3 hR4 hb4 hb3 hb12 hb2
  have hlen2 : ([] ++ [(1, 2, bl)] ++ [(1, 2, bl)] : List Msg) = [(1, 2, bl), (1, 2, bl)] := rfl
  rw [hlen2] at hB4
  clear hlen2
  go_wp2
  go_loopg [5] bl.length (fun g s5 wr => ∃ i : Nat, i + g = bl.length ∧ s5 = .int .i64 (i : Int) ∧ Rt w.heap.size wr (.slice a2 bl.length c2) bl i ∧ BagNew w.heap.size wr p m [(1, 2, bl), (1, 2, bl)] (fun _ _ => false) 0 ∧ Below w.heap.size w wr)
  case atStart => exact ⟨0, by simp, rfl, hR4', hB4, hw4⟩
  case round =>
    obtain ⟨i, hig, rfl, hR, hBg, hbr⟩ := hrel
    clear hR4' hB4 hw4
    by_cases hlt : i < bl.length
    · have hlti : (i : Int) < (bl.length : Int) := by omega
      obtain ⟨g, cap, hv, hc, hf, hset⟩ := hR.step hlt
      cases hv
      clear hR hcell hstr ka
      go_wp2
      go_roundg (gk - 1)
      case measure => omega
      case rel => exact ⟨i + 1, by omega, by go_num, (hset _).1, (hset _).2.2 _ _ _ _ _ _ hBg, hbr.trans (hset _).2.1⟩
    · have hlti : ¬ (i : Int) < (bl.length : Int) := by omega
      obtain ⟨fv5, hA5, hM5⟩ := hBg
      have kl := look_yes hA5 0 (1, 2, bl) rfl (by simp)
      clear hR
      go_wp2_with fail
      refine kl.mono ?_
      rintro e w6 ⟨v6, rfl, hN6, hb6⟩
      have hR6 : Rt w.heap.size w6 v6 bl 0 := by
        have hN6' : Nb wr.heap.size w6 v6 bl := hN6
        obtain ⟨ao, cap, e, h2⟩ := hN6'.rt
        refine ⟨ao, cap, e, fun h0 => ?_⟩
        obtain ⟨g, cur, fz, r1, r2, r3⟩ := h2 h0
        exact ⟨g, cur, fz, r1, Nat.le_trans hbr.size r2, r3⟩
      have hB6 : BagNew w.heap.size w6 p m [(1, 2, bl), (1, 2, bl)] (fun _ _ => false) 0 := ⟨fv5, hA5.below hb6, hM5⟩
      have hw6 := hbr.trans (hb6.mono hbr.size)
      obtain ⟨a6, c6, rfl⟩ := hR6.shape
      clear kl hA5 hM5 hN6 hb6 hbr
      go_wp2
      go_loopg [10] bl.length (fun g s10 wx => ∃ i : Nat, i + g = bl.length ∧ s10 = .int .i64 (i : Int) ∧ Rt w.heap.size wx (.slice a6 bl.length c6) bl i ∧ BagNew w.heap.size wx p m [(1, 2, bl), (1, 2, bl)] (fun _ _ => false) 0 ∧ Below w.heap.size w wx)
      case atStart => exact ⟨0, by simp, rfl, hR6, hB6, hw6⟩
      case round =>
        obtain ⟨j, hjg, rfl, hR, hBg, hbr⟩ := hrel
        clear hR6 hB6 hw6
        by_cases hltj : j < bl.length
        · have hltji : (j : Int) < (bl.length : Int) := by omega
          obtain ⟨g, cap, hv, hc, hf, hset⟩ := hR.step hltj
          cases hv
          clear hR hcell hstr ka
          go_wp2
          go_roundg (gk - 1)
          case measure => omega
          case rel => exact ⟨j + 1, by omega, by go_num, (hset _).1, (hset _).2.2 _ _ _ _ _ _ hBg, hbr.trans (hset _).2.1⟩
        · have hltji : ¬ (j : Int) < (bl.length : Int) := by omega
          obtain ⟨fv7, hA7, hM7⟩ := hBg
          have kd := deliver_yes hA7 0 (1, 2, bl) rfl (by simp)
          clear hR
          go_wp2_with fail
          refine kd.mono ?_
          rintro e w8 ⟨⟨v8, rfl, hN8⟩, hD8⟩
          have hR8 : Rt w.heap.size w8 v8 bl 0 := by
            have hN8' : Nb wr.heap.size w8 v8 bl := hN8
            obtain ⟨ao, cap, e, h2⟩ := hN8'.rt
            refine ⟨ao, cap, e, fun h0 => ?_⟩
            obtain ⟨g, cur, fz, r1, r2, r3⟩ := h2 h0
            exact ⟨g, cur, fz, r1, Nat.le_trans hbr.size r2, r3⟩
          obtain ⟨hB8, hb8⟩ := BagNew.did (n := w.heap.size) (l := []) hbr.size hM7 hD8
          have hB8' : BagNew w.heap.size w8 p m [(1, 2, bl)] (fun _ _ => false) 0 := hB8
          have hw8 := hbr.trans hb8
          obtain ⟨a8, c8, rfl⟩ := hR8.shape
          clear kd hA7 hM7 hN8 hb8 hbr hD8 hB8
          go_wp2
          go_loopg [15] bl.length (fun g s15 wy => ∃ i : Nat, i + g = bl.length ∧ s15 = .int .i64 (i : Int) ∧ Rt w.heap.size wy (.slice a8 bl.length c8) bl i ∧ BagNew w.heap.size wy p m [(1, 2, bl)] (fun _ _ => false) 0 ∧ Below w.heap.size w wy)
          case atStart => exact ⟨0, by simp, rfl, hR8, hB8', hw8⟩
          case round =>
            obtain ⟨k, hkg, rfl, hR, hBg, hbr⟩ := hrel
            clear hR8 hB8' hw8
            by_cases hltk : k < bl.length
            · have hltki : (k : Int) < (bl.length : Int) := by omega
              obtain ⟨g, cap, hv, hc, hf, hset⟩ := hR.step hltk
              cases hv
              obtain ⟨gb, ob, cpb, hvb, hcb⟩ := hcell wr hbr k hltk
              rw [hbv] at hvb
              cases hvb
              have HR : Hid (∀ nq, Rt w.heap.size (wr.drewN nq) (.slice (some ⟨g, 0, none⟩) bl.length c8) bl k ∧ BagNew w.heap.size (wr.drewN nq) p m [(1, 2, bl)] (fun _ _ => false) 0 ∧ Below w.heap.size w (wr.drewN nq)) := fun nq => ⟨hR, hBg.below (below_drewN (Below.refl _ _) nq), below_drewN hbr nq⟩
              clear hR hcell hstr ka hset hBg hbr
              go_wp2
              go_quiet (fail)
              obtain ⟨hRq, hBq, hbq⟩ := HR.out nq
              obtain ⟨g', cap', hv', hc', hf', hset'⟩ := hRq.step hltk
              cases hv'
              have HSt : Hid _ := hset'
              clear hRq hset' HR hc hf hcb
              go_wp2
              go_roundg (gk - 1)
              case measure => omega
              case rel => exact ⟨k + 1, by omega, by go_num, (HSt.out _).1, (HSt.out _).2.2 _ _ _ _ _ _ hBq, hbq.trans (HSt.out _).2.1⟩
            · have hltki : ¬ (k : Int) < (bl.length : Int) := by omega
              obtain ⟨fv9, hA9, hM9⟩ := hBg
              have kd := deliver_yes hA9 0 (1, 2, bl) rfl (by simp)
              clear hR hcell
              go_wp2_with fail
              refine kd.mono ?_
              rintro e w10 ⟨⟨v10, rfl, hN10⟩, hD10⟩
              have hN10' : Nb wr.heap.size w10 v10 bl := hN10
              have hB10 := hN10'.bs
              obtain ⟨hB10', hb10⟩ := BagNew.did (n := w.heap.size) (l := []) hbr.size hM9 hD10
              have hw10 := hbr.trans hb10
              have s1 := hstr w10 hw10
              have s2 := @str_of keepAll _ _ _ _ hB10 hby
              obtain ⟨a10, c10, hv10, -⟩ := id hB10
              subst hv10
              rw [hbv] at s1
              have ha := ka w10
              have hse : ((str bl).toList == (str bl).toList) = true := by simp
              generalize str bl = sb at *
              clear kd hstr ka hA9 hM9 hN10 hN10' hB10 hB10' hD10
              go_wp2_with fail
              refine ha.mono ?_
              rintro e w11 ⟨rfl, hb11⟩
              go_wp2
              go_ret
              exact ⟨rfl, hw10.trans (hb11.mono hw10.size)⟩
end Go.Proofs.Ytjkjekhbfjjnjaa

