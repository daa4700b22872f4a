import Derived.Test.YtjkjekhbfjjnjaaHb25
/- The law BagOnce answers true and leaves all memory as it was: the walk. -/
namespace Go.Proofs.Ytjkjekhbfjjnjaa
open Go.RowKit Go.Maps Go.ChangeMaps
set_option maxRecDepth 100000
set_option linter.unusedSimpArgs false
set_option linter.unusedVariables false

/-- What stands between two rounds. -/
structure OSt (n : Nat) (w : World) (p m bm : Nat) (l : List Msg) (c : Nat) : Prop where
  bag : BagNew n w p m l (fun _ _ => false) 0
  left : LeftAt w bm l c
  ne : m ≠ bm
  nb : n ≤ bm
  len : l.length ≤ c

theorem BagAt.not {w : World} {p m bm : Nat} {fv : Value} {l : List Msg} {P : Int → Int → Bool} {N : Nat} (h : BagAt w p m fv l P N) (hm : ∃ es cl, w.heap[bm]? = some (.map es cl)) (hne : m ≠ bm) : ¬ Mine p m fv bm := by
  obtain ⟨es, cl, hb⟩ := hm
  rintro (rfl | rfl | hg)
  · rw [h.box] at hb; cases hb
  · exact hne rfl
  · obtain ⟨cs, hcs⟩ := h.row.block hg
    rw [hcs] at hb
    cases hb
theorem LeftAt.block {w : World} {b : Nat} {l : List Msg} {c : Nat} (h : LeftAt w b l c) : ∃ es cl, w.heap[b]? = some (.map es cl) := by
  obtain ⟨M, c', hc, hM, hl⟩ := h.ex
  exact hM.block
theorem LeftAt.below {w w' : World} {b : Nat} {l : List Msg} {c : Nat} (h : LeftAt w b l c) (hb : Below w.heap.size w w') : LeftAt w' b l c := h.same (hb.block b h.lt)
theorem OSt.below {n : Nat} {w w' : World} {p m bm : Nat} {l : List Msg} {c : Nat} (h : OSt n w p m bm l c) (hb : Below w.heap.size w w') : OSt n w' p m bm l c := ⟨h.bag.below hb, h.left.below hb, h.ne, h.nb, h.len⟩
/-- The bag has acted: the map is as it was. -/
theorem OSt.did {n : Nat} {w w' : World} {p m bm : Nat} {fv : Value} {l l' : List Msg} {c : Nat} (h : OSt n w p m bm l c) (hn : n ≤ w.heap.size) (hA : BagAt w p m fv l (fun _ _ => false) 0) (hM : ∀ k, Mine p m fv k → n ≤ k) (hd : Did w p m fv l' (fun _ _ => false) 0 w') : BagNew n w' p m l' (fun _ _ => false) 0 ∧ LeftAt w' bm l c ∧ Below n w w' := by
  obtain ⟨h1, h2⟩ := BagNew.did (l := l) hn hM hd
  obtain ⟨fv', d1, d2, d3⟩ := hd
  exact ⟨h1, h.left.same (d2.block bm h.left.lt (hA.not h.left.block h.ne)), h2⟩
/-- The map has turned: the bag is as it was. -/
theorem OSt.turned {n : Nat} {w w' : World} {p m bm : Nat} {l' : List Msg} {c : Nat} (hB : BagNew n w p m l' (fun _ _ => false) 0) (hm : ∃ es cl, w.heap[bm]? = some (.map es cl)) (hne : m ≠ bm) (hnb : n ≤ bm) (hn : n ≤ w.heap.size) (hL : LeftAt w' bm l' c) (ht : w.grownBy w' (some bm)) (hlen : l'.length ≤ c) : OSt n w' p m bm l' c ∧ Below n w w' := by
  obtain ⟨fv, hA, hM⟩ := hB
  refine ⟨⟨⟨fv, hA.same fun k hk => ht.block k (hA.lt k hk) (fun e => hA.not hm hne (by cases e; exact hk)), hM⟩, hL, hne, hnb, hlen⟩, ⟨ht.os, ht.tape, ht.output, ht.size, fun k hk => ht.block k (by omega) (fun e => by cases e; omega)⟩⟩

theorem OSt.more {n : Nat} {w : World} {p m bm : Nat} {l : List Msg} {c : Nat} (h : OSt n w p m bm l c) : OSt n w p m bm l (c + 1) := by
  obtain ⟨M, c', hc, hM, hl⟩ := h.left.ex
  exact ⟨h.bag, ⟨M, c', by omega, hM, hl⟩, h.ne, h.nb, by have := h.len; omega⟩
theorem Nb.kept {n : Nat} {w w' : World} {v : Value} {d : List Nat} (h : Nb n w v d) {p m : Nat} {fv : Value} {l : List Msg} {P : Int → Int → Bool} {N : Nat} (hA : BagAt w p m fv l P N) (hk : Kept (Mine p m fv) w w') : Nb n w' v d := by
  obtain ⟨g, cap, cur, fz, rfl, h1, h2, h3, h4, h5, h6⟩ := h
  refine ⟨g, cap, cur, fz, rfl, h1, h2, h3, (hk.block g (Array.getElem?_eq_some_iff.1 h4).1 ?_).trans h4, h5, h6⟩
  rintro (rfl | rfl | hg)
  · rw [hA.box] at h4
    injection h4 with h4
    injection h4 with _ h4
    cases h4
  · obtain ⟨c, _, hM⟩ := hA.map
    obtain ⟨es, cl, hb⟩ := hM.block
    rw [hb] at h4
    cases h4
  · obtain ⟨cs, hcs⟩ := hA.row.block hg
    rw [hcs] at h4
    injection h4 with h4
    injection h4 with _ h4
    cases h4
/-- 'left[y] op= 1': the look-up, the entry and its store. -/
def EntT (n : Nat) (p m bm : Nat) (l l' : List Msg) (y : Msg) (c : Nat) (W' : World) : Prop :=
  ∃ (v0 : Value) (st : Nat) (W5 W6 : World), (Instr.lookup 42 (.map (some bm)) (.agg #[.int .i64 y.1, .int .i64 y.2.1, .string (str y.2.2)]) false).run Try.prog W' = .ok (.int .i64 ((l.count y : Nat) : Int)) W' ∧ (Instr.mapEntry 42 (.map (some bm)) (.agg #[.int .i64 y.1, .int .i64 y.2.1, .string (str y.2.2)])).run Try.prog W' = .ok (.tuple #[v0, .int .i64 (st : Int)]) W5 ∧ (Instr.lookup 42 (.map (some bm)) (.agg #[.int .i64 y.1, .int .i64 y.2.1, .string (str y.2.2)]) false).run Try.prog W5 = .ok (.int .i64 ((l.count y : Nat) : Int)) W5 ∧ (Instr.entryStore 42 (.map (some bm)) (.int .i64 (st : Int)) (.int .i64 ((l'.count y : Nat) : Int))).run Try.prog W5 = .ok () W6 ∧ W'.grownBy W5 (some bm) ∧ W'.grownBy W6 (some bm) ∧ OSt n W6 p m bm l' (c + 1) ∧ Below n W' W6
theorem OSt.entry {n : Nat} {W : World} {p m bm : Nat} {l l' : List Msg} {y : Msg} {c : Nat} (r1 : BagNew n W p m l' (fun _ _ => false) 0) (r2 : LeftAt W bm l c) (hy : MsgOk y) (hc2 : ∀ z, z ≠ y → l'.count z = l.count z) (hne : m ≠ bm) (hnb : n ≤ bm) (hn : n ≤ W.heap.size) (hc : c < 1000000) (hlen : l'.length ≤ c + 1) : ∀ W', Below W.heap.size W W' → EntT n p m bm l l' y c W' := fun W' hW' => by
  obtain ⟨v0, st, W5, e1, e2, elk, e3⟩ := (r2.below hW').entry hc hy
  obtain ⟨W6, f1, f2, f3⟩ := e3 l' hc2 W5 rfl
  have hg5 := e2.grown
  have hg6 := f3.grown
  have hg : W'.grownBy W6 (some bm) := ⟨hg6.os.trans hg5.os, hg6.tape.trans hg5.tape, hg6.output.trans hg5.output, Nat.le_trans hg5.size hg6.size, fun k hk hne => (hg6.block k (Nat.lt_of_lt_of_le hk hg5.size) hne).trans (hg5.block k hk hne)⟩
  obtain ⟨o1, o2⟩ := OSt.turned (r1.below hW') ((r2.below hW').block) hne hnb (Nat.le_trans hn hW'.size) f2 hg hlen
  exact ⟨v0, st, W5, W6, (r2.below hW').look hy, e1, elk, f1, hg5, hg, o1, o2⟩

set_option maxHeartbeats 8000000 in
theorem once_law (lv : Value) (acts : List Ac) (w : World) (hAv : Av w lv acts) (hok : ∀ x ∈ acts, AcOk x) :
    Calls Try.prog 4 #[lv] w fun e w' => e = .returned (.bool true) ∧ Below w.heap.size w w' := by
  have k0 := new_of w
  have ka := awake_of
  have hmm := @run_makeMap Try.prog
  obtain ⟨al, cl, hlv, -⟩ := id hAv
  have hact : ∀ W, Below w.heap.size w W → ∀ i (x : Ac), acts[i]? = some x → ∃ b off sa sc, al = some ⟨b, off, none⟩ ∧ W.cell? ⟨b, off + i * 4, none⟩ = some (.int .i64 x.what) ∧ W.cell? ⟨b, off + i * 4 + 1, none⟩ = some (.int .i64 x.a) ∧ W.cell? ⟨b, off + i * 4 + 2, none⟩ = some (.int .i64 x.b) ∧ W.cell? ⟨b, off + i * 4 + 3, none⟩ = some (.slice sa x.data.length sc) ∧ (∀ W', Below w.heap.size w W' → @Bs keepAll W'.heap.size W' (.slice sa x.data.length sc) x.data) := fun W hW i x hx => by
    obtain ⟨ao, cap, e, h2⟩ := hAv
    rw [hlv] at e
    cases e
    obtain ⟨b, off, vs, r1, ⟨bv, hvs, hBv⟩, r3⟩ := h2 i x hx
    obtain ⟨sa, sc, hbv, -⟩ := id hBv
    subst hbv hvs
    have up : ∀ j u, w.cell? ⟨b, off + i * 4 + j, none⟩ = some u → W.cell? ⟨b, off + i * 4 + j, none⟩ = some u := fun j u hu => (hW.cell (p := ⟨b, off + i * 4 + j, none⟩) (World.block_lt_of_cell? w _ hu)).trans hu
    exact ⟨b, off, sa, sc, r1, up 0 _ (r3 0 _ rfl), up 1 _ (r3 1 _ rfl), up 2 _ (r3 2 _ rfl), up 3 _ (r3 3 _ rfl), fun W' hW' => @Bs.mono keepAll _ _ _ _ _ (@Bs.below keepAll _ _ _ _ _ hBv hW') hW'.size⟩
  go_enter Try.func4, Try.ntmps4
  rw [hlv]
  go_wp2_with fail
  refine k0.mono ?_
  rintro e w1 ⟨p, m, fv, rfl, hA, hM, hb1⟩
  have a1 := (Below.refl w1.heap.size w1).alloc (Nat.le_refl _) (.map #[] 0)
  have hO1 : OSt w.heap.size (w1.alloc (.map #[] 0)) p m w1.heap.size [] 0 := ⟨⟨fv, hA.below a1, hM⟩, LeftAt.made w1, fun e => by have := hA.lt m (.inr (.inl rfl)); omega, hb1.size, Nat.le_refl _⟩
  have hw1 := hb1.trans (a1.mono hb1.size)
  clear k0 hA hM a1
  go_wp2
  go_loopg [5] acts.length (fun g s5 wr => ∃ (i : Nat) (l : List Msg), i + g = acts.length ∧ i ≤ 500 ∧ s5 = .int .i64 (i : Int) ∧ OSt w.heap.size wr p m w1.heap.size l i ∧ Below w.heap.size w wr)
  case atStart => exact ⟨0, [], by omega, by omega, rfl, hO1, hw1⟩
  case round =>
    obtain ⟨i, l, hig, hi5, rfl, hS, hb⟩ := hrel
    clear hO1 hw1 hmm
    by_cases hlt : i < acts.length ∧ i < 500
    · obtain ⟨hlt, h500⟩ := hlt
      have hlti : (i : Int) < (acts.length : Int) := by omega
      have h500i : (i : Int) < 500 := by omega
      obtain ⟨x, hx⟩ : ∃ x, acts[i]? = some x := ⟨acts[i], List.getElem?_eq_getElem hlt⟩
      have hokx := hok x (List.mem_of_getElem? hx)
      obtain ⟨b, off, sa, sc, rfl, c0, c1, c2, c3, hBx⟩ := hact wr hb i x hx
      clear ka hact hok hAv
      have a2 := (Below.refl wr.heap.size wr).alloc (Nat.le_refl _) (.cells #[.int .i64 x.what, .int .i64 x.a, .int .i64 x.b, .slice sa x.data.length sc] 33)
      have hS2 := hS.below a2
      have hw2 := hb.trans (a2.mono hb.size)
      have hlen := hS.len
      obtain ⟨fv2, hA2, hM2⟩ := id hS2.bag
      obtain ⟨Do, A, B, D⟩ := x
      dsimp only at *
      by_cases h1 : Do = 1
      · subst h1
        by_cases hin : 0 ≤ A ∧ A < (l.length : Int)
        · obtain ⟨j, rfl⟩ : ∃ j : Nat, A = (j : Int) := ⟨A.toNat, by omega⟩
          have hjl : j < l.length := by omega
          obtain ⟨y, hy⟩ : ∃ y, l[j]? = some y := ⟨l[j], List.getElem?_eq_getElem hjl⟩
          have hyok := hA2.ok y (List.mem_of_getElem? hy)
          have kd := deliver_yes hA2 j y hy (by omega)
          obtain ⟨hc1, hc2⟩ := count_erase hy
          have k2 : ∀ W v, Nb (wr.alloc (.cells #[.int .i64 1, .int .i64 (j : Int), .int .i64 B, .slice sa D.length sc] 33)).heap.size W v y.2.2 → Did (wr.alloc (.cells #[.int .i64 1, .int .i64 (j : Int), .int .i64 B, .slice sa D.length sc] 33)) p m fv2 (l.eraseIdx j) (fun _ _ => false) 0 W → Hid (∃ a n c, v = .slice a n c ∧ (convert 31 9 (.slice a n c)).run Try.prog W = .ok (.string (str y.2.2)) W ∧ Below w.heap.size w W ∧ ∀ W', Below W.heap.size W W' → EntT w.heap.size p m w1.heap.size l (l.eraseIdx j) y i W') := fun W v hN hD => by
            obtain ⟨r1, r2, r3⟩ := hS2.did hw2.size hA2 hM2 hD
            have hwW := hw2.trans r3
            obtain ⟨a, c, hv, -⟩ := hN.bs
            have hst := @str_of keepAll _ _ _ _ hN.bs hyok.2.2.1
            exact ⟨a, _, c, hv, hv ▸ hst, hwW, OSt.entry r1 r2 hyok hc2 hS.ne hS.nb hwW.size (by omega) (by rw [List.length_eraseIdx_of_lt hjl]; omega)⟩
          have a3 : ∀ W3 : World, Below W3.heap.size W3 (W3.alloc (.cells #[.int .i64 y.1, .int .i64 y.2.1, .string (str y.2.2)] 39)) := fun W3 => (Below.refl _ _).alloc (Nat.le_refl _) _
          have hcle : (l.eraseIdx j).count y ≤ 1000 := Nat.le_trans List.count_le_length (by rw [List.length_eraseIdx_of_lt hjl]; omega)
          have hwr : IntKind.i64.wrap (((l.eraseIdx j).count y : Nat) : Int) = (((l.eraseIdx j).count y : Nat) : Int) := IntWalk.i64_in _ (by omega)
          have hcnt : (l.count y : Int) = ((l.eraseIdx j).count y : Int) + 1 := by omega
          clear hc2 hyok hA2 hM2 hS2 hS hlen a2 hBx hokx hx
          go_wp2_with (go_at_call 15; refine kd.mono ?_; rintro e W3 ⟨⟨v3, rfl, hN3⟩, hD3⟩; obtain ⟨a3', n3, c3', rfl, hcv, hw3, hen⟩ := (k2 W3 v3 hN3 hD3).out; obtain ⟨u0, ust, U5, U6, hlk, -⟩ := hen _ (a3 W3); obtain ⟨v0, st, W5, W6, g1, g2, glk, g3, g4, g5, g6, g7⟩ := hen _ (a3 W3).drew; rw [hc1] at hlk g1 glk; have G6 := Hid.intro g6; have G7 := Hid.intro g7; clear k2 kd hN3 hD3 hen g6 g7 g4 g5)
          go_region
          all_goals (
            go_wp2
            go_roundg (gk - 1)
            case measure => omega
            case rel => exact ⟨i + 1, _, by omega, by omega, by go_num, G6.out, (hw3.trans ((a3 W3).drew.mono hw3.size)).trans G7.out⟩)
        · have kd := deliver_no hA2 A hin
          have hcv := fun W => str_nil W
          have a3 := a2.alloc a2.size (.cells #[.int .i64 0, .int .i64 0, .string (str [])] 39)
          have HS : Hid _ := (hS.below a3).more
          have HW : Hid _ := hb.trans (a3.mono hb.size)
          generalize str [] = s0 at *
          clear hS hS2 hA2 hM2 a3 a2 hin hBx hokx hx
          go_wp2_with (go_at_call 15; refine kd.mono ?_; rintro e wq ⟨rfl, hwq⟩; rw [hwq]; clear hwq wq)
          go_roundg (gk - 1)
          case measure => omega
          case rel => exact ⟨i + 1, l, by omega, by omega, by go_num, HS.out, HW.out⟩
      · by_cases h3 : Do = 3
        · subst h3
          by_cases hin : 0 ≤ A ∧ A < (l.length : Int)
          · obtain ⟨j, rfl⟩ : ∃ j : Nat, A = (j : Int) := ⟨A.toNat, by omega⟩
            have hjl : j < l.length := by omega
            obtain ⟨y, hy⟩ : ∃ y, l[j]? = some y := ⟨l[j], List.getElem?_eq_getElem hjl⟩
            have hyok := hA2.ok y (List.mem_of_getElem? hy)
            have kl := look_yes hA2 j y hy (by omega)
            obtain ⟨hc1, hc2⟩ := count_snoc (l := l) (x := y)
            have k2 : ∀ W v, Nb (wr.alloc (.cells #[.int .i64 3, .int .i64 (j : Int), .int .i64 B, .slice sa D.length sc] 33)).heap.size W v y.2.2 → Below (wr.alloc (.cells #[.int .i64 3, .int .i64 (j : Int), .int .i64 B, .slice sa D.length sc] 33)).heap.size (wr.alloc (.cells #[.int .i64 3, .int .i64 (j : Int), .int .i64 B, .slice sa D.length sc] 33)) W → Hid (∃ a n c, v = .slice a n c ∧ W.cell? ⟨wr.heap.size, 1, none⟩ = some (.int .i64 (j : Int)) ∧ Calls Try.prog 16 #[.pointer (some ⟨p, 0, none⟩), .int .i64 (j : Int)] W (fun e W4 => e = .returned (.bool true) ∧ (convert 31 9 (.slice a n c)).run Try.prog W4.drew = .ok (.string (str y.2.2)) W4.drew ∧ Below w.heap.size w W4 ∧ EntT w.heap.size p m w1.heap.size l (l ++ [y]) y i W4.drew)) := fun W v hN hbW => by
              have hA3 := hA2.below hbW
              have hwW := hw2.trans (hbW.mono hw2.size)
              obtain ⟨a, c, hv, -⟩ := hN.bs
              have hbox := (hbW.block wr.heap.size (by simp)).trans (heap_alloc_new wr _)
              refine ⟨a, _, c, hv, by rw [cells_of_block hbox]; rfl, (twice_yes hA3 j y hy (by omega)).mono ?_⟩
              rintro e W4 ⟨rfl, fv4, d1, d2, d3⟩
              obtain ⟨r1, r2, r3⟩ := (hS2.below hbW).did hwW.size hA3 hM2 ⟨fv4, d1, d2, d3⟩
              have hN4 := hN.kept hA3 d2
              have hst := @str_of keepAll _ _ _ _ hN4.bs hyok.2.2.1
              rw [hv] at hst
              have hw4 := hwW.trans r3
              exact ⟨rfl, @str_of keepAll _ _ _ _ (@Bs.below keepAll _ _ _ _ _ (hv ▸ hN4.bs) (Below.refl _ _).drew) hyok.2.2.1, hw4, OSt.entry r1 r2 hyok hc2 hS.ne hS.nb hw4.size (by omega) (by simp; omega) _ (Below.refl _ _).drew⟩
            have hcle : l.count y ≤ 1000 := Nat.le_trans List.count_le_length (by omega)
            have hwr : IntKind.i64.wrap (((l.count y : Nat) : Int) + 1) = ((l.count y : Nat) : Int) + 1 := IntWalk.i64_in _ (by omega)
            have hpush : (((l ++ [y]).count y : Nat) : Int) = ((l.count y : Nat) : Int) + 1 := by rw [hc1]; omega
            have HP : Hid _ := hpush
            clear hc2 hyok hA2 hM2 hS2 hS hlen a2 hBx hokx hx hpush hc1
            go_wp2_with (first | (go_at_call 13; refine kl.mono ?_; rintro e W3 ⟨v3, rfl, hN3, hb3⟩; obtain ⟨a3, n3, c3', rfl, hbx, kt⟩ := (k2 W3 v3 hN3 hb3).out; clear hN3) | (go_at_call 16; refine kt.mono ?_; rintro e W4 ⟨rfl, hcv, hw4, v0, st, W5, W6, g1, g2, glk, g3, g4, g5, g6, g7⟩; rw [HP.out] at g3; have G6 := Hid.intro g6; have G7 := Hid.intro g7; clear g6 g7 g4 g5))
            clear k2 kl kt
            go_region
            all_goals (
              go_wp2
              go_roundg (gk - 1)
              case measure => omega
              case rel => exact ⟨i + 1, _, by omega, by omega, by go_num, G6.out, (hw4.trans ((Below.refl _ _).drew.mono hw4.size)).trans G7.out⟩)
          · have kl := look_no hA2 A hin
            have kt := twice_no hA2 A (.inl hin)
            have HS : Hid _ := hS2.more
            have HW : Hid _ := hw2
            clear hS hS2 hA2 hM2 a2 hin hBx hokx hx
            go_wp2_with (first | (go_at_call 13; refine kl.mono ?_; rintro e wq ⟨rfl, hwq⟩; rw [hwq]; clear hwq wq) | (go_at_call 16; refine kt.mono ?_; rintro e wq ⟨rfl, hwq⟩; rw [hwq]; clear hwq wq))
            go_roundg (gk - 1)
            case measure => omega
            case rel => exact ⟨i + 1, l, by omega, by omega, by go_num, HS.out, HW.out⟩
        · have hBs := hBx _ hw2
          have hdl : D.length ≤ maxLen := by
            obtain ⟨_, _, e, r1, r2, _⟩ := hBs
            exact Nat.le_trans r1 r2
          have hyok : MsgOk (A, B, D) := ⟨hokx.1, hokx.2.1, hokx.2.2, hdl⟩
          have kp := post_yes hA2 A B _ D hBs hyok (by omega)
          obtain ⟨hc1, hc2⟩ := count_snoc (l := l) (x := (A, B, D))
          have k2 : ∀ W, Did (wr.alloc (.cells #[.int .i64 Do, .int .i64 A, .int .i64 B, .slice sa D.length sc] 33)) p m fv2 (l ++ [(A, B, D)]) (fun _ _ => false) 0 W → Hid (W.cell? ⟨wr.heap.size, 1, none⟩ = some (.int .i64 A) ∧ W.cell? ⟨wr.heap.size, 2, none⟩ = some (.int .i64 B) ∧ W.cell? ⟨wr.heap.size, 3, none⟩ = some (.slice sa D.length sc) ∧ (convert 31 9 (.slice sa D.length sc)).run Try.prog W.drew = .ok (.string (str D)) W.drew ∧ Below w.heap.size w W ∧ EntT w.heap.size p m w1.heap.size l (l ++ [(A, B, D)]) (A, B, D) i W.drew) := fun W hD => by
            obtain ⟨r1, r2, r3⟩ := hS2.did hw2.size hA2 hM2 hD
            have hwW := hw2.trans r3
            obtain ⟨fv', d1, d2, d3⟩ := hD
            have hnew : ¬ Mine p m fv2 wr.heap.size := by
              obtain ⟨fvr, hAr, hMr⟩ := hS.bag
              have hnb := heap_alloc_new wr (.cells #[.int .i64 Do, .int .i64 A, .int .i64 B, .slice sa D.length sc] 33)
              rintro (e | e | e)
              · have := hA2.box
                rw [← e, hnb] at this
                injection this with this
                injection this with _ this
                cases this
              · obtain ⟨_, _, hMm⟩ := hA2.map
                obtain ⟨es, cl', hb'⟩ := hMm.block
                rw [← e, hnb] at hb'
                cases hb'
              · obtain ⟨cs, hcs⟩ := hA2.row.block e
                rw [hnb] at hcs
                injection hcs with hcs
                injection hcs with _ hcs
                cases hcs
            have hbox := (d2.block wr.heap.size (by simp) hnew).trans (heap_alloc_new wr _)
            exact ⟨by rw [cells_of_block hbox]; rfl, by rw [cells_of_block hbox]; rfl, by rw [cells_of_block hbox]; rfl, @str_of keepAll _ _ _ _ (@Bs.below keepAll _ _ _ _ _ (hBx W hwW) (Below.refl _ _).drew) hokx.2.2, hwW, OSt.entry r1 r2 hyok hc2 hS.ne hS.nb hwW.size (by omega) (by simp; omega) _ (Below.refl _ _).drew⟩
          have hcle : l.count (A, B, D) ≤ 1000 := Nat.le_trans List.count_le_length (by omega)
          have hwr : IntKind.i64.wrap (((l.count (A, B, D) : Nat) : Int) + 1) = ((l.count (A, B, D) : Nat) : Int) + 1 := IntWalk.i64_in _ (by omega)
          have hpush : (((l ++ [(A, B, D)]).count (A, B, D) : Nat) : Int) = ((l.count (A, B, D) : Nat) : Int) + 1 := by rw [hc1]; omega
          have HP : Hid _ := hpush
          have h1' : (Do == 1) = false := by simpa using h1
          have h3' : (Do == 3) = false := by simpa using h3
          clear hc2 hyok hA2 hM2 hS2 hS hlen a2 hBx hokx hx hpush hc1 hBs hdl
          go_wp2_with (go_at_call 17; refine kp.mono ?_; rintro e W4 ⟨rfl, hD4⟩; obtain ⟨b1, b2, b3, hcv, hw4, v0, st, W5, W6, g1, g2, glk, g3, g4, g5, g6, g7⟩ := (k2 W4 hD4).out; rw [HP.out] at g3; have G6 := Hid.intro g6; have G7 := Hid.intro g7; clear g6 g7 g4 g5 hD4)
          clear k2 kp
          go_region
          all_goals (
            go_wp2
            go_roundg (gk - 1)
            case measure => omega
            case rel => exact ⟨i + 1, _, by omega, by omega, by go_num, G6.out, (hw4.trans ((Below.refl _ _).drew.mono hw4.size)).trans G7.out⟩)
    · have ha := ka wr
      clear ka hact hAv hS
      by_cases hlt1 : i < acts.length
      · have hlti : (i : Int) < (acts.length : Int) := by omega
        have h500i : ¬ (i : Int) < 500 := by omega
        clear hlt
        go_wp2_with (go_at_call 14; refine ha.mono ?_; rintro e wq ⟨rfl, hwq⟩)
        go_ret
        exact ⟨rfl, hb.trans (hwq.mono hb.size)⟩
      · have hlti : ¬ (i : Int) < (acts.length : Int) := by omega
        clear hlt
        go_wp2_with (go_at_call 14; refine ha.mono ?_; rintro e wq ⟨rfl, hwq⟩)
        go_ret
        exact ⟨rfl, hb.trans (hwq.mono hb.size)⟩
end Go.Proofs.Ytjkjekhbfjjnjaa

