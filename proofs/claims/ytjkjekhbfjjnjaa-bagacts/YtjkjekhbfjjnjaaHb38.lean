import Derived.Test.YtjkjekhbfjjnjaaHb31
import Derived.Laws.Cover1
/- The contract of the law's 'does': Clear. -/
namespace Go.Proofs.Ytjkjekhbfjjnjaa
open Go.RowKit Go.Maps
set_option maxRecDepth 100000
set_option linter.unusedSimpArgs false
set_option linter.unusedVariables false

set_option maxHeartbeats 8000000 in
theorem does_6 {n : Nat} {w : World} {p m q : Nat} {l : List Msg} {ps : List (Int × Int)} {N : Nat} (h : ASt n w p m q l ps N) (hn : n ≤ w.heap.size) (hN : N ≤ 1000) (A B : Int) (hAi : i64 A) (hBi : i64 B) (sa : Option Addr) (dl sc : Nat) :
    Calls Try.prog 9 #[.pointer (some ⟨p, 0, none⟩), .pointer (some ⟨q, 0, none⟩), .agg #[.int .i64 6, .int .i64 A, .int .i64 B, .slice sa dl sc]] w (DoesT n w p m q N) := by
  have a1 := (Below.refl w.heap.size w).alloc (Nat.le_refl _) (.cells #[.int .i64 6, .int .i64 A, .int .i64 B, .slice sa dl sc] 33)
  have nb := heap_alloc_new w (.cells #[.int .i64 6, .int .i64 A, .int .i64 B, .slice sa dl sc] 33)
  obtain ⟨lv, pv, hMod, hMn⟩ := h.mod
  obtain ⟨fv, hBag, hAn⟩ := h.bag
  have hlen := h.len
  have hlenp := h.lenp
  have q0 := (hMod.below a1).cells.1
  obtain ⟨al, cal, hlv, hlec, -⟩ := hMod.lrow.shape
  rw [hlv] at q0
  have b1 : (w.alloc (.cells #[.int .i64 6, .int .i64 A, .int .i64 B, .slice sa dl sc] 33)).cell? ⟨w.heap.size, 1, none⟩ = some (.int .i64 A) := by rw [cells_of_block nb]; rfl
  by_cases hlo : 0 ≤ A
  · have hlod : decide (0 ≤ A) = true := by simpa using hlo
    have hle0 : ¬ A < 0 := by omega
    go_enter Try.func9, Try.ntmps9
    go_wp2
    go_quiet (fail)
    obtain ⟨W1, hW1⟩ : ∃ W1, W1 = (w.alloc (.cells #[.int .i64 6, .int .i64 A, .int .i64 B, .slice sa dl sc] 33)).drewN nq := ⟨_, rfl⟩
    rw [← hW1]
    have hb1 : Below w.heap.size w W1 := by rw [hW1]; exact below_drewN a1 nq
    have nb1 : W1.heap[w.heap.size]? = some (.cells #[.int .i64 6, .int .i64 A, .int .i64 B, .slice sa dl sc] 33 (0, 0)) := by rw [hW1]; exact nb
    clear hW1 nq a1 nb b1 q0
    have hn1 := Nat.le_trans hn hb1.size
    have hBag1 := hBag.below hb1
    have hMod1 := hMod.below hb1
    have c0 : W1.cell? ⟨w.heap.size, 0, none⟩ = some (.int .i64 6) := by rw [cells_of_block nb1]; rfl
    have c1 : W1.cell? ⟨w.heap.size, 1, none⟩ = some (.int .i64 A) := by rw [cells_of_block nb1]; rfl
    have c2 : W1.cell? ⟨w.heap.size, 2, none⟩ = some (.int .i64 B) := by rw [cells_of_block nb1]; rfl
    have c3 : W1.cell? ⟨w.heap.size, 3, none⟩ = some (.slice sa dl sc) := by rw [cells_of_block nb1]; rfl
    obtain ⟨nA, hnA⟩ : ∃ nA, Hid (nA = (filt A l).length) := ⟨_, rfl⟩
    have hcell : ∀ W, Below W1.heap.size W1 W → W.cell? ⟨q, 0, none⟩ = some (.slice al l.length cal) ∧ W.cell? ⟨w.heap.size, 1, none⟩ = some (.int .i64 A) ∧ W.frozen? ⟨q, 0, none⟩ = false ∧ ∀ i x, l[i]? = some x → ∃ g, al = some ⟨g, 0, none⟩ ∧ W.cell? ⟨g, i * 3, none⟩ = some (.int .i64 x.1) ∧ W.cell? ⟨g, i * 3 + 1, none⟩ = some (.int .i64 x.2.1) ∧ W.cell? ⟨g, i * 3 + 2, none⟩ = some (.string (str x.2.2)) := fun W hW => by
      have hM := hMod1.below hW
      have nb2 := (hW.block w.heap.size (Array.getElem?_eq_some_iff.1 nb1).1).trans nb1
      have q0' := hM.cells.1
      rw [hlv] at q0'
      refine ⟨q0', by rw [cells_of_block nb2]; rfl, hM.cells.2.2 0, fun i x hx => ?_⟩
      obtain ⟨g, cap', e, -, -, -, x0, x1, x2, -⟩ := msg_cells hM.lrow hx
      rw [hlv] at e
      cases e
      exact ⟨g, rfl, x0, x1, x2⟩
    have k2 : ∀ W rv, Below W1.heap.size W1 W → Rk msgE W 39 rv (filt A l) → (∀ k, rv.ownBlock = some k → W1.heap.size ≤ k) → Hid ((W.setCell ⟨q, 0, none⟩ rv).cell? ⟨w.heap.size, 1, none⟩ = some (.int .i64 A) ∧ Calls Try.prog 21 #[.pointer (some ⟨p, 0, none⟩), .int .i64 A] (W.setCell ⟨q, 0, none⟩ rv) (fun e W3 => e = .returned (.int .i64 ((l.length : Int) - (nA : Int))) ∧ Hid (DoesT n w p m q N (.returned (.bool true)) W3))) := fun W rv hW hR hnew => by
      have hm := hMod1.storedL (Below.kept hW) hR fun k hk => .inr (hnew k hk)
      obtain ⟨lv', pv', m1, m2, m3⟩ := id hm
      have hnot : ¬ MineM q lv pv w.heap.size := fun e => by have := hMod.lt _ e; omega
      have nb2 := (m2.block w.heap.size (Array.getElem?_eq_some_iff.1 nb1).1 hnot).trans nb1
      refine ⟨by rw [cells_of_block nb2]; rfl, (clear_of (hBag1.kept hMod1 m2) A (by omega)).mono ?_⟩
      rintro e W3 ⟨rfl, hD3⟩
      have hfl := filt_le A l
      obtain ⟨r1, r2⟩ := ASt.modBag hn1 hBag1 hAn hMod1 hMn hm (fun _ => hD3.more (by omega)) (by omega) (by omega)
      exact ⟨by rw [hnA.out], rfl, _, _, r1, (hb1.mono hn).trans r2⟩
    have az := (Below.refl W1.heap.size W1).alloc (Nat.le_refl _) (.cells #[] 39)
    have hR0 : Rk msgE (W1.alloc (.cells #[] 39)) 39 (.slice (some ⟨W1.heap.size, 0, none⟩) 0 0) (filt A (l.take 0)) := ⟨rfl, .inr ⟨W1.heap.size, 0, #[], rfl, Nat.zero_le _, heap_alloc_new W1 _, Nat.le_refl _, Nat.zero_le _, rfl, rfl⟩⟩
    have hnew0 : ∀ k, (Value.slice (some ⟨W1.heap.size, 0, none⟩) 0 0).ownBlock = some k → W1.heap.size ≤ k := fun k hk => by
      have e' : W1.heap.size = k := by simpa [Value.ownBlock] using hk
      omega
    clear hBag1 hMod1 hBag hMod h nb1 hMn hAn
    generalize DoesT n w p m q N = T at *
    go_wp2
    go_loopg [14, 15, 16] l.length (fun g s14 s15 s16 wr => ∃ (i c : Nat), i + g = l.length ∧ s16 = .int .i64 (i : Int) ∧ s14 = .int .i64 (c : Int) ∧ c + (filt A (l.take i)).length = i ∧ Rk msgE wr 39 s15 (filt A (l.take i)) ∧ (∀ k, s15.ownBlock = some k → W1.heap.size ≤ k) ∧ Below W1.heap.size W1 wr)
    case atStart => exact ⟨0, 0, by simp, rfl, rfl, rfl, hR0, hnew0, az⟩
    case round =>
      obtain ⟨i, c, hig, rfl, rfl, hci, hR, hnew, hbr⟩ := hrel
      clear az hR0
      obtain ⟨z0, z1, z2, hel⟩ := hcell wr hbr
      obtain ⟨ra, rc, hrv, -⟩ := hR.shape
      subst hrv
      by_cases hlt : i < l.length
      · have hlti : (i : Int) < (l.length : Int) := by omega
        obtain ⟨x, hx⟩ : ∃ x, l[i]? = some x := ⟨l[i], List.getElem?_eq_getElem hlt⟩
        obtain ⟨g, rfl, x0, x1, x2⟩ := hel i x hx
        have e : l.take (i + 1) = l.take i ++ [x] := by
          rw [List.take_succ_eq_append_getElem hlt]
          congr 2
          exact (List.getElem?_eq_some_iff.1 hx).2
        have hft := filt_snoc A (l.take i) x
        rw [← e] at hft
        have hfl := filt_le A (l.take i)
        rw [List.length_take] at hfl
        cases htb : (x.2.1 == A)
        · rw [htb] at hft
          have HFT : Hid (filt A (l.take (i + 1)) = filt A (l.take i) ++ [x]) := hft
          have HR : Hid (∀ nq : Nat, Rk msgE (wr.drewN nq) 39 (.slice ra (filt A (l.take i)).length rc) (filt A (l.take i))) := fun nq => hR.same fun k hk => rfl
          have HB : Hid (∀ nq, Below W1.heap.size W1 (wr.drewN nq)) := fun nq => below_drewN hbr nq
          have HC : Hid (c + (filt A (l.take i)).length = i) := hci
          have HN : Hid _ := hnew
          have HL : Hid ((filt A (l.take i)).length ≤ 1000000) := by
            have : (filt A (l.take i)).length ≤ 1000000 := by omega
            exact this
          have hxA : ((x.2.1 : Int) == A) = false := htb
          clear hel hft e hR k2 hx hcell hci hnew hfl htb hbr
          generalize hrl : (filt A (l.take i)).length = rl at *
          have HRL : Hid _ := hrl
          clear hrl
          go_wp2
          go_quiet (fail)
          have hRq := HR.out nq
          have hBq := HB.out nq
          have y0 : (wr.drewN nq).cell? ⟨q, 0, none⟩ = some (.slice (some ⟨g, 0, none⟩) l.length cal) := z0
          have y1 : (wr.drewN nq).cell? ⟨g, i * 3, none⟩ = some (.int .i64 x.1) := x0
          have y2 : (wr.drewN nq).cell? ⟨g, i * 3 + 1, none⟩ = some (.int .i64 x.2.1) := x1
          have y3 : (wr.drewN nq).cell? ⟨g, i * 3 + 2, none⟩ = some (.string (str x.2.2)) := x2
          clear HR HB z0 z1 z2 x0 x1 x2
          generalize wr.drewN nq = Wq at *
          have kp : ∀ ty, ∃ v' w', (Builtin.append_ #[26, 26] ty #[.slice ra rl rc, .slice (some ⟨Wq.heap.size, 0, none⟩) 1 1]).run Try.prog (Wq.alloc (.cells #[.int .i64 x.1, .int .i64 x.2.1, .string (str x.2.2)] 39)) = .ok v' w' ∧ Hid (Rk msgE w' 39 v' (filt A (l.take (i + 1))) ∧ (∀ k, v'.ownBlock = some k → W1.heap.size ≤ k) ∧ Below W1.heap.size W1 w') := fun ty => by
            obtain ⟨v', w', r1, r2, r3, r4⟩ := push_lmsg Wq ty _ _ x hRq (by rw [HRL.out]; exact HL.out)
            refine ⟨v', w', r1, by rw [HFT.out]; exact r2, fun k hk => ?_, hBq.trans ⟨r3.os, r3.tape, r3.output, r3.size, fun k hk => r3.block k (Nat.lt_of_lt_of_le hk hBq.size) (fun e => by have := HN.out k e.symm; omega)⟩⟩
            rcases r4 k hk with h' | h'
            · exact HN.out k h'
            · exact Nat.le_trans hBq.size h'
          clear hRq hBq
          go_wp2_with (at_builtin; refine wp_by rfl _ _ _ rfl _ _ rfl rfl kp ?_; rintro v3 w3 hH3)
          go_roundg (gk - 1)
          case measure => omega
          case rel => exact ⟨i + 1, c, by omega, by go_num, rfl, by rw [HFT.out, List.length_append, HRL.out]; have := HC.out; simp; omega, hH3.out.1, hH3.out.2.1, hH3.out.2.2⟩
        · rw [htb] at hft
          have HFT : Hid (filt A (l.take (i + 1)) = filt A (l.take i)) := hft
          have HR : Hid (∀ nq : Nat, Rk msgE (wr.drewN nq) 39 (.slice ra (filt A (l.take i)).length rc) (filt A (l.take i))) := fun nq => hR.same fun k hk => rfl
          have HB : Hid (∀ nq, Below W1.heap.size W1 (wr.drewN nq)) := fun nq => below_drewN hbr nq
          have HC : Hid (c + (filt A (l.take i)).length = i) := hci
          have HN : Hid _ := hnew
          have hcb : (c : Int) ≤ 1000000 := by omega
          have hxA : ((x.2.1 : Int) == A) = true := htb
          have hxA' : x.2.1 = A := by simpa using htb
          rw [hxA'] at x1
          clear hel hft e hR k2 hx hcell hci hnew hfl htb hbr hxA hxA'
          go_wp2
          go_quiet (fail)
          go_wp2
          go_roundg (gk - 1)
          case measure => omega
          case rel => exact ⟨i + 1, c + 1, by omega, by go_num, by go_num, by rw [HFT.out]; have := HC.out; omega, by rw [HFT.out]; exact HR.out nq, HN.out, HB.out nq⟩
      · have hlti : ¬ (i : Int) < (l.length : Int) := by omega
        obtain rfl : i = l.length := by omega
        have hall : l.take l.length = l := List.take_of_length_le (Nat.le_refl _)
        rw [hall] at hR hci hnew
        rw [hall]
        obtain ⟨t1, kc⟩ := (k2 wr _ hbr hR hnew).out
        have hcn : (c : Int) = (l.length : Int) - (nA : Int) := by have := hnA.out; omega
        rw [← hcn] at kc
        clear hel hR k2 hcell hci hnew hbr hall hcn
        generalize (filt A l).length = rl at *
        have hdd : ∀ W2, W2 = wr.setCell ⟨q, 0, none⟩ (.slice ra rl rc) → True := fun _ _ => trivial
        go_wp2_with (go_at_call 21; refine kc.mono ?_; rintro e W3 ⟨rfl, hT⟩)
        first | exact hT.out | (go_ret; exact hT.out)
  · have hlod : decide (0 ≤ A) = false := by simpa using hlo
    go_enter Try.func9, Try.ntmps9
    go_wp2
    go_big_quiet (fail)
    obtain ⟨W1, hW1⟩ : ∃ W1, W1 = (w.alloc (.cells #[.int .i64 6, .int .i64 A, .int .i64 B, .slice sa dl sc] 33)).drewN nq := ⟨_, rfl⟩
    rw [← hW1]
    have hb1 : Below w.heap.size w W1 := by rw [hW1]; exact below_drewN a1 nq
    have nb1 : W1.heap[w.heap.size]? = some (.cells #[.int .i64 6, .int .i64 A, .int .i64 B, .slice sa dl sc] 33 (0, 0)) := by rw [hW1]; exact nb
    clear hW1 nq a1 nb b1 q0
    have hn1 := Nat.le_trans hn hb1.size
    have hBag1 := hBag.below hb1
    have hMod1 := hMod.below hb1
    have c0 : W1.cell? ⟨w.heap.size, 0, none⟩ = some (.int .i64 6) := by rw [cells_of_block nb1]; rfl
    have c1 : W1.cell? ⟨w.heap.size, 1, none⟩ = some (.int .i64 A) := by rw [cells_of_block nb1]; rfl
    have c2 : W1.cell? ⟨w.heap.size, 2, none⟩ = some (.int .i64 B) := by rw [cells_of_block nb1]; rfl
    have c3 : W1.cell? ⟨w.heap.size, 3, none⟩ = some (.slice sa dl sc) := by rw [cells_of_block nb1]; rfl
    obtain ⟨nA, hnA⟩ : ∃ nA, Hid (nA = (filt A l).length) := ⟨_, rfl⟩
    have hcell : ∀ W, Below W1.heap.size W1 W → W.cell? ⟨q, 0, none⟩ = some (.slice al l.length cal) ∧ W.cell? ⟨w.heap.size, 1, none⟩ = some (.int .i64 A) ∧ W.frozen? ⟨q, 0, none⟩ = false ∧ ∀ i x, l[i]? = some x → ∃ g, al = some ⟨g, 0, none⟩ ∧ W.cell? ⟨g, i * 3, none⟩ = some (.int .i64 x.1) ∧ W.cell? ⟨g, i * 3 + 1, none⟩ = some (.int .i64 x.2.1) ∧ W.cell? ⟨g, i * 3 + 2, none⟩ = some (.string (str x.2.2)) := fun W hW => by
      have hM := hMod1.below hW
      have nb2 := (hW.block w.heap.size (Array.getElem?_eq_some_iff.1 nb1).1).trans nb1
      have q0' := hM.cells.1
      rw [hlv] at q0'
      refine ⟨q0', by rw [cells_of_block nb2]; rfl, hM.cells.2.2 0, fun i x hx => ?_⟩
      obtain ⟨g, cap', e, -, -, -, x0, x1, x2, -⟩ := msg_cells hM.lrow hx
      rw [hlv] at e
      cases e
      exact ⟨g, rfl, x0, x1, x2⟩
    have k2 : ∀ W rv, Below W1.heap.size W1 W → Rk msgE W 39 rv (filt A l) → (∀ k, rv.ownBlock = some k → W1.heap.size ≤ k) → Hid ((W.setCell ⟨q, 0, none⟩ rv).cell? ⟨w.heap.size, 1, none⟩ = some (.int .i64 A) ∧ Calls Try.prog 21 #[.pointer (some ⟨p, 0, none⟩), .int .i64 A] (W.setCell ⟨q, 0, none⟩ rv) (fun e W3 => e = .returned (.int .i64 ((l.length : Int) - (nA : Int))) ∧ Hid (DoesT n w p m q N (.returned (.bool true)) W3))) := fun W rv hW hR hnew => by
      have hm := hMod1.storedL (Below.kept hW) hR fun k hk => .inr (hnew k hk)
      obtain ⟨lv', pv', m1, m2, m3⟩ := id hm
      have hnot : ¬ MineM q lv pv w.heap.size := fun e => by have := hMod.lt _ e; omega
      have nb2 := (m2.block w.heap.size (Array.getElem?_eq_some_iff.1 nb1).1 hnot).trans nb1
      refine ⟨by rw [cells_of_block nb2]; rfl, (clear_of (hBag1.kept hMod1 m2) A (by omega)).mono ?_⟩
      rintro e W3 ⟨rfl, hD3⟩
      have hfl := filt_le A l
      obtain ⟨r1, r2⟩ := ASt.modBag hn1 hBag1 hAn hMod1 hMn hm (fun _ => hD3.more (by omega)) (by omega) (by omega)
      exact ⟨by rw [hnA.out], rfl, _, _, r1, (hb1.mono hn).trans r2⟩
    have az := (Below.refl W1.heap.size W1).alloc (Nat.le_refl _) (.cells #[] 39)
    have hR0 : Rk msgE (W1.alloc (.cells #[] 39)) 39 (.slice (some ⟨W1.heap.size, 0, none⟩) 0 0) (filt A (l.take 0)) := ⟨rfl, .inr ⟨W1.heap.size, 0, #[], rfl, Nat.zero_le _, heap_alloc_new W1 _, Nat.le_refl _, Nat.zero_le _, rfl, rfl⟩⟩
    have hnew0 : ∀ k, (Value.slice (some ⟨W1.heap.size, 0, none⟩) 0 0).ownBlock = some k → W1.heap.size ≤ k := fun k hk => by
      have e' : W1.heap.size = k := by simpa [Value.ownBlock] using hk
      omega
    clear hBag1 hMod1 hBag hMod h nb1 hMn hAn
    generalize DoesT n w p m q N = T at *
    go_wp2
    go_loopg [14, 15, 16] l.length (fun g s14 s15 s16 wr => ∃ (i c : Nat), i + g = l.length ∧ s16 = .int .i64 (i : Int) ∧ s14 = .int .i64 (c : Int) ∧ c + (filt A (l.take i)).length = i ∧ Rk msgE wr 39 s15 (filt A (l.take i)) ∧ (∀ k, s15.ownBlock = some k → W1.heap.size ≤ k) ∧ Below W1.heap.size W1 wr)
    case atStart => exact ⟨0, 0, by simp, rfl, rfl, rfl, hR0, hnew0, az⟩
    case round =>
      obtain ⟨i, c, hig, rfl, rfl, hci, hR, hnew, hbr⟩ := hrel
      clear az hR0
      obtain ⟨z0, z1, z2, hel⟩ := hcell wr hbr
      obtain ⟨ra, rc, hrv, -⟩ := hR.shape
      subst hrv
      by_cases hlt : i < l.length
      · have hlti : (i : Int) < (l.length : Int) := by omega
        obtain ⟨x, hx⟩ : ∃ x, l[i]? = some x := ⟨l[i], List.getElem?_eq_getElem hlt⟩
        obtain ⟨g, rfl, x0, x1, x2⟩ := hel i x hx
        have e : l.take (i + 1) = l.take i ++ [x] := by
          rw [List.take_succ_eq_append_getElem hlt]
          congr 2
          exact (List.getElem?_eq_some_iff.1 hx).2
        have hft := filt_snoc A (l.take i) x
        rw [← e] at hft
        have hfl := filt_le A (l.take i)
        rw [List.length_take] at hfl
        cases htb : (x.2.1 == A)
        · rw [htb] at hft
          have HFT : Hid (filt A (l.take (i + 1)) = filt A (l.take i) ++ [x]) := hft
          have HR : Hid (∀ nq : Nat, Rk msgE (wr.drewN nq) 39 (.slice ra (filt A (l.take i)).length rc) (filt A (l.take i))) := fun nq => hR.same fun k hk => rfl
          have HB : Hid (∀ nq, Below W1.heap.size W1 (wr.drewN nq)) := fun nq => below_drewN hbr nq
          have HC : Hid (c + (filt A (l.take i)).length = i) := hci
          have HN : Hid _ := hnew
          have HL : Hid ((filt A (l.take i)).length ≤ 1000000) := by
            have : (filt A (l.take i)).length ≤ 1000000 := by omega
            exact this
          have hxA : ((x.2.1 : Int) == A) = false := htb
          clear hel hft e hR k2 hx hcell hci hnew hfl htb hbr
          generalize hrl : (filt A (l.take i)).length = rl at *
          have HRL : Hid _ := hrl
          clear hrl
          go_wp2
          go_quiet (fail)
          have hRq := HR.out nq
          have hBq := HB.out nq
          have y0 : (wr.drewN nq).cell? ⟨q, 0, none⟩ = some (.slice (some ⟨g, 0, none⟩) l.length cal) := z0
          have y1 : (wr.drewN nq).cell? ⟨g, i * 3, none⟩ = some (.int .i64 x.1) := x0
          have y2 : (wr.drewN nq).cell? ⟨g, i * 3 + 1, none⟩ = some (.int .i64 x.2.1) := x1
          have y3 : (wr.drewN nq).cell? ⟨g, i * 3 + 2, none⟩ = some (.string (str x.2.2)) := x2
          clear HR HB z0 z1 z2 x0 x1 x2
          generalize wr.drewN nq = Wq at *
          have kp : ∀ ty, ∃ v' w', (Builtin.append_ #[26, 26] ty #[.slice ra rl rc, .slice (some ⟨Wq.heap.size, 0, none⟩) 1 1]).run Try.prog (Wq.alloc (.cells #[.int .i64 x.1, .int .i64 x.2.1, .string (str x.2.2)] 39)) = .ok v' w' ∧ Hid (Rk msgE w' 39 v' (filt A (l.take (i + 1))) ∧ (∀ k, v'.ownBlock = some k → W1.heap.size ≤ k) ∧ Below W1.heap.size W1 w') := fun ty => by
            obtain ⟨v', w', r1, r2, r3, r4⟩ := push_lmsg Wq ty _ _ x hRq (by rw [HRL.out]; exact HL.out)
            refine ⟨v', w', r1, by rw [HFT.out]; exact r2, fun k hk => ?_, hBq.trans ⟨r3.os, r3.tape, r3.output, r3.size, fun k hk => r3.block k (Nat.lt_of_lt_of_le hk hBq.size) (fun e => by have := HN.out k e.symm; omega)⟩⟩
            rcases r4 k hk with h' | h'
            · exact HN.out k h'
            · exact Nat.le_trans hBq.size h'
          clear hRq hBq
          go_wp2_with (at_builtin; refine wp_by rfl _ _ _ rfl _ _ rfl rfl kp ?_; rintro v3 w3 hH3)
          go_roundg (gk - 1)
          case measure => omega
          case rel => exact ⟨i + 1, c, by omega, by go_num, rfl, by rw [HFT.out, List.length_append, HRL.out]; have := HC.out; simp; omega, hH3.out.1, hH3.out.2.1, hH3.out.2.2⟩
        · rw [htb] at hft
          have HFT : Hid (filt A (l.take (i + 1)) = filt A (l.take i)) := hft
          have HR : Hid (∀ nq : Nat, Rk msgE (wr.drewN nq) 39 (.slice ra (filt A (l.take i)).length rc) (filt A (l.take i))) := fun nq => hR.same fun k hk => rfl
          have HB : Hid (∀ nq, Below W1.heap.size W1 (wr.drewN nq)) := fun nq => below_drewN hbr nq
          have HC : Hid (c + (filt A (l.take i)).length = i) := hci
          have HN : Hid _ := hnew
          have hcb : (c : Int) ≤ 1000000 := by omega
          have hxA : ((x.2.1 : Int) == A) = true := htb
          have hxA' : x.2.1 = A := by simpa using htb
          rw [hxA'] at x1
          clear hel hft e hR k2 hx hcell hci hnew hfl htb hbr hxA hxA'
          go_wp2
          go_quiet (fail)
          go_wp2
          go_roundg (gk - 1)
          case measure => omega
          case rel => exact ⟨i + 1, c + 1, by omega, by go_num, by go_num, by rw [HFT.out]; have := HC.out; omega, by rw [HFT.out]; exact HR.out nq, HN.out, HB.out nq⟩
      · have hlti : ¬ (i : Int) < (l.length : Int) := by omega
        obtain rfl : i = l.length := by omega
        have hall : l.take l.length = l := List.take_of_length_le (Nat.le_refl _)
        rw [hall] at hR hci hnew
        rw [hall]
        obtain ⟨t1, kc⟩ := (k2 wr _ hbr hR hnew).out
        have hcn : (c : Int) = (l.length : Int) - (nA : Int) := by have := hnA.out; omega
        rw [← hcn] at kc
        clear hel hR k2 hcell hci hnew hbr hall hcn
        generalize (filt A l).length = rl at *
        have hdd : ∀ W2, W2 = wr.setCell ⟨q, 0, none⟩ (.slice ra rl rc) → True := fun _ _ => trivial
        go_wp2_with (go_at_call 21; refine kc.mono ?_; rintro e W3 ⟨rfl, hT⟩)
        first | exact hT.out | (go_ret; exact hT.out)
end Go.Proofs.Ytjkjekhbfjjnjaa

