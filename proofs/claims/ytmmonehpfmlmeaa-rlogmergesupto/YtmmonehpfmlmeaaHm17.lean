import Derived.Test.YtmmonehpfmlmeaaHm15
import Derived.Test.YtmmonehpfmlmeaaHm16
/- The program's Last, Term, Fresh. -/
namespace RlogMath
open QuorumMath
/-- Entries are numbered. -/
theorem beh_num : ∀ (l : List Me) (i t : Nat), behB i t l = true → ∀ (k : Nat) (e : Me), l[k]? = some e → e.idx = i + 1 + k
  | [], i, t, _, k, e, he => by simp at he
  | a :: l, i, t, h, k, e, he => by
    rw [behB, Bool.and_eq_true, Bool.and_eq_true, Bool.and_eq_true, Bool.and_eq_true] at h
    obtain ⟨⟨⟨⟨_, h2⟩, _⟩, _⟩, h5⟩ := h
    have h2' : a.idx = i + 1 := by simpa using h2
    cases k with
    | zero => simp at he; subst he; omega
    | succ k =>
      have := beh_num l a.idx a.term h5 k e (by simpa using he)
      omega
theorem termF_none {x : Nat} : ∀ {l : List Me}, (∀ e ∈ l, e.idx ≠ x) → termF l x = none
  | [], _ => rfl
  | a :: l, h => by
    rw [termF, if_neg (h a List.mem_cons_self)]
    exact termF_none fun e he => h e (List.mem_cons_of_mem _ he)
theorem may_beh {b : Me} {l : List Me} (h : mayB b l = true) : behB b.idx b.term l = true := by
  unfold mayB at h
  simp only [Bool.and_eq_true, decide_eq_true_eq] at h
  exact h.2
theorem may_num {b : Me} {l : List Me} (h : mayB b l = true) {k : Nat} {e : Me} (he : l[k]? = some e) : e.idx = b.idx + 1 + k := beh_num l _ _ (may_beh h) k e he
/-- The term at an index, as the program looks for it. -/
def ptermM (b : Me) (l : List Me) (x : Nat) : Option Nat := if x < b.idx ∨ (lastM b l).1 < x then none else if x = b.idx then some b.term else termF l x
theorem pterm_may {b : Me} {l : List Me} (h : mayB b l = true) (x : Nat) : ptermM b l x = termM b l x := by
  have hl := (may_last h).1
  unfold ptermM termM
  by_cases h1 : x < b.idx ∨ (lastM b l).1 < x
  · rw [if_pos h1, if_neg (by omega), termF_none]
    intro e he
    obtain ⟨k, hk⟩ := List.getElem?_of_mem he
    have h2 := may_num h hk
    have h3 : k < l.length := (List.getElem?_eq_some_iff.1 hk).1
    omega
  · rw [if_neg h1]
end RlogMath
namespace Go.Proofs.Ytmmonehpfmlmeaa
open Go.RowKit QuorumMath RlogMath
set_option maxRecDepth 100000
set_option linter.unusedSimpArgs false
set_option linter.unusedVariables false

set_option maxHeartbeats 4000000 in
theorem plast_of (b : Ez) (zs : List Ez) (lv : Value) (w : World) (hL : EntsV w lv zs) (hlen : zs.length ≤ 1000000000000) : Calls Try.prog 14 #[lgv b lv] w fun e w' => e = .returned (lastV (lastM b.1 (mes zs))) ∧ Below w.heap.size w w' := by
  obtain ⟨R, HR⟩ : ∃ R, Hid (R = lastM b.1 (mes zs)) := ⟨_, rfl⟩
  rw [← HR.out]
  obtain ⟨hs, hb0, cl⟩ := lg_box w b lv
  obtain ⟨la, lc, rfl, -, -⟩ := hL.1.shape
  obtain ⟨q1, q2, q3⟩ := one_box (w.alloc (lgc b (.slice la zs.length lc))) (.cells #[.int .u64 (b.1.idx : Int), .int .u64 (b.1.term : Int), .int .i64 b.1.kind, .slice b.2.1 b.2.2.1 b.2.2.2] 25)
  rw [hs] at q1 q2 q3
  have hb2 := hb0.trans (q3.mono (Nat.le_succ _))
  obtain ⟨c0, c1, c2, c3, c4⟩ := cl _ q3
  obtain ⟨a0, a1, a2, a3, a4⟩ := cl _ (Below.refl _ _)
  by_cases h0 : zs.length = 0
  · have E : Hid (R = (b.1.idx, b.1.term)) := by
      show _ = _
      rw [HR.out, List.eq_nil_of_length_eq_zero h0]
      rfl
    obtain ⟨R1, R2⟩ := R
    obtain ⟨⟨ix, tm, kd, dt⟩, sa, sn, sc⟩ := b
    dsimp only [lgc] at *
    clear HR hL cl
    rw [h0] at *
    go_enter Try.func14, Try.ntmps14
    go_wp2
    go_quiet (fail)
    go_wp2
    go_ret2
    exact ⟨by cases E.out; rfl, below_dN hb2 nq⟩
  · obtain ⟨j, hj⟩ : ∃ j, Hid (j + 1 = zs.length) := ⟨zs.length - 1, by show _ = _; omega⟩
    have hjl : j < zs.length := by have := hj.out; omega
    have hz : zs[j]? = some zs[j] := List.getElem?_eq_getElem hjl
    obtain ⟨z, hzz⟩ : ∃ z, z = zs[j] := ⟨_, rfl⟩
    rw [← hzz] at hz
    clear hzz
    obtain ⟨p, off, rfl, c⟩ := rde_at hL.1 hz
    obtain ⟨d0, d1, d2, d3⟩ := c _ hb2
    have E : Hid (R = (z.1.idx, z.1.term)) := by show _ = _; rw [HR.out, lastM_at hz hj.out]
    obtain ⟨R1, R2⟩ := R
    obtain ⟨⟨ix, tm, kd, dt⟩, sa, sn, sc⟩ := b
    obtain ⟨⟨ix2, tm2, kd2, dt2⟩, sa2, sn2, sc2⟩ := z
    dsimp only [lgc] at *
    have HJ : Hid (j + 1 = zs.length) := hj
    clear hj hL hz c cl HR
    generalize zs.length = n at *
    have hj := HJ
    have h0i : (0 : Int) < (n : Int) := by omega
    have q5 : IntKind.i64.wrap ((n : Int) - 1) = (j : Int) := by have := hj.out; rw [show (n : Int) - 1 = (j : Int) by omega]; exact IntWalk.i64_in _ (by omega)
    have q4 : (n : Int) - 1 = (j : Int) := by have := hj.out; omega
    have q6 : (j : Int) < (n : Int) := by omega
    clear hj HJ
    go_enter Try.func14, Try.ntmps14
    go_wp2
    go_quiet (fail)
    go_wp2
    go_ret2
    refine ⟨by cases E.out; rfl, below_dN ?_ nq⟩
    exact hb0.alloc hb0.size _

set_option maxHeartbeats 4000000 in
theorem pterm0_of (b : Ez) (zs : List Ez) (lv : Value) (x : Nat) (w : World) (hL : EntsV w lv zs) (hlen : zs.length ≤ 1000000000000) : Calls Try.prog 16 #[lgv b lv, .int .u64 (x : Int)] w fun e w' => e = .returned (termV (ptermM b.1 (mes zs) x)) ∧ Below w.heap.size w w' := by
  obtain ⟨R, HR⟩ : ∃ R, Hid (R = ptermM b.1 (mes zs) x) := ⟨_, rfl⟩
  rw [← HR.out]
  obtain ⟨hs, hb0, cl⟩ := lg_box w b lv
  have kl := plast_of b zs lv (w.alloc (lgc b lv)) (hL.below hb0) hlen
  rw [hs] at kl
  have hR := HR.out
  unfold ptermM at hR
  generalize lastM b.1 (mes zs) = p at *
  obtain ⟨p1, p2⟩ := p
  dsimp only at hR
  obtain ⟨la, lc, rfl, -, -⟩ := hL.1.shape
  obtain ⟨c0, c1, c2, c3, c4⟩ := cl _ (Below.refl _ _)
  obtain ⟨⟨ix, tm, kd, dt⟩, sa, sn, sc⟩ := b
  dsimp only [lgc] at *
  clear HR
  go_enter Try.func16, Try.ntmps16
  go_wp2_with fail
  refine kl.mono ?_
  rintro e w1 ⟨rfl, hb1⟩
  obtain ⟨d0, d1, d2, d3, d4⟩ := cl w1 hb1
  have hb01 := hb0.trans (hb1.mono (Nat.le_succ _))
  clear kl c0 c1 c2 c3 c4 cl hb1 hb0
  by_cases h1 : x < ix
  · have h1i : (x : Int) < (ix : Int) := by omega
    have E : Hid (R = none) := by show _ = _; rw [hR, if_pos (.inl h1)]
    clear hR hL
    go_wp2
    go_ret2
    exact ⟨by rw [E.out]; rfl, hb01⟩
  · have h1i : ¬ (x : Int) < (ix : Int) := by omega
    by_cases h2 : p1 < x
    · have h2i : (p1 : Int) < (x : Int) := by omega
      have E : Hid (R = none) := by show _ = _; rw [hR, if_pos (.inr h2)]
      clear hR hL
      go_wp2
      go_ret2
      exact ⟨by rw [E.out]; rfl, hb01⟩
    · have h2i : ¬ (p1 : Int) < (x : Int) := by omega
      rw [if_neg (by omega)] at hR
      by_cases h0 : x = ix
      · have E : Hid (R = some tm) := by show _ = _; rw [hR, if_pos h0]
        subst h0
        clear hR hL
        go_wp2
        go_ret2
        exact ⟨by rw [E.out]; rfl, hb01⟩
      · have E : Hid (R = termF (mes zs) x) := by show _ = _; rw [hR, if_neg h0]
        have h0b : ((x : Int) == (ix : Int)) = false := by simp; omega
        have h0i : ¬ (x : Int) = (ix : Int) := by omega
        clear hR
        go_wp2
        go_loopg [36] zs.length (fun gh s6 wr => ∃ k : Nat, k + gh = zs.length ∧ s6 = .int .i64 (k : Int) ∧ Below w.heap.size w wr ∧ Hid (R = termF ((mes zs).drop k) x))
        case atStart => exact ⟨0, by simp, rfl, hb01, by rw [List.drop_zero]; exact E⟩
        case round =>
          obtain ⟨k, hkg, rfl, hbr, HK⟩ := hrel
          clear E hb01 d0 d1 d2 d3 d4
          by_cases hlt : k < zs.length
          · have hlti : (k : Int) < (zs.length : Int) := by omega
            have hz : zs[k]? = some zs[k] := List.getElem?_eq_getElem hlt
            obtain ⟨z, hzz⟩ : ∃ z, z = zs[k] := ⟨_, rfl⟩
            rw [← hzz] at hz
            clear hzz
            obtain ⟨p, off, rfl, c⟩ := rde_at hL.1 hz
            obtain ⟨d0, d1, d2, d3⟩ := c _ hbr
            have hK := HK.out
            rw [termF_at (mes_at hz)] at hK
            obtain ⟨⟨ix2, tm2, kd2, dt2⟩, sa2, sn2, sc2⟩ := z
            dsimp only at d0 d1 d2 d3 hK
            by_cases hx : ix2 = x
            · have E : Hid (R = some tm2) := by show _ = _; rw [hK, if_pos hx]
              subst hx
              clear hK HK hz c hL
              go_wp2
              go_ret2
              exact ⟨by rw [E.out]; rfl, hbr.alloc hbr.size _⟩
            · have E : Hid (R = termF ((mes zs).drop (k + 1)) x) := by show _ = _; rw [hK, if_neg hx]
              have hxb : ((ix2 : Int) == (x : Int)) = false := by simp; omega
              have hxi : ¬ (ix2 : Int) = (x : Int) := by omega
              clear hK HK hz c hL
              go_wp2
              go_roundg (gk - 1)
              case measure => omega
              case rel => exact ⟨k + 1, by omega, by go_num, hbr.alloc hbr.size _, E⟩
          · have hlti : ¬ (k : Int) < (zs.length : Int) := by omega
            have E : Hid (R = none) := by show _ = _; rw [HK.out, List.drop_eq_nil_of_le (by simp; omega)]; rfl
            clear HK hL
            go_wp2
            go_ret2
            exact ⟨by rw [E.out]; rfl, hbr⟩
/-- Of a log that may be. -/
theorem pterm_of (b : Ez) (zs : List Ez) (lv : Value) (x : Nat) (w : World) (hL : EntsV w lv zs) (hlen : zs.length ≤ 1000000000000) (hm : mayB b.1 (mes zs) = true) : Calls Try.prog 16 #[lgv b lv, .int .u64 (x : Int)] w fun e w' => e = .returned (termV (termM b.1 (mes zs) x)) ∧ Below w.heap.size w w' := by
  have := pterm0_of b zs lv x w hL hlen
  rw [pterm_may hm] at this
  exact this

set_option maxHeartbeats 2000000 in
theorem pfresh_of (b : Ez) (zs : List Ez) (lv : Value) (x t : Nat) (w : World) (hL : EntsV w lv zs) (hlen : zs.length ≤ 1000000000000) : Calls Try.prog 24 #[lgv b lv, .int .u64 (x : Int), .int .u64 (t : Int)] w fun e w' => e = .returned (.bool (freshM b.1 (mes zs) x t)) ∧ Below w.heap.size w w' := by
  obtain ⟨R, HR⟩ : ∃ R, Hid (R = freshM b.1 (mes zs) x t) := ⟨_, rfl⟩
  rw [← HR.out]
  obtain ⟨hs, hb0, -⟩ := lg_box w b lv
  have kl := plast_of b zs lv (w.alloc (lgc b lv)) (hL.below hb0) hlen
  rw [hs] at kl
  have hR := HR.out
  unfold freshM at hR
  generalize lastM b.1 (mes zs) = p at *
  obtain ⟨p1, p2⟩ := p
  dsimp only at hR
  obtain ⟨la, lc, rfl, -, -⟩ := hL.1.shape
  clear HR hL
  by_cases ht : t = p2
  · have E : Hid (R = decide (p1 ≤ x)) := by show _ = _; rw [hR, if_pos ht]
    subst ht
    have hlt : ¬ (t : Int) < (t : Int) := by omega
    clear hR
    go_enter Try.func24, Try.ntmps24
    go_wp2_with fail
    refine kl.mono ?_
    rintro e w1 ⟨rfl, hb1⟩
    go_wp2
    go_ret
    exact ⟨by rw [E.out]; simp, hb0.trans (hb1.mono (Nat.le_succ _))⟩
  · by_cases h2 : p2 < t
    · have E : Hid (R = true) := by show _ = _; rw [hR, if_neg ht, decide_eq_true h2]
      have h2i : (p2 : Int) < (t : Int) := by omega
      clear hR
      go_enter Try.func24, Try.ntmps24
      go_wp2_with fail
      refine kl.mono ?_
      rintro e w1 ⟨rfl, hb1⟩
      go_wp2
      go_ret
      exact ⟨by rw [E.out]; rfl, hb0.trans (hb1.mono (Nat.le_succ _))⟩
    · have E : Hid (R = false) := by show _ = _; rw [hR, if_neg ht, decide_eq_false h2]
      have h2i : ¬ (p2 : Int) < (t : Int) := by omega
      have htb : ((t : Int) == (p2 : Int)) = false := by simp; omega
      have hti : ¬ (t : Int) = (p2 : Int) := by omega
      clear hR
      go_enter Try.func24, Try.ntmps24
      go_wp2_with fail
      refine kl.mono ?_
      rintro e w1 ⟨rfl, hb1⟩
      go_wp2
      go_ret
      exact ⟨by rw [E.out]; simp, hb0.trans (hb1.mono (Nat.le_succ _))⟩
end Go.Proofs.Ytmmonehpfmlmeaa

