import Derived.Test.YtghhijliamnmiaaHo31
import Derived.Test.YtghhijliamnmiaaHo35
import Derived.Test.YtghhijliamnmiaaHo20
import Derived.Test.YtghhijliamnmiaaHo16
/- Decode of the program. -/
namespace Go.Proofs.Ytghhijliamnmiaa
open Go.RowKit OracleMath WireMath
set_option maxRecDepth 100000
set_option linter.unusedSimpArgs false
set_option linter.unusedVariables false

@[reducible] def decV (b : List Nat) : Wn := if decOk b then decW b else (0, 0, false)
theorem rd_below {q : Nat} {w w' : World} {l : List Nat} {a b : Nat} (h : Wi.Rd w q l a b) (hb : Below w.heap.size w w') : Wi.Rd w' q l a b := by
  obtain ⟨sv, h1, h2, h3⟩ := id h
  exact ⟨sv, (hb.block q h.lt).trans h1, Wi.Bs.below h2 (hb.mono (Nat.le_of_lt h.lt)), h3⟩
set_option maxHeartbeats 8000000 in
theorem dec_of (b : List Nat) (bv : Value) (w : World) (hB : Bn w bv b) (hl : ∀ c ∈ b, c < 256) (hlen : b.length ≤ 140737488355328) : Calls Try.prog 19 #[bv] w fun e w' => e = .returned (.tuple #[wv (decV b), .int .i64 (if decOk b then 0 else 5)]) ∧ Below w.heap.size w w' := by
  obtain ⟨R, HR⟩ : ∃ R : Wn × Int, Hid (R = (decV b, if decOk b then 0 else 5)) := ⟨_, rfl⟩
  have HR1 : Hid (decV b = R.1) := by show _ = _; rw [HR.out]
  have HR2 : Hid ((if decOk b then (0 : Int) else 5) = R.2) := by show _ = _; rw [HR.out]
  rw [HR1.out, HR2.out]
  have HOKD : Hid (OkW (decW b)) := dec_ok hl
  obtain ⟨q1, q2, q3⟩ := one_box w zc
  have kR := Wi.read_of _ b bv (w.alloc zc) (Wi.Bs.below hB q3) (by omega) hlen
  have kN1 : Hid (∀ q W, Wi.Rd W q b 0 0 → _) := fun q W h => Wi.uvarint_m q b 0 0 W h hl
  have kN2 : Hid (∀ q W, Wi.Rd W q b (dA1 b) (dE1 b) → _) := fun q W h => Wi.uvarint_m q b (dA1 b) (dE1 b) W h hl
  have kN3 : Hid (∀ q W, Wi.Rd W q b (dA2 b) (dE2 b) → _) := fun q W h => Wi.number_m q b (dA2 b) (dE2 b) 1 W h hl (by decide)
  have kD : Hid (∀ q W, Wi.Rd W q b (dA3 b) (dE3 b) → _) := fun q W h => Wi.done_of q b (dA3 b) (dE3 b) W h
  obtain ⟨D, hD⟩ : ∃ D : Nat, D = if dE3 b = 0 ∧ dA3 b < b.length then 5 else dE3 b := ⟨_, rfl⟩
  have HD0 : Hid (D = 0 ↔ (dE3 b = 0 ∧ ¬ dA3 b < b.length)) := by
    show _ ↔ _
    rw [hD]
    split <;> omega
  rw [← hD] at kD
  clear hD
  obtain ⟨n, hn⟩ : ∃ n, n = Wi.uvN b 0 0 := ⟨_, rfl⟩
  obtain ⟨l, hlq⟩ : ∃ l, l = Wi.uvN b (dA1 b) (dE1 b) := ⟨_, rfl⟩
  obtain ⟨k, hk⟩ : ∃ k, k = Wi.nuN b (dA2 b) (dE2 b) 1 := ⟨_, rfl⟩
  obtain ⟨s, hs⟩ : ∃ s : Bool, s = decide (k = 1) := ⟨_, rfl⟩
  have HW : Hid (decW b = (n, l, s)) := by show _ = _; rw [hs, hk, hn, hlq]; rfl
  have hsb : ((k : Int) == 1) = s := by rw [hs, Bool.eq_iff_iff]; simp; omega
  rw [← hn] at kN1
  rw [← hlq] at kN2
  rw [← hk] at kN3
  have A1 : Wi.uvA b 0 0 = dA1 b := rfl
  have A2 : Wi.uvE b 0 0 = dE1 b := rfl
  have A3 : Wi.uvA b (dA1 b) (dE1 b) = dA2 b := rfl
  have A4 : Wi.uvE b (dA1 b) (dE1 b) = dE2 b := rfl
  have A5 : Wi.nuA b (dA2 b) (dE2 b) 1 = dA3 b := rfl
  have A6 : Wi.nuE b (dA2 b) (dE2 b) 1 = dE3 b := rfl
  rw [A1, A2] at kN1
  rw [A3, A4] at kN2
  rw [A5, A6] at kN3
  rw [HW.out] at HOKD
  have HF : Hid (D ≠ 0 ∨ mayB (n, l, s) = false → R = ((0, 0, false), 5)) := fun h => by
    have h9 : decOk b = false := by
      cases hd : decOk b with
      | false => rfl
      | true =>
        simp only [decOk, Bool.and_eq_true, decide_eq_true_eq, Bool.not_eq_true', decide_eq_false_iff_not] at hd
        rcases h with h | h
        · exact absurd (HD0.out.2 ⟨hd.1, hd.2.1⟩) h
        · rw [← HW.out, hd.2.2] at h; cases h
    rw [HR.out]
    unfold decV
    rw [h9]
    rfl
  have HY : Hid (D = 0 → mayB (n, l, s) = true → R = ((n, l, s), 0)) := fun h h2 => by
    have h9 : decOk b = true := by
      simp only [decOk, Bool.and_eq_true, decide_eq_true_eq, Bool.not_eq_true', decide_eq_false_iff_not]
      rw [HW.out]
      exact ⟨(HD0.out.1 h).1, (HD0.out.1 h).2, h2⟩
    rw [HR.out]
    unfold decV
    rw [h9, HW.out]
    rfl
  clear A1 A2 A3 A4 A5 A6 hs hk hn hlq HR HR1 HR2 HD0 HW hl
  generalize dA1 b = a1 at *
  generalize dE1 b = e1 at *
  generalize dA2 b = a2 at *
  generalize dE2 b = e2 at *
  generalize dA3 b = a3 at *
  generalize dE3 b = e3 at *
  obtain ⟨bp, bc, hbv⟩ : ∃ a c, bv = .slice a b.length c := (by obtain ⟨a, c, h, _⟩ := hB; exact ⟨a, c, h⟩)
  generalize b.length = bn at hbv
  subst hbv
  obtain ⟨g, hg⟩ : ∃ g, g = w.heap.size := ⟨_, rfl⟩
  rw [← hg] at q2
  have HZ : Hid (g < (w.alloc zc).heap.size) := by show _ < _; omega
  dsimp only [zc] at *
  clear hB hlen q1
  go_enter Try.func19, Try.ntmps19
  go_wp2_with fail
  rw [← hg]
  have HG : Hid (g = w.heap.size) := hg
  have hgw : w.heap.size ≤ g := Nat.le_of_eq HG.out.symm
  clear hg
  generalize w.alloc (.cells #[.int .u64 0, .int .u64 0, .bool false] 24) = W0 at *
  refine kR.mono ?_
  rintro e w1 ⟨q, rfl, hq, hR1, hb1⟩
  have p1 := (hb1.block g HZ.out).trans q2
  have hb01 := q3.trans (hb1.mono q3.size)
  have hqg : q ≠ g := by have := HZ.out; omega
  have hqg' : w.heap.size ≤ q := by have := HZ.out; have := HG.out; omega
  have k1 := kN1.out q w1 hR1
  clear kR kN1 hR1 hb1 q2 q3 hq HZ
  go_wp2_with fail
  refine k1.mono ?_
  rintro e w2 ⟨rfl, hR, kp⟩
  have p2 := (kp.block g (Array.getElem?_eq_some_iff.1 p1).1 (fun h => hqg (Option.some.inj h).symm)).trans p1
  have hb02 := hb01.trans (kp.below hqg' hb01.size)
  have k2 := kN2.out q w2 hR
  clear k1 kN2 hR kp p1 hb01
  go_wp2_with fail
  refine k2.mono ?_
  rintro e w3 ⟨rfl, hR, kp⟩
  have p3 := (kp.block g (Array.getElem?_eq_some_iff.1 p2).1 (fun h => hqg (Option.some.inj h).symm)).trans p2
  have hb03 := hb02.trans (kp.below hqg' hb02.size)
  have k3 := kN3.out q w3 hR
  clear k2 kN3 hR kp p2 hb02
  go_wp2_with fail
  refine k3.mono ?_
  rintro e w4 ⟨rfl, hR, kp⟩
  have p4 := (kp.block g (Array.getElem?_eq_some_iff.1 p3).1 (fun h => hqg (Option.some.inj h).symm)).trans p3
  have hb04 := hb03.trans (kp.below hqg' hb03.size)
  obtain ⟨u1, u2, u3⟩ := one_box w4 (.cells #[.int .u64 (n : Int), .int .u64 (l : Int), .bool s] 24)
  have p5 := (u3.block g (Array.getElem?_eq_some_iff.1 p4).1).trans p4
  have hb05 := hb04.trans (u3.mono hb04.size)
  have hR5 := rd_below hR u3
  have k4 := kD.out q _ hR5
  obtain ⟨x, hx⟩ : ∃ x, x = w4.heap.size := ⟨_, rfl⟩
  rw [← hx] at u2
  obtain ⟨W5, hW5⟩ : ∃ W5, w4.alloc (.cells #[.int .u64 (n : Int), .int .u64 (l : Int), .bool s] 24) = W5 := ⟨_, rfl⟩
  rw [hW5] at u2 p5 hb05 hR5 k4
  clear k3 kD kp hR p3 hb03 p4 hb04 u1 u3 hR5
  go_wp2_with fail
  rw [← hx]
  clear hx hW5
  refine k4.mono ?_
  rintro e w6 ⟨rfl, hb6⟩
  have x6 := (hb6.block x (Array.getElem?_eq_some_iff.1 u2).1).trans u2
  have p6 := (hb6.block g (Array.getElem?_eq_some_iff.1 p5).1).trans p5
  have hb06 := hb05.trans (hb6.mono hb05.size)
  clear k4 u2 p5 hb05 hb6
  by_cases hD0 : D = 0
  · subst hD0
    have kC := check_of (n, l, s) w6 HOKD.out
    cases hm : mayB (n, l, s) with
    | false =>
      rw [hm] at kC
      simp only [Bool.false_eq_true, if_false] at kC
      have E : Hid (R = ((0, 0, false), 5)) := HF.out (.inr hm)
      dsimp only [wv] at *
      obtain ⟨-, y0, y1, y2⟩ := h_cells x6
      clear HF HY hm
      go_wp2_with fail
      refine kC.mono ?_
      rintro e w7 ⟨rfl, hb7⟩
      have p7 := (hb7.block g (Array.getElem?_eq_some_iff.1 p6).1).trans p6
      have hb07 := hb06.trans (hb7.mono hb06.size)
      clear kC y0 y1 y2 p6 hb06 hb7 x6
      have HB3 := h_set p7 (.int .u64 0) (.int .u64 0) (.bool false)
      have HBW := h_below (g := g) (.int .u64 0) (.int .u64 0) (.bool false) hb07 hgw
      obtain ⟨⟨f0, f1, f2⟩, d0, d1, d2⟩ := h_cells p7
      clear p7 hb07
      go_wp2
      refine bodyPost_ret (results_w2 rfl _ _ g _ _ _ rfl HB3) rfl ?_
      exact ⟨by rw [E.out]; rfl, HBW⟩
    | true =>
      rw [hm] at kC
      simp only [if_true] at kC
      have E : Hid (R = ((n, l, s), 0)) := HY.out rfl hm
      dsimp only [wv] at *
      obtain ⟨-, y0, y1, y2⟩ := h_cells x6
      clear HF HY hm
      go_wp2_with fail
      refine kC.mono ?_
      rintro e w7 ⟨rfl, hb7⟩
      have p7 := (hb7.block g (Array.getElem?_eq_some_iff.1 p6).1).trans p6
      have x7 := (hb7.block x (Array.getElem?_eq_some_iff.1 x6).1).trans x6
      have hb07 := hb06.trans (hb7.mono hb06.size)
      clear kC y0 y1 y2 p6 hb06 hb7 x6
      obtain ⟨-, y0, y1, y2⟩ := h_cells x7
      obtain ⟨⟨f0, f1, f2⟩, d0, d1, d2⟩ := h_cells p7
      have HB3 := h_set p7 (.int .u64 (n : Int)) (.int .u64 (l : Int)) (.bool s)
      have HBW := h_below (g := g) (.int .u64 (n : Int)) (.int .u64 (l : Int)) (.bool s) hb07 hgw
      clear p7 hb07 x7
      go_wp2
      refine bodyPost_ret (results_w2 rfl _ _ g _ _ _ rfl HB3) rfl ?_
      exact ⟨by rw [E.out]; rfl, HBW⟩
  · have E : Hid (R = ((0, 0, false), 5)) := HF.out (.inl hD0)
    have eD : ((D : Int) == 0) = false := by simp [hD0]
    dsimp only [wv] at *
    have eD2 : decide (D = 0) = false := by simp [hD0]
    clear HF HY x6
    have HB3 := h_set p6 (.int .u64 0) (.int .u64 0) (.bool false)
    have HBW := h_below (g := g) (.int .u64 0) (.int .u64 0) (.bool false) hb06 hgw
    obtain ⟨⟨f0, f1, f2⟩, d0, d1, d2⟩ := h_cells p6
    clear p6 hb06
    go_wp2
    refine bodyPost_ret (results_w2 rfl _ _ g _ _ _ rfl HB3) rfl ?_
    exact ⟨by rw [E.out]; rfl, HBW⟩
end Go.Proofs.Ytghhijliamnmiaa

