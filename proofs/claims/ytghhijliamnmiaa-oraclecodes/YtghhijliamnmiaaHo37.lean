import Derived.Test.YtghhijliamnmiaaHo36
import Derived.Test.YtghhijliamnmiaaHo22
import Derived.Test.YtghhijliamnmiaaHo29
import Derived.Test.YtghhijliamnmiaaHo26
/- Decode of the document. -/
namespace Go.Proofs.Ytghhijliamnmiaa
open Go.RowKit OracleMath WireMath
set_option maxRecDepth 100000
set_option linter.unusedSimpArgs false
set_option linter.unusedVariables false

theorem str_inj {l r : List Nat} (hl : ∀ c ∈ l, c < 256) (hr : ∀ c ∈ r, c < 256) (h : (Wi.str l).toList = (Wi.str r).toList) : l = r := by
  have key : ∀ l : List Nat, (∀ c ∈ l, c < 256) → (l.map UInt8.ofNat).map UInt8.toNat = l := fun l hl => by
    rw [List.map_map]
    conv => rhs; rw [← List.map_id l]
    apply List.map_congr_left
    intro x hx
    have := hl x hx
    simp [Nat.mod_eq_of_lt this]
  have h2 : l.map UInt8.ofNat = r.map UInt8.ofNat := by
    have e : ∀ l : List Nat, (Wi.str l).toList = l.map UInt8.ofNat := fun l => by
      simp [Wi.str, ByteArray.toList_eq]
    rw [e, e] at h
    exact h
  rw [← key l hl, h2, key r hr]
set_option maxHeartbeats 8000000 in
theorem rdec_of (b : List Nat) (bv : Value) (w : World) (hB : Bn w bv b) (hl : ∀ c ∈ b, c < 256) : Calls Try.prog 21 #[bv] w fun e w' => e = .returned (.tuple #[wv (decV b), .bool (decOk b)]) ∧ Below w.heap.size w w' := by
  obtain ⟨R, HR⟩ : ∃ R : Wn × Bool, Hid (R = (decV b, decOk b)) := ⟨_, rfl⟩
  have HR1 : Hid (decV b = R.1) := by show _ = _; rw [HR.out]
  have HR2 : Hid (decOk b = R.2) := by show _ = _; rw [HR.out]
  rw [HR1.out, HR2.out]
  have HOKD : Hid (OkW (decW b)) := dec_ok hl
  have hds := dec_same hl
  have HCVB : Hid (∀ W, Below w.heap.size w W → (convert 37 9 bv).run Try.prog W = .ok (.string (Wi.str b)) W) := fun W hW => Wi.str_of (Wi.Bs.below hB hW) hl
  obtain ⟨SB, hSB⟩ : ∃ S, S = Wi.str b := ⟨_, rfl⟩
  obtain ⟨EB, hEB⟩ : ∃ E, E = encB (decW b) := ⟨_, rfl⟩
  obtain ⟨SE, hSE⟩ : ∃ S, S = Wi.str EB := ⟨_, rfl⟩
  have HCVE : Hid (∀ v W, Bn W v EB → (convert 37 9 v).run Try.prog W = .ok (.string SE) W) := fun v W hW => by rw [hSE]; exact Wi.str_of hW (by rw [hEB]; exact fun c hc => enc_lt hc)
  have HEQ : Hid (EB = b → SE = SB) := fun h => by rw [hSE, hSB, h]
  have HNE : Hid (EB ≠ b → (SE.toList == SB.toList) = false) := fun h => by
    rw [beq_eq_false_iff_ne]
    intro h2
    rw [hSE, hSB] at h2
    exact h (str_inj (by rw [hEB]; exact fun c hc => enc_lt hc) hl h2)
  have kE : Hid (∀ W, Calls Try.prog 20 #[wv (decW b)] W fun e w' => ∃ v, e = .returned v ∧ Bn w' v EB ∧ Below W.heap.size W w') := fun W => by rw [hEB]; exact renc_of (decW b) W HOKD.out
  have kM : Hid (∀ W, Calls Try.prog 14 #[wv (decW b)] W fun e w' => e = .returned (.bool (mayB (decW b))) ∧ Below W.heap.size W w') := fun W => rmay_of (decW b) W HOKD.out
  rw [← hSB] at HCVB
  rw [← hEB] at hds
  clear hSB hSE hEB
  obtain ⟨M, hM⟩ : ∃ M, M = mayB (decW b) := ⟨_, rfl⟩
  rw [← hM] at kM hds
  have HMF : Hid (M = false → R = ((0, 0, false), false)) := fun h => by
    rw [HR.out]; unfold decV; rw [hds, h]; rfl
  have HXF : Hid (EB ≠ b → R = ((0, 0, false), false)) := fun h => by
    rw [HR.out]; unfold decV; rw [hds, decide_eq_false h]; cases M <;> rfl
  have kN1 : Hid (∀ r W, Wi.Rr w.heap.size W r b 0 0 → _) := fun r W h => Wi.ruv_of w.heap.size r b 0 0 W h hl
  have kN2 : Hid (∀ r W, Wi.Rr w.heap.size W r b (dA1 b) (dE1 b) → _) := fun r W h => Wi.ruv_of w.heap.size r b (dA1 b) (dE1 b) W h hl
  have kN3 : Hid (∀ r W, Wi.Rr w.heap.size W r b (dA2 b) (dE2 b) → _) := fun r W h => Wi.rnum_of w.heap.size r b (dA2 b) (dE2 b) 1 W h hl (by decide)
  obtain ⟨n, hn⟩ : ∃ n, n = Wi.uvN b 0 0 := ⟨_, rfl⟩
  obtain ⟨l, hlq⟩ : ∃ l, l = Wi.uvN b (dA1 b) (dE1 b) := ⟨_, rfl⟩
  obtain ⟨k, hk⟩ : ∃ k, k = Wi.nuN b (dA2 b) (dE2 b) 1 := ⟨_, rfl⟩
  obtain ⟨s, hs⟩ : ∃ s : Bool, s = decide (k = 1) := ⟨_, rfl⟩
  have HW : Hid (decW b = (n, l, s)) := by show _ = _; rw [hs, hk, hn, hlq]; rfl
  have HYY : Hid (M = true → EB = b → R = ((n, l, s), true)) := fun h h2 => by
    rw [HR.out]; unfold decV; rw [hds, h, decide_eq_true h2, HW.out]; rfl
  have hsb : ((k : Int) == 1) = s := by rw [hs, Bool.eq_iff_iff]; simp; omega
  rw [← hn] at kN1
  rw [← hlq] at kN2
  rw [← hk] at kN3
  have A1 : Wi.uvA b 0 0 = dA1 b := rfl
  have A2 : Wi.uvE b 0 0 = dE1 b := rfl
  have A3 : Wi.uvA b (dA1 b) (dE1 b) = dA2 b := rfl
  have A4 : Wi.uvE b (dA1 b) (dE1 b) = dE2 b := rfl
  rw [A1, A2] at kN1
  rw [A3, A4] at kN2
  rw [HW.out] at kE kM
  obtain ⟨⟨bp, bc, hbv⟩, hbl⟩ : (∃ a c, bv = .slice a b.length c) ∧ True := ⟨(by obtain ⟨a, c, h, _⟩ := hB; exact ⟨a, c, h⟩), trivial⟩
  have HB : Hid (Bn w bv b) := hB
  clear A1 A2 A3 A4 hs hk hn hlq HR HR1 HR2 HW hl HOKD hds hM hB hbl
  generalize dA1 b = a1 at *
  generalize dE1 b = e1 at *
  generalize dA2 b = a2 at *
  generalize dE2 b = e2 at *
  generalize Wi.nuA b a2 e2 1 = a3 at *
  generalize Wi.nuE b a2 e2 1 = e3 at *
  generalize b.length = bn at hbv
  subst hbv
  obtain ⟨q1, q3, cl⟩ := two_box w zc (.cells #[.slice bp bn bc, .int .i64 0, .int .i64 0] 59)
  obtain ⟨q4, q5⟩ := cl _ (Below.refl _ _)
  have hRr : Wi.Rr w.heap.size ((w.alloc zc).alloc (.cells #[.slice bp bn bc, .int .i64 0, .int .i64 0] 59)) (w.heap.size + 1) b 0 0 := ⟨_, q5, Wi.Bs.below HB.out q3, Nat.zero_le _, Nat.le_succ _⟩
  have k1 := kN1.out _ _ hRr
  obtain ⟨g, hg⟩ : ∃ g, g = w.heap.size := ⟨_, rfl⟩
  have HG : Hid (g = w.heap.size) := hg
  have hgw : w.heap.size ≤ g := Nat.le_of_eq HG.out.symm
  have hgw1 : w.heap.size ≤ g + 1 := Nat.le_succ_of_le hgw
  rw [← hg] at k1 q4
  clear q1 q5 cl HB hRr kN1
  dsimp only [zc, wv] at *
  go_enter Try.func21, Try.ntmps21
  go_wp2_with fail
  rw [← hg]
  generalize (w.alloc (.cells #[.int .u64 0, .int .u64 0, .bool false] 24)).alloc (.cells #[.slice bp bn bc, .int .i64 0, .int .i64 0] 59) = W0 at *
  clear hg
  refine k1.mono ?_
  rintro e w1 ⟨rfl, hR1, kp⟩
  have p1 := (kp.block g (Array.getElem?_eq_some_iff.1 q4).1 (fun h => by have := Option.some.inj h; omega)).trans q4
  have hb01 := q3.trans (kp.below hgw1 q3.size)
  obtain ⟨u1, u2, u3⟩ := one_box w1 (.cells #[.int .u64 (n : Int), .int .u64 0, .bool false] 24)
  have hR2 := hR1.below u3
  have hxr : w1.heap.size ≠ g + 1 := fun h => by have := hR1.lt; omega
  have hxg : w1.heap.size ≠ g := fun h => by have := (Array.getElem?_eq_some_iff.1 p1).1; omega
  have p2 := (u3.block g (Array.getElem?_eq_some_iff.1 p1).1).trans p1
  have hb02 := hb01.trans (u3.mono hb01.size)
  rw [HG.out] at hR2
  have k2 := kN2.out _ _ hR2
  rw [← HG.out] at k2
  obtain ⟨x, hx⟩ : ∃ x, x = w1.heap.size := ⟨_, rfl⟩
  rw [← hx] at u2 hxr hxg
  have HX : Hid (w.heap.size ≤ x) := by show _ ≤ _; rw [hx]; exact hb01.size
  clear k1 kN2 q3 q4 kp hR1 hR2 p1 hb01 u1 u3
  go_wp2_with fail
  rw [← hx]
  clear hx
  generalize w1.alloc (.cells #[.int .u64 (n : Int), .int .u64 0, .bool false] 24) = W1 at *
  refine k2.mono ?_
  rintro e w2 ⟨rfl, hR3, kp⟩
  have p3 := (kp.block g (Array.getElem?_eq_some_iff.1 p2).1 (fun h => by have := Option.some.inj h; omega)).trans p2
  have x3 := (kp.block x (Array.getElem?_eq_some_iff.1 u2).1 (fun h => hxr (Option.some.inj h))).trans u2
  have hb03 := hb02.trans (kp.below hgw1 hb02.size)
  have x4 := set_1 x3 (.int .u64 (l : Int))
  have p4 := set_far (g := x) (i := 1) p3 hxg (.int .u64 (l : Int))
  have hR4 := hR3.kp (Wi.Kp.set x 1 (.int .u64 (l : Int)) w2) (HG.out ▸ HX.out) hxr
  have hb04 : Below w.heap.size w (w2.setCell ⟨x, 1, none⟩ (.int .u64 (l : Int))) := hb03.setCell (p := ⟨x, 1, none⟩) HX.out _
  obtain ⟨W2, hW2⟩ : ∃ W2, w2.setCell ⟨x, 1, none⟩ (.int .u64 (l : Int)) = W2 := ⟨_, rfl⟩
  rw [hW2] at x4 p4 hR4 hb04
  rw [HG.out] at hR4
  have k3 := kN3.out _ _ hR4
  rw [← HG.out] at k3 hR4
  obtain ⟨⟨f0, f1, f2⟩, c0, c1, c2⟩ := h_cells x3
  clear k2 kN3 p2 u2 hb02 kp hR3 hR4 p3 x3 hb03
  go_wp2_with fail
  clear f0 f1 f2 c0 c1 c2 hW2
  refine k3.mono ?_
  rintro e w3 ⟨rfl, hR5, kp⟩
  have p5 := (kp.block g (Array.getElem?_eq_some_iff.1 p4).1 (fun h => by have := Option.some.inj h; omega)).trans p4
  have x5 := (kp.block x (Array.getElem?_eq_some_iff.1 x4).1 (fun h => hxr (Option.some.inj h))).trans x4
  have hb05 := hb04.trans (kp.below hgw1 hb04.size)
  have x6 := set_2 x5 (.bool s)
  have p6 := set_far (g := x) (i := 2) p5 hxg (.bool s)
  have hb06 : Below w.heap.size w (w3.setCell ⟨x, 2, none⟩ (.bool s)) := hb05.setCell (p := ⟨x, 2, none⟩) HX.out _
  obtain ⟨W3, hW3⟩ : ∃ W3, w3.setCell ⟨x, 2, none⟩ (.bool s) = W3 := ⟨_, rfl⟩
  rw [hW3] at x6 p6 hb06
  obtain ⟨⟨f0, f1, f2⟩, c0, c1, c2⟩ := h_cells x5
  clear k3 p4 x4 hb04 kp hR5 p5 x5 hb05
  go_wp2
  clear f0 f1 f2 c0 c1 c2 hW3 hsb
  refine wp_region_L (fun W => W.heap[x]? = some (.cells #[.int .u64 (n : Int), .int .u64 (l : Int), .bool s] 24 (0, 0)) ∧ W.heap[g]? = some (.cells #[.int .u64 0, .int .u64 0, .bool false] 24 (0, 0)) ∧ (convert 37 9 (.slice bp bn bc)).run Try.prog W = .ok (.string SB) W ∧ Below w.heap.size w W) [] (by kernel_rfl) ?_
  have yS : (fun W => W.heap[x]? = some (.cells #[.int .u64 (n : Int), .int .u64 (l : Int), .bool s] 24 (0, 0)) ∧ W.heap[g]? = some (.cells #[.int .u64 0, .int .u64 0, .bool false] 24 (0, 0)) ∧ (convert 37 9 (.slice bp bn bc)).run Try.prog W = .ok (.string SB) W ∧ Below w.heap.size w W) W3.drew := ⟨x6, p6, HCVB.out _ hb06.drew, hb06.drew⟩
  generalize W3.drew = wq at *
  cases M with
  | false =>
    have E : Hid (R = ((0, 0, false), false)) := HMF.out rfl
    clear HMF HXF HYY HEQ HNE
    refine wpAnyL_take 0 rfl (by kernel_rfl) (by kernel_rfl) (by kernel_rfl) (by kernel_rfl) (fun _ _ _ h => h) (wanted_none rfl) (by intro w' hS'; obtain ⟨xb, xp, xv, xB⟩ := hS'; obtain ⟨-, y0, y1, y2⟩ := h_cells xb; go_simp <;> rfl) yS ?_
    try simp only [List.getElem_toArray, List.getElem_cons_succ, List.getElem_cons_zero, Act.put, List.setIfInBounds_toArray, List.set_cons_zero, List.set_cons_succ]
    refine wpAnyL_one 1 (by kernel_rfl) rfl (wanted_none rfl) ?_
    intro K' hK'
    go_simp
    go_at_call 14
    refine (kM.out _).mono ?_
    rintro e Wm ⟨rfl, hq⟩
    have hSm : (fun W => W.heap[x]? = some (.cells #[.int .u64 (n : Int), .int .u64 (l : Int), .bool s] 24 (0, 0)) ∧ W.heap[g]? = some (.cells #[.int .u64 0, .int .u64 0, .bool false] 24 (0, 0)) ∧ (convert 37 9 (.slice bp bn bc)).run Try.prog W = .ok (.string SB) W ∧ Below w.heap.size w W) Wm := ⟨(hq.block x (Array.getElem?_eq_some_iff.1 yS.1).1).trans yS.1, (hq.block g (Array.getElem?_eq_some_iff.1 yS.2.1).1).trans yS.2.1, HCVB.out _ (yS.2.2.2.trans (hq.mono yS.2.2.2.size)), yS.2.2.2.trans (hq.mono yS.2.2.2.size)⟩
    clear hq
    refine hK'.out _ _ (.inr hSm) ?_
    clear hK' K'
    try simp only [List.getElem_toArray, List.getElem_cons_succ, List.getElem_cons_zero, Act.put, List.setIfInBounds_toArray, List.set_cons_zero, List.set_cons_succ]
    refine wpAnyL_take 2 rfl (by kernel_rfl) (by kernel_rfl) (by kernel_rfl) (by kernel_rfl) (fun _ _ _ h => h) (wanted_none rfl) (by intro w' hS'; obtain ⟨xb, xp, xv, xB⟩ := hS'; obtain ⟨-, y0, y1, y2⟩ := h_cells xb; go_simp <;> rfl) hSm ?_
    try simp only [List.getElem_toArray, List.getElem_cons_succ, List.getElem_cons_zero, Act.put, List.setIfInBounds_toArray, List.set_cons_zero, List.set_cons_succ]
    refine wpAnyL_take 3 rfl (by kernel_rfl) (by kernel_rfl) (by kernel_rfl) (by kernel_rfl) (fun _ _ _ h => h) (wanted_none rfl) (by intro w' hS'; obtain ⟨xb, xp, xv, xB⟩ := hS'; obtain ⟨-, y0, y1, y2⟩ := h_cells xb; go_simp <;> rfl) hSm ?_
    try simp only [List.getElem_toArray, List.getElem_cons_succ, List.getElem_cons_zero, Act.put, List.setIfInBounds_toArray, List.set_cons_zero, List.set_cons_succ]
    refine wpAnyL_skip 4 rfl (by kernel_rfl) (by kernel_rfl) (by kernel_rfl) (by kernel_rfl) (fun _ _ _ h => h) (by kernel_rfl) hSm ?_
    try simp only [List.getElem_toArray, List.getElem_cons_succ, List.getElem_cons_zero, Act.put, List.setIfInBounds_toArray, List.set_cons_zero, List.set_cons_succ]
    refine wpAnyL_skip 5 rfl (by kernel_rfl) (by kernel_rfl) (by kernel_rfl) (by kernel_rfl) (fun _ _ _ h => h) (by kernel_rfl) hSm ?_
    try simp only [List.getElem_toArray, List.getElem_cons_succ, List.getElem_cons_zero, Act.put, List.setIfInBounds_toArray, List.set_cons_zero, List.set_cons_succ]
    refine wpAnyL_skip 6 rfl (by kernel_rfl) (by kernel_rfl) (by kernel_rfl) (by kernel_rfl) (fun _ _ _ h => h) (by kernel_rfl) hSm ?_
    try simp only [List.getElem_toArray, List.getElem_cons_succ, List.getElem_cons_zero, Act.put, List.setIfInBounds_toArray, List.set_cons_zero, List.set_cons_succ]
    refine wpAnyL_skip 7 rfl (by kernel_rfl) (by kernel_rfl) (by kernel_rfl) (by kernel_rfl) (fun _ _ _ h => h) (by kernel_rfl) hSm ?_
    try simp only [List.getElem_toArray, List.getElem_cons_succ, List.getElem_cons_zero, Act.put, List.setIfInBounds_toArray, List.set_cons_zero, List.set_cons_succ]
    refine wpAnyL_skip 8 rfl (by kernel_rfl) (by kernel_rfl) (by kernel_rfl) (by kernel_rfl) (fun _ _ _ h => h) (by kernel_rfl) hSm ?_
    try simp only [List.getElem_toArray, List.getElem_cons_succ, List.getElem_cons_zero, Act.put, List.setIfInBounds_toArray, List.set_cons_zero, List.set_cons_succ]
    refine wpAnyL_skip 9 rfl (by kernel_rfl) (by kernel_rfl) (by kernel_rfl) (by kernel_rfl) (fun _ _ _ h => h) (by kernel_rfl) hSm ?_
    try simp only [List.getElem_toArray, List.getElem_cons_succ, List.getElem_cons_zero, Act.put, List.setIfInBounds_toArray, List.set_cons_zero, List.set_cons_succ]
    refine wpAnyL_take 10 rfl (by kernel_rfl) (by kernel_rfl) (by kernel_rfl) (by kernel_rfl) (fun _ _ _ h => h) (wanted_none rfl) (by intro w' hS'; obtain ⟨xb, xp, xv, xB⟩ := hS'; obtain ⟨-, y0, y1, y2⟩ := h_cells xb; go_simp <;> rfl) hSm ?_
    try simp only [List.getElem_toArray, List.getElem_cons_succ, List.getElem_cons_zero, Act.put, List.setIfInBounds_toArray, List.set_cons_zero, List.set_cons_succ]
    refine wpAnyL_done (by kernel_rfl) (NoPanic.normal ?_) _
    obtain ⟨-, p9, -, hb9⟩ := hSm
    have HB3 := h_set p9 (.int .u64 0) (.int .u64 0) (.bool false)
    have HBW := h_below (g := g) (.int .u64 0) (.int .u64 0) (.bool false) hb9 hgw
    obtain ⟨⟨f0, f1, f2⟩, d0, d1, d2⟩ := h_cells p9
    clear yS hb9 kM kE HCVE HCVB
    go_wp2
    refine bodyPost_ret (results_w2 rfl _ _ g _ _ _ rfl HB3) rfl ?_
    exact ⟨by rw [E.out]; rfl, HBW⟩
  | true =>
    by_cases he : EB = b
    · have E : Hid (R = ((n, l, s), true)) := HYY.out rfl he
      obtain rfl : SB = SE := (HEQ.out he).symm
      clear HMF HXF HYY HEQ HNE he
      refine wpAnyL_take 0 rfl (by kernel_rfl) (by kernel_rfl) (by kernel_rfl) (by kernel_rfl) (fun _ _ _ h => h) (wanted_none rfl) (by intro w' hS'; obtain ⟨xb, xp, xv, xB⟩ := hS'; obtain ⟨-, y0, y1, y2⟩ := h_cells xb; go_simp <;> rfl) yS ?_
      try simp only [List.getElem_toArray, List.getElem_cons_succ, List.getElem_cons_zero, Act.put, List.setIfInBounds_toArray, List.set_cons_zero, List.set_cons_succ]
      refine wpAnyL_one 1 (by kernel_rfl) rfl (wanted_none rfl) ?_
      intro K' hK'
      go_simp
      go_at_call 14
      refine (kM.out _).mono ?_
      rintro e Wm ⟨rfl, hq⟩
      have hSm : (fun W => W.heap[x]? = some (.cells #[.int .u64 (n : Int), .int .u64 (l : Int), .bool s] 24 (0, 0)) ∧ W.heap[g]? = some (.cells #[.int .u64 0, .int .u64 0, .bool false] 24 (0, 0)) ∧ (convert 37 9 (.slice bp bn bc)).run Try.prog W = .ok (.string SB) W ∧ Below w.heap.size w W) Wm := ⟨(hq.block x (Array.getElem?_eq_some_iff.1 yS.1).1).trans yS.1, (hq.block g (Array.getElem?_eq_some_iff.1 yS.2.1).1).trans yS.2.1, HCVB.out _ (yS.2.2.2.trans (hq.mono yS.2.2.2.size)), yS.2.2.2.trans (hq.mono yS.2.2.2.size)⟩
      clear hq
      refine hK'.out _ _ (.inr hSm) ?_
      clear hK' K'
      try simp only [List.getElem_toArray, List.getElem_cons_succ, List.getElem_cons_zero, Act.put, List.setIfInBounds_toArray, List.set_cons_zero, List.set_cons_succ]
      refine wpAnyL_take 2 rfl (by kernel_rfl) (by kernel_rfl) (by kernel_rfl) (by kernel_rfl) (fun _ _ _ h => h) (wanted_none rfl) (by intro w' hS'; obtain ⟨xb, xp, xv, xB⟩ := hS'; obtain ⟨-, y0, y1, y2⟩ := h_cells xb; go_simp <;> rfl) hSm ?_
      try simp only [List.getElem_toArray, List.getElem_cons_succ, List.getElem_cons_zero, Act.put, List.setIfInBounds_toArray, List.set_cons_zero, List.set_cons_succ]
      refine wpAnyL_take 3 rfl (by kernel_rfl) (by kernel_rfl) (by kernel_rfl) (by kernel_rfl) (fun _ _ _ h => h) (wanted_none rfl) (by intro w' hS'; obtain ⟨xb, xp, xv, xB⟩ := hS'; obtain ⟨-, y0, y1, y2⟩ := h_cells xb; go_simp <;> rfl) hSm ?_
      try simp only [List.getElem_toArray, List.getElem_cons_succ, List.getElem_cons_zero, Act.put, List.setIfInBounds_toArray, List.set_cons_zero, List.set_cons_succ]
      refine wpAnyL_take 4 rfl (by kernel_rfl) (by kernel_rfl) (by kernel_rfl) (by kernel_rfl) (fun _ _ _ h => h) (by kernel_rfl) (by intro w' hS'; obtain ⟨xb, xp, xv, xB⟩ := hS'; obtain ⟨-, y0, y1, y2⟩ := h_cells xb; go_simp <;> rfl) hSm ?_
      try simp only [List.getElem_toArray, List.getElem_cons_succ, List.getElem_cons_zero, Act.put, List.setIfInBounds_toArray, List.set_cons_zero, List.set_cons_succ]
      refine wpAnyL_take 7 rfl (by kernel_rfl) (by kernel_rfl) (by kernel_rfl) (by kernel_rfl) (fun _ _ _ h => h) (by kernel_rfl) (by intro w' hS'; obtain ⟨xb, xp, xv, xB⟩ := hS'; obtain ⟨-, y0, y1, y2⟩ := h_cells xb; go_simp <;> rfl) hSm ?_
      try simp only [List.getElem_toArray, List.getElem_cons_succ, List.getElem_cons_zero, Act.put, List.setIfInBounds_toArray, List.set_cons_zero, List.set_cons_succ]
      refine wpAnyL_take 8 rfl (by kernel_rfl) (by kernel_rfl) (by kernel_rfl) (by kernel_rfl) (fun _ _ _ h => h) (by kernel_rfl) (by intro w' hS'; obtain ⟨xb, xp, xv, xB⟩ := hS'; obtain ⟨-, y0, y1, y2⟩ := h_cells xb; go_simp <;> rfl) hSm ?_
      try simp only [List.getElem_toArray, List.getElem_cons_succ, List.getElem_cons_zero, Act.put, List.setIfInBounds_toArray, List.set_cons_zero, List.set_cons_succ]
      refine wpAnyL_one 5 (by kernel_rfl) rfl (by kernel_rfl) ?_
      intro K' hK'
      go_simp
      go_at_call 20
      refine (kE.out _).mono ?_
      rintro e We ⟨v5, rfl, hB5, hq⟩
      have hSe : (fun W => W.heap[x]? = some (.cells #[.int .u64 (n : Int), .int .u64 (l : Int), .bool s] 24 (0, 0)) ∧ W.heap[g]? = some (.cells #[.int .u64 0, .int .u64 0, .bool false] 24 (0, 0)) ∧ (convert 37 9 (.slice bp bn bc)).run Try.prog W = .ok (.string SB) W ∧ Below w.heap.size w W) We := ⟨(hq.block x (Array.getElem?_eq_some_iff.1 hSm.1).1).trans hSm.1, (hq.block g (Array.getElem?_eq_some_iff.1 hSm.2.1).1).trans hSm.2.1, HCVB.out _ (hSm.2.2.2.trans (hq.mono hSm.2.2.2.size)), hSm.2.2.2.trans (hq.mono hSm.2.2.2.size)⟩
      have hcv5 := HCVE.out _ _ hB5
      clear hq
      refine hK'.out _ _ (.inr hSe) ?_
      clear hK' K'
      try simp only [List.getElem_toArray, List.getElem_cons_succ, List.getElem_cons_zero, Act.put, List.setIfInBounds_toArray, List.set_cons_zero, List.set_cons_succ]
      refine wpAnyL_one 6 (by kernel_rfl) rfl (by kernel_rfl) ?_
      intro K' hK'
      go_simp
      refine hK'.out _ _ (.inr hSe) ?_
      clear hK' K'
      try simp only [List.getElem_toArray, List.getElem_cons_succ, List.getElem_cons_zero, Act.put, List.setIfInBounds_toArray, List.set_cons_zero, List.set_cons_succ]
      refine wpAnyL_take 9 rfl (by kernel_rfl) (by kernel_rfl) (by kernel_rfl) (by kernel_rfl) (fun _ _ _ h => h) (by kernel_rfl) (by intro w' hS'; obtain ⟨xb, xp, xv, xB⟩ := hS'; obtain ⟨-, y0, y1, y2⟩ := h_cells xb; go_simp <;> rfl) hSe ?_
      try simp only [List.getElem_toArray, List.getElem_cons_succ, List.getElem_cons_zero, Act.put, List.setIfInBounds_toArray, List.set_cons_zero, List.set_cons_succ]
      refine wpAnyL_take 10 rfl (by kernel_rfl) (by kernel_rfl) (by kernel_rfl) (by kernel_rfl) (fun _ _ _ h => h) (wanted_none rfl) (by intro w' hS'; obtain ⟨xb, xp, xv, xB⟩ := hS'; obtain ⟨-, y0, y1, y2⟩ := h_cells xb; go_simp <;> rfl) hSe ?_
      try simp only [List.getElem_toArray, List.getElem_cons_succ, List.getElem_cons_zero, Act.put, List.setIfInBounds_toArray, List.set_cons_zero, List.set_cons_succ]
      refine wpAnyL_done (by kernel_rfl) (NoPanic.normal ?_) _
      obtain ⟨x9, p9, -, hb9⟩ := hSe
      have HB3 := h_set p9 (.int .u64 (n : Int)) (.int .u64 (l : Int)) (.bool s)
      have HBW := h_below (g := g) (.int .u64 (n : Int)) (.int .u64 (l : Int)) (.bool s) hb9 hgw
      obtain ⟨⟨f0, f1, f2⟩, d0, d1, d2⟩ := h_cells p9
      obtain ⟨-, y0, y1, y2⟩ := h_cells x9
      clear hSm yS hb9 kM kE HCVE HCVB hB5 hcv5
      go_wp2
      refine bodyPost_ret (results_w2 rfl _ _ g _ _ _ rfl HB3) rfl ?_
      exact ⟨by rw [E.out]; rfl, HBW⟩
    · have E : Hid (R = ((0, 0, false), false)) := HXF.out he
      have hne := HNE.out he
      clear HMF HXF HYY HEQ HNE he
      refine wpAnyL_take 0 rfl (by kernel_rfl) (by kernel_rfl) (by kernel_rfl) (by kernel_rfl) (fun _ _ _ h => h) (wanted_none rfl) (by intro w' hS'; obtain ⟨xb, xp, xv, xB⟩ := hS'; obtain ⟨-, y0, y1, y2⟩ := h_cells xb; go_simp <;> rfl) yS ?_
      try simp only [List.getElem_toArray, List.getElem_cons_succ, List.getElem_cons_zero, Act.put, List.setIfInBounds_toArray, List.set_cons_zero, List.set_cons_succ]
      refine wpAnyL_one 1 (by kernel_rfl) rfl (wanted_none rfl) ?_
      intro K' hK'
      go_simp
      go_at_call 14
      refine (kM.out _).mono ?_
      rintro e Wm ⟨rfl, hq⟩
      have hSm : (fun W => W.heap[x]? = some (.cells #[.int .u64 (n : Int), .int .u64 (l : Int), .bool s] 24 (0, 0)) ∧ W.heap[g]? = some (.cells #[.int .u64 0, .int .u64 0, .bool false] 24 (0, 0)) ∧ (convert 37 9 (.slice bp bn bc)).run Try.prog W = .ok (.string SB) W ∧ Below w.heap.size w W) Wm := ⟨(hq.block x (Array.getElem?_eq_some_iff.1 yS.1).1).trans yS.1, (hq.block g (Array.getElem?_eq_some_iff.1 yS.2.1).1).trans yS.2.1, HCVB.out _ (yS.2.2.2.trans (hq.mono yS.2.2.2.size)), yS.2.2.2.trans (hq.mono yS.2.2.2.size)⟩
      clear hq
      refine hK'.out _ _ (.inr hSm) ?_
      clear hK' K'
      try simp only [List.getElem_toArray, List.getElem_cons_succ, List.getElem_cons_zero, Act.put, List.setIfInBounds_toArray, List.set_cons_zero, List.set_cons_succ]
      refine wpAnyL_take 2 rfl (by kernel_rfl) (by kernel_rfl) (by kernel_rfl) (by kernel_rfl) (fun _ _ _ h => h) (wanted_none rfl) (by intro w' hS'; obtain ⟨xb, xp, xv, xB⟩ := hS'; obtain ⟨-, y0, y1, y2⟩ := h_cells xb; go_simp <;> rfl) hSm ?_
      try simp only [List.getElem_toArray, List.getElem_cons_succ, List.getElem_cons_zero, Act.put, List.setIfInBounds_toArray, List.set_cons_zero, List.set_cons_succ]
      refine wpAnyL_take 3 rfl (by kernel_rfl) (by kernel_rfl) (by kernel_rfl) (by kernel_rfl) (fun _ _ _ h => h) (wanted_none rfl) (by intro w' hS'; obtain ⟨xb, xp, xv, xB⟩ := hS'; obtain ⟨-, y0, y1, y2⟩ := h_cells xb; go_simp <;> rfl) hSm ?_
      try simp only [List.getElem_toArray, List.getElem_cons_succ, List.getElem_cons_zero, Act.put, List.setIfInBounds_toArray, List.set_cons_zero, List.set_cons_succ]
      refine wpAnyL_take 4 rfl (by kernel_rfl) (by kernel_rfl) (by kernel_rfl) (by kernel_rfl) (fun _ _ _ h => h) (by kernel_rfl) (by intro w' hS'; obtain ⟨xb, xp, xv, xB⟩ := hS'; obtain ⟨-, y0, y1, y2⟩ := h_cells xb; go_simp <;> rfl) hSm ?_
      try simp only [List.getElem_toArray, List.getElem_cons_succ, List.getElem_cons_zero, Act.put, List.setIfInBounds_toArray, List.set_cons_zero, List.set_cons_succ]
      refine wpAnyL_take 7 rfl (by kernel_rfl) (by kernel_rfl) (by kernel_rfl) (by kernel_rfl) (fun _ _ _ h => h) (by kernel_rfl) (by intro w' hS'; obtain ⟨xb, xp, xv, xB⟩ := hS'; obtain ⟨-, y0, y1, y2⟩ := h_cells xb; go_simp <;> rfl) hSm ?_
      try simp only [List.getElem_toArray, List.getElem_cons_succ, List.getElem_cons_zero, Act.put, List.setIfInBounds_toArray, List.set_cons_zero, List.set_cons_succ]
      refine wpAnyL_take 8 rfl (by kernel_rfl) (by kernel_rfl) (by kernel_rfl) (by kernel_rfl) (fun _ _ _ h => h) (by kernel_rfl) (by intro w' hS'; obtain ⟨xb, xp, xv, xB⟩ := hS'; obtain ⟨-, y0, y1, y2⟩ := h_cells xb; go_simp <;> rfl) hSm ?_
      try simp only [List.getElem_toArray, List.getElem_cons_succ, List.getElem_cons_zero, Act.put, List.setIfInBounds_toArray, List.set_cons_zero, List.set_cons_succ]
      refine wpAnyL_one 5 (by kernel_rfl) rfl (by kernel_rfl) ?_
      intro K' hK'
      go_simp
      go_at_call 20
      refine (kE.out _).mono ?_
      rintro e We ⟨v5, rfl, hB5, hq⟩
      have hSe : (fun W => W.heap[x]? = some (.cells #[.int .u64 (n : Int), .int .u64 (l : Int), .bool s] 24 (0, 0)) ∧ W.heap[g]? = some (.cells #[.int .u64 0, .int .u64 0, .bool false] 24 (0, 0)) ∧ (convert 37 9 (.slice bp bn bc)).run Try.prog W = .ok (.string SB) W ∧ Below w.heap.size w W) We := ⟨(hq.block x (Array.getElem?_eq_some_iff.1 hSm.1).1).trans hSm.1, (hq.block g (Array.getElem?_eq_some_iff.1 hSm.2.1).1).trans hSm.2.1, HCVB.out _ (hSm.2.2.2.trans (hq.mono hSm.2.2.2.size)), hSm.2.2.2.trans (hq.mono hSm.2.2.2.size)⟩
      have hcv5 := HCVE.out _ _ hB5
      clear hq
      refine hK'.out _ _ (.inr hSe) ?_
      clear hK' K'
      try simp only [List.getElem_toArray, List.getElem_cons_succ, List.getElem_cons_zero, Act.put, List.setIfInBounds_toArray, List.set_cons_zero, List.set_cons_succ]
      refine wpAnyL_one 6 (by kernel_rfl) rfl (by kernel_rfl) ?_
      intro K' hK'
      go_simp
      refine hK'.out _ _ (.inr hSe) ?_
      clear hK' K'
      try simp only [List.getElem_toArray, List.getElem_cons_succ, List.getElem_cons_zero, Act.put, List.setIfInBounds_toArray, List.set_cons_zero, List.set_cons_succ]
      refine wpAnyL_take 9 rfl (by kernel_rfl) (by kernel_rfl) (by kernel_rfl) (by kernel_rfl) (fun _ _ _ h => h) (by kernel_rfl) (by intro w' hS'; obtain ⟨xb, xp, xv, xB⟩ := hS'; obtain ⟨-, y0, y1, y2⟩ := h_cells xb; go_simp <;> rfl) hSe ?_
      try simp only [List.getElem_toArray, List.getElem_cons_succ, List.getElem_cons_zero, Act.put, List.setIfInBounds_toArray, List.set_cons_zero, List.set_cons_succ]
      refine wpAnyL_take 10 rfl (by kernel_rfl) (by kernel_rfl) (by kernel_rfl) (by kernel_rfl) (fun _ _ _ h => h) (wanted_none rfl) (by intro w' hS'; obtain ⟨xb, xp, xv, xB⟩ := hS'; obtain ⟨-, y0, y1, y2⟩ := h_cells xb; go_simp <;> rfl) hSe ?_
      try simp only [List.getElem_toArray, List.getElem_cons_succ, List.getElem_cons_zero, Act.put, List.setIfInBounds_toArray, List.set_cons_zero, List.set_cons_succ]
      refine wpAnyL_done (by kernel_rfl) (NoPanic.normal ?_) _
      obtain ⟨-, p9, -, hb9⟩ := hSe
      have HB3 := h_set p9 (.int .u64 0) (.int .u64 0) (.bool false)
      have HBW := h_below (g := g) (.int .u64 0) (.int .u64 0) (.bool false) hb9 hgw
      obtain ⟨⟨f0, f1, f2⟩, d0, d1, d2⟩ := h_cells p9
      clear hSm yS hb9 kM kE HCVE HCVB hB5 hcv5
      go_wp2
      refine bodyPost_ret (results_w2 rfl _ _ g _ _ _ rfl HB3) rfl ?_
      exact ⟨by rw [E.out]; rfl, HBW⟩
end Go.Proofs.Ytghhijliamnmiaa

