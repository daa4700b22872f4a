import Derived.Test.YtlgnnfhnkfjafaaHp42
/- The law PlanTurns answers true. -/
namespace Go.Proofs.Ytlgnnfhnkfjafaa
open Go.RowKit SpanMath ChartMath PlanMath
set_option maxRecDepth 100000
set_option linter.unusedSimpArgs false
set_option linter.unusedVariables false

theorem put_len (l : List Rg) (i j : Nat) (ws : List (Sp × Int)) : (putM l i j ws).1.length ≤ 200 + l.length := by
  unfold putM
  split
  · simp
  · rename_i h
    unfold spliced
    simp
    omega
theorem turn_len {l : List Rg} {k : K} {g : Int} : (splitM l k).1.length ≤ 1000 ∧ (mergeM l k).1.length ≤ 1000 ∧ (moveM l k g).1.length ≤ 1000 := by
  unfold splitM mergeM moveM
  cases hf : findM l k with
  | none => simp
  | some i =>
    obtain ⟨hC, _, r, hr, _⟩ := findM_some hf
    have hl := hC.len
    obtain ⟨q, hq⟩ : ∃ q, l[i - 1]? = some q := ⟨l[i - 1]'(by have := (List.getElem?_eq_some_iff.1 hr).1; omega), List.getElem?_eq_getElem _⟩
    simp only [hr, hq]
    refine ⟨?_, ?_, ?_⟩
    · split
      · simp
      · exact Nat.le_trans (put_len _ _ _ _) (by omega)
    · split
      · simp
      · split
        · simp
        · exact Nat.le_trans (put_len _ _ _ _) (by omega)
    · split
      · simp
      · split
        · simp
        · exact Nat.le_trans (put_len _ _ _ _) (by omega)

theorem met_len {m : List Rg × Int} {ps : List Pl} (h : m.1.length ≤ 1000) : (metM m ps).1.length ≤ 1000 := by
  unfold metM
  split
  · simp
  · split
    · exact h
    · simp
theorem split_lenQ (l : List Rg) (ps : List Pl) (k : K) : (splitQ l ps k).1.length ≤ 1000 := by
  unfold splitQ
  split
  · exact met_len (turn_len (l := l) (k := k) (g := 0)).1
  · simp
theorem merge_lenQ (l : List Rg) (ps : List Pl) (k : K) : (mergeQ l ps k).1.length ≤ 1000 := by
  unfold mergeQ
  split
  · exact met_len (turn_len (l := l) (k := k) (g := 0)).2.1
  · simp
theorem come_len {l : List Rg} {p : Pl} (h : l.length ≤ 1000) : (comeM l p).1.length ≤ 1000 ∧ (comeM l p).2.1.length ≤ 1 := by
  unfold comeM
  split
  · split
    · simp
    · exact ⟨(turn_len (l := l) (k := p.2.1.1) (g := p.2.2.2.1)).2.2, by simp⟩
  · split
    · exact ⟨h, by simp⟩
    · exact ⟨h, by simp⟩
theorem step_len {l : List Rg} {ps : List Pl} {pid : Nat} {sn : Int} (h : l.length ≤ 1000) : (stepM l ps pid sn).1.length ≤ 1000 ∧ (stepM l ps pid sn).2.1.length ≤ 1 := by
  unfold stepM
  split
  · split
    · simp
    · split
      · simp
      · split
        · simp
        · split
          · simp
          · exact come_len h
  · simp
theorem start_len (l : List Rg) (ps : List Pl) (pid : Nat) (k : K) (g : Int) : (startM l ps pid k g).1.length ≤ 1 := by
  unfold startM
  split
  · split
    · split
      · simp
      · split
        · simp
        · split <;> simp
    · simp
  · simp
set_option maxHeartbeats 16000000 in
theorem turns_law (l : List Rg) (ps : List Pl) (lv v : Value) (dd : Int) (pid : Nat) (k : K) (g sn : Int) (w : World) (hF : Rd rgE w lv l) (hP : Rd plE w v ps) (hll : l.length ≤ 140737488355328) (hpl : ps.length ≤ 140737488355328) : Calls Try.prog 3 #[lv, v, .agg #[.int .i64 dd, .int .u64 (pid : Int), .string (bk k), .int .i64 g, .int .i64 sn]] w fun e w' => e = .returned (.bool true) ∧ Below w.heap.size w w' := by
  obtain ⟨q1, q2, q3⟩ := one_box w (.cells #[.int .i64 dd, .int .u64 (pid : Int), .string (bk k), .int .i64 g, .int .i64 sn] 26)
  obtain ⟨w0, hw0⟩ : ∃ W, w.alloc (.cells #[.int .i64 dd, .int .u64 (pid : Int), .string (bk k), .int .i64 g, .int .i64 sn] 26) = W := ⟨_, rfl⟩
  rw [hw0] at q1 q2 q3
  have hz : Hid (w.heap.size < w0.heap.size) := by show _ < _; omega
  have HB : Hid (∀ W, Below w0.heap.size w0 W → Below w.heap.size w W ∧ W.cell? ⟨w.heap.size, 0, none⟩ = some (.int .i64 dd) ∧ W.cell? ⟨w.heap.size, 1, none⟩ = some (.int .u64 (pid : Int)) ∧ W.cell? ⟨w.heap.size, 2, none⟩ = some (.string (bk k)) ∧ W.cell? ⟨w.heap.size, 3, none⟩ = some (.int .i64 g) ∧ W.cell? ⟨w.heap.size, 4, none⟩ = some (.int .i64 sn)) := fun W hW => ⟨q3.trans (hW.mono q3.size), by
    have h := (hW.block w.heap.size hz.out).trans q2
    refine ⟨?_, ?_, ?_, ?_, ?_⟩ <;> rw [cells_of_block h] <;> rfl⟩
  have hy0 : Below w0.heap.size w0 w0 := Below.refl _ _
  have kA := awake_of w0
  obtain ⟨-, c0, c1, c2, c3, c4⟩ := HB.out _ hy0
  by_cases h80 : 80 < l.length
  · have h80i : (80 : Int) < (l.length : Int) := by omega
    have h80d : decide ((80 : Int) < (l.length : Int)) = true := decide_eq_true h80i
    obtain ⟨ao, cap, rfl, -⟩ := id hF
    obtain ⟨po, pcap, rfl, -⟩ := id hP
    clear hF hP hll hpl h80 q1 q2 q3
    go_enter Try.func3, Try.ntmps3
    go_wp2_with fail
    refine kA.mono ?_
    rintro e w1 ⟨rfl, hbc⟩
    go_wp2
    go_ret
    exact ⟨rfl, (HB.out _ hbc).1⟩
  · have h80i : ¬ (80 : Int) < (l.length : Int) := by omega
    have h80d : decide ((80 : Int) < (l.length : Int)) = false := decide_eq_false h80i
    by_cases h5 : 5 < ps.length
    · have h5i : (5 : Int) < (ps.length : Int) := by omega
      have h5d : decide ((5 : Int) < (ps.length : Int)) = true := decide_eq_true h5i
      obtain ⟨ao, cap, rfl, -⟩ := id hF
      obtain ⟨po, pcap, rfl, -⟩ := id hP
      clear hF hP hll hpl h80 h5 q1 q2 q3
      go_enter Try.func3, Try.ntmps3
      go_wp2_with fail
      refine kA.mono ?_
      rintro e w1 ⟨rfl, hbc⟩
      go_wp2
      go_ret
      exact ⟨rfl, (HB.out _ hbc).1⟩
    · have h5i : ¬ (5 : Int) < (ps.length : Int) := by omega
      have h5d : decide ((5 : Int) < (ps.length : Int)) = false := decide_eq_false h5i
      have hl : l.length ≤ 1000000 := by omega
      have hp : ps.length ≤ 1000000 := by omega
      have A1 : Hid (∀ W, Below w.heap.size w W → _) := fun W hW => start_of l ps lv v pid k g W (hF.below hW) (hP.below hW) hl hp
      have A2 : Hid (∀ W, Below w.heap.size w W → _) := fun W hW => rstart_of l ps lv v pid k g W (hF.below hW) (hP.below hW) hl hp
      have A3 : Hid (∀ W, Below w.heap.size w W → _) := fun W hW => plcheck_of l ps lv v W (hF.below hW).cv (hP.below hW) hl hp
      have A4 : Hid (∀ W, Below w.heap.size w W → _) := fun W hW => rplmay_of l ps lv v W (hF.below hW).cv (hP.below hW) hl hp
      have A5 : Hid (∀ W, Below w.heap.size w W → _) := fun W hW => step_of l ps lv v pid sn W (hF.below hW) (hP.below hW) hl hp
      have A6 : Hid (∀ W, Below w.heap.size w W → _) := fun W hW => rstep_of l ps lv v pid sn W (hF.below hW) (hP.below hW) hl hp
      have A7 : Hid (∀ W, Below w.heap.size w W → _) := fun W hW => psplit_of l ps lv v k W (hF.below hW) (hP.below hW) hl hp
      have A8 : Hid (∀ W, Below w.heap.size w W → _) := fun W hW => rsplitQ_of l ps lv v k W (hF.below hW) (hP.below hW) hl hp
      have A9 : Hid (∀ W, Below w.heap.size w W → _) := fun W hW => pmerge_of l ps lv v k W (hF.below hW) (hP.below hW) hl hp
      have AA : Hid (∀ W, Below w.heap.size w W → _) := fun W hW => rmergeQ_of l ps lv v k W (hF.below hW) (hP.below hW) hl hp
      have L1 : Hid _ := start_len l ps pid k g
      have L2 : Hid _ := step_len (l := l) (ps := ps) (pid := pid) (sn := sn) (by omega)
      have L3 : Hid _ := split_lenQ l ps k
      have L4 : Hid _ := merge_lenQ l ps k
      have hBI : ((if planB l ps = true then (0 : Int) else 1) == 0) = planB l ps := by cases planB l ps <;> rfl
      unfold PTurn at A1 A2
      unfold STurn at A5 A6
      unfold TurnT at A7 A8 A9 AA
      generalize (if planB l ps = true then (0 : Int) else 1) = BI at *
      generalize planB l ps = b at *
      have hbb : (b != b) = false := by simp
      generalize startM l ps pid k g = M1 at *
      generalize stepM l ps pid sn = M2 at *
      generalize splitQ l ps k = M3 at *
      generalize mergeQ l ps k = M4 at *
      obtain ⟨m1, e1⟩ := M1
      obtain ⟨m2, n2, e2⟩ := M2
      obtain ⟨m3, e3⟩ := M3
      obtain ⟨m4, e4⟩ := M4
      dsimp only at A1 A2 A5 A6 A7 A8 A9 AA L1 L2 L3 L4
      have S1 : Hid (∀ (u u' : Value) W, Rd plE W u m1 → Rd plE W u' m1 → _) := fun u u' W h1 h2 => plsame_of m1 u u' W h1 h2 (by have := L1.out; omega)
      have S2 : Hid (∀ (u u' : Value) W, Rd plE W u n2 → Rd plE W u' n2 → _) := fun u u' W h1 h2 => plsame_of n2 u u' W h1 h2 (by have := L2.out.2; omega)
      have S3 : Hid (∀ (u u' : Value) W, Rd rgE W u m2 → Rd rgE W u' m2 → _) := fun u u' W h1 h2 => csame_of m2 u u' W h1.cv h2.cv (by have := L2.out.1; omega)
      have S4 : Hid (∀ (u u' : Value) W, Rd rgE W u m3 → Rd rgE W u' m3 → _) := fun u u' W h1 h2 => csame_of m3 u u' W h1.cv h2.cv (by have := L3.out; omega)
      have S5 : Hid (∀ (u u' : Value) W, Rd rgE W u m4 → Rd rgE W u' m4 → _) := fun u u' W h1 h2 => csame_of m4 u u' W h1.cv h2.cv (by have := L4.out; omega)
      have he1 : (e1 != e1) = false := by simp
      have he2 : (e2 != e2) = false := by simp
      have he3 : (e3 != e3) = false := by simp
      have he4 : (e4 == e4) = true := by simp
      obtain ⟨ao, cap, rfl, -⟩ := id hF
      obtain ⟨po, pcap, rfl, -⟩ := id hP
      clear hF hP hll hpl h80 h5 q1 q2 q3 hl hp L1 L2 L3 L4 kA
      go_enter Try.func3, Try.ntmps3
      have k1 := A1.out _ (HB.out _ hy0).1
      go_wp2_with fail
      refine Calls.mono k1 ?_
      rintro e w1 ⟨⟨u0, rfl, h0⟩, hbc⟩
      have hy1 := hy0.trans (hbc.mono hy0.size)
      obtain ⟨-, c0, c1, c2, c3, c4⟩ := HB.out _ hy1
      obtain ⟨raa, rac, rfl, -⟩ := id h0
      have ra : Hid (Rd plE w1 (.slice raa m1.length rac) m1) := h0
      clear h0
      clear k1 hbc hy0
      have k2 := A2.out _ (HB.out _ hy1).1
      go_wp2_with fail
      refine Calls.mono k2 ?_
      rintro e w2 ⟨⟨u0, rfl, h0⟩, hbc⟩
      have hy2 := hy1.trans (hbc.mono hy1.size)
      obtain ⟨-, c0, c1, c2, c3, c4⟩ := HB.out _ hy2
      replace ra : Hid (Rd plE w2 (.slice raa m1.length rac) m1) := Rd.below ra.out hbc
      obtain ⟨rba, rbc, rfl, -⟩ := id h0
      have rb : Hid (Rd plE w2 (.slice rba m1.length rbc) m1) := h0
      clear h0
      clear k2 hbc hy1
      have k3 := A3.out _ (HB.out _ hy2).1
      go_wp2_with fail
      refine Calls.mono k3 ?_
      rintro e w3 ⟨rfl, hbc⟩
      have hy3 := hy2.trans (hbc.mono hy2.size)
      obtain ⟨-, c0, c1, c2, c3, c4⟩ := HB.out _ hy3
      replace ra : Hid (Rd plE w3 (.slice raa m1.length rac) m1) := Rd.below ra.out hbc
      replace rb : Hid (Rd plE w3 (.slice rba m1.length rbc) m1) := Rd.below rb.out hbc
      clear k3 hbc hy2
      have k4 := A4.out _ (HB.out _ hy3).1
      go_wp2_with fail
      refine Calls.mono k4 ?_
      rintro e w4 ⟨rfl, hbc⟩
      have hy4 := hy3.trans (hbc.mono hy3.size)
      obtain ⟨-, c0, c1, c2, c3, c4⟩ := HB.out _ hy4
      replace ra : Hid (Rd plE w4 (.slice raa m1.length rac) m1) := Rd.below ra.out hbc
      replace rb : Hid (Rd plE w4 (.slice rba m1.length rbc) m1) := Rd.below rb.out hbc
      clear k4 hbc hy3
      have k5 := S1.out _ _ w4 ra.out rb.out
      go_wp2_with fail
      refine Calls.mono k5 ?_
      rintro e w5 ⟨rfl, hbc⟩
      have hy5 := hy4.trans (hbc.mono hy4.size)
      obtain ⟨-, c0, c1, c2, c3, c4⟩ := HB.out _ hy5
      clear ra rb
      clear k5 hbc hy4
      have k6 := A5.out _ (HB.out _ hy5).1
      go_wp2_with fail
      refine Calls.mono k6 ?_
      rintro e w6 ⟨⟨u0, u1, rfl, h0, h1⟩, hbc⟩
      have hy6 := hy5.trans (hbc.mono hy5.size)
      obtain ⟨-, c0, c1, c2, c3, c4⟩ := HB.out _ hy6
      obtain ⟨rca, rcc, rfl, -⟩ := id h0
      obtain ⟨rda, rdc, rfl, -⟩ := id h1
      have rc : Hid (Rd rgE w6 (.slice rca m2.length rcc) m2) := h0
      have rd : Hid (Rd plE w6 (.slice rda n2.length rdc) n2) := h1
      clear h0 h1
      clear k6 hbc hy5
      have k7 := A6.out _ (HB.out _ hy6).1
      go_wp2_with fail
      refine Calls.mono k7 ?_
      rintro e w7 ⟨⟨u0, u1, rfl, h0, h1⟩, hbc⟩
      have hy7 := hy6.trans (hbc.mono hy6.size)
      obtain ⟨-, c0, c1, c2, c3, c4⟩ := HB.out _ hy7
      replace rc : Hid (Rd rgE w7 (.slice rca m2.length rcc) m2) := Rd.below rc.out hbc
      replace rd : Hid (Rd plE w7 (.slice rda n2.length rdc) n2) := Rd.below rd.out hbc
      obtain ⟨rea, rec, rfl, -⟩ := id h0
      obtain ⟨rfa, rfc, rfl, -⟩ := id h1
      have re : Hid (Rd rgE w7 (.slice rea m2.length rec) m2) := h0
      have rf : Hid (Rd plE w7 (.slice rfa n2.length rfc) n2) := h1
      clear h0 h1
      clear k7 hbc hy6
      have k8 := S2.out _ _ w7 rd.out rf.out
      go_wp2_with fail
      refine Calls.mono k8 ?_
      rintro e w8 ⟨rfl, hbc⟩
      have hy8 := hy7.trans (hbc.mono hy7.size)
      obtain ⟨-, c0, c1, c2, c3, c4⟩ := HB.out _ hy8
      replace rc : Hid (Rd rgE w8 (.slice rca m2.length rcc) m2) := Rd.below rc.out hbc
      replace re : Hid (Rd rgE w8 (.slice rea m2.length rec) m2) := Rd.below re.out hbc
      clear rd rf
      clear k8 hbc hy7
      have k9 := S3.out _ _ w8 rc.out re.out
      go_wp2_with fail
      refine Calls.mono k9 ?_
      rintro e w9 ⟨rfl, hbc⟩
      have hy9 := hy8.trans (hbc.mono hy8.size)
      obtain ⟨-, c0, c1, c2, c3, c4⟩ := HB.out _ hy9
      clear rc re
      clear k9 hbc hy8
      have k10 := A7.out _ (HB.out _ hy9).1
      go_wp2_with fail
      refine Calls.mono k10 ?_
      rintro e w10 ⟨⟨u0, rfl, h0⟩, hbc⟩
      have hy10 := hy9.trans (hbc.mono hy9.size)
      obtain ⟨-, c0, c1, c2, c3, c4⟩ := HB.out _ hy10
      obtain ⟨rg_a, rg_c, rfl, -⟩ := id h0
      have rg_ : Hid (Rd rgE w10 (.slice rg_a m3.length rg_c) m3) := h0
      clear h0
      clear k10 hbc hy9
      have k11 := A8.out _ (HB.out _ hy10).1
      go_wp2_with fail
      refine Calls.mono k11 ?_
      rintro e w11 ⟨⟨u0, rfl, h0⟩, hbc⟩
      have hy11 := hy10.trans (hbc.mono hy10.size)
      obtain ⟨-, c0, c1, c2, c3, c4⟩ := HB.out _ hy11
      replace rg_ : Hid (Rd rgE w11 (.slice rg_a m3.length rg_c) m3) := Rd.below rg_.out hbc
      obtain ⟨rha, rhc, rfl, -⟩ := id h0
      have rh : Hid (Rd rgE w11 (.slice rha m3.length rhc) m3) := h0
      clear h0
      clear k11 hbc hy10
      have k12 := S4.out _ _ w11 rg_.out rh.out
      go_wp2_with fail
      refine Calls.mono k12 ?_
      rintro e w12 ⟨rfl, hbc⟩
      have hy12 := hy11.trans (hbc.mono hy11.size)
      obtain ⟨-, c0, c1, c2, c3, c4⟩ := HB.out _ hy12
      clear rg_ rh
      clear k12 hbc hy11
      have k13 := A9.out _ (HB.out _ hy12).1
      go_wp2_with fail
      refine Calls.mono k13 ?_
      rintro e w13 ⟨⟨u0, rfl, h0⟩, hbc⟩
      have hy13 := hy12.trans (hbc.mono hy12.size)
      obtain ⟨-, c0, c1, c2, c3, c4⟩ := HB.out _ hy13
      obtain ⟨ria, ric, rfl, -⟩ := id h0
      have ri : Hid (Rd rgE w13 (.slice ria m4.length ric) m4) := h0
      clear h0
      clear k13 hbc hy12
      have k14 := AA.out _ (HB.out _ hy13).1
      go_wp2_with fail
      refine Calls.mono k14 ?_
      rintro e w14 ⟨⟨u0, rfl, h0⟩, hbc⟩
      have hy14 := hy13.trans (hbc.mono hy13.size)
      obtain ⟨-, c0, c1, c2, c3, c4⟩ := HB.out _ hy14
      replace ri : Hid (Rd rgE w14 (.slice ria m4.length ric) m4) := Rd.below ri.out hbc
      obtain ⟨rja, rjc, rfl, -⟩ := id h0
      have rj : Hid (Rd rgE w14 (.slice rja m4.length rjc) m4) := h0
      clear h0
      clear k14 hbc hy13
      have k15 := S5.out _ _ w14 ri.out rj.out
      go_wp2_with fail
      refine Calls.mono k15 ?_
      rintro e w15 ⟨rfl, hbc⟩
      have hy15 := hy14.trans (hbc.mono hy14.size)
      obtain ⟨-, c0, c1, c2, c3, c4⟩ := HB.out _ hy15
      clear ri rj
      clear k15 hbc hy14
      have kZ := awake_of w15
      go_wp2_with fail
      refine kZ.mono ?_
      rintro e wz ⟨rfl, hbc⟩
      have hE : Hid _ := (HB.out _ (hy15.trans (hbc.mono hy15.size))).1
      clear kZ hbc
      go_wp2
      go_ret
      exact ⟨rfl, hE.out⟩
end Go.Proofs.Ytlgnnfhnkfjafaa

