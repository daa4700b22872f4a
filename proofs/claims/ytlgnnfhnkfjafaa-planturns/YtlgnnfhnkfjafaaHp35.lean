import Derived.Test.YtlgnnfhnkfjafaaHp34
/- Start of plan, and the document's. -/
namespace Go.Proofs.Ytlgnnfhnkfjafaa
open Go.RowKit SpanMath ChartMath PlanMath
set_option maxRecDepth 100000
set_option linter.unusedSimpArgs false
set_option linter.unusedVariables false

/-- What Start tells. -/
def startM (l : List Rg) (ps : List Pl) (pid : Nat) (k : K) (g : Int) : List Pl × Int := if planB l ps = true ∧ pid ≠ 0 ∧ k.length ≤ 64 ∧ gOk g = true then (if ps.length = 0 then (match findM l k with | none => ([], 1) | some i => match l[i]? with | none => ([], 1) | some r => if r.2.1 = g then ([], 6) else ([(pid, r.1, r.2.1, g, 1)], 0)) else ([], 9)) else ([], 1)
def PTurn (m : List Pl × Int) (e : Ending) (w : World) : Prop := ∃ v, e = .returned (.tuple #[v, .int .i64 m.2]) ∧ Rd plE w v m.1
theorem pl_nil (w : World) : Rd plE w (.slice none 0 0) [] := ⟨none, 0, rfl, by simp, fun _ => rfl, fun i x j u hx => by simp at hx⟩
theorem pl_one {w : World} {n : Nat} (p : Pl) (h : w.heap[n]? = some (.cells (pcs p) 45 (0, 0))) : Rd plE w (.slice (some ⟨n, 0, none⟩) 1 1) [p] := by
  refine ⟨some ⟨n, 0, none⟩, 1, rfl, by simp, (fun h => by cases h), fun i x j u hx hu => ⟨n, 0, rfl, ?_⟩⟩
  have hi : i = 0 := by
    have := (List.getElem?_eq_some_iff.1 hx).1
    simp at this
    omega
  subst hi
  obtain rfl : p = x := by simpa using hx
  rw [cells_of_block h]
  have h1 : (pcs p)[j]? = some u := by
    have : (plE.enc p)[j]? = (pcs p).toList[j]? := rfl
    rw [this] at hu
    simpa using hu
  simpa using h1
theorem start_none {l : List Rg} {ps : List Pl} {pid : Nat} {k : K} {g : Int} (h : ¬ (planB l ps = true ∧ pid ≠ 0 ∧ k.length ≤ 64 ∧ gOk g = true)) : startM l ps pid k g = ([], 1) := by
  unfold startM
  rw [if_neg h]
theorem plan_may {l : List Rg} {ps : List Pl} (h : planB l ps = true) : mayC l = true := by
  unfold planB at h
  simp only [Bool.and_eq_true] at h
  exact h.1.1
set_option maxHeartbeats 8000000 in
theorem start_of (l : List Rg) (ps : List Pl) (lv v : Value) (pid : Nat) (k : K) (g : Int) (w : World) (hF : Rd rgE w lv l) (hP : Rd plE w v ps) (hlen : l.length ≤ 1000000) (hpl : ps.length ≤ 1000000) : Calls Try.prog 7 #[lv, v, .int .u64 (pid : Int), .string (bk k), .int .i64 g] w fun e w' => PTurn (startM l ps pid k g) e w' ∧ Below w.heap.size w w' := by
  obtain ⟨T, HT⟩ : ∃ T, Hid (T = PTurn (startM l ps pid k g)) := ⟨_, rfl⟩
  rw [← HT.out]
  have kf := find_of l lv k w hF.cv
  have kc : Hid (∀ W, Below w.heap.size w W → _) := fun W hW => plcheck_of l ps lv v W (hF.cv.below hW) (hP.below hW) hlen hpl
  have kg : Hid (∀ W, _) := fun W => pgroup_of g W
  obtain ⟨po, pcap, rfl, -⟩ := id hP
  cases hf : findM l k with
  | none =>
    rw [hf] at kf
    have E : Hid (T = PTurn ([], 1)) := by
      show _ = _
      rw [HT.out, start_none]
      rintro ⟨h1, -, h3, -⟩
      have := findM_none hf
      rw [plan_may h1, decide_eq_true h3] at this
      simp at this
    simp only [findV] at kf
    obtain ⟨ao, cap, rfl, -⟩ := id hF
    clear HT hf kc kg hF hP hpl
    go_enter Try.func7, Try.ntmps7
    go_wp2_with fail
    refine kf.mono ?_
    rintro e w1 ⟨rfl, hb1⟩
    go_wp2
    go_ret2
    exact ⟨by rw [E.out]; exact ⟨_, rfl, pl_nil _⟩, hb1⟩
  | some i =>
    rw [hf] at kf
    simp only [findV] at kf
    obtain ⟨-, hk64, r, hr, -⟩ := findM_some hf
    obtain ⟨ao, cap, rfl, -⟩ := id hF
    obtain ⟨cb, coff, rfl, hc0⟩ := cv_at hF.cv hr
    have hc : Hid (∀ W, Below w.heap.size w W → _) := fun W hW => hc0 W hW
    have hil : i < l.length := (List.getElem?_eq_some_iff.1 hr).1
    have HS0 : Hid (planB l ps = true → pid ≠ 0 → gOk g = true → ps.length = 0 → startM l ps pid k g = if r.2.1 = g then ([], 6) else ([(pid, r.1, r.2.1, g, 1)], 0)) := fun h1 h2 h3 h4 => by
      unfold startM
      rw [if_pos ⟨h1, h2, hk64, h3⟩, if_pos h4, hf]
      simp only [hr]
    have HS9 : Hid (planB l ps = true → pid ≠ 0 → gOk g = true → ps.length ≠ 0 → startM l ps pid k g = ([], 9)) := fun h1 h2 h3 h4 => by
      unfold startM
      rw [if_pos ⟨h1, h2, hk64, h3⟩, if_neg h4]
    have HS1 : Hid (¬ (planB l ps = true ∧ pid ≠ 0 ∧ gOk g = true) → startM l ps pid k g = ([], 1)) := fun h => start_none fun h' => h ⟨h'.1, h'.2.1, h'.2.2.2⟩
    obtain ⟨⟨r1, r2⟩, rg, re⟩ := r
    have hili : (i : Int) < (l.length : Int) := by omega
    have j1 : (0 : Int) ≤ (i : Int) := by omega
    unfold At4 at hc
    dsimp only at hc HS0
    clear hf hr hk64 hc0 hF hP hil hpl
    cases hB : planB l ps with
    | false =>
      have E : Hid (T = PTurn ([], 1)) := by show _ = _; rw [HT.out, HS1.out (fun h => by rw [hB] at h; simp at h)]
      rw [hB] at kc
      simp only [Bool.false_eq_true, if_false] at kc
      clear HT hB HS0 HS1 HS9 kg hc
      go_enter Try.func7, Try.ntmps7
      go_wp2_with fail
      refine kf.mono ?_
      rintro e w1 ⟨rfl, hb1⟩
      have k2 := kc.out w1 hb1
      go_wp2_with fail
      refine k2.mono ?_
      rintro e w2 ⟨rfl, hbc⟩
      have hb2 := hb1.trans (hbc.mono hb1.size)
      clear k2 hbc
      go_wp2
      go_ret2
      exact ⟨by rw [E.out]; exact ⟨_, rfl, pl_nil _⟩, hb2⟩
    | true =>
      rw [hB] at kc HS0 HS9 HS1
      simp only [if_true] at kc
      clear hB
      by_cases hid : pid = 0
      · have hidd : ((pid : Int) == 0) = true := by simp [hid]
        have E : Hid (T = PTurn ([], 1)) := by show _ = _; rw [HT.out, HS1.out (fun h => h.2.1 hid)]
        clear HT HS0 HS1 HS9 kg hc hid
        go_enter Try.func7, Try.ntmps7
        go_wp2_with fail
        refine kf.mono ?_
        rintro e w1 ⟨rfl, hb1⟩
        have k2 := kc.out w1 hb1
        go_wp2_with fail
        refine k2.mono ?_
        rintro e w2 ⟨rfl, hbc⟩
        have hb2 := hb1.trans (hbc.mono hb1.size)
        clear k2 hbc
        go_wp2
        go_ret2
        exact ⟨by rw [E.out]; exact ⟨_, rfl, pl_nil _⟩, hb2⟩
      · have hidd : ((pid : Int) == 0) = false := by simpa using hid
        cases hg : gOk g with
        | false =>
          have E : Hid (T = PTurn ([], 1)) := by show _ = _; rw [HT.out, HS1.out (fun h => by rw [hg] at h; simp at h)]
          rw [hg] at kg
          clear HT HS0 HS1 HS9 hc hid hg
          go_enter Try.func7, Try.ntmps7
          go_wp2_with fail
          refine kf.mono ?_
          rintro e w1 ⟨rfl, hb1⟩
          have k2 := kc.out w1 hb1
          go_wp2_with fail
          refine k2.mono ?_
          rintro e w2 ⟨rfl, hbc⟩
          have hb2 := hb1.trans (hbc.mono hb1.size)
          clear k2 hbc
          go_wp2_with fail
          refine (kg.out _).mono ?_
          rintro e wq ⟨rfl, hq⟩
          subst wq
          go_wp2
          go_ret2
          exact ⟨by rw [E.out]; exact ⟨_, rfl, pl_nil _⟩, hb2⟩
        | true =>
          by_cases hp0 : ps.length = 0
          · have HS : Hid (T = PTurn (if rg = g then ([], 6) else ([(pid, (r1, r2), rg, g, 1)], 0))) := by show _ = _; rw [HT.out, HS0.out rfl hid hg hp0]
            rw [hg] at kg
            rw [hp0]
            rw [hp0] at kc
            clear HT HS0 HS1 HS9 hid hg hp0
            go_enter Try.func7, Try.ntmps7
            go_wp2_with fail
            refine kf.mono ?_
            rintro e w1 ⟨rfl, hb1⟩
            have k2 := kc.out w1 hb1
            go_wp2_with fail
            refine k2.mono ?_
            rintro e w2 ⟨rfl, hbc⟩
            have hb2 := hb1.trans (hbc.mono hb1.size)
            clear k2 hbc
            go_wp2_with fail
            refine (kg.out _).mono ?_
            rintro e wq ⟨rfl, hq⟩
            subst wq
            clear kc kg kf hb1
            by_cases h6 : rg = g
            · have hgd : (rg == g) = true := by simp [h6]
              have E : Hid (T = PTurn ([], 6)) := by show _ = _; rw [HS.out]; rw [if_pos h6]
              obtain ⟨y0, y1, y2, y3⟩ := hc.out _ hb2
              obtain ⟨z1, z2, z3⟩ := one_box w2 (.cells #[.string (bk r1), .string (bk r2), .int .i64 rg, .int .u64 re] 47)
              have m0 : (w2.alloc (.cells #[.string (bk r1), .string (bk r2), .int .i64 rg, .int .u64 re] 47)).cell? ⟨w2.heap.size, 0, none⟩ = some (.string (bk r1)) := by rw [cells_of_block z2]; rfl
              have m1 : (w2.alloc (.cells #[.string (bk r1), .string (bk r2), .int .i64 rg, .int .u64 re] 47)).cell? ⟨w2.heap.size, 1, none⟩ = some (.string (bk r2)) := by rw [cells_of_block z2]; rfl
              have m2 : (w2.alloc (.cells #[.string (bk r1), .string (bk r2), .int .i64 rg, .int .u64 re] 47)).cell? ⟨w2.heap.size, 2, none⟩ = some (.int .i64 rg) := by rw [cells_of_block z2]; rfl
              have hb3 : Hid (Below w.heap.size w (w2.alloc (.cells #[.string (bk r1), .string (bk r2), .int .i64 rg, .int .u64 re] 47))) := hb2.trans (z3.mono hb2.size)
              clear HS h6 hc z1 z2 z3 hb2
              go_wp2
              go_ret2
              exact ⟨by rw [E.out]; exact ⟨_, rfl, pl_nil _⟩, hb3.out⟩
            · have hgd : (rg == g) = false := by simpa using h6
              have E : Hid (T = PTurn ([(pid, (r1, r2), rg, g, 1)], 0)) := by show _ = _; rw [HS.out]; rw [if_neg h6]
              obtain ⟨y0, y1, y2, y3⟩ := hc.out _ hb2
              obtain ⟨z1, z2, z3⟩ := one_box w2 (.cells #[.string (bk r1), .string (bk r2), .int .i64 rg, .int .u64 re] 47)
              have m0 : (w2.alloc (.cells #[.string (bk r1), .string (bk r2), .int .i64 rg, .int .u64 re] 47)).cell? ⟨w2.heap.size, 0, none⟩ = some (.string (bk r1)) := by rw [cells_of_block z2]; rfl
              have m1 : (w2.alloc (.cells #[.string (bk r1), .string (bk r2), .int .i64 rg, .int .u64 re] 47)).cell? ⟨w2.heap.size, 1, none⟩ = some (.string (bk r2)) := by rw [cells_of_block z2]; rfl
              have m2 : (w2.alloc (.cells #[.string (bk r1), .string (bk r2), .int .i64 rg, .int .u64 re] 47)).cell? ⟨w2.heap.size, 2, none⟩ = some (.int .i64 rg) := by rw [cells_of_block z2]; rfl
              have hb3 : Hid (Below w.heap.size w (w2.alloc (.cells #[.string (bk r1), .string (bk r2), .int .i64 rg, .int .u64 re] 47))) := hb2.trans (z3.mono hb2.size)
              obtain ⟨n1, n2, n3⟩ := one_box (w2.alloc (.cells #[.string (bk r1), .string (bk r2), .int .i64 rg, .int .u64 re] 47)) (.cells #[.int .u64 (pid : Int), .string (bk r1), .string (bk r2), .int .i64 rg, .int .i64 g, .int .i64 1] 45)
              have hb4 : Hid (Below w.heap.size w ((w2.alloc (.cells #[.string (bk r1), .string (bk r2), .int .i64 rg, .int .u64 re] 47)).alloc (.cells #[.int .u64 (pid : Int), .string (bk r1), .string (bk r2), .int .i64 rg, .int .i64 g, .int .i64 1] 45))) := hb3.out.trans (n3.mono hb3.out.size)
              rw [z1] at n2
              have n2H : Hid (Rd plE _ (.slice (some ⟨w2.heap.size + 1, 0, none⟩) 1 1) [(pid, (r1, r2), rg, g, 1)]) := pl_one (pid, (r1, r2), rg, g, 1) n2
              clear HS h6 hc z1 z2 z3 n1 n2 n3 hb3 hb2
              go_wp2
              go_ret2
              exact ⟨by rw [E.out]; exact ⟨_, rfl, n2H.out⟩, hb4.out⟩
          · have hp1 : (0 : Int) < (ps.length : Int) := by omega
            have hp1d : decide ((0 : Int) < (ps.length : Int)) = true := decide_eq_true hp1
            have E : Hid (T = PTurn ([], 9)) := by show _ = _; rw [HT.out, HS9.out rfl hid hg hp0]
            rw [hg] at kg
            clear HT HS0 HS1 HS9 hid hg hp0 hc
            go_enter Try.func7, Try.ntmps7
            go_wp2_with fail
            refine kf.mono ?_
            rintro e w1 ⟨rfl, hb1⟩
            have k2 := kc.out w1 hb1
            go_wp2_with fail
            refine k2.mono ?_
            rintro e w2 ⟨rfl, hbc⟩
            have hb2 := hb1.trans (hbc.mono hb1.size)
            clear k2 hbc
            go_wp2_with fail
            refine (kg.out _).mono ?_
            rintro e wq ⟨rfl, hq⟩
            subst wq
            go_wp2
            go_ret2
            exact ⟨by rw [E.out]; exact ⟨_, rfl, pl_nil _⟩, hb2⟩
set_option maxHeartbeats 8000000 in
theorem rstart_of (l : List Rg) (ps : List Pl) (lv v : Value) (pid : Nat) (k : K) (g : Int) (w : World) (hF : Rd rgE w lv l) (hP : Rd plE w v ps) (hlen : l.length ≤ 1000000) (hpl : ps.length ≤ 1000000) : Calls Try.prog 8 #[lv, v, .int .u64 (pid : Int), .string (bk k), .int .i64 g] w fun e w' => PTurn (startM l ps pid k g) e w' ∧ Below w.heap.size w w' := by
  obtain ⟨T, HT⟩ : ∃ T, Hid (T = PTurn (startM l ps pid k g)) := ⟨_, rfl⟩
  rw [← HT.out]
  have km := rplmay_of l ps lv v w hF.cv hP hlen hpl
  have kf : Hid (∀ W, Below w.heap.size w W → _) := fun W hW => rfind_of l lv k W (hF.cv.below hW)
  obtain ⟨po, pcap, rfl, -⟩ := id hP
  obtain ⟨ao, cap, rfl, -⟩ := id hF
  cases hB : planB l ps with
  | false =>
    have E : Hid (T = PTurn ([], 1)) := by show _ = _; rw [HT.out, start_none (fun h => by rw [hB] at h; simp at h)]
    rw [hB] at km
    clear HT hB kf hF hP hpl
    go_enter Try.func8, Try.ntmps8
    go_wp2_with fail
    refine km.mono ?_
    rintro e w2 ⟨rfl, hb2⟩
    go_wp2
    go_ret2
    exact ⟨by rw [E.out]; exact ⟨_, rfl, pl_nil _⟩, hb2⟩
  | true =>
    rw [hB] at km
    have HN : Hid (¬ (pid ≠ 0 ∧ k.length ≤ 64 ∧ gOk g = true) → startM l ps pid k g = ([], 1)) := fun h => start_none fun h' => h h'.2
    by_cases hid : pid = 0
    · have hidd : ((pid : Int) == 0) = true := by simp [hid]
      have E : Hid (T = PTurn ([], 1)) := by show _ = _; rw [HT.out, HN.out (fun h => h.1 hid)]
      clear HT HN hB kf hid hF hP hpl
      go_enter Try.func8, Try.ntmps8
      go_wp2_with fail
      refine km.mono ?_
      rintro e w2 ⟨rfl, hb2⟩
      go_wp2
      go_ret2
      exact ⟨by rw [E.out]; exact ⟨_, rfl, pl_nil _⟩, hb2⟩
    · have hidd : ((pid : Int) == 0) = false := by simpa using hid
      by_cases hk : 64 < k.length
      · have hki : (64 : Int) < (k.length : Int) := by omega
        have hkd : decide ((64 : Int) < (k.length : Int)) = true := decide_eq_true hki
        have E : Hid (T = PTurn ([], 1)) := by show _ = _; rw [HT.out, HN.out (fun h => by have := h.2.1; omega)]
        clear HT HN hB kf hid hF hP hpl hk
        go_enter Try.func8, Try.ntmps8
        go_wp2_with fail
        refine km.mono ?_
        rintro e w2 ⟨rfl, hb2⟩
        go_wp2
        go_ret2
        exact ⟨by rw [E.out]; exact ⟨_, rfl, pl_nil _⟩, hb2⟩
      · have hki : ¬ (64 : Int) < (k.length : Int) := by omega
        have hkd : decide ((64 : Int) < (k.length : Int)) = false := decide_eq_false hki
        by_cases h1 : g < 1
        · have h1d : decide (g < 1) = true := decide_eq_true h1
          have E : Hid (T = PTurn ([], 1)) := by show _ = _; rw [HT.out, HN.out (fun h => by have := h.2.2; unfold gOk at this; simp at this; omega)]
          clear HT HN hB kf hid hF hP hpl hk
          go_enter Try.func8, Try.ntmps8
          go_wp2_with fail
          refine km.mono ?_
          rintro e w2 ⟨rfl, hb2⟩
          go_wp2
          go_ret2
          exact ⟨by rw [E.out]; exact ⟨_, rfl, pl_nil _⟩, hb2⟩
        · have h1d : decide (g < 1) = false := decide_eq_false h1
          by_cases h2 : 16 < g
          · have h2d : decide (16 < g) = true := decide_eq_true h2
            have E : Hid (T = PTurn ([], 1)) := by show _ = _; rw [HT.out, HN.out (fun h => by have := h.2.2; unfold gOk at this; simp at this; omega)]
            clear HT HN hB kf hid hF hP hpl hk
            go_enter Try.func8, Try.ntmps8
            go_wp2_with fail
            refine km.mono ?_
            rintro e w2 ⟨rfl, hb2⟩
            go_wp2
            go_ret2
            exact ⟨by rw [E.out]; exact ⟨_, rfl, pl_nil _⟩, hb2⟩
          · have h2d : decide (16 < g) = false := decide_eq_false h2
            have hg : gOk g = true := by unfold gOk; simp; omega
            by_cases hp0 : ps.length = 0
            · obtain ⟨i, hf⟩ : ∃ i, findM l k = some i := by
                cases hf : findM l k with
                | some i => exact ⟨i, rfl⟩
                | none =>
                  have := findM_none hf
                  rw [plan_may hB, decide_eq_true (by omega : k.length ≤ 64)] at this
                  simp at this
              obtain ⟨-, hk64, r, hr, -⟩ := findM_some hf
              have HS : Hid (T = PTurn (if r.2.1 = g then ([], 6) else ([(pid, r.1, r.2.1, g, 1)], 0))) := by
                show _ = _
                rw [HT.out]
                unfold startM
                rw [if_pos ⟨hB, hid, hk64, hg⟩, if_pos hp0, hf]
                simp only [hr]
              obtain ⟨cb, coff, rfl, hc0⟩ := cv_at hF.cv hr
              have hc : Hid (∀ W, Below w.heap.size w W → _) := fun W hW => hc0 W hW
              rw [hf] at kf
              simp only [idxI] at kf
              have hil : i < l.length := (List.getElem?_eq_some_iff.1 hr).1
              have hili : (i : Int) < (l.length : Int) := by omega
              have j1 : (0 : Int) ≤ (i : Int) := by omega
              obtain ⟨⟨r1, r2⟩, rg, re⟩ := r
              unfold At4 at hc
              dsimp only at hc HS
              rw [hp0]
              rw [hp0] at km
              clear HT HN hB hid hF hP hpl hk h1 h2 hg hp0 hf hr hk64 hc0 hil
              go_enter Try.func8, Try.ntmps8
              go_wp2_with fail
              refine km.mono ?_
              rintro e w2 ⟨rfl, hb2⟩
              have k3 := kf.out w2 hb2
              go_wp2_with fail
              refine k3.mono ?_
              rintro e w3 ⟨rfl, hbc⟩
              have hb3' := hb2.trans (hbc.mono hb2.size)
              clear k3 hbc
              clear km kf hb2
              by_cases h6 : rg = g
              · have hgd : (rg == g) = true := by simp [h6]
                have E : Hid (T = PTurn ([], 6)) := by show _ = _; rw [HS.out]; rw [if_pos h6]
                obtain ⟨y0, y1, y2, y3⟩ := hc.out _ hb3'
                obtain ⟨z1, z2, z3⟩ := one_box w3 (.cells #[.string (bk r1), .string (bk r2), .int .i64 rg, .int .u64 re] 47)
                have m0 : (w3.alloc (.cells #[.string (bk r1), .string (bk r2), .int .i64 rg, .int .u64 re] 47)).cell? ⟨w3.heap.size, 0, none⟩ = some (.string (bk r1)) := by rw [cells_of_block z2]; rfl
                have m1 : (w3.alloc (.cells #[.string (bk r1), .string (bk r2), .int .i64 rg, .int .u64 re] 47)).cell? ⟨w3.heap.size, 1, none⟩ = some (.string (bk r2)) := by rw [cells_of_block z2]; rfl
                have m2 : (w3.alloc (.cells #[.string (bk r1), .string (bk r2), .int .i64 rg, .int .u64 re] 47)).cell? ⟨w3.heap.size, 2, none⟩ = some (.int .i64 rg) := by rw [cells_of_block z2]; rfl
                have hb3 : Hid (Below w.heap.size w (w3.alloc (.cells #[.string (bk r1), .string (bk r2), .int .i64 rg, .int .u64 re] 47))) := hb3'.trans (z3.mono hb3'.size)
                clear HS h6 hc z1 z2 z3 hb3'
                go_wp2
                go_ret2
                exact ⟨by rw [E.out]; exact ⟨_, rfl, pl_nil _⟩, hb3.out⟩
              · have hgd : (rg == g) = false := by simpa using h6
                have E : Hid (T = PTurn ([(pid, (r1, r2), rg, g, 1)], 0)) := by show _ = _; rw [HS.out]; rw [if_neg h6]
                obtain ⟨y0, y1, y2, y3⟩ := hc.out _ hb3'
                obtain ⟨z1, z2, z3⟩ := one_box w3 (.cells #[.string (bk r1), .string (bk r2), .int .i64 rg, .int .u64 re] 47)
                have m0 : (w3.alloc (.cells #[.string (bk r1), .string (bk r2), .int .i64 rg, .int .u64 re] 47)).cell? ⟨w3.heap.size, 0, none⟩ = some (.string (bk r1)) := by rw [cells_of_block z2]; rfl
                have m1 : (w3.alloc (.cells #[.string (bk r1), .string (bk r2), .int .i64 rg, .int .u64 re] 47)).cell? ⟨w3.heap.size, 1, none⟩ = some (.string (bk r2)) := by rw [cells_of_block z2]; rfl
                have m2 : (w3.alloc (.cells #[.string (bk r1), .string (bk r2), .int .i64 rg, .int .u64 re] 47)).cell? ⟨w3.heap.size, 2, none⟩ = some (.int .i64 rg) := by rw [cells_of_block z2]; rfl
                have hb3 : Hid (Below w.heap.size w (w3.alloc (.cells #[.string (bk r1), .string (bk r2), .int .i64 rg, .int .u64 re] 47))) := hb3'.trans (z3.mono hb3'.size)
                obtain ⟨n1, n2, n3⟩ := one_box (w3.alloc (.cells #[.string (bk r1), .string (bk r2), .int .i64 rg, .int .u64 re] 47)) (.cells #[.int .u64 (pid : Int), .string (bk r1), .string (bk r2), .int .i64 rg, .int .i64 g, .int .i64 1] 45)
                have hb4 : Hid (Below w.heap.size w ((w3.alloc (.cells #[.string (bk r1), .string (bk r2), .int .i64 rg, .int .u64 re] 47)).alloc (.cells #[.int .u64 (pid : Int), .string (bk r1), .string (bk r2), .int .i64 rg, .int .i64 g, .int .i64 1] 45))) := hb3.out.trans (n3.mono hb3.out.size)
                rw [z1] at n2
                have n2H : Hid (Rd plE _ (.slice (some ⟨w3.heap.size + 1, 0, none⟩) 1 1) [(pid, (r1, r2), rg, g, 1)]) := pl_one (pid, (r1, r2), rg, g, 1) n2
                clear HS h6 hc z1 z2 z3 n1 n2 n3 hb3 hb3'
                go_wp2
                go_ret2
                exact ⟨by rw [E.out]; exact ⟨_, rfl, n2H.out⟩, hb4.out⟩
            · have hp1 : (0 : Int) < (ps.length : Int) := by omega
              have hp1d : decide ((0 : Int) < (ps.length : Int)) = true := decide_eq_true hp1
              have E : Hid (T = PTurn ([], 9)) := by
                show _ = _
                rw [HT.out]
                unfold startM
                rw [if_pos ⟨hB, hid, by omega, hg⟩, if_neg hp0]
              clear HT HN hB kf hid hF hP hpl hk hg hp0
              go_enter Try.func8, Try.ntmps8
              go_wp2_with fail
              refine km.mono ?_
              rintro e w2 ⟨rfl, hb2⟩
              go_wp2
              go_ret2
              exact ⟨by rw [E.out]; exact ⟨_, rfl, pl_nil _⟩, hb2⟩
end Go.Proofs.Ytlgnnfhnkfjafaa

