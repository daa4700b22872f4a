import Derived.Test.YtlkcfpifjocliaaHs27
import Derived.Test.YtlkcfpifjocliaaHs29
/- The law SpanKeys answers true and leaves all memory as it was: the walk. -/
namespace Go.Proofs.Ytlkcfpifjocliaa
open Go.RowKit SpanMath
set_option maxRecDepth 100000
set_option linter.unusedSimpArgs false
set_option linter.unusedVariables false

theorem resT_two {m : List Sp} {v : Value} {c : Int} {w : World} (h : ResT true m v c w) : (v = .slice none 0 0 ∧ c = 2) ∨ (m.length ≤ 64 ∧ c = 0 ∧ Rd spE w v m) := by
  unfold ResT at h
  rw [if_neg (by decide)] at h
  split at h
  · exact .inl h
  · exact .inr ⟨by omega, h⟩
theorem add_formB {l : List Sp} {s : Sp} (hl : formB l = true) (hs : may s = true) (h : (addM l s).length ≤ 64) : formB (addM l s) = true := by
  obtain ⟨_, h1, h2⟩ := formB_iff.1 hl
  obtain ⟨h3, h4⟩ := may_iff.1 hs
  exact formB_iff.2 ⟨h, add_sm h1 h3, add_form h2 h4⟩
theorem less_formB {l : List Sp} {s : Sp} (hl : formB l = true) (hs : may s = true) (h : (lessM l s).length ≤ 64) : formB (lessM l s) = true := by
  obtain ⟨_, h1, h2⟩ := formB_iff.1 hl
  obtain ⟨h3, h4⟩ := may_iff.1 hs
  exact formB_iff.2 ⟨h, less_sm h1 h3, less_form h2 h4⟩
theorem covP_iff {l : List Sp} {s : Sp} (hl : formB l = true) (hs : may s = true) : covP l s = true ↔ ∃ x ∈ l, meet x s = some s := by
  obtain ⟨_, h1, h2⟩ := formB_iff.1 hl
  unfold covP
  rw [hl, Bool.true_and, List.any_eq_true]
  have e : ∀ x ∈ l, meetP x s = meet x s := fun x hx => by
    unfold meetP
    rw [may_iff.2 ⟨h1 x hx, h2.2 x hx⟩, hs]
    rfl
  constructor
  · rintro ⟨x, hx, h⟩
    rw [decide_eq_true_eq, e x hx] at h
    exact ⟨x, hx, h⟩
  · rintro ⟨x, hx, h⟩
    exact ⟨x, hx, by rw [decide_eq_true_eq, e x hx]; exact h⟩
theorem covP_left {l : List Sp} {s : Sp} (hl : formB l = true) (hs : may s = true) : decide (SpanMath.leftOf l [s] = []) = covP l s := by
  obtain ⟨_, h1, h2⟩ := formB_iff.1 hl
  rw [Bool.eq_iff_iff, covP_iff hl hs, decide_eq_true_eq]
  exact covers_left h2 (may_iff.1 hs).2
theorem covP_add {l : List Sp} {s : Sp} (hl : formB l = true) (hs : may s = true) (h : (addM l s).length ≤ 64) : covP (addM l s) s = true := by
  obtain ⟨_, h1, h2⟩ := formB_iff.1 hl
  have h4 := (may_iff.1 hs).2
  rw [covP_iff (add_formB hl hs h) hs, ← covers_one (add_form h2 h4) h4]
  intro k hk
  rw [add_has h2 h4, hk, Bool.or_true]

set_option maxHeartbeats 32000000 in
theorem keys_law (l : List Sp) (lv : Value) (s : Sp) (k : K) (w : World) (hF : Rd spE w lv l) : Calls Try.prog 6 #[lv, sv s, .string (bk k)] w fun e w' => e = .returned (.bool true) ∧ Below w.heap.size w w' := by
  have kaw := awake_of
  have hRW : ∀ W, Below w.heap.size w W → Rd spE W lv l := fun W hW => hF.below hW
  have klt := fun W h => light_of l lv s W h
  have kad := fun W h => add_of l lv s W h
  have kls := fun W h => less_of l lv s W h
  have krf := fun W h => refForm_of l lv W h
  have kmy := fun W => may_of s W
  have kinp := fun W h => in_of l lv k W h
  have kri := fun W h hl => refIn_of l lv k W h hl
  have khr := fun W => refHas_of s k W
  have kcov := fun W h => covers_of l lv s W h
  obtain ⟨fm, HFM⟩ : ∃ fm, Hid (fm = formB l) := ⟨_, rfl⟩
  obtain ⟨my, HMY⟩ : ∃ my, Hid (my = may s) := ⟨_, rfl⟩
  rw [← HFM.out] at krf
  rw [← HMY.out] at kmy
  obtain ⟨s1, s2⟩ := s
  obtain ⟨ao, cap, hlv, -⟩ := id hF
  subst hlv
  obtain ⟨hs0, g0, hb0⟩ := one_box w (.cells #[.string (bk s1), .string (bk s2)] 23)
  have kl0 := klt _ (hRW _ hb0).sv
  rw [show LightT (w.alloc (.cells #[.string (bk s1), .string (bk s2)] 23)) = fun e w' => ∃ B, e = .returned (.bool B) ∧ Below (w.heap.size + 1) (w.alloc (.cells #[.string (bk s1), .string (bk s2)] 23)) w' by unfold LightT; rw [hs0]] at kl0
  go_enter Try.func6, Try.ntmps6
  go_wp2_with fail
  generalize w.alloc (.cells #[.string (bk s1), .string (bk s2)] 23) = w0 at *
  have clS : ∀ W, Below (w.heap.size + 1) w0 W → (fun W => (W.cell? ⟨w.heap.size, 0, none⟩ = some (.string (bk s1)) ∧ W.cell? ⟨w.heap.size, 1, none⟩ = some (.string (bk s2))) ∧ Below (w.heap.size + 1) w0 W) W := fun W hW => by
    have := (hW.block w.heap.size (Nat.lt_succ_self _)).trans g0
    exact ⟨⟨by rw [cells_of_block this]; rfl, by rw [cells_of_block this]; rfl⟩, hW⟩
  have hN : ∀ W, Below (w.heap.size + 1) w0 W → w.heap.size + 1 ≤ W.heap.size := fun W hW => by have := hW.size; omega
  have hfin : ∀ W, Below (w.heap.size + 1) w0 W → Below w.heap.size w W := fun W hW => hb0.trans (hW.mono (Nat.le_succ _))
  have st : ∀ W W', Below (w.heap.size + 1) w0 W → Below W.heap.size W W' → Below (w.heap.size + 1) w0 W' := fun W W' h h' => h.trans (h'.mono (hN W h))
  refine kl0.mono ?_
  rintro e w1 ⟨B, rfl, hb1⟩
  clear kl0 klt hb0 g0 hs0 hN hF
  cases B with
  | false =>
    clear kad kls kmy khr kcov
    have ki := kinp w1 (hRW _ (hfin _ hb1)).sv
    go_wp2_with fail
    refine ki.mono ?_
    rintro e wp ⟨rfl, hbp'⟩
    have hbp := st _ _ hb1 hbp'
    clear ki hbp'
    have kr := krf wp (hRW _ (hfin _ hbp)).sv
    cases HFM2 : fm with
    | false =>
      rw [HFM2] at kr
      have hI : inP l k = false := by unfold inP; rw [← HFM.out, HFM2]; rfl
      rw [hI]
      clear hI
      go_wp2_with fail
      refine kr.mono ?_
      rintro e wr ⟨rfl, hbr'⟩
      have hbr := st _ _ hbp hbr'
      clear kr hbr'
      go_wp2_with fail
      refine (kaw _).mono ?_
      rintro e wz ⟨rfl, hbz⟩
      go_wp2
      go_ret
      exact ⟨rfl, hfin _ (st _ _ hbr hbz)⟩
    | true =>
      by_cases hkn : k.length ≤ 64
      · have hki : (k.length : Int) ≤ 64 := by omega
        rw [HFM2] at kr
        have hI : inP l k = isIn l k := by unfold inP; rw [← HFM.out, HFM2, decide_eq_true hkn]; rfl
        rw [hI]
        clear hI
        go_wp2_with fail
        refine kr.mono ?_
        rintro e wr ⟨rfl, hbr'⟩
        have hbr := st _ _ hbp hbr'
        clear kr hbr'
        have kj := kri wr (hRW _ (hfin _ hbr)).sv (by have := (formB_iff.1 (by rw [← HFM.out]; exact HFM2)).1; omega)
        generalize isIn l k = p at *
        go_wp2_with fail
        refine kj.mono ?_
        rintro e wy ⟨rfl, hby'⟩
        have hby := st _ _ hbr hby'
        clear kj hby'
        cases p with
        | false =>
          go_wp2_with fail
          refine (kaw _).mono ?_
          rintro e wz ⟨rfl, hbz⟩
          go_wp2
          go_ret
          exact ⟨rfl, hfin _ (st _ _ hby hbz)⟩
        | true =>
          go_wp2_with fail
          refine (kaw _).mono ?_
          rintro e wz ⟨rfl, hbz⟩
          go_wp2
          go_ret
          exact ⟨rfl, hfin _ (st _ _ hby hbz)⟩
      · have hki : ¬ (k.length : Int) ≤ 64 := by omega
        rw [HFM2] at kr
        have hI : inP l k = false := by unfold inP; rw [decide_eq_false hkn, Bool.and_false]; rfl
        rw [hI]
        clear hI
        go_wp2_with fail
        refine kr.mono ?_
        rintro e wr ⟨rfl, hbr'⟩
        have hbr := st _ _ hbp hbr'
        clear kr hbr'
        go_wp2_with fail
        refine (kaw _).mono ?_
        rintro e wz ⟨rfl, hbz⟩
        go_wp2
        go_ret
        exact ⟨rfl, hfin _ (st _ _ hbr hbz)⟩
  | true =>
    have kr1 := krf w1 (hRW _ (hfin _ hb1)).sv
    go_wp2_with fail
    refine kr1.mono ?_
    rintro e w2 ⟨rfl, hb2'⟩
    have hb2 := st _ _ hb1 hb2'
    clear kr1 hb1 hb2'
    cases hfm : fm with
    | false =>
      clear kad kls kmy khr kcov
      have HFM2 : fm = false := hfm
      have ki := kinp w2 (hRW _ (hfin _ hb2)).sv
      go_wp2_with fail
      refine ki.mono ?_
      rintro e wp ⟨rfl, hbp'⟩
      have hbp := st _ _ hb2 hbp'
      clear ki hbp'
      have kr := krf wp (hRW _ (hfin _ hbp)).sv
      rw [HFM2] at kr
      have hI : inP l k = false := by unfold inP; rw [← HFM.out, HFM2]; rfl
      rw [hI]
      clear hI
      go_wp2_with fail
      refine kr.mono ?_
      rintro e wr ⟨rfl, hbr'⟩
      have hbr := st _ _ hbp hbr'
      clear kr hbr'
      go_wp2_with fail
      refine (kaw _).mono ?_
      rintro e wz ⟨rfl, hbz⟩
      go_wp2
      go_ret
      exact ⟨rfl, hfin _ (st _ _ hbr hbz)⟩
    | true =>
      have HFM2 : fm = true := hfm
      have km2 := kmy w2
      obtain ⟨y0, y1⟩ := (clS w2 hb2).1
      rw [hfm] at krf
      clear hfm
      go_wp2_with fail
      refine km2.mono ?_
      rintro e w3 ⟨rfl, hb3'⟩
      have hb3 := st _ _ hb2 hb3'
      clear km2 hb2 hb3' y0 y1 kmy
      cases hmy : my with
      | false =>
        clear kad kls khr kcov hmy
        by_cases hkn : k.length ≤ 64
        · have hki : (k.length : Int) ≤ 64 := by omega
          have ki := kinp w3 (hRW _ (hfin _ hb3)).sv
          go_wp2_with fail
          refine ki.mono ?_
          rintro e wp ⟨rfl, hbp'⟩
          have hbp := st _ _ hb3 hbp'
          clear ki hbp'
          have kr := krf wp (hRW _ (hfin _ hbp)).sv
          have hI : inP l k = isIn l k := by unfold inP; rw [← HFM.out, HFM2, decide_eq_true hkn]; rfl
          rw [hI]
          clear hI
          go_wp2_with fail
          refine kr.mono ?_
          rintro e wr ⟨rfl, hbr'⟩
          have hbr := st _ _ hbp hbr'
          clear kr hbr'
          have kj := kri wr (hRW _ (hfin _ hbr)).sv (by have := (formB_iff.1 (by rw [← HFM.out]; exact HFM2)).1; omega)
          generalize isIn l k = p at *
          go_wp2_with fail
          refine kj.mono ?_
          rintro e wy ⟨rfl, hby'⟩
          have hby := st _ _ hbr hby'
          clear kj hby'
          cases p with
          | false =>
            go_wp2_with fail
            refine (kaw _).mono ?_
            rintro e wz ⟨rfl, hbz⟩
            go_wp2
            go_ret
            exact ⟨rfl, hfin _ (st _ _ hby hbz)⟩
          | true =>
            go_wp2_with fail
            refine (kaw _).mono ?_
            rintro e wz ⟨rfl, hbz⟩
            go_wp2
            go_ret
            exact ⟨rfl, hfin _ (st _ _ hby hbz)⟩
        · have hki : ¬ (k.length : Int) ≤ 64 := by omega
          have ki := kinp w3 (hRW _ (hfin _ hb3)).sv
          go_wp2_with fail
          refine ki.mono ?_
          rintro e wp ⟨rfl, hbp'⟩
          have hbp := st _ _ hb3 hbp'
          clear ki hbp'
          have kr := krf wp (hRW _ (hfin _ hbp)).sv
          have hI : inP l k = false := by unfold inP; rw [decide_eq_false hkn, Bool.and_false]; rfl
          rw [hI]
          clear hI
          go_wp2_with fail
          refine kr.mono ?_
          rintro e wr ⟨rfl, hbr'⟩
          have hbr := st _ _ hbp hbr'
          clear kr hbr'
          go_wp2_with fail
          refine (kaw _).mono ?_
          rintro e wz ⟨rfl, hbz⟩
          go_wp2
          go_ret
          exact ⟨rfl, hfin _ (st _ _ hbr hbz)⟩
      | true =>
        by_cases hkn : k.length ≤ 64
        · have hki : ¬ (64 : Int) < (k.length : Int) := by omega
          have hform : formB l = true := by rw [← HFM.out]; exact HFM2
          have hmay : may (s1, s2) = true := by rw [← HMY.out]; exact hmy
          have hll : l.length ≤ 64 := (formB_iff.1 hform).1
          obtain ⟨p, hpH⟩ : ∃ p, Hid (p = isIn l k) := ⟨_, rfl⟩
          obtain ⟨q, hqH⟩ : ∃ q, Hid (q = has (s1, s2) k) := ⟨_, rfl⟩
          rw [hform, hmay] at kad kls
          obtain ⟨ma, hma⟩ : ∃ ma, Hid (ma = addM l (s1, s2)) := ⟨_, rfl⟩
          obtain ⟨mb, hmb⟩ : ∃ mb, Hid (mb = lessM l (s1, s2)) := ⟨_, rfl⟩
          have h4 := (may_iff.1 hmay).2
          have hfl := (formB_iff.1 hform).2.2
          have hia : ma.length ≤ 64 → inP ma k = (p || q) := fun h => by
            rw [hma.out] at h ⊢
            unfold inP
            rw [add_formB hform hmay h, decide_eq_true hkn, add_has hfl h4, ← hpH.out, ← hqH.out]; rfl
          have hib : mb.length ≤ 64 → inP mb k = (p && !q) := fun h => by
            rw [hmb.out] at h ⊢
            unfold inP
            rw [less_formB hform hmay h, decide_eq_true hkn, less_has h4, ← hpH.out, ← hqH.out]; rfl
          have hca : ma.length ≤ 64 → covP ma (s1, s2) = true := fun h => by
            rw [hma.out] at h ⊢
            exact covP_add hform hmay h
          have kcvl := fun W h => coversL_of l (.slice ao l.length cap) (s1, s2) W h hll hfl.2 h4
          rw [covP_left hform hmay] at kcvl
          obtain ⟨c, hcH⟩ : ∃ c, Hid (c = covP l (s1, s2)) := ⟨_, rfl⟩
          rw [← hcH.out] at kcvl kcov
          rw [← hma.out] at kad
          rw [← hmb.out] at kls
          have hbD : Below (w.heap.size + 1) w0 w3.drew := hb3.drew
          have kin : ∀ W, (fun W => (W.cell? ⟨w.heap.size, 0, none⟩ = some (.string (bk s1)) ∧ W.cell? ⟨w.heap.size, 1, none⟩ = some (.string (bk s2))) ∧ Below (w.heap.size + 1) w0 W) W → Calls Try.prog 23 #[.slice ao l.length cap, .string (bk k)] W fun e w' => e = .returned (.bool p) ∧ (fun W => (W.cell? ⟨w.heap.size, 0, none⟩ = some (.string (bk s1)) ∧ W.cell? ⟨w.heap.size, 1, none⟩ = some (.string (bk s2))) ∧ Below (w.heap.size + 1) w0 W) w' := fun W hW => by
            refine (kri W (hRW _ (hfin _ hW.2)).sv (by omega)).mono ?_
            rintro e w' ⟨rfl, hb'⟩
            exact ⟨by rw [hpH.out], clS w' (st _ _ hW.2 hb')⟩
          have khs : ∀ W, (fun W => (W.cell? ⟨w.heap.size, 0, none⟩ = some (.string (bk s1)) ∧ W.cell? ⟨w.heap.size, 1, none⟩ = some (.string (bk s2))) ∧ Below (w.heap.size + 1) w0 W) W → Calls Try.prog 15 #[.agg #[.string (bk s1), .string (bk s2)], .string (bk k)] W fun e w' => e = .returned (.bool q) ∧ (fun W => (W.cell? ⟨w.heap.size, 0, none⟩ = some (.string (bk s1)) ∧ W.cell? ⟨w.heap.size, 1, none⟩ = some (.string (bk s2))) ∧ Below (w.heap.size + 1) w0 W) w' := fun W hW => by
            refine (khr W).mono ?_
            rintro e w' ⟨rfl, hb'⟩
            exact ⟨by rw [hqH.out], clS w' (st _ _ hW.2 hb')⟩
          have hp0 : Hid (isIn l k = p) := hpH.out.symm
          clear kri khr h4 hfl hma hmb hqH hcH hmy hmay krf
          go_wp2
          refine wp_region_L (fun W => (W.cell? ⟨w.heap.size, 0, none⟩ = some (.string (bk s1)) ∧ W.cell? ⟨w.heap.size, 1, none⟩ = some (.string (bk s2))) ∧ Below (w.heap.size + 1) w0 W) [] (by kernel_rfl) ?_
          have yS : (fun W => (W.cell? ⟨w.heap.size, 0, none⟩ = some (.string (bk s1)) ∧ W.cell? ⟨w.heap.size, 1, none⟩ = some (.string (bk s2))) ∧ Below (w.heap.size + 1) w0 W) w3.drew := clS _ hbD
          refine wpAnyL_take 0 rfl (by kernel_rfl) (by kernel_rfl) (by kernel_rfl) (by kernel_rfl) (fun _ _ _ h => h) (by kernel_rfl) (by intro w' hS'; obtain ⟨⟨x0, x1⟩, x2⟩ := hS'; go_simp <;> rfl) yS ?_
          try simp only [List.getElem_toArray, List.getElem_cons_succ, List.getElem_cons_zero, Act.put, List.setIfInBounds_toArray, List.set_cons_zero, List.set_cons_succ]
          refine wpAnyL_take 1 rfl (by kernel_rfl) (by kernel_rfl) (by kernel_rfl) (by kernel_rfl) (fun _ _ _ h => h) (by kernel_rfl) (by intro w' hS'; obtain ⟨⟨x0, x1⟩, x2⟩ := hS'; go_simp <;> rfl) yS ?_
          try simp only [List.getElem_toArray, List.getElem_cons_succ, List.getElem_cons_zero, Act.put, List.setIfInBounds_toArray, List.set_cons_zero, List.set_cons_succ]
          refine wpAnyL_take 3 rfl (by kernel_rfl) (by kernel_rfl) (by kernel_rfl) (by kernel_rfl) (fun _ _ _ h => h) (by kernel_rfl) (by intro w' hS'; obtain ⟨⟨x0, x1⟩, x2⟩ := hS'; go_simp <;> rfl) yS ?_
          try simp only [List.getElem_toArray, List.getElem_cons_succ, List.getElem_cons_zero, Act.put, List.setIfInBounds_toArray, List.set_cons_zero, List.set_cons_succ]
          refine wpAnyL_take 4 rfl (by kernel_rfl) (by kernel_rfl) (by kernel_rfl) (by kernel_rfl) (fun _ _ _ h => h) (by kernel_rfl) (by intro w' hS'; obtain ⟨⟨x0, x1⟩, x2⟩ := hS'; go_simp <;> rfl) yS ?_
          try simp only [List.getElem_toArray, List.getElem_cons_succ, List.getElem_cons_zero, Act.put, List.setIfInBounds_toArray, List.set_cons_zero, List.set_cons_succ]
          refine wpAnyL_one 2 (by kernel_rfl) rfl (by kernel_rfl) ?_
          intro K' hK'
          go_simp
          go_at_call 23
          refine (kin _ yS).mono ?_
          rintro e W1 ⟨rfl, hS1⟩
          refine hK'.out _ _ (.inr hS1) ?_
          clear hK' K'
          try simp only [List.getElem_toArray, List.getElem_cons_succ, List.getElem_cons_zero, Act.put, List.setIfInBounds_toArray, List.set_cons_zero, List.set_cons_succ]
          refine wpAnyL_one 5 (by kernel_rfl) rfl (by kernel_rfl) ?_
          intro K' hK'
          go_simp
          go_at_call 15
          refine (khs _ hS1).mono ?_
          rintro e W2 ⟨rfl, hS2⟩
          refine hK'.out _ _ (.inr hS2) ?_
          clear hK' K'
          try simp only [List.getElem_toArray, List.getElem_cons_succ, List.getElem_cons_zero, Act.put, List.setIfInBounds_toArray, List.set_cons_zero, List.set_cons_succ]
          refine wpAnyL_take 6 rfl (by kernel_rfl) (by kernel_rfl) (by kernel_rfl) (by kernel_rfl) (fun _ _ _ h => h) (by kernel_rfl) (by intro w' hS'; obtain ⟨⟨x0, x1⟩, x2⟩ := hS'; go_simp <;> rfl) hS2 ?_
          try simp only [List.getElem_toArray, List.getElem_cons_succ, List.getElem_cons_zero, Act.put, List.setIfInBounds_toArray, List.set_cons_zero, List.set_cons_succ]
          refine wpAnyL_take 7 rfl (by kernel_rfl) (by kernel_rfl) (by kernel_rfl) (by kernel_rfl) (fun _ _ _ h => h) (by kernel_rfl) (by intro w' hS'; obtain ⟨⟨x0, x1⟩, x2⟩ := hS'; go_simp <;> rfl) hS2 ?_
          try simp only [List.getElem_toArray, List.getElem_cons_succ, List.getElem_cons_zero, Act.put, List.setIfInBounds_toArray, List.set_cons_zero, List.set_cons_succ]
          refine wpAnyL_done (by kernel_rfl) (NoPanic.normal ?_) _
          have hb4 := hS2.2
          have ka4 := kad W2 (hRW _ (hfin _ hb4)).sv
          obtain ⟨y0, y1⟩ := hS2.1
          clear kin khs hS1 hS2 kad hb3 hbD yS
          go_wp2_with fail
          refine ka4.mono ?_
          rintro e w4 ⟨va, ca, rfl, hRa, hb5'⟩
          have hb45 := st _ _ hb4 hb5'
          have kl4 := kls w4 (hRW _ (hfin _ hb45)).sv
          clear ka4 hb4 hb5' kls y0 y1
          obtain ⟨y0, y1⟩ := (clS w4 hb45).1
          go_wp2_with fail
          refine kl4.mono ?_
          rintro e w5 ⟨vb, cb, rfl, hRb, hb5'⟩
          have hb5 := st _ _ hb45 hb5'
          replace hRa := hRa.below hb5'
          clear kl4 hb45 hb5' y0 y1
          rw [show (true && true) = true from rfl] at hRa hRb
          cases p with
          | false =>
            have hp : isIn l k = false := hp0.out
            clear hp0 hpH
            cases q with
            | false =>
              have hq : True := trivial
              have hip : inP l k = false := by unfold inP; rw [hform, decide_eq_true hkn, Bool.true_and, Bool.true_and]; exact hp
              have ki := kinp w5 (hRW _ (hfin _ hb5)).sv
              rw [hip] at ki
              clear hip
              obtain ⟨y0, y1⟩ := (clS w5 hb5).1
              go_wp2_with fail
              refine (ki).mono ?_
              rintro e w6 ⟨rfl, hb6'⟩
              have hb6 := st _ _ hb5 hb6'
              replace hRa := hRa.below hb6'
              replace hRb := hRb.below hb6'
              obtain ⟨y0, y1⟩ := (clS w6 hb6).1
              clear ki hb6'
              rcases resT_two hRa with ⟨rfl, rfl⟩ | ⟨h64a, rfl, hRda⟩
              · clear hRa
                rcases resT_two hRb with ⟨rfl, rfl⟩ | ⟨h64b, rfl, hRdb⟩
                · obtain ⟨wN, hwN⟩ : ∃ wN, wN = w6 := ⟨_, rfl⟩
                  subst hwN
                  have hbN := hb6
                  clear hRb
                  have hbD : Below (w.heap.size + 1) w0 wN.drew := hbN.drew
                  have kcv : ∀ W, (fun W => (W.cell? ⟨w.heap.size, 0, none⟩ = some (.string (bk s1)) ∧ W.cell? ⟨w.heap.size, 1, none⟩ = some (.string (bk s2))) ∧ Below (w.heap.size + 1) w0 W) W → Calls Try.prog 24 #[.slice ao l.length cap, .agg #[.string (bk s1), .string (bk s2)]] W fun e w' => e = .returned (.bool c) ∧ (fun W => (W.cell? ⟨w.heap.size, 0, none⟩ = some (.string (bk s1)) ∧ W.cell? ⟨w.heap.size, 1, none⟩ = some (.string (bk s2))) ∧ Below (w.heap.size + 1) w0 W) w' := fun W hW => by
                    refine (kcov W (hRW _ (hfin _ hW.2)).sv).mono ?_
                    rintro e w' ⟨rfl, hb'⟩
                    exact ⟨rfl, clS w' (st _ _ hW.2 hb')⟩
                  have kcl : ∀ W, (fun W => (W.cell? ⟨w.heap.size, 0, none⟩ = some (.string (bk s1)) ∧ W.cell? ⟨w.heap.size, 1, none⟩ = some (.string (bk s2))) ∧ Below (w.heap.size + 1) w0 W) W → Calls Try.prog 25 #[.slice ao l.length cap, .agg #[.string (bk s1), .string (bk s2)]] W fun e w' => e = .returned (.bool c) ∧ (fun W => (W.cell? ⟨w.heap.size, 0, none⟩ = some (.string (bk s1)) ∧ W.cell? ⟨w.heap.size, 1, none⟩ = some (.string (bk s2))) ∧ Below (w.heap.size + 1) w0 W) w' := fun W hW => by
                    refine (kcvl W (hRW _ (hfin _ hW.2)).sv).mono ?_
                    rintro e w' ⟨rfl, hb'⟩
                    exact ⟨rfl, clS w' (st _ _ hW.2 hb')⟩
                  have kA : ∀ W, (fun W => (W.cell? ⟨w.heap.size, 0, none⟩ = some (.string (bk s1)) ∧ W.cell? ⟨w.heap.size, 1, none⟩ = some (.string (bk s2))) ∧ Below (w.heap.size + 1) w0 W) W → Calls Try.prog 11 #[] W fun e w' => e = .returned (.bool true) ∧ (fun W => (W.cell? ⟨w.heap.size, 0, none⟩ = some (.string (bk s1)) ∧ W.cell? ⟨w.heap.size, 1, none⟩ = some (.string (bk s2))) ∧ Below (w.heap.size + 1) w0 W) w' := fun W hW => by
                    refine (kaw W).mono ?_
                    rintro e w' ⟨rfl, hb'⟩
                    exact ⟨rfl, clS w' (st _ _ hW.2 hb')⟩
                  clear kcov kcvl kaw
                  go_wp2
                  refine wp_region_L (fun W => (W.cell? ⟨w.heap.size, 0, none⟩ = some (.string (bk s1)) ∧ W.cell? ⟨w.heap.size, 1, none⟩ = some (.string (bk s2))) ∧ Below (w.heap.size + 1) w0 W) [] (by kernel_rfl) ?_
                  have yS : (fun W => (W.cell? ⟨w.heap.size, 0, none⟩ = some (.string (bk s1)) ∧ W.cell? ⟨w.heap.size, 1, none⟩ = some (.string (bk s2))) ∧ Below (w.heap.size + 1) w0 W) wN.drew := clS _ hbD
                  refine wpAnyL_take 0 rfl (by kernel_rfl) (by kernel_rfl) (by kernel_rfl) (by kernel_rfl) (fun _ _ _ h => h) (by kernel_rfl) (by intro w' hS'; obtain ⟨⟨x0, x1⟩, x2⟩ := hS'; go_simp <;> rfl) yS ?_
                  try simp only [List.getElem_toArray, List.getElem_cons_succ, List.getElem_cons_zero, Act.put, List.setIfInBounds_toArray, List.set_cons_zero, List.set_cons_succ]
                  refine wpAnyL_take 1 rfl (by kernel_rfl) (by kernel_rfl) (by kernel_rfl) (by kernel_rfl) (fun _ _ _ h => h) (by kernel_rfl) (by intro w' hS'; obtain ⟨⟨x0, x1⟩, x2⟩ := hS'; go_simp <;> rfl) yS ?_
                  try simp only [List.getElem_toArray, List.getElem_cons_succ, List.getElem_cons_zero, Act.put, List.setIfInBounds_toArray, List.set_cons_zero, List.set_cons_succ]
                  refine wpAnyL_take 3 rfl (by kernel_rfl) (by kernel_rfl) (by kernel_rfl) (by kernel_rfl) (fun _ _ _ h => h) (by kernel_rfl) (by intro w' hS'; obtain ⟨⟨x0, x1⟩, x2⟩ := hS'; go_simp <;> rfl) yS ?_
                  try simp only [List.getElem_toArray, List.getElem_cons_succ, List.getElem_cons_zero, Act.put, List.setIfInBounds_toArray, List.set_cons_zero, List.set_cons_succ]
                  refine wpAnyL_take 4 rfl (by kernel_rfl) (by kernel_rfl) (by kernel_rfl) (by kernel_rfl) (fun _ _ _ h => h) (by kernel_rfl) (by intro w' hS'; obtain ⟨⟨x0, x1⟩, x2⟩ := hS'; go_simp <;> rfl) yS ?_
                  try simp only [List.getElem_toArray, List.getElem_cons_succ, List.getElem_cons_zero, Act.put, List.setIfInBounds_toArray, List.set_cons_zero, List.set_cons_succ]
                  refine wpAnyL_one 2 (by kernel_rfl) rfl (by kernel_rfl) ?_
                  intro K' hK'
                  go_simp
                  go_at_call 24
                  refine (kcv _ yS).mono ?_
                  rintro e W1 ⟨rfl, hS1⟩
                  refine hK'.out _ _ (.inr hS1) ?_
                  clear hK' K'
                  try simp only [List.getElem_toArray, List.getElem_cons_succ, List.getElem_cons_zero, Act.put, List.setIfInBounds_toArray, List.set_cons_zero, List.set_cons_succ]
                  refine wpAnyL_one 5 (by kernel_rfl) rfl (by kernel_rfl) ?_
                  intro K' hK'
                  go_simp
                  go_at_call 25
                  refine (kcl _ hS1).mono ?_
                  rintro e W2 ⟨rfl, hS2⟩
                  refine hK'.out _ _ (.inr hS2) ?_
                  clear hK' K'
                  try simp only [List.getElem_toArray, List.getElem_cons_succ, List.getElem_cons_zero, Act.put, List.setIfInBounds_toArray, List.set_cons_zero, List.set_cons_succ]
                  refine wpAnyL_take 6 rfl (by kernel_rfl) (by kernel_rfl) (by kernel_rfl) (by kernel_rfl) (fun _ _ _ h => h) (by kernel_rfl) (by intro w' hS'; obtain ⟨⟨x0, x1⟩, x2⟩ := hS'; go_simp <;> rfl) hS2 ?_
                  try simp only [List.getElem_toArray, List.getElem_cons_succ, List.getElem_cons_zero, Act.put, List.setIfInBounds_toArray, List.set_cons_zero, List.set_cons_succ]
                  refine wpAnyL_take 7 rfl (by kernel_rfl) (by kernel_rfl) (by kernel_rfl) (by kernel_rfl) (fun _ _ _ h => h) (by kernel_rfl) (by intro w' hS'; obtain ⟨⟨x0, x1⟩, x2⟩ := hS'; go_simp <;> rfl) hS2 ?_
                  try simp only [List.getElem_toArray, List.getElem_cons_succ, List.getElem_cons_zero, Act.put, List.setIfInBounds_toArray, List.set_cons_zero, List.set_cons_succ]
                  refine wpAnyL_one 8 (by kernel_rfl) rfl (by kernel_rfl) ?_
                  intro K' hK'
                  go_simp
                  go_at_call 11
                  refine (kA _ hS2).mono ?_
                  rintro e W3 ⟨rfl, hS3⟩
                  refine hK'.out _ _ (.inr hS3) ?_
                  clear hK' K'
                  try simp only [List.getElem_toArray, List.getElem_cons_succ, List.getElem_cons_zero, Act.put, List.setIfInBounds_toArray, List.set_cons_zero, List.set_cons_succ]
                  refine wpAnyL_take 9 rfl (by kernel_rfl) (by kernel_rfl) (by kernel_rfl) (by kernel_rfl) (fun _ _ _ h => h) (by kernel_rfl) (by intro w' hS'; obtain ⟨⟨x0, x1⟩, x2⟩ := hS'; go_simp <;> rfl) hS3 ?_
                  try simp only [List.getElem_toArray, List.getElem_cons_succ, List.getElem_cons_zero, Act.put, List.setIfInBounds_toArray, List.set_cons_zero, List.set_cons_succ]
                  refine wpAnyL_take 10 rfl (by kernel_rfl) (by kernel_rfl) (by kernel_rfl) (by kernel_rfl) (fun _ _ _ h => h) (by kernel_rfl) (by intro w' hS'; obtain ⟨⟨x0, x1⟩, x2⟩ := hS'; go_simp <;> rfl) hS3 ?_
                  try simp only [List.getElem_toArray, List.getElem_cons_succ, List.getElem_cons_zero, Act.put, List.setIfInBounds_toArray, List.set_cons_zero, List.set_cons_succ]
                  refine wpAnyL_done (by kernel_rfl) (NoPanic.normal ?_) _
                  go_wp2
                  go_ret
                  exact ⟨rfl, hfin _ hS3.2⟩
                · have kib := in_of mb vb k w6 hRdb.sv
                  rw [hib h64b] at kib
                  simp only [hp, hq, Bool.true_and, Bool.false_and, Bool.not_true, Bool.not_false, Bool.and_true, Bool.and_false] at kib
                  obtain ⟨ab, cb', hvb, -⟩ := id hRdb
                  subst hvb
                  clear hRb hRdb
                  go_wp2_with fail
                  refine (kib).mono ?_
                  rintro e wN ⟨rfl, hbN'⟩
                  have hbN := st _ _ hb6 hbN'
                  clear kib
                  have hbD : Below (w.heap.size + 1) w0 wN.drew := hbN.drew
                  have kcv : ∀ W, (fun W => (W.cell? ⟨w.heap.size, 0, none⟩ = some (.string (bk s1)) ∧ W.cell? ⟨w.heap.size, 1, none⟩ = some (.string (bk s2))) ∧ Below (w.heap.size + 1) w0 W) W → Calls Try.prog 24 #[.slice ao l.length cap, .agg #[.string (bk s1), .string (bk s2)]] W fun e w' => e = .returned (.bool c) ∧ (fun W => (W.cell? ⟨w.heap.size, 0, none⟩ = some (.string (bk s1)) ∧ W.cell? ⟨w.heap.size, 1, none⟩ = some (.string (bk s2))) ∧ Below (w.heap.size + 1) w0 W) w' := fun W hW => by
                    refine (kcov W (hRW _ (hfin _ hW.2)).sv).mono ?_
                    rintro e w' ⟨rfl, hb'⟩
                    exact ⟨rfl, clS w' (st _ _ hW.2 hb')⟩
                  have kcl : ∀ W, (fun W => (W.cell? ⟨w.heap.size, 0, none⟩ = some (.string (bk s1)) ∧ W.cell? ⟨w.heap.size, 1, none⟩ = some (.string (bk s2))) ∧ Below (w.heap.size + 1) w0 W) W → Calls Try.prog 25 #[.slice ao l.length cap, .agg #[.string (bk s1), .string (bk s2)]] W fun e w' => e = .returned (.bool c) ∧ (fun W => (W.cell? ⟨w.heap.size, 0, none⟩ = some (.string (bk s1)) ∧ W.cell? ⟨w.heap.size, 1, none⟩ = some (.string (bk s2))) ∧ Below (w.heap.size + 1) w0 W) w' := fun W hW => by
                    refine (kcvl W (hRW _ (hfin _ hW.2)).sv).mono ?_
                    rintro e w' ⟨rfl, hb'⟩
                    exact ⟨rfl, clS w' (st _ _ hW.2 hb')⟩
                  have kA : ∀ W, (fun W => (W.cell? ⟨w.heap.size, 0, none⟩ = some (.string (bk s1)) ∧ W.cell? ⟨w.heap.size, 1, none⟩ = some (.string (bk s2))) ∧ Below (w.heap.size + 1) w0 W) W → Calls Try.prog 11 #[] W fun e w' => e = .returned (.bool true) ∧ (fun W => (W.cell? ⟨w.heap.size, 0, none⟩ = some (.string (bk s1)) ∧ W.cell? ⟨w.heap.size, 1, none⟩ = some (.string (bk s2))) ∧ Below (w.heap.size + 1) w0 W) w' := fun W hW => by
                    refine (kaw W).mono ?_
                    rintro e w' ⟨rfl, hb'⟩
                    exact ⟨rfl, clS w' (st _ _ hW.2 hb')⟩
                  clear kcov kcvl kaw
                  go_wp2
                  refine wp_region_L (fun W => (W.cell? ⟨w.heap.size, 0, none⟩ = some (.string (bk s1)) ∧ W.cell? ⟨w.heap.size, 1, none⟩ = some (.string (bk s2))) ∧ Below (w.heap.size + 1) w0 W) [] (by kernel_rfl) ?_
                  have yS : (fun W => (W.cell? ⟨w.heap.size, 0, none⟩ = some (.string (bk s1)) ∧ W.cell? ⟨w.heap.size, 1, none⟩ = some (.string (bk s2))) ∧ Below (w.heap.size + 1) w0 W) wN.drew := clS _ hbD
                  refine wpAnyL_take 0 rfl (by kernel_rfl) (by kernel_rfl) (by kernel_rfl) (by kernel_rfl) (fun _ _ _ h => h) (by kernel_rfl) (by intro w' hS'; obtain ⟨⟨x0, x1⟩, x2⟩ := hS'; go_simp <;> rfl) yS ?_
                  try simp only [List.getElem_toArray, List.getElem_cons_succ, List.getElem_cons_zero, Act.put, List.setIfInBounds_toArray, List.set_cons_zero, List.set_cons_succ]
                  refine wpAnyL_take 1 rfl (by kernel_rfl) (by kernel_rfl) (by kernel_rfl) (by kernel_rfl) (fun _ _ _ h => h) (by kernel_rfl) (by intro w' hS'; obtain ⟨⟨x0, x1⟩, x2⟩ := hS'; go_simp <;> rfl) yS ?_
                  try simp only [List.getElem_toArray, List.getElem_cons_succ, List.getElem_cons_zero, Act.put, List.setIfInBounds_toArray, List.set_cons_zero, List.set_cons_succ]
                  refine wpAnyL_take 3 rfl (by kernel_rfl) (by kernel_rfl) (by kernel_rfl) (by kernel_rfl) (fun _ _ _ h => h) (by kernel_rfl) (by intro w' hS'; obtain ⟨⟨x0, x1⟩, x2⟩ := hS'; go_simp <;> rfl) yS ?_
                  try simp only [List.getElem_toArray, List.getElem_cons_succ, List.getElem_cons_zero, Act.put, List.setIfInBounds_toArray, List.set_cons_zero, List.set_cons_succ]
                  refine wpAnyL_take 4 rfl (by kernel_rfl) (by kernel_rfl) (by kernel_rfl) (by kernel_rfl) (fun _ _ _ h => h) (by kernel_rfl) (by intro w' hS'; obtain ⟨⟨x0, x1⟩, x2⟩ := hS'; go_simp <;> rfl) yS ?_
                  try simp only [List.getElem_toArray, List.getElem_cons_succ, List.getElem_cons_zero, Act.put, List.setIfInBounds_toArray, List.set_cons_zero, List.set_cons_succ]
                  refine wpAnyL_one 2 (by kernel_rfl) rfl (by kernel_rfl) ?_
                  intro K' hK'
                  go_simp
                  go_at_call 24
                  refine (kcv _ yS).mono ?_
                  rintro e W1 ⟨rfl, hS1⟩
                  refine hK'.out _ _ (.inr hS1) ?_
                  clear hK' K'
                  try simp only [List.getElem_toArray, List.getElem_cons_succ, List.getElem_cons_zero, Act.put, List.setIfInBounds_toArray, List.set_cons_zero, List.set_cons_succ]
                  refine wpAnyL_one 5 (by kernel_rfl) rfl (by kernel_rfl) ?_
                  intro K' hK'
                  go_simp
                  go_at_call 25
                  refine (kcl _ hS1).mono ?_
                  rintro e W2 ⟨rfl, hS2⟩
                  refine hK'.out _ _ (.inr hS2) ?_
                  clear hK' K'
                  try simp only [List.getElem_toArray, List.getElem_cons_succ, List.getElem_cons_zero, Act.put, List.setIfInBounds_toArray, List.set_cons_zero, List.set_cons_succ]
                  refine wpAnyL_take 6 rfl (by kernel_rfl) (by kernel_rfl) (by kernel_rfl) (by kernel_rfl) (fun _ _ _ h => h) (by kernel_rfl) (by intro w' hS'; obtain ⟨⟨x0, x1⟩, x2⟩ := hS'; go_simp <;> rfl) hS2 ?_
                  try simp only [List.getElem_toArray, List.getElem_cons_succ, List.getElem_cons_zero, Act.put, List.setIfInBounds_toArray, List.set_cons_zero, List.set_cons_succ]
                  refine wpAnyL_take 7 rfl (by kernel_rfl) (by kernel_rfl) (by kernel_rfl) (by kernel_rfl) (fun _ _ _ h => h) (by kernel_rfl) (by intro w' hS'; obtain ⟨⟨x0, x1⟩, x2⟩ := hS'; go_simp <;> rfl) hS2 ?_
                  try simp only [List.getElem_toArray, List.getElem_cons_succ, List.getElem_cons_zero, Act.put, List.setIfInBounds_toArray, List.set_cons_zero, List.set_cons_succ]
                  refine wpAnyL_one 8 (by kernel_rfl) rfl (by kernel_rfl) ?_
                  intro K' hK'
                  go_simp
                  go_at_call 11
                  refine (kA _ hS2).mono ?_
                  rintro e W3 ⟨rfl, hS3⟩
                  refine hK'.out _ _ (.inr hS3) ?_
                  clear hK' K'
                  try simp only [List.getElem_toArray, List.getElem_cons_succ, List.getElem_cons_zero, Act.put, List.setIfInBounds_toArray, List.set_cons_zero, List.set_cons_succ]
                  refine wpAnyL_take 9 rfl (by kernel_rfl) (by kernel_rfl) (by kernel_rfl) (by kernel_rfl) (fun _ _ _ h => h) (by kernel_rfl) (by intro w' hS'; obtain ⟨⟨x0, x1⟩, x2⟩ := hS'; go_simp <;> rfl) hS3 ?_
                  try simp only [List.getElem_toArray, List.getElem_cons_succ, List.getElem_cons_zero, Act.put, List.setIfInBounds_toArray, List.set_cons_zero, List.set_cons_succ]
                  refine wpAnyL_take 10 rfl (by kernel_rfl) (by kernel_rfl) (by kernel_rfl) (by kernel_rfl) (fun _ _ _ h => h) (by kernel_rfl) (by intro w' hS'; obtain ⟨⟨x0, x1⟩, x2⟩ := hS'; go_simp <;> rfl) hS3 ?_
                  try simp only [List.getElem_toArray, List.getElem_cons_succ, List.getElem_cons_zero, Act.put, List.setIfInBounds_toArray, List.set_cons_zero, List.set_cons_succ]
                  refine wpAnyL_done (by kernel_rfl) (NoPanic.normal ?_) _
                  go_wp2
                  go_ret
                  exact ⟨rfl, hfin _ hS3.2⟩
              · have kia := in_of ma va k w6 hRda.sv
                rw [hia h64a] at kia
                simp only [hp, hq, Bool.true_or, Bool.false_or, Bool.or_true, Bool.or_false] at kia
                have kca := fun W (h : Sv W va ma) => covers_of ma va (s1, s2) W h
                rw [hca h64a] at kca
                obtain ⟨aa, ca', hva, -⟩ := id hRda
                have hRdH : Hid (Rd spE w6 va ma) := hRda
                clear hRa hRda
                subst hva
                go_wp2_with fail
                refine (kia).mono ?_
                rintro e w7 ⟨rfl, hb7'⟩
                have hb7 := st _ _ hb6 hb7'
                replace hRb := hRb.below hb7'
                have kca7 := kca w7 (hRdH.out.below hb7').sv
                obtain ⟨y0, y1⟩ := (clS w7 hb7).1
                clear kia hb7' kca hRdH
                go_wp2_with fail
                refine (kca7).mono ?_
                rintro e w8 ⟨rfl, hb8'⟩
                have hb8 := st _ _ hb7 hb8'
                replace hRb := hRb.below hb8'
                obtain ⟨y0, y1⟩ := (clS w8 hb8).1
                clear kca7 hb8'
                rcases resT_two hRb with ⟨rfl, rfl⟩ | ⟨h64b, rfl, hRdb⟩
                · obtain ⟨wN, hwN⟩ : ∃ wN, wN = w8 := ⟨_, rfl⟩
                  subst hwN
                  have hbN := hb8
                  clear hRb
                  have hbD : Below (w.heap.size + 1) w0 wN.drew := hbN.drew
                  have kcv : ∀ W, (fun W => (W.cell? ⟨w.heap.size, 0, none⟩ = some (.string (bk s1)) ∧ W.cell? ⟨w.heap.size, 1, none⟩ = some (.string (bk s2))) ∧ Below (w.heap.size + 1) w0 W) W → Calls Try.prog 24 #[.slice ao l.length cap, .agg #[.string (bk s1), .string (bk s2)]] W fun e w' => e = .returned (.bool c) ∧ (fun W => (W.cell? ⟨w.heap.size, 0, none⟩ = some (.string (bk s1)) ∧ W.cell? ⟨w.heap.size, 1, none⟩ = some (.string (bk s2))) ∧ Below (w.heap.size + 1) w0 W) w' := fun W hW => by
                    refine (kcov W (hRW _ (hfin _ hW.2)).sv).mono ?_
                    rintro e w' ⟨rfl, hb'⟩
                    exact ⟨rfl, clS w' (st _ _ hW.2 hb')⟩
                  have kcl : ∀ W, (fun W => (W.cell? ⟨w.heap.size, 0, none⟩ = some (.string (bk s1)) ∧ W.cell? ⟨w.heap.size, 1, none⟩ = some (.string (bk s2))) ∧ Below (w.heap.size + 1) w0 W) W → Calls Try.prog 25 #[.slice ao l.length cap, .agg #[.string (bk s1), .string (bk s2)]] W fun e w' => e = .returned (.bool c) ∧ (fun W => (W.cell? ⟨w.heap.size, 0, none⟩ = some (.string (bk s1)) ∧ W.cell? ⟨w.heap.size, 1, none⟩ = some (.string (bk s2))) ∧ Below (w.heap.size + 1) w0 W) w' := fun W hW => by
                    refine (kcvl W (hRW _ (hfin _ hW.2)).sv).mono ?_
                    rintro e w' ⟨rfl, hb'⟩
                    exact ⟨rfl, clS w' (st _ _ hW.2 hb')⟩
                  have kA : ∀ W, (fun W => (W.cell? ⟨w.heap.size, 0, none⟩ = some (.string (bk s1)) ∧ W.cell? ⟨w.heap.size, 1, none⟩ = some (.string (bk s2))) ∧ Below (w.heap.size + 1) w0 W) W → Calls Try.prog 11 #[] W fun e w' => e = .returned (.bool true) ∧ (fun W => (W.cell? ⟨w.heap.size, 0, none⟩ = some (.string (bk s1)) ∧ W.cell? ⟨w.heap.size, 1, none⟩ = some (.string (bk s2))) ∧ Below (w.heap.size + 1) w0 W) w' := fun W hW => by
                    refine (kaw W).mono ?_
                    rintro e w' ⟨rfl, hb'⟩
                    exact ⟨rfl, clS w' (st _ _ hW.2 hb')⟩
                  clear kcov kcvl kaw
                  go_wp2
                  refine wp_region_L (fun W => (W.cell? ⟨w.heap.size, 0, none⟩ = some (.string (bk s1)) ∧ W.cell? ⟨w.heap.size, 1, none⟩ = some (.string (bk s2))) ∧ Below (w.heap.size + 1) w0 W) [] (by kernel_rfl) ?_
                  have yS : (fun W => (W.cell? ⟨w.heap.size, 0, none⟩ = some (.string (bk s1)) ∧ W.cell? ⟨w.heap.size, 1, none⟩ = some (.string (bk s2))) ∧ Below (w.heap.size + 1) w0 W) wN.drew := clS _ hbD
                  refine wpAnyL_take 0 rfl (by kernel_rfl) (by kernel_rfl) (by kernel_rfl) (by kernel_rfl) (fun _ _ _ h => h) (by kernel_rfl) (by intro w' hS'; obtain ⟨⟨x0, x1⟩, x2⟩ := hS'; go_simp <;> rfl) yS ?_
                  try simp only [List.getElem_toArray, List.getElem_cons_succ, List.getElem_cons_zero, Act.put, List.setIfInBounds_toArray, List.set_cons_zero, List.set_cons_succ]
                  refine wpAnyL_take 1 rfl (by kernel_rfl) (by kernel_rfl) (by kernel_rfl) (by kernel_rfl) (fun _ _ _ h => h) (by kernel_rfl) (by intro w' hS'; obtain ⟨⟨x0, x1⟩, x2⟩ := hS'; go_simp <;> rfl) yS ?_
                  try simp only [List.getElem_toArray, List.getElem_cons_succ, List.getElem_cons_zero, Act.put, List.setIfInBounds_toArray, List.set_cons_zero, List.set_cons_succ]
                  refine wpAnyL_take 3 rfl (by kernel_rfl) (by kernel_rfl) (by kernel_rfl) (by kernel_rfl) (fun _ _ _ h => h) (by kernel_rfl) (by intro w' hS'; obtain ⟨⟨x0, x1⟩, x2⟩ := hS'; go_simp <;> rfl) yS ?_
                  try simp only [List.getElem_toArray, List.getElem_cons_succ, List.getElem_cons_zero, Act.put, List.setIfInBounds_toArray, List.set_cons_zero, List.set_cons_succ]
                  refine wpAnyL_take 4 rfl (by kernel_rfl) (by kernel_rfl) (by kernel_rfl) (by kernel_rfl) (fun _ _ _ h => h) (by kernel_rfl) (by intro w' hS'; obtain ⟨⟨x0, x1⟩, x2⟩ := hS'; go_simp <;> rfl) yS ?_
                  try simp only [List.getElem_toArray, List.getElem_cons_succ, List.getElem_cons_zero, Act.put, List.setIfInBounds_toArray, List.set_cons_zero, List.set_cons_succ]
                  refine wpAnyL_one 2 (by kernel_rfl) rfl (by kernel_rfl) ?_
                  intro K' hK'
                  go_simp
                  go_at_call 24
                  refine (kcv _ yS).mono ?_
                  rintro e W1 ⟨rfl, hS1⟩
                  refine hK'.out _ _ (.inr hS1) ?_
                  clear hK' K'
                  try simp only [List.getElem_toArray, List.getElem_cons_succ, List.getElem_cons_zero, Act.put, List.setIfInBounds_toArray, List.set_cons_zero, List.set_cons_succ]
                  refine wpAnyL_one 5 (by kernel_rfl) rfl (by kernel_rfl) ?_
                  intro K' hK'
                  go_simp
                  go_at_call 25
                  refine (kcl _ hS1).mono ?_
                  rintro e W2 ⟨rfl, hS2⟩
                  refine hK'.out _ _ (.inr hS2) ?_
                  clear hK' K'
                  try simp only [List.getElem_toArray, List.getElem_cons_succ, List.getElem_cons_zero, Act.put, List.setIfInBounds_toArray, List.set_cons_zero, List.set_cons_succ]
                  refine wpAnyL_take 6 rfl (by kernel_rfl) (by kernel_rfl) (by kernel_rfl) (by kernel_rfl) (fun _ _ _ h => h) (by kernel_rfl) (by intro w' hS'; obtain ⟨⟨x0, x1⟩, x2⟩ := hS'; go_simp <;> rfl) hS2 ?_
                  try simp only [List.getElem_toArray, List.getElem_cons_succ, List.getElem_cons_zero, Act.put, List.setIfInBounds_toArray, List.set_cons_zero, List.set_cons_succ]
                  refine wpAnyL_take 7 rfl (by kernel_rfl) (by kernel_rfl) (by kernel_rfl) (by kernel_rfl) (fun _ _ _ h => h) (by kernel_rfl) (by intro w' hS'; obtain ⟨⟨x0, x1⟩, x2⟩ := hS'; go_simp <;> rfl) hS2 ?_
                  try simp only [List.getElem_toArray, List.getElem_cons_succ, List.getElem_cons_zero, Act.put, List.setIfInBounds_toArray, List.set_cons_zero, List.set_cons_succ]
                  refine wpAnyL_one 8 (by kernel_rfl) rfl (by kernel_rfl) ?_
                  intro K' hK'
                  go_simp
                  go_at_call 11
                  refine (kA _ hS2).mono ?_
                  rintro e W3 ⟨rfl, hS3⟩
                  refine hK'.out _ _ (.inr hS3) ?_
                  clear hK' K'
                  try simp only [List.getElem_toArray, List.getElem_cons_succ, List.getElem_cons_zero, Act.put, List.setIfInBounds_toArray, List.set_cons_zero, List.set_cons_succ]
                  refine wpAnyL_take 9 rfl (by kernel_rfl) (by kernel_rfl) (by kernel_rfl) (by kernel_rfl) (fun _ _ _ h => h) (by kernel_rfl) (by intro w' hS'; obtain ⟨⟨x0, x1⟩, x2⟩ := hS'; go_simp <;> rfl) hS3 ?_
                  try simp only [List.getElem_toArray, List.getElem_cons_succ, List.getElem_cons_zero, Act.put, List.setIfInBounds_toArray, List.set_cons_zero, List.set_cons_succ]
                  refine wpAnyL_take 10 rfl (by kernel_rfl) (by kernel_rfl) (by kernel_rfl) (by kernel_rfl) (fun _ _ _ h => h) (by kernel_rfl) (by intro w' hS'; obtain ⟨⟨x0, x1⟩, x2⟩ := hS'; go_simp <;> rfl) hS3 ?_
                  try simp only [List.getElem_toArray, List.getElem_cons_succ, List.getElem_cons_zero, Act.put, List.setIfInBounds_toArray, List.set_cons_zero, List.set_cons_succ]
                  refine wpAnyL_done (by kernel_rfl) (NoPanic.normal ?_) _
                  go_wp2
                  go_ret
                  exact ⟨rfl, hfin _ hS3.2⟩
                · have kib := in_of mb vb k w8 hRdb.sv
                  rw [hib h64b] at kib
                  simp only [hp, hq, Bool.true_and, Bool.false_and, Bool.not_true, Bool.not_false, Bool.and_true, Bool.and_false] at kib
                  obtain ⟨ab, cb', hvb, -⟩ := id hRdb
                  subst hvb
                  clear hRb hRdb
                  go_wp2_with fail
                  refine (kib).mono ?_
                  rintro e wN ⟨rfl, hbN'⟩
                  have hbN := st _ _ hb8 hbN'
                  clear kib
                  have hbD : Below (w.heap.size + 1) w0 wN.drew := hbN.drew
                  have kcv : ∀ W, (fun W => (W.cell? ⟨w.heap.size, 0, none⟩ = some (.string (bk s1)) ∧ W.cell? ⟨w.heap.size, 1, none⟩ = some (.string (bk s2))) ∧ Below (w.heap.size + 1) w0 W) W → Calls Try.prog 24 #[.slice ao l.length cap, .agg #[.string (bk s1), .string (bk s2)]] W fun e w' => e = .returned (.bool c) ∧ (fun W => (W.cell? ⟨w.heap.size, 0, none⟩ = some (.string (bk s1)) ∧ W.cell? ⟨w.heap.size, 1, none⟩ = some (.string (bk s2))) ∧ Below (w.heap.size + 1) w0 W) w' := fun W hW => by
                    refine (kcov W (hRW _ (hfin _ hW.2)).sv).mono ?_
                    rintro e w' ⟨rfl, hb'⟩
                    exact ⟨rfl, clS w' (st _ _ hW.2 hb')⟩
                  have kcl : ∀ W, (fun W => (W.cell? ⟨w.heap.size, 0, none⟩ = some (.string (bk s1)) ∧ W.cell? ⟨w.heap.size, 1, none⟩ = some (.string (bk s2))) ∧ Below (w.heap.size + 1) w0 W) W → Calls Try.prog 25 #[.slice ao l.length cap, .agg #[.string (bk s1), .string (bk s2)]] W fun e w' => e = .returned (.bool c) ∧ (fun W => (W.cell? ⟨w.heap.size, 0, none⟩ = some (.string (bk s1)) ∧ W.cell? ⟨w.heap.size, 1, none⟩ = some (.string (bk s2))) ∧ Below (w.heap.size + 1) w0 W) w' := fun W hW => by
                    refine (kcvl W (hRW _ (hfin _ hW.2)).sv).mono ?_
                    rintro e w' ⟨rfl, hb'⟩
                    exact ⟨rfl, clS w' (st _ _ hW.2 hb')⟩
                  have kA : ∀ W, (fun W => (W.cell? ⟨w.heap.size, 0, none⟩ = some (.string (bk s1)) ∧ W.cell? ⟨w.heap.size, 1, none⟩ = some (.string (bk s2))) ∧ Below (w.heap.size + 1) w0 W) W → Calls Try.prog 11 #[] W fun e w' => e = .returned (.bool true) ∧ (fun W => (W.cell? ⟨w.heap.size, 0, none⟩ = some (.string (bk s1)) ∧ W.cell? ⟨w.heap.size, 1, none⟩ = some (.string (bk s2))) ∧ Below (w.heap.size + 1) w0 W) w' := fun W hW => by
                    refine (kaw W).mono ?_
                    rintro e w' ⟨rfl, hb'⟩
                    exact ⟨rfl, clS w' (st _ _ hW.2 hb')⟩
                  clear kcov kcvl kaw
                  go_wp2
                  refine wp_region_L (fun W => (W.cell? ⟨w.heap.size, 0, none⟩ = some (.string (bk s1)) ∧ W.cell? ⟨w.heap.size, 1, none⟩ = some (.string (bk s2))) ∧ Below (w.heap.size + 1) w0 W) [] (by kernel_rfl) ?_
                  have yS : (fun W => (W.cell? ⟨w.heap.size, 0, none⟩ = some (.string (bk s1)) ∧ W.cell? ⟨w.heap.size, 1, none⟩ = some (.string (bk s2))) ∧ Below (w.heap.size + 1) w0 W) wN.drew := clS _ hbD
                  refine wpAnyL_take 0 rfl (by kernel_rfl) (by kernel_rfl) (by kernel_rfl) (by kernel_rfl) (fun _ _ _ h => h) (by kernel_rfl) (by intro w' hS'; obtain ⟨⟨x0, x1⟩, x2⟩ := hS'; go_simp <;> rfl) yS ?_
                  try simp only [List.getElem_toArray, List.getElem_cons_succ, List.getElem_cons_zero, Act.put, List.setIfInBounds_toArray, List.set_cons_zero, List.set_cons_succ]
                  refine wpAnyL_take 1 rfl (by kernel_rfl) (by kernel_rfl) (by kernel_rfl) (by kernel_rfl) (fun _ _ _ h => h) (by kernel_rfl) (by intro w' hS'; obtain ⟨⟨x0, x1⟩, x2⟩ := hS'; go_simp <;> rfl) yS ?_
                  try simp only [List.getElem_toArray, List.getElem_cons_succ, List.getElem_cons_zero, Act.put, List.setIfInBounds_toArray, List.set_cons_zero, List.set_cons_succ]
                  refine wpAnyL_take 3 rfl (by kernel_rfl) (by kernel_rfl) (by kernel_rfl) (by kernel_rfl) (fun _ _ _ h => h) (by kernel_rfl) (by intro w' hS'; obtain ⟨⟨x0, x1⟩, x2⟩ := hS'; go_simp <;> rfl) yS ?_
                  try simp only [List.getElem_toArray, List.getElem_cons_succ, List.getElem_cons_zero, Act.put, List.setIfInBounds_toArray, List.set_cons_zero, List.set_cons_succ]
                  refine wpAnyL_take 4 rfl (by kernel_rfl) (by kernel_rfl) (by kernel_rfl) (by kernel_rfl) (fun _ _ _ h => h) (by kernel_rfl) (by intro w' hS'; obtain ⟨⟨x0, x1⟩, x2⟩ := hS'; go_simp <;> rfl) yS ?_
                  try simp only [List.getElem_toArray, List.getElem_cons_succ, List.getElem_cons_zero, Act.put, List.setIfInBounds_toArray, List.set_cons_zero, List.set_cons_succ]
                  refine wpAnyL_one 2 (by kernel_rfl) rfl (by kernel_rfl) ?_
                  intro K' hK'
                  go_simp
                  go_at_call 24
                  refine (kcv _ yS).mono ?_
                  rintro e W1 ⟨rfl, hS1⟩
                  refine hK'.out _ _ (.inr hS1) ?_
                  clear hK' K'
                  try simp only [List.getElem_toArray, List.getElem_cons_succ, List.getElem_cons_zero, Act.put, List.setIfInBounds_toArray, List.set_cons_zero, List.set_cons_succ]
                  refine wpAnyL_one 5 (by kernel_rfl) rfl (by kernel_rfl) ?_
                  intro K' hK'
                  go_simp
                  go_at_call 25
                  refine (kcl _ hS1).mono ?_
                  rintro e W2 ⟨rfl, hS2⟩
                  refine hK'.out _ _ (.inr hS2) ?_
                  clear hK' K'
                  try simp only [List.getElem_toArray, List.getElem_cons_succ, List.getElem_cons_zero, Act.put, List.setIfInBounds_toArray, List.set_cons_zero, List.set_cons_succ]
                  refine wpAnyL_take 6 rfl (by kernel_rfl) (by kernel_rfl) (by kernel_rfl) (by kernel_rfl) (fun _ _ _ h => h) (by kernel_rfl) (by intro w' hS'; obtain ⟨⟨x0, x1⟩, x2⟩ := hS'; go_simp <;> rfl) hS2 ?_
                  try simp only [List.getElem_toArray, List.getElem_cons_succ, List.getElem_cons_zero, Act.put, List.setIfInBounds_toArray, List.set_cons_zero, List.set_cons_succ]
                  refine wpAnyL_take 7 rfl (by kernel_rfl) (by kernel_rfl) (by kernel_rfl) (by kernel_rfl) (fun _ _ _ h => h) (by kernel_rfl) (by intro w' hS'; obtain ⟨⟨x0, x1⟩, x2⟩ := hS'; go_simp <;> rfl) hS2 ?_
                  try simp only [List.getElem_toArray, List.getElem_cons_succ, List.getElem_cons_zero, Act.put, List.setIfInBounds_toArray, List.set_cons_zero, List.set_cons_succ]
                  refine wpAnyL_one 8 (by kernel_rfl) rfl (by kernel_rfl) ?_
                  intro K' hK'
                  go_simp
                  go_at_call 11
                  refine (kA _ hS2).mono ?_
                  rintro e W3 ⟨rfl, hS3⟩
                  refine hK'.out _ _ (.inr hS3) ?_
                  clear hK' K'
                  try simp only [List.getElem_toArray, List.getElem_cons_succ, List.getElem_cons_zero, Act.put, List.setIfInBounds_toArray, List.set_cons_zero, List.set_cons_succ]
                  refine wpAnyL_take 9 rfl (by kernel_rfl) (by kernel_rfl) (by kernel_rfl) (by kernel_rfl) (fun _ _ _ h => h) (by kernel_rfl) (by intro w' hS'; obtain ⟨⟨x0, x1⟩, x2⟩ := hS'; go_simp <;> rfl) hS3 ?_
                  try simp only [List.getElem_toArray, List.getElem_cons_succ, List.getElem_cons_zero, Act.put, List.setIfInBounds_toArray, List.set_cons_zero, List.set_cons_succ]
                  refine wpAnyL_take 10 rfl (by kernel_rfl) (by kernel_rfl) (by kernel_rfl) (by kernel_rfl) (fun _ _ _ h => h) (by kernel_rfl) (by intro w' hS'; obtain ⟨⟨x0, x1⟩, x2⟩ := hS'; go_simp <;> rfl) hS3 ?_
                  try simp only [List.getElem_toArray, List.getElem_cons_succ, List.getElem_cons_zero, Act.put, List.setIfInBounds_toArray, List.set_cons_zero, List.set_cons_succ]
                  refine wpAnyL_done (by kernel_rfl) (NoPanic.normal ?_) _
                  go_wp2
                  go_ret
                  exact ⟨rfl, hfin _ hS3.2⟩
            | true =>
              have hq : True := trivial
              have hip : inP l k = false := by unfold inP; rw [hform, decide_eq_true hkn, Bool.true_and, Bool.true_and]; exact hp
              have ki := kinp w5 (hRW _ (hfin _ hb5)).sv
              rw [hip] at ki
              clear hip
              obtain ⟨y0, y1⟩ := (clS w5 hb5).1
              go_wp2_with fail
              refine (ki).mono ?_
              rintro e w6 ⟨rfl, hb6'⟩
              have hb6 := st _ _ hb5 hb6'
              replace hRa := hRa.below hb6'
              replace hRb := hRb.below hb6'
              obtain ⟨y0, y1⟩ := (clS w6 hb6).1
              clear ki hb6'
              rcases resT_two hRa with ⟨rfl, rfl⟩ | ⟨h64a, rfl, hRda⟩
              · clear hRa
                rcases resT_two hRb with ⟨rfl, rfl⟩ | ⟨h64b, rfl, hRdb⟩
                · obtain ⟨wN, hwN⟩ : ∃ wN, wN = w6 := ⟨_, rfl⟩
                  subst hwN
                  have hbN := hb6
                  clear hRb
                  have hbD : Below (w.heap.size + 1) w0 wN.drew := hbN.drew
                  have kcv : ∀ W, (fun W => (W.cell? ⟨w.heap.size, 0, none⟩ = some (.string (bk s1)) ∧ W.cell? ⟨w.heap.size, 1, none⟩ = some (.string (bk s2))) ∧ Below (w.heap.size + 1) w0 W) W → Calls Try.prog 24 #[.slice ao l.length cap, .agg #[.string (bk s1), .string (bk s2)]] W fun e w' => e = .returned (.bool c) ∧ (fun W => (W.cell? ⟨w.heap.size, 0, none⟩ = some (.string (bk s1)) ∧ W.cell? ⟨w.heap.size, 1, none⟩ = some (.string (bk s2))) ∧ Below (w.heap.size + 1) w0 W) w' := fun W hW => by
                    refine (kcov W (hRW _ (hfin _ hW.2)).sv).mono ?_
                    rintro e w' ⟨rfl, hb'⟩
                    exact ⟨rfl, clS w' (st _ _ hW.2 hb')⟩
                  have kcl : ∀ W, (fun W => (W.cell? ⟨w.heap.size, 0, none⟩ = some (.string (bk s1)) ∧ W.cell? ⟨w.heap.size, 1, none⟩ = some (.string (bk s2))) ∧ Below (w.heap.size + 1) w0 W) W → Calls Try.prog 25 #[.slice ao l.length cap, .agg #[.string (bk s1), .string (bk s2)]] W fun e w' => e = .returned (.bool c) ∧ (fun W => (W.cell? ⟨w.heap.size, 0, none⟩ = some (.string (bk s1)) ∧ W.cell? ⟨w.heap.size, 1, none⟩ = some (.string (bk s2))) ∧ Below (w.heap.size + 1) w0 W) w' := fun W hW => by
                    refine (kcvl W (hRW _ (hfin _ hW.2)).sv).mono ?_
                    rintro e w' ⟨rfl, hb'⟩
                    exact ⟨rfl, clS w' (st _ _ hW.2 hb')⟩
                  have kA : ∀ W, (fun W => (W.cell? ⟨w.heap.size, 0, none⟩ = some (.string (bk s1)) ∧ W.cell? ⟨w.heap.size, 1, none⟩ = some (.string (bk s2))) ∧ Below (w.heap.size + 1) w0 W) W → Calls Try.prog 11 #[] W fun e w' => e = .returned (.bool true) ∧ (fun W => (W.cell? ⟨w.heap.size, 0, none⟩ = some (.string (bk s1)) ∧ W.cell? ⟨w.heap.size, 1, none⟩ = some (.string (bk s2))) ∧ Below (w.heap.size + 1) w0 W) w' := fun W hW => by
                    refine (kaw W).mono ?_
                    rintro e w' ⟨rfl, hb'⟩
                    exact ⟨rfl, clS w' (st _ _ hW.2 hb')⟩
                  clear kcov kcvl kaw
                  go_wp2
                  refine wp_region_L (fun W => (W.cell? ⟨w.heap.size, 0, none⟩ = some (.string (bk s1)) ∧ W.cell? ⟨w.heap.size, 1, none⟩ = some (.string (bk s2))) ∧ Below (w.heap.size + 1) w0 W) [] (by kernel_rfl) ?_
                  have yS : (fun W => (W.cell? ⟨w.heap.size, 0, none⟩ = some (.string (bk s1)) ∧ W.cell? ⟨w.heap.size, 1, none⟩ = some (.string (bk s2))) ∧ Below (w.heap.size + 1) w0 W) wN.drew := clS _ hbD
                  refine wpAnyL_take 0 rfl (by kernel_rfl) (by kernel_rfl) (by kernel_rfl) (by kernel_rfl) (fun _ _ _ h => h) (by kernel_rfl) (by intro w' hS'; obtain ⟨⟨x0, x1⟩, x2⟩ := hS'; go_simp <;> rfl) yS ?_
                  try simp only [List.getElem_toArray, List.getElem_cons_succ, List.getElem_cons_zero, Act.put, List.setIfInBounds_toArray, List.set_cons_zero, List.set_cons_succ]
                  refine wpAnyL_take 1 rfl (by kernel_rfl) (by kernel_rfl) (by kernel_rfl) (by kernel_rfl) (fun _ _ _ h => h) (by kernel_rfl) (by intro w' hS'; obtain ⟨⟨x0, x1⟩, x2⟩ := hS'; go_simp <;> rfl) yS ?_
                  try simp only [List.getElem_toArray, List.getElem_cons_succ, List.getElem_cons_zero, Act.put, List.setIfInBounds_toArray, List.set_cons_zero, List.set_cons_succ]
                  refine wpAnyL_take 3 rfl (by kernel_rfl) (by kernel_rfl) (by kernel_rfl) (by kernel_rfl) (fun _ _ _ h => h) (by kernel_rfl) (by intro w' hS'; obtain ⟨⟨x0, x1⟩, x2⟩ := hS'; go_simp <;> rfl) yS ?_
                  try simp only [List.getElem_toArray, List.getElem_cons_succ, List.getElem_cons_zero, Act.put, List.setIfInBounds_toArray, List.set_cons_zero, List.set_cons_succ]
                  refine wpAnyL_take 4 rfl (by kernel_rfl) (by kernel_rfl) (by kernel_rfl) (by kernel_rfl) (fun _ _ _ h => h) (by kernel_rfl) (by intro w' hS'; obtain ⟨⟨x0, x1⟩, x2⟩ := hS'; go_simp <;> rfl) yS ?_
                  try simp only [List.getElem_toArray, List.getElem_cons_succ, List.getElem_cons_zero, Act.put, List.setIfInBounds_toArray, List.set_cons_zero, List.set_cons_succ]
                  refine wpAnyL_one 2 (by kernel_rfl) rfl (by kernel_rfl) ?_
                  intro K' hK'
                  go_simp
                  go_at_call 24
                  refine (kcv _ yS).mono ?_
                  rintro e W1 ⟨rfl, hS1⟩
                  refine hK'.out _ _ (.inr hS1) ?_
                  clear hK' K'
                  try simp only [List.getElem_toArray, List.getElem_cons_succ, List.getElem_cons_zero, Act.put, List.setIfInBounds_toArray, List.set_cons_zero, List.set_cons_succ]
                  refine wpAnyL_one 5 (by kernel_rfl) rfl (by kernel_rfl) ?_
                  intro K' hK'
                  go_simp
                  go_at_call 25
                  refine (kcl _ hS1).mono ?_
                  rintro e W2 ⟨rfl, hS2⟩
                  refine hK'.out _ _ (.inr hS2) ?_
                  clear hK' K'
                  try simp only [List.getElem_toArray, List.getElem_cons_succ, List.getElem_cons_zero, Act.put, List.setIfInBounds_toArray, List.set_cons_zero, List.set_cons_succ]
                  refine wpAnyL_take 6 rfl (by kernel_rfl) (by kernel_rfl) (by kernel_rfl) (by kernel_rfl) (fun _ _ _ h => h) (by kernel_rfl) (by intro w' hS'; obtain ⟨⟨x0, x1⟩, x2⟩ := hS'; go_simp <;> rfl) hS2 ?_
                  try simp only [List.getElem_toArray, List.getElem_cons_succ, List.getElem_cons_zero, Act.put, List.setIfInBounds_toArray, List.set_cons_zero, List.set_cons_succ]
                  refine wpAnyL_take 7 rfl (by kernel_rfl) (by kernel_rfl) (by kernel_rfl) (by kernel_rfl) (fun _ _ _ h => h) (by kernel_rfl) (by intro w' hS'; obtain ⟨⟨x0, x1⟩, x2⟩ := hS'; go_simp <;> rfl) hS2 ?_
                  try simp only [List.getElem_toArray, List.getElem_cons_succ, List.getElem_cons_zero, Act.put, List.setIfInBounds_toArray, List.set_cons_zero, List.set_cons_succ]
                  refine wpAnyL_one 8 (by kernel_rfl) rfl (by kernel_rfl) ?_
                  intro K' hK'
                  go_simp
                  go_at_call 11
                  refine (kA _ hS2).mono ?_
                  rintro e W3 ⟨rfl, hS3⟩
                  refine hK'.out _ _ (.inr hS3) ?_
                  clear hK' K'
                  try simp only [List.getElem_toArray, List.getElem_cons_succ, List.getElem_cons_zero, Act.put, List.setIfInBounds_toArray, List.set_cons_zero, List.set_cons_succ]
                  refine wpAnyL_take 9 rfl (by kernel_rfl) (by kernel_rfl) (by kernel_rfl) (by kernel_rfl) (fun _ _ _ h => h) (by kernel_rfl) (by intro w' hS'; obtain ⟨⟨x0, x1⟩, x2⟩ := hS'; go_simp <;> rfl) hS3 ?_
                  try simp only [List.getElem_toArray, List.getElem_cons_succ, List.getElem_cons_zero, Act.put, List.setIfInBounds_toArray, List.set_cons_zero, List.set_cons_succ]
                  refine wpAnyL_take 10 rfl (by kernel_rfl) (by kernel_rfl) (by kernel_rfl) (by kernel_rfl) (fun _ _ _ h => h) (by kernel_rfl) (by intro w' hS'; obtain ⟨⟨x0, x1⟩, x2⟩ := hS'; go_simp <;> rfl) hS3 ?_
                  try simp only [List.getElem_toArray, List.getElem_cons_succ, List.getElem_cons_zero, Act.put, List.setIfInBounds_toArray, List.set_cons_zero, List.set_cons_succ]
                  refine wpAnyL_done (by kernel_rfl) (NoPanic.normal ?_) _
                  go_wp2
                  go_ret
                  exact ⟨rfl, hfin _ hS3.2⟩
                · have kib := in_of mb vb k w6 hRdb.sv
                  rw [hib h64b] at kib
                  simp only [hp, hq, Bool.true_and, Bool.false_and, Bool.not_true, Bool.not_false, Bool.and_true, Bool.and_false] at kib
                  obtain ⟨ab, cb', hvb, -⟩ := id hRdb
                  subst hvb
                  clear hRb hRdb
                  go_wp2_with fail
                  refine (kib).mono ?_
                  rintro e wN ⟨rfl, hbN'⟩
                  have hbN := st _ _ hb6 hbN'
                  clear kib
                  have hbD : Below (w.heap.size + 1) w0 wN.drew := hbN.drew
                  have kcv : ∀ W, (fun W => (W.cell? ⟨w.heap.size, 0, none⟩ = some (.string (bk s1)) ∧ W.cell? ⟨w.heap.size, 1, none⟩ = some (.string (bk s2))) ∧ Below (w.heap.size + 1) w0 W) W → Calls Try.prog 24 #[.slice ao l.length cap, .agg #[.string (bk s1), .string (bk s2)]] W fun e w' => e = .returned (.bool c) ∧ (fun W => (W.cell? ⟨w.heap.size, 0, none⟩ = some (.string (bk s1)) ∧ W.cell? ⟨w.heap.size, 1, none⟩ = some (.string (bk s2))) ∧ Below (w.heap.size + 1) w0 W) w' := fun W hW => by
                    refine (kcov W (hRW _ (hfin _ hW.2)).sv).mono ?_
                    rintro e w' ⟨rfl, hb'⟩
                    exact ⟨rfl, clS w' (st _ _ hW.2 hb')⟩
                  have kcl : ∀ W, (fun W => (W.cell? ⟨w.heap.size, 0, none⟩ = some (.string (bk s1)) ∧ W.cell? ⟨w.heap.size, 1, none⟩ = some (.string (bk s2))) ∧ Below (w.heap.size + 1) w0 W) W → Calls Try.prog 25 #[.slice ao l.length cap, .agg #[.string (bk s1), .string (bk s2)]] W fun e w' => e = .returned (.bool c) ∧ (fun W => (W.cell? ⟨w.heap.size, 0, none⟩ = some (.string (bk s1)) ∧ W.cell? ⟨w.heap.size, 1, none⟩ = some (.string (bk s2))) ∧ Below (w.heap.size + 1) w0 W) w' := fun W hW => by
                    refine (kcvl W (hRW _ (hfin _ hW.2)).sv).mono ?_
                    rintro e w' ⟨rfl, hb'⟩
                    exact ⟨rfl, clS w' (st _ _ hW.2 hb')⟩
                  have kA : ∀ W, (fun W => (W.cell? ⟨w.heap.size, 0, none⟩ = some (.string (bk s1)) ∧ W.cell? ⟨w.heap.size, 1, none⟩ = some (.string (bk s2))) ∧ Below (w.heap.size + 1) w0 W) W → Calls Try.prog 11 #[] W fun e w' => e = .returned (.bool true) ∧ (fun W => (W.cell? ⟨w.heap.size, 0, none⟩ = some (.string (bk s1)) ∧ W.cell? ⟨w.heap.size, 1, none⟩ = some (.string (bk s2))) ∧ Below (w.heap.size + 1) w0 W) w' := fun W hW => by
                    refine (kaw W).mono ?_
                    rintro e w' ⟨rfl, hb'⟩
                    exact ⟨rfl, clS w' (st _ _ hW.2 hb')⟩
                  clear kcov kcvl kaw
                  go_wp2
                  refine wp_region_L (fun W => (W.cell? ⟨w.heap.size, 0, none⟩ = some (.string (bk s1)) ∧ W.cell? ⟨w.heap.size, 1, none⟩ = some (.string (bk s2))) ∧ Below (w.heap.size + 1) w0 W) [] (by kernel_rfl) ?_
                  have yS : (fun W => (W.cell? ⟨w.heap.size, 0, none⟩ = some (.string (bk s1)) ∧ W.cell? ⟨w.heap.size, 1, none⟩ = some (.string (bk s2))) ∧ Below (w.heap.size + 1) w0 W) wN.drew := clS _ hbD
                  refine wpAnyL_take 0 rfl (by kernel_rfl) (by kernel_rfl) (by kernel_rfl) (by kernel_rfl) (fun _ _ _ h => h) (by kernel_rfl) (by intro w' hS'; obtain ⟨⟨x0, x1⟩, x2⟩ := hS'; go_simp <;> rfl) yS ?_
                  try simp only [List.getElem_toArray, List.getElem_cons_succ, List.getElem_cons_zero, Act.put, List.setIfInBounds_toArray, List.set_cons_zero, List.set_cons_succ]
                  refine wpAnyL_take 1 rfl (by kernel_rfl) (by kernel_rfl) (by kernel_rfl) (by kernel_rfl) (fun _ _ _ h => h) (by kernel_rfl) (by intro w' hS'; obtain ⟨⟨x0, x1⟩, x2⟩ := hS'; go_simp <;> rfl) yS ?_
                  try simp only [List.getElem_toArray, List.getElem_cons_succ, List.getElem_cons_zero, Act.put, List.setIfInBounds_toArray, List.set_cons_zero, List.set_cons_succ]
                  refine wpAnyL_take 3 rfl (by kernel_rfl) (by kernel_rfl) (by kernel_rfl) (by kernel_rfl) (fun _ _ _ h => h) (by kernel_rfl) (by intro w' hS'; obtain ⟨⟨x0, x1⟩, x2⟩ := hS'; go_simp <;> rfl) yS ?_
                  try simp only [List.getElem_toArray, List.getElem_cons_succ, List.getElem_cons_zero, Act.put, List.setIfInBounds_toArray, List.set_cons_zero, List.set_cons_succ]
                  refine wpAnyL_take 4 rfl (by kernel_rfl) (by kernel_rfl) (by kernel_rfl) (by kernel_rfl) (fun _ _ _ h => h) (by kernel_rfl) (by intro w' hS'; obtain ⟨⟨x0, x1⟩, x2⟩ := hS'; go_simp <;> rfl) yS ?_
                  try simp only [List.getElem_toArray, List.getElem_cons_succ, List.getElem_cons_zero, Act.put, List.setIfInBounds_toArray, List.set_cons_zero, List.set_cons_succ]
                  refine wpAnyL_one 2 (by kernel_rfl) rfl (by kernel_rfl) ?_
                  intro K' hK'
                  go_simp
                  go_at_call 24
                  refine (kcv _ yS).mono ?_
                  rintro e W1 ⟨rfl, hS1⟩
                  refine hK'.out _ _ (.inr hS1) ?_
                  clear hK' K'
                  try simp only [List.getElem_toArray, List.getElem_cons_succ, List.getElem_cons_zero, Act.put, List.setIfInBounds_toArray, List.set_cons_zero, List.set_cons_succ]
                  refine wpAnyL_one 5 (by kernel_rfl) rfl (by kernel_rfl) ?_
                  intro K' hK'
                  go_simp
                  go_at_call 25
                  refine (kcl _ hS1).mono ?_
                  rintro e W2 ⟨rfl, hS2⟩
                  refine hK'.out _ _ (.inr hS2) ?_
                  clear hK' K'
                  try simp only [List.getElem_toArray, List.getElem_cons_succ, List.getElem_cons_zero, Act.put, List.setIfInBounds_toArray, List.set_cons_zero, List.set_cons_succ]
                  refine wpAnyL_take 6 rfl (by kernel_rfl) (by kernel_rfl) (by kernel_rfl) (by kernel_rfl) (fun _ _ _ h => h) (by kernel_rfl) (by intro w' hS'; obtain ⟨⟨x0, x1⟩, x2⟩ := hS'; go_simp <;> rfl) hS2 ?_
                  try simp only [List.getElem_toArray, List.getElem_cons_succ, List.getElem_cons_zero, Act.put, List.setIfInBounds_toArray, List.set_cons_zero, List.set_cons_succ]
                  refine wpAnyL_take 7 rfl (by kernel_rfl) (by kernel_rfl) (by kernel_rfl) (by kernel_rfl) (fun _ _ _ h => h) (by kernel_rfl) (by intro w' hS'; obtain ⟨⟨x0, x1⟩, x2⟩ := hS'; go_simp <;> rfl) hS2 ?_
                  try simp only [List.getElem_toArray, List.getElem_cons_succ, List.getElem_cons_zero, Act.put, List.setIfInBounds_toArray, List.set_cons_zero, List.set_cons_succ]
                  refine wpAnyL_one 8 (by kernel_rfl) rfl (by kernel_rfl) ?_
                  intro K' hK'
                  go_simp
                  go_at_call 11
                  refine (kA _ hS2).mono ?_
                  rintro e W3 ⟨rfl, hS3⟩
                  refine hK'.out _ _ (.inr hS3) ?_
                  clear hK' K'
                  try simp only [List.getElem_toArray, List.getElem_cons_succ, List.getElem_cons_zero, Act.put, List.setIfInBounds_toArray, List.set_cons_zero, List.set_cons_succ]
                  refine wpAnyL_take 9 rfl (by kernel_rfl) (by kernel_rfl) (by kernel_rfl) (by kernel_rfl) (fun _ _ _ h => h) (by kernel_rfl) (by intro w' hS'; obtain ⟨⟨x0, x1⟩, x2⟩ := hS'; go_simp <;> rfl) hS3 ?_
                  try simp only [List.getElem_toArray, List.getElem_cons_succ, List.getElem_cons_zero, Act.put, List.setIfInBounds_toArray, List.set_cons_zero, List.set_cons_succ]
                  refine wpAnyL_take 10 rfl (by kernel_rfl) (by kernel_rfl) (by kernel_rfl) (by kernel_rfl) (fun _ _ _ h => h) (by kernel_rfl) (by intro w' hS'; obtain ⟨⟨x0, x1⟩, x2⟩ := hS'; go_simp <;> rfl) hS3 ?_
                  try simp only [List.getElem_toArray, List.getElem_cons_succ, List.getElem_cons_zero, Act.put, List.setIfInBounds_toArray, List.set_cons_zero, List.set_cons_succ]
                  refine wpAnyL_done (by kernel_rfl) (NoPanic.normal ?_) _
                  go_wp2
                  go_ret
                  exact ⟨rfl, hfin _ hS3.2⟩
              · have kia := in_of ma va k w6 hRda.sv
                rw [hia h64a] at kia
                simp only [hp, hq, Bool.true_or, Bool.false_or, Bool.or_true, Bool.or_false] at kia
                have kca := fun W (h : Sv W va ma) => covers_of ma va (s1, s2) W h
                rw [hca h64a] at kca
                obtain ⟨aa, ca', hva, -⟩ := id hRda
                have hRdH : Hid (Rd spE w6 va ma) := hRda
                clear hRa hRda
                subst hva
                go_wp2_with fail
                refine (kia).mono ?_
                rintro e w7 ⟨rfl, hb7'⟩
                have hb7 := st _ _ hb6 hb7'
                replace hRb := hRb.below hb7'
                have kca7 := kca w7 (hRdH.out.below hb7').sv
                obtain ⟨y0, y1⟩ := (clS w7 hb7).1
                clear kia hb7' kca hRdH
                go_wp2_with fail
                refine (kca7).mono ?_
                rintro e w8 ⟨rfl, hb8'⟩
                have hb8 := st _ _ hb7 hb8'
                replace hRb := hRb.below hb8'
                obtain ⟨y0, y1⟩ := (clS w8 hb8).1
                clear kca7 hb8'
                rcases resT_two hRb with ⟨rfl, rfl⟩ | ⟨h64b, rfl, hRdb⟩
                · obtain ⟨wN, hwN⟩ : ∃ wN, wN = w8 := ⟨_, rfl⟩
                  subst hwN
                  have hbN := hb8
                  clear hRb
                  have hbD : Below (w.heap.size + 1) w0 wN.drew := hbN.drew
                  have kcv : ∀ W, (fun W => (W.cell? ⟨w.heap.size, 0, none⟩ = some (.string (bk s1)) ∧ W.cell? ⟨w.heap.size, 1, none⟩ = some (.string (bk s2))) ∧ Below (w.heap.size + 1) w0 W) W → Calls Try.prog 24 #[.slice ao l.length cap, .agg #[.string (bk s1), .string (bk s2)]] W fun e w' => e = .returned (.bool c) ∧ (fun W => (W.cell? ⟨w.heap.size, 0, none⟩ = some (.string (bk s1)) ∧ W.cell? ⟨w.heap.size, 1, none⟩ = some (.string (bk s2))) ∧ Below (w.heap.size + 1) w0 W) w' := fun W hW => by
                    refine (kcov W (hRW _ (hfin _ hW.2)).sv).mono ?_
                    rintro e w' ⟨rfl, hb'⟩
                    exact ⟨rfl, clS w' (st _ _ hW.2 hb')⟩
                  have kcl : ∀ W, (fun W => (W.cell? ⟨w.heap.size, 0, none⟩ = some (.string (bk s1)) ∧ W.cell? ⟨w.heap.size, 1, none⟩ = some (.string (bk s2))) ∧ Below (w.heap.size + 1) w0 W) W → Calls Try.prog 25 #[.slice ao l.length cap, .agg #[.string (bk s1), .string (bk s2)]] W fun e w' => e = .returned (.bool c) ∧ (fun W => (W.cell? ⟨w.heap.size, 0, none⟩ = some (.string (bk s1)) ∧ W.cell? ⟨w.heap.size, 1, none⟩ = some (.string (bk s2))) ∧ Below (w.heap.size + 1) w0 W) w' := fun W hW => by
                    refine (kcvl W (hRW _ (hfin _ hW.2)).sv).mono ?_
                    rintro e w' ⟨rfl, hb'⟩
                    exact ⟨rfl, clS w' (st _ _ hW.2 hb')⟩
                  have kA : ∀ W, (fun W => (W.cell? ⟨w.heap.size, 0, none⟩ = some (.string (bk s1)) ∧ W.cell? ⟨w.heap.size, 1, none⟩ = some (.string (bk s2))) ∧ Below (w.heap.size + 1) w0 W) W → Calls Try.prog 11 #[] W fun e w' => e = .returned (.bool true) ∧ (fun W => (W.cell? ⟨w.heap.size, 0, none⟩ = some (.string (bk s1)) ∧ W.cell? ⟨w.heap.size, 1, none⟩ = some (.string (bk s2))) ∧ Below (w.heap.size + 1) w0 W) w' := fun W hW => by
                    refine (kaw W).mono ?_
                    rintro e w' ⟨rfl, hb'⟩
                    exact ⟨rfl, clS w' (st _ _ hW.2 hb')⟩
                  clear kcov kcvl kaw
                  go_wp2
                  refine wp_region_L (fun W => (W.cell? ⟨w.heap.size, 0, none⟩ = some (.string (bk s1)) ∧ W.cell? ⟨w.heap.size, 1, none⟩ = some (.string (bk s2))) ∧ Below (w.heap.size + 1) w0 W) [] (by kernel_rfl) ?_
                  have yS : (fun W => (W.cell? ⟨w.heap.size, 0, none⟩ = some (.string (bk s1)) ∧ W.cell? ⟨w.heap.size, 1, none⟩ = some (.string (bk s2))) ∧ Below (w.heap.size + 1) w0 W) wN.drew := clS _ hbD
                  refine wpAnyL_take 0 rfl (by kernel_rfl) (by kernel_rfl) (by kernel_rfl) (by kernel_rfl) (fun _ _ _ h => h) (by kernel_rfl) (by intro w' hS'; obtain ⟨⟨x0, x1⟩, x2⟩ := hS'; go_simp <;> rfl) yS ?_
                  try simp only [List.getElem_toArray, List.getElem_cons_succ, List.getElem_cons_zero, Act.put, List.setIfInBounds_toArray, List.set_cons_zero, List.set_cons_succ]
                  refine wpAnyL_take 1 rfl (by kernel_rfl) (by kernel_rfl) (by kernel_rfl) (by kernel_rfl) (fun _ _ _ h => h) (by kernel_rfl) (by intro w' hS'; obtain ⟨⟨x0, x1⟩, x2⟩ := hS'; go_simp <;> rfl) yS ?_
                  try simp only [List.getElem_toArray, List.getElem_cons_succ, List.getElem_cons_zero, Act.put, List.setIfInBounds_toArray, List.set_cons_zero, List.set_cons_succ]
                  refine wpAnyL_take 3 rfl (by kernel_rfl) (by kernel_rfl) (by kernel_rfl) (by kernel_rfl) (fun _ _ _ h => h) (by kernel_rfl) (by intro w' hS'; obtain ⟨⟨x0, x1⟩, x2⟩ := hS'; go_simp <;> rfl) yS ?_
                  try simp only [List.getElem_toArray, List.getElem_cons_succ, List.getElem_cons_zero, Act.put, List.setIfInBounds_toArray, List.set_cons_zero, List.set_cons_succ]
                  refine wpAnyL_take 4 rfl (by kernel_rfl) (by kernel_rfl) (by kernel_rfl) (by kernel_rfl) (fun _ _ _ h => h) (by kernel_rfl) (by intro w' hS'; obtain ⟨⟨x0, x1⟩, x2⟩ := hS'; go_simp <;> rfl) yS ?_
                  try simp only [List.getElem_toArray, List.getElem_cons_succ, List.getElem_cons_zero, Act.put, List.setIfInBounds_toArray, List.set_cons_zero, List.set_cons_succ]
                  refine wpAnyL_one 2 (by kernel_rfl) rfl (by kernel_rfl) ?_
                  intro K' hK'
                  go_simp
                  go_at_call 24
                  refine (kcv _ yS).mono ?_
                  rintro e W1 ⟨rfl, hS1⟩
                  refine hK'.out _ _ (.inr hS1) ?_
                  clear hK' K'
                  try simp only [List.getElem_toArray, List.getElem_cons_succ, List.getElem_cons_zero, Act.put, List.setIfInBounds_toArray, List.set_cons_zero, List.set_cons_succ]
                  refine wpAnyL_one 5 (by kernel_rfl) rfl (by kernel_rfl) ?_
                  intro K' hK'
                  go_simp
                  go_at_call 25
                  refine (kcl _ hS1).mono ?_
                  rintro e W2 ⟨rfl, hS2⟩
                  refine hK'.out _ _ (.inr hS2) ?_
                  clear hK' K'
                  try simp only [List.getElem_toArray, List.getElem_cons_succ, List.getElem_cons_zero, Act.put, List.setIfInBounds_toArray, List.set_cons_zero, List.set_cons_succ]
                  refine wpAnyL_take 6 rfl (by kernel_rfl) (by kernel_rfl) (by kernel_rfl) (by kernel_rfl) (fun _ _ _ h => h) (by kernel_rfl) (by intro w' hS'; obtain ⟨⟨x0, x1⟩, x2⟩ := hS'; go_simp <;> rfl) hS2 ?_
                  try simp only [List.getElem_toArray, List.getElem_cons_succ, List.getElem_cons_zero, Act.put, List.setIfInBounds_toArray, List.set_cons_zero, List.set_cons_succ]
                  refine wpAnyL_take 7 rfl (by kernel_rfl) (by kernel_rfl) (by kernel_rfl) (by kernel_rfl) (fun _ _ _ h => h) (by kernel_rfl) (by intro w' hS'; obtain ⟨⟨x0, x1⟩, x2⟩ := hS'; go_simp <;> rfl) hS2 ?_
                  try simp only [List.getElem_toArray, List.getElem_cons_succ, List.getElem_cons_zero, Act.put, List.setIfInBounds_toArray, List.set_cons_zero, List.set_cons_succ]
                  refine wpAnyL_one 8 (by kernel_rfl) rfl (by kernel_rfl) ?_
                  intro K' hK'
                  go_simp
                  go_at_call 11
                  refine (kA _ hS2).mono ?_
                  rintro e W3 ⟨rfl, hS3⟩
                  refine hK'.out _ _ (.inr hS3) ?_
                  clear hK' K'
                  try simp only [List.getElem_toArray, List.getElem_cons_succ, List.getElem_cons_zero, Act.put, List.setIfInBounds_toArray, List.set_cons_zero, List.set_cons_succ]
                  refine wpAnyL_take 9 rfl (by kernel_rfl) (by kernel_rfl) (by kernel_rfl) (by kernel_rfl) (fun _ _ _ h => h) (by kernel_rfl) (by intro w' hS'; obtain ⟨⟨x0, x1⟩, x2⟩ := hS'; go_simp <;> rfl) hS3 ?_
                  try simp only [List.getElem_toArray, List.getElem_cons_succ, List.getElem_cons_zero, Act.put, List.setIfInBounds_toArray, List.set_cons_zero, List.set_cons_succ]
                  refine wpAnyL_take 10 rfl (by kernel_rfl) (by kernel_rfl) (by kernel_rfl) (by kernel_rfl) (fun _ _ _ h => h) (by kernel_rfl) (by intro w' hS'; obtain ⟨⟨x0, x1⟩, x2⟩ := hS'; go_simp <;> rfl) hS3 ?_
                  try simp only [List.getElem_toArray, List.getElem_cons_succ, List.getElem_cons_zero, Act.put, List.setIfInBounds_toArray, List.set_cons_zero, List.set_cons_succ]
                  refine wpAnyL_done (by kernel_rfl) (NoPanic.normal ?_) _
                  go_wp2
                  go_ret
                  exact ⟨rfl, hfin _ hS3.2⟩
                · have kib := in_of mb vb k w8 hRdb.sv
                  rw [hib h64b] at kib
                  simp only [hp, hq, Bool.true_and, Bool.false_and, Bool.not_true, Bool.not_false, Bool.and_true, Bool.and_false] at kib
                  obtain ⟨ab, cb', hvb, -⟩ := id hRdb
                  subst hvb
                  clear hRb hRdb
                  go_wp2_with fail
                  refine (kib).mono ?_
                  rintro e wN ⟨rfl, hbN'⟩
                  have hbN := st _ _ hb8 hbN'
                  clear kib
                  have hbD : Below (w.heap.size + 1) w0 wN.drew := hbN.drew
                  have kcv : ∀ W, (fun W => (W.cell? ⟨w.heap.size, 0, none⟩ = some (.string (bk s1)) ∧ W.cell? ⟨w.heap.size, 1, none⟩ = some (.string (bk s2))) ∧ Below (w.heap.size + 1) w0 W) W → Calls Try.prog 24 #[.slice ao l.length cap, .agg #[.string (bk s1), .string (bk s2)]] W fun e w' => e = .returned (.bool c) ∧ (fun W => (W.cell? ⟨w.heap.size, 0, none⟩ = some (.string (bk s1)) ∧ W.cell? ⟨w.heap.size, 1, none⟩ = some (.string (bk s2))) ∧ Below (w.heap.size + 1) w0 W) w' := fun W hW => by
                    refine (kcov W (hRW _ (hfin _ hW.2)).sv).mono ?_
                    rintro e w' ⟨rfl, hb'⟩
                    exact ⟨rfl, clS w' (st _ _ hW.2 hb')⟩
                  have kcl : ∀ W, (fun W => (W.cell? ⟨w.heap.size, 0, none⟩ = some (.string (bk s1)) ∧ W.cell? ⟨w.heap.size, 1, none⟩ = some (.string (bk s2))) ∧ Below (w.heap.size + 1) w0 W) W → Calls Try.prog 25 #[.slice ao l.length cap, .agg #[.string (bk s1), .string (bk s2)]] W fun e w' => e = .returned (.bool c) ∧ (fun W => (W.cell? ⟨w.heap.size, 0, none⟩ = some (.string (bk s1)) ∧ W.cell? ⟨w.heap.size, 1, none⟩ = some (.string (bk s2))) ∧ Below (w.heap.size + 1) w0 W) w' := fun W hW => by
                    refine (kcvl W (hRW _ (hfin _ hW.2)).sv).mono ?_
                    rintro e w' ⟨rfl, hb'⟩
                    exact ⟨rfl, clS w' (st _ _ hW.2 hb')⟩
                  have kA : ∀ W, (fun W => (W.cell? ⟨w.heap.size, 0, none⟩ = some (.string (bk s1)) ∧ W.cell? ⟨w.heap.size, 1, none⟩ = some (.string (bk s2))) ∧ Below (w.heap.size + 1) w0 W) W → Calls Try.prog 11 #[] W fun e w' => e = .returned (.bool true) ∧ (fun W => (W.cell? ⟨w.heap.size, 0, none⟩ = some (.string (bk s1)) ∧ W.cell? ⟨w.heap.size, 1, none⟩ = some (.string (bk s2))) ∧ Below (w.heap.size + 1) w0 W) w' := fun W hW => by
                    refine (kaw W).mono ?_
                    rintro e w' ⟨rfl, hb'⟩
                    exact ⟨rfl, clS w' (st _ _ hW.2 hb')⟩
                  clear kcov kcvl kaw
                  go_wp2
                  refine wp_region_L (fun W => (W.cell? ⟨w.heap.size, 0, none⟩ = some (.string (bk s1)) ∧ W.cell? ⟨w.heap.size, 1, none⟩ = some (.string (bk s2))) ∧ Below (w.heap.size + 1) w0 W) [] (by kernel_rfl) ?_
                  have yS : (fun W => (W.cell? ⟨w.heap.size, 0, none⟩ = some (.string (bk s1)) ∧ W.cell? ⟨w.heap.size, 1, none⟩ = some (.string (bk s2))) ∧ Below (w.heap.size + 1) w0 W) wN.drew := clS _ hbD
                  refine wpAnyL_take 0 rfl (by kernel_rfl) (by kernel_rfl) (by kernel_rfl) (by kernel_rfl) (fun _ _ _ h => h) (by kernel_rfl) (by intro w' hS'; obtain ⟨⟨x0, x1⟩, x2⟩ := hS'; go_simp <;> rfl) yS ?_
                  try simp only [List.getElem_toArray, List.getElem_cons_succ, List.getElem_cons_zero, Act.put, List.setIfInBounds_toArray, List.set_cons_zero, List.set_cons_succ]
                  refine wpAnyL_take 1 rfl (by kernel_rfl) (by kernel_rfl) (by kernel_rfl) (by kernel_rfl) (fun _ _ _ h => h) (by kernel_rfl) (by intro w' hS'; obtain ⟨⟨x0, x1⟩, x2⟩ := hS'; go_simp <;> rfl) yS ?_
                  try simp only [List.getElem_toArray, List.getElem_cons_succ, List.getElem_cons_zero, Act.put, List.setIfInBounds_toArray, List.set_cons_zero, List.set_cons_succ]
                  refine wpAnyL_take 3 rfl (by kernel_rfl) (by kernel_rfl) (by kernel_rfl) (by kernel_rfl) (fun _ _ _ h => h) (by kernel_rfl) (by intro w' hS'; obtain ⟨⟨x0, x1⟩, x2⟩ := hS'; go_simp <;> rfl) yS ?_
                  try simp only [List.getElem_toArray, List.getElem_cons_succ, List.getElem_cons_zero, Act.put, List.setIfInBounds_toArray, List.set_cons_zero, List.set_cons_succ]
                  refine wpAnyL_take 4 rfl (by kernel_rfl) (by kernel_rfl) (by kernel_rfl) (by kernel_rfl) (fun _ _ _ h => h) (by kernel_rfl) (by intro w' hS'; obtain ⟨⟨x0, x1⟩, x2⟩ := hS'; go_simp <;> rfl) yS ?_
                  try simp only [List.getElem_toArray, List.getElem_cons_succ, List.getElem_cons_zero, Act.put, List.setIfInBounds_toArray, List.set_cons_zero, List.set_cons_succ]
                  refine wpAnyL_one 2 (by kernel_rfl) rfl (by kernel_rfl) ?_
                  intro K' hK'
                  go_simp
                  go_at_call 24
                  refine (kcv _ yS).mono ?_
                  rintro e W1 ⟨rfl, hS1⟩
                  refine hK'.out _ _ (.inr hS1) ?_
                  clear hK' K'
                  try simp only [List.getElem_toArray, List.getElem_cons_succ, List.getElem_cons_zero, Act.put, List.setIfInBounds_toArray, List.set_cons_zero, List.set_cons_succ]
                  refine wpAnyL_one 5 (by kernel_rfl) rfl (by kernel_rfl) ?_
                  intro K' hK'
                  go_simp
                  go_at_call 25
                  refine (kcl _ hS1).mono ?_
                  rintro e W2 ⟨rfl, hS2⟩
                  refine hK'.out _ _ (.inr hS2) ?_
                  clear hK' K'
                  try simp only [List.getElem_toArray, List.getElem_cons_succ, List.getElem_cons_zero, Act.put, List.setIfInBounds_toArray, List.set_cons_zero, List.set_cons_succ]
                  refine wpAnyL_take 6 rfl (by kernel_rfl) (by kernel_rfl) (by kernel_rfl) (by kernel_rfl) (fun _ _ _ h => h) (by kernel_rfl) (by intro w' hS'; obtain ⟨⟨x0, x1⟩, x2⟩ := hS'; go_simp <;> rfl) hS2 ?_
                  try simp only [List.getElem_toArray, List.getElem_cons_succ, List.getElem_cons_zero, Act.put, List.setIfInBounds_toArray, List.set_cons_zero, List.set_cons_succ]
                  refine wpAnyL_take 7 rfl (by kernel_rfl) (by kernel_rfl) (by kernel_rfl) (by kernel_rfl) (fun _ _ _ h => h) (by kernel_rfl) (by intro w' hS'; obtain ⟨⟨x0, x1⟩, x2⟩ := hS'; go_simp <;> rfl) hS2 ?_
                  try simp only [List.getElem_toArray, List.getElem_cons_succ, List.getElem_cons_zero, Act.put, List.setIfInBounds_toArray, List.set_cons_zero, List.set_cons_succ]
                  refine wpAnyL_one 8 (by kernel_rfl) rfl (by kernel_rfl) ?_
                  intro K' hK'
                  go_simp
                  go_at_call 11
                  refine (kA _ hS2).mono ?_
                  rintro e W3 ⟨rfl, hS3⟩
                  refine hK'.out _ _ (.inr hS3) ?_
                  clear hK' K'
                  try simp only [List.getElem_toArray, List.getElem_cons_succ, List.getElem_cons_zero, Act.put, List.setIfInBounds_toArray, List.set_cons_zero, List.set_cons_succ]
                  refine wpAnyL_take 9 rfl (by kernel_rfl) (by kernel_rfl) (by kernel_rfl) (by kernel_rfl) (fun _ _ _ h => h) (by kernel_rfl) (by intro w' hS'; obtain ⟨⟨x0, x1⟩, x2⟩ := hS'; go_simp <;> rfl) hS3 ?_
                  try simp only [List.getElem_toArray, List.getElem_cons_succ, List.getElem_cons_zero, Act.put, List.setIfInBounds_toArray, List.set_cons_zero, List.set_cons_succ]
                  refine wpAnyL_take 10 rfl (by kernel_rfl) (by kernel_rfl) (by kernel_rfl) (by kernel_rfl) (fun _ _ _ h => h) (by kernel_rfl) (by intro w' hS'; obtain ⟨⟨x0, x1⟩, x2⟩ := hS'; go_simp <;> rfl) hS3 ?_
                  try simp only [List.getElem_toArray, List.getElem_cons_succ, List.getElem_cons_zero, Act.put, List.setIfInBounds_toArray, List.set_cons_zero, List.set_cons_succ]
                  refine wpAnyL_done (by kernel_rfl) (NoPanic.normal ?_) _
                  go_wp2
                  go_ret
                  exact ⟨rfl, hfin _ hS3.2⟩
          | true =>
            have hp : isIn l k = true := hp0.out
            clear hp0 hpH
            cases q with
            | false =>
              have hq : True := trivial
              have hip : inP l k = true := by unfold inP; rw [hform, decide_eq_true hkn, Bool.true_and, Bool.true_and]; exact hp
              have ki := kinp w5 (hRW _ (hfin _ hb5)).sv
              rw [hip] at ki
              clear hip
              obtain ⟨y0, y1⟩ := (clS w5 hb5).1
              go_wp2_with fail
              refine (ki).mono ?_
              rintro e w6 ⟨rfl, hb6'⟩
              have hb6 := st _ _ hb5 hb6'
              replace hRa := hRa.below hb6'
              replace hRb := hRb.below hb6'
              obtain ⟨y0, y1⟩ := (clS w6 hb6).1
              clear ki hb6'
              rcases resT_two hRa with ⟨rfl, rfl⟩ | ⟨h64a, rfl, hRda⟩
              · clear hRa
                rcases resT_two hRb with ⟨rfl, rfl⟩ | ⟨h64b, rfl, hRdb⟩
                · obtain ⟨wN, hwN⟩ : ∃ wN, wN = w6 := ⟨_, rfl⟩
                  subst hwN
                  have hbN := hb6
                  clear hRb
                  have hbD : Below (w.heap.size + 1) w0 wN.drew := hbN.drew
                  have kcv : ∀ W, (fun W => (W.cell? ⟨w.heap.size, 0, none⟩ = some (.string (bk s1)) ∧ W.cell? ⟨w.heap.size, 1, none⟩ = some (.string (bk s2))) ∧ Below (w.heap.size + 1) w0 W) W → Calls Try.prog 24 #[.slice ao l.length cap, .agg #[.string (bk s1), .string (bk s2)]] W fun e w' => e = .returned (.bool c) ∧ (fun W => (W.cell? ⟨w.heap.size, 0, none⟩ = some (.string (bk s1)) ∧ W.cell? ⟨w.heap.size, 1, none⟩ = some (.string (bk s2))) ∧ Below (w.heap.size + 1) w0 W) w' := fun W hW => by
                    refine (kcov W (hRW _ (hfin _ hW.2)).sv).mono ?_
                    rintro e w' ⟨rfl, hb'⟩
                    exact ⟨rfl, clS w' (st _ _ hW.2 hb')⟩
                  have kcl : ∀ W, (fun W => (W.cell? ⟨w.heap.size, 0, none⟩ = some (.string (bk s1)) ∧ W.cell? ⟨w.heap.size, 1, none⟩ = some (.string (bk s2))) ∧ Below (w.heap.size + 1) w0 W) W → Calls Try.prog 25 #[.slice ao l.length cap, .agg #[.string (bk s1), .string (bk s2)]] W fun e w' => e = .returned (.bool c) ∧ (fun W => (W.cell? ⟨w.heap.size, 0, none⟩ = some (.string (bk s1)) ∧ W.cell? ⟨w.heap.size, 1, none⟩ = some (.string (bk s2))) ∧ Below (w.heap.size + 1) w0 W) w' := fun W hW => by
                    refine (kcvl W (hRW _ (hfin _ hW.2)).sv).mono ?_
                    rintro e w' ⟨rfl, hb'⟩
                    exact ⟨rfl, clS w' (st _ _ hW.2 hb')⟩
                  have kA : ∀ W, (fun W => (W.cell? ⟨w.heap.size, 0, none⟩ = some (.string (bk s1)) ∧ W.cell? ⟨w.heap.size, 1, none⟩ = some (.string (bk s2))) ∧ Below (w.heap.size + 1) w0 W) W → Calls Try.prog 11 #[] W fun e w' => e = .returned (.bool true) ∧ (fun W => (W.cell? ⟨w.heap.size, 0, none⟩ = some (.string (bk s1)) ∧ W.cell? ⟨w.heap.size, 1, none⟩ = some (.string (bk s2))) ∧ Below (w.heap.size + 1) w0 W) w' := fun W hW => by
                    refine (kaw W).mono ?_
                    rintro e w' ⟨rfl, hb'⟩
                    exact ⟨rfl, clS w' (st _ _ hW.2 hb')⟩
                  clear kcov kcvl kaw
                  go_wp2
                  refine wp_region_L (fun W => (W.cell? ⟨w.heap.size, 0, none⟩ = some (.string (bk s1)) ∧ W.cell? ⟨w.heap.size, 1, none⟩ = some (.string (bk s2))) ∧ Below (w.heap.size + 1) w0 W) [] (by kernel_rfl) ?_
                  have yS : (fun W => (W.cell? ⟨w.heap.size, 0, none⟩ = some (.string (bk s1)) ∧ W.cell? ⟨w.heap.size, 1, none⟩ = some (.string (bk s2))) ∧ Below (w.heap.size + 1) w0 W) wN.drew := clS _ hbD
                  refine wpAnyL_take 0 rfl (by kernel_rfl) (by kernel_rfl) (by kernel_rfl) (by kernel_rfl) (fun _ _ _ h => h) (by kernel_rfl) (by intro w' hS'; obtain ⟨⟨x0, x1⟩, x2⟩ := hS'; go_simp <;> rfl) yS ?_
                  try simp only [List.getElem_toArray, List.getElem_cons_succ, List.getElem_cons_zero, Act.put, List.setIfInBounds_toArray, List.set_cons_zero, List.set_cons_succ]
                  refine wpAnyL_take 1 rfl (by kernel_rfl) (by kernel_rfl) (by kernel_rfl) (by kernel_rfl) (fun _ _ _ h => h) (by kernel_rfl) (by intro w' hS'; obtain ⟨⟨x0, x1⟩, x2⟩ := hS'; go_simp <;> rfl) yS ?_
                  try simp only [List.getElem_toArray, List.getElem_cons_succ, List.getElem_cons_zero, Act.put, List.setIfInBounds_toArray, List.set_cons_zero, List.set_cons_succ]
                  refine wpAnyL_take 3 rfl (by kernel_rfl) (by kernel_rfl) (by kernel_rfl) (by kernel_rfl) (fun _ _ _ h => h) (by kernel_rfl) (by intro w' hS'; obtain ⟨⟨x0, x1⟩, x2⟩ := hS'; go_simp <;> rfl) yS ?_
                  try simp only [List.getElem_toArray, List.getElem_cons_succ, List.getElem_cons_zero, Act.put, List.setIfInBounds_toArray, List.set_cons_zero, List.set_cons_succ]
                  refine wpAnyL_take 4 rfl (by kernel_rfl) (by kernel_rfl) (by kernel_rfl) (by kernel_rfl) (fun _ _ _ h => h) (by kernel_rfl) (by intro w' hS'; obtain ⟨⟨x0, x1⟩, x2⟩ := hS'; go_simp <;> rfl) yS ?_
                  try simp only [List.getElem_toArray, List.getElem_cons_succ, List.getElem_cons_zero, Act.put, List.setIfInBounds_toArray, List.set_cons_zero, List.set_cons_succ]
                  refine wpAnyL_one 2 (by kernel_rfl) rfl (by kernel_rfl) ?_
                  intro K' hK'
                  go_simp
                  go_at_call 24
                  refine (kcv _ yS).mono ?_
                  rintro e W1 ⟨rfl, hS1⟩
                  refine hK'.out _ _ (.inr hS1) ?_
                  clear hK' K'
                  try simp only [List.getElem_toArray, List.getElem_cons_succ, List.getElem_cons_zero, Act.put, List.setIfInBounds_toArray, List.set_cons_zero, List.set_cons_succ]
                  refine wpAnyL_one 5 (by kernel_rfl) rfl (by kernel_rfl) ?_
                  intro K' hK'
                  go_simp
                  go_at_call 25
                  refine (kcl _ hS1).mono ?_
                  rintro e W2 ⟨rfl, hS2⟩
                  refine hK'.out _ _ (.inr hS2) ?_
                  clear hK' K'
                  try simp only [List.getElem_toArray, List.getElem_cons_succ, List.getElem_cons_zero, Act.put, List.setIfInBounds_toArray, List.set_cons_zero, List.set_cons_succ]
                  refine wpAnyL_take 6 rfl (by kernel_rfl) (by kernel_rfl) (by kernel_rfl) (by kernel_rfl) (fun _ _ _ h => h) (by kernel_rfl) (by intro w' hS'; obtain ⟨⟨x0, x1⟩, x2⟩ := hS'; go_simp <;> rfl) hS2 ?_
                  try simp only [List.getElem_toArray, List.getElem_cons_succ, List.getElem_cons_zero, Act.put, List.setIfInBounds_toArray, List.set_cons_zero, List.set_cons_succ]
                  refine wpAnyL_take 7 rfl (by kernel_rfl) (by kernel_rfl) (by kernel_rfl) (by kernel_rfl) (fun _ _ _ h => h) (by kernel_rfl) (by intro w' hS'; obtain ⟨⟨x0, x1⟩, x2⟩ := hS'; go_simp <;> rfl) hS2 ?_
                  try simp only [List.getElem_toArray, List.getElem_cons_succ, List.getElem_cons_zero, Act.put, List.setIfInBounds_toArray, List.set_cons_zero, List.set_cons_succ]
                  refine wpAnyL_one 8 (by kernel_rfl) rfl (by kernel_rfl) ?_
                  intro K' hK'
                  go_simp
                  go_at_call 11
                  refine (kA _ hS2).mono ?_
                  rintro e W3 ⟨rfl, hS3⟩
                  refine hK'.out _ _ (.inr hS3) ?_
                  clear hK' K'
                  try simp only [List.getElem_toArray, List.getElem_cons_succ, List.getElem_cons_zero, Act.put, List.setIfInBounds_toArray, List.set_cons_zero, List.set_cons_succ]
                  refine wpAnyL_take 9 rfl (by kernel_rfl) (by kernel_rfl) (by kernel_rfl) (by kernel_rfl) (fun _ _ _ h => h) (by kernel_rfl) (by intro w' hS'; obtain ⟨⟨x0, x1⟩, x2⟩ := hS'; go_simp <;> rfl) hS3 ?_
                  try simp only [List.getElem_toArray, List.getElem_cons_succ, List.getElem_cons_zero, Act.put, List.setIfInBounds_toArray, List.set_cons_zero, List.set_cons_succ]
                  refine wpAnyL_take 10 rfl (by kernel_rfl) (by kernel_rfl) (by kernel_rfl) (by kernel_rfl) (fun _ _ _ h => h) (by kernel_rfl) (by intro w' hS'; obtain ⟨⟨x0, x1⟩, x2⟩ := hS'; go_simp <;> rfl) hS3 ?_
                  try simp only [List.getElem_toArray, List.getElem_cons_succ, List.getElem_cons_zero, Act.put, List.setIfInBounds_toArray, List.set_cons_zero, List.set_cons_succ]
                  refine wpAnyL_done (by kernel_rfl) (NoPanic.normal ?_) _
                  go_wp2
                  go_ret
                  exact ⟨rfl, hfin _ hS3.2⟩
                · have kib := in_of mb vb k w6 hRdb.sv
                  rw [hib h64b] at kib
                  simp only [hp, hq, Bool.true_and, Bool.false_and, Bool.not_true, Bool.not_false, Bool.and_true, Bool.and_false] at kib
                  obtain ⟨ab, cb', hvb, -⟩ := id hRdb
                  subst hvb
                  clear hRb hRdb
                  go_wp2_with fail
                  refine (kib).mono ?_
                  rintro e wN ⟨rfl, hbN'⟩
                  have hbN := st _ _ hb6 hbN'
                  clear kib
                  have hbD : Below (w.heap.size + 1) w0 wN.drew := hbN.drew
                  have kcv : ∀ W, (fun W => (W.cell? ⟨w.heap.size, 0, none⟩ = some (.string (bk s1)) ∧ W.cell? ⟨w.heap.size, 1, none⟩ = some (.string (bk s2))) ∧ Below (w.heap.size + 1) w0 W) W → Calls Try.prog 24 #[.slice ao l.length cap, .agg #[.string (bk s1), .string (bk s2)]] W fun e w' => e = .returned (.bool c) ∧ (fun W => (W.cell? ⟨w.heap.size, 0, none⟩ = some (.string (bk s1)) ∧ W.cell? ⟨w.heap.size, 1, none⟩ = some (.string (bk s2))) ∧ Below (w.heap.size + 1) w0 W) w' := fun W hW => by
                    refine (kcov W (hRW _ (hfin _ hW.2)).sv).mono ?_
                    rintro e w' ⟨rfl, hb'⟩
                    exact ⟨rfl, clS w' (st _ _ hW.2 hb')⟩
                  have kcl : ∀ W, (fun W => (W.cell? ⟨w.heap.size, 0, none⟩ = some (.string (bk s1)) ∧ W.cell? ⟨w.heap.size, 1, none⟩ = some (.string (bk s2))) ∧ Below (w.heap.size + 1) w0 W) W → Calls Try.prog 25 #[.slice ao l.length cap, .agg #[.string (bk s1), .string (bk s2)]] W fun e w' => e = .returned (.bool c) ∧ (fun W => (W.cell? ⟨w.heap.size, 0, none⟩ = some (.string (bk s1)) ∧ W.cell? ⟨w.heap.size, 1, none⟩ = some (.string (bk s2))) ∧ Below (w.heap.size + 1) w0 W) w' := fun W hW => by
                    refine (kcvl W (hRW _ (hfin _ hW.2)).sv).mono ?_
                    rintro e w' ⟨rfl, hb'⟩
                    exact ⟨rfl, clS w' (st _ _ hW.2 hb')⟩
                  have kA : ∀ W, (fun W => (W.cell? ⟨w.heap.size, 0, none⟩ = some (.string (bk s1)) ∧ W.cell? ⟨w.heap.size, 1, none⟩ = some (.string (bk s2))) ∧ Below (w.heap.size + 1) w0 W) W → Calls Try.prog 11 #[] W fun e w' => e = .returned (.bool true) ∧ (fun W => (W.cell? ⟨w.heap.size, 0, none⟩ = some (.string (bk s1)) ∧ W.cell? ⟨w.heap.size, 1, none⟩ = some (.string (bk s2))) ∧ Below (w.heap.size + 1) w0 W) w' := fun W hW => by
                    refine (kaw W).mono ?_
                    rintro e w' ⟨rfl, hb'⟩
                    exact ⟨rfl, clS w' (st _ _ hW.2 hb')⟩
                  clear kcov kcvl kaw
                  go_wp2
                  refine wp_region_L (fun W => (W.cell? ⟨w.heap.size, 0, none⟩ = some (.string (bk s1)) ∧ W.cell? ⟨w.heap.size, 1, none⟩ = some (.string (bk s2))) ∧ Below (w.heap.size + 1) w0 W) [] (by kernel_rfl) ?_
                  have yS : (fun W => (W.cell? ⟨w.heap.size, 0, none⟩ = some (.string (bk s1)) ∧ W.cell? ⟨w.heap.size, 1, none⟩ = some (.string (bk s2))) ∧ Below (w.heap.size + 1) w0 W) wN.drew := clS _ hbD
                  refine wpAnyL_take 0 rfl (by kernel_rfl) (by kernel_rfl) (by kernel_rfl) (by kernel_rfl) (fun _ _ _ h => h) (by kernel_rfl) (by intro w' hS'; obtain ⟨⟨x0, x1⟩, x2⟩ := hS'; go_simp <;> rfl) yS ?_
                  try simp only [List.getElem_toArray, List.getElem_cons_succ, List.getElem_cons_zero, Act.put, List.setIfInBounds_toArray, List.set_cons_zero, List.set_cons_succ]
                  refine wpAnyL_take 1 rfl (by kernel_rfl) (by kernel_rfl) (by kernel_rfl) (by kernel_rfl) (fun _ _ _ h => h) (by kernel_rfl) (by intro w' hS'; obtain ⟨⟨x0, x1⟩, x2⟩ := hS'; go_simp <;> rfl) yS ?_
                  try simp only [List.getElem_toArray, List.getElem_cons_succ, List.getElem_cons_zero, Act.put, List.setIfInBounds_toArray, List.set_cons_zero, List.set_cons_succ]
                  refine wpAnyL_take 3 rfl (by kernel_rfl) (by kernel_rfl) (by kernel_rfl) (by kernel_rfl) (fun _ _ _ h => h) (by kernel_rfl) (by intro w' hS'; obtain ⟨⟨x0, x1⟩, x2⟩ := hS'; go_simp <;> rfl) yS ?_
                  try simp only [List.getElem_toArray, List.getElem_cons_succ, List.getElem_cons_zero, Act.put, List.setIfInBounds_toArray, List.set_cons_zero, List.set_cons_succ]
                  refine wpAnyL_take 4 rfl (by kernel_rfl) (by kernel_rfl) (by kernel_rfl) (by kernel_rfl) (fun _ _ _ h => h) (by kernel_rfl) (by intro w' hS'; obtain ⟨⟨x0, x1⟩, x2⟩ := hS'; go_simp <;> rfl) yS ?_
                  try simp only [List.getElem_toArray, List.getElem_cons_succ, List.getElem_cons_zero, Act.put, List.setIfInBounds_toArray, List.set_cons_zero, List.set_cons_succ]
                  refine wpAnyL_one 2 (by kernel_rfl) rfl (by kernel_rfl) ?_
                  intro K' hK'
                  go_simp
                  go_at_call 24
                  refine (kcv _ yS).mono ?_
                  rintro e W1 ⟨rfl, hS1⟩
                  refine hK'.out _ _ (.inr hS1) ?_
                  clear hK' K'
                  try simp only [List.getElem_toArray, List.getElem_cons_succ, List.getElem_cons_zero, Act.put, List.setIfInBounds_toArray, List.set_cons_zero, List.set_cons_succ]
                  refine wpAnyL_one 5 (by kernel_rfl) rfl (by kernel_rfl) ?_
                  intro K' hK'
                  go_simp
                  go_at_call 25
                  refine (kcl _ hS1).mono ?_
                  rintro e W2 ⟨rfl, hS2⟩
                  refine hK'.out _ _ (.inr hS2) ?_
                  clear hK' K'
                  try simp only [List.getElem_toArray, List.getElem_cons_succ, List.getElem_cons_zero, Act.put, List.setIfInBounds_toArray, List.set_cons_zero, List.set_cons_succ]
                  refine wpAnyL_take 6 rfl (by kernel_rfl) (by kernel_rfl) (by kernel_rfl) (by kernel_rfl) (fun _ _ _ h => h) (by kernel_rfl) (by intro w' hS'; obtain ⟨⟨x0, x1⟩, x2⟩ := hS'; go_simp <;> rfl) hS2 ?_
                  try simp only [List.getElem_toArray, List.getElem_cons_succ, List.getElem_cons_zero, Act.put, List.setIfInBounds_toArray, List.set_cons_zero, List.set_cons_succ]
                  refine wpAnyL_take 7 rfl (by kernel_rfl) (by kernel_rfl) (by kernel_rfl) (by kernel_rfl) (fun _ _ _ h => h) (by kernel_rfl) (by intro w' hS'; obtain ⟨⟨x0, x1⟩, x2⟩ := hS'; go_simp <;> rfl) hS2 ?_
                  try simp only [List.getElem_toArray, List.getElem_cons_succ, List.getElem_cons_zero, Act.put, List.setIfInBounds_toArray, List.set_cons_zero, List.set_cons_succ]
                  refine wpAnyL_one 8 (by kernel_rfl) rfl (by kernel_rfl) ?_
                  intro K' hK'
                  go_simp
                  go_at_call 11
                  refine (kA _ hS2).mono ?_
                  rintro e W3 ⟨rfl, hS3⟩
                  refine hK'.out _ _ (.inr hS3) ?_
                  clear hK' K'
                  try simp only [List.getElem_toArray, List.getElem_cons_succ, List.getElem_cons_zero, Act.put, List.setIfInBounds_toArray, List.set_cons_zero, List.set_cons_succ]
                  refine wpAnyL_take 9 rfl (by kernel_rfl) (by kernel_rfl) (by kernel_rfl) (by kernel_rfl) (fun _ _ _ h => h) (by kernel_rfl) (by intro w' hS'; obtain ⟨⟨x0, x1⟩, x2⟩ := hS'; go_simp <;> rfl) hS3 ?_
                  try simp only [List.getElem_toArray, List.getElem_cons_succ, List.getElem_cons_zero, Act.put, List.setIfInBounds_toArray, List.set_cons_zero, List.set_cons_succ]
                  refine wpAnyL_take 10 rfl (by kernel_rfl) (by kernel_rfl) (by kernel_rfl) (by kernel_rfl) (fun _ _ _ h => h) (by kernel_rfl) (by intro w' hS'; obtain ⟨⟨x0, x1⟩, x2⟩ := hS'; go_simp <;> rfl) hS3 ?_
                  try simp only [List.getElem_toArray, List.getElem_cons_succ, List.getElem_cons_zero, Act.put, List.setIfInBounds_toArray, List.set_cons_zero, List.set_cons_succ]
                  refine wpAnyL_done (by kernel_rfl) (NoPanic.normal ?_) _
                  go_wp2
                  go_ret
                  exact ⟨rfl, hfin _ hS3.2⟩
              · have kia := in_of ma va k w6 hRda.sv
                rw [hia h64a] at kia
                simp only [hp, hq, Bool.true_or, Bool.false_or, Bool.or_true, Bool.or_false] at kia
                have kca := fun W (h : Sv W va ma) => covers_of ma va (s1, s2) W h
                rw [hca h64a] at kca
                obtain ⟨aa, ca', hva, -⟩ := id hRda
                have hRdH : Hid (Rd spE w6 va ma) := hRda
                clear hRa hRda
                subst hva
                go_wp2_with fail
                refine (kia).mono ?_
                rintro e w7 ⟨rfl, hb7'⟩
                have hb7 := st _ _ hb6 hb7'
                replace hRb := hRb.below hb7'
                have kca7 := kca w7 (hRdH.out.below hb7').sv
                obtain ⟨y0, y1⟩ := (clS w7 hb7).1
                clear kia hb7' kca hRdH
                go_wp2_with fail
                refine (kca7).mono ?_
                rintro e w8 ⟨rfl, hb8'⟩
                have hb8 := st _ _ hb7 hb8'
                replace hRb := hRb.below hb8'
                obtain ⟨y0, y1⟩ := (clS w8 hb8).1
                clear kca7 hb8'
                rcases resT_two hRb with ⟨rfl, rfl⟩ | ⟨h64b, rfl, hRdb⟩
                · obtain ⟨wN, hwN⟩ : ∃ wN, wN = w8 := ⟨_, rfl⟩
                  subst hwN
                  have hbN := hb8
                  clear hRb
                  have hbD : Below (w.heap.size + 1) w0 wN.drew := hbN.drew
                  have kcv : ∀ W, (fun W => (W.cell? ⟨w.heap.size, 0, none⟩ = some (.string (bk s1)) ∧ W.cell? ⟨w.heap.size, 1, none⟩ = some (.string (bk s2))) ∧ Below (w.heap.size + 1) w0 W) W → Calls Try.prog 24 #[.slice ao l.length cap, .agg #[.string (bk s1), .string (bk s2)]] W fun e w' => e = .returned (.bool c) ∧ (fun W => (W.cell? ⟨w.heap.size, 0, none⟩ = some (.string (bk s1)) ∧ W.cell? ⟨w.heap.size, 1, none⟩ = some (.string (bk s2))) ∧ Below (w.heap.size + 1) w0 W) w' := fun W hW => by
                    refine (kcov W (hRW _ (hfin _ hW.2)).sv).mono ?_
                    rintro e w' ⟨rfl, hb'⟩
                    exact ⟨rfl, clS w' (st _ _ hW.2 hb')⟩
                  have kcl : ∀ W, (fun W => (W.cell? ⟨w.heap.size, 0, none⟩ = some (.string (bk s1)) ∧ W.cell? ⟨w.heap.size, 1, none⟩ = some (.string (bk s2))) ∧ Below (w.heap.size + 1) w0 W) W → Calls Try.prog 25 #[.slice ao l.length cap, .agg #[.string (bk s1), .string (bk s2)]] W fun e w' => e = .returned (.bool c) ∧ (fun W => (W.cell? ⟨w.heap.size, 0, none⟩ = some (.string (bk s1)) ∧ W.cell? ⟨w.heap.size, 1, none⟩ = some (.string (bk s2))) ∧ Below (w.heap.size + 1) w0 W) w' := fun W hW => by
                    refine (kcvl W (hRW _ (hfin _ hW.2)).sv).mono ?_
                    rintro e w' ⟨rfl, hb'⟩
                    exact ⟨rfl, clS w' (st _ _ hW.2 hb')⟩
                  have kA : ∀ W, (fun W => (W.cell? ⟨w.heap.size, 0, none⟩ = some (.string (bk s1)) ∧ W.cell? ⟨w.heap.size, 1, none⟩ = some (.string (bk s2))) ∧ Below (w.heap.size + 1) w0 W) W → Calls Try.prog 11 #[] W fun e w' => e = .returned (.bool true) ∧ (fun W => (W.cell? ⟨w.heap.size, 0, none⟩ = some (.string (bk s1)) ∧ W.cell? ⟨w.heap.size, 1, none⟩ = some (.string (bk s2))) ∧ Below (w.heap.size + 1) w0 W) w' := fun W hW => by
                    refine (kaw W).mono ?_
                    rintro e w' ⟨rfl, hb'⟩
                    exact ⟨rfl, clS w' (st _ _ hW.2 hb')⟩
                  clear kcov kcvl kaw
                  go_wp2
                  refine wp_region_L (fun W => (W.cell? ⟨w.heap.size, 0, none⟩ = some (.string (bk s1)) ∧ W.cell? ⟨w.heap.size, 1, none⟩ = some (.string (bk s2))) ∧ Below (w.heap.size + 1) w0 W) [] (by kernel_rfl) ?_
                  have yS : (fun W => (W.cell? ⟨w.heap.size, 0, none⟩ = some (.string (bk s1)) ∧ W.cell? ⟨w.heap.size, 1, none⟩ = some (.string (bk s2))) ∧ Below (w.heap.size + 1) w0 W) wN.drew := clS _ hbD
                  refine wpAnyL_take 0 rfl (by kernel_rfl) (by kernel_rfl) (by kernel_rfl) (by kernel_rfl) (fun _ _ _ h => h) (by kernel_rfl) (by intro w' hS'; obtain ⟨⟨x0, x1⟩, x2⟩ := hS'; go_simp <;> rfl) yS ?_
                  try simp only [List.getElem_toArray, List.getElem_cons_succ, List.getElem_cons_zero, Act.put, List.setIfInBounds_toArray, List.set_cons_zero, List.set_cons_succ]
                  refine wpAnyL_take 1 rfl (by kernel_rfl) (by kernel_rfl) (by kernel_rfl) (by kernel_rfl) (fun _ _ _ h => h) (by kernel_rfl) (by intro w' hS'; obtain ⟨⟨x0, x1⟩, x2⟩ := hS'; go_simp <;> rfl) yS ?_
                  try simp only [List.getElem_toArray, List.getElem_cons_succ, List.getElem_cons_zero, Act.put, List.setIfInBounds_toArray, List.set_cons_zero, List.set_cons_succ]
                  refine wpAnyL_take 3 rfl (by kernel_rfl) (by kernel_rfl) (by kernel_rfl) (by kernel_rfl) (fun _ _ _ h => h) (by kernel_rfl) (by intro w' hS'; obtain ⟨⟨x0, x1⟩, x2⟩ := hS'; go_simp <;> rfl) yS ?_
                  try simp only [List.getElem_toArray, List.getElem_cons_succ, List.getElem_cons_zero, Act.put, List.setIfInBounds_toArray, List.set_cons_zero, List.set_cons_succ]
                  refine wpAnyL_take 4 rfl (by kernel_rfl) (by kernel_rfl) (by kernel_rfl) (by kernel_rfl) (fun _ _ _ h => h) (by kernel_rfl) (by intro w' hS'; obtain ⟨⟨x0, x1⟩, x2⟩ := hS'; go_simp <;> rfl) yS ?_
                  try simp only [List.getElem_toArray, List.getElem_cons_succ, List.getElem_cons_zero, Act.put, List.setIfInBounds_toArray, List.set_cons_zero, List.set_cons_succ]
                  refine wpAnyL_one 2 (by kernel_rfl) rfl (by kernel_rfl) ?_
                  intro K' hK'
                  go_simp
                  go_at_call 24
                  refine (kcv _ yS).mono ?_
                  rintro e W1 ⟨rfl, hS1⟩
                  refine hK'.out _ _ (.inr hS1) ?_
                  clear hK' K'
                  try simp only [List.getElem_toArray, List.getElem_cons_succ, List.getElem_cons_zero, Act.put, List.setIfInBounds_toArray, List.set_cons_zero, List.set_cons_succ]
                  refine wpAnyL_one 5 (by kernel_rfl) rfl (by kernel_rfl) ?_
                  intro K' hK'
                  go_simp
                  go_at_call 25
                  refine (kcl _ hS1).mono ?_
                  rintro e W2 ⟨rfl, hS2⟩
                  refine hK'.out _ _ (.inr hS2) ?_
                  clear hK' K'
                  try simp only [List.getElem_toArray, List.getElem_cons_succ, List.getElem_cons_zero, Act.put, List.setIfInBounds_toArray, List.set_cons_zero, List.set_cons_succ]
                  refine wpAnyL_take 6 rfl (by kernel_rfl) (by kernel_rfl) (by kernel_rfl) (by kernel_rfl) (fun _ _ _ h => h) (by kernel_rfl) (by intro w' hS'; obtain ⟨⟨x0, x1⟩, x2⟩ := hS'; go_simp <;> rfl) hS2 ?_
                  try simp only [List.getElem_toArray, List.getElem_cons_succ, List.getElem_cons_zero, Act.put, List.setIfInBounds_toArray, List.set_cons_zero, List.set_cons_succ]
                  refine wpAnyL_take 7 rfl (by kernel_rfl) (by kernel_rfl) (by kernel_rfl) (by kernel_rfl) (fun _ _ _ h => h) (by kernel_rfl) (by intro w' hS'; obtain ⟨⟨x0, x1⟩, x2⟩ := hS'; go_simp <;> rfl) hS2 ?_
                  try simp only [List.getElem_toArray, List.getElem_cons_succ, List.getElem_cons_zero, Act.put, List.setIfInBounds_toArray, List.set_cons_zero, List.set_cons_succ]
                  refine wpAnyL_one 8 (by kernel_rfl) rfl (by kernel_rfl) ?_
                  intro K' hK'
                  go_simp
                  go_at_call 11
                  refine (kA _ hS2).mono ?_
                  rintro e W3 ⟨rfl, hS3⟩
                  refine hK'.out _ _ (.inr hS3) ?_
                  clear hK' K'
                  try simp only [List.getElem_toArray, List.getElem_cons_succ, List.getElem_cons_zero, Act.put, List.setIfInBounds_toArray, List.set_cons_zero, List.set_cons_succ]
                  refine wpAnyL_take 9 rfl (by kernel_rfl) (by kernel_rfl) (by kernel_rfl) (by kernel_rfl) (fun _ _ _ h => h) (by kernel_rfl) (by intro w' hS'; obtain ⟨⟨x0, x1⟩, x2⟩ := hS'; go_simp <;> rfl) hS3 ?_
                  try simp only [List.getElem_toArray, List.getElem_cons_succ, List.getElem_cons_zero, Act.put, List.setIfInBounds_toArray, List.set_cons_zero, List.set_cons_succ]
                  refine wpAnyL_take 10 rfl (by kernel_rfl) (by kernel_rfl) (by kernel_rfl) (by kernel_rfl) (fun _ _ _ h => h) (by kernel_rfl) (by intro w' hS'; obtain ⟨⟨x0, x1⟩, x2⟩ := hS'; go_simp <;> rfl) hS3 ?_
                  try simp only [List.getElem_toArray, List.getElem_cons_succ, List.getElem_cons_zero, Act.put, List.setIfInBounds_toArray, List.set_cons_zero, List.set_cons_succ]
                  refine wpAnyL_done (by kernel_rfl) (NoPanic.normal ?_) _
                  go_wp2
                  go_ret
                  exact ⟨rfl, hfin _ hS3.2⟩
                · have kib := in_of mb vb k w8 hRdb.sv
                  rw [hib h64b] at kib
                  simp only [hp, hq, Bool.true_and, Bool.false_and, Bool.not_true, Bool.not_false, Bool.and_true, Bool.and_false] at kib
                  obtain ⟨ab, cb', hvb, -⟩ := id hRdb
                  subst hvb
                  clear hRb hRdb
                  go_wp2_with fail
                  refine (kib).mono ?_
                  rintro e wN ⟨rfl, hbN'⟩
                  have hbN := st _ _ hb8 hbN'
                  clear kib
                  have hbD : Below (w.heap.size + 1) w0 wN.drew := hbN.drew
                  have kcv : ∀ W, (fun W => (W.cell? ⟨w.heap.size, 0, none⟩ = some (.string (bk s1)) ∧ W.cell? ⟨w.heap.size, 1, none⟩ = some (.string (bk s2))) ∧ Below (w.heap.size + 1) w0 W) W → Calls Try.prog 24 #[.slice ao l.length cap, .agg #[.string (bk s1), .string (bk s2)]] W fun e w' => e = .returned (.bool c) ∧ (fun W => (W.cell? ⟨w.heap.size, 0, none⟩ = some (.string (bk s1)) ∧ W.cell? ⟨w.heap.size, 1, none⟩ = some (.string (bk s2))) ∧ Below (w.heap.size + 1) w0 W) w' := fun W hW => by
                    refine (kcov W (hRW _ (hfin _ hW.2)).sv).mono ?_
                    rintro e w' ⟨rfl, hb'⟩
                    exact ⟨rfl, clS w' (st _ _ hW.2 hb')⟩
                  have kcl : ∀ W, (fun W => (W.cell? ⟨w.heap.size, 0, none⟩ = some (.string (bk s1)) ∧ W.cell? ⟨w.heap.size, 1, none⟩ = some (.string (bk s2))) ∧ Below (w.heap.size + 1) w0 W) W → Calls Try.prog 25 #[.slice ao l.length cap, .agg #[.string (bk s1), .string (bk s2)]] W fun e w' => e = .returned (.bool c) ∧ (fun W => (W.cell? ⟨w.heap.size, 0, none⟩ = some (.string (bk s1)) ∧ W.cell? ⟨w.heap.size, 1, none⟩ = some (.string (bk s2))) ∧ Below (w.heap.size + 1) w0 W) w' := fun W hW => by
                    refine (kcvl W (hRW _ (hfin _ hW.2)).sv).mono ?_
                    rintro e w' ⟨rfl, hb'⟩
                    exact ⟨rfl, clS w' (st _ _ hW.2 hb')⟩
                  have kA : ∀ W, (fun W => (W.cell? ⟨w.heap.size, 0, none⟩ = some (.string (bk s1)) ∧ W.cell? ⟨w.heap.size, 1, none⟩ = some (.string (bk s2))) ∧ Below (w.heap.size + 1) w0 W) W → Calls Try.prog 11 #[] W fun e w' => e = .returned (.bool true) ∧ (fun W => (W.cell? ⟨w.heap.size, 0, none⟩ = some (.string (bk s1)) ∧ W.cell? ⟨w.heap.size, 1, none⟩ = some (.string (bk s2))) ∧ Below (w.heap.size + 1) w0 W) w' := fun W hW => by
                    refine (kaw W).mono ?_
                    rintro e w' ⟨rfl, hb'⟩
                    exact ⟨rfl, clS w' (st _ _ hW.2 hb')⟩
                  clear kcov kcvl kaw
                  go_wp2
                  refine wp_region_L (fun W => (W.cell? ⟨w.heap.size, 0, none⟩ = some (.string (bk s1)) ∧ W.cell? ⟨w.heap.size, 1, none⟩ = some (.string (bk s2))) ∧ Below (w.heap.size + 1) w0 W) [] (by kernel_rfl) ?_
                  have yS : (fun W => (W.cell? ⟨w.heap.size, 0, none⟩ = some (.string (bk s1)) ∧ W.cell? ⟨w.heap.size, 1, none⟩ = some (.string (bk s2))) ∧ Below (w.heap.size + 1) w0 W) wN.drew := clS _ hbD
                  refine wpAnyL_take 0 rfl (by kernel_rfl) (by kernel_rfl) (by kernel_rfl) (by kernel_rfl) (fun _ _ _ h => h) (by kernel_rfl) (by intro w' hS'; obtain ⟨⟨x0, x1⟩, x2⟩ := hS'; go_simp <;> rfl) yS ?_
                  try simp only [List.getElem_toArray, List.getElem_cons_succ, List.getElem_cons_zero, Act.put, List.setIfInBounds_toArray, List.set_cons_zero, List.set_cons_succ]
                  refine wpAnyL_take 1 rfl (by kernel_rfl) (by kernel_rfl) (by kernel_rfl) (by kernel_rfl) (fun _ _ _ h => h) (by kernel_rfl) (by intro w' hS'; obtain ⟨⟨x0, x1⟩, x2⟩ := hS'; go_simp <;> rfl) yS ?_
                  try simp only [List.getElem_toArray, List.getElem_cons_succ, List.getElem_cons_zero, Act.put, List.setIfInBounds_toArray, List.set_cons_zero, List.set_cons_succ]
                  refine wpAnyL_take 3 rfl (by kernel_rfl) (by kernel_rfl) (by kernel_rfl) (by kernel_rfl) (fun _ _ _ h => h) (by kernel_rfl) (by intro w' hS'; obtain ⟨⟨x0, x1⟩, x2⟩ := hS'; go_simp <;> rfl) yS ?_
                  try simp only [List.getElem_toArray, List.getElem_cons_succ, List.getElem_cons_zero, Act.put, List.setIfInBounds_toArray, List.set_cons_zero, List.set_cons_succ]
                  refine wpAnyL_take 4 rfl (by kernel_rfl) (by kernel_rfl) (by kernel_rfl) (by kernel_rfl) (fun _ _ _ h => h) (by kernel_rfl) (by intro w' hS'; obtain ⟨⟨x0, x1⟩, x2⟩ := hS'; go_simp <;> rfl) yS ?_
                  try simp only [List.getElem_toArray, List.getElem_cons_succ, List.getElem_cons_zero, Act.put, List.setIfInBounds_toArray, List.set_cons_zero, List.set_cons_succ]
                  refine wpAnyL_one 2 (by kernel_rfl) rfl (by kernel_rfl) ?_
                  intro K' hK'
                  go_simp
                  go_at_call 24
                  refine (kcv _ yS).mono ?_
                  rintro e W1 ⟨rfl, hS1⟩
                  refine hK'.out _ _ (.inr hS1) ?_
                  clear hK' K'
                  try simp only [List.getElem_toArray, List.getElem_cons_succ, List.getElem_cons_zero, Act.put, List.setIfInBounds_toArray, List.set_cons_zero, List.set_cons_succ]
                  refine wpAnyL_one 5 (by kernel_rfl) rfl (by kernel_rfl) ?_
                  intro K' hK'
                  go_simp
                  go_at_call 25
                  refine (kcl _ hS1).mono ?_
                  rintro e W2 ⟨rfl, hS2⟩
                  refine hK'.out _ _ (.inr hS2) ?_
                  clear hK' K'
                  try simp only [List.getElem_toArray, List.getElem_cons_succ, List.getElem_cons_zero, Act.put, List.setIfInBounds_toArray, List.set_cons_zero, List.set_cons_succ]
                  refine wpAnyL_take 6 rfl (by kernel_rfl) (by kernel_rfl) (by kernel_rfl) (by kernel_rfl) (fun _ _ _ h => h) (by kernel_rfl) (by intro w' hS'; obtain ⟨⟨x0, x1⟩, x2⟩ := hS'; go_simp <;> rfl) hS2 ?_
                  try simp only [List.getElem_toArray, List.getElem_cons_succ, List.getElem_cons_zero, Act.put, List.setIfInBounds_toArray, List.set_cons_zero, List.set_cons_succ]
                  refine wpAnyL_take 7 rfl (by kernel_rfl) (by kernel_rfl) (by kernel_rfl) (by kernel_rfl) (fun _ _ _ h => h) (by kernel_rfl) (by intro w' hS'; obtain ⟨⟨x0, x1⟩, x2⟩ := hS'; go_simp <;> rfl) hS2 ?_
                  try simp only [List.getElem_toArray, List.getElem_cons_succ, List.getElem_cons_zero, Act.put, List.setIfInBounds_toArray, List.set_cons_zero, List.set_cons_succ]
                  refine wpAnyL_one 8 (by kernel_rfl) rfl (by kernel_rfl) ?_
                  intro K' hK'
                  go_simp
                  go_at_call 11
                  refine (kA _ hS2).mono ?_
                  rintro e W3 ⟨rfl, hS3⟩
                  refine hK'.out _ _ (.inr hS3) ?_
                  clear hK' K'
                  try simp only [List.getElem_toArray, List.getElem_cons_succ, List.getElem_cons_zero, Act.put, List.setIfInBounds_toArray, List.set_cons_zero, List.set_cons_succ]
                  refine wpAnyL_take 9 rfl (by kernel_rfl) (by kernel_rfl) (by kernel_rfl) (by kernel_rfl) (fun _ _ _ h => h) (by kernel_rfl) (by intro w' hS'; obtain ⟨⟨x0, x1⟩, x2⟩ := hS'; go_simp <;> rfl) hS3 ?_
                  try simp only [List.getElem_toArray, List.getElem_cons_succ, List.getElem_cons_zero, Act.put, List.setIfInBounds_toArray, List.set_cons_zero, List.set_cons_succ]
                  refine wpAnyL_take 10 rfl (by kernel_rfl) (by kernel_rfl) (by kernel_rfl) (by kernel_rfl) (fun _ _ _ h => h) (by kernel_rfl) (by intro w' hS'; obtain ⟨⟨x0, x1⟩, x2⟩ := hS'; go_simp <;> rfl) hS3 ?_
                  try simp only [List.getElem_toArray, List.getElem_cons_succ, List.getElem_cons_zero, Act.put, List.setIfInBounds_toArray, List.set_cons_zero, List.set_cons_succ]
                  refine wpAnyL_done (by kernel_rfl) (NoPanic.normal ?_) _
                  go_wp2
                  go_ret
                  exact ⟨rfl, hfin _ hS3.2⟩
            | true =>
              have hq : True := trivial
              have hip : inP l k = true := by unfold inP; rw [hform, decide_eq_true hkn, Bool.true_and, Bool.true_and]; exact hp
              have ki := kinp w5 (hRW _ (hfin _ hb5)).sv
              rw [hip] at ki
              clear hip
              obtain ⟨y0, y1⟩ := (clS w5 hb5).1
              go_wp2_with fail
              refine (ki).mono ?_
              rintro e w6 ⟨rfl, hb6'⟩
              have hb6 := st _ _ hb5 hb6'
              replace hRa := hRa.below hb6'
              replace hRb := hRb.below hb6'
              obtain ⟨y0, y1⟩ := (clS w6 hb6).1
              clear ki hb6'
              rcases resT_two hRa with ⟨rfl, rfl⟩ | ⟨h64a, rfl, hRda⟩
              · clear hRa
                rcases resT_two hRb with ⟨rfl, rfl⟩ | ⟨h64b, rfl, hRdb⟩
                · obtain ⟨wN, hwN⟩ : ∃ wN, wN = w6 := ⟨_, rfl⟩
                  subst hwN
                  have hbN := hb6
                  clear hRb
                  have hbD : Below (w.heap.size + 1) w0 wN.drew := hbN.drew
                  have kcv : ∀ W, (fun W => (W.cell? ⟨w.heap.size, 0, none⟩ = some (.string (bk s1)) ∧ W.cell? ⟨w.heap.size, 1, none⟩ = some (.string (bk s2))) ∧ Below (w.heap.size + 1) w0 W) W → Calls Try.prog 24 #[.slice ao l.length cap, .agg #[.string (bk s1), .string (bk s2)]] W fun e w' => e = .returned (.bool c) ∧ (fun W => (W.cell? ⟨w.heap.size, 0, none⟩ = some (.string (bk s1)) ∧ W.cell? ⟨w.heap.size, 1, none⟩ = some (.string (bk s2))) ∧ Below (w.heap.size + 1) w0 W) w' := fun W hW => by
                    refine (kcov W (hRW _ (hfin _ hW.2)).sv).mono ?_
                    rintro e w' ⟨rfl, hb'⟩
                    exact ⟨rfl, clS w' (st _ _ hW.2 hb')⟩
                  have kcl : ∀ W, (fun W => (W.cell? ⟨w.heap.size, 0, none⟩ = some (.string (bk s1)) ∧ W.cell? ⟨w.heap.size, 1, none⟩ = some (.string (bk s2))) ∧ Below (w.heap.size + 1) w0 W) W → Calls Try.prog 25 #[.slice ao l.length cap, .agg #[.string (bk s1), .string (bk s2)]] W fun e w' => e = .returned (.bool c) ∧ (fun W => (W.cell? ⟨w.heap.size, 0, none⟩ = some (.string (bk s1)) ∧ W.cell? ⟨w.heap.size, 1, none⟩ = some (.string (bk s2))) ∧ Below (w.heap.size + 1) w0 W) w' := fun W hW => by
                    refine (kcvl W (hRW _ (hfin _ hW.2)).sv).mono ?_
                    rintro e w' ⟨rfl, hb'⟩
                    exact ⟨rfl, clS w' (st _ _ hW.2 hb')⟩
                  have kA : ∀ W, (fun W => (W.cell? ⟨w.heap.size, 0, none⟩ = some (.string (bk s1)) ∧ W.cell? ⟨w.heap.size, 1, none⟩ = some (.string (bk s2))) ∧ Below (w.heap.size + 1) w0 W) W → Calls Try.prog 11 #[] W fun e w' => e = .returned (.bool true) ∧ (fun W => (W.cell? ⟨w.heap.size, 0, none⟩ = some (.string (bk s1)) ∧ W.cell? ⟨w.heap.size, 1, none⟩ = some (.string (bk s2))) ∧ Below (w.heap.size + 1) w0 W) w' := fun W hW => by
                    refine (kaw W).mono ?_
                    rintro e w' ⟨rfl, hb'⟩
                    exact ⟨rfl, clS w' (st _ _ hW.2 hb')⟩
                  clear kcov kcvl kaw
                  go_wp2
                  refine wp_region_L (fun W => (W.cell? ⟨w.heap.size, 0, none⟩ = some (.string (bk s1)) ∧ W.cell? ⟨w.heap.size, 1, none⟩ = some (.string (bk s2))) ∧ Below (w.heap.size + 1) w0 W) [] (by kernel_rfl) ?_
                  have yS : (fun W => (W.cell? ⟨w.heap.size, 0, none⟩ = some (.string (bk s1)) ∧ W.cell? ⟨w.heap.size, 1, none⟩ = some (.string (bk s2))) ∧ Below (w.heap.size + 1) w0 W) wN.drew := clS _ hbD
                  refine wpAnyL_take 0 rfl (by kernel_rfl) (by kernel_rfl) (by kernel_rfl) (by kernel_rfl) (fun _ _ _ h => h) (by kernel_rfl) (by intro w' hS'; obtain ⟨⟨x0, x1⟩, x2⟩ := hS'; go_simp <;> rfl) yS ?_
                  try simp only [List.getElem_toArray, List.getElem_cons_succ, List.getElem_cons_zero, Act.put, List.setIfInBounds_toArray, List.set_cons_zero, List.set_cons_succ]
                  refine wpAnyL_take 1 rfl (by kernel_rfl) (by kernel_rfl) (by kernel_rfl) (by kernel_rfl) (fun _ _ _ h => h) (by kernel_rfl) (by intro w' hS'; obtain ⟨⟨x0, x1⟩, x2⟩ := hS'; go_simp <;> rfl) yS ?_
                  try simp only [List.getElem_toArray, List.getElem_cons_succ, List.getElem_cons_zero, Act.put, List.setIfInBounds_toArray, List.set_cons_zero, List.set_cons_succ]
                  refine wpAnyL_take 3 rfl (by kernel_rfl) (by kernel_rfl) (by kernel_rfl) (by kernel_rfl) (fun _ _ _ h => h) (by kernel_rfl) (by intro w' hS'; obtain ⟨⟨x0, x1⟩, x2⟩ := hS'; go_simp <;> rfl) yS ?_
                  try simp only [List.getElem_toArray, List.getElem_cons_succ, List.getElem_cons_zero, Act.put, List.setIfInBounds_toArray, List.set_cons_zero, List.set_cons_succ]
                  refine wpAnyL_take 4 rfl (by kernel_rfl) (by kernel_rfl) (by kernel_rfl) (by kernel_rfl) (fun _ _ _ h => h) (by kernel_rfl) (by intro w' hS'; obtain ⟨⟨x0, x1⟩, x2⟩ := hS'; go_simp <;> rfl) yS ?_
                  try simp only [List.getElem_toArray, List.getElem_cons_succ, List.getElem_cons_zero, Act.put, List.setIfInBounds_toArray, List.set_cons_zero, List.set_cons_succ]
                  refine wpAnyL_one 2 (by kernel_rfl) rfl (by kernel_rfl) ?_
                  intro K' hK'
                  go_simp
                  go_at_call 24
                  refine (kcv _ yS).mono ?_
                  rintro e W1 ⟨rfl, hS1⟩
                  refine hK'.out _ _ (.inr hS1) ?_
                  clear hK' K'
                  try simp only [List.getElem_toArray, List.getElem_cons_succ, List.getElem_cons_zero, Act.put, List.setIfInBounds_toArray, List.set_cons_zero, List.set_cons_succ]
                  refine wpAnyL_one 5 (by kernel_rfl) rfl (by kernel_rfl) ?_
                  intro K' hK'
                  go_simp
                  go_at_call 25
                  refine (kcl _ hS1).mono ?_
                  rintro e W2 ⟨rfl, hS2⟩
                  refine hK'.out _ _ (.inr hS2) ?_
                  clear hK' K'
                  try simp only [List.getElem_toArray, List.getElem_cons_succ, List.getElem_cons_zero, Act.put, List.setIfInBounds_toArray, List.set_cons_zero, List.set_cons_succ]
                  refine wpAnyL_take 6 rfl (by kernel_rfl) (by kernel_rfl) (by kernel_rfl) (by kernel_rfl) (fun _ _ _ h => h) (by kernel_rfl) (by intro w' hS'; obtain ⟨⟨x0, x1⟩, x2⟩ := hS'; go_simp <;> rfl) hS2 ?_
                  try simp only [List.getElem_toArray, List.getElem_cons_succ, List.getElem_cons_zero, Act.put, List.setIfInBounds_toArray, List.set_cons_zero, List.set_cons_succ]
                  refine wpAnyL_take 7 rfl (by kernel_rfl) (by kernel_rfl) (by kernel_rfl) (by kernel_rfl) (fun _ _ _ h => h) (by kernel_rfl) (by intro w' hS'; obtain ⟨⟨x0, x1⟩, x2⟩ := hS'; go_simp <;> rfl) hS2 ?_
                  try simp only [List.getElem_toArray, List.getElem_cons_succ, List.getElem_cons_zero, Act.put, List.setIfInBounds_toArray, List.set_cons_zero, List.set_cons_succ]
                  refine wpAnyL_one 8 (by kernel_rfl) rfl (by kernel_rfl) ?_
                  intro K' hK'
                  go_simp
                  go_at_call 11
                  refine (kA _ hS2).mono ?_
                  rintro e W3 ⟨rfl, hS3⟩
                  refine hK'.out _ _ (.inr hS3) ?_
                  clear hK' K'
                  try simp only [List.getElem_toArray, List.getElem_cons_succ, List.getElem_cons_zero, Act.put, List.setIfInBounds_toArray, List.set_cons_zero, List.set_cons_succ]
                  refine wpAnyL_take 9 rfl (by kernel_rfl) (by kernel_rfl) (by kernel_rfl) (by kernel_rfl) (fun _ _ _ h => h) (by kernel_rfl) (by intro w' hS'; obtain ⟨⟨x0, x1⟩, x2⟩ := hS'; go_simp <;> rfl) hS3 ?_
                  try simp only [List.getElem_toArray, List.getElem_cons_succ, List.getElem_cons_zero, Act.put, List.setIfInBounds_toArray, List.set_cons_zero, List.set_cons_succ]
                  refine wpAnyL_take 10 rfl (by kernel_rfl) (by kernel_rfl) (by kernel_rfl) (by kernel_rfl) (fun _ _ _ h => h) (by kernel_rfl) (by intro w' hS'; obtain ⟨⟨x0, x1⟩, x2⟩ := hS'; go_simp <;> rfl) hS3 ?_
                  try simp only [List.getElem_toArray, List.getElem_cons_succ, List.getElem_cons_zero, Act.put, List.setIfInBounds_toArray, List.set_cons_zero, List.set_cons_succ]
                  refine wpAnyL_done (by kernel_rfl) (NoPanic.normal ?_) _
                  go_wp2
                  go_ret
                  exact ⟨rfl, hfin _ hS3.2⟩
                · have kib := in_of mb vb k w6 hRdb.sv
                  rw [hib h64b] at kib
                  simp only [hp, hq, Bool.true_and, Bool.false_and, Bool.not_true, Bool.not_false, Bool.and_true, Bool.and_false] at kib
                  obtain ⟨ab, cb', hvb, -⟩ := id hRdb
                  subst hvb
                  clear hRb hRdb
                  go_wp2_with fail
                  refine (kib).mono ?_
                  rintro e wN ⟨rfl, hbN'⟩
                  have hbN := st _ _ hb6 hbN'
                  clear kib
                  have hbD : Below (w.heap.size + 1) w0 wN.drew := hbN.drew
                  have kcv : ∀ W, (fun W => (W.cell? ⟨w.heap.size, 0, none⟩ = some (.string (bk s1)) ∧ W.cell? ⟨w.heap.size, 1, none⟩ = some (.string (bk s2))) ∧ Below (w.heap.size + 1) w0 W) W → Calls Try.prog 24 #[.slice ao l.length cap, .agg #[.string (bk s1), .string (bk s2)]] W fun e w' => e = .returned (.bool c) ∧ (fun W => (W.cell? ⟨w.heap.size, 0, none⟩ = some (.string (bk s1)) ∧ W.cell? ⟨w.heap.size, 1, none⟩ = some (.string (bk s2))) ∧ Below (w.heap.size + 1) w0 W) w' := fun W hW => by
                    refine (kcov W (hRW _ (hfin _ hW.2)).sv).mono ?_
                    rintro e w' ⟨rfl, hb'⟩
                    exact ⟨rfl, clS w' (st _ _ hW.2 hb')⟩
                  have kcl : ∀ W, (fun W => (W.cell? ⟨w.heap.size, 0, none⟩ = some (.string (bk s1)) ∧ W.cell? ⟨w.heap.size, 1, none⟩ = some (.string (bk s2))) ∧ Below (w.heap.size + 1) w0 W) W → Calls Try.prog 25 #[.slice ao l.length cap, .agg #[.string (bk s1), .string (bk s2)]] W fun e w' => e = .returned (.bool c) ∧ (fun W => (W.cell? ⟨w.heap.size, 0, none⟩ = some (.string (bk s1)) ∧ W.cell? ⟨w.heap.size, 1, none⟩ = some (.string (bk s2))) ∧ Below (w.heap.size + 1) w0 W) w' := fun W hW => by
                    refine (kcvl W (hRW _ (hfin _ hW.2)).sv).mono ?_
                    rintro e w' ⟨rfl, hb'⟩
                    exact ⟨rfl, clS w' (st _ _ hW.2 hb')⟩
                  have kA : ∀ W, (fun W => (W.cell? ⟨w.heap.size, 0, none⟩ = some (.string (bk s1)) ∧ W.cell? ⟨w.heap.size, 1, none⟩ = some (.string (bk s2))) ∧ Below (w.heap.size + 1) w0 W) W → Calls Try.prog 11 #[] W fun e w' => e = .returned (.bool true) ∧ (fun W => (W.cell? ⟨w.heap.size, 0, none⟩ = some (.string (bk s1)) ∧ W.cell? ⟨w.heap.size, 1, none⟩ = some (.string (bk s2))) ∧ Below (w.heap.size + 1) w0 W) w' := fun W hW => by
                    refine (kaw W).mono ?_
                    rintro e w' ⟨rfl, hb'⟩
                    exact ⟨rfl, clS w' (st _ _ hW.2 hb')⟩
                  clear kcov kcvl kaw
                  go_wp2
                  refine wp_region_L (fun W => (W.cell? ⟨w.heap.size, 0, none⟩ = some (.string (bk s1)) ∧ W.cell? ⟨w.heap.size, 1, none⟩ = some (.string (bk s2))) ∧ Below (w.heap.size + 1) w0 W) [] (by kernel_rfl) ?_
                  have yS : (fun W => (W.cell? ⟨w.heap.size, 0, none⟩ = some (.string (bk s1)) ∧ W.cell? ⟨w.heap.size, 1, none⟩ = some (.string (bk s2))) ∧ Below (w.heap.size + 1) w0 W) wN.drew := clS _ hbD
                  refine wpAnyL_take 0 rfl (by kernel_rfl) (by kernel_rfl) (by kernel_rfl) (by kernel_rfl) (fun _ _ _ h => h) (by kernel_rfl) (by intro w' hS'; obtain ⟨⟨x0, x1⟩, x2⟩ := hS'; go_simp <;> rfl) yS ?_
                  try simp only [List.getElem_toArray, List.getElem_cons_succ, List.getElem_cons_zero, Act.put, List.setIfInBounds_toArray, List.set_cons_zero, List.set_cons_succ]
                  refine wpAnyL_take 1 rfl (by kernel_rfl) (by kernel_rfl) (by kernel_rfl) (by kernel_rfl) (fun _ _ _ h => h) (by kernel_rfl) (by intro w' hS'; obtain ⟨⟨x0, x1⟩, x2⟩ := hS'; go_simp <;> rfl) yS ?_
                  try simp only [List.getElem_toArray, List.getElem_cons_succ, List.getElem_cons_zero, Act.put, List.setIfInBounds_toArray, List.set_cons_zero, List.set_cons_succ]
                  refine wpAnyL_take 3 rfl (by kernel_rfl) (by kernel_rfl) (by kernel_rfl) (by kernel_rfl) (fun _ _ _ h => h) (by kernel_rfl) (by intro w' hS'; obtain ⟨⟨x0, x1⟩, x2⟩ := hS'; go_simp <;> rfl) yS ?_
                  try simp only [List.getElem_toArray, List.getElem_cons_succ, List.getElem_cons_zero, Act.put, List.setIfInBounds_toArray, List.set_cons_zero, List.set_cons_succ]
                  refine wpAnyL_take 4 rfl (by kernel_rfl) (by kernel_rfl) (by kernel_rfl) (by kernel_rfl) (fun _ _ _ h => h) (by kernel_rfl) (by intro w' hS'; obtain ⟨⟨x0, x1⟩, x2⟩ := hS'; go_simp <;> rfl) yS ?_
                  try simp only [List.getElem_toArray, List.getElem_cons_succ, List.getElem_cons_zero, Act.put, List.setIfInBounds_toArray, List.set_cons_zero, List.set_cons_succ]
                  refine wpAnyL_one 2 (by kernel_rfl) rfl (by kernel_rfl) ?_
                  intro K' hK'
                  go_simp
                  go_at_call 24
                  refine (kcv _ yS).mono ?_
                  rintro e W1 ⟨rfl, hS1⟩
                  refine hK'.out _ _ (.inr hS1) ?_
                  clear hK' K'
                  try simp only [List.getElem_toArray, List.getElem_cons_succ, List.getElem_cons_zero, Act.put, List.setIfInBounds_toArray, List.set_cons_zero, List.set_cons_succ]
                  refine wpAnyL_one 5 (by kernel_rfl) rfl (by kernel_rfl) ?_
                  intro K' hK'
                  go_simp
                  go_at_call 25
                  refine (kcl _ hS1).mono ?_
                  rintro e W2 ⟨rfl, hS2⟩
                  refine hK'.out _ _ (.inr hS2) ?_
                  clear hK' K'
                  try simp only [List.getElem_toArray, List.getElem_cons_succ, List.getElem_cons_zero, Act.put, List.setIfInBounds_toArray, List.set_cons_zero, List.set_cons_succ]
                  refine wpAnyL_take 6 rfl (by kernel_rfl) (by kernel_rfl) (by kernel_rfl) (by kernel_rfl) (fun _ _ _ h => h) (by kernel_rfl) (by intro w' hS'; obtain ⟨⟨x0, x1⟩, x2⟩ := hS'; go_simp <;> rfl) hS2 ?_
                  try simp only [List.getElem_toArray, List.getElem_cons_succ, List.getElem_cons_zero, Act.put, List.setIfInBounds_toArray, List.set_cons_zero, List.set_cons_succ]
                  refine wpAnyL_take 7 rfl (by kernel_rfl) (by kernel_rfl) (by kernel_rfl) (by kernel_rfl) (fun _ _ _ h => h) (by kernel_rfl) (by intro w' hS'; obtain ⟨⟨x0, x1⟩, x2⟩ := hS'; go_simp <;> rfl) hS2 ?_
                  try simp only [List.getElem_toArray, List.getElem_cons_succ, List.getElem_cons_zero, Act.put, List.setIfInBounds_toArray, List.set_cons_zero, List.set_cons_succ]
                  refine wpAnyL_one 8 (by kernel_rfl) rfl (by kernel_rfl) ?_
                  intro K' hK'
                  go_simp
                  go_at_call 11
                  refine (kA _ hS2).mono ?_
                  rintro e W3 ⟨rfl, hS3⟩
                  refine hK'.out _ _ (.inr hS3) ?_
                  clear hK' K'
                  try simp only [List.getElem_toArray, List.getElem_cons_succ, List.getElem_cons_zero, Act.put, List.setIfInBounds_toArray, List.set_cons_zero, List.set_cons_succ]
                  refine wpAnyL_take 9 rfl (by kernel_rfl) (by kernel_rfl) (by kernel_rfl) (by kernel_rfl) (fun _ _ _ h => h) (by kernel_rfl) (by intro w' hS'; obtain ⟨⟨x0, x1⟩, x2⟩ := hS'; go_simp <;> rfl) hS3 ?_
                  try simp only [List.getElem_toArray, List.getElem_cons_succ, List.getElem_cons_zero, Act.put, List.setIfInBounds_toArray, List.set_cons_zero, List.set_cons_succ]
                  refine wpAnyL_take 10 rfl (by kernel_rfl) (by kernel_rfl) (by kernel_rfl) (by kernel_rfl) (fun _ _ _ h => h) (by kernel_rfl) (by intro w' hS'; obtain ⟨⟨x0, x1⟩, x2⟩ := hS'; go_simp <;> rfl) hS3 ?_
                  try simp only [List.getElem_toArray, List.getElem_cons_succ, List.getElem_cons_zero, Act.put, List.setIfInBounds_toArray, List.set_cons_zero, List.set_cons_succ]
                  refine wpAnyL_done (by kernel_rfl) (NoPanic.normal ?_) _
                  go_wp2
                  go_ret
                  exact ⟨rfl, hfin _ hS3.2⟩
              · have kia := in_of ma va k w6 hRda.sv
                rw [hia h64a] at kia
                simp only [hp, hq, Bool.true_or, Bool.false_or, Bool.or_true, Bool.or_false] at kia
                have kca := fun W (h : Sv W va ma) => covers_of ma va (s1, s2) W h
                rw [hca h64a] at kca
                obtain ⟨aa, ca', hva, -⟩ := id hRda
                have hRdH : Hid (Rd spE w6 va ma) := hRda
                clear hRa hRda
                subst hva
                go_wp2_with fail
                refine (kia).mono ?_
                rintro e w7 ⟨rfl, hb7'⟩
                have hb7 := st _ _ hb6 hb7'
                replace hRb := hRb.below hb7'
                have kca7 := kca w7 (hRdH.out.below hb7').sv
                obtain ⟨y0, y1⟩ := (clS w7 hb7).1
                clear kia hb7' kca hRdH
                go_wp2_with fail
                refine (kca7).mono ?_
                rintro e w8 ⟨rfl, hb8'⟩
                have hb8 := st _ _ hb7 hb8'
                replace hRb := hRb.below hb8'
                obtain ⟨y0, y1⟩ := (clS w8 hb8).1
                clear kca7 hb8'
                rcases resT_two hRb with ⟨rfl, rfl⟩ | ⟨h64b, rfl, hRdb⟩
                · obtain ⟨wN, hwN⟩ : ∃ wN, wN = w8 := ⟨_, rfl⟩
                  subst hwN
                  have hbN := hb8
                  clear hRb
                  have hbD : Below (w.heap.size + 1) w0 wN.drew := hbN.drew
                  have kcv : ∀ W, (fun W => (W.cell? ⟨w.heap.size, 0, none⟩ = some (.string (bk s1)) ∧ W.cell? ⟨w.heap.size, 1, none⟩ = some (.string (bk s2))) ∧ Below (w.heap.size + 1) w0 W) W → Calls Try.prog 24 #[.slice ao l.length cap, .agg #[.string (bk s1), .string (bk s2)]] W fun e w' => e = .returned (.bool c) ∧ (fun W => (W.cell? ⟨w.heap.size, 0, none⟩ = some (.string (bk s1)) ∧ W.cell? ⟨w.heap.size, 1, none⟩ = some (.string (bk s2))) ∧ Below (w.heap.size + 1) w0 W) w' := fun W hW => by
                    refine (kcov W (hRW _ (hfin _ hW.2)).sv).mono ?_
                    rintro e w' ⟨rfl, hb'⟩
                    exact ⟨rfl, clS w' (st _ _ hW.2 hb')⟩
                  have kcl : ∀ W, (fun W => (W.cell? ⟨w.heap.size, 0, none⟩ = some (.string (bk s1)) ∧ W.cell? ⟨w.heap.size, 1, none⟩ = some (.string (bk s2))) ∧ Below (w.heap.size + 1) w0 W) W → Calls Try.prog 25 #[.slice ao l.length cap, .agg #[.string (bk s1), .string (bk s2)]] W fun e w' => e = .returned (.bool c) ∧ (fun W => (W.cell? ⟨w.heap.size, 0, none⟩ = some (.string (bk s1)) ∧ W.cell? ⟨w.heap.size, 1, none⟩ = some (.string (bk s2))) ∧ Below (w.heap.size + 1) w0 W) w' := fun W hW => by
                    refine (kcvl W (hRW _ (hfin _ hW.2)).sv).mono ?_
                    rintro e w' ⟨rfl, hb'⟩
                    exact ⟨rfl, clS w' (st _ _ hW.2 hb')⟩
                  have kA : ∀ W, (fun W => (W.cell? ⟨w.heap.size, 0, none⟩ = some (.string (bk s1)) ∧ W.cell? ⟨w.heap.size, 1, none⟩ = some (.string (bk s2))) ∧ Below (w.heap.size + 1) w0 W) W → Calls Try.prog 11 #[] W fun e w' => e = .returned (.bool true) ∧ (fun W => (W.cell? ⟨w.heap.size, 0, none⟩ = some (.string (bk s1)) ∧ W.cell? ⟨w.heap.size, 1, none⟩ = some (.string (bk s2))) ∧ Below (w.heap.size + 1) w0 W) w' := fun W hW => by
                    refine (kaw W).mono ?_
                    rintro e w' ⟨rfl, hb'⟩
                    exact ⟨rfl, clS w' (st _ _ hW.2 hb')⟩
                  clear kcov kcvl kaw
                  go_wp2
                  refine wp_region_L (fun W => (W.cell? ⟨w.heap.size, 0, none⟩ = some (.string (bk s1)) ∧ W.cell? ⟨w.heap.size, 1, none⟩ = some (.string (bk s2))) ∧ Below (w.heap.size + 1) w0 W) [] (by kernel_rfl) ?_
                  have yS : (fun W => (W.cell? ⟨w.heap.size, 0, none⟩ = some (.string (bk s1)) ∧ W.cell? ⟨w.heap.size, 1, none⟩ = some (.string (bk s2))) ∧ Below (w.heap.size + 1) w0 W) wN.drew := clS _ hbD
                  refine wpAnyL_take 0 rfl (by kernel_rfl) (by kernel_rfl) (by kernel_rfl) (by kernel_rfl) (fun _ _ _ h => h) (by kernel_rfl) (by intro w' hS'; obtain ⟨⟨x0, x1⟩, x2⟩ := hS'; go_simp <;> rfl) yS ?_
                  try simp only [List.getElem_toArray, List.getElem_cons_succ, List.getElem_cons_zero, Act.put, List.setIfInBounds_toArray, List.set_cons_zero, List.set_cons_succ]
                  refine wpAnyL_take 1 rfl (by kernel_rfl) (by kernel_rfl) (by kernel_rfl) (by kernel_rfl) (fun _ _ _ h => h) (by kernel_rfl) (by intro w' hS'; obtain ⟨⟨x0, x1⟩, x2⟩ := hS'; go_simp <;> rfl) yS ?_
                  try simp only [List.getElem_toArray, List.getElem_cons_succ, List.getElem_cons_zero, Act.put, List.setIfInBounds_toArray, List.set_cons_zero, List.set_cons_succ]
                  refine wpAnyL_take 3 rfl (by kernel_rfl) (by kernel_rfl) (by kernel_rfl) (by kernel_rfl) (fun _ _ _ h => h) (by kernel_rfl) (by intro w' hS'; obtain ⟨⟨x0, x1⟩, x2⟩ := hS'; go_simp <;> rfl) yS ?_
                  try simp only [List.getElem_toArray, List.getElem_cons_succ, List.getElem_cons_zero, Act.put, List.setIfInBounds_toArray, List.set_cons_zero, List.set_cons_succ]
                  refine wpAnyL_take 4 rfl (by kernel_rfl) (by kernel_rfl) (by kernel_rfl) (by kernel_rfl) (fun _ _ _ h => h) (by kernel_rfl) (by intro w' hS'; obtain ⟨⟨x0, x1⟩, x2⟩ := hS'; go_simp <;> rfl) yS ?_
                  try simp only [List.getElem_toArray, List.getElem_cons_succ, List.getElem_cons_zero, Act.put, List.setIfInBounds_toArray, List.set_cons_zero, List.set_cons_succ]
                  refine wpAnyL_one 2 (by kernel_rfl) rfl (by kernel_rfl) ?_
                  intro K' hK'
                  go_simp
                  go_at_call 24
                  refine (kcv _ yS).mono ?_
                  rintro e W1 ⟨rfl, hS1⟩
                  refine hK'.out _ _ (.inr hS1) ?_
                  clear hK' K'
                  try simp only [List.getElem_toArray, List.getElem_cons_succ, List.getElem_cons_zero, Act.put, List.setIfInBounds_toArray, List.set_cons_zero, List.set_cons_succ]
                  refine wpAnyL_one 5 (by kernel_rfl) rfl (by kernel_rfl) ?_
                  intro K' hK'
                  go_simp
                  go_at_call 25
                  refine (kcl _ hS1).mono ?_
                  rintro e W2 ⟨rfl, hS2⟩
                  refine hK'.out _ _ (.inr hS2) ?_
                  clear hK' K'
                  try simp only [List.getElem_toArray, List.getElem_cons_succ, List.getElem_cons_zero, Act.put, List.setIfInBounds_toArray, List.set_cons_zero, List.set_cons_succ]
                  refine wpAnyL_take 6 rfl (by kernel_rfl) (by kernel_rfl) (by kernel_rfl) (by kernel_rfl) (fun _ _ _ h => h) (by kernel_rfl) (by intro w' hS'; obtain ⟨⟨x0, x1⟩, x2⟩ := hS'; go_simp <;> rfl) hS2 ?_
                  try simp only [List.getElem_toArray, List.getElem_cons_succ, List.getElem_cons_zero, Act.put, List.setIfInBounds_toArray, List.set_cons_zero, List.set_cons_succ]
                  refine wpAnyL_take 7 rfl (by kernel_rfl) (by kernel_rfl) (by kernel_rfl) (by kernel_rfl) (fun _ _ _ h => h) (by kernel_rfl) (by intro w' hS'; obtain ⟨⟨x0, x1⟩, x2⟩ := hS'; go_simp <;> rfl) hS2 ?_
                  try simp only [List.getElem_toArray, List.getElem_cons_succ, List.getElem_cons_zero, Act.put, List.setIfInBounds_toArray, List.set_cons_zero, List.set_cons_succ]
                  refine wpAnyL_one 8 (by kernel_rfl) rfl (by kernel_rfl) ?_
                  intro K' hK'
                  go_simp
                  go_at_call 11
                  refine (kA _ hS2).mono ?_
                  rintro e W3 ⟨rfl, hS3⟩
                  refine hK'.out _ _ (.inr hS3) ?_
                  clear hK' K'
                  try simp only [List.getElem_toArray, List.getElem_cons_succ, List.getElem_cons_zero, Act.put, List.setIfInBounds_toArray, List.set_cons_zero, List.set_cons_succ]
                  refine wpAnyL_take 9 rfl (by kernel_rfl) (by kernel_rfl) (by kernel_rfl) (by kernel_rfl) (fun _ _ _ h => h) (by kernel_rfl) (by intro w' hS'; obtain ⟨⟨x0, x1⟩, x2⟩ := hS'; go_simp <;> rfl) hS3 ?_
                  try simp only [List.getElem_toArray, List.getElem_cons_succ, List.getElem_cons_zero, Act.put, List.setIfInBounds_toArray, List.set_cons_zero, List.set_cons_succ]
                  refine wpAnyL_take 10 rfl (by kernel_rfl) (by kernel_rfl) (by kernel_rfl) (by kernel_rfl) (fun _ _ _ h => h) (by kernel_rfl) (by intro w' hS'; obtain ⟨⟨x0, x1⟩, x2⟩ := hS'; go_simp <;> rfl) hS3 ?_
                  try simp only [List.getElem_toArray, List.getElem_cons_succ, List.getElem_cons_zero, Act.put, List.setIfInBounds_toArray, List.set_cons_zero, List.set_cons_succ]
                  refine wpAnyL_done (by kernel_rfl) (NoPanic.normal ?_) _
                  go_wp2
                  go_ret
                  exact ⟨rfl, hfin _ hS3.2⟩
                · have kib := in_of mb vb k w8 hRdb.sv
                  rw [hib h64b] at kib
                  simp only [hp, hq, Bool.true_and, Bool.false_and, Bool.not_true, Bool.not_false, Bool.and_true, Bool.and_false] at kib
                  obtain ⟨ab, cb', hvb, -⟩ := id hRdb
                  subst hvb
                  clear hRb hRdb
                  go_wp2_with fail
                  refine (kib).mono ?_
                  rintro e wN ⟨rfl, hbN'⟩
                  have hbN := st _ _ hb8 hbN'
                  clear kib
                  have hbD : Below (w.heap.size + 1) w0 wN.drew := hbN.drew
                  have kcv : ∀ W, (fun W => (W.cell? ⟨w.heap.size, 0, none⟩ = some (.string (bk s1)) ∧ W.cell? ⟨w.heap.size, 1, none⟩ = some (.string (bk s2))) ∧ Below (w.heap.size + 1) w0 W) W → Calls Try.prog 24 #[.slice ao l.length cap, .agg #[.string (bk s1), .string (bk s2)]] W fun e w' => e = .returned (.bool c) ∧ (fun W => (W.cell? ⟨w.heap.size, 0, none⟩ = some (.string (bk s1)) ∧ W.cell? ⟨w.heap.size, 1, none⟩ = some (.string (bk s2))) ∧ Below (w.heap.size + 1) w0 W) w' := fun W hW => by
                    refine (kcov W (hRW _ (hfin _ hW.2)).sv).mono ?_
                    rintro e w' ⟨rfl, hb'⟩
                    exact ⟨rfl, clS w' (st _ _ hW.2 hb')⟩
                  have kcl : ∀ W, (fun W => (W.cell? ⟨w.heap.size, 0, none⟩ = some (.string (bk s1)) ∧ W.cell? ⟨w.heap.size, 1, none⟩ = some (.string (bk s2))) ∧ Below (w.heap.size + 1) w0 W) W → Calls Try.prog 25 #[.slice ao l.length cap, .agg #[.string (bk s1), .string (bk s2)]] W fun e w' => e = .returned (.bool c) ∧ (fun W => (W.cell? ⟨w.heap.size, 0, none⟩ = some (.string (bk s1)) ∧ W.cell? ⟨w.heap.size, 1, none⟩ = some (.string (bk s2))) ∧ Below (w.heap.size + 1) w0 W) w' := fun W hW => by
                    refine (kcvl W (hRW _ (hfin _ hW.2)).sv).mono ?_
                    rintro e w' ⟨rfl, hb'⟩
                    exact ⟨rfl, clS w' (st _ _ hW.2 hb')⟩
                  have kA : ∀ W, (fun W => (W.cell? ⟨w.heap.size, 0, none⟩ = some (.string (bk s1)) ∧ W.cell? ⟨w.heap.size, 1, none⟩ = some (.string (bk s2))) ∧ Below (w.heap.size + 1) w0 W) W → Calls Try.prog 11 #[] W fun e w' => e = .returned (.bool true) ∧ (fun W => (W.cell? ⟨w.heap.size, 0, none⟩ = some (.string (bk s1)) ∧ W.cell? ⟨w.heap.size, 1, none⟩ = some (.string (bk s2))) ∧ Below (w.heap.size + 1) w0 W) w' := fun W hW => by
                    refine (kaw W).mono ?_
                    rintro e w' ⟨rfl, hb'⟩
                    exact ⟨rfl, clS w' (st _ _ hW.2 hb')⟩
                  clear kcov kcvl kaw
                  go_wp2
                  refine wp_region_L (fun W => (W.cell? ⟨w.heap.size, 0, none⟩ = some (.string (bk s1)) ∧ W.cell? ⟨w.heap.size, 1, none⟩ = some (.string (bk s2))) ∧ Below (w.heap.size + 1) w0 W) [] (by kernel_rfl) ?_
                  have yS : (fun W => (W.cell? ⟨w.heap.size, 0, none⟩ = some (.string (bk s1)) ∧ W.cell? ⟨w.heap.size, 1, none⟩ = some (.string (bk s2))) ∧ Below (w.heap.size + 1) w0 W) wN.drew := clS _ hbD
                  refine wpAnyL_take 0 rfl (by kernel_rfl) (by kernel_rfl) (by kernel_rfl) (by kernel_rfl) (fun _ _ _ h => h) (by kernel_rfl) (by intro w' hS'; obtain ⟨⟨x0, x1⟩, x2⟩ := hS'; go_simp <;> rfl) yS ?_
                  try simp only [List.getElem_toArray, List.getElem_cons_succ, List.getElem_cons_zero, Act.put, List.setIfInBounds_toArray, List.set_cons_zero, List.set_cons_succ]
                  refine wpAnyL_take 1 rfl (by kernel_rfl) (by kernel_rfl) (by kernel_rfl) (by kernel_rfl) (fun _ _ _ h => h) (by kernel_rfl) (by intro w' hS'; obtain ⟨⟨x0, x1⟩, x2⟩ := hS'; go_simp <;> rfl) yS ?_
                  try simp only [List.getElem_toArray, List.getElem_cons_succ, List.getElem_cons_zero, Act.put, List.setIfInBounds_toArray, List.set_cons_zero, List.set_cons_succ]
                  refine wpAnyL_take 3 rfl (by kernel_rfl) (by kernel_rfl) (by kernel_rfl) (by kernel_rfl) (fun _ _ _ h => h) (by kernel_rfl) (by intro w' hS'; obtain ⟨⟨x0, x1⟩, x2⟩ := hS'; go_simp <;> rfl) yS ?_
                  try simp only [List.getElem_toArray, List.getElem_cons_succ, List.getElem_cons_zero, Act.put, List.setIfInBounds_toArray, List.set_cons_zero, List.set_cons_succ]
                  refine wpAnyL_take 4 rfl (by kernel_rfl) (by kernel_rfl) (by kernel_rfl) (by kernel_rfl) (fun _ _ _ h => h) (by kernel_rfl) (by intro w' hS'; obtain ⟨⟨x0, x1⟩, x2⟩ := hS'; go_simp <;> rfl) yS ?_
                  try simp only [List.getElem_toArray, List.getElem_cons_succ, List.getElem_cons_zero, Act.put, List.setIfInBounds_toArray, List.set_cons_zero, List.set_cons_succ]
                  refine wpAnyL_one 2 (by kernel_rfl) rfl (by kernel_rfl) ?_
                  intro K' hK'
                  go_simp
                  go_at_call 24
                  refine (kcv _ yS).mono ?_
                  rintro e W1 ⟨rfl, hS1⟩
                  refine hK'.out _ _ (.inr hS1) ?_
                  clear hK' K'
                  try simp only [List.getElem_toArray, List.getElem_cons_succ, List.getElem_cons_zero, Act.put, List.setIfInBounds_toArray, List.set_cons_zero, List.set_cons_succ]
                  refine wpAnyL_one 5 (by kernel_rfl) rfl (by kernel_rfl) ?_
                  intro K' hK'
                  go_simp
                  go_at_call 25
                  refine (kcl _ hS1).mono ?_
                  rintro e W2 ⟨rfl, hS2⟩
                  refine hK'.out _ _ (.inr hS2) ?_
                  clear hK' K'
                  try simp only [List.getElem_toArray, List.getElem_cons_succ, List.getElem_cons_zero, Act.put, List.setIfInBounds_toArray, List.set_cons_zero, List.set_cons_succ]
                  refine wpAnyL_take 6 rfl (by kernel_rfl) (by kernel_rfl) (by kernel_rfl) (by kernel_rfl) (fun _ _ _ h => h) (by kernel_rfl) (by intro w' hS'; obtain ⟨⟨x0, x1⟩, x2⟩ := hS'; go_simp <;> rfl) hS2 ?_
                  try simp only [List.getElem_toArray, List.getElem_cons_succ, List.getElem_cons_zero, Act.put, List.setIfInBounds_toArray, List.set_cons_zero, List.set_cons_succ]
                  refine wpAnyL_take 7 rfl (by kernel_rfl) (by kernel_rfl) (by kernel_rfl) (by kernel_rfl) (fun _ _ _ h => h) (by kernel_rfl) (by intro w' hS'; obtain ⟨⟨x0, x1⟩, x2⟩ := hS'; go_simp <;> rfl) hS2 ?_
                  try simp only [List.getElem_toArray, List.getElem_cons_succ, List.getElem_cons_zero, Act.put, List.setIfInBounds_toArray, List.set_cons_zero, List.set_cons_succ]
                  refine wpAnyL_one 8 (by kernel_rfl) rfl (by kernel_rfl) ?_
                  intro K' hK'
                  go_simp
                  go_at_call 11
                  refine (kA _ hS2).mono ?_
                  rintro e W3 ⟨rfl, hS3⟩
                  refine hK'.out _ _ (.inr hS3) ?_
                  clear hK' K'
                  try simp only [List.getElem_toArray, List.getElem_cons_succ, List.getElem_cons_zero, Act.put, List.setIfInBounds_toArray, List.set_cons_zero, List.set_cons_succ]
                  refine wpAnyL_take 9 rfl (by kernel_rfl) (by kernel_rfl) (by kernel_rfl) (by kernel_rfl) (fun _ _ _ h => h) (by kernel_rfl) (by intro w' hS'; obtain ⟨⟨x0, x1⟩, x2⟩ := hS'; go_simp <;> rfl) hS3 ?_
                  try simp only [List.getElem_toArray, List.getElem_cons_succ, List.getElem_cons_zero, Act.put, List.setIfInBounds_toArray, List.set_cons_zero, List.set_cons_succ]
                  refine wpAnyL_take 10 rfl (by kernel_rfl) (by kernel_rfl) (by kernel_rfl) (by kernel_rfl) (fun _ _ _ h => h) (by kernel_rfl) (by intro w' hS'; obtain ⟨⟨x0, x1⟩, x2⟩ := hS'; go_simp <;> rfl) hS3 ?_
                  try simp only [List.getElem_toArray, List.getElem_cons_succ, List.getElem_cons_zero, Act.put, List.setIfInBounds_toArray, List.set_cons_zero, List.set_cons_succ]
                  refine wpAnyL_done (by kernel_rfl) (NoPanic.normal ?_) _
                  go_wp2
                  go_ret
                  exact ⟨rfl, hfin _ hS3.2⟩
        · have hki : (64 : Int) < (k.length : Int) := by omega
          have hki2 : ¬ (k.length : Int) ≤ 64 := by omega
          clear kad kls khr kcov hmy
          have ki := kinp w3 (hRW _ (hfin _ hb3)).sv
          go_wp2_with fail
          refine ki.mono ?_
          rintro e wp ⟨rfl, hbp'⟩
          have hbp := st _ _ hb3 hbp'
          clear ki hbp'
          have kr := krf wp (hRW _ (hfin _ hbp)).sv
          have hI : inP l k = false := by unfold inP; rw [decide_eq_false hkn, Bool.and_false]; rfl
          rw [hI]
          clear hI
          go_wp2_with fail
          refine kr.mono ?_
          rintro e wr ⟨rfl, hbr'⟩
          have hbr := st _ _ hbp hbr'
          clear kr hbr'
          go_wp2_with fail
          refine (kaw _).mono ?_
          rintro e wz ⟨rfl, hbz⟩
          go_wp2
          go_ret
          exact ⟨rfl, hfin _ (st _ _ hbr hbz)⟩
end Go.Proofs.Ytlkcfpifjocliaa

