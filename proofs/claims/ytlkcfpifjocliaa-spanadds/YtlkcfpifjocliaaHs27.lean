import Derived.Test.YtlkcfpifjocliaaHs23
import Derived.Test.YtlkcfpifjocliaaHs26
/- The law SpanAdds answers true and leaves all memory as it was: the walk. -/
namespace Go.Proofs.Ytlkcfpifjocliaa
open Go.RowKit SpanMath
set_option maxRecDepth 100000
set_option linter.unusedSimpArgs false
set_option linter.unusedVariables false

theorem ResT.below {ok : Bool} {m : List Sp} {v : Value} {c : Int} {w w' : World} (h : ResT ok m v c w) (hb : Below w.heap.size w w') : ResT ok m v c w' := by
  unfold ResT at *
  split at h
  · rename_i h1; rw [if_pos h1]; exact h
  · rename_i h1
    rw [if_neg h1]
    split at h
    · rename_i h2; rw [if_pos h2]; exact h
    · rename_i h2; rw [if_neg h2]; exact ⟨h.1, h.2.below hb⟩
theorem add_len {l : List Sp} (s : Sp) : (addM l s).length ≤ l.length + 1 := by
  have main : ∀ (rest lo : List Sp) (s : Sp) (hi : List Sp), ((addAll (lo, s, hi) rest).1 ++ (addAll (lo, s, hi) rest).2.1 :: (addAll (lo, s, hi) rest).2.2).length ≤ lo.length + hi.length + rest.length + 1 := by
    intro rest
    induction rest with
    | nil => intro lo s hi; simp [addAll]; omega
    | cons x rest ih =>
      intro lo s hi
      have e' : addAll (lo, s, hi) (x :: rest) = addAll (addStep (lo, s, hi) x) rest := by unfold addAll; rw [List.foldl_cons]
      rw [e', List.length_cons]
      unfold addStep
      simp only
      split
      · have h1 := ih (lo ++ [x]) s hi
        have h2 : (lo ++ [x]).length = lo.length + 1 := by simp
        omega
      · split
        · have h1 := ih lo s (hi ++ [x])
          have h2 : (hi ++ [x]).length = hi.length + 1 := by simp
          omega
        · have := ih lo (kmin s.1 x.1, late s.2 x.2) hi
          omega
  have := main l [] s []
  unfold addM
  simp only
  simp only [List.length_nil] at this
  omega

set_option maxHeartbeats 16000000 in
theorem adds_law (l : List Sp) (lv : Value) (s : Sp) (w : World) (hF : Rd spE w lv l) : Calls Try.prog 5 #[lv, sv s] w fun e w' => e = .returned (.bool true) ∧ Below w.heap.size w w' := by
  have kaw := awake_of
  have hRW : ∀ W, Below w.heap.size w W → Rd spE W lv l := fun W hW => hF.below hW
  have klt := fun W h => light_of l lv s W h
  have kad := fun W h => add_of l lv s W h
  have kls := fun W h => less_of l lv s W h
  have kfm := fun W h => form_of l lv W h
  have krf := fun W h => refForm_of l lv W h
  have kmy := fun W => may_of s W
  have kp0 := fun W h hl => piece_of l lv s 0 (.inl rfl) W h hl
  have kp1 := fun W h hl => piece_of l lv s 1 (.inr (.inl rfl)) W h hl
  obtain ⟨ok, HOK⟩ : ∃ ok, Hid (ok = (formB l && may s)) := ⟨_, rfl⟩
  obtain ⟨ma, HMA⟩ : ∃ ma, Hid (ma = addM l s) := ⟨_, rfl⟩
  obtain ⟨mb, HMB⟩ : ∃ mb, Hid (mb = lessM l s) := ⟨_, rfl⟩
  have hp0 : Hid (formB l = true → may s = true → piece l s 0 = ma ∧ piece l s 1 = mb ∧ ma.length ≤ 1000 ∧ mb.length ≤ 1000 ∧ l.length ≤ 100) := fun h1 h2 => by
    obtain ⟨h3, h4, h5⟩ := formB_iff.1 h1
    have h6 := (may_iff.1 h2).2
    refine ⟨by rw [piece_add h5 h6, HMA.out], by rw [piece_less h5 h6, HMB.out], ?_, ?_, by omega⟩
    · rw [HMA.out]; have := add_len (l := l) s; omega
    · rw [HMB.out]; have := less_len s l; omega
  rw [← HOK.out, ← HMA.out] at kad
  rw [← HOK.out, ← HMB.out] at kls
  clear HMA HMB
  obtain ⟨fm, HFM⟩ : ∃ fm, Hid (fm = formB l) := ⟨_, rfl⟩
  obtain ⟨my, HMY⟩ : ∃ my, Hid (my = may s) := ⟨_, rfl⟩
  rw [← HFM.out] at kfm krf
  rw [← HMY.out] at kmy
  rw [← HFM.out, ← HMY.out] at HOK hp0
  obtain ⟨s1, s2⟩ := s
  obtain ⟨ao, cap, hlv, -⟩ := id hF
  subst hlv
  obtain ⟨hs0, g0, hb0⟩ := one_box w (.cells #[.string (bk s1), .string (bk s2)] 23)
  have kl0 := klt _ (hRW _ hb0).sv
  rw [show LightT (w.alloc (.cells #[.string (bk s1), .string (bk s2)] 23)) = fun e w' => ∃ B, e = .returned (.bool B) ∧ Below (w.heap.size + 1) (w.alloc (.cells #[.string (bk s1), .string (bk s2)] 23)) w' by unfold LightT; rw [hs0]] at kl0
  go_enter Try.func5, Try.ntmps5
  go_wp2_with fail
  generalize w.alloc (.cells #[.string (bk s1), .string (bk s2)] 23) = w0 at *
  have cl : ∀ W, Below (w.heap.size + 1) w0 W → W.cell? ⟨w.heap.size, 0, none⟩ = some (.string (bk s1)) ∧ W.cell? ⟨w.heap.size, 1, none⟩ = some (.string (bk s2)) := fun W hW => by
    have := (hW.block w.heap.size (Nat.lt_succ_self _)).trans g0
    exact ⟨by rw [cells_of_block this]; rfl, by rw [cells_of_block this]; rfl⟩
  have hN : ∀ W, Below (w.heap.size + 1) w0 W → w.heap.size + 1 ≤ W.heap.size := fun W hW => by have := hW.size; omega
  have hfin : ∀ W, Below (w.heap.size + 1) w0 W → Below w.heap.size w W := fun W hW => hb0.trans (hW.mono (Nat.le_succ _))
  have st : ∀ W W', Below (w.heap.size + 1) w0 W → Below W.heap.size W W' → Below (w.heap.size + 1) w0 W' := fun W W' h h' => h.trans (h'.mono (hN W h))
  refine kl0.mono ?_
  rintro e w1 ⟨B, rfl, hb1⟩
  clear kl0 klt hb0 g0 hs0
  cases B with
  | false =>
    clear kad kls kfm krf kmy kp0 kp1 hp0 HOK hRW hF
    go_wp2_with fail
    refine (kaw _).mono ?_
    rintro e w2 ⟨rfl, hb2⟩
    go_wp2
    go_ret
    exact ⟨rfl, hfin _ (st _ _ hb1 hb2)⟩
  | true =>
    have ka1 := kad w1 (hRW _ (hfin _ hb1)).sv
    obtain ⟨y0, y1⟩ := cl w1 hb1
    clear kad
    go_wp2_with fail
    refine ka1.mono ?_
    rintro e w2 ⟨va, ca, rfl, hRa, hb2'⟩
    have hb2 := st _ _ hb1 hb2'
    have kl2 := kls w2 (hRW _ (hfin _ hb2)).sv
    clear ka1 y0 y1 kls hb1 hb2'
    obtain ⟨y0, y1⟩ := cl w2 hb2
    go_wp2_with fail
    refine kl2.mono ?_
    rintro e w3 ⟨vb, cb, rfl, hRb, hb3'⟩
    have hb3 := st _ _ hb2 hb3'
    replace hRa := hRa.below hb3'
    have kf3 := kfm w3 (hRW _ (hfin _ hb3)).sv
    clear kl2 y0 y1 kfm hb2 hb3'
    go_wp2_with fail
    refine kf3.mono ?_
    rintro e w4 ⟨rfl, hb4'⟩
    have hb4 := st _ _ hb3 hb4'
    replace hRa := hRa.below hb4'
    replace hRb := hRb.below hb4'
    have kr4 := krf w4 (hRW _ (hfin _ hb4)).sv
    clear kf3 hb3 hb4'
    go_wp2_with fail
    refine kr4.mono ?_
    rintro e w5 ⟨rfl, hb5'⟩
    have hb5 := st _ _ hb4 hb5'
    replace hRa := hRa.below hb5'
    replace hRb := hRb.below hb5'
    have kr5 := krf w5 (hRW _ (hfin _ hb5)).sv
    clear kr4 hb4 hb5' krf
    cases hfm : fm with
    | false =>
      rw [hfm] at kr5
      rw [HOK.out, hfm] at hRa hRb
      obtain ⟨rfl, rfl⟩ : va = .slice none 0 0 ∧ ca = 1 := hRa
      obtain ⟨rfl, rfl⟩ : vb = .slice none 0 0 ∧ cb = 1 := hRb
      clear HOK hp0 kp0 kp1 kmy hfm HFM
      go_wp2_with fail
      refine kr5.mono ?_
      rintro e w6 ⟨rfl, hb6'⟩
      have hb6 := st _ _ hb5 hb6'
      clear kr5 hb5 hb6'
      go_wp2_with fail
      refine (kaw _).mono ?_
      rintro e w7 ⟨rfl, hb7⟩
      go_wp2
      go_ret
      exact ⟨rfl, hfin _ (st _ _ hb6 hb7)⟩
    | true =>
      rw [hfm] at kr5
      go_wp2_with fail
      refine kr5.mono ?_
      rintro e w6 ⟨rfl, hb6'⟩
      have hb6 := st _ _ hb5 hb6'
      replace hRa := hRa.below hb6'
      replace hRb := hRb.below hb6'
      have km6 := kmy w6
      obtain ⟨y0, y1⟩ := cl w6 hb6
      clear kr5 hb5 hb6' kmy
      cases hmy : my with
      | false =>
        rw [hmy] at km6
        rw [HOK.out, hmy, Bool.and_false] at hRa hRb
        obtain ⟨rfl, rfl⟩ : va = .slice none 0 0 ∧ ca = 1 := hRa
        obtain ⟨rfl, rfl⟩ : vb = .slice none 0 0 ∧ cb = 1 := hRb
        clear HOK hp0 kp0 kp1 hfm hmy HFM HMY
        go_wp2_with fail
        refine km6.mono ?_
        rintro e w7 ⟨rfl, hb7'⟩
        have hb7 := st _ _ hb6 hb7'
        clear km6 hb6 hb7' y0 y1
        go_wp2_with fail
        refine (kaw _).mono ?_
        rintro e w8 ⟨rfl, hb8⟩
        go_wp2
        go_ret
        exact ⟨rfl, hfin _ (st _ _ hb7 hb8)⟩
      | true =>
        rw [hmy] at km6
        rw [HOK.out, hfm, hmy, Bool.and_true] at hRa hRb
        obtain ⟨e0, e1, e2, e3, e4⟩ := hp0.out hfm hmy
        rw [e0] at kp0
        rw [e1] at kp1
        clear HOK hp0 hfm hmy HFM HMY e0 e1
        go_wp2_with fail
        refine km6.mono ?_
        rintro e w7 ⟨rfl, hb7'⟩
        have hb7 := st _ _ hb6 hb7'
        replace hRa := hRa.below hb7'
        replace hRb := hRb.below hb7'
        clear km6 hb6 hb7' y0 y1
        obtain ⟨y0, y1⟩ := cl w7 hb7
        have kq7 := kp0 w7 (hRW _ (hfin _ hb7)) e4
        clear kp0
        go_wp2_with fail
        refine kq7.mono ?_
        rintro e w8 ⟨pa, rfl, hPa, hb8'⟩
        have hb8 := st _ _ hb7 hb8'
        replace hRa := hRa.below hb8'
        replace hRb := hRb.below hb8'
        have kt8 := told_of hRa hPa e2
        clear kq7 hb7 hb8' y0 y1
        go_wp2_with fail
        refine kt8.mono ?_
        rintro e w9 ⟨rfl, hb9'⟩
        have hb9 := st _ _ hb8 hb9'
        replace hRb := hRb.below hb9'
        clear kt8 hb8 hb9' hRa hPa
        obtain ⟨y0, y1⟩ := cl w9 hb9
        have kq9 := kp1 w9 (hRW _ (hfin _ hb9)) e4
        clear kp1
        go_wp2_with fail
        refine kq9.mono ?_
        rintro e w10 ⟨pb, rfl, hPb, hb10'⟩
        have hb10 := st _ _ hb9 hb10'
        replace hRb := hRb.below hb10'
        have kt10 := told_of hRb hPb e3
        clear kq9 hb9 hb10' y0 y1
        go_wp2_with fail
        refine kt10.mono ?_
        rintro e w11 ⟨rfl, hb11'⟩
        have hb11 := st _ _ hb10 hb11'
        clear kt10 hb10 hb11' hRb hPb
        go_wp2_with fail
        refine (kaw _).mono ?_
        rintro e w12 ⟨rfl, hb12⟩
        go_wp2
        go_ret
        exact ⟨rfl, hfin _ (st _ _ hb11 hb12)⟩
end Go.Proofs.Ytlkcfpifjocliaa

