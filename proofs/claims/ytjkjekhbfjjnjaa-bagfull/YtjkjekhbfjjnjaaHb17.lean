import Derived.Test.YtjkjekhbfjjnjaaHb16
/- The law BagFull answers true and leaves all memory as it was: the walk. -/
namespace Go.Proofs.Ytjkjekhbfjjnjaa
open Go.RowKit Go.Maps
set_option maxRecDepth 100000
set_option linter.unusedSimpArgs false
set_option linter.unusedVariables false

theorem bs_none (w : World) : @Bs keepAll w.heap.size w (.slice none 0 0) [] := @Bs.nil keepAll _ _

/-- Post as it is told of any bag of the call's own. -/
theorem post_any {n : Nat} {w : World} {p m : Nat} {l : List Msg} {P : Int → Int → Bool} {N : Nat} (h : BagNew n w p m l P N) (hn : n ≤ w.heap.size) (f t : Int) (hf : i64 f) (ht : i64 t) :
    Calls Try.prog 17 #[.pointer (some ⟨p, 0, none⟩), .int .i64 f, .int .i64 t, .slice none 0 0] w fun e w' => e = .returned (.bool (decide (l.length < 16384))) ∧ Below n w w' ∧ ∃ l', BagNew n w' p m l' P N ∧ l'.length = if l.length < 16384 then l.length + 1 else l.length := by
  obtain ⟨fv, h1, h2⟩ := h
  by_cases hl : l.length < 16384
  · refine (post_yes h1 f t _ [] (bs_none w) ⟨hf, ht, by simp, by simp⟩ hl).mono ?_
    rintro e w' ⟨rfl, hD⟩
    obtain ⟨c1, c2⟩ := BagNew.did (l := l) hn h2 hD
    exact ⟨by simp [hl], c2, _, c1, by rw [if_pos hl]; simp⟩
  · refine (post_no h1 f t _ hl).mono ?_
    rintro e w' ⟨rfl, rfl⟩
    exact ⟨by simp [hl], Below.refl _ _, l, ⟨fv, h1, h2⟩, by rw [if_neg hl]⟩

set_option maxHeartbeats 4000000 in
theorem full_law (n : Nat) (hn : n < 256) (w : World) : Calls Try.prog 5 #[.int .u8 (n : Int)] w fun e w' => e = .returned (.bool true) ∧ Below w.heap.size w w' := by
  have k0 := new_of w
  obtain ⟨r, hr⟩ : ∃ r : Nat, Hid (r = n % 4) := ⟨_, rfl⟩
  have hr4 : r < 4 := by rw [hr.out]; omega
  have hrem : ((n : Int) % 4) = (r : Int) := by rw [hr.out]; omega
  go_enter Try.func5, Try.ntmps5
  go_wp2_with fail
  refine k0.mono ?_
  rintro e w1 ⟨p, m, fv, rfl, hA, hM, hb1⟩
  clear k0
  go_wp2
  simp only [hrem]
  clear hrem
  go_loopg [5] (16382 + r) (fun g s5 wr => ∃ (i : Nat) (l : List Msg), i + g = 16382 + r ∧ s5 = .int .i64 (i : Int) ∧ BagNew w.heap.size wr p m l (fun _ _ => false) 0 ∧ l.length = min i 16384 ∧ Below w.heap.size w wr)
  case atStart => exact ⟨0, [], by omega, rfl, ⟨fv, hA, hM⟩, by simp, hb1⟩
  case round =>
    obtain ⟨i, l, hig, rfl, hB, hlen, hb⟩ := hrel
    clear hA hM hb1
    by_cases hlt : i < 16382 + r
    · have hlti : (i : Int) < 16382 + (r : Int) := by omega
      have kp := post_any hB hb.size 1 (i : Int) ⟨by decide, by decide⟩ ⟨by omega, by omega⟩
      have hd : decide (l.length < 16384) = decide ((i : Int) < 16384) := by
        rw [hlen]
        by_cases h : i < 16384
        · rw [decide_eq_true (by omega), decide_eq_true (by omega)]
        · rw [decide_eq_false (by omega), decide_eq_false (by omega)]
      rw [hd] at kp
      have hsame : ∀ l' : List Msg, l'.length = (if l.length < 16384 then l.length + 1 else l.length) → l'.length = min (i + 1) 16384 := fun l' h => by
        rw [h, hlen]; split <;> omega
      have HS := Hid.intro hsame
      clear hd hlen hsame
      go_wp2_with (go_at_call 17; refine kp.mono ?_; rintro e wc ⟨rfl, hbc, l', hB', hl'⟩; have hL := Hid.intro (HS.out l' hl'); clear hl')
      all_goals (
        go_roundg (gk - 1)
        case measure => omega
        case rel => exact ⟨i + 1, l', by omega, by go_num, hB', hL.out, hb.trans hbc⟩)
    · have hlti : ¬ (i : Int) < 16382 + (r : Int) := by omega
      obtain rfl : i = 16382 + r := by omega
      have hl0 : 0 < l.length := by omega
      obtain ⟨fv1, h1, h2⟩ := id hB
      have hd : decide (16382 + (r : Int) < 16384) = decide (r < 2) := by
        by_cases h : r < 2
        · rw [decide_eq_true (by omega), decide_eq_true h]
        · rw [decide_eq_false (by omega), decide_eq_false h]
      have kt : Calls Try.prog 16 #[.pointer (some ⟨p, 0, none⟩), .int .i64 0] wr fun e w' => e = .returned (.bool (decide (r < 2))) ∧ Below w.heap.size wr w' ∧ ∃ l', BagNew w.heap.size w' p m l' (fun _ _ => false) 0 ∧ 0 < l'.length ∧ l'.length ≤ 16384 := by
        by_cases hr2 : r < 2
        · obtain ⟨x, hx⟩ : ∃ x, l[0]? = some x := ⟨l[0], List.getElem?_eq_getElem hl0⟩
          refine (twice_yes h1 0 x hx (by omega)).mono ?_
          rintro e w' ⟨rfl, hD⟩
          obtain ⟨c1, c2⟩ := BagNew.did (l := l) hb.size h2 hD
          exact ⟨by simp [hr2], c2, _, c1, by simp, by simp; omega⟩
        · refine (twice_no h1 0 (.inr (by omega))).mono ?_
          rintro e w' ⟨rfl, rfl⟩
          exact ⟨by simp [hr2], Below.refl _ _, l, hB, hl0, by omega⟩
      have kd : ∀ W l', BagNew w.heap.size W p m l' (fun _ _ => false) 0 → w.heap.size ≤ W.heap.size → 0 < l'.length → l'.length ≤ 16384 → Hid (Calls Try.prog 18 #[.pointer (some ⟨p, 0, none⟩), .int .i64 0] W fun e w' => e = .returned (.bool true) ∧ Below w.heap.size W w' ∧ ∃ l'', BagNew w.heap.size w' p m l'' (fun _ _ => false) 0 ∧ l''.length < 16384) := fun W l' hW hs h0 h9 => by
        obtain ⟨fv2, g1, g2⟩ := hW
        refine (drop_yes g1 0 h0 (by omega)).mono ?_
        rintro e w' ⟨rfl, hD⟩
        obtain ⟨c1, c2⟩ := BagNew.did (l := l') hs g2 hD
        exact ⟨rfl, c2, _, c1, by rw [List.length_eraseIdx_of_lt h0]; omega⟩
      have kp : ∀ W l', BagNew w.heap.size W p m l' (fun _ _ => false) 0 → w.heap.size ≤ W.heap.size → l'.length < 16384 → Hid (Calls Try.prog 17 #[.pointer (some ⟨p, 0, none⟩), .int .i64 1, .int .i64 2, .slice none 0 0] W fun e w' => e = .returned (.bool true) ∧ Below w.heap.size W w') := fun W l' hW hs h9 => by
        refine (post_any hW hs 1 2 ⟨by decide, by decide⟩ ⟨by decide, by decide⟩).mono ?_
        rintro e w' ⟨rfl, c2, -⟩
        exact ⟨by simp [h9], c2⟩
      have ka := awake_of
      clear hB h1 h2 hlen hl0
      go_wp2_with fail
      refine kt.mono ?_
      rintro e w2 ⟨rfl, hb2, l2, hB2, h20, h29⟩
      have hw2 := hb.trans hb2
      have kd2 := (kd w2 l2 hB2 hw2.size h20 h29).out
      clear kt kd h20 h29 hB2
      go_wp2_with fail
      refine kd2.mono ?_
      rintro e w3 ⟨rfl, hb3, l3, hB3, h39⟩
      have hw3 := hw2.trans hb3
      have kp3 := (kp w3 l3 hB3 hw3.size h39).out
      clear kd2 kp hB3 h39
      go_wp2_with fail
      refine kp3.mono ?_
      rintro e w4 ⟨rfl, hb4⟩
      have hw4 := hw3.trans hb4
      have ka4 := ka w4
      clear kp3 ka
      go_wp2_with fail
      refine ka4.mono ?_
      rintro e w5 ⟨rfl, hb5⟩
      go_wp2
      go_ret
      exact ⟨rfl, hw4.trans (hb5.mono hw4.size)⟩
end Go.Proofs.Ytjkjekhbfjjnjaa

