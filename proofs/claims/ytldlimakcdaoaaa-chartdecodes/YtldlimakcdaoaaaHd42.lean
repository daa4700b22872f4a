import Derived.Test.YtldlimakcdaoaaaHd41
/- The contracts of Owned, and of the document's own Owned. -/
namespace Go.Proofs.Ytldlimakcdaoaaa
open Go.RowKit SpanMath ChartMath
set_option maxRecDepth 100000
set_option linter.unusedSimpArgs false
set_option linter.unusedVariables false

theorem own_take {l : List Rg} {i : Nat} {r : Rg} (g : Int) (h : l[i]? = some r) : ownFrom g [] (l.take (i + 1)) = ownStep g (ownFrom g [] (l.take i)) r := by
  unfold ownFrom
  rw [take_succ_get h, List.foldl_append]
  rfl
theorem own_skip {o : List Sp} {g : Int} {r : Rg} (h : r.2.1 ≠ g) : ownStep g o r = o := by
  unfold ownStep
  rw [if_neg h]
theorem rds_nil (w : World) : Rd spE w (.slice none 0 0) [] := ⟨none, 0, rfl, by simp, fun _ => rfl, fun i x j u hx => by simp at hx⟩

set_option maxHeartbeats 4000000 in
theorem owned_of (l : List Rg) (lv : Value) (g : Int) (w : World) (hF : Cv w lv l) : Calls Try.prog 27 #[lv, .int .i64 g] w fun e w' => ∃ v, e = .returned v ∧ Rd spE w' v (ownM l g) ∧ Below w.heap.size w w' := by
  obtain ⟨B, HB⟩ : ∃ B, Hid (B = ownM l g) := ⟨_, rfl⟩
  rw [← HB.out]
  have kc := ccheck_of l lv w hF
  obtain ⟨ao, cap, rfl, h2⟩ := id hF
  cases hm : mayC l with
  | false =>
    rw [hm] at kc
    simp only [Bool.false_eq_true, if_false] at kc
    have E : Hid (B = []) := by show _ = _; rw [HB.out]; unfold ownM; rw [hm]; rfl
    clear HB hm hF h2
    go_enter Try.func27, Try.ntmps27
    go_wp2_with fail
    refine kc.mono ?_
    rintro e w1 ⟨rfl, hb1⟩
    go_wp2
    go_ret
    exact ⟨_, rfl, by rw [E.out]; exact rds_nil _, hb1⟩
  | true =>
    rw [hm] at kc
    simp only [if_true] at kc
    have HE : Hid (B = ownFrom g [] (l.take l.length)) := by show _ = _; rw [HB.out, List.take_length]; unfold ownM; rw [hm]; rfl
    have hC := mayC_iff.1 hm
    have hl64 := hC.len
    clear HB hm
    go_enter Try.func27, Try.ntmps27
    go_wp2_with fail
    refine kc.mono ?_
    rintro e w1 ⟨rfl, hb1⟩
    clear kc
    go_wp2
    go_loopg [5, 13] l.length (fun gg s5 s13 wr => ∃ (i : Nat) (st : Value), i + gg = l.length ∧ s13 = .int .i64 (i : Int) ∧ st = s5 ∧ Below w.heap.size w wr ∧ Rd spE wr st (ownFrom g [] (l.take i)))
    case atStart => exact ⟨0, _, by simp, rfl, rfl, hb1, rds_nil _⟩
    case round =>
      obtain ⟨i, st, hig, rfl, rfl, hb, hR⟩ := hrel
      clear hb1
      by_cases hlt : i < l.length
      · have hlti : (i : Int) < (l.length : Int) := by omega
        have hx : l[i]? = some l[i] := List.getElem?_eq_getElem hlt
        obtain ⟨b, off, rfl, d0, d1, d2, d3⟩ := h2 i l[i] hx
        obtain ⟨s, hs⟩ : ∃ s, s = l[i] := ⟨_, rfl⟩
        rw [← hs] at hx d0 d1 d2 d3
        have hnx := own_take g hx
        obtain ⟨hfo, hadd⟩ := hC.own g i
        have hadd1 := hadd s hx
        have hfo2 := (hC.own g (i + 1)).1
        have hmay : may s.1 = true := by
          have := hC.ok s (List.mem_of_getElem? hx)
          simp only [rOk, Bool.and_eq_true] at this
          exact this.1.1
        obtain ⟨⟨s1, s2⟩, sg, se⟩ := s
        have hlb := World.block_lt_of_cell? w _ d0
        have c0 := (hb.cell (p := ⟨b, off + i * 4, none⟩) hlb).trans d0
        have c1 := (hb.cell (p := ⟨b, off + i * 4 + 1, none⟩) hlb).trans d1
        have c2 := (hb.cell (p := ⟨b, off + i * 4 + 2, none⟩) hlb).trans d2
        have c3 := (hb.cell (p := ⟨b, off + i * 4 + 3, none⟩) hlb).trans d3
        obtain ⟨q1, q2, q3⟩ := one_box wr (.cells #[.string (bk s1), .string (bk s2), .int .i64 sg, .int .u64 se] 42)
        have hbn := hb.trans (q3.mono hb.size)
        clear hs d0 d1 d2 d3 h2 hF hadd hx
        dsimp only at hadd1 hmay
        by_cases hg : sg = g
        · have hgb : (sg == g) = true := by simp [hg]
          have hA := hadd1 hg
          rw [hnx] at hfo2
          have ka : Calls Try.prog 46 #[st, .agg #[.string (bk s1), .string (bk s2)]] (wr.alloc (.cells #[.string (bk s1), .string (bk s2), .int .i64 sg, .int .u64 se] 42)) fun e w' => ∃ v, e = .returned (.tuple #[v, .int .i64 0]) ∧ Rd spE w' v (ownFrom g [] (l.take (i + 1))) ∧ Below (wr.alloc (.cells #[.string (bk s1), .string (bk s2), .int .i64 sg, .int .u64 se] 42)).heap.size (wr.alloc (.cells #[.string (bk s1), .string (bk s2), .int .i64 sg, .int .u64 se] 42)) w' := by
            refine (add_of _ st (s1, s2) _ (hR.below q3).sv).mono ?_
            rintro e w' ⟨v, c, rfl, hT, hb'⟩
            rw [hfo, hmay, ← hA] at hT
            unfold ResT at hT
            rw [if_neg (by decide), if_neg (by have := (formB_iff.1 hfo2).1; omega)] at hT
            obtain ⟨rfl, hRd⟩ := hT
            exact ⟨v, rfl, by rw [hnx]; exact hRd, hb'⟩
          clear hA hnx hfo hfo2 hadd1 hmay q1 q2 q3 hC hg HE
          obtain ⟨sa, sc, hst, -⟩ := hR
          generalize (ownFrom g [] (l.take i)).length = LN at *
          subst hst
          go_wp2_with fail
          refine ka.mono ?_
          rintro e w2 ⟨v2, rfl, hR2, hb2⟩
          go_wp2
          go_roundg (gk - 1)
          case measure => omega
          case rel => exact ⟨i + 1, _, by omega, by go_num, rfl, hbn.trans (hb2.mono hbn.size), hR2⟩
        · have hgb : (sg == g) = false := by simpa using hg
          rw [own_skip hg] at hnx
          have hR2 : Rd spE (wr.alloc (.cells #[.string (bk s1), .string (bk s2), .int .i64 sg, .int .u64 se] 42)) st (ownFrom g [] (l.take (i + 1))) := by rw [hnx]; exact hR.below q3
          clear hnx hfo hfo2 hadd1 hmay q1 q2 q3 hC hg HE hR
          go_wp2
          go_roundg (gk - 1)
          case measure => omega
          case rel => exact ⟨i + 1, _, by omega, by go_num, rfl, hbn, hR2⟩
      · have hlti : ¬ (i : Int) < (l.length : Int) := by omega
        obtain rfl : i = l.length := by omega
        rw [← HE.out] at hR
        clear HE h2 hF hC
        go_wp2
        go_ret
        exact ⟨_, rfl, hR, hb⟩
end Go.Proofs.Ytldlimakcdaoaaa

