import Derived.Test.YtebkfkijlopmoaaHo36
/- The law SessionOnce answers true. -/
namespace Go.Proofs.Ytebkfkijlopmoaa
open Go.RowKit SessionMath WireMath
set_option maxRecDepth 100000
set_option linter.unusedSimpArgs false
set_option linter.unusedVariables false

@[go_sem] theorem fieldSq (c s : Int) (W : World) : (Instr.field 25 (.agg #[.int .i64 c, .int .u64 s]) 1).run Try.prog W = .ok (.int .u64 s) W := by kernel_rfl
theorem rdi2_at {w : World} {ao : Option Addr} {n cap : Nat} {xs : List Cq} (h : Rd idE w (.slice ao n cap) xs) {i : Nat} {x : Cq} (hx : xs[i]? = some x) : ∃ b off, ao = some ⟨b, off, none⟩ ∧ ∀ W, Below w.heap.size w W → W.cell? ⟨b, off + i * 2, none⟩ = some (.int .i64 x.1) ∧ W.cell? ⟨b, off + i * 2 + 1, none⟩ = some (.int .u64 (x.2 : Int)) := by
  obtain ⟨ao', cap', e, _, _, h2⟩ := h
  cases e
  obtain ⟨b, off, r1, r2⟩ := h2 i x 0 _ hx rfl
  obtain ⟨b', off', r3, r4⟩ := h2 i x 1 _ hx rfl
  cases r1.symm.trans r3
  have r2' : w.cell? ⟨b, off + i * 2, none⟩ = _ := r2
  have r4' : w.cell? ⟨b, off + i * 2 + 1, none⟩ = _ := r4
  exact ⟨b, off, r1, fun W hW => ⟨(hW.cell (p := ⟨b, off + i * 2, none⟩) (World.block_lt_of_cell? w _ r2')).trans r2', (hW.cell (p := ⟨b, off + i * 2 + 1, none⟩) (World.block_lt_of_cell? w _ r4')).trans r4'⟩⟩
set_option maxHeartbeats 8000000 in
theorem once_law (ids : List Cq) (lv : Value) (w : World) (hL : Rd idE w lv ids) (hok : ∀ z ∈ ids, CqOk z) : Calls Try.prog 6 #[lv] w fun e w' => e = .returned (.bool true) ∧ Below w.heap.size w w' := by
  have hmm := @run_makeMap Try.prog
  have HL : Hid (Rd idE w lv ids) := hL
  have HOK : Hid (∀ z ∈ ids, CqOk z) := hok
  obtain ⟨ao, cap, rfl, -, -⟩ := hL.shape
  clear hL hok
  obtain ⟨q1, q2, q3⟩ := one_box w (.cells #[] 49)
  obtain ⟨r1, r2, r3⟩ := one_box (w.alloc (.cells #[] 49)) (.map #[] 0)
  obtain ⟨s1, s2, s3⟩ := one_box ((w.alloc (.cells #[] 49)).alloc (.map #[] 0)) (.map #[] 0)
  have hb0 : Below w.heap.size w (((w.alloc (.cells #[] 49)).alloc (.map #[] 0)).alloc (.map #[] 0)) := keep_step (keep_step q3 (Nat.le_refl _) r3) (Nat.le_refl _) s3
  have hS0 : SeatsV (w.alloc (.cells #[] 49)) (.slice (some ⟨w.heap.size, 0, none⟩) 0 0) [] := ⟨(Rk.made (E := seatE) (xs := []) q2 rfl (by unfold maxLen; simp)).rd, by simp⟩
  have hM1 := Mq.made 25 (w.alloc (.cells #[] 49))
  have hM2 := Mq.made 3 ((w.alloc (.cells #[] 49)).alloc (.map #[] 0))
  have hO0 : OncS w.heap.size (((w.alloc (.cells #[] 49)).alloc (.map #[] 0)).alloc (.map #[] 0)) (.slice (some ⟨w.heap.size, 0, none⟩) 0 0) [] [] (w.heap.size + 1) (w.heap.size + 1 + 1) 0 := by
    rw [q1] at hM1
    rw [r1, q1] at hM2
    refine ⟨(hS0.below r3).below s3, OncM.nil, ⟨0, Nat.le_refl _, ?_⟩, ⟨0, Nat.le_refl _, ?_⟩, by omega, by omega, by omega⟩
    · have h1 : kM [] = fun _ => none := by
        funext v
        unfold kM
        split
        · split <;> simp
        · rfl
      rw [h1]
      exact hM1.same (s3.block _ (by rw [r1, q1]; omega))
    · have h1 : lM (mes []) = fun _ => none := by
        funext v
        unfold lM
        split
        · simp [seatOf]
        · rfl
      rw [h1]
      exact hM2
  clear q1 q2 q3 r1 r2 r3 s1 s2 s3 hS0 hM1 hM2
  go_enter Try.func6, Try.ntmps6
  go_wp2
  generalize hbk : w.heap.size + 1 = bk at *
  generalize hbl : bk + 1 = bl at *
  generalize (.slice (some ⟨w.heap.size, 0, none⟩) 0 0 : Value) = st0 at *
  generalize ((w.alloc (.cells #[] 49)).alloc (.map #[] 0)).alloc (.map #[] 0) = w0 at *
  clear hmm hbk hbl
  go_loopg [3, 6] 200 (fun gg s3 s6 wr => ∃ (i : Nat) (st : Value) (zs : List Sz) (K : List Cq), i + gg = 200 ∧ s6 = .int .i64 (i : Int) ∧ st = s3 ∧ OncS w.heap.size wr st zs K bk bl i ∧ Below w.heap.size w wr)
  case atStart => exact ⟨0, _, [], [], by simp, rfl, rfl, hO0, hb0⟩
  case round =>
    obtain ⟨i, st, zs, K, hig, rfl, rfl, hO, hb⟩ := hrel
    clear hO0 hb0
    by_cases hlt : i < ids.length
    · have hlti : (i : Int) < (ids.length : Int) := by omega
      by_cases h2 : i < 200
      · have h2i : (i : Int) < 200 := by omega
        have hx : ids[i]? = some ids[i] := List.getElem?_eq_getElem hlt
        obtain ⟨z, hzz⟩ : ∃ z, z = ids[i] := ⟨_, rfl⟩
        rw [← hzz] at hx
        clear hzz
        obtain ⟨b, off, rfl, cx⟩ := rdi2_at HL.out hx
        have hzo := HOK.out z (List.mem_of_getElem? hx)
        obtain ⟨x0, x1⟩ := cx wr hb
        obtain ⟨c, q⟩ := z
        dsimp only at x0 x1
        clear hx cx HL HOK
        obtain ⟨p1, p3, cl0⟩ := id_box wr c q
        obtain ⟨y1, y2, y3⟩ := one_box (wr.alloc (.cells #[.int .i64 c, .int .u64 (q : Int)] 25)) (.cells #[.int .u8 (i : Int)] 5)
        have hb2 : Below wr.heap.size wr ((wr.alloc (.cells #[.int .i64 c, .int .u64 (q : Int)] 25)).alloc (.cells #[.int .u8 (i : Int)] 5)) := keep_step p3 (Nat.le_refl _) y3
        have hb02 := keep_step hb (Nat.le_refl _) hb2
        have hO2 := hO.below hb2
        have hPs : Hid (wr.heap.size + 1 ≤ ((wr.alloc (.cells #[.int .i64 c, .int .u64 (q : Int)] 25)).alloc (.cells #[.int .u8 (i : Int)] 5)).heap.size) := by show _ ≤ _; omega
        have cl : ∀ W, Below (wr.heap.size + 1) ((wr.alloc (.cells #[.int .i64 c, .int .u64 (q : Int)] 25)).alloc (.cells #[.int .u8 (i : Int)] 5)) W → W.cell? ⟨wr.heap.size, 0, none⟩ = some (.int .i64 c) ∧ W.cell? ⟨wr.heap.size, 1, none⟩ = some (.int .u64 (q : Int)) := fun W hW => cl0 W ((y3.mono (Nat.le_of_eq p1.symm)).trans hW)
        have hBr : Bn ((wr.alloc (.cells #[.int .i64 c, .int .u64 (q : Int)] 25)).alloc (.cells #[.int .u8 (i : Int)] 5)) (.slice (some ⟨(wr.alloc (.cells #[.int .i64 c, .int .u64 (q : Int)] 25)).heap.size, 0, none⟩) 1 1) [i] := ⟨_, _, rfl, Nat.le_refl _, by decide, (fun h => by cases h), fun _ => ⟨(wr.alloc (.cells #[.int .i64 c, .int .u64 (q : Int)] 25)).heap.size, 0, rfl, by rw [y1]; omega, fun j c hj => by
          match j, hj with
          | 0, hj =>
            cases hj
            rw [cells_of_block y2]
            rfl
          | j + 1, hj => simp at hj⟩⟩
        rw [p1] at hBr
        have hzl : zs.length ≤ 1000000 := by have := may_len hO.m.may; rw [List.length_map] at this; omega
        have kp := put_of zs st _ c q [i] _ hO2.seats hBr (fun z hz => hO.m.oks z.1 (List.mem_map.2 ⟨z, hz, rfl⟩)) hzl hzo.1 (by simp)
        have hiw : IntKind.u8.wrap (i : Int) = (i : Int) := IntWalk.u8_in _ (by omega)
        have hoks : OkS ⟨c, q, [i]⟩ := ⟨hzo.1, by simp; omega⟩
        have HM : Hid (mayB (mes zs) = true) := hO.m.may
        have hi8 : i < 256 := by omega
        obtain ⟨sa, sc, hst, -, -⟩ := hO.seats.1.shape
        clear y1 y2 y3 p1 p3 cl0 hb2 hO
        generalize zs.length = zl at hst
        subst hst
        cases hs : seatB ⟨c, q, [i]⟩ with
        | false =>
          rw [put_seat hs] at kp
          clear hoks hs
          go_wp2_with fail
          generalize hPd : wr.heap.size = P at *
          generalize (wr.alloc (.cells #[.int .i64 c, .int .u64 (q : Int)] 25)).alloc (.cells #[.int .u8 (i : Int)] 5) = w2 at *
          clear hPd
          refine kp.mono ?_
          rintro e w3 ⟨⟨v3, zs3, rfl, hS3, hm3⟩, hb3⟩
          dsimp only at hm3
          have hb03 := keep_step hb02 (Nat.le_refl _) hb3
          have hO3 := hO2.below hb3
          obtain ⟨d0, d1⟩ := cl w3 (hb3.mono hPs.out)
          have hOn : OncS w.heap.size w3 (.slice sa zl sc) zs K bk bl (i + 1) := by
            obtain ⟨c1, h1, h2'⟩ := hO3.kept
            obtain ⟨c2, h3, h4⟩ := hO3.last
            exact ⟨hO3.seats, hO3.m, ⟨c1, by omega, h2'⟩, ⟨c2, by omega, h4⟩, hO3.ne, hO3.nk, hO3.nl⟩
          obtain ⟨a3, c3, hv3, -, -⟩ := hS3.1.shape
          generalize zs3.length = z3 at hv3
          subst hv3
          clear kp hO2 hb02 hb3 hO3 hS3 hm3 cl hBr
          go_wp2
          go_roundg (gk - 1)
          case measure => omega
          case rel => exact ⟨i + 1, _, zs, K, by omega, by go_num, rfl, hOn, hb03⟩
        | true =>
          have HS : Hid (seatB ⟨c, q, [i]⟩ = true) := hs
          clear hs
          cases hnb : newB (mes zs) c q with
          | false =>
            rw [put_old HM.out HS.out hnb] at kp
            have HNB : Hid (newB (mes zs) c q = false) := hnb
            clear hnb hoks
            go_wp2_with fail
            generalize hPd : wr.heap.size = P at *
            generalize (wr.alloc (.cells #[.int .i64 c, .int .u64 (q : Int)] 25)).alloc (.cells #[.int .u8 (i : Int)] 5) = w2 at *
            clear hPd
            refine kp.mono ?_
            rintro e w3 ⟨⟨v3, zs3, rfl, hS3, hm3⟩, hb3⟩
            dsimp only at hm3
            have hb03 := keep_step hb02 (Nat.le_refl _) hb3
            have hO3 := hO2.below hb3
            obtain ⟨d0, d1⟩ := cl w3 (hb3.mono hPs.out)
            have hOn : OncS w.heap.size w3 (.slice sa zl sc) zs K bk bl (i + 1) := by
              obtain ⟨c1, h1, h2'⟩ := hO3.kept
              obtain ⟨c2, h3, h4⟩ := hO3.last
              exact ⟨hO3.seats, hO3.m, ⟨c1, by omega, h2'⟩, ⟨c2, by omega, h4⟩, hO3.ne, hO3.nk, hO3.nl⟩
            obtain ⟨a3, c3, hv3, -, -⟩ := hS3.1.shape
            generalize zs3.length = z3 at hv3
            subst hv3
            have e1 := hO3.keptLook hzo
            by_cases hk : (c, q) ∈ K
            · rw [decide_eq_true hk] at e1
              dsimp only [idV] at e1
              clear kp hO2 hb02 hb3 hO3 hS3 hm3 cl hBr HNB
              go_wp2
              go_roundg (gk - 1)
              case measure => omega
              case rel => exact ⟨i + 1, _, zs, K, by omega, by go_num, rfl, hOn, hb03⟩
            · rw [decide_eq_false hk] at e1
              dsimp only [idV] at e1
              obtain ⟨s, hs1, hs2⟩ := hO3.m.old (z := (c, q)) HNB.out hk
              have e2 := hO3.lastLook hzo hs1
              dsimp only at e2 hs2
              have hsi : ¬ (s.sq : Int) ≤ (q : Int) := by omega
              have hsd : decide ((s.sq : Int) ≤ (q : Int)) = false := decide_eq_false hsi
              have hsd2 : decide (s.sq ≤ q) = false := decide_eq_false (by omega)
              generalize s.sq = ss at *
              clear kp hO2 hb02 hb3 hO3 hS3 hm3 cl hBr HNB hs1
              go_wp2
              go_roundg (gk - 1)
              case measure => omega
              case rel => exact ⟨i + 1, _, zs, K, by omega, by go_num, rfl, hOn, hb03⟩
          | true =>
            rw [put_new HM.out HS.out hnb] at kp
            have HNB : Hid (newB (mes zs) c q = true) := hnb
            have HOS : Hid (OkS ⟨c, q, [i]⟩) := hoks
            clear hnb hoks
            go_wp2_with fail
            generalize hPd : wr.heap.size = P at *
            generalize (wr.alloc (.cells #[.int .i64 c, .int .u64 (q : Int)] 25)).alloc (.cells #[.int .u8 (i : Int)] 5) = w2 at *
            clear hPd
            refine kp.mono ?_
            rintro e w3 ⟨⟨v3, zs3, rfl, hS3, hm3⟩, hb3⟩
            dsimp only at hm3
            have hb03 := keep_step hb02 (Nat.le_refl _) hb3
            have hO3 := hO2.below hb3
            obtain ⟨d0, d1⟩ := cl w3 (hb3.mono hPs.out)
            have hkn : (c, q) ∉ K := hO3.m.new HNB.out
            have e1 := hO3.keptLook hzo
            rw [decide_eq_false hkn] at e1
            dsimp only [idV] at e1
            obtain ⟨W1, W2, u1, u2, hO4, hbW1, hbW2, hcell, hszW⟩ := hO3.two (by have := hb03.size; omega) (by omega) hzo hS3 hm3 HS.out HOS.out HNB.out
            dsimp only [idV] at u1 u2
            obtain ⟨f0, f1⟩ := hcell _ _ d0
            obtain ⟨g0, g1⟩ := hcell _ _ d1
            have hBr3 := hBr.below hb3
            have hb04 : Below w.heap.size w W2 := hb03.trans hbW2
            have hz3l : zs3.length ≤ 1000000 := by have := may_len hO4.m.may; rw [List.length_map] at this; omega
            have kl := look_of zs3 v3 c q W2 hO4.seats (fun z hz => hO4.m.oks z.1 (List.mem_map.2 ⟨z, hz, rfl⟩)) hz3l hzo.1
            rw [hm3, show lookM (keptM (mes zs) ⟨c, q, [i]⟩) c q = ([i], true, 0) from look_kept (s := ⟨c, q, [i]⟩) HM.out HS.out] at kl
            have hBr4 : Bn W2 (.slice (some ⟨P + 1, 0, none⟩) 1 1) [i] := by
              obtain ⟨ao', cap', k1, k2, k3, k4, k5⟩ := hBr3
              refine ⟨ao', cap', k1, k2, k3, k4, fun hne => ?_⟩
              obtain ⟨b', off', j1, j2, j3⟩ := k5 hne
              exact ⟨b', off', j1, Nat.lt_of_lt_of_le j2 hszW, fun j c hj => (hcell _ _ (j3 j c hj)).2⟩
            obtain ⟨a3, c3, hv3, -, -⟩ := hS3.1.shape
            generalize zs3.length = z3 at hv3 hz3l
            clear kp hO2 hb02 hb3 hO3 hS3 hm3 cl hBr HNB HS HOS HM hBr3 hcell hbW1 hbW2 hszW
            subst hv3
            go_wp2_with fail
            refine kl.mono ?_
            rintro e w5 ⟨⟨v5, rfl, hB5⟩, hb5⟩
            have hb05 := keep_step hb04 (Nat.le_refl _) hb5
            have hO5 := hO4.below hb5
            dsimp only at hB5
            have e5 := Wi.str_of hB5 (by simp; omega)
            have e6 := Wi.str_of (hBr4.below hb5) (by simp; omega)
            generalize Wi.str [i] = S at *
            obtain ⟨a5, c5, hv5⟩ := hB5.shape
            subst hv5
            have e5' : (convert 26 9 (.slice a5 1 c5)).run Try.prog w5 = .ok (.string S) w5 := e5
            clear kl hb04 hb5 hO4 hBr4 hB5 e5 u1 u2 e1 d0 d1 f0 f1 g0 g1
            go_wp2
            go_roundg (gk - 1)
            case measure => omega
            case rel => exact ⟨i + 1, _, zs3, (c, q) :: K, by omega, by go_num, rfl, hO5, hb05⟩
      · have h2i : ¬ (i : Int) < 200 := by omega
        have kW := awake_of wr
        obtain ⟨sa, sc, hst, -, -⟩ := hO.seats.1.shape
        clear hO HL HOK
        subst hst
        go_wp2_with fail
        refine kW.mono ?_
        rintro e w5 ⟨rfl, hb5⟩
        have hb05 := keep_step hb (Nat.le_refl _) hb5
        go_wp2
        go_ret
        exact ⟨rfl, hb05⟩
    · have hlti : ¬ (i : Int) < (ids.length : Int) := by omega
      have kW := awake_of wr
      obtain ⟨sa, sc, hst, -, -⟩ := hO.seats.1.shape
      clear hO HL HOK
      subst hst
      go_wp2_with fail
      refine kW.mono ?_
      rintro e w5 ⟨rfl, hb5⟩
      have hb05 := keep_step hb (Nat.le_refl _) hb5
      go_wp2
      go_ret
      exact ⟨rfl, hb05⟩
end Go.Proofs.Ytebkfkijlopmoaa

