import Derived.Test.YtebkfkijlopmoaaHs29
/- The document's Put. -/
namespace Go.Proofs.Ytebkfkijlopmoaa
open Go.RowKit SessionMath
set_option maxRecDepth 100000
set_option linter.unusedSimpArgs false
set_option linter.unusedVariables false

/-- Rows that grow: seats whose replies lie below n. -/
def Gw (n : Nat) (w : World) (v : Value) (M : List Ms) (cur : List Sz) : Prop := Ow seatE 49 n w v cur ∧ mes cur = M ∧ ∀ z ∈ cur, Wi.Bs n w (sv z) z.1.rp
theorem Gw.push {n : Nat} {w w' : World} {st v' : Value} {M : List Ms} {cur : List Sz} {z : Sz} (h : Gw n w st M cur) (hz : Wi.Bs n w (sv z) z.1.rp) (hn : n ≤ w.heap.size) (hp : PushT seatE 49 w st (cur ++ [z]) v' w') : Gw n w' v' (M ++ [z.1]) (cur ++ [z]) ∧ Below n w w' := by
  obtain ⟨h1, h2⟩ := h.1.push hn hp
  refine ⟨⟨h1, ?_, fun y hy => ?_⟩, h2⟩
  · show List.map _ _ = _
    rw [List.map_append]
    exact congrArg (· ++ [z.1]) h.2.1
  · rw [List.mem_append, List.mem_singleton] at hy
    rcases hy with hy | rfl
    · exact (h.2.2 y hy).below h2
    · exact hz.below h2
theorem Gw.seats {n : Nat} {w : World} {v : Value} {M : List Ms} {cur : List Sz} (h : Gw n w v M cur) (hn : n ≤ w.heap.size) : SeatsV w v cur := ⟨h.1.1.rd, fun z hz => (h.2.2 z hz).mono hn⟩
theorem up_to {l : List Ms} {s : Ms} {m : Int} (h : l.Pairwise (fun a b => a.cl < b.cl)) (hm : m ≠ s.cl) : upM l s (m + 1) = upM l s m ++ (l.take l.length).filter (fun x => decide (x.cl = m)) := by
  rw [up_step h, if_neg hm, List.take_length]
theorem flt_yes {l : List Ms} {m : Int} {j : Nat} {x : Ms} (h : l[j]? = some x) (hx : x.cl = m) : (l.take (j + 1)).filter (fun x => decide (x.cl = m)) = (l.take j).filter (fun x => decide (x.cl = m)) ++ [x] := by
  rw [take_succ_get h, List.filter_append]
  simp [hx]
theorem flt_no {l : List Ms} {m : Int} {j : Nat} {x : Ms} (h : l[j]? = some x) (hx : ¬ x.cl = m) : (l.take (j + 1)).filter (fun x => decide (x.cl = m)) = (l.take j).filter (fun x => decide (x.cl = m)) := by
  rw [take_succ_get h, List.filter_append]
  simp [hx]
theorem look_new {l : List Ms} {c : Int} {q : Nat} (h1 : mayB l = true) (h2 : callB c q = true) : newB l c q = true → (lookM l c q).2 = (false, 0) := by
  intro h
  unfold newB at h
  unfold lookM
  rw [h1, h2]
  cases hs : seatOf l c with
  | none => rfl
  | some s =>
    rw [hs] at h
    have : s.sq < q := by simpa using h
    simp only [Bool.and_self, if_true]
    rw [if_neg (by omega), if_neg (by omega)]
theorem look_old {l : List Ms} {c : Int} {q : Nat} (h1 : mayB l = true) (h2 : callB c q = true) : newB l c q = false → (lookM l c q).2 = (true, 0) ∨ (lookM l c q).2 = (false, 7) := by
  intro h
  unfold newB at h
  unfold lookM
  rw [h1, h2]
  cases hs : seatOf l c with
  | none => rw [hs] at h; cases h
  | some s =>
    rw [hs] at h
    have : ¬ s.sq < q := by simpa using h
    simp only [Bool.and_self, if_true]
    by_cases hq : q < s.sq
    · rw [if_pos hq]; exact .inr rfl
    · rw [if_neg hq, if_pos (by omega)]; exact .inl rfl

set_option maxHeartbeats 4000000 in
theorem rput_of (zs : List Sz) (lv rv : Value) (c : Int) (q : Nat) (r : List Nat) (w : World) (hL : SeatsV w lv zs) (hR : Bn w rv r) (hok : ∀ z ∈ zs, SzOk z) (hlen : zs.length ≤ 1000000) (hq : q < 18446744073709551616) (hrl : r.length ≤ 1000000) : Calls Try.prog 14 #[lv, .agg #[.int .i64 c, .int .u64 (q : Int)], rv] w fun e w' => PutT (putM (mes zs) ⟨c, q, r⟩) e w' ∧ Below w.heap.size w w' := by
  obtain ⟨T, HT⟩ : ∃ T, Hid (T = PutT (putM (mes zs) ⟨c, q, r⟩)) := ⟨_, rfl⟩
  rw [← HT.out]
  obtain ⟨hsz, hb0, cl⟩ := id_box w c q
  obtain ⟨c0, c1⟩ := cl _ (Below.refl _ _)
  obtain ⟨ra, rc, rfl⟩ := hR.shape
  have kc := rmay_of zs lv (w.alloc (.cells #[.int .i64 c, .int .u64 (q : Int)] 25)) (hL.below hb0) hlen
  have kl := fun W (hW : Below w.heap.size w W) => rlook_of zs lv c q W (hL.below hW) hok hlen hq
  have kb := fun W => call_of c q W
  have HL : Hid (SeatsV w lv zs) := hL
  have HR : Hid (Bn w (.slice ra r.length rc) r) := hR
  obtain ⟨ao, cap, rfl, hcap, hcn⟩ := hL.1.shape
  clear hL hR hok
  rw [hsz] at kc
  have hbw : ∀ W, Below (w.heap.size + 1) (w.alloc (.cells #[.int .i64 c, .int .u64 (q : Int)] 25)) W → Below w.heap.size w W := fun W hW => hb0.trans (hW.mono (Nat.le_succ _))
  have hszr : Hid (w.heap.size + 1 ≤ (w.alloc (.cells #[.int .i64 c, .int .u64 (q : Int)] 25)).heap.size) := by show _ ≤ _; omega
  cases hm : mayB (mes zs) with
  | false =>
    rw [hm] at kc
    have E : Hid (∀ W, T (.returned (.tuple #[.slice none 0 0, .int .i64 1])) W) := fun W => by rw [HT.out, put_may hm]; exact ⟨_, [], rfl, SeatsV.nil _, rfl⟩
    clear HT HL HR hm cl kl kb
    go_enter Try.func14, Try.ntmps14
    go_wp2_with fail
    refine kc.mono ?_
    rintro e w1 ⟨rfl, hb1⟩
    go_wp2
    go_ret2
    exact ⟨E.out _, hbw _ hb1⟩
  | true =>
    rw [hm] at kc
    have HM : Hid (mayB (mes zs) = true) := hm
    clear hm
    cases hc : callB c q with
    | false =>
      have E : Hid (∀ W, T (.returned (.tuple #[.slice none 0 0, .int .i64 1])) W) := fun W => by rw [HT.out, put_seat (by simp [seatB, hc])]; exact ⟨_, [], rfl, SeatsV.nil _, rfl⟩
      rw [hc] at kb
      clear HT HL HR HM hc kl
      go_enter Try.func14, Try.ntmps14
      go_wp2_with fail
      refine kc.mono ?_
      rintro e w1 ⟨rfl, hb1⟩
      obtain ⟨d0, d1⟩ := cl _ hb1
      have kb2 := kb w1
      clear kc c0 c1 kb
      go_wp2_with fail
      refine kb2.mono ?_
      rintro e w3 ⟨rfl, hb3⟩
      have hb03 := keep_step hb1 hszr.out hb3
      clear kb2 hb1 hb3 d0 d1
      go_wp2
      go_ret2
      exact ⟨E.out _, hbw _ hb03⟩
    | true =>
      rw [hc] at kb
      by_cases hr4 : 4096 < r.length
      · have hr4i : (4096 : Int) < (r.length : Int) := by omega
        have E : Hid (∀ W, T (.returned (.tuple #[.slice none 0 0, .int .i64 1])) W) := fun W => by rw [HT.out, put_seat (by simp [seatB]; intro _; omega)]; exact ⟨_, [], rfl, SeatsV.nil _, rfl⟩
        clear HT HL HR HM hc kl hr4
        go_enter Try.func14, Try.ntmps14
        go_wp2_with fail
        refine kc.mono ?_
        rintro e w1 ⟨rfl, hb1⟩
        obtain ⟨d0, d1⟩ := cl _ hb1
        have kb2 := kb w1
        clear kc c0 c1 kb
        go_wp2_with fail
        refine kb2.mono ?_
        rintro e w3 ⟨rfl, hb3⟩
        have hb03 := keep_step hb1 hszr.out hb3
        clear kb2 hb1 hb3 d0 d1
        go_wp2
        go_ret2
        exact ⟨E.out _, hbw _ hb03⟩
      · have hr4i : ¬ (4096 : Int) < (r.length : Int) := by omega
        have hse : seatB ⟨c, q, r⟩ = true := by simp [seatB, hc]; omega
        have HSE : Hid (seatB ⟨c, q, r⟩ = true) := hse
        cases hnb : newB (mes zs) c q with
        | false =>
          have E : Hid (∀ W, T (.returned (.tuple #[.slice none 0 0, .int .i64 7])) W) := fun W => by rw [HT.out, put_old HM.out HSE.out hnb]; exact ⟨_, [], rfl, SeatsV.nil _, rfl⟩
          have hlo := look_old HM.out hc hnb
          obtain ⟨D, F, hDF, hlo2⟩ : ∃ D F, (lookM (mes zs) c q).2 = (D, F) ∧ ((D = true ∧ F = 0) ∨ (D = false ∧ F = 7)) := by
            rcases hlo with h | h
            · exact ⟨_, _, h, .inl ⟨rfl, rfl⟩⟩
            · exact ⟨_, _, h, .inr ⟨rfl, rfl⟩⟩
          unfold LookT at kl
          rw [hDF] at kl
          clear HT HL HR HM hc hse HSE hnb hlo hDF hr4
          rcases hlo2 with ⟨rfl, rfl⟩ | ⟨rfl, rfl⟩
          · go_enter Try.func14, Try.ntmps14
            go_wp2_with fail
            refine kc.mono ?_
            rintro e w1 ⟨rfl, hb1⟩
            obtain ⟨d0, d1⟩ := cl _ hb1
            have kb2 := kb w1
            clear kc c0 c1 kb
            go_wp2_with fail
            refine kb2.mono ?_
            rintro e w3 ⟨rfl, hb3⟩
            have hb03 := keep_step hb1 hszr.out hb3
            clear kb2 hb1 hb3 d0 d1
            obtain ⟨d0, d1⟩ := cl _ hb03
            have kl3 := kl w3 (hbw _ hb03)
            clear kl
            go_wp2_with fail
            refine kl3.mono ?_
            rintro e w4 ⟨⟨v4, rfl, -⟩, hb4⟩
            have hb04 := keep_step hb03 hszr.out hb4
            clear kl3 hb03 hb4 d0 d1
            go_wp2
            go_ret2
            exact ⟨E.out _, hbw _ hb04⟩
          · go_enter Try.func14, Try.ntmps14
            go_wp2_with fail
            refine kc.mono ?_
            rintro e w1 ⟨rfl, hb1⟩
            obtain ⟨d0, d1⟩ := cl _ hb1
            have kb2 := kb w1
            clear kc c0 c1 kb
            go_wp2_with fail
            refine kb2.mono ?_
            rintro e w3 ⟨rfl, hb3⟩
            have hb03 := keep_step hb1 hszr.out hb3
            clear kb2 hb1 hb3 d0 d1
            obtain ⟨d0, d1⟩ := cl _ hb03
            have kl3 := kl w3 (hbw _ hb03)
            clear kl
            go_wp2_with fail
            refine kl3.mono ?_
            rintro e w4 ⟨⟨v4, rfl, -⟩, hb4⟩
            have hb04 := keep_step hb03 hszr.out hb4
            clear kl3 hb03 hb4 d0 d1
            go_wp2
            go_ret2
            exact ⟨E.out _, hbw _ hb04⟩
        | true =>
          have hln := look_new HM.out hc hnb
          unfold LookT at kl
          rw [hln] at kl
          have hpw := (may_iff.1 HM.out).2
          have HPW : Hid ((mes zs).Pairwise (fun a b => a.cl < b.cl)) := hpw
          have hc8 := call_iff.1 hc
          have hc1 : 0 ≤ c := hc8.1
          have hc2 : c < 8 := hc8.2.1
          have HUP0 : Hid (upM (mes zs) ⟨c, q, r⟩ 0 = []) := up_zero hc1 (fun x hx => (seat_iff.1 ((may_iff.1 HM.out).1 x hx)).1)
          have E : Hid (∀ v xs W, SeatsV W v xs → mes xs = upM (mes zs) ⟨c, q, r⟩ 8 → T (.returned (.tuple #[v, .int .i64 0])) W) := fun v xs W h1 h2 => by
            rw [HT.out, put_new HM.out HSE.out hnb]
            exact ⟨v, xs, rfl, h1, by rw [h2]; exact up_all hc2 (fun x hx => (seat_iff.1 ((may_iff.1 HM.out).1 x hx)).2.1)⟩
          clear HT HM hc hse HSE hnb hln hpw hc8 hr4
          go_enter Try.func14, Try.ntmps14
          go_wp2_with fail
          refine kc.mono ?_
          rintro e w1 ⟨rfl, hb1⟩
          obtain ⟨d0, d1⟩ := cl _ hb1
          have kb2 := kb w1
          clear kc c0 c1 kb
          go_wp2_with fail
          refine kb2.mono ?_
          rintro e w3 ⟨rfl, hb3⟩
          have hb03 := keep_step hb1 hszr.out hb3
          clear kb2 hb1 hb3 d0 d1
          obtain ⟨d0, d1⟩ := cl _ hb03
          have kl3 := kl w3 (hbw _ hb03)
          clear kl
          go_wp2_with fail
          refine kl3.mono ?_
          rintro e w4 ⟨⟨v4, rfl, -⟩, hb4⟩
          have hb04 := keep_step hb03 hszr.out hb4
          clear kl3 hb03 hb4 d0 d1
          go_wp2
          obtain ⟨q1, q2, q3⟩ := one_box w4 (.cells #[] 49)
          have hG0 : Gw (w.heap.size + 1) (w4.alloc (.cells #[] 49)) (.slice (some ⟨w4.heap.size, 0, none⟩) 0 0) (upM (mes zs) ⟨c, q, r⟩ ((0 : Nat) : Int)) [] := ⟨⟨Rk.made (xs := []) q2 rfl (by unfold maxLen; simp), fun k hk => by cases hk; exact Nat.le_trans hszr.out hb04.size⟩, HUP0.out.symm, by simp⟩
          have hb05 := keep_step hb04 hszr.out q3
          clear q1 q2 q3 hb04
          generalize w4.alloc (.cells #[] 49) = w5 at *
          generalize w4.heap.size = n4 at *
          go_loopg [11, 12, 13] 8 (fun gg s11 s12 s13 wr => ∃ (m : Nat) (st : Value) (cur : List Sz), m + gg = 8 ∧ s12 = .int .i64 (m : Int) ∧ st = s11 ∧ Gw (w.heap.size + 1) wr st (upM (mes zs) ⟨c, q, r⟩ (m : Int)) cur ∧ Below (w.heap.size + 1) (w.alloc (.cells #[.int .i64 c, .int .u64 (q : Int)] 25)) wr)
          case atStart => exact ⟨0, _, [], by simp, rfl, rfl, hG0, hb05⟩
          case round =>
            obtain ⟨m, st, cur, hmg, rfl, rfl, hG, hb⟩ := hrel
            clear hG0 hb05 HUP0
            have hwl : w.heap.size + 1 ≤ wr.heap.size := Nat.le_trans hszr.out hb.size
            have hcl : cur.length ≤ 3000000 := by
              have h1 := congrArg List.length hG.2.1
              rw [List.length_map] at h1
              have h2 := up_len (l := mes zs) (s := ⟨c, q, r⟩) (m := (m : Int))
              rw [List.length_map] at h2
              omega
            obtain ⟨sa, sc, hst, -⟩ := hG.1.1.shape
            by_cases hm8 : m < 8
            · have hm8i : (m : Int) < 8 := by omega
              obtain ⟨d0, d1⟩ := cl _ hb
              by_cases hmc : (m : Int) = c
              · have HN : Hid (upM (mes zs) ⟨c, q, r⟩ ((m + 1 : Nat) : Int) = upM (mes zs) ⟨c, q, r⟩ (m : Int) ++ [⟨c, q, r⟩]) := by show _ = _; rw [Int.natCast_add, Int.natCast_one, up_step HPW.out, if_pos hmc]
                have hrunH : Hid _ := push_seat ((⟨c, q, r⟩ : Ms), ra, r.length, rc) hG.1.1 (by omega)
                dsimp only at hrunH
                have HRB : Hid (Wi.Bs (w.heap.size + 1) wr (.slice ra r.length rc) r) := Wi.Bs.mono (Wi.Bs.below HR.out (hbw _ hb)) (Nat.le_succ _)
                have hmcb : ((m : Int) == c) = true := by simpa using hmc
                subst hmc
                clear HL HPW HR E
                generalize cur.length = cn at hst
                subst hst
                go_wp2_with (at_builtin; refine wp_by rfl _ _ _ rfl _ _ rfl rfl hrunH.out ?_)
                intro v6 w6 hp6
                obtain ⟨hG6, hb6⟩ := hG.push (z := ((⟨(m : Int), q, r⟩ : Ms), ra, r.length, rc)) HRB.out hwl hp6
                rw [← HN.out] at hG6
                have hb06 := hb.trans hb6
                clear hG hrunH hp6 hb6 HRB HN hb d0 d1
                go_wp2
                go_roundg (gk - 1)
                case measure => omega
                case rel => exact ⟨m + 1, v6, _, by omega, by go_num, rfl, hG6, hb06⟩
              · have HN : Hid (upM (mes zs) ⟨c, q, r⟩ ((m + 1 : Nat) : Int) = upM (mes zs) ⟨c, q, r⟩ (m : Int) ++ ((mes zs).take (mes zs).length).filter (fun x => decide (x.cl = (m : Int)))) := by show _ = _; rw [Int.natCast_add, Int.natCast_one]; exact up_to HPW.out hmc
                have hmcb : ((m : Int) == c) = false := by simpa using hmc
                have hG1 : Gw (w.heap.size + 1) wr st (upM (mes zs) ⟨c, q, r⟩ (m : Int) ++ ((mes zs).take 0).filter (fun x => decide (x.cl = (m : Int)))) cur := by rw [List.take_zero, List.filter_nil, List.append_nil]; exact hG
                have hUL : (upM (mes zs) ⟨c, q, r⟩ (m : Int)).length ≤ 3000000 := by
                  have h1 := congrArg List.length hG.2.1
                  rw [List.length_map] at h1
                  omega
                subst hst
                clear hG hmc hcl
                go_wp2
                generalize hUP : upM (mes zs) ⟨c, q, r⟩ (m : Int) = U at *
                obtain ⟨go, hgo⟩ : ∃ go, go = gk := ⟨_, rfl⟩
                rw [← hgo] at hmg
                generalize hst2 : Value.slice sa cur.length sc = st0 at *
                clear hst2
                go_loopg [11, 13] zs.length (fun gg s11 s13 wr2 => ∃ (j : Nat) (st : Value) (cur : List Sz), j + gg = zs.length ∧ s13 = .int .i64 (j : Int) ∧ st = s11 ∧ Gw (w.heap.size + 1) wr2 st (U ++ ((mes zs).take j).filter (fun x => decide (x.cl = (m : Int)))) cur ∧ Below (w.heap.size + 1) (w.alloc (.cells #[.int .i64 c, .int .u64 (q : Int)] 25)) wr2)
                case atStart => exact ⟨0, _, cur, by simp, rfl, rfl, hG1, hb⟩
                case round =>
                  obtain ⟨j, st, cur2, hjg, rfl, rfl, hG, hb2⟩ := hrel
                  clear hG1 hb d0 d1
                  have hwl2 : w.heap.size + 1 ≤ wr.heap.size := Nat.le_trans hszr.out hb2.size
                  have hcl2 : cur2.length ≤ 5000000 := by
                    have h1 := congrArg List.length hG.2.1
                    rw [List.length_map, List.length_append] at h1
                    have h2 := List.length_filter_le (fun x : Ms => decide (x.cl = (m : Int))) ((mes zs).take j)
                    rw [List.length_take, List.length_map] at h2
                    omega
                  obtain ⟨sa2, sc2, hst2, -⟩ := hG.1.1.shape
                  by_cases hj : j < zs.length
                  · have hji : (j : Int) < (zs.length : Int) := by omega
                    have hz : zs[j]? = some zs[j] := List.getElem?_eq_getElem hj
                    obtain ⟨z, hzz⟩ : ∃ z, z = zs[j] := ⟨_, rfl⟩
                    rw [← hzz] at hz
                    clear hzz
                    obtain ⟨b, off, rfl, cz⟩ := rds_at HL.out.1 hz
                    obtain ⟨e0, e1, e2⟩ := cz _ (hbw _ hb2)
                    have HZB : Hid (Wi.Bs (w.heap.size + 1) wr (sv z) z.1.rp) := Wi.Bs.mono (Wi.Bs.below (HL.out.2 z (List.mem_of_getElem? hz)) (hbw _ hb2)) (Nat.le_succ _)
                    have HX : Hid ((mes zs)[j]? = some z.1) := mes_at hz
                    by_cases hzm : z.1.cl = (m : Int)
                    · have HN2 : Hid (((mes zs).take (j + 1)).filter (fun x => decide (x.cl = (m : Int))) = ((mes zs).take j).filter (fun x => decide (x.cl = (m : Int))) ++ [z.1]) := flt_yes HX.out hzm
                      have hrunH : Hid _ := push_seat z hG.1.1 (by omega)
                      have hzmb : (z.1.cl == (m : Int)) = true := by simpa using hzm
                      have HGP : Hid (∀ v' w', PushT seatE 49 wr st (cur2 ++ [z]) v' w' → Gw (w.heap.size + 1) w' v' (U ++ ((mes zs).take (j + 1)).filter (fun x => decide (x.cl = (m : Int)))) (cur2 ++ [z]) ∧ Below (w.heap.size + 1) wr w') := fun v' w' hp => by
                        rw [HN2.out, ← List.append_assoc]
                        exact hG.push HZB.out hwl2 hp
                      obtain ⟨⟨zc, zq, zr⟩, xa, xn, xc⟩ := z
                      dsimp only at *
                      subst hzm
                      clear HL HPW HR E hz cz HX HN2 HZB HN hG
                      generalize cur2.length = cn2 at hst2
                      subst hst2
                      go_wp2_with (at_builtin; refine wp_by rfl _ _ _ rfl _ _ rfl rfl hrunH.out ?_)
                      intro v6 w6 hp6
                      obtain ⟨hG6, hb6⟩ := HGP.out v6 w6 hp6
                      have hb06 := hb2.trans hb6
                      clear hrunH hp6 hb6 HGP hb2 e0 e1 e2
                      go_wp2
                      go_roundg (gk - 1)
                      case measure => omega
                      case rel => exact ⟨j + 1, v6, _, by omega, by go_num, rfl, hG6, hb06⟩
                    · have HG2 : Hid (Gw (w.heap.size + 1) wr st (U ++ ((mes zs).take (j + 1)).filter (fun x => decide (x.cl = (m : Int)))) cur2) := by show Gw _ _ _ _ _; rw [flt_no HX.out hzm]; exact hG
                      have hzmb : (z.1.cl == (m : Int)) = false := by simpa using hzm
                      obtain ⟨⟨zc, zq, zr⟩, xa, xn, xc⟩ := z
                      dsimp only at *
                      clear HL HPW HR E hz cz HX HZB HN hG
                      subst hst2
                      go_wp2
                      go_roundg (gk - 1)
                      case measure => omega
                      case rel => exact ⟨j + 1, _, cur2, by omega, by go_num, rfl, HG2.out, hb2⟩
                  · have hji : ¬ (j : Int) < (zs.length : Int) := by omega
                    have hG3 : Gw (w.heap.size + 1) wr st (upM (mes zs) ⟨c, q, r⟩ ((m + 1 : Nat) : Int)) cur2 := by
                      rw [HN.out]
                      rw [List.take_of_length_le (by simp; omega)] at hG
                      rw [List.take_length]
                      exact hG
                    clear hG HN
                    subst hst2
                    go_wp2
                    go_roundg (go - 1)
                    case measure => omega
                    case rel => exact ⟨m + 1, _, cur2, by omega, by go_num, rfl, hG3, hb2⟩
            · have hm8i : ¬ (m : Int) < 8 := by omega
              obtain rfl : m = 8 := by omega
              have HF : Hid (T (.returned (.tuple #[st, .int .i64 0])) wr) := E.out _ _ _ (hG.seats hwl) hG.2.1
              clear HL HPW HR E hG
              subst hst
              go_wp2
              go_ret2
              exact ⟨HF.out, hbw _ hb⟩
end Go.Proofs.Ytebkfkijlopmoaa

