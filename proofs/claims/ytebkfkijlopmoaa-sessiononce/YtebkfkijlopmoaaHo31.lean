import Derived.Test.YtebkfkijlopmoaaHo30
/- The program's Look, the document's Look. -/
namespace Go.Proofs.Ytebkfkijlopmoaa
open Go.RowKit SessionMath
set_option maxRecDepth 100000
set_option linter.unusedSimpArgs false
set_option linter.unusedVariables false

theorem results_tmp3 {fn : Func} {t u v : Tmp} (h : fn.results = #[.tmp t, .tmp u, .tmp v]) (tmps : Array Value) (P : Program) (w : World) :
    (results fn tmps).run P w = .ok (.tuple #[tmps.getD t undef, tmps.getD u undef, tmps.getD v undef]) w := by
  simp [results, h]
/-- What Look tells. -/
def LookT (m : List Nat × Bool × Int) (e : Ending) (w' : World) : Prop := ∃ v, e = .returned (.tuple #[v, .bool m.2.1, .int .i64 m.2.2]) ∧ Bn w' v m.1
theorem bn_nil (w : World) : Bn w (.slice none 0 0) [] := Wi.Bs.nil _ _
theorem seat_nil (c : Int) (q : Nat) : seatB ⟨c, q, []⟩ = callB c q := by simp [seatB]
theorem look_may {l : List Ms} {c : Int} {q : Nat} (h : mayB l = false) : lookM l c q = ([], false, 1) := by simp [lookM, h]
theorem look_call {l : List Ms} {c : Int} {q : Nat} (h : callB c q = false) : lookM l c q = ([], false, 1) := by simp [lookM, h]
theorem look_none {l : List Ms} {c : Int} {q : Nat} (h1 : mayB l = true) (h2 : callB c q = true) (h : seatOf l c = none) : lookM l c q = ([], false, 0) := by simp [lookM, h1, h2, h]
theorem look_some {l : List Ms} {c : Int} {q : Nat} {s : Ms} (h1 : mayB l = true) (h2 : callB c q = true) (h : seatOf l c = some s) : lookM l c q = if q < s.sq then ([], false, 7) else if q = s.sq then (s.rp, true, 0) else ([], false, 0) := by simp [lookM, h1, h2, h]

set_option maxHeartbeats 4000000 in
theorem look_of (zs : List Sz) (lv : Value) (c : Int) (q : Nat) (w : World) (hL : SeatsV w lv zs) (hok : ∀ z ∈ zs, SzOk z) (hlen : zs.length ≤ 1000000) (hq : q < 18446744073709551616) : Calls Try.prog 9 #[lv, .agg #[.int .i64 c, .int .u64 (q : Int)]] w fun e w' => LookT (lookM (mes zs) c q) e w' ∧ Below w.heap.size w w' := by
  obtain ⟨T, HT⟩ : ∃ T, Hid (T = LookT (lookM (mes zs) c q)) := ⟨_, rfl⟩
  rw [← HT.out]
  obtain ⟨hsz, hb0, cl⟩ := id_box w c q
  obtain ⟨c0, c1⟩ := cl _ (Below.refl _ _)
  have kc := check_of zs lv (w.alloc (.cells #[.int .i64 c, .int .u64 (q : Int)] 25)) (hL.below hb0) hlen
  have HL : Hid (SeatsV w lv zs) := hL
  obtain ⟨ao, cap, rfl, -, -⟩ := hL.1.shape
  clear hL
  rw [hsz] at kc
  have hbw : ∀ W, Below (w.heap.size + 1) (w.alloc (.cells #[.int .i64 c, .int .u64 (q : Int)] 25)) W → Below w.heap.size w W := fun W hW => hb0.trans (hW.mono (Nat.le_succ _))
  have hszr : Hid (w.heap.size + 1 ≤ (w.alloc (.cells #[.int .i64 c, .int .u64 (q : Int)] 25)).heap.size) := by show _ ≤ _; omega
  cases hm : mayB (mes zs) with
  | false =>
    rw [hm] at kc
    simp only [Bool.false_eq_true, if_false] at kc
    have E : Hid (∀ W, T (.returned (.tuple #[.slice none 0 0, .bool false, .int .i64 1])) W) := fun W => by rw [HT.out, look_may hm]; exact ⟨_, rfl, bn_nil _⟩
    clear HT HL hok hm cl
    go_enter Try.func9, Try.ntmps9
    go_wp2_with fail
    refine kc.mono ?_
    rintro e w1 ⟨rfl, hb1⟩
    go_wp2
    (try simp only [Exit.inBlock, Exit.then])
    refine bodyPost_ret (results_tmp3 rfl _ _ _) rfl ?_
    exact ⟨E.out _, hbw _ hb1⟩
  | true =>
    rw [hm] at kc
    simp only [if_true] at kc
    have HM : Hid (mayB (mes zs) = true) := hm
    clear hm
    cases hc : callB c q with
    | false =>
      have E : Hid (∀ W, T (.returned (.tuple #[.slice none 0 0, .bool false, .int .i64 1])) W) := fun W => by rw [HT.out, look_call hc]; exact ⟨_, rfl, bn_nil _⟩
      have kb : ∀ W, Calls Try.prog 20 #[.agg #[.int .i64 c, .int .u64 (q : Int), .slice none 0 0]] W fun e w' => e = .returned (.bool false) ∧ Below W.heap.size W w' := fun W => by
        have := mayBe_of (⟨c, q, []⟩, none, 0, 0) W rfl
        rw [seat_nil, hc] at this
        exact this
      clear HT HL hok HM hc
      go_enter Try.func9, Try.ntmps9
      go_wp2_with fail
      refine kc.mono ?_
      rintro e w1 ⟨rfl, hb1⟩
      obtain ⟨d0, d1⟩ := cl _ hb1
      have ks := seat_of c q (none, 0, 0) w1
      dsimp only at ks
      clear kc c0 c1
      go_wp2_with fail
      refine ks.mono ?_
      rintro e w2 ⟨rfl, hb2⟩
      have hb02 := keep_step hb1 hszr.out hb2
      have kb2 := kb w2
      clear ks d0 d1 hb1 hb2 kb
      go_wp2_with fail
      refine kb2.mono ?_
      rintro e w3 ⟨rfl, hb3⟩
      have hb03 := keep_step hb02 hszr.out hb3
      clear kb2 hb02 hb3
      go_wp2
      (try simp only [Exit.inBlock, Exit.then])
      refine bodyPost_ret (results_tmp3 rfl _ _ _) rfl ?_
      exact ⟨E.out _, hbw _ hb03⟩
    | true =>
      have HC : Hid (callB c q = true) := hc
      have hpw := (may_iff.1 HM.out).2
      obtain ⟨K, hK⟩ := plc_ex c hpw
      have HPH : Hid _ := plc_has hpw hK
      have kb : ∀ W, Calls Try.prog 20 #[.agg #[.int .i64 c, .int .u64 (q : Int), .slice none 0 0]] W fun e w' => e = .returned (.bool true) ∧ Below W.heap.size W w' := fun W => by
        have := mayBe_of (⟨c, q, []⟩, none, 0, 0) W rfl
        rw [seat_nil, hc] at this
        exact this
      have kf := fun W (hW : Below w.heap.size w W) => find_of zs (.slice ao zs.length cap) c K W (HL.out.1.below hW) hlen hK
      clear hc hpw hK
      generalize hB : hasB (mes zs) K c = B at *
      cases B with
      | false =>
        have E : Hid (∀ W, T (.returned (.tuple #[.slice none 0 0, .bool false, .int .i64 0])) W) := fun W => by rw [HT.out, look_none HM.out HC.out (HPH.out.2 rfl)]; exact ⟨_, rfl, bn_nil _⟩
        clear HT HL hok HM HC HPH hB
        go_enter Try.func9, Try.ntmps9
        go_wp2_with fail
        refine kc.mono ?_
        rintro e w1 ⟨rfl, hb1⟩
        obtain ⟨d0, d1⟩ := cl _ hb1
        have ks := seat_of c q (none, 0, 0) w1
        dsimp only at ks
        clear kc c0 c1
        go_wp2_with fail
        refine ks.mono ?_
        rintro e w2 ⟨rfl, hb2⟩
        have hb02 := keep_step hb1 hszr.out hb2
        have kb2 := kb w2
        clear ks d0 d1 hb1 hb2 kb
        go_wp2_with fail
        refine kb2.mono ?_
        rintro e w3 ⟨rfl, hb3⟩
        have hb03 := keep_step hb02 hszr.out hb3
        obtain ⟨d0, d1⟩ := cl _ hb03
        have kf3 := kf w3 (hbw _ hb03)
        clear kb2 hb02 hb3 kf
        go_wp2_with fail
        refine kf3.mono ?_
        rintro e w4 ⟨rfl, hb4⟩
        have hb04 := keep_step hb03 hszr.out hb4
        clear kf3 hb03 hb4 d0 d1
        go_wp2
        go_big_quiet (fail)
        go_wp2
        (try simp only [Exit.inBlock, Exit.then])
        refine bodyPost_ret (results_tmp3 rfl _ _ _) rfl ?_
        exact ⟨E.out _, hbw _ (below_drewN hb04 nq)⟩
      | true =>
        obtain ⟨s, hs1, hs2, hs3⟩ := HPH.out.1 rfl
        have HTL : Hid (T = LookT (if q < s.sq then ([], false, 7) else if q = s.sq then (s.rp, true, 0) else ([], false, 0))) := by show _ = _; rw [HT.out, look_some HM.out HC.out hs3]
        obtain ⟨z, hz, hzs⟩ : ∃ z, zs[K]? = some z ∧ z.1 = s := by
          rw [List.getElem?_map] at hs1
          obtain ⟨z, h1, h2⟩ := Option.map_eq_some_iff.1 hs1
          exact ⟨z, h1, h2⟩
        subst hzs
        have hKl := (List.getElem?_eq_some_iff.1 hz).1
        have hKli : (K : Int) < (zs.length : Int) := by omega
        obtain ⟨b, off, rfl, cz⟩ := rds_at HL.out.1 hz
        have HD : Hid (RepV w z) := HL.out.2 z (List.mem_of_getElem? hz)
        have hsq := (hok z (List.mem_of_getElem? hz)).1
        have hrl : z.1.rp.length ≤ 4096 := (seat_iff.1 ((may_iff.1 HM.out).1 z.1 (List.mem_of_getElem? hs1))).2.2.2.2
        have hzl := HD.out.len
        obtain ⟨⟨zc, zq, zr⟩, sa, sn, sc⟩ := z
        dsimp only at *
        subst hzl
        clear HT HL hok HM HC HPH hB hs1 hs2 hs3 hz
        go_enter Try.func9, Try.ntmps9
        go_wp2_with fail
        refine kc.mono ?_
        rintro e w1 ⟨rfl, hb1⟩
        obtain ⟨d0, d1⟩ := cl _ hb1
        have ks := seat_of c q (none, 0, 0) w1
        dsimp only at ks
        clear kc c0 c1
        go_wp2_with fail
        refine ks.mono ?_
        rintro e w2 ⟨rfl, hb2⟩
        have hb02 := keep_step hb1 hszr.out hb2
        have kb2 := kb w2
        clear ks d0 d1 hb1 hb2 kb
        go_wp2_with fail
        refine kb2.mono ?_
        rintro e w3 ⟨rfl, hb3⟩
        have hb03 := keep_step hb02 hszr.out hb3
        obtain ⟨d0, d1⟩ := cl _ hb03
        have kf3 := kf w3 (hbw _ hb03)
        clear kb2 hb02 hb3 kf
        go_wp2_with fail
        refine kf3.mono ?_
        rintro e w4 ⟨rfl, hb4⟩
        have hb04 := keep_step hb03 hszr.out hb4
        clear kf3 hb03 hb4 d0 d1
        obtain ⟨d0, d1⟩ := cl _ hb04
        obtain ⟨e0, e1, e2⟩ := cz _ (hbw _ hb04)
        rcases Nat.lt_trichotomy q zq with h | h | h
        · have hi : (q : Int) < (zq : Int) := by omega
          have hi2 : ¬ (zq : Int) < (q : Int) := by omega
          have E : Hid (∀ W, T (.returned (.tuple #[.slice none 0 0, .bool false, .int .i64 7])) W) := fun W => by rw [HTL.out, if_pos h]; exact ⟨_, rfl, bn_nil _⟩
          clear HTL HD h
          go_wp2
          go_quiet (fail)
          go_wp2
          go_quiet (fail)
          go_wp2
          (try simp only [Exit.inBlock, Exit.then])
          refine bodyPost_ret (results_tmp3 rfl _ _ _) rfl ?_
          first
            | exact ⟨E.out _, hbw _ (below_drewN (below_drewN hb04 _) _)⟩
            | exact ⟨E.out _, hbw _ (below_drewN hb04 _)⟩
        · subst h
          have hi : ¬ (q : Int) < (q : Int) := by omega
          have E : Hid (∀ v W, Bn W v zr → T (.returned (.tuple #[v, .bool true, .int .i64 0])) W) := fun v W hv => by rw [HTL.out, if_neg (by omega), if_pos rfl]; exact ⟨_, rfl, hv⟩
          clear HTL
          go_wp2
          go_quiet (fail)
          have hb05 := below_drewN hb04 nq
          obtain ⟨d0', d1'⟩ := cl _ hb05
          obtain ⟨e0', e1', e2'⟩ := cz _ (hbw _ hb05)
          clear hb04 d0 d1 e0 e1 e2
          generalize w4.drewN nq = w5 at *
          go_wp2
          go_quiet (fail)
          have hb06 := below_drewN hb05 nq
          obtain ⟨d0, d1⟩ := cl _ hb06
          obtain ⟨e0, e1, e2⟩ := cz _ (hbw _ hb06)
          clear hb05 d0' d1' e0' e1' e2'
          generalize w5.drewN nq = w6 at *
          have kcl := Wi.clone_of _ zr (.slice sa zr.length sc) w6 (HD.out.below (hbw _ hb06)) (Nat.le_refl _) (by omega)
          go_wp2_with fail
          refine kcl.mono ?_
          rintro e w7 ⟨v7, rfl, hO7, hb7⟩
          have hb07 := keep_step hb06 hszr.out hb7
          have hv7 : Bn w7 v7 zr := hO7.bs
          clear kcl hO7 hb06 hb7
          go_wp2
          (try simp only [Exit.inBlock, Exit.then])
          refine bodyPost_ret (results_tmp3 rfl _ _ _) rfl ?_
          exact ⟨E.out _ _ hv7, hbw _ hb07⟩
        · have hi : (zq : Int) < (q : Int) := by omega
          have E : Hid (∀ W, T (.returned (.tuple #[.slice none 0 0, .bool false, .int .i64 0])) W) := fun W => by rw [HTL.out, if_neg (by omega), if_neg (by omega)]; exact ⟨_, rfl, bn_nil _⟩
          clear HTL HD h
          go_wp2
          go_quiet (fail)
          go_wp2
          (try simp only [Exit.inBlock, Exit.then])
          refine bodyPost_ret (results_tmp3 rfl _ _ _) rfl ?_
          exact ⟨E.out _, hbw _ (below_drewN hb04 nq)⟩

end Go.Proofs.Ytebkfkijlopmoaa

