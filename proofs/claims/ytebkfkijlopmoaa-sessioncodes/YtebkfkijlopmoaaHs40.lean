import Derived.Test.YtebkfkijlopmoaaHs39
/- The program's Decode. -/
namespace Go.Proofs.Ytebkfkijlopmoaa
open Go.RowKit SessionMath WireMath
set_option maxRecDepth 100000
set_option linter.unusedSimpArgs false
set_option linter.unusedVariables false

theorem rd_belowN {N q : Nat} {w w' : World} {l : List Nat} {a b : Nat} (h : Wi.Rd w q l a b) (hb : Below N w w') (hq : q < N) : Wi.Rd w' q l a b := by
  obtain ⟨sv, h1, h2, h3⟩ := h
  exact ⟨sv, (hb.block q hq).trans h1, Wi.Bs.below h2 (hb.mono (by omega)), h3⟩
/-- A row that grows, its replies one's own. -/
def CpS (n : Nat) (w : World) (v : Value) (M : List Ms) (cur : List Sz) : Prop := Ow seatE 49 n w v cur ∧ mes cur = M ∧ ∀ z ∈ cur, CpR w z
theorem CpS.nil (n : Nat) (w : World) : CpS n w (.slice none 0 0) [] [] := ⟨Ow.nil _ _ _ _, rfl, fun z hz => by simp at hz⟩
theorem CpS.below {n : Nat} {w w' : World} {v : Value} {M : List Ms} {cur : List Sz} (h : CpS n w v M cur) (hb : Below w.heap.size w w') : CpS n w' v M cur := ⟨h.1.below hb, h.2.1, fun z hz => (h.2.2 z hz).below hb⟩
theorem CpS.kp {n q : Nat} {w w' : World} {v : Value} {M : List Ms} {cur : List Sz} {cs : Array Value} {t : TypeId} (h : CpS n w v M cur) (hk : Wi.Kp q w w') (hq : w.heap[q]? = some (.cells cs t (0, 0))) (h1 : t ≠ 49) (h2 : t ≠ 5) : CpS n w' v M cur := by
  refine ⟨⟨h.1.1.same fun k hk' => ?_, h.1.2⟩, h.2.1, fun z hz => own_same (h.2.2 z hz) fun k cs' hk' hb => ?_⟩
  · refine hk.block k (h.1.1.lt hk') fun e => ?_
    obtain ⟨cs', hc⟩ := h.1.1.block hk'
    rw [Option.some.inj e, hq] at hc
    simp at hc
    exact h1 hc.2
  · refine hk.block k (Array.getElem?_eq_some_iff.1 hb).1 fun e => ?_
    rw [Option.some.inj e, hq] at hb
    simp at hb
    exact h2 hb.2
theorem CpS.push {n : Nat} {w w' : World} {st v' : Value} {M : List Ms} {cur : List Sz} {z : Sz} (h : CpS n w st M cur) (hz : CpR w z) (hn : n ≤ w.heap.size) (hp : PushT seatE 49 w st (cur ++ [z]) v' w') : CpS n w' v' (M ++ [z.1]) (cur ++ [z]) ∧ Below n w w' := by
  obtain ⟨h1, h2⟩ := h.1.push hn hp
  refine ⟨⟨h1, ?_, fun y hy => ?_⟩, h2⟩
  · show List.map _ _ = _
    rw [List.map_append]
    exact congrArg (· ++ [z.1]) h.2.1
  · rw [List.mem_append, List.mem_singleton] at hy
    rcases hy with hy | rfl
    · exact (h.2.2 y hy).grown h.1.1 hp.2.1
    · exact hz.grown h.1.1 hp.2.1
theorem CpS.seats {n : Nat} {w : World} {v : Value} {M : List Ms} {cur : List Sz} (h : CpS n w v M cur) : SeatsV w v cur := ⟨h.1.1.rd, fun z hz => (h.2.2 z hz).rep⟩
theorem rdL_succ (m : Int) (b : List Nat) (n a e : Nat) : (rdL m b (n + 1) a e).1 = (rdL m b n a e).1 ++ [stAt m b (rdL m b n a e).2.1 (rdL m b n a e).2.2] ∧ (rdL m b (n + 1) a e).2.1 = stA m b (rdL m b n a e).2.1 (rdL m b n a e).2.2 ∧ (rdL m b (n + 1) a e).2.2 = stX m b (rdL m b n a e).2.1 (rdL m b n a e).2.2 := ⟨rfl, rfl, rfl⟩
theorem rd_block {w : World} {q : Nat} {l : List Nat} {a b : Nat} (h : Wi.Rd w q l a b) : ∃ cs, w.heap[q]? = some (.cells cs 78 (0, 0)) := by
  obtain ⟨sv, h1, _⟩ := h
  exact ⟨_, h1⟩
/-- What Decode tells. -/
def DecT (b : List Nat) (e : Ending) (w' : World) : Prop := ∃ v c zs', e = .returned (.tuple #[v, .int .i64 c]) ∧ SeatsV w' v zs' ∧ if decOk b then c = 0 ∧ mes zs' = (decX 7 b).1 else c = 5 ∧ zs' = []

set_option maxHeartbeats 8000000 in
theorem dec_of (b : List Nat) (bv : Value) (w : World) (hB : Bn w bv b) (hl : ∀ c ∈ b, c < 256) (hlen : b.length ≤ 140737488355328) : Calls Try.prog 17 #[bv] w fun e w' => DecT b e w' ∧ Below w.heap.size w w' := by
  obtain ⟨T, HT⟩ : ∃ T, Hid (T = DecT b) := ⟨_, rfl⟩
  rw [← HT.out]
  have kR := Wi.read_of _ b bv w hB (Nat.le_refl _) hlen
  have kN := fun q W (h : Wi.Rd W q b 0 0) => Wi.number_m q b 0 0 8 W h hl (by decide)
  have kX := fun q a e W (h : Wi.Rd W q b a e) => next_of q b a e W h hl hlen
  have kD := fun q a e W (h : Wi.Rd W q b a e) => Wi.done_of q b a e W h
  have hn64 : Wi.nuN b 0 0 8 ≤ 8 := nuN_most (m := 8)
  obtain ⟨n0, hn0⟩ : ∃ n0, n0 = Wi.nuN b 0 0 8 := ⟨_, rfl⟩
  obtain ⟨a0, ha0⟩ : ∃ a0, a0 = Wi.nuA b 0 0 8 := ⟨_, rfl⟩
  obtain ⟨e0, he0⟩ : ∃ e0, e0 = Wi.nuE b 0 0 8 := ⟨_, rfl⟩
  have HX : Hid (decX 7 b = rdL 7 b n0 a0 e0) := by show _ = _; rw [hn0, ha0, he0]; rfl
  rw [← hn0, ← ha0, ← he0] at kN
  rw [← hn0] at hn64
  clear hn0 ha0 he0
  obtain ⟨bp, bc, hbv⟩ := hB.shape
  subst hbv
  clear hB
  go_enter Try.func17, Try.ntmps17
  go_wp2_with fail
  refine kR.mono ?_
  rintro e w1 ⟨q, rfl, hq, hR1, hb1⟩
  have k2 := kN q w1 hR1
  clear kR kN
  go_wp2_with fail
  refine k2.mono ?_
  rintro e w2 ⟨rfl, hR2, kp2⟩
  have hb2 : Below w.heap.size w w2 := hb1.trans (kp2.below hq hb1.size)
  have hqN : q < w2.heap.size := hR2.lt
  clear k2 hR1 kp2 hb1
  go_wp2
  obtain ⟨N, hN⟩ : ∃ N, N = w2.heap.size := ⟨_, rfl⟩
  have hNw : w.heap.size ≤ N := by rw [hN]; exact hb2.size
  have hqN' : q < N := by rw [hN]; exact hqN
  have hNz : N ≤ w2.heap.size := Nat.le_of_eq hN
  clear hN hqN
  go_loopg [5, 10] n0 (fun gg s5 s10 wr => ∃ (i : Nat) (st : Value) (cur : List Sz), i + gg = n0 ∧ s10 = .int .i64 (i : Int) ∧ st = s5 ∧ CpS N wr st (rdL 7 b i a0 e0).1 cur ∧ Wi.Rd wr q b (rdL 7 b i a0 e0).2.1 (rdL 7 b i a0 e0).2.2 ∧ Below w.heap.size w wr ∧ N ≤ wr.heap.size)
  case atStart => exact ⟨0, _, [], by simp, rfl, rfl, CpS.nil _ _, hR2, hb2, hNz⟩
  case round =>
    obtain ⟨i, st, cur, hig, rfl, rfl, hO, hR, hb, hNr⟩ := hrel
    clear hR2 hb2 hNz
    by_cases hlt : i < n0
    · have hlti : (i : Int) < (n0 : Int) := by omega
      obtain ⟨s1, s2, s3⟩ := rdL_succ 7 b i a0 e0
      have hLi : cur.length ≤ 1000 := by
        have h9 := congrArg List.length hO.2.1
        rw [List.length_map, rdL_len] at h9
        omega
      have H1 : Hid _ := s1
      have H2 : Hid _ := s2
      have H3 : Hid _ := s3
      clear s1 s2 s3 HX
      generalize (rdL 7 b i a0 e0).1 = LL at *
      generalize (rdL 7 b i a0 e0).2.1 = aa at *
      generalize (rdL 7 b i a0 e0).2.2 = ee at *
      have k3 := kX q aa ee wr hR
      generalize stAt 7 b aa ee = r at *
      obtain ⟨rc, rs, rr⟩ := r
      obtain ⟨csq, hqb⟩ := rd_block hR
      clear kX
      go_wp2_with fail
      refine k3.mono ?_
      rintro e w3 ⟨⟨s, rfl, hCp⟩, hR3, kp3⟩
      obtain ⟨s1, s2, s3⟩ := s
      dsimp only [ev]
      have hO3 := hO.kp kp3 hqb (by decide) (by decide)
      have hb3 : Below w.heap.size w w3 := hb.trans (kp3.below hq hb.size)
      have hN3 : N ≤ w3.heap.size := Nat.le_trans hNr kp3.size
      have hrun : Hid _ := push_seat ((⟨rc, rs, rr⟩ : Ms), s1, s2, s3) hO3.1.1 (by omega)
      dsimp only at hrun
      obtain ⟨sa, sc, hst, -⟩ := hO3.1.1.shape
      clear k3 hO hb hR kp3 hNr hqb
      generalize cur.length = LN at hst
      subst hst
      go_wp2_with (at_builtin; refine wp_by rfl _ _ _ rfl _ _ rfl rfl hrun.out ?_)
      intro v6 w6 hp6
      obtain ⟨hO6, hb6⟩ := hO3.push hCp hN3 hp6
      have hR6 := rd_belowN hR3 hb6 hqN'
      clear hO3 hrun hp6 hR3 hCp
      go_wp2
      go_roundg (gk - 1)
      case measure => omega
      case rel => exact ⟨i + 1, v6, _, by omega, by go_num, rfl, by rw [H1.out]; exact hO6, by rw [H2.out, H3.out]; exact hR6, hb3.trans (hb6.mono hNw), Nat.le_trans hN3 hb6.size⟩
    · have hlti : ¬ (i : Int) < (n0 : Int) := by omega
      obtain rfl : i = n0 := by omega
      rw [← HX.out] at hO hR
      have kD1 := kD q _ _ wr hR
      have hcl : cur.length ≤ 8 := by
        have h9 := congrArg List.length hO.2.1
        rw [List.length_map, HX.out, rdL_len] at h9
        omega
      have HMC : Hid (mes cur = (decX 7 b).1) := hO.2.1
      clear kX kD HX
      obtain ⟨sa, sc, hst, -⟩ := hO.1.1.shape
      cases hd : doneB b with
      | false =>
        have E1 : Hid (∀ W, T (.returned (.tuple #[.slice none 0 0, .int .i64 5])) W) := fun W => by
          rw [HT.out]
          refine ⟨_, _, [], rfl, SeatsV.nil _, ?_⟩
          rw [if_neg (by simp [decOk, hd])]
          exact ⟨rfl, rfl⟩
        obtain ⟨D, hD, hD0⟩ : ∃ D : Nat, D = (if (decX 7 b).2.2 = 0 ∧ (decX 7 b).2.1 < b.length then 5 else (decX 7 b).2.2) ∧ D ≠ 0 := ⟨_, rfl, by
          simp only [doneB, Bool.and_eq_false_iff, decide_eq_false_iff_not, Bool.not_eq_false', decide_eq_true_eq] at hd
          split
          · decide
          · rename_i h9
            rcases hd with h | h
            · exact h
            · intro h8
              exact h9 ⟨h8, h⟩⟩
        rw [← hD] at kD1
        have hDi : ¬ (D : Int) = 0 := by omega
        have hDb : ((D : Int) == 0) = false := by simpa using hDi
        have hDc : ((D : Int) != 0) = true := by simpa using hDi
        clear hD hd HT hO hR HMC hD0
        subst hst
        go_wp2_with fail
        refine kD1.mono ?_
        rintro e w3 ⟨rfl, hb3⟩
        go_wp2
        go_ret2
        exact ⟨E1.out _, hb.trans (hb3.mono hb.size)⟩
      | true =>
        have hD : (if (decX 7 b).2.2 = 0 ∧ (decX 7 b).2.1 < b.length then 5 else (decX 7 b).2.2) = 0 := by
          simp only [doneB, Bool.and_eq_true, decide_eq_true_eq, Bool.not_eq_true', decide_eq_false_iff_not] at hd
          rw [if_neg (fun h => hd.2 h.2)]
          exact hd.1
        rw [hD] at kD1
        have kc := fun W (hW : Below wr.heap.size wr W) => check_of cur st W ((hO.below hW).seats) (by omega)
        rw [HMC.out] at kc
        have HTE : Hid (∀ W, Below wr.heap.size wr W → T (.returned (.tuple #[st, .int .i64 (if mayB (decX 7 b).1 then 0 else 5)])) W ∨ mayB (decX 7 b).1 = false) := fun W hW => by
          cases hm : mayB (decX 7 b).1 with
          | false => exact .inr rfl
          | true =>
            left
            rw [HT.out]
            refine ⟨st, 0, cur, rfl, (hO.below hW).seats, ?_⟩
            rw [if_pos (by simp [decOk, hd, hm])]
            exact ⟨rfl, HMC.out⟩
        cases hm : mayB (decX 7 b).1 with
        | false =>
          have E1 : Hid (∀ W, T (.returned (.tuple #[.slice none 0 0, .int .i64 5])) W) := fun W => by
            rw [HT.out]
            refine ⟨_, _, [], rfl, SeatsV.nil _, ?_⟩
            rw [if_neg (by simp [decOk, hm])]
            exact ⟨rfl, rfl⟩
          rw [hm] at kc
          simp only [Bool.false_eq_true, if_false] at kc
          clear hD hd HT hO hR HMC HTE hm
          subst hst
          go_wp2_with fail
          refine kD1.mono ?_
          rintro e w3 ⟨rfl, hb3⟩
          have kc3 := kc w3 hb3
          clear kD1 kc
          go_wp2_with fail
          refine kc3.mono ?_
          rintro e w4 ⟨rfl, hb4⟩
          go_wp2
          go_ret2
          exact ⟨E1.out _, hb.trans ((keep_step hb3 (Nat.le_refl _) hb4).mono hb.size)⟩
        | true =>
          rw [hm] at kc
          simp only [if_true] at kc
          have E1 : Hid (∀ W, Below wr.heap.size wr W → T (.returned (.tuple #[st, .int .i64 0])) W) := fun W hW => by
            have := HTE.out W hW
            rw [hm] at this
            simpa using this
          clear hD hd HT hO hR HMC HTE hm
          generalize cur.length = LN at hst hcl
          subst hst
          go_wp2_with fail
          refine kD1.mono ?_
          rintro e w3 ⟨rfl, hb3⟩
          have kc3 := kc w3 hb3
          clear kD1 kc
          go_wp2_with fail
          refine kc3.mono ?_
          rintro e w4 ⟨rfl, hb4⟩
          have hb5 := keep_step hb3 (Nat.le_refl _) hb4
          go_wp2
          go_ret2
          exact ⟨E1.out _ hb5, hb.trans (hb5.mono hb.size)⟩
end Go.Proofs.Ytebkfkijlopmoaa

