import Derived.Test.YtldlimakcdaoaaaHd48
import Derived.Test.YtldlimakcdaoaaaHd49
/- The contract of Decode. -/
namespace Go.Proofs.Ytldlimakcdaoaaa
open Go.RowKit SpanMath ChartMath WireMath
set_option maxRecDepth 100000
set_option linter.unusedSimpArgs false
set_option linter.unusedVariables false

theorem rd_belowN {N q : Nat} {w w' : World} {l : List Nat} {a b : Nat} (h : Wi.Rd w q l a b) (hb : Below N w w') (hq : q < N) : Wi.Rd w' q l a b := by
  obtain ⟨sv, h1, h2, h3⟩ := h
  exact ⟨sv, (hb.block q hq).trans h1, Wi.Bs.below h2 (hb.mono (by omega)), h3⟩
theorem own_kp {N q : Nat} {w w' : World} {v : Value} {l : List Rg} (h : OwnG N w v l) (hk : Wi.Kp q w w') (hq : q < N) : OwnG N w' v l :=
  ⟨h.1.same fun k hk' => hk.block k (h.1.lt hk') (fun e => by have := h.2 k hk'; have := Option.some.inj e; omega), h.2⟩
theorem rdL_succ (b : List Nat) (n a e : Nat) : (rdL b (n + 1) a e).1 = (rdL b n a e).1 ++ [rgAt b (rdL b n a e).2.1 (rdL b n a e).2.2] ∧ (rdL b (n + 1) a e).2.1 = rgA b (rdL b n a e).2.1 (rdL b n a e).2.2 ∧ (rdL b (n + 1) a e).2.2 = rgX b (rdL b n a e).2.1 (rdL b n a e).2.2 := ⟨rfl, rfl, rfl⟩
def doneB (b : List Nat) : Bool := decide ((decX b).2.2 = 0) && !decide ((decX b).2.1 < b.length)
def decOk (b : List Nat) : Bool := doneB b && mayC (decX b).1
/-- What Decode tells. -/
def DecT (b : List Nat) (e : Ending) (w' : World) : Prop := ∃ v c, e = .returned (.tuple #[v, .int .i64 c]) ∧ if decOk b then c = 0 ∧ Rd rgE w' v (decX b).1 else c = 5 ∧ v = .slice none 0 0

set_option maxHeartbeats 8000000 in
theorem dec_of (b : List Nat) (bv : Value) (w : World) (hB : Bn w bv b) (hl : ∀ c ∈ b, c < 256) (hlen : b.length ≤ 140737488355328) : Calls Try.prog 33 #[bv] w fun e w' => DecT b e w' ∧ Below w.heap.size w w' := by
  obtain ⟨T, HT⟩ : ∃ T, Hid (T = DecT b) := ⟨_, rfl⟩
  rw [← HT.out]
  have kR := Wi.read_of _ b bv w hB (Nat.le_refl _) hlen
  have kN := fun q W (h : Wi.Rd W q b 0 0) => Wi.number_m q b 0 0 64 W h hl (by decide)
  have kX := fun q a e W (h : Wi.Rd W q b a e) => next_of q b a e W h hl hlen
  have kD := fun q a e W (h : Wi.Rd W q b a e) => Wi.done_of q b a e W h
  have hn64 : Wi.nuN b 0 0 64 ≤ 64 := nuN_most (m := 64)
  obtain ⟨n0, hn0⟩ : ∃ n0, n0 = Wi.nuN b 0 0 64 := ⟨_, rfl⟩
  obtain ⟨a0, ha0⟩ : ∃ a0, a0 = Wi.nuA b 0 0 64 := ⟨_, rfl⟩
  obtain ⟨e0, he0⟩ : ∃ e0, e0 = Wi.nuE b 0 0 64 := ⟨_, rfl⟩
  have HX : Hid (decX b = rdL b n0 a0 e0) := by show _ = _; rw [hn0, ha0, he0]; rfl
  rw [← hn0, ← ha0, ← he0] at kN
  rw [← hn0] at hn64
  clear hn0 ha0 he0
  obtain ⟨bp, bc, hbv, -⟩ := id hB
  subst hbv
  clear hB
  go_enter Try.func33, Try.ntmps33
  go_wp2_with fail
  refine kR.mono ?_
  rintro e w1 ⟨q, rfl, hq, hR1, hb1⟩
  have k2 := kN q w1 hR1
  clear kR kN
  go_wp2_with fail
  refine k2.mono ?_
  rintro e w2 ⟨rfl, hR2, kp2⟩
  have hb2 : Below w.heap.size w w2 := hb1.trans (kp2.below hq hb1.size)
  have hqN : q < w2.heap.size := hR2.lt
  clear k2 hR1 kp2 hb1
  go_wp2
  obtain ⟨N, hN⟩ : ∃ N, N = w2.heap.size := ⟨_, rfl⟩
  have hNw : w.heap.size ≤ N := by rw [hN]; exact hb2.size
  have hqN' : q < N := by rw [hN]; exact hqN
  have hNz : N ≤ w2.heap.size := Nat.le_of_eq hN
  clear hN hqN
  go_loopg [5, 10] n0 (fun gg s5 s10 wr => ∃ (i : Nat) (st : Value), i + gg = n0 ∧ s10 = .int .i64 (i : Int) ∧ st = s5 ∧ OwnG N wr st (rdL b i a0 e0).1 ∧ Wi.Rd wr q b (rdL b i a0 e0).2.1 (rdL b i a0 e0).2.2 ∧ Below w.heap.size w wr ∧ N ≤ wr.heap.size)
  case atStart => exact ⟨0, _, by simp, rfl, rfl, OwnG.nil _ _, hR2, hb2, hNz⟩
  case round =>
    obtain ⟨i, st, hig, rfl, rfl, hO, hR, hb, hNr⟩ := hrel
    clear hR2 hb2 hNz
    by_cases hlt : i < n0
    · have hlti : (i : Int) < (n0 : Int) := by omega
      obtain ⟨s1, s2, s3⟩ := rdL_succ b i a0 e0
      have hLl := rdL_len (b := b) i a0 e0
      have hLi : (rdL b i a0 e0).1.length ≤ 1000 := by omega
      clear hLl
      have H1 : Hid _ := s1
      have H2 : Hid _ := s2
      have H3 : Hid _ := s3
      clear s1 s2 s3 HX
      generalize (rdL b i a0 e0).1 = LL at *
      generalize (rdL b i a0 e0).2.1 = aa at *
      generalize (rdL b i a0 e0).2.2 = ee at *
      have k3 := kX q aa ee wr hR
      generalize rgAt b aa ee = r at *
      obtain ⟨⟨r1, r2⟩, rg, re⟩ := r
      clear kX
      go_wp2_with fail
      refine k3.mono ?_
      rintro e w3 ⟨rfl, hR3, kp3⟩
      have hO3 := own_kp hO kp3 hqN'
      have hb3 : Below w.heap.size w w3 := hb.trans (kp3.below hq hb.size)
      have hN3 : N ≤ w3.heap.size := Nat.le_trans hNr kp3.size
      have hrun : Hid _ := push_rg ((r1, r2), rg, re) hO3.1 (by omega)
      obtain ⟨sa, sc, hst, -⟩ := hO3.1.shape
      clear k3 hO hb hR kp3 hNr
      generalize LL.length = LN at *
      subst hst
      go_wp2_with (at_builtin; refine wp_by rfl _ _ _ rfl _ _ rfl rfl hrun.out ?_)
      intro v6 w6 hp6
      obtain ⟨hO6, hb6⟩ := hO3.push hN3 hp6
      have hR6 := rd_belowN hR3 hb6 hqN'
      clear hO3 hrun hp6 hR3
      go_wp2
      go_roundg (gk - 1)
      case measure => omega
      case rel => exact ⟨i + 1, v6, by omega, by go_num, rfl, by rw [H1.out]; exact hO6, by rw [H2.out, H3.out]; exact hR6, hb3.trans (hb6.mono hNw), Nat.le_trans hN3 hb6.size⟩
    · have hlti : ¬ (i : Int) < (n0 : Int) := by omega
      obtain rfl : i = n0 := by omega
      rw [← HX.out] at hO hR
      have kD1 := kD q _ _ wr hR
      have hLn : (decX b).1.length ≤ 64 := by rw [HX.out, rdL_len]; exact hn64
      have HTD : Hid (T = DecT b) := HT
      clear kX kD HX HT
      cases hd : doneB b with
      | false =>
        have E1 : Hid (∀ W, T (.returned (.tuple #[.slice none 0 0, .int .i64 5])) W) := fun W => by
          rw [HTD.out]
          refine ⟨_, _, rfl, ?_⟩
          rw [if_neg (by unfold decOk; rw [hd]; simp)]
          exact ⟨rfl, rfl⟩
        have hne : (if (decX b).2.2 = 0 ∧ (decX b).2.1 < b.length then 5 else (decX b).2.2 : Nat) ≠ 0 := by
          unfold doneB at hd
          by_cases h1 : (decX b).2.2 = 0
          · rw [h1] at hd
            simp at hd
            rw [if_pos ⟨h1, by omega⟩]
            decide
          · rw [if_neg (fun h => h1 h.1)]
            exact h1
        generalize (if (decX b).2.2 = 0 ∧ (decX b).2.1 < b.length then 5 else (decX b).2.2 : Nat) = dc at *
        have hdc : ((dc : Int) == 0) = false := by simp; omega
        clear hd hO hR HTD
        go_wp2_with fail
        refine kD1.mono ?_
        rintro e w3 ⟨rfl, hb3⟩
        go_wp2
        go_ret2
        exact ⟨E1.out _, hb.trans (hb3.mono hb.size)⟩
      | true =>
        have h0 : (if (decX b).2.2 = 0 ∧ (decX b).2.1 < b.length then 5 else (decX b).2.2 : Nat) = 0 := by
          unfold doneB at hd
          simp only [Bool.and_eq_true, decide_eq_true_eq, Bool.not_eq_true', decide_eq_false_iff_not] at hd
          rw [if_neg (fun h => hd.2 h.2)]
          exact hd.1
        rw [h0] at kD1
        have kC := fun W (hW : Below wr.heap.size wr W) => ccheck_of (decX b).1 st W (hO.below hW).1.rd.cv
        have HM : Hid (decOk b = mayC (decX b).1) := by show _ = _; unfold decOk; rw [hd, Bool.true_and]
        clear hd h0 hR
        cases hm : mayC (decX b).1 with
        | false =>
          rw [hm] at kC HM
          simp only [Bool.false_eq_true, if_false] at kC
          have E1 : Hid (∀ W, T (.returned (.tuple #[.slice none 0 0, .int .i64 5])) W) := fun W => by
            rw [HTD.out]
            refine ⟨_, _, rfl, ?_⟩
            rw [HM.out]
            exact ⟨rfl, rfl⟩
          clear HTD hm HM hO
          go_wp2_with fail
          refine kD1.mono ?_
          rintro e w3 ⟨rfl, hb3⟩
          have kC1 := kC w3 hb3
          clear kC kD1
          go_wp2_with fail
          refine kC1.mono ?_
          rintro e w4 ⟨rfl, hb4⟩
          have hb5 := hb.trans ((hb3.trans (hb4.mono hb3.size)).mono hb.size)
          go_wp2
          go_ret2
          exact ⟨E1.out _, hb5⟩
        | true =>
          rw [hm] at kC HM
          simp only [if_true] at kC
          have E1 : Hid (∀ W, Below wr.heap.size wr W → T (.returned (.tuple #[st, .int .i64 0])) W) := fun W hW => by
            rw [HTD.out]
            refine ⟨_, _, rfl, ?_⟩
            rw [HM.out]
            exact ⟨rfl, (hO.below hW).1.rd⟩
          clear HTD hm HM hO
          go_wp2_with fail
          refine kD1.mono ?_
          rintro e w3 ⟨rfl, hb3⟩
          have kC1 := kC w3 hb3
          clear kC kD1
          go_wp2_with fail
          refine kC1.mono ?_
          rintro e w4 ⟨rfl, hb4⟩
          have hb34 := hb3.trans (hb4.mono hb3.size)
          have hb5 := hb.trans (hb34.mono hb.size)
          have E2 := E1.out w4 hb34
          have E3 : Hid _ := E2
          clear E1 E2
          go_wp2
          go_ret2
          exact ⟨E3.out, hb5⟩
end Go.Proofs.Ytldlimakcdaoaaa

