import Derived.Test.YtoipjmjhplkibaaDoorQ46
import Derived.Test.YtoipjmjhplkibaaDoorQ49
import Derived.Test.YtoipjmjhplkibaaDoorQ16
import Derived.Deep.RegionHeld3
/- The contract of the program's read: the snapshot of bytes. -/
namespace Go.Proofs.YtoipjmjhplkibaaDoor.Fr
open Go.RowKit WireMath CrcMath FrameMath
set_option maxRecDepth 100000
set_option linter.unusedSimpArgs false
set_option linter.unusedVariables false

/-- What reading leaves: what is told, where the bytes lie, and that nothing old has turned. -/
def ReadsT (w : World) (T : Nat × Nat × List Nat × Nat) (e : Ending) (w' : World) : Prop :=
  ∃ a n c, e = .returned (.tuple #[.int .u64 (T.1 : Int), .int .u64 (T.2.1 : Int), .slice a n c, .int .i64 (T.2.2.2 : Int)]) ∧ Bs w'.heap.size w' (.slice a n c) T.2.2.1 ∧ Below w.heap.size w w'

set_option maxHeartbeats 4000000 in
theorem sread_of (n₀ : Nat) (l : List Nat) (v : Value) (w : World) (hT : Tab w) (hB : Bs n₀ w v l) (hl : ∀ c ∈ l, c < 256) (hn₀ : n₀ ≤ w.heap.size) (hlen : l.length ≤ 1000000) :
    Calls Tryd.prog 33 #[v] w (ReadsT w (snTold l)) := by
  obtain ⟨ao, cap, rfl, h2, h3, h4, h5⟩ := id hB
  have kn := next_of n₀ l _ w hT hB hl hn₀
  have fin : ∀ W (T : Nat × Nat × List Nat × Nat) a n c, snTold l = T → Bs W.heap.size W (.slice a n c) T.2.2.1 → Below w.heap.size w W → Hid (ReadsT w (snTold l) (.returned (.tuple #[.int .u64 (T.1 : Int), .int .u64 (T.2.1 : Int), .slice a n c, .int .i64 (T.2.2.2 : Int)])) W) := fun W T a n c h1 h2 h3 => by
    rw [h1]
    exact ⟨a, n, c, rfl, h2, h3⟩
  have bad : ∀ W, snTold l = (0, 0, [], 5) → Below w.heap.size w W → Hid (ReadsT w (snTold l) (.returned (.tuple #[.int .u64 0, .int .u64 0, .slice none 0 0, .int .i64 5])) W) := fun W h1 h2 => fin W (0, 0, [], 5) none 0 0 h1 (Bs.nil _ _) h2
  clear hB hT
  cases hx : next l with
  | error e =>
    have hV : snTold l = (0, 0, [], 5) := by unfold snTold snDec; rw [hx]
    have bd := fun W => bad W hV
    have he : e ≠ 0 := nx_err_ne hx
    rw [hx] at kn
    have hei : ¬ (e : Int) = 0 := by omega
    have hej : ((e : Int) != 0) = true := by simp; omega
    clear fin bad hV
    generalize ReadsT w (snTold l) = T at *
    go_enter Tryd.func33, Tryd.ntmps33
    go_wp2_with fail
    refine kn.mono ?_
    rintro e' w1 ⟨v', rfl, hB', hv', hb1⟩
    have hsh : ∃ a n c, v' = .slice a n c := by
      obtain ⟨a, c, e, -⟩ := id hB'
      exact ⟨a, _, c, e⟩
    obtain ⟨va, vn, vc, rfl⟩ := hsh
    have E := bd w1 hb1
    clear kn hB' hv' bd
    simp only [nxV]
    go_wp2
    (try simp only [Exit.inBlock, Exit.then])
    refine bodyPost_ret (results_tmp4 rfl _ _ _) rfl ?_
    exact E.out
  | ok x =>
    obtain ⟨k, d, n⟩ := x
    have hf := next_ok_facts hx
    have hd : ∀ c ∈ d, c < 256 := fun c hc => hl c (hf.2.2.2 c hc)
    rw [hx] at kn
    by_cases hk : k = 3 ∧ n = l.length
    · obtain ⟨hk2, hnl⟩ := hk
      subst hk2
      have hto : Hid (snTold l = if snE d = 0 ∧ snI d ≠ 0 ∧ d.length - snA d ≤ 32768 then (snI d, snT d, d.drop (snA d), 0) else (0, 0, [], 5)) := by
        show _ = _
        unfold snTold snDec
        rw [hx]
        dsimp only
        rw [if_pos ⟨rfl, hnl⟩, snRd_eq]
        by_cases h : snE d = 0 ∧ snI d ≠ 0 ∧ d.length - snA d ≤ 32768
        · rw [if_pos h, if_pos h]
        · rw [if_neg h, if_neg h]
      have hni : ((n : Int) != (l.length : Int)) = false := by simp; omega
      have hnj : (n : Int) = (l.length : Int) := by omega
      have hdl : d.length ≤ 1000000 := by omega
      have ku : ∀ w2 q, Rd w2 q d 0 0 → Calls Tryd.prog 45 #[.pointer (some ⟨q, 0, none⟩)] w2 fun e w' => e = .returned (.int .u64 (snI d : Int)) ∧ Rd w' q d (uvA d 0 0) (uvE d 0 0) ∧ Kp q w2 w' := fun w2 q hR => uvarint_m q d 0 0 w2 hR hd
      have kt : ∀ w2 q, Rd w2 q d (uvA d 0 0) (uvE d 0 0) → Calls Tryd.prog 45 #[.pointer (some ⟨q, 0, none⟩)] w2 fun e w' => e = .returned (.int .u64 (snT d : Int)) ∧ Rd w' q d (snA d) (snE d) ∧ Kp q w2 w' := fun w2 q hR => uvarint_m q d _ _ w2 hR hd
      have ke : ∀ w2 q, Rd w2 q d (snA d) (snE d) → Calls Tryd.prog 46 #[.pointer (some ⟨q, 0, none⟩)] w2 fun e w' => e = .returned (.int .i64 (snE d : Int)) ∧ w' = w2 := fun w2 q hR => by
        obtain ⟨sv, g1, -, -⟩ := hR
        exact err_of q _ w2 (by rw [cells_of_block g1]; rfl)
      have kl : ∀ w2 q, Rd w2 q d (snA d) (snE d) → Calls Tryd.prog 47 #[.pointer (some ⟨q, 0, none⟩)] w2 fun e w' => e = .returned (.int .i64 ((d.length - snA d : Nat) : Int)) ∧ Below w2.heap.size w2 w' := fun w2 q hR => left_of q d _ _ w2 hR
      have hle : ∀ w2 q, Rd w2 q d (snA d) (snE d) → snA d ≤ d.length := fun w2 q hR => by obtain ⟨_, _, _, h⟩ := hR; exact h
      have hnil : d = [] → snI d = 0 := fun h => by rw [h]; rfl
      generalize snI d = ii at *
      generalize snT d = tt at *
      generalize snA d = a2 at *
      generalize snE d = e2 at *
      generalize uvA d 0 0 = a1 at *
      generalize uvE d 0 0 = e1 at *
      generalize hTd : ReadsT w (snTold l) = T at *
      go_enter Tryd.func33, Tryd.ntmps33
      go_wp2_with fail
      refine kn.mono ?_
      rintro e' w1 ⟨v', rfl, hB', hv', hb1⟩
      have kr := read_of w1.heap.size d v' w1 hB' (Nat.le_refl _) (by omega)
      simp only [nxV]
      have hsh : ∃ a c, v' = .slice a d.length c := by
        obtain ⟨a, c, e, -⟩ := id hB'
        exact ⟨a, c, e⟩
      obtain ⟨va, vc, rfl⟩ := hsh
      have hB1 : Hid (Bs w1.heap.size w1 (.slice va d.length vc) d) := hB'
      clear kn hB' hv'
      go_wp2_with fail
      refine kr.mono ?_
      rintro e' w2 ⟨q, rfl, hq, hR, hb2⟩
      have ku' := ku w2 q hR
      have hq1 : w1.heap.size ≤ q := hq
      clear kr ku
      go_wp2_with fail
      refine ku'.mono ?_
      rintro e' w3 ⟨rfl, hR3, hK3⟩
      have hb13 : Below w1.heap.size w1 w3 := hb2.trans (hK3.below hq1 hb2.size)
      have kt' := kt w3 q hR3
      clear ku' kt hR
      go_wp2_with fail
      refine kt'.mono ?_
      rintro e' w4 ⟨rfl, hR4, hK4⟩
      have hb14 : Below w1.heap.size w1 w4 := hb13.trans (hK4.below hq1 hb13.size)
      have hbw4 := hb1.trans (hb14.mono hb1.size)
      have ha2 := hle w4 q hR4
      have ke' := ke w4 q hR4
      have kl' := kl w4 q hR4
      clear kt' ke hR3 hK3 hK4 hle
      go_wp2_with fail
      refine ke'.mono ?_
      rintro e' w4' ⟨rfl, hw4⟩
      rw [hw4]
      clear hw4 w4' ke'
      by_cases hE0 : e2 = 0
      · subst hE0
        by_cases hi0 : ii = 0
        · have hV : snTold l = (0, 0, [], 5) := by rw [hto.out, if_neg (fun h => h.2.1 hi0)]
          have E := bad w4 hV hbw4
          subst hi0
          clear hto bad fin hV kl kl' hR4 hB1
          go_wp2
          (try simp only [Exit.inBlock, Exit.then])
          refine bodyPost_ret (results_tmp4 rfl _ _ _) rfl ?_
          exact E.out
        · have hii : ¬ (ii : Int) = 0 := by omega
          have hij : ((ii : Int) == 0) = false := by simp; omega
          by_cases hlong : d.length - a2 ≤ 32768
          · have hlg : ¬ (32768 : Int) < ((d.length - a2 : Nat) : Int) := by omega
            have hV : snTold l = (ii, tt, d.drop a2, 0) := by rw [hto.out, if_pos ⟨rfl, hi0, hlong⟩]
            have fi := fun W a n c => fin W (ii, tt, d.drop a2, 0) a n c hV
            clear hto bad fin hV
            go_wp2_with fail
            refine kl'.mono ?_
            rintro e' w5 ⟨rfl, hb5⟩
            have hdr : Below w5.heap.size w5 w5.drew := (Below.refl _ _).drew
            have kl5 := kl w5.drew q ((hR4.below hb5).below hdr)
            have hb15 := hb14.trans (hb5.mono hb14.size)
            have hb15d := hb15.trans (hdr.mono hb15.size)
            have hB5 : ∀ W, Below w1.heap.size w1 W → Hid (Bs W.heap.size W (.slice va d.length vc) d) := fun W hW => (hB1.out.below hW).mono hW.size
            have hlo : (d.length : Int) - ((d.length - a2 : Nat) : Int) = (a2 : Int) := by omega
            have hvc : d.length ≤ vc ∧ vc ≤ maxLen := by
              obtain ⟨a, c, e, g1, g2, -⟩ := hB1.out
              cases e
              exact ⟨g1, g2⟩
            have hvc1 : (vc : Int) ≤ 9223372036854775807 := by have := hvc.2; unfold maxLen at this; omega
            have hvc2 : (a2 : Int) ≤ (vc : Int) := by omega
            have hvc3 : (a2 : Int) ≤ (d.length : Int) := by omega
            have hdm : (d.length : Int) ≤ 1000000 := by omega
            have hvc4 : d.length ≤ vc := hvc.1
            have hvc5 : (d.length : Int) ≤ (vc : Int) := by omega
            have hvc6 : a2 ≤ vc := by omega
            have hsub : d.length - (d.length - a2) = a2 := by omega
            have fi2 : ∀ W v', Bs W.heap.size W v' (d.drop a2) → Below w1.heap.size w1 W → (∃ a n c, v' = .slice a n c) → Hid (T (.returned (.tuple #[.int .u64 (ii : Int), .int .u64 (tt : Int), v', .int .i64 0])) W) := fun W v' h1 h2 ⟨a, n, c, h3⟩ => by
              subst h3
              exact fi W a n c h1 (hb1.trans (h2.mono hb1.size))
            clear kl kl' hR4 fi
            have hne : d ≠ [] := fun h => hi0 (hnil h)
            obtain ⟨bb, off, vc', hsh⟩ := Bs.some hB1.out hne
            simp only [Value.slice.injEq, true_and] at hsh
            obtain ⟨rfl, rfl⟩ := hsh
            have hBd := fun W hW => Bs.drop (hB5 W hW).out a2 ha2
            have hcl : ∃ A, (if vc = a2 then some (⟨bb, off, none⟩ : Addr) else some ⟨bb, off + a2, none⟩) = some A := by split <;> exact ⟨_, rfl⟩
            obtain ⟨A, hcl⟩ := hcl
            rw [hcl] at hBd
            have hlfb : ((d.length - a2 : Nat) : Int) ≤ 1000000 := by omega
            generalize hlf : d.length - a2 = lf at hlo hlong hlg kl5 hsub hlfb hBd ⊢
            have hlfd : lf ≤ d.length := by omega
            have hlfe : (lf : Int) ≤ (d.length : Int) := by omega
            have hww : IntKind.i64.wrap (a2 : Int) = (a2 : Int) := by rw [IntKind.wrap_i64]; omega
            clear hB1 hB5
            go_wp2
            go_region_held (fun _ => True) (first | trivial | go_keep)
              (first | (go_at_call 47; refine kl5.mono ?_; rintro e' w6 ⟨rfl, hb6⟩))
            have hb16 := hb15d.trans (hb6.mono hb15d.size)
            have E := fi2 w6 _ (hBd w6 hb16) hb16 ⟨_, _, _, rfl⟩
            clear fi2 kl5 hBd
            go_wp2
            (try simp only [Exit.inBlock, Exit.then])
            refine bodyPost_ret (results_tmp4 rfl _ _ _) rfl ?_
            exact E.out
          · have hlg : (32768 : Int) < ((d.length - a2 : Nat) : Int) := by omega
            have hV : snTold l = (0, 0, [], 5) := by rw [hto.out, if_neg (fun h => hlong h.2.2)]
            have bd := fun W => bad W hV
            clear hto bad fin hV
            go_wp2_with fail
            refine kl'.mono ?_
            rintro e' w5 ⟨rfl, hb5⟩
            have hb15 := hb14.trans (hb5.mono hb14.size)
            have E := bd w5 (hb1.trans (hb15.mono hb1.size))
            clear kl kl' hR4 bd hB1
            go_wp2
            (try simp only [Exit.inBlock, Exit.then])
            refine bodyPost_ret (results_tmp4 rfl _ _ _) rfl ?_
            exact E.out
      · have hei : ¬ (e2 : Int) = 0 := by omega
        have hej : ((e2 : Int) != 0) = true := by simp; omega
        have hV : snTold l = (0, 0, [], 5) := by rw [hto.out, if_neg (fun h => hE0 h.1)]
        have E := bad w4 hV hbw4
        clear hto bad fin hV kl kl' hR4 hB1
        go_wp2
        (try simp only [Exit.inBlock, Exit.then])
        refine bodyPost_ret (results_tmp4 rfl _ _ _) rfl ?_
        exact E.out
    · have hV : snTold l = (0, 0, [], 5) := by
        unfold snTold snDec
        rw [hx]
        dsimp only
        rw [if_neg hk]
      have bd := fun W => bad W hV
      clear bad fin hV
      generalize ReadsT w (snTold l) = T at *
      have two : k ≠ 3 ∨ (k = 3 ∧ n ≠ l.length) := by
        by_cases h : k = 3
        · exact .inr ⟨h, fun g => hk ⟨h, g⟩⟩
        · exact .inl h
      clear hk
      rcases two with h | ⟨h, g⟩
      · have hki : ¬ (k : Int) = 3 := by omega
        have hkj : ((k : Int) != 3) = true := by simp; omega
        go_enter Tryd.func33, Tryd.ntmps33
        go_wp2_with fail
        refine kn.mono ?_
        rintro e' w1 ⟨v', rfl, hB', hv', hb1⟩
        have hsh : ∃ a n c, v' = .slice a n c := by
          obtain ⟨a, c, e, -⟩ := id hB'
          exact ⟨a, _, c, e⟩
        obtain ⟨va, vn, vc, rfl⟩ := hsh
        have E := bd w1 hb1
        clear kn hB' hv' bd
        simp only [nxV]
        go_wp2
        (try simp only [Exit.inBlock, Exit.then])
        refine bodyPost_ret (results_tmp4 rfl _ _ _) rfl ?_
        exact E.out
      · subst h
        have hni : ¬ (n : Int) = (l.length : Int) := by omega
        have hnj : ((n : Int) != (l.length : Int)) = true := by simp; omega
        go_enter Tryd.func33, Tryd.ntmps33
        go_wp2_with fail
        refine kn.mono ?_
        rintro e' w1 ⟨v', rfl, hB', hv', hb1⟩
        have hsh : ∃ a n c, v' = .slice a n c := by
          obtain ⟨a, c, e, -⟩ := id hB'
          exact ⟨a, _, c, e⟩
        obtain ⟨va, vn, vc, rfl⟩ := hsh
        have E := bd w1 hb1
        clear kn hB' hv' bd
        simp only [nxV]
        go_wp2
        (try simp only [Exit.inBlock, Exit.then])
        refine bodyPost_ret (results_tmp4 rfl _ _ _) rfl ?_
        exact E.out
end Go.Proofs.YtoipjmjhplkibaaDoor.Fr

