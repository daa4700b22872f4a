import Derived.Test.YtebkfkijlopmoaaHs38
/- A reader's next seat. -/
namespace Go.Proofs.Ytebkfkijlopmoaa
open Go.RowKit SessionMath WireMath
set_option maxRecDepth 100000
set_option linter.unusedSimpArgs false
set_option linter.unusedVariables false

theorem kp_far {q Nr : Nat} {w w4 : World} (h : Wi.Kp q w w4) (hN : w.heap.size ≤ Nr) (i : Nat) (v : Value) : Wi.Kp q w (w4.setCell ⟨Nr, i, none⟩ v) := by
  refine ⟨h.os, h.tape, h.output, ?_, fun k hk hne => ?_⟩
  · have := h.size
    simp [World.setCell]
    exact this
  · have h9 := h.block k hk hne
    have hk' : Nr ≠ k := by omega
    rw [← h9]
    simp [World.setCell, Array.getElem?_modify, hk']
set_option maxHeartbeats 8000000 in
theorem next_of (q : Nat) (b : List Nat) (a e : Nat) (w : World) (h : Wi.Rd w q b a e) (hl : ∀ c ∈ b, c < 256) (hlen : b.length ≤ 140737488355328) :
    Calls Try.prog 31 #[.pointer (some ⟨q, 0, none⟩)] w fun e' w' => (∃ s : Sl, e' = .returned (ev (stAt 7 b a e, s)) ∧ CpR w' (stAt 7 b a e, s)) ∧ Wi.Rd w' q b (stA 7 b a e) (stX 7 b a e) ∧ Wi.Kp q w w' := by
  obtain ⟨q1, q2, q3⟩ := one_box w (.cells #[.int .i64 0, .int .u64 0, .slice none 0 0] 49)
  have hql := h.lt
  have kp0 : Wi.Kp q w (w.alloc (.cells #[.int .i64 0, .int .u64 0, .slice none 0 0] 49)) := Wi.Kp.of_below q3
  have k1 := Wi.number_m q b a e 7 _ (h.below q3) hl (by decide)
  have HA : Hid (stAt 7 b a e = ⟨(Wi.nuN b a e 7 : Int), Wi.uvN b (Wi.nuA b a e 7) (Wi.nuE b a e 7), Wi.byL b (Wi.uvA b (Wi.nuA b a e 7) (Wi.nuE b a e 7)) (Wi.uvE b (Wi.nuA b a e 7) (Wi.nuE b a e 7)) 4096⟩) := rfl
  have HB : Hid (stA 7 b a e = Wi.byA b (Wi.uvA b (Wi.nuA b a e 7) (Wi.nuE b a e 7)) (Wi.uvE b (Wi.nuA b a e 7) (Wi.nuE b a e 7)) 4096) := rfl
  have HX : Hid (stX 7 b a e = Wi.byE b (Wi.uvA b (Wi.nuA b a e 7) (Wi.nuE b a e 7)) (Wi.uvE b (Wi.nuA b a e 7) (Wi.nuE b a e 7)) 4096) := rfl
  rw [HA.out, HB.out, HX.out]
  clear HA HB HX
  generalize Wi.nuN b a e 7 = n1 at *
  generalize Wi.nuA b a e 7 = a1 at *
  generalize Wi.nuE b a e 7 = e1 at *
  have kf := fun W (hW : Wi.Rd W q b a1 e1) => Wi.uvarint_m q b a1 e1 W hW hl
  generalize Wi.uvN b a1 e1 = n2 at *
  generalize Wi.uvA b a1 e1 = a2 at *
  generalize Wi.uvE b a1 e1 = e2 at *
  have kg := fun W (hW : Wi.Rd W q b a2 e2) => Wi.bytes_m q b a2 e2 4096 W hW hl (by decide) hlen
  generalize Wi.byA b a2 e2 4096 = a3 at *
  generalize Wi.byE b a2 e2 4096 = e3 at *
  generalize Wi.byL b a2 e2 4096 = s3 at *
  obtain ⟨T, HT⟩ : ∃ T : Ending → World → Prop, Hid (T = fun e' w' => ∃ s : Sl, e' = .returned (ev ((⟨(n1 : Int), n2, s3⟩ : Ms), s)) ∧ CpR w' ((⟨(n1 : Int), n2, s3⟩ : Ms), s)) := ⟨_, rfl⟩
  suffices hS : Calls Try.prog 31 #[.pointer (some ⟨q, 0, none⟩)] w fun e' w' => T e' w' ∧ Wi.Rd w' q b a3 e3 ∧ Wi.Kp q w w' by rw [HT.out] at hS; exact hS
  obtain ⟨Nr, hNr⟩ : ∃ Nr, Nr = w.heap.size := ⟨_, rfl⟩
  have HNr : Hid (Nr = w.heap.size) := hNr
  have hNq : some Nr ≠ some q := fun h => by have := Option.some.inj h; omega
  rw [← hNr] at q2
  clear hNr q1 h
  go_enter Try.func31, Try.ntmps31
  go_wp2_with fail
  rw [← HNr.out]
  generalize w.alloc (.cells #[.int .i64 0, .int .u64 0, .slice none 0 0] 49) = w0 at *
  refine k1.mono ?_
  rintro e' w1 ⟨rfl, hR1, kp1⟩
  have bx1 := (kp1.block Nr (Array.getElem?_eq_some_iff.1 q2).1 (fun h => hNq h)).trans q2
  have k2 := kf w1 hR1
  clear k1 kf q3
  go_wp2_with fail
  refine k2.mono ?_
  rintro e' w2 ⟨rfl, hR2, kp2⟩
  have bx2 := (kp2.block Nr (Array.getElem?_eq_some_iff.1 bx1).1 (fun h => hNq h)).trans bx1
  have k3 := kg w2 hR2
  clear k2 kg
  go_wp2_with fail
  refine k3.mono ?_
  rintro e' w3 ⟨v3, rfl, hO3, hR3, kp3⟩
  have bx3 := (kp3.block Nr (Array.getElem?_eq_some_iff.1 bx2).1 (fun h => hNq h)).trans bx2
  have kpa := ((kp0.trans kp1).trans kp2).trans kp3
  obtain ⟨va, vc, rfl⟩ := hO3.shape
  obtain ⟨⟨f0, f1, f2⟩, z0, z1, z2⟩ := st_cells bx3
  have hNl : w.heap.size ≤ Nr := Nat.le_of_eq HNr.out.symm
  have hqN : q < Nr := by omega
  have HFB := st_set bx3 (.int .i64 (n1 : Int)) (.int .u64 (n2 : Int)) (.slice va s3.length vc)
  have HKP := kp_far (kp_far (kp_far kpa hNl 0 (.int .i64 (n1 : Int))) hNl 1 (.int .u64 (n2 : Int))) hNl 2 (.slice va s3.length vc)
  have HRR := (((hR3.kp (Wi.Kp.set Nr 0 (.int .i64 (n1 : Int)) _) hqN).kp (Wi.Kp.set Nr 1 (.int .u64 (n2 : Int)) _) hqN).kp (Wi.Kp.set Nr 2 (.slice va s3.length vc) _) hqN)
  have HCP : Hid (CpR (((w3.setCell ⟨Nr, 0, none⟩ (.int .i64 (n1 : Int))).setCell ⟨Nr, 1, none⟩ (.int .u64 (n2 : Int))).setCell ⟨Nr, 2, none⟩ (.slice va s3.length vc)) ((⟨(n1 : Int), n2, s3⟩ : Ms), (va, s3.length, vc))) := by
    refine own_same (hO3.mono (Nat.zero_le _)) fun k cs hk hb => ?_
    have hne : Nr ≠ k := fun e => by
      rw [← e, bx3] at hb
      simp at hb
    simp [World.setCell, Array.getElem?_modify, hne]
  clear k3 hO3 kp0 kp1 kp2 kp3 bx1 bx2 q2 hR1 hR2 kpa hR3 bx3
  go_wp2
  (try simp only [Exit.inBlock, Exit.then])
  refine bodyPost_ret (results_seat rfl _ _ Nr _ _ _ rfl HFB) rfl ?_
  exact ⟨by rw [HT.out]; exact ⟨(va, s3.length, vc), rfl, HCP.out⟩, HRR, HKP⟩
end Go.Proofs.Ytebkfkijlopmoaa

