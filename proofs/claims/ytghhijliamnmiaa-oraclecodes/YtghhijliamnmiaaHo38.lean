import Derived.Test.YtghhijliamnmiaaHo37
import Derived.Test.YtghhijliamnmiaaHo12
/- The law OracleDecodes answers true. -/
namespace Go.Proofs.Ytghhijliamnmiaa
open Go.RowKit OracleMath WireMath
set_option maxRecDepth 100000
set_option linter.unusedSimpArgs false
set_option linter.unusedVariables false

theorem bn_below {w W : World} {v : Value} {l : List Nat} (h : Bn w v l) (hb : Below w.heap.size w W) : Bn W v l := (Wi.Bs.below h hb).mono hb.size
set_option maxHeartbeats 8000000 in
theorem decodes_law (b : List Nat) (bv : Value) (w : World) (hB : Bn w bv b) (hl : ∀ c ∈ b, c < 256) : Calls Try.prog 5 #[bv] w fun e w' => e = .returned (.bool true) ∧ Below w.heap.size w w' := by
  obtain ⟨bp, bc, rfl⟩ : ∃ a c, bv = .slice a b.length c := by obtain ⟨a, c, h, _⟩ := hB; exact ⟨a, c, h⟩
  by_cases hbig : 100 < b.length
  · have hi : (100 : Int) < (b.length : Int) := by omega
    have kW := awake_of w
    clear hB hl hbig
    go_enter Try.func5, Try.ntmps5
    go_wp2_with fail
    refine kW.mono ?_
    rintro e w1 ⟨rfl, hb1⟩
    go_wp2
    go_ret
    exact ⟨rfl, hb1⟩
  · have hi : ¬ (100 : Int) < (b.length : Int) := by omega
    have hlen : b.length ≤ 140737488355328 := by omega
    obtain ⟨q1, q2, q3⟩ := one_box w (.cells #[] 5)
    have hO0 : Wi.Own w.heap.size (w.alloc (.cells #[] 5)) (.slice (some ⟨w.heap.size, 0, none⟩) 0 0) [] := ⟨by simp [Wi.bc], .inr ⟨w.heap.size, 0, #[], rfl, Nat.le_refl _, q2, Nat.le_refl _, by unfold maxLen; omega, rfl, by simp [Wi.bc]⟩⟩
    have hrun : Hid _ := app_run hO0 q3.size (Wi.Bs.below hB q3) (by simp; omega)
    obtain ⟨C, O, R, hCO, kD, kR⟩ : ∃ (C : Int) (O : Bool) (R : Wn), ((C = 0 ∧ O = true) ∨ (C = 5 ∧ O = false)) ∧
        Hid (∀ v W, Bn W v b → Calls Try.prog 19 #[v] W fun e w' => e = .returned (.tuple #[wv R, .int .i64 C]) ∧ Below W.heap.size W w') ∧
        Hid (∀ W, Below w.heap.size w W → Calls Try.prog 21 #[.slice bp b.length bc] W fun e w' => e = .returned (.tuple #[wv R, .bool O]) ∧ Below W.heap.size W w') :=
      ⟨if decOk b then 0 else 5, decOk b, decV b, by cases decOk b <;> simp, fun v W h => dec_of b v W h hl hlen, fun W hW => rdec_of b _ W (bn_below hB hW) hl⟩
    obtain ⟨n, l, s⟩ := R
    dsimp only [wv] at *
    clear q1 q2 hO0 hlen hbig hB hl
    rcases hCO with ⟨rfl, rfl⟩ | ⟨rfl, rfl⟩
    · go_enter Try.func5, Try.ntmps5
      go_wp2_with (at_builtin; refine wp_by rfl _ _ _ rfl _ _ rfl rfl hrun.out ?_)
      intro v1 w1 hp1
      obtain ⟨hO1, hb1'⟩ := hp1
      have hb1 := q3.trans hb1'
      have hB1 : Bn w1 v1 b := hO1.bs
      have k1 := kD.out v1 w1 hB1
      clear hrun kD hO1 hB1 q3 hb1'
      go_wp2_with fail
      refine k1.mono ?_
      rintro e w2 ⟨rfl, hb2'⟩
      have hb2 := keep_step hb1 (Nat.le_refl _) hb2'
      obtain ⟨t0, n0, B0⟩ := one_box w2 (.cells #[.int .u64 (n : Int), .int .u64 (l : Int), .bool s] 24)
      have hb3 := keep_step hb2 (Nat.le_refl _) B0
      have k2 := kR.out _ hb3
      obtain ⟨g0, hg0⟩ : ∃ g0, g0 = w2.heap.size := ⟨_, rfl⟩
      rw [← hg0] at n0
      clear k1 kR hb1 hb2 hb2' B0 t0
      go_wp2_with fail
      rw [← hg0]
      clear hg0
      generalize w2.alloc (.cells #[.int .u64 (n : Int), .int .u64 (l : Int), .bool s] 24) = W2 at *
      refine k2.mono ?_
      rintro e w3 ⟨rfl, hb4'⟩
      have n1 := (hb4'.block g0 (Array.getElem?_eq_some_iff.1 n0).1).trans n0
      have hb4 := keep_step hb3 (Nat.le_refl _) hb4'
      obtain ⟨t1, n2, B1⟩ := one_box w3 (.cells #[.int .u64 (n : Int), .int .u64 (l : Int), .bool s] 24)
      have n3 := (B1.block g0 (Array.getElem?_eq_some_iff.1 n1).1).trans n1
      have hb5 := keep_step hb4 (Nat.le_refl _) B1
      obtain ⟨-, c0, c1, c2⟩ := h_cells n3
      obtain ⟨-, d0, d1, d2⟩ := h_cells n2
      have kW := awake_of (w3.alloc (.cells #[.int .u64 (n : Int), .int .u64 (l : Int), .bool s] 24))
      clear k2 n0 n1 n2 n3 hb3 hb4 hb4' B1
      go_wp2_with fail
      refine kW.mono ?_
      rintro e w5 ⟨rfl, hb6⟩
      have hb7 := keep_step hb5 (Nat.le_refl _) hb6
      clear c0 c1 c2 d0 d1 d2 hb5 hb6 kW t1
      go_wp2
      go_ret
      exact ⟨rfl, hb7⟩
    · go_enter Try.func5, Try.ntmps5
      go_wp2_with (at_builtin; refine wp_by rfl _ _ _ rfl _ _ rfl rfl hrun.out ?_)
      intro v1 w1 hp1
      obtain ⟨hO1, hb1'⟩ := hp1
      have hb1 := q3.trans hb1'
      have hB1 : Bn w1 v1 b := hO1.bs
      have k1 := kD.out v1 w1 hB1
      clear hrun kD hO1 hB1 q3 hb1'
      go_wp2_with fail
      refine k1.mono ?_
      rintro e w2 ⟨rfl, hb2'⟩
      have hb2 := keep_step hb1 (Nat.le_refl _) hb2'
      obtain ⟨t0, n0, B0⟩ := one_box w2 (.cells #[.int .u64 (n : Int), .int .u64 (l : Int), .bool s] 24)
      have hb3 := keep_step hb2 (Nat.le_refl _) B0
      have k2 := kR.out _ hb3
      obtain ⟨g0, hg0⟩ : ∃ g0, g0 = w2.heap.size := ⟨_, rfl⟩
      rw [← hg0] at n0
      clear k1 kR hb1 hb2 hb2' B0 t0
      go_wp2_with fail
      rw [← hg0]
      clear hg0
      generalize w2.alloc (.cells #[.int .u64 (n : Int), .int .u64 (l : Int), .bool s] 24) = W2 at *
      refine k2.mono ?_
      rintro e w3 ⟨rfl, hb4'⟩
      have n1 := (hb4'.block g0 (Array.getElem?_eq_some_iff.1 n0).1).trans n0
      have hb4 := keep_step hb3 (Nat.le_refl _) hb4'
      obtain ⟨t1, n2, B1⟩ := one_box w3 (.cells #[.int .u64 (n : Int), .int .u64 (l : Int), .bool s] 24)
      have n3 := (B1.block g0 (Array.getElem?_eq_some_iff.1 n1).1).trans n1
      have hb5 := keep_step hb4 (Nat.le_refl _) B1
      obtain ⟨-, c0, c1, c2⟩ := h_cells n3
      obtain ⟨-, d0, d1, d2⟩ := h_cells n2
      have kW := awake_of (w3.alloc (.cells #[.int .u64 (n : Int), .int .u64 (l : Int), .bool s] 24))
      clear k2 n0 n1 n2 n3 hb3 hb4 hb4' B1
      go_wp2_with fail
      refine kW.mono ?_
      rintro e w5 ⟨rfl, hb6⟩
      have hb7 := keep_step hb5 (Nat.le_refl _) hb6
      clear c0 c1 c2 d0 d1 d2 hb5 hb6 kW t1
      go_wp2
      go_ret
      exact ⟨rfl, hb7⟩
end Go.Proofs.Ytghhijliamnmiaa

