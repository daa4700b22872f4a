import Derived.Test.YtdcpdcnipmfdjaaGreatDoorR08
import Derived.Test.YtdcpdcnipmfdjaaGreatDoorR26
/- The contract of the document's own ReadNumber. -/
namespace Go.Proofs.YtdcpdcnipmfdjaaGreatDoor.Fr
open Go.RowKit WireMath
set_option maxRecDepth 100000
set_option linter.unusedSimpArgs false

theorem Rr.cells {n₀ r : Nat} {l : List Nat} {a b : Nat} {w : World} (h : Rr n₀ w r l a b) : w.cell? ⟨r, 1, none⟩ = some (.int .i64 (a : Int)) ∧ w.cell? ⟨r, 2, none⟩ = some (.int .i64 (b : Int)) ∧ w.frozen? ⟨r, 1, none⟩ = false ∧ a ≤ l.length := by
  obtain ⟨sv, h1, h2, h3, h4⟩ := h
  exact ⟨by rw [cells_of_block h1]; rfl, by rw [cells_of_block h1]; rfl, frozen_of h1 1, h3⟩

set_option maxHeartbeats 2000000 in
theorem rnum_of (n₀ r : Nat) (l : List Nat) (a b : Nat) (m : Int) (w : World) (h : Rr n₀ w r l a b) (hl : ∀ c ∈ l, c < 256) (hm2 : m ≤ 9223372036854775807) :
    Calls Tryz.prog 79 #[.pointer (some ⟨r, 0, none⟩), .int .i64 m] w fun e w' => e = .returned (.int .i64 (nuN l a b m : Int)) ∧ Rr n₀ w' r l (nuA l a b m) (nuE l a b m) ∧ Kp r w w' := by
  obtain ⟨c1, -, -, hal⟩ := h.cells
  have hu := ruv_of n₀ r l a b w h hl
  cases hrd : rd 10 0 0 (src l a b) with
  | none =>
    obtain ⟨e1, e2, e3⟩ := nu_none m hrd
    obtain ⟨f1, f2, f3⟩ := uv_none hrd
    rw [e1, e2, e3]
    rw [f1, f2, f3] at hu
    have hbad := wb_ne b 5 (by decide)
    generalize wb b 5 = c at *
    clear hrd e1 e2 e3 f1 f2 f3
    have hb2 : ¬ (c : Int) = 0 := by omega
    have hb3 : ((c : Int) != 0) = true := by simp; omega
    go_enter Tryz.func79, Tryz.ntmps79
    go_wp2_with fail
    refine hu.mono ?_
    rintro e w1 ⟨rfl, h1, k1⟩
    obtain ⟨d1, d2, -, -⟩ := h1.cells
    go_wp2
    go_ret
    exact ⟨rfl, h1, k1⟩
  | some x =>
    obtain ⟨n, k⟩ := x
    obtain ⟨hn, hk0, hk10, hkl⟩ := rd_facts (src_bytes hl) hrd
    obtain ⟨rfl, hal2⟩ := src_len hkl hk0
    obtain ⟨f1, f2, f3⟩ := uv_some hrd
    rw [f1, f2, f3] at hu
    by_cases hm : (n : Int) ≤ m
    · obtain ⟨e1, e2, e3⟩ := nu_some hrd hm
      rw [e1, e2, e3]
      clear hrd e1 e2 e3 f1 f2 f3
      have hneg : ¬ m < 0 := by omega
      have hneg2 : 0 ≤ m := by omega
      have hn63 : (n : Int) ≤ 9223372036854775807 := by omega
      have q1 : IntKind.u64.wrap m = m := by rw [IntKind.wrap_u64]; omega
      go_enter Tryz.func79, Tryz.ntmps79
      go_wp2_with fail
      refine hu.mono ?_
      rintro e w1 ⟨rfl, h1, k1⟩
      obtain ⟨d1, d2, -, -⟩ := h1.cells
      go_wp2
      go_ret
      exact ⟨rfl, h1, k1⟩
    · obtain ⟨e1, e2, e3⟩ := nu_long hrd hm
      rw [e1, e2, e3]
      clear hrd e1 e2 e3 f1 f2 f3
      have hw : ∀ W, Rr n₀ W r l (a + k) 0 → Calls Tryz.prog 121 #[.pointer (some ⟨r, 0, none⟩), .int .i64 3, .int .i64 (a : Int)] W fun e w' => e = .returned (.tuple #[]) ∧ Rr n₀ w' r l a (wb 0 3) ∧ Kp r W w' := fun W hW => wrong_of n₀ r l (a + k) 0 3 a W hW hal
      by_cases hneg : m < 0
      · clear hm
        go_enter Tryz.func79, Tryz.ntmps79
        go_wp2_with fail
        refine hu.mono ?_
        rintro e w1 ⟨rfl, h1, k1⟩
        obtain ⟨d1, d2, -, -⟩ := h1.cells
        go_wp2_with fail
        refine (hw _ h1).mono ?_
        rintro e w2 ⟨rfl, h2, k2⟩
        go_wp2
        go_ret
        exact ⟨rfl, h2, k1.trans k2⟩
      · have hneg2 : 0 ≤ m := by omega
        have q1 : IntKind.u64.wrap m = m := by rw [IntKind.wrap_u64]; omega
        go_enter Tryz.func79, Tryz.ntmps79
        go_wp2_with fail
        refine hu.mono ?_
        rintro e w1 ⟨rfl, h1, k1⟩
        obtain ⟨d1, d2, -, -⟩ := h1.cells
        go_wp2_with fail
        refine (hw _ h1).mono ?_
        rintro e w2 ⟨rfl, h2, k2⟩
        go_wp2
        go_ret
        exact ⟨rfl, h2, k1.trans k2⟩
end Go.Proofs.YtdcpdcnipmfdjaaGreatDoor.Fr

