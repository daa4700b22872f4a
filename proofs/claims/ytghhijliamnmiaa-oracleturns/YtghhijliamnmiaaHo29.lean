import Derived.Test.YtghhijliamnmiaaHo22
import Derived.Test.YtghhijliamnmiaaHo23
import Derived.Test.YtghhijliamnmiaaHo28
import Derived.Deep.RegionHeld3
/- The contracts of Number and Bytes, whole, of the program's reader and of the document's: they tell, and leave, the same. -/
namespace Go.Proofs.Ytghhijliamnmiaa.Wi
open Go.RowKit WireMath
set_option maxRecDepth 100000
set_option linter.unusedSimpArgs false

/-- What Number tells, and leaves. -/
def nuN (l : List Nat) (a b : Nat) (m : Int) : Nat := match rd 10 0 0 (src l a b) with | none => 0 | some x => if (x.1 : Int) ≤ m then x.1 else 0
def nuA (l : List Nat) (a b : Nat) (m : Int) : Nat := match rd 10 0 0 (src l a b) with | none => a | some x => if (x.1 : Int) ≤ m then a + x.2 else a
def nuE (l : List Nat) (a b : Nat) (m : Int) : Nat := match rd 10 0 0 (src l a b) with | none => wb b 5 | some x => if (x.1 : Int) ≤ m then b else wb b 3
theorem nu_none {l : List Nat} {a b : Nat} (m : Int) (h : rd 10 0 0 (src l a b) = none) : nuN l a b m = 0 ∧ nuA l a b m = a ∧ nuE l a b m = wb b 5 := by simp [nuN, nuA, nuE, h]
theorem nu_some {l : List Nat} {a b n k : Nat} {m : Int} (h : rd 10 0 0 (src l a b) = some (n, k)) (hm : (n : Int) ≤ m) : nuN l a b m = n ∧ nuA l a b m = a + k ∧ nuE l a b m = b := by simp [nuN, nuA, nuE, h, hm]
theorem nu_long {l : List Nat} {a b n k : Nat} {m : Int} (h : rd 10 0 0 (src l a b) = some (n, k)) (hm : ¬ (n : Int) ≤ m) : nuN l a b m = 0 ∧ nuA l a b m = a ∧ nuE l a b m = wb b 3 := by simp [nuN, nuA, nuE, h, hm]

theorem wb_ne (b c : Nat) (hc : c ≠ 0) : wb b c ≠ 0 := by unfold wb; split <;> omega

set_option maxHeartbeats 2000000 in
theorem number_m (q : Nat) (l : List Nat) (a b : Nat) (m : Int) (w : World) (h : Rd w q l a b) (hl : ∀ c ∈ l, c < 256) (hm2 : m ≤ 9223372036854775807) :
    Calls Try.prog 26 #[.pointer (some ⟨q, 0, none⟩), .int .i64 m] w fun e w' => e = .returned (.int .i64 (nuN l a b m : Int)) ∧ Rd w' q l (nuA l a b m) (nuE l a b m) ∧ Kp q w w' := by
  have hal : a ≤ l.length := by obtain ⟨_, _, _, h3⟩ := h; exact h3
  have zero : ∀ c, Calls Try.prog 34 #[.pointer (some ⟨q, 0, none⟩), .int .i64 m] w (fun e w' => e = .returned (.tuple #[.int .u64 0, .int .i64 0]) ∧ Rd w' q l a c ∧ Kp q w w') →
      Calls Try.prog 26 #[.pointer (some ⟨q, 0, none⟩), .int .i64 m] w fun e w' => e = .returned (.int .i64 0) ∧ Rd w' q l a c ∧ Kp q w w' := by
    intro c hp
    go_enter Try.func26, Try.ntmps26
    go_wp2_with fail
    refine hp.mono ?_
    rintro e w1 ⟨rfl, h1, k1⟩
    go_wp2_with fail
    refine (skip_of q l a c 0 w1 h1 (by omega)).mono ?_
    rintro e w2 ⟨rfl, h2, k2⟩
    go_wp2
    go_ret
    exact ⟨rfl, h2, k1.trans k2⟩
  cases hrd : rd 10 0 0 (src l a b) with
  | none =>
    obtain ⟨e1, e2, e3⟩ := nu_none m hrd
    rw [e1, e2, e3]
    exact zero _ (peekM_none q l a b m w h hl hrd hm2)
  | some x =>
    obtain ⟨n, k⟩ := x
    by_cases hm : (n : Int) ≤ m
    · obtain ⟨e1, e2, e3⟩ := nu_some hrd hm
      rw [e1, e2, e3]
      obtain ⟨hn, hk0, hk10, hkl⟩ := rd_facts (src_bytes hl) hrd
      obtain ⟨rfl, hal⟩ := src_len hkl hk0
      have hp := peekM_some q l a 0 n k m w h hl hrd hm hm2
      have hn63 : (n : Int) ≤ 9223372036854775807 := by omega
      clear hrd zero e1 e2 e3
      go_enter Try.func26, Try.ntmps26
      go_wp2_with fail
      refine hp.mono ?_
      rintro e w1 ⟨rfl, h1, k1⟩
      go_wp2_with fail
      refine (skip_of q l a 0 k w1 h1 hal).mono ?_
      rintro e w2 ⟨rfl, h2, k2⟩
      go_wp2
      go_ret
      exact ⟨rfl, h2, k1.trans k2⟩
    · obtain ⟨e1, e2, e3⟩ := nu_long hrd hm
      rw [e1, e2, e3]
      exact zero _ (peekM_long q l a b n k m w h hl hrd hm hm2)

theorem Rr.cells {n₀ r : Nat} {l : List Nat} {a b : Nat} {w : World} (h : Rr n₀ w r l a b) : w.cell? ⟨r, 1, none⟩ = some (.int .i64 (a : Int)) ∧ w.cell? ⟨r, 2, none⟩ = some (.int .i64 (b : Int)) ∧ w.frozen? ⟨r, 1, none⟩ = false ∧ a ≤ l.length := by
  obtain ⟨sv, h1, h2, h3, h4⟩ := h
  exact ⟨by rw [cells_of_block h1]; rfl, by rw [cells_of_block h1]; rfl, frozen_of h1 1, h3⟩

set_option maxHeartbeats 2000000 in
theorem rnum_of (n₀ r : Nat) (l : List Nat) (a b : Nat) (m : Int) (w : World) (h : Rr n₀ w r l a b) (hl : ∀ c ∈ l, c < 256) (hm2 : m ≤ 9223372036854775807) :
    Calls Try.prog 30 #[.pointer (some ⟨r, 0, none⟩), .int .i64 m] w fun e w' => e = .returned (.int .i64 (nuN l a b m : Int)) ∧ Rr n₀ w' r l (nuA l a b m) (nuE l a b m) ∧ Kp r w w' := by
  obtain ⟨c1, -, -, hal⟩ := h.cells
  have hu := ruv_of n₀ r l a b w h hl
  cases hrd : rd 10 0 0 (src l a b) with
  | none =>
    obtain ⟨e1, e2, e3⟩ := nu_none m hrd
    obtain ⟨f1, f2, f3⟩ := uv_none hrd
    rw [e1, e2, e3]
    rw [f1, f2, f3] at hu
    have hbad := wb_ne b 5 (by decide)
    generalize wb b 5 = c at *
    clear hrd e1 e2 e3 f1 f2 f3
    have hb2 : ¬ (c : Int) = 0 := by omega
    have hb3 : ((c : Int) != 0) = true := by simp; omega
    go_enter Try.func30, Try.ntmps30
    go_wp2_with fail
    refine hu.mono ?_
    rintro e w1 ⟨rfl, h1, k1⟩
    obtain ⟨d1, d2, -, -⟩ := h1.cells
    go_wp2
    go_ret
    exact ⟨rfl, h1, k1⟩
  | some x =>
    obtain ⟨n, k⟩ := x
    obtain ⟨hn, hk0, hk10, hkl⟩ := rd_facts (src_bytes hl) hrd
    obtain ⟨rfl, hal2⟩ := src_len hkl hk0
    obtain ⟨f1, f2, f3⟩ := uv_some hrd
    rw [f1, f2, f3] at hu
    by_cases hm : (n : Int) ≤ m
    · obtain ⟨e1, e2, e3⟩ := nu_some hrd hm
      rw [e1, e2, e3]
      clear hrd e1 e2 e3 f1 f2 f3
      have hneg : ¬ m < 0 := by omega
      have hneg2 : 0 ≤ m := by omega
      have hn63 : (n : Int) ≤ 9223372036854775807 := by omega
      have q1 : IntKind.u64.wrap m = m := by rw [IntKind.wrap_u64]; omega
      go_enter Try.func30, Try.ntmps30
      go_wp2_with fail
      refine hu.mono ?_
      rintro e w1 ⟨rfl, h1, k1⟩
      obtain ⟨d1, d2, -, -⟩ := h1.cells
      go_wp2
      go_ret
      exact ⟨rfl, h1, k1⟩
    · obtain ⟨e1, e2, e3⟩ := nu_long hrd hm
      rw [e1, e2, e3]
      clear hrd e1 e2 e3 f1 f2 f3
      have hw : ∀ W, Rr n₀ W r l (a + k) 0 → Calls Try.prog 38 #[.pointer (some ⟨r, 0, none⟩), .int .i64 3, .int .i64 (a : Int)] W fun e w' => e = .returned (.tuple #[]) ∧ Rr n₀ w' r l a (wb 0 3) ∧ Kp r W w' := fun W hW => wrong_of n₀ r l (a + k) 0 3 a W hW hal
      by_cases hneg : m < 0
      · clear hm
        go_enter Try.func30, Try.ntmps30
        go_wp2_with fail
        refine hu.mono ?_
        rintro e w1 ⟨rfl, h1, k1⟩
        obtain ⟨d1, d2, -, -⟩ := h1.cells
        go_wp2_with fail
        refine (hw _ h1).mono ?_
        rintro e w2 ⟨rfl, h2, k2⟩
        go_wp2
        go_ret
        exact ⟨rfl, h2, k1.trans k2⟩
      · have hneg2 : 0 ≤ m := by omega
        have q1 : IntKind.u64.wrap m = m := by rw [IntKind.wrap_u64]; omega
        go_enter Try.func30, Try.ntmps30
        go_wp2_with fail
        refine hu.mono ?_
        rintro e w1 ⟨rfl, h1, k1⟩
        obtain ⟨d1, d2, -, -⟩ := h1.cells
        go_wp2_with fail
        refine (hw _ h1).mono ?_
        rintro e w2 ⟨rfl, h2, k2⟩
        go_wp2
        go_ret
        exact ⟨rfl, h2, k1.trans k2⟩
end Go.Proofs.Ytghhijliamnmiaa.Wi

