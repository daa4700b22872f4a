import Derived.Test.YtoipjmjhplkibaaDoorP08
/- The contract of a reader's Number, whole. -/
namespace Go.Proofs.YtoipjmjhplkibaaDoor.Fr
open Go.RowKit WireMath
set_option maxRecDepth 100000
set_option linter.unusedSimpArgs false

/-- What Number tells, and leaves. -/
def nuN (l : List Nat) (a b : Nat) (m : Int) : Nat := match rd 10 0 0 (src l a b) with | none => 0 | some x => if (x.1 : Int) ≤ m then x.1 else 0
def nuA (l : List Nat) (a b : Nat) (m : Int) : Nat := match rd 10 0 0 (src l a b) with | none => a | some x => if (x.1 : Int) ≤ m then a + x.2 else a
def nuE (l : List Nat) (a b : Nat) (m : Int) : Nat := match rd 10 0 0 (src l a b) with | none => wb b 5 | some x => if (x.1 : Int) ≤ m then b else wb b 3
theorem nu_none {l : List Nat} {a b : Nat} (m : Int) (h : rd 10 0 0 (src l a b) = none) : nuN l a b m = 0 ∧ nuA l a b m = a ∧ nuE l a b m = wb b 5 := by simp [nuN, nuA, nuE, h]
theorem nu_some {l : List Nat} {a b n k : Nat} {m : Int} (h : rd 10 0 0 (src l a b) = some (n, k)) (hm : (n : Int) ≤ m) : nuN l a b m = n ∧ nuA l a b m = a + k ∧ nuE l a b m = b := by simp [nuN, nuA, nuE, h, hm]
theorem nu_long {l : List Nat} {a b n k : Nat} {m : Int} (h : rd 10 0 0 (src l a b) = some (n, k)) (hm : ¬ (n : Int) ≤ m) : nuN l a b m = 0 ∧ nuA l a b m = a ∧ nuE l a b m = wb b 3 := by simp [nuN, nuA, nuE, h, hm]

theorem wb_ne (b c : Nat) (hc : c ≠ 0) : wb b c ≠ 0 := by unfold wb; split <;> omega

set_option maxHeartbeats 2000000 in
theorem number_m (q : Nat) (l : List Nat) (a b : Nat) (m : Int) (w : World) (h : Rd w q l a b) (hl : ∀ c ∈ l, c < 256) (hm2 : m ≤ 9223372036854775807) :
    Calls Tryd.prog 67 #[.pointer (some ⟨q, 0, none⟩), .int .i64 m] w fun e w' => e = .returned (.int .i64 (nuN l a b m : Int)) ∧ Rd w' q l (nuA l a b m) (nuE l a b m) ∧ Kp q w w' := by
  have hal : a ≤ l.length := by obtain ⟨_, _, _, h3⟩ := h; exact h3
  have zero : ∀ c, Calls Tryd.prog 88 #[.pointer (some ⟨q, 0, none⟩), .int .i64 m] w (fun e w' => e = .returned (.tuple #[.int .u64 0, .int .i64 0]) ∧ Rd w' q l a c ∧ Kp q w w') →
      Calls Tryd.prog 67 #[.pointer (some ⟨q, 0, none⟩), .int .i64 m] w fun e w' => e = .returned (.int .i64 0) ∧ Rd w' q l a c ∧ Kp q w w' := by
    intro c hp
    go_enter Tryd.func67, Tryd.ntmps67
    go_wp2_with fail
    refine hp.mono ?_
    rintro e w1 ⟨rfl, h1, k1⟩
    go_wp2_with fail
    refine (skip_of q l a c 0 w1 h1 (by omega)).mono ?_
    rintro e w2 ⟨rfl, h2, k2⟩
    go_wp2
    go_ret
    exact ⟨rfl, h2, k1.trans k2⟩
  cases hrd : rd 10 0 0 (src l a b) with
  | none =>
    obtain ⟨e1, e2, e3⟩ := nu_none m hrd
    rw [e1, e2, e3]
    exact zero _ (peekM_none q l a b m w h hl hrd hm2)
  | some x =>
    obtain ⟨n, k⟩ := x
    by_cases hm : (n : Int) ≤ m
    · obtain ⟨e1, e2, e3⟩ := nu_some hrd hm
      rw [e1, e2, e3]
      obtain ⟨hn, hk0, hk10, hkl⟩ := rd_facts (src_bytes hl) hrd
      obtain ⟨rfl, hal⟩ := src_len hkl hk0
      have hp := peekM_some q l a 0 n k m w h hl hrd hm hm2
      have hn63 : (n : Int) ≤ 9223372036854775807 := by omega
      clear hrd zero e1 e2 e3
      go_enter Tryd.func67, Tryd.ntmps67
      go_wp2_with fail
      refine hp.mono ?_
      rintro e w1 ⟨rfl, h1, k1⟩
      go_wp2_with fail
      refine (skip_of q l a 0 k w1 h1 hal).mono ?_
      rintro e w2 ⟨rfl, h2, k2⟩
      go_wp2
      go_ret
      exact ⟨rfl, h2, k1.trans k2⟩
    · obtain ⟨e1, e2, e3⟩ := nu_long hrd hm
      rw [e1, e2, e3]
      exact zero _ (peekM_long q l a b n k m w h hl hrd hm hm2)
end Go.Proofs.YtoipjmjhplkibaaDoor.Fr

