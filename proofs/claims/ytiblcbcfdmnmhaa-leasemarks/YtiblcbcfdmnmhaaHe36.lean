import Derived.Test.YtiblcbcfdmnmhaaHe35
/- The document's Mark. -/
namespace Go.Proofs.Ytiblcbcfdmnmhaa
open Go.RowKit LeaseMath
set_option maxRecDepth 100000
set_option linter.unusedSimpArgs false
set_option linter.unusedVariables false

set_option maxHeartbeats 2000000 in
theorem rmark_of (zs : List Mk) (lv : Value) (c : K) (t : Nat) (K : Nat) (w : World) (hL : Rd markE w lv zs) (hS : mayB markB zs = true → Plc zs c K) : Calls Try.prog 20 #[lv, .string (bk c), .int .u64 (t : Int)] w fun e w' => PutT markE 61 w.heap.size (markM zs K c t) e w' ∧ Below w.heap.size w w' := by
  obtain ⟨ao, cap, rfl, -, -⟩ := hL.shape
  cases hm : mayB markB zs with
  | true =>
    cases ho : markB (c, t) with
    | true =>
      rcases Nat.lt_or_ge t (lastM zs c) with h | h
      · exact rmark_up zs ao cap c t K w hL hm ho (hS hm) h
      · exact rmark_low zs ao cap c t K w hL hm ho (hS hm) h
    | false =>
      obtain ⟨T, HT⟩ : ∃ T, Hid (T = PutT markE 61 w.heap.size (markM zs K c t)) := ⟨_, rfl⟩
      rw [← HT.out]
      have E : Hid (∀ W, T (.returned (.tuple #[.slice none 0 0, .int .i64 1])) W) := fun W => by
        rw [HT.out, show markM zs K c t = ([], 1) by unfold markM; rw [hm, ho]; rfl]
        exact ⟨_, rfl, Ow.nil _ _ _ _⟩
      have kc := rmarks_of zs _ w hL
      rw [hm] at kc
      clear HT hL hS hm
      by_cases h1 : c.length ≤ 64
      · have h1i : ¬ (64 : Int) < (c.length : Int) := by omega
        have h1d : decide ((64 : Int) < (c.length : Int)) = false := decide_eq_false h1i
        have h2 : t = 0 := by
          by_cases h2 : t = 0
          · exact h2
          · rw [mark_iff.2 ⟨h1, h2⟩] at ho; cases ho
        subst h2
        clear ho h1
        go_enter Try.func20, Try.ntmps20
        go_wp2_with fail
        refine kc.mono ?_
        rintro e w1 ⟨rfl, hb1⟩
        clear kc
        go_wp2
        go_ret2
        exact ⟨E.out _, hb1⟩
      · have h1i : (64 : Int) < (c.length : Int) := by omega
        have h1d : decide ((64 : Int) < (c.length : Int)) = true := decide_eq_true h1i
        clear ho h1
        go_enter Try.func20, Try.ntmps20
        go_wp2_with fail
        refine kc.mono ?_
        rintro e w1 ⟨rfl, hb1⟩
        clear kc
        go_wp2
        go_ret2
        exact ⟨E.out _, hb1⟩
  | false =>
    obtain ⟨T, HT⟩ : ∃ T, Hid (T = PutT markE 61 w.heap.size (markM zs K c t)) := ⟨_, rfl⟩
    rw [← HT.out]
    have E : Hid (∀ W, T (.returned (.tuple #[.slice none 0 0, .int .i64 1])) W) := fun W => by
      rw [HT.out, show markM zs K c t = ([], 1) by unfold markM; rw [hm]; rfl]
      exact ⟨_, rfl, Ow.nil _ _ _ _⟩
    have kc := rmarks_of zs _ w hL
    rw [hm] at kc
    clear HT hL hS hm
    go_enter Try.func20, Try.ntmps20
    go_wp2_with fail
    refine kc.mono ?_
    rintro e w1 ⟨rfl, hb1⟩
    clear kc
    go_wp2
    go_ret2
    exact ⟨E.out _, hb1⟩
end Go.Proofs.Ytiblcbcfdmnmhaa

