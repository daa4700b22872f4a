import Derived.Test.YtghhijliamnmiaaHo16
/- The contract of a reader's Done. -/
namespace Go.Proofs.Ytghhijliamnmiaa.Wi
open Go.RowKit WireMath
set_option maxRecDepth 100000
set_option linter.unusedSimpArgs false

set_option maxHeartbeats 1000000 in
theorem done_of (q : Nat) (l : List Nat) (a b : Nat) (w : World) (h : Rd w q l a b) :
    Calls Try.prog 27 #[.pointer (some ⟨q, 0, none⟩)] w fun e w' => e = .returned (.int .i64 ((if b = 0 ∧ a < l.length then 5 else b : Nat) : Int)) ∧ Below w.heap.size w w' := by
  have hq := h.lt
  have hL := left_of q l a b w h
  obtain ⟨sv, h1, h2, h3⟩ := id h
  have c2 : w.cell? ⟨q, 2, none⟩ = some (.int .i64 (b : Int)) := by rw [cells_of_block h1]; rfl
  by_cases hb : b = 0
  · subst hb
    by_cases hlt : a < l.length
    · have hp : ¬ ((l.length - a : Nat) : Int) ≤ 0 := by omega
      rw [if_pos ⟨rfl, hlt⟩]
      go_enter Try.func27, Try.ntmps27
      go_wp2_with (go_at_call 35; refine (err_of q 0 _ c2).mono ?_; rintro e wx ⟨rfl, hwx⟩; subst hwx)
      refine hL.mono ?_
      rintro e w1 ⟨rfl, hb1⟩
      go_wp2
      go_ret
      exact ⟨rfl, hb1⟩
    · have hp : ((l.length - a : Nat) : Int) ≤ 0 := by omega
      rw [if_neg (fun h => hlt h.2)]
      go_enter Try.func27, Try.ntmps27
      go_wp2_with (go_at_call 35; refine (err_of q 0 _ c2).mono ?_; rintro e wx ⟨rfl, hwx⟩; subst hwx)
      refine hL.mono ?_
      rintro e w1 ⟨rfl, hb1⟩
      have c2' : w1.cell? ⟨q, 2, none⟩ = some (.int .i64 0) := (hb1.cell (p := ⟨q, 2, none⟩) hq).trans c2
      go_wp2_with fail
      refine (err_of q 0 _ c2').mono ?_
      rintro e wy ⟨rfl, hwy⟩
      subst hwy
      go_wp2
      go_ret
      exact ⟨rfl, hb1⟩
  · rw [if_neg (fun h => hb h.1)]
    have hb' : ((b : Int) == 0) = false := by simp; omega
    have hb2 : ¬ (b : Int) = 0 := by omega
    go_enter Try.func27, Try.ntmps27
    go_wp2_with (go_at_call 35; refine (err_of q b _ c2).mono ?_; rintro e wx ⟨rfl, hwx⟩; subst hwx)
    go_ret
    exact ⟨rfl, Below.refl _ _⟩
end Go.Proofs.Ytghhijliamnmiaa.Wi

