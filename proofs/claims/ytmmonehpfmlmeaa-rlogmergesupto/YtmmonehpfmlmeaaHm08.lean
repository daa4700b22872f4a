import Derived.Test.YtmmonehpfmlmeaaHm07
/- The contracts of the document's In, Count, Ints, Differ. -/
namespace Go.Proofs.Ytmmonehpfmlmeaa
open Go.RowKit QuorumMath
set_option maxRecDepth 100000
set_option linter.unusedSimpArgs false
set_option linter.unusedVariables false

theorem below_dN {n : Nat} {w w' : World} (h : Below n w w') (k : Nat) : Below n w (w'.drewN k) := below_drewN h k
set_option maxHeartbeats 1000000 in
/-- Lists that are alike. -/
theorem ints_of (l : List Int) (lv mv : Value) (w : World) (hF : Rd intE w lv l) (hG : Rd intE w mv l) (hlen : l.length ≤ 1000000000000000) : Calls Try.prog 21 #[lv, mv] w fun e w' => e = .returned (.bool true) ∧ Below w.heap.size w w' := by
  obtain ⟨ao, cap, rfl, -, -⟩ := hF.shape
  obtain ⟨am, cm, rfl, -, -⟩ := hG.shape
  go_enter Try.func21, Try.ntmps21
  go_wp2
  go_loopg [5] l.length (fun g s5 wr => ∃ i : Nat, i + g = l.length ∧ s5 = .int .i64 (i : Int) ∧ Below w.heap.size w wr)
  case atStart => exact ⟨0, by simp, rfl, Below.refl _ _⟩
  case round =>
    obtain ⟨i, hig, rfl, hb⟩ := hrel
    by_cases hlt : i < l.length
    · have hlti : (i : Int) < (l.length : Int) := by omega
      have hx : l[i]? = some l[i] := List.getElem?_eq_getElem hlt
      obtain ⟨x, hxx⟩ : ∃ x, x = l[i] := ⟨_, rfl⟩
      rw [← hxx] at hx
      clear hxx
      obtain ⟨b, off, rfl, c⟩ := rdi_at hF hx
      obtain ⟨b', off', rfl, c'⟩ := rdi_at hG hx
      have c0 := c wr hb
      have c1 := c' wr hb
      clear hx c c' hF hG
      go_wp2
      go_quiet (fail)
      go_wp2
      go_roundg (gk - 1)
      case measure => omega
      case rel => exact ⟨i + 1, by omega, by go_num, below_dN hb nq⟩
    · have hlti : ¬ (i : Int) < (l.length : Int) := by omega
      clear hF hG
      go_wp2
      go_ret
      exact ⟨rfl, hb⟩
end Go.Proofs.Ytmmonehpfmlmeaa

