import Derived.Test.YtglbjimpaoikfaaHx20
/- Lists held against each other. -/
namespace Go.Proofs.Ytglbjimpaoikfaa
open Go.RowKit LeaseMath
set_option maxRecDepth 100000
set_option linter.unusedSimpArgs false
set_option linter.unusedVariables false

set_option maxHeartbeats 2000000 in
theorem equali_of (l : List Int) (lv mv : Value) (w : World) (hF : Rd intE w lv l) (hG : Rd intE w mv l) (hlen : l.length ≤ 1000000000000000) : Calls Try.prog 45 #[lv, mv] w fun e w' => e = .returned (.bool true) ∧ Below w.heap.size w w' := by
 have HF : Hid (Rd intE w lv l) := hF
 have HG : Hid (Rd intE w mv l) := hG
 obtain ⟨ao, cap, rfl, -, -⟩ := hF.shape
 obtain ⟨am, cm, rfl, -, -⟩ := hG.shape
 clear hF hG
 go_enter Try.func45, Try.ntmps45
 go_wp2
 go_loopg [13] l.length (fun g s5 wr => ∃ i : Nat, i + g = l.length ∧ s5 = .int .i64 (i : Int) ∧ Below w.heap.size w wr)
 case atStart => exact ⟨0, by simp, rfl, Below.refl _ _⟩
 case round =>
  obtain ⟨i, hig, rfl, hb⟩ := hrel
  by_cases hlt : i < l.length
  ·have hlti : (i : Int) < (l.length : Int) := by omega
   have hx : l[i]? = some l[i] := List.getElem?_eq_getElem hlt
   obtain ⟨x, hxx⟩ : ∃ x, x = l[i] := ⟨_, rfl⟩
   rw [← hxx] at hx
   clear hxx
   obtain ⟨p, off, rfl, c⟩ := rdi_at HF.out hx
   obtain ⟨p', off', rfl, c'⟩ := rdi_at HG.out hx
   have c0 := c wr hb
   have c1 := c' wr hb
   clear c c' HF HG hx
   go_wp2
   go_quiet (fail)
   go_wp2
   go_roundg (gk - 1)
   case measure => omega
   case rel => exact ⟨i + 1, by omega, by go_num, below_drewN hb nq⟩
  ·have hlti : ¬ (i : Int) < (l.length : Int) := by omega
   clear HF HG
   go_wp2
   go_ret
   exact ⟨rfl, hb⟩

set_option maxHeartbeats 2000000 in
theorem equalk_of (l : List K) (lv mv : Value) (w : World) (hF : Rd kyE w lv l) (hG : Rd kyE w mv l) (hlen : l.length ≤ 1000000000000000) : Calls Try.prog 44 #[lv, mv] w fun e w' => e = .returned (.bool true) ∧ Below w.heap.size w w' := by
 have HF : Hid (Rd kyE w lv l) := hF
 have HG : Hid (Rd kyE w mv l) := hG
 obtain ⟨ao, cap, rfl, -, -⟩ := hF.shape
 obtain ⟨am, cm, rfl, -, -⟩ := hG.shape
 clear hF hG
 go_enter Try.func44, Try.ntmps44
 go_wp2
 go_loopg [13] l.length (fun g s5 wr => ∃ i : Nat, i + g = l.length ∧ s5 = .int .i64 (i : Int) ∧ Below w.heap.size w wr)
 case atStart => exact ⟨0, by simp, rfl, Below.refl _ _⟩
 case round =>
  obtain ⟨i, hig, rfl, hb⟩ := hrel
  by_cases hlt : i < l.length
  ·have hlti : (i : Int) < (l.length : Int) := by omega
   have hx : l[i]? = some l[i] := List.getElem?_eq_getElem hlt
   obtain ⟨x, hxx⟩ : ∃ x, x = l[i] := ⟨_, rfl⟩
   rw [← hxx] at hx
   clear hxx
   obtain ⟨p, off, rfl, c⟩ := rds_at HF.out hx
   obtain ⟨p', off', rfl, c'⟩ := rds_at HG.out hx
   have c0 := c wr hb
   have c1 := c' wr hb
   clear c c' HF HG hx
   go_wp2
   go_quiet (fail)
   go_wp2
   go_roundg (gk - 1)
   case measure => omega
   case rel => exact ⟨i + 1, by omega, by go_num, below_drewN hb nq⟩
  ·have hlti : ¬ (i : Int) < (l.length : Int) := by omega
   clear HF HG
   go_wp2
   go_ret
   exact ⟨rfl, hb⟩

set_option maxHeartbeats 2000000 in
theorem texts_of (l : List K) (lv mv : Value) (w : World) (hF : Rd kyE w lv l) (hG : Rd kyE w mv l) (hlen : l.length ≤ 1000000000000000) : Calls Try.prog 42 #[lv, mv] w fun e w' => e = .returned (.bool true) ∧ Below w.heap.size w w' := by
 have HF : Hid (Rd kyE w lv l) := hF
 have HG : Hid (Rd kyE w mv l) := hG
 obtain ⟨ao, cap, rfl, -, -⟩ := hF.shape
 obtain ⟨am, cm, rfl, -, -⟩ := hG.shape
 clear hF hG
 go_enter Try.func42, Try.ntmps42
 go_wp2
 go_loopg [5] l.length (fun g s5 wr => ∃ i : Nat, i + g = l.length ∧ s5 = .int .i64 (i : Int) ∧ Below w.heap.size w wr)
 case atStart => exact ⟨0, by simp, rfl, Below.refl _ _⟩
 case round =>
  obtain ⟨i, hig, rfl, hb⟩ := hrel
  by_cases hlt : i < l.length
  ·have hlti : (i : Int) < (l.length : Int) := by omega
   have hx : l[i]? = some l[i] := List.getElem?_eq_getElem hlt
   obtain ⟨x, hxx⟩ : ∃ x, x = l[i] := ⟨_, rfl⟩
   rw [← hxx] at hx
   clear hxx
   obtain ⟨p, off, rfl, c⟩ := rds_at HF.out hx
   obtain ⟨p', off', rfl, c'⟩ := rds_at HG.out hx
   have c0 := c wr hb
   have c1 := c' wr hb
   clear c c' HF HG hx
   go_wp2
   go_quiet (fail)
   go_wp2
   go_roundg (gk - 1)
   case measure => omega
   case rel => exact ⟨i + 1, by omega, by go_num, below_drewN hb nq⟩
  ·have hlti : ¬ (i : Int) < (l.length : Int) := by omega
   clear HF HG
   go_wp2
   go_ret
   exact ⟨rfl, hb⟩

set_option maxHeartbeats 2000000 in
theorem intsS_of (l : List Int) (lv mv : Value) (w : World) (hF : Rd intE w lv l) (hG : Rd intE w mv l) (hlen : l.length ≤ 1000000000000000) : Calls Try.prog 14 #[lv, mv] w fun e w' => e = .returned (.bool true) ∧ Below w.heap.size w w' := by
 have HF : Hid (Rd intE w lv l) := hF
 have HG : Hid (Rd intE w mv l) := hG
 obtain ⟨ao, cap, rfl, -, -⟩ := hF.shape
 obtain ⟨am, cm, rfl, -, -⟩ := hG.shape
 clear hF hG
 go_enter Try.func14, Try.ntmps14
 go_wp2
 go_loopg [5] l.length (fun g s5 wr => ∃ i : Nat, i + g = l.length ∧ s5 = .int .i64 (i : Int) ∧ Below w.heap.size w wr)
 case atStart => exact ⟨0, by simp, rfl, Below.refl _ _⟩
 case round =>
  obtain ⟨i, hig, rfl, hb⟩ := hrel
  by_cases hlt : i < l.length
  ·have hlti : (i : Int) < (l.length : Int) := by omega
   have hx : l[i]? = some l[i] := List.getElem?_eq_getElem hlt
   obtain ⟨x, hxx⟩ : ∃ x, x = l[i] := ⟨_, rfl⟩
   rw [← hxx] at hx
   clear hxx
   obtain ⟨p, off, rfl, c⟩ := rdi_at HF.out hx
   obtain ⟨p', off', rfl, c'⟩ := rdi_at HG.out hx
   have c0 := c wr hb
   have c1 := c' wr hb
   clear c c' HF HG hx
   go_wp2
   go_quiet (fail)
   go_wp2
   go_roundg (gk - 1)
   case measure => omega
   case rel => exact ⟨i + 1, by omega, by go_num, below_drewN hb nq⟩
  ·have hlti : ¬ (i : Int) < (l.length : Int) := by omega
   clear HF HG
   go_wp2
   go_ret
   exact ⟨rfl, hb⟩

end Go.Proofs.Ytglbjimpaoikfaa

