import Derived.Test.YtfpbgfmnjpamlaaGreatHv18
/- The document's Same and SameMarks, where both are alike. -/
namespace Go.Proofs.YtfpbgfmnjpamlaaGreat
open Go.RowKit LeaseMath
set_option maxRecDepth 100000
set_option linter.unusedSimpArgs false
set_option linter.unusedVariables false

set_option maxHeartbeats 4000000 in
theorem sameh_of (zs : List Hd) (zv yv : Value) (w : World) (hZ : Rd holdE w zv zs) (hY : Rd holdE w yv zs) (hlen : zs.length ≤ 4611686018427387904) : Calls Tryz.prog 30 #[zv, yv] w fun e w' => e = .returned (.bool true) ∧ Below w.heap.size w w' := by
 have HZ : Hid (Rd holdE w zv zs) := hZ
 have HY : Hid (Rd holdE w yv zs) := hY
 obtain ⟨za, zc, rfl, -, -⟩ := hZ.shape
 obtain ⟨ya, yc, rfl, -, -⟩ := hY.shape
 clear hZ hY
 go_enter Tryz.func30, Tryz.ntmps30
 go_wp2
 go_loopg [5] zs.length (fun g s wr => ∃ i : Nat, i + g = zs.length ∧ s = .int .i64 (i : Int) ∧ Below w.heap.size w wr)
 case atStart => exact ⟨0, by simp, rfl, Below.refl _ _⟩
 case round =>
  obtain ⟨i, hig, rfl, hb⟩ := hrel
  by_cases hlt : i < zs.length
  ·have hlti : (i : Int) < (zs.length : Int) := by omega
   have hz : zs[i]? = some zs[i] := List.getElem?_eq_getElem hlt
   obtain ⟨z, hzz⟩ : ∃ z, z = zs[i] := ⟨_, rfl⟩
   rw [← hzz] at hz
   clear hzz
   obtain ⟨b, off, rfl, cz⟩ := rdh_at HZ.out hz
   obtain ⟨b2, off2, rfl, cy⟩ := rdh_at HY.out hz
   obtain ⟨c0, c1, c2⟩ := cz wr hb
   obtain ⟨d0, d1, d2⟩ := cy wr hb
   obtain ⟨k, t, u⟩ := z
   dsimp only at *
   clear HZ HY hz cz cy
   go_wp2
   go_quiet (fail)
   have hb2 := below_drewN hb nq
   clear hb c0 c1 c2 d0 d1 d2
   generalize wr.drewN nq = w5 at *
   go_wp2
   go_roundg (gk - 1)
   case measure => omega
   case rel => exact ⟨i + 1, by omega, by go_num, hb2⟩
  ·have hlti : ¬ (i : Int) < (zs.length : Int) := by omega
   clear HZ HY
   go_wp2
   go_ret
   exact ⟨rfl, hb⟩

set_option maxHeartbeats 4000000 in
theorem samem_of (zs : List Mk) (zv yv : Value) (w : World) (hZ : Rd markE w zv zs) (hY : Rd markE w yv zs) (hlen : zs.length ≤ 4611686018427387904) : Calls Tryz.prog 67 #[zv, yv] w fun e w' => e = .returned (.bool true) ∧ Below w.heap.size w w' := by
 have HZ : Hid (Rd markE w zv zs) := hZ
 have HY : Hid (Rd markE w yv zs) := hY
 obtain ⟨za, zc, rfl, -, -⟩ := hZ.shape
 obtain ⟨ya, yc, rfl, -, -⟩ := hY.shape
 clear hZ hY
 go_enter Tryz.func67, Tryz.ntmps67
 go_wp2
 go_loopg [5] zs.length (fun g s wr => ∃ i : Nat, i + g = zs.length ∧ s = .int .i64 (i : Int) ∧ Below w.heap.size w wr)
 case atStart => exact ⟨0, by simp, rfl, Below.refl _ _⟩
 case round =>
  obtain ⟨i, hig, rfl, hb⟩ := hrel
  by_cases hlt : i < zs.length
  ·have hlti : (i : Int) < (zs.length : Int) := by omega
   have hz : zs[i]? = some zs[i] := List.getElem?_eq_getElem hlt
   obtain ⟨z, hzz⟩ : ∃ z, z = zs[i] := ⟨_, rfl⟩
   rw [← hzz] at hz
   clear hzz
   obtain ⟨b, off, rfl, cz⟩ := rdm_at HZ.out hz
   obtain ⟨b2, off2, rfl, cy⟩ := rdm_at HY.out hz
   obtain ⟨c0, c1⟩ := cz wr hb
   obtain ⟨d0, d1⟩ := cy wr hb
   obtain ⟨k, t⟩ := z
   dsimp only at *
   clear HZ HY hz cz cy
   go_wp2
   go_quiet (fail)
   have hb2 := below_drewN hb nq
   clear hb c0 c1 d0 d1
   generalize wr.drewN nq = w5 at *
   go_wp2
   go_roundg (gk - 1)
   case measure => omega
   case rel => exact ⟨i + 1, by omega, by go_num, hb2⟩
  ·have hlti : ¬ (i : Int) < (zs.length : Int) := by omega
   clear HZ HY
   go_wp2
   go_ret
   exact ⟨rfl, hb⟩
end Go.Proofs.YtfpbgfmnjpamlaaGreat

