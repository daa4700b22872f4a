import Derived.Test.YtoipjmjhplkibaaGreatDoorP20
import Derived.Deep.RegionHeld3
/- The contract of the document's own Same, where both are the same files: true; nothing turns but the count of draws. -/
namespace Go.Proofs.YtoipjmjhplkibaaGreatDoor
open Go.RowKit DiskMath
set_option maxRecDepth 100000
set_option linter.unusedSimpArgs false

set_option maxHeartbeats 1000000 in
theorem sameF_of [Keep] (fs : Files) (av bv : Value) (w : World) (hA : Fv w av fs) (hB : Fv w bv fs) (hb : ∀ f ∈ fs, ∀ c ∈ f.data, c < 256) (hlen : fs.length ≤ 1000) :
    Calls Tryz.prog 29 #[av, bv] w fun e w' => e = .returned (.bool true) ∧ Below w.heap.size w w' := by
  obtain ⟨-, aa, ca, rfl, h1⟩ := hA
  obtain ⟨-, ab, cb, rfl, h2⟩ := hB
  go_enter Tryz.func29, Tryz.ntmps29
  go_wp2
  go_loopg [5] fs.length (fun g s5 wr => ∃ i : Nat, i + g = fs.length ∧ s5 = .int .i64 (i : Int) ∧ ∃ k, wr = w.drewN k)
  case atStart => exact ⟨0, by simp, rfl, 0, rfl⟩
  case round =>
    obtain ⟨i, hil, rfl, kd, rfl⟩ := hrel
    by_cases hlt : i < fs.length
    · have hlti : (i : Int) < (fs.length : Int) := by omega
      have hx : fs[i]? = some fs[i] := List.getElem?_eq_getElem hlt
      obtain ⟨ba, oa, sa, rfl, a0, a1, a2, hBa, -⟩ := h1 i fs[i] hx
      obtain ⟨bb, ob, sb, rfl, b0, b1, b2, hBb, -⟩ := h2 i fs[i] hx
      have hbx := hb fs[i] (List.getElem_mem hlt)
      have y1 := fun k => str_of (hBa.drewN k) hbx
      have y2 := fun k => str_of (hBb.drewN k) hbx
      obtain ⟨a5, cap5, rfl, -⟩ := id hBa
      obtain ⟨a6, cap6, rfl, -⟩ := id hBb
      generalize fs[i] = x at *
      clear h1 h2 hb hx
      go_wp2
      go_region_held3 (fun w' => w'.cell? ⟨ba, oa + i * 3, none⟩ = some (.string x.name) ∧ w'.cell? ⟨ba, oa + i * 3 + 1, none⟩ = some (.slice a5 x.data.length cap5) ∧ w'.cell? ⟨ba, oa + i * 3 + 2, none⟩ = some (.int .i64 (x.safe : Int)) ∧ w'.cell? ⟨bb, ob + i * 3, none⟩ = some (.string x.name) ∧ w'.cell? ⟨bb, ob + i * 3 + 1, none⟩ = some (.slice a6 x.data.length cap6) ∧ w'.cell? ⟨bb, ob + i * 3 + 2, none⟩ = some (.int .i64 (x.safe : Int)) ∧
          (convert 32 9 (.slice a5 x.data.length cap5)).run Tryz.prog w' = .ok (.string (str x.data)) w' ∧ (convert 32 9 (.slice a6 x.data.length cap6)).run Tryz.prog w' = .ok (.string (str x.data)) w')
        (exact ⟨a0, a1, a2, b0, b1, b2, y1 (kd + 1), y2 (kd + 1)⟩) (fail)
      go_wp2
      go_roundg (gk - 1)
      case measure => omega
      case rel => exact ⟨i + 1, by omega, by go_num, kd + 1, rfl⟩
    · have hlti : ¬ (i : Int) < (fs.length : Int) := by omega
      go_wp2
      go_ret
      exact ⟨rfl, below_drewN (Below.refl _ _) _⟩
end Go.Proofs.YtoipjmjhplkibaaGreatDoor

