import Derived.Test.YtgfoogeiancecaaGreatDoorHw02
import Derived.Test.YtgfoogeiancecaaGreatDoorHw12
import Derived.Test.YtgfoogeiancecaaGreatDoorHw39
/- The contract of the document's own Name. -/
namespace Go.Proofs.YtgfoogeiancecaaGreatDoor
open Go.RowKit DiskMath
set_option maxRecDepth 100000
set_option linter.unusedSimpArgs false
set_option linter.unusedVariables false

theorem nameL_lt (k n : Nat) : ∀ c ∈ nameL k n, c < 256 := fun c hc => by
  simp only [nameL, List.mem_append, List.mem_replicate] at hc
  rcases hc with (hc | ⟨-, rfl⟩) | hc
  · simp at hc
    omega
  · omega
  · exact digs_lt k n c hc

set_option maxHeartbeats 1000000 in
theorem refName_of (n : Nat) (w : World) (hn : n < 100000000) : Calls Tryz.prog 42 #[.int .i64 (n : Int)] w fun e w' => e = .returned (.string (segName n)) ∧ Below w.heap.size w w' := by
  have kc := fun (w : World) (C : Array Value) (n c : Nat) => Lib.run_convert_bytes_const (P := Tryz.prog) w 32 5 C n c Tryz.underlying32 Tryz.underlying5
  obtain ⟨R, HR⟩ : ∃ R, Hid (R = segName n) := ⟨_, rfl⟩
  rw [← HR.out]
  go_enter Tryz.func42, Tryz.ntmps42
  go_wp2
  obtain ⟨N, HN⟩ : ∃ N, Hid (N = n) := ⟨_, rfl⟩
  rw [← HN.out] at hn ⊢
  go_loopg [0, 4] 8 (fun g s0 s4 wr => ∃ m k, Hid (k + g = 8) ∧ Hid (m = n / 10 ^ k) ∧ m < 100000000 ∧ g ≤ 8 ∧ s0 = .int .i64 (m : Int) ∧ s4 = .int .i64 ((g + 3 : Nat) : Int) ∧ wr.heap[w.heap.size]? = some (.cells (bcells (nameL k n)) 5 (12, 13)) ∧ Below w.heap.size w wr)
  case atStart =>
    refine ⟨n, 0, rfl, by show _ = _; simp, by rw [HN.out] at hn; exact hn, by omega, by rw [HN.out], rfl, ?_, (Below.refl _ _).alloc (Nat.le_refl _) _⟩
    rw [heap_alloc_new]
    rfl
  case round =>
    obtain ⟨m, k, Hk, Hm, hm, hg8, rfl, rfl, hblk, hb⟩ := hrel
    clear kc
    have hlen : (nameL k n).length = 12 := nameL_length (by have := Hk.out; omega)
    by_cases hz : gk = 0
    · subst hz
      have hk8 : k = 8 := by have := Hk.out; omega
      subst hk8
      have hlt : w.heap.size < wr.heap.size := (Array.getElem?_eq_some_iff.1 hblk).1
      have hB : Fr.Bs wr.heap.size wr (.slice (some ⟨w.heap.size, 0, none⟩) (nameL 8 n).length 12) (nameL 8 n) := by
        refine ⟨some ⟨w.heap.size, 0, none⟩, 12, rfl, by omega, by unfold maxLen; omega, (fun h => by cases h), fun _ => ⟨w.heap.size, 0, rfl, hlt, fun j c hj => ?_⟩⟩
        rw [Nat.zero_add]
        exact cells_marked hblk hj
      have hS := Fr.str_of hB (nameL_lt 8 n)
      rw [hlen] at hS
      have hR : Hid (Fr.str (nameL 8 n) = R) := by show _ = _; rw [HR.out]; rfl
      clear Hm hblk hlen hB
      rw [hR.out] at hS
      go_wp2
      go_ret
      exact ⟨rfl, hb⟩
    · have h1 : ¬ ((gk + 3 : Nat) : Int) ≤ 3 := by omega
      obtain ⟨c, hc⟩ : ∃ c, (nameL k n)[gk + 3]? = some c := ⟨_, List.getElem?_eq_getElem (by omega)⟩
      have hcell := cells_marked hblk hc
      have hfz : wr.frozen? ⟨w.heap.size, gk + 3, none⟩ = false := by
        simp [World.frozen?, hblk]
        omega
      have hset : Hid ((wr.setCell ⟨w.heap.size, gk + 3, none⟩ (.int .u8 (48 + (m : Int) % 10))).heap[w.heap.size]? = some (.cells (bcells (nameL (k + 1) n)) 5 (12, 13))) := by
        have e1 : (48 + (m : Int) % 10) = ((48 + n / 10 ^ k % 10 : Nat) : Int) := by
          have := Hm.out
          rw [← this]
          omega
        show _ = _
        rw [e1, set_marked hblk, ← name_step n k (by have := Hk.out; omega), show 11 - k = gk + 3 by have := Hk.out; omega]
      have hb2 : Below w.heap.size w (wr.setCell ⟨w.heap.size, gk + 3, none⟩ (.int .u8 (48 + (m : Int) % 10))) := hb.setCell (Nat.le_refl _) _
      clear hblk hc hlen
      go_wp2
      go_roundg (gk - 1)
      case measure => omega
      case rel => exact ⟨m / 10, k + 1, by have := Hk.out; show _ = _; omega, by show _ = _; rw [Hm.out, Nat.div_div_eq_div_mul, Nat.pow_succ], by omega, by omega, by go_num, by go_num, hset.out, hb2⟩
end Go.Proofs.YtgfoogeiancecaaGreatDoor

