import Derived.Test.YtgfoogeiancecaaGreatDoorHw22
import Derived.Test.YtgfoogeiancecaaGreatDoorHw39
/- The contract of the program's bytesOf: a record's bytes. -/
namespace Go.Proofs.YtgfoogeiancecaaGreatDoor.Fr
open Go.RowKit WireMath CrcMath FrameMath WalMath
set_option maxRecDepth 100000
set_option linter.unusedSimpArgs false
set_option linter.unusedVariables false

set_option maxHeartbeats 4000000 in
theorem recbytes_of (n₀ : Nat) (r : Rec) (v : Value) (w : World) (hT : Tab w) (hB : Bs n₀ w v r.data) (hok : okRec r) (hn₀ : n₀ ≤ w.heap.size) :
    Calls Tryz.prog 44 #[.agg #[.int .u64 (r.index : Int), v]] w fun e w' => ∃ v', e = .returned v' ∧ Own w.heap.size w' v' (recB r) ∧ Below w.heap.size w w' := by
  obtain ⟨ao, cap, rfl, h2, h3, h4, h5⟩ := id hB
  have hb0 := (Below.refl w.heap.size w).alloc (Nat.le_refl _) (.cells #[.int .u64 (r.index : Int), .slice ao r.data.length cap] 44)
  have hbk0 := heap_alloc_new w (.cells #[.int .u64 (r.index : Int), .slice ao r.data.length cap] 44)
  have hsz0 : (w.alloc (.cells #[.int .u64 (r.index : Int), .slice ao r.data.length cap] 44)).heap.size = w.heap.size + 1 := by simp
  have hlen := rec_small hok
  have hby : ∀ c ∈ uv r.index ++ r.data, c < 256 := by
    intro c hc
    rcases List.mem_append.1 hc with hc | hc
    · exact uv_bytes _ c hc
    · exact hok.2.2.2 c hc
  have hu10 := uv_len10 hok.2.1
  have hr4 := hok.2.2.1
  have hS : ∀ w1, Below (w.heap.size + 1) (w.alloc (.cells #[.int .u64 (r.index : Int), .slice ao r.data.length cap] 44)) w1 → w1.cell? ⟨w.heap.size, 0, none⟩ = some (.int .u64 (r.index : Int)) ∧ w1.cell? ⟨w.heap.size, 1, none⟩ = some (.slice ao r.data.length cap) := fun w1 hb => by
    have h := (hb.block w.heap.size (by omega)).trans hbk0
    exact ⟨by rw [cells_of_block h]; rfl, by rw [cells_of_block h]; rfl⟩
  have hBx : ∀ w1, Below (w.heap.size + 1) (w.alloc (.cells #[.int .u64 (r.index : Int), .slice ao r.data.length cap] 44)) w1 → Bs n₀ w1 (.slice ao r.data.length cap) r.data := fun w1 hb => (hB.below (hb0.mono hn₀)).below (hb.mono (by omega))
  have hTx : ∀ w1, Below (w.heap.size + 1) (w.alloc (.cells #[.int .u64 (r.index : Int), .slice ao r.data.length cap] 44)) w1 → Tab w1 := fun w1 hb => (hT.below' hb0 (Nat.le_refl _)).below' hb (by rw [hsz0]; omega)
  have ku : ∀ w1, Below (w.heap.size + 1) (w.alloc (.cells #[.int .u64 (r.index : Int), .slice ao r.data.length cap] 44)) w1 → Calls Tryz.prog 72 #[.slice none 0 0, .int .u64 (r.index : Int)] w1 fun e w' => ∃ v', e = .returned v' ∧ Own w1.heap.size w' v' (uv r.index) ∧ Below w1.heap.size w1 w' := fun w1 hb => by
    have := uvarint_of 0 [] (.slice none 0 0) r.index w1 (Bs.nil _ _) hok.2.1 (by simp)
    simpa using this
  have kp : ∀ w1 v1, Below (w.heap.size + 1) (w.alloc (.cells #[.int .u64 (r.index : Int), .slice ao r.data.length cap] 44)) w1 → Own (w.heap.size + 1) w1 v1 (uv r.index ++ r.data) → Calls Tryz.prog 71 #[.int .u8 1, v1] w1 fun e w' => ∃ v', e = .returned (.tuple #[v', .int .i64 0]) ∧ Own w1.heap.size w' v' (recB r) ∧ Below w1.heap.size w1 w' := fun w1 v1 hb hO => put_of 1 _ w1.heap.size v1 w1 (hTx w1 hb) hO.bs (by omega) hby (Nat.le_refl _) hlen
  generalize recB r = B at *
  clear hB hT hby hok
  go_enter Tryz.func44, Tryz.ntmps44
  go_wp2
  generalize w.alloc (.cells #[.int .u64 (r.index : Int), .slice ao r.data.length cap] 44) = w0 at *
  have hdr : Below (w.heap.size + 1) w0 w0.drew := (Below.refl _ _).drew
  have ku0 := ku _ hdr
  have hszd : w0.drew.heap.size = w.heap.size + 1 := hsz0
  rw [hszd] at ku0
  have y0 := hS _ hdr
  clear ku
  go_region_held3 (fun w' => w'.cell? ⟨w.heap.size, 0, none⟩ = some (.int .u64 (r.index : Int)) ∧ w'.cell? ⟨w.heap.size, 1, none⟩ = some (.slice ao r.data.length cap))
    (first | exact y0 | exact y2 | exact y3 | exact y4 | go_keep)
    (first
      | (go_at_call 72; refine ku0.mono ?_; rintro e w2 ⟨v2, rfl, hO2, hb2⟩; have hb02 := hdr.trans hb2; have y2 := hS _ hb02; have hB2 := hBx _ hb02)
      | (refine step_append_bs (by rfl) _ _ (by rfl) (w.heap.size + 1) _ (uv r.index) (by rfl) hO2 (by have := hb02.size; omega) n₀ _ r.data (by rfl) hB2 (by omega) ?_; intro v3 w3 hO3 hb3; have hb03 := hb02.trans hb3; have y3 := hS _ hb03; have kp3 := kp w3 v3 hb03 hO3)
      | (go_at_call 71; refine kp3.mono ?_; rintro e w4 ⟨v4, rfl, hO4, hb4⟩; have hb04 := hb03.trans (hb4.mono (by have := hb03.size; omega)); have y4 := hS _ hb04))
  have hbf : Below w.heap.size w w4 := hb0.trans (hb04.mono (by omega))
  have hOf := hO4.mono (n₁ := w.heap.size) (by have := hb03.size; omega)
  clear kp kp3 hS hBx hTx y0 y2 y3 y4 hO2 hO3 hO4 ku0
  go_wp2
  go_ret
  exact ⟨_, rfl, hOf, hbf⟩
end Go.Proofs.YtgfoogeiancecaaGreatDoor.Fr

