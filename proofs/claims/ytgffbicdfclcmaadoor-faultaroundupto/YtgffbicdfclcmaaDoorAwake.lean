/- The contract of awake: it answers true, and what lay in memory before stays as it was. -/
import Derived.Test.YtgffbicdfclcmaaDoorText
import Derived.Test.YtgffbicdfclcmaaDoorChain
namespace Go.Proofs.YtgffbicdfclcmaaDoor
open Go.RowKit
set_option maxRecDepth 100000

theorem awakeText : restB true [(⟨#[97]⟩, 4), (⟨#[98]⟩, 9)] none = [97, 32, 40, 101, 114, 114, 111, 114, 32, 52, 41, 58, 32, 98, 32, 40, 101, 114, 114, 111, 114, 32, 57, 41] := by
  have d4 : dec 4 = [52] := dec_lt (by decide)
  have d9 : dec 9 = [57] := dec_lt (by decide)
  simp [restB, codeText, d4, d9]

set_option maxHeartbeats 2000000 in
theorem awake_of (w : World) (hg : Door w) : Calls Tryd.prog 14 #[] w fun e w' => e = .returned (.bool true) ∧ Below w.heap.size w w' := by
  go_enter Tryd.func14, Tryd.ntmps14
  go_wp2_with fail
  have hb1 := (Below.refl w.heap.size w).alloc (Nat.le_refl _) (.cells #[.string ⟨#[97]⟩, .int .i64 4, .string ⟨#[98]⟩, .int .i64 9] 32)
  have hbl : (w.alloc (.cells #[.string ⟨#[97]⟩, .int .i64 4, .string ⟨#[98]⟩, .int .i64 9] 32)).heap[w.heap.size]? = some (.cells #[.string ⟨#[97]⟩, .int .i64 4, .string ⟨#[98]⟩, .int .i64 9] 32 (0, 0)) := World.alloc_heap_new w _
  have hC : Causes (w.alloc (.cells #[.string ⟨#[97]⟩, .int .i64 4, .string ⟨#[98]⟩, .int .i64 9] 32)).heap.size (w.alloc (.cells #[.string ⟨#[97]⟩, .int .i64 4, .string ⟨#[98]⟩, .int .i64 9] 32)) (.slice (some ⟨w.heap.size, 0, none⟩) 2 2) [(⟨#[97]⟩, 4), (⟨#[98]⟩, 9)] :=
    .inr ⟨w.heap.size, 0, 2, rfl, by simp, fun j hj => by
      match j, hj with
      | 0, _ => exact ⟨by rw [cells_of_block hbl]; rfl, by rw [cells_of_block hbl]; rfl⟩
      | 1, _ => exact ⟨by rw [cells_of_block hbl]; rfl, by rw [cells_of_block hbl]; rfl⟩⟩
  refine (chain_of _ _ 2 2 _ (by decide) hC).mono ?_
  rintro e w2 ⟨v, rfl, he, hb⟩
  have hB2 : Below w.heap.size w w2 := hb1.trans (hb.mono (by simp))
  have he' := he
  obtain ⟨b, inner, rfl, _, _⟩ := he'
  have hT := text_of _ none _ w2 (hg.below hB2) he (.inl (by simp)) (by simp) (by simp) (by rw [awakeText]; decide)
  rw [awakeText] at hT
  clear hb1 hbl hC hb
  go_wp2_with (go_at_call 12; refine hT.mono ?_; rintro e w3 ⟨rfl, hb3⟩)
  have he3 := he.below hb3
  have hB3 := hB2.trans (hb3.mono hB2.size)
  have hH := has_of _ _ _ 9 w3 he3
  have hF := first_of _ _ _ w3 (hg.below hB3) he3
  rw [show hasB [(⟨#[97]⟩, 4), (⟨#[98]⟩, 9)] none 9 = true from rfl] at hH
  rw [show firstI [(⟨#[97]⟩, 4), (⟨#[98]⟩, 9)] none = 4 from rfl] at hF
  clear hT he he3 hb3
  refine hH.mono ?_
  rintro e wx ⟨rfl, hwx⟩
  subst hwx
  go_wp2_with (go_at_call 18; refine hF.mono ?_; rintro e w4 ⟨rfl, hb4⟩)
  go_ret
  exact ⟨rfl, hB3.trans (hb4.mono hB3.size)⟩
end Go.Proofs.YtgffbicdfclcmaaDoor
