import Derived.Test.YtjkjekhbfjjnjaaHb20
/- The law BagNobody answers true and leaves all memory as it was: the walk. -/
namespace Go.Proofs.Ytjkjekhbfjjnjaa
open Go.RowKit Go.Maps
set_option maxRecDepth 100000
set_option linter.unusedSimpArgs false
set_option linter.unusedVariables false

set_option maxHeartbeats 8000000 in
theorem nobody_law (w : World) (Do A B : Int) (ao : Option Addr) (dn dc : Nat) :
    Calls Try.prog 6 #[.agg #[.int .i64 Do, .int .i64 A, .int .i64 B, .slice ao dn dc]] w fun e w' => e = .returned (.bool true) ∧ Below w.heap.size w w' := by
  have a1 := (Below.refl w.heap.size w).alloc (Nat.le_refl _) (.cells #[.int .i64 Do, .int .i64 A, .int .i64 B, .slice ao dn dc] 33)
  have hnew := heap_alloc_new w (.cells #[.int .i64 Do, .int .i64 A, .int .i64 B, .slice ao dn dc] 33)

  have ka := awake_of
  go_enter Try.func6, Try.ntmps6
  go_wp2
  go_loopg [3] 2 (fun g s3 wr => ∃ k : Nat, k + g = 2 ∧ s3 = .int .i64 (k : Int) ∧ wr.heap[w.heap.size]? = some (.cells #[.int .i64 Do, .int .i64 A, .int .i64 B, .slice ao dn dc] 33 (0, 0)) ∧ Below w.heap.size w wr)
  case atStart => exact ⟨0, rfl, rfl, hnew, a1⟩
  case round =>
    obtain ⟨k, hkg, rfl, hbox, hb⟩ := hrel
    clear hnew a1
    have b1 : wr.cell? ⟨w.heap.size, 1, none⟩ = some (.int .i64 A) := by rw [cells_of_block hbox]; rfl
    have b2 : wr.cell? ⟨w.heap.size, 2, none⟩ = some (.int .i64 B) := by rw [cells_of_block hbox]; rfl
    have b3 : wr.cell? ⟨w.heap.size, 3, none⟩ = some (.slice ao dn dc) := by rw [cells_of_block hbox]; rfl
    have hlt := (Array.getElem?_eq_some_iff.1 hbox).1
    have hk : k = 0 ∨ k = 1 ∨ k = 2 := by omega
    rcases hk with rfl | rfl | rfl
    · have hN : NoBag wr (.pointer none) := .inl rfl
      have c1 := (Below.refl wr.heap.size wr).alloc (Nat.le_refl _) (.cells #[.int .i64 A] 3)
      have HB : Hid _ := (c1.block w.heap.size hlt).trans hbox
      have HW : Hid _ := hb.trans (c1.mono hb.size)
      clear hbox c1 ka

      go_wp2_with (first | (go_at_call 19; refine (part_none hN 1 2).mono ?_; rintro e wq ⟨rfl, hwq⟩; rw [hwq]; clear hwq wq) | (go_at_call 20; refine (heal_none hN).mono ?_; rintro e wq ⟨rfl, hwq⟩; rw [hwq]; clear hwq wq) | (go_at_call 13; refine (look_none hN).mono ?_; rintro e wq ⟨rfl, hwq⟩; rw [hwq]; clear hwq wq) | (go_at_call 15; refine (deliver_none hN).mono ?_; rintro e wq ⟨rfl, hwq⟩; rw [hwq]; clear hwq wq) | (go_at_call 17; refine (post_none hN A B (.slice ao dn dc)).mono ?_; rintro e wq ⟨rfl, hwq⟩; rw [hwq]; clear hwq wq) | (go_at_call 10; refine (len_no hN).mono ?_; rintro e wq ⟨rfl, hwq⟩; rw [hwq]; clear hwq wq) | (go_at_call 18; refine (drop_none hN).mono ?_; rintro e wq ⟨rfl, hwq⟩; rw [hwq]; clear hwq wq) | (go_at_call 16; refine (twice_none hN).mono ?_; rintro e wq ⟨rfl, hwq⟩; rw [hwq]; clear hwq wq) | (go_at_call 11; refine (parted_none hN 1 2).mono ?_; rintro e wq ⟨rfl, hwq⟩; rw [hwq]; clear hwq wq) | (go_at_call 21; refine (clear_none hN A).mono ?_; rintro e wq ⟨rfl, hwq⟩; rw [hwq]; clear hwq wq))
      go_roundg (gk - 1)
      case measure => omega
      case rel => exact ⟨1, by omega, rfl, HB.out, HW.out⟩
    · have c0 := (Below.refl wr.heap.size wr).alloc (Nat.le_refl _) (.cells #[.slice none 0 0, .map none] 49)
      have hN : NoBag (wr.alloc (.cells #[.slice none 0 0, .map none] 49)) (.pointer (some ⟨wr.heap.size, 0, none⟩)) := .inr ⟨_, rfl, heap_alloc_new wr _⟩
      have c1 := c0.alloc c0.size (.cells #[.int .i64 A] 3)
      have HB : Hid _ := (c1.block w.heap.size hlt).trans hbox
      have HW : Hid _ := hb.trans (c1.mono hb.size)
      clear hbox c1 c0 ka

      go_wp2_with (first | (go_at_call 19; refine (part_none hN 1 2).mono ?_; rintro e wq ⟨rfl, hwq⟩; rw [hwq]; clear hwq wq) | (go_at_call 20; refine (heal_none hN).mono ?_; rintro e wq ⟨rfl, hwq⟩; rw [hwq]; clear hwq wq) | (go_at_call 13; refine (look_none hN).mono ?_; rintro e wq ⟨rfl, hwq⟩; rw [hwq]; clear hwq wq) | (go_at_call 15; refine (deliver_none hN).mono ?_; rintro e wq ⟨rfl, hwq⟩; rw [hwq]; clear hwq wq) | (go_at_call 17; refine (post_none hN A B (.slice ao dn dc)).mono ?_; rintro e wq ⟨rfl, hwq⟩; rw [hwq]; clear hwq wq) | (go_at_call 10; refine (len_no hN).mono ?_; rintro e wq ⟨rfl, hwq⟩; rw [hwq]; clear hwq wq) | (go_at_call 18; refine (drop_none hN).mono ?_; rintro e wq ⟨rfl, hwq⟩; rw [hwq]; clear hwq wq) | (go_at_call 16; refine (twice_none hN).mono ?_; rintro e wq ⟨rfl, hwq⟩; rw [hwq]; clear hwq wq) | (go_at_call 11; refine (parted_none hN 1 2).mono ?_; rintro e wq ⟨rfl, hwq⟩; rw [hwq]; clear hwq wq) | (go_at_call 21; refine (clear_none hN A).mono ?_; rintro e wq ⟨rfl, hwq⟩; rw [hwq]; clear hwq wq))
      go_roundg (gk - 1)
      case measure => omega
      case rel => exact ⟨2, by omega, rfl, HB.out, HW.out⟩
    · clear hbox
      go_wp2_with (go_at_call 14; refine (ka _).mono ?_; rintro e wq ⟨rfl, hwq⟩)
      go_ret
      exact ⟨rfl, hb.trans (hwq.mono hb.size)⟩
end Go.Proofs.Ytjkjekhbfjjnjaa

