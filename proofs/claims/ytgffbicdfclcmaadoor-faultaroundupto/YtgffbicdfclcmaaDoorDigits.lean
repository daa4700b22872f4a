/- The contracts of the document's own digits and Plain: a number's digits, a code's text; what lay in memory before stays as it was. -/
import Derived.Test.YtgffbicdfclcmaaDoorErr
import Derived.Test.YtgffbicdfclcmaaDoorBase
import Derived.RangeFuncBox
import Derived.Deep.RegionWith
import Derived.Laws.IdiomStrings
namespace Go.Proofs.YtgffbicdfclcmaaDoor
open Go.RowKit
set_option maxRecDepth 100000
set_option linter.unusedSimpArgs false

theorem toByte (r : Nat) (h : r < 10) : (48 : Int) + (r : Int) = ((UInt8.ofNat (48 + r)).toNat : Int) := by
  rw [UInt8.toNat_ofNat', Nat.mod_eq_of_lt (by omega)]; omega

/-- string([]byte{b}), the slice's row new. -/
theorem str_one (n : Int) (r : Nat) (h : r < 10) (hn : n = 48 + (r : Int)) (w : World) : (convert 58 9 (.slice (some ⟨w.heap.size, 0, none⟩) 1 1)).run Tryd.prog (w.alloc (.cells #[.int .u8 n] 5)) = .ok (.string ⟨#[UInt8.ofNat (48 + r)]⟩) (w.alloc (.cells #[.int .u8 n] 5)) := by
  refine run_convert_bytes_back (P := Tryd.prog) (w.alloc (.cells #[.int .u8 n] 5)) 58 9 5 ⟨w.heap.size, 0, none⟩ 1 [UInt8.ofNat (48 + r)] Tryd.underlying58 Tryd.underlying5 Tryd.underlying9 ?_
  intro j hj
  match j, hj with
  | 0, _ =>
    show (w.alloc (.cells #[.int .u8 n] 5)).cell? ⟨w.heap.size, 0, none⟩ = some (.int .u8 ((UInt8.ofNat (48 + r)).toNat : Int))
    rw [cells_of_block (World.alloc_heap_new w _), ← toByte r h, hn]
    rfl

set_option maxHeartbeats 1000000 in
theorem digits_small (n : Nat) (w : World) (h : n < 10) : Calls Tryd.prog 36 #[.int .i64 (n : Int)] w fun e w' => e = .returned (.string ⟨(dec n).toArray⟩) ∧ Below w.heap.size w w' := by
  rw [dec_lt h]
  have hs := str_one (48 + (n : Int)) n h rfl w
  go_enter Tryd.func36, Tryd.ntmps36
  go_wp2
  go_ret
  exact ⟨ret_string (by simp), (Below.refl _ _).alloc (Nat.le_refl _) _⟩

theorem conv_after (n : Nat) (w w' : World) (hb : Below (w.alloc (.cells #[.int .u8 (48 + (n : Int) % 10)] 5)).drew.heap.size (w.alloc (.cells #[.int .u8 (48 + (n : Int) % 10)] 5)).drew w') :
    (convert 58 9 (.slice (some ⟨w.heap.size, 0, none⟩) 1 1)).run Tryd.prog w' = .ok (.string ⟨#[UInt8.ofNat (48 + n % 10)]⟩) w' := by
  refine run_convert_bytes_back (P := Tryd.prog) w' 58 9 5 ⟨w.heap.size, 0, none⟩ 1 [UInt8.ofNat (48 + n % 10)] Tryd.underlying58 Tryd.underlying5 Tryd.underlying9 ?_
  intro j hj
  match j, hj with
  | 0, _ =>
    show w'.cell? ⟨w.heap.size, 0, none⟩ = some (.int .u8 ((UInt8.ofNat (48 + n % 10)).toNat : Int))
    have h1 : (w.alloc (.cells #[.int .u8 (48 + (n : Int) % 10)] 5)).drew.heap[w.heap.size]? = some (.cells #[.int .u8 (48 + (n : Int) % 10)] 5 (0, 0)) := World.alloc_heap_new w _
    rw [cells_of_block ((hb.block w.heap.size (by show w.heap.size < (w.alloc _).heap.size; simp)).trans h1), ← toByte (n % 10) (by omega)]
    show some _ = some _
    congr 2

set_option maxHeartbeats 2000000 in
theorem digits_of (n : Nat) (hn : n ≤ 9223372036854775807) : ∀ (w : World), Calls Tryd.prog 36 #[.int .i64 (n : Int)] w fun e w' => e = .returned (.string ⟨(dec n).toArray⟩) ∧ Below w.heap.size w w' := by
  induction n using Nat.strongRecOn with
  | _ n ih =>
    intro w
    by_cases h : n < 10
    · exact digits_small n w h
    have hd := dec_length20 (n / 10) (by omega)
    have hi : ∀ W : World, Calls Tryd.prog 36 #[.int .i64 ((n : Int) / 10)] W fun e w' => e = .returned (.string ⟨(dec (n / 10)).toArray⟩) ∧ Below W.heap.size W w' := fun W => by
      have := ih (n / 10) (by omega) (by omega) W
      rwa [Int.natCast_ediv] at this
    have hst : ∀ W : World, (convert 58 9 (.slice (some ⟨W.heap.size, 0, none⟩) 1 1)).run Tryd.prog (W.alloc (.cells #[.int .u8 (48 + (n : Int) % 10)] 5)) = .ok (.string ⟨#[UInt8.ofNat (48 + n % 10)]⟩) (W.alloc (.cells #[.int .u8 (48 + (n : Int) % 10)] 5)) := fun W => str_one _ (n % 10) (by omega) (by omega) W
    have hst2 := conv_after n w _ (Below.refl _ _)
    have hsum : (⟨(dec (n / 10)).toArray⟩ ++ ⟨#[48 + UInt8.ofNat (n % 10)]⟩ : ByteArray) = ⟨(dec n).toArray⟩ := by
      rw [dec_ge h]; simp [ByteArray.ext_iff]
    clear ih
    have q1 : IntKind.i64.wrap ((n : Int) / 10) = (n : Int) / 10 := IntWalk.i64_in _ (by omega)
    have q2 : (n : Int).tmod 10 = (n : Int) % 10 := Int.tmod_eq_emod_of_nonneg (by omega)
    have q3 : IntKind.i64.wrap (48 + (n : Int) % 10) = 48 + (n : Int) % 10 := IntWalk.i64_in _ (by omega)
    have q4 : IntKind.u8.wrap (48 + (n : Int) % 10) = 48 + (n : Int) % 10 := IntWalk.u8_in _ (by omega)
    go_enter Tryd.func36, Tryd.ntmps36
    go_wp2
    go_region_with (go_at_call 36; refine (hi _).mono ?_; rintro e w' ⟨rfl, hb⟩; first | (have hx := conv_after n w w' hb) | skip)
    all_goals go_wp2
    all_goals go_ret
    all_goals refine ⟨ret_string rfl, ?_⟩
    · have hb1 : Below w.heap.size w w' := (Below.drew (Below.refl w.heap.size w)).trans hb
      exact hb1.alloc hb1.size _
    all_goals exact (((Below.refl w.heap.size w).alloc (Nat.le_refl _) _).drew).trans (hb.mono (by show w.heap.size ≤ (w.alloc _).heap.size; simp))

set_option maxHeartbeats 1000000 in
theorem plain_of (n : Int) (w : World) (hn : n ≤ 9223372036854775807) :
    Calls Tryd.prog 24 #[.int .i64 n] w fun e w' => e = .returned (.string ⟨(codeText n).toArray⟩) ∧ Below w.heap.size w w' := by
  have hs : (⟨#[101, 114, 114, 111, 114, 32]⟩ ++ ⟨(dec n.toNat).toArray⟩ : ByteArray) = ⟨(codeText n).toArray⟩ := by
    simp [codeText, ByteArray.ext_iff]
  have hd := dec_length20 n.toNat (by omega)
  by_cases h : n < 0
  · have hD := digits_of 0 (by omega) w
    rw [show n.toNat = 0 by omega] at hs hd
    go_enter Tryd.func24, Tryd.ntmps24
    go_wp2_with (go_at_call 36; refine hD.mono ?_; rintro e w' ⟨rfl, hb⟩)
    go_ret
    exact ⟨ret_string (by first | rfl | exact hs), hb⟩
  · obtain ⟨k, rfl⟩ : ∃ k : Nat, n = k := ⟨n.toNat, by omega⟩
    have hD := digits_of k (by omega) w
    rw [Int.toNat_natCast] at hs hd
    go_enter Tryd.func24, Tryd.ntmps24
    go_wp2_with (go_at_call 36; refine hD.mono ?_; rintro e w' ⟨rfl, hb⟩)
    go_ret
    exact ⟨ret_string (by first | rfl | exact hs), hb⟩
end Go.Proofs.YtgffbicdfclcmaaDoor
