import Derived.Test.YtoipjmjhplkibaaGreatDoorW02
import Derived.Test.YtoipjmjhplkibaaGreatDoorW03
import Derived.Test.YtoipjmjhplkibaaGreatDoorW14
import Derived.Lib.SmallJoins
import Derived.Lib.AtoiErrMem
import Derived.Lib.AppendIntMem
import Derived.Laws.IdiomStrings
/- The contracts of the program's nameOf and numberOf: a segment's name, and its number. -/
namespace Go.Proofs.YtoipjmjhplkibaaGreatDoor
open Go.RowKit DiskMath
set_option maxRecDepth 100000
set_option linter.unusedSimpArgs false
set_option linter.unusedVariables false

/-- The tables that the program reads: of sums, and of powers of ten. -/
def Tb (w : World) : Prop := Fr.Tab w ∧ Lib.TabIs Tryz.prog w "internal/strconv.uint64pow10" .u64 Lib.pow10Tab
theorem pow_at : Tryz.prog.globalNamed "internal/strconv.uint64pow10" = some 1 := by kernel_rfl
theorem Tb.below {n : Nat} {w w' : World} (h : Tb w) (hb : Below n w w') (hn : 2 ≤ n) : Tb w' := by
  refine ⟨h.1.below hb (by omega), ?_⟩
  have h2 := h.2
  unfold Lib.TabIs World.var? at h2 ⊢
  rw [pow_at] at h2 ⊢
  simp only [Option.bind_some] at h2 ⊢
  rw [hb.block 1 (by omega)]
  exact h2
theorem Tb.two {w : World} (h : Tb w) : 2 ≤ w.heap.size := by
  have h2 := h.2
  unfold Lib.TabIs World.var? at h2
  rw [pow_at] at h2
  simp only [Option.bind_some] at h2
  rcases Nat.lt_or_ge 1 w.heap.size with h' | h'
  · exact h'
  · rw [Array.getElem?_eq_none h'] at h2; cases h2
theorem Tb.new {w w' : World} (h : Tb w) (hb : Below w.heap.size w w') : Tb w' := h.below hb h.two
theorem Tb.drewN {w : World} (h : Tb w) (k : Nat) : Tb (w.drewN k) := h.below (below_drewN (Below.refl w.heap.size w) k) h.two

theorem itoa_name (n : Nat) (hn : n < 100000000) : ∃ S : ByteArray, (⟨(Lib.itoa (100000000 + (n : Int))).toArray⟩ : ByteArray) = S ∧ S.size = 9 ∧ (⟨#[119, 97, 108, 45]⟩ : ByteArray) ++ S.extract 1 9 = segName n := by
  have e1 : Lib.itoa (100000000 + (n : Int)) = 49 :: (digs 8 n).map UInt8.ofNat := by
    have e0 : (100000000 + (n : Int)) = ((10 ^ 8 + n : Nat) : Int) := by omega
    unfold Lib.itoa
    rw [e0, if_neg (by omega), Int.toNat_natCast]
    exact dec_digs 8 n hn
  have hl : ((digs 8 n).map UInt8.ofNat).length = 8 := by rw [List.length_map, digs_length]
  refine ⟨_, rfl, ?_, ?_⟩
  · show (Lib.itoa _).toArray.size = 9
    rw [e1]
    simp [digs_length]
  · rw [e1]
    apply ByteArray.ext
    rw [← Array.toList_inj, segName_list]
    generalize (digs 8 n).map UInt8.ofNat = D at *
    have h9 : (9 : Nat) = 1 + D.length := by omega
    rw [h9]
    simp [ByteArray.data_append, ByteArray.data_extract]

set_option maxHeartbeats 1000000 in
theorem nameOf_of (n : Nat) (w : World) (hT : Tb w) (hn : n < 100000000) : Calls Tryz.prog 58 #[.int .i64 (n : Int)] w fun e w' => e = .returned (.string (segName n)) ∧ Below w.heap.size w w' := by
  have hi := Tryz.strconv_Itoa (100000000 + (n : Int)) (by omega) (by omega) w hT.2
  have q1 : IntKind.i64.wrap (100000000 + (n : Int)) = 100000000 + (n : Int) := IntWalk.i64_in _ (by omega)
  obtain ⟨S, hS, h9, hR⟩ := itoa_name n hn
  rw [hS] at hi
  have hR' : Hid (_ = segName n) := hR
  have h9' : Hid (S.size = 9) := h9
  have hi9 : (1 : Int) ≤ (S.size : Int) := by omega
  have hj9 : 1 ≤ S.size := by omega
  have hk9 : ¬ 9223372036854775807 < 4 + (S.size - 1) := by omega
  generalize segName n = R at *
  clear hT hR h9 hS
  go_enter Tryz.func58, Tryz.ntmps58
  go_wp2_with fail
  refine hi.mono ?_
  rintro e w1 ⟨rfl, k, os, hw1⟩
  have hb : Below w.heap.size w w1 := by rw [hw1]; exact Lib.below_grow _ _ (Nat.le_refl _) _ _
  clear hw1 hi
  go_wp2
  go_ret
  exact ⟨by rw [← hR'.out, h9'.out]; rfl, hb⟩

theorem parse_name (n : Nat) (hn : n < 100000000) : Lib.parseUintB 32 ((digs 8 n).map UInt8.ofNat) = .ok n := by
  unfold Lib.parseUintB
  have hl : ((digs 8 n).map UInt8.ofNat).length = 8 := by rw [List.length_map, digs_length]
  rw [if_neg (by intro e; rw [e] at hl; cases hl), parse_digs (2 ^ 32 - 1) (by decide) 8 0 n (by rw [Nat.mod_eq_of_lt (by omega)]; omega), Nat.mod_eq_of_lt (by omega)]
  simp

set_option maxHeartbeats 1000000 in
theorem numberOf_of (n : Nat) (w : World) (hn : n < 100000000) (h0 : 0 < n) : Calls Tryz.prog 111 #[.string (segName n)] w fun e w' => e = .returned (.tuple #[.int .i64 (n : Int), .bool true]) ∧ Below w.heap.size w w' := by
  have hc := Tryz.strings_CutPrefix (segName n) ⟨#[119, 97, 108, 45]⟩ w
  have hp : Lib.hasPrefix (segName n).data.toList [119, 97, 108, 45] = true := by
    rw [segName_list]
    unfold Lib.hasPrefix
    rw [List.isPrefixOf_iff_prefix]
    exact List.prefix_append _ _
  have ht : Lib.trimPrefix (segName n).data.toList [119, 97, 108, 45] = (digs 8 n).map UInt8.ofNat := by
    unfold Lib.trimPrefix
    rw [if_pos hp, segName_list]
    rfl
  rw [show (⟨#[119, 97, 108, 45]⟩ : ByteArray).data.toList = [119, 97, 108, 45] from rfl, hp, ht] at hc
  obtain ⟨D, hD, hD8, hk⟩ : ∃ D : ByteArray, (⟨((digs 8 n).map UInt8.ofNat).toArray⟩ : ByteArray) = D ∧ Hid (D.size = 8) ∧ Calls Tryz.prog 136 #[.string D, .int .i64 10, .int .i64 32] w fun e w' => e = .returned (.tuple #[.int .u64 n, .nilIface]) ∧ (w' = w ∨ w' = Lib.bytesWorld w 5 D) := by
    refine ⟨_, rfl, ?_, Tryz.strconv_ParseUint_10_at32_ok _ ?_ n ?_ w⟩
    · show Array.size _ = 8
      simp [digs_length]
    · show Array.size _ ≤ _
      simp [digs_length]
    · exact parse_name n hn
  rw [hD] at hc
  have h8 : ((D.size : Int) != 8) = false := by rw [hD8.out]; rfl
  have h8' : (D.size : Int) = 8 := by rw [hD8.out]; rfl
  have hn0 : ((n : Int) == 0) = false := by simp; omega
  have hn1 : ¬ (n : Int) = 0 := by omega
  have q1 : IntKind.i64.wrap (n : Int) = (n : Int) := IntWalk.i64_in _ (by omega)
  clear hp ht hD
  generalize segName n = R at *
  go_enter Tryz.func111, Tryz.ntmps111
  go_wp2_with fail
  refine hc.mono ?_
  rintro e w1 ⟨rfl, hw1⟩
  rw [hw1]
  clear hw1 w1 hc
  go_wp2_with fail
  refine hk.mono ?_
  rintro e w1 ⟨rfl, hw1⟩
  have hb : Below w.heap.size w w1 := by
    rcases hw1 with h | h
    · rw [h]; exact Below.refl _ _
    · rw [h]; exact Lib.bytesWorld_below _ _ _
  clear hw1 hk
  go_wp2
  go_ret2
  exact ⟨rfl, hb⟩
end Go.Proofs.YtoipjmjhplkibaaGreatDoor

