import Derived.Test.YtljfhafmedngnaaGreatDoorP14
import Derived.Test.YtljfhafmedngnaaGreatDoorP02
import Derived.Test.YtljfhafmedngnaaGreatDoorP03
import Derived.Lib.SmallJoins
import Derived.Lib.AtoiErrMem
import Derived.Lib.AppendIntMem
import Derived.Laws.IdiomStrings
/- The contracts of the program's Put, of the document's own Frame and of the law's own awake: a frame's bytes in memory of the call's own; what lay in memory before stays as it was. -/
namespace Go.Proofs.YtljfhafmedngnaaGreatDoor.Fr
open Go.RowKit WireMath CrcMath FrameMath
set_option maxRecDepth 100000
set_option linter.unusedSimpArgs false

theorem frame_eq (k : Nat) (l : List Nat) : [] ++ uv (sealed (k :: l)).length ++ sealed (k :: l) = frameB k l := by
  unfold frameB
  rw [sealed_length, List.length_cons, List.nil_append]

theorem put_long (k : Nat) (l : List Nat) (n₀ : Nat) (v : Value) (w : World) (hB : Bs n₀ w v l) (hlen : 1048571 < l.length) :
    Calls Tryz.prog 84 #[.int .u8 (k : Int), v] w fun e w' => e = .returned (.tuple #[.slice none 0 0, .int .i64 3]) ∧ w' = w := by
  obtain ⟨ao, cap, rfl, -⟩ := hB
  have hi : (1048571 : Int) < (l.length : Int) := by omega
  go_enter Tryz.func84, Tryz.ntmps84
  go_wp2
  go_ret2
  exact ⟨rfl, rfl⟩

set_option maxHeartbeats 2000000 in
theorem put_of (k : Nat) (l : List Nat) (n₀ : Nat) (v : Value) (w : World) (hT : Tab w) (hB : Bs n₀ w v l) (hk : k < 256) (hl : ∀ c ∈ l, c < 256) (hn₀ : n₀ ≤ w.heap.size) (hlen : l.length ≤ 1048571) :
    Calls Tryz.prog 84 #[.int .u8 (k : Int), v] w fun e w' => ∃ v', e = .returned (.tuple #[v', .int .i64 0]) ∧ Own w.heap.size w' v' (frameB k l) ∧ Below w.heap.size w w' := by
  have hO := own_new w #[.int .u8 (k : Int)] [k] rfl (by simp [maxLen])
  have hb1 := (Below.refl w.heap.size w).alloc (Nat.le_refl _) (.cells #[.int .u8 (k : Int)] 5)
  have hB1 := hB.below (hb1.mono hn₀)
  have hc1 : [k].length + l.length ≤ 140737488355328 := by simp; omega
  have hkl : ∀ c ∈ k :: l, c < 256 := fun c hc => by
    rcases List.mem_cons.1 hc with rfl | h
    · exact hk
    · exact hl c h
  have E : Hid (frameB k l = [] ++ uv (sealed (k :: l)).length ++ sealed (k :: l)) := (frame_eq k l).symm
  have hs : ∀ n₁ w' v', Below w.heap.size w w' → Bs n₁ w' v' (k :: l) → n₁ ≤ w'.heap.size → Calls Tryz.prog 107 #[v'] w' fun e w'' => ∃ v'', e = .returned v'' ∧ Own w'.heap.size w'' v'' (sealed (k :: l)) ∧ Below w'.heap.size w' w'' := fun n₁ w' v' hb hB' hn => seal_of n₁ (k :: l) v' w' (hT.below' hb (Nat.le_refl _)) hB' hkl hn (by simp; omega)
  have hby : ∀ w' v', Bs w'.heap.size w' v' (sealed (k :: l)) → Calls Tryz.prog 108 #[.slice none 0 0, v'] w' fun e w'' => ∃ v'', e = .returned v'' ∧ Own w'.heap.size w'' v'' (frameB k l) ∧ Below w'.heap.size w' w'' := fun w' v' hB' => by
    have := bytes_of 0 w'.heap.size [] (sealed (k :: l)) (.slice none 0 0) v' w' (Bs.nil _ _) hB' (Nat.le_refl _) (by rw [sealed_length]; simp; omega)
    rw [← E.out] at this
    exact this
  obtain ⟨ao, cap, rfl, -⟩ := id hB
  have hi : ¬ (1048571 : Int) < (l.length : Int) := by omega
  clear hB E
  generalize frameB k l = F at *
  go_enter Tryz.func84, Tryz.ntmps84
  go_wp2_with (at_builtin; refine wpList_append_bs rfl _ _ rfl w.heap.size _ [k] rfl hO hb1.size n₀ _ l rfl hB1 hc1 ?_)
  intro v2 w2 hO2 hb2
  have hB2 : Bs w2.heap.size w2 v2 (k :: l) := hO2.bs
  have hbel := hb1.trans hb2
  go_wp2_with fail
  refine (hs w2.heap.size w2 v2 hbel hB2 (Nat.le_refl _)).mono ?_
  rintro e w3 ⟨v3, rfl, hO3, hb3⟩
  have hbel3 := hbel.trans (hb3.mono hbel.size)
  go_wp2_with fail
  refine (hby w3 v3 hO3.bs).mono ?_
  rintro e w4 ⟨v4, rfl, hO4, hb4⟩
  go_wp2
  go_ret2
  exact ⟨v4, rfl, hO4.mono hbel3.size, hbel3.trans (hb4.mono hbel3.size)⟩

set_option maxHeartbeats 2000000 in
theorem refFrame_of (k : Nat) (l : List Nat) (n₀ : Nat) (v : Value) (w : World) (hB : Bs n₀ w v l) (hk : k < 256) (hl : ∀ c ∈ l, c < 256) (hn₀ : n₀ ≤ w.heap.size) (hlen : l.length ≤ 1048571) :
    Calls Tryz.prog 60 #[.int .u8 (k : Int), v] w fun e w' => ∃ v', e = .returned v' ∧ Own w.heap.size w' v' (frameB k l) ∧ Below w.heap.size w w' := by
  have hO := own_new w #[.int .u8 (k : Int)] [k] rfl (by simp [maxLen])
  have hb1 := (Below.refl w.heap.size w).alloc (Nat.le_refl _) (.cells #[.int .u8 (k : Int)] 5)
  have hB1 := hB.below (hb1.mono hn₀)
  have hc1 : [k].length + l.length ≤ 140737488355328 := by simp; omega
  have hkl : ∀ c ∈ k :: l, c < 256 := fun c hc => by
    rcases List.mem_cons.1 hc with rfl | h
    · exact hk
    · exact hl c h
  obtain ⟨S, hS⟩ : ∃ S, S = sealed (k :: l) := ⟨_, rfl⟩
  have E : Hid (frameB k l = uv S.length ++ S) := by show _ = _; rw [← frame_eq, List.nil_append, hS]
  have hsl : S.length = l.length + 5 := by rw [hS, sealed_length, List.length_cons]
  have hs : ∀ n₁ w' v', Bs n₁ w' v' (k :: l) → n₁ ≤ w'.heap.size → Calls Tryz.prog 89 #[v'] w' fun e w'' => ∃ v'', e = .returned v'' ∧ Own w'.heap.size w'' v'' S ∧ Below w'.heap.size w' w'' := fun n₁ w' v' hB' hn => by
    rw [hS]
    exact refSeal_of n₁ (k :: l) v' w' hB' hkl hn (by simp; omega)
  clear hS
  have hul : (uv S.length).length ≤ 10 := uv_len10 (by omega)
  have hu : ∀ w', Calls Tryz.prog 61 #[.int .u64 ((S.length : Nat) : Int)] w' _ := fun w' => refUvarint_of S.length w' (by omega)
  have hsle : S.length ≤ 1048576 := by omega
  clear hsl
  obtain ⟨ao, cap, rfl, -⟩ := id hB
  clear hB
  go_enter Tryz.func60, Tryz.ntmps60
  go_wp2_with (at_builtin; refine wpList_append_bs rfl _ _ rfl w.heap.size _ [k] rfl hO hb1.size n₀ _ l rfl hB1 hc1 ?_)
  intro v2 w2 hO2 hb2
  have hB2 : Bs w2.heap.size w2 v2 (k :: l) := hO2.bs
  have hbel := hb1.trans hb2
  go_wp2_with fail
  refine (hs w2.heap.size w2 v2 hB2 (Nat.le_refl _)).mono ?_
  rintro e w3 ⟨v3, rfl, hO3, hb3⟩
  have hbel3 := hbel.trans (hb3.mono hbel.size)
  have hB3 := hO3.bs
  obtain ⟨ao3, cap3, rfl⟩ := hO3.shape
  go_wp2_with fail
  refine (hu w3).mono ?_
  rintro e w4 ⟨v4, rfl, hO4, hb4⟩
  have hB4 := hB3.below hb4
  have hc2 : (uv S.length).length + S.length ≤ 140737488355328 := by omega
  go_wp2_with (at_builtin; refine wpList_append_bs rfl _ _ rfl w3.heap.size _ _ rfl hO4 hb4.size _ _ S rfl hB4 hc2 ?_)
  intro v5 w5 hO5 hb5
  go_wp2
  go_ret
  exact ⟨v5, rfl, by rw [E.out]; exact hO5.mono hbel3.size, hbel3.trans ((hb4.trans hb5).mono hbel3.size)⟩

theorem str_ne {l r : List Nat} (hl : ∀ c ∈ l, c < 256) (hr : ∀ c ∈ r, c < 256) (h : l ≠ r) : ((str l).toList == (str r).toList) = false := by
  rw [beq_eq_false_iff_ne]
  intro e
  refine h (str_inj hl hr ?_)
  rw [ByteArray.toList_eq, ByteArray.toList_eq] at e
  exact ByteArray.ext (Array.toList_inj.1 e)
end Go.Proofs.YtljfhafmedngnaaGreatDoor.Fr

/- The contracts of the program's nameOf and numberOf: a segment's name, and its number. -/
namespace Go.Proofs.YtljfhafmedngnaaGreatDoor
open Go.RowKit DiskMath
set_option maxRecDepth 100000
set_option linter.unusedSimpArgs false
set_option linter.unusedVariables false

/-- The tables that the program reads: of sums, and of powers of ten. -/
def Tb (w : World) : Prop := Fr.Tab w ∧ Lib.TabIs Tryz.prog w "internal/strconv.uint64pow10" .u64 Lib.pow10Tab
theorem pow_at : Tryz.prog.globalNamed "internal/strconv.uint64pow10" = some 1 := by kernel_rfl
theorem Tb.below {n : Nat} {w w' : World} (h : Tb w) (hb : Below n w w') (hn : 2 ≤ n) : Tb w' := by
  refine ⟨h.1.below hb (by omega), ?_⟩
  have h2 := h.2
  unfold Lib.TabIs World.var? at h2 ⊢
  rw [pow_at] at h2 ⊢
  simp only [Option.bind_some] at h2 ⊢
  rw [hb.block 1 (by omega)]
  exact h2
theorem Tb.two {w : World} (h : Tb w) : 2 ≤ w.heap.size := by
  have h2 := h.2
  unfold Lib.TabIs World.var? at h2
  rw [pow_at] at h2
  simp only [Option.bind_some] at h2
  rcases Nat.lt_or_ge 1 w.heap.size with h' | h'
  · exact h'
  · rw [Array.getElem?_eq_none h'] at h2; cases h2
theorem Tb.new {w w' : World} (h : Tb w) (hb : Below w.heap.size w w') : Tb w' := h.below hb h.two
theorem Tb.drewN {w : World} (h : Tb w) (k : Nat) : Tb (w.drewN k) := h.below (below_drewN (Below.refl w.heap.size w) k) h.two

theorem itoa_name (n : Nat) (hn : n < 100000000) : ∃ S : ByteArray, (⟨(Lib.itoa (100000000 + (n : Int))).toArray⟩ : ByteArray) = S ∧ S.size = 9 ∧ (⟨#[119, 97, 108, 45]⟩ : ByteArray) ++ S.extract 1 9 = segName n := by
  have e1 : Lib.itoa (100000000 + (n : Int)) = 49 :: (digs 8 n).map UInt8.ofNat := by
    have e0 : (100000000 + (n : Int)) = ((10 ^ 8 + n : Nat) : Int) := by omega
    unfold Lib.itoa
    rw [e0, if_neg (by omega), Int.toNat_natCast]
    exact dec_digs 8 n hn
  have hl : ((digs 8 n).map UInt8.ofNat).length = 8 := by rw [List.length_map, digs_length]
  refine ⟨_, rfl, ?_, ?_⟩
  · show (Lib.itoa _).toArray.size = 9
    rw [e1]
    simp [digs_length]
  · rw [e1]
    apply ByteArray.ext
    rw [← Array.toList_inj, segName_list]
    generalize (digs 8 n).map UInt8.ofNat = D at *
    have h9 : (9 : Nat) = 1 + D.length := by omega
    rw [h9]
    simp [ByteArray.data_append, ByteArray.data_extract]

set_option maxHeartbeats 1000000 in
theorem nameOf_of (n : Nat) (w : World) (hT : Tb w) (hn : n < 100000000) : Calls Tryz.prog 57 #[.int .i64 (n : Int)] w fun e w' => e = .returned (.string (segName n)) ∧ Below w.heap.size w w' := by
  have hi := Tryz.strconv_Itoa (100000000 + (n : Int)) (by omega) (by omega) w hT.2
  have q1 : IntKind.i64.wrap (100000000 + (n : Int)) = 100000000 + (n : Int) := IntWalk.i64_in _ (by omega)
  obtain ⟨S, hS, h9, hR⟩ := itoa_name n hn
  rw [hS] at hi
  have hR' : Hid (_ = segName n) := hR
  have h9' : Hid (S.size = 9) := h9
  have hi9 : (1 : Int) ≤ (S.size : Int) := by omega
  have hj9 : 1 ≤ S.size := by omega
  have hk9 : ¬ 9223372036854775807 < 4 + (S.size - 1) := by omega
  generalize segName n = R at *
  clear hT hR h9 hS
  go_enter Tryz.func57, Tryz.ntmps57
  go_wp2_with fail
  refine hi.mono ?_
  rintro e w1 ⟨rfl, k, os, hw1⟩
  have hb : Below w.heap.size w w1 := by rw [hw1]; exact Lib.below_grow _ _ (Nat.le_refl _) _ _
  clear hw1 hi
  go_wp2
  go_ret
  exact ⟨by rw [← hR'.out, h9'.out]; rfl, hb⟩

theorem parse_name (n : Nat) (hn : n < 100000000) : Lib.parseUintB 32 ((digs 8 n).map UInt8.ofNat) = .ok n := by
  unfold Lib.parseUintB
  have hl : ((digs 8 n).map UInt8.ofNat).length = 8 := by rw [List.length_map, digs_length]
  rw [if_neg (by intro e; rw [e] at hl; cases hl), parse_digs (2 ^ 32 - 1) (by decide) 8 0 n (by rw [Nat.mod_eq_of_lt (by omega)]; omega), Nat.mod_eq_of_lt (by omega)]
  simp

set_option maxHeartbeats 1000000 in
theorem numberOf_of (n : Nat) (w : World) (hn : n < 100000000) (h0 : 0 < n) : Calls Tryz.prog 95 #[.string (segName n)] w fun e w' => e = .returned (.tuple #[.int .i64 (n : Int), .bool true]) ∧ Below w.heap.size w w' := by
  have hc := Tryz.strings_CutPrefix (segName n) ⟨#[119, 97, 108, 45]⟩ w
  have hp : Lib.hasPrefix (segName n).data.toList [119, 97, 108, 45] = true := by
    rw [segName_list]
    unfold Lib.hasPrefix
    rw [List.isPrefixOf_iff_prefix]
    exact List.prefix_append _ _
  have ht : Lib.trimPrefix (segName n).data.toList [119, 97, 108, 45] = (digs 8 n).map UInt8.ofNat := by
    unfold Lib.trimPrefix
    rw [if_pos hp, segName_list]
    rfl
  rw [show (⟨#[119, 97, 108, 45]⟩ : ByteArray).data.toList = [119, 97, 108, 45] from rfl, hp, ht] at hc
  obtain ⟨D, hD, hD8, hk⟩ : ∃ D : ByteArray, (⟨((digs 8 n).map UInt8.ofNat).toArray⟩ : ByteArray) = D ∧ Hid (D.size = 8) ∧ Calls Tryz.prog 117 #[.string D, .int .i64 10, .int .i64 32] w fun e w' => e = .returned (.tuple #[.int .u64 n, .nilIface]) ∧ (w' = w ∨ w' = Lib.bytesWorld w 5 D) := by
    refine ⟨_, rfl, ?_, Tryz.strconv_ParseUint_10_at32_ok _ ?_ n ?_ w⟩
    · show Array.size _ = 8
      simp [digs_length]
    · show Array.size _ ≤ _
      simp [digs_length]
    · exact parse_name n hn
  rw [hD] at hc
  have h8 : ((D.size : Int) != 8) = false := by rw [hD8.out]; rfl
  have h8' : (D.size : Int) = 8 := by rw [hD8.out]; rfl
  have hn0 : ((n : Int) == 0) = false := by simp; omega
  have hn1 : ¬ (n : Int) = 0 := by omega
  have q1 : IntKind.i64.wrap (n : Int) = (n : Int) := IntWalk.i64_in _ (by omega)
  clear hp ht hD
  generalize segName n = R at *
  go_enter Tryz.func95, Tryz.ntmps95
  go_wp2_with fail
  refine hc.mono ?_
  rintro e w1 ⟨rfl, hw1⟩
  rw [hw1]
  clear hw1 w1 hc
  go_wp2_with fail
  refine hk.mono ?_
  rintro e w1 ⟨rfl, hw1⟩
  have hb : Below w.heap.size w w1 := by
    rcases hw1 with h | h
    · rw [h]; exact Below.refl _ _
    · rw [h]; exact Lib.bytesWorld_below _ _ _
  clear hw1 hk
  go_wp2
  go_ret2
  exact ⟨rfl, hb⟩
end Go.Proofs.YtljfhafmedngnaaGreatDoor

