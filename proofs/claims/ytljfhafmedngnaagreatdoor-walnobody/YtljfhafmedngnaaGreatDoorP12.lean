import Derived.Test.YtljfhafmedngnaaGreatDoorP04
import Derived.Deep.LoopGhost
import Derived.Test.YtljfhafmedngnaaGreatDoorP11
import Derived.Test.YtljfhafmedngnaaGreatDoorP09
import Derived.OwnWalk
import Derived.Deep.RegionWith
import Derived.Deep.QuietTactic
import Derived.Lib.SlBytesConst
import Derived.WalkSmall
import Derived.Laws.IdiomStrings
/- The contracts of the program's Uvarint and of the document's own: the number's bytes behind what was there, in memory of the call's own; what lay in memory before stays as it was. -/
namespace Go.Proofs.YtljfhafmedngnaaGreatDoor.Fr
open Go.RowKit WireMath
set_option maxRecDepth 100000
set_option linter.unusedSimpArgs false

theorem one_cell (w : World) (x : Nat) : ∀ j u, (bc [x])[j]? = some u → (w.alloc (.cells #[.int .u8 (x : Int)] 5)).cell? ((⟨w.heap.size, 0, none⟩ : Addr).add j) = some u := by
  intro j u hj
  obtain ⟨c, hc, rfl⟩ := bc_get hj
  rw [Addr.add_lit, cells_of_block (heap_alloc_new w _)]
  match j, hc with
  | 0, hc => simp at hc; subst hc; rfl

set_option maxHeartbeats 1000000 in
theorem uvarint_of (n₀ : Nat) (l : List Nat) (v : Value) (n : Nat) (w : World) (hB : Bs n₀ w v l) (hn : n < 18446744073709551616) (hlen : l.length ≤ 140737488355000) :
    Calls Tryz.prog 85 #[v, .int .u64 (n : Int)] w fun e w' => ∃ v', e = .returned v' ∧ Own w.heap.size w' v' (l ++ uv n) ∧ Below w.heap.size w w' := by
  obtain ⟨ao, cap, rfl, h2, h3, _⟩ := id hB
  have hu := uv_len10 hn
  have hF : Gr w.heap.size w (.slice ao l.length l.length) l := Bs.full hB
  go_enter Tryz.func85, Tryz.ntmps85
  go_wp2
  go_loopg [0, 1] n (fun g s0 s1 wr => ∃ k, s1 = .int .u64 (g : Int) ∧ Gr w.heap.size wr s0 (l ++ k) ∧ Below w.heap.size w wr ∧ Hid (k ++ uv g = uv n) ∧ g < 18446744073709551616)
  case atStart => exact ⟨[], rfl, by rw [List.append_nil]; exact hF, Below.refl _ _, rfl, hn⟩
  case round =>
    obtain ⟨k, rfl, hG, hB, HU, hg⟩ := hrel
    by_cases hlt : gk < 128
    · have hgi : (gk : Int) < 128 := by omega
      have E : Hid (uv n = k ++ [gk]) := by show _ = _; rw [← HU.out, uv_lt hlt]
      have hl2 : (l ++ k).length + 1 ≤ 140737488355328 := by
        have e := congrArg List.length HU.out
        simp only [List.length_append] at e ⊢
        omega
      have q1 : IntKind.u8.wrap (gk : Int) = (gk : Int) := IntWalk.u8_in _ (by omega)
      have hG1 := hG.below ((Below.refl wr.heap.size wr).alloc (Nat.le_refl _) (.cells #[.int .u8 (gk : Int)] 5))
      have hc1 := one_cell wr gk
      have hsz := hB.size
      go_wp2_with (at_builtin; refine wpList_append_gr rfl _ _ rfl w.heap.size _ (l ++ k) rfl hG1 ?sz _ _ [gk] rfl (by simp) hc1 hl2 ?_)
      case sz => simp; omega
      intro v' w' hO hb
      go_wp2
      go_ret
      refine ⟨_, rfl, ?_, hB.trans ((Below.refl _ wr).alloc hsz _ |>.trans hb)⟩
      rw [E.out]
      exact hO
    · have hgi : ¬ (gk : Int) < 128 := by omega
      have E : Hid (k ++ [gk % 128 + 128] ++ uv (gk / 128) = uv n) := by show _ = _; rw [← HU.out, uv_ge hlt]; simp
      have hl2 : (l ++ k).length + 1 ≤ 140737488355328 := by
        have e := congrArg List.length HU.out
        have := uv_pos gk
        simp only [List.length_append] at e ⊢
        omega
      have hG1 := hG.below ((Below.refl wr.heap.size wr).alloc (Nat.le_refl _) (.cells #[.int .u8 ((gk % 128 + 128 : Nat) : Int)] 5))
      have hc1 := one_cell wr (gk % 128 + 128)
      have hsz := hB.size
      go_wp2_with (at_builtin; refine wpList_append_gr rfl _ _ rfl w.heap.size _ (l ++ k) rfl hG1 ?sz _ _ [gk % 128 + 128] rfl (by simp) hc1 hl2 ?_)
      case sz => omega
      intro v' w' hO hb
      go_wp2
      go_roundg (gk / 128)
      case measure => omega
      case rel => exact ⟨k ++ [gk % 128 + 128], by go_num, .inr hO, hB.trans ((Below.refl _ wr).alloc hsz _ |>.trans hb), E, by omega⟩

set_option maxHeartbeats 1000000 in
theorem refUvarint_of (n : Nat) (w : World) (hn : n < 18446744073709551616) :
    Calls Tryz.prog 61 #[.int .u64 (n : Int)] w fun e w' => ∃ v', e = .returned v' ∧ Own w.heap.size w' v' (uv n) ∧ Below w.heap.size w w' := by
  have hu := uv_len10 hn
  go_enter Tryz.func61, Tryz.ntmps61
  go_wp2
  go_loopg [0, 3] n (fun g s0 s3 wr => ∃ k, s0 = .int .u64 (g : Int) ∧ Own w.heap.size wr s3 k ∧ Below w.heap.size w wr ∧ Hid (k ++ uv g = uv n) ∧ g < 18446744073709551616)
  case atStart => exact ⟨[], rfl, Own.nil _ _, Below.refl _ _, rfl, hn⟩
  case round =>
    obtain ⟨k, rfl, hG, hB, HU, hg⟩ := hrel
    have hl2 : k.length + 1 ≤ 140737488355328 := by
      have e := congrArg List.length HU.out
      simp only [List.length_append] at e ⊢
      omega
    have hsz := hB.size
    by_cases hlt : gk < 128
    · have hgi : (gk : Int) < 128 := by omega
      have E : Hid (uv n = k ++ [gk]) := by show _ = _; rw [← HU.out, uv_lt hlt]
      have q1 : IntKind.u8.wrap (gk : Int) = (gk : Int) := IntWalk.u8_in _ (by omega)
      have hG1 : Gr w.heap.size _ _ _ := .inr (hG.below ((Below.refl wr.heap.size wr).alloc (Nat.le_refl _) (.cells #[.int .u8 (gk : Int)] 5)))
      have hc1 := one_cell wr gk
      go_wp2_with (at_builtin; refine wpList_append_gr rfl _ _ rfl w.heap.size _ k rfl hG1 ?sz _ _ [gk] rfl (by simp) hc1 hl2 ?_)
      case sz => simp; omega
      intro v' w' hO hb
      go_wp2
      go_ret
      refine ⟨_, rfl, ?_, hB.trans ((Below.refl _ wr).alloc hsz _ |>.trans hb)⟩
      rw [E.out]
      exact hO
    · have hgi : ¬ (gk : Int) < 128 := by omega
      have E : Hid (k ++ [gk % 128 + 128] ++ uv (gk / 128) = uv n) := by show _ = _; rw [← HU.out, uv_ge hlt]; simp
      have hG1 : Gr w.heap.size _ _ _ := .inr (hG.below ((Below.refl wr.heap.size wr).alloc (Nat.le_refl _) (.cells #[.int .u8 ((gk % 128 + 128 : Nat) : Int)] 5)))
      have hc1 := one_cell wr (gk % 128 + 128)
      go_wp2_with (at_builtin; refine wpList_append_gr rfl _ _ rfl w.heap.size _ k rfl hG1 ?sz _ _ [gk % 128 + 128] rfl (by simp) hc1 hl2 ?_)
      case sz => omega
      intro v' w' hO hb
      go_wp2
      go_roundg (gk / 128)
      case measure => omega
      case rel => exact ⟨k ++ [gk % 128 + 128], by go_num, hO, hB.trans ((Below.refl _ wr).alloc hsz _ |>.trans hb), E, by omega⟩
end Go.Proofs.YtljfhafmedngnaaGreatDoor.Fr

/- The contract of the program's Bytes: how many there are, and the bytes, behind what was there, in memory of the call's own; what lay in memory before stays as it was. -/
namespace Go.Proofs.YtljfhafmedngnaaGreatDoor.Fr
open Go.RowKit WireMath
set_option maxRecDepth 100000
set_option linter.unusedSimpArgs false

theorem cells_new (w : World) (cs : Array Value) (l : List Nat) (h : cs.toList = bc l) : ∀ j u, (bc l)[j]? = some u → (w.alloc (.cells cs 5)).cell? ((⟨w.heap.size, 0, none⟩ : Addr).add j) = some u := by
  intro j u hj
  rw [Addr.add_lit, cells_of_block (heap_alloc_new w _), Nat.zero_add, ← Array.getElem?_toList, h]
  exact hj

set_option maxHeartbeats 1000000 in
theorem bytes_of (n₀ n₁ : Nat) (l s : List Nat) (v sv : Value) (w : World) (hB : Bs n₀ w v l) (hS : Bs n₁ w sv s) (hn₁ : n₁ ≤ w.heap.size) (hlen : l.length + s.length ≤ 140737488355000) :
    Calls Tryz.prog 108 #[v, sv] w fun e w' => ∃ v', e = .returned v' ∧ Own w.heap.size w' v' (l ++ uv s.length ++ s) ∧ Below w.heap.size w w' := by
  have hu := uvarint_of n₀ l v s.length w hB (by omega) (by omega)
  have hul := uv_len10 (n := s.length) (by omega)
  have hS' : ∀ w', Below w.heap.size w w' → Bs n₁ w' sv s := fun w' hb => hS.below (hb.mono hn₁)
  obtain ⟨ao, cap, rfl, h2, h3, _⟩ := id hS
  go_enter Tryz.func108, Tryz.ntmps108
  go_wp2_with fail
  refine hu.mono ?_
  rintro e w1 ⟨v1, rfl, hO, hb⟩
  go_wp2_with (at_builtin; refine wpList_append_bs rfl _ _ rfl w.heap.size _ _ rfl hO hb.size n₁ _ s rfl (hS' _ hb) ?l2 ?_)
  case l2 => simp; omega
  intro v' w' hO' hb'
  go_wp2
  go_ret
  exact ⟨_, rfl, by first | exact hO' | (rw [List.append_assoc]; exact hO'), hb.trans hb'⟩
end Go.Proofs.YtljfhafmedngnaaGreatDoor.Fr

/- The contracts of crc.Seal, of the document's own Seal and of crc.told: the answers; what lay in memory before stays as it was. -/
namespace Go.Proofs.YtljfhafmedngnaaGreatDoor.Fr
open Go.RowKit CrcMath FrameMath
set_option maxRecDepth 100000
set_option linter.unusedSimpArgs false

theorem own_new (w : World) (cs : Array Value) (l : List Nat) (h : cs.toList = bc l) (hl : l.length ≤ maxLen) : Own w.heap.size (w.alloc (.cells cs 5)) (.slice (some ⟨w.heap.size, 0, none⟩) l.length l.length) l := by
  have hs : cs.size = l.length := by rw [← Array.length_toList, h, bc_length]
  refine ⟨by rw [bc_length, Nat.mul_one], .inr ⟨w.heap.size, l.length, cs, rfl, Nat.le_refl _, heap_alloc_new w _, Nat.le_refl _, hl, by rw [hs]; simp, ?_⟩⟩
  rw [h, List.take_of_length_le (by rw [bc_length]; omega)]

theorem info_byte : ∃ i, Tryz.prog.info? 5 = some i ∧ i.zero = some (.int .u8 0) ∧ i.size = 1 ∧ i.bytes = 1 := info_parts infoByte

set_option maxHeartbeats 1000000 in
theorem seal_of (n₀ : Nat) (l : List Nat) (v : Value) (w : World) (hT : Tab w) (hB : Bs n₀ w v l) (hl : ∀ c ∈ l, c < 256) (hn₀ : n₀ ≤ w.heap.size) (hlen : l.length ≤ 140737488351232) :
    Calls Tryz.prog 107 #[v] w fun e w' => ∃ v', e = .returned v' ∧ Own w.heap.size w' v' (sealed l) ∧ Below w.heap.size w w' := by
  have hc := of_of n₀ l v w hT hB hl
  have hS := crcSum_lt hl
  have E : Hid (sealed l = be4 (crcSum l) ++ l) := rfl
  obtain ⟨ao, cap, rfl, -⟩ := id hB
  obtain ⟨i0, hi, hz0, hz1, hz2⟩ := info_byte
  go_enter Tryz.func107, Tryz.ntmps107
  go_wp2_with fail
  refine hc.mono ?_
  rintro e w1 ⟨rfl, hw1⟩
  subst hw1
  generalize crcSum l = s at *
  have hB1 : ∀ w', Below w1.heap.size w1 w' → Bs n₀ w' (.slice ao l.length cap) l := fun w' hb => hB.below (hb.mono hn₀)
  clear hB
  go_wp2_with (at_make; refine wpList_make_own _ rfl _ _ 32 rfl w1.heap.size 5 i0 (.int .u8 0) 1 Tryz.underlying32 hi hz0 hz1 .i64 .i64 _ (4 + l.length) rfl rfl (by omega) (by rw [hz2]; omega) (by unfold maxLen; omega) (Nat.le_refl _) ?_)
  intro w2 hown2 hg2
  have hb2 : Below w1.heap.size w1 w2 := (Below.refl _ _).grown hg2 (Nat.le_refl _) (fun k h => by cases h)
  have hO2 : Own w1.heap.size w2 (.slice (some ⟨w1.heap.size, 0, none⟩) 0 (4 + l.length)) [] := hown2
  have hG2 : ∀ o, Gr w1.heap.size (w2.alloc o) _ [] := fun o => .inr (hO2.below ((Below.refl w2.heap.size w2).alloc (Nat.le_refl _) o))
  have hsz := hb2.size
  clear hown2 hg2
  go_wp2_with (at_builtin; refine wpList_append_gr rfl _ _ rfl w1.heap.size _ [] rfl (hG2 _) ?sz _ _ (be4 s) rfl (by simp [be4]) (cells_new w2 _ _ ?eq) ?l2 ?_)
  case sz => simp; omega
  case l2 => simp [be4]
  case eq => simp [bc, be4]; omega
  intro v3 w3 hO3 hb3
  have hB3 : Below w1.heap.size w1 w3 := hb2.trans (((Below.refl _ w2).alloc hsz _).trans hb3)
  have hb := hB1 _ hB3
  go_wp2_with (at_builtin; refine wpList_append_bs rfl _ _ rfl w1.heap.size _ (be4 s) rfl hO3 hB3.size n₀ _ l rfl hb ?c1 ?_)
  case c1 => simp [be4]; omega
  intro v4 w4 hO4 hb4
  go_wp2
  go_ret
  exact ⟨_, rfl, by rw [E.out]; exact hO4, hB3.trans hb4⟩

set_option maxHeartbeats 1000000 in
theorem refSeal_of (n₀ : Nat) (l : List Nat) (v : Value) (w : World) (hB : Bs n₀ w v l) (hl : ∀ c ∈ l, c < 256) (hn₀ : n₀ ≤ w.heap.size) (hlen : l.length ≤ 140737488351232) :
    Calls Tryz.prog 89 #[v] w fun e w' => ∃ v', e = .returned v' ∧ Own w.heap.size w' v' (sealed l) ∧ Below w.heap.size w w' := by
  have hc := refOf_of n₀ l v w hB hl
  have hS := crcSum_lt hl
  have E : Hid (sealed l = be4 (crcSum l) ++ l) := rfl
  obtain ⟨ao, cap, rfl, -⟩ := id hB
  go_enter Tryz.func89, Tryz.ntmps89
  go_wp2_with fail
  refine hc.mono ?_
  rintro e w1 ⟨rfl, hw1⟩
  subst hw1
  generalize crcSum l = s at *
  have hB1 : ∀ w', Below w1.heap.size w1 w' → Bs n₀ w' (.slice ao l.length cap) l := fun w' hb => hB.below (hb.mono hn₀)
  have hO : Own w1.heap.size (w1.alloc (.cells #[.int .u8 ((s : Int) / 16777216), .int .u8 ((s : Int) / 65536 % 256), .int .u8 ((s : Int) / 256 % 256), .int .u8 ((s : Int) % 256)] 5)) (.slice (some ⟨w1.heap.size, 0, none⟩) 4 4) (be4 s) :=
    own_new w1 _ _ (by simp [bc, be4]; omega) (by simp [be4, maxLen])
  have hb1 : Below w1.heap.size w1 (w1.alloc (.cells #[.int .u8 ((s : Int) / 16777216), .int .u8 ((s : Int) / 65536 % 256), .int .u8 ((s : Int) / 256 % 256), .int .u8 ((s : Int) % 256)] 5)) := (Below.refl _ _).alloc (Nat.le_refl _) _
  have hb := hB1 _ hb1
  clear hB
  go_wp2_with (at_builtin; refine wpList_append_bs rfl _ _ rfl w1.heap.size _ (be4 s) rfl hO hb1.size n₀ _ l rfl hb ?c1 ?_)
  case c1 => simp [be4]; omega
  intro v4 w4 hO4 hb4
  go_wp2
  go_ret
  exact ⟨_, rfl, by rw [E.out]; exact hO4, hb1.trans hb4⟩

theorem or4 (c0 c1 c2 c3 : Nat) (k0 : c0 < 256) (k1 : c1 < 256) (k2 : c2 < 256) (k3 : c3 < 256) :
    bits .or .u32 (bits .or .u32 (bits .or .u32 (IntKind.u32.wrap (IntKind.u32.wrap (c0 : Int) * 16777216)) (IntKind.u32.wrap (IntKind.u32.wrap (c1 : Int) * 65536))) (IntKind.u32.wrap (IntKind.u32.wrap (c2 : Int) * 256))) (IntKind.u32.wrap (c3 : Int)) =
      ((c0 * 16777216 + c1 * 65536 + c2 * 256 + c3 : Nat) : Int) := by
  have a0 : IntKind.u32.wrap (IntKind.u32.wrap (c0 : Int) * 16777216) = ((c0 * 16777216 : Nat) : Int) := by rw [IntKind.wrap_u32', IntKind.wrap_u32']; omega
  have a1 : IntKind.u32.wrap (IntKind.u32.wrap (c1 : Int) * 65536) = ((c1 * 65536 : Nat) : Int) := by rw [IntKind.wrap_u32', IntKind.wrap_u32']; omega
  have a2 : IntKind.u32.wrap (IntKind.u32.wrap (c2 : Int) * 256) = ((c2 * 256 : Nat) : Int) := by rw [IntKind.wrap_u32', IntKind.wrap_u32']; omega
  have a3 : IntKind.u32.wrap (c3 : Int) = (c3 : Int) := by rw [IntKind.wrap_u32']; omega
  rw [a0, a1, a2, a3]
  rw [u32_or_nat _ _ (by omega) (by omega), nat_join 24 _ _ (by omega) (by omega)]
  rw [u32_or_nat _ _ (by omega) (by omega), nat_join 16 _ _ (by omega) (by omega)]
  rw [u32_or_nat _ _ (by omega) (by omega), nat_join 8 _ _ (by omega) (by omega)]

set_option maxHeartbeats 1000000 in
theorem told_of (n₀ : Nat) (l : List Nat) (c0 c1 c2 c3 : Nat) (e0 : l[0]? = some c0) (e1 : l[1]? = some c1) (e2 : l[2]? = some c2) (e3 : l[3]? = some c3) (v : Value) (w : World) (hB : Bs n₀ w v l) (hl : ∀ c ∈ l, c < 256) :
    Calls Tryz.prog 133 #[v] w fun e w' => e = .returned (.int .u32 ((c0 * 16777216 + c1 * 65536 + c2 * 256 + c3 : Nat) : Int)) ∧ ∃ k, w' = w.drewN k := by
  obtain ⟨ao, cap, rfl, h2, h3, h4, h5⟩ := id hB
  have h4l : 3 < l.length := (List.getElem?_eq_some_iff.1 e3).1
  obtain ⟨b, off, rfl, hb, hc⟩ := h5 (by rintro rfl; simp at h4l)
  have d0 : w.cell? ⟨b, off, none⟩ = some (.int .u8 (c0 : Int)) := hc 0 c0 e0
  have d1 := hc 1 c1 e1
  have d2 := hc 2 c2 e2
  have d3 := hc 3 c3 e3
  have k0 : c0 < 256 := hl c0 (List.mem_of_getElem? e0)
  have k1 : c1 < 256 := hl c1 (List.mem_of_getElem? e1)
  have k2 : c2 < 256 := hl c2 (List.mem_of_getElem? e2)
  have k3 : c3 < 256 := hl c3 (List.mem_of_getElem? e3)
  have n0 : 0 < l.length := by omega
  have n1 : 1 < l.length := by omega
  have n2 : 2 < l.length := by omega
  have p0 : (0 : Int) < (l.length : Int) := by omega
  have p1 : (1 : Int) < (l.length : Int) := by omega
  have p2 : (2 : Int) < (l.length : Int) := by omega
  have p3 : (3 : Int) < (l.length : Int) := by omega
  clear hc h5 hB h4 e0 e1 e2 e3
  go_enter Tryz.func133, Tryz.ntmps133
  go_wp2
  go_quiet (fail)
  go_wp2
  go_ret
  exact ⟨by rw [← or4 c0 c1 c2 c3 k0 k1 k2 k3]; rfl, nq, rfl⟩
end Go.Proofs.YtljfhafmedngnaaGreatDoor.Fr

