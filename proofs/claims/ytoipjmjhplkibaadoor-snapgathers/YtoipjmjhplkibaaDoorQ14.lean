import Derived.Test.YtoipjmjhplkibaaDoorQ12
import Derived.Test.YtoipjmjhplkibaaDoorQ13
import Derived.Test.YtoipjmjhplkibaaDoorQ10
import Derived.OwnWalk
import Derived.Deep.RegionWith
import Derived.Deep.QuietTactic
import Derived.Lib.SlBytesConst
import Derived.WalkSmall
import Derived.Laws.IdiomStrings
/- The contracts of crc.Seal, of the document's own Seal and of crc.told: the answers; what lay in memory before stays as it was. -/
namespace Go.Proofs.YtoipjmjhplkibaaDoor.Fr
open Go.RowKit CrcMath FrameMath
set_option maxRecDepth 100000
set_option linter.unusedSimpArgs false

theorem own_new (w : World) (cs : Array Value) (l : List Nat) (h : cs.toList = bc l) (hl : l.length ≤ maxLen) : Own w.heap.size (w.alloc (.cells cs 5)) (.slice (some ⟨w.heap.size, 0, none⟩) l.length l.length) l := by
  have hs : cs.size = l.length := by rw [← Array.length_toList, h, bc_length]
  refine ⟨by rw [bc_length, Nat.mul_one], .inr ⟨w.heap.size, l.length, cs, rfl, Nat.le_refl _, heap_alloc_new w _, Nat.le_refl _, hl, by rw [hs]; simp, ?_⟩⟩
  rw [h, List.take_of_length_le (by rw [bc_length]; omega)]

theorem info_byte : ∃ i, Tryd.prog.info? 5 = some i ∧ i.zero = some (.int .u8 0) ∧ i.size = 1 ∧ i.bytes = 1 := info_parts infoByte

set_option maxHeartbeats 1000000 in
theorem seal_of (n₀ : Nat) (l : List Nat) (v : Value) (w : World) (hT : Tab w) (hB : Bs n₀ w v l) (hl : ∀ c ∈ l, c < 256) (hn₀ : n₀ ≤ w.heap.size) (hlen : l.length ≤ 140737488351232) :
    Calls Tryd.prog 51 #[v] w fun e w' => ∃ v', e = .returned v' ∧ Own w.heap.size w' v' (sealed l) ∧ Below w.heap.size w w' := by
  have hc := of_of n₀ l v w hT hB hl
  have hS := crcSum_lt hl
  have E : Hid (sealed l = be4 (crcSum l) ++ l) := rfl
  obtain ⟨ao, cap, rfl, -⟩ := id hB
  obtain ⟨i0, hi, hz0, hz1, hz2⟩ := info_byte
  go_enter Tryd.func51, Tryd.ntmps51
  go_wp2_with fail
  refine hc.mono ?_
  rintro e w1 ⟨rfl, hw1⟩
  subst hw1
  generalize crcSum l = s at *
  have hB1 : ∀ w', Below w1.heap.size w1 w' → Bs n₀ w' (.slice ao l.length cap) l := fun w' hb => hB.below (hb.mono hn₀)
  clear hB
  go_wp2_with (at_make; refine wpList_make_own _ rfl _ _ 22 rfl w1.heap.size 5 i0 (.int .u8 0) 1 Tryd.underlying22 hi hz0 hz1 .i64 .i64 _ (4 + l.length) rfl rfl (by omega) (by rw [hz2]; omega) (by unfold maxLen; omega) (Nat.le_refl _) ?_)
  intro w2 hown2 hg2
  have hb2 : Below w1.heap.size w1 w2 := (Below.refl _ _).grown hg2 (Nat.le_refl _) (fun k h => by cases h)
  have hO2 : Own w1.heap.size w2 (.slice (some ⟨w1.heap.size, 0, none⟩) 0 (4 + l.length)) [] := hown2
  have hG2 : ∀ o, Gr w1.heap.size (w2.alloc o) _ [] := fun o => .inr (hO2.below ((Below.refl w2.heap.size w2).alloc (Nat.le_refl _) o))
  have hsz := hb2.size
  clear hown2 hg2
  go_wp2_with (at_builtin; refine wpList_append_gr rfl _ _ rfl w1.heap.size _ [] rfl (hG2 _) ?sz _ _ (be4 s) rfl (by simp [be4]) (cells_new w2 _ _ ?eq) ?l2 ?_)
  case sz => simp; omega
  case l2 => simp [be4]
  case eq => simp [bc, be4]; omega
  intro v3 w3 hO3 hb3
  have hB3 : Below w1.heap.size w1 w3 := hb2.trans (((Below.refl _ w2).alloc hsz _).trans hb3)
  have hb := hB1 _ hB3
  go_wp2_with (at_builtin; refine wpList_append_bs rfl _ _ rfl w1.heap.size _ (be4 s) rfl hO3 hB3.size n₀ _ l rfl hb ?c1 ?_)
  case c1 => simp [be4]; omega
  intro v4 w4 hO4 hb4
  go_wp2
  go_ret
  exact ⟨_, rfl, by rw [E.out]; exact hO4, hB3.trans hb4⟩

theorem or4 (c0 c1 c2 c3 : Nat) (k0 : c0 < 256) (k1 : c1 < 256) (k2 : c2 < 256) (k3 : c3 < 256) :
    bits .or .u32 (bits .or .u32 (bits .or .u32 (IntKind.u32.wrap (IntKind.u32.wrap (c0 : Int) * 16777216)) (IntKind.u32.wrap (IntKind.u32.wrap (c1 : Int) * 65536))) (IntKind.u32.wrap (IntKind.u32.wrap (c2 : Int) * 256))) (IntKind.u32.wrap (c3 : Int)) =
      ((c0 * 16777216 + c1 * 65536 + c2 * 256 + c3 : Nat) : Int) := by
  have a0 : IntKind.u32.wrap (IntKind.u32.wrap (c0 : Int) * 16777216) = ((c0 * 16777216 : Nat) : Int) := by rw [IntKind.wrap_u32', IntKind.wrap_u32']; omega
  have a1 : IntKind.u32.wrap (IntKind.u32.wrap (c1 : Int) * 65536) = ((c1 * 65536 : Nat) : Int) := by rw [IntKind.wrap_u32', IntKind.wrap_u32']; omega
  have a2 : IntKind.u32.wrap (IntKind.u32.wrap (c2 : Int) * 256) = ((c2 * 256 : Nat) : Int) := by rw [IntKind.wrap_u32', IntKind.wrap_u32']; omega
  have a3 : IntKind.u32.wrap (c3 : Int) = (c3 : Int) := by rw [IntKind.wrap_u32']; omega
  rw [a0, a1, a2, a3]
  rw [u32_or_nat _ _ (by omega) (by omega), nat_join 24 _ _ (by omega) (by omega)]
  rw [u32_or_nat _ _ (by omega) (by omega), nat_join 16 _ _ (by omega) (by omega)]
  rw [u32_or_nat _ _ (by omega) (by omega), nat_join 8 _ _ (by omega) (by omega)]

set_option maxHeartbeats 1000000 in
theorem told_of (n₀ : Nat) (l : List Nat) (c0 c1 c2 c3 : Nat) (e0 : l[0]? = some c0) (e1 : l[1]? = some c1) (e2 : l[2]? = some c2) (e3 : l[3]? = some c3) (v : Value) (w : World) (hB : Bs n₀ w v l) (hl : ∀ c ∈ l, c < 256) :
    Calls Tryd.prog 68 #[v] w fun e w' => e = .returned (.int .u32 ((c0 * 16777216 + c1 * 65536 + c2 * 256 + c3 : Nat) : Int)) ∧ ∃ k, w' = w.drewN k := by
  obtain ⟨ao, cap, rfl, h2, h3, h4, h5⟩ := id hB
  have h4l : 3 < l.length := (List.getElem?_eq_some_iff.1 e3).1
  obtain ⟨b, off, rfl, hb, hc⟩ := h5 (by rintro rfl; simp at h4l)
  have d0 : w.cell? ⟨b, off, none⟩ = some (.int .u8 (c0 : Int)) := hc 0 c0 e0
  have d1 := hc 1 c1 e1
  have d2 := hc 2 c2 e2
  have d3 := hc 3 c3 e3
  have k0 : c0 < 256 := hl c0 (List.mem_of_getElem? e0)
  have k1 : c1 < 256 := hl c1 (List.mem_of_getElem? e1)
  have k2 : c2 < 256 := hl c2 (List.mem_of_getElem? e2)
  have k3 : c3 < 256 := hl c3 (List.mem_of_getElem? e3)
  have n0 : 0 < l.length := by omega
  have n1 : 1 < l.length := by omega
  have n2 : 2 < l.length := by omega
  have p0 : (0 : Int) < (l.length : Int) := by omega
  have p1 : (1 : Int) < (l.length : Int) := by omega
  have p2 : (2 : Int) < (l.length : Int) := by omega
  have p3 : (3 : Int) < (l.length : Int) := by omega
  clear hc h5 hB h4 e0 e1 e2 e3
  go_enter Tryd.func68, Tryd.ntmps68
  go_wp2
  go_quiet (fail)
  go_wp2
  go_ret
  refine ⟨?_, nq, rfl⟩
  rw [← or4 c0 c1 c2 c3 k0 k1 k2 k3]
  first
    | rfl
    | (have u0 : IntKind.u32.wrap (c0 : Int) = (c0 : Int) := by rw [IntKind.wrap_u32']; omega
       have u1 : IntKind.u32.wrap (c1 : Int) = (c1 : Int) := by rw [IntKind.wrap_u32']; omega
       have u2 : IntKind.u32.wrap (c2 : Int) = (c2 : Int) := by rw [IntKind.wrap_u32']; omega
       have u3 : IntKind.u32.wrap (c3 : Int) = (c3 : Int) := by rw [IntKind.wrap_u32']; omega
       have v0 : IntKind.u32.wrap ((c0 : Int) * 16777216) = (c0 : Int) * 16777216 := by rw [IntKind.wrap_u32']; omega
       have v1 : IntKind.u32.wrap ((c1 : Int) * 65536) = (c1 : Int) * 65536 := by rw [IntKind.wrap_u32']; omega
       have v2 : IntKind.u32.wrap ((c2 : Int) * 256) = (c2 : Int) * 256 := by rw [IntKind.wrap_u32']; omega
       rw [u0, u1, u2, u3, v0, v1, v2]
       rfl)
end Go.Proofs.YtoipjmjhplkibaaDoor.Fr

