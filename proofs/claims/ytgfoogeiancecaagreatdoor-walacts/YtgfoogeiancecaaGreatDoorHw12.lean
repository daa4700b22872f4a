import Derived.Test.YtgfoogeiancecaaGreatDoorHw10
import Derived.Test.YtgfoogeiancecaaGreatDoorHw11
import Derived.Test.YtgfoogeiancecaaGreatDoorHw09
import Derived.OwnWalk
import Derived.Deep.RegionWith
import Derived.Deep.QuietTactic
import Derived.Lib.SlBytesConst
import Derived.WalkSmall
import Derived.Laws.IdiomStrings
import Derived.Test.YtgfoogeiancecaaGreatDoorHw06
import Derived.Lib.SliceRun
/- The contracts of crc.Seal, of the document's own Seal and of crc.told: the answers; what lay in memory before stays as it was. -/
namespace Go.Proofs.YtgfoogeiancecaaGreatDoor.Fr
open Go.RowKit CrcMath FrameMath
set_option maxRecDepth 100000
set_option linter.unusedSimpArgs false

theorem own_new (w : World) (cs : Array Value) (l : List Nat) (h : cs.toList = bc l) (hl : l.length ≤ maxLen) : Own w.heap.size (w.alloc (.cells cs 5)) (.slice (some ⟨w.heap.size, 0, none⟩) l.length l.length) l := by
  have hs : cs.size = l.length := by rw [← Array.length_toList, h, bc_length]
  refine ⟨by rw [bc_length, Nat.mul_one], .inr ⟨w.heap.size, l.length, cs, rfl, Nat.le_refl _, heap_alloc_new w _, Nat.le_refl _, hl, by rw [hs]; simp, ?_⟩⟩
  rw [h, List.take_of_length_le (by rw [bc_length]; omega)]

theorem info_byte : ∃ i, Tryz.prog.info? 5 = some i ∧ i.zero = some (.int .u8 0) ∧ i.size = 1 ∧ i.bytes = 1 := info_parts infoByte

set_option maxHeartbeats 1000000 in
theorem seal_of (n₀ : Nat) (l : List Nat) (v : Value) (w : World) (hT : Tab w) (hB : Bs n₀ w v l) (hl : ∀ c ∈ l, c < 256) (hn₀ : n₀ ≤ w.heap.size) (hlen : l.length ≤ 140737488351232) :
    Calls Tryz.prog 94 #[v] w fun e w' => ∃ v', e = .returned v' ∧ Own w.heap.size w' v' (sealed l) ∧ Below w.heap.size w w' := by
  have hc := of_of n₀ l v w hT hB hl
  have hS := crcSum_lt hl
  have E : Hid (sealed l = be4 (crcSum l) ++ l) := rfl
  obtain ⟨ao, cap, rfl, -⟩ := id hB
  obtain ⟨i0, hi, hz0, hz1, hz2⟩ := info_byte
  go_enter Tryz.func94, Tryz.ntmps94
  go_wp2_with fail
  refine hc.mono ?_
  rintro e w1 ⟨rfl, hw1⟩
  subst hw1
  generalize crcSum l = s at *
  have hB1 : ∀ w', Below w1.heap.size w1 w' → Bs n₀ w' (.slice ao l.length cap) l := fun w' hb => hB.below (hb.mono hn₀)
  clear hB
  go_wp2_with (at_make; refine wpList_make_own _ rfl _ _ 32 rfl w1.heap.size 5 i0 (.int .u8 0) 1 Tryz.underlying32 hi hz0 hz1 .i64 .i64 _ (4 + l.length) rfl rfl (by omega) (by rw [hz2]; omega) (by unfold maxLen; omega) (Nat.le_refl _) ?_)
  intro w2 hown2 hg2
  have hb2 : Below w1.heap.size w1 w2 := (Below.refl _ _).grown hg2 (Nat.le_refl _) (fun k h => by cases h)
  have hO2 : Own w1.heap.size w2 (.slice (some ⟨w1.heap.size, 0, none⟩) 0 (4 + l.length)) [] := hown2
  have hG2 : ∀ o, Gr w1.heap.size (w2.alloc o) _ [] := fun o => .inr (hO2.below ((Below.refl w2.heap.size w2).alloc (Nat.le_refl _) o))
  have hsz := hb2.size
  clear hown2 hg2
  go_wp2_with (at_builtin; refine wpList_append_gr rfl _ _ rfl w1.heap.size _ [] rfl (hG2 _) ?sz _ _ (be4 s) rfl (by simp [be4]) (cells_new w2 _ _ ?eq) ?l2 ?_)
  case sz => simp; omega
  case l2 => simp [be4]
  case eq => simp [bc, be4]; omega
  intro v3 w3 hO3 hb3
  have hB3 : Below w1.heap.size w1 w3 := hb2.trans (((Below.refl _ w2).alloc hsz _).trans hb3)
  have hb := hB1 _ hB3
  go_wp2_with (at_builtin; refine wpList_append_bs rfl _ _ rfl w1.heap.size _ (be4 s) rfl hO3 hB3.size n₀ _ l rfl hb ?c1 ?_)
  case c1 => simp [be4]; omega
  intro v4 w4 hO4 hb4
  go_wp2
  go_ret
  exact ⟨_, rfl, by rw [E.out]; exact hO4, hB3.trans hb4⟩

set_option maxHeartbeats 1000000 in
theorem refSeal_of (n₀ : Nat) (l : List Nat) (v : Value) (w : World) (hB : Bs n₀ w v l) (hl : ∀ c ∈ l, c < 256) (hn₀ : n₀ ≤ w.heap.size) (hlen : l.length ≤ 140737488351232) :
    Calls Tryz.prog 78 #[v] w fun e w' => ∃ v', e = .returned v' ∧ Own w.heap.size w' v' (sealed l) ∧ Below w.heap.size w w' := by
  have hc := refOf_of n₀ l v w hB hl
  have hS := crcSum_lt hl
  have E : Hid (sealed l = be4 (crcSum l) ++ l) := rfl
  obtain ⟨ao, cap, rfl, -⟩ := id hB
  go_enter Tryz.func78, Tryz.ntmps78
  go_wp2_with fail
  refine hc.mono ?_
  rintro e w1 ⟨rfl, hw1⟩
  subst hw1
  generalize crcSum l = s at *
  have hB1 : ∀ w', Below w1.heap.size w1 w' → Bs n₀ w' (.slice ao l.length cap) l := fun w' hb => hB.below (hb.mono hn₀)
  have hO : Own w1.heap.size (w1.alloc (.cells #[.int .u8 ((s : Int) / 16777216), .int .u8 ((s : Int) / 65536 % 256), .int .u8 ((s : Int) / 256 % 256), .int .u8 ((s : Int) % 256)] 5)) (.slice (some ⟨w1.heap.size, 0, none⟩) 4 4) (be4 s) :=
    own_new w1 _ _ (by simp [bc, be4]; omega) (by simp [be4, maxLen])
  have hb1 : Below w1.heap.size w1 (w1.alloc (.cells #[.int .u8 ((s : Int) / 16777216), .int .u8 ((s : Int) / 65536 % 256), .int .u8 ((s : Int) / 256 % 256), .int .u8 ((s : Int) % 256)] 5)) := (Below.refl _ _).alloc (Nat.le_refl _) _
  have hb := hB1 _ hb1
  clear hB
  go_wp2_with (at_builtin; refine wpList_append_bs rfl _ _ rfl w1.heap.size _ (be4 s) rfl hO hb1.size n₀ _ l rfl hb ?c1 ?_)
  case c1 => simp [be4]; omega
  intro v4 w4 hO4 hb4
  go_wp2
  go_ret
  exact ⟨_, rfl, by rw [E.out]; exact hO4, hb1.trans hb4⟩

theorem or4 (c0 c1 c2 c3 : Nat) (k0 : c0 < 256) (k1 : c1 < 256) (k2 : c2 < 256) (k3 : c3 < 256) :
    bits .or .u32 (bits .or .u32 (bits .or .u32 (IntKind.u32.wrap (IntKind.u32.wrap (c0 : Int) * 16777216)) (IntKind.u32.wrap (IntKind.u32.wrap (c1 : Int) * 65536))) (IntKind.u32.wrap (IntKind.u32.wrap (c2 : Int) * 256))) (IntKind.u32.wrap (c3 : Int)) =
      ((c0 * 16777216 + c1 * 65536 + c2 * 256 + c3 : Nat) : Int) := by
  have a0 : IntKind.u32.wrap (IntKind.u32.wrap (c0 : Int) * 16777216) = ((c0 * 16777216 : Nat) : Int) := by rw [IntKind.wrap_u32', IntKind.wrap_u32']; omega
  have a1 : IntKind.u32.wrap (IntKind.u32.wrap (c1 : Int) * 65536) = ((c1 * 65536 : Nat) : Int) := by rw [IntKind.wrap_u32', IntKind.wrap_u32']; omega
  have a2 : IntKind.u32.wrap (IntKind.u32.wrap (c2 : Int) * 256) = ((c2 * 256 : Nat) : Int) := by rw [IntKind.wrap_u32', IntKind.wrap_u32']; omega
  have a3 : IntKind.u32.wrap (c3 : Int) = (c3 : Int) := by rw [IntKind.wrap_u32']; omega
  rw [a0, a1, a2, a3]
  rw [u32_or_nat _ _ (by omega) (by omega), nat_join 24 _ _ (by omega) (by omega)]
  rw [u32_or_nat _ _ (by omega) (by omega), nat_join 16 _ _ (by omega) (by omega)]
  rw [u32_or_nat _ _ (by omega) (by omega), nat_join 8 _ _ (by omega) (by omega)]

set_option maxHeartbeats 1000000 in
theorem told_of (n₀ : Nat) (l : List Nat) (c0 c1 c2 c3 : Nat) (e0 : l[0]? = some c0) (e1 : l[1]? = some c1) (e2 : l[2]? = some c2) (e3 : l[3]? = some c3) (v : Value) (w : World) (hB : Bs n₀ w v l) (hl : ∀ c ∈ l, c < 256) :
    Calls Tryz.prog 146 #[v] w fun e w' => e = .returned (.int .u32 ((c0 * 16777216 + c1 * 65536 + c2 * 256 + c3 : Nat) : Int)) ∧ ∃ k, w' = w.drewN k := by
  obtain ⟨ao, cap, rfl, h2, h3, h4, h5⟩ := id hB
  have h4l : 3 < l.length := (List.getElem?_eq_some_iff.1 e3).1
  obtain ⟨b, off, rfl, hb, hc⟩ := h5 (by rintro rfl; simp at h4l)
  have d0 : w.cell? ⟨b, off, none⟩ = some (.int .u8 (c0 : Int)) := hc 0 c0 e0
  have d1 := hc 1 c1 e1
  have d2 := hc 2 c2 e2
  have d3 := hc 3 c3 e3
  have k0 : c0 < 256 := hl c0 (List.mem_of_getElem? e0)
  have k1 : c1 < 256 := hl c1 (List.mem_of_getElem? e1)
  have k2 : c2 < 256 := hl c2 (List.mem_of_getElem? e2)
  have k3 : c3 < 256 := hl c3 (List.mem_of_getElem? e3)
  have n0 : 0 < l.length := by omega
  have n1 : 1 < l.length := by omega
  have n2 : 2 < l.length := by omega
  have p0 : (0 : Int) < (l.length : Int) := by omega
  have p1 : (1 : Int) < (l.length : Int) := by omega
  have p2 : (2 : Int) < (l.length : Int) := by omega
  have p3 : (3 : Int) < (l.length : Int) := by omega
  clear hc h5 hB h4 e0 e1 e2 e3
  go_enter Tryz.func146, Tryz.ntmps146
  go_wp2
  go_quiet (fail)
  go_wp2
  go_ret
  refine ⟨?_, nq, rfl⟩
  rw [← or4 c0 c1 c2 c3 k0 k1 k2 k3]
  first
    | rfl
    | (have u0 : IntKind.u32.wrap (c0 : Int) = (c0 : Int) := by rw [IntKind.wrap_u32']; omega
       have u1 : IntKind.u32.wrap (c1 : Int) = (c1 : Int) := by rw [IntKind.wrap_u32']; omega
       have u2 : IntKind.u32.wrap (c2 : Int) = (c2 : Int) := by rw [IntKind.wrap_u32']; omega
       have u3 : IntKind.u32.wrap (c3 : Int) = (c3 : Int) := by rw [IntKind.wrap_u32']; omega
       have v0 : IntKind.u32.wrap ((c0 : Int) * 16777216) = (c0 : Int) * 16777216 := by rw [IntKind.wrap_u32']; omega
       have v1 : IntKind.u32.wrap ((c1 : Int) * 65536) = (c1 : Int) * 65536 := by rw [IntKind.wrap_u32']; omega
       have v2 : IntKind.u32.wrap ((c2 : Int) * 256) = (c2 : Int) * 256 := by rw [IntKind.wrap_u32']; omega
       rw [u0, u1, u2, u3, v0, v1, v2]
       rfl)
end Go.Proofs.YtgfoogeiancecaaGreatDoor.Fr

/- The contracts of bytes.Clone and crc.Open: the bytes behind their sum in memory of the call's own, or nothing. -/
namespace Go.Proofs.YtgfoogeiancecaaGreatDoor.Fr
open Go.RowKit CrcMath FrameMath
set_option maxRecDepth 100000
set_option linter.unusedSimpArgs false

theorem Bs.drop {n₀ : Nat} {w : World} {l : List Nat} {b off cap : Nat} (h : Bs n₀ w (.slice (some ⟨b, off, none⟩) l.length cap) l) (k : Nat) (hk : k ≤ l.length) :
    Bs n₀ w (.slice (if cap = k then some ⟨b, off, none⟩ else some ⟨b, off + k, none⟩) (l.length - k) (cap - k)) (l.drop k) := by
  obtain ⟨ao, cap', h1, h2, h3, h4, h5⟩ := h
  cases h1
  refine ⟨_, _, by rw [List.length_drop], by rw [List.length_drop]; omega, by omega, (fun h => by split at h <;> cases h), fun hne => ?_⟩
  have hne' : l ≠ [] := by rintro rfl; simp at hne
  have hlk : k < l.length := by
    rcases Nat.lt_or_ge k l.length with h | h
    · exact h
    · exact absurd (List.drop_eq_nil_of_le h) hne
  obtain ⟨b', off', e1, e2, e3⟩ := h5 hne'
  cases e1
  refine ⟨b, off + k, by rw [if_neg (by omega)], e2, fun j c hj => ?_⟩
  rw [List.getElem?_drop] at hj
  rw [Nat.add_assoc]
  exact e3 (k + j) c hj

theorem Bs.drewN {n₀ : Nat} {w : World} {v : Value} {l : List Nat} (h : Bs n₀ w v l) (k : Nat) : Bs n₀ (w.drewN k) v l := h
theorem Tab.drewN {w : World} (h : Tab w) (k : Nat) : Tab (w.drewN k) := h

theorem be4_iff (c0 c1 c2 c3 s : Nat) (k0 : c0 < 256) (k1 : c1 < 256) (k2 : c2 < 256) (k3 : c3 < 256) (hs : s < 4294967296) : c0 * 16777216 + c1 * 65536 + c2 * 256 + c3 = s ↔ [c0, c1, c2, c3] = be4 s := by
  simp only [be4, List.cons.injEq, and_true]
  omega

theorem take4 : ∀ (l : List Nat) (h : 4 ≤ l.length), l.take 4 = [l[0], l[1], l[2], l[3]]
  | _ :: _ :: _ :: _ :: _, _ => rfl

theorem open_short (n₀ : Nat) (l : List Nat) (v : Value) (w : World) (hB : Bs n₀ w v l) (h4 : l.length < 4) :
    Calls Tryz.prog 119 #[v] w fun e w' => e = .returned (.tuple #[.slice none 0 0, .bool false]) ∧ ∃ k, w' = w.drewN k := by
  obtain ⟨ao, cap, rfl, -⟩ := hB
  have h4i : (l.length : Int) < 4 := by omega
  go_enter Tryz.func119, Tryz.ntmps119
  go_wp2
  go_quiet (fail)
  go_wp2
  go_ret2
  exact ⟨rfl, nq, rfl⟩

set_option maxHeartbeats 1000000 in
theorem open_long (n₀ : Nat) (l : List Nat) (v : Value) (w : World) (hT : Tab w) (hB : Bs n₀ w v l) (hl : ∀ c ∈ l, c < 256) (hlen : l.length ≤ 140737488355328) (h4 : 4 ≤ l.length) (hne : ¬ l.take 4 = be4 (crcSum (l.drop 4))) :
    Calls Tryz.prog 119 #[v] w fun e w' => e = .returned (.tuple #[.slice none 0 0, .bool false]) ∧ ∃ k, w' = w.drewN k := by
  obtain ⟨ao, cap, rfl, h2, h3, h4', h5⟩ := id hB
  obtain ⟨b, off, rfl, -⟩ := h5 (by rintro rfl; simp at h4)
  have hd := hB.drop 4 h4
  have hld : ∀ c ∈ l.drop 4, c < 256 := fun c hc => hl c (List.mem_of_mem_drop hc)
  have ht : ∀ k, Calls Tryz.prog 146 #[_] (w.drewN k) _ := fun k => told_of n₀ l l[0] l[1] l[2] l[3] (List.getElem?_eq_getElem _) (List.getElem?_eq_getElem _) (List.getElem?_eq_getElem _) (List.getElem?_eq_getElem _) _ (w.drewN k) (hB.drewN k) hl
  have ho : ∀ k, Calls Tryz.prog 115 #[_] (w.drewN k) _ := fun k => of_of n₀ (l.drop 4) _ (w.drewN k) (hT.drewN k) (hd.drewN k) hld
  have h4i : ¬ (l.length : Int) < 4 := by omega
  have g4i : (4 : Int) ≤ (l.length : Int) := by omega
  have e4 : l.take 4 = [l[0], l[1], l[2], l[3]] := take4 l h4
  have hne1 := mt (be4_iff l[0] l[1] l[2] l[3] (crcSum (l.drop 4)) (hl _ (List.getElem_mem _)) (hl _ (List.getElem_mem _)) (hl _ (List.getElem_mem _)) (hl _ (List.getElem_mem _)) (crcSum_lt hld)).1 (by rw [← e4]; exact hne)
  generalize l[0] * 16777216 + l[1] * 65536 + l[2] * 256 + l[3] = t at ht hne1
  generalize crcSum (l.drop 4) = s at ho hne1
  have hne2 : ¬ (t : Int) = (s : Int) := by omega
  have hne3 : ((t : Int) != (s : Int)) = true := by simpa using hne2
  clear hB hd e4 hne h5 hT
  go_enter Tryz.func119, Tryz.ntmps119
  go_wp2
  go_quiet (first | (go_at_call 146; exact Calls.quiet_of (ht _)) | (go_at_call 115; exact Calls.quiet_of_same (ho _)))
  go_wp2
  all_goals go_ret2
  all_goals exact ⟨rfl, nq, rfl⟩

set_option maxHeartbeats 1000000 in
theorem open_right (n₀ : Nat) (l : List Nat) (v : Value) (w : World) (hT : Tab w) (hB : Bs n₀ w v l) (hl : ∀ c ∈ l, c < 256) (hn₀ : n₀ ≤ w.heap.size) (hlen : l.length ≤ 140737488355328) (h4 : 4 ≤ l.length) (heq : l.take 4 = be4 (crcSum (l.drop 4))) :
    Calls Tryz.prog 119 #[v] w fun e w' => ∃ v', e = .returned (.tuple #[v', .bool true]) ∧ Own w.heap.size w' v' (l.drop 4) ∧ Below w.heap.size w w' := by
  obtain ⟨ao, cap, rfl, h2, h3, h4', h5⟩ := id hB
  obtain ⟨b, off, rfl, -⟩ := h5 (by rintro rfl; simp at h4)
  have hd := hB.drop 4 h4
  have hld : ∀ c ∈ l.drop 4, c < 256 := fun c hc => hl c (List.mem_of_mem_drop hc)
  have ht : ∀ k, Calls Tryz.prog 146 #[_] (w.drewN k) _ := fun k => told_of n₀ l l[0] l[1] l[2] l[3] (List.getElem?_eq_getElem _) (List.getElem?_eq_getElem _) (List.getElem?_eq_getElem _) (List.getElem?_eq_getElem _) _ (w.drewN k) (hB.drewN k) hl
  have ho : ∀ k, Calls Tryz.prog 115 #[_] (w.drewN k) _ := fun k => of_of n₀ (l.drop 4) _ (w.drewN k) (hT.drewN k) (hd.drewN k) hld
  have h4i : ¬ (l.length : Int) < 4 := by omega
  have g4i : (4 : Int) ≤ (l.length : Int) := by omega
  have e4 : l.take 4 = [l[0], l[1], l[2], l[3]] := take4 l h4
  have hne1 := (be4_iff l[0] l[1] l[2] l[3] (crcSum (l.drop 4)) (hl _ (List.getElem_mem _)) (hl _ (List.getElem_mem _)) (hl _ (List.getElem_mem _)) (hl _ (List.getElem_mem _)) (crcSum_lt hld)).2 (by rw [← e4]; exact heq)
  rw [hne1] at ht
  generalize crcSum (l.drop 4) = s at ho ht
  have hlen' : (l.drop 4).length ≤ 140737488355328 := by rw [List.length_drop]; omega
  clear hB e4 heq h5 hT hne1
  generalize l.drop 4 = r at hd hlen' ⊢
  have hcl : ∃ a, (if cap = 4 then some (⟨b, off, none⟩ : Addr) else some ⟨b, off + 4, none⟩) = some a := by split <;> exact ⟨_, rfl⟩
  obtain ⟨a, ha⟩ := hcl
  have hc : ∀ k, Calls Tryz.prog 79 #[_] (w.drewN k) _ := fun k => clone_of n₀ r (.slice (some a) (l.length - 4) (cap - 4)) (w.drewN k) (by rw [← ha]; exact hd.drewN k) hn₀ hlen'
  rw [ha] at ho
  clear hd
  go_enter Tryz.func119, Tryz.ntmps119
  go_wp2
  go_quiet (first | (go_at_call 146; exact Calls.quiet_of (ht _)) | (go_at_call 115; exact Calls.quiet_of_same (ho _)))
  go_wp2_with fail
  refine (hc _).mono ?_
  rintro e w1 ⟨v', rfl, hO, hb⟩
  go_wp2
  go_ret2
  exact ⟨v', rfl, hO, (below_drewN (Below.refl _ _) _).trans hb⟩
end Go.Proofs.YtgfoogeiancecaaGreatDoor.Fr

/- Bytes as a text: what string(b) is where b's cells are known, and that unlike bytes are unlike texts. -/
namespace Go.Proofs.YtgfoogeiancecaaGreatDoor.Fr
open Go.RowKit CrcMath
set_option maxRecDepth 100000
set_option linter.unusedSimpArgs false

/-- Bytes as a text. -/
def str (l : List Nat) : ByteArray := ⟨(l.map UInt8.ofNat).toArray⟩

theorem str_nil (w : World) : (convert 32 9 (.slice none 0 0)).run Tryz.prog w = .ok (.string (str [])) w := by kernel_rfl

theorem str_of {n₀ : Nat} {w : World} {v : Value} {l : List Nat} (h : Bs n₀ w v l) (hl : ∀ c ∈ l, c < 256) :
    (convert 32 9 v).run Tryz.prog w = .ok (.string (str l)) w := by
  obtain ⟨ao, cap, rfl, h2, h3, h4, h5⟩ := h
  cases ao with
  | none =>
    have := h4 rfl
    obtain rfl : l = [] := List.eq_nil_of_length_eq_zero (by omega)
    obtain rfl : cap = 0 := by omega
    exact str_nil w
  | some ad =>
    have e := run_convert_bytes_back (P := Tryz.prog) w 32 9 5 ad cap (l.map UInt8.ofNat) Tryz.underlying32 Tryz.underlying5 Tryz.underlying9 ?_
    · rw [List.length_map] at e; exact e
    · intro j hj
      rw [List.length_map] at hj
      have hne : l ≠ [] := by rintro rfl; simp at hj
      obtain ⟨b, off, e1, _, e3⟩ := h5 hne
      obtain rfl := Option.some.inj e1
      have := e3 j l[j] (by simp [hj])
      have hc := hl l[j] (List.getElem_mem hj)
      rw [Addr.add_lit, this]
      simp only [List.getElem_map, UInt8.toNat_ofNat']
      rw [Nat.mod_eq_of_lt (by omega)]

theorem str_inj {l r : List Nat} (hl : ∀ c ∈ l, c < 256) (hr : ∀ c ∈ r, c < 256) (h : str l = str r) : l = r := by
  have h1 : l.map UInt8.ofNat = r.map UInt8.ofNat := by
    have := congrArg (fun x => x.data.toList) h
    simpa [str] using this
  have back : ∀ m : List Nat, (∀ c ∈ m, c < 256) → (m.map UInt8.ofNat).map UInt8.toNat = m := by
    intro m hm
    rw [List.map_map]
    conv => rhs; rw [← List.map_id m]
    apply List.map_congr_left
    intro c hc
    have := hm c hc
    simp [Nat.mod_eq_of_lt this]
  rw [← back l hl, ← back r hr, h1]
end Go.Proofs.YtgfoogeiancecaaGreatDoor.Fr

