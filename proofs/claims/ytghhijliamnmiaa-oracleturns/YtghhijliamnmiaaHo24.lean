import Derived.Test.YtghhijliamnmiaaHo15
import Derived.Deep.LoopGhost
/- The contracts of the program's Uvarint and of the document's own: the number's bytes behind what was there, in memory of the call's own; what lay in memory before stays as it was. -/
namespace Go.Proofs.Ytghhijliamnmiaa.Wi
open Go.RowKit WireMath
set_option maxRecDepth 100000
set_option linter.unusedSimpArgs false

theorem one_cell (w : World) (x : Nat) : ∀ j u, (bc [x])[j]? = some u → (w.alloc (.cells #[.int .u8 (x : Int)] 5)).cell? ((⟨w.heap.size, 0, none⟩ : Addr).add j) = some u := by
  intro j u hj
  obtain ⟨c, hc, rfl⟩ := bc_get hj
  rw [Addr.add_lit, cells_of_block (heap_alloc_new w _)]
  match j, hc with
  | 0, hc => simp at hc; subst hc; rfl

set_option maxHeartbeats 1000000 in
theorem uvarint_of (n₀ : Nat) (l : List Nat) (v : Value) (n : Nat) (w : World) (hB : Bs n₀ w v l) (hn : n < 18446744073709551616) (hlen : l.length ≤ 140737488355000) :
    Calls Try.prog 23 #[v, .int .u64 (n : Int)] w fun e w' => ∃ v', e = .returned v' ∧ Own w.heap.size w' v' (l ++ uv n) ∧ Below w.heap.size w w' := by
  obtain ⟨ao, cap, rfl, h2, h3, _⟩ := id hB
  have hu := uv_len10 hn
  have hF : Gr w.heap.size w (.slice ao l.length l.length) l := Bs.full hB
  go_enter Try.func23, Try.ntmps23
  go_wp2
  go_loopg [0, 1] n (fun g s0 s1 wr => ∃ k, s1 = .int .u64 (g : Int) ∧ Gr w.heap.size wr s0 (l ++ k) ∧ Below w.heap.size w wr ∧ Hid (k ++ uv g = uv n) ∧ g < 18446744073709551616)
  case atStart => exact ⟨[], rfl, by rw [List.append_nil]; exact hF, Below.refl _ _, rfl, hn⟩
  case round =>
    obtain ⟨k, rfl, hG, hB, HU, hg⟩ := hrel
    by_cases hlt : gk < 128
    · have hgi : (gk : Int) < 128 := by omega
      have E : Hid (uv n = k ++ [gk]) := by show _ = _; rw [← HU.out, uv_lt hlt]
      have hl2 : (l ++ k).length + 1 ≤ 140737488355328 := by
        have e := congrArg List.length HU.out
        simp only [List.length_append] at e ⊢
        omega
      have q1 : IntKind.u8.wrap (gk : Int) = (gk : Int) := IntWalk.u8_in _ (by omega)
      have hG1 := hG.below ((Below.refl wr.heap.size wr).alloc (Nat.le_refl _) (.cells #[.int .u8 (gk : Int)] 5))
      have hc1 := one_cell wr gk
      have hsz := hB.size
      go_wp2_with (at_builtin; refine wpList_append_gr rfl _ _ rfl w.heap.size _ (l ++ k) rfl hG1 ?sz _ _ [gk] rfl (by simp) hc1 hl2 ?_)
      case sz => simp; omega
      intro v' w' hO hb
      go_wp2
      go_ret
      refine ⟨_, rfl, ?_, hB.trans ((Below.refl _ wr).alloc hsz _ |>.trans hb)⟩
      rw [E.out]
      exact hO
    · have hgi : ¬ (gk : Int) < 128 := by omega
      have E : Hid (k ++ [gk % 128 + 128] ++ uv (gk / 128) = uv n) := by show _ = _; rw [← HU.out, uv_ge hlt]; simp
      have hl2 : (l ++ k).length + 1 ≤ 140737488355328 := by
        have e := congrArg List.length HU.out
        have := uv_pos gk
        simp only [List.length_append] at e ⊢
        omega
      have hG1 := hG.below ((Below.refl wr.heap.size wr).alloc (Nat.le_refl _) (.cells #[.int .u8 ((gk % 128 + 128 : Nat) : Int)] 5))
      have hc1 := one_cell wr (gk % 128 + 128)
      have hsz := hB.size
      go_wp2_with (at_builtin; refine wpList_append_gr rfl _ _ rfl w.heap.size _ (l ++ k) rfl hG1 ?sz _ _ [gk % 128 + 128] rfl (by simp) hc1 hl2 ?_)
      case sz => omega
      intro v' w' hO hb
      go_wp2
      go_roundg (gk / 128)
      case measure => omega
      case rel => exact ⟨k ++ [gk % 128 + 128], by go_num, .inr hO, hB.trans ((Below.refl _ wr).alloc hsz _ |>.trans hb), E, by omega⟩

set_option maxHeartbeats 1000000 in
theorem refUvarint_of (n : Nat) (w : World) (hn : n < 18446744073709551616) :
    Calls Try.prog 28 #[.int .u64 (n : Int)] w fun e w' => ∃ v', e = .returned v' ∧ Own w.heap.size w' v' (uv n) ∧ Below w.heap.size w w' := by
  have hu := uv_len10 hn
  go_enter Try.func28, Try.ntmps28
  go_wp2
  go_loopg [0, 3] n (fun g s0 s3 wr => ∃ k, s0 = .int .u64 (g : Int) ∧ Own w.heap.size wr s3 k ∧ Below w.heap.size w wr ∧ Hid (k ++ uv g = uv n) ∧ g < 18446744073709551616)
  case atStart => exact ⟨[], rfl, Own.nil _ _, Below.refl _ _, rfl, hn⟩
  case round =>
    obtain ⟨k, rfl, hG, hB, HU, hg⟩ := hrel
    have hl2 : k.length + 1 ≤ 140737488355328 := by
      have e := congrArg List.length HU.out
      simp only [List.length_append] at e ⊢
      omega
    have hsz := hB.size
    by_cases hlt : gk < 128
    · have hgi : (gk : Int) < 128 := by omega
      have E : Hid (uv n = k ++ [gk]) := by show _ = _; rw [← HU.out, uv_lt hlt]
      have q1 : IntKind.u8.wrap (gk : Int) = (gk : Int) := IntWalk.u8_in _ (by omega)
      have hG1 : Gr w.heap.size _ _ _ := .inr (hG.below ((Below.refl wr.heap.size wr).alloc (Nat.le_refl _) (.cells #[.int .u8 (gk : Int)] 5)))
      have hc1 := one_cell wr gk
      go_wp2_with (at_builtin; refine wpList_append_gr rfl _ _ rfl w.heap.size _ k rfl hG1 ?sz _ _ [gk] rfl (by simp) hc1 hl2 ?_)
      case sz => simp; omega
      intro v' w' hO hb
      go_wp2
      go_ret
      refine ⟨_, rfl, ?_, hB.trans ((Below.refl _ wr).alloc hsz _ |>.trans hb)⟩
      rw [E.out]
      exact hO
    · have hgi : ¬ (gk : Int) < 128 := by omega
      have E : Hid (k ++ [gk % 128 + 128] ++ uv (gk / 128) = uv n) := by show _ = _; rw [← HU.out, uv_ge hlt]; simp
      have hG1 : Gr w.heap.size _ _ _ := .inr (hG.below ((Below.refl wr.heap.size wr).alloc (Nat.le_refl _) (.cells #[.int .u8 ((gk % 128 + 128 : Nat) : Int)] 5)))
      have hc1 := one_cell wr (gk % 128 + 128)
      go_wp2_with (at_builtin; refine wpList_append_gr rfl _ _ rfl w.heap.size _ k rfl hG1 ?sz _ _ [gk % 128 + 128] rfl (by simp) hc1 hl2 ?_)
      case sz => omega
      intro v' w' hO hb
      go_wp2
      go_roundg (gk / 128)
      case measure => omega
      case rel => exact ⟨k ++ [gk % 128 + 128], by go_num, hO, hB.trans ((Below.refl _ wr).alloc hsz _ |>.trans hb), E, by omega⟩

end Go.Proofs.Ytghhijliamnmiaa.Wi

