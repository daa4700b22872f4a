import Derived.Test.YtdcpdcnipmfdjaaGreatDoorP43
import Derived.Test.YtdcpdcnipmfdjaaGreatDoorP18
import Derived.Test.YtdcpdcnipmfdjaaGreatDoorP48
/- The contracts of the document's own May and Encode: a state's bytes. -/
namespace Go.Proofs.YtdcpdcnipmfdjaaGreatDoor.Fr
open Go.RowKit WireMath CrcMath FrameMath
set_option maxRecDepth 100000
set_option linter.unusedSimpArgs false
set_option linter.unusedVariables false

theorem refMay_yes (t c v : Int) (w : World) (h0 : 0 ≤ v) (h7 : v ≤ 7) : Calls Tryz.prog 80 #[.agg #[.int .u64 t, .int .i64 v, .int .u64 c]] w fun e w' => e = .returned (.bool true) ∧ Below w.heap.size w w' := by
  have hb := (Below.refl w.heap.size w).alloc (Nat.le_refl _) (.cells #[.int .u64 t, .int .i64 v, .int .u64 c] 54)
  go_enter Tryz.func80, Tryz.ntmps80
  go_wp2
  go_ret
  exact ⟨by simp [h7], hb⟩
theorem refMay_no (t c v : Int) (w : World) (h : ¬ (0 ≤ v ∧ v ≤ 7)) : Calls Tryz.prog 80 #[.agg #[.int .u64 t, .int .i64 v, .int .u64 c]] w fun e w' => e = .returned (.bool false) ∧ Below w.heap.size w w' := by
  have hb := (Below.refl w.heap.size w).alloc (Nat.le_refl _) (.cells #[.int .u64 t, .int .i64 v, .int .u64 c] 54)
  by_cases h0 : 0 ≤ v
  · have h7 : ¬ v ≤ 7 := fun h7 => h ⟨h0, h7⟩
    clear h
    go_enter Tryz.func80, Tryz.ntmps80
    go_wp2
    go_ret
    exact ⟨by simp [h7], hb⟩
  · clear h
    go_enter Tryz.func80, Tryz.ntmps80
    go_wp2
    go_ret
    exact ⟨rfl, hb⟩

set_option maxHeartbeats 4000000 in
theorem refEncode_of (t v c : Nat) (w : World) (ht : t < 18446744073709551616) (hv : v < 18446744073709551616) (hv63 : v < 9223372036854775808) (hc : c < 18446744073709551616) :
    Calls Tryz.prog 81 #[.agg #[.int .u64 (t : Int), .int .i64 (v : Int), .int .u64 (c : Int)]] w fun e w' => ∃ a n cp, e = .returned (.slice a n cp) ∧ Own w.heap.size w' (.slice a n cp) (hdB t v c) ∧ Below w.heap.size w w' := by
  have hb := (Below.refl w.heap.size w).alloc (Nat.le_refl _) (.cells #[.int .u64 (t : Int), .int .i64 (v : Int), .int .u64 (c : Int)] 54)
  have hbk := heap_alloc_new w (.cells #[.int .u64 (t : Int), .int .i64 (v : Int), .int .u64 (c : Int)] 54)
  have hsz : (w.alloc (.cells #[.int .u64 (t : Int), .int .i64 (v : Int), .int .u64 (c : Int)] 54)).heap.size = w.heap.size + 1 := by simp
  have hcs : ∀ W, Below (w.heap.size + 1) (w.alloc (.cells #[.int .u64 (t : Int), .int .i64 (v : Int), .int .u64 (c : Int)] 54)) W → W.cell? ⟨w.heap.size, 0, none⟩ = some (.int .u64 (t : Int)) ∧ W.cell? ⟨w.heap.size, 1, none⟩ = some (.int .i64 (v : Int)) ∧ W.cell? ⟨w.heap.size, 2, none⟩ = some (.int .u64 (c : Int)) := fun W hb => by
    have h := (hb.block w.heap.size (by omega)).trans hbk
    exact ⟨by rw [cells_of_block h]; rfl, by rw [cells_of_block h]; rfl, by rw [cells_of_block h]; rfl⟩
  have q1 : IntKind.u64.wrap (v : Int) = (v : Int) := by rw [IntKind.wrap_u64]; omega
  have hu1 := uv_len10 ht
  have hu2 := uv_len10 hv
  have hu3 := uv_len10 hc
  have hE : hdB t v c = frameB 2 ((uv t ++ uv v) ++ uv c) := by unfold hdB hdD; rw [List.append_assoc]
  have hby : ∀ x ∈ (uv t ++ uv v) ++ uv c, x < 256 := fun x hx => by
    have := hdD_bytes t v c x
    unfold hdD at this
    rw [List.append_assoc] at hx
    exact this hx
  have kf : ∀ W bv, Own (w.heap.size + 1) W bv ((uv t ++ uv v) ++ uv c) → Calls Tryz.prog 66 #[.int .u8 2, bv] W fun e w' => ∃ v', e = .returned v' ∧ Own W.heap.size w' v' (hdB t v c) ∧ Below W.heap.size W w' := fun W bv hO => by
    rw [hE]
    exact refFrame_of 2 _ W.heap.size bv W hO.bs (by decide) hby (Nat.le_refl _) (by simp; omega)
  have kt : ∀ W, Calls Tryz.prog 67 #[.int .u64 (t : Int)] W fun e w' => ∃ v', e = .returned v' ∧ Own W.heap.size w' v' (uv t) ∧ Below W.heap.size W w' := fun W => refUvarint_of t W ht
  have kv : ∀ W, Calls Tryz.prog 67 #[.int .u64 (v : Int)] W fun e w' => ∃ v', e = .returned v' ∧ Own W.heap.size w' v' (uv v) ∧ Below W.heap.size W w' := fun W => refUvarint_of v W hv
  have kc : ∀ W, Calls Tryz.prog 67 #[.int .u64 (c : Int)] W fun e w' => ∃ v', e = .returned v' ∧ Own W.heap.size w' v' (uv c) ∧ Below W.heap.size W w' := fun W => refUvarint_of c W hc
  generalize hdB t v c = B at *
  obtain ⟨L, HL⟩ : ∃ L : List Nat, Hid (L = uv t ++ uv v) := ⟨uv t ++ uv v, rfl⟩
  have hLl : L.length ≤ 20 := by rw [HL.out, List.length_append]; omega
  rw [← HL.out] at kf
  clear hE hby
  go_enter Tryz.func81, Tryz.ntmps81
  go_wp2
  generalize w.alloc (.cells #[.int .u64 (t : Int), .int .i64 (v : Int), .int .u64 (c : Int)] 54) = w0 at *
  have hdr : Below (w.heap.size + 1) w0 w0.drew := (Below.refl _ _).drew
  have y0 := hcs _ hdr
  have kt0 := kt w0.drew
  have hszd : w0.drew.heap.size = w.heap.size + 1 := hsz
  rw [hszd] at kt0
  clear kt
  go_region_held3 (fun w' => w'.cell? ⟨w.heap.size, 0, none⟩ = some (.int .u64 (t : Int)) ∧ w'.cell? ⟨w.heap.size, 1, none⟩ = some (.int .i64 (v : Int)))
    (first | exact ⟨y0.1, y0.2.1⟩ | exact ⟨y2.1, y2.2.1⟩ | exact ⟨y3.1, y3.2.1⟩ | exact ⟨y4.1, y4.2.1⟩ | go_keep)
    (first
      | (refine step_append_bs (by rfl) _ _ (by rfl) (w.heap.size + 1) _ (uv t) (by rfl) hO2' (by have := hb03.size; omega) w3.heap.size _ (uv v) (by rfl) hO3.bs (by omega) ?_; intro v4 w4 hO4 hb4; have hb04 := hb03.trans hb4; have y4 := hcs _ hb04)
      | (go_at_call 67; refine kv2.mono ?_; rintro e w3 ⟨v3, rfl, hO3, hb3⟩; have hb03 := hb02.trans (hb3.mono (by have := hb02.size; omega)); have y3 := hcs _ hb03; have hO2' := hO2.below hb3)
      | (go_at_call 67; refine kt0.mono ?_; rintro e w2 ⟨v2, rfl, hO2, hb2⟩; have hb02 := hdr.trans hb2; have y2 := hcs _ hb02; have kv2 := kv w2))
  rw [← HL.out] at hO4
  obtain ⟨a4, p4, hv4⟩ := hO4.shape
  subst hv4
  have z0 := (hcs _ hb04).2.2
  have kc5 := kc w4
  have hs5 : w.heap.size + 1 ≤ w4.heap.size := by have := hb04.size; omega
  clear kv kv2 kt0 hO2 hO2' hO3 y0 y2 y3 y4 kc HL
  go_wp2_with fail
  refine kc5.mono ?_
  rintro e w6 ⟨v6, rfl, hO6, hb6⟩
  have hb06 := hb04.trans (hb6.mono hs5)
  have z6 := (hcs _ hb06).2.2
  have hO6' := hO4.below hb6
  clear kc5 z0
  go_wp2_with (at_builtin; refine wpList_append_bs rfl _ _ rfl (w.heap.size + 1) _ L rfl hO6' ?s1 w6.heap.size _ (uv c) rfl hO6.bs ?s2 ?_)
  case s1 => have := hb06.size; omega
  case s2 => omega
  intro v7 w7 hO7 hb7
  have hb07 := hb06.trans hb7
  have kf7 := kf w7 v7 hO7
  clear kf z6 hO6 hO6' hO4
  go_wp2_with fail
  refine kf7.mono ?_
  rintro e w8 ⟨v8, rfl, hO8, hb8⟩
  have hb08 := hb07.trans (hb8.mono (by have := hb07.size; omega))
  have hbf : Below w.heap.size w w8 := hb.trans (hb08.mono (by omega))
  have hOf := hO8.mono (n₁ := w.heap.size) (by have := hb07.size; omega)
  obtain ⟨a8, p8, hv8⟩ := hO8.shape
  subst hv8
  clear hcs kf7 hO7 hO8
  go_wp2
  go_ret
  exact ⟨_, _, _, rfl, hOf, hbf⟩
end Go.Proofs.YtdcpdcnipmfdjaaGreatDoor.Fr

