import Derived.Test.YtdcpdcnipmfdjaaDoorR46
import Derived.Test.YtdcpdcnipmfdjaaDoorR20
/- The contracts of the program's mayBe and Encode: a state's bytes. -/
namespace Go.Proofs.YtdcpdcnipmfdjaaDoor.Fr
open Go.RowKit WireMath CrcMath FrameMath
set_option maxRecDepth 100000
set_option linter.unusedSimpArgs false
set_option linter.unusedVariables false

/-- A state as a value. -/
def hdA (t v c : Int) : Array Value := #[.int .u64 t, .int .i64 v, .int .u64 c]

theorem mayBe_yes (t c v : Int) (w : World) (h0 : 0 ≤ v) (h7 : v ≤ 7) : Calls Tryd.prog 13 #[.agg #[.int .u64 t, .int .i64 v, .int .u64 c]] w fun e w' => e = .returned (.bool true) ∧ Below w.heap.size w w' := by
  have hb := (Below.refl w.heap.size w).alloc (Nat.le_refl _) (.cells #[.int .u64 t, .int .i64 v, .int .u64 c] 24)
  go_enter Tryd.func13, Tryd.ntmps13
  go_wp2
  go_ret
  exact ⟨by simp [h7], hb⟩
theorem mayBe_no (t c v : Int) (w : World) (h : ¬ (0 ≤ v ∧ v ≤ 7)) : Calls Tryd.prog 13 #[.agg #[.int .u64 t, .int .i64 v, .int .u64 c]] w fun e w' => e = .returned (.bool false) ∧ Below w.heap.size w w' := by
  have hb := (Below.refl w.heap.size w).alloc (Nat.le_refl _) (.cells #[.int .u64 t, .int .i64 v, .int .u64 c] 24)
  by_cases h0 : 0 ≤ v
  · have h7 : ¬ v ≤ 7 := fun h7 => h ⟨h0, h7⟩
    clear h
    go_enter Tryd.func13, Tryd.ntmps13
    go_wp2
    go_ret
    exact ⟨by simp [h7], hb⟩
  · clear h
    go_enter Tryd.func13, Tryd.ntmps13
    go_wp2
    go_ret
    exact ⟨rfl, hb⟩

set_option maxHeartbeats 1000000 in
theorem encode_no (t c v : Int) (w : World) (h : ¬ (0 ≤ v ∧ v ≤ 7)) : Calls Tryd.prog 5 #[.agg #[.int .u64 t, .int .i64 v, .int .u64 c]] w fun e w' => e = .returned (.tuple #[.slice none 0 0, .int .i64 1]) ∧ Below w.heap.size w w' := by
  have hb := (Below.refl w.heap.size w).alloc (Nat.le_refl _) (.cells #[.int .u64 t, .int .i64 v, .int .u64 c] 24)
  have k := mayBe_no t c v (w.alloc (.cells #[.int .u64 t, .int .i64 v, .int .u64 c] 24)) h
  clear h
  go_enter Tryd.func5, Tryd.ntmps5
  go_wp2_with fail
  refine k.mono ?_
  rintro e w1 ⟨rfl, hb1⟩
  go_wp2
  go_ret2
  exact ⟨rfl, hb.trans (hb1.mono hb.size)⟩

set_option maxHeartbeats 2000000 in
theorem encode_of (t v c : Nat) (w : World) (hT : Tab w) (ht : t < 18446744073709551616) (hv : v ≤ 7) (hc : c < 18446744073709551616) :
    Calls Tryd.prog 5 #[.agg #[.int .u64 (t : Int), .int .i64 (v : Int), .int .u64 (c : Int)]] w fun e w' => ∃ a n cp, e = .returned (.tuple #[.slice a n cp, .int .i64 0]) ∧ Own w.heap.size w' (.slice a n cp) (hdB t v c) ∧ Below w.heap.size w w' := by
  have hb := (Below.refl w.heap.size w).alloc (Nat.le_refl _) (.cells #[.int .u64 (t : Int), .int .i64 (v : Int), .int .u64 (c : Int)] 24)
  have hbk := heap_alloc_new w (.cells #[.int .u64 (t : Int), .int .i64 (v : Int), .int .u64 (c : Int)] 24)
  have hsz : (w.alloc (.cells #[.int .u64 (t : Int), .int .i64 (v : Int), .int .u64 (c : Int)] 24)).heap.size = w.heap.size + 1 := by simp
  have hcs : ∀ W, Below (w.heap.size + 1) (w.alloc (.cells #[.int .u64 (t : Int), .int .i64 (v : Int), .int .u64 (c : Int)] 24)) W → W.cell? ⟨w.heap.size, 0, none⟩ = some (.int .u64 (t : Int)) ∧ W.cell? ⟨w.heap.size, 1, none⟩ = some (.int .i64 (v : Int)) ∧ W.cell? ⟨w.heap.size, 2, none⟩ = some (.int .u64 (c : Int)) := fun W hb => by
    have h := (hb.block w.heap.size (by omega)).trans hbk
    exact ⟨by rw [cells_of_block h]; rfl, by rw [cells_of_block h]; rfl, by rw [cells_of_block h]; rfl⟩
  have k0 := mayBe_yes (t : Int) (c : Int) (v : Int) (w.alloc (.cells #[.int .u64 (t : Int), .int .i64 (v : Int), .int .u64 (c : Int)] 24)) (by omega) (by omega)
  have q1 : IntKind.u64.wrap (v : Int) = (v : Int) := by rw [IntKind.wrap_u64]; omega
  have hu1 := uv_len10 ht
  have hu2 := uv_len10 (n := v) (by omega)
  have hu3 := uv_len10 hc
  have HE : Hid (hdD t v c = ([] ++ uv t ++ uv v) ++ uv c) := by show _ = _; simp [hdD]
  have HL : Hid ((hdD t v c).length ≤ 21) := hd_len t v c ht hv hc
  have HB : Hid (∀ x ∈ hdD t v c, x < 256) := hdD_bytes t v c
  obtain ⟨L2, H2⟩ : ∃ L : List Nat, Hid (L = [] ++ uv t) := ⟨[] ++ uv t, rfl⟩
  obtain ⟨L3, H3⟩ : ∃ L : List Nat, Hid (L = L2 ++ uv v) := ⟨L2 ++ uv v, rfl⟩
  obtain ⟨L4, H4⟩ : ∃ L : List Nat, Hid (L = L3 ++ uv c) := ⟨L3 ++ uv c, rfl⟩
  have l2 : L2.length ≤ 10 := by rw [H2.out]; simpa using hu1
  have l3 : L3.length ≤ 20 := by rw [H3.out, List.length_append]; omega
  have e4 : Hid (hdD t v c = L4) := by show _ = _; rw [H4.out, H3.out, H2.out]; exact HE.out
  have k1 : ∀ w1, Calls Tryd.prog 14 #[.slice none 0 0, .int .u64 (t : Int)] w1 fun e w' => ∃ v', e = .returned v' ∧ Own w1.heap.size w' v' L2 ∧ Below w1.heap.size w1 w' := fun w1 => by
    rw [H2.out]; exact uvarint_of 0 [] (.slice none 0 0) t w1 (Bs.nil _ _) ht (by simp)
  have k2 : ∀ n w2 a p, Own n w2 (.slice a L2.length p) L2 → Calls Tryd.prog 14 #[.slice a L2.length p, .int .u64 (v : Int)] w2 fun e w' => ∃ v', e = .returned v' ∧ Own w2.heap.size w' v' L3 ∧ Below w2.heap.size w2 w' := fun n w2 a p hO => by
    rw [H3.out]; exact uvarint_of _ L2 _ v w2 hO.bs (by omega) (by omega)
  have k3 : ∀ n w2 a p, Own n w2 (.slice a L3.length p) L3 → Calls Tryd.prog 14 #[.slice a L3.length p, .int .u64 (c : Int)] w2 fun e w' => ∃ v', e = .returned v' ∧ Own w2.heap.size w' v' L4 ∧ Below w2.heap.size w2 w' := fun n w2 a p hO => by
    rw [H4.out]; exact uvarint_of _ L3 _ c w2 hO.bs hc (by omega)
  have k4 : ∀ n w4 a p, Below (w.heap.size + 1) (w.alloc (.cells #[.int .u64 (t : Int), .int .i64 (v : Int), .int .u64 (c : Int)] 24)) w4 → Own n w4 (.slice a L4.length p) L4 → Calls Tryd.prog 15 #[.int .u8 2, .slice a L4.length p] w4 fun e w' => ∃ v', e = .returned (.tuple #[v', .int .i64 0]) ∧ Own w4.heap.size w' v' (hdB t v c) ∧ Below w4.heap.size w4 w' := fun n w4 a p hb14 hO => by
    have hT4 : Tab w4 := (hT.below' hb (Nat.le_refl _)).below' hb14 (by rw [hsz]; omega)
    have hl := HL.out
    have hy := HB.out
    rw [e4.out] at hl hy
    unfold hdB
    rw [e4.out]
    exact put_of 2 L4 _ _ w4 hT4 hO.bs (by decide) hy (Nat.le_refl _) (by omega)
  generalize hdB t v c = B at *
  clear HE HL HB hT H2 H3 H4 e4
  go_enter Tryd.func5, Tryd.ntmps5
  go_wp2_with fail
  refine k0.mono ?_
  rintro e w1 ⟨rfl, hb1⟩
  rw [hsz] at hb1
  obtain ⟨c0, c1, c2⟩ := hcs _ hb1
  have k1' := k1 w1
  clear k0 k1
  go_wp2_with fail
  refine k1'.mono ?_
  rintro e w2 ⟨v2, rfl, hO2, hb2⟩
  have hb12 := hb1.trans (hb2.mono (by have := hb1.size; omega))
  clear c0 c1 c2 k1'
  obtain ⟨c0, c1, c2⟩ := hcs _ hb12
  obtain ⟨a2, p2, rfl⟩ := hO2.shape
  have k2' := k2 _ w2 a2 p2 hO2
  clear k2
  go_wp2_with fail
  refine k2'.mono ?_
  rintro e w3 ⟨v3, rfl, hO3, hb3⟩
  have hb13 := hb12.trans (hb3.mono (by have := hb12.size; omega))
  clear c0 c1 c2 k2'
  obtain ⟨c0, c1, c2⟩ := hcs _ hb13
  obtain ⟨a3, p3, rfl⟩ := hO3.shape
  have k3' := k3 _ w3 a3 p3 hO3
  clear k3
  go_wp2_with fail
  refine k3'.mono ?_
  rintro e w4 ⟨v4, rfl, hO4, hb4⟩
  have hb14 := hb13.trans (hb4.mono (by have := hb13.size; omega))
  clear c0 c1 c2 k3'
  obtain ⟨a4, p4, rfl⟩ := hO4.shape
  have k4' := k4 _ w4 a4 p4 hb14 hO4
  clear k4
  go_wp2_with fail
  refine k4'.mono ?_
  rintro e w5 ⟨v5, rfl, hO5, hb5⟩
  have hb15 := hb14.trans (hb5.mono (by have := hb14.size; omega))
  obtain ⟨a5, p5, rfl⟩ := hO5.shape
  have hOf := hO5.mono (n₁ := w.heap.size) (by have := hb14.size; omega)
  have hbf : Below w.heap.size w w5 := hb.trans (hb15.mono (by omega))
  clear k4' hO2 hO3 hO4 hO5 hcs
  go_wp2
  go_ret2
  exact ⟨_, _, _, rfl, hOf, hbf⟩
end Go.Proofs.YtdcpdcnipmfdjaaDoor.Fr

