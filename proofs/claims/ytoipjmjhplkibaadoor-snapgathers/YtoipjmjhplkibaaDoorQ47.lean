import Derived.Test.YtoipjmjhplkibaaDoorQ46
import Derived.Test.YtoipjmjhplkibaaDoorQ16
/- The contract of the program's bytesOf: a snapshot's bytes. -/
namespace Go.Proofs.YtoipjmjhplkibaaDoor.Fr
open Go.RowKit WireMath CrcMath FrameMath
set_option maxRecDepth 100000
set_option linter.unusedSimpArgs false
set_option linter.unusedVariables false

set_option maxHeartbeats 2000000 in
theorem bytesOf_of (i t : Nat) (b : List Nat) (n₀ : Nat) (bv : Value) (w : World) (hT : Tab w) (hB : Bs n₀ w bv b) (hn₀ : n₀ ≤ w.heap.size) (hby : ∀ c ∈ b, c < 256) (hi : i < 18446744073709551616) (ht : t < 18446744073709551616) (hb : b.length ≤ 32768) :
    Calls Tryd.prog 26 #[.int .u64 (i : Int), .int .u64 (t : Int), bv] w fun e w' => ∃ a n cp, e = .returned (.slice a n cp) ∧ Own w.heap.size w' (.slice a n cp) (snB i t b) ∧ Below w.heap.size w w' := by
  have hu1 := uv_len10 hi
  have hu2 := uv_len10 ht
  have HL : Hid ((snD i t b).length ≤ 32788) := sn_len i t b hi ht hb
  have HB : Hid (∀ x ∈ snD i t b, x < 256) := snD_bytes i t b hby
  obtain ⟨L2, H2⟩ : ∃ L : List Nat, Hid (L = [] ++ uv i) := ⟨[] ++ uv i, rfl⟩
  obtain ⟨L3, H3⟩ : ∃ L : List Nat, Hid (L = L2 ++ uv t) := ⟨L2 ++ uv t, rfl⟩
  have l2 : L2.length ≤ 10 := by rw [H2.out]; simpa using hu1
  have l3 : L3.length ≤ 20 := by rw [H3.out, List.length_append]; omega
  have e4 : Hid (snD i t b = L3 ++ b) := by show _ = _; rw [H3.out, H2.out]; simp [snD]
  have k1 : Calls Tryd.prog 39 #[.slice none 0 0, .int .u64 (i : Int)] w fun e w' => ∃ v', e = .returned v' ∧ Own w.heap.size w' v' L2 ∧ Below w.heap.size w w' := by
    rw [H2.out]; exact uvarint_of 0 [] (.slice none 0 0) i w (Bs.nil _ _) hi (by simp)
  have k2 : ∀ n w2 a p, Own n w2 (.slice a L2.length p) L2 → Calls Tryd.prog 39 #[.slice a L2.length p, .int .u64 (t : Int)] w2 fun e w' => ∃ v', e = .returned v' ∧ Own w2.heap.size w' v' L3 ∧ Below w2.heap.size w2 w' := fun n w2 a p hO => by
    rw [H3.out]; exact uvarint_of _ L2 _ t w2 hO.bs ht (by omega)
  have k4 : ∀ n w4 v4, Below w.heap.size w w4 → Own n w4 v4 (L3 ++ b) → Calls Tryd.prog 40 #[.int .u8 3, v4] w4 fun e w' => ∃ v', e = .returned (.tuple #[v', .int .i64 0]) ∧ Own w4.heap.size w' v' (snB i t b) ∧ Below w4.heap.size w4 w' := fun n w4 v4 hb14 hO => by
    have hT4 : Tab w4 := hT.below' hb14 (Nat.le_refl _)
    have hl := HL.out
    have hy := HB.out
    rw [e4.out] at hl hy
    unfold snB
    rw [e4.out]
    exact put_of 3 (L3 ++ b) _ _ w4 hT4 hO.bs (by decide) hy (Nat.le_refl _) (by omega)
  have hbl : L3.length + b.length ≤ 140737488355328 := by omega
  generalize snB i t b = B at *
  clear HL HB hT H2 H3 e4
  obtain ⟨ab, cb, hbv, -⟩ := id hB
  subst hbv
  go_enter Tryd.func26, Tryd.ntmps26
  go_wp2_with fail
  refine k1.mono ?_
  rintro e w2 ⟨v2, rfl, hO2, hb2⟩
  obtain ⟨a2, p2, rfl⟩ := hO2.shape
  have k2' := k2 _ w2 a2 p2 hO2
  clear k2 k1
  go_wp2_with fail
  refine k2'.mono ?_
  rintro e w3 ⟨v3, rfl, hO3, hb3⟩
  have hb13 := hb2.trans (hb3.mono hb2.size)
  obtain ⟨a3, p3, rfl⟩ := hO3.shape
  have hB3 := hB.below (hb13.mono hn₀)
  have hs3 : w2.heap.size ≤ w3.heap.size := hb3.size
  clear k2' hO2
  go_wp2_with (at_builtin; refine wpList_append_bs rfl _ _ rfl w2.heap.size _ L3 rfl hO3 ?s1 n₀ _ b rfl hB3 ?s2 ?_)
  case s1 => exact hs3
  case s2 => exact hbl
  intro v4 w4 hO4 hb4
  have hb14 := hb13.trans (hb4.mono hb2.size)
  have k4' := k4 _ w4 v4 hb14 hO4
  clear k4 hO3 hB3
  go_wp2_with fail
  refine k4'.mono ?_
  rintro e w5 ⟨v5, rfl, hO5, hb5⟩
  have hb15 := hb14.trans (hb5.mono hb14.size)
  have hOf := hO5.mono (n₁ := w.heap.size) hb14.size
  obtain ⟨a5, p5, rfl⟩ := hO5.shape
  clear k4' hO5 hO4
  go_wp2
  go_ret
  exact ⟨_, _, _, rfl, hOf, hb15⟩
end Go.Proofs.YtoipjmjhplkibaaDoor.Fr

