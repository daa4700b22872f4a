import Derived.Test.YtoipjmjhplkibaaGreatDoorP30
import Derived.Test.YtoipjmjhplkibaaGreatDoorP15
import Derived.Test.YtoipjmjhplkibaaGreatDoorP28
/- The contract of the document's own Encode: a snapshot's bytes. -/
namespace Go.Proofs.YtoipjmjhplkibaaGreatDoor.Fr
open Go.RowKit WireMath CrcMath FrameMath
set_option maxRecDepth 100000
set_option linter.unusedSimpArgs false
set_option linter.unusedVariables false

set_option maxHeartbeats 4000000 in
theorem refEncode_of (i t : Nat) (l : List Nat) (n₀ : Nat) (ab : Option Addr) (cb : Nat) (w : World) (hB : Bs n₀ w (.slice ab l.length cb) l) (hn₀ : n₀ ≤ w.heap.size) (hly : ∀ c ∈ l, c < 256) (hi : i < 18446744073709551616) (ht : t < 18446744073709551616) (hll : l.length ≤ 32768) :
    Calls Tryz.prog 80 #[.agg #[.int .u64 (i : Int), .int .u64 (t : Int), .slice ab l.length cb]] w fun e w' => ∃ a n cp, e = .returned (.slice a n cp) ∧ Own w.heap.size w' (.slice a n cp) (snB i t l) ∧ Below w.heap.size w w' := by
  have hb := (Below.refl w.heap.size w).alloc (Nat.le_refl _) (.cells #[.int .u64 (i : Int), .int .u64 (t : Int), .slice ab l.length cb] 57)
  have hbk := heap_alloc_new w (.cells #[.int .u64 (i : Int), .int .u64 (t : Int), .slice ab l.length cb] 57)
  have hsz : (w.alloc (.cells #[.int .u64 (i : Int), .int .u64 (t : Int), .slice ab l.length cb] 57)).heap.size = w.heap.size + 1 := by simp
  have hcs : ∀ W, Below (w.heap.size + 1) (w.alloc (.cells #[.int .u64 (i : Int), .int .u64 (t : Int), .slice ab l.length cb] 57)) W → W.cell? ⟨w.heap.size, 0, none⟩ = some (.int .u64 (i : Int)) ∧ W.cell? ⟨w.heap.size, 1, none⟩ = some (.int .u64 (t : Int)) ∧ W.cell? ⟨w.heap.size, 2, none⟩ = some (.slice ab l.length cb) := fun W hb => by
    have h := (hb.block w.heap.size (by omega)).trans hbk
    exact ⟨by rw [cells_of_block h]; rfl, by rw [cells_of_block h]; rfl, by rw [cells_of_block h]; rfl⟩
  have hu1 := uv_len10 hi
  have hu2 := uv_len10 ht
  have hE : snB i t l = frameB 3 ((uv i ++ uv t) ++ l) := by unfold snB snD; rw [List.append_assoc]
  have hby : ∀ x ∈ (uv i ++ uv t) ++ l, x < 256 := fun x hx => by
    have := snD_bytes i t l hly x
    unfold snD at this
    rw [List.append_assoc] at hx
    exact this hx
  have hBb : ∀ W, Below (w.heap.size + 1) (w.alloc (.cells #[.int .u64 (i : Int), .int .u64 (t : Int), .slice ab l.length cb] 57)) W → Bs n₀ W (.slice ab l.length cb) l := fun W hbW => (hB.below (hb.mono hn₀)).below (hbW.mono (by omega))
  have kf : ∀ W bv, Own (w.heap.size + 1) W bv ((uv i ++ uv t) ++ l) → Calls Tryz.prog 62 #[.int .u8 3, bv] W fun e w' => ∃ v', e = .returned v' ∧ Own W.heap.size w' v' (snB i t l) ∧ Below W.heap.size W w' := fun W bv hO => by
    rw [hE]
    exact refFrame_of 3 _ W.heap.size bv W hO.bs (by decide) hby (Nat.le_refl _) (by simp; omega)
  have kt : ∀ W, Calls Tryz.prog 63 #[.int .u64 (i : Int)] W fun e w' => ∃ v', e = .returned v' ∧ Own W.heap.size w' v' (uv i) ∧ Below W.heap.size W w' := fun W => refUvarint_of i W hi
  have kv : ∀ W, Calls Tryz.prog 63 #[.int .u64 (t : Int)] W fun e w' => ∃ v', e = .returned v' ∧ Own W.heap.size w' v' (uv t) ∧ Below W.heap.size W w' := fun W => refUvarint_of t W ht
  generalize snB i t l = B at *
  obtain ⟨L, HL⟩ : ∃ L : List Nat, Hid (L = uv i ++ uv t) := ⟨uv i ++ uv t, rfl⟩
  have hLl : L.length ≤ 20 := by rw [HL.out, List.length_append]; omega
  rw [← HL.out] at kf
  clear hE hby hB
  go_enter Tryz.func80, Tryz.ntmps80
  go_wp2
  generalize w.alloc (.cells #[.int .u64 (i : Int), .int .u64 (t : Int), .slice ab l.length cb] 57) = w0 at *
  have hdr : Below (w.heap.size + 1) w0 w0.drew := (Below.refl _ _).drew
  have y0 := hcs _ hdr
  have kt0 := kt w0.drew
  have hszd : w0.drew.heap.size = w.heap.size + 1 := hsz
  rw [hszd] at kt0
  clear kt
  go_region_held3 (fun w' => w'.cell? ⟨w.heap.size, 0, none⟩ = some (.int .u64 (i : Int)) ∧ w'.cell? ⟨w.heap.size, 1, none⟩ = some (.int .u64 (t : Int)))
    (first | exact ⟨y0.1, y0.2.1⟩ | exact ⟨y2.1, y2.2.1⟩ | exact ⟨y3.1, y3.2.1⟩ | exact ⟨y4.1, y4.2.1⟩ | go_keep)
    (first
      | (refine step_append_bs (by rfl) _ _ (by rfl) (w.heap.size + 1) _ (uv i) (by rfl) hO2' (by have := hb03.size; omega) w3.heap.size _ (uv t) (by rfl) hO3.bs (by omega) ?_; intro v4 w4 hO4 hb4; have hb04 := hb03.trans hb4; have y4 := hcs _ hb04)
      | (go_at_call 63; refine kv2.mono ?_; rintro e w3 ⟨v3, rfl, hO3, hb3⟩; have hb03 := hb02.trans (hb3.mono (by have := hb02.size; omega)); have y3 := hcs _ hb03; have hO2' := hO2.below hb3)
      | (go_at_call 63; refine kt0.mono ?_; rintro e w2 ⟨v2, rfl, hO2, hb2⟩; have hb02 := hdr.trans hb2; have y2 := hcs _ hb02; have kv2 := kv w2))
  rw [← HL.out] at hO4
  obtain ⟨a4, p4, hv4⟩ := hO4.shape
  subst hv4
  have z0 := (hcs _ hb04).2.2
  have hB4 := hBb _ hb04
  have hs5 : w.heap.size + 1 ≤ w4.heap.size := by have := hb04.size; omega
  clear kv kv2 kt0 hO2 hO2' hO3 y0 y2 y3 y4 HL hBb
  go_wp2_with (at_builtin; refine wpList_append_bs rfl _ _ rfl (w.heap.size + 1) _ L rfl hO4 ?s1 n₀ _ l rfl hB4 ?s2 ?_)
  case s1 => exact hs5
  case s2 => omega
  intro v7 w7 hO7 hb7
  have hb07 := hb04.trans hb7
  have kf7 := kf w7 v7 hO7
  clear kf z0 hO4 hB4
  go_wp2_with fail
  refine kf7.mono ?_
  rintro e w8 ⟨v8, rfl, hO8, hb8⟩
  have hb08 := hb07.trans (hb8.mono (by have := hb07.size; omega))
  have hbf : Below w.heap.size w w8 := hb.trans (hb08.mono (by omega))
  have hOf := hO8.mono (n₁ := w.heap.size) (by have := hb07.size; omega)
  obtain ⟨a8, p8, hv8⟩ := hO8.shape
  subst hv8
  clear hcs kf7 hO7 hO8
  go_wp2
  go_ret
  exact ⟨_, _, _, rfl, hOf, hbf⟩
end Go.Proofs.YtoipjmjhplkibaaGreatDoor.Fr

