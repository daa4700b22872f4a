import Derived.Test.YtdcpdcnipmfdjaaGreatDoorP47
import Derived.Test.YtdcpdcnipmfdjaaGreatDoorP51
/- The law HardDecodes: true at any bytes; what lay in memory before stays as it was. -/
namespace Go.Proofs.YtdcpdcnipmfdjaaGreatDoor.Fr
open Go.RowKit WireMath CrcMath FrameMath
set_option maxRecDepth 100000
set_option linter.unusedSimpArgs false
set_option linter.unusedVariables false

set_option maxHeartbeats 1000000 in
theorem decodes_long (l : List Nat) (v : Value) (w : World) (hT : Tb w) (hB : Bs w.heap.size w v l) (h : 5000 < l.length) :
    Calls Tryz.prog 5 #[v] w fun e w' => e = .returned (.bool true) ∧ Below w.heap.size w w' := by
  have ka := hawake_of w hT
  obtain ⟨ao, cap, rfl, -⟩ := hB
  have i : (5000 : Int) < (l.length : Int) := by omega
  go_enter Tryz.func5, Tryz.ntmps5
  go_wp2_with fail
  refine ka.mono ?_
  rintro e w1 ⟨rfl, hb⟩
  go_wp2
  go_ret
  exact ⟨rfl, hb⟩

set_option maxHeartbeats 2000000 in
theorem decodes_short (l : List Nat) (v : Value) (w : World) (hT : Tb w) (hB : Bs w.heap.size w v l) (hl : ∀ c ∈ l, c < 256) (h : l.length ≤ 5000) :
    Calls Tryz.prog 5 #[v] w fun e w' => e = .returned (.bool true) ∧ Below w.heap.size w w' := by
  have ka : ∀ w', Below w.heap.size w w' → Calls Tryz.prog 25 #[] w' fun e w'' => e = .returned (.bool true) ∧ Below w'.heap.size w' w'' := fun w' hb => hawake_of w' (hT.new hb)
  have kn : ∀ w' v', Below w.heap.size w w' → Bs w'.heap.size w' v' l → Calls Tryz.prog 26 #[v'] w' fun e w'' => e = .returned (decV (hdDec l)) ∧ Below w'.heap.size w' w'' := fun w' v' hb hB' => decode_of _ l v' w' (hT.new hb).1 hB' hl (Nat.le_refl _) (by omega)
  have kr : ∀ w', Below w.heap.size w w' → Calls Tryz.prog 27 #[v] w' fun e w'' => e = .returned (rdecV (hdDec l)) ∧ Below w'.heap.size w' w'' := fun w' hb => refDecode_of _ l v w' (hB.below hb) hl hb.size (by omega)
  have hO := own_new w #[] [] rfl (by simp)
  have hb1 := (Below.refl w.heap.size w).alloc (Nat.le_refl _) (.cells #[] 5)
  have hB1 := hB.below hb1
  have hc1 : (([] : List Nat).length + l.length) ≤ 140737488355328 := by simp; omega
  obtain ⟨ao, cap, rfl, -⟩ := id hB
  have i : ¬ (5000 : Int) < (l.length : Int) := by omega
  generalize hdDec l = X at *
  cases X with
  | none =>
    simp only [decV, rdecV] at kn kr
    go_enter Tryz.func5, Tryz.ntmps5
    go_wp2_with (at_builtin; refine wpList_append_bs rfl _ _ rfl w.heap.size _ [] rfl hO hb1.size w.heap.size _ l rfl hB1 hc1 ?_)
    intro v1 w1 hO1 hb1'
    have hbw1 : Below w.heap.size w w1 := hb1.trans hb1'
    have kn1 := kn w1 v1 hbw1 hO1.bs
    obtain ⟨a1, p1, hv1⟩ := hO1.shape
    subst hv1
    clear kn hO hO1
    go_wp2_with fail
    refine kn1.mono ?_
    rintro e w2 ⟨rfl, hb2⟩
    have hbw2 := hbw1.trans (hb2.mono hbw1.size)
    have hbx := (Below.refl w2.heap.size w2).alloc (Nat.le_refl _) (.cells #[.int .u64 0, .int .i64 0, .int .u64 0] 54)
    have hbkx := heap_alloc_new w2 (.cells #[.int .u64 0, .int .i64 0, .int .u64 0] 54)
    have hszx : (w2.alloc (.cells #[.int .u64 0, .int .i64 0, .int .u64 0] 54)).heap.size = w2.heap.size + 1 := by simp
    have hbw2x := hbw2.trans (hbx.mono hbw2.size)
    have kr2 := kr _ hbw2x
    rw [hszx] at kr2
    clear kr kn1
    go_wp2_with fail
    refine kr2.mono ?_
    rintro e w3 ⟨rfl, hb3⟩
    have hq3 := (hb3.block w2.heap.size (by omega)).trans hbkx
    have hbz := (Below.refl w3.heap.size w3).alloc (Nat.le_refl _) (.cells #[.int .u64 0, .int .i64 0, .int .u64 0] 54)
    have hq4 := (hbz.block w2.heap.size (Array.getElem?_eq_some_iff.1 hq3).1).trans hq3
    have x0 : (w3.alloc (.cells #[.int .u64 0, .int .i64 0, .int .u64 0] 54)).cell? ⟨w2.heap.size, 0, none⟩ = some (.int .u64 0) := by rw [cells_of_block hq4]; rfl
    have x1 : (w3.alloc (.cells #[.int .u64 0, .int .i64 0, .int .u64 0] 54)).cell? ⟨w2.heap.size, 1, none⟩ = some (.int .i64 0) := by rw [cells_of_block hq4]; rfl
    have x2 : (w3.alloc (.cells #[.int .u64 0, .int .i64 0, .int .u64 0] 54)).cell? ⟨w2.heap.size, 2, none⟩ = some (.int .u64 0) := by rw [cells_of_block hq4]; rfl
    have hbw3 := (hbw2x.trans (hb3.mono (by have := hbw2.size; omega))).trans (hbz.mono (by have := hb3.size; have := hbw2.size; omega))
    have ka3 := ka _ hbw3
    clear ka kr2 hq3 hq4 hbkx
    go_wp2_with fail
    refine ka3.mono ?_
    rintro e w5 ⟨rfl, hb5⟩
    clear ka3
    go_wp2
    go_ret
    exact ⟨rfl, hbw3.trans (hb5.mono hbw3.size)⟩
  | some x =>
    obtain ⟨t, vv, c⟩ := x
    simp only [decV, rdecV] at kn kr
    go_enter Tryz.func5, Tryz.ntmps5
    go_wp2_with (at_builtin; refine wpList_append_bs rfl _ _ rfl w.heap.size _ [] rfl hO hb1.size w.heap.size _ l rfl hB1 hc1 ?_)
    intro v1 w1 hO1 hb1'
    have hbw1 : Below w.heap.size w w1 := hb1.trans hb1'
    have kn1 := kn w1 v1 hbw1 hO1.bs
    obtain ⟨a1, p1, hv1⟩ := hO1.shape
    subst hv1
    clear kn hO hO1
    go_wp2_with fail
    refine kn1.mono ?_
    rintro e w2 ⟨rfl, hb2⟩
    have hbw2 := hbw1.trans (hb2.mono hbw1.size)
    have hbx := (Below.refl w2.heap.size w2).alloc (Nat.le_refl _) (.cells #[.int .u64 (t : Int), .int .i64 (vv : Int), .int .u64 (c : Int)] 54)
    have hbkx := heap_alloc_new w2 (.cells #[.int .u64 (t : Int), .int .i64 (vv : Int), .int .u64 (c : Int)] 54)
    have hszx : (w2.alloc (.cells #[.int .u64 (t : Int), .int .i64 (vv : Int), .int .u64 (c : Int)] 54)).heap.size = w2.heap.size + 1 := by simp
    have hbw2x := hbw2.trans (hbx.mono hbw2.size)
    have kr2 := kr _ hbw2x
    rw [hszx] at kr2
    clear kr kn1
    go_wp2_with fail
    refine kr2.mono ?_
    rintro e w3 ⟨rfl, hb3⟩
    have hq3 := (hb3.block w2.heap.size (by omega)).trans hbkx
    have hbz := (Below.refl w3.heap.size w3).alloc (Nat.le_refl _) (.cells #[.int .u64 (t : Int), .int .i64 (vv : Int), .int .u64 (c : Int)] 54)
    have hq4 := (hbz.block w2.heap.size (Array.getElem?_eq_some_iff.1 hq3).1).trans hq3
    have x0 : (w3.alloc (.cells #[.int .u64 (t : Int), .int .i64 (vv : Int), .int .u64 (c : Int)] 54)).cell? ⟨w2.heap.size, 0, none⟩ = some (.int .u64 (t : Int)) := by rw [cells_of_block hq4]; rfl
    have x1 : (w3.alloc (.cells #[.int .u64 (t : Int), .int .i64 (vv : Int), .int .u64 (c : Int)] 54)).cell? ⟨w2.heap.size, 1, none⟩ = some (.int .i64 (vv : Int)) := by rw [cells_of_block hq4]; rfl
    have x2 : (w3.alloc (.cells #[.int .u64 (t : Int), .int .i64 (vv : Int), .int .u64 (c : Int)] 54)).cell? ⟨w2.heap.size, 2, none⟩ = some (.int .u64 (c : Int)) := by rw [cells_of_block hq4]; rfl
    have hbw3 := (hbw2x.trans (hb3.mono (by have := hbw2.size; omega))).trans (hbz.mono (by have := hb3.size; have := hbw2.size; omega))
    have ka3 := ka _ hbw3
    clear ka kr2 hq3 hq4 hbkx
    go_wp2_with fail
    refine ka3.mono ?_
    rintro e w5 ⟨rfl, hb5⟩
    clear ka3
    go_wp2
    go_ret
    exact ⟨rfl, hbw3.trans (hb5.mono hbw3.size)⟩

theorem decodes_law (l : List Nat) (v : Value) (w : World) (hT : Tb w) (hB : Bs w.heap.size w v l) (hl : ∀ c ∈ l, c < 256) :
    Calls Tryz.prog 5 #[v] w fun e w' => e = .returned (.bool true) ∧ Below w.heap.size w w' := by
  by_cases h : 5000 < l.length
  · exact decodes_long l v w hT hB h
  · exact decodes_short l v w hT hB hl (by omega)
end Go.Proofs.YtdcpdcnipmfdjaaGreatDoor.Fr

