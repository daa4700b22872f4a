/- The law FrameNexts: true at any bytes; what lay in memory before stays as it was. -/
import Derived.Test.YtlminobaohkalaaDoorRefNext2
namespace Go.Proofs.YtlminobaohkalaaDoor
open Go.RowKit WireMath CrcMath FrameMath
set_option maxRecDepth 100000
set_option linter.unusedSimpArgs false

set_option maxHeartbeats 1000000 in
theorem nexts_long (l : List Nat) (v : Value) (w : World) (hT : Tab w) (hB : Bs w.heap.size w v l) (h : 5000 < l.length) :
    Calls Tryd.prog 4 #[v] w fun e w' => e = .returned (.bool true) ∧ Below w.heap.size w w' := by
  have ka := awake_of w hT
  obtain ⟨ao, cap, rfl, -⟩ := hB
  have i : (5000 : Int) < (l.length : Int) := by omega
  go_enter Tryd.func4, Tryd.ntmps4
  go_wp2_with fail
  refine ka.mono ?_
  rintro e w1 ⟨rfl, hb⟩
  go_wp2
  go_ret
  exact ⟨rfl, hb⟩

set_option maxHeartbeats 2000000 in
theorem nexts_short (l : List Nat) (v : Value) (w : World) (hT : Tab w) (hB : Bs w.heap.size w v l) (hl : ∀ c ∈ l, c < 256) (h : l.length ≤ 5000) :
    Calls Tryd.prog 4 #[v] w fun e w' => e = .returned (.bool true) ∧ Below w.heap.size w w' := by
  have ka : ∀ w', Below w.heap.size w w' → Calls Tryd.prog 9 #[] w' fun e w'' => e = .returned (.bool true) ∧ Below w'.heap.size w' w'' := fun w' hb => awake_of w' (hT.below' hb (Nat.le_refl _))
  have kn : ∀ w' v', Below w.heap.size w w' → Bs w'.heap.size w' v' l → Calls Tryd.prog 11 #[v'] w' _ := fun w' v' hb hB' => next_of _ l v' w' (hT.below' hb (Nat.le_refl _)) hB' hl (Nat.le_refl _)
  have kr : ∀ w', Below w.heap.size w w' → Calls Tryd.prog 12 #[v] w' _ := fun w' hb => refNext_of _ l v w' (hB.below hb) hl hb.size
  have hO := own_new w #[] [] rfl (by simp)
  have hb1 := (Below.refl w.heap.size w).alloc (Nat.le_refl _) (.cells #[] 5)
  have hB1 := hB.below hb1
  have hc1 : (([] : List Nat).length + l.length) ≤ 140737488355328 := by simp; omega
  obtain ⟨ao, cap, rfl, -⟩ := id hB
  have i : ¬ (5000 : Int) < (l.length : Int) := by omega
  have hnf := @next_ok_facts l
  generalize next l = X at *
  cases X with
  | ok xx =>
    obtain ⟨k, d, n⟩ := xx
    have hd : ∀ c ∈ d, c < 256 := fun c hc => hl c ((hnf rfl).2.2.2 c hc)
    simp only [nxV, nrV, nxD] at kn kr
    clear hnf
    go_enter Tryd.func4, Tryd.ntmps4
    go_wp2_with (at_builtin; refine wpList_append_bs rfl _ _ rfl w.heap.size _ [] rfl hO hb1.size w.heap.size _ l rfl hB1 hc1 ?_)
    intro v1 w1 hO1 hb1'
    have hbw1 : Below w.heap.size w w1 := hb1.trans hb1'
    go_wp2_with fail
    refine (kn w1 v1 hbw1 hO1.bs).mono ?_
    rintro e w2 ⟨d2, rfl, hD2, -, hb2⟩
    have hbw2 := hbw1.trans (hb2.mono hbw1.size)
    go_wp2_with fail
    refine (kr w2 hbw2).mono ?_
    rintro e w3 ⟨d3, rfl, hD3, -, hb3⟩
    have hbw3 := hbw2.trans (hb3.mono hbw2.size)
    have hD2' := hD2.below hb3
    obtain ⟨a2, cap2, rfl, -⟩ := id hD2
    obtain ⟨a3, cap3, rfl, -⟩ := id hD3
    clear hO hb1 hB1 hO1 hD2 kn kr
    have hb4 := (Below.refl w3.heap.size w3).alloc (Nat.le_refl _) (.cells #[.int .u8 (k : Int), .slice a3 d.length cap3] 32)
    have y1 := str_of (hD2'.below (hb4.mono hb3.size)) hd
    have y2 := str_of (hD3.below hb4) hd
    have hbw4 := hbw3.trans (hb4.mono hbw3.size)
    have ka4 := ka _ hbw4
    clear hD2' hD3 ka hB
    go_wp2_with fail
    refine ka4.mono ?_
    rintro e w5 ⟨rfl, hb5⟩
    go_wp2
    go_ret
    exact ⟨rfl, hbw4.trans (hb5.mono hbw4.size)⟩
  | error e0 =>
    have hd : ∀ c ∈ ([] : List Nat), c < 256 := by simp
    simp only [nxV, nrV, nxD] at kn kr
    clear hnf
    go_enter Tryd.func4, Tryd.ntmps4
    go_wp2_with (at_builtin; refine wpList_append_bs rfl _ _ rfl w.heap.size _ [] rfl hO hb1.size w.heap.size _ l rfl hB1 hc1 ?_)
    intro v1 w1 hO1 hb1'
    have hbw1 : Below w.heap.size w w1 := hb1.trans hb1'
    go_wp2_with fail
    refine (kn w1 v1 hbw1 hO1.bs).mono ?_
    rintro e w2 ⟨d2, rfl, hD2, -, hb2⟩
    have hbw2 := hbw1.trans (hb2.mono hbw1.size)
    go_wp2_with fail
    refine (kr w2 hbw2).mono ?_
    rintro e w3 ⟨d3, rfl, hD3, -, hb3⟩
    have hbw3 := hbw2.trans (hb3.mono hbw2.size)
    have hD2' := hD2.below hb3
    obtain ⟨a2, cap2, rfl, -⟩ := id hD2
    obtain ⟨a3, cap3, rfl, -⟩ := id hD3
    clear hO hb1 hB1 hO1 hD2 kn kr
    simp only [List.length_nil] at hD2' hD3 ⊢
    have hb4 := (Below.refl w3.heap.size w3).alloc (Nat.le_refl _) (.cells #[.int .u8 0, .slice a3 0 cap3] 32)
    have y1 := str_of (hD2'.below (hb4.mono hb3.size)) hd
    have y2 := str_of (hD3.below hb4) hd
    have hbw4 := hbw3.trans (hb4.mono hbw3.size)
    have ka4 := ka _ hbw4
    clear hD2' hD3 ka hB
    go_wp2_with fail
    refine ka4.mono ?_
    rintro e w5 ⟨rfl, hb5⟩
    go_wp2
    go_ret
    exact ⟨rfl, hbw4.trans (hb5.mono hbw4.size)⟩

theorem nexts_law (l : List Nat) (v : Value) (w : World) (hT : Tab w) (hB : Bs w.heap.size w v l) (hl : ∀ c ∈ l, c < 256) :
    Calls Tryd.prog 4 #[v] w fun e w' => e = .returned (.bool true) ∧ Below w.heap.size w w' := by
  by_cases h : 5000 < l.length
  · exact nexts_long l v w hT hB h
  · exact nexts_short l v w hT hB hl (by omega)
end Go.Proofs.YtlminobaohkalaaDoor
