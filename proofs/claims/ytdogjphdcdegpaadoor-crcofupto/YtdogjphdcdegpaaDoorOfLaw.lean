/- The law CrcOf: true at any two byte slices whose lengths together are below 2^47; what lay in memory before stays as it was. -/
import Derived.Test.YtdogjphdcdegpaaDoorUnseal
namespace Go.Proofs.YtdogjphdcdegpaaDoor
open Go.RowKit CrcMath
set_option maxRecDepth 100000
set_option linter.unusedSimpArgs false

set_option maxHeartbeats 1000000 in
theorem of_law (l r : List Nat) (v x : Value) (w : World) (hT : Tab w) (hB : Bs w.heap.size w v l) (hl : ∀ c ∈ l, c < 256) (hR : Bs w.heap.size w x r) (hr : ∀ c ∈ r, c < 256) (hlen : l.length + r.length ≤ 140737488355328) :
    Calls Tryd.prog 3 #[v, x] w fun e w' => e = .returned (.bool true) ∧ Below w.heap.size w w' := by
  have hc := refOf_of _ l v w hB hl
  have hd := refOf_of _ r x w hR hr
  go_enter Tryd.func3, Tryd.ntmps3
  go_wp2_with fail
  refine hc.mono ?_
  rintro e w1 ⟨rfl, hw1⟩
  subst hw1
  go_wp2_with fail
  refine hd.mono ?_
  rintro e w2 ⟨rfl, hw2⟩
  subst hw2
  clear hc hd
  have hO := own_new w2 #[] [] rfl (by simp)
  have hb1 := (Below.refl w2.heap.size w2).alloc (Nat.le_refl _) (.cells #[] 5)
  have hB1 := hB.below hb1
  have hc1 : (([] : List Nat).length + l.length) ≤ 140737488355328 := by simp; omega
  go_wp2_with (at_builtin; refine wpList_append_bs rfl _ _ rfl w2.heap.size _ [] rfl hO hb1.size w2.heap.size _ l rfl hB1 hc1 ?_)
  intro v3 w3 hO3 hb3
  have hB3 : Below w2.heap.size w2 w3 := hb1.trans hb3
  have hR3 := hR.below hB3
  have hO3' : Own w2.heap.size w3 v3 l := hO3
  clear hO hb1 hB1 hb3 hO3
  go_wp2_with (at_builtin; refine wpList_append_bs rfl _ _ rfl w2.heap.size _ l rfl hO3' hB3.size w2.heap.size _ r rfl hR3 hlen ?_)
  intro v4 w4 hO4 hb4
  have hB4 : Below w2.heap.size w2 w4 := hB3.trans hb4
  have hT4 := hT.below' hB4 (Nat.le_refl _)
  have hlr : ∀ c ∈ l ++ r, c < 256 := fun c hc => (List.mem_append.1 hc).elim (hl c) (hr c)
  have k1 := of_of _ l v w4 hT4 (hB.below hB4) hl
  have k2 := step_of _ r x (crcSum l) w4 hT4 (hR.below hB4) hr (crcSum_lt hl)
  have k3 := refOf_of _ (l ++ r) v4 w4 hO4.bs hlr
  have k4 := same_of _ _ l r v x w4 hT4 (hB.below hB4) hl (hR.below hB4) hr
  have k5 := awake_of w4 hT4
  rw [crcStep_sum] at k2
  clear hB3 hb4 hO3' hR3 hO4 hT hB hR
  by_cases hs : crcSum l = crcSum r
  · have hsi : ((crcSum l : Int) == (crcSum r : Int)) = true := by rw [hs]; simp
    have hsd : decide (crcSum l = crcSum r) = true := by simp [hs]
    rw [hsd] at k4
    clear hs
    go_wp2_with fail
    refine k1.mono ?_
    rintro e wa ⟨rfl, hwa⟩
    rw [hwa]
    clear hwa wa
    go_wp2_with fail
    refine k1.mono ?_
    rintro e wa ⟨rfl, hwa⟩
    rw [hwa]
    clear hwa wa
    go_wp2_with fail
    refine k2.mono ?_
    rintro e wa ⟨rfl, hwa⟩
    rw [hwa]
    clear hwa wa
    go_wp2_with fail
    refine k3.mono ?_
    rintro e wa ⟨rfl, hwa⟩
    rw [hwa]
    clear hwa wa
    go_wp2_with fail
    refine k4.mono ?_
    rintro e wa ⟨rfl, hwa⟩
    rw [hwa]
    clear hwa wa
    go_wp2_with fail
    refine k5.mono ?_
    rintro e wa ⟨rfl, hba⟩
    go_wp2
    go_ret
    exact ⟨rfl, hB4.trans (hba.mono hB4.size)⟩
  · have hsi : ((crcSum l : Int) == (crcSum r : Int)) = false := by simp; omega
    have hsj : ¬ (crcSum l : Int) = (crcSum r : Int) := by omega
    have hsd : decide (crcSum l = crcSum r) = false := by simp [hs]
    rw [hsd] at k4
    clear hs
    go_wp2_with fail
    refine k1.mono ?_
    rintro e wa ⟨rfl, hwa⟩
    rw [hwa]
    clear hwa wa
    go_wp2_with fail
    refine k1.mono ?_
    rintro e wa ⟨rfl, hwa⟩
    rw [hwa]
    clear hwa wa
    go_wp2_with fail
    refine k2.mono ?_
    rintro e wa ⟨rfl, hwa⟩
    rw [hwa]
    clear hwa wa
    go_wp2_with fail
    refine k3.mono ?_
    rintro e wa ⟨rfl, hwa⟩
    rw [hwa]
    clear hwa wa
    go_wp2_with fail
    refine k4.mono ?_
    rintro e wa ⟨rfl, hwa⟩
    rw [hwa]
    clear hwa wa
    go_wp2_with fail
    refine k5.mono ?_
    rintro e wa ⟨rfl, hba⟩
    go_wp2
    go_ret
    exact ⟨rfl, hB4.trans (hba.mono hB4.size)⟩
end Go.Proofs.YtdogjphdcdegpaaDoor
