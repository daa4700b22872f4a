import Derived.Test.YtkglckngiggbhaaHk21
/- The law ConfCaught. -/
namespace Go.Proofs.Ytkglckngiggbhaa
open Go.RowKit QuorumMath
set_option maxRecDepth 100000
set_option linter.unusedSimpArgs false
set_option linter.unusedVariables false

set_option maxHeartbeats 8000000 in
theorem caught_law (ps : List Pr) (pv : Value) (node : Int) (x0 x1 : Nat) (w : World) (hP : Rd peerE w pv ps) (hlen : ps.length * 24 ≤ 140737488355328) (hm : ∀ p ∈ ps, p.2.2 < 18446744073709551616) (h0 : x0 < 18446744073709551616) (h1 : x1 < 18446744073709551616) : Calls Try.prog 5 #[pv, .int .i64 node, .agg #[.int .u64 (x0 : Int), .int .u64 (x1 : Int)]] w fun e w' => e = .returned (.bool true) ∧ Below w.heap.size w w' := by
  have ka := fun W => awake_of W
  obtain ⟨hs0, g0, hb0⟩ := one_box w (.cells #[.int .u64 (x0 : Int), .int .u64 (x1 : Int)] 37)
  by_cases h3 : 300 < ps.length
  · have h3i : (300 : Int) < (ps.length : Int) := by omega
    obtain ⟨aa, ac, rfl, -, -⟩ := hP.shape
    clear hP hs0 g0 hm
    go_enter Try.func5, Try.ntmps5
    go_wp2_with fail
    refine (ka _).mono ?_
    rintro e w1 ⟨rfl, hb1⟩
    go_wp2
    go_ret
    exact ⟨rfl, hb0.trans (hb1.mono hb0.size)⟩
  · have h3i : ¬ (300 : Int) < (ps.length : Int) := by omega
    have hB : ∀ W, Below (w.heap.size + 1) (w.alloc (.cells #[.int .u64 (x0 : Int), .int .u64 (x1 : Int)] 37)) W → Below w.heap.size w W := fun W hW => hb0.trans (hW.mono (Nat.le_succ _))
    have HCL : Hid (∀ W, Below (w.heap.size + 1) (w.alloc (.cells #[.int .u64 (x0 : Int), .int .u64 (x1 : Int)] 37)) W → W.cell? ⟨w.heap.size, 0, none⟩ = some (.int .u64 (x0 : Int)) ∧ W.cell? ⟨w.heap.size, 1, none⟩ = some (.int .u64 (x1 : Int))) := fun W hW => by
      have := (hW.block w.heap.size (Nat.lt_succ_self _)).trans g0
      exact ⟨by rw [cells_of_block this]; rfl, by rw [cells_of_block this]; rfl⟩
    have KC : Hid (∀ W, Below (w.heap.size + 1) (w.alloc (.cells #[.int .u64 (x0 : Int), .int .u64 (x1 : Int)] 37)) W → _) := fun W hW => caught_of ps pv node x0 x1 W (hP.below (hB W hW)) (by omega) hm h0 h1
    have KR : Hid (∀ W, Below (w.heap.size + 1) (w.alloc (.cells #[.int .u64 (x0 : Int), .int .u64 (x1 : Int)] 37)) W → _) := fun W hW => rcaught_of ps pv node x0 x1 W (hP.below (hB W hW)) (by omega) hm h0 h1
    obtain ⟨aa, ac, rfl, -, -⟩ := hP.shape
    have HSZ : Hid _ := hs0
    have HB : Hid _ := hB
    generalize caughtM ps node x0 x1 = C at *
    clear hP hs0 g0 hm hb0 hB
    go_enter Try.func5, Try.ntmps5
    go_wp2_with fail
    refine wp_region_L (fun W => Below (w.heap.size + 1) (w.alloc (.cells #[.int .u64 (x0 : Int), .int .u64 (x1 : Int)] 37)) W) [] (by kernel_rfl) ?_
    have hS0 : (fun W => Below (w.heap.size + 1) (w.alloc (.cells #[.int .u64 (x0 : Int), .int .u64 (x1 : Int)] 37)) W) _ := (Below.refl (w.heap.size + 1) (w.alloc (.cells #[.int .u64 (x0 : Int), .int .u64 (x1 : Int)] 37))).drew
    dsimp only at hS0
    generalize (w.alloc (.cells #[.int .u64 (x0 : Int), .int .u64 (x1 : Int)] 37)).drew = wd at *
    have hmono : ∀ (W W' : World), Below (w.heap.size + 1) (w.alloc (.cells #[.int .u64 (x0 : Int), .int .u64 (x1 : Int)] 37)) W → Below W.heap.size W W' → Below (w.heap.size + 1) (w.alloc (.cells #[.int .u64 (x0 : Int), .int .u64 (x1 : Int)] 37)) W' := fun W W' h h' => h.trans (h'.mono (by have := h.size; rw [HSZ.out] at this; exact this))
    refine wpAnyL_take 0 rfl (by kernel_rfl) (by kernel_rfl) (by kernel_rfl) (by kernel_rfl) (fun _ _ _ h => h) (by kernel_rfl) (by intro w' hS'; have hz := hS'; obtain ⟨c0, c1⟩ := HCL.out _ hz; go_simp <;> rfl) hS0 ?_
    try simp only [List.getElem_toArray, List.getElem_cons_succ, List.getElem_cons_zero, Act.put, List.setIfInBounds_toArray, List.set_cons_zero, List.set_cons_succ]
    refine wpAnyL_take 1 rfl (by kernel_rfl) (by kernel_rfl) (by kernel_rfl) (by kernel_rfl) (fun _ _ _ h => h) (by kernel_rfl) (by intro w' hS'; have hz := hS'; obtain ⟨c0, c1⟩ := HCL.out _ hz; go_simp <;> rfl) hS0 ?_
    try simp only [List.getElem_toArray, List.getElem_cons_succ, List.getElem_cons_zero, Act.put, List.setIfInBounds_toArray, List.set_cons_zero, List.set_cons_succ]
    refine wpAnyL_take 2 rfl (by kernel_rfl) (by kernel_rfl) (by kernel_rfl) (by kernel_rfl) (fun _ _ _ h => h) (by kernel_rfl) (by intro w' hS'; have hz := hS'; obtain ⟨c0, c1⟩ := HCL.out _ hz; go_simp <;> rfl) hS0 ?_
    try simp only [List.getElem_toArray, List.getElem_cons_succ, List.getElem_cons_zero, Act.put, List.setIfInBounds_toArray, List.set_cons_zero, List.set_cons_succ]
    refine wpAnyL_take 3 rfl (by kernel_rfl) (by kernel_rfl) (by kernel_rfl) (by kernel_rfl) (fun _ _ _ h => h) (by kernel_rfl) (by intro w' hS'; have hz := hS'; obtain ⟨c0, c1⟩ := HCL.out _ hz; go_simp <;> rfl) hS0 ?_
    try simp only [List.getElem_toArray, List.getElem_cons_succ, List.getElem_cons_zero, Act.put, List.setIfInBounds_toArray, List.set_cons_zero, List.set_cons_succ]
    refine wpAnyL_take 4 rfl (by kernel_rfl) (by kernel_rfl) (by kernel_rfl) (by kernel_rfl) (fun _ _ _ h => h) (by kernel_rfl) (by intro w' hS'; have hz := hS'; obtain ⟨c0, c1⟩ := HCL.out _ hz; go_simp <;> rfl) hS0 ?_
    try simp only [List.getElem_toArray, List.getElem_cons_succ, List.getElem_cons_zero, Act.put, List.setIfInBounds_toArray, List.set_cons_zero, List.set_cons_succ]
    refine wpAnyL_take 5 rfl (by kernel_rfl) (by kernel_rfl) (by kernel_rfl) (by kernel_rfl) (fun _ _ _ h => h) (by kernel_rfl) (by intro w' hS'; have hz := hS'; obtain ⟨c0, c1⟩ := HCL.out _ hz; go_simp <;> rfl) hS0 ?_
    try simp only [List.getElem_toArray, List.getElem_cons_succ, List.getElem_cons_zero, Act.put, List.setIfInBounds_toArray, List.set_cons_zero, List.set_cons_succ]
    refine wpAnyL_take 7 rfl (by kernel_rfl) (by kernel_rfl) (by kernel_rfl) (by kernel_rfl) (fun _ _ _ h => h) (by kernel_rfl) (by intro w' hS'; have hz := hS'; obtain ⟨c0, c1⟩ := HCL.out _ hz; go_simp <;> rfl) hS0 ?_
    try simp only [List.getElem_toArray, List.getElem_cons_succ, List.getElem_cons_zero, Act.put, List.setIfInBounds_toArray, List.set_cons_zero, List.set_cons_succ]
    refine wpAnyL_take 8 rfl (by kernel_rfl) (by kernel_rfl) (by kernel_rfl) (by kernel_rfl) (fun _ _ _ h => h) (by kernel_rfl) (by intro w' hS'; have hz := hS'; obtain ⟨c0, c1⟩ := HCL.out _ hz; go_simp <;> rfl) hS0 ?_
    try simp only [List.getElem_toArray, List.getElem_cons_succ, List.getElem_cons_zero, Act.put, List.setIfInBounds_toArray, List.set_cons_zero, List.set_cons_succ]
    refine wpAnyL_take 9 rfl (by kernel_rfl) (by kernel_rfl) (by kernel_rfl) (by kernel_rfl) (fun _ _ _ h => h) (by kernel_rfl) (by intro w' hS'; have hz := hS'; obtain ⟨c0, c1⟩ := HCL.out _ hz; go_simp <;> rfl) hS0 ?_
    try simp only [List.getElem_toArray, List.getElem_cons_succ, List.getElem_cons_zero, Act.put, List.setIfInBounds_toArray, List.set_cons_zero, List.set_cons_succ]
    refine wpAnyL_take 10 rfl (by kernel_rfl) (by kernel_rfl) (by kernel_rfl) (by kernel_rfl) (fun _ _ _ h => h) (by kernel_rfl) (by intro w' hS'; have hz := hS'; obtain ⟨c0, c1⟩ := HCL.out _ hz; go_simp <;> rfl) hS0 ?_
    try simp only [List.getElem_toArray, List.getElem_cons_succ, List.getElem_cons_zero, Act.put, List.setIfInBounds_toArray, List.set_cons_zero, List.set_cons_succ]
    refine wpAnyL_take 11 rfl (by kernel_rfl) (by kernel_rfl) (by kernel_rfl) (by kernel_rfl) (fun _ _ _ h => h) (by kernel_rfl) (by intro w' hS'; have hz := hS'; obtain ⟨c0, c1⟩ := HCL.out _ hz; go_simp <;> rfl) hS0 ?_
    try simp only [List.getElem_toArray, List.getElem_cons_succ, List.getElem_cons_zero, Act.put, List.setIfInBounds_toArray, List.set_cons_zero, List.set_cons_succ]
    refine wpAnyL_take 12 rfl (by kernel_rfl) (by kernel_rfl) (by kernel_rfl) (by kernel_rfl) (fun _ _ _ h => h) (by kernel_rfl) (by intro w' hS'; have hz := hS'; obtain ⟨c0, c1⟩ := HCL.out _ hz; go_simp <;> rfl) hS0 ?_
    try simp only [List.getElem_toArray, List.getElem_cons_succ, List.getElem_cons_zero, Act.put, List.setIfInBounds_toArray, List.set_cons_zero, List.set_cons_succ]
    refine wpAnyL_one 6 (by kernel_rfl) rfl (by kernel_rfl) ?_
    intro K' hK'
    go_simp
    refine (KC.out _ hS0).mono ?_
    rintro e w3 ⟨rfl, hb3⟩
    have hS3 := hmono _ _ hS0 hb3
    refine hK'.out _ _ (.inr hS3) ?_
    clear hK' K'
    try simp only [List.getElem_toArray, List.getElem_cons_succ, List.getElem_cons_zero, Act.put, List.setIfInBounds_toArray, List.set_cons_zero, List.set_cons_succ]
    refine wpAnyL_one 13 (by kernel_rfl) rfl (by kernel_rfl) ?_
    intro K' hK'
    go_simp
    refine (KR.out _ hS3).mono ?_
    rintro e w4 ⟨rfl, hw4⟩
    subst hw4
    refine hK'.out _ _ (.inr hS3) ?_
    clear hK' K'
    try simp only [List.getElem_toArray, List.getElem_cons_succ, List.getElem_cons_zero, Act.put, List.setIfInBounds_toArray, List.set_cons_zero, List.set_cons_succ]
    refine wpAnyL_take 14 rfl (by kernel_rfl) (by kernel_rfl) (by kernel_rfl) (by kernel_rfl) (fun _ _ _ h => h) (by kernel_rfl) (by intro w' hS'; have hz := hS'; obtain ⟨c0, c1⟩ := HCL.out _ hz; go_simp <;> rfl) hS3 ?_
    try simp only [List.getElem_toArray, List.getElem_cons_succ, List.getElem_cons_zero, Act.put, List.setIfInBounds_toArray, List.set_cons_zero, List.set_cons_succ]
    refine wpAnyL_take 15 rfl (by kernel_rfl) (by kernel_rfl) (by kernel_rfl) (by kernel_rfl) (fun _ _ _ h => h) (by kernel_rfl) (by intro w' hS'; have hz := hS'; obtain ⟨c0, c1⟩ := HCL.out _ hz; go_simp <;> rfl) hS3 ?_
    try simp only [List.getElem_toArray, List.getElem_cons_succ, List.getElem_cons_zero, Act.put, List.setIfInBounds_toArray, List.set_cons_zero, List.set_cons_succ]
    refine wpAnyL_one 16 (by kernel_rfl) rfl (by kernel_rfl) ?_
    intro K' hK'
    go_simp
    refine (ka _).mono ?_
    rintro e w5 ⟨rfl, hb5⟩
    have hS5 := hmono _ _ hS3 hb5
    refine hK'.out _ _ (.inr hS5) ?_
    clear hK' K'
    try simp only [List.getElem_toArray, List.getElem_cons_succ, List.getElem_cons_zero, Act.put, List.setIfInBounds_toArray, List.set_cons_zero, List.set_cons_succ]
    refine wpAnyL_take 17 rfl (by kernel_rfl) (by kernel_rfl) (by kernel_rfl) (by kernel_rfl) (fun _ _ _ h => h) (by kernel_rfl) (by intro w' hS'; have hz := hS'; obtain ⟨c0, c1⟩ := HCL.out _ hz; go_simp <;> rfl) hS5 ?_
    try simp only [List.getElem_toArray, List.getElem_cons_succ, List.getElem_cons_zero, Act.put, List.setIfInBounds_toArray, List.set_cons_zero, List.set_cons_succ]
    refine wpAnyL_take 18 rfl (by kernel_rfl) (by kernel_rfl) (by kernel_rfl) (by kernel_rfl) (fun _ _ _ h => h) (by kernel_rfl) (by intro w' hS'; have hz := hS'; obtain ⟨c0, c1⟩ := HCL.out _ hz; go_simp <;> rfl) hS5 ?_
    try simp only [List.getElem_toArray, List.getElem_cons_succ, List.getElem_cons_zero, Act.put, List.setIfInBounds_toArray, List.set_cons_zero, List.set_cons_succ]
    refine wpAnyL_done (by kernel_rfl) (NoPanic.normal ?_) _
    go_wp2
    go_ret
    exact ⟨rfl, HB.out _ hS5⟩
end Go.Proofs.Ytkglckngiggbhaa

