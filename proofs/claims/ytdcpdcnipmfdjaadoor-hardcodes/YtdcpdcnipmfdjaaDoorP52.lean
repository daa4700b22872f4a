import Derived.Test.YtdcpdcnipmfdjaaDoorP33
import Derived.Test.YtdcpdcnipmfdjaaDoorP34
import Derived.Test.YtdcpdcnipmfdjaaDoorP51
import Derived.Test.YtdcpdcnipmfdjaaDoorP18
/- The law HardCodes: true at any two states; what lay in memory before stays as it was. -/
namespace Go.Proofs.YtdcpdcnipmfdjaaDoor.Fr
open Go.RowKit WireMath CrcMath FrameMath
set_option maxRecDepth 100000
set_option linter.unusedSimpArgs false
set_option linter.unusedVariables false

set_option maxHeartbeats 4000000 in
theorem codes_law (t : Nat) (v : Int) (c : Nat) (t' v' c' : Int) (w : World) (hT : Tb w) (ht : t < 18446744073709551616) (hc : c < 18446744073709551616) :
    Calls Tryd.prog 3 #[.agg #[.int .u64 (t : Int), .int .i64 v, .int .u64 (c : Int)], .agg #[.int .u64 t', .int .i64 v', .int .u64 c']] w fun e w' => e = .returned (.bool true) ∧ Below w.heap.size w w' := by
  have hb0 := (Below.refl w.heap.size w).alloc (Nat.le_refl _) (.cells #[.int .u64 (t : Int), .int .i64 v, .int .u64 (c : Int)] 24)
  have hsz0 : (w.alloc (.cells #[.int .u64 (t : Int), .int .i64 v, .int .u64 (c : Int)] 24)).heap.size = w.heap.size + 1 := by simp
  have hb1 := hb0.alloc hb0.size (.cells #[.int .u64 t', .int .i64 v', .int .u64 c'] 24)
  have hsz1 : ((w.alloc (.cells #[.int .u64 (t : Int), .int .i64 v, .int .u64 (c : Int)] 24)).alloc (.cells #[.int .u64 t', .int .i64 v', .int .u64 c'] 24)).heap.size = w.heap.size + 2 := by simp
  have hbk0 : ((w.alloc (.cells #[.int .u64 (t : Int), .int .i64 v, .int .u64 (c : Int)] 24)).alloc (.cells #[.int .u64 t', .int .i64 v', .int .u64 c'] 24)).heap[w.heap.size]? = some (.cells #[.int .u64 (t : Int), .int .i64 v, .int .u64 (c : Int)] 24 (0, 0)) := by
    rw [heap_alloc_old _ _ (by rw [hsz0]; omega)]
    exact heap_alloc_new w _
  have hbk1 : ((w.alloc (.cells #[.int .u64 (t : Int), .int .i64 v, .int .u64 (c : Int)] 24)).alloc (.cells #[.int .u64 t', .int .i64 v', .int .u64 c'] 24)).heap[w.heap.size + 1]? = some (.cells #[.int .u64 t', .int .i64 v', .int .u64 c'] 24 (0, 0)) := by
    have := heap_alloc_new (w.alloc (.cells #[.int .u64 (t : Int), .int .i64 v, .int .u64 (c : Int)] 24)) (.cells #[.int .u64 t', .int .i64 v', .int .u64 c'] 24)
    rw [hsz0] at this
    exact this
  generalize hW0 : (w.alloc (.cells #[.int .u64 (t : Int), .int .i64 v, .int .u64 (c : Int)] 24)).alloc (.cells #[.int .u64 t', .int .i64 v', .int .u64 c'] 24) = W0 at *
  have hcs : ∀ W, Below (w.heap.size + 2) W0 W → (W.cell? ⟨w.heap.size, 0, none⟩ = some (.int .u64 (t : Int)) ∧ W.cell? ⟨w.heap.size, 1, none⟩ = some (.int .i64 v) ∧ W.cell? ⟨w.heap.size, 2, none⟩ = some (.int .u64 (c : Int))) ∧ (W.cell? ⟨w.heap.size + 1, 0, none⟩ = some (.int .u64 t') ∧ W.cell? ⟨w.heap.size + 1, 1, none⟩ = some (.int .i64 v') ∧ W.cell? ⟨w.heap.size + 1, 2, none⟩ = some (.int .u64 c')) := fun W hb => by
    have h := (hb.block w.heap.size (by omega)).trans hbk0
    have h' := (hb.block (w.heap.size + 1) (by omega)).trans hbk1
    exact ⟨⟨by rw [cells_of_block h]; rfl, by rw [cells_of_block h]; rfl, by rw [cells_of_block h]; rfl⟩, by rw [cells_of_block h']; rfl, by rw [cells_of_block h']; rfl, by rw [cells_of_block h']; rfl⟩
  have ka : ∀ W, Below (w.heap.size + 2) W0 W → Calls Tryd.prog 8 #[] W fun e w' => e = .returned (.bool true) ∧ Below W.heap.size W w' := fun W hb => hawake_of W (hT.new (hb1.trans (hb.mono (by omega))))
  have kl : ∀ L, laterB (t : Int) v (c : Int) t' v' c' = L → ∀ W, Calls Tryd.prog 6 #[.agg #[.int .u64 (t : Int), .int .i64 v, .int .u64 (c : Int)], .agg #[.int .u64 t', .int .i64 v', .int .u64 c']] W fun e w' => e = .returned (.bool L) ∧ Below W.heap.size W w' := fun L hL W => by
    rw [← hL]
    exact later_of (t : Int) v (c : Int) t' v' c' W
  -- which of the two states is the later one
  have hcase : (t' < (t : Int) ∧ laterB (t : Int) v (c : Int) t' v' c' = true) ∨ ((¬ t' < (t : Int) ∧ ((t : Int) == t') = false) ∧ laterB (t : Int) v (c : Int) t' v' c' = false) ∨ ((t' = (t : Int) ∧ ¬ c' ≤ (c : Int)) ∧ laterB (t : Int) v (c : Int) t' v' c' = false) ∨ ((t' = (t : Int) ∧ c' ≤ (c : Int) ∧ v' = v) ∧ laterB (t : Int) v (c : Int) t' v' c' = true) ∨ ((t' = (t : Int) ∧ c' ≤ (c : Int) ∧ v' = 0 ∧ (v == 0) = false) ∧ laterB (t : Int) v (c : Int) t' v' c' = true) ∨ ((t' = (t : Int) ∧ c' ≤ (c : Int) ∧ (v == v') = false ∧ (v' == 0) = false) ∧ laterB (t : Int) v (c : Int) t' v' c' = false) := by
    unfold laterB
    by_cases h1 : t' < (t : Int)
    · exact .inl ⟨h1, by simp [h1]⟩
    · by_cases h2 : t' = (t : Int)
      · by_cases h3 : c' ≤ (c : Int)
        · by_cases h4 : v' = v
          · exact .inr (.inr (.inr (.inl ⟨⟨h2, h3, h4⟩, by simp [h2, h3, h4]⟩)))
          · by_cases h5 : v' = 0
            · have h6 : ¬ v = 0 := fun h => h4 (by rw [h5, h])
              exact .inr (.inr (.inr (.inr (.inl ⟨⟨h2, h3, h5, by simp [h6]⟩, by simp [h2, h3, h5]⟩))))
            · have h6 : ¬ v = v' := fun h => h4 h.symm
              exact .inr (.inr (.inr (.inr (.inr ⟨⟨h2, h3, by simp [h6], by simp [h5]⟩, by simp [h2, h3, h5, h6]⟩))))
        · exact .inr (.inr (.inl ⟨⟨h2, h3⟩, by simp [h2, h3]⟩))
      · have h6 : ¬ (t : Int) = t' := fun h => h2 h.symm
        exact .inr (.inl ⟨⟨h1, by simp [h6]⟩, by simp [h1, h6]⟩)
  by_cases hv : 0 ≤ v ∧ v ≤ 7
  · obtain ⟨n, rfl⟩ : ∃ n : Nat, v = (n : Int) := ⟨v.toNat, by omega⟩
    have hn : n ≤ 7 := by omega
    have ke := encode_of t n c W0 (hT.new hb1).1 ht hn hc
    rw [hsz1] at ke
    have km := fun W => refMay_yes (t : Int) (c : Int) (n : Int) W (by omega) (by omega)
    have kr := fun W => refEncode_of t n c W ht (by omega) (by omega) hc
    have kd : ∀ W a m p, Below (w.heap.size + 2) W0 W → Own (w.heap.size + 2) W (.slice a m p) (hdB t n c) → Calls Tryd.prog 9 #[.slice a m p] W fun e w' => e = .returned (.tuple #[.agg #[.int .u64 (t : Int), .int .i64 (n : Int), .int .u64 (c : Int)], .int .i64 0]) ∧ Below W.heap.size W w' := fun W a m p hb hO => by
      have := decode_of W.heap.size (hdB t n c) _ W (hT.new (hb1.trans (hb.mono (by omega)))).1 hO.bs (hdB_bytes t n c) (Nat.le_refl _) (by have := hdB_len t n c ht hn hc; omega)
      rw [hdDec_back t n c ht hn hc] at this
      exact this
    have hby := hdB_bytes t n c
    generalize hdB t n c = B at *
    rcases hcase with ⟨f1, hL⟩ | ⟨⟨f1, f2⟩, hL⟩ | ⟨⟨rfl, f2⟩, hL⟩ | ⟨⟨rfl, f2, rfl⟩, hL⟩ | ⟨⟨rfl, f2, rfl, f3⟩, hL⟩ | ⟨⟨rfl, f2, f3, f4⟩, hL⟩ <;>
    (have kl := kl _ hL
     clear hL
     obtain ⟨⟨o0, o1, o2⟩, -⟩ := hcs _ (Below.refl _ _)
     go_enter Tryd.func3, Tryd.ntmps3
     go_wp2_with fail
     refine ke.mono ?_
     rintro e w1 ⟨a1, m1, p1, rfl, hO1, hb2⟩
     clear o0 o1 o2
     obtain ⟨⟨u0, u1, u2⟩, q0, q1, q2⟩ := hcs _ hb2
     have kl1 := kl w1
     clear ke kl
     go_wp2_with fail
     refine kl1.mono ?_
     rintro e w2 ⟨rfl, hb3⟩
     have hb23 := hb2.trans (hb3.mono (by have := hb2.size; omega))
     clear u0 u1 u2 q0 q1 q2
     obtain ⟨⟨u0, u1, u2⟩, q0, q1, q2⟩ := hcs _ hb23
     have km1 := km w2
     clear kl1 km
     go_wp2_with fail
     refine km1.mono ?_
     rintro e w3 ⟨rfl, hb4⟩
     have hb24 := hb23.trans (hb4.mono (by have := hb23.size; omega))
     clear u0 u1 u2 q0 q1 q2
     have hO3 := (hO1.below hb3).below (hb4.mono (Nat.le_refl _))
     have kd1 := kd w3 a1 m1 p1 hb24 hO3
     clear km1 kd hO1
     go_wp2_with fail
     refine kd1.mono ?_
     rintro e w4 ⟨rfl, hb5⟩
     have hb25 := hb24.trans (hb5.mono (by have := hb24.size; omega))
     have hO4 := hO3.below hb5
     clear kd1 hO3
     have hbx := (Below.refl w4.heap.size w4).alloc (Nat.le_refl _) (.cells #[.int .u64 (t : Int), .int .i64 (n : Int), .int .u64 (c : Int)] 24)
     have hnx := heap_alloc_new w4 (.cells #[.int .u64 (t : Int), .int .i64 (n : Int), .int .u64 (c : Int)] 24)
     have hszx : (w4.alloc (.cells #[.int .u64 (t : Int), .int .i64 (n : Int), .int .u64 (c : Int)] 24)).heap.size = w4.heap.size + 1 := by simp
     have hb26 := hb25.trans (hbx.mono (by have := hb25.size; omega))
     have hO5 := hO4.below hbx
     clear hO4
     go_wp2
     generalize w4.alloc (.cells #[.int .u64 (t : Int), .int .i64 (n : Int), .int .u64 (c : Int)] 24) = w5 at *
     have hS : ∀ W, Below w5.heap.size w5 W → ((W.cell? ⟨w.heap.size, 0, none⟩ = some (.int .u64 (t : Int)) ∧ W.cell? ⟨w.heap.size, 1, none⟩ = some (.int .i64 (n : Int)) ∧ W.cell? ⟨w.heap.size, 2, none⟩ = some (.int .u64 (c : Int))) ∧ (W.cell? ⟨w4.heap.size, 0, none⟩ = some (.int .u64 (t : Int)) ∧ W.cell? ⟨w4.heap.size, 1, none⟩ = some (.int .i64 (n : Int)) ∧ W.cell? ⟨w4.heap.size, 2, none⟩ = some (.int .u64 (c : Int)))) ∧ (convert 25 9 (.slice a1 m1 p1)).run Tryd.prog W = .ok (.string (str B)) W := fun W hb => by
       have hbW := hb26.trans (hb.mono (by have := hb26.size; omega))
       have hx := (hb.block w4.heap.size (by omega)).trans hnx
       exact ⟨⟨(hcs W hbW).1, by rw [cells_of_block hx]; rfl, by rw [cells_of_block hx]; rfl, by rw [cells_of_block hx]; rfl⟩, str_of (hO5.bs.below hb) hby⟩
     have hdr : Below w5.heap.size w5 w5.drew := (Below.refl _ _).drew
     have y0 := hS _ hdr
     have hs5 : w.heap.size + 2 ≤ w5.heap.size := by have := hb26.size; omega
     have kr1 := kr w5.drew
     clear kr
     go_region_held (fun W => ((W.cell? ⟨w.heap.size, 0, none⟩ = some (.int .u64 (t : Int)) ∧ W.cell? ⟨w.heap.size, 1, none⟩ = some (.int .i64 (n : Int)) ∧ W.cell? ⟨w.heap.size, 2, none⟩ = some (.int .u64 (c : Int))) ∧ (W.cell? ⟨w4.heap.size, 0, none⟩ = some (.int .u64 (t : Int)) ∧ W.cell? ⟨w4.heap.size, 1, none⟩ = some (.int .i64 (n : Int)) ∧ W.cell? ⟨w4.heap.size, 2, none⟩ = some (.int .u64 (c : Int)))) ∧ (convert 25 9 (.slice a1 m1 p1)).run Tryd.prog W = .ok (.string (str B)) W)
       (first | go_keep | exact y7 | exact y6 | exact y0)
       (first
         | (go_at_call 8; refine (ka _ (hb26.trans (hb56.mono hs5))).mono ?_; rintro e w7 ⟨rfl, hb7⟩; have hb57 := hb56.trans (hb7.mono hb56.size); have y7 := hS _ hb57)
         | (go_at_call 10; refine kr1.mono ?_; rintro e w6 ⟨a6, m6, p6, rfl, hO6, hb6⟩; have hb56 := hdr.trans (hb6.mono (Nat.le_refl _)); have y6 := hS _ hb56; have c6 := str_of hO6.bs hby))
     go_wp2
     go_ret
     exact ⟨rfl, hb1.trans ((hb26.trans (hb57.mono hs5)).mono (by omega))⟩)
  · have ke := encode_no (t : Int) (c : Int) v W0 hv
    have km := fun W => refMay_no (t : Int) (c : Int) v W hv
    rw [hsz1] at ke
    clear hv
    rcases hcase with ⟨f1, hL⟩ | ⟨⟨f1, f2⟩, hL⟩ | ⟨⟨rfl, f2⟩, hL⟩ | ⟨⟨rfl, f2, rfl⟩, hL⟩ | ⟨⟨rfl, f2, rfl, f3⟩, hL⟩ | ⟨⟨rfl, f2, f3, f4⟩, hL⟩ <;>
    (have kl := kl _ hL
     clear hL
     obtain ⟨⟨o0, o1, o2⟩, -⟩ := hcs _ (Below.refl _ _)
     go_enter Tryd.func3, Tryd.ntmps3
     go_wp2_with fail
     refine ke.mono ?_
     rintro e w1 ⟨rfl, hb2⟩
     clear o0 o1 o2
     obtain ⟨⟨u0, u1, u2⟩, q0, q1, q2⟩ := hcs _ hb2
     have kl1 := kl w1
     clear ke kl
     go_wp2_with fail
     refine kl1.mono ?_
     rintro e w2 ⟨rfl, hb3⟩
     have hb23 := hb2.trans (hb3.mono (by have := hb2.size; omega))
     clear u0 u1 u2 q0 q1 q2
     obtain ⟨⟨u0, u1, u2⟩, q0, q1, q2⟩ := hcs _ hb23
     have km1 := km w2
     clear kl1 km
     go_wp2_with fail
     refine km1.mono ?_
     rintro e w3 ⟨rfl, hb4⟩
     have hb24 := hb23.trans (hb4.mono (by have := hb23.size; omega))
     have ka1 := ka w3 hb24
     clear km1 ka u0 u1 u2 q0 q1 q2
     go_wp2_with fail
     refine ka1.mono ?_
     rintro e w4 ⟨rfl, hb5⟩
     clear ka1
     go_wp2
     go_ret
     exact ⟨rfl, (hb1.trans (hb24.mono (by omega))).trans (hb5.mono (by have := hb24.size; omega))⟩)
end Go.Proofs.YtdcpdcnipmfdjaaDoor.Fr

