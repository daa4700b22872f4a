/- The law CrcSeals: true at any bytes that memory bears; what lay in memory before stays as it was. -/
import Derived.Test.YtdogjphdcdegpaaDoorStr
import Derived.Deep.RegionHeld
namespace Go.Proofs.YtdogjphdcdegpaaDoor
open Go.RowKit CrcMath
set_option maxRecDepth 100000
set_option linter.unusedSimpArgs false

theorem Bs.heap {n₀ : Nat} {w w' : World} {v : Value} {l : List Nat} (h : Bs n₀ w v l) (he : w'.heap = w.heap) : Bs n₀ w' v l := by
  obtain ⟨ao, cap, h1, h2, h3, h4, h5⟩ := h
  exact ⟨ao, cap, h1, h2, h3, h4, fun hne => by
    obtain ⟨b, off, e1, e2, e3⟩ := h5 hne
    exact ⟨b, off, e1, e2, fun j c hj => by
      have := e3 j c hj
      unfold World.cell? at this ⊢
      rw [he]
      exact this⟩⟩

theorem sealed_take (l : List Nat) : (sealed l).take 4 = be4 (crcSum l) := rfl
theorem sealed_drop (l : List Nat) : (sealed l).drop 4 = l := rfl

set_option maxHeartbeats 1000000 in
theorem seals_law (l : List Nat) (v : Value) (w : World) (hT : Tab w) (hB : Bs w.heap.size w v l) (hl : ∀ c ∈ l, c < 256) (hlen : l.length ≤ 140737488351232) :
    Calls Tryd.prog 4 #[v] w fun e w' => e = .returned (.bool true) ∧ Below w.heap.size w w' := by
  have hO := own_new w #[] [] rfl (by simp)
  have hb1 := (Below.refl w.heap.size w).alloc (Nat.le_refl _) (.cells #[] 5)
  have hB1 := hB.below hb1
  have hc1 : (([] : List Nat).length + l.length) ≤ 140737488355328 := by simp; omega
  go_enter Tryd.func4, Tryd.ntmps4
  go_wp2_with (at_builtin; refine wpList_append_bs rfl _ _ rfl w.heap.size _ [] rfl hO hb1.size w.heap.size _ l rfl hB1 hc1 ?_)
  intro v1 w1 hO1 hb1'
  have hbel1 : Below w.heap.size w w1 := hb1.trans hb1'
  have hO1' : Own w.heap.size w1 v1 l := hO1
  clear hO hb1 hB1 hb1' hO1
  have k1 := seal_of _ l v1 w1 (hT.below' hbel1 (Nat.le_refl _)) hO1'.bs hl (Nat.le_refl _) hlen
  go_wp2_with fail
  refine k1.mono ?_
  rintro e w2 ⟨v2, rfl, hO2, hb2⟩
  clear k1
  have hbel2 : Below w.heap.size w w2 := hbel1.trans (hb2.mono hbel1.size)
  have hown2 := hO1'.bs.below hb2
  have k2 := open_right _ (sealed l) v2 w2 (hT.below' hbel2 (Nat.le_refl _)) hO2.bs (sealed_lt hl) (Nat.le_refl _) (by rw [sealed_length]; omega) (by rw [sealed_length]; omega) (by rw [sealed_take, sealed_drop])
  rw [sealed_drop] at k2
  go_wp2_with fail
  refine k2.mono ?_
  rintro e w3 ⟨v3, rfl, hO3, hb3⟩
  clear k2
  have hbel3 : Below w.heap.size w w3 := hbel2.trans (hb3.mono hbel2.size)
  have hs3 := hO2.bs.below hb3
  have hown3 := hown2.below (hb3.mono hb2.size)
  have hS : ∀ w', Below w3.heap.size w3 w' → (convert 22 9 v2).run Tryd.prog w' = .ok (.string (str (sealed l))) w' ∧ (convert 22 9 v3).run Tryd.prog w' = .ok (.string (str l)) w' ∧
      (convert 22 9 v1).run Tryd.prog w' = .ok (.string (str l)) w' ∧ (convert 22 9 v).run Tryd.prog w' = .ok (.string (str l)) w' := fun w' hb =>
    ⟨str_of (hs3.below (hb.mono hb3.size)) (sealed_lt hl), str_of (hO3.bs.below hb) hl, str_of (hown3.below (hb.mono (Nat.le_trans hb2.size hb3.size))) hl, str_of (hB.below (hbel3.trans (hb.mono hbel3.size))) hl⟩
  have hd : Below w3.heap.size w3 w3.drew := (Below.refl _ _).drew
  have k3 := refSeal_of _ l v w3.drew (hB.below (hbel3.trans (hd.mono hbel3.size))) hl hbel3.size hlen
  have k5 : ∀ w', Below w3.heap.size w3 w' → Calls Tryd.prog 11 #[] w' fun e w'' => e = .returned (.bool true) ∧ Below w'.heap.size w' w'' := fun w' hb => awake_of w' (hT.below' (hbel3.trans (hb.mono hbel3.size)) (Nat.le_refl _))
  clear hO1' hown2 hown3 hs3 hO3 hO2
  go_wp2
  go_region_held (fun w' => (convert 22 9 v2).run Tryd.prog w' = .ok (.string (str (sealed l))) w' ∧ (convert 22 9 v3).run Tryd.prog w' = .ok (.string (str l)) w' ∧
      (convert 22 9 v1).run Tryd.prog w' = .ok (.string (str l)) w' ∧ (convert 22 9 v).run Tryd.prog w' = .ok (.string (str l)) w')
    (first | go_keep | exact x5 | exact x4 | exact hS _ hd)
    (first | (go_at_call 14; refine k3.mono ?_; rintro e w4 ⟨v4, rfl, hO4, hb4⟩; have hbel4 := hd.trans hb4; have x4 := hS _ hbel4; have c4 := str_of hO4.bs (sealed_lt hl)) | (go_at_call 11; refine (k5 _ hbel4).mono ?_; rintro e w5 ⟨rfl, hb5⟩; have hbel5 := hbel4.trans (hb5.mono hbel4.size); have x5 := hS _ hbel5))
  go_wp2
  go_ret
  exact ⟨rfl, hbel3.trans (hbel5.mono hbel3.size)⟩
end Go.Proofs.YtdogjphdcdegpaaDoor
