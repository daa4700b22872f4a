/- The law CrcOpens: true at any bytes that memory bears; what lay in memory before stays as it was. -/
import Derived.Test.YtdogjphdcdegpaaDoorStr
import Derived.Deep.RegionHeld
namespace Go.Proofs.YtdogjphdcdegpaaDoor
open Go.RowKit CrcMath
set_option maxRecDepth 100000
set_option linter.unusedSimpArgs false

theorem str_ne' {l r : List Nat} (hl : ∀ c ∈ l, c < 256) (hr : ∀ c ∈ r, c < 256) (h : l ≠ r) : ((str l).toList == (str r).toList) = false := by
  rw [beq_eq_false_iff_ne]
  intro e
  refine h (str_inj hl hr ?_)
  rw [ByteArray.toList_eq, ByteArray.toList_eq] at e
  exact ByteArray.ext (Array.toList_inj.1 e)

@[go_sem] theorem dec_lt4 {n : Nat} (h : 4 ≤ n) : decide ((n : Int) < 4) = false := by simp; omega

set_option maxHeartbeats 1000000 in
theorem opens_short (l : List Nat) (v : Value) (w : World) (hT : Tab w) (hB : Bs w.heap.size w v l) (h4 : l.length < 4) :
    Calls Tryd.prog 5 #[v] w fun e w' => e = .returned (.bool true) ∧ Below w.heap.size w w' := by
  have k1 := open_short _ l v w hB h4
  have k2 : ∀ k, Calls Tryd.prog 11 #[] (w.drewN k) _ := fun k => awake_of (w.drewN k) (hT.drewN k)
  obtain ⟨ao, cap, rfl, -⟩ := hB
  have h4i : (l.length : Int) < 4 := by omega
  go_enter Tryd.func5, Tryd.ntmps5
  go_wp2_with fail
  refine k1.mono ?_
  rintro e w1 ⟨rfl, k, rfl⟩
  go_wp2
  go_quiet (fail)
  go_wp2_with fail
  refine (k2 _).mono ?_
  rintro e w2 ⟨rfl, hb2⟩
  go_wp2
  go_ret
  exact ⟨rfl, (below_drewN (Below.refl _ _) _).trans hb2⟩

set_option maxHeartbeats 1000000 in
theorem opens_long (l : List Nat) (v : Value) (w : World) (hT : Tab w) (hB : Bs w.heap.size w v l) (hl : ∀ c ∈ l, c < 256) (hlen : l.length ≤ 140737488351232) (h4 : 4 ≤ l.length) (hne : ¬ l.take 4 = be4 (crcSum (l.drop 4))) :
    Calls Tryd.prog 5 #[v] w fun e w' => e = .returned (.bool true) ∧ Below w.heap.size w w' := by
  have k1 := open_long _ l v w hT hB hl (by omega) h4 hne
  obtain ⟨ao, cap, rfl, h2, h3, -, h5⟩ := id hB
  obtain ⟨b, off, rfl, -⟩ := h5 (by rintro rfl; simp at h4)
  have h4i : ¬ (l.length : Int) < 4 := by omega
  have g4i : (4 : Int) ≤ (l.length : Int) := by omega
  have hd := hB.drop 4 h4
  have hld : ∀ c ∈ l.drop 4, c < 256 := fun c hc => hl c (List.mem_of_mem_drop hc)
  have hsl : sealed (l.drop 4) ≠ l := fun h => hne (by conv => { lhs; rw [← h] }; rfl)
  have hst := str_ne' (sealed_lt hld) hl hsl
  have hst2 : ¬ (str (sealed (l.drop 4))).toList = (str l).toList := fun h => by rw [h] at hst; simp at hst
  go_enter Tryd.func5, Tryd.ntmps5
  go_wp2_with fail
  refine k1.mono ?_
  rintro e w1 ⟨rfl, k, hw1⟩
  have hbel1 : Below w.heap.size w w1 := by rw [hw1]; exact below_drewN (Below.refl _ _) _
  have hd1 : Below w1.heap.size w1 w1.drew := (Below.refl _ _).drew
  have hS : ∀ w', Below w1.heap.size w1 w' → (convert 22 9 (.slice (some ⟨b, off, none⟩) l.length cap)).run Tryd.prog w' = .ok (.string (str l)) w' := fun w' hb => str_of (hB.below (hbel1.trans (hb.mono hbel1.size))) hl
  have k3 := refSeal_of _ (l.drop 4) _ w1.drew (hd.below hbel1.drew) hld hbel1.size (by rw [List.length_drop]; omega)
  have k5 : ∀ w', Below w1.heap.size w1 w' → Calls Tryd.prog 11 #[] w' fun e w'' => e = .returned (.bool true) ∧ Below w'.heap.size w' w'' := fun w' hb => awake_of w' (hT.below' (hbel1.trans (hb.mono hbel1.size)) (Nat.le_refl _))
  have hcl : ∃ a, (if cap = 4 then some (⟨b, off, none⟩ : Addr) else some ⟨b, off + 4, none⟩) = some a := by split <;> exact ⟨_, rfl⟩
  obtain ⟨a, ha⟩ := hcl
  rw [ha] at k3
  clear hw1 h5 hB hd k1 hne hsl hT
  have hq := sealed_lt hld
  generalize sealed (l.drop 4) = q at *
  go_wp2
  go_region_held (fun w' => (convert 22 9 (.slice (some ⟨b, off, none⟩) l.length cap)).run Tryd.prog w' = .ok (.string (str l)) w')
    (first | go_keep | exact x4 | exact hS _ hd1)
    (first | (go_at_call 14; refine k3.mono ?_; rintro e w4 ⟨v4, rfl, hO4, hb4⟩; have hbel4 := hd1.trans hb4; have x4 := hS _ hbel4; have c4 := str_of hO4.bs hq))
  go_wp2_with fail
  refine (k5 _ hbel4).mono ?_
  rintro e w5 ⟨rfl, hb5⟩
  go_wp2
  go_ret
  exact ⟨rfl, hbel1.trans ((hbel4.trans (hb5.mono hbel4.size)).mono hbel1.size)⟩

set_option maxHeartbeats 1000000 in
theorem opens_right (l : List Nat) (v : Value) (w : World) (hT : Tab w) (hB : Bs w.heap.size w v l) (hl : ∀ c ∈ l, c < 256) (hlen : l.length ≤ 140737488351232) (h4 : 4 ≤ l.length) (heq : l.take 4 = be4 (crcSum (l.drop 4))) :
    Calls Tryd.prog 5 #[v] w fun e w' => e = .returned (.bool true) ∧ Below w.heap.size w w' := by
  have k1 := open_right _ l v w hT hB hl (Nat.le_refl _) (by omega) h4 heq
  obtain ⟨ao, cap, rfl, h2, h3, -, h5⟩ := id hB
  obtain ⟨b, off, rfl, -⟩ := h5 (by rintro rfl; simp at h4)
  have h4i : ¬ (l.length : Int) < 4 := by omega
  have g4i : (4 : Int) ≤ (l.length : Int) := by omega
  have hd := hB.drop 4 h4
  have hld : ∀ c ∈ l.drop 4, c < 256 := fun c hc => hl c (List.mem_of_mem_drop hc)
  have hsl : sealed (l.drop 4) = l := by
    unfold sealed
    rw [← heq, List.take_append_drop]
  go_enter Tryd.func5, Tryd.ntmps5
  go_wp2_with fail
  refine k1.mono ?_
  rintro e w1 ⟨v1, rfl, hO1, hbel1⟩
  have hd1 : Below w1.heap.size w1 w1.drew := (Below.refl _ _).drew
  have hS : ∀ w', Below w1.heap.size w1 w' → (convert 22 9 (.slice (some ⟨b, off, none⟩) l.length cap)).run Tryd.prog w' = .ok (.string (str l)) w' := fun w' hb => str_of (hB.below (hbel1.trans (hb.mono hbel1.size))) hl
  have k3 := refSeal_of _ (l.drop 4) _ w1.drew (hd.below hbel1.drew) hld hbel1.size (by rw [List.length_drop]; omega)
  have k5 : ∀ w', Below w1.heap.size w1 w' → Calls Tryd.prog 11 #[] w' fun e w'' => e = .returned (.bool true) ∧ Below w'.heap.size w' w'' := fun w' hb => awake_of w' (hT.below' (hbel1.trans (hb.mono hbel1.size)) (Nat.le_refl _))
  have hcl : ∃ a, (if cap = 4 then some (⟨b, off, none⟩ : Addr) else some ⟨b, off + 4, none⟩) = some a := by split <;> exact ⟨_, rfl⟩
  obtain ⟨a, ha⟩ := hcl
  rw [hsl] at k3
  have hS2 : ∀ w', Below w1.heap.size w1 w' → (convert 22 9 v1).run Tryd.prog w' = .ok (.string (str (l.drop 4))) w' ∧ (convert 22 9 (.slice (some a) (l.length - 4) (cap - 4))).run Tryd.prog w' = .ok (.string (str (l.drop 4))) w' := fun w' hb =>
    ⟨str_of (hO1.bs.below hb) hld, str_of (by rw [← ha]; exact hd.below (hbel1.trans (hb.mono hbel1.size))) hld⟩
  rw [ha] at k3
  clear h5 hB hd k1 heq hsl hT hO1
  generalize l.drop 4 = r at *
  go_wp2
  go_region_held (fun w' => (convert 22 9 (.slice (some ⟨b, off, none⟩) l.length cap)).run Tryd.prog w' = .ok (.string (str l)) w')
    (first | go_keep | exact x4 | exact hS _ hd1)
    (first | (go_at_call 14; refine k3.mono ?_; rintro e w4 ⟨v4, rfl, hO4, hb4⟩; have hbel4 := hd1.trans hb4; have x4 := hS _ hbel4; have c4 := str_of hO4.bs hl))
  have hd4 : Below w1.heap.size w1 w4.drew := hbel4.drew
  have k6 := k5 _ hd4
  clear k5 k3 c4 hO4 hS x4
  go_wp2
  go_region_held (fun w' => (convert 22 9 v1).run Tryd.prog w' = .ok (.string (str r)) w' ∧ (convert 22 9 (.slice (some a) (l.length - 4) (cap - 4))).run Tryd.prog w' = .ok (.string (str r)) w')
    (first | go_keep | exact x5 | exact hS2 _ hd4)
    (first | (go_at_call 11; refine k6.mono ?_; rintro e w5 ⟨rfl, hb5⟩; have hbel5 := hd4.trans (hb5.mono hd4.size); have x5 := hS2 _ hbel5))
  go_wp2
  go_ret
  exact ⟨rfl, hbel1.trans (hbel5.mono hbel1.size)⟩

theorem opens_law (l : List Nat) (v : Value) (w : World) (hT : Tab w) (hB : Bs w.heap.size w v l) (hl : ∀ c ∈ l, c < 256) (hlen : l.length ≤ 140737488351232) :
    Calls Tryd.prog 5 #[v] w fun e w' => e = .returned (.bool true) ∧ Below w.heap.size w w' := by
  by_cases h4 : l.length < 4
  · exact opens_short l v w hT hB h4
  by_cases he : l.take 4 = be4 (crcSum (l.drop 4))
  · exact opens_right l v w hT hB hl hlen (by omega) he
  · exact opens_long l v w hT hB hl hlen (by omega) he
end Go.Proofs.YtdogjphdcdegpaaDoor
