/- The contracts of the document's own value, open and Next: the frame at the beginning of bytes as the program finds it; what lay in memory before stays as it was. -/
import Derived.Test.YtlminobaohkalaaDoorPuts
import Derived.Test.YtlminobaohkalaaDoorRefUv
import Derived.Deep.RegionHeld
namespace Go.Proofs.YtlminobaohkalaaDoor
open Go.RowKit WireMath CrcMath FrameMath
set_option maxRecDepth 100000
set_option linter.unusedSimpArgs false

set_option maxHeartbeats 2000000 in
theorem value_of (n₀ : Nat) (l : List Nat) (v : Value) (w : World) (hB : Bs n₀ w v l) (hl : ∀ c ∈ l, c < 256) (hn₀ : n₀ ≤ w.heap.size) :
    Calls Tryd.prog 23 #[v] w fun e w' => e = .returned (.tuple #[.int .u64 (((rd 10 0 0 l).getD (0, 0)).1 : Int), .bool (decide (uv ((rd 10 0 0 l).getD (0, 0)).1 = l))]) ∧ Below w.heap.size w w' := by
  have hb1 := (Below.refl w.heap.size w).alloc (Nat.le_refl _) (.cells #[v, .int .i64 0, .int .i64 0] 69)
  have hB1 := hB.below (hb1.mono hn₀)
  have hR : Rr n₀ (w.alloc (.cells #[v, .int .i64 0, .int .i64 0] 69)) w.heap.size l 0 0 := ⟨v, heap_alloc_new w _, hB1, Nat.zero_le _, hn₀⟩
  have hu := ruv_of n₀ w.heap.size l 0 0 _ hR hl
  have hN : uvN l 0 0 = ((rd 10 0 0 l).getD (0, 0)).1 := rfl
  have hNlt := uvN_lt (a := 0) (b := 0) hl
  rw [hN] at hu hNlt
  generalize ((rd 10 0 0 l).getD (0, 0)).1 = N at *
  have hub : ∀ c ∈ uv N, c < 256 := uv_bytes N
  obtain ⟨ao, cap, rfl, -⟩ := id hB
  obtain ⟨B, HB⟩ : ∃ B, Hid (B = decide (uv N = l)) := ⟨_, rfl⟩
  rw [← HB.out]
  clear hR hN
  go_enter Tryd.func23, Tryd.ntmps23
  go_wp2_with fail
  refine hu.mono ?_
  rintro e w2 ⟨rfl, -, hk2⟩
  have hbel2 : Below w.heap.size w w2 := hb1.trans (hk2.below (Nat.le_refl _) hb1.size)
  have hB2 := hB.below (hbel2.mono hn₀)
  clear hu hk2 hB1 hB hb1
  have hd2 : Below w2.heap.size w2 w2.drew := (Below.refl _ _).drew
  have ku := refUvarint_of N w2.drew hNlt
  have hS : ∀ w', Below w2.heap.size w2 w' → (convert 22 9 (.slice ao l.length cap)).run Tryd.prog w' = .ok (.string (str l)) w' := fun w' hb => str_of (hB2.below (hb.mono (Nat.le_trans hn₀ hbel2.size))) hl
  by_cases he : uv N = l
  · have HE : Hid (B = true) := HB.out.trans (decide_eq_true he)
    rw [he] at ku hub
    clear he HB
    go_wp2
    go_region_held (fun w' => (convert 22 9 (.slice ao l.length cap)).run Tryd.prog w' = .ok (.string (str l)) w')
      (first | go_keep | exact x4 | exact hS _ hd2)
      (first | (go_at_call 20; refine ku.mono ?_; rintro e w4 ⟨v4, rfl, hO4, hb4⟩; have hbel4 := hd2.trans hb4; have x4 := hS _ hbel4; have c4 := str_of hO4.bs hl))
    go_wp2
    go_ret2
    exact ⟨by rw [HE.out]; rfl, hbel2.trans (hbel4.mono hbel2.size)⟩
  · have HE : Hid (B = false) := HB.out.trans (decide_eq_false he)
    have hst := str_ne hub hl he
    have hst2 : ¬ (str (uv N)).toList = (str l).toList := fun h => by rw [h] at hst; simp at hst
    clear HB
    generalize uv N = U at *
    go_wp2
    go_region_held (fun w' => (convert 22 9 (.slice ao l.length cap)).run Tryd.prog w' = .ok (.string (str l)) w')
      (first | go_keep | exact x4 | exact hS _ hd2)
      (first | (go_at_call 20; refine ku.mono ?_; rintro e w4 ⟨v4, rfl, hO4, hb4⟩; have hbel4 := hd2.trans hb4; have x4 := hS _ hbel4; have c4 := str_of hO4.bs hub))
    go_wp2
    go_ret2
    exact ⟨by rw [HE.out]; rfl, hbel2.trans (hbel4.mono hbel2.size)⟩

theorem refOpen_of (n₀ : Nat) (l : List Nat) (v : Value) (w : World) (hB : Bs n₀ w v l) :
    Calls Tryd.prog 24 #[v] w fun e w' => e = .returned (.bool (openB l)) ∧ w' = w := by
  obtain ⟨ao, cap, rfl, h2, h3, h4, h5⟩ := id hB
  have hm : l.length ≤ 9223372036854775807 := by unfold maxLen at h3; omega
  by_cases h2l : 2 < l.length
  · have i2 : (2 : Int) < (l.length : Int) := by omega
    have E' : Hid (openB l = false) := by
      show _ = _
      unfold openB
      rw [decide_eq_false (by omega)]
      rfl
    clear hB h5
    go_enter Tryd.func24, Tryd.ntmps24
    go_wp2
    go_ret
    exact ⟨by rw [E'.out]; rfl, rfl⟩
  have i2 : ¬ (2 : Int) < (l.length : Int) := by omega
  have hop : openB l = l.all fun c => decide (128 ≤ c) := by
    unfold openB
    rw [decide_eq_true (by omega), Bool.true_and]
  rw [hop]
  go_enter Tryd.func24, Tryd.ntmps24
  go_wp2
  go_loopg [3] l.length (fun g s3 wr => ∃ i : Nat, i + g = l.length ∧ s3 = .int .i64 (i : Int) ∧ Hid (∀ j c, j < i → l[j]? = some c → 128 ≤ c) ∧ wr = w)
  case atStart => exact ⟨0, by simp, rfl, fun _ _ h => by omega, rfl⟩
  case round =>
    obtain ⟨i, hi, rfl, E, rfl⟩ := hrel
    by_cases hlt : i < l.length
    · obtain ⟨b, off, rfl, hb, hc⟩ := h5 (by rintro rfl; simp at hlt)
      have hg : l[i]? = some l[i] := List.getElem?_eq_getElem hlt
      have hcell := hc i l[i] hg
      have hlti : (i : Int) < (l.length : Int) := by omega
      by_cases h128 : l[i] < 128
      · have E' : Hid ((l.all fun c => decide (128 ≤ c)) = false) := by
          show _ = _
          rw [Bool.eq_false_iff]
          intro h
          have := List.all_eq_true.1 h l[i] (List.getElem_mem hlt)
          simp only [decide_eq_true_eq] at this
          omega
        generalize l[i] = c at hcell h128
        have q : (c : Int) < 128 := by omega
        clear E hc h5 hB hg hop
        go_wp2
        go_ret
        exact ⟨by rw [E'.out]; rfl, rfl⟩
      · have E' : Hid (∀ j c, j < i + 1 → l[j]? = some c → 128 ≤ c) := by
          intro j c hj hjc
          by_cases hji : j = i
          · subst hji
            rw [hg] at hjc
            cases hjc
            omega
          · exact E.out j c (by omega) hjc
        generalize l[i] = c at hcell h128
        have q : ¬ (c : Int) < 128 := by omega
        clear E hc h5 hB hg hop
        go_wp2
        go_roundg (gk - 1)
        case measure => omega
        case rel => exact ⟨i + 1, by omega, by go_num, E', rfl⟩
    · have hlti : ¬ (i : Int) < (l.length : Int) := by omega
      have E' : Hid ((l.all fun c => decide (128 ≤ c)) = true) := by
        show _ = _
        rw [List.all_eq_true]
        intro x hx
        obtain ⟨j, hj, rfl⟩ := List.getElem_of_mem hx
        simpa using E.out j l[j] (by omega) (List.getElem?_eq_getElem hj)
      clear E h5 hB hop
      go_wp2
      go_ret
      exact ⟨by rw [E'.out]; rfl, rfl⟩
end Go.Proofs.YtlminobaohkalaaDoor
