import Derived.Test.YtoipjmjhplkibaaDoorQ28
import Derived.Test.YtoipjmjhplkibaaDoorQ15
import Derived.Test.YtoipjmjhplkibaaDoorQ07
import Derived.Test.YtoipjmjhplkibaaDoorQ11
/- The contracts of the program's place and Chunk. -/
namespace Go.Proofs.YtoipjmjhplkibaaDoor
open Go.RowKit
set_option maxRecDepth 100000
set_option linter.unusedSimpArgs false
set_option linter.unusedVariables false

set_option maxHeartbeats 1000000 in
theorem place_of (n₀ : Nat) (l : List Nat) (v : Value) (i : Nat) (w : World) (hB : Fr.Bs n₀ w v l) (hi : i < chunks l.length) (hlen : l.length ≤ 100000) :
    Calls Tryd.prog 18 #[v, .int .i64 (i : Int)] w fun e w' => ∃ a n c, e = .returned (.slice a n c) ∧ Fr.Bs n₀ w (.slice a n c) (chAt l i) ∧ w' = w := by
  obtain ⟨hk1, hk2⟩ := chunks_le hi
  obtain ⟨ao, cap, rfl, h2, h3, h4, h5⟩ := id hB
  have hcap : (cap : Int) ≤ 9223372036854775807 := by unfold maxLen at h3; omega
  obtain ⟨k, hk⟩ : ∃ k, k = i * 256 := ⟨_, rfl⟩
  have hkl : k ≤ l.length := by omega
  have hkt : ((i : Int) * 256).toNat = k := by omega
  have hk0 : (0 : Int) ≤ (i : Int) * 256 := by omega
  have e1 : (i : Int) * 256 ≤ (cap : Int) := by omega
  have e2 : (i : Int) * 256 ≤ (l.length : Int) := by omega
  have e3 : (l.length : Int) ≤ (cap : Int) := by omega
  obtain ⟨m, hm⟩ : ∃ m, m = min (l.length - k) 256 := ⟨_, rfl⟩
  have hmm : (m : Int) = min ((l.length - k : Nat) : Int) 256 := by omega
  have hml : m ≤ (l.drop k).length := by rw [List.length_drop]; omega
  have hct : (l.drop k).take m = chAt l i := by
    unfold chAt
    rw [← hk, hm]
    have e : (l.drop k).length = l.length - k := List.length_drop
    by_cases h : l.length - k ≤ 256
    · rw [Nat.min_eq_left h, ← e, List.take_length, List.take_of_length_le (by omega)]
    · rw [Nat.min_eq_right (by omega)]
  cases ao with
  | none =>
    have hc0 := h4 rfl
    subst hc0
    obtain rfl : l = [] := List.eq_nil_of_length_eq_zero (by omega)
    obtain rfl : i = 0 := by unfold chunks at hi; simp at hi; exact hi
    have hB' : Fr.Bs n₀ w (.slice none 0 0) (chAt [] 0) := Fr.Bs.nil _ _
    clear hmm hct hm hk hkt hk0 e1 e2 e3 hml hkl
    go_enter Tryd.func18, Tryd.ntmps18
    go_wp2
    go_ret
    exact ⟨_, _, _, rfl, hB', rfl⟩
  | some ad =>
    have hBd := Fr.Bs.dropped hB hkl
    have hls : ((l.length - k : Nat) : Int) = (l.length : Int) - (k : Int) := by omega
    obtain ⟨L, hL⟩ : ∃ L, L = l.length - k := ⟨_, rfl⟩
    rw [← hL] at hmm hBd
    have f1 : (m : Int) ≤ (L : Int) := by omega
    have f2 : min (L : Int) 256 = (m : Int) := hmm.symm
    have f3 : L + k ≤ cap := by omega
    have hE1 : cap = k → Fr.Bs n₀ w (.slice (some ad) m 0) (chAt l i) := fun h => by
      have := Fr.Bs.took (hBd.1 h) hml
      rw [hct] at this
      exact this
    have hE2 : ¬ cap = k → Fr.Bs n₀ w (.slice (some (ad.add k)) m (cap - k)) (chAt l i) := fun h => by
      have := Fr.Bs.took (hBd.2 h) hml
      rw [hct] at this
      exact this
    have hL0 : l.length - k = L := hL.symm
    by_cases hck : cap = k
    · have hB' := hE1 hck
      have hLz : L = 0 := by omega
      have hmz : m = 0 := by omega
      subst hmz
      clear hE1 hE2 hBd hB h5 hm hmm hct hml hk1 hk2 hls hL hk
      go_enter Tryd.func18, Tryd.ntmps18
      go_wp2
      go_ret
      exact ⟨_, _, _, rfl, hB', rfl⟩
    · have hB' := hE2 hck
      have f4 : (m : Int) ≤ ((cap - k : Nat) : Int) := by omega
      have f5 : m ≤ cap - k := by omega
      clear hE1 hE2 hBd hB h5 hm hmm hct hml hk1 hk2 hls hL hk
      by_cases h256 : (256 : Int) < (L : Int)
      · have hm2 : m = 256 := by omega
        subst hm2
        go_enter Tryd.func18, Tryd.ntmps18
        go_wp2
        go_ret
        exact ⟨_, _, _, rfl, hB', rfl⟩
      · have hm2 : m = L := by omega
        subst hm2
        go_enter Tryd.func18, Tryd.ntmps18
        go_wp2
        go_ret
        exact ⟨_, _, _, rfl, hB', rfl⟩

set_option maxHeartbeats 1000000 in
theorem chunk_no (n₀ : Nat) (l : List Nat) (v : Value) (i : Int) (w : World) (hB : Fr.Bs n₀ w v l) (hi : ¬ (0 ≤ i ∧ i < (chunks l.length : Int))) :
    Calls Tryd.prog 7 #[v, .int .i64 i] w fun e w' => e = .returned (.tuple #[.slice none 0 0, .bool false]) ∧ w' = w := by
  obtain ⟨ao, cap, rfl, h2, h3, h4, h5⟩ := id hB
  have kc := fun W => count_of l.length W (by unfold maxLen at h3; omega)
  clear hB h5
  by_cases h0 : i < 0
  · go_enter Tryd.func7, Tryd.ntmps7
    go_wp2
    go_ret2
    exact ⟨rfl, rfl⟩
  · have h1 : ¬ i < (chunks l.length : Int) := by omega
    have h1' : (chunks l.length : Int) ≤ i := by omega
    have kc1 := kc w
    generalize chunks l.length = C at *
    go_enter Tryd.func7, Tryd.ntmps7
    go_wp2_with fail
    refine kc1.mono ?_
    rintro e w1 ⟨rfl, hw⟩
    rw [hw]
    go_wp2
    go_ret2
    exact ⟨rfl, rfl⟩
set_option maxHeartbeats 1000000 in
theorem chunk_of (n₀ : Nat) (l : List Nat) (v : Value) (i : Nat) (w : World) (hB : Fr.Bs n₀ w v l) (hn₀ : n₀ ≤ w.heap.size) (hi : i < chunks l.length) (hlen : l.length ≤ 100000) :
    Calls Tryd.prog 7 #[v, .int .i64 (i : Int)] w fun e w' => ∃ a n c, e = .returned (.tuple #[.slice a n c, .bool true]) ∧ Fr.Own w.heap.size w' (.slice a n c) (chAt l i) ∧ Below w.heap.size w w' := by
  obtain ⟨ao, cap, rfl, h2, h3, h4, h5⟩ := id hB
  have kc := count_of l.length w (by unfold maxLen at h3; omega)
  have kp := place_of n₀ l _ i w hB hi hlen
  have kl : ∀ v, Fr.Bs n₀ w v (chAt l i) → Calls Tryd.prog 17 #[v] w fun e w' => ∃ v', e = .returned v' ∧ Fr.Own w.heap.size w' v' (chAt l i) ∧ Below w.heap.size w w' := fun v hv => Fr.clone_of n₀ _ v w hv hn₀ (by rw [chAt_len]; omega)
  clear hB h5
  have h0 : ¬ (i : Int) < 0 := by omega
  have h1 : (i : Int) < (chunks l.length : Int) := by omega
  have h1' : ¬ (chunks l.length : Int) ≤ (i : Int) := by omega
  generalize chunks l.length = C at *
  generalize chAt l i = D at *
  go_enter Tryd.func7, Tryd.ntmps7
  go_wp2_with fail
  refine kc.mono ?_
  rintro e w1 ⟨rfl, hw⟩
  rw [hw]
  clear kc hw
  go_wp2_with fail
  refine kp.mono ?_
  rintro e w2 ⟨a2, n2, c2, rfl, hB2, hw2⟩
  rw [hw2]
  have kl2 := kl _ hB2
  clear kp hw2 kl hB2
  go_wp2_with fail
  refine kl2.mono ?_
  rintro e w3 ⟨v3, rfl, hO3, hb3⟩
  obtain ⟨a3, c3, rfl⟩ := hO3.shape
  clear kl2
  go_wp2
  go_ret2
  exact ⟨_, _, _, rfl, hO3, hb3⟩
end Go.Proofs.YtoipjmjhplkibaaDoor

