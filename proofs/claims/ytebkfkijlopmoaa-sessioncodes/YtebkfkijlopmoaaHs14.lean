import Derived.Test.YtebkfkijlopmoaaHs11
/- The contract of a reader's Bytes where there are enough: the bytes, in memory of their own; nothing but the reader's own block has turned. -/
namespace Go.Proofs.Ytebkfkijlopmoaa.Wi
open Go.RowKit WireMath
set_option maxRecDepth 100000
set_option linter.unusedSimpArgs false

theorem Bs.took {n : Nat} {w : World} {l : List Nat} {ao : Option Addr} {len cap k : Nat} (h : Bs n w (.slice ao len cap) l) (hk : k ≤ l.length) : Bs n w (.slice ao k cap) (l.take k) := by
  obtain ⟨ao', cp, e0, h2, h3, h4, h5⟩ := h
  cases e0
  have hl : (l.take k).length = k := by rw [List.length_take]; omega
  refine ⟨ao, cap, by rw [hl], by rw [hl]; omega, h3, h4, fun hne => ?_⟩
  obtain ⟨b, off, e1, e2, e3⟩ := h5 (by rintro rfl; simp at hne)
  refine ⟨b, off, e1, e2, fun j c hj => e3 j c ?_⟩
  rw [List.getElem?_take] at hj
  split at hj
  · exact hj
  · cases hj

set_option maxHeartbeats 600000 in
theorem bytes_ok (q : Nat) (l : List Nat) (a n k : Nat) (m : Int) (w : World) (h : Rd w q l a 0) (hl : ∀ c ∈ l, c < 256) (hrd : rd 10 0 0 (src l a 0) = some (n, k)) (hm : (n : Int) ≤ m) (hm2 : m ≤ 9223372036854775807)
    (hn : k + n ≤ (src l a 0).length) (hlen : l.length ≤ 140737488355328) :
    Calls Try.prog 45 #[.pointer (some ⟨q, 0, none⟩), .int .i64 m] w fun e w' => ∃ v, e = .returned v ∧ Own w.heap.size w' v (((src l a 0).drop k).take n) ∧ Rd w' q l (a + (k + n)) 0 ∧ Kp q w w' := by
  obtain ⟨_, hk0, hk10, hkl⟩ := rd_facts (src_bytes hl) hrd
  have hal : a + (k + n) ≤ l.length := (src_len hn (by omega)).2
  have hp := peekM_some q l a 0 n k m w h hl hrd hm hm2
  have hr : ∀ W, Rd W q l a 0 → Calls Try.prog 53 #[.pointer (some ⟨q, 0, none⟩)] W fun e w' => ∃ v, e = .returned v ∧ Bs q w' v (src l a 0) ∧ Below W.heap.size W w' := fun W hW => rest_of q l a 0 W hW
  have hsl : (src l a 0).length ≤ l.length := by simp [src]
  clear hrd
  generalize src l a 0 = s at *
  have hk1 : ¬ (k : Int) = 0 := by omega
  have hk2 : ¬ k = 0 := by omega
  have hn2 : n ≤ s.length - k := by omega
  have hn3 : (n : Int) ≤ ((s.length - k : Nat) : Int) := by omega
  go_enter Try.func45, Try.ntmps45
  go_wp2_with fail
  refine hp.mono ?_
  rintro e w1 ⟨rfl, h1, k1⟩
  clear hp hm
  go_wp2_with fail
  refine (hr w1 h1).mono ?_
  rintro e w2 ⟨v2, rfl, hB2, hb2⟩
  have h2 := h1.below hb2
  have k2 : Kp q w w2 := k1.trans (Kp.of_below hb2)
  obtain ⟨ao, cap, rfl, g2, g3, _, g5⟩ := id hB2
  obtain ⟨bb, off, rfl, _, _⟩ := g5 (by rintro rfl; simp at hkl; omega)
  have hD := Bs.dropped hB2 hkl
  have hks : (k : Int) ≤ (s.length : Int) := by omega
  have hkc : (k : Int) ≤ (cap : Int) := by omega
  have hmc : (cap : Int) ≤ 9223372036854775807 := by unfold maxLen at g3; omega
  have hTl : (s.drop k).length = s.length - k := List.length_drop
  clear g5 hB2 k1 hb2 h1 hr
  have hsk := skip_of q l a 0 (k + n) w2 h2 hal
  rw [Int.natCast_add] at hsk
  by_cases hck : cap = k
  · subst hck
    have hlc : s.length = cap := by omega
    obtain rfl : n = 0 := by omega
    have hB3 : Bs q w2 (.slice (some ⟨bb, off, none⟩) 0 0) [] := ⟨_, _, rfl, Nat.le_refl _, Nat.zero_le _, fun _ => rfl, fun h => absurd rfl h⟩
    have hlz : s.length - cap = 0 := by omega
    have hsk0 := skip_of q l a 0 cap w2 h2 (by omega)
    clear hD hsk
    go_wp2_with fail
    refine hsk0.mono ?_
    rintro e w3 ⟨rfl, h3, k3⟩
    have hB4 := hB3.kp k3
    go_wp2_with fail
    refine (clone_of q [] _ w3 hB4 (Nat.le_of_lt h3.lt) (by simp)).mono ?_
    rintro e w4 ⟨v4, rfl, hO4, hb4⟩
    go_wp2
    go_ret
    exact ⟨_, rfl, by rw [List.take_zero]; exact hO4.mono (Nat.le_trans k2.size k3.size), h3.below hb4, (k2.trans k3).trans (Kp.of_below hb4)⟩
  · have hB3 := Bs.took (hD.2 hck) (k := n) (by omega)
    rw [Addr.add_lit] at hB3
    have hcn : (n : Int) ≤ ((cap - k : Nat) : Int) := by omega
    clear hD
    go_wp2_with fail
    refine hsk.mono ?_
    rintro e w3 ⟨rfl, h3, k3⟩
    have hB4 := hB3.kp k3
    go_wp2_with fail
    refine (clone_of q _ _ w3 hB4 (Nat.le_of_lt h3.lt) (by rw [List.length_take]; omega)).mono ?_
    rintro e w4 ⟨v4, rfl, hO4, hb4⟩
    go_wp2
    go_ret
    exact ⟨_, rfl, hO4.mono (Nat.le_trans k2.size k3.size), h3.below hb4, (k2.trans k3).trans (Kp.of_below hb4)⟩
end Go.Proofs.Ytebkfkijlopmoaa.Wi

