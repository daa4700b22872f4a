/- The walk of the law WireCanonical: it answers true at every byte slice, and what lay in memory before stays as it was. -/
import Derived.Test.YtjimippblgddbaaPeek
import Derived.Test.YtjimippblgddbaaRf
import Derived.Deep.RegionWith
namespace Go.Proofs.Ytjimippblgddbaa
open Go.RowKit WireMath
set_option maxRecDepth 100000
set_option linter.unusedSimpArgs false

theorem Bs.taken {n : Nat} {w : World} {l : List Nat} {ao : Option Addr} {cap k : Nat} (h : Bs n w (.slice ao l.length cap) l) (hk : k ≤ l.length) : Bs n w (.slice ao k cap) (l.take k) := by
  obtain ⟨ao', cp, e0, h2, h3, h4, h5⟩ := h
  cases e0
  have hl : (l.take k).length = k := by rw [List.length_take]; omega
  refine ⟨ao, cap, by rw [hl], by rw [hl]; omega, h3, h4, fun hne => ?_⟩
  obtain ⟨b, off, e1, e2, e3⟩ := h5 (by rintro rfl; simp at hne)
  refine ⟨b, off, e1, e2, fun j c hj => e3 j c ?_⟩
  rw [List.getElem?_take] at hj
  split at hj
  · exact hj
  · cases hj

theorem Rd.kp {w w' : World} {p q : Nat} {l : List Nat} {a b : Nat} (h : Rd w p l a b) (hk : Kp q w w') (hne : p ≠ q) (hlt : p < q) : Rd w' p l a b := by
  have hp := h.lt
  obtain ⟨sv, h1, h2, h3⟩ := h
  exact ⟨sv, (hk.block p hp (fun e => hne (by simpa using e))).trans h1, h2.below (hk.below (Nat.le_of_lt hlt) (Nat.le_of_lt hp)), h3⟩

set_option maxHeartbeats 4000000 in
theorem canon_none (l : List Nat) (v : Value) (w : World) (hB : Bs w.heap.size w v l) (hl : ∀ c ∈ l, c < 256) (hlen : l.length ≤ 140737488355328) (hrd : rd 10 0 0 l = none) :
    Calls Try.prog 6 #[v] w fun e w' => e = .returned (.bool true) ∧ Below w.heap.size w w' := by
  have hs : rd 10 0 0 (src l 0 0) = none := hrd
  have u1 : uvN l 0 0 = 0 := by simp [uvN, hs]
  have u2 : uvA l 0 0 = 0 := by simp [uvA, hs]
  have u3 : uvE l 0 0 = 5 := by simp [uvE, hs, wb]
  obtain ⟨ao, cap, rfl, g2, g3, _⟩ := id hB
  have hm : (l.length : Int) ≤ 9223372036854775807 := by unfold maxLen at g3; omega
  have uz : unzz 0 = 0 := rfl
  have hcell : ∀ {W : World} {q : Nat} {a : Nat}, Rd W q l a 5 → W.cell? ⟨q, 2, none⟩ = some (.int .i64 5) := fun ⟨sv, h1, _⟩ => by rw [cells_of_block h1]; rfl
  go_enter Try.func6, Try.ntmps6
  go_wp2_with fail
  refine (read_of w.heap.size l _ w hB (Nat.le_refl _) hlen).mono ?_
  rintro e w1 ⟨p, rfl, hp, hR1, hb1⟩
  have hU := uvarint_m p l 0 0 w1 hR1 hl
  rw [u1, u2, u3] at hU
  go_wp2_with fail
  refine hU.mono ?_
  rintro e w2 ⟨rfl, hR2, k2⟩
  have hb2 : Below w.heap.size w w2 := hb1.trans (k2.below hp hb1.size)
  clear hU
  go_wp2_with fail
  refine (left_of p l 0 5 w2 hR2).mono ?_
  rintro e w3 ⟨rfl, hb3⟩
  have hR3 := hR2.below hb3
  have hb3' : Below w.heap.size w w3 := hb2.trans (hb3.mono hb2.size)
  have c3 := hcell hR3
  have hE3 : ∀ k, Calls Try.prog 20 #[.pointer (some ⟨p, 0, none⟩)] (w3.drewN k) fun e w' => e = .returned (.int .i64 5) ∧ w' = w3.drewN k := fun k => err_of p 5 _ c3
  go_wp2_with fail
  go_quiet (first | (go_at_call 20; exact Calls.quiet_of_same (hE3 _)))
  have hbd : Below w.heap.size w (w3.drewN nq) := below_drewN hb3' nq
  have hRd : Rd (w3.drewN nq) p l 0 5 := hR3.below (below_drewN (Below.refl _ _) nq)
  generalize w3.drewN nq = w4 at hbd hRd ⊢
  clear hE3 c3 hb3' hR3 hb3 hR2 hR1 k2 hb1 hb2
  go_wp2_with fail
  refine (read_of w.heap.size l _ w4 (hB.below hbd) hbd.size hlen).mono ?_
  rintro e w5 ⟨q, rfl, hq, hR5, hb5⟩
  have hPq : p ≠ q := by have := hRd.lt; omega
  have hP5 := hRd.below hb5
  have hb5' := hbd.trans (hb5.mono hbd.size)
  have hV := varint_m q l 0 0 w5 hR5 hl
  rw [u1, u2, u3, uz] at hV
  go_wp2_with fail
  refine hV.mono ?_
  rintro e w6 ⟨rfl, hR6, k6⟩
  have hP6 : Rd w6 p l 0 5 := hP5.kp k6 hPq (by have := hRd.lt; omega)
  have hb6 : Below w.heap.size w w6 := hb5'.trans (k6.below (by have := hbd.size; omega) hb5'.size)
  clear hV
  go_wp2_with fail
  refine (left_of q l 0 5 w6 hR6).mono ?_
  rintro e w7 ⟨rfl, hb7⟩
  have hR7 := hR6.below hb7
  have hP7 := hP6.below hb7
  have hb7' : Below w.heap.size w w7 := hb6.trans (hb7.mono hb6.size)
  have c7 := hcell hR7
  have d7 := hcell hP7
  have hE7 : ∀ k, Calls Try.prog 20 #[.pointer (some ⟨q, 0, none⟩)] (w7.drewN k) fun e w' => e = .returned (.int .i64 5) ∧ w' = w7.drewN k := fun k => err_of q 5 _ c7
  go_wp2_with fail
  go_quiet (first | (go_at_call 20; exact Calls.quiet_of_same (hE7 _)))
  have hE8 := err_of p 5 (w7.drewN nq) d7
  have hbd8 : Below w.heap.size w (w7.drewN nq) := below_drewN hb7' nq
  have hE7' := hE7 nq
  generalize w7.drewN nq = w8 at hE8 hbd8 hE7' ⊢
  clear hE7
  go_wp2_with fail
  refine hE7'.mono ?_
  rintro e wx ⟨rfl, hwx⟩
  subst hwx
  go_wp2_with fail
  refine hE8.mono ?_
  rintro e wy ⟨rfl, hwy⟩
  subst hwy
  go_wp2_with fail
  refine (awake_of _).mono ?_
  rintro e w9 ⟨rfl, hb9⟩
  go_wp2
  go_ret
  exact ⟨rfl, hbd8.trans (hb9.mono hbd8.size)⟩
end Go.Proofs.Ytjimippblgddbaa
