/- The walk of the law WireCanonical where a number is read: it answers true at every byte slice, and what lay in memory before stays as it was. -/
import Derived.Test.YtjimippblgddbaaCanon
import Derived.Deep.RegionWith
namespace Go.Proofs.Ytjimippblgddbaa
open Go.RowKit WireMath
set_option maxRecDepth 100000
set_option linter.unusedSimpArgs false

set_option maxHeartbeats 8000000 in
theorem canon_some (l : List Nat) (v : Value) (n k : Nat) (w : World) (hB : Bs w.heap.size w v l) (hl : ∀ c ∈ l, c < 256) (hlen : l.length ≤ 140737488355328) (hrd : rd 10 0 0 l = some (n, k)) :
    Calls Try.prog 6 #[v] w fun e w' => e = .returned (.bool true) ∧ Below w.heap.size w w' := by
  have hs : rd 10 0 0 (src l 0 0) = some (n, k) := hrd
  have u1 : Hid (uvN l 0 0 = n) := by show _ = _; simp [uvN, hs]
  have u2 : Hid (uvA l 0 0 = k) := by show _ = _; simp [uvA, hs]
  have u3 : Hid (uvE l 0 0 = 0) := by show _ = _; simp [uvE, hs]
  obtain ⟨hcan, -, -, hn⟩ := canonical l hl n k hrd
  obtain ⟨-, hk0, hk10, hkl⟩ := rd_facts hl hrd
  obtain ⟨m, hlm⟩ : ∃ m, Hid (l.length - k = m) := ⟨_, rfl⟩
  obtain ⟨ao, cap, rfl, g2, g3, _⟩ := id hB
  have hm : (l.length : Int) ≤ 9223372036854775807 := by unfold maxLen at g3; omega
  have hmc : (cap : Int) ≤ 9223372036854775807 := by unfold maxLen at g3; omega
  have hkc : (k : Int) ≤ (cap : Int) := by omega
  have hkl' : (k : Int) ≤ (l.length : Int) := by omega
  have qk : (l.length : Int) - (m : Int) = (k : Int) := by have := hlm.out; omega
  have qn : l.length - m = k := by have := hlm.out; omega
  have hub : ∀ c ∈ uv n, c < 256 := uv_bytes n
  have hcell : ∀ {W : World} {q : Nat} {a : Nat}, Rd W q l a 0 → W.cell? ⟨q, 2, none⟩ = some (.int .i64 0) := fun ⟨sv, h1, _⟩ => by rw [cells_of_block h1]; rfl
  have hS : ∀ (W : World) (x : Value) (n₁ : Nat), Bs n₁ W x (uv n) → Below w.heap.size w W → Calls Try.prog 9 #[x, .slice ao k cap] W fun e w' => e = .returned (.bool true) ∧ w' = W := fun W x n₁ hx hb =>
    same_of n₁ w.heap.size (uv n) x _ W hx (by rw [← hcan]; exact (hB.taken hkl).below hb) hub
  clear hcan hs
  go_enter Try.func6, Try.ntmps6
  go_wp2_with fail
  refine (read_of w.heap.size l _ w hB (Nat.le_refl _) hlen).mono ?_
  rintro e w1 ⟨p, rfl, hp, hR1, hb1⟩
  have hU := uvarint_m p l 0 0 w1 hR1 hl
  rw [u1.out, u2.out, u3.out] at hU
  go_wp2_with fail
  refine hU.mono ?_
  rintro e w2 ⟨rfl, hR2, k2⟩
  have hb2 : Below w.heap.size w w2 := hb1.trans (k2.below hp hb1.size)
  clear hU
  go_wp2_with fail
  have hL := left_of p l k 0 w2 hR2
  rw [hlm.out] at hL
  refine hL.mono ?_
  rintro e w3 ⟨rfl, hb3⟩
  have hR3 := hR2.below hb3
  have hb3' : Below w.heap.size w w3 := hb2.trans (hb3.mono hb2.size)
  have c3 := hcell hR3
  have hE3 := err_of p 0 w3.drew c3
  have hUv := uvarint_of 0 [] (.slice none 0 0) n w3.drew (Bs.nil _ _) hn (by simp)
  have hSv : ∀ W x, Own w3.drew.heap.size W x ([] ++ uv n) → Below w3.drew.heap.size w3.drew W → Calls Try.prog 9 #[x, .slice ao k cap] W fun e w' => e = .returned (.bool true) ∧ w' = W := fun W x hO hb =>
    hS W x _ hO.bs (hb3'.trans ((Below.refl _ w3).drew.trans hb |>.mono hb3'.size))
  clear hR1 k2 hb1 hb2 hR2 hb3 hL
  go_wp2_with fail
  go_region_with (first | (go_at_call 20; refine hE3.mono ?_; rintro e wx ⟨rfl, hwx⟩; subst hwx) | (go_at_call 21; refine hUv.mono ?_; rintro e w4 ⟨v4, rfl, hO4, hb4⟩) | (go_at_call 9; refine (hSv _ _ hO4 hb4).mono ?_; rintro e wy ⟨rfl, hwy⟩; subst hwy))
  have hb4' : Below w.heap.size w wy := hb3'.trans ((Below.refl _ w3).drew.trans hb4 |>.mono hb3'.size)
  have hR4 : Rd wy p l k 0 := hR3.below ((Below.refl _ w3).drew.trans hb4)
  clear hO4 hb4 hSv hUv hE3 c3 hR3 hb3'
  generalize wy = w5 at hb4' hR4 ⊢
  go_wp2_with fail
  refine (read_of w.heap.size l _ w5 (hB.below hb4') hb4'.size hlen).mono ?_
  rintro e w6 ⟨q, rfl, hq, hR6, hb6⟩
  have hPq : p < q := by have := hR4.lt; omega
  have hP6 := hR4.below hb6
  have hb6' := hb4'.trans (hb6.mono hb4'.size)
  have hV := varint_m q l 0 0 w6 hR6 hl
  rw [u1.out, u2.out, u3.out] at hV
  go_wp2_with fail
  refine hV.mono ?_
  rintro e w7 ⟨rfl, hR7, k7⟩
  have hP7 : Rd w7 p l k 0 := hP6.kp k7 (by omega) hPq
  have hb7 : Below w.heap.size w w7 := hb6'.trans (k7.below (by have := hb4'.size; omega) hb6'.size)
  clear hV
  have hL := left_of q l k 0 w7 hR7
  rw [hlm.out] at hL
  go_wp2_with fail
  refine hL.mono ?_
  rintro e w8 ⟨rfl, hb8⟩
  have hR8 := hR7.below hb8
  have hP8 := hP7.below hb8
  have hb8' : Below w.heap.size w w8 := hb7.trans (hb8.mono hb7.size)
  have c8 := hcell hR8
  have d8 := hcell hP8
  have hE8 := err_of q 0 w8.drew c8
  have hVv := varint_of 0 [] (.slice none 0 0) (unzz n) w8.drew (Bs.nil _ _) (unzz_ge hn).1 (unzz_ge hn).2 (by simp)
  rw [zz_unzz] at hVv
  have hSv : ∀ W x, Own w8.drew.heap.size W x ([] ++ uv n) → Below w8.drew.heap.size w8.drew W → Calls Try.prog 9 #[x, .slice ao k cap] W fun e w' => e = .returned (.bool true) ∧ w' = W := fun W x hO hb =>
    hS W x _ hO.bs (hb8'.trans ((Below.refl _ w8).drew.trans hb |>.mono hb8'.size))
  clear hL hlm hrd u1 u2 u3 hR6 hP6 hR7 hP7 hb7 hb8 hb6 hb6' k7 hR4 hb4'
  generalize unzz n = z at hVv ⊢
  go_wp2_with fail
  go_region_with (first | (go_at_call 20; refine hE8.mono ?_; rintro e wx ⟨rfl, hwx⟩; subst hwx) | (go_at_call 22; refine hVv.mono ?_; rintro e w9 ⟨v9, rfl, hO9, hb9⟩) | (go_at_call 9; refine (hSv _ _ hO9 hb9).mono ?_; rintro e wy ⟨rfl, hwy⟩; subst hwy))
  have hb9' : Below w.heap.size w wy := hb8'.trans ((Below.refl _ w8).drew.trans hb9 |>.mono hb8'.size)
  have c9 := hcell (hR8.below ((Below.refl _ w8).drew.trans hb9))
  have d9 := hcell (hP8.below ((Below.refl _ w8).drew.trans hb9))
  clear hO9 hb9 hSv hVv hE8 c8 d8 hb8'
  go_wp2_with fail
  refine (err_of q 0 _ c9).mono ?_
  rintro e wx ⟨rfl, hwx⟩
  subst hwx
  go_wp2_with fail
  refine (err_of p 0 _ d9).mono ?_
  rintro e wz ⟨rfl, hwz⟩
  subst hwz
  go_wp2_with fail
  refine (awake_of _).mono ?_
  rintro e wa ⟨rfl, hba⟩
  go_wp2
  go_ret
  exact ⟨rfl, hb9'.trans (hba.mono hb9'.size)⟩

theorem canon_law (l : List Nat) (v : Value) (w : World) (hB : Bs w.heap.size w v l) (hl : ∀ c ∈ l, c < 256) (hlen : l.length ≤ 140737488355328) :
    Calls Try.prog 6 #[v] w fun e w' => e = .returned (.bool true) ∧ Below w.heap.size w w' := by
  cases hrd : rd 10 0 0 l with
  | none => exact canon_none l v w hB hl hlen hrd
  | some x => exact canon_some l v x.1 x.2 w hB hl hlen hrd
end Go.Proofs.Ytjimippblgddbaa
