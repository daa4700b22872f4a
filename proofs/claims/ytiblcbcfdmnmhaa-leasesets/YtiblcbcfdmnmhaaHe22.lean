import Derived.Test.YtiblcbcfdmnmhaaHe13
import Derived.Test.YtiblcbcfdmnmhaaHe15
import Derived.Test.YtiblcbcfdmnmhaaHe16
import Derived.Test.YtiblcbcfdmnmhaaHe17
import Derived.Test.YtiblcbcfdmnmhaaHe18
import Derived.Test.YtiblcbcfdmnmhaaHe21
/- The law LeaseSets. -/
namespace Go.Proofs.Ytiblcbcfdmnmhaa
open Go.RowKit LeaseMath
set_option maxRecDepth 100000
set_option linter.unusedSimpArgs false
set_option linter.unusedVariables false

set_option maxHeartbeats 8000000 in
theorem sets_true (zs : List Hd) (lv : Value) (z : Hd) (c : K) (K : Nat) (w : World) (hL : Rd holdE w lv zs) (hlen : zs.length * 32 ≤ 140737488355328) (hS : mayB holdB zs = true → Plc zs z.1 K) (hB : mayB holdB zs = true) : Calls Try.prog 3 #[lv, hv z, .string (bk c)] w fun e w' => e = .returned (.bool true) ∧ Below w.heap.size w w' := by
  have hl62 : zs.length ≤ 4611686018427387904 := by omega
  obtain ⟨hs, hb0, cl⟩ := hd_box w z
  have hsr : Hid (w.heap.size + 1 ≤ (w.alloc (hc z)).heap.size) := by show _ ≤ _; omega
  have k1 := set_of zs lv z K _ (hL.below hb0) hS
  have k2 : ∀ W, Below w.heap.size w W → _ := fun W hW => rset_of zs lv z K W (hL.below hW) hS
  have k3 : ∀ W, Below w.heap.size w W → _ := fun W hW => find_of zs lv c W (hL.below hW) hl62
  have k4 : ∀ W, Below w.heap.size w W → _ := fun W hW => rfind_of zs lv c W (hL.below hW) hl62
  have k5 : ∀ W, Below w.heap.size w W → _ := fun W hW => checkh_of (hL.below hW)
  have k6 : ∀ W, Below w.heap.size w W → _ := fun W hW => rmay_of zs lv W (hL.below hW)
  have k7 : ∀ (u v : Value) W, Rd holdE W u (setM holdB zs K z).1 → Rd holdE W v (setM holdB zs K z).1 → _ := fun u v W h1 h2 => sameh_of (setM holdB zs K z).1 u v W h1 h2 (by
    unfold setM
    split
    · split
      · exact Nat.le_trans (by assumption) (by decide)
      · simp
    · simp)
  have k8 : ∀ W, Below w.heap.size w W → _ := fun W hW => drop_of zs lv c W (hL.below hW) hlen
  have k9 : ∀ W, Below w.heap.size w W → _ := fun W hW => rdrop_of zs lv c W (hL.below hW) hlen
  have k10 : ∀ (u v : Value) W, Rd holdE W u (dropM zs c) → Rd holdE W v (dropM zs c) → _ := fun u v W h1 h2 => sameh_of (dropM zs c) u v W h1 h2 (by
    have h := (drop_len zs c zs.length).1
    rw [List.take_length] at h
    omega)
  have k11 := fun W => awake_of W
  rw [hs] at k1
  rw [hB] at k5 k6
  simp only [if_true, Bool.false_eq_true, if_false] at k5
  obtain ⟨c0, c1, c2⟩ := cl _ (Below.refl _ _)
  obtain ⟨ao, cap, rfl, -, -⟩ := hL.shape
  generalize setM holdB zs K z = m at *
  generalize goth (findM zs c) = G at *
  generalize (findM zs c).isSome = GB at *
  generalize dropM zs c = D at *
  have hmm : (m.2 == m.2) = true := by simp
  have hgg : (GB == GB) = true := by simp
  have hbxG := fun W => hd_box W G
  obtain ⟨gk', gt, gu⟩ := G
  obtain ⟨k, t, u⟩ := z
  dsimp only [hv, hc] at *
  clear hL hB hS hs
  go_enter Try.func3, Try.ntmps3
  go_wp2_with fail
  refine k1.mono ?_
  rintro e w1 ⟨⟨v1, rfl, hO1⟩, hb1⟩
  have hw1 := hb0.trans (hb1.mono (Nat.le_succ _))
  obtain ⟨c0, c1, c2⟩ := cl _ hb1
  have hR1 := hO1.1.rd
  obtain ⟨a1, p1, rfl, -⟩ := hO1.1.shape
  have kk2 := k2 w1 hw1
  clear k1 k2 hO1 cl hb1 hb0
  go_wp2_with fail
  refine kk2.mono ?_
  rintro e w2 ⟨⟨v2, rfl, hO2⟩, hb2⟩
  have hw2 := hw1.trans (hb2.mono hw1.size)
  have hR1 := hR1.below hb2
  have hR2 := hO2.1.rd
  obtain ⟨a2, p2, rfl, -⟩ := hO2.1.shape
  have kk3 := k3 w2 hw2
  clear kk2 k3 hO2 c0 c1 c2 hb2 hw1
  go_wp2_with fail
  refine kk3.mono ?_
  rintro e w3 ⟨rfl, hb3⟩
  have hw3 := hw2.trans (hb3.mono hw2.size)
  have hR1 := hR1.below hb3
  have hR2 := hR2.below hb3
  obtain ⟨s4, b4, cl4⟩ := hbxG w3
  have hw4 := hw3.trans (b4.mono hw3.size)
  have hR1 := hR1.below b4
  have hR2 := hR2.below b4
  have kk4 := k4 _ hw4
  rw [s4] at kk4
  have s4r : Hid (w3.heap.size + 1 ≤ (w3.alloc (.cells #[.string (bk gk'), .int .u64 (gt : Int), .int .i64 gu] 25)).heap.size) := by show _ ≤ _; omega
  clear kk3 k4 hb3 hw2 hw3
  go_wp2_with fail
  refine kk4.mono ?_
  rintro e w5 ⟨rfl, hb5⟩
  have hb5' : Below (w3.alloc (.cells #[.string (bk gk'), .int .u64 (gt : Int), .int .i64 gu] 25)).heap.size (w3.alloc (.cells #[.string (bk gk'), .int .u64 (gt : Int), .int .i64 gu] 25)) w5 := by rw [s4]; exact hb5
  have hw5 := hw4.trans (hb5'.mono hw4.size)
  have hR1 := hR1.below hb5'
  have hR2 := hR2.below hb5'
  obtain ⟨s6, b6, cl6⟩ := hbxG w5
  have hw6 := hw5.trans (b6.mono hw5.size)
  have hR1 := hR1.below b6
  have hR2 := hR2.below b6
  have hb46 := keep_step hb5 s4r.out b6
  have kk5 := k5 _ hw6
  rw [s6] at kk5
  have s6r : Hid (w5.heap.size + 1 ≤ (w5.alloc (.cells #[.string (bk gk'), .int .u64 (gt : Int), .int .i64 gu] 25)).heap.size) := by show _ ≤ _; omega
  clear kk4 k5 hb5 hb5' hw4 hw5 hbxG
  go_wp2_with fail
  have S6 : Hid ((w5.alloc (.cells #[.string (bk gk'), .int .u64 (gt : Int), .int .i64 gu] 25)).heap.size = w5.heap.size + 1) := s6
  generalize hn3 : w3.heap.size = n3 at *
  generalize hn5 : w5.heap.size = n5 at *
  generalize w3.alloc (.cells #[.string (bk gk'), .int .u64 (gt : Int), .int .i64 gu] 25) = w4 at *
  generalize w5.alloc (.cells #[.string (bk gk'), .int .u64 (gt : Int), .int .i64 gu] 25) = w6 at *
  clear hn3 hn5 s4 s6 b4 b6
  have cl4h : Hid _ := cl4
  have cl6h : Hid _ := cl6
  clear cl4 cl6
  refine kk5.mono ?_
  rintro e w7 ⟨rfl, hb7⟩
  have hb7' : Below w6.heap.size w6 w7 := by rw [S6.out]; exact hb7
  have hw7 := hw6.trans (hb7'.mono hw6.size)
  have hR1 := hR1.below hb7'
  have hR2 := hR2.below hb7'
  have hb47 := keep_step hb46 s4r.out hb7'
  have kk6 := k6 w7 hw7
  clear kk5 k6 hb46 hw6 hb7'
  go_wp2_with fail
  refine kk6.mono ?_
  rintro e w8 ⟨rfl, hb8⟩
  have hw8 := hw7.trans (hb8.mono hw7.size)
  have hR1 := hR1.below hb8
  have hR2 := hR2.below hb8
  have hb48 := keep_step hb47 s4r.out hb8
  have hb68 := keep_step hb7 s6r.out hb8
  have kk7 := k7 _ _ w8 hR1 hR2
  clear kk6 k7 hb47 hb7 hw7 hb8 hR1 hR2
  go_wp2_with fail
  refine kk7.mono ?_
  rintro e w9 ⟨rfl, hb9⟩
  have hw9 := hw8.trans (hb9.mono hw8.size)
  obtain ⟨x0, x1, x2⟩ := cl4h.out w9 (keep_step hb48 s4r.out hb9)
  obtain ⟨y0, y1, y2⟩ := cl6h.out w9 (keep_step hb68 s6r.out hb9)
  have kk8 := k8 w9 hw9
  clear kk7 k8 hb48 hb68 hw8 hb9 cl4h cl6h
  go_wp2_with fail
  refine kk8.mono ?_
  rintro e w10 ⟨⟨v10, rfl, hO10⟩, hb10⟩
  have hw10 := hw9.trans (hb10.mono hw9.size)
  have hR1 := hO10.1.rd
  obtain ⟨a10, p10, rfl, -⟩ := hO10.1.shape
  have kk9 := k9 w10 hw10
  clear kk8 k9 hO10 hb10 hw9 x0 x1 x2 y0 y1 y2
  go_wp2_with fail
  refine kk9.mono ?_
  rintro e w11 ⟨⟨v11, rfl, hO11⟩, hb11⟩
  have hw11 := hw10.trans (hb11.mono hw10.size)
  have hR1 := hR1.below hb11
  have hR2 := hO11.1.rd
  obtain ⟨a11, p11, rfl, -⟩ := hO11.1.shape
  have kk10 := k10 _ _ w11 hR1 hR2
  clear kk9 k10 hO11 hb11 hw10 hR1 hR2
  go_wp2_with fail
  refine kk10.mono ?_
  rintro e w12 ⟨rfl, hb12⟩
  have hw12 := hw11.trans (hb12.mono hw11.size)
  have kk11 := k11 w12
  clear kk10 k11 hb12 hw11
  go_wp2_with fail
  refine kk11.mono ?_
  rintro e w13 ⟨rfl, hb13⟩
  have hw13 := hw12.trans (hb13.mono hw12.size)
  clear kk11 hb13 hw12
  go_wp2
  go_ret
  exact ⟨rfl, hw13⟩

set_option maxHeartbeats 8000000 in
theorem sets_false (zs : List Hd) (lv : Value) (z : Hd) (c : K) (K : Nat) (w : World) (hL : Rd holdE w lv zs) (hlen : zs.length * 32 ≤ 140737488355328) (hS : mayB holdB zs = true → Plc zs z.1 K) (hB : mayB holdB zs = false) : Calls Try.prog 3 #[lv, hv z, .string (bk c)] w fun e w' => e = .returned (.bool true) ∧ Below w.heap.size w w' := by
  have hl62 : zs.length ≤ 4611686018427387904 := by omega
  obtain ⟨hs, hb0, cl⟩ := hd_box w z
  have hsr : Hid (w.heap.size + 1 ≤ (w.alloc (hc z)).heap.size) := by show _ ≤ _; omega
  have k1 := set_of zs lv z K _ (hL.below hb0) hS
  have k2 : ∀ W, Below w.heap.size w W → _ := fun W hW => rset_of zs lv z K W (hL.below hW) hS
  have k3 : ∀ W, Below w.heap.size w W → _ := fun W hW => find_of zs lv c W (hL.below hW) hl62
  have k4 : ∀ W, Below w.heap.size w W → _ := fun W hW => rfind_of zs lv c W (hL.below hW) hl62
  have k5 : ∀ W, Below w.heap.size w W → _ := fun W hW => checkh_of (hL.below hW)
  have k6 : ∀ W, Below w.heap.size w W → _ := fun W hW => rmay_of zs lv W (hL.below hW)
  have k7 : ∀ (u v : Value) W, Rd holdE W u (setM holdB zs K z).1 → Rd holdE W v (setM holdB zs K z).1 → _ := fun u v W h1 h2 => sameh_of (setM holdB zs K z).1 u v W h1 h2 (by
    unfold setM
    split
    · split
      · exact Nat.le_trans (by assumption) (by decide)
      · simp
    · simp)
  have k8 : ∀ W, Below w.heap.size w W → _ := fun W hW => drop_of zs lv c W (hL.below hW) hlen
  have k9 : ∀ W, Below w.heap.size w W → _ := fun W hW => rdrop_of zs lv c W (hL.below hW) hlen
  have k10 : ∀ (u v : Value) W, Rd holdE W u (dropM zs c) → Rd holdE W v (dropM zs c) → _ := fun u v W h1 h2 => sameh_of (dropM zs c) u v W h1 h2 (by
    have h := (drop_len zs c zs.length).1
    rw [List.take_length] at h
    omega)
  have k11 := fun W => awake_of W
  rw [hs] at k1
  rw [hB] at k5 k6
  simp only [if_true, Bool.false_eq_true, if_false] at k5
  obtain ⟨c0, c1, c2⟩ := cl _ (Below.refl _ _)
  obtain ⟨ao, cap, rfl, -, -⟩ := hL.shape
  generalize setM holdB zs K z = m at *
  generalize goth (findM zs c) = G at *
  generalize (findM zs c).isSome = GB at *
  generalize dropM zs c = D at *
  have hmm : (m.2 == m.2) = true := by simp
  have hgg : (GB == GB) = true := by simp
  have hbxG := fun W => hd_box W G
  obtain ⟨gk', gt, gu⟩ := G
  obtain ⟨k, t, u⟩ := z
  dsimp only [hv, hc] at *
  clear hL hB hS hs
  go_enter Try.func3, Try.ntmps3
  go_wp2_with fail
  refine k1.mono ?_
  rintro e w1 ⟨⟨v1, rfl, hO1⟩, hb1⟩
  have hw1 := hb0.trans (hb1.mono (Nat.le_succ _))
  obtain ⟨c0, c1, c2⟩ := cl _ hb1
  have hR1 := hO1.1.rd
  obtain ⟨a1, p1, rfl, -⟩ := hO1.1.shape
  have kk2 := k2 w1 hw1
  clear k1 k2 hO1 cl hb1 hb0
  go_wp2_with fail
  refine kk2.mono ?_
  rintro e w2 ⟨⟨v2, rfl, hO2⟩, hb2⟩
  have hw2 := hw1.trans (hb2.mono hw1.size)
  have hR1 := hR1.below hb2
  have hR2 := hO2.1.rd
  obtain ⟨a2, p2, rfl, -⟩ := hO2.1.shape
  have kk3 := k3 w2 hw2
  clear kk2 k3 hO2 c0 c1 c2 hb2 hw1
  go_wp2_with fail
  refine kk3.mono ?_
  rintro e w3 ⟨rfl, hb3⟩
  have hw3 := hw2.trans (hb3.mono hw2.size)
  have hR1 := hR1.below hb3
  have hR2 := hR2.below hb3
  obtain ⟨s4, b4, cl4⟩ := hbxG w3
  have hw4 := hw3.trans (b4.mono hw3.size)
  have hR1 := hR1.below b4
  have hR2 := hR2.below b4
  have kk4 := k4 _ hw4
  rw [s4] at kk4
  have s4r : Hid (w3.heap.size + 1 ≤ (w3.alloc (.cells #[.string (bk gk'), .int .u64 (gt : Int), .int .i64 gu] 25)).heap.size) := by show _ ≤ _; omega
  clear kk3 k4 hb3 hw2 hw3
  go_wp2_with fail
  refine kk4.mono ?_
  rintro e w5 ⟨rfl, hb5⟩
  have hb5' : Below (w3.alloc (.cells #[.string (bk gk'), .int .u64 (gt : Int), .int .i64 gu] 25)).heap.size (w3.alloc (.cells #[.string (bk gk'), .int .u64 (gt : Int), .int .i64 gu] 25)) w5 := by rw [s4]; exact hb5
  have hw5 := hw4.trans (hb5'.mono hw4.size)
  have hR1 := hR1.below hb5'
  have hR2 := hR2.below hb5'
  obtain ⟨s6, b6, cl6⟩ := hbxG w5
  have hw6 := hw5.trans (b6.mono hw5.size)
  have hR1 := hR1.below b6
  have hR2 := hR2.below b6
  have hb46 := keep_step hb5 s4r.out b6
  have kk5 := k5 _ hw6
  rw [s6] at kk5
  have s6r : Hid (w5.heap.size + 1 ≤ (w5.alloc (.cells #[.string (bk gk'), .int .u64 (gt : Int), .int .i64 gu] 25)).heap.size) := by show _ ≤ _; omega
  clear kk4 k5 hb5 hb5' hw4 hw5 hbxG
  go_wp2_with fail
  have S6 : Hid ((w5.alloc (.cells #[.string (bk gk'), .int .u64 (gt : Int), .int .i64 gu] 25)).heap.size = w5.heap.size + 1) := s6
  generalize hn3 : w3.heap.size = n3 at *
  generalize hn5 : w5.heap.size = n5 at *
  generalize w3.alloc (.cells #[.string (bk gk'), .int .u64 (gt : Int), .int .i64 gu] 25) = w4 at *
  generalize w5.alloc (.cells #[.string (bk gk'), .int .u64 (gt : Int), .int .i64 gu] 25) = w6 at *
  clear hn3 hn5 s4 s6 b4 b6
  have cl4h : Hid _ := cl4
  have cl6h : Hid _ := cl6
  clear cl4 cl6
  refine kk5.mono ?_
  rintro e w7 ⟨rfl, hb7⟩
  have hb7' : Below w6.heap.size w6 w7 := by rw [S6.out]; exact hb7
  have hw7 := hw6.trans (hb7'.mono hw6.size)
  have hR1 := hR1.below hb7'
  have hR2 := hR2.below hb7'
  have hb47 := keep_step hb46 s4r.out hb7'
  have kk6 := k6 w7 hw7
  clear kk5 k6 hb46 hw6 hb7'
  go_wp2_with fail
  refine kk6.mono ?_
  rintro e w8 ⟨rfl, hb8⟩
  have hw8 := hw7.trans (hb8.mono hw7.size)
  have hR1 := hR1.below hb8
  have hR2 := hR2.below hb8
  have hb48 := keep_step hb47 s4r.out hb8
  have hb68 := keep_step hb7 s6r.out hb8
  have kk7 := k7 _ _ w8 hR1 hR2
  clear kk6 k7 hb47 hb7 hw7 hb8 hR1 hR2
  go_wp2_with fail
  refine kk7.mono ?_
  rintro e w9 ⟨rfl, hb9⟩
  have hw9 := hw8.trans (hb9.mono hw8.size)
  obtain ⟨x0, x1, x2⟩ := cl4h.out w9 (keep_step hb48 s4r.out hb9)
  obtain ⟨y0, y1, y2⟩ := cl6h.out w9 (keep_step hb68 s6r.out hb9)
  have kk8 := k8 w9 hw9
  clear kk7 k8 hb48 hb68 hw8 hb9 cl4h cl6h
  go_wp2_with fail
  refine kk8.mono ?_
  rintro e w10 ⟨⟨v10, rfl, hO10⟩, hb10⟩
  have hw10 := hw9.trans (hb10.mono hw9.size)
  have hR1 := hO10.1.rd
  obtain ⟨a10, p10, rfl, -⟩ := hO10.1.shape
  have kk9 := k9 w10 hw10
  clear kk8 k9 hO10 hb10 hw9 x0 x1 x2 y0 y1 y2
  go_wp2_with fail
  refine kk9.mono ?_
  rintro e w11 ⟨⟨v11, rfl, hO11⟩, hb11⟩
  have hw11 := hw10.trans (hb11.mono hw10.size)
  have hR1 := hR1.below hb11
  have hR2 := hO11.1.rd
  obtain ⟨a11, p11, rfl, -⟩ := hO11.1.shape
  have kk10 := k10 _ _ w11 hR1 hR2
  clear kk9 k10 hO11 hb11 hw10 hR1 hR2
  go_wp2_with fail
  refine kk10.mono ?_
  rintro e w12 ⟨rfl, hb12⟩
  have hw12 := hw11.trans (hb12.mono hw11.size)
  have kk11 := k11 w12
  clear kk10 k11 hb12 hw11
  go_wp2_with fail
  refine kk11.mono ?_
  rintro e w13 ⟨rfl, hb13⟩
  have hw13 := hw12.trans (hb13.mono hw12.size)
  clear kk11 hb13 hw12
  go_wp2
  go_ret
  exact ⟨rfl, hw13⟩

theorem sets_law (zs : List Hd) (lv : Value) (z : Hd) (c : K) (w : World) (hL : Rd holdE w lv zs) (hlen : zs.length * 32 ≤ 140737488355328) : Calls Try.prog 3 #[lv, hv z, .string (bk c)] w fun e w' => e = .returned (.bool true) ∧ Below w.heap.size w w' := by
  cases hB : mayB holdB zs with
  | true =>
    obtain ⟨K, hK⟩ := plc_ex z.1 (may_iff.1 hB).2.2
    exact sets_true zs lv z c K w hL hlen (fun _ => hK) hB
  | false => exact sets_false zs lv z c 0 w hL hlen (fun h => by rw [hB] at h; cases h) hB
end Go.Proofs.Ytiblcbcfdmnmhaa

