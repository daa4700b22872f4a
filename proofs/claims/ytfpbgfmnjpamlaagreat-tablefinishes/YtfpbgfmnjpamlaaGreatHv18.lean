import Derived.Test.YtfpbgfmnjpamlaaGreatHv07
/- The small functions of lease. -/
namespace Go.Proofs.YtfpbgfmnjpamlaaGreat
open Go.RowKit LeaseMath
set_option maxRecDepth 100000
set_option linter.unusedSimpArgs false
set_option linter.unusedVariables false

theorem keyh_of (z : Hd) (w : World) : Calls Tryz.prog 152 #[hv z] w fun e w' => e = .returned (.string (bk z.1)) ∧ Below w.heap.size w w' := by
 obtain ⟨k, t, u⟩ := z
 obtain ⟨hs, hb, cl⟩ := hd_box w (k, t, u)
 obtain ⟨c0, c1, c2⟩ := cl _ (Below.refl _ _)
 dsimp only [hv, hc] at *
 clear cl
 go_enter Tryz.func152, Tryz.ntmps152
 go_wp2
 go_ret
 exact ⟨rfl, hb⟩

theorem keym_of (z : Mk) (w : World) : Calls Tryz.prog 155 #[mv z] w fun e w' => e = .returned (.string (bk z.1)) ∧ Below w.heap.size w w' := by
 obtain ⟨k, t⟩ := z
 obtain ⟨hs, hb, cl⟩ := mk_box w (k, t)
 obtain ⟨c0, c1⟩ := cl _ (Below.refl _ _)
 dsimp only [mv, mc] at *
 clear cl
 go_enter Tryz.func155, Tryz.ntmps155
 go_wp2
 go_ret
 exact ⟨rfl, hb⟩

theorem time_of (n : Int) (w : World) : Calls Tryz.prog 159 #[.int .i64 n] w fun e w' => e = .returned (.bool (timeB n)) ∧ w' = w := by
 obtain ⟨B, HB⟩ : ∃ B, Hid (B = timeB n) := ⟨_, rfl⟩
 rw [← HB.out]
 by_cases h1 : 0 ≤ n
 ·by_cases h2 : n ≤ 2147483647
  ·have E : Hid (B = true) := by show _ = _; rw [HB.out]; simp [timeB, h1, h2]
   clear HB
   go_enter Tryz.func159, Tryz.ntmps159
   go_wp2
   go_ret
   exact ⟨by rw [E.out]; rfl, rfl⟩
  ·have E : Hid (B = false) := by show _ = _; rw [HB.out]; simp [timeB, h2]
   have h2d : decide (n ≤ 2147483647) = false := decide_eq_false h2
   clear HB
   go_enter Tryz.func159, Tryz.ntmps159
   go_wp2
   go_ret
   exact ⟨by rw [E.out]; rfl, rfl⟩
 ·have E : Hid (B = false) := by show _ = _; rw [HB.out]; simp [timeB, h1]
  have h1d : decide ((0 : Int) ≤ n) = false := decide_eq_false h1
  clear HB h1
  go_enter Tryz.func159, Tryz.ntmps159
  go_wp2
  go_ret
  exact ⟨by rw [E.out]; rfl, rfl⟩

theorem llater_of (now n : Int) (w : World) (h0 : 0 ≤ now) (h1 : now ≤ 2147483647) (h2 : 0 ≤ n) (h3 : n ≤ 2147483647) : Calls Tryz.prog 135 #[.int .i64 now, .int .i64 n] w fun e w' => e = .returned (.int .i64 (laterM now n)) ∧ w' = w := by
 have j1 : IntKind.i64.wrap (2147483647 - now) = 2147483647 - now := IntWalk.i64_in _ (by omega)
 have j2 : IntKind.i64.wrap (now + n) = now + n := IntWalk.i64_in _ (by omega)
 by_cases h : n ≤ 2147483647 - now
 ·have E : Hid (laterM now n = now + n) := by show _ = _; unfold laterM; rw [if_pos h]
  have h' : ¬ 2147483647 - now < n := by omega
  rw [E.out]
  clear h
  go_enter Tryz.func135, Tryz.ntmps135
  go_wp2
  go_ret
  exact ⟨rfl, rfl⟩
 ·have E : Hid (laterM now n = 2147483647) := by show _ = _; unfold laterM; rw [if_neg h]
  have h' : 2147483647 - now < n := by omega
  rw [E.out]
  clear h
  go_enter Tryz.func135, Tryz.ntmps135
  go_wp2
  go_ret
  exact ⟨rfl, rfl⟩

set_option maxHeartbeats 1000000 in
theorem compareS_of (a b : K) (w : World) : Calls Tryz.prog 175 #[.string (bk a), .string (bk b)] w fun e w' => e = .returned (.int .i64 (cmpM a b)) ∧ w' = w := by
 go_enter Tryz.func175, Tryz.ntmps175
 go_wp2
 rw [run_callFunc_extern Tryz.func196 (by kernel_rfl) (by kernel_rfl) (by kernel_rfl) (e := Extern.BytealgCompare.compare) (by kernel_rfl), Lib.run_compareString]
 simp only [Result.andThen]
 rw [Oper.upon_value]
 go_wp2
 go_ret
 exact ⟨by rw [bk_data, bk_data, cmp_bk]; rfl, rfl⟩

theorem compare_of (a b : K) (w : World) : Calls Tryz.prog 139 #[.string (bk a), .string (bk b)] w fun e w' => e = .returned (.int .i64 (cmpM a b)) ∧ w' = w := by
 have kc := compareS_of a b w
 generalize cmpM a b = c at *
 go_enter Tryz.func139, Tryz.ntmps139
 go_wp2_with fail
 refine kc.mono ?_
 rintro e w1 ⟨rfl, rfl⟩
 go_wp2
 go_ret
 exact ⟨rfl, rfl⟩

set_option maxHeartbeats 1000000 in
theorem mayHold_of (z : Hd) (w : World) : Calls Tryz.prog 160 #[hv z] w fun e w' => e = .returned (.bool (holdB z)) ∧ Below w.heap.size w w' := by
 obtain ⟨k, t, u⟩ := z
 dsimp only [hv]
 obtain ⟨B, HB⟩ : ∃ B, Hid (B = holdB (k, t, u)) := ⟨_, rfl⟩
 rw [← HB.out]
 obtain ⟨hs, hb, cl⟩ := hd_box w (k, t, u)
 obtain ⟨c0, c1, c2⟩ := cl _ (Below.refl _ _)
 dsimp only [hc] at *
 have kt := fun W => time_of u W
 clear cl
 by_cases h1 : k.length ≤ 64
 ·have h1i : (k.length : Int) ≤ 64 := by omega
  by_cases h2 : t = 0
  ·have E : Hid (B = false) := by show _ = _; rw [HB.out]; simp [holdB, h2]
   subst h2
   clear HB kt
   go_enter Tryz.func160, Tryz.ntmps160
   go_wp2
   go_ret
   exact ⟨by rw [E.out]; rfl, hb⟩
  ·have E : Hid (B = timeB u) := by show _ = _; rw [HB.out]; simp [holdB, h1, h2]
   have h2b : ((t : Int) == 0) = false := by simpa using h2
   have h2i : ¬ (t : Int) = 0 := by omega
   have h2n : ((t : Int) != 0) = true := by simpa using h2
   clear HB
   generalize timeB u = TB at *
   go_enter Tryz.func160, Tryz.ntmps160
   go_wp2_with fail
   refine (kt _).mono ?_
   rintro e w1 ⟨rfl, hw1⟩
   subst hw1
   go_wp2
   go_ret
   exact ⟨by rw [E.out]; first | rfl | simp [h2n], hb⟩
 ·have E : Hid (B = false) := by show _ = _; rw [HB.out]; simp [holdB, h1]
  have h1e : decide ((k.length : Int) ≤ 64) = false := decide_eq_false (by omega)
  clear HB h1 kt
  go_enter Tryz.func160, Tryz.ntmps160
  go_wp2
  go_ret
  exact ⟨by rw [E.out]; rfl, hb⟩

set_option maxHeartbeats 1000000 in
theorem rhold_of (z : Hd) (w : World) : Calls Tryz.prog 143 #[hv z] w fun e w' => e = .returned (.bool (holdB z)) ∧ Below w.heap.size w w' := by
 obtain ⟨k, t, u⟩ := z
 dsimp only [hv]
 obtain ⟨B, HB⟩ : ∃ B, Hid (B = holdB (k, t, u)) := ⟨_, rfl⟩
 rw [← HB.out]
 obtain ⟨hs, hb, cl⟩ := hd_box w (k, t, u)
 obtain ⟨c0, c1, c2⟩ := cl _ (Below.refl _ _)
 dsimp only [hc] at *
 clear cl
 by_cases h1 : k.length ≤ 64
 ·have h1i : (k.length : Int) ≤ 64 := by omega
  by_cases h2 : t = 0
  ·have E : Hid (B = false) := by show _ = _; rw [HB.out]; simp [holdB, h2]
   subst h2
   clear HB
   go_enter Tryz.func143, Tryz.ntmps143
   go_wp2
   go_ret
   exact ⟨by rw [E.out]; rfl, hb⟩
  ·have h2b : ((t : Int) == 0) = false := by simpa using h2
   have h2i : ¬ (t : Int) = 0 := by omega
   have h2n : ((t : Int) != 0) = true := by simpa using h2
   by_cases h3 : 0 ≤ u
   ·by_cases h4 : u ≤ 2147483647
    ·have E : Hid (B = true) := by show _ = _; rw [HB.out]; simp [holdB, timeB, h1, h2, h3, h4]
     clear HB
     go_enter Tryz.func143, Tryz.ntmps143
     go_wp2
     go_ret
     exact ⟨by rw [E.out]; first | rfl | simp [h2n], hb⟩
    ·have E : Hid (B = false) := by show _ = _; rw [HB.out]; simp [holdB, timeB, h1, h2, h3, h4]
     have h4d : decide (u ≤ 2147483647) = false := decide_eq_false h4
     clear HB h4
     go_enter Tryz.func143, Tryz.ntmps143
     go_wp2
     go_ret
     exact ⟨by rw [E.out]; rfl, hb⟩
   ·have E : Hid (B = false) := by show _ = _; rw [HB.out]; simp [holdB, timeB, h1, h2, h3]
    have h3d : decide ((0 : Int) ≤ u) = false := decide_eq_false h3
    clear HB h3
    go_enter Tryz.func143, Tryz.ntmps143
    go_wp2
    go_ret
    exact ⟨by rw [E.out]; rfl, hb⟩
 ·have E : Hid (B = false) := by show _ = _; rw [HB.out]; simp [holdB, h1]
  have h1e : decide ((k.length : Int) ≤ 64) = false := decide_eq_false (by omega)
  clear HB h1
  go_enter Tryz.func143, Tryz.ntmps143
  go_wp2
  go_ret
  exact ⟨by rw [E.out]; rfl, hb⟩

set_option maxHeartbeats 1000000 in
theorem mayMark_of (z : Mk) (w : World) : Calls Tryz.prog 163 #[mv z] w fun e w' => e = .returned (.bool (markB z)) ∧ Below w.heap.size w w' := by
 obtain ⟨k, t⟩ := z
 dsimp only [mv]
 obtain ⟨B, HB⟩ : ∃ B, Hid (B = markB (k, t)) := ⟨_, rfl⟩
 rw [← HB.out]
 obtain ⟨hs, hb, cl⟩ := mk_box w (k, t)
 obtain ⟨c0, c1⟩ := cl _ (Below.refl _ _)
 dsimp only [mc] at *
 clear cl
 by_cases h1 : k.length ≤ 64
 ·have h1i : (k.length : Int) ≤ 64 := by omega
  by_cases h2 : t = 0
  ·have E : Hid (B = false) := by show _ = _; rw [HB.out]; simp [markB, h2]
   subst h2
   clear HB
   go_enter Tryz.func163, Tryz.ntmps163
   go_wp2
   go_ret
   exact ⟨by rw [E.out]; rfl, hb⟩
  ·have E : Hid (B = true) := by show _ = _; rw [HB.out]; simp [markB, h1, h2]
   have h2b : ((t : Int) == 0) = false := by simpa using h2
   have h2i : ¬ (t : Int) = 0 := by omega
   have h2n : ((t : Int) != 0) = true := by simpa using h2
   clear HB
   go_enter Tryz.func163, Tryz.ntmps163
   go_wp2
   go_ret
   exact ⟨by rw [E.out]; first | rfl | simp [h2n], hb⟩
 ·have E : Hid (B = false) := by show _ = _; rw [HB.out]; simp [markB, h1]
  have h1e : decide ((k.length : Int) ≤ 64) = false := decide_eq_false (by omega)
  clear HB h1
  go_enter Tryz.func163, Tryz.ntmps163
  go_wp2
  go_ret
  exact ⟨by rw [E.out]; rfl, hb⟩
end Go.Proofs.YtfpbgfmnjpamlaaGreat

