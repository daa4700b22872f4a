import Derived.Test.YtfpbgfmnjpamlaaGreatHv22
import Derived.Test.YtfpbgfmnjpamlaaGreatHv18
/- Drop, Due, Pack and Unpack of the program; the document's Drop. -/
namespace Go.Proofs.YtfpbgfmnjpamlaaGreat
open Go.RowKit LeaseMath
set_option maxRecDepth 100000
set_option linter.unusedSimpArgs false
set_option linter.unusedVariables false

/-- One more behind a row, however long it is. -/
theorem push_great {w : World} {v : Value} {xs : List Hd} (z : Hd) (h : Rk holdE w 59 v xs) (hlen : (xs.length + 1) * 32 ≤ 140737488355328) :
  ∀ ty, ∃ v' w', (Builtin.append_ #[23, 23] ty #[v, .slice (some ⟨w.heap.size, 0, none⟩) 1 1]).run Tryz.prog (w.alloc (.cells #[.string (bk z.1), .int .u64 (z.2.1 : Int), .int .i64 z.2.2] 59)) = .ok v' w' ∧ PushT holdE 59 w v (xs ++ [z]) v' w' := by
 intro ty
 obtain ⟨i0, i1, i2, i3, i4⟩ := info_get infoHold
 obtain ⟨hsz, hn0, hbb⟩ := one_box w (.cells #[.string (bk z.1), .int .u64 (z.2.1 : Int), .int .i64 z.2.2] 59)
 have hx : Rd holdE (w.alloc (.cells #[.string (bk z.1), .int .u64 (z.2.1 : Int), .int .i64 z.2.2] 59)) (.slice (some ⟨w.heap.size, 0, none⟩) 1 1) [z] := (Rk.made (E := holdE) (xs := [z]) hn0 rfl (by unfold maxLen; simp)).rd
 have h' : Rk holdE (w.alloc (.cells #[.string (bk z.1), .int .u64 (z.2.1 : Int), .int .i64 z.2.2] 59)) 59 v xs := h.same fun k hk => hbb.block k (h.lt hk)
 obtain ⟨v', w', hrun, hO, hg, hfr⟩ := run_append_own2 _ 0 23 ty 59 i0 _ 3 32 Tryz.underlying23 i1 i2 i3 i4 rfl (by decide) v xs.length (holdE.flat xs) h' ⟨w.heap.size, 0, none⟩ 1 1 (holdE.flat [z]) rfl (fun j u hu => by rw [Addr.add_lit]; exact Rd.cells hx j u hu) (El.flat_mem holdE) (by unfold maxLen; omega) hlen (Nat.zero_le _)
 refine ⟨v', w', hrun, ?_, grown_of_below hbb hg, fun k hk => ?_⟩
 ·unfold Rk
  rw [El.flat_append, List.length_append]
  exact hO
 ·rcases hfr k hk with h9 | h9
  ·exact .inl h9
  ·exact .inr (by omega)
/-- What is left without a key's. -/
def dropM (l : List Hd) (c : K) : List Hd := l.filter (fun x => !decide (x.1 = c))
theorem drop_yes {l : List Hd} {c : K} {i : Nat} {s : Hd} (h : l[i]? = some s) (hp : ¬ s.1 = c) : dropM (l.take (i + 1)) c = dropM (l.take i) c ++ [s] := flt_yes h (by simp [hp])
theorem drop_no {l : List Hd} {c : K} {i : Nat} {s : Hd} (h : l[i]? = some s) (hp : s.1 = c) : dropM (l.take (i + 1)) c = dropM (l.take i) c := flt_no h (by simp [hp])
theorem drop_len (l : List Hd) (c : K) (i : Nat) : (dropM (l.take i) c).length ≤ l.length ∧ (dropM (l.take i) c).length ≤ i := by
 have := List.length_filter_le (fun x : Hd => !decide (x.1 = c)) (l.take i)
 rw [List.length_take] at this
 unfold dropM
 omega

set_option maxHeartbeats 4000000 in
theorem drop_of (zs : List Hd) (lv : Value) (c : K) (w : World) (hL : Rd holdE w lv zs) (hlen : zs.length * 32 ≤ 140737488355328) : Calls Tryz.prog 114 #[lv, .string (bk c)] w fun e w' => (∃ v, e = .returned v ∧ Ow holdE 59 w.heap.size w' v (dropM zs c)) ∧ Below w.heap.size w w' := by
 have HL : Hid (Rd holdE w lv zs) := hL
 obtain ⟨ao, cap, rfl, -, -⟩ := hL.shape
 clear hL
 go_enter Tryz.func114, Tryz.ntmps114
 go_wp2
 go_loopg [5, 10] zs.length (fun g s5 s10 wr => ∃ (i : Nat) (st : Value), i + g = zs.length ∧ s10 = .int .i64 (i : Int) ∧ st = s5 ∧ Ow holdE 59 w.heap.size wr st (dropM (zs.take i) c) ∧ Below w.heap.size w wr)
 case atStart => exact ⟨0, _, by omega, rfl, rfl, Ow.nil _ _ _ _, Below.refl _ _⟩
 case round =>
  obtain ⟨i, st, hig, rfl, rfl, hO, hb⟩ := hrel
  obtain ⟨hcl, hcl2⟩ := drop_len zs c i
  obtain ⟨sa, sc, hst, -⟩ := hO.1.shape
  by_cases hlt : i < zs.length
  ·have hlti : (i : Int) < (zs.length : Int) := by omega
   have hx : zs[i]? = some zs[i] := List.getElem?_eq_getElem hlt
   obtain ⟨z, hzz⟩ : ∃ z, z = zs[i] := ⟨_, rfl⟩
   rw [← hzz] at hx
   clear hzz
   obtain ⟨b, off, rfl, cc⟩ := rdh_at HL.out hx
   obtain ⟨c0, c1, c2⟩ := cc wr hb
   obtain ⟨hs, hbz, cl⟩ := hd_box wr z
   obtain ⟨d0, d1, d2⟩ := cl _ (Below.refl _ _)
   have hb1 := keep_step hb (Nat.le_refl _) hbz
   have hO1 := hO.below hbz
   by_cases hk : z.1 = c
   ·have HN := drop_no hx hk
    rw [← HN] at hO1
    obtain ⟨k, t, u⟩ := z
    dsimp only [hc] at *
    have hkd : decide (k = c) = true := decide_eq_true hk
    generalize (dropM (zs.take i) c).length = cn at *
    subst hst
    clear hO cl cc hx HN HL hs hbz hk
    go_wp2
    go_roundg (gk - 1)
    case measure => omega
    case rel => exact ⟨i + 1, _, by omega, by go_num, rfl, hO1, hb1⟩
   ·have HN : Hid _ := drop_yes hx hk
    have hrunH : Hid _ := push_great z hO1.1 (by omega)
    have HGP : Hid (∀ v' w', PushT holdE 59 (wr.alloc (hc z)) st (dropM (zs.take i) c ++ [z]) v' w' → Ow holdE 59 w.heap.size w' v' (dropM (zs.take (i + 1)) c) ∧ Below w.heap.size (wr.alloc (hc z)) w') := fun v' w' hp => by
     rw [HN.out]
     exact hO1.push (Nat.le_trans hb.size hbz.size) hp
    obtain ⟨k, t, u⟩ := z
    dsimp only [hc] at *
    have hkd : decide (k = c) = false := decide_eq_false hk
    rw [hs] at hrunH
    clear hO hO1 cl cc hx HN HL hbz
    generalize (dropM (zs.take i) c).length = cn at hst
    subst hst
    go_wp2_with (at_builtin; refine wp_by rfl _ _ _ rfl _ _ rfl rfl hrunH.out ?_)
    intro v6 w6 hp6
    obtain ⟨hO6, hb6⟩ := HGP.out v6 w6 hp6
    have hb06 := hb1.trans hb6
    clear hrunH hp6 hb6 HGP hb hb1
    go_wp2
    go_roundg (gk - 1)
    case measure => omega
    case rel => exact ⟨i + 1, v6, by omega, by go_num, rfl, hO6, hb06⟩
  ·have hlti : ¬ (i : Int) < (zs.length : Int) := by omega
   have HF : Hid (Ow holdE 59 w.heap.size wr st (dropM zs c)) := by rw [List.take_of_length_le (by omega)] at hO; exact hO
   clear HL hO
   subst hst
   go_wp2
   go_ret
   exact ⟨⟨_, rfl, HF.out⟩, hb⟩

set_option maxHeartbeats 4000000 in
theorem rdrop_of (zs : List Hd) (lv : Value) (c : K) (w : World) (hL : Rd holdE w lv zs) (hlen : zs.length * 32 ≤ 140737488355328) : Calls Tryz.prog 51 #[lv, .string (bk c)] w fun e w' => (∃ v, e = .returned v ∧ Ow holdE 59 w.heap.size w' v (dropM zs c)) ∧ Below w.heap.size w w' := by
 have HL : Hid (Rd holdE w lv zs) := hL
 obtain ⟨ao, cap, rfl, -, -⟩ := hL.shape
 clear hL
 obtain ⟨q1, q2, q3⟩ := one_box w (.cells #[] 59)
 have hG0 : Ow holdE 59 w.heap.size (w.alloc (.cells #[] 59)) (.slice (some ⟨w.heap.size, 0, none⟩) 0 0) (dropM (zs.take 0) c) := ⟨Rk.made (xs := []) q2 rfl (by unfold maxLen; simp), fun k hk => by cases hk; exact Nat.le_refl _⟩
 go_enter Tryz.func51, Tryz.ntmps51
 go_wp2
 clear q1 q2
 generalize w.alloc (.cells #[] 59) = w5 at *
 go_loopg [5, 6] zs.length (fun g s5 s6 wr => ∃ (i : Nat) (st : Value), i + g = zs.length ∧ s6 = .int .i64 (i : Int) ∧ st = s5 ∧ Ow holdE 59 w.heap.size wr st (dropM (zs.take i) c) ∧ Below w.heap.size w wr)
 case atStart => exact ⟨0, _, by omega, rfl, rfl, hG0, q3⟩
 case round =>
  obtain ⟨i, st, hig, rfl, rfl, hO, hb⟩ := hrel
  clear hG0 q3
  obtain ⟨hcl, hcl2⟩ := drop_len zs c i
  obtain ⟨sa, sc, hst, -⟩ := hO.1.shape
  by_cases hlt : i < zs.length
  ·have hlti : (i : Int) < (zs.length : Int) := by omega
   have hx : zs[i]? = some zs[i] := List.getElem?_eq_getElem hlt
   obtain ⟨z, hzz⟩ : ∃ z, z = zs[i] := ⟨_, rfl⟩
   rw [← hzz] at hx
   clear hzz
   obtain ⟨b, off, rfl, cc⟩ := rdh_at HL.out hx
   obtain ⟨c0, c1, c2⟩ := cc wr hb
   by_cases hk : z.1 = c
   ·have HN := drop_no hx hk
    rw [← HN] at hO
    obtain ⟨k, t, u⟩ := z
    dsimp only at *
    have hkd : decide (k = c) = true := decide_eq_true hk
    rw [HN] at hO
    have hO1 : Hid (Ow holdE 59 w.heap.size wr st (dropM (zs.take (i + 1)) c)) := by show Ow _ _ _ _ _ _; rw [HN]; exact hO
    generalize (dropM (zs.take i) c).length = cn at *
    subst hst
    clear hO cc hx HN HL hk
    go_wp2
    go_roundg (gk - 1)
    case measure => omega
    case rel => exact ⟨i + 1, _, by omega, by go_num, rfl, hO1.out, hb⟩
   ·have HN : Hid _ := drop_yes hx hk
    have hrunH : Hid _ := push_great z hO.1 (by omega)
    have HGP : Hid (∀ v' w', PushT holdE 59 wr st (dropM (zs.take i) c ++ [z]) v' w' → Ow holdE 59 w.heap.size w' v' (dropM (zs.take (i + 1)) c) ∧ Below w.heap.size wr w') := fun v' w' hp => by
     rw [HN.out]
     exact hO.push hb.size hp
    obtain ⟨k, t, u⟩ := z
    dsimp only at *
    have hkd : decide (k = c) = false := decide_eq_false hk
    clear hO cc hx HN HL
    generalize (dropM (zs.take i) c).length = cn at hst
    subst hst
    go_wp2_with (at_builtin; refine wp_by rfl _ _ _ rfl _ _ rfl rfl hrunH.out ?_)
    intro v6 w6 hp6
    obtain ⟨hO6, hb6⟩ := HGP.out v6 w6 hp6
    have hb06 := hb.trans hb6
    clear hrunH hp6 hb6 HGP hb
    go_wp2
    go_roundg (gk - 1)
    case measure => omega
    case rel => exact ⟨i + 1, v6, by omega, by go_num, rfl, hO6, hb06⟩
  ·have hlti : ¬ (i : Int) < (zs.length : Int) := by omega
   have HF : Hid (Ow holdE 59 w.heap.size wr st (dropM zs c)) := by rw [List.take_of_length_le (by omega)] at hO; exact hO
   clear HL hO
   subst hst
   go_wp2
   go_ret
   exact ⟨⟨_, rfl, HF.out⟩, hb⟩
end Go.Proofs.YtfpbgfmnjpamlaaGreat

/- Until. -/
namespace Go.Proofs.YtfpbgfmnjpamlaaGreat
open Go.RowKit LeaseMath
set_option maxRecDepth 100000
set_option linter.unusedSimpArgs false
set_option linter.unusedVariables false

/-- Till when one lasts. -/
def untilM (now ttl : Int) : Int × Int := if timeB now && decide (1 ≤ ttl) && decide (ttl ≤ 1048576) then (laterM now ttl, 0) else (0, 1)
set_option maxHeartbeats 1000000 in
theorem until_of (now ttl : Int) (w : World) : Calls Tryz.prog 110 #[.int .i64 now, .int .i64 ttl] w fun e w' => e = .returned (.tuple #[.int .i64 (untilM now ttl).1, .int .i64 (untilM now ttl).2]) ∧ w' = w := by
 obtain ⟨U, HU⟩ : ∃ U, Hid (U = untilM now ttl) := ⟨_, rfl⟩
 rw [← HU.out]
 have kt := fun W => time_of now W
 cases ht : timeB now with
 | false =>
  have E : Hid (U = (0, 1)) := by show _ = _; rw [HU.out]; simp [untilM, ht]
  rw [ht] at kt
  clear HU ht
  go_enter Tryz.func110, Tryz.ntmps110
  go_wp2_with fail
  refine (kt _).mono ?_
  rintro e w1 ⟨rfl, hw1⟩
  subst hw1
  go_wp2
  go_ret2
  exact ⟨by rw [E.out]; rfl, rfl⟩
 | true =>
  obtain ⟨a0, a1⟩ := time_iff.1 ht
  rw [ht] at kt
  by_cases h1 : 1 ≤ ttl
  ·have h1' : ¬ ttl < 1 := by omega
   have h1d : decide (ttl < 1) = false := decide_eq_false h1'
   by_cases h2 : ttl ≤ 1048576
   ·have h2' : ¬ 1048576 < ttl := by omega
    have h2d : decide (1048576 < ttl) = false := decide_eq_false h2'
    have E : Hid (U = (laterM now ttl, 0)) := by show _ = _; rw [HU.out]; simp [untilM, ht, h1, h2]
    have kl := fun W => llater_of now ttl W a0 a1 (by omega) (by omega)
    generalize laterM now ttl = L at *
    clear HU ht h1 h2 a0 a1
    go_enter Tryz.func110, Tryz.ntmps110
    go_wp2_with fail
    refine (kt _).mono ?_
    rintro e w1 ⟨rfl, hw1⟩
    subst hw1
    go_wp2_with fail
    refine (kl _).mono ?_
    rintro e w2 ⟨rfl, hw2⟩
    subst hw2
    go_wp2
    go_ret2
    exact ⟨by rw [E.out]; rfl, rfl⟩
   ·have h2' : 1048576 < ttl := by omega
    have h2d : decide (1048576 < ttl) = true := decide_eq_true h2'
    have E : Hid (U = (0, 1)) := by show _ = _; rw [HU.out]; simp [untilM, h2]
    clear HU ht h1 h2 a0 a1
    go_enter Tryz.func110, Tryz.ntmps110
    go_wp2_with fail
    refine (kt _).mono ?_
    rintro e w1 ⟨rfl, hw1⟩
    subst hw1
    go_wp2
    go_ret2
    exact ⟨by rw [E.out]; rfl, rfl⟩
  ·have h1' : ttl < 1 := by omega
   have h1d : decide (ttl < 1) = true := decide_eq_true h1'
   have E : Hid (U = (0, 1)) := by show _ = _; rw [HU.out]; simp [untilM, h1]
   clear HU ht h1 a0 a1
   go_enter Tryz.func110, Tryz.ntmps110
   go_wp2_with fail
   refine (kt _).mono ?_
   rintro e w1 ⟨rfl, hw1⟩
   subst hw1
   go_wp2
   go_ret2
   exact ⟨by rw [E.out]; rfl, rfl⟩
end Go.Proofs.YtfpbgfmnjpamlaaGreat

