import Derived.Test.YtfpbgfmnjpamlaaGreatHv03
/- The contracts of Check, Has, Meet, Split, Join. -/
namespace Go.Proofs.YtfpbgfmnjpamlaaGreat
open Go.RowKit SpanMath
set_option maxRecDepth 100000
set_option linter.unusedSimpArgs false
set_option linter.unusedVariables false

theorem check_of (s : Sp) (w : World) : Calls Tryz.prog 68 #[sv s] w fun e w' => e = .returned (.int .i64 (if may s then 0 else 1)) ∧ Below w.heap.size w w' := by
 obtain ⟨a, b⟩ := s
 obtain ⟨B, HB⟩ : ∃ B : Int, Hid (B = if may (a, b) then 0 else 1) := ⟨_, rfl⟩
 rw [← HB.out]
 have hb : Below w.heap.size w (w.alloc (.cells #[.string (bk a), .string (bk b)] 47)) := (Below.refl w.heap.size w).alloc (Nat.le_refl _) _
 by_cases h1 : a.length ≤ 64
 ·have i1 : (a.length : Int) ≤ 64 := by omega
  by_cases h2 : b.length ≤ 64
  ·have i2 : (b.length : Int) ≤ 64 := by omega
   by_cases h3 : b = []
   ·have E : Hid (B = 0) := by show _ = _; rw [HB.out]; simp [may, blw, h1, h3]
    subst h3
    clear HB
    go_enter Tryz.func68, Tryz.ntmps68
    go_wp2
    go_ret
    exact ⟨by rw [E.out]; rfl, hb⟩
   ·by_cases h4 : a < b
    ·have E : Hid (B = 0) := by show _ = _; rw [HB.out]; simp [may, blw, h1, h2, h4]
     clear HB
     go_enter Tryz.func68, Tryz.ntmps68
     go_wp2
     go_ret
     exact ⟨by rw [E.out]; rfl, hb⟩
    ·have E : Hid (B = 1) := by show _ = _; rw [HB.out]; simp [may, blw, h1, h2, h3, h4]
     clear HB
     go_enter Tryz.func68, Tryz.ntmps68
     go_wp2
     go_ret
     exact ⟨by rw [E.out]; rfl, hb⟩
  ·have i2 : ¬ (b.length : Int) ≤ 64 := by omega
   have E : Hid (B = 1) := by show _ = _; rw [HB.out]; simp [may, h2]
   clear HB
   go_enter Tryz.func68, Tryz.ntmps68
   go_wp2
   go_ret
   exact ⟨by rw [E.out]; rfl, hb⟩
 ·have i1 : ¬ (a.length : Int) ≤ 64 := by omega
  have E : Hid (B = 1) := by show _ = _; rw [HB.out]; simp [may, h1]
  clear HB
  go_enter Tryz.func68, Tryz.ntmps68
  go_wp2
  go_ret
  exact ⟨by rw [E.out]; rfl, hb⟩
theorem check_yes {s : Sp} (h : may s = true) (w : World) : Calls Tryz.prog 68 #[sv s] w fun e w' => e = .returned (.int .i64 0) ∧ Below w.heap.size w w' := by
 refine (check_of s w).mono ?_
 rintro e w' ⟨rfl, hb⟩
 exact ⟨by rw [if_pos h], hb⟩
theorem check_no {s : Sp} (h : may s = false) (w : World) : Calls Tryz.prog 68 #[sv s] w fun e w' => e = .returned (.int .i64 1) ∧ Below w.heap.size w w' := by
 refine (check_of s w).mono ?_
 rintro e w' ⟨rfl, hb⟩
 exact ⟨by rw [h]; rfl, hb⟩

/-- What Has tells. -/
def hasP (s : Sp) (k : K) : Bool := may s && decide (k.length ≤ 64) && has s k
theorem has_of (s : Sp) (k : K) (w : World) : Calls Tryz.prog 60 #[sv s, .string (bk k)] w fun e w' => e = .returned (.bool (hasP s k)) ∧ Below w.heap.size w w' := by
 obtain ⟨a, b⟩ := s
 obtain ⟨B, HB⟩ : ∃ B, Hid (B = hasP (a, b) k) := ⟨_, rfl⟩
 rw [← HB.out]
 have hb : Below w.heap.size w (w.alloc (.cells #[.string (bk a), .string (bk b)] 47)) := (Below.refl w.heap.size w).alloc (Nat.le_refl _) _
 have hbk := heap_alloc_new w (.cells #[.string (bk a), .string (bk b)] 47)
 have hsz : (w.alloc (.cells #[.string (bk a), .string (bk b)] 47)).heap.size = w.heap.size + 1 := by simp
 have cl : ∀ W, Below (w.heap.size + 1) (w.alloc (.cells #[.string (bk a), .string (bk b)] 47)) W → W.cell? ⟨w.heap.size, 0, none⟩ = some (.string (bk a)) ∧ W.cell? ⟨w.heap.size, 1, none⟩ = some (.string (bk b)) := fun W hW => by
  have := (hW.block w.heap.size (Nat.lt_succ_self _)).trans hbk
  exact ⟨by rw [cells_of_block this]; rfl, by rw [cells_of_block this]; rfl⟩
 cases hm : may (a, b) with
 | false =>
  have E : Hid (B = false) := by show _ = _; rw [HB.out]; simp [hasP, hm]
  have kc := check_no hm (w.alloc (.cells #[.string (bk a), .string (bk b)] 47))
  rw [hsz] at kc
  clear HB hm cl hsz hbk
  go_enter Tryz.func60, Tryz.ntmps60
  go_wp2_with fail
  refine kc.mono ?_
  rintro e w1 ⟨rfl, hb1⟩
  go_wp2
  go_ret
  exact ⟨by rw [E.out]; rfl, hb.trans (hb1.mono (Nat.le_succ _))⟩
 | true =>
  have kc := check_yes hm (w.alloc (.cells #[.string (bk a), .string (bk b)] 47))
  rw [hsz] at kc
  have ki := fun W => isKey_of k W
  by_cases hk : k.length ≤ 64
  ·rw [decide_eq_true hk] at ki
   by_cases h1 : a ≤ k
   ·have kb := fun W => below_of k b W
    have E : Hid (B = blw k b) := by show _ = _; rw [HB.out]; simp [hasP, hm, hk, has, h1]
    clear HB hm hsz hbk hk
    go_enter Tryz.func60, Tryz.ntmps60
    go_wp2_with fail
    refine kc.mono ?_
    rintro e w1 ⟨rfl, hb1⟩
    obtain ⟨c0, c1⟩ := cl w1 hb1
    clear cl
    go_wp2_with fail
    refine (ki _).mono ?_
    rintro e w2 ⟨rfl, hw2⟩
    subst hw2
    go_wp2_with fail
    refine (kb _).mono ?_
    rintro e w3 ⟨rfl, hw3⟩
    subst hw3
    go_wp2
    go_ret
    exact ⟨by rw [E.out]; rfl, hb.trans (hb1.mono (Nat.le_succ _))⟩
   ·have E : Hid (B = false) := by show _ = _; rw [HB.out]; simp [hasP, has, h1]
    clear HB hm hsz hbk hk
    go_enter Tryz.func60, Tryz.ntmps60
    go_wp2_with fail
    refine kc.mono ?_
    rintro e w1 ⟨rfl, hb1⟩
    obtain ⟨c0, c1⟩ := cl w1 hb1
    clear cl
    go_wp2_with fail
    refine (ki _).mono ?_
    rintro e w2 ⟨rfl, hw2⟩
    subst hw2
    go_wp2
    go_ret
    exact ⟨by rw [E.out]; rfl, hb.trans (hb1.mono (Nat.le_succ _))⟩
  ·rw [decide_eq_false hk] at ki
   have E : Hid (B = false) := by show _ = _; rw [HB.out]; simp [hasP, hk]
   clear HB hm hsz hbk hk
   go_enter Tryz.func60, Tryz.ntmps60
   go_wp2_with fail
   refine kc.mono ?_
   rintro e w1 ⟨rfl, hb1⟩
   clear cl
   go_wp2_with fail
   refine (ki _).mono ?_
   rintro e w2 ⟨rfl, hw2⟩
   subst hw2
   go_wp2
   go_ret
   exact ⟨by rw [E.out]; rfl, hb.trans (hb1.mono (Nat.le_succ _))⟩
end Go.Proofs.YtfpbgfmnjpamlaaGreat

/- The contract of Meet: what two spans have. -/
namespace Go.Proofs.YtfpbgfmnjpamlaaGreat
open Go.RowKit SpanMath
set_option maxRecDepth 100000
set_option linter.unusedSimpArgs false
set_option linter.unusedVariables false

theorem results_sp {fn : Func} {p u : Tmp} (h : fn.results = #[.cell p 47, .tmp u]) (tmps : Array Value) (w : World) (g : Nat) (a b : Value)
  (hp : tmps.getD p undef = .pointer (some ⟨g, 0, none⟩)) (hg : w.heap[g]? = some (.cells #[a, b] 47 (0, 0))) :
  (results fn tmps).run Tryz.prog w = .ok (.tuple #[.agg #[a, b], tmps.getD u undef]) w := by
 have hp' : tmps[p]?.getD undef = .pointer (some ⟨g, 0, none⟩) := by simpa using hp
 simp [results, h, hp', asAddr, run_loadVar_row w g 47 47 #[a, b] (0, 0) _ hg Tryz.underlying47 rfl (by kernel_rfl)]
theorem sp_set {w : World} {g : Nat} {a b : Value} {t : TypeId} (h : w.heap[g]? = some (.cells #[a, b] t (0, 0))) (x y : Value) : ((w.setCell ⟨g, 0, none⟩ x).setCell ⟨g, 1, none⟩ y).heap[g]? = some (.cells #[x, y] t (0, 0)) := by
 simp [World.setCell, Array.getElem?_modify, h]

/-- Boxes one behind the other. -/
theorem two_boxes (w : World) (o0 o1 : Obj) : ((w.alloc o0).alloc o1).heap.size = w.heap.size + 2 ∧ ((w.alloc o0).alloc o1).heap[w.heap.size]? = some o0 ∧ ((w.alloc o0).alloc o1).heap[w.heap.size + 1]? = some o1 ∧ Below w.heap.size w ((w.alloc o0).alloc o1) := by
 have s1 : (w.alloc o0).heap.size = w.heap.size + 1 := by simp
 refine ⟨by simp, ?_, ?_, ((Below.refl w.heap.size w).alloc (Nat.le_refl _) _).alloc (by omega) _⟩
 ·rw [heap_alloc_old _ _ (by omega)]; exact heap_alloc_new w o0
 ·rw [← s1]; exact heap_alloc_new _ o1
theorem three_boxes (w : World) (o0 o1 o2 : Obj) : (((w.alloc o0).alloc o1).alloc o2).heap.size = w.heap.size + 3 ∧ (((w.alloc o0).alloc o1).alloc o2).heap[w.heap.size]? = some o0 ∧ (((w.alloc o0).alloc o1).alloc o2).heap[w.heap.size + 1]? = some o1 ∧ (((w.alloc o0).alloc o1).alloc o2).heap[w.heap.size + 2]? = some o2 ∧ Below w.heap.size w (((w.alloc o0).alloc o1).alloc o2) := by
 obtain ⟨h1, h2, h3, h4⟩ := two_boxes w o0 o1
 refine ⟨by simp, ?_, ?_, ?_, h4.alloc (by omega) _⟩
 ·rw [heap_alloc_old _ _ (by omega)]; exact h2
 ·rw [heap_alloc_old _ _ (by omega)]; exact h3
 ·rw [← h1]; exact heap_alloc_new _ o2

/-- What Meet tells. -/
def meetP (a b : Sp) : Option Sp := if may a && may b then meet a b else none
def meetV (m : Option Sp) : Value := .tuple #[sv (m.getD ([], [])), .bool m.isSome]

set_option maxHeartbeats 2000000 in
theorem meet_of (a b : Sp) (w : World) : Calls Tryz.prog 121 #[sv a, sv b] w fun e w' => e = .returned (meetV (meetP a b)) ∧ Below w.heap.size w w' := by
 obtain ⟨M, HM⟩ : ∃ M, Hid (M = meetP a b) := ⟨_, rfl⟩
 rw [← HM.out]
 have kca := fun W => check_of a W
 have kcb := fun W => check_of b W
 obtain ⟨a1, a2⟩ := a
 obtain ⟨b1, b2⟩ := b
 have T := three_boxes w (.cells #[.string (bk a1), .string (bk a2)] 47) (.cells #[.string (bk b1), .string (bk b2)] 47) (.cells #[.string { data := #[] }, .string { data := #[] }] 47)
 go_enter Tryz.func121, Tryz.ntmps121
 go_wp2_with fail
 generalize (((w.alloc (.cells #[.string (bk a1), .string (bk a2)] 47)).alloc (.cells #[.string (bk b1), .string (bk b2)] 47)).alloc (.cells #[.string { data := #[] }, .string { data := #[] }] 47)) = w0 at *
 obtain ⟨hs0, g0, g1, g2, hb0⟩ := T
 have cl : ∀ W, Below (w.heap.size + 3) w0 W → (W.cell? ⟨w.heap.size, 0, none⟩ = some (.string (bk a1)) ∧ W.cell? ⟨w.heap.size, 1, none⟩ = some (.string (bk a2)) ∧ W.cell? ⟨w.heap.size + 1, 0, none⟩ = some (.string (bk b1)) ∧ W.cell? ⟨w.heap.size + 1, 1, none⟩ = some (.string (bk b2))) ∧ W.heap[w.heap.size + 2]? = some (.cells #[.string { data := #[] }, .string { data := #[] }] 47 (0, 0)) := fun W hW => by
  have z0 := (hW.block w.heap.size (by omega)).trans g0
  have z1 := (hW.block (w.heap.size + 1) (by omega)).trans g1
  have z2 := (hW.block (w.heap.size + 2) (by omega)).trans g2
  exact ⟨⟨by rw [cells_of_block z0]; rfl, by rw [cells_of_block z0]; rfl, by rw [cells_of_block z1]; rfl, by rw [cells_of_block z1]; rfl⟩, z2⟩
 clear g0 g1 g2
 cases ha : may (a1, a2) with
 | false =>
  have kc := check_no ha w0
  have E : Hid (M = none) := by show _ = _; rw [HM.out]; simp [meetP, ha]
  rw [hs0] at kc
  clear HM kca kcb ha
  refine kc.mono ?_
  rintro e w1 ⟨rfl, hb1⟩
  obtain ⟨-, z2⟩ := cl w1 hb1
  have z3 := frozen_of z2 0
  have z4 := frozen_of z2 1
  have z5 : w1.cell? ⟨w.heap.size + 2, 0, none⟩ = some (.string { data := #[] }) := by rw [cells_of_block z2]; rfl
  have z6 : w1.cell? ⟨w.heap.size + 2, 1, none⟩ = some (.string { data := #[] }) := by rw [cells_of_block z2]; rfl
  clear cl
  go_wp2
  (try simp only [Exit.inBlock, Exit.then])
  refine bodyPost_ret (results_sp rfl _ _ (w.heap.size + 2) _ _ rfl (sp_set z2 _ _)) rfl ?_
  rw [E.out]
  have hbx := hb1
  exact ⟨rfl, ((hb0.trans (hbx.mono (Nat.le_add_right _ 3))).setCell (p := ⟨w.heap.size + 2, 0, none⟩) (Nat.le_add_right _ 2) _).setCell (p := ⟨w.heap.size + 2, 1, none⟩) (Nat.le_add_right _ 2) _⟩
 | true =>
  have kc := check_yes ha w0
  rw [hs0] at kc
  clear kca
  refine kc.mono ?_
  rintro e w1 ⟨rfl, hb1⟩
  clear kc
  have hs1 : w.heap.size + 3 ≤ w1.heap.size := by have := hb1.size; omega
  obtain ⟨⟨c0, c1, c2, c3⟩, -⟩ := cl w1 hb1
  cases hbm : may (b1, b2) with
  | false =>
   have kc := check_no hbm w1
   have E : Hid (M = none) := by show _ = _; rw [HM.out]; simp [meetP, hbm]
   clear HM kcb ha hbm
   go_wp2_with fail
   refine kc.mono ?_
   rintro e w2 ⟨rfl, hb2⟩
   have hbx := hb1.trans (hb2.mono hs1)
   obtain ⟨-, z2⟩ := cl w2 hbx
   have z3 := frozen_of z2 0
   have z4 := frozen_of z2 1
   have z5 : w2.cell? ⟨w.heap.size + 2, 0, none⟩ = some (.string { data := #[] }) := by rw [cells_of_block z2]; rfl
   have z6 : w2.cell? ⟨w.heap.size + 2, 1, none⟩ = some (.string { data := #[] }) := by rw [cells_of_block z2]; rfl
   clear cl c0 c1 c2 c3
   go_wp2
   (try simp only [Exit.inBlock, Exit.then])
   refine bodyPost_ret (results_sp rfl _ _ (w.heap.size + 2) _ _ rfl (sp_set z2 _ _)) rfl ?_
   rw [E.out]
   exact ⟨rfl, ((hb0.trans (hbx.mono (Nat.le_add_right _ 3))).setCell (p := ⟨w.heap.size + 2, 0, none⟩) (Nat.le_add_right _ 2) _).setCell (p := ⟨w.heap.size + 2, 1, none⟩) (Nat.le_add_right _ 2) _⟩
  | true =>
   have kc := check_yes hbm w1
   have ks := fun W => sooner_of a2 b2 W
   have E : Hid (M = meet (a1, a2) (b1, b2)) := by show _ = _; rw [HM.out]; simp [meetP, ha, hbm]
   clear HM kcb ha hbm
   go_wp2_with fail
   refine kc.mono ?_
   rintro e w2 ⟨rfl, hb2⟩
   have hbx := hb1.trans (hb2.mono hs1)
   clear c0 c1 c2 c3 kc
   obtain ⟨⟨c0, c1, c2, c3⟩, -⟩ := cl w2 hbx
   go_wp2
   go_region_held3 (fun w' => w'.cell? ⟨w.heap.size, 0, none⟩ = some (.string (bk a1)) ∧ w'.cell? ⟨w.heap.size, 1, none⟩ = some (.string (bk a2)) ∧ w'.cell? ⟨w.heap.size + 1, 0, none⟩ = some (.string (bk b1)) ∧ w'.cell? ⟨w.heap.size + 1, 1, none⟩ = some (.string (bk b2)))
    (first | exact ⟨c0, c1, c2, c3⟩ | go_keep)
    ((go_at_call 166; refine (ks _).mono ?_; rintro e w3 ⟨rfl, hw3⟩; subst hw3))
   all_goals (
    have hn3 := heap_alloc_new w2 (.cells #[.string (bk (kmax a1 b1)), .string (bk (soon a2 b2))] 47)
    have hn4 : (w2.alloc (.cells #[.string (bk (kmax a1 b1)), .string (bk (soon a2 b2))] 47)).drew.heap[w2.heap.size]? = some (.cells #[.string (bk (kmax a1 b1)), .string (bk (soon a2 b2))] 47 (0, 0)) := hn3
    have hb4 : Below (w.heap.size + 3) w0 (w2.alloc (.cells #[.string (bk (kmax a1 b1)), .string (bk (soon a2 b2))] 47)).drew := (hbx.alloc (by have := hb2.size; omega) _).drew
    clear hn3 c0 c1 c2 c3
    generalize (w2.alloc (.cells #[.string (bk (kmax a1 b1)), .string (bk (soon a2 b2))] 47)).drew = w4 at *
    have kb := fun W => below_of (kmax a1 b1) (soon a2 b2) W
    have m0 : w4.cell? ⟨w2.heap.size, 0, none⟩ = some (.string (bk (kmax a1 b1))) := by rw [cells_of_block hn4]; rfl
    have m1 : w4.cell? ⟨w2.heap.size, 1, none⟩ = some (.string (bk (soon a2 b2))) := by rw [cells_of_block hn4]; rfl
    obtain ⟨-, z2⟩ := cl w4 hb4
    have z3 := frozen_of z2 0
    have z4 := frozen_of z2 1
    have z5 : w4.cell? ⟨w.heap.size + 2, 0, none⟩ = some (.string { data := #[] }) := by rw [cells_of_block z2]; rfl
    have z6 : w4.cell? ⟨w.heap.size + 2, 1, none⟩ = some (.string { data := #[] }) := by rw [cells_of_block z2]; rfl
    clear cl
    cases hbl : blw (kmax a1 b1) (soon a2 b2) with
    | false =>
     have E2 : Hid (M = none) := by show _ = _; rw [E.out]; unfold meet meetS; simp only; rw [hbl]; rfl
     rw [hbl] at kb
     clear E hbl
     go_wp2_with fail
     refine (kb _).mono ?_
     rintro e w5 ⟨rfl, hw5⟩
     subst hw5
     go_wp2
     (try simp only [Exit.inBlock, Exit.then])
     refine bodyPost_ret (results_sp rfl _ _ (w.heap.size + 2) _ _ rfl (sp_set z2 _ _)) rfl ?_
     rw [E2.out]
     exact ⟨rfl, ((hb0.trans (hb4.mono (Nat.le_add_right _ 3))).setCell (p := ⟨w.heap.size + 2, 0, none⟩) (Nat.le_add_right _ 2) _).setCell (p := ⟨w.heap.size + 2, 1, none⟩) (Nat.le_add_right _ 2) _⟩
    | true =>
     have E2 : Hid (M = some (kmax a1 b1, soon a2 b2)) := by show _ = _; rw [E.out]; unfold meet meetS; simp only; rw [hbl]; rfl
     rw [hbl] at kb
     clear E hbl
     go_wp2_with fail
     refine (kb _).mono ?_
     rintro e w5 ⟨rfl, hw5⟩
     subst hw5
     go_wp2
     (try simp only [Exit.inBlock, Exit.then])
     refine bodyPost_ret (results_sp rfl _ _ (w.heap.size + 2) _ _ rfl (sp_set z2 _ _)) rfl ?_
     rw [E2.out]
     exact ⟨rfl, ((hb0.trans (hb4.mono (Nat.le_add_right _ 3))).setCell (p := ⟨w.heap.size + 2, 0, none⟩) (Nat.le_add_right _ 2) _).setCell (p := ⟨w.heap.size + 2, 1, none⟩) (Nat.le_add_right _ 2) _⟩)
end Go.Proofs.YtfpbgfmnjpamlaaGreat

