import Derived.Test.YtfpbgfmnjpamlaaGreatHv05
/- The contracts of the document's own In; of In with its closure; of few. -/
namespace Go.Proofs.YtfpbgfmnjpamlaaGreat
open Go.RowKit SpanMath
set_option maxRecDepth 100000
set_option linter.unusedSimpArgs false
set_option linter.unusedVariables false

theorem any_from {f : Sp → Bool} {l : List Sp} {i : Nat} {s : Sp} (hs : l[i]? = some s) : (l.drop i).any f = (f s || (l.drop (i + 1)).any f) := by
 obtain ⟨h, rfl⟩ := List.getElem?_eq_some_iff.1 hs
 rw [List.drop_eq_getElem_cons h, List.any_cons]

set_option maxHeartbeats 2000000 in
theorem refIn_of (l : List Sp) (lv : Value) (k : K) (w : World) (hF : Sv w lv l) (hlen : l.length ≤ 1000000) : Calls Tryz.prog 84 #[lv, .string (bk k)] w fun e w' => e = .returned (.bool (isIn l k)) ∧ Below w.heap.size w w' := by
 obtain ⟨ao, cap, rfl, h2⟩ := id hF
 obtain ⟨B, HB⟩ : ∃ B, Hid (B = isIn l k) := ⟨_, rfl⟩
 rw [← HB.out]
 go_enter Tryz.func84, Tryz.ntmps84
 go_wp2
 go_loopg [5] l.length (fun g s5 wr => ∃ i : Nat, i + g = l.length ∧ s5 = .int .i64 (i : Int) ∧ Below w.heap.size w wr ∧ Hid (B = (l.drop i).any fun s => has s k))
 case atStart => exact ⟨0, by simp, rfl, Below.refl _ _, HB⟩
 case round =>
  obtain ⟨i, hig, rfl, hb, HP⟩ := hrel
  clear HB
  by_cases hlt : i < l.length
  ·have hlti : (i : Int) < (l.length : Int) := by omega
   have hx : l[i]? = some l[i] := List.getElem?_eq_getElem hlt
   obtain ⟨b, off, rfl, d0, d1⟩ := h2 i l[i] hx
   obtain ⟨s, hs⟩ : ∃ s, s = l[i] := ⟨_, rfl⟩
   rw [← hs] at hx d0 d1
   have HN : Hid (B = (has s k || (l.drop (i + 1)).any fun s => has s k)) := by show _ = _; rw [HP.out, any_from hx]
   have kh := refHas_of s k wr
   obtain ⟨s1, s2⟩ := s
   have c0 := (hb.cell (p := ⟨b, off + i * 2, none⟩) (World.block_lt_of_cell? w _ d0)).trans d0
   have c1 := (hb.cell (p := ⟨b, off + i * 2 + 1, none⟩) (World.block_lt_of_cell? w _ d1)).trans d1
   clear hx hs d0 d1 HP h2 hF
   cases hh : has (s1, s2) k with
   | true =>
    rw [hh] at kh
    have E : Hid (B = true) := by show _ = _; rw [HN.out, hh]; rfl
    clear HN hh
    go_wp2_with fail
    refine kh.mono ?_
    rintro e w1 ⟨rfl, hb1⟩
    go_wp2
    go_ret
    exact ⟨by rw [E.out]; rfl, hb.trans (hb1.mono hb.size)⟩
   | false =>
    rw [hh] at kh
    have E : Hid (B = (l.drop (i + 1)).any fun s => has s k) := by show _ = _; rw [HN.out, hh]; rfl
    clear HN hh
    go_wp2_with fail
    refine kh.mono ?_
    rintro e w1 ⟨rfl, hb1⟩
    go_wp2
    go_roundg (gk - 1)
    case measure => omega
    case rel => exact ⟨i + 1, by omega, by go_num, hb.trans (hb1.mono hb.size), E⟩
  ·have hlti : ¬ (i : Int) < (l.length : Int) := by omega
   have E : Hid (B = false) := by show _ = _; rw [HP.out, List.drop_eq_nil_of_le (by omega)]; rfl
   clear h2 HP hF
   go_wp2
   go_ret
   exact ⟨by rw [E.out]; rfl, hb⟩

theorem in1_of {w : World} {q : Nat} {k : K} (hq : w.cell? ⟨q, 0, none⟩ = some (.string (bk k))) (s : Sp) :
  Calls Tryz.prog 149 #[sv s, .pointer (some ⟨q, 0, none⟩)] w fun e w' => e = .returned (.bool (hasP s k)) ∧ Below w.heap.size w w' := by
 have hql := World.block_lt_of_cell? w _ hq
 dsimp only at hql
 obtain ⟨a, b⟩ := s
 have hbb : Below w.heap.size w (w.alloc (.cells #[.string (bk a), .string (bk b)] 47)) := (Below.refl _ _).alloc (Nat.le_refl _) _
 have kh := has_of (a, b) k (w.alloc (.cells #[.string (bk a), .string (bk b)] 47))
 have hq2 := (hbb.cell (p := ⟨q, 0, none⟩) hql).trans hq
 go_enter Tryz.func149, Tryz.ntmps149
 go_wp2_with fail
 refine kh.mono ?_
 rintro e w1 ⟨rfl, hb1⟩
 go_wp2
 go_ret
 exact ⟨rfl, hbb.trans (hb1.mono (by simp))⟩

/-- Where the first stands that has the key. -/
def firstHas (k : K) : List Sp → Nat → Option Nat
 | [], _ => none
 | x :: l, j => if hasP x k then some j else firstHas k l (j + 1)
def idxV : Option Nat → Int
 | none => -1
 | some i => (i : Int)
theorem firstHas_some (k : K) : ∀ (l : List Sp) (j : Nat), (firstHas k l j).isSome = l.any fun s => hasP s k
 | [], j => rfl
 | x :: l, j => by
  rw [firstHas, List.any_cons]
  cases hasP x k with
  | true => rfl
  | false => simpa using firstHas_some k l (j + 1)
theorem firstHas_at {k : K} {l : List Sp} {i : Nat} {s : Sp} (hs : l[i]? = some s) : firstHas k (l.drop i) i = if hasP s k then some i else firstHas k (l.drop (i + 1)) (i + 1) := by
 obtain ⟨h, rfl⟩ := List.getElem?_eq_some_iff.1 hs
 rw [List.drop_eq_getElem_cons h, firstHas]

set_option maxHeartbeats 2000000 in
theorem index_of {w : World} {lv : Value} {l : List Sp} (hF : Sv w lv l) {q : Nat} {k : K} (hq : w.cell? ⟨q, 0, none⟩ = some (.string (bk k))) (hlen : l.length ≤ 1000000) :
  Calls Tryz.prog 133 #[lv, .func (.func 149) #[] #[.pointer (some ⟨q, 0, none⟩)]] w fun e w' => e = .returned (.int .i64 (idxV (firstHas k l 0))) ∧ Below w.heap.size w w' := by
 obtain ⟨ao, cap, rfl, h2⟩ := id hF
 have hql := World.block_lt_of_cell? w _ hq
 dsimp only at hql
 have hqW : ∀ W, Below w.heap.size w W → W.cell? ⟨q, 0, none⟩ = some (.string (bk k)) := fun W hW => (hW.cell (p := ⟨q, 0, none⟩) hql).trans hq
 go_enter Tryz.func133, Tryz.ntmps133
 go_wp2
 go_loopg [8] l.length (fun g s8 wr => ∃ i : Nat, i + g = l.length ∧ s8 = .int .i64 (i : Int) ∧ Below w.heap.size w wr ∧ Hid (firstHas k (l.drop i) i = firstHas k l 0))
 case atStart => exact ⟨0, by simp, rfl, Below.refl _ _, rfl⟩
 case round =>
  obtain ⟨i, hig, rfl, hb, HF⟩ := hrel
  by_cases hlt : i < l.length
  ·have hlti : (i : Int) < (l.length : Int) := by omega
   have hx : l[i]? = some l[i] := List.getElem?_eq_getElem hlt
   obtain ⟨b, off, rfl, d0, d1⟩ := h2 i l[i] hx
   obtain ⟨s, hs⟩ : ∃ s, s = l[i] := ⟨_, rfl⟩
   rw [← hs] at hx d0 d1
   have HN : Hid ((if hasP s k then some i else firstHas k (l.drop (i + 1)) (i + 1)) = firstHas k l 0) := by show _ = _; rw [← HF.out, firstHas_at hx]
   have kf := in1_of (hqW wr hb) s
   obtain ⟨s1, s2⟩ := s
   have c0 := (hb.cell (p := ⟨b, off + i * 2, none⟩) (World.block_lt_of_cell? w _ d0)).trans d0
   have c1 := (hb.cell (p := ⟨b, off + i * 2 + 1, none⟩) (World.block_lt_of_cell? w _ d1)).trans d1
   clear hx hs d0 d1 HF h2 hF hqW hq
   cases hh : hasP (s1, s2) k with
   | true =>
    rw [hh] at kf
    have HR : Hid (firstHas k l 0 = some i) := by show _ = _; rw [← HN.out, hh]; rfl
    clear HN hh
    go_wp2_with (go_at_call 149; refine kf.mono ?_; rintro e wc ⟨rfl, hbc⟩)
    go_ret
    exact ⟨by rw [HR.out]; rfl, hb.trans (hbc.mono hb.size)⟩
   | false =>
    rw [hh] at kf
    have HR : Hid (firstHas k (l.drop (i + 1)) (i + 1) = firstHas k l 0) := by show _ = _; rw [← HN.out, hh]; rfl
    clear HN hh
    go_wp2_with (go_at_call 149; refine kf.mono ?_; rintro e wc ⟨rfl, hbc⟩)
    go_roundg (gk - 1)
    case measure => omega
    case rel => exact ⟨i + 1, by omega, by go_num, hb.trans (hbc.mono hb.size), HR⟩
  ·have hlti : ¬ (i : Int) < (l.length : Int) := by omega
   have HR : Hid (firstHas k l 0 = none) := by show _ = _; rw [← HF.out, List.drop_eq_nil_of_le (by omega)]; rfl
   clear h2 HF hF hqW
   go_wp2
   go_ret
   exact ⟨by rw [HR.out]; rfl, hb⟩

theorem contains_of {w : World} {lv : Value} {l : List Sp} (hF : Sv w lv l) {q : Nat} {k : K} (hq : w.cell? ⟨q, 0, none⟩ = some (.string (bk k))) (hlen : l.length ≤ 1000000) :
  Calls Tryz.prog 70 #[lv, .func (.func 149) #[] #[.pointer (some ⟨q, 0, none⟩)]] w fun e w' => e = .returned (.bool (firstHas k l 0).isSome) ∧ Below w.heap.size w w' := by
 have ki := index_of hF hq hlen
 generalize firstHas k l 0 = o at *
 clear hF hq
 cases o with
 | none =>
  simp only [idxV] at ki
  go_enter Tryz.func70, Tryz.ntmps70
  go_wp2_with fail
  refine ki.mono ?_
  rintro e w1 ⟨rfl, hb1⟩
  go_wp2
  go_ret
  exact ⟨rfl, hb1⟩
 | some j =>
  simp only [idxV] at ki
  have hj : (0 : Int) ≤ (j : Int) := by omega
  go_enter Tryz.func70, Tryz.ntmps70
  go_wp2_with fail
  refine ki.mono ?_
  rintro e w1 ⟨rfl, hb1⟩
  go_wp2
  go_ret
  exact ⟨rfl, hb1⟩

/-- What In tells. -/
def inP (l : List Sp) (k : K) : Bool := formB l && decide (k.length ≤ 64) && isIn l k
theorem inP_any (l : List Sp) (k : K) (h : formB l = true) : (l.any fun s => hasP s k) = inP l k := by
 unfold inP
 rw [h]
 have hm : ∀ s ∈ l, may s = true := fun s hs => by
  unfold formB at h
  simp only [Bool.and_eq_true, decide_eq_true_eq] at h
  exact h.1.2 s hs
 rw [Bool.eq_iff_iff]
 unfold isIn hasP
 simp only [List.any_eq_true, Bool.and_eq_true, decide_eq_true_eq, true_and]
 constructor
 ·rintro ⟨s, hs, ⟨_, h2⟩, h3⟩; exact ⟨h2, s, hs, h3⟩
 ·rintro ⟨h2, s, hs, h3⟩; exact ⟨s, hs, ⟨hm s hs, h2⟩, h3⟩

set_option maxHeartbeats 2000000 in
theorem in_of (l : List Sp) (lv : Value) (k : K) (w : World) (hF : Sv w lv l) : Calls Tryz.prog 88 #[lv, .string (bk k)] w fun e w' => e = .returned (.bool (inP l k)) ∧ Below w.heap.size w w' := by
 obtain ⟨B, HB⟩ : ∃ B, Hid (B = inP l k) := ⟨_, rfl⟩
 rw [← HB.out]
 have hbb : Below w.heap.size w (w.alloc (.cells #[.string (bk k)] 9)) := (Below.refl _ _).alloc (Nat.le_refl _) _
 have hn0 := heap_alloc_new w (.cells #[.string (bk k)] 9)
 have hsz : (w.alloc (.cells #[.string (bk k)] 9)).heap.size = w.heap.size + 1 := by simp
 have kf := form_of l lv _ (hF.below hbb)
 have hFW : ∀ W, Below w.heap.size w W → Sv W lv l := fun W hW => hF.below hW
 have hqW : ∀ W, Below (w.heap.size + 1) (w.alloc (.cells #[.string (bk k)] 9)) W → W.cell? ⟨w.heap.size, 0, none⟩ = some (.string (bk k)) := fun W hW => by
  have := (hW.block w.heap.size (Nat.lt_succ_self _)).trans hn0
  rw [cells_of_block this]; rfl
 rw [hsz] at kf
 obtain ⟨ao, cap, rfl, -⟩ := id hF
 cases hf : formB l with
 | false =>
  rw [hf] at kf
  have E : Hid (B = false) := by show _ = _; rw [HB.out]; unfold inP; rw [hf]; rfl
  clear HB hf hF hFW hqW
  go_enter Tryz.func88, Tryz.ntmps88
  go_wp2_with fail
  refine kf.mono ?_
  rintro e w1 ⟨rfl, hb1⟩
  go_wp2
  go_ret
  exact ⟨by rw [E.out]; rfl, hbb.trans (hb1.mono (Nat.le_succ _))⟩
 | true =>
  rw [hf] at kf
  have E : Hid (B = (firstHas k l 0).isSome) := by show _ = _; rw [HB.out, firstHas_some, inP_any l k hf]
  have hll : l.length ≤ 1000000 := by have := (formB_iff.1 hf).1; omega
  have ki := fun W (h1 : Below w.heap.size w W) (h2 : Below (w.heap.size + 1) (w.alloc (.cells #[.string (bk k)] 9)) W) => contains_of (hFW W h1) (hqW W h2) hll
  clear HB hf hF hFW hqW
  go_enter Tryz.func88, Tryz.ntmps88
  go_wp2_with fail
  refine kf.mono ?_
  rintro e w1 ⟨rfl, hb1⟩
  have hbw := hbb.trans (hb1.mono (Nat.le_succ _))
  have ki1 := ki w1 hbw hb1
  clear ki hn0
  go_wp2_with fail
  refine ki1.mono ?_
  rintro e w2 ⟨rfl, hb2⟩
  go_wp2
  go_ret
  exact ⟨by rw [E.out]; rfl, hbw.trans (hb2.mono hbw.size)⟩

end Go.Proofs.YtfpbgfmnjpamlaaGreat

/- The contracts of Covers and of outside. -/
namespace Go.Proofs.YtfpbgfmnjpamlaaGreat
open Go.RowKit SpanMath
set_option maxRecDepth 100000
set_option linter.unusedSimpArgs false
set_option linter.unusedVariables false

/-- What Covers tells. -/
def covP (l : List Sp) (s : Sp) : Bool := formB l && l.any fun x => decide (meetP x s = some s)
theorem meetV_none : meetV none = .tuple #[.agg #[.string { data := #[] }, .string { data := #[] }], .bool false] := rfl
theorem meetV_some (a b : K) : meetV (some (a, b)) = .tuple #[.agg #[.string (bk a), .string (bk b)], .bool true] := rfl
set_option maxHeartbeats 4000000 in
theorem covers_of (l : List Sp) (lv : Value) (s : Sp) (w : World) (hF : Sv w lv l) : Calls Tryz.prog 57 #[lv, sv s] w fun e w' => e = .returned (.bool (covP l s)) ∧ Below w.heap.size w w' := by
 obtain ⟨B, HB⟩ : ∃ B, Hid (B = covP l s) := ⟨_, rfl⟩
 rw [← HB.out]
 obtain ⟨s1, s2⟩ := s
 obtain ⟨hs0, g0, hb0⟩ := one_box w (.cells #[.string (bk s1), .string (bk s2)] 47)
 have kf := form_of l lv _ (hF.below hb0)
 rw [hs0] at kf
 obtain ⟨ao, cap, rfl, h2⟩ := id hF
 go_enter Tryz.func57, Tryz.ntmps57
 go_wp2_with fail
 generalize w.alloc (.cells #[.string (bk s1), .string (bk s2)] 47) = w0 at *
 cases hf : formB l with
 | false =>
  rw [hf] at kf
  have E : Hid (B = false) := by show _ = _; rw [HB.out]; unfold covP; rw [hf]; rfl
  clear HB hf hF h2
  refine kf.mono ?_
  rintro e w1 ⟨rfl, hb1⟩
  go_wp2
  go_ret
  exact ⟨by rw [E.out]; rfl, hb0.trans (hb1.mono (Nat.le_succ _))⟩
 | true =>
  rw [hf] at kf
  have E : Hid (B = l.any fun x => decide (meetP x (s1, s2) = some (s1, s2))) := by show _ = _; rw [HB.out]; unfold covP; rw [hf]; rfl
  have hll : l.length ≤ 1000000 := by have := (formB_iff.1 hf).1; omega
  clear HB hf hF
  refine kf.mono ?_
  rintro e w1 ⟨rfl, hb1⟩
  clear kf
  go_wp2
  go_loopg [14] l.length (fun g s14 wr => ∃ i : Nat, i + g = l.length ∧ s14 = .int .i64 (i : Int) ∧ Below (w.heap.size + 1) w0 wr ∧ Hid (B = (l.drop i).any fun x => decide (meetP x (s1, s2) = some (s1, s2))))
  case atStart => exact ⟨0, by simp, rfl, hb1, E⟩
  case round =>
   obtain ⟨i, hig, rfl, hb, HP⟩ := hrel
   clear E hb1
   have hbw : Below w.heap.size w wr := hb0.trans (hb.mono (Nat.le_succ _))
   by_cases hlt : i < l.length
   ·have hlti : (i : Int) < (l.length : Int) := by omega
    have hx : l[i]? = some l[i] := List.getElem?_eq_getElem hlt
    obtain ⟨b, off, rfl, d0, d1⟩ := h2 i l[i] hx
    obtain ⟨x, hs⟩ : ∃ s, s = l[i] := ⟨_, rfl⟩
    rw [← hs] at hx d0 d1
    have HN : Hid (B = (decide (meetP x (s1, s2) = some (s1, s2)) || (l.drop (i + 1)).any fun x => decide (meetP x (s1, s2) = some (s1, s2)))) := by show _ = _; rw [HP.out, any_from hx]
    have km := fun W => meet_of x (s1, s2) W
    obtain ⟨x1, x2⟩ := x
    have c0 := (hbw.cell (p := ⟨b, off + i * 2, none⟩) (World.block_lt_of_cell? w _ d0)).trans d0
    have c1 := (hbw.cell (p := ⟨b, off + i * 2 + 1, none⟩) (World.block_lt_of_cell? w _ d1)).trans d1
    obtain ⟨hsz, hn0, hbb⟩ := one_box wr (.cells #[.string (bk x1), .string (bk x2)] 47)
    have hbx := hb.trans (hbb.mono (by have := hb.size; omega))
    have cl : ∀ W, Below (w.heap.size + 1) w0 W → W.cell? ⟨w.heap.size, 0, none⟩ = some (.string (bk s1)) ∧ W.cell? ⟨w.heap.size, 1, none⟩ = some (.string (bk s2)) := fun W hW => by
     have := (hW.block w.heap.size (Nat.lt_succ_self _)).trans g0
     exact ⟨by rw [cells_of_block this]; rfl, by rw [cells_of_block this]; rfl⟩
    obtain ⟨z0, z1⟩ := cl _ hbx
    have y0 : (wr.alloc (.cells #[.string (bk x1), .string (bk x2)] 47)).cell? ⟨wr.heap.size, 0, none⟩ = some (.string (bk x1)) := by rw [cells_of_block hn0]; rfl
    have y1 : (wr.alloc (.cells #[.string (bk x1), .string (bk x2)] 47)).cell? ⟨wr.heap.size, 1, none⟩ = some (.string (bk x2)) := by rw [cells_of_block hn0]; rfl
    have km1 := km (wr.alloc (.cells #[.string (bk x1), .string (bk x2)] 47))
    clear hx hs d0 d1 HP h2 km
    go_wp2_with fail
    generalize wr.alloc (.cells #[.string (bk x1), .string (bk x2)] 47) = wb at *
    refine km1.mono ?_
    rintro e w2 ⟨rfl, hb2⟩
    have hbx2 := hbx.trans (hb2.mono (by have := hbx.size; omega))
    obtain ⟨q0, q1⟩ := cl w2 hbx2
    clear z0 z1 y0 y1 c0 c1 km1
    have hbn : ∀ o, Below (w.heap.size + 1) w0 (w2.alloc o) := fun o => hbx2.alloc (by have := hbx2.size; omega) o
    cases hM : meetP (x1, x2) (s1, s2) with
    | none =>
     have E : Hid (B = (l.drop (i + 1)).any fun x => decide (meetP x (s1, s2) = some (s1, s2))) := by show _ = _; rw [HN.out, hM]; rfl
     rw [meetV_none]
     have hbf := hbn (.cells #[.string { data := #[] }, .string { data := #[] }] 47)
     clear HN hM hbn
     go_wp2
     go_roundg (gk - 1)
     case measure => omega
     case rel => exact ⟨i + 1, by omega, by go_num, hbf, E⟩
    | some m =>
     obtain ⟨m1, m2⟩ := m
     rw [meetV_some]
     have hbf := hbn (.cells #[.string (bk m1), .string (bk m2)] 47)
     obtain ⟨-, hn2, hbb2⟩ := one_box w2 (.cells #[.string (bk m1), .string (bk m2)] 47)
     obtain ⟨q0, q1⟩ := cl _ hbf
     have y0 : (w2.alloc (.cells #[.string (bk m1), .string (bk m2)] 47)).cell? ⟨w2.heap.size, 0, none⟩ = some (.string (bk m1)) := by rw [cells_of_block hn2]; rfl
     have y1 : (w2.alloc (.cells #[.string (bk m1), .string (bk m2)] 47)).cell? ⟨w2.heap.size, 1, none⟩ = some (.string (bk m2)) := by rw [cells_of_block hn2]; rfl
     by_cases hm1 : m1 = s1
     ·have e1 : decide (m1 = s1) = true := by simpa using hm1
      by_cases hm2 : m2 = s2
      ·have e2 : decide (m2 = s2) = true := by simpa using hm2
       have E : Hid (B = true) := by show _ = _; rw [HN.out, hM, hm1, hm2, decide_eq_true rfl]; rfl
       clear HN hM hbn hm1 hm2 hbb2 hn2
       go_wp2
       go_ret
       exact ⟨by rw [E.out]; rfl, hb0.trans (hbf.mono (Nat.le_succ _))⟩
      ·have e2 : decide (m2 = s2) = false := by simpa using hm2
       have E : Hid (B = (l.drop (i + 1)).any fun x => decide (meetP x (s1, s2) = some (s1, s2))) := by show _ = _; rw [HN.out, hM, decide_eq_false (fun h => hm2 (by cases h; rfl))]; rfl
       clear HN hM hbn hm1 hm2 hbb2 hn2
       go_wp2
       go_roundg (gk - 1)
       case measure => omega
       case rel => exact ⟨i + 1, by omega, by go_num, hbf, E⟩
     ·have e1 : decide (m1 = s1) = false := by simpa using hm1
      have E : Hid (B = (l.drop (i + 1)).any fun x => decide (meetP x (s1, s2) = some (s1, s2))) := by show _ = _; rw [HN.out, hM, decide_eq_false (fun h => hm1 (by cases h; rfl))]; rfl
      clear HN hM hbn hm1 hbb2 hn2
      go_wp2
      go_roundg (gk - 1)
      case measure => omega
      case rel => exact ⟨i + 1, by omega, by go_num, hbf, E⟩
   ·have hlti : ¬ (i : Int) < (l.length : Int) := by omega
    have E : Hid (B = false) := by show _ = _; rw [HP.out, List.drop_eq_nil_of_le (by omega)]; rfl
    clear h2 HP
    go_wp2
    go_ret
    exact ⟨by rw [E.out]; rfl, hbw⟩
end Go.Proofs.YtfpbgfmnjpamlaaGreat

/- Rows as they are read and made, of any element; appends to a row of one's own; outside. -/
namespace Go.Proofs.YtfpbgfmnjpamlaaGreat
open Go.RowKit SpanMath
set_option maxRecDepth 100000
set_option linter.unusedSimpArgs false
set_option linter.unusedVariables false

theorem Rd.sv {w : World} {v : Value} {l : List Sp} (h : Rd spE w v l) : Sv w v l := by
 obtain ⟨ao, cap, e, _, _, h2⟩ := h
 refine ⟨ao, cap, e, fun i s hs => ?_⟩
 obtain ⟨b, off, r1, r2⟩ := h2 i s 0 _ hs rfl
 obtain ⟨b', off', r3, r4⟩ := h2 i s 1 _ hs rfl
 rw [r1] at r3
 cases r3
 exact ⟨b, off, r1, r2, by rw [← Nat.add_assoc] at r4; exact r4⟩
theorem infoSp : (Tryz.prog.info? 47).map (fun i => (i.zero, i.size, i.bytes)) = some (some (.agg #[.string ByteArray.empty, .string ByteArray.empty]), 2, 32) := by kernel_rfl
/-- 'append(v, x...)' of spans. -/
theorem append_sp {w : World} {v x : Value} {xs ys : List Sp} (h : Rk spE w 47 v xs) (hx : Rd spE w x ys) (hlen : xs.length ≤ 1000000) (hly : ys.length ≤ 1000000) :
  ∀ ty, ∃ v' w', (Builtin.append_ #[22, 22] ty #[v, x]).run Tryz.prog w = .ok v' w' ∧ PushT spE 47 w v (xs ++ ys) v' w' := by
 obtain ⟨i0, h1, h2, h3, h4⟩ := info_get infoSp
 exact append_rd spE w 22 47 i0 _ 32 Tryz.underlying22 h1 h2 h3 h4 rfl (by decide) v x xs ys h hx (by omega) (by omega)
/-- One span more. -/
theorem push_sp {w : World} {v : Value} {xs : List Sp} (s : Sp) (h : Rk spE w 47 v xs) (hlen : xs.length ≤ 1000000) :
  ∀ ty, ∃ v' w', (Builtin.append_ #[22, 22] ty #[v, .slice (some ⟨w.heap.size, 0, none⟩) 1 1]).run Tryz.prog (w.alloc (.cells #[.string (bk s.1), .string (bk s.2)] 47)) = .ok v' w' ∧ PushT spE 47 w v (xs ++ [s]) v' w' := by
 intro ty
 obtain ⟨hsz, hn0, hbb⟩ := one_box w (.cells #[.string (bk s.1), .string (bk s.2)] 47)
 have hx : Rd spE (w.alloc (.cells #[.string (bk s.1), .string (bk s.2)] 47)) (.slice (some ⟨w.heap.size, 0, none⟩) 1 1) [s] := (Rk.made (xs := [s]) hn0 rfl (by unfold maxLen; simp)).rd
 obtain ⟨v', w', h1, h2, h3, h4⟩ := append_sp (h.same fun k hk => hbb.block k (h.lt hk)) hx hlen (by simp) ty
 refine ⟨v', w', h1, h2, grown_of_below hbb h3, fun k hk => ?_⟩
 rcases h4 k hk with h' | h'
 ·exact .inl h'
 ·exact .inr (by omega)

/-- The same, in the walk's own words. -/
theorem push_at {w : World} {v : Value} {xs : List Sp} (s : Sp) {n : Nat} (hn : w.heap.size = n) (b1 b2 : ByteArray) (e1 : b1 = bk s.1) (e2 : b2 = bk s.2) (h : Rk spE w 47 v xs) (hlen : xs.length ≤ 1000000) :
  Hid (∀ ty, ∃ v' w', (Builtin.append_ #[22, 22] ty #[v, .slice (some ⟨n, 0, none⟩) 1 1]).run Tryz.prog (w.alloc (.cells #[.string b1, .string b2] 47)) = .ok v' w' ∧ PushT spE 47 w v (xs ++ [s]) v' w') := by
 subst hn e1 e2
 exact push_sp s h hlen

/-- A row of one's own, in blocks from n on. -/
def Own (n : Nat) (w : World) (v : Value) (l : List Sp) : Prop := Rk spE w 47 v l ∧ ∀ k, v.ownBlock = some k → n ≤ k
theorem Own.nil (n : Nat) (w : World) : Own n w (.slice none 0 0) [] := ⟨Rk.nil _ _ _, fun k hk => by cases hk⟩
theorem Own.below {n : Nat} {w w' : World} {v : Value} {l : List Sp} (h : Own n w v l) (hb : Below w.heap.size w w') : Own n w' v l := ⟨h.1.same fun k hk => hb.block k (h.1.lt hk), h.2⟩
theorem Own.push {n : Nat} {w w' : World} {v v' : Value} {l l' : List Sp} (h : Own n w v l) (hn : n ≤ w.heap.size) (hp : PushT spE 47 w v l' v' w') : Own n w' v' l' ∧ Below n w w' := by
 obtain ⟨h1, h2, h3⟩ := hp
 refine ⟨⟨h1, fun k hk => ?_⟩, grown_below h2 hn h.2⟩
 rcases h3 k hk with h' | h'
 ·exact h.2 k h'
 ·omega

end Go.Proofs.YtfpbgfmnjpamlaaGreat

