import Derived.Test.YtfpbgfmnjpamlaaGreatHv16
import Derived.Test.YtfpbgfmnjpamlaaGreatHv44
/- The document's Put and Set. -/
namespace Go.Proofs.YtfpbgfmnjpamlaaGreat
open Go.RowKit LeaseMath
set_option maxRecDepth 100000
set_option linter.unusedSimpArgs false
set_option linter.unusedVariables false

/-- One more behind a row: both what runs and what it leaves. -/
def Push (n0 : Nat) (w : World) (l' : List Hd) (v' : Value) (w' : World) : Prop := Ow holdE 59 n0 w' v' l' ∧ Below n0 w w'
theorem pushh_to {n0 : Nat} {w : World} {v : Value} {l l' : List Hd} (z : Hd) (hO : Ow holdE 59 n0 w v l) (hn : n0 ≤ w.heap.size) (hl : l.length ≤ 10000) (he : l' = l ++ [z]) :
  ∀ ty, ∃ v' w', (Builtin.append_ #[23, 23] ty #[v, .slice (some ⟨w.heap.size, 0, none⟩) 1 1]).run Tryz.prog (w.alloc (.cells #[.string (bk z.1), .int .u64 (z.2.1 : Int), .int .i64 z.2.2] 59)) = .ok v' w' ∧ Push n0 w l' v' w' := fun ty => by
 obtain ⟨v', w', h1, h2⟩ := push_hold z hO.1 (by omega) ty
 exact ⟨v', w', h1, by unfold Push; rw [he]; exact hO.push hn h2⟩

set_option maxHeartbeats 8000000 in
theorem rput_of (zs : List Hd) (lv : Value) (z : Hd) (K : Nat) (w : World) (hL : Rd holdE w lv zs) (hlen : zs.length ≤ 1024) (hPW : zs.Pairwise (fun a b => a.1 < b.1)) (hS : Plc zs z.1 K) : Calls Tryz.prog 49 #[lv, hv z] w fun e w' => (∃ v, e = .returned v ∧ Ow holdE 59 w.heap.size w' v (keptM zs K z)) ∧ Below w.heap.size w w' := by
 have HL : Hid (Rd holdE w lv zs) := hL
 obtain ⟨hs, hb0, cl⟩ := hd_box w z
 obtain ⟨q1, q2, q3⟩ := one_box (w.alloc (hc z)) (.cells #[] 59)
 have hsr : Hid (w.heap.size + 1 ≤ (w.alloc (hc z)).heap.size) := by show _ ≤ _; omega
 have hG0 : Ow holdE 59 (w.heap.size + 1) ((w.alloc (hc z)).alloc (.cells #[] 59)) (.slice (some ⟨(w.alloc (hc z)).heap.size, 0, none⟩) 0 0) (putTo zs K z 0) := ⟨Rk.made (xs := []) q2 rfl (by unfold maxLen; simp), fun k hk => by cases hk; exact hsr.out⟩
 have hb1 : Below (w.heap.size + 1) (w.alloc (hc z)) ((w.alloc (hc z)).alloc (.cells #[] 59)) := q3.mono hsr.out
 rw [hs] at hG0
 have HBW : Hid (∀ W, Below (w.heap.size + 1) (w.alloc (hc z)) W → Below w.heap.size w W) := fun W hW => hb0.trans (hW.mono (Nat.le_succ _))
 have HCB : Hid (∀ W, Below (w.heap.size + 1) (w.alloc (hc z)) W → W.cell? ⟨w.heap.size, 0, none⟩ = some (.string (bk z.1)) ∧ W.cell? ⟨w.heap.size, 1, none⟩ = some (.int .u64 (z.2.1 : Int)) ∧ W.cell? ⟨w.heap.size, 2, none⟩ = some (.int .i64 z.2.2)) := cl
 have HS : Hid (Plc zs z.1 K) := hS
 have hKl : K ≤ zs.length := hS.1
 have HPW : Hid (zs.Pairwise (fun a b => a.1 < b.1)) := hPW
 have HLN : Hid (∀ i, (putTo zs K z i).length ≤ 5000) := fun i => by have := putTo_len (l := zs) (k := K) (i := i) (s := z); omega
 obtain ⟨ao, cap, rfl, -, -⟩ := hL.shape
 obtain ⟨z', hz'⟩ : ∃ z', z' = z := ⟨_, rfl⟩
 obtain ⟨k, t, u⟩ := z
 dsimp only [hv, hc] at *
 clear hL cl hS hPW hb0 hs q1 q2 q3
 go_enter Tryz.func49, Tryz.ntmps49
 go_wp2
 generalize (w.alloc (.cells #[.string (bk k), .int .u64 (t : Int), .int .i64 u] 59)).alloc (.cells #[] 59) = w5 at *
 generalize w.alloc (.cells #[.string (bk k), .int .u64 (t : Int), .int .i64 u] 59) = w1 at *
 generalize HPT : putTo zs K (k, t, u) = PT at *
 go_loopg [5, 6, 7] zs.length (fun g s5 s6 s7 wr => ∃ (i : Nat) (st : Value), i + g = zs.length ∧ s7 = .int .i64 (i : Int) ∧ s6 = .bool (decide (K < i)) ∧ st = s5 ∧ Ow holdE 59 (w.heap.size + 1) wr st (PT i) ∧ Below (w.heap.size + 1) w1 wr)
 case atStart => exact ⟨0, _, by omega, rfl, by simp, rfl, hG0, hb1⟩
 case round =>
  obtain ⟨i, st, hig, rfl, rfl, rfl, hO, hb⟩ := hrel
  clear hG0 hb1
  have hln := HLN.out i
  obtain ⟨sa, sc, hst, -⟩ := hO.1.shape
  obtain ⟨e0, e1, e2⟩ := HCB.out _ hb
  by_cases hlt : i < zs.length
  ·have hlti : (i : Int) < (zs.length : Int) := by omega
   have hx : zs[i]? = some zs[i] := List.getElem?_eq_getElem hlt
   obtain ⟨y, hyy⟩ : ∃ y, y = zs[i] := ⟨_, rfl⟩
   rw [← hyy] at hx
   clear hyy
   obtain ⟨b, off, rfl, cc⟩ := rdh_at HL.out hx
   have HCZ : Hid (∀ W, Below (w.heap.size + 1) w1 W → W.cell? ⟨b, off + i * 3, none⟩ = some (.string (bk y.1)) ∧ W.cell? ⟨b, off + i * 3 + 1, none⟩ = some (.int .u64 (y.2.1 : Int)) ∧ W.cell? ⟨b, off + i * 3 + 2, none⟩ = some (.int .i64 y.2.2)) := fun W hW => cc W (HBW.out W hW)
   obtain ⟨c0, c1, c2⟩ := HCZ.out _ hb
   rcases Nat.lt_trichotomy i K with hiK | hiK | hiK
   ·have hyz : y.1 < k := HS.out.2.1 i y hiK hx
    have HEQ : Hid (PT (i + 1) = PT i ++ [y]) := by show _ = _; rw [← HPT]; exact put_low hiK hx
    have hd : decide (K < i) = false := decide_eq_false (by omega)
    have hd1 : decide (K < i + 1) = false := decide_eq_false (by omega)
    obtain ⟨yk, yt, yu⟩ := y
    dsimp only at *
    have g1 : ¬ k ≤ yk := by grind
    have g1d : decide (k ≤ yk) = false := decide_eq_false g1
    have g2 : ¬ yk = k := by grind
    have g2d : decide (yk = k) = false := decide_eq_false g2
    clear cc hx hyz HS HPW HPT HL
    rw [hd]
    subst hst
    generalize (PT i).length = cn at *
    go_wp2
    go_quiet (fail)
    have hb2 := below_drewN hb nq
    have hO2 := hO.below (below_drewN (Below.refl _ _) nq)
    obtain ⟨c0, c1, c2⟩ := HCZ.out _ hb2
    obtain ⟨e0, e1, e2⟩ := HCB.out _ hb2
    generalize wr.drewN nq = w2 at *
    clear hb hO
    go_wp2
    go_quiet (fail)
    have hb3 := below_drewN hb2 nq
    have hO3 := hO2.below (below_drewN (Below.refl _ _) nq)
    obtain ⟨c0, c1, c2⟩ := HCZ.out _ hb3
    generalize w2.drewN nq = w3 at *
    clear hb2 hO2
    have hrunH : Hid _ := pushh_to (yk, yt, yu) hO3 (Nat.le_trans hsr.out hb3.size) (Nat.le_trans (HLN.out i) (by decide)) HEQ.out
    dsimp only at hrunH
    clear hO3 HEQ
    go_wp2_with (at_builtin; refine wp_by rfl _ _ _ rfl _ _ rfl rfl hrunH.out ?_)
    intro v6 w6 hp6
    obtain ⟨hO6, hb6⟩ := hp6
    have hb06 := hb3.trans hb6
    clear hrunH hb6 hb3
    go_wp2
    go_roundg (gk - 1)
    case measure => omega
    case rel => exact ⟨i + 1, v6, by omega, by go_num, by rw [hd1], rfl, hO6, hb06⟩
   ·have hyz : k ≤ y.1 := HS.out.2.2 i y (Nat.le_of_eq hiK.symm) hx
    have hd : decide (K < i) = false := decide_eq_false (by omega)
    have hd1 : decide (K < i + 1) = true := decide_eq_true (by omega)
    obtain ⟨yk, yt, yu⟩ := y
    dsimp only at *
    have g1d : decide (k ≤ yk) = true := decide_eq_true hyz
    by_cases g2 : yk = k
    ·have HEQ : Hid (PT (i + 1) = PT i ++ [(k, t, u)]) := by show _ = _; rw [← HPT]; subst hiK; exact put_has hx g2
     have g2d : decide (yk = k) = true := decide_eq_true g2
     clear cc hx HS HPW HPT HL g2 hiK
     rw [hd]
     subst hst
     generalize (PT i).length = cn at *
     go_wp2
     go_quiet (fail)
     have hb2 := below_drewN hb nq
     have hO2 := hO.below (below_drewN (Below.refl _ _) nq)
     obtain ⟨c0, c1, c2⟩ := HCZ.out _ hb2
     obtain ⟨e0, e1, e2⟩ := HCB.out _ hb2
     generalize wr.drewN nq = w2 at *
     clear hb hO
     have hrunH : Hid _ := pushh_to (k, t, u) hO2 (Nat.le_trans hsr.out hb2.size) (Nat.le_trans (HLN.out i) (by decide)) HEQ.out
     dsimp only at hrunH
     clear hO2 HEQ
     go_wp2_with (at_builtin; refine wp_by rfl _ _ _ rfl _ _ rfl rfl hrunH.out ?_)
     intro v6 w6 hp6
     obtain ⟨hO6, hb6⟩ := hp6
     have hb06 := hb2.trans hb6
     clear hrunH hb6 hb2
     obtain ⟨c0, c1, c2⟩ := HCZ.out _ hb06
     obtain ⟨e0, e1, e2⟩ := HCB.out _ hb06
     go_wp2
     go_quiet (fail)
     have hb7 := below_drewN hb06 nq
     have hO7 := hO6.below (below_drewN (Below.refl _ _) nq)
     generalize w6.drewN nq = w7 at *
     clear hb06 hO6
     go_wp2
     go_roundg (gk - 1)
     case measure => omega
     case rel => exact ⟨i + 1, v6, by omega, by go_num, by rw [hd1], rfl, hO7, hb7⟩
    ·have HEQ : Hid (PT (i + 1) = (PT i ++ [(k, t, u)]) ++ [(yk, yt, yu)]) := by show _ = _; rw [← HPT]; subst hiK; exact put_not hx g2
     have g2d : decide (yk = k) = false := decide_eq_false g2
     clear cc hx HS HPW HPT HL hiK
     rw [hd]
     subst hst
     generalize hcn : (PT i).length = cn at *
     go_wp2
     go_quiet (fail)
     have hb2 := below_drewN hb nq
     have hO2 := hO.below (below_drewN (Below.refl _ _) nq)
     obtain ⟨c0, c1, c2⟩ := HCZ.out _ hb2
     obtain ⟨e0, e1, e2⟩ := HCB.out _ hb2
     generalize wr.drewN nq = w2 at *
     clear hb hO
     have hrunH : Hid _ := pushh_to (k, t, u) hO2 (Nat.le_trans hsr.out hb2.size) (Nat.le_trans (HLN.out i) (by decide)) rfl
     dsimp only at hrunH
     clear hO2
     go_wp2_with (at_builtin; refine wp_by rfl _ _ _ rfl _ _ rfl rfl hrunH.out ?_)
     intro v6 w6 hp6
     obtain ⟨hO6, hb6⟩ := hp6
     have hb06 := hb2.trans hb6
     clear hrunH hb6 hb2
     obtain ⟨c0, c1, c2⟩ := HCZ.out _ hb06
     obtain ⟨e0, e1, e2⟩ := HCB.out _ hb06
     obtain ⟨sa6, sc6, hst6, -⟩ := hO6.1.shape
     subst hst6
     go_wp2
     go_quiet (fail)
     have hb7 := below_drewN hb06 nq
     have hO7 := hO6.below (below_drewN (Below.refl _ _) nq)
     obtain ⟨c0, c1, c2⟩ := HCZ.out _ hb7
     generalize w6.drewN nq = w7 at *
     clear hb06 hO6
     have hrunH : Hid _ := pushh_to (yk, yt, yu) hO7 (Nat.le_trans hsr.out hb7.size) (by have := HLN.out i; rw [List.length_append, List.length_singleton]; omega) HEQ.out
     dsimp only at hrunH
     clear hO7 HEQ
     generalize (PT i ++ [(k, t, u)]).length = cm at *
     go_wp2_with (at_builtin; refine wp_by rfl _ _ _ rfl _ _ rfl rfl hrunH.out ?_)
     intro v8 w8 hp8
     obtain ⟨hO8, hb8⟩ := hp8
     have hb08 := hb7.trans hb8
     clear hrunH hb8 hb7
     go_wp2
     go_roundg (gk - 1)
     case measure => omega
     case rel => exact ⟨i + 1, v8, by omega, by go_num, by rw [hd1], rfl, hO8, hb08⟩
   ·have hyz : k < y.1 := plc_up HPW.out HS.out hiK hx
    have HEQ : Hid (PT (i + 1) = PT i ++ [y]) := by show _ = _; rw [← HPT]; exact put_up hiK hx
    have hd : decide (K < i) = true := decide_eq_true hiK
    have hd1 : decide (K < i + 1) = true := decide_eq_true (by omega)
    obtain ⟨yk, yt, yu⟩ := y
    dsimp only at *
    have g2 : ¬ yk = k := by grind
    have g2d : decide (yk = k) = false := decide_eq_false g2
    clear cc hx HS HPW HPT HL hyz
    rw [hd]
    subst hst
    generalize (PT i).length = cn at *
    go_wp2
    (try go_quiet (fail))
    have hb2 := below_drewN hb nq
    have hO2 := hO.below (below_drewN (Below.refl _ _) nq)
    obtain ⟨c0, c1, c2⟩ := HCZ.out _ hb2
    obtain ⟨e0, e1, e2⟩ := HCB.out _ hb2
    generalize wr.drewN nq = w2 at *
    clear hb hO
    go_wp2
    go_quiet (fail)
    have hb3 := below_drewN hb2 nq
    have hO3 := hO2.below (below_drewN (Below.refl _ _) nq)
    obtain ⟨c0, c1, c2⟩ := HCZ.out _ hb3
    generalize w2.drewN nq = w3 at *
    clear hb2 hO2
    have hrunH : Hid _ := pushh_to (yk, yt, yu) hO3 (Nat.le_trans hsr.out hb3.size) (Nat.le_trans (HLN.out i) (by decide)) HEQ.out
    dsimp only at hrunH
    clear hO3 HEQ
    go_wp2_with (at_builtin; refine wp_by rfl _ _ _ rfl _ _ rfl rfl hrunH.out ?_)
    intro v6 w6 hp6
    obtain ⟨hO6, hb6⟩ := hp6
    have hb06 := hb3.trans hb6
    clear hrunH hb6 hb3
    go_wp2
    go_roundg (gk - 1)
    case measure => omega
    case rel => exact ⟨i + 1, v6, by omega, by go_num, by rw [hd1], rfl, hO6, hb06⟩
  ·have hlti : ¬ (i : Int) < (zs.length : Int) := by omega
   obtain rfl : i = zs.length := by omega
   by_cases hKz : K < zs.length
   ·have hd : decide (K < zs.length) = true := decide_eq_true hKz
    have HF : Hid (Ow holdE 59 w.heap.size wr st (keptM zs K (k, t, u))) := by show Ow _ _ _ _ _ _; rw [← put_end hKz, HPT]; exact hO.mono (Nat.le_succ _)
    have hbF := HBW.out _ hb
    rw [hd]
    clear HL HS HPW HPT hO HLN hb HBW HCB
    generalize (PT zs.length).length = cn at *
    subst hst
    go_wp2
    go_ret
    exact ⟨⟨_, rfl, HF.out⟩, hbF⟩
   ·have hd : decide (K < zs.length) = false := decide_eq_false hKz
    obtain rfl : K = zs.length := by omega
    have HEQ : Hid (keptM zs zs.length (k, t, u) = PT zs.length ++ [(k, t, u)]) := by show _ = _; rw [← HPT]; exact put_all.symm
    have hrunH : Hid _ := pushh_to (k, t, u) hO (Nat.le_trans hsr.out hb.size) (Nat.le_trans (HLN.out zs.length) (by decide)) HEQ.out
    dsimp only at hrunH
    rw [hd]
    clear HL HS HPW HPT hO HLN
    generalize (PT zs.length).length = cn at *
    subst hst
    go_wp2_with (at_builtin; refine wp_by rfl _ _ _ rfl _ _ rfl rfl hrunH.out ?_)
    intro v6 w6 hp6
    obtain ⟨hO6, hb6⟩ := hp6
    have hb06 := HBW.out _ (hb.trans hb6)
    have HF : Hid _ := hO6.mono (Nat.le_succ _)
    clear hrunH hb6 hb hO6
    go_wp2
    go_ret
    exact ⟨⟨_, rfl, HF.out⟩, hb06⟩


end Go.Proofs.YtfpbgfmnjpamlaaGreat

