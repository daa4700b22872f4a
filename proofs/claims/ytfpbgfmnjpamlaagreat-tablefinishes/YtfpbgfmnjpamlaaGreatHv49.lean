import Derived.Test.YtfpbgfmnjpamlaaGreatHv25
import Derived.Test.YtfpbgfmnjpamlaaGreatHv45
/- The document's Mark. -/
namespace Go.Proofs.YtfpbgfmnjpamlaaGreat
open Go.RowKit LeaseMath
set_option maxRecDepth 100000
set_option linter.unusedSimpArgs false
set_option linter.unusedVariables false

def Pusm (n0 : Nat) (w : World) (l' : List Mk) (v' : Value) (w' : World) : Prop := Ow markE 61 n0 w' v' l' ∧ Below n0 w w'
theorem pushm_to {n0 : Nat} {w : World} {v : Value} {l l' : List Mk} (z : Mk) (hO : Ow markE 61 n0 w v l) (hn : n0 ≤ w.heap.size) (hl : l.length ≤ 10000) (he : l' = l ++ [z]) :
  ∀ ty, ∃ v' w', (Builtin.append_ #[24, 24] ty #[v, .slice (some ⟨w.heap.size, 0, none⟩) 1 1]).run Tryz.prog (w.alloc (.cells #[.string (bk z.1), .int .u64 (z.2 : Int)] 61)) = .ok v' w' ∧ Pusm n0 w l' v' w' := fun ty => by
 obtain ⟨v', w', h1, h2⟩ := push_mark z hO.1 (by omega) ty
 exact ⟨v', w', h1, by unfold Pusm; rw [he]; exact hO.push hn h2⟩
set_option maxHeartbeats 8000000 in
theorem rmark_up (zs : List Mk) (ao : Option Addr) (cap : Nat) (c : K) (t : Nat) (K : Nat) (w : World) (hL : Rd markE w (.slice ao zs.length cap) zs) (hm : mayB markB zs = true) (ho : markB (c, t) = true) (hS : Plc zs c K) (hla : t < lastM zs c) : Calls Tryz.prog 52 #[.slice ao zs.length cap, .string (bk c), .int .u64 (t : Int)] w fun e w' => PutT markE 61 w.heap.size (markM zs K c t) e w' ∧ Below w.heap.size w w' := by
 obtain ⟨T, HT⟩ : ∃ T, Hid (T = PutT markE 61 w.heap.size (markM zs K c t)) := ⟨_, rfl⟩
 rw [← HT.out]
 have kc := rmarks_of zs _ w hL
 rw [hm] at kc
 obtain ⟨hlen, -, hpw⟩ := may_iff.1 hm
 have kl : ∀ W, Below w.heap.size w W → _ := fun W hW => rlast_of zs _ c W (hL.below hW) (by omega)
 obtain ⟨ho1, ho2⟩ := mark_iff.1 ho
 dsimp only at ho1 ho2
 have hoi : ¬ (64 : Int) < (c.length : Int) := by omega
 have hod : decide ((64 : Int) < (c.length : Int)) = false := decide_eq_false hoi
 have hti : ¬ (t : Int) = 0 := by omega
 have htb : ((t : Int) == 0) = false := by simpa using ho2
 obtain ⟨m, HMX⟩ : ∃ m : Nat, Hid (m = max t (lastM zs c)) := ⟨_, rfl⟩
 have E1 : Hid (∀ W, ¬ (keptM zs K (c, m)).length ≤ 1024 → T (.returned (.tuple #[.slice none 0 0, .int .i64 2])) W) := fun W h => by
  rw [HT.out, show markM zs K c t = ([], 2) by unfold markM; rw [hm, ho, ← HMX.out]; exact if_neg h]
  exact ⟨_, rfl, Ow.nil _ _ _ _⟩
 have E2 : Hid (∀ v W n, (keptM zs K (c, m)).length ≤ 1024 → w.heap.size ≤ n → Ow markE 61 n W v (keptM zs K (c, m)) → T (.returned (.tuple #[v, .int .i64 0])) W) := fun v W n h hn hO => by
  rw [HT.out, show markM zs K c t = (keptM zs K (c, m), 0) by unfold markM; rw [hm, ho, ← HMX.out]; exact if_pos h]
  exact ⟨v, rfl, hO.mono hn⟩
 have HL : Hid (Rd markE w (.slice ao zs.length cap) zs) := hL
 have HS : Hid (Plc zs c K) := hS
 have hKl : K ≤ zs.length := hS.1
 have HPW : Hid (zs.Pairwise (fun a b => a.1 < b.1)) := hpw
 have HLN : Hid (∀ i, (putTo zs K (c, m) i).length ≤ 5000) := fun i => by have := putTo_len (l := zs) (k := K) (i := i) (s := (c, m)); omega
 have hmx : m = lastM zs c := by rw [HMX.out, Nat.max_eq_right (Nat.le_of_lt hla)]
 subst hmx
 generalize hl9 : lastM zs c = m at *
 have hlai : (t : Int) < (m : Int) := by omega
 clear hl9
 clear HT hm ho hS hpw hL ho1 ho2 HMX
 go_enter Tryz.func52, Tryz.ntmps52
 go_wp2_with fail
 refine kc.mono ?_
 rintro e w1 ⟨rfl, hb1⟩
 obtain ⟨q1, q2, q3⟩ := one_box w1 (.cells #[.string (bk c), .int .u64 (t : Int)] 61)
 have hbq := keep_step hb1 (Nat.le_refl _) q3
 have kl1 := kl _ hbq
 clear kc
 go_wp2_with fail
 refine kl1.mono ?_
 rintro e w2 ⟨rfl, hw2⟩
 subst hw2
 clear kl1
 have kl2 := kl _ hbq
 go_wp2_with fail
 refine kl2.mono ?_
 rintro e w3 ⟨rfl, hw3⟩
 subst hw3
 clear kl2
 obtain ⟨w2, hw2⟩ : ∃ w2, w2 = w1 := ⟨_, rfl⟩
 subst hw2
 obtain ⟨p1, p2, p3⟩ := one_box w2 (.cells #[.string (bk c), .int .u64 (m : Int)] 61)
 obtain ⟨r1, r2, r3⟩ := one_box (w2.alloc (.cells #[.string (bk c), .int .u64 (m : Int)] 61)) (.cells #[] 61)
 have hsr : Hid (w2.heap.size + 1 ≤ (w2.alloc (.cells #[.string (bk c), .int .u64 (m : Int)] 61)).heap.size) := by show _ ≤ _; omega
 have hG0 : Ow markE 61 (w2.heap.size + 1) ((w2.alloc (.cells #[.string (bk c), .int .u64 (m : Int)] 61)).alloc (.cells #[] 61)) (.slice (some ⟨(w2.alloc (.cells #[.string (bk c), .int .u64 (m : Int)] 61)).heap.size, 0, none⟩) 0 0) (putTo zs K (c, m) 0) := ⟨Rk.made (xs := []) r2 rfl (by unfold maxLen; simp), fun k hk => by cases hk; exact hsr.out⟩
 rw [p1] at hG0
 have hb3 : Below (w2.heap.size + 1) (w2.alloc (.cells #[.string (bk c), .int .u64 (m : Int)] 61)) ((w2.alloc (.cells #[.string (bk c), .int .u64 (m : Int)] 61)).alloc (.cells #[] 61)) := r3.mono hsr.out
 have HBW : Hid (∀ W, Below (w2.heap.size + 1) (w2.alloc (.cells #[.string (bk c), .int .u64 (m : Int)] 61)) W → Below w.heap.size w W) := fun W hW => (keep_step hb1 (Nat.le_refl _) p3).trans (hW.mono (Nat.le_trans hb1.size (Nat.le_succ _)))
 have HCB : Hid (∀ W, Below (w2.heap.size + 1) (w2.alloc (.cells #[.string (bk c), .int .u64 (m : Int)] 61)) W → W.cell? ⟨w2.heap.size, 0, none⟩ = some (.string (bk c)) ∧ W.cell? ⟨w2.heap.size, 1, none⟩ = some (.int .u64 (m : Int))) := fun W hW => (m_cells ((hW.block w2.heap.size (Nat.lt_succ_self _)).trans p2)).2
 have hn2 : Hid (w.heap.size ≤ w2.heap.size + 1) := Nat.le_trans hb1.size (Nat.le_succ _)
 clear p1 p2 p3 r1 r2 r3 q1 q2 q3 hbq hb1 kl
 go_wp2
 generalize (w2.alloc (.cells #[.string (bk c), .int .u64 (m : Int)] 61)).alloc (.cells #[] 61) = w5 at *
 generalize w2.alloc (.cells #[.string (bk c), .int .u64 (m : Int)] 61) = w4 at *
 generalize w2.heap.size = n2 at *
 generalize HPT : putTo zs K (c, m) = PT at *
 go_loopg [9, 10, 11] zs.length (fun g s9 s10 s11 wr => ∃ (i : Nat) (st : Value), i + g = zs.length ∧ s11 = .int .i64 (i : Int) ∧ s10 = .bool (decide (K < i)) ∧ st = s9 ∧ Ow markE 61 (n2 + 1) wr st (PT i) ∧ Below (n2 + 1) w4 wr)
 case atStart => exact ⟨0, _, by omega, rfl, by simp, rfl, hG0, hb3⟩
 case round =>
  obtain ⟨i, st, hig, rfl, rfl, rfl, hO, hb⟩ := hrel
  clear hG0 hb3
  have hln := HLN.out i
  obtain ⟨sa, sc, hst, -⟩ := hO.1.shape
  obtain ⟨e0, e1⟩ := HCB.out _ hb
  by_cases hlt : i < zs.length
  ·have hlti : (i : Int) < (zs.length : Int) := by omega
   have hx : zs[i]? = some zs[i] := List.getElem?_eq_getElem hlt
   obtain ⟨y, hyy⟩ : ∃ y, y = zs[i] := ⟨_, rfl⟩
   rw [← hyy] at hx
   clear hyy
   obtain ⟨b, off, rfl, cc⟩ := rdm_at HL.out hx
   have HCZ : Hid (∀ W, Below (n2 + 1) w4 W → W.cell? ⟨b, off + i * 2, none⟩ = some (.string (bk y.1)) ∧ W.cell? ⟨b, off + i * 2 + 1, none⟩ = some (.int .u64 (y.2 : Int))) := fun W hW => cc W (HBW.out W hW)
   obtain ⟨c0, c1⟩ := HCZ.out _ hb
   rcases Nat.lt_trichotomy i K with hiK | hiK | hiK
   ·have hyz : y.1 < c := HS.out.2.1 i y hiK hx
    have HEQ : Hid (PT (i + 1) = PT i ++ [y]) := by show _ = _; rw [← HPT]; exact put_low hiK hx
    have hd : decide (K < i) = false := decide_eq_false (by omega)
    have hd1 : decide (K < i + 1) = false := decide_eq_false (by omega)
    have hrunH : Hid _ := pushm_to y hO (Nat.le_trans hsr.out hb.size) (Nat.le_trans (HLN.out i) (by decide)) HEQ.out
    obtain ⟨yk, yt⟩ := y
    dsimp only at *
    have g1 : ¬ c ≤ yk := by grind
    have g1d : decide (c ≤ yk) = false := decide_eq_false g1
    have g2 : ¬ yk = c := by grind
    have g2d : decide (yk = c) = false := decide_eq_false g2
    clear cc hx hyz HS HPW HPT HL hO HEQ E1 E2
    rw [hd]
    subst hst
    generalize (PT i).length = cn at *
    go_wp2_with (at_builtin; refine wp_by rfl _ _ _ rfl _ _ rfl rfl hrunH.out ?_)
    intro v6 w6 hp6
    obtain ⟨hO6, hb6⟩ := hp6
    have hb06 := hb.trans hb6
    clear hrunH hb6 hb
    go_wp2
    go_roundg (gk - 1)
    case measure => omega
    case rel => exact ⟨i + 1, v6, by omega, by go_num, by rw [hd1], rfl, hO6, hb06⟩
   ·have hyz : c ≤ y.1 := HS.out.2.2 i y (Nat.le_of_eq hiK.symm) hx
    have hd : decide (K < i) = false := decide_eq_false (by omega)
    have hd1 : decide (K < i + 1) = true := decide_eq_true (by omega)
    obtain ⟨yk, yt⟩ := y
    dsimp only at *
    have g1d : decide (c ≤ yk) = true := decide_eq_true hyz
    by_cases g2 : yk = c
    ·have HEQ : Hid (PT (i + 1) = PT i ++ [(c, m)]) := by show _ = _; rw [← HPT]; subst hiK; exact put_has hx g2
     have g2d : decide (yk = c) = true := decide_eq_true g2
     have hrunH : Hid _ := pushm_to (c, m) hO (Nat.le_trans hsr.out hb.size) (Nat.le_trans (HLN.out i) (by decide)) HEQ.out
     dsimp only at hrunH
     clear cc hx HS HPW HPT HL g2 hiK hO HEQ E1 E2
     rw [hd]
     subst hst
     generalize (PT i).length = cn at *
     go_wp2_with (at_builtin; refine wp_by rfl _ _ _ rfl _ _ rfl rfl hrunH.out ?_)
     intro v6 w6 hp6
     obtain ⟨hO6, hb6⟩ := hp6
     have hb06 := hb.trans hb6
     clear hrunH hb6 hb c0 c1 e0 e1
     obtain ⟨c0, c1⟩ := HCZ.out _ hb06
     go_wp2
     go_roundg (gk - 1)
     case measure => omega
     case rel => exact ⟨i + 1, v6, by omega, by go_num, by rw [hd1], rfl, hO6, hb06⟩
    ·have HEQ : Hid (PT (i + 1) = (PT i ++ [(c, m)]) ++ [(yk, yt)]) := by show _ = _; rw [← HPT]; subst hiK; exact put_not hx g2
     have g2d : decide (yk = c) = false := decide_eq_false g2
     have hrunH : Hid _ := pushm_to (c, m) hO (Nat.le_trans hsr.out hb.size) (Nat.le_trans (HLN.out i) (by decide)) rfl
     dsimp only at hrunH
     clear cc hx HS HPW HPT HL hiK hO E1 E2
     rw [hd]
     subst hst
     generalize hcn : (PT i).length = cn at *
     go_wp2_with (at_builtin; refine wp_by rfl _ _ _ rfl _ _ rfl rfl hrunH.out ?_)
     intro v6 w6 hp6
     obtain ⟨hO6, hb6⟩ := hp6
     have hb06 := hb.trans hb6
     clear hrunH hb6 hb c0 c1 e0 e1
     obtain ⟨c0, c1⟩ := HCZ.out _ hb06
     have hrunH : Hid _ := pushm_to (yk, yt) hO6 (Nat.le_trans hsr.out hb06.size) (by have := HLN.out i; rw [List.length_append, List.length_singleton]; omega) HEQ.out
     dsimp only at hrunH
     obtain ⟨sa6, sc6, hst6, -⟩ := hO6.1.shape
     subst hst6
     clear hO6 HEQ
     generalize (PT i ++ [(c, m)]).length = cm at *
     go_wp2_with (at_builtin; refine wp_by rfl _ _ _ rfl _ _ rfl rfl hrunH.out ?_)
     intro v8 w8 hp8
     obtain ⟨hO8, hb8⟩ := hp8
     have hb08 := hb06.trans hb8
     clear hrunH hb8 hb06
     go_wp2
     go_roundg (gk - 1)
     case measure => omega
     case rel => exact ⟨i + 1, v8, by omega, by go_num, by rw [hd1], rfl, hO8, hb08⟩
   ·have hyz : c < y.1 := plc_up HPW.out HS.out hiK hx
    have HEQ : Hid (PT (i + 1) = PT i ++ [y]) := by show _ = _; rw [← HPT]; exact put_up hiK hx
    have hd : decide (K < i) = true := decide_eq_true hiK
    have hd1 : decide (K < i + 1) = true := decide_eq_true (by omega)
    have hrunH : Hid _ := pushm_to y hO (Nat.le_trans hsr.out hb.size) (Nat.le_trans (HLN.out i) (by decide)) HEQ.out
    obtain ⟨yk, yt⟩ := y
    dsimp only at *
    have g2 : ¬ yk = c := by grind
    have g2d : decide (yk = c) = false := decide_eq_false g2
    clear cc hx HS HPW HPT HL hyz hO HEQ E1 E2
    rw [hd]
    subst hst
    generalize (PT i).length = cn at *
    go_wp2_with (at_builtin; refine wp_by rfl _ _ _ rfl _ _ rfl rfl hrunH.out ?_)
    intro v6 w6 hp6
    obtain ⟨hO6, hb6⟩ := hp6
    have hb06 := hb.trans hb6
    clear hrunH hb6 hb
    go_wp2
    go_roundg (gk - 1)
    case measure => omega
    case rel => exact ⟨i + 1, v6, by omega, by go_num, by rw [hd1], rfl, hO6, hb06⟩
  ·have hlti : ¬ (i : Int) < (zs.length : Int) := by omega
   obtain rfl : i = zs.length := by omega
   by_cases hKz : K < zs.length
   ·have hd : decide (K < zs.length) = true := decide_eq_true hKz
    have HF0 : Ow markE 61 (n2 + 1) wr st (keptM zs K (c, m)) := by rw [← put_end hKz, HPT]; exact hO
    have hlm : (PT zs.length).length = (keptM zs K (c, m)).length := by rw [← put_end hKz, HPT]
    have hbF := HBW.out _ hb
    rw [hlm] at hst
    rw [hd]
    by_cases hml : (keptM zs K (c, m)).length ≤ 1024
    ·have HF : Hid _ := E2.out st wr _ hml hn2.out HF0
     have hmi : ¬ (1024 : Int) < ((keptM zs K (c, m)).length : Int) := by omega
     clear HL HS HPW HPT hO HLN hb HBW HCB E1 E2 HF0 hlm
     subst hst
     generalize (keptM zs K (c, m)).length = ml at *
     go_wp2
     go_ret2
     exact ⟨HF.out, hbF⟩
    ·have HF : Hid _ := E1.out wr hml
     have hmi : (1024 : Int) < ((keptM zs K (c, m)).length : Int) := by omega
     clear HL HS HPW HPT hO HLN hb HBW HCB E1 E2 HF0 hlm
     subst hst
     generalize (keptM zs K (c, m)).length = ml at *
     go_wp2
     go_ret2
     exact ⟨HF.out, hbF⟩
   ·have hd : decide (K < zs.length) = false := decide_eq_false hKz
    obtain rfl : K = zs.length := by omega
    have HEQ : Hid (keptM zs zs.length (c, m) = PT zs.length ++ [(c, m)]) := by show _ = _; rw [← HPT]; exact put_all.symm
    have hrunH : Hid _ := pushm_to (c, m) hO (Nat.le_trans hsr.out hb.size) (Nat.le_trans (HLN.out zs.length) (by decide)) HEQ.out
    dsimp only at hrunH
    rw [hd]
    clear HL HS HPW HPT hO HLN
    generalize (PT zs.length).length = cn at *
    subst hst
    go_wp2_with (at_builtin; refine wp_by rfl _ _ _ rfl _ _ rfl rfl hrunH.out ?_)
    intro v6 w6 hp6
    obtain ⟨hO6, hb6⟩ := hp6
    have hb06 := HBW.out _ (hb.trans hb6)
    obtain ⟨sa6, sc6, hst6, -⟩ := hO6.1.shape
    by_cases hml : (keptM zs zs.length (c, m)).length ≤ 1024
    ·have HF : Hid _ := E2.out v6 w6 _ hml hn2.out hO6
     have hmi : ¬ (1024 : Int) < ((keptM zs zs.length (c, m)).length : Int) := by omega
     clear hrunH hb6 hb hO6 E1 E2 HEQ
     subst hst6
     generalize (keptM zs zs.length (c, m)).length = ml at *
     go_wp2
     go_ret2
     exact ⟨HF.out, hb06⟩
    ·have HF : Hid _ := E1.out w6 hml
     have hmi : (1024 : Int) < ((keptM zs zs.length (c, m)).length : Int) := by omega
     clear hrunH hb6 hb hO6 E1 E2 HEQ
     subst hst6
     generalize (keptM zs zs.length (c, m)).length = ml at *
     go_wp2
     go_ret2
     exact ⟨HF.out, hb06⟩
end Go.Proofs.YtfpbgfmnjpamlaaGreat

/- The document's Mark, where the key's token is not above. -/
namespace Go.Proofs.YtfpbgfmnjpamlaaGreat
open Go.RowKit LeaseMath
set_option maxRecDepth 100000
set_option linter.unusedSimpArgs false
set_option linter.unusedVariables false
set_option maxHeartbeats 8000000 in
theorem rmark_low (zs : List Mk) (ao : Option Addr) (cap : Nat) (c : K) (t : Nat) (K : Nat) (w : World) (hL : Rd markE w (.slice ao zs.length cap) zs) (hm : mayB markB zs = true) (ho : markB (c, t) = true) (hS : Plc zs c K) (hla : lastM zs c ≤ t) : Calls Tryz.prog 52 #[.slice ao zs.length cap, .string (bk c), .int .u64 (t : Int)] w fun e w' => PutT markE 61 w.heap.size (markM zs K c t) e w' ∧ Below w.heap.size w w' := by
 obtain ⟨T, HT⟩ : ∃ T, Hid (T = PutT markE 61 w.heap.size (markM zs K c t)) := ⟨_, rfl⟩
 rw [← HT.out]
 have kc := rmarks_of zs _ w hL
 rw [hm] at kc
 obtain ⟨hlen, -, hpw⟩ := may_iff.1 hm
 have kl : ∀ W, Below w.heap.size w W → _ := fun W hW => rlast_of zs _ c W (hL.below hW) (by omega)
 obtain ⟨ho1, ho2⟩ := mark_iff.1 ho
 dsimp only at ho1 ho2
 have hoi : ¬ (64 : Int) < (c.length : Int) := by omega
 have hod : decide ((64 : Int) < (c.length : Int)) = false := decide_eq_false hoi
 have hti : ¬ (t : Int) = 0 := by omega
 have htb : ((t : Int) == 0) = false := by simpa using ho2
 obtain ⟨m, HMX⟩ : ∃ m : Nat, Hid (m = max t (lastM zs c)) := ⟨_, rfl⟩
 have E1 : Hid (∀ W, ¬ (keptM zs K (c, m)).length ≤ 1024 → T (.returned (.tuple #[.slice none 0 0, .int .i64 2])) W) := fun W h => by
  rw [HT.out, show markM zs K c t = ([], 2) by unfold markM; rw [hm, ho, ← HMX.out]; exact if_neg h]
  exact ⟨_, rfl, Ow.nil _ _ _ _⟩
 have E2 : Hid (∀ v W n, (keptM zs K (c, m)).length ≤ 1024 → w.heap.size ≤ n → Ow markE 61 n W v (keptM zs K (c, m)) → T (.returned (.tuple #[v, .int .i64 0])) W) := fun v W n h hn hO => by
  rw [HT.out, show markM zs K c t = (keptM zs K (c, m), 0) by unfold markM; rw [hm, ho, ← HMX.out]; exact if_pos h]
  exact ⟨v, rfl, hO.mono hn⟩
 have HL : Hid (Rd markE w (.slice ao zs.length cap) zs) := hL
 have HS : Hid (Plc zs c K) := hS
 have hKl : K ≤ zs.length := hS.1
 have HPW : Hid (zs.Pairwise (fun a b => a.1 < b.1)) := hpw
 have HLN : Hid (∀ i, (putTo zs K (c, m) i).length ≤ 5000) := fun i => by have := putTo_len (l := zs) (k := K) (i := i) (s := (c, m)); omega
 have hmx : m = t := by rw [HMX.out, Nat.max_eq_left hla]
 subst hmx
 generalize lastM zs c = la at *
 have hlai : ¬ (m : Int) < (la : Int) := by omega
 have hlad : decide ((m : Int) < (la : Int)) = false := decide_eq_false hlai
 have hlan : ¬ m < la := by omega
 have hland : decide (m < la) = false := decide_eq_false hlan
 clear HT hm ho hS hpw hL ho1 ho2 HMX
 go_enter Tryz.func52, Tryz.ntmps52
 go_wp2_with fail
 refine kc.mono ?_
 rintro e w1 ⟨rfl, hb1⟩
 obtain ⟨q1, q2, q3⟩ := one_box w1 (.cells #[.string (bk c), .int .u64 (m : Int)] 61)
 have hbq := keep_step hb1 (Nat.le_refl _) q3
 have kl1 := kl _ hbq
 clear kc
 go_wp2_with fail
 refine kl1.mono ?_
 rintro e w2 ⟨rfl, hw2⟩
 subst hw2
 clear kl1
 obtain ⟨w2, hw2⟩ : ∃ w2, w2 = w1 := ⟨_, rfl⟩
 subst hw2
 obtain ⟨p1, p2, p3⟩ := one_box w2 (.cells #[.string (bk c), .int .u64 (m : Int)] 61)
 obtain ⟨r1, r2, r3⟩ := one_box (w2.alloc (.cells #[.string (bk c), .int .u64 (m : Int)] 61)) (.cells #[] 61)
 have hsr : Hid (w2.heap.size + 1 ≤ (w2.alloc (.cells #[.string (bk c), .int .u64 (m : Int)] 61)).heap.size) := by show _ ≤ _; omega
 have hG0 : Ow markE 61 (w2.heap.size + 1) ((w2.alloc (.cells #[.string (bk c), .int .u64 (m : Int)] 61)).alloc (.cells #[] 61)) (.slice (some ⟨(w2.alloc (.cells #[.string (bk c), .int .u64 (m : Int)] 61)).heap.size, 0, none⟩) 0 0) (putTo zs K (c, m) 0) := ⟨Rk.made (xs := []) r2 rfl (by unfold maxLen; simp), fun k hk => by cases hk; exact hsr.out⟩
 rw [p1] at hG0
 have hb3 : Below (w2.heap.size + 1) (w2.alloc (.cells #[.string (bk c), .int .u64 (m : Int)] 61)) ((w2.alloc (.cells #[.string (bk c), .int .u64 (m : Int)] 61)).alloc (.cells #[] 61)) := r3.mono hsr.out
 have HBW : Hid (∀ W, Below (w2.heap.size + 1) (w2.alloc (.cells #[.string (bk c), .int .u64 (m : Int)] 61)) W → Below w.heap.size w W) := fun W hW => (keep_step hb1 (Nat.le_refl _) p3).trans (hW.mono (Nat.le_trans hb1.size (Nat.le_succ _)))
 have HCB : Hid (∀ W, Below (w2.heap.size + 1) (w2.alloc (.cells #[.string (bk c), .int .u64 (m : Int)] 61)) W → W.cell? ⟨w2.heap.size, 0, none⟩ = some (.string (bk c)) ∧ W.cell? ⟨w2.heap.size, 1, none⟩ = some (.int .u64 (m : Int))) := fun W hW => (m_cells ((hW.block w2.heap.size (Nat.lt_succ_self _)).trans p2)).2
 have hn2 : Hid (w.heap.size ≤ w2.heap.size + 1) := Nat.le_trans hb1.size (Nat.le_succ _)
 clear p1 p2 p3 r1 r2 r3 q1 q2 q3 hbq hb1 kl
 go_wp2
 generalize (w2.alloc (.cells #[.string (bk c), .int .u64 (m : Int)] 61)).alloc (.cells #[] 61) = w5 at *
 generalize w2.alloc (.cells #[.string (bk c), .int .u64 (m : Int)] 61) = w4 at *
 generalize w2.heap.size = n2 at *
 generalize HPT : putTo zs K (c, m) = PT at *
 go_loopg [9, 10, 11] zs.length (fun g s9 s10 s11 wr => ∃ (i : Nat) (st : Value), i + g = zs.length ∧ s11 = .int .i64 (i : Int) ∧ s10 = .bool (decide (K < i)) ∧ st = s9 ∧ Ow markE 61 (n2 + 1) wr st (PT i) ∧ Below (n2 + 1) w4 wr)
 case atStart => exact ⟨0, _, by omega, rfl, by simp, rfl, hG0, hb3⟩
 case round =>
  obtain ⟨i, st, hig, rfl, rfl, rfl, hO, hb⟩ := hrel
  clear hG0 hb3
  have hln := HLN.out i
  obtain ⟨sa, sc, hst, -⟩ := hO.1.shape
  obtain ⟨e0, e1⟩ := HCB.out _ hb
  by_cases hlt : i < zs.length
  ·have hlti : (i : Int) < (zs.length : Int) := by omega
   have hx : zs[i]? = some zs[i] := List.getElem?_eq_getElem hlt
   obtain ⟨y, hyy⟩ : ∃ y, y = zs[i] := ⟨_, rfl⟩
   rw [← hyy] at hx
   clear hyy
   obtain ⟨b, off, rfl, cc⟩ := rdm_at HL.out hx
   have HCZ : Hid (∀ W, Below (n2 + 1) w4 W → W.cell? ⟨b, off + i * 2, none⟩ = some (.string (bk y.1)) ∧ W.cell? ⟨b, off + i * 2 + 1, none⟩ = some (.int .u64 (y.2 : Int))) := fun W hW => cc W (HBW.out W hW)
   obtain ⟨c0, c1⟩ := HCZ.out _ hb
   rcases Nat.lt_trichotomy i K with hiK | hiK | hiK
   ·have hyz : y.1 < c := HS.out.2.1 i y hiK hx
    have HEQ : Hid (PT (i + 1) = PT i ++ [y]) := by show _ = _; rw [← HPT]; exact put_low hiK hx
    have hd : decide (K < i) = false := decide_eq_false (by omega)
    have hd1 : decide (K < i + 1) = false := decide_eq_false (by omega)
    have hrunH : Hid _ := pushm_to y hO (Nat.le_trans hsr.out hb.size) (Nat.le_trans (HLN.out i) (by decide)) HEQ.out
    obtain ⟨yk, yt⟩ := y
    dsimp only at *
    have g1 : ¬ c ≤ yk := by grind
    have g1d : decide (c ≤ yk) = false := decide_eq_false g1
    have g2 : ¬ yk = c := by grind
    have g2d : decide (yk = c) = false := decide_eq_false g2
    clear cc hx hyz HS HPW HPT HL hO HEQ E1 E2
    rw [hd]
    subst hst
    generalize (PT i).length = cn at *
    go_wp2_with (at_builtin; refine wp_by rfl _ _ _ rfl _ _ rfl rfl hrunH.out ?_)
    intro v6 w6 hp6
    obtain ⟨hO6, hb6⟩ := hp6
    have hb06 := hb.trans hb6
    clear hrunH hb6 hb
    go_wp2
    go_roundg (gk - 1)
    case measure => omega
    case rel => exact ⟨i + 1, v6, by omega, by go_num, by rw [hd1], rfl, hO6, hb06⟩
   ·have hyz : c ≤ y.1 := HS.out.2.2 i y (Nat.le_of_eq hiK.symm) hx
    have hd : decide (K < i) = false := decide_eq_false (by omega)
    have hd1 : decide (K < i + 1) = true := decide_eq_true (by omega)
    obtain ⟨yk, yt⟩ := y
    dsimp only at *
    have g1d : decide (c ≤ yk) = true := decide_eq_true hyz
    by_cases g2 : yk = c
    ·have HEQ : Hid (PT (i + 1) = PT i ++ [(c, m)]) := by show _ = _; rw [← HPT]; subst hiK; exact put_has hx g2
     have g2d : decide (yk = c) = true := decide_eq_true g2
     have hrunH : Hid _ := pushm_to (c, m) hO (Nat.le_trans hsr.out hb.size) (Nat.le_trans (HLN.out i) (by decide)) HEQ.out
     dsimp only at hrunH
     clear cc hx HS HPW HPT HL g2 hiK hO HEQ E1 E2
     rw [hd]
     subst hst
     generalize (PT i).length = cn at *
     go_wp2_with (at_builtin; refine wp_by rfl _ _ _ rfl _ _ rfl rfl hrunH.out ?_)
     intro v6 w6 hp6
     obtain ⟨hO6, hb6⟩ := hp6
     have hb06 := hb.trans hb6
     clear hrunH hb6 hb c0 c1 e0 e1
     obtain ⟨c0, c1⟩ := HCZ.out _ hb06
     go_wp2
     go_roundg (gk - 1)
     case measure => omega
     case rel => exact ⟨i + 1, v6, by omega, by go_num, by rw [hd1], rfl, hO6, hb06⟩
    ·have HEQ : Hid (PT (i + 1) = (PT i ++ [(c, m)]) ++ [(yk, yt)]) := by show _ = _; rw [← HPT]; subst hiK; exact put_not hx g2
     have g2d : decide (yk = c) = false := decide_eq_false g2
     have hrunH : Hid _ := pushm_to (c, m) hO (Nat.le_trans hsr.out hb.size) (Nat.le_trans (HLN.out i) (by decide)) rfl
     dsimp only at hrunH
     clear cc hx HS HPW HPT HL hiK hO E1 E2
     rw [hd]
     subst hst
     generalize hcn : (PT i).length = cn at *
     go_wp2_with (at_builtin; refine wp_by rfl _ _ _ rfl _ _ rfl rfl hrunH.out ?_)
     intro v6 w6 hp6
     obtain ⟨hO6, hb6⟩ := hp6
     have hb06 := hb.trans hb6
     clear hrunH hb6 hb c0 c1 e0 e1
     obtain ⟨c0, c1⟩ := HCZ.out _ hb06
     have hrunH : Hid _ := pushm_to (yk, yt) hO6 (Nat.le_trans hsr.out hb06.size) (by have := HLN.out i; rw [List.length_append, List.length_singleton]; omega) HEQ.out
     dsimp only at hrunH
     obtain ⟨sa6, sc6, hst6, -⟩ := hO6.1.shape
     subst hst6
     clear hO6 HEQ
     generalize (PT i ++ [(c, m)]).length = cm at *
     go_wp2_with (at_builtin; refine wp_by rfl _ _ _ rfl _ _ rfl rfl hrunH.out ?_)
     intro v8 w8 hp8
     obtain ⟨hO8, hb8⟩ := hp8
     have hb08 := hb06.trans hb8
     clear hrunH hb8 hb06
     go_wp2
     go_roundg (gk - 1)
     case measure => omega
     case rel => exact ⟨i + 1, v8, by omega, by go_num, by rw [hd1], rfl, hO8, hb08⟩
   ·have hyz : c < y.1 := plc_up HPW.out HS.out hiK hx
    have HEQ : Hid (PT (i + 1) = PT i ++ [y]) := by show _ = _; rw [← HPT]; exact put_up hiK hx
    have hd : decide (K < i) = true := decide_eq_true hiK
    have hd1 : decide (K < i + 1) = true := decide_eq_true (by omega)
    have hrunH : Hid _ := pushm_to y hO (Nat.le_trans hsr.out hb.size) (Nat.le_trans (HLN.out i) (by decide)) HEQ.out
    obtain ⟨yk, yt⟩ := y
    dsimp only at *
    have g2 : ¬ yk = c := by grind
    have g2d : decide (yk = c) = false := decide_eq_false g2
    clear cc hx HS HPW HPT HL hyz hO HEQ E1 E2
    rw [hd]
    subst hst
    generalize (PT i).length = cn at *
    go_wp2_with (at_builtin; refine wp_by rfl _ _ _ rfl _ _ rfl rfl hrunH.out ?_)
    intro v6 w6 hp6
    obtain ⟨hO6, hb6⟩ := hp6
    have hb06 := hb.trans hb6
    clear hrunH hb6 hb
    go_wp2
    go_roundg (gk - 1)
    case measure => omega
    case rel => exact ⟨i + 1, v6, by omega, by go_num, by rw [hd1], rfl, hO6, hb06⟩
  ·have hlti : ¬ (i : Int) < (zs.length : Int) := by omega
   obtain rfl : i = zs.length := by omega
   by_cases hKz : K < zs.length
   ·have hd : decide (K < zs.length) = true := decide_eq_true hKz
    have HF0 : Ow markE 61 (n2 + 1) wr st (keptM zs K (c, m)) := by rw [← put_end hKz, HPT]; exact hO
    have hlm : (PT zs.length).length = (keptM zs K (c, m)).length := by rw [← put_end hKz, HPT]
    have hbF := HBW.out _ hb
    rw [hlm] at hst
    rw [hd]
    by_cases hml : (keptM zs K (c, m)).length ≤ 1024
    ·have HF : Hid _ := E2.out st wr _ hml hn2.out HF0
     have hmi : ¬ (1024 : Int) < ((keptM zs K (c, m)).length : Int) := by omega
     clear HL HS HPW HPT hO HLN hb HBW HCB E1 E2 HF0 hlm
     subst hst
     generalize (keptM zs K (c, m)).length = ml at *
     go_wp2
     go_ret2
     exact ⟨HF.out, hbF⟩
    ·have HF : Hid _ := E1.out wr hml
     have hmi : (1024 : Int) < ((keptM zs K (c, m)).length : Int) := by omega
     clear HL HS HPW HPT hO HLN hb HBW HCB E1 E2 HF0 hlm
     subst hst
     generalize (keptM zs K (c, m)).length = ml at *
     go_wp2
     go_ret2
     exact ⟨HF.out, hbF⟩
   ·have hd : decide (K < zs.length) = false := decide_eq_false hKz
    obtain rfl : K = zs.length := by omega
    have HEQ : Hid (keptM zs zs.length (c, m) = PT zs.length ++ [(c, m)]) := by show _ = _; rw [← HPT]; exact put_all.symm
    have hrunH : Hid _ := pushm_to (c, m) hO (Nat.le_trans hsr.out hb.size) (Nat.le_trans (HLN.out zs.length) (by decide)) HEQ.out
    dsimp only at hrunH
    rw [hd]
    clear HL HS HPW HPT hO HLN
    generalize (PT zs.length).length = cn at *
    subst hst
    go_wp2_with (at_builtin; refine wp_by rfl _ _ _ rfl _ _ rfl rfl hrunH.out ?_)
    intro v6 w6 hp6
    obtain ⟨hO6, hb6⟩ := hp6
    have hb06 := HBW.out _ (hb.trans hb6)
    obtain ⟨sa6, sc6, hst6, -⟩ := hO6.1.shape
    by_cases hml : (keptM zs zs.length (c, m)).length ≤ 1024
    ·have HF : Hid _ := E2.out v6 w6 _ hml hn2.out hO6
     have hmi : ¬ (1024 : Int) < ((keptM zs zs.length (c, m)).length : Int) := by omega
     clear hrunH hb6 hb hO6 E1 E2 HEQ
     subst hst6
     generalize (keptM zs zs.length (c, m)).length = ml at *
     go_wp2
     go_ret2
     exact ⟨HF.out, hb06⟩
    ·have HF : Hid _ := E1.out w6 hml
     have hmi : (1024 : Int) < ((keptM zs zs.length (c, m)).length : Int) := by omega
     clear hrunH hb6 hb hO6 E1 E2 HEQ
     subst hst6
     generalize (keptM zs zs.length (c, m)).length = ml at *
     go_wp2
     go_ret2
     exact ⟨HF.out, hb06⟩
end Go.Proofs.YtfpbgfmnjpamlaaGreat

/- The document's Mark. -/
namespace Go.Proofs.YtfpbgfmnjpamlaaGreat
open Go.RowKit LeaseMath
set_option maxRecDepth 100000
set_option linter.unusedSimpArgs false
set_option linter.unusedVariables false

set_option maxHeartbeats 2000000 in
theorem rmark_of (zs : List Mk) (lv : Value) (c : K) (t : Nat) (K : Nat) (w : World) (hL : Rd markE w lv zs) (hS : mayB markB zs = true → Plc zs c K) : Calls Tryz.prog 52 #[lv, .string (bk c), .int .u64 (t : Int)] w fun e w' => PutT markE 61 w.heap.size (markM zs K c t) e w' ∧ Below w.heap.size w w' := by
 obtain ⟨ao, cap, rfl, -, -⟩ := hL.shape
 cases hm : mayB markB zs with
 | true =>
  cases ho : markB (c, t) with
  | true =>
   rcases Nat.lt_or_ge t (lastM zs c) with h | h
   ·exact rmark_up zs ao cap c t K w hL hm ho (hS hm) h
   ·exact rmark_low zs ao cap c t K w hL hm ho (hS hm) h
  | false =>
   obtain ⟨T, HT⟩ : ∃ T, Hid (T = PutT markE 61 w.heap.size (markM zs K c t)) := ⟨_, rfl⟩
   rw [← HT.out]
   have E : Hid (∀ W, T (.returned (.tuple #[.slice none 0 0, .int .i64 1])) W) := fun W => by
    rw [HT.out, show markM zs K c t = ([], 1) by unfold markM; rw [hm, ho]; rfl]
    exact ⟨_, rfl, Ow.nil _ _ _ _⟩
   have kc := rmarks_of zs _ w hL
   rw [hm] at kc
   clear HT hL hS hm
   by_cases h1 : c.length ≤ 64
   ·have h1i : ¬ (64 : Int) < (c.length : Int) := by omega
    have h1d : decide ((64 : Int) < (c.length : Int)) = false := decide_eq_false h1i
    have h2 : t = 0 := by
     by_cases h2 : t = 0
     ·exact h2
     ·rw [mark_iff.2 ⟨h1, h2⟩] at ho; cases ho
    subst h2
    clear ho h1
    go_enter Tryz.func52, Tryz.ntmps52
    go_wp2_with fail
    refine kc.mono ?_
    rintro e w1 ⟨rfl, hb1⟩
    clear kc
    go_wp2
    go_ret2
    exact ⟨E.out _, hb1⟩
   ·have h1i : (64 : Int) < (c.length : Int) := by omega
    have h1d : decide ((64 : Int) < (c.length : Int)) = true := decide_eq_true h1i
    clear ho h1
    go_enter Tryz.func52, Tryz.ntmps52
    go_wp2_with fail
    refine kc.mono ?_
    rintro e w1 ⟨rfl, hb1⟩
    clear kc
    go_wp2
    go_ret2
    exact ⟨E.out _, hb1⟩
 | false =>
  obtain ⟨T, HT⟩ : ∃ T, Hid (T = PutT markE 61 w.heap.size (markM zs K c t)) := ⟨_, rfl⟩
  rw [← HT.out]
  have E : Hid (∀ W, T (.returned (.tuple #[.slice none 0 0, .int .i64 1])) W) := fun W => by
   rw [HT.out, show markM zs K c t = ([], 1) by unfold markM; rw [hm]; rfl]
   exact ⟨_, rfl, Ow.nil _ _ _ _⟩
  have kc := rmarks_of zs _ w hL
  rw [hm] at kc
  clear HT hL hS hm
  go_enter Tryz.func52, Tryz.ntmps52
  go_wp2_with fail
  refine kc.mono ?_
  rintro e w1 ⟨rfl, hb1⟩
  clear kc
  go_wp2
  go_ret2
  exact ⟨E.out _, hb1⟩
end Go.Proofs.YtfpbgfmnjpamlaaGreat

