import Derived.Test.YtjkjekhbfjjnjaaHb31
import Derived.Laws.Cover1
/- The contract of the law's 'does': Deliver. -/
namespace Go.Proofs.Ytjkjekhbfjjnjaa
open Go.RowKit Go.Maps
set_option maxRecDepth 100000
set_option linter.unusedSimpArgs false
set_option linter.unusedVariables false

set_option maxHeartbeats 8000000 in
theorem does_1 {n : Nat} {w : World} {p m q : Nat} {l : List Msg} {ps : List (Int × Int)} {N : Nat} (h : ASt n w p m q l ps N) (hn : n ≤ w.heap.size) (hN : N ≤ 1000) (A B : Int) (hAi : i64 A) (hBi : i64 B) (sa : Option Addr) (dl sc : Nat) :
    Calls Try.prog 9 #[.pointer (some ⟨p, 0, none⟩), .pointer (some ⟨q, 0, none⟩), .agg #[.int .i64 1, .int .i64 A, .int .i64 B, .slice sa dl sc]] w (DoesT n w p m q N) := by
  have a1 := (Below.refl w.heap.size w).alloc (Nat.le_refl _) (.cells #[.int .i64 1, .int .i64 A, .int .i64 B, .slice sa dl sc] 33)
  have nb := heap_alloc_new w (.cells #[.int .i64 1, .int .i64 A, .int .i64 B, .slice sa dl sc] 33)
  obtain ⟨lv, pv, hMod, hMn⟩ := h.mod
  obtain ⟨fv, hBag, hAn⟩ := h.bag
  have hlen := h.len
  have hlenp := h.lenp
  have q0 := (hMod.below a1).cells.1
  obtain ⟨al, cal, hlv, hlec, -⟩ := hMod.lrow.shape
  rw [hlv] at q0
  have b1 : (w.alloc (.cells #[.int .i64 1, .int .i64 A, .int .i64 B, .slice sa dl sc] 33)).cell? ⟨w.heap.size, 1, none⟩ = some (.int .i64 A) := by rw [cells_of_block nb]; rfl
  by_cases hlo : 0 ≤ A
  · have hlod : decide (0 ≤ A) = true := by simpa using hlo
    have hle0 : ¬ A < 0 := by omega
    by_cases hhi : A < (l.length : Int)
    · have hhid : decide (A < (l.length : Int)) = true := by simpa using hhi
      go_enter Try.func9, Try.ntmps9
      go_wp2
      go_quiet (fail)
      obtain ⟨W1, hW1⟩ : ∃ W1, W1 = (w.alloc (.cells #[.int .i64 1, .int .i64 A, .int .i64 B, .slice sa dl sc] 33)).drewN nq := ⟨_, rfl⟩
      rw [← hW1]
      have hb1 : Below w.heap.size w W1 := by rw [hW1]; exact below_drewN a1 nq
      have nb1 : W1.heap[w.heap.size]? = some (.cells #[.int .i64 1, .int .i64 A, .int .i64 B, .slice sa dl sc] 33 (0, 0)) := by rw [hW1]; exact nb
      clear hW1 nq a1 nb b1 q0
      have hn1 := Nat.le_trans hn hb1.size
      have hBag1 := hBag.below hb1
      have hMod1 := hMod.below hb1
      have c0 : W1.cell? ⟨w.heap.size, 0, none⟩ = some (.int .i64 1) := by rw [cells_of_block nb1]; rfl
      have c1 : W1.cell? ⟨w.heap.size, 1, none⟩ = some (.int .i64 A) := by rw [cells_of_block nb1]; rfl
      have c2 : W1.cell? ⟨w.heap.size, 2, none⟩ = some (.int .i64 B) := by rw [cells_of_block nb1]; rfl
      have c3 : W1.cell? ⟨w.heap.size, 3, none⟩ = some (.slice sa dl sc) := by rw [cells_of_block nb1]; rfl
      obtain ⟨j, hj⟩ : ∃ j : Nat, A = (j : Int) := ⟨A.toNat, by omega⟩
      have hjl : j < l.length := by omega
      obtain ⟨y, hy⟩ : ∃ y, l[j]? = some y := ⟨l[j], List.getElem?_eq_getElem hjl⟩
      cases hR : partsOf ps (lo y.1 y.2.1) (hi y.1 y.2.1)
      · obtain ⟨R, hRe⟩ : ∃ R, R = false := ⟨_, rfl⟩
        rw [← hRe] at hR
        subst hj
        obtain ⟨g, cal', hlv', -, -, hgl, -⟩ := msg_cells hMod1.lrow hy
        rw [hlv] at hlv'
        cases hlv'
        have hyok := hBag1.ok y (List.mem_of_getElem? hy)
        have kd := deliver_yes hBag1 j y hy (by omega)
        have hjl' : (j : Int) < (l.length : Int) := by omega
        have k2 : ∀ W2, Did W1 p m fv (l.eraseIdx j) (partsOf ps) N W2 → Hid (W2.cell? ⟨q, 0, none⟩ = some (.slice (some ⟨g, 0, none⟩) l.length cal) ∧ W2.cell? ⟨w.heap.size, 1, none⟩ = some (.int .i64 (j : Int)) ∧ W2.cell? ⟨g, j * 3, none⟩ = some (.int .i64 y.1) ∧ W2.cell? ⟨g, j * 3 + 1, none⟩ = some (.int .i64 y.2.1) ∧ W2.cell? ⟨g, j * 3 + 2, none⟩ = some (.string (str y.2.2)) ∧ w.heap.size < W2.heap.size ∧ g < W2.heap.size ∧ q < W2.heap.size ∧
            ∀ W4, Below W2.heap.size W2 W4 → W2.heap.size < W4.heap.size → W4.cell? ⟨w.heap.size, 1, none⟩ = some (.int .i64 (j : Int)) ∧ Calls Try.prog 22 #[.pointer (some ⟨q, 0, none⟩), .int .i64 (j : Int)] W4 (fun e W5 => e = .returned (.tuple #[]) ∧ (∀ k, W4.cell? ⟨W2.heap.size, k, none⟩ = W5.cell? ⟨W2.heap.size, k, none⟩) ∧ (∀ k, W4.frozen? ⟨W2.heap.size, k, none⟩ = W5.frozen? ⟨W2.heap.size, k, none⟩) ∧ W4.heap.size ≤ W5.heap.size ∧ Calls Try.prog 12 #[.pointer (some ⟨q, 0, none⟩), .int .i64 y.1, .int .i64 y.2.1] W5 (fun e W6 => e = .returned (.bool R) ∧ W6 = W5) ∧ (∀ v2, Nb W1.heap.size W2 v2 y.2.2 → (convert 31 9 v2).run Try.prog W5 = .ok (.string (str y.2.2)) W5) ∧
              ∀ W6 : World, (∀ k, k ≠ W2.heap.size → W6.heap[k]? = W5.heap[k]?) → W6.os = W5.os → W6.tape = W5.tape → W6.output = W5.output → W6.heap.size = W5.heap.size → Hid (DoesT n w p m q N (.returned (.bool true)) W6))) := fun W2 hD => by
          obtain ⟨fv2, d1, d2, d3⟩ := id hD
          have hM2 := hMod1.kept hBag1 d2
          have hnbx : ¬ Mine p m fv w.heap.size := fun e => by have := hBag.lt _ e; omega
          have nb2 := (d2.block w.heap.size (Array.getElem?_eq_some_iff.1 nb1).1 hnbx).trans nb1
          obtain ⟨g', cal', hlv', -, -, hgl', x0, x1, x2, -⟩ := msg_cells hM2.lrow hy
          rw [hlv] at hlv'
          cases hlv'
          have q0' := hM2.cells.1
          rw [hlv] at q0'
          have hlx := (Array.getElem?_eq_some_iff.1 nb2).1
          refine ⟨q0', by rw [cells_of_block nb2]; rfl, x0, x1, x2, hlx, hgl', hM2.lt q (.inl rfl), fun W4 hb4 hs4 => ?_⟩
          have nb4 := (hb4.block w.heap.size hlx).trans nb2
          refine ⟨by rw [cells_of_block nb4]; rfl, ?_⟩
          have hM4 := hM2.below hb4
          refine (out_of hM4 j hjl (by omega)).mono ?_
          rintro e W5 ⟨rfl, hm5⟩
          obtain ⟨lv5, pv5, m1, m2, m3⟩ := id hm5
          have hnotb : ¬ MineM q lv pv W2.heap.size := fun e => by have := hM2.lt _ e; omega
          have hblk := m2.block W2.heap.size hs4 hnotb
          have hpar := mparted_of m1 y.1 y.2.1 hyok.1 hyok.2.1 (by omega)
          rw [mparted_eq, hR] at hpar
          refine ⟨rfl, fun k => (World.cell?_of_block hblk).symm, fun k => (frozen_same k hblk).symm, m2.size, hpar, fun v2 hN2 => ?_, fun W6 h6 ho htp hout hsz => ?_⟩
          · exact @str_of keepAll _ _ _ _ ((hN2.below hb4).keptM hM4 m2).bs hyok.2.2.1
          · have hm6 := MDid.aside hb4 hm5 (fun k hk => hM2.lt k hk) W2.heap.size (Nat.le_refl _) hs4 h6 ho htp hout hsz
            obtain ⟨r1, r2⟩ := ASt.bagMod hn1 hBag1 hAn hMod1 hMn (hD.more (by omega)) hm6 (by rw [List.length_eraseIdx_of_lt hjl]; omega) (by omega)
            exact ⟨rfl, _, _, r1, (hb1.mono hn).trans r2⟩
        rw [hR] at kd
        have hbz : ∀ W2 : World, Below W2.heap.size W2 (W2.alloc (.cells #[.int .i64 0, .int .i64 0, .string ⟨#[]⟩] 39)) := fun W2 => (Below.refl _ _).alloc (Nat.le_refl _) _
        clear hBag1 hMod1 hBag hMod h nb1 hMn hAn hlo hle0 hlod hhid hhi hy hyok hR
        generalize DoesT n w p m q N = T at *
        subst hRe
        go_wp2_with fail
        refine kd.mono ?_
        rintro e W2 ⟨hres, hD2⟩
        obtain ⟨v2, rfl, hN2⟩ : ∃ v, e = .returned (.tuple #[.int .i64 y.1, .int .i64 y.2.1, v, .bool true]) ∧ Nb W1.heap.size W2 v y.2.2 := hres
        obtain ⟨z0, z1, z2, z3, z4, l1, l2, l3, k4⟩ := (k2 W2 hD2).out
        have HK : Hid _ := k4
        have HN : Hid _ := hN2
        obtain ⟨va, vc, hva, -⟩ := hN2.bs
        subst hva
        clear hD2 k4 hN2 k2 kd
        go_wp2
        go_region_held3 (fun w' => w'.cell? ⟨q, 0, none⟩ = some (.slice (some ⟨g, 0, none⟩) l.length cal) ∧ w'.cell? ⟨w.heap.size, 1, none⟩ = some (.int .i64 (j : Int)) ∧ w'.cell? ⟨g, j * 3, none⟩ = some (.int .i64 y.1) ∧ w'.cell? ⟨g, j * 3 + 1, none⟩ = some (.int .i64 y.2.1) ∧ w'.cell? ⟨g, j * 3 + 2, none⟩ = some (.string (str y.2.2))) (go_keep) (fail)
        have hb4 := ((Below.refl W2.heap.size W2).alloc (Nat.le_refl _) (.cells #[.int .i64 y.1, .int .i64 y.2.1, .string (str y.2.2)] 39)).drew
        have n4 : (W2.alloc (.cells #[.int .i64 y.1, .int .i64 y.2.1, .string (str y.2.2)] 39)).drew.heap[W2.heap.size]? = some (.cells #[.int .i64 y.1, .int .i64 y.2.1, .string (str y.2.2)] 39 (0, 0)) := heap_alloc_new W2 _
        obtain ⟨b1', ko⟩ := HK.out _ hb4 (by show W2.heap.size < (W2.alloc _).heap.size; simp)
        have u0 : (W2.alloc (.cells #[.int .i64 y.1, .int .i64 y.2.1, .string (str y.2.2)] 39)).drew.cell? ⟨W2.heap.size, 0, none⟩ = some (.int .i64 y.1) := by rw [cells_of_block n4]; rfl
        have u1 : (W2.alloc (.cells #[.int .i64 y.1, .int .i64 y.2.1, .string (str y.2.2)] 39)).drew.cell? ⟨W2.heap.size, 1, none⟩ = some (.int .i64 y.2.1) := by rw [cells_of_block n4]; rfl
        have u2 : (W2.alloc (.cells #[.int .i64 y.1, .int .i64 y.2.1, .string (str y.2.2)] 39)).drew.cell? ⟨W2.heap.size, 2, none⟩ = some (.string (str y.2.2)) := by rw [cells_of_block n4]; rfl
        have uf : ∀ k, (W2.alloc (.cells #[.int .i64 y.1, .int .i64 y.2.1, .string (str y.2.2)] 39)).drew.frozen? ⟨W2.heap.size, k, none⟩ = false := fun k => frozen_of n4 k
        clear HK z0 z1 z2 z3 z4 n4 hb4 l2 l3
        generalize (W2.alloc (.cells #[.int .i64 y.1, .int .i64 y.2.1, .string (str y.2.2)] 39)).drew = W4 at *
        go_wp2_with fail
        refine ko.mono ?_
        rintro e W5 ⟨rfl, hce, hfe, hsz5, kpar, hcv, hfin⟩
        have d0 := (hce 0).symm.trans u0
        have d1 := (hce 1).symm.trans u1
        have d2 := (hce 2).symm.trans u2
        have df : ∀ k, W5.frozen? ⟨W2.heap.size, k, none⟩ = false := fun k => (hfe k).symm.trans (uf k)
        clear ko hce hfe u0 u1 u2 uf b1'
        
        have hcs := hcv _ HN.out
        have HF := hfin W5 (fun _ _ => rfl) rfl rfl rfl rfl
        clear hcv hfin HN
        generalize str y.2.2 = sy at *
        go_wp2_with (go_at_call 12; refine kpar.mono ?_; rintro e wq ⟨rfl, hwq⟩; rw [hwq]; clear hwq wq)
        first | exact HF.out | (go_ret; exact HF.out)
      · obtain ⟨R, hRe⟩ : ∃ R, R = true := ⟨_, rfl⟩
        rw [← hRe] at hR
        subst hj
        obtain ⟨g, cal', hlv', -, -, hgl, -⟩ := msg_cells hMod1.lrow hy
        rw [hlv] at hlv'
        cases hlv'
        have hyok := hBag1.ok y (List.mem_of_getElem? hy)
        have kd := deliver_yes hBag1 j y hy (by omega)
        have hjl' : (j : Int) < (l.length : Int) := by omega
        have k2 : ∀ W2, Did W1 p m fv (l.eraseIdx j) (partsOf ps) N W2 → Hid (W2.cell? ⟨q, 0, none⟩ = some (.slice (some ⟨g, 0, none⟩) l.length cal) ∧ W2.cell? ⟨w.heap.size, 1, none⟩ = some (.int .i64 (j : Int)) ∧ W2.cell? ⟨g, j * 3, none⟩ = some (.int .i64 y.1) ∧ W2.cell? ⟨g, j * 3 + 1, none⟩ = some (.int .i64 y.2.1) ∧ W2.cell? ⟨g, j * 3 + 2, none⟩ = some (.string (str y.2.2)) ∧ w.heap.size < W2.heap.size ∧ g < W2.heap.size ∧ q < W2.heap.size ∧
            ∀ W4, Below W2.heap.size W2 W4 → W2.heap.size < W4.heap.size → W4.cell? ⟨w.heap.size, 1, none⟩ = some (.int .i64 (j : Int)) ∧ Calls Try.prog 22 #[.pointer (some ⟨q, 0, none⟩), .int .i64 (j : Int)] W4 (fun e W5 => e = .returned (.tuple #[]) ∧ (∀ k, W4.cell? ⟨W2.heap.size, k, none⟩ = W5.cell? ⟨W2.heap.size, k, none⟩) ∧ (∀ k, W4.frozen? ⟨W2.heap.size, k, none⟩ = W5.frozen? ⟨W2.heap.size, k, none⟩) ∧ W4.heap.size ≤ W5.heap.size ∧ Calls Try.prog 12 #[.pointer (some ⟨q, 0, none⟩), .int .i64 y.1, .int .i64 y.2.1] W5 (fun e W6 => e = .returned (.bool R) ∧ W6 = W5) ∧ (∀ v2, Nb W1.heap.size W2 v2 y.2.2 → (convert 31 9 v2).run Try.prog W5 = .ok (.string (str y.2.2)) W5) ∧
              ∀ W6 : World, (∀ k, k ≠ W2.heap.size → W6.heap[k]? = W5.heap[k]?) → W6.os = W5.os → W6.tape = W5.tape → W6.output = W5.output → W6.heap.size = W5.heap.size → Hid (DoesT n w p m q N (.returned (.bool true)) W6))) := fun W2 hD => by
          obtain ⟨fv2, d1, d2, d3⟩ := id hD
          have hM2 := hMod1.kept hBag1 d2
          have hnbx : ¬ Mine p m fv w.heap.size := fun e => by have := hBag.lt _ e; omega
          have nb2 := (d2.block w.heap.size (Array.getElem?_eq_some_iff.1 nb1).1 hnbx).trans nb1
          obtain ⟨g', cal', hlv', -, -, hgl', x0, x1, x2, -⟩ := msg_cells hM2.lrow hy
          rw [hlv] at hlv'
          cases hlv'
          have q0' := hM2.cells.1
          rw [hlv] at q0'
          have hlx := (Array.getElem?_eq_some_iff.1 nb2).1
          refine ⟨q0', by rw [cells_of_block nb2]; rfl, x0, x1, x2, hlx, hgl', hM2.lt q (.inl rfl), fun W4 hb4 hs4 => ?_⟩
          have nb4 := (hb4.block w.heap.size hlx).trans nb2
          refine ⟨by rw [cells_of_block nb4]; rfl, ?_⟩
          have hM4 := hM2.below hb4
          refine (out_of hM4 j hjl (by omega)).mono ?_
          rintro e W5 ⟨rfl, hm5⟩
          obtain ⟨lv5, pv5, m1, m2, m3⟩ := id hm5
          have hnotb : ¬ MineM q lv pv W2.heap.size := fun e => by have := hM2.lt _ e; omega
          have hblk := m2.block W2.heap.size hs4 hnotb
          have hpar := mparted_of m1 y.1 y.2.1 hyok.1 hyok.2.1 (by omega)
          rw [mparted_eq, hR] at hpar
          refine ⟨rfl, fun k => (World.cell?_of_block hblk).symm, fun k => (frozen_same k hblk).symm, m2.size, hpar, fun v2 hN2 => ?_, fun W6 h6 ho htp hout hsz => ?_⟩
          · exact @str_of keepAll _ _ _ _ ((hN2.below hb4).keptM hM4 m2).bs hyok.2.2.1
          · have hm6 := MDid.aside hb4 hm5 (fun k hk => hM2.lt k hk) W2.heap.size (Nat.le_refl _) hs4 h6 ho htp hout hsz
            obtain ⟨r1, r2⟩ := ASt.bagMod hn1 hBag1 hAn hMod1 hMn (hD.more (by omega)) hm6 (by rw [List.length_eraseIdx_of_lt hjl]; omega) (by omega)
            exact ⟨rfl, _, _, r1, (hb1.mono hn).trans r2⟩
        rw [hR] at kd
        have hbz : ∀ W2 : World, Below W2.heap.size W2 (W2.alloc (.cells #[.int .i64 0, .int .i64 0, .string ⟨#[]⟩] 39)) := fun W2 => (Below.refl _ _).alloc (Nat.le_refl _) _
        clear hBag1 hMod1 hBag hMod h nb1 hMn hAn hlo hle0 hlod hhid hhi hy hyok hR
        generalize DoesT n w p m q N = T at *
        subst hRe
        have hcv0 : ∀ W, (convert 31 9 (.slice none 0 0)).run Try.prog W = .ok (.string ⟨#[]⟩) W := fun W => str_nil W
        go_wp2_with fail
        refine kd.mono ?_
        rintro e W2 ⟨hres, hD2⟩
        obtain rfl : e = .returned (.tuple #[.int .i64 0, .int .i64 0, .slice none 0 0, .bool false]) := hres
        obtain ⟨z0, z1, z2, z3, z4, l1, l2, l3, k4⟩ := (k2 W2 hD2).out
        have HK : Hid _ := k4
        clear hD2 k4 k2 kd
        go_wp2
        go_region_held3 (fun w' => w'.cell? ⟨q, 0, none⟩ = some (.slice (some ⟨g, 0, none⟩) l.length cal) ∧ w'.cell? ⟨w.heap.size, 1, none⟩ = some (.int .i64 (j : Int)) ∧ w'.cell? ⟨g, j * 3, none⟩ = some (.int .i64 y.1) ∧ w'.cell? ⟨g, j * 3 + 1, none⟩ = some (.int .i64 y.2.1) ∧ w'.cell? ⟨g, j * 3 + 2, none⟩ = some (.string (str y.2.2))) (go_keep) (fail)
        have hb4 := ((Below.refl W2.heap.size W2).alloc (Nat.le_refl _) (.cells #[.int .i64 y.1, .int .i64 y.2.1, .string (str y.2.2)] 39)).drew
        have n4 : (W2.alloc (.cells #[.int .i64 y.1, .int .i64 y.2.1, .string (str y.2.2)] 39)).drew.heap[W2.heap.size]? = some (.cells #[.int .i64 y.1, .int .i64 y.2.1, .string (str y.2.2)] 39 (0, 0)) := heap_alloc_new W2 _
        obtain ⟨b1', ko⟩ := HK.out _ hb4 (by show W2.heap.size < (W2.alloc _).heap.size; simp)
        have u0 : (W2.alloc (.cells #[.int .i64 y.1, .int .i64 y.2.1, .string (str y.2.2)] 39)).drew.cell? ⟨W2.heap.size, 0, none⟩ = some (.int .i64 y.1) := by rw [cells_of_block n4]; rfl
        have u1 : (W2.alloc (.cells #[.int .i64 y.1, .int .i64 y.2.1, .string (str y.2.2)] 39)).drew.cell? ⟨W2.heap.size, 1, none⟩ = some (.int .i64 y.2.1) := by rw [cells_of_block n4]; rfl
        have u2 : (W2.alloc (.cells #[.int .i64 y.1, .int .i64 y.2.1, .string (str y.2.2)] 39)).drew.cell? ⟨W2.heap.size, 2, none⟩ = some (.string (str y.2.2)) := by rw [cells_of_block n4]; rfl
        have uf : ∀ k, (W2.alloc (.cells #[.int .i64 y.1, .int .i64 y.2.1, .string (str y.2.2)] 39)).drew.frozen? ⟨W2.heap.size, k, none⟩ = false := fun k => frozen_of n4 k
        clear HK z0 z1 z2 z3 z4 n4 hb4 l2 l3
        generalize (W2.alloc (.cells #[.int .i64 y.1, .int .i64 y.2.1, .string (str y.2.2)] 39)).drew = W4 at *
        go_wp2_with fail
        refine ko.mono ?_
        rintro e W5 ⟨rfl, hce, hfe, hsz5, kpar, hcv, hfin⟩
        have d0 := (hce 0).symm.trans u0
        have d1 := (hce 1).symm.trans u1
        have d2 := (hce 2).symm.trans u2
        have df : ∀ k, W5.frozen? ⟨W2.heap.size, k, none⟩ = false := fun k => (hfe k).symm.trans (uf k)
        clear ko hce hfe u0 u1 u2 uf b1'
        
        have s3 : ∀ k, k ≠ W2.heap.size → (((W5.setCell ⟨W2.heap.size, 0, none⟩ (.int .i64 0)).setCell ⟨W2.heap.size, 1, none⟩ (.int .i64 0)).setCell ⟨W2.heap.size, 2, none⟩ (.string ⟨#[]⟩)).heap[k]? = W5.heap[k]? := fun k e => by rw [Below.heap_setCell _ _ _ _ e, Below.heap_setCell _ _ _ _ e, Below.heap_setCell _ _ _ _ e]
        have HF := hfin _ s3 rfl rfl rfl (by simp [World.setCell])
        clear hcv hfin s3
        generalize str y.2.2 = sy at *
        go_wp2_with (go_at_call 12; refine kpar.mono ?_; rintro e wq ⟨rfl, hwq⟩; rw [hwq]; clear hwq wq)
        first | exact HF.out | (go_ret; exact HF.out)
    · have hhid : decide (A < (l.length : Int)) = false := by simpa using hhi
      have hout : ¬ (0 ≤ A ∧ A < (l.length : Int)) := fun e => hhi e.2
      go_enter Try.func9, Try.ntmps9
      go_wp2
      go_quiet (fail)
      obtain ⟨W1, hW1⟩ : ∃ W1, W1 = (w.alloc (.cells #[.int .i64 1, .int .i64 A, .int .i64 B, .slice sa dl sc] 33)).drewN nq := ⟨_, rfl⟩
      rw [← hW1]
      have hb1 : Below w.heap.size w W1 := by rw [hW1]; exact below_drewN a1 nq
      have nb1 : W1.heap[w.heap.size]? = some (.cells #[.int .i64 1, .int .i64 A, .int .i64 B, .slice sa dl sc] 33 (0, 0)) := by rw [hW1]; exact nb
      clear hW1 nq a1 nb b1 q0
      have hn1 := Nat.le_trans hn hb1.size
      have hBag1 := hBag.below hb1
      have hMod1 := hMod.below hb1
      have c0 : W1.cell? ⟨w.heap.size, 0, none⟩ = some (.int .i64 1) := by rw [cells_of_block nb1]; rfl
      have c1 : W1.cell? ⟨w.heap.size, 1, none⟩ = some (.int .i64 A) := by rw [cells_of_block nb1]; rfl
      have c2 : W1.cell? ⟨w.heap.size, 2, none⟩ = some (.int .i64 B) := by rw [cells_of_block nb1]; rfl
      have c3 : W1.cell? ⟨w.heap.size, 3, none⟩ = some (.slice sa dl sc) := by rw [cells_of_block nb1]; rfl
      have kd := deliver_no hBag1 A hout
      have hcv : ∀ W, (convert 31 9 (.slice none 0 0)).run Try.prog W = .ok (.string ⟨#[]⟩) W := fun W => str_nil W
      have az := (Below.refl W1.heap.size W1).alloc (Nat.le_refl _) (.cells #[.int .i64 0, .int .i64 0, .string ⟨#[]⟩] 39)
      have HF : Hid (DoesT n w p m q N (.returned (.bool true)) (W1.alloc (.cells #[.int .i64 0, .int .i64 0, .string ⟨#[]⟩] 39))) := ⟨rfl, l, ps, ((h.below hb1).below az).more, (hb1.mono hn).trans (az.mono hn1)⟩
      clear hBag1 hMod1 hBag hMod h nb1 hMn hAn hlo hout az
      generalize DoesT n w p m q N = T at *
      go_wp2_with (go_at_call 15; refine kd.mono ?_; rintro e wq ⟨rfl, hwq⟩; rw [hwq]; clear hwq wq)
      first | exact HF.out | (go_ret; exact HF.out)
  · have hlod : decide (0 ≤ A) = false := by simpa using hlo
    have hout : ¬ (0 ≤ A ∧ A < (l.length : Int)) := fun e => hlo e.1
    go_enter Try.func9, Try.ntmps9
    go_wp2
    go_big_quiet (fail)
    obtain ⟨W1, hW1⟩ : ∃ W1, W1 = (w.alloc (.cells #[.int .i64 1, .int .i64 A, .int .i64 B, .slice sa dl sc] 33)).drewN nq := ⟨_, rfl⟩
    rw [← hW1]
    have hb1 : Below w.heap.size w W1 := by rw [hW1]; exact below_drewN a1 nq
    have nb1 : W1.heap[w.heap.size]? = some (.cells #[.int .i64 1, .int .i64 A, .int .i64 B, .slice sa dl sc] 33 (0, 0)) := by rw [hW1]; exact nb
    clear hW1 nq a1 nb b1 q0
    have hn1 := Nat.le_trans hn hb1.size
    have hBag1 := hBag.below hb1
    have hMod1 := hMod.below hb1
    have c0 : W1.cell? ⟨w.heap.size, 0, none⟩ = some (.int .i64 1) := by rw [cells_of_block nb1]; rfl
    have c1 : W1.cell? ⟨w.heap.size, 1, none⟩ = some (.int .i64 A) := by rw [cells_of_block nb1]; rfl
    have c2 : W1.cell? ⟨w.heap.size, 2, none⟩ = some (.int .i64 B) := by rw [cells_of_block nb1]; rfl
    have c3 : W1.cell? ⟨w.heap.size, 3, none⟩ = some (.slice sa dl sc) := by rw [cells_of_block nb1]; rfl
    have kd := deliver_no hBag1 A hout
    have hcv : ∀ W, (convert 31 9 (.slice none 0 0)).run Try.prog W = .ok (.string ⟨#[]⟩) W := fun W => str_nil W
    have az := (Below.refl W1.heap.size W1).alloc (Nat.le_refl _) (.cells #[.int .i64 0, .int .i64 0, .string ⟨#[]⟩] 39)
    have HF : Hid (DoesT n w p m q N (.returned (.bool true)) (W1.alloc (.cells #[.int .i64 0, .int .i64 0, .string ⟨#[]⟩] 39))) := ⟨rfl, l, ps, ((h.below hb1).below az).more, (hb1.mono hn).trans (az.mono hn1)⟩
    clear hBag1 hMod1 hBag hMod h nb1 hMn hAn hlo hout az
    generalize DoesT n w p m q N = T at *
    go_wp2_with (go_at_call 15; refine kd.mono ?_; rintro e wq ⟨rfl, hwq⟩; rw [hwq]; clear hwq wq)
    first | exact HF.out | (go_ret; exact HF.out)
end Go.Proofs.Ytjkjekhbfjjnjaa

