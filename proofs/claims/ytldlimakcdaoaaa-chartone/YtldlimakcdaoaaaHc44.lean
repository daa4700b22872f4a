import Derived.Test.YtldlimakcdaoaaaHc37
import Derived.Test.YtldlimakcdaoaaaHc43
/- The law ChartOne answers true: the theorem of one owner. -/
namespace Go.Proofs.Ytldlimakcdaoaaa
open Go.RowKit SpanMath ChartMath
set_option maxRecDepth 100000
set_option linter.unusedSimpArgs false
set_option linter.unusedVariables false

set_option maxHeartbeats 40000000 in
theorem one_law (l0 : List Rg) (lv0 : Value) (ts : List Tn) (tv : Value) (key : K) (w : World) (hF0 : Rd rgE w lv0 l0) (hlen0 : l0.length * 48 ≤ 140737488355328) (hT : Rd tnE w tv ts) (hlenT : ts.length * 32 ≤ 140737488355328) : Calls Try.prog 6 #[lv0, tv, .string (bk key)] w fun e w' => e = .returned (.bool true) ∧ Below w.heap.size w w' := by
  have kM := rmay_of l0 lv0 w hF0.cv
  obtain ⟨ta, tc, rfl, -⟩ := id hT
  obtain ⟨la0, lc0, hlv0, -⟩ := id hF0
  have kW := fun W => cawake_of W
  cases hm : mayC l0 with
  | false =>
    rw [hm] at kM
    subst hlv0
    clear hm hF0 hT hlen0 hlenT
    go_enter Try.func6, Try.ntmps6
    go_wp2_with fail
    refine kM.mono ?_
    rintro e w1 ⟨rfl, hb1⟩
    have kW1 := kW w1
    clear kW kM
    go_wp2_with fail
    refine kW1.mono ?_
    rintro e w2 ⟨rfl, hb2⟩
    go_wp2
    go_ret
    exact ⟨rfl, hb1.trans (hb2.mono hb1.size)⟩
  | true =>
    rw [hm] at kM
    by_cases hkl : 64 < key.length
    · have hki : (64 : Int) < (key.length : Int) := by omega
      subst hlv0
      clear hm hF0 hT hlen0 hlenT hkl
      go_enter Try.func6, Try.ntmps6
      go_wp2_with fail
      refine kM.mono ?_
      rintro e w1 ⟨rfl, hb1⟩
      have kW1 := kW w1
      clear kW kM
      go_wp2_with fail
      refine kW1.mono ?_
      rintro e w2 ⟨rfl, hb2⟩
      go_wp2
      go_ret
      exact ⟨rfl, hb1.trans (hb2.mono hb1.size)⟩
    · have hki : ¬ (64 : Int) < (key.length : Int) := by omega
      have hkey : Hid (key.length ≤ 64) := by show _ ≤ _; omega
      have hC0 := mayC_iff.1 hm
      have hTW : ∀ W, Below w.heap.size w W → Rd tnE W (.slice ta ts.length tc) ts := fun W hW => hT.below hW
      have hFW : ∀ W, Below w.heap.size w W → Rd rgE W lv0 l0 := fun W hW => hF0.below hW
      clear hm hkl hF0 hlen0
      subst hlv0
      go_enter Try.func6, Try.ntmps6
      go_wp2_with fail
      refine kM.mono ?_
      rintro e w1 ⟨rfl, hb1⟩
      have hF1 := hFW w1 hb1
      clear kM hFW
      go_wp2
      go_loopg [0, 7] 100 (fun gg s0 s7 wr => ∃ (i : Nat) (lv : Value) (l : List Rg), i + gg = 100 ∧ s7 = .int .i64 (i : Int) ∧ lv = s0 ∧ Rd rgE wr lv l ∧ Chart l ∧ Below w.heap.size w wr)
      case atStart => exact ⟨0, _, l0, by simp, rfl, rfl, hF1, hC0, hb1⟩
      case round =>
        obtain ⟨i, lv, l, hig, rfl, rfl, hR, hC, hb⟩ := hrel
        clear hF1 hb1 hC0
        by_cases hlt : i < ts.length
        · have hlti : (i : Int) < (ts.length : Int) := by omega
          by_cases h100 : i < 100
          · have h100i : (i : Int) < 100 := by omega
            obtain ⟨was, x, hpw, hxw, hxk⟩ := hC.place key
            have hfw : findM l key = some was := by unfold findM; rw [mayC_iff.2 hC, decide_eq_true hkey.out, Bool.and_self, if_pos rfl]; exact hpw
            have hxm := List.mem_of_getElem? hxw
            obtain ⟨⟨x1, x2⟩, xg, xe⟩ := x
            dsimp only at hxk
            obtain ⟨V0, hV0⟩ : ∃ V0, ver l = V0 := ⟨_, rfl⟩
            obtain ⟨V1, hV1⟩ : ∃ V1, V0 + 1 = V1 := ⟨_, rfl⟩
            have hVw : IntKind.u64.wrap (V0 + 1) = V1 := by
              rw [← hV1]
              have a1 := hC.ver_le
              have a2 := ver_nonneg l
              exact IntWalk.u64_in _ (by omega)
            have hV0H : Hid (ver l = V0) := hV0
            have hV1H : Hid (V0 + 1 = V1) := hV1
            have htx : ts[i]? = some ts[i] := List.getElem?_eq_getElem hlt
            obtain ⟨ta', tc', et, -, -, hT2⟩ := hTW wr hb
            cases et
            obtain ⟨tb, to, rfl, d0⟩ := hT2 i ts[i] 0 _ htx rfl
            obtain ⟨tb', to', et, d1⟩ := hT2 i ts[i] 1 _ htx rfl
            cases et
            obtain ⟨tb', to', et, d2⟩ := hT2 i ts[i] 2 _ htx rfl
            cases et
            rw [show i * tnE.k + 0 = i * 3 from rfl] at d0
            rw [show i * tnE.k + 1 = i * 3 + 1 from rfl, ← Nat.add_assoc] at d1
            rw [show i * tnE.k + 2 = i * 3 + 2 from rfl, ← Nat.add_assoc] at d2
            obtain ⟨t, ht⟩ : ∃ t, t = ts[i] := ⟨_, rfl⟩
            rw [← ht] at d0 d1 d2
            obtain ⟨td, tk, tg⟩ := t
            dsimp only at d0 d1 d2
            obtain ⟨q1, q2, q3⟩ := one_box wr (.cells #[.int .i64 td, .string (bk tk), .int .i64 tg] 54)
            obtain ⟨Nb, hNb⟩ : ∃ Nb, Nb = wr.heap.size := ⟨_, rfl⟩
            have hbq := hb.trans (q3.mono hb.size)
            have hRq := hR.below q3
            rw [← hNb] at q2
            have kf := find_of l lv key _ hRq.cv
            rw [hfw] at kf
            unfold findV at kf
            clear htx hT2 ht hfw hpw
            obtain ⟨la, lc, hlv, -⟩ := id hR
            generalize hLn : l.length = Ln at *
            clear hlv hV0 hV1
            have hV0 := hV0H
            have hV1 := hV1H
            clear hV0H hV1H
            go_wp2_with fail
            generalize wr.alloc (.cells #[.int .i64 td, .string (bk tk), .int .i64 tg] 54) = wq at *
            refine kf.mono ?_
            rintro e w2 ⟨rfl, hbw2'⟩
            rw [← hNb]
            have hbw2a := hbq.trans (hbw2'.mono hbq.size)
            have bxw2a := (hbw2'.block Nb (Array.getElem?_eq_some_iff.1 q2).1).trans q2
            have hRw2a := hRq.below hbw2'
            obtain ⟨u1, u2, u3⟩ := one_box w2 (.cells #[] 42)
            have hbw2 := hbw2a.trans (u3.mono hbw2a.size)
            have bxw2 := (u3.block Nb (Array.getElem?_eq_some_iff.1 bxw2a).1).trans bxw2a
            have hRw2 := hRw2a.below u3
            have v0 : (w2.alloc (.cells #[] 42)).cell? ⟨Nb, 0, none⟩ = some (.int .i64 td) := by rw [cells_of_block bxw2]; rfl
            have v1 : (w2.alloc (.cells #[] 42)).cell? ⟨Nb, 1, none⟩ = some (.string (bk tk)) := by rw [cells_of_block bxw2]; rfl
            have v2 : (w2.alloc (.cells #[] 42)).cell? ⟨Nb, 2, none⟩ = some (.int .i64 tg) := by rw [cells_of_block bxw2]; rfl
            clear kf hbw2' hbw2a bxw2a hRw2a u1 u2 u3 q1 q2 q3 hbq hRq hR hb d0 d1 d2 hNb
            subst hLn
            by_cases hd0 : td = 0
            · subst hd0
              obtain ⟨⟨kl, c⟩, hM⟩ : ∃ M, M = splitM l tk := ⟨_, rfl⟩
              have kt := csplit_of l lv tk _ hRw2
              rw [← hM] at kt
              go_wp2_with fail
              generalize w2.alloc (.cells #[] 42) = w2b at *
              refine kt.mono ?_
              rintro e w3 ⟨⟨kv, rfl, hRk⟩, hbw3'⟩
              dsimp only at hRk
              have hbw3 := hbw2.trans (hbw3'.mono hbw2.size)
              have bxw3 := (hbw3'.block Nb (Array.getElem?_eq_some_iff.1 bxw2).1).trans bxw2
              have hRw3 := hRw2.below hbw3'
              clear kt hbw3' hRw2 bxw2
              by_cases hc : c = 0
              · subst hc
                obtain ⟨hK, hver0, hrel2⟩ := split_ok hM.symm
                have hver : ver kl = V1 := by rw [hver0, hV0, hV1]
                clear hver0 hM
                obtain ⟨now, y, hpn, hyn, hyk⟩ := hK.place key
                have hfk : findM kl key = some now := by unfold findM; rw [mayC_iff.2 hK, decide_eq_true hkey.out, Bool.and_self, if_pos rfl]; exact hpn
                have hym := List.mem_of_getElem? hyn
                have hgr := hrel2 key _ y hxm hxk hym hyk
                have hyo := hK.ok y hym
                have hown : ∀ g : Int, isIn (ownM kl g) key = decide (y.2.1 = g) := fun g => hK.own_one hym hyk g
                have hofm : ∀ g : Int, (ownM kl g).length ≤ 1000000 := fun g => by have := (formB_iff.1 (hK.own_form g)).1; omega
                obtain ⟨⟨y1, y2⟩, yg, ye⟩ := y
                dsimp only at hgr hyk
                simp only [rOk, gOk, Bool.and_eq_true, decide_eq_true_eq] at hyo
                obtain ⟨yg1, yg2⟩ := hyo.1.2
                clear hyo hrel2
                have k1 := find_of kl kv key w3 hRk.cv
                rw [hfk] at k1
                unfold findV at k1
                go_wp2_with fail
                refine k1.mono ?_
                rintro e w4 ⟨rfl, hbw4'⟩
                have hbw4 := hbw3.trans (hbw4'.mono hbw3.size)
                have bxw4 := (hbw4'.block Nb (Array.getElem?_eq_some_iff.1 bxw3).1).trans bxw3
                have hRw4 := hRw3.below hbw4'
                have hRk4 := hRk.below hbw4'
                have k2 := rmay_of kl kv w4 hRk4.cv
                rw [mayC_iff.2 hK] at k2
                clear k1 hbw4'
                go_wp2_with fail
                refine k2.mono ?_
                rintro e w5 ⟨rfl, hbw5'⟩
                have hbw5 := hbw4.trans (hbw5'.mono hbw4.size)
                have bxw5 := (hbw5'.block Nb (Array.getElem?_eq_some_iff.1 bxw4).1).trans bxw4
                have hRw5 := hRw4.below hbw5'
                have hRk5 := hRk4.below hbw5'
                have k3 := version_of kl kv w5 hRk5.cv
                rw [show verC kl = V1 by unfold verC; rw [if_pos (mayC_iff.2 hK)]; exact hver] at k3
                clear k2 hbw5' hRw4 hRk4
                go_wp2_with fail
                refine k3.mono ?_
                rintro e w6 ⟨rfl, hbw6'⟩
                have hbw6 := hbw5.trans (hbw6'.mono hbw5.size)
                have bxw6 := (hbw6'.block Nb (Array.getElem?_eq_some_iff.1 bxw5).1).trans bxw5
                have hRw6 := hRw5.below hbw6'
                have hRk6 := hRk5.below hbw6'
                have k4 := version_of l lv w6 hRw6.cv
                rw [show verC l = V0 by unfold verC; rw [if_pos (mayC_iff.2 hC)]; exact hV0] at k4
                clear k3 hbw6' hRw5 hRk5
                go_wp2_with fail
                refine k4.mono ?_
                rintro e w7 ⟨rfl, hbw7'⟩
                have hbw7 := hbw6.trans (hbw7'.mono hbw6.size)
                have bxw7 := (hbw7'.block Nb (Array.getElem?_eq_some_iff.1 bxw6).1).trans bxw6
                have hRw7 := hRw6.below hbw7'
                have hRk7 := hRk6.below hbw7'
                clear k4 hbw7' hRw6 hRk6 hbw6 hbw5 hbw4 bxw6 bxw5 bxw4
                obtain ⟨la, lc, hlv, -⟩ := id hRw7
                have hcvl := hRw7.cv
                rw [hlv] at hcvl
                obtain ⟨lb, lo, rfl, cx⟩ := cv_at hcvl hxw
                obtain ⟨ka, kc, hkv, -⟩ := id hRk7
                have hcvk := hRk7.cv
                rw [hkv] at hcvk
                obtain ⟨kb, ko, rfl, cy⟩ := cv_at hcvk hyn
                dsimp only at cx cy
                have hwl : (was : Int) < (l.length : Int) := by have := (List.getElem?_eq_some_iff.1 hxw).1; omega
                have hnl : (now : Int) < (kl.length : Int) := by have := (List.getElem?_eq_some_iff.1 hyn).1; omega
                clear hcvl hcvk
                subst hlv hkv
                go_wp2_with fail
                have cl21 : ∀ W, Below w7.heap.size w7 W → (W.cell? ⟨Nb, 0, none⟩ = some (.int .i64 0) ∧ W.cell? ⟨Nb, 1, none⟩ = some (.string (bk tk)) ∧ W.cell? ⟨lb, lo + was * 4, none⟩ = some (.string (bk x1)) ∧ W.cell? ⟨lb, lo + was * 4 + 1, none⟩ = some (.string (bk x2))) := fun W hW => by
                  have hbk := (hW.block Nb (Array.getElem?_eq_some_iff.1 bxw7).1).trans bxw7
                  obtain ⟨a0, a1, -, -⟩ := cx W hW
                  exact ⟨by rw [cells_of_block hbk]; rfl, by rw [cells_of_block hbk]; rfl, a0, a1⟩
                refine wp_region_L (fun W => (W.cell? ⟨Nb, 0, none⟩ = some (.int .i64 0) ∧ W.cell? ⟨Nb, 1, none⟩ = some (.string (bk tk)) ∧ W.cell? ⟨lb, lo + was * 4, none⟩ = some (.string (bk x1)) ∧ W.cell? ⟨lb, lo + was * 4 + 1, none⟩ = some (.string (bk x2))) ∧ Below w7.heap.size w7 W) [] (by kernel_rfl) ?_
                have yS : (fun W => (W.cell? ⟨Nb, 0, none⟩ = some (.int .i64 0) ∧ W.cell? ⟨Nb, 1, none⟩ = some (.string (bk tk)) ∧ W.cell? ⟨lb, lo + was * 4, none⟩ = some (.string (bk x1)) ∧ W.cell? ⟨lb, lo + was * 4 + 1, none⟩ = some (.string (bk x2))) ∧ Below w7.heap.size w7 W) w7.drew := ⟨cl21 _ (Below.refl _ _).drew, (Below.refl _ _).drew⟩
                clear cl21
                refine wpAnyL_take 0 rfl (by kernel_rfl) (by kernel_rfl) (by kernel_rfl) (by kernel_rfl) (fun _ _ _ h => h) (by kernel_rfl) (by intro w' hS'; obtain ⟨⟨z0, z1, z2, z3⟩, zb⟩ := hS'; go_simp <;> rfl) yS ?_
                try simp only [List.getElem_toArray, List.getElem_cons_succ, List.getElem_cons_zero, Act.put, List.setIfInBounds_toArray, List.set_cons_zero, List.set_cons_succ]
                refine wpAnyL_take 1 rfl (by kernel_rfl) (by kernel_rfl) (by kernel_rfl) (by kernel_rfl) (fun _ _ _ h => h) (by kernel_rfl) (by intro w' hS'; obtain ⟨⟨z0, z1, z2, z3⟩, zb⟩ := hS'; go_simp <;> rfl) yS ?_
                try simp only [List.getElem_toArray, List.getElem_cons_succ, List.getElem_cons_zero, Act.put, List.setIfInBounds_toArray, List.set_cons_zero, List.set_cons_succ]
                refine wpAnyL_take 2 rfl (by kernel_rfl) (by kernel_rfl) (by kernel_rfl) (by kernel_rfl) (fun _ _ _ h => h) (by kernel_rfl) (by intro w' hS'; obtain ⟨⟨z0, z1, z2, z3⟩, zb⟩ := hS'; go_simp <;> rfl) yS ?_
                try simp only [List.getElem_toArray, List.getElem_cons_succ, List.getElem_cons_zero, Act.put, List.setIfInBounds_toArray, List.set_cons_zero, List.set_cons_succ]
                refine wpAnyL_take 3 rfl (by kernel_rfl) (by kernel_rfl) (by kernel_rfl) (by kernel_rfl) (fun _ _ _ h => h) (by kernel_rfl) (by intro w' hS'; obtain ⟨⟨z0, z1, z2, z3⟩, zb⟩ := hS'; go_simp <;> rfl) yS ?_
                try simp only [List.getElem_toArray, List.getElem_cons_succ, List.getElem_cons_zero, Act.put, List.setIfInBounds_toArray, List.set_cons_zero, List.set_cons_succ]
                refine wpAnyL_skip 4 rfl (by kernel_rfl) (by kernel_rfl) (by kernel_rfl) (by kernel_rfl) (fun _ _ _ h => h) (by kernel_rfl) yS ?_
                try simp only [List.getElem_toArray, List.getElem_cons_succ, List.getElem_cons_zero, Act.put, List.setIfInBounds_toArray, List.set_cons_zero, List.set_cons_succ]
                refine wpAnyL_skip 5 rfl (by kernel_rfl) (by kernel_rfl) (by kernel_rfl) (by kernel_rfl) (fun _ _ _ h => h) (by kernel_rfl) yS ?_
                try simp only [List.getElem_toArray, List.getElem_cons_succ, List.getElem_cons_zero, Act.put, List.setIfInBounds_toArray, List.set_cons_zero, List.set_cons_succ]
                refine wpAnyL_skip 6 rfl (by kernel_rfl) (by kernel_rfl) (by kernel_rfl) (by kernel_rfl) (fun _ _ _ h => h) (by kernel_rfl) yS ?_
                try simp only [List.getElem_toArray, List.getElem_cons_succ, List.getElem_cons_zero, Act.put, List.setIfInBounds_toArray, List.set_cons_zero, List.set_cons_succ]
                refine wpAnyL_take 7 rfl (by kernel_rfl) (by kernel_rfl) (by kernel_rfl) (by kernel_rfl) (fun _ _ _ h => h) (by kernel_rfl) (by intro w' hS'; obtain ⟨⟨z0, z1, z2, z3⟩, zb⟩ := hS'; go_simp <;> rfl) yS ?_
                try simp only [List.getElem_toArray, List.getElem_cons_succ, List.getElem_cons_zero, Act.put, List.setIfInBounds_toArray, List.set_cons_zero, List.set_cons_succ]
                refine wpAnyL_take 8 rfl (by kernel_rfl) (by kernel_rfl) (by kernel_rfl) (by kernel_rfl) (fun _ _ _ h => h) (by kernel_rfl) (by intro w' hS'; obtain ⟨⟨z0, z1, z2, z3⟩, zb⟩ := hS'; go_simp <;> rfl) yS ?_
                try simp only [List.getElem_toArray, List.getElem_cons_succ, List.getElem_cons_zero, Act.put, List.setIfInBounds_toArray, List.set_cons_zero, List.set_cons_succ]
                refine wpAnyL_skip 9 rfl (by kernel_rfl) (by kernel_rfl) (by kernel_rfl) (by kernel_rfl) (fun _ _ _ h => h) (by kernel_rfl) yS ?_
                try simp only [List.getElem_toArray, List.getElem_cons_succ, List.getElem_cons_zero, Act.put, List.setIfInBounds_toArray, List.set_cons_zero, List.set_cons_succ]
                refine wpAnyL_skip 10 rfl (by kernel_rfl) (by kernel_rfl) (by kernel_rfl) (by kernel_rfl) (fun _ _ _ h => h) (by kernel_rfl) yS ?_
                try simp only [List.getElem_toArray, List.getElem_cons_succ, List.getElem_cons_zero, Act.put, List.setIfInBounds_toArray, List.set_cons_zero, List.set_cons_succ]
                refine wpAnyL_skip 11 rfl (by kernel_rfl) (by kernel_rfl) (by kernel_rfl) (by kernel_rfl) (fun _ _ _ h => h) (by kernel_rfl) yS ?_
                try simp only [List.getElem_toArray, List.getElem_cons_succ, List.getElem_cons_zero, Act.put, List.setIfInBounds_toArray, List.set_cons_zero, List.set_cons_succ]
                refine wpAnyL_skip 12 rfl (by kernel_rfl) (by kernel_rfl) (by kernel_rfl) (by kernel_rfl) (fun _ _ _ h => h) (by kernel_rfl) yS ?_
                try simp only [List.getElem_toArray, List.getElem_cons_succ, List.getElem_cons_zero, Act.put, List.setIfInBounds_toArray, List.set_cons_zero, List.set_cons_succ]
                refine wpAnyL_skip 13 rfl (by kernel_rfl) (by kernel_rfl) (by kernel_rfl) (by kernel_rfl) (fun _ _ _ h => h) (by kernel_rfl) yS ?_
                try simp only [List.getElem_toArray, List.getElem_cons_succ, List.getElem_cons_zero, Act.put, List.setIfInBounds_toArray, List.set_cons_zero, List.set_cons_succ]
                refine wpAnyL_skip 14 rfl (by kernel_rfl) (by kernel_rfl) (by kernel_rfl) (by kernel_rfl) (fun _ _ _ h => h) (by kernel_rfl) yS ?_
                try simp only [List.getElem_toArray, List.getElem_cons_succ, List.getElem_cons_zero, Act.put, List.setIfInBounds_toArray, List.set_cons_zero, List.set_cons_succ]
                refine wpAnyL_skip 15 rfl (by kernel_rfl) (by kernel_rfl) (by kernel_rfl) (by kernel_rfl) (fun _ _ _ h => h) (by kernel_rfl) yS ?_
                try simp only [List.getElem_toArray, List.getElem_cons_succ, List.getElem_cons_zero, Act.put, List.setIfInBounds_toArray, List.set_cons_zero, List.set_cons_succ]
                refine wpAnyL_skip 16 rfl (by kernel_rfl) (by kernel_rfl) (by kernel_rfl) (by kernel_rfl) (fun _ _ _ h => h) (by kernel_rfl) yS ?_
                try simp only [List.getElem_toArray, List.getElem_cons_succ, List.getElem_cons_zero, Act.put, List.setIfInBounds_toArray, List.set_cons_zero, List.set_cons_succ]
                refine wpAnyL_take 17 rfl (by kernel_rfl) (by kernel_rfl) (by kernel_rfl) (by kernel_rfl) (fun _ _ _ h => h) (by kernel_rfl) (by intro w' hS'; obtain ⟨⟨z0, z1, z2, z3⟩, zb⟩ := hS'; go_simp <;> rfl) yS ?_
                try simp only [List.getElem_toArray, List.getElem_cons_succ, List.getElem_cons_zero, Act.put, List.setIfInBounds_toArray, List.set_cons_zero, List.set_cons_succ]
                refine wpAnyL_take 18 rfl (by kernel_rfl) (by kernel_rfl) (by kernel_rfl) (by kernel_rfl) (fun _ _ _ h => h) (by kernel_rfl) (by intro w' hS'; obtain ⟨⟨z0, z1, z2, z3⟩, zb⟩ := hS'; go_simp <;> rfl) yS ?_
                try simp only [List.getElem_toArray, List.getElem_cons_succ, List.getElem_cons_zero, Act.put, List.setIfInBounds_toArray, List.set_cons_zero, List.set_cons_succ]
                refine wpAnyL_done (by kernel_rfl) (NoPanic.normal ?_) _
                have hbq := yS.2
                generalize w7.drew = w8 at *
                have bx8 := (hbq.block Nb (Array.getElem?_eq_some_iff.1 bxw7).1).trans bxw7
                have b2 : w8.cell? ⟨Nb, 2, none⟩ = some (.int .i64 tg) := by rw [cells_of_block bx8]; rfl
                obtain ⟨-, -, l2, -⟩ := cx w8 hbq
                obtain ⟨-, -, e2, -⟩ := cy w8 hbq
                have hbw8 := hbw7.trans (hbq.mono hbw7.size)
                have hRk8 := hRk7.below hbq
                clear bx8 bxw7 cx cy hRk7 hRw7 hbq yS
                have hgb : (yg == xg) = true := by rw [hgr]; simp
                go_wp2
                go_quiet (fail)
                have hbw9 := below_drewN hbw8 nq
                have hRk9 := hRk8.below (below_drewN (Below.refl _ w8) nq)
                clear b2 l2 e2 hbw8 hRk8 hgb
                generalize w8.drewN nq = w9 at *
                have kO := fun (g : Int) (W : World) (h : Below w9.heap.size w9 W) => owned_of kl _ g W (hRk9.below h).cv
                have kI := fun (g : Int) (v : Value) (W : World) (h : Rd spE W v (ownM kl g)) => refIn_of (ownM kl g) v key W h.sv (hofm g)
                clear hofm
                go_wp2
                obtain ⟨wz, hwz⟩ : ∃ wz, wz = wr := ⟨_, rfl⟩
                subst hwz
                obtain ⟨GK, hGK⟩ : ∃ GK, GK = gk := ⟨_, rfl⟩
                go_loopg [15, 16] 16 (fun gg s15 s16 wr => ∃ (j : Nat) (n : Int), j + gg = 16 ∧ s16 = .int .i64 (((j + 1 : Nat)) : Int) ∧ s15 = .int .i64 n ∧ Below w9.heap.size w9 wr ∧ Hid (n = if yg ≤ (j : Int) then 1 else 0))
                case atStart => exact ⟨0, 0, by simp, rfl, rfl, Below.refl _ _, by show _ = _; rw [if_neg (by omega)]⟩
                case round =>
                  obtain ⟨j, n, hjg, rfl, rfl, hbj, HN⟩ := hrel
                  by_cases hj : j < 16
                  · obtain ⟨J, hJ⟩ : ∃ J : Int, J = ((j + 1 : Nat) : Int) := ⟨_, rfl⟩
                    have hJ1 : J ≤ 16 := by omega
                    have kO1 := kO J wr hbj
                    have kI1 := kI J
                    rw [hown J] at kI1
                    have HN2 : Hid ((if yg ≤ ((j + 1 : Nat) : Int) then (1 : Int) else 0) = if yg = J then n + 1 else n) := by
                      show _ = _
                      rw [HN.out, hJ]
                      split <;> split <;> split <;> omega
                    have hn01 : n = 0 ∨ n = 1 := by rw [HN.out]; split <;> simp
                    have hJw : IntKind.i64.wrap (J + 1) = J + 1 := IntWalk.i64_in _ (by omega)
                    have HJ2 : Hid (J + 1 = ((j + 1 + 1 : Nat) : Int)) := by show _ = _; omega
                    rw [← hJ]
                    clear hJ HN kO kI
                    go_wp2_with fail
                    refine kO1.mono ?_
                    rintro e wA ⟨vA, rfl, hRA, hbA'⟩
                    have hbA := hbj.trans (hbA'.mono hbj.size)
                    have kI2 := kI1 vA wA hRA
                    clear kO1 kI1 hRA hbA'
                    by_cases hyJ : yg = J
                    · rw [decide_eq_true hyJ] at kI2
                      rw [if_pos hyJ] at HN2
                      have hnw : IntKind.i64.wrap (n + 1) = n + 1 := IntWalk.i64_in _ (by omega)
                      clear hyJ
                      go_wp2_with fail
                      refine kI2.mono ?_
                      rintro e wB ⟨rfl, hbB'⟩
                      clear kI2 hn01
                      go_wp2
                      go_roundg (gk - 1)
                      case measure => omega
                      case rel => exact ⟨j + 1, _, by omega, by rw [HJ2.out], rfl, hbA.trans (hbB'.mono hbA.size), HN2.out.symm⟩
                    · rw [decide_eq_false hyJ] at kI2
                      rw [if_neg hyJ] at HN2
                      clear hyJ
                      go_wp2_with fail
                      refine kI2.mono ?_
                      rintro e wB ⟨rfl, hbB'⟩
                      clear kI2 hn01
                      go_wp2
                      go_roundg (gk - 1)
                      case measure => omega
                      case rel => exact ⟨j + 1, _, by omega, by rw [HJ2.out], rfl, hbA.trans (hbB'.mono hbA.size), HN2.out.symm⟩
                  · obtain rfl : j = 16 := by omega
                    obtain rfl : n = 1 := by rw [HN.out, if_pos (by omega)]
                    have hbz := hbw9.trans (hbj.mono hbw9.size)
                    have hRz := hRk9.below hbj
                    clear kO kI HN
                    go_wp2
                    go_roundg (GK - 1)
                    case measure => omega
                    case rel => exact ⟨i + 1, _, kl, by omega, by go_num, rfl, hRz, hK, hbz⟩
              · have hcb : (c == 0) = false := by simpa using hc
                clear hM hRk hc
                go_wp2
                go_roundg (gk - 1)
                case measure => omega
                case rel => exact ⟨i + 1, _, l, by omega, by go_num, rfl, hRw3, hC, hbw3⟩
            · by_cases hd1 : td = 1
              · subst hd1
                clear hd0
                obtain ⟨⟨kl, c⟩, hM⟩ : ∃ M, M = mergeM l tk := ⟨_, rfl⟩
                have kt := cmerge_of l lv tk _ hRw2
                rw [← hM] at kt
                go_wp2_with fail
                generalize w2.alloc (.cells #[] 42) = w2b at *
                refine kt.mono ?_
                rintro e w3 ⟨⟨kv, rfl, hRk⟩, hbw3'⟩
                dsimp only at hRk
                have hbw3 := hbw2.trans (hbw3'.mono hbw2.size)
                have bxw3 := (hbw3'.block Nb (Array.getElem?_eq_some_iff.1 bxw2).1).trans bxw2
                have hRw3 := hRw2.below hbw3'
                clear kt hbw3' hRw2 bxw2
                by_cases hc : c = 0
                · subst hc
                  obtain ⟨hK, hver0, hrel2⟩ := merge_ok' hM.symm
                  have hver : ver kl = V1 := by rw [hver0, hV0, hV1]
                  clear hver0 hM
                  obtain ⟨now, y, hpn, hyn, hyk⟩ := hK.place key
                  have hfk : findM kl key = some now := by unfold findM; rw [mayC_iff.2 hK, decide_eq_true hkey.out, Bool.and_self, if_pos rfl]; exact hpn
                  have hym := List.mem_of_getElem? hyn
                  have hgr := hrel2 key _ y hxm hxk hym hyk
                  have hyo := hK.ok y hym
                  have hown : ∀ g : Int, isIn (ownM kl g) key = decide (y.2.1 = g) := fun g => hK.own_one hym hyk g
                  have hofm : ∀ g : Int, (ownM kl g).length ≤ 1000000 := fun g => by have := (formB_iff.1 (hK.own_form g)).1; omega
                  obtain ⟨⟨y1, y2⟩, yg, ye⟩ := y
                  dsimp only at hgr hyk
                  simp only [rOk, gOk, Bool.and_eq_true, decide_eq_true_eq] at hyo
                  obtain ⟨yg1, yg2⟩ := hyo.1.2
                  clear hyo hrel2
                  have k1 := find_of kl kv key w3 hRk.cv
                  rw [hfk] at k1
                  unfold findV at k1
                  go_wp2_with fail
                  refine k1.mono ?_
                  rintro e w4 ⟨rfl, hbw4'⟩
                  have hbw4 := hbw3.trans (hbw4'.mono hbw3.size)
                  have bxw4 := (hbw4'.block Nb (Array.getElem?_eq_some_iff.1 bxw3).1).trans bxw3
                  have hRw4 := hRw3.below hbw4'
                  have hRk4 := hRk.below hbw4'
                  have k2 := rmay_of kl kv w4 hRk4.cv
                  rw [mayC_iff.2 hK] at k2
                  clear k1 hbw4'
                  go_wp2_with fail
                  refine k2.mono ?_
                  rintro e w5 ⟨rfl, hbw5'⟩
                  have hbw5 := hbw4.trans (hbw5'.mono hbw4.size)
                  have bxw5 := (hbw5'.block Nb (Array.getElem?_eq_some_iff.1 bxw4).1).trans bxw4
                  have hRw5 := hRw4.below hbw5'
                  have hRk5 := hRk4.below hbw5'
                  have k3 := version_of kl kv w5 hRk5.cv
                  rw [show verC kl = V1 by unfold verC; rw [if_pos (mayC_iff.2 hK)]; exact hver] at k3
                  clear k2 hbw5' hRw4 hRk4
                  go_wp2_with fail
                  refine k3.mono ?_
                  rintro e w6 ⟨rfl, hbw6'⟩
                  have hbw6 := hbw5.trans (hbw6'.mono hbw5.size)
                  have bxw6 := (hbw6'.block Nb (Array.getElem?_eq_some_iff.1 bxw5).1).trans bxw5
                  have hRw6 := hRw5.below hbw6'
                  have hRk6 := hRk5.below hbw6'
                  have k4 := version_of l lv w6 hRw6.cv
                  rw [show verC l = V0 by unfold verC; rw [if_pos (mayC_iff.2 hC)]; exact hV0] at k4
                  clear k3 hbw6' hRw5 hRk5
                  go_wp2_with fail
                  refine k4.mono ?_
                  rintro e w7 ⟨rfl, hbw7'⟩
                  have hbw7 := hbw6.trans (hbw7'.mono hbw6.size)
                  have bxw7 := (hbw7'.block Nb (Array.getElem?_eq_some_iff.1 bxw6).1).trans bxw6
                  have hRw7 := hRw6.below hbw7'
                  have hRk7 := hRk6.below hbw7'
                  clear k4 hbw7' hRw6 hRk6 hbw6 hbw5 hbw4 bxw6 bxw5 bxw4
                  obtain ⟨la, lc, hlv, -⟩ := id hRw7
                  have hcvl := hRw7.cv
                  rw [hlv] at hcvl
                  obtain ⟨lb, lo, rfl, cx⟩ := cv_at hcvl hxw
                  obtain ⟨ka, kc, hkv, -⟩ := id hRk7
                  have hcvk := hRk7.cv
                  rw [hkv] at hcvk
                  obtain ⟨kb, ko, rfl, cy⟩ := cv_at hcvk hyn
                  dsimp only at cx cy
                  have hwl : (was : Int) < (l.length : Int) := by have := (List.getElem?_eq_some_iff.1 hxw).1; omega
                  have hnl : (now : Int) < (kl.length : Int) := by have := (List.getElem?_eq_some_iff.1 hyn).1; omega
                  clear hcvl hcvk
                  subst hlv hkv
                  go_wp2_with fail
                  have cl21 : ∀ W, Below w7.heap.size w7 W → (W.cell? ⟨Nb, 0, none⟩ = some (.int .i64 1) ∧ W.cell? ⟨Nb, 1, none⟩ = some (.string (bk tk)) ∧ W.cell? ⟨lb, lo + was * 4, none⟩ = some (.string (bk x1)) ∧ W.cell? ⟨lb, lo + was * 4 + 1, none⟩ = some (.string (bk x2))) := fun W hW => by
                    have hbk := (hW.block Nb (Array.getElem?_eq_some_iff.1 bxw7).1).trans bxw7
                    obtain ⟨a0, a1, -, -⟩ := cx W hW
                    exact ⟨by rw [cells_of_block hbk]; rfl, by rw [cells_of_block hbk]; rfl, a0, a1⟩
                  refine wp_region_L (fun W => (W.cell? ⟨Nb, 0, none⟩ = some (.int .i64 1) ∧ W.cell? ⟨Nb, 1, none⟩ = some (.string (bk tk)) ∧ W.cell? ⟨lb, lo + was * 4, none⟩ = some (.string (bk x1)) ∧ W.cell? ⟨lb, lo + was * 4 + 1, none⟩ = some (.string (bk x2))) ∧ Below w7.heap.size w7 W) [] (by kernel_rfl) ?_
                  have yS : (fun W => (W.cell? ⟨Nb, 0, none⟩ = some (.int .i64 1) ∧ W.cell? ⟨Nb, 1, none⟩ = some (.string (bk tk)) ∧ W.cell? ⟨lb, lo + was * 4, none⟩ = some (.string (bk x1)) ∧ W.cell? ⟨lb, lo + was * 4 + 1, none⟩ = some (.string (bk x2))) ∧ Below w7.heap.size w7 W) w7.drew := ⟨cl21 _ (Below.refl _ _).drew, (Below.refl _ _).drew⟩
                  clear cl21
                  refine wpAnyL_take 0 rfl (by kernel_rfl) (by kernel_rfl) (by kernel_rfl) (by kernel_rfl) (fun _ _ _ h => h) (by kernel_rfl) (by intro w' hS'; obtain ⟨⟨z0, z1, z2, z3⟩, zb⟩ := hS'; go_simp <;> rfl) yS ?_
                  try simp only [List.getElem_toArray, List.getElem_cons_succ, List.getElem_cons_zero, Act.put, List.setIfInBounds_toArray, List.set_cons_zero, List.set_cons_succ]
                  refine wpAnyL_take 1 rfl (by kernel_rfl) (by kernel_rfl) (by kernel_rfl) (by kernel_rfl) (fun _ _ _ h => h) (by kernel_rfl) (by intro w' hS'; obtain ⟨⟨z0, z1, z2, z3⟩, zb⟩ := hS'; go_simp <;> rfl) yS ?_
                  try simp only [List.getElem_toArray, List.getElem_cons_succ, List.getElem_cons_zero, Act.put, List.setIfInBounds_toArray, List.set_cons_zero, List.set_cons_succ]
                  refine wpAnyL_take 2 rfl (by kernel_rfl) (by kernel_rfl) (by kernel_rfl) (by kernel_rfl) (fun _ _ _ h => h) (by kernel_rfl) (by intro w' hS'; obtain ⟨⟨z0, z1, z2, z3⟩, zb⟩ := hS'; go_simp <;> rfl) yS ?_
                  try simp only [List.getElem_toArray, List.getElem_cons_succ, List.getElem_cons_zero, Act.put, List.setIfInBounds_toArray, List.set_cons_zero, List.set_cons_succ]
                  refine wpAnyL_take 3 rfl (by kernel_rfl) (by kernel_rfl) (by kernel_rfl) (by kernel_rfl) (fun _ _ _ h => h) (by kernel_rfl) (by intro w' hS'; obtain ⟨⟨z0, z1, z2, z3⟩, zb⟩ := hS'; go_simp <;> rfl) yS ?_
                  try simp only [List.getElem_toArray, List.getElem_cons_succ, List.getElem_cons_zero, Act.put, List.setIfInBounds_toArray, List.set_cons_zero, List.set_cons_succ]
                  refine wpAnyL_take 4 rfl (by kernel_rfl) (by kernel_rfl) (by kernel_rfl) (by kernel_rfl) (fun _ _ _ h => h) (by kernel_rfl) (by intro w' hS'; obtain ⟨⟨z0, z1, z2, z3⟩, zb⟩ := hS'; go_simp <;> rfl) yS ?_
                  try simp only [List.getElem_toArray, List.getElem_cons_succ, List.getElem_cons_zero, Act.put, List.setIfInBounds_toArray, List.set_cons_zero, List.set_cons_succ]
                  refine wpAnyL_take 5 rfl (by kernel_rfl) (by kernel_rfl) (by kernel_rfl) (by kernel_rfl) (fun _ _ _ h => h) (by kernel_rfl) (by intro w' hS'; obtain ⟨⟨z0, z1, z2, z3⟩, zb⟩ := hS'; go_simp <;> rfl) yS ?_
                  try simp only [List.getElem_toArray, List.getElem_cons_succ, List.getElem_cons_zero, Act.put, List.setIfInBounds_toArray, List.set_cons_zero, List.set_cons_succ]
                  refine wpAnyL_take 6 rfl (by kernel_rfl) (by kernel_rfl) (by kernel_rfl) (by kernel_rfl) (fun _ _ _ h => h) (by kernel_rfl) (by intro w' hS'; obtain ⟨⟨z0, z1, z2, z3⟩, zb⟩ := hS'; go_simp <;> rfl) yS ?_
                  try simp only [List.getElem_toArray, List.getElem_cons_succ, List.getElem_cons_zero, Act.put, List.setIfInBounds_toArray, List.set_cons_zero, List.set_cons_succ]
                  refine wpAnyL_take 7 rfl (by kernel_rfl) (by kernel_rfl) (by kernel_rfl) (by kernel_rfl) (fun _ _ _ h => h) (by kernel_rfl) (by intro w' hS'; obtain ⟨⟨z0, z1, z2, z3⟩, zb⟩ := hS'; go_simp <;> rfl) yS ?_
                  try simp only [List.getElem_toArray, List.getElem_cons_succ, List.getElem_cons_zero, Act.put, List.setIfInBounds_toArray, List.set_cons_zero, List.set_cons_succ]
                  refine wpAnyL_take 8 rfl (by kernel_rfl) (by kernel_rfl) (by kernel_rfl) (by kernel_rfl) (fun _ _ _ h => h) (by kernel_rfl) (by intro w' hS'; obtain ⟨⟨z0, z1, z2, z3⟩, zb⟩ := hS'; go_simp <;> rfl) yS ?_
                  try simp only [List.getElem_toArray, List.getElem_cons_succ, List.getElem_cons_zero, Act.put, List.setIfInBounds_toArray, List.set_cons_zero, List.set_cons_succ]
                  refine wpAnyL_skip 9 rfl (by kernel_rfl) (by kernel_rfl) (by kernel_rfl) (by kernel_rfl) (fun _ _ _ h => h) (by kernel_rfl) yS ?_
                  try simp only [List.getElem_toArray, List.getElem_cons_succ, List.getElem_cons_zero, Act.put, List.setIfInBounds_toArray, List.set_cons_zero, List.set_cons_succ]
                  refine wpAnyL_skip 10 rfl (by kernel_rfl) (by kernel_rfl) (by kernel_rfl) (by kernel_rfl) (fun _ _ _ h => h) (by kernel_rfl) yS ?_
                  try simp only [List.getElem_toArray, List.getElem_cons_succ, List.getElem_cons_zero, Act.put, List.setIfInBounds_toArray, List.set_cons_zero, List.set_cons_succ]
                  refine wpAnyL_skip 11 rfl (by kernel_rfl) (by kernel_rfl) (by kernel_rfl) (by kernel_rfl) (fun _ _ _ h => h) (by kernel_rfl) yS ?_
                  try simp only [List.getElem_toArray, List.getElem_cons_succ, List.getElem_cons_zero, Act.put, List.setIfInBounds_toArray, List.set_cons_zero, List.set_cons_succ]
                  refine wpAnyL_skip 12 rfl (by kernel_rfl) (by kernel_rfl) (by kernel_rfl) (by kernel_rfl) (fun _ _ _ h => h) (by kernel_rfl) yS ?_
                  try simp only [List.getElem_toArray, List.getElem_cons_succ, List.getElem_cons_zero, Act.put, List.setIfInBounds_toArray, List.set_cons_zero, List.set_cons_succ]
                  refine wpAnyL_skip 13 rfl (by kernel_rfl) (by kernel_rfl) (by kernel_rfl) (by kernel_rfl) (fun _ _ _ h => h) (by kernel_rfl) yS ?_
                  try simp only [List.getElem_toArray, List.getElem_cons_succ, List.getElem_cons_zero, Act.put, List.setIfInBounds_toArray, List.set_cons_zero, List.set_cons_succ]
                  refine wpAnyL_skip 14 rfl (by kernel_rfl) (by kernel_rfl) (by kernel_rfl) (by kernel_rfl) (fun _ _ _ h => h) (by kernel_rfl) yS ?_
                  try simp only [List.getElem_toArray, List.getElem_cons_succ, List.getElem_cons_zero, Act.put, List.setIfInBounds_toArray, List.set_cons_zero, List.set_cons_succ]
                  refine wpAnyL_skip 15 rfl (by kernel_rfl) (by kernel_rfl) (by kernel_rfl) (by kernel_rfl) (fun _ _ _ h => h) (by kernel_rfl) yS ?_
                  try simp only [List.getElem_toArray, List.getElem_cons_succ, List.getElem_cons_zero, Act.put, List.setIfInBounds_toArray, List.set_cons_zero, List.set_cons_succ]
                  refine wpAnyL_skip 16 rfl (by kernel_rfl) (by kernel_rfl) (by kernel_rfl) (by kernel_rfl) (fun _ _ _ h => h) (by kernel_rfl) yS ?_
                  try simp only [List.getElem_toArray, List.getElem_cons_succ, List.getElem_cons_zero, Act.put, List.setIfInBounds_toArray, List.set_cons_zero, List.set_cons_succ]
                  refine wpAnyL_take 17 rfl (by kernel_rfl) (by kernel_rfl) (by kernel_rfl) (by kernel_rfl) (fun _ _ _ h => h) (by kernel_rfl) (by intro w' hS'; obtain ⟨⟨z0, z1, z2, z3⟩, zb⟩ := hS'; go_simp <;> rfl) yS ?_
                  try simp only [List.getElem_toArray, List.getElem_cons_succ, List.getElem_cons_zero, Act.put, List.setIfInBounds_toArray, List.set_cons_zero, List.set_cons_succ]
                  refine wpAnyL_take 18 rfl (by kernel_rfl) (by kernel_rfl) (by kernel_rfl) (by kernel_rfl) (fun _ _ _ h => h) (by kernel_rfl) (by intro w' hS'; obtain ⟨⟨z0, z1, z2, z3⟩, zb⟩ := hS'; go_simp <;> rfl) yS ?_
                  try simp only [List.getElem_toArray, List.getElem_cons_succ, List.getElem_cons_zero, Act.put, List.setIfInBounds_toArray, List.set_cons_zero, List.set_cons_succ]
                  refine wpAnyL_done (by kernel_rfl) (NoPanic.normal ?_) _
                  have hbq := yS.2
                  generalize w7.drew = w8 at *
                  have bx8 := (hbq.block Nb (Array.getElem?_eq_some_iff.1 bxw7).1).trans bxw7
                  have b2 : w8.cell? ⟨Nb, 2, none⟩ = some (.int .i64 tg) := by rw [cells_of_block bx8]; rfl
                  obtain ⟨-, -, l2, -⟩ := cx w8 hbq
                  obtain ⟨-, -, e2, -⟩ := cy w8 hbq
                  have hbw8 := hbw7.trans (hbq.mono hbw7.size)
                  have hRk8 := hRk7.below hbq
                  clear bx8 bxw7 cx cy hRk7 hRw7 hbq yS
                  have hgb : (yg == xg) = true := by rw [hgr]; simp
                  go_wp2
                  go_quiet (fail)
                  have hbw9 := below_drewN hbw8 nq
                  have hRk9 := hRk8.below (below_drewN (Below.refl _ w8) nq)
                  clear b2 l2 e2 hbw8 hRk8 hgb
                  generalize w8.drewN nq = w9 at *
                  have kO := fun (g : Int) (W : World) (h : Below w9.heap.size w9 W) => owned_of kl _ g W (hRk9.below h).cv
                  have kI := fun (g : Int) (v : Value) (W : World) (h : Rd spE W v (ownM kl g)) => refIn_of (ownM kl g) v key W h.sv (hofm g)
                  clear hofm
                  go_wp2
                  obtain ⟨wz, hwz⟩ : ∃ wz, wz = wr := ⟨_, rfl⟩
                  subst hwz
                  obtain ⟨GK, hGK⟩ : ∃ GK, GK = gk := ⟨_, rfl⟩
                  go_loopg [15, 16] 16 (fun gg s15 s16 wr => ∃ (j : Nat) (n : Int), j + gg = 16 ∧ s16 = .int .i64 (((j + 1 : Nat)) : Int) ∧ s15 = .int .i64 n ∧ Below w9.heap.size w9 wr ∧ Hid (n = if yg ≤ (j : Int) then 1 else 0))
                  case atStart => exact ⟨0, 0, by simp, rfl, rfl, Below.refl _ _, by show _ = _; rw [if_neg (by omega)]⟩
                  case round =>
                    obtain ⟨j, n, hjg, rfl, rfl, hbj, HN⟩ := hrel
                    by_cases hj : j < 16
                    · obtain ⟨J, hJ⟩ : ∃ J : Int, J = ((j + 1 : Nat) : Int) := ⟨_, rfl⟩
                      have hJ1 : J ≤ 16 := by omega
                      have kO1 := kO J wr hbj
                      have kI1 := kI J
                      rw [hown J] at kI1
                      have HN2 : Hid ((if yg ≤ ((j + 1 : Nat) : Int) then (1 : Int) else 0) = if yg = J then n + 1 else n) := by
                        show _ = _
                        rw [HN.out, hJ]
                        split <;> split <;> split <;> omega
                      have hn01 : n = 0 ∨ n = 1 := by rw [HN.out]; split <;> simp
                      have hJw : IntKind.i64.wrap (J + 1) = J + 1 := IntWalk.i64_in _ (by omega)
                      have HJ2 : Hid (J + 1 = ((j + 1 + 1 : Nat) : Int)) := by show _ = _; omega
                      rw [← hJ]
                      clear hJ HN kO kI
                      go_wp2_with fail
                      refine kO1.mono ?_
                      rintro e wA ⟨vA, rfl, hRA, hbA'⟩
                      have hbA := hbj.trans (hbA'.mono hbj.size)
                      have kI2 := kI1 vA wA hRA
                      clear kO1 kI1 hRA hbA'
                      by_cases hyJ : yg = J
                      · rw [decide_eq_true hyJ] at kI2
                        rw [if_pos hyJ] at HN2
                        have hnw : IntKind.i64.wrap (n + 1) = n + 1 := IntWalk.i64_in _ (by omega)
                        clear hyJ
                        go_wp2_with fail
                        refine kI2.mono ?_
                        rintro e wB ⟨rfl, hbB'⟩
                        clear kI2 hn01
                        go_wp2
                        go_roundg (gk - 1)
                        case measure => omega
                        case rel => exact ⟨j + 1, _, by omega, by rw [HJ2.out], rfl, hbA.trans (hbB'.mono hbA.size), HN2.out.symm⟩
                      · rw [decide_eq_false hyJ] at kI2
                        rw [if_neg hyJ] at HN2
                        clear hyJ
                        go_wp2_with fail
                        refine kI2.mono ?_
                        rintro e wB ⟨rfl, hbB'⟩
                        clear kI2 hn01
                        go_wp2
                        go_roundg (gk - 1)
                        case measure => omega
                        case rel => exact ⟨j + 1, _, by omega, by rw [HJ2.out], rfl, hbA.trans (hbB'.mono hbA.size), HN2.out.symm⟩
                    · obtain rfl : j = 16 := by omega
                      obtain rfl : n = 1 := by rw [HN.out, if_pos (by omega)]
                      have hbz := hbw9.trans (hbj.mono hbw9.size)
                      have hRz := hRk9.below hbj
                      clear kO kI HN
                      go_wp2
                      go_roundg (GK - 1)
                      case measure => omega
                      case rel => exact ⟨i + 1, _, kl, by omega, by go_num, rfl, hRz, hK, hbz⟩
                · have hcb : (c == 0) = false := by simpa using hc
                  clear hM hRk hc
                  go_wp2
                  go_roundg (gk - 1)
                  case measure => omega
                  case rel => exact ⟨i + 1, _, l, by omega, by go_num, rfl, hRw3, hC, hbw3⟩
              · have e0 : (td == 0) = false := by simpa using hd0
                have e1 : (td == 1) = false := by simpa using hd1
                obtain ⟨⟨kl, c⟩, hM⟩ : ∃ M, M = moveM l tk tg := ⟨_, rfl⟩
                have kt := cmove_of l lv tk tg _ hRw2
                rw [← hM] at kt
                go_wp2_with fail
                generalize w2.alloc (.cells #[] 42) = w2b at *
                refine kt.mono ?_
                rintro e w3 ⟨⟨kv, rfl, hRk⟩, hbw3'⟩
                dsimp only at hRk
                have hbw3 := hbw2.trans (hbw3'.mono hbw2.size)
                have bxw3 := (hbw3'.block Nb (Array.getElem?_eq_some_iff.1 bxw2).1).trans bxw2
                have hRw3 := hRw2.below hbw3'
                clear kt hbw3' hRw2 bxw2
                by_cases hc : c = 0
                · subst hc
                  obtain ⟨hK, hver0, hrel2⟩ := move_ok hM.symm
                  have hver : ver kl = V1 := by rw [hver0, hV0, hV1]
                  clear hver0 hM
                  cases hmv : has (x1, x2) tk with
                  | true =>
                    replace hrel2 : ∀ key r s, r ∈ l → has r.1 key = true → s ∈ kl → has s.1 key = true → r = ((x1, x2), xg, xe) → s.2.1 = tg := fun key r s a b c d e => by
                      have := hrel2 key r s a b c d
                      rw [e] at this
                      rw [if_pos hmv] at this
                      exact this
                    replace hrel2 : ∀ key r s, r ∈ l → has r.1 key = true → s ∈ kl → has s.1 key = true → s.2.1 = if r = ((x1, x2), xg, xe) then tg else s.2.1 := fun key r s a b c d => by
                      split
                      · rename_i h; exact hrel2 key r s a b c d h
                      · rfl
                    obtain ⟨now, y, hpn, hyn, hyk⟩ := hK.place key
                    have hfk : findM kl key = some now := by unfold findM; rw [mayC_iff.2 hK, decide_eq_true hkey.out, Bool.and_self, if_pos rfl]; exact hpn
                    have hym := List.mem_of_getElem? hyn
                    have hgr := hrel2 key _ y hxm hxk hym hyk
                    have hyo := hK.ok y hym
                    have hown : ∀ g : Int, isIn (ownM kl g) key = decide (y.2.1 = g) := fun g => hK.own_one hym hyk g
                    have hofm : ∀ g : Int, (ownM kl g).length ≤ 1000000 := fun g => by have := (formB_iff.1 (hK.own_form g)).1; omega
                    obtain ⟨⟨y1, y2⟩, yg, ye⟩ := y
                    dsimp only at hgr hyk
                    rw [if_pos rfl] at hgr
                    simp only [rOk, gOk, Bool.and_eq_true, decide_eq_true_eq] at hyo
                    obtain ⟨yg1, yg2⟩ := hyo.1.2
                    clear hyo hrel2
                    have k1 := find_of kl kv key w3 hRk.cv
                    rw [hfk] at k1
                    unfold findV at k1
                    go_wp2_with fail
                    refine k1.mono ?_
                    rintro e w4 ⟨rfl, hbw4'⟩
                    have hbw4 := hbw3.trans (hbw4'.mono hbw3.size)
                    have bxw4 := (hbw4'.block Nb (Array.getElem?_eq_some_iff.1 bxw3).1).trans bxw3
                    have hRw4 := hRw3.below hbw4'
                    have hRk4 := hRk.below hbw4'
                    have k2 := rmay_of kl kv w4 hRk4.cv
                    rw [mayC_iff.2 hK] at k2
                    clear k1 hbw4'
                    go_wp2_with fail
                    refine k2.mono ?_
                    rintro e w5 ⟨rfl, hbw5'⟩
                    have hbw5 := hbw4.trans (hbw5'.mono hbw4.size)
                    have bxw5 := (hbw5'.block Nb (Array.getElem?_eq_some_iff.1 bxw4).1).trans bxw4
                    have hRw5 := hRw4.below hbw5'
                    have hRk5 := hRk4.below hbw5'
                    have k3 := version_of kl kv w5 hRk5.cv
                    rw [show verC kl = V1 by unfold verC; rw [if_pos (mayC_iff.2 hK)]; exact hver] at k3
                    clear k2 hbw5' hRw4 hRk4
                    go_wp2_with fail
                    refine k3.mono ?_
                    rintro e w6 ⟨rfl, hbw6'⟩
                    have hbw6 := hbw5.trans (hbw6'.mono hbw5.size)
                    have bxw6 := (hbw6'.block Nb (Array.getElem?_eq_some_iff.1 bxw5).1).trans bxw5
                    have hRw6 := hRw5.below hbw6'
                    have hRk6 := hRk5.below hbw6'
                    have k4 := version_of l lv w6 hRw6.cv
                    rw [show verC l = V0 by unfold verC; rw [if_pos (mayC_iff.2 hC)]; exact hV0] at k4
                    clear k3 hbw6' hRw5 hRk5
                    go_wp2_with fail
                    refine k4.mono ?_
                    rintro e w7 ⟨rfl, hbw7'⟩
                    have hbw7 := hbw6.trans (hbw7'.mono hbw6.size)
                    have bxw7 := (hbw7'.block Nb (Array.getElem?_eq_some_iff.1 bxw6).1).trans bxw6
                    have hRw7 := hRw6.below hbw7'
                    have hRk7 := hRk6.below hbw7'
                    clear k4 hbw7' hRw6 hRk6 hbw6 hbw5 hbw4 bxw6 bxw5 bxw4
                    obtain ⟨la, lc, hlv, -⟩ := id hRw7
                    have hcvl := hRw7.cv
                    rw [hlv] at hcvl
                    obtain ⟨lb, lo, rfl, cx⟩ := cv_at hcvl hxw
                    obtain ⟨ka, kc, hkv, -⟩ := id hRk7
                    have hcvk := hRk7.cv
                    rw [hkv] at hcvk
                    obtain ⟨kb, ko, rfl, cy⟩ := cv_at hcvk hyn
                    dsimp only at cx cy
                    have hwl : (was : Int) < (l.length : Int) := by have := (List.getElem?_eq_some_iff.1 hxw).1; omega
                    have hnl : (now : Int) < (kl.length : Int) := by have := (List.getElem?_eq_some_iff.1 hyn).1; omega
                    clear hcvl hcvk
                    subst hlv hkv
                    go_wp2_with fail
                    have cl21 : ∀ W, Below w7.heap.size w7 W → (W.cell? ⟨Nb, 0, none⟩ = some (.int .i64 td) ∧ W.cell? ⟨Nb, 1, none⟩ = some (.string (bk tk)) ∧ W.cell? ⟨lb, lo + was * 4, none⟩ = some (.string (bk x1)) ∧ W.cell? ⟨lb, lo + was * 4 + 1, none⟩ = some (.string (bk x2))) := fun W hW => by
                      have hbk := (hW.block Nb (Array.getElem?_eq_some_iff.1 bxw7).1).trans bxw7
                      obtain ⟨a0, a1, -, -⟩ := cx W hW
                      exact ⟨by rw [cells_of_block hbk]; rfl, by rw [cells_of_block hbk]; rfl, a0, a1⟩
                    have kh : ∀ W, (fun W => (W.cell? ⟨Nb, 0, none⟩ = some (.int .i64 td) ∧ W.cell? ⟨Nb, 1, none⟩ = some (.string (bk tk)) ∧ W.cell? ⟨lb, lo + was * 4, none⟩ = some (.string (bk x1)) ∧ W.cell? ⟨lb, lo + was * 4 + 1, none⟩ = some (.string (bk x2))) ∧ Below w7.heap.size w7 W) W → Calls Try.prog 30 #[.agg #[.string (bk x1), .string (bk x2)], .string (bk tk)] W fun e w' => e = .returned (.bool true) ∧ (fun W => (W.cell? ⟨Nb, 0, none⟩ = some (.int .i64 td) ∧ W.cell? ⟨Nb, 1, none⟩ = some (.string (bk tk)) ∧ W.cell? ⟨lb, lo + was * 4, none⟩ = some (.string (bk x1)) ∧ W.cell? ⟨lb, lo + was * 4 + 1, none⟩ = some (.string (bk x2))) ∧ Below w7.heap.size w7 W) w' := fun W hW => by
                      refine (refHas_of (x1, x2) tk W).mono ?_
                      rintro e w' ⟨rfl, hb'⟩
                      have hbn := hW.2.trans (hb'.mono hW.2.size)
                      exact ⟨by rw [hmv], cl21 w' hbn, hbn⟩
                    refine wp_region_L (fun W => (W.cell? ⟨Nb, 0, none⟩ = some (.int .i64 td) ∧ W.cell? ⟨Nb, 1, none⟩ = some (.string (bk tk)) ∧ W.cell? ⟨lb, lo + was * 4, none⟩ = some (.string (bk x1)) ∧ W.cell? ⟨lb, lo + was * 4 + 1, none⟩ = some (.string (bk x2))) ∧ Below w7.heap.size w7 W) [] (by kernel_rfl) ?_
                    have yS : (fun W => (W.cell? ⟨Nb, 0, none⟩ = some (.int .i64 td) ∧ W.cell? ⟨Nb, 1, none⟩ = some (.string (bk tk)) ∧ W.cell? ⟨lb, lo + was * 4, none⟩ = some (.string (bk x1)) ∧ W.cell? ⟨lb, lo + was * 4 + 1, none⟩ = some (.string (bk x2))) ∧ Below w7.heap.size w7 W) w7.drew := ⟨cl21 _ (Below.refl _ _).drew, (Below.refl _ _).drew⟩
                    clear cl21
                    refine wpAnyL_take 0 rfl (by kernel_rfl) (by kernel_rfl) (by kernel_rfl) (by kernel_rfl) (fun _ _ _ h => h) (by kernel_rfl) (by intro w' hS'; obtain ⟨⟨z0, z1, z2, z3⟩, zb⟩ := hS'; go_simp <;> rfl) yS ?_
                    try simp only [List.getElem_toArray, List.getElem_cons_succ, List.getElem_cons_zero, Act.put, List.setIfInBounds_toArray, List.set_cons_zero, List.set_cons_succ]
                    refine wpAnyL_take 1 rfl (by kernel_rfl) (by kernel_rfl) (by kernel_rfl) (by kernel_rfl) (fun _ _ _ h => h) (by kernel_rfl) (by intro w' hS'; obtain ⟨⟨z0, z1, z2, z3⟩, zb⟩ := hS'; go_simp <;> rfl) yS ?_
                    try simp only [List.getElem_toArray, List.getElem_cons_succ, List.getElem_cons_zero, Act.put, List.setIfInBounds_toArray, List.set_cons_zero, List.set_cons_succ]
                    refine wpAnyL_take (v := .bool true) 2 rfl (by kernel_rfl) (by kernel_rfl) (by kernel_rfl) (by kernel_rfl) (fun _ _ _ h => h) (by kernel_rfl) (by intro w' hS'; obtain ⟨⟨z0, z1, z2, z3⟩, zb⟩ := hS'; go_simp <;> first | rfl | simp [hd0, hd1]) yS ?_
                    try simp only [List.getElem_toArray, List.getElem_cons_succ, List.getElem_cons_zero, Act.put, List.setIfInBounds_toArray, List.set_cons_zero, List.set_cons_succ]
                    refine wpAnyL_take 3 rfl (by kernel_rfl) (by kernel_rfl) (by kernel_rfl) (by kernel_rfl) (fun _ _ _ h => h) (by kernel_rfl) (by intro w' hS'; obtain ⟨⟨z0, z1, z2, z3⟩, zb⟩ := hS'; go_simp <;> rfl) yS ?_
                    try simp only [List.getElem_toArray, List.getElem_cons_succ, List.getElem_cons_zero, Act.put, List.setIfInBounds_toArray, List.set_cons_zero, List.set_cons_succ]
                    refine wpAnyL_take 4 rfl (by kernel_rfl) (by kernel_rfl) (by kernel_rfl) (by kernel_rfl) (fun _ _ _ h => h) (by kernel_rfl) (by intro w' hS'; obtain ⟨⟨z0, z1, z2, z3⟩, zb⟩ := hS'; go_simp <;> rfl) yS ?_
                    try simp only [List.getElem_toArray, List.getElem_cons_succ, List.getElem_cons_zero, Act.put, List.setIfInBounds_toArray, List.set_cons_zero, List.set_cons_succ]
                    refine wpAnyL_take 5 rfl (by kernel_rfl) (by kernel_rfl) (by kernel_rfl) (by kernel_rfl) (fun _ _ _ h => h) (by kernel_rfl) (by intro w' hS'; obtain ⟨⟨z0, z1, z2, z3⟩, zb⟩ := hS'; go_simp <;> rfl) yS ?_
                    try simp only [List.getElem_toArray, List.getElem_cons_succ, List.getElem_cons_zero, Act.put, List.setIfInBounds_toArray, List.set_cons_zero, List.set_cons_succ]
                    refine wpAnyL_take (v := .bool true) 6 rfl (by kernel_rfl) (by kernel_rfl) (by kernel_rfl) (by kernel_rfl) (fun _ _ _ h => h) (by kernel_rfl) (by intro w' hS'; obtain ⟨⟨z0, z1, z2, z3⟩, zb⟩ := hS'; go_simp <;> first | rfl | simp [hd0, hd1]) yS ?_
                    try simp only [List.getElem_toArray, List.getElem_cons_succ, List.getElem_cons_zero, Act.put, List.setIfInBounds_toArray, List.set_cons_zero, List.set_cons_succ]
                    refine wpAnyL_take 7 rfl (by kernel_rfl) (by kernel_rfl) (by kernel_rfl) (by kernel_rfl) (fun _ _ _ h => h) (by kernel_rfl) (by intro w' hS'; obtain ⟨⟨z0, z1, z2, z3⟩, zb⟩ := hS'; go_simp <;> rfl) yS ?_
                    try simp only [List.getElem_toArray, List.getElem_cons_succ, List.getElem_cons_zero, Act.put, List.setIfInBounds_toArray, List.set_cons_zero, List.set_cons_succ]
                    refine wpAnyL_take 8 rfl (by kernel_rfl) (by kernel_rfl) (by kernel_rfl) (by kernel_rfl) (fun _ _ _ h => h) (by kernel_rfl) (by intro w' hS'; obtain ⟨⟨z0, z1, z2, z3⟩, zb⟩ := hS'; go_simp <;> rfl) yS ?_
                    try simp only [List.getElem_toArray, List.getElem_cons_succ, List.getElem_cons_zero, Act.put, List.setIfInBounds_toArray, List.set_cons_zero, List.set_cons_succ]
                    refine wpAnyL_take 9 rfl (by kernel_rfl) (by kernel_rfl) (by kernel_rfl) (by kernel_rfl) (fun _ _ _ h => h) (by kernel_rfl) (by intro w' hS'; obtain ⟨⟨z0, z1, z2, z3⟩, zb⟩ := hS'; go_simp <;> rfl) yS ?_
                    try simp only [List.getElem_toArray, List.getElem_cons_succ, List.getElem_cons_zero, Act.put, List.setIfInBounds_toArray, List.set_cons_zero, List.set_cons_succ]
                    refine wpAnyL_take 10 rfl (by kernel_rfl) (by kernel_rfl) (by kernel_rfl) (by kernel_rfl) (fun _ _ _ h => h) (by kernel_rfl) (by intro w' hS'; obtain ⟨⟨z0, z1, z2, z3⟩, zb⟩ := hS'; go_simp <;> rfl) yS ?_
                    try simp only [List.getElem_toArray, List.getElem_cons_succ, List.getElem_cons_zero, Act.put, List.setIfInBounds_toArray, List.set_cons_zero, List.set_cons_succ]
                    refine wpAnyL_take 11 rfl (by kernel_rfl) (by kernel_rfl) (by kernel_rfl) (by kernel_rfl) (fun _ _ _ h => h) (by kernel_rfl) (by intro w' hS'; obtain ⟨⟨z0, z1, z2, z3⟩, zb⟩ := hS'; go_simp <;> rfl) yS ?_
                    try simp only [List.getElem_toArray, List.getElem_cons_succ, List.getElem_cons_zero, Act.put, List.setIfInBounds_toArray, List.set_cons_zero, List.set_cons_succ]
                    refine wpAnyL_take 12 rfl (by kernel_rfl) (by kernel_rfl) (by kernel_rfl) (by kernel_rfl) (fun _ _ _ h => h) (by kernel_rfl) (by intro w' hS'; obtain ⟨⟨z0, z1, z2, z3⟩, zb⟩ := hS'; go_simp <;> rfl) yS ?_
                    try simp only [List.getElem_toArray, List.getElem_cons_succ, List.getElem_cons_zero, Act.put, List.setIfInBounds_toArray, List.set_cons_zero, List.set_cons_succ]
                    refine wpAnyL_take 13 rfl (by kernel_rfl) (by kernel_rfl) (by kernel_rfl) (by kernel_rfl) (fun _ _ _ h => h) (by kernel_rfl) (by intro w' hS'; obtain ⟨⟨z0, z1, z2, z3⟩, zb⟩ := hS'; go_simp <;> rfl) yS ?_
                    try simp only [List.getElem_toArray, List.getElem_cons_succ, List.getElem_cons_zero, Act.put, List.setIfInBounds_toArray, List.set_cons_zero, List.set_cons_succ]
                    refine wpAnyL_take 14 rfl (by kernel_rfl) (by kernel_rfl) (by kernel_rfl) (by kernel_rfl) (fun _ _ _ h => h) (by kernel_rfl) (by intro w' hS'; obtain ⟨⟨z0, z1, z2, z3⟩, zb⟩ := hS'; go_simp <;> rfl) yS ?_
                    try simp only [List.getElem_toArray, List.getElem_cons_succ, List.getElem_cons_zero, Act.put, List.setIfInBounds_toArray, List.set_cons_zero, List.set_cons_succ]
                    refine wpAnyL_take 15 rfl (by kernel_rfl) (by kernel_rfl) (by kernel_rfl) (by kernel_rfl) (fun _ _ _ h => h) (by kernel_rfl) (by intro w' hS'; obtain ⟨⟨z0, z1, z2, z3⟩, zb⟩ := hS'; go_simp <;> rfl) yS ?_
                    try simp only [List.getElem_toArray, List.getElem_cons_succ, List.getElem_cons_zero, Act.put, List.setIfInBounds_toArray, List.set_cons_zero, List.set_cons_succ]
                    refine wpAnyL_one 16 (by kernel_rfl) rfl (by kernel_rfl) ?_
                    intro K' hK'
                    go_simp
                    go_at_call 30
                    refine (kh _ yS).mono ?_
                    rintro e W1 ⟨rfl, hS1⟩
                    refine hK'.out _ _ (.inr hS1) ?_
                    clear hK' K'
                    try simp only [List.getElem_toArray, List.getElem_cons_succ, List.getElem_cons_zero, Act.put, List.setIfInBounds_toArray, List.set_cons_zero, List.set_cons_succ]
                    refine wpAnyL_take 17 rfl (by kernel_rfl) (by kernel_rfl) (by kernel_rfl) (by kernel_rfl) (fun _ _ _ h => h) (by kernel_rfl) (by intro w' hS'; obtain ⟨⟨z0, z1, z2, z3⟩, zb⟩ := hS'; go_simp <;> rfl) hS1 ?_
                    try simp only [List.getElem_toArray, List.getElem_cons_succ, List.getElem_cons_zero, Act.put, List.setIfInBounds_toArray, List.set_cons_zero, List.set_cons_succ]
                    refine wpAnyL_take 18 rfl (by kernel_rfl) (by kernel_rfl) (by kernel_rfl) (by kernel_rfl) (fun _ _ _ h => h) (by kernel_rfl) (by intro w' hS'; obtain ⟨⟨z0, z1, z2, z3⟩, zb⟩ := hS'; go_simp <;> rfl) hS1 ?_
                    try simp only [List.getElem_toArray, List.getElem_cons_succ, List.getElem_cons_zero, Act.put, List.setIfInBounds_toArray, List.set_cons_zero, List.set_cons_succ]
                    refine wpAnyL_done (by kernel_rfl) (NoPanic.normal ?_) _
                    have hbq := hS1.2
                    generalize W1 = w8 at *
                    have bx8 := (hbq.block Nb (Array.getElem?_eq_some_iff.1 bxw7).1).trans bxw7
                    have b2 : w8.cell? ⟨Nb, 2, none⟩ = some (.int .i64 tg) := by rw [cells_of_block bx8]; rfl
                    obtain ⟨-, -, l2, -⟩ := cx w8 hbq
                    obtain ⟨-, -, e2, -⟩ := cy w8 hbq
                    have hbw8 := hbw7.trans (hbq.mono hbw7.size)
                    have hRk8 := hRk7.below hbq
                    clear bx8 bxw7 cx cy hRk7 hRw7 hbq yS
                    try clear kh hS1
                    have hgb : (yg == tg) = true := by rw [hgr]; simp
                    go_wp2
                    go_quiet (fail)
                    have hbw9 := below_drewN hbw8 nq
                    have hRk9 := hRk8.below (below_drewN (Below.refl _ w8) nq)
                    clear b2 l2 e2 hbw8 hRk8 hgb
                    generalize w8.drewN nq = w9 at *
                    have kO := fun (g : Int) (W : World) (h : Below w9.heap.size w9 W) => owned_of kl _ g W (hRk9.below h).cv
                    have kI := fun (g : Int) (v : Value) (W : World) (h : Rd spE W v (ownM kl g)) => refIn_of (ownM kl g) v key W h.sv (hofm g)
                    clear hofm
                    go_wp2
                    obtain ⟨wz, hwz⟩ : ∃ wz, wz = wr := ⟨_, rfl⟩
                    subst hwz
                    obtain ⟨GK, hGK⟩ : ∃ GK, GK = gk := ⟨_, rfl⟩
                    go_loopg [15, 16] 16 (fun gg s15 s16 wr => ∃ (j : Nat) (n : Int), j + gg = 16 ∧ s16 = .int .i64 (((j + 1 : Nat)) : Int) ∧ s15 = .int .i64 n ∧ Below w9.heap.size w9 wr ∧ Hid (n = if yg ≤ (j : Int) then 1 else 0))
                    case atStart => exact ⟨0, 0, by simp, rfl, rfl, Below.refl _ _, by show _ = _; rw [if_neg (by omega)]⟩
                    case round =>
                      obtain ⟨j, n, hjg, rfl, rfl, hbj, HN⟩ := hrel
                      by_cases hj : j < 16
                      · obtain ⟨J, hJ⟩ : ∃ J : Int, J = ((j + 1 : Nat) : Int) := ⟨_, rfl⟩
                        have hJ1 : J ≤ 16 := by omega
                        have kO1 := kO J wr hbj
                        have kI1 := kI J
                        rw [hown J] at kI1
                        have HN2 : Hid ((if yg ≤ ((j + 1 : Nat) : Int) then (1 : Int) else 0) = if yg = J then n + 1 else n) := by
                          show _ = _
                          rw [HN.out, hJ]
                          split <;> split <;> split <;> omega
                        have hn01 : n = 0 ∨ n = 1 := by rw [HN.out]; split <;> simp
                        have hJw : IntKind.i64.wrap (J + 1) = J + 1 := IntWalk.i64_in _ (by omega)
                        have HJ2 : Hid (J + 1 = ((j + 1 + 1 : Nat) : Int)) := by show _ = _; omega
                        rw [← hJ]
                        clear hJ HN kO kI
                        go_wp2_with fail
                        refine kO1.mono ?_
                        rintro e wA ⟨vA, rfl, hRA, hbA'⟩
                        have hbA := hbj.trans (hbA'.mono hbj.size)
                        have kI2 := kI1 vA wA hRA
                        clear kO1 kI1 hRA hbA'
                        by_cases hyJ : yg = J
                        · rw [decide_eq_true hyJ] at kI2
                          rw [if_pos hyJ] at HN2
                          have hnw : IntKind.i64.wrap (n + 1) = n + 1 := IntWalk.i64_in _ (by omega)
                          clear hyJ
                          go_wp2_with fail
                          refine kI2.mono ?_
                          rintro e wB ⟨rfl, hbB'⟩
                          clear kI2 hn01
                          go_wp2
                          go_roundg (gk - 1)
                          case measure => omega
                          case rel => exact ⟨j + 1, _, by omega, by rw [HJ2.out], rfl, hbA.trans (hbB'.mono hbA.size), HN2.out.symm⟩
                        · rw [decide_eq_false hyJ] at kI2
                          rw [if_neg hyJ] at HN2
                          clear hyJ
                          go_wp2_with fail
                          refine kI2.mono ?_
                          rintro e wB ⟨rfl, hbB'⟩
                          clear kI2 hn01
                          go_wp2
                          go_roundg (gk - 1)
                          case measure => omega
                          case rel => exact ⟨j + 1, _, by omega, by rw [HJ2.out], rfl, hbA.trans (hbB'.mono hbA.size), HN2.out.symm⟩
                      · obtain rfl : j = 16 := by omega
                        obtain rfl : n = 1 := by rw [HN.out, if_pos (by omega)]
                        have hbz := hbw9.trans (hbj.mono hbw9.size)
                        have hRz := hRk9.below hbj
                        clear kO kI HN
                        go_wp2
                        go_roundg (GK - 1)
                        case measure => omega
                        case rel => exact ⟨i + 1, _, kl, by omega, by go_num, rfl, hRz, hK, hbz⟩
                  | false =>
                    replace hrel2 : ∀ key r s, r ∈ l → has r.1 key = true → s ∈ kl → has s.1 key = true → s.2.1 = if r = ((x1, x2), xg, xe) then xg else s.2.1 := fun key r s a b c d => by
                      split
                      · rename_i h
                        have := hrel2 key r s a b c d
                        rw [h, if_neg (by rw [hmv]; decide)] at this
                        exact this
                      · rfl
                    obtain ⟨now, y, hpn, hyn, hyk⟩ := hK.place key
                    have hfk : findM kl key = some now := by unfold findM; rw [mayC_iff.2 hK, decide_eq_true hkey.out, Bool.and_self, if_pos rfl]; exact hpn
                    have hym := List.mem_of_getElem? hyn
                    have hgr := hrel2 key _ y hxm hxk hym hyk
                    have hyo := hK.ok y hym
                    have hown : ∀ g : Int, isIn (ownM kl g) key = decide (y.2.1 = g) := fun g => hK.own_one hym hyk g
                    have hofm : ∀ g : Int, (ownM kl g).length ≤ 1000000 := fun g => by have := (formB_iff.1 (hK.own_form g)).1; omega
                    obtain ⟨⟨y1, y2⟩, yg, ye⟩ := y
                    dsimp only at hgr hyk
                    rw [if_pos rfl] at hgr
                    simp only [rOk, gOk, Bool.and_eq_true, decide_eq_true_eq] at hyo
                    obtain ⟨yg1, yg2⟩ := hyo.1.2
                    clear hyo hrel2
                    have k1 := find_of kl kv key w3 hRk.cv
                    rw [hfk] at k1
                    unfold findV at k1
                    go_wp2_with fail
                    refine k1.mono ?_
                    rintro e w4 ⟨rfl, hbw4'⟩
                    have hbw4 := hbw3.trans (hbw4'.mono hbw3.size)
                    have bxw4 := (hbw4'.block Nb (Array.getElem?_eq_some_iff.1 bxw3).1).trans bxw3
                    have hRw4 := hRw3.below hbw4'
                    have hRk4 := hRk.below hbw4'
                    have k2 := rmay_of kl kv w4 hRk4.cv
                    rw [mayC_iff.2 hK] at k2
                    clear k1 hbw4'
                    go_wp2_with fail
                    refine k2.mono ?_
                    rintro e w5 ⟨rfl, hbw5'⟩
                    have hbw5 := hbw4.trans (hbw5'.mono hbw4.size)
                    have bxw5 := (hbw5'.block Nb (Array.getElem?_eq_some_iff.1 bxw4).1).trans bxw4
                    have hRw5 := hRw4.below hbw5'
                    have hRk5 := hRk4.below hbw5'
                    have k3 := version_of kl kv w5 hRk5.cv
                    rw [show verC kl = V1 by unfold verC; rw [if_pos (mayC_iff.2 hK)]; exact hver] at k3
                    clear k2 hbw5' hRw4 hRk4
                    go_wp2_with fail
                    refine k3.mono ?_
                    rintro e w6 ⟨rfl, hbw6'⟩
                    have hbw6 := hbw5.trans (hbw6'.mono hbw5.size)
                    have bxw6 := (hbw6'.block Nb (Array.getElem?_eq_some_iff.1 bxw5).1).trans bxw5
                    have hRw6 := hRw5.below hbw6'
                    have hRk6 := hRk5.below hbw6'
                    have k4 := version_of l lv w6 hRw6.cv
                    rw [show verC l = V0 by unfold verC; rw [if_pos (mayC_iff.2 hC)]; exact hV0] at k4
                    clear k3 hbw6' hRw5 hRk5
                    go_wp2_with fail
                    refine k4.mono ?_
                    rintro e w7 ⟨rfl, hbw7'⟩
                    have hbw7 := hbw6.trans (hbw7'.mono hbw6.size)
                    have bxw7 := (hbw7'.block Nb (Array.getElem?_eq_some_iff.1 bxw6).1).trans bxw6
                    have hRw7 := hRw6.below hbw7'
                    have hRk7 := hRk6.below hbw7'
                    clear k4 hbw7' hRw6 hRk6 hbw6 hbw5 hbw4 bxw6 bxw5 bxw4
                    obtain ⟨la, lc, hlv, -⟩ := id hRw7
                    have hcvl := hRw7.cv
                    rw [hlv] at hcvl
                    obtain ⟨lb, lo, rfl, cx⟩ := cv_at hcvl hxw
                    obtain ⟨ka, kc, hkv, -⟩ := id hRk7
                    have hcvk := hRk7.cv
                    rw [hkv] at hcvk
                    obtain ⟨kb, ko, rfl, cy⟩ := cv_at hcvk hyn
                    dsimp only at cx cy
                    have hwl : (was : Int) < (l.length : Int) := by have := (List.getElem?_eq_some_iff.1 hxw).1; omega
                    have hnl : (now : Int) < (kl.length : Int) := by have := (List.getElem?_eq_some_iff.1 hyn).1; omega
                    clear hcvl hcvk
                    subst hlv hkv
                    go_wp2_with fail
                    have cl21 : ∀ W, Below w7.heap.size w7 W → (W.cell? ⟨Nb, 0, none⟩ = some (.int .i64 td) ∧ W.cell? ⟨Nb, 1, none⟩ = some (.string (bk tk)) ∧ W.cell? ⟨lb, lo + was * 4, none⟩ = some (.string (bk x1)) ∧ W.cell? ⟨lb, lo + was * 4 + 1, none⟩ = some (.string (bk x2))) := fun W hW => by
                      have hbk := (hW.block Nb (Array.getElem?_eq_some_iff.1 bxw7).1).trans bxw7
                      obtain ⟨a0, a1, -, -⟩ := cx W hW
                      exact ⟨by rw [cells_of_block hbk]; rfl, by rw [cells_of_block hbk]; rfl, a0, a1⟩
                    have kh : ∀ W, (fun W => (W.cell? ⟨Nb, 0, none⟩ = some (.int .i64 td) ∧ W.cell? ⟨Nb, 1, none⟩ = some (.string (bk tk)) ∧ W.cell? ⟨lb, lo + was * 4, none⟩ = some (.string (bk x1)) ∧ W.cell? ⟨lb, lo + was * 4 + 1, none⟩ = some (.string (bk x2))) ∧ Below w7.heap.size w7 W) W → Calls Try.prog 30 #[.agg #[.string (bk x1), .string (bk x2)], .string (bk tk)] W fun e w' => e = .returned (.bool false) ∧ (fun W => (W.cell? ⟨Nb, 0, none⟩ = some (.int .i64 td) ∧ W.cell? ⟨Nb, 1, none⟩ = some (.string (bk tk)) ∧ W.cell? ⟨lb, lo + was * 4, none⟩ = some (.string (bk x1)) ∧ W.cell? ⟨lb, lo + was * 4 + 1, none⟩ = some (.string (bk x2))) ∧ Below w7.heap.size w7 W) w' := fun W hW => by
                      refine (refHas_of (x1, x2) tk W).mono ?_
                      rintro e w' ⟨rfl, hb'⟩
                      have hbn := hW.2.trans (hb'.mono hW.2.size)
                      exact ⟨by rw [hmv], cl21 w' hbn, hbn⟩
                    refine wp_region_L (fun W => (W.cell? ⟨Nb, 0, none⟩ = some (.int .i64 td) ∧ W.cell? ⟨Nb, 1, none⟩ = some (.string (bk tk)) ∧ W.cell? ⟨lb, lo + was * 4, none⟩ = some (.string (bk x1)) ∧ W.cell? ⟨lb, lo + was * 4 + 1, none⟩ = some (.string (bk x2))) ∧ Below w7.heap.size w7 W) [] (by kernel_rfl) ?_
                    have yS : (fun W => (W.cell? ⟨Nb, 0, none⟩ = some (.int .i64 td) ∧ W.cell? ⟨Nb, 1, none⟩ = some (.string (bk tk)) ∧ W.cell? ⟨lb, lo + was * 4, none⟩ = some (.string (bk x1)) ∧ W.cell? ⟨lb, lo + was * 4 + 1, none⟩ = some (.string (bk x2))) ∧ Below w7.heap.size w7 W) w7.drew := ⟨cl21 _ (Below.refl _ _).drew, (Below.refl _ _).drew⟩
                    clear cl21
                    refine wpAnyL_take 0 rfl (by kernel_rfl) (by kernel_rfl) (by kernel_rfl) (by kernel_rfl) (fun _ _ _ h => h) (by kernel_rfl) (by intro w' hS'; obtain ⟨⟨z0, z1, z2, z3⟩, zb⟩ := hS'; go_simp <;> rfl) yS ?_
                    try simp only [List.getElem_toArray, List.getElem_cons_succ, List.getElem_cons_zero, Act.put, List.setIfInBounds_toArray, List.set_cons_zero, List.set_cons_succ]
                    refine wpAnyL_take 1 rfl (by kernel_rfl) (by kernel_rfl) (by kernel_rfl) (by kernel_rfl) (fun _ _ _ h => h) (by kernel_rfl) (by intro w' hS'; obtain ⟨⟨z0, z1, z2, z3⟩, zb⟩ := hS'; go_simp <;> rfl) yS ?_
                    try simp only [List.getElem_toArray, List.getElem_cons_succ, List.getElem_cons_zero, Act.put, List.setIfInBounds_toArray, List.set_cons_zero, List.set_cons_succ]
                    refine wpAnyL_take (v := .bool true) 2 rfl (by kernel_rfl) (by kernel_rfl) (by kernel_rfl) (by kernel_rfl) (fun _ _ _ h => h) (by kernel_rfl) (by intro w' hS'; obtain ⟨⟨z0, z1, z2, z3⟩, zb⟩ := hS'; go_simp <;> first | rfl | simp [hd0, hd1]) yS ?_
                    try simp only [List.getElem_toArray, List.getElem_cons_succ, List.getElem_cons_zero, Act.put, List.setIfInBounds_toArray, List.set_cons_zero, List.set_cons_succ]
                    refine wpAnyL_take 3 rfl (by kernel_rfl) (by kernel_rfl) (by kernel_rfl) (by kernel_rfl) (fun _ _ _ h => h) (by kernel_rfl) (by intro w' hS'; obtain ⟨⟨z0, z1, z2, z3⟩, zb⟩ := hS'; go_simp <;> rfl) yS ?_
                    try simp only [List.getElem_toArray, List.getElem_cons_succ, List.getElem_cons_zero, Act.put, List.setIfInBounds_toArray, List.set_cons_zero, List.set_cons_succ]
                    refine wpAnyL_take 4 rfl (by kernel_rfl) (by kernel_rfl) (by kernel_rfl) (by kernel_rfl) (fun _ _ _ h => h) (by kernel_rfl) (by intro w' hS'; obtain ⟨⟨z0, z1, z2, z3⟩, zb⟩ := hS'; go_simp <;> rfl) yS ?_
                    try simp only [List.getElem_toArray, List.getElem_cons_succ, List.getElem_cons_zero, Act.put, List.setIfInBounds_toArray, List.set_cons_zero, List.set_cons_succ]
                    refine wpAnyL_take 5 rfl (by kernel_rfl) (by kernel_rfl) (by kernel_rfl) (by kernel_rfl) (fun _ _ _ h => h) (by kernel_rfl) (by intro w' hS'; obtain ⟨⟨z0, z1, z2, z3⟩, zb⟩ := hS'; go_simp <;> rfl) yS ?_
                    try simp only [List.getElem_toArray, List.getElem_cons_succ, List.getElem_cons_zero, Act.put, List.setIfInBounds_toArray, List.set_cons_zero, List.set_cons_succ]
                    refine wpAnyL_take (v := .bool true) 6 rfl (by kernel_rfl) (by kernel_rfl) (by kernel_rfl) (by kernel_rfl) (fun _ _ _ h => h) (by kernel_rfl) (by intro w' hS'; obtain ⟨⟨z0, z1, z2, z3⟩, zb⟩ := hS'; go_simp <;> first | rfl | simp [hd0, hd1]) yS ?_
                    try simp only [List.getElem_toArray, List.getElem_cons_succ, List.getElem_cons_zero, Act.put, List.setIfInBounds_toArray, List.set_cons_zero, List.set_cons_succ]
                    refine wpAnyL_take 7 rfl (by kernel_rfl) (by kernel_rfl) (by kernel_rfl) (by kernel_rfl) (fun _ _ _ h => h) (by kernel_rfl) (by intro w' hS'; obtain ⟨⟨z0, z1, z2, z3⟩, zb⟩ := hS'; go_simp <;> rfl) yS ?_
                    try simp only [List.getElem_toArray, List.getElem_cons_succ, List.getElem_cons_zero, Act.put, List.setIfInBounds_toArray, List.set_cons_zero, List.set_cons_succ]
                    refine wpAnyL_take 8 rfl (by kernel_rfl) (by kernel_rfl) (by kernel_rfl) (by kernel_rfl) (fun _ _ _ h => h) (by kernel_rfl) (by intro w' hS'; obtain ⟨⟨z0, z1, z2, z3⟩, zb⟩ := hS'; go_simp <;> rfl) yS ?_
                    try simp only [List.getElem_toArray, List.getElem_cons_succ, List.getElem_cons_zero, Act.put, List.setIfInBounds_toArray, List.set_cons_zero, List.set_cons_succ]
                    refine wpAnyL_take 9 rfl (by kernel_rfl) (by kernel_rfl) (by kernel_rfl) (by kernel_rfl) (fun _ _ _ h => h) (by kernel_rfl) (by intro w' hS'; obtain ⟨⟨z0, z1, z2, z3⟩, zb⟩ := hS'; go_simp <;> rfl) yS ?_
                    try simp only [List.getElem_toArray, List.getElem_cons_succ, List.getElem_cons_zero, Act.put, List.setIfInBounds_toArray, List.set_cons_zero, List.set_cons_succ]
                    refine wpAnyL_take 10 rfl (by kernel_rfl) (by kernel_rfl) (by kernel_rfl) (by kernel_rfl) (fun _ _ _ h => h) (by kernel_rfl) (by intro w' hS'; obtain ⟨⟨z0, z1, z2, z3⟩, zb⟩ := hS'; go_simp <;> rfl) yS ?_
                    try simp only [List.getElem_toArray, List.getElem_cons_succ, List.getElem_cons_zero, Act.put, List.setIfInBounds_toArray, List.set_cons_zero, List.set_cons_succ]
                    refine wpAnyL_take 11 rfl (by kernel_rfl) (by kernel_rfl) (by kernel_rfl) (by kernel_rfl) (fun _ _ _ h => h) (by kernel_rfl) (by intro w' hS'; obtain ⟨⟨z0, z1, z2, z3⟩, zb⟩ := hS'; go_simp <;> rfl) yS ?_
                    try simp only [List.getElem_toArray, List.getElem_cons_succ, List.getElem_cons_zero, Act.put, List.setIfInBounds_toArray, List.set_cons_zero, List.set_cons_succ]
                    refine wpAnyL_take 12 rfl (by kernel_rfl) (by kernel_rfl) (by kernel_rfl) (by kernel_rfl) (fun _ _ _ h => h) (by kernel_rfl) (by intro w' hS'; obtain ⟨⟨z0, z1, z2, z3⟩, zb⟩ := hS'; go_simp <;> rfl) yS ?_
                    try simp only [List.getElem_toArray, List.getElem_cons_succ, List.getElem_cons_zero, Act.put, List.setIfInBounds_toArray, List.set_cons_zero, List.set_cons_succ]
                    refine wpAnyL_take 13 rfl (by kernel_rfl) (by kernel_rfl) (by kernel_rfl) (by kernel_rfl) (fun _ _ _ h => h) (by kernel_rfl) (by intro w' hS'; obtain ⟨⟨z0, z1, z2, z3⟩, zb⟩ := hS'; go_simp <;> rfl) yS ?_
                    try simp only [List.getElem_toArray, List.getElem_cons_succ, List.getElem_cons_zero, Act.put, List.setIfInBounds_toArray, List.set_cons_zero, List.set_cons_succ]
                    refine wpAnyL_take 14 rfl (by kernel_rfl) (by kernel_rfl) (by kernel_rfl) (by kernel_rfl) (fun _ _ _ h => h) (by kernel_rfl) (by intro w' hS'; obtain ⟨⟨z0, z1, z2, z3⟩, zb⟩ := hS'; go_simp <;> rfl) yS ?_
                    try simp only [List.getElem_toArray, List.getElem_cons_succ, List.getElem_cons_zero, Act.put, List.setIfInBounds_toArray, List.set_cons_zero, List.set_cons_succ]
                    refine wpAnyL_take 15 rfl (by kernel_rfl) (by kernel_rfl) (by kernel_rfl) (by kernel_rfl) (fun _ _ _ h => h) (by kernel_rfl) (by intro w' hS'; obtain ⟨⟨z0, z1, z2, z3⟩, zb⟩ := hS'; go_simp <;> rfl) yS ?_
                    try simp only [List.getElem_toArray, List.getElem_cons_succ, List.getElem_cons_zero, Act.put, List.setIfInBounds_toArray, List.set_cons_zero, List.set_cons_succ]
                    refine wpAnyL_one 16 (by kernel_rfl) rfl (by kernel_rfl) ?_
                    intro K' hK'
                    go_simp
                    go_at_call 30
                    refine (kh _ yS).mono ?_
                    rintro e W1 ⟨rfl, hS1⟩
                    refine hK'.out _ _ (.inr hS1) ?_
                    clear hK' K'
                    try simp only [List.getElem_toArray, List.getElem_cons_succ, List.getElem_cons_zero, Act.put, List.setIfInBounds_toArray, List.set_cons_zero, List.set_cons_succ]
                    refine wpAnyL_take 17 rfl (by kernel_rfl) (by kernel_rfl) (by kernel_rfl) (by kernel_rfl) (fun _ _ _ h => h) (by kernel_rfl) (by intro w' hS'; obtain ⟨⟨z0, z1, z2, z3⟩, zb⟩ := hS'; go_simp <;> rfl) hS1 ?_
                    try simp only [List.getElem_toArray, List.getElem_cons_succ, List.getElem_cons_zero, Act.put, List.setIfInBounds_toArray, List.set_cons_zero, List.set_cons_succ]
                    refine wpAnyL_take 18 rfl (by kernel_rfl) (by kernel_rfl) (by kernel_rfl) (by kernel_rfl) (fun _ _ _ h => h) (by kernel_rfl) (by intro w' hS'; obtain ⟨⟨z0, z1, z2, z3⟩, zb⟩ := hS'; go_simp <;> rfl) hS1 ?_
                    try simp only [List.getElem_toArray, List.getElem_cons_succ, List.getElem_cons_zero, Act.put, List.setIfInBounds_toArray, List.set_cons_zero, List.set_cons_succ]
                    refine wpAnyL_done (by kernel_rfl) (NoPanic.normal ?_) _
                    have hbq := hS1.2
                    generalize W1 = w8 at *
                    have bx8 := (hbq.block Nb (Array.getElem?_eq_some_iff.1 bxw7).1).trans bxw7
                    have b2 : w8.cell? ⟨Nb, 2, none⟩ = some (.int .i64 tg) := by rw [cells_of_block bx8]; rfl
                    obtain ⟨-, -, l2, -⟩ := cx w8 hbq
                    obtain ⟨-, -, e2, -⟩ := cy w8 hbq
                    have hbw8 := hbw7.trans (hbq.mono hbw7.size)
                    have hRk8 := hRk7.below hbq
                    clear bx8 bxw7 cx cy hRk7 hRw7 hbq yS
                    try clear kh hS1
                    have hgb : (yg == xg) = true := by rw [hgr]; simp
                    go_wp2
                    go_quiet (fail)
                    have hbw9 := below_drewN hbw8 nq
                    have hRk9 := hRk8.below (below_drewN (Below.refl _ w8) nq)
                    clear b2 l2 e2 hbw8 hRk8 hgb
                    generalize w8.drewN nq = w9 at *
                    have kO := fun (g : Int) (W : World) (h : Below w9.heap.size w9 W) => owned_of kl _ g W (hRk9.below h).cv
                    have kI := fun (g : Int) (v : Value) (W : World) (h : Rd spE W v (ownM kl g)) => refIn_of (ownM kl g) v key W h.sv (hofm g)
                    clear hofm
                    go_wp2
                    obtain ⟨wz, hwz⟩ : ∃ wz, wz = wr := ⟨_, rfl⟩
                    subst hwz
                    obtain ⟨GK, hGK⟩ : ∃ GK, GK = gk := ⟨_, rfl⟩
                    go_loopg [15, 16] 16 (fun gg s15 s16 wr => ∃ (j : Nat) (n : Int), j + gg = 16 ∧ s16 = .int .i64 (((j + 1 : Nat)) : Int) ∧ s15 = .int .i64 n ∧ Below w9.heap.size w9 wr ∧ Hid (n = if yg ≤ (j : Int) then 1 else 0))
                    case atStart => exact ⟨0, 0, by simp, rfl, rfl, Below.refl _ _, by show _ = _; rw [if_neg (by omega)]⟩
                    case round =>
                      obtain ⟨j, n, hjg, rfl, rfl, hbj, HN⟩ := hrel
                      by_cases hj : j < 16
                      · obtain ⟨J, hJ⟩ : ∃ J : Int, J = ((j + 1 : Nat) : Int) := ⟨_, rfl⟩
                        have hJ1 : J ≤ 16 := by omega
                        have kO1 := kO J wr hbj
                        have kI1 := kI J
                        rw [hown J] at kI1
                        have HN2 : Hid ((if yg ≤ ((j + 1 : Nat) : Int) then (1 : Int) else 0) = if yg = J then n + 1 else n) := by
                          show _ = _
                          rw [HN.out, hJ]
                          split <;> split <;> split <;> omega
                        have hn01 : n = 0 ∨ n = 1 := by rw [HN.out]; split <;> simp
                        have hJw : IntKind.i64.wrap (J + 1) = J + 1 := IntWalk.i64_in _ (by omega)
                        have HJ2 : Hid (J + 1 = ((j + 1 + 1 : Nat) : Int)) := by show _ = _; omega
                        rw [← hJ]
                        clear hJ HN kO kI
                        go_wp2_with fail
                        refine kO1.mono ?_
                        rintro e wA ⟨vA, rfl, hRA, hbA'⟩
                        have hbA := hbj.trans (hbA'.mono hbj.size)
                        have kI2 := kI1 vA wA hRA
                        clear kO1 kI1 hRA hbA'
                        by_cases hyJ : yg = J
                        · rw [decide_eq_true hyJ] at kI2
                          rw [if_pos hyJ] at HN2
                          have hnw : IntKind.i64.wrap (n + 1) = n + 1 := IntWalk.i64_in _ (by omega)
                          clear hyJ
                          go_wp2_with fail
                          refine kI2.mono ?_
                          rintro e wB ⟨rfl, hbB'⟩
                          clear kI2 hn01
                          go_wp2
                          go_roundg (gk - 1)
                          case measure => omega
                          case rel => exact ⟨j + 1, _, by omega, by rw [HJ2.out], rfl, hbA.trans (hbB'.mono hbA.size), HN2.out.symm⟩
                        · rw [decide_eq_false hyJ] at kI2
                          rw [if_neg hyJ] at HN2
                          clear hyJ
                          go_wp2_with fail
                          refine kI2.mono ?_
                          rintro e wB ⟨rfl, hbB'⟩
                          clear kI2 hn01
                          go_wp2
                          go_roundg (gk - 1)
                          case measure => omega
                          case rel => exact ⟨j + 1, _, by omega, by rw [HJ2.out], rfl, hbA.trans (hbB'.mono hbA.size), HN2.out.symm⟩
                      · obtain rfl : j = 16 := by omega
                        obtain rfl : n = 1 := by rw [HN.out, if_pos (by omega)]
                        have hbz := hbw9.trans (hbj.mono hbw9.size)
                        have hRz := hRk9.below hbj
                        clear kO kI HN
                        go_wp2
                        go_roundg (GK - 1)
                        case measure => omega
                        case rel => exact ⟨i + 1, _, kl, by omega, by go_num, rfl, hRz, hK, hbz⟩
                · have hcb : (c == 0) = false := by simpa using hc
                  clear hM hRk hc
                  go_wp2
                  go_roundg (gk - 1)
                  case measure => omega
                  case rel => exact ⟨i + 1, _, l, by omega, by go_num, rfl, hRw3, hC, hbw3⟩
          · have h100i : ¬ (i : Int) < 100 := by omega
            have kW1 := kW wr
            clear kW hTW hT
            go_wp2_with fail
            refine kW1.mono ?_
            rintro e w2 ⟨rfl, hb2⟩
            go_wp2
            go_ret
            exact ⟨rfl, hb.trans (hb2.mono hb.size)⟩
        · have hlti : ¬ (i : Int) < (ts.length : Int) := by omega
          have kW1 := kW wr
          clear kW hTW hT
          go_wp2_with fail
          refine kW1.mono ?_
          rintro e w2 ⟨rfl, hb2⟩
          go_wp2
          go_ret
          exact ⟨rfl, hb.trans (hb2.mono hb.size)⟩
end Go.Proofs.Ytldlimakcdaoaaa

