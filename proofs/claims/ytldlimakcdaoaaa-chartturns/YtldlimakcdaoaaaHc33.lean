import Derived.Test.YtldlimakcdaoaaaHc32
/- The law ChartTurns answers true. -/
namespace Go.Proofs.Ytldlimakcdaoaaa
open Go.RowKit SpanMath ChartMath
set_option maxRecDepth 100000
set_option linter.unusedSimpArgs false
set_option linter.unusedVariables false

theorem put_len (l : List Rg) (i j : Nat) (ws : List (Sp × Int)) : (putM l i j ws).1.length ≤ 200 + l.length := by
  unfold putM
  split
  · simp
  · rename_i h
    unfold spliced
    simp
    omega
theorem turn_len {l : List Rg} {k : K} {g : Int} : (splitM l k).1.length ≤ 1000 ∧ (mergeM l k).1.length ≤ 1000 ∧ (moveM l k g).1.length ≤ 1000 := by
  unfold splitM mergeM moveM
  cases hf : findM l k with
  | none => simp
  | some i =>
    obtain ⟨hC, _, r, hr, _⟩ := findM_some hf
    have hl := hC.len
    obtain ⟨q, hq⟩ : ∃ q, l[i - 1]? = some q := ⟨l[i - 1]'(by have := (List.getElem?_eq_some_iff.1 hr).1; omega), List.getElem?_eq_getElem _⟩
    simp only [hr, hq]
    refine ⟨?_, ?_, ?_⟩
    · split
      · simp
      · exact Nat.le_trans (put_len _ _ _ _) (by omega)
    · split
      · simp
      · split
        · simp
        · exact Nat.le_trans (put_len _ _ _ _) (by omega)
    · split
      · simp
      · split
        · simp
        · exact Nat.le_trans (put_len _ _ _ _) (by omega)

set_option maxHeartbeats 8000000 in
theorem turns_law (l : List Rg) (lv : Value) (k : K) (g : Int) (w : World) (hF : Rd rgE w lv l) (hlen : l.length * 48 ≤ 140737488355328) : Calls Try.prog 3 #[lv, .string (bk k), .int .i64 g] w fun e w' => e = .returned (.bool true) ∧ Below w.heap.size w w' := by
  obtain ⟨t1, t2, t3⟩ := turn_len (l := l) (k := k) (g := g)
  obtain ⟨ao, cap, hlv, -⟩ := id hF
  obtain ⟨q1, q2, q3⟩ := one_box w (.cells #[] 42)
  have hR0 : Rk rgE (w.alloc (.cells #[] 42)) 42 (.slice (some ⟨w.heap.size, 0, none⟩) 0 0) [] := Rk.made (E := rgE) (xs := []) q2 rfl (by unfold maxLen; simp)
  have hO0 : OwnG w.heap.size (w.alloc (.cells #[] 42)) (.slice (some ⟨w.heap.size, 0, none⟩) 0 0) [] := ⟨hR0, fun k hk => by cases hk; exact Nat.le_refl _⟩
  have hrun : Hid _ := append_great hR0 (hF.below q3) hlen
  have kA := fun v W (h : Rd rgE W v l) => csplit_of l v k W h
  have kB := fun v W (h : Rd rgE W v l) => rsplit_of l v k W h
  have kC := fun v W (h : Rd rgE W v l) => cmerge_of l v k W h
  have kD := fun v W (h : Rd rgE W v l) => rmerge_of l v k W h
  have kE := fun v W (h : Rd rgE W v l) => cmove_of l v k g W h
  have kG := fun v W (h : Rd rgE W v l) => rmove_of l v k g W h
  generalize splitM l k = S1 at *
  generalize mergeM l k = S2 at *
  generalize moveM l k g = S3 at *
  obtain ⟨l1, c1⟩ := S1
  obtain ⟨l2, c2⟩ := S2
  obtain ⟨l3, c3⟩ := S3
  have hlm : l.length ≤ 1000000000000000 := by omega
  subst hlv
  clear hlen q1 q2 hR0
  go_enter Try.func3, Try.ntmps3
  go_wp2_with (at_builtin; refine wp_by rfl _ _ _ rfl _ _ rfl rfl hrun.out ?_)
  intro ov w1 hp1
  obtain ⟨hO1, hb1'⟩ := hO0.push q3.size hp1
  have hb1 := q3.trans hb1'
  clear hrun hO0 hp1 hb1' q3
  have k1 := kA ov w1 hO1.1.rd
  clear kA
  go_wp2_with fail
  refine k1.mono ?_
  rintro e w2 ⟨⟨v2, rfl, hR2⟩, hb2'⟩
  have hb2 := hb1.trans (hb2'.mono hb1.size)
  have hO2 := hO1.below hb2'
  have k2 := kB _ w2 (hF.below hb2)
  clear k1 kB hO1 hb1 hb2'
  go_wp2_with fail
  refine k2.mono ?_
  rintro e w3 ⟨⟨v3, rfl, hR3⟩, hb3'⟩
  have hb3 := hb2.trans (hb3'.mono hb2.size)
  have hO3 := hO2.below hb3'
  replace hR2 := hR2.below hb3'
  have k3 := kC ov w3 hO3.1.rd
  clear k2 kC hO2 hb2 hb3'
  go_wp2_with fail
  refine k3.mono ?_
  rintro e w4 ⟨⟨v4, rfl, hR4⟩, hb4'⟩
  have hb4 := hb3.trans (hb4'.mono hb3.size)
  have hO4 := hO3.below hb4'
  replace hR2 := hR2.below hb4'
  replace hR3 := hR3.below hb4'
  have k4 := kD _ w4 (hF.below hb4)
  clear k3 kD hO3 hb3 hb4'
  go_wp2_with fail
  refine k4.mono ?_
  rintro e w5 ⟨⟨v5, rfl, hR5⟩, hb5'⟩
  have hb5 := hb4.trans (hb5'.mono hb4.size)
  have hO5 := hO4.below hb5'
  replace hR2 := hR2.below hb5'
  replace hR3 := hR3.below hb5'
  replace hR4 := hR4.below hb5'
  have k5 := kE ov w5 hO5.1.rd
  clear k4 kE hO4 hb4 hb5'
  go_wp2_with fail
  refine k5.mono ?_
  rintro e w6 ⟨⟨v6, rfl, hR6⟩, hb6'⟩
  have hb6 := hb5.trans (hb6'.mono hb5.size)
  have hO6 := hO5.below hb6'
  replace hR2 := hR2.below hb6'
  replace hR3 := hR3.below hb6'
  replace hR4 := hR4.below hb6'
  replace hR5 := hR5.below hb6'
  have k6 := kG _ w6 (hF.below hb6)
  clear k5 kG hO5 hb5 hb6'
  go_wp2_with fail
  refine k6.mono ?_
  rintro e w7 ⟨⟨v7, rfl, hR7⟩, hb7'⟩
  have hb7 := hb6.trans (hb7'.mono hb6.size)
  have hO7 := hO6.below hb7'
  replace hR2 := hR2.below hb7'
  replace hR3 := hR3.below hb7'
  replace hR4 := hR4.below hb7'
  replace hR5 := hR5.below hb7'
  replace hR6 := hR6.below hb7'
  have k7 := ctold_of (c := c1) hR2.cv hR3.cv t1
  clear k6 hO6 hb6 hb7'
  go_wp2_with fail
  refine k7.mono ?_
  rintro e w8 ⟨rfl, hb8'⟩
  have hb8 := hb7.trans (hb8'.mono hb7.size)
  have hO8 := hO7.below hb8'
  have k8 := ctold_of (c := c2) (hR4.below hb8').cv (hR5.below hb8').cv t2
  replace hR6 := hR6.below hb8'
  replace hR7 := hR7.below hb8'
  clear k7 hR2 hR3 hR4 hR5 hb8' hb7
  go_wp2_with fail
  refine k8.mono ?_
  rintro e w9 ⟨rfl, hb9'⟩
  have hb9 := hb8.trans (hb9'.mono hb8.size)
  have hO9 := hO8.below hb9'
  have k9 := ctold_of (c := c3) (hR6.below hb9').cv (hR7.below hb9').cv t3
  clear k8 hR6 hR7 hb8 hb9' hO8
  go_wp2_with fail
  refine k9.mono ?_
  rintro e wA ⟨rfl, hbA'⟩
  have hbA := hb9.trans (hbA'.mono hb9.size)
  have kS := csame_of l ov _ wA (hO9.below hbA').1.rd.cv (hF.below hbA).cv hlm
  clear k9 hb9 hbA' hO9
  go_wp2_with fail
  refine kS.mono ?_
  rintro e wB ⟨rfl, hbB'⟩
  have hbB := hbA.trans (hbB'.mono hbA.size)
  have kW := cawake_of wB
  clear kS hbA hbB'
  go_wp2_with fail
  refine kW.mono ?_
  rintro e wC ⟨rfl, hbC'⟩
  go_wp2
  go_ret
  exact ⟨rfl, hbB.trans (hbC'.mono hbB.size)⟩
end Go.Proofs.Ytldlimakcdaoaaa

