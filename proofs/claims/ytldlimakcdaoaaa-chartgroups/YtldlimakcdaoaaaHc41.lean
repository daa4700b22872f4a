import Derived.Test.YtldlimakcdaoaaaHc40
/- The law ChartGroups answers true. -/
namespace Go.Proofs.Ytldlimakcdaoaaa
open Go.ChangeShapes Go.WideShapes Go.RowKit SpanMath ChartMath
set_option maxRecDepth 100000
set_option linter.unusedSimpArgs false
set_option linter.unusedVariables false

/-- A slice of keys that came in. -/
theorem keys_arg {H : Type} {enc : TypeId × Value → H} {W : World} {base : Nat} {v : Value} {d : DataW H} {ps : List MemPlace} (hval : Value.okWide Try.prog W .any base 43 v)
    (h : DataW.Trod enc Try.prog W 0 (fun _ => true) true 43 v d ps) : ∃ l : List K, Rd keyE W v l ∧ (l = [] ∨ ∃ el sp, d = .slice el sp ∧ el.length = l.length) :=
  slice_arg keyE [] Try.underlying43 cells_str (fun _ cs _ h hl => by
    match cs, hl with
    | [v0], _ =>
      obtain ⟨s, i0, _, _⟩ := DataW.trod_string Try.underlying9 h
      simp only [List.cons.injEq, and_true] at i0
      obtain ⟨k, rfl⟩ := bk_of s
      exact ⟨k, by rw [i0]; rfl⟩) hval h

set_option maxHeartbeats 8000000 in
theorem groups_law (l : List Rg) (lv : Value) (ks : List K) (kv : Value) (g : Int) (w : World) (hF : Rd rgE w lv l) (hlen : l.length * 48 ≤ 140737488355328) (hK : Rd keyE w kv ks) (hlenK : ks.length * 16 ≤ 140737488355328) : Calls Try.prog 5 #[lv, kv, .int .i64 g] w fun e w' => e = .returned (.bool true) ∧ Below w.heap.size w w' := by
  obtain ⟨ao, cap, hlv, -⟩ := id hF
  obtain ⟨ka, kcap, rfl, -, -, hk2⟩ := id hK
  have kW := fun W => cawake_of W
  by_cases h100 : 100 < ks.length
  · have hi : (100 : Int) < (ks.length : Int) := by omega
    subst hlv
    have kW1 := kW w
    clear kW hF hK hk2 hlen hlenK h100
    go_enter Try.func5, Try.ntmps5
    go_wp2_with fail
    refine kW1.mono ?_
    rintro e w1 ⟨rfl, hb1⟩
    go_wp2
    go_ret
    exact ⟨rfl, hb1⟩
  · have hi : ¬ (100 : Int) < (ks.length : Int) := by omega
    have hks : ks.length ≤ 100 := by omega
    have kG := groups_of l lv ks _ w hF.cv hK (by omega)
    have kO := fun W (hW : Below w.heap.size w W) => owned_of l lv g W (hF.below hW).cv
    have kR := fun W (hW : Below w.heap.size w W) => rowned_of l lv g W (hF.below hW).cv (by omega)
    have kM := fun W (hW : Below w.heap.size w W) => rmay_of l lv W (hF.below hW).cv
    have kH := fun (hC : Chart l) (hok : keysOk ks = true) W (hW : Below w.heap.size w W) => rgroups_of l lv ks _ W (hF.below hW).cv hC (hK.below hW) hok (by omega)
    have hkW : ∀ W, Below w.heap.size w W → ∀ (m : Nat) (k : K), ks[m]? = some k → ∃ b off, ka = some ⟨b, off, none⟩ ∧ W.cell? ⟨b, off + m, none⟩ = some (.string (bk k)) := fun W hW m k hk => by
      obtain ⟨b, off, r1, r2⟩ := hk2 m k 0 _ hk rfl
      rw [show m * keyE.k + 0 = m from Nat.mul_one m] at r2
      exact ⟨b, off, r1, (hW.cell (p := ⟨b, off + m, none⟩) (World.block_lt_of_cell? w _ r2)).trans r2⟩
    have hol : (ownM l g).length ≤ 1000000 := by
      unfold ownM
      split
      · rename_i hm
        have := ((mayC_iff.1 hm).own g l.length).1
        rw [List.take_length] at this
        have := (formB_iff.1 this).1
        omega
      · simp
    have hgl := grps_len l ks 17
    obtain ⟨BM, hBM⟩ : ∃ BM, BM = mayC l := ⟨_, rfl⟩
    rw [← hBM] at kG kM
    have HBM : Hid (BM = mayC l) := hBM
    clear hBM hk2 hlen hlenK h100 hF hK
    subst hlv
    go_enter Try.func5, Try.ntmps5
    go_wp2_with fail
    refine kG.mono ?_
    rintro e w1 ⟨⟨v1, c1, rfl, hG1⟩, hb1⟩
    have hcase : Hid (if BM && keysOk ks then c1 = 0 ∧ Rd intE w1 v1 (grpsTo l ks 17) else c1 = 1 ∧ v1 = .slice none 0 0) := hG1
    have k2 := kO w1 hb1
    clear kG kO hG1
    go_wp2_with fail
    refine k2.mono ?_
    rintro e w2 ⟨v2, rfl, hR2, hb2'⟩
    have hb2 := hb1.trans (hb2'.mono hb1.size)
    have k3 := kR w2 hb2
    clear k2 kR
    go_wp2_with fail
    refine k3.mono ?_
    rintro e w3 ⟨v3, rfl, hR3, hb3'⟩
    have hb3 := hb2.trans (hb3'.mono hb2.size)
    have k4 := ssame_of (ownM l g) v2 v3 w3 (hR2.below hb3').sv hR3.sv hol
    have hb13 := hb2'.trans (hb3'.mono hb2'.size)
    clear k3 hR2 hR3 hol
    go_wp2_with fail
    refine k4.mono ?_
    rintro e w4 ⟨rfl, hb4'⟩
    have hb4 := hb3.trans (hb4'.mono hb3.size)
    have hb14 := hb13.trans (hb4'.mono hb13.size)
    have k5 := kM w4 hb4
    clear k4 kM hb2 hb3 hb2' hb3' hb4' hb13
    go_wp2_with fail
    refine k5.mono ?_
    rintro e w5 ⟨rfl, hb5'⟩
    have hb5 := hb4.trans (hb5'.mono hb4.size)
    have hb15 := hb14.trans (hb5'.mono hb14.size)
    clear k5 hb4 hb5' hb14
    go_wp2
    go_loopg [9, 10] ks.length (fun gg s9 s10 wr => ∃ m : Nat, m + gg = ks.length ∧ s10 = .int .i64 (m : Int) ∧ s9 = .bool (BM && keysOk (ks.take m)) ∧ wr = w5)
    case atStart => exact ⟨0, by simp, rfl, by simp [keysOk], rfl⟩
    case round =>
      obtain ⟨m, hmg, rfl, rfl, rfl⟩ := hrel
      by_cases hlt : m < ks.length
      · have hlti : (m : Int) < (ks.length : Int) := by omega
        have hx : ks[m]? = some ks[m] := List.getElem?_eq_getElem hlt
        obtain ⟨kb, ko, rfl, c0⟩ := hkW wr hb5 m _ hx
        obtain ⟨k, hk⟩ : ∃ k, k = ks[m] := ⟨_, rfl⟩
        rw [← hk] at hx c0
        have hnx : (BM && keysOk (ks.take (m + 1))) = ((BM && keysOk (ks.take m)) && decide (k.length ≤ 64)) := by
          unfold keysOk
          rw [take_succ_get hx, List.all_append, Bool.and_assoc]
          simp
        have HX : Hid _ := hnx
        clear hk hx hnx hkW kH hcase HBM
        generalize (BM && keysOk (ks.take m)) = P at *
        cases P with
        | false =>
          go_wp2
          go_roundg (gk - 1)
          case measure => omega
          case rel => exact ⟨m + 1, by omega, by go_num, by rw [HX.out]; rfl, rfl⟩
        | true =>
          by_cases hk64 : k.length ≤ 64
          · have hki : (k.length : Int) ≤ 64 := by omega
            go_wp2
            go_roundg (gk - 1)
            case measure => omega
            case rel => exact ⟨m + 1, by omega, by go_num, by rw [HX.out, decide_eq_true hk64]; rfl, rfl⟩
          · have hki : ¬ (k.length : Int) ≤ 64 := by omega
            go_wp2
            go_roundg (gk - 1)
            case measure => omega
            case rel => exact ⟨m + 1, by omega, by go_num, by rw [HX.out, decide_eq_false hk64]; first | rfl | simp_all, rfl⟩
      · have hlti : ¬ (m : Int) < (ks.length : Int) := by omega
        obtain rfl : m = ks.length := by omega
        rw [List.take_length]
        clear hkW
        cases hP : (BM && keysOk ks) with
        | false =>
          have h9 := hcase.out
          rw [hP, if_neg (by decide)] at h9
          obtain ⟨rfl, rfl⟩ := h9
          have kW1 := kW wr
          clear hcase kW kH hP HBM
          go_wp2_with fail
          refine kW1.mono ?_
          rintro e w6 ⟨rfl, hb6⟩
          go_wp2
          go_ret
          exact ⟨rfl, hb5.trans (hb6.mono hb5.size)⟩
        | true =>
          have h9 := hcase.out
          rw [hP, if_pos rfl] at h9
          obtain ⟨rfl, hR1⟩ := h9
          simp only [Bool.and_eq_true] at hP
          have kH1 := kH (mayC_iff.1 (by rw [← HBM.out]; exact hP.1)) hP.2 wr hb5
          clear hcase kH hP HBM
          go_wp2_with fail
          refine kH1.mono ?_
          rintro e w6 ⟨v6, rfl, hR6, hb6'⟩
          have hb6 := hb5.trans (hb6'.mono hb5.size)
          have hR1' := (hR1.below hb15).below hb6'
          clear kH1 hR1 hb5 hb6' hb15
          obtain ⟨a1, n1, rfl, -, -, hc1⟩ := id hR1'
          obtain ⟨a6, n6, rfl, -, -, hc6⟩ := id hR6
          have hcl1 : ∀ (m : Nat) (z : Int), (grpsTo l ks 17)[m]? = some z → ∃ b off, a1 = some ⟨b, off, none⟩ ∧ w6.cell? ⟨b, off + m, none⟩ = some (.int .i64 z) := fun m z hz => by
            obtain ⟨b, off, r1, r2⟩ := hc1 m z 0 _ hz rfl
            rw [show m * intE.k + 0 = m from Nat.mul_one m] at r2
            exact ⟨b, off, r1, r2⟩
          have hcl6 : ∀ (m : Nat) (z : Int), (grpsTo l ks 17)[m]? = some z → ∃ b off, a6 = some ⟨b, off, none⟩ ∧ w6.cell? ⟨b, off + m, none⟩ = some (.int .i64 z) := fun m z hz => by
            obtain ⟨b, off, r1, r2⟩ := hc6 m z 0 _ hz rfl
            rw [show m * intE.k + 0 = m from Nat.mul_one m] at r2
            exact ⟨b, off, r1, r2⟩
          clear hc1 hc6 hR1' hR6
          generalize grpsTo l ks 17 = GL at *
          go_wp2
          obtain ⟨wz, hwz⟩ : ∃ wz, wz = wr := ⟨_, rfl⟩
          subst hwz
          go_loopg [12] GL.length (fun gg s12 wr => ∃ m : Nat, m + gg = GL.length ∧ s12 = .int .i64 (m : Int) ∧ Below w6.heap.size w6 wr)
          case atStart => exact ⟨0, by simp, rfl, Below.refl _ _⟩
          case round =>
            obtain ⟨m, hmg2, rfl, hbm⟩ := hrel
            by_cases hlt2 : m < GL.length
            · have hlti2 : (m : Int) < (GL.length : Int) := by omega
              have hx : GL[m]? = some GL[m] := List.getElem?_eq_getElem hlt2
              obtain ⟨b1, o1, rfl, e1⟩ := hcl1 m _ hx
              obtain ⟨b6, o6, rfl, e6⟩ := hcl6 m _ hx
              have e1' := (hbm.cell (p := ⟨b1, o1 + m, none⟩) (World.block_lt_of_cell? w6 _ e1)).trans e1
              have e6' := (hbm.cell (p := ⟨b6, o6 + m, none⟩) (World.block_lt_of_cell? w6 _ e6)).trans e6
              clear hcl1 hcl6 e1 e6 hx
              generalize GL[m] = z at *
              go_wp2
              go_quiet (fail)
              go_wp2
              go_roundg (gk - 1)
              case measure => omega
              case rel => exact ⟨m + 1, by omega, by go_num, below_drewN hbm nq⟩
            · have hlti2 : ¬ (m : Int) < (GL.length : Int) := by omega
              have kW1 := kW wr
              have hbz := hb6.trans (hbm.mono hb6.size)
              clear kW hcl1 hcl6
              go_wp2_with fail
              refine kW1.mono ?_
              rintro e w7 ⟨rfl, hb7⟩
              go_wp2
              go_ret
              exact ⟨rfl, hbz.trans (hb7.mono hbz.size)⟩
end Go.Proofs.Ytldlimakcdaoaaa

