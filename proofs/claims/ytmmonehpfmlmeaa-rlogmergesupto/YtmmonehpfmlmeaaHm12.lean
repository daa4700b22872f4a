import Derived.Test.YtmmonehpfmlmeaaHm11
/- The contracts of the document's Behind, May, Last, Term, Fresh. -/
namespace Go.Proofs.Ytmmonehpfmlmeaa
open Go.RowKit QuorumMath RlogMath
set_option maxRecDepth 100000
set_option linter.unusedSimpArgs false
set_option linter.unusedVariables false

/-- Numbers and bytes as they came in. -/
def EzOk (z : Ez) : Prop := z.1.idx < 18446744073709551616 ∧ z.1.term < 18446744073709551616 ∧ ∀ c ∈ z.1.data, c < 256
abbrev mes (zs : List Ez) : List Me := zs.map fun z => z.1
theorem mes_at {zs : List Ez} {i : Nat} {z : Ez} (h : zs[i]? = some z) : (mes zs)[i]? = some z.1 := by rw [List.getElem?_map, h]; rfl

set_option maxHeartbeats 400000 in
theorem behind_of (x t : Nat) (zs : List Ez) (lv : Value) (w : World) (hL : EntsV w lv zs) (hx : x < 18446744073709551616) (hok : ∀ z ∈ zs, EzOk z) (hlen : zs.length ≤ 1000000000000) : Calls Try.prog 37 #[.int .u64 (x : Int), .int .u64 (t : Int), lv] w fun e w' => e = .returned (.bool (behB x t (mes zs))) ∧ Below w.heap.size w w' := by
  obtain ⟨B, HB⟩ : ∃ B, Hid (B = behB x t (mes zs)) := ⟨_, rfl⟩
  rw [← HB.out]
  obtain ⟨ao, cap, rfl, -, -⟩ := hL.1.shape
  have HX : Hid (x < 18446744073709551616) := hx
  have HOK : Hid (∀ z ∈ zs, EzOk z) := hok
  clear hx hok
  go_enter Try.func37, Try.ntmps37
  go_wp2
  go_loopg [0, 1, 7] zs.length (fun gh s0 s1 s7 wr => ∃ (k X T : Nat), k + gh = zs.length ∧ s7 = .int .i64 (k : Int) ∧ s0 = .int .u64 (X : Int) ∧ s1 = .int .u64 (T : Int) ∧ Hid (X < 18446744073709551616) ∧ Below w.heap.size w wr ∧ Hid (B = behB X T ((mes zs).drop k)))
  case atStart => exact ⟨0, x, t, by simp, rfl, rfl, rfl, HX, Below.refl _ _, by rw [List.drop_zero]; exact HB⟩
  case round =>
    obtain ⟨k, X, T, hkg, rfl, rfl, rfl, HXX, hb, HBB⟩ := hrel
    clear HX HB
    by_cases hlt : k < zs.length
    · have hlti : (k : Int) < (zs.length : Int) := by omega
      have hz : zs[k]? = some zs[k] := List.getElem?_eq_getElem hlt
      obtain ⟨z, hzz⟩ : ∃ z, z = zs[k] := ⟨_, rfl⟩
      rw [← hzz] at hz
      clear hzz
      obtain ⟨b, off, rfl, c⟩ := rde_at hL.1 hz
      obtain ⟨c0, c1, c2, c3⟩ := c wr hb
      have hzm := List.mem_of_getElem? hz
      have hzo := HOK.out z hzm
      have HZ : Hid (z.1.idx < 18446744073709551616) := hzo.1
      have HBZ := HBB.out
      rw [beh_at (mes_at hz)] at HBZ
      have ke := entry_of z wr ((hL.2 z hzm).below hb) hzo.2.2
      by_cases h1 : X = 18446744073709551615
      · have E : Hid (B = false) := by show _ = _; rw [HBZ, decide_eq_false (by simpa using h1)]; rfl
        have h1i : (X : Int) = 18446744073709551615 := by omega
        have h1b : ((X : Int) == 18446744073709551615) = true := by simpa using h1i
        obtain ⟨⟨ix, tm, kd, dt⟩, sa, sn, sc⟩ := z
        dsimp only at c0 c1 c2 c3
        clear HBB HBZ HOK hz c hzm hzo hL ke HZ HXX h1
        go_wp2
        go_ret
        exact ⟨by rw [E.out]; rfl, hb⟩
      · have h1b : ((X : Int) == 18446744073709551615) = false := by simp; omega
        have h1n : ¬ (X : Int) = 18446744073709551615 := by omega
        obtain ⟨Y, hY⟩ : ∃ Y, Hid (Y = X + 1) := ⟨_, rfl⟩
        have hwr : IntKind.u64.wrap ((X : Int) + 1) = (Y : Int) := by
          have h9 := HXX.out
          have h8 := hY.out
          rw [show (X : Int) + 1 = (Y : Int) by omega]
          exact IntWalk.u64_in _ (by omega)
        rw [decide_eq_true (show X ≠ 18446744073709551615 from h1), Bool.true_and, ← hY.out] at HBZ
        obtain ⟨⟨ix, tm, kd, dt⟩, sa, sn, sc⟩ := z
        dsimp only at c0 c1 c2 c3 HBZ HZ
        have ke' : Calls Try.prog 47 #[.agg #[.int .u64 (ix : Int), .int .u64 (tm : Int), .int .i64 kd, .slice sa sn sc]] wr _ := ke
        clear ke
        have ke := ke'
        clear ke'
        by_cases h2 : ix = Y
        · rw [decide_eq_true h2, Bool.true_and] at HBZ
          subst h2
          by_cases h3 : tm < T
          · have h3i : (tm : Int) < (T : Int) := by omega
            have E : Hid (B = false) := by show _ = _; rw [HBZ, decide_eq_false (by omega : ¬ T ≤ tm)]; rfl
            clear HBB HBZ HOK hz c hzm hzo hL HXX h1 hY ke HZ
            go_wp2
            go_ret
            exact ⟨by rw [E.out]; rfl, hb⟩
          · have h3i : ¬ (tm : Int) < (T : Int) := by omega
            rw [decide_eq_true (by omega : T ≤ tm), Bool.true_and] at HBZ
            cases he : entB ⟨ix, tm, kd, dt⟩ with
            | false =>
              rw [he] at ke HBZ
              have E : Hid (B = false) := by show _ = _; rw [HBZ]; rfl
              clear HBB HBZ HOK hz c hzm hzo hL HXX h1 hY HZ he
              go_wp2_with fail
              refine ke.mono ?_
              rintro e w1 ⟨rfl, hb1⟩
              go_wp2
              go_ret
              exact ⟨by rw [E.out]; rfl, hb.trans (hb1.mono hb.size)⟩
            | true =>
              rw [he] at ke HBZ
              have E : Hid (B = behB ix tm ((mes zs).drop (k + 1))) := by show _ = _; rw [HBZ]; rfl
              have cW := fun W hW => c W (hb.trans hW)
              have hbs := hb.size
              clear HBB HBZ HOK hz hzm hzo hL HXX h1 hY he
              go_wp2_with fail
              refine ke.mono ?_
              rintro e w1 ⟨rfl, hb1⟩
              obtain ⟨e0, e1, -, -⟩ := cW w1 (hb1.mono hbs)
              clear c0 c1 c2 c3 c cW ke
              go_wp2
              go_roundg (gk - 1)
              case measure => omega
              case rel => exact ⟨k + 1, ix, tm, by omega, by go_num, rfl, rfl, HZ, hb.trans (hb1.mono hb.size), E⟩
        · have h2i : ¬ (ix : Int) = (Y : Int) := by omega
          have h2b : ((ix : Int) != (Y : Int)) = true := by simp; omega
          have E : Hid (B = false) := by show _ = _; rw [HBZ, decide_eq_false h2]; rfl
          clear HBB HBZ HOK hz c hzm hzo hL HXX h1 hY ke HZ h2
          go_wp2
          go_ret
          exact ⟨by rw [E.out]; rfl, hb⟩
    · have hlti : ¬ (k : Int) < (zs.length : Int) := by omega
      have E : Hid (B = true) := by show _ = _; rw [HBB.out, List.drop_eq_nil_of_le (by simp; omega)]; rfl
      clear HBB HOK hL HXX
      go_wp2
      go_ret
      exact ⟨by rw [E.out]; rfl, hb⟩
end Go.Proofs.Ytmmonehpfmlmeaa

