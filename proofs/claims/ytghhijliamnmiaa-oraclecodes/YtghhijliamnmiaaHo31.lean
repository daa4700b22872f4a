import Derived.Test.YtghhijliamnmiaaHo30
import Derived.Test.YtghhijliamnmiaaHo09
import Derived.Test.YtghhijliamnmiaaHo24
import Derived.Test.YtghhijliamnmiaaHo03
/- Encode of the program and of the document. -/
namespace Go.Proofs.Ytghhijliamnmiaa
open Go.RowKit OracleMath WireMath
set_option maxRecDepth 100000
set_option linter.unusedSimpArgs false
set_option linter.unusedVariables false

/-- Bytes that came, or that were made: read below the heap's end. -/
@[reducible] def Bn (w : World) (v : Value) (l : List Nat) : Prop := Wi.Bs w.heap.size w v l
/-- What Encode tells. -/
def EncT (ok : Bool) (m : List Nat) (e : Ending) (w' : World) : Prop := ∃ v c, e = .returned (.tuple #[v, .int .i64 c]) ∧ if ok then c = 0 ∧ Bn w' v m else c = 1 ∧ v = .slice none 0 0
set_option maxHeartbeats 8000000 in
theorem enc_of (x : Wn) (w : World) (hok : OkW x) : Calls Try.prog 18 #[wv x] w fun e w' => EncT (mayB x) (encB x) e w' ∧ Below w.heap.size w w' := by
  obtain ⟨T, HT⟩ : ∃ T, Hid (T = EncT (mayB x) (encB x)) := ⟨_, rfl⟩
  rw [← HT.out]
  obtain ⟨hs, hb, cl⟩ := wn_box w x
  have kc := check_of x (w.alloc (wc x)) hok
  have HS : Hid (w.heap.size + 1 ≤ (w.alloc (wc x)).heap.size) := Nat.le_of_eq hs.symm
  obtain ⟨n, l, s⟩ := x
  have hn : Hid (n < 18446744073709551616) := hok.1
  have hl : Hid (l < 18446744073709551616) := hok.2
  obtain ⟨c0, c1, c2⟩ := cl _ (Below.refl _ _)
  cases hm : mayB (n, l, s) with
  | false =>
    rw [hm] at kc
    simp only [Bool.false_eq_true, if_false] at kc
    have E1 : Hid (∀ W, T (.returned (.tuple #[.slice none 0 0, .int .i64 1])) W) := fun W => by rw [HT.out, hm]; exact ⟨_, _, rfl, rfl, rfl⟩
    dsimp only [wv, wc] at *
    clear HT hm cl hok
    go_enter Try.func18, Try.ntmps18
    go_wp2_with fail
    refine kc.mono ?_
    rintro e w1 ⟨rfl, hb1⟩
    have hb01 := hb.trans (hb1.mono (Nat.le_trans (Nat.le_succ _) HS.out))
    go_wp2
    go_ret2
    exact ⟨E1.out _, hb01⟩
  | true =>
    rw [hm] at kc
    simp only [if_true] at kc
    have E1 : Hid (∀ v W, Bn W v (encB (n, l, s)) → T (.returned (.tuple #[v, .int .i64 0])) W) := fun v W h => by rw [HT.out, hm]; exact ⟨_, _, rfl, rfl, h⟩
    have hu1 := uv_len10 hn.out
    have hu2 := uv_len10 hl.out
    have HU : Hid (∀ (L : List Nat) (v : Value) (m : Nat) (W : World), Bn W v L → m < 18446744073709551616 → L.length ≤ 100 → Calls Try.prog 23 #[v, .int .u64 (m : Int)] W fun e w' => ∃ v', e = .returned v' ∧ Bn w' v' (L ++ uv m) ∧ Below W.heap.size W w') := fun L v m W h1 h2 h3 => (Wi.uvarint_of _ L v m W h1 h2 (by omega)).mono fun e w' ⟨v', h4, h5, h6⟩ => ⟨v', h4, h5.bs, h6⟩
    dsimp only [wv, wc] at *
    clear HT hm hok
    go_enter Try.func18, Try.ntmps18
    go_wp2_with fail
    refine kc.mono ?_
    rintro e w1 ⟨rfl, hb1⟩
    obtain ⟨a0, a1, a2⟩ := cl _ (hb1.mono HS.out)
    have hb01 := hb.trans (hb1.mono (Nat.le_trans (Nat.le_succ _) HS.out))
    have hk1 := hb1.mono HS.out
    have k1 := HU.out [] (.slice none 0 0) n w1 (Wi.Bs.nil _ _) hn.out (by simp)
    clear kc c0 c1 c2 hb1
    go_wp2_with fail
    refine k1.mono ?_
    rintro e w2 ⟨v2, rfl, hB2, hb2⟩
    have hk2 := keep_step hk1 HS.out hb2
    have hb02 := hb01.trans (hb2.mono hb01.size)
    obtain ⟨d0, d1, d2⟩ := cl _ hk2
    have k2 := HU.out ([] ++ uv n) v2 l w2 hB2 hl.out (by simp; omega)
    clear k1 a0 a1 a2 hB2 hb2 hk1 hb01
    go_wp2_with fail
    refine k2.mono ?_
    rintro e w3 ⟨v3, rfl, hB3, hb3⟩
    have hk3 := keep_step hk2 HS.out hb3
    have hb03 := hb02.trans (hb3.mono hb02.size)
    obtain ⟨a0, a1, a2⟩ := cl _ hk3
    clear k2 d0 d1 d2 hb3 hk2 hb02
    cases s with
    | true =>
      have k3 := HU.out ([] ++ uv n ++ uv l) v3 1 w3 hB3 (by decide) (by simp; omega)
      have HX : Hid ([] ++ uv n ++ uv l ++ uv 1 = encB (n, l, true)) := by show _ = _; simp [encB, flN]
      go_wp2_with fail
      refine k3.mono ?_
      rintro e w4 ⟨v4, rfl, hB4, hb4⟩
      rw [HX.out] at hB4
      have hb04 := hb03.trans (hb4.mono hb03.size)
      have E2 := E1.out v4 w4 hB4
      have E3 : Hid _ := E2
      clear k3 hB3 hB4 E1 E2 hb4 hb03 a0 a1 a2 hk3 cl
      go_wp2
      go_ret2
      exact ⟨E3.out, hb04⟩
    | false =>
      have k3 := HU.out ([] ++ uv n ++ uv l) v3 0 w3 hB3 (by decide) (by simp; omega)
      have HX : Hid ([] ++ uv n ++ uv l ++ uv 0 = encB (n, l, false)) := by show _ = _; simp [encB, flN]
      go_wp2_with fail
      refine k3.mono ?_
      rintro e w4 ⟨v4, rfl, hB4, hb4⟩
      rw [HX.out] at hB4
      have hb04 := hb03.trans (hb4.mono hb03.size)
      have E2 := E1.out v4 w4 hB4
      have E3 : Hid _ := E2
      clear k3 hB3 hB4 E1 E2 hb4 hb03 a0 a1 a2 hk3 cl
      go_wp2
      go_ret2
      exact ⟨E3.out, hb04⟩

def AppB (n : Nat) (w : World) (l : List Nat) (v' : Value) (w' : World) : Prop := Wi.Own n w' v' l ∧ Below n w w'
theorem app_run {n n₁ : Nat} {w : World} {v xv : Value} {l r : List Nat} (h : Wi.Own n w v l) (hn : n ≤ w.heap.size) (hB : Wi.Bs n₁ w xv r) (hlen : l.length + r.length ≤ 140737488355328) :
    ∀ ty, ∃ v' w', (Builtin.append_ #[37, 37] ty #[v, xv]).run Try.prog w = .ok v' w' ∧ AppB n w (l ++ r) v' w' := fun ty => by
  obtain ⟨v', w', h1, h2, h3, _⟩ := Wi.run_append_bs w ty n v l h hn n₁ xv r hB hlen
  exact ⟨v', w', h1, h2, h3⟩
theorem one_byte (w : World) (n : Nat) : Wi.Bs (w.alloc (.cells #[.int .u8 (n : Int)] 5)).heap.size (w.alloc (.cells #[.int .u8 (n : Int)] 5)) (.slice (some ⟨w.heap.size, 0, none⟩) 1 1) [n] := by
  refine ⟨some ⟨w.heap.size, 0, none⟩, 1, rfl, Nat.le_refl _, by unfold maxLen; omega, (fun h => by cases h), fun _ => ⟨w.heap.size, 0, rfl, by simp, fun j c hj => ?_⟩⟩
  match j with
  | 0 =>
    simp at hj
    subst hj
    rw [cells_of_block (one_box w (.cells #[.int .u8 (n : Int)] 5)).2.1]
    rfl
  | j + 1 => simp at hj
set_option maxHeartbeats 8000000 in
theorem renc_of (x : Wn) (w : World) (hok : OkW x) : Calls Try.prog 20 #[wv x] w fun e w' => ∃ v, e = .returned v ∧ Bn w' v (encB x) ∧ Below w.heap.size w w' := by
  obtain ⟨n, l, s⟩ := x
  have hn : Hid (n < 18446744073709551616) := hok.1
  have hl : Hid (l < 18446744073709551616) := hok.2
  have hu1 := uv_len10 hn.out
  have hu2 := uv_len10 hl.out
  have kU1 : Hid (∀ W, _) := fun W => Wi.refUvarint_of n W hn.out
  have kU2 : Hid (∀ W, _) := fun W => Wi.refUvarint_of l W hl.out
  obtain ⟨t0, n0, B0⟩ := one_box w (.cells #[.int .u64 (n : Int), .int .u64 (l : Int), .bool s] 24)
  obtain ⟨-, c0, c1, c2⟩ := h_cells n0
  obtain ⟨g0, hg0⟩ : ∃ g0, g0 = w.heap.size := ⟨_, rfl⟩
  rw [← hg0] at c0 c1 c2 n0
  dsimp only [wv] at *
  clear hok
  go_enter Try.func20, Try.ntmps20
  go_wp2
  rw [← hg0]
  clear hg0 t0
  generalize w.alloc (.cells #[.int .u64 (n : Int), .int .u64 (l : Int), .bool s] 24) = W0 at *
  refine wp_region_L (fun W => W.heap[g0]? = some (.cells #[.int .u64 (n : Int), .int .u64 (l : Int), .bool s] 24 (0, 0)) ∧ Below w.heap.size w W) [] (by kernel_rfl) ?_
  have yS : (fun W => W.heap[g0]? = some (.cells #[.int .u64 (n : Int), .int .u64 (l : Int), .bool s] 24 (0, 0)) ∧ Below w.heap.size w W) W0.drew := ⟨n0, B0.drew⟩
  generalize W0.drew = w1 at *
  refine wpAnyL_take 0 rfl (by kernel_rfl) (by kernel_rfl) (by kernel_rfl) (by kernel_rfl) (fun _ _ _ h => h) (wanted_none rfl) (by intro w' hS'; obtain ⟨xb, xB⟩ := hS'; obtain ⟨-, y0, y1, y2⟩ := h_cells xb; go_simp <;> rfl) yS ?_
  try simp only [List.getElem_toArray, List.getElem_cons_succ, List.getElem_cons_zero, Act.put, List.setIfInBounds_toArray, List.set_cons_zero, List.set_cons_succ]
  refine wpAnyL_take 1 rfl (by kernel_rfl) (by kernel_rfl) (by kernel_rfl) (by kernel_rfl) (fun _ _ _ h => h) (wanted_none rfl) (by intro w' hS'; obtain ⟨xb, xB⟩ := hS'; obtain ⟨-, y0, y1, y2⟩ := h_cells xb; go_simp <;> rfl) yS ?_
  try simp only [List.getElem_toArray, List.getElem_cons_succ, List.getElem_cons_zero, Act.put, List.setIfInBounds_toArray, List.set_cons_zero, List.set_cons_succ]
  refine wpAnyL_take 3 rfl (by kernel_rfl) (by kernel_rfl) (by kernel_rfl) (by kernel_rfl) (fun _ _ _ h => h) (wanted_none rfl) (by intro w' hS'; obtain ⟨xb, xB⟩ := hS'; obtain ⟨-, y0, y1, y2⟩ := h_cells xb; go_simp <;> rfl) yS ?_
  try simp only [List.getElem_toArray, List.getElem_cons_succ, List.getElem_cons_zero, Act.put, List.setIfInBounds_toArray, List.set_cons_zero, List.set_cons_succ]
  refine wpAnyL_take 4 rfl (by kernel_rfl) (by kernel_rfl) (by kernel_rfl) (by kernel_rfl) (fun _ _ _ h => h) (wanted_none rfl) (by intro w' hS'; obtain ⟨xb, xB⟩ := hS'; obtain ⟨-, y0, y1, y2⟩ := h_cells xb; go_simp <;> rfl) yS ?_
  try simp only [List.getElem_toArray, List.getElem_cons_succ, List.getElem_cons_zero, Act.put, List.setIfInBounds_toArray, List.set_cons_zero, List.set_cons_succ]
  refine wpAnyL_one 2 (by kernel_rfl) rfl (wanted_none rfl) ?_
  intro K' hK'
  go_simp
  go_at_call 28
  refine (kU1.out _).mono ?_
  rintro e W2 ⟨v2, rfl, hO2, hq⟩
  have hS2 : (fun W => W.heap[g0]? = some (.cells #[.int .u64 (n : Int), .int .u64 (l : Int), .bool s] 24 (0, 0)) ∧ Below w.heap.size w W) W2 := ⟨(hq.block g0 (Array.getElem?_eq_some_iff.1 yS.1).1).trans yS.1, yS.2.trans (hq.mono yS.2.size)⟩
  have hz2 : w1.heap.size ≤ W2.heap.size := hq.size
  clear hq
  refine hK'.out _ _ (.inr hS2) ?_
  clear hK' K'
  try simp only [List.getElem_toArray, List.getElem_cons_succ, List.getElem_cons_zero, Act.put, List.setIfInBounds_toArray, List.set_cons_zero, List.set_cons_succ]
  refine wpAnyL_one 5 (by kernel_rfl) rfl (wanted_none rfl) ?_
  intro K' hK'
  go_simp
  go_at_call 28
  refine (kU2.out _).mono ?_
  rintro e W3 ⟨v3, rfl, hO3, hq⟩
  have hS3 : (fun W => W.heap[g0]? = some (.cells #[.int .u64 (n : Int), .int .u64 (l : Int), .bool s] 24 (0, 0)) ∧ Below w.heap.size w W) W3 := ⟨(hq.block g0 (Array.getElem?_eq_some_iff.1 hS2.1).1).trans hS2.1, hS2.2.trans (hq.mono hS2.2.size)⟩
  have hO2b := hO2.below hq
  have hz3 := Nat.le_trans hz2 hq.size
  have hrun : Hid _ := app_run hO2b hz3 hO3.bs (by omega)
  clear hq
  refine hK'.out _ _ (.inr hS3) ?_
  clear hK' K'
  try simp only [List.getElem_toArray, List.getElem_cons_succ, List.getElem_cons_zero, Act.put, List.setIfInBounds_toArray, List.set_cons_zero, List.set_cons_succ]
  refine wpAnyL_one 6 (by kernel_rfl) rfl (wanted_none rfl) ?_
  intro K' hK'
  obtain ⟨v2a, v2c, hv2⟩ := hO2b.shape
  generalize (uv n).length = ln at hv2
  subst hv2
  refine op_by _ _ _ rfl _ _ rfl rfl hrun.out ?_
  intro v4 W4 p4
  obtain ⟨hO4, hb4'⟩ := p4
  have hS4 : (fun W => W.heap[g0]? = some (.cells #[.int .u64 (n : Int), .int .u64 (l : Int), .bool s] 24 (0, 0)) ∧ Below w.heap.size w W) W4 := ⟨(hb4'.block g0 (Array.getElem?_eq_some_iff.1 yS.1).1).trans hS3.1, hS3.2.trans (hb4'.mono yS.2.size)⟩
  have hO4 := hO4.mono yS.2.size
  refine hK'.out _ _ (.inr hS4) ?_
  clear hK' K'
  try simp only [List.getElem_toArray, List.getElem_cons_succ, List.getElem_cons_zero, Act.put, List.setIfInBounds_toArray, List.set_cons_zero, List.set_cons_succ]
  refine wpAnyL_take 7 rfl (by kernel_rfl) (by kernel_rfl) (by kernel_rfl) (by kernel_rfl) (fun _ _ _ h => h) (wanted_none rfl) (by intro w' hS'; obtain ⟨xb, xB⟩ := hS'; obtain ⟨-, y0, y1, y2⟩ := h_cells xb; go_simp <;> rfl) hS4 ?_
  try simp only [List.getElem_toArray, List.getElem_cons_succ, List.getElem_cons_zero, Act.put, List.setIfInBounds_toArray, List.set_cons_zero, List.set_cons_succ]
  refine wpAnyL_done (by kernel_rfl) (NoPanic.normal ?_) _
  obtain ⟨hx4, hb4⟩ := hS4
  have HL4 : Hid ((uv n ++ uv l).length ≤ 20) := by show _ ≤ _; rw [List.length_append]; omega
  clear yS hS2 hS3 hO2 hO2b hz2 hz3 hO3 hrun hb4' kU1 kU2 c0 c1 c2 n0 B0
  obtain ⟨-, c0, c1, c2⟩ := h_cells hx4
  clear hx4
  cases s with
  | true =>
    obtain ⟨ta, tc, hta⟩ := hO4.shape
    obtain ⟨q1, q2, q3⟩ := one_box W4 (.cells #[.int .u8 (1 : Int)] 5)
    have hO5 := hO4.below q3
    have hb5 := hb4.trans (q3.mono hb4.size)
    have hrun : Hid _ := app_run hO5 hb5.size (one_byte W4 1) (by have := HL4.out; simp only [List.length_append, List.length_cons, List.length_nil]; omega)
    have HX : Hid (uv n ++ (uv l ++ [1]) = encB (n, l, true)) := by show _ = _; simp [encB, flN, uv_lt]
    generalize (uv n ++ uv l).length = LN at hta
    subst hta
    clear hO4 hO5 q1 q2 HL4
    go_wp2_with (at_builtin; refine wp_by rfl _ _ _ rfl _ _ rfl rfl hrun.out ?_)
    intro b5 w5 hp5
    obtain ⟨hO6, hb6⟩ := hp5
    rw [HX.out] at hO6
    have hb7 := hb5.trans hb6
    have HO6 : Hid (Bn w5 b5 (encB (n, l, true))) := Wi.Own.bs hO6
    clear hrun HX hb6 hO6 hb5 q3
    go_wp2
    go_ret
    exact ⟨_, rfl, HO6.out, hb7⟩
  | false =>
    obtain ⟨ta, tc, hta⟩ := hO4.shape
    obtain ⟨q1, q2, q3⟩ := one_box W4 (.cells #[.int .u8 (0 : Int)] 5)
    have hO5 := hO4.below q3
    have hb5 := hb4.trans (q3.mono hb4.size)
    have hrun : Hid _ := app_run hO5 hb5.size (one_byte W4 0) (by have := HL4.out; simp only [List.length_append, List.length_cons, List.length_nil]; omega)
    have HX : Hid (uv n ++ (uv l ++ [0]) = encB (n, l, false)) := by show _ = _; simp [encB, flN, uv_lt]
    generalize (uv n ++ uv l).length = LN at hta
    subst hta
    clear hO4 hO5 q1 q2 HL4
    go_wp2_with (at_builtin; refine wp_by rfl _ _ _ rfl _ _ rfl rfl hrun.out ?_)
    intro b5 w5 hp5
    obtain ⟨hO6, hb6⟩ := hp5
    rw [HX.out] at hO6
    have hb7 := hb5.trans hb6
    have HO6 : Hid (Bn w5 b5 (encB (n, l, false))) := Wi.Own.bs hO6
    clear hrun HX hb6 hO6 hb5 q3
    go_wp2
    go_ret
    exact ⟨_, rfl, HO6.out, hb7⟩
end Go.Proofs.Ytghhijliamnmiaa

