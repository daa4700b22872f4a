import Derived.Test.YtdcpdcnipmfdjaaGreatDoorR27
import Derived.Test.YtdcpdcnipmfdjaaGreatDoorR16
import Derived.Test.YtdcpdcnipmfdjaaGreatDoorR28
import Derived.Test.YtdcpdcnipmfdjaaGreatDoorR29
/- The contracts of the program's mayBe and Encode: a state's bytes. -/
namespace Go.Proofs.YtdcpdcnipmfdjaaGreatDoor.Fr
open Go.RowKit WireMath CrcMath FrameMath
set_option maxRecDepth 100000
set_option linter.unusedSimpArgs false
set_option linter.unusedVariables false

/-- A state as a value. -/
def hdA (t v c : Int) : Array Value := #[.int .u64 t, .int .i64 v, .int .u64 c]

theorem mayBe_yes (t c v : Int) (w : World) (h0 : 0 ≤ v) (h7 : v ≤ 7) : Calls Tryz.prog 123 #[.agg #[.int .u64 t, .int .i64 v, .int .u64 c]] w fun e w' => e = .returned (.bool true) ∧ Below w.heap.size w w' := by
  have hb := (Below.refl w.heap.size w).alloc (Nat.le_refl _) (.cells #[.int .u64 t, .int .i64 v, .int .u64 c] 54)
  go_enter Tryz.func123, Tryz.ntmps123
  go_wp2
  go_ret
  exact ⟨by simp [h7], hb⟩
theorem mayBe_no (t c v : Int) (w : World) (h : ¬ (0 ≤ v ∧ v ≤ 7)) : Calls Tryz.prog 123 #[.agg #[.int .u64 t, .int .i64 v, .int .u64 c]] w fun e w' => e = .returned (.bool false) ∧ Below w.heap.size w w' := by
  have hb := (Below.refl w.heap.size w).alloc (Nat.le_refl _) (.cells #[.int .u64 t, .int .i64 v, .int .u64 c] 54)
  by_cases h0 : 0 ≤ v
  · have h7 : ¬ v ≤ 7 := fun h7 => h ⟨h0, h7⟩
    clear h
    go_enter Tryz.func123, Tryz.ntmps123
    go_wp2
    go_ret
    exact ⟨by simp [h7], hb⟩
  · clear h
    go_enter Tryz.func123, Tryz.ntmps123
    go_wp2
    go_ret
    exact ⟨rfl, hb⟩

set_option maxHeartbeats 1000000 in
theorem encode_no (t c v : Int) (w : World) (h : ¬ (0 ≤ v ∧ v ≤ 7)) : Calls Tryz.prog 85 #[.agg #[.int .u64 t, .int .i64 v, .int .u64 c]] w fun e w' => e = .returned (.tuple #[.slice none 0 0, .int .i64 1]) ∧ Below w.heap.size w w' := by
  have hb := (Below.refl w.heap.size w).alloc (Nat.le_refl _) (.cells #[.int .u64 t, .int .i64 v, .int .u64 c] 54)
  have k := mayBe_no t c v (w.alloc (.cells #[.int .u64 t, .int .i64 v, .int .u64 c] 54)) h
  clear h
  go_enter Tryz.func85, Tryz.ntmps85
  go_wp2_with fail
  refine k.mono ?_
  rintro e w1 ⟨rfl, hb1⟩
  go_wp2
  go_ret2
  exact ⟨rfl, hb.trans (hb1.mono hb.size)⟩

set_option maxHeartbeats 2000000 in
theorem encode_of (t v c : Nat) (w : World) (hT : Tab w) (ht : t < 18446744073709551616) (hv : v ≤ 7) (hc : c < 18446744073709551616) :
    Calls Tryz.prog 85 #[.agg #[.int .u64 (t : Int), .int .i64 (v : Int), .int .u64 (c : Int)]] w fun e w' => ∃ a n cp, e = .returned (.tuple #[.slice a n cp, .int .i64 0]) ∧ Own w.heap.size w' (.slice a n cp) (hdB t v c) ∧ Below w.heap.size w w' := by
  have hb := (Below.refl w.heap.size w).alloc (Nat.le_refl _) (.cells #[.int .u64 (t : Int), .int .i64 (v : Int), .int .u64 (c : Int)] 54)
  have hbk := heap_alloc_new w (.cells #[.int .u64 (t : Int), .int .i64 (v : Int), .int .u64 (c : Int)] 54)
  have hsz : (w.alloc (.cells #[.int .u64 (t : Int), .int .i64 (v : Int), .int .u64 (c : Int)] 54)).heap.size = w.heap.size + 1 := by simp
  have hcs : ∀ W, Below (w.heap.size + 1) (w.alloc (.cells #[.int .u64 (t : Int), .int .i64 (v : Int), .int .u64 (c : Int)] 54)) W → W.cell? ⟨w.heap.size, 0, none⟩ = some (.int .u64 (t : Int)) ∧ W.cell? ⟨w.heap.size, 1, none⟩ = some (.int .i64 (v : Int)) ∧ W.cell? ⟨w.heap.size, 2, none⟩ = some (.int .u64 (c : Int)) := fun W hb => by
    have h := (hb.block w.heap.size (by omega)).trans hbk
    exact ⟨by rw [cells_of_block h]; rfl, by rw [cells_of_block h]; rfl, by rw [cells_of_block h]; rfl⟩
  have k0 := mayBe_yes (t : Int) (c : Int) (v : Int) (w.alloc (.cells #[.int .u64 (t : Int), .int .i64 (v : Int), .int .u64 (c : Int)] 54)) (by omega) (by omega)
  have q1 : IntKind.u64.wrap (v : Int) = (v : Int) := by rw [IntKind.wrap_u64]; omega
  have hu1 := uv_len10 ht
  have hu2 := uv_len10 (n := v) (by omega)
  have hu3 := uv_len10 hc
  have HE : Hid (hdD t v c = ([] ++ uv t ++ uv v) ++ uv c) := by show _ = _; simp [hdD]
  have HL : Hid ((hdD t v c).length ≤ 21) := hd_len t v c ht hv hc
  have HB : Hid (∀ x ∈ hdD t v c, x < 256) := hdD_bytes t v c
  obtain ⟨L2, H2⟩ : ∃ L : List Nat, Hid (L = [] ++ uv t) := ⟨[] ++ uv t, rfl⟩
  obtain ⟨L3, H3⟩ : ∃ L : List Nat, Hid (L = L2 ++ uv v) := ⟨L2 ++ uv v, rfl⟩
  obtain ⟨L4, H4⟩ : ∃ L : List Nat, Hid (L = L3 ++ uv c) := ⟨L3 ++ uv c, rfl⟩
  have l2 : L2.length ≤ 10 := by rw [H2.out]; simpa using hu1
  have l3 : L3.length ≤ 20 := by rw [H3.out, List.length_append]; omega
  have e4 : Hid (hdD t v c = L4) := by show _ = _; rw [H4.out, H3.out, H2.out]; exact HE.out
  have k1 : ∀ w1, Calls Tryz.prog 105 #[.slice none 0 0, .int .u64 (t : Int)] w1 fun e w' => ∃ v', e = .returned v' ∧ Own w1.heap.size w' v' L2 ∧ Below w1.heap.size w1 w' := fun w1 => by
    rw [H2.out]; exact uvarint_of 0 [] (.slice none 0 0) t w1 (Bs.nil _ _) ht (by simp)
  have k2 : ∀ n w2 a p, Own n w2 (.slice a L2.length p) L2 → Calls Tryz.prog 105 #[.slice a L2.length p, .int .u64 (v : Int)] w2 fun e w' => ∃ v', e = .returned v' ∧ Own w2.heap.size w' v' L3 ∧ Below w2.heap.size w2 w' := fun n w2 a p hO => by
    rw [H3.out]; exact uvarint_of _ L2 _ v w2 hO.bs (by omega) (by omega)
  have k3 : ∀ n w2 a p, Own n w2 (.slice a L3.length p) L3 → Calls Tryz.prog 105 #[.slice a L3.length p, .int .u64 (c : Int)] w2 fun e w' => ∃ v', e = .returned v' ∧ Own w2.heap.size w' v' L4 ∧ Below w2.heap.size w2 w' := fun n w2 a p hO => by
    rw [H4.out]; exact uvarint_of _ L3 _ c w2 hO.bs hc (by omega)
  have k4 : ∀ n w4 a p, Below (w.heap.size + 1) (w.alloc (.cells #[.int .u64 (t : Int), .int .i64 (v : Int), .int .u64 (c : Int)] 54)) w4 → Own n w4 (.slice a L4.length p) L4 → Calls Tryz.prog 104 #[.int .u8 2, .slice a L4.length p] w4 fun e w' => ∃ v', e = .returned (.tuple #[v', .int .i64 0]) ∧ Own w4.heap.size w' v' (hdB t v c) ∧ Below w4.heap.size w4 w' := fun n w4 a p hb14 hO => by
    have hT4 : Tab w4 := (hT.below' hb (Nat.le_refl _)).below' hb14 (by rw [hsz]; omega)
    have hl := HL.out
    have hy := HB.out
    rw [e4.out] at hl hy
    unfold hdB
    rw [e4.out]
    exact put_of 2 L4 _ _ w4 hT4 hO.bs (by decide) hy (Nat.le_refl _) (by omega)
  generalize hdB t v c = B at *
  clear HE HL HB hT H2 H3 H4 e4
  go_enter Tryz.func85, Tryz.ntmps85
  go_wp2_with fail
  refine k0.mono ?_
  rintro e w1 ⟨rfl, hb1⟩
  rw [hsz] at hb1
  obtain ⟨c0, c1, c2⟩ := hcs _ hb1
  have k1' := k1 w1
  clear k0 k1
  go_wp2_with fail
  refine k1'.mono ?_
  rintro e w2 ⟨v2, rfl, hO2, hb2⟩
  have hb12 := hb1.trans (hb2.mono (by have := hb1.size; omega))
  clear c0 c1 c2 k1'
  obtain ⟨c0, c1, c2⟩ := hcs _ hb12
  obtain ⟨a2, p2, rfl⟩ := hO2.shape
  have k2' := k2 _ w2 a2 p2 hO2
  clear k2
  go_wp2_with fail
  refine k2'.mono ?_
  rintro e w3 ⟨v3, rfl, hO3, hb3⟩
  have hb13 := hb12.trans (hb3.mono (by have := hb12.size; omega))
  clear c0 c1 c2 k2'
  obtain ⟨c0, c1, c2⟩ := hcs _ hb13
  obtain ⟨a3, p3, rfl⟩ := hO3.shape
  have k3' := k3 _ w3 a3 p3 hO3
  clear k3
  go_wp2_with fail
  refine k3'.mono ?_
  rintro e w4 ⟨v4, rfl, hO4, hb4⟩
  have hb14 := hb13.trans (hb4.mono (by have := hb13.size; omega))
  clear c0 c1 c2 k3'
  obtain ⟨a4, p4, rfl⟩ := hO4.shape
  have k4' := k4 _ w4 a4 p4 hb14 hO4
  clear k4
  go_wp2_with fail
  refine k4'.mono ?_
  rintro e w5 ⟨v5, rfl, hO5, hb5⟩
  have hb15 := hb14.trans (hb5.mono (by have := hb14.size; omega))
  obtain ⟨a5, p5, rfl⟩ := hO5.shape
  have hOf := hO5.mono (n₁ := w.heap.size) (by have := hb14.size; omega)
  have hbf : Below w.heap.size w w5 := hb.trans (hb15.mono (by omega))
  clear k4' hO2 hO3 hO4 hO5 hcs
  go_wp2
  go_ret2
  exact ⟨_, _, _, rfl, hOf, hbf⟩
end Go.Proofs.YtdcpdcnipmfdjaaGreatDoor.Fr

/- The contract of the program's Decode: the state of bytes. -/
namespace Go.Proofs.YtdcpdcnipmfdjaaGreatDoor.Fr
open Go.RowKit WireMath CrcMath FrameMath
set_option maxRecDepth 100000
set_option linter.unusedSimpArgs false
set_option linter.unusedVariables false

theorem results_hd {fn : Func} {p u : Tmp} (h : fn.results = #[.cell p 54, .tmp u]) (tmps : Array Value) (w : World) (g : Nat) (a b c : Value)
    (hp : tmps.getD p undef = .pointer (some ⟨g, 0, none⟩)) (hg : w.heap[g]? = some (.cells #[a, b, c] 54 (0, 0))) :
    (results fn tmps).run Tryz.prog w = .ok (.tuple #[.agg #[a, b, c], tmps.getD u undef]) w := by
  have hp' : tmps[p]?.getD undef = .pointer (some ⟨g, 0, none⟩) := by simpa using hp
  simp [results, h, hp', asAddr, run_loadVar_row w g 54 54 #[a, b, c] (0, 0) _ hg Tryz.underlying54 rfl (by kernel_rfl)]
theorem hd_set {w : World} {g : Nat} {a b c : Value} {t : TypeId} (h : w.heap[g]? = some (.cells #[a, b, c] t (0, 0))) (x y z : Value) : (((w.setCell ⟨g, 0, none⟩ x).setCell ⟨g, 1, none⟩ y).setCell ⟨g, 2, none⟩ z).heap[g]? = some (.cells #[x, y, z] t (0, 0)) := by
  simp [World.setCell, Array.getElem?_modify, h]
theorem hd_below {n : Nat} {w w1 : World} (hb : Below n w w1) (x y z : Value) : Below n w (((w1.setCell ⟨n, 0, none⟩ x).setCell ⟨n, 1, none⟩ y).setCell ⟨n, 2, none⟩ z) :=
  ((hb.setCell (p := ⟨n, 0, none⟩) (Nat.le_refl _) _).setCell (p := ⟨n, 1, none⟩) (Nat.le_refl _) _).setCell (p := ⟨n, 2, none⟩) (Nat.le_refl _) _

/-- What Decode tells. -/
def decV (o : Option (Nat × Nat × Nat)) : Value :=
  match o with
  | none => .tuple #[.agg #[.int .u64 0, .int .i64 0, .int .u64 0], .int .i64 5]
  | some (t, v, c) => .tuple #[.agg #[.int .u64 (t : Int), .int .i64 (v : Int), .int .u64 (c : Int)], .int .i64 0]
theorem nx_err_ne {l : List Nat} {e : Nat} (h : next l = .error e) : e ≠ 0 := by
  rcases next_err_lt h with h | h <;> omega

set_option maxHeartbeats 4000000 in
theorem decode_of (n₀ : Nat) (l : List Nat) (v : Value) (w : World) (hT : Tab w) (hB : Bs n₀ w v l) (hl : ∀ c ∈ l, c < 256) (hn₀ : n₀ ≤ w.heap.size) (hlen : l.length ≤ 1000000) :
    Calls Tryz.prog 26 #[v] w fun e w' => e = .returned (decV (hdDec l)) ∧ Below w.heap.size w w' := by
  obtain ⟨ao, cap, rfl, h2, h3, h4, h5⟩ := id hB
  have hb0 := (Below.refl w.heap.size w).alloc (Nat.le_refl _) (.cells #[.int .u64 0, .int .i64 0, .int .u64 0] 54)
  have hbk0 := heap_alloc_new w (.cells #[.int .u64 0, .int .i64 0, .int .u64 0] 54)
  have hsz0 : (w.alloc (.cells #[.int .u64 0, .int .i64 0, .int .u64 0] 54)).heap.size = w.heap.size + 1 := by simp
  have kn := next_of n₀ l _ (w.alloc (.cells #[.int .u64 0, .int .i64 0, .int .u64 0] 54)) (hT.below' hb0 (Nat.le_refl _)) (hB.below (hb0.mono hn₀)) hl (Nat.le_trans hn₀ hb0.size)
  rw [hsz0] at kn
  obtain ⟨V, HV⟩ : ∃ V, Hid (V = decV (hdDec l)) := ⟨_, rfl⟩
  rw [← HV.out]
  have hcs : ∀ W, Below (w.heap.size + 1) (w.alloc (.cells #[.int .u64 0, .int .i64 0, .int .u64 0] 54)) W → W.cell? ⟨w.heap.size, 0, none⟩ = some (.int .u64 0) ∧ W.cell? ⟨w.heap.size, 1, none⟩ = some (.int .i64 0) ∧ W.cell? ⟨w.heap.size, 2, none⟩ = some (.int .u64 0) ∧ W.frozen? ⟨w.heap.size, 0, none⟩ = false ∧ W.frozen? ⟨w.heap.size, 1, none⟩ = false ∧ W.frozen? ⟨w.heap.size, 2, none⟩ = false ∧ Hid (W.heap[w.heap.size]? = some (.cells #[.int .u64 0, .int .i64 0, .int .u64 0] 54 (0, 0))) := fun W hb => by
    have h := (hb.block w.heap.size (by omega)).trans hbk0
    exact ⟨by rw [cells_of_block h]; rfl, by rw [cells_of_block h]; rfl, by rw [cells_of_block h]; rfl, frozen_of h 0, frozen_of h 1, frozen_of h 2, h⟩
  cases hx : next l with
  | error e =>
    have hV : Hid (V = .tuple #[.agg #[.int .u64 0, .int .i64 0, .int .u64 0], .int .i64 5]) := by show V = _; rw [HV.out]; unfold hdDec; rw [hx]; rfl
    have he : e ≠ 0 := nx_err_ne hx
    rw [hx] at kn
    have hei : ¬ (e : Int) = 0 := by omega
    have hej : ((e : Int) != 0) = true := by simp; omega
    clear HV hB hT
    go_enter Tryz.func26, Tryz.ntmps26
    go_wp2_with fail
    refine kn.mono ?_
    rintro e' w1 ⟨v', rfl, hB', hv', hb1⟩
    obtain ⟨c0, c1, c2, f0, f1, f2, hbk⟩ := hcs _ hb1
    have hbf := hb0.trans (hb1.mono (by omega))
    clear kn hB' hv' hcs
    simp only [nxV]
    go_wp2
    (try simp only [Exit.inBlock, Exit.then])
    refine bodyPost_ret (results_hd rfl _ _ w.heap.size _ _ _ rfl (hd_set hbk.out _ _ _)) rfl ?_
    exact ⟨by rw [hV.out]; rfl, hd_below hbf _ _ _⟩
  | ok x =>
    obtain ⟨k, d, n⟩ := x
    have hf := next_ok_facts hx
    have hd : ∀ c ∈ d, c < 256 := fun c hc => hl c (hf.2.2.2 c hc)
    rw [hx] at kn
    by_cases hk : k = 2 ∧ n = l.length
    · obtain ⟨hk2, hnl⟩ := hk
      subst hk2
      have hVo : Hid (V = decV (if hOk d = true then some (hdT d, hdV d, hdC d) else none)) := by
        show V = _
        rw [HV.out]; unfold hdDec; rw [hx]; dsimp only
        by_cases h : hOk d = true
        · rw [if_pos ⟨rfl, hnl, h⟩, if_pos h]
        · rw [if_neg (fun g => h g.2.2), if_neg h]
      have hni : ((n : Int) != (l.length : Int)) = false := by simp; omega
      have hnj : (n : Int) = (l.length : Int) := by omega
      have hdl : d.length ≤ 1000000 := by omega
      clear HV
      have hok : Hid (hOk d = (decide (hEe d = 0) && decide (hEa d = d.length))) := rfl
      have ku : ∀ w2 q, Rd w2 q d 0 0 → Calls Tryz.prog 74 #[.pointer (some ⟨q, 0, none⟩)] w2 fun e w' => e = .returned (.int .u64 (hdT d : Int)) ∧ Rd w' q d (uvA d 0 0) (uvE d 0 0) ∧ Kp q w2 w' := fun w2 q hR => uvarint_m q d 0 0 w2 hR hd
      have kv : ∀ w2 q, Rd w2 q d (uvA d 0 0) (uvE d 0 0) → Calls Tryz.prog 75 #[.pointer (some ⟨q, 0, none⟩), .int .i64 7] w2 fun e w' => e = .returned (.int .i64 (hdV d : Int)) ∧ Rd w' q d (hCa d) (hCe d) ∧ Kp q w2 w' := fun w2 q hR => number_m q d _ _ 7 w2 hR hd (by omega)
      have kc : ∀ w2 q, Rd w2 q d (hCa d) (hCe d) → Calls Tryz.prog 74 #[.pointer (some ⟨q, 0, none⟩)] w2 fun e w' => e = .returned (.int .u64 (hdC d : Int)) ∧ Rd w' q d (hEa d) (hEe d) ∧ Kp q w2 w' := fun w2 q hR => uvarint_m q d _ _ w2 hR hd
      have kd : ∀ w2 q, Rd w2 q d (hEa d) (hEe d) → Calls Tryz.prog 76 #[.pointer (some ⟨q, 0, none⟩)] w2 fun e w' => (∃ E : Nat, e = .returned (.int .i64 (E : Int)) ∧ (E = 0 ↔ hOk d = true)) ∧ Below w2.heap.size w2 w' := fun w2 q hR => by
        have hle : hEa d ≤ d.length := by obtain ⟨_, _, _, h⟩ := hR; exact h
        refine (done_of q d _ _ w2 hR).mono ?_
        rintro e w' ⟨he, hb'⟩
        refine ⟨⟨_, he, ?_⟩, hb'⟩
        rw [hok.out]
        simp only [Bool.and_eq_true, decide_eq_true_eq]
        by_cases h0 : hEe d = 0
        · by_cases h1 : hEa d < d.length
          · rw [if_pos ⟨h0, h1⟩]
            exact ⟨fun h => (by cases h), fun h => (by omega)⟩
          · rw [if_neg (fun h => h1 h.2)]
            exact ⟨fun _ => ⟨h0, by omega⟩, fun _ => h0⟩
        · rw [if_neg (fun h => h0 h.1)]
          exact ⟨fun h => absurd h h0, fun h => h.1⟩
      generalize hdT d = tt at *
      generalize hdV d = vv at *
      generalize hdC d = cc at *
      generalize uvA d 0 0 = a1 at *
      generalize uvE d 0 0 = e1 at *
      generalize hCa d = a2 at *
      generalize hCe d = e2 at *
      generalize hEa d = a3 at *
      generalize hEe d = e3 at *
      generalize hOk d = OK at *
      clear hok
      go_enter Tryz.func26, Tryz.ntmps26
      go_wp2_with fail
      refine kn.mono ?_
      rintro e' w1 ⟨v', rfl, hB', hv', hb1⟩
      have kr := read_of w1.heap.size d v' w1 hB' (Nat.le_refl _) (by omega)
      simp only [nxV]
      have hsh : ∃ a c, v' = .slice a d.length c := by
        obtain ⟨a, c, e, -⟩ := id hB'
        exact ⟨a, c, e⟩
      obtain ⟨va, vc, rfl⟩ := hsh
      clear kn hB hT hB' hv'
      go_wp2_with fail
      refine kr.mono ?_
      rintro e' w2 ⟨q, rfl, hq, hR, hb2⟩
      have hb12 := hb1.trans (hb2.mono (by have := hb1.size; omega))
      have ku' := ku w2 q hR
      clear kr ku
      go_wp2_with fail
      refine ku'.mono ?_
      rintro e' w3 ⟨rfl, hR3, hK3⟩
      have hb13 := hb12.trans (hK3.below (n₀ := w.heap.size + 1) (by have := hb1.size; omega) (by have := hb12.size; omega))
      have kv' := kv w3 q hR3
      clear ku' kv
      go_wp2_with fail
      refine kv'.mono ?_
      rintro e' w4 ⟨rfl, hR4, hK4⟩
      have hb14 := hb13.trans (hK4.below (n₀ := w.heap.size + 1) (by have := hb1.size; omega) (by have := hb13.size; omega))
      have kc' := kc w4 q hR4
      clear kv' kc
      go_wp2_with fail
      refine kc'.mono ?_
      rintro e' w5 ⟨rfl, hR5, hK5⟩
      have hb15 := hb14.trans (hK5.below (n₀ := w.heap.size + 1) (by have := hb1.size; omega) (by have := hb14.size; omega))
      have hs5 : w.heap.size + 1 ≤ w5.heap.size := by have := hb15.size; omega
      have hbx := (Below.refl w5.heap.size w5).alloc (Nat.le_refl _) (.cells #[.int .u64 (tt : Int), .int .i64 (vv : Int), .int .u64 (cc : Int)] 54)
      have hbkx := heap_alloc_new w5 (.cells #[.int .u64 (tt : Int), .int .i64 (vv : Int), .int .u64 (cc : Int)] 54)
      have hszx : (w5.alloc (.cells #[.int .u64 (tt : Int), .int .i64 (vv : Int), .int .u64 (cc : Int)] 54)).heap.size = w5.heap.size + 1 := by simp
      have kd' := kd _ q (hR5.below hbx)
      clear kc' kd hR hR3 hR4 hR5
      go_wp2_with fail
      refine kd'.mono ?_
      rintro e' w7 ⟨⟨E, rfl, hE⟩, hb7⟩
      rw [hszx] at hb7
      have hx7 := (hb7.block w5.heap.size (by omega)).trans hbkx
      have x0 : w7.cell? ⟨w5.heap.size, 0, none⟩ = some (.int .u64 (tt : Int)) := by rw [cells_of_block hx7]; rfl
      have x1 : w7.cell? ⟨w5.heap.size, 1, none⟩ = some (.int .i64 (vv : Int)) := by rw [cells_of_block hx7]; rfl
      have x2 : w7.cell? ⟨w5.heap.size, 2, none⟩ = some (.int .u64 (cc : Int)) := by rw [cells_of_block hx7]; rfl
      have hb17 : Below (w.heap.size + 1) (w.alloc (.cells #[.int .u64 0, .int .i64 0, .int .u64 0] 54)) w7 := (hb15.trans (hbx.mono hs5)).trans (hb7.mono (by omega))
      obtain ⟨c0, c1, c2, f0, f1, f2, hbk⟩ := hcs _ hb17
      have hbf := hb0.trans (hb17.mono (by omega))
      clear kd' hcs hx7
      by_cases hE0 : E = 0
      · have hO := hE.1 hE0
        have hV : Hid (V = .tuple #[.agg #[.int .u64 (tt : Int), .int .i64 (vv : Int), .int .u64 (cc : Int)], .int .i64 0]) := by show V = _; rw [hVo.out, if_pos hO]; rfl
        subst hE0
        clear hVo hE
        go_wp2
        (try simp only [Exit.inBlock, Exit.then])
        refine bodyPost_ret (results_hd rfl _ _ w.heap.size _ _ _ rfl (hd_set hbk.out _ _ _)) rfl ?_
        exact ⟨by rw [hV.out]; rfl, hd_below hbf _ _ _⟩
      · have hO : ¬ OK = true := fun h => hE0 (hE.2 h)
        have hV : Hid (V = .tuple #[.agg #[.int .u64 0, .int .i64 0, .int .u64 0], .int .i64 5]) := by show V = _; rw [hVo.out, if_neg hO]; rfl
        have hei : ¬ (E : Int) = 0 := by omega
        have hej : ((E : Int) != 0) = true := by simp; omega
        clear hVo hE
        go_wp2
        (try simp only [Exit.inBlock, Exit.then])
        refine bodyPost_ret (results_hd rfl _ _ w.heap.size _ _ _ rfl (hd_set hbk.out _ _ _)) rfl ?_
        exact ⟨by rw [hV.out]; rfl, hd_below hbf _ _ _⟩
    · have hV : Hid (V = .tuple #[.agg #[.int .u64 0, .int .i64 0, .int .u64 0], .int .i64 5]) := by show V = _; rw [HV.out]; unfold hdDec; rw [hx]; dsimp only; rw [if_neg (fun h => hk ⟨h.1, h.2.1⟩)]; rfl
      clear HV hB hT
      have two : k ≠ 2 ∨ (k = 2 ∧ n ≠ l.length) := by
        by_cases h : k = 2
        · exact .inr ⟨h, fun g => hk ⟨h, g⟩⟩
        · exact .inl h
      clear hk
      rcases two with h | ⟨h, g⟩
      · have hki : ¬ (k : Int) = 2 := by omega
        have hkj : ((k : Int) != 2) = true := by simp; omega
        go_enter Tryz.func26, Tryz.ntmps26
        go_wp2_with fail
        refine kn.mono ?_
        rintro e' w1 ⟨v', rfl, hB', hv', hb1⟩
        obtain ⟨c0, c1, c2, f0, f1, f2, hbk⟩ := hcs _ hb1
        have hbf := hb0.trans (hb1.mono (by omega))
        clear kn hB' hv' hcs
        simp only [nxV]
        go_wp2
        (try simp only [Exit.inBlock, Exit.then])
        refine bodyPost_ret (results_hd rfl _ _ w.heap.size _ _ _ rfl (hd_set hbk.out _ _ _)) rfl ?_
        exact ⟨by rw [hV.out]; rfl, hd_below hbf _ _ _⟩
      · subst h
        have hni : ¬ (n : Int) = (l.length : Int) := by omega
        have hnj : ((n : Int) != (l.length : Int)) = true := by simp; omega
        go_enter Tryz.func26, Tryz.ntmps26
        go_wp2_with fail
        refine kn.mono ?_
        rintro e' w1 ⟨v', rfl, hB', hv', hb1⟩
        obtain ⟨c0, c1, c2, f0, f1, f2, hbk⟩ := hcs _ hb1
        have hbf := hb0.trans (hb1.mono (by omega))
        clear kn hB' hv' hcs
        simp only [nxV]
        go_wp2
        (try simp only [Exit.inBlock, Exit.then])
        refine bodyPost_ret (results_hd rfl _ _ w.heap.size _ _ _ rfl (hd_set hbk.out _ _ _)) rfl ?_
        exact ⟨by rw [hV.out]; rfl, hd_below hbf _ _ _⟩
end Go.Proofs.YtdcpdcnipmfdjaaGreatDoor.Fr

