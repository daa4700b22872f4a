import Derived.Test.YtdcpdcnipmfdjaaDoorR47
import Derived.Test.YtdcpdcnipmfdjaaDoorR48
import Derived.Test.YtdcpdcnipmfdjaaDoorR49
import Derived.Test.YtdcpdcnipmfdjaaDoorR20
/- The contract of the program's Decode: the state of bytes. -/
namespace Go.Proofs.YtdcpdcnipmfdjaaDoor.Fr
open Go.RowKit WireMath CrcMath FrameMath
set_option maxRecDepth 100000
set_option linter.unusedSimpArgs false
set_option linter.unusedVariables false

theorem results_hd {fn : Func} {p u : Tmp} (h : fn.results = #[.cell p 24, .tmp u]) (tmps : Array Value) (w : World) (g : Nat) (a b c : Value)
    (hp : tmps.getD p undef = .pointer (some ⟨g, 0, none⟩)) (hg : w.heap[g]? = some (.cells #[a, b, c] 24 (0, 0))) :
    (results fn tmps).run Tryd.prog w = .ok (.tuple #[.agg #[a, b, c], tmps.getD u undef]) w := by
  have hp' : tmps[p]?.getD undef = .pointer (some ⟨g, 0, none⟩) := by simpa using hp
  simp [results, h, hp', asAddr, run_loadVar_row w g 24 24 #[a, b, c] (0, 0) _ hg Tryd.underlying24 rfl (by kernel_rfl)]
theorem hd_set {w : World} {g : Nat} {a b c : Value} {t : TypeId} (h : w.heap[g]? = some (.cells #[a, b, c] t (0, 0))) (x y z : Value) : (((w.setCell ⟨g, 0, none⟩ x).setCell ⟨g, 1, none⟩ y).setCell ⟨g, 2, none⟩ z).heap[g]? = some (.cells #[x, y, z] t (0, 0)) := by
  simp [World.setCell, Array.getElem?_modify, h]
theorem hd_below {n : Nat} {w w1 : World} (hb : Below n w w1) (x y z : Value) : Below n w (((w1.setCell ⟨n, 0, none⟩ x).setCell ⟨n, 1, none⟩ y).setCell ⟨n, 2, none⟩ z) :=
  ((hb.setCell (p := ⟨n, 0, none⟩) (Nat.le_refl _) _).setCell (p := ⟨n, 1, none⟩) (Nat.le_refl _) _).setCell (p := ⟨n, 2, none⟩) (Nat.le_refl _) _

/-- What Decode tells. -/
def decV (o : Option (Nat × Nat × Nat)) : Value :=
  match o with
  | none => .tuple #[.agg #[.int .u64 0, .int .i64 0, .int .u64 0], .int .i64 5]
  | some (t, v, c) => .tuple #[.agg #[.int .u64 (t : Int), .int .i64 (v : Int), .int .u64 (c : Int)], .int .i64 0]
theorem nx_err_ne {l : List Nat} {e : Nat} (h : next l = .error e) : e ≠ 0 := by
  rcases next_err_lt h with h | h <;> omega

set_option maxHeartbeats 4000000 in
theorem decode_of (n₀ : Nat) (l : List Nat) (v : Value) (w : World) (hT : Tab w) (hB : Bs n₀ w v l) (hl : ∀ c ∈ l, c < 256) (hn₀ : n₀ ≤ w.heap.size) (hlen : l.length ≤ 1000000) :
    Calls Tryd.prog 9 #[v] w fun e w' => e = .returned (decV (hdDec l)) ∧ Below w.heap.size w w' := by
  obtain ⟨ao, cap, rfl, h2, h3, h4, h5⟩ := id hB
  have hb0 := (Below.refl w.heap.size w).alloc (Nat.le_refl _) (.cells #[.int .u64 0, .int .i64 0, .int .u64 0] 24)
  have hbk0 := heap_alloc_new w (.cells #[.int .u64 0, .int .i64 0, .int .u64 0] 24)
  have hsz0 : (w.alloc (.cells #[.int .u64 0, .int .i64 0, .int .u64 0] 24)).heap.size = w.heap.size + 1 := by simp
  have kn := next_of n₀ l _ (w.alloc (.cells #[.int .u64 0, .int .i64 0, .int .u64 0] 24)) (hT.below' hb0 (Nat.le_refl _)) (hB.below (hb0.mono hn₀)) hl (Nat.le_trans hn₀ hb0.size)
  rw [hsz0] at kn
  obtain ⟨V, HV⟩ : ∃ V, Hid (V = decV (hdDec l)) := ⟨_, rfl⟩
  rw [← HV.out]
  have hcs : ∀ W, Below (w.heap.size + 1) (w.alloc (.cells #[.int .u64 0, .int .i64 0, .int .u64 0] 24)) W → W.cell? ⟨w.heap.size, 0, none⟩ = some (.int .u64 0) ∧ W.cell? ⟨w.heap.size, 1, none⟩ = some (.int .i64 0) ∧ W.cell? ⟨w.heap.size, 2, none⟩ = some (.int .u64 0) ∧ W.frozen? ⟨w.heap.size, 0, none⟩ = false ∧ W.frozen? ⟨w.heap.size, 1, none⟩ = false ∧ W.frozen? ⟨w.heap.size, 2, none⟩ = false ∧ Hid (W.heap[w.heap.size]? = some (.cells #[.int .u64 0, .int .i64 0, .int .u64 0] 24 (0, 0))) := fun W hb => by
    have h := (hb.block w.heap.size (by omega)).trans hbk0
    exact ⟨by rw [cells_of_block h]; rfl, by rw [cells_of_block h]; rfl, by rw [cells_of_block h]; rfl, frozen_of h 0, frozen_of h 1, frozen_of h 2, h⟩
  cases hx : next l with
  | error e =>
    have hV : Hid (V = .tuple #[.agg #[.int .u64 0, .int .i64 0, .int .u64 0], .int .i64 5]) := by show V = _; rw [HV.out]; unfold hdDec; rw [hx]; rfl
    have he : e ≠ 0 := nx_err_ne hx
    rw [hx] at kn
    have hei : ¬ (e : Int) = 0 := by omega
    have hej : ((e : Int) != 0) = true := by simp; omega
    clear HV hB hT
    go_enter Tryd.func9, Tryd.ntmps9
    go_wp2_with fail
    refine kn.mono ?_
    rintro e' w1 ⟨v', rfl, hB', hv', hb1⟩
    obtain ⟨c0, c1, c2, f0, f1, f2, hbk⟩ := hcs _ hb1
    have hbf := hb0.trans (hb1.mono (by omega))
    clear kn hB' hv' hcs
    simp only [nxV]
    go_wp2
    (try simp only [Exit.inBlock, Exit.then])
    refine bodyPost_ret (results_hd rfl _ _ w.heap.size _ _ _ rfl (hd_set hbk.out _ _ _)) rfl ?_
    exact ⟨by rw [hV.out]; rfl, hd_below hbf _ _ _⟩
  | ok x =>
    obtain ⟨k, d, n⟩ := x
    have hf := next_ok_facts hx
    have hd : ∀ c ∈ d, c < 256 := fun c hc => hl c (hf.2.2.2 c hc)
    rw [hx] at kn
    by_cases hk : k = 2 ∧ n = l.length
    · obtain ⟨hk2, hnl⟩ := hk
      subst hk2
      have hVo : Hid (V = decV (if hOk d = true then some (hdT d, hdV d, hdC d) else none)) := by
        show V = _
        rw [HV.out]; unfold hdDec; rw [hx]; dsimp only
        by_cases h : hOk d = true
        · rw [if_pos ⟨rfl, hnl, h⟩, if_pos h]
        · rw [if_neg (fun g => h g.2.2), if_neg h]
      have hni : ((n : Int) != (l.length : Int)) = false := by simp; omega
      have hnj : (n : Int) = (l.length : Int) := by omega
      have hdl : d.length ≤ 1000000 := by omega
      clear HV
      have hok : Hid (hOk d = (decide (hEe d = 0) && decide (hEa d = d.length))) := rfl
      have ku : ∀ w2 q, Rd w2 q d 0 0 → Calls Tryd.prog 20 #[.pointer (some ⟨q, 0, none⟩)] w2 fun e w' => e = .returned (.int .u64 (hdT d : Int)) ∧ Rd w' q d (uvA d 0 0) (uvE d 0 0) ∧ Kp q w2 w' := fun w2 q hR => uvarint_m q d 0 0 w2 hR hd
      have kv : ∀ w2 q, Rd w2 q d (uvA d 0 0) (uvE d 0 0) → Calls Tryd.prog 21 #[.pointer (some ⟨q, 0, none⟩), .int .i64 7] w2 fun e w' => e = .returned (.int .i64 (hdV d : Int)) ∧ Rd w' q d (hCa d) (hCe d) ∧ Kp q w2 w' := fun w2 q hR => number_m q d _ _ 7 w2 hR hd (by omega)
      have kc : ∀ w2 q, Rd w2 q d (hCa d) (hCe d) → Calls Tryd.prog 20 #[.pointer (some ⟨q, 0, none⟩)] w2 fun e w' => e = .returned (.int .u64 (hdC d : Int)) ∧ Rd w' q d (hEa d) (hEe d) ∧ Kp q w2 w' := fun w2 q hR => uvarint_m q d _ _ w2 hR hd
      have kd : ∀ w2 q, Rd w2 q d (hEa d) (hEe d) → Calls Tryd.prog 22 #[.pointer (some ⟨q, 0, none⟩)] w2 fun e w' => (∃ E : Nat, e = .returned (.int .i64 (E : Int)) ∧ (E = 0 ↔ hOk d = true)) ∧ Below w2.heap.size w2 w' := fun w2 q hR => by
        have hle : hEa d ≤ d.length := by obtain ⟨_, _, _, h⟩ := hR; exact h
        refine (done_of q d _ _ w2 hR).mono ?_
        rintro e w' ⟨he, hb'⟩
        refine ⟨⟨_, he, ?_⟩, hb'⟩
        rw [hok.out]
        simp only [Bool.and_eq_true, decide_eq_true_eq]
        by_cases h0 : hEe d = 0
        · by_cases h1 : hEa d < d.length
          · rw [if_pos ⟨h0, h1⟩]
            exact ⟨fun h => (by cases h), fun h => (by omega)⟩
          · rw [if_neg (fun h => h1 h.2)]
            exact ⟨fun _ => ⟨h0, by omega⟩, fun _ => h0⟩
        · rw [if_neg (fun h => h0 h.1)]
          exact ⟨fun h => absurd h h0, fun h => h.1⟩
      generalize hdT d = tt at *
      generalize hdV d = vv at *
      generalize hdC d = cc at *
      generalize uvA d 0 0 = a1 at *
      generalize uvE d 0 0 = e1 at *
      generalize hCa d = a2 at *
      generalize hCe d = e2 at *
      generalize hEa d = a3 at *
      generalize hEe d = e3 at *
      generalize hOk d = OK at *
      clear hok
      go_enter Tryd.func9, Tryd.ntmps9
      go_wp2_with fail
      refine kn.mono ?_
      rintro e' w1 ⟨v', rfl, hB', hv', hb1⟩
      have kr := read_of w1.heap.size d v' w1 hB' (Nat.le_refl _) (by omega)
      simp only [nxV]
      have hsh : ∃ a c, v' = .slice a d.length c := by
        obtain ⟨a, c, e, -⟩ := id hB'
        exact ⟨a, c, e⟩
      obtain ⟨va, vc, rfl⟩ := hsh
      clear kn hB hT hB' hv'
      go_wp2_with fail
      refine kr.mono ?_
      rintro e' w2 ⟨q, rfl, hq, hR, hb2⟩
      have hb12 := hb1.trans (hb2.mono (by have := hb1.size; omega))
      have ku' := ku w2 q hR
      clear kr ku
      go_wp2_with fail
      refine ku'.mono ?_
      rintro e' w3 ⟨rfl, hR3, hK3⟩
      have hb13 := hb12.trans (hK3.below (n₀ := w.heap.size + 1) (by have := hb1.size; omega) (by have := hb12.size; omega))
      have kv' := kv w3 q hR3
      clear ku' kv
      go_wp2_with fail
      refine kv'.mono ?_
      rintro e' w4 ⟨rfl, hR4, hK4⟩
      have hb14 := hb13.trans (hK4.below (n₀ := w.heap.size + 1) (by have := hb1.size; omega) (by have := hb13.size; omega))
      have kc' := kc w4 q hR4
      clear kv' kc
      go_wp2_with fail
      refine kc'.mono ?_
      rintro e' w5 ⟨rfl, hR5, hK5⟩
      have hb15 := hb14.trans (hK5.below (n₀ := w.heap.size + 1) (by have := hb1.size; omega) (by have := hb14.size; omega))
      have hs5 : w.heap.size + 1 ≤ w5.heap.size := by have := hb15.size; omega
      have hbx := (Below.refl w5.heap.size w5).alloc (Nat.le_refl _) (.cells #[.int .u64 (tt : Int), .int .i64 (vv : Int), .int .u64 (cc : Int)] 24)
      have hbkx := heap_alloc_new w5 (.cells #[.int .u64 (tt : Int), .int .i64 (vv : Int), .int .u64 (cc : Int)] 24)
      have hszx : (w5.alloc (.cells #[.int .u64 (tt : Int), .int .i64 (vv : Int), .int .u64 (cc : Int)] 24)).heap.size = w5.heap.size + 1 := by simp
      have kd' := kd _ q (hR5.below hbx)
      clear kc' kd hR hR3 hR4 hR5
      go_wp2_with fail
      refine kd'.mono ?_
      rintro e' w7 ⟨⟨E, rfl, hE⟩, hb7⟩
      rw [hszx] at hb7
      have hx7 := (hb7.block w5.heap.size (by omega)).trans hbkx
      have x0 : w7.cell? ⟨w5.heap.size, 0, none⟩ = some (.int .u64 (tt : Int)) := by rw [cells_of_block hx7]; rfl
      have x1 : w7.cell? ⟨w5.heap.size, 1, none⟩ = some (.int .i64 (vv : Int)) := by rw [cells_of_block hx7]; rfl
      have x2 : w7.cell? ⟨w5.heap.size, 2, none⟩ = some (.int .u64 (cc : Int)) := by rw [cells_of_block hx7]; rfl
      have hb17 : Below (w.heap.size + 1) (w.alloc (.cells #[.int .u64 0, .int .i64 0, .int .u64 0] 24)) w7 := (hb15.trans (hbx.mono hs5)).trans (hb7.mono (by omega))
      obtain ⟨c0, c1, c2, f0, f1, f2, hbk⟩ := hcs _ hb17
      have hbf := hb0.trans (hb17.mono (by omega))
      clear kd' hcs hx7
      by_cases hE0 : E = 0
      · have hO := hE.1 hE0
        have hV : Hid (V = .tuple #[.agg #[.int .u64 (tt : Int), .int .i64 (vv : Int), .int .u64 (cc : Int)], .int .i64 0]) := by show V = _; rw [hVo.out, if_pos hO]; rfl
        subst hE0
        clear hVo hE
        go_wp2
        (try simp only [Exit.inBlock, Exit.then])
        refine bodyPost_ret (results_hd rfl _ _ w.heap.size _ _ _ rfl (hd_set hbk.out _ _ _)) rfl ?_
        exact ⟨by rw [hV.out]; rfl, hd_below hbf _ _ _⟩
      · have hO : ¬ OK = true := fun h => hE0 (hE.2 h)
        have hV : Hid (V = .tuple #[.agg #[.int .u64 0, .int .i64 0, .int .u64 0], .int .i64 5]) := by show V = _; rw [hVo.out, if_neg hO]; rfl
        have hei : ¬ (E : Int) = 0 := by omega
        have hej : ((E : Int) != 0) = true := by simp; omega
        clear hVo hE
        go_wp2
        (try simp only [Exit.inBlock, Exit.then])
        refine bodyPost_ret (results_hd rfl _ _ w.heap.size _ _ _ rfl (hd_set hbk.out _ _ _)) rfl ?_
        exact ⟨by rw [hV.out]; rfl, hd_below hbf _ _ _⟩
    · have hV : Hid (V = .tuple #[.agg #[.int .u64 0, .int .i64 0, .int .u64 0], .int .i64 5]) := by show V = _; rw [HV.out]; unfold hdDec; rw [hx]; dsimp only; rw [if_neg (fun h => hk ⟨h.1, h.2.1⟩)]; rfl
      clear HV hB hT
      have two : k ≠ 2 ∨ (k = 2 ∧ n ≠ l.length) := by
        by_cases h : k = 2
        · exact .inr ⟨h, fun g => hk ⟨h, g⟩⟩
        · exact .inl h
      clear hk
      rcases two with h | ⟨h, g⟩
      · have hki : ¬ (k : Int) = 2 := by omega
        have hkj : ((k : Int) != 2) = true := by simp; omega
        go_enter Tryd.func9, Tryd.ntmps9
        go_wp2_with fail
        refine kn.mono ?_
        rintro e' w1 ⟨v', rfl, hB', hv', hb1⟩
        obtain ⟨c0, c1, c2, f0, f1, f2, hbk⟩ := hcs _ hb1
        have hbf := hb0.trans (hb1.mono (by omega))
        clear kn hB' hv' hcs
        simp only [nxV]
        go_wp2
        (try simp only [Exit.inBlock, Exit.then])
        refine bodyPost_ret (results_hd rfl _ _ w.heap.size _ _ _ rfl (hd_set hbk.out _ _ _)) rfl ?_
        exact ⟨by rw [hV.out]; rfl, hd_below hbf _ _ _⟩
      · subst h
        have hni : ¬ (n : Int) = (l.length : Int) := by omega
        have hnj : ((n : Int) != (l.length : Int)) = true := by simp; omega
        go_enter Tryd.func9, Tryd.ntmps9
        go_wp2_with fail
        refine kn.mono ?_
        rintro e' w1 ⟨v', rfl, hB', hv', hb1⟩
        obtain ⟨c0, c1, c2, f0, f1, f2, hbk⟩ := hcs _ hb1
        have hbf := hb0.trans (hb1.mono (by omega))
        clear kn hB' hv' hcs
        simp only [nxV]
        go_wp2
        (try simp only [Exit.inBlock, Exit.then])
        refine bodyPost_ret (results_hd rfl _ _ w.heap.size _ _ _ rfl (hd_set hbk.out _ _ _)) rfl ?_
        exact ⟨by rw [hV.out]; rfl, hd_below hbf _ _ _⟩
end Go.Proofs.YtdcpdcnipmfdjaaDoor.Fr

