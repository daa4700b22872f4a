import Derived.Test.YtdcpdcnipmfdjaaGreatDoorR30
import Derived.Test.YtdcpdcnipmfdjaaGreatDoorR33
import Derived.Test.YtdcpdcnipmfdjaaGreatDoorR32
import Derived.Test.YtdcpdcnipmfdjaaGreatDoorR15
/- The contract of the document's own Decode. -/
namespace Go.Proofs.YtdcpdcnipmfdjaaGreatDoor.Fr
open Go.RowKit WireMath CrcMath FrameMath
set_option maxRecDepth 100000
set_option linter.unusedSimpArgs false
set_option linter.unusedVariables false

/-- What the document's own Decode tells. -/
def rdecV (o : Option (Nat × Nat × Nat)) : Value :=
  match o with
  | none => .tuple #[.agg #[.int .u64 0, .int .i64 0, .int .u64 0], .bool false]
  | some (t, v, c) => .tuple #[.agg #[.int .u64 (t : Int), .int .i64 (v : Int), .int .u64 (c : Int)], .bool true]

set_option maxHeartbeats 4000000 in
theorem refDecode_of (n₀ : Nat) (l : List Nat) (v : Value) (w : World) (hB : Bs n₀ w v l) (hl : ∀ c ∈ l, c < 256) (hn₀ : n₀ ≤ w.heap.size) (hlen : l.length ≤ 1000000) :
    Calls Tryz.prog 27 #[v] w fun e w' => e = .returned (rdecV (hdDec l)) ∧ Below w.heap.size w w' := by
  obtain ⟨ao, cap, rfl, h2, h3, h4, h5⟩ := id hB
  have hb0 := (Below.refl w.heap.size w).alloc (Nat.le_refl _) (.cells #[.int .u64 0, .int .i64 0, .int .u64 0] 54)
  have hbk0 := heap_alloc_new w (.cells #[.int .u64 0, .int .i64 0, .int .u64 0] 54)
  have hsz0 : (w.alloc (.cells #[.int .u64 0, .int .i64 0, .int .u64 0] 54)).heap.size = w.heap.size + 1 := by simp
  have kn := refNext_of n₀ l _ (w.alloc (.cells #[.int .u64 0, .int .i64 0, .int .u64 0] 54)) (hB.below (hb0.mono hn₀)) hl (Nat.le_trans hn₀ hb0.size)
  rw [hsz0] at kn
  obtain ⟨V, HV⟩ : ∃ V, Hid (V = rdecV (hdDec l)) := ⟨_, rfl⟩
  rw [← HV.out]
  have hcs : ∀ W, Below (w.heap.size + 1) (w.alloc (.cells #[.int .u64 0, .int .i64 0, .int .u64 0] 54)) W → W.cell? ⟨w.heap.size, 0, none⟩ = some (.int .u64 0) ∧ W.cell? ⟨w.heap.size, 1, none⟩ = some (.int .i64 0) ∧ W.cell? ⟨w.heap.size, 2, none⟩ = some (.int .u64 0) ∧ W.frozen? ⟨w.heap.size, 0, none⟩ = false ∧ W.frozen? ⟨w.heap.size, 1, none⟩ = false ∧ W.frozen? ⟨w.heap.size, 2, none⟩ = false ∧ Hid (W.heap[w.heap.size]? = some (.cells #[.int .u64 0, .int .i64 0, .int .u64 0] 54 (0, 0))) := fun W hb => by
    have h := (hb.block w.heap.size (by omega)).trans hbk0
    exact ⟨by rw [cells_of_block h]; rfl, by rw [cells_of_block h]; rfl, by rw [cells_of_block h]; rfl, frozen_of h 0, frozen_of h 1, frozen_of h 2, h⟩
  cases hx : next l with
  | error e =>
    have hV : Hid (V = .tuple #[.agg #[.int .u64 0, .int .i64 0, .int .u64 0], .bool false]) := by show V = _; rw [HV.out]; unfold hdDec; rw [hx]; rfl
    have he : e ≠ 0 := nx_err_ne hx
    rw [hx] at kn
    have hei : ¬ (e : Int) = 0 := by omega
    have hej : ((e : Int) != 0) = true := by simp; omega
    clear HV hB
    go_enter Tryz.func27, Tryz.ntmps27
    go_wp2_with fail
    refine kn.mono ?_
    rintro e' w1 ⟨v', rfl, hB', hv', hb1⟩
    have hsh : ∃ a n c, v' = .slice a n c := by
      obtain ⟨a, c, e, -⟩ := id hB'
      exact ⟨a, _, c, e⟩
    obtain ⟨va, vn, vc, rfl⟩ := hsh
    have hbx := hb1.alloc (by have := hb1.size; omega) (.cells #[.int .u8 0, .slice va vn vc] 127)
    obtain ⟨c0, c1, c2, f0, f1, f2, hbk⟩ := hcs _ hbx
    have hbf := hb0.trans (hbx.mono (by omega))
    clear kn hB' hv' hcs
    simp only [nrV]
    go_wp2
    (try simp only [Exit.inBlock, Exit.then])
    refine bodyPost_ret (results_hd rfl _ _ w.heap.size _ _ _ rfl (hd_set hbk.out _ _ _)) rfl ?_
    exact ⟨by rw [hV.out]; rfl, hd_below hbf _ _ _⟩
  | ok x =>
    obtain ⟨k, d, n⟩ := x
    have hf := next_ok_facts hx
    have hd : ∀ c ∈ d, c < 256 := fun c hc => hl c (hf.2.2.2 c hc)
    rw [hx] at kn
    have hdl : d.length ≤ 1000000 := by omega
    have hiff := dec_iff hl hx
    have hVo : Hid (V = rdecV (if hdV d ≤ 7 ∧ hdB (hdT d) (hdV d) (hdC d) = l then some (hdT d, hdV d, hdC d) else none)) := by
      show V = _
      rw [HV.out]; unfold hdDec; rw [hx]; dsimp only
      by_cases h : k = 2 ∧ n = l.length ∧ hOk d = true
      · rw [if_pos h, if_pos (hiff.1 h)]
      · rw [if_neg h, if_neg (fun g => h (hiff.2 g))]
    have hTl : hdT d < 18446744073709551616 := uvN_lt hd
    have hCl : hdC d < 18446744073709551616 := uvN_lt hd
    have hV7 : hdV d ≤ 7 := by
      unfold hdV nuN
      split
      · omega
      · split
        · omega
        · omega
    have ku : ∀ n₀ w2 q, Rr n₀ w2 q d 0 0 → Calls Tryz.prog 78 #[.pointer (some ⟨q, 0, none⟩)] w2 fun e w' => e = .returned (.int .u64 (hdT d : Int)) ∧ Rr n₀ w' q d (uvA d 0 0) (uvE d 0 0) ∧ Kp q w2 w' := fun n₀ w2 q hR => ruv_of n₀ q d 0 0 w2 hR hd
    have kv : ∀ n₀ w2 q, Rr n₀ w2 q d (uvA d 0 0) (uvE d 0 0) → Calls Tryz.prog 79 #[.pointer (some ⟨q, 0, none⟩), .int .i64 7] w2 fun e w' => e = .returned (.int .i64 (hdV d : Int)) ∧ Rr n₀ w' q d (hCa d) (hCe d) ∧ Kp q w2 w' := fun n₀ w2 q hR => rnum_of n₀ q d _ _ 7 w2 hR hd (by omega)
    have kc : ∀ n₀ w2 q, Rr n₀ w2 q d (hCa d) (hCe d) → Calls Tryz.prog 78 #[.pointer (some ⟨q, 0, none⟩)] w2 fun e w' => e = .returned (.int .u64 (hdC d : Int)) ∧ Rr n₀ w' q d (hEa d) (hEe d) ∧ Kp q w2 w' := fun n₀ w2 q hR => ruv_of n₀ q d _ _ w2 hR hd
    have km := fun W => refMay_yes (hdT d : Int) (hdC d : Int) (hdV d : Int) W (by omega) (by omega)
    have ke := fun W => refEncode_of (hdT d) (hdV d) (hdC d) W hTl (by omega) (by omega) hCl
    have hbyB := hdB_bytes (hdT d) (hdV d) (hdC d)
    clear HV hiff
    generalize hdB (hdT d) (hdV d) (hdC d) = B at *
    generalize hdT d = tt at *
    generalize hdV d = vv at *
    generalize hdC d = cc at *
    generalize uvA d 0 0 = a1 at *
    generalize uvE d 0 0 = e1 at *
    generalize hCa d = a2 at *
    generalize hCe d = e2 at *
    generalize hEa d = a3 at *
    generalize hEe d = e3 at *
    go_enter Tryz.func27, Tryz.ntmps27
    go_wp2_with fail
    refine kn.mono ?_
    rintro e' w1 ⟨v', rfl, hB', hv', hb1⟩
    simp only [nrV]
    have hB1 : Bs w1.heap.size w1 v' d := hB'
    have hsh : ∃ a c, v' = .slice a d.length c := by
      obtain ⟨a, c, e, -⟩ := id hB1
      exact ⟨a, c, e⟩
    obtain ⟨va, vc, rfl⟩ := hsh
    have hs1 : w.heap.size + 1 ≤ w1.heap.size := by have := hb1.size; omega
    have hbx := (Below.refl w1.heap.size w1).alloc (Nat.le_refl _) (.cells #[.int .u8 (k : Int), .slice va d.length vc] 127)
    have hszx : (w1.alloc (.cells #[.int .u8 (k : Int), .slice va d.length vc] 127)).heap.size = w1.heap.size + 1 := by simp
    have hbr := (Below.refl (w1.heap.size + 1) (w1.alloc (.cells #[.int .u8 (k : Int), .slice va d.length vc] 127))).alloc (by omega) (.cells #[.slice va d.length vc, .int .i64 0, .int .i64 0] 132)
    have hnr := heap_alloc_new (w1.alloc (.cells #[.int .u8 (k : Int), .slice va d.length vc] 127)) (.cells #[.slice va d.length vc, .int .i64 0, .int .i64 0] 132)
    rw [hszx] at hnr
    have hbxr := hbx.trans (hbr.mono (by omega))
    have hR : Rr w1.heap.size ((w1.alloc (.cells #[.int .u8 (k : Int), .slice va d.length vc] 127)).alloc (.cells #[.slice va d.length vc, .int .i64 0, .int .i64 0] 132)) (w1.heap.size + 1) d 0 0 := ⟨_, hnr, hB1.below hbxr, Nat.zero_le _, by omega⟩
    have ku' := ku _ _ _ hR
    have hb12 := hb1.trans (hbxr.mono hs1)
    have hB12 := (hB.below (hb0.mono hn₀)).below (hb12.mono (by omega))
    clear kn ku hB' hv' hR
    go_wp2_with fail
    refine ku'.mono ?_
    rintro e' w3 ⟨rfl, hR3, hK3⟩
    have hs2 : w1.heap.size + 2 ≤ w3.heap.size := by have := hK3.size; simp at this; omega
    have hb13 := hb12.trans (hK3.below (n₀ := w.heap.size + 1) (by omega) (by simp; omega))
    have hby := (Below.refl w3.heap.size w3).alloc (Nat.le_refl _) (.cells #[.int .u64 (tt : Int), .int .i64 0, .int .u64 0] 54)
    have hny := heap_alloc_new w3 (.cells #[.int .u64 (tt : Int), .int .i64 0, .int .u64 0] 54)
    have hszy : (w3.alloc (.cells #[.int .u64 (tt : Int), .int .i64 0, .int .u64 0] 54)).heap.size = w3.heap.size + 1 := by simp
    have hb14 := hb13.trans (hby.mono (by omega))
    have kv' := kv _ _ _ (hR3.below hby)
    clear ku' kv
    go_wp2_with fail
    refine kv'.mono ?_
    rintro e' w5 ⟨rfl, hR5, hK5⟩
    have hq5 := (hK5.block w3.heap.size (by rw [hszy]; omega) (fun e => by have := Option.some.inj e; omega)).trans hny
    have g0 : w5.cell? ⟨w3.heap.size, 0, none⟩ = some (.int .u64 (tt : Int)) := by rw [cells_of_block hq5]; rfl
    have g1 : w5.cell? ⟨w3.heap.size, 1, none⟩ = some (.int .i64 0) := by rw [cells_of_block hq5]; rfl
    have g2 : w5.cell? ⟨w3.heap.size, 2, none⟩ = some (.int .u64 0) := by rw [cells_of_block hq5]; rfl
    have p1 := frozen_of hq5 1
    have hb15 := hb14.trans (hK5.below (n₀ := w.heap.size + 1) (by omega) (by rw [hszy]; omega))
    have hs5 : w3.heap.size + 1 ≤ w5.heap.size := by have := hK5.size; omega
    clear kv'
    have hq6 : (w5.setCell ⟨w3.heap.size, 1, none⟩ (.int .i64 (vv : Int))).heap[w3.heap.size]? = some (.cells #[.int .u64 (tt : Int), .int .i64 (vv : Int), .int .u64 0] 54 (0, 0)) := by
      simp [World.setCell, Array.getElem?_modify, hq5]
    have hR6 : Rr w1.heap.size (w5.setCell ⟨w3.heap.size, 1, none⟩ (.int .i64 (vv : Int))) (w1.heap.size + 1) d a2 e2 := hR5.kp (Kp.set w3.heap.size 1 _ w5) (by omega) (by omega)
    have kc' := kc _ _ _ hR6
    have hb16 : Below (w.heap.size + 1) (w.alloc (.cells #[.int .u64 0, .int .i64 0, .int .u64 0] 54)) (w5.setCell ⟨w3.heap.size, 1, none⟩ (.int .i64 (vv : Int))) := hb15.setCell (p := ⟨w3.heap.size, 1, none⟩) (by show w.heap.size + 1 ≤ w3.heap.size; omega) _
    clear kc hR3 hR5 hR6
    go_wp2_with fail
    refine kc'.mono ?_
    rintro e' w7 ⟨rfl, hR7, hK7⟩
    have hsz6 : (w5.setCell ⟨w3.heap.size, 1, none⟩ (.int .i64 (vv : Int))).heap.size = w5.heap.size := by simp [World.setCell]
    have hq7 := (hK7.block w3.heap.size (by rw [hsz6]; omega) (fun e => by have := Option.some.inj e; omega)).trans hq6
    have hb17 := hb16.trans (hK7.below (n₀ := w.heap.size + 1) (by omega) (by rw [hsz6]; omega))
    have hs7 : w5.heap.size ≤ w7.heap.size := by have := hK7.size; omega
    have i0 : w7.cell? ⟨w3.heap.size, 0, none⟩ = some (.int .u64 (tt : Int)) := by rw [cells_of_block hq7]; rfl
    have i1 : w7.cell? ⟨w3.heap.size, 1, none⟩ = some (.int .i64 (vv : Int)) := by rw [cells_of_block hq7]; rfl
    have i2 : w7.cell? ⟨w3.heap.size, 2, none⟩ = some (.int .u64 0) := by rw [cells_of_block hq7]; rfl
    have r2 := frozen_of hq7 2
    have hq8 : (w7.setCell ⟨w3.heap.size, 2, none⟩ (.int .u64 (cc : Int))).heap[w3.heap.size]? = some (.cells #[.int .u64 (tt : Int), .int .i64 (vv : Int), .int .u64 (cc : Int)] 54 (0, 0)) := by
      simp [World.setCell, Array.getElem?_modify, hq7]
    have hb18 : Below (w.heap.size + 1) (w.alloc (.cells #[.int .u64 0, .int .i64 0, .int .u64 0] 54)) (w7.setCell ⟨w3.heap.size, 2, none⟩ (.int .u64 (cc : Int))) := hb17.setCell (p := ⟨w3.heap.size, 2, none⟩) (by show w.heap.size + 1 ≤ w3.heap.size; omega) _
    have hsz8 : (w7.setCell ⟨w3.heap.size, 2, none⟩ (.int .u64 (cc : Int))).heap.size = w7.heap.size := by simp [World.setCell]
    clear kc' hR7 hK3 hK5 hK7
    go_wp2
    generalize hw8 : w7.setCell ⟨w3.heap.size, 2, none⟩ (.int .u64 (cc : Int)) = w8 at *
    have hs8 : w.heap.size + 1 ≤ w8.heap.size := by omega
    have hB8 : Bs n₀ w8 (.slice ao l.length cap) l := (hB.below (hb0.mono hn₀)).below (hb18.mono (by omega))
    have hS : ∀ W, Below w8.heap.size w8 W → (W.cell? ⟨w3.heap.size, 0, none⟩ = some (.int .u64 (tt : Int)) ∧ W.cell? ⟨w3.heap.size, 1, none⟩ = some (.int .i64 (vv : Int)) ∧ W.cell? ⟨w3.heap.size, 2, none⟩ = some (.int .u64 (cc : Int))) ∧ (convert 32 9 (.slice ao l.length cap)).run Tryz.prog W = .ok (.string (str l)) W := fun W hb => by
      have h := (hb.block w3.heap.size (by omega)).trans hq8
      exact ⟨⟨by rw [cells_of_block h]; rfl, by rw [cells_of_block h]; rfl, by rw [cells_of_block h]; rfl⟩, str_of (hB8.below (hb.mono (by omega))) hl⟩
    have hdr : Below w8.heap.size w8 w8.drew := (Below.refl _ _).drew
    have x0 := hS _ hdr
    have km' := km w8.drew
    clear km hB hq8 hB1 hB12 hbx hbr hbxr hby hny hq5 hq6 hq7 g0 g1 g2 p1 hb1 hb12 hb13 hb14 hb15 hb16
    by_cases hBl : B = l
    · have hV : Hid (V = .tuple #[.agg #[.int .u64 (tt : Int), .int .i64 (vv : Int), .int .u64 (cc : Int)], .bool true]) := by show V = _; rw [hVo.out, if_pos ⟨hV7, hBl⟩]; rfl
      subst hBl
      clear hVo
      go_region_held (fun w' => (w'.cell? ⟨w3.heap.size, 0, none⟩ = some (.int .u64 (tt : Int)) ∧ w'.cell? ⟨w3.heap.size, 1, none⟩ = some (.int .i64 (vv : Int)) ∧ w'.cell? ⟨w3.heap.size, 2, none⟩ = some (.int .u64 (cc : Int))) ∧ (convert 32 9 (.slice ao B.length cap)).run Tryz.prog w' = .ok (.string (str B)) w')
        (first | go_keep | exact x10 | exact x9 | exact x0)
        (first
          | (go_at_call 81; refine (ke _).mono ?_; rintro e w10 ⟨a10, n10, p10, rfl, hO10, hb10⟩; have hb8x := hb89.trans (hb10.mono hb89.size); have x10 := hS _ hb8x; have c10 := str_of hO10.bs hbyB)
          | (go_at_call 80; refine km'.mono ?_; rintro e w9 ⟨rfl, hb9⟩; have hb89 := hdr.trans (hb9.mono (Nat.le_refl _)); have x9 := hS _ hb89))
      have hb18x := hb18.trans (hb8x.mono hs8)
      obtain ⟨c0, c1, c2, f0, f1, f2, hbk⟩ := hcs _ hb18x
      obtain ⟨⟨y0, y1, y2⟩, -⟩ := x10
      have hbf := hb0.trans (hb18x.mono (by omega))
      clear hcs hS km' ke x0 x9
      go_wp2
      (try simp only [Exit.inBlock, Exit.then])
      refine bodyPost_ret (results_hd rfl _ _ w.heap.size _ _ _ rfl (hd_set hbk.out _ _ _)) rfl ?_
      exact ⟨by rw [hV.out]; rfl, hd_below hbf _ _ _⟩
    · have hV : Hid (V = .tuple #[.agg #[.int .u64 0, .int .i64 0, .int .u64 0], .bool false]) := by show V = _; rw [hVo.out, if_neg (fun h => hBl h.2)]; rfl
      have hst := str_ne hbyB hl hBl
      clear hVo hBl
      go_region_held (fun w' => (w'.cell? ⟨w3.heap.size, 0, none⟩ = some (.int .u64 (tt : Int)) ∧ w'.cell? ⟨w3.heap.size, 1, none⟩ = some (.int .i64 (vv : Int)) ∧ w'.cell? ⟨w3.heap.size, 2, none⟩ = some (.int .u64 (cc : Int))) ∧ (convert 32 9 (.slice ao l.length cap)).run Tryz.prog w' = .ok (.string (str l)) w')
        (first | go_keep | exact x10 | exact x9 | exact x0)
        (first
          | (go_at_call 81; refine (ke _).mono ?_; rintro e w10 ⟨a10, n10, p10, rfl, hO10, hb10⟩; have hb8x := hb89.trans (hb10.mono hb89.size); have x10 := hS _ hb8x; have c10 := str_of hO10.bs hbyB)
          | (go_at_call 80; refine km'.mono ?_; rintro e w9 ⟨rfl, hb9⟩; have hb89 := hdr.trans (hb9.mono (Nat.le_refl _)); have x9 := hS _ hb89))
      have hb18x := hb18.trans (hb8x.mono hs8)
      obtain ⟨c0, c1, c2, f0, f1, f2, hbk⟩ := hcs _ hb18x
      have hbf := hb0.trans (hb18x.mono (by omega))
      clear hcs hS km' ke x0 x9
      go_wp2
      (try simp only [Exit.inBlock, Exit.then])
      refine bodyPost_ret (results_hd rfl _ _ w.heap.size _ _ _ rfl (hd_set hbk.out _ _ _)) rfl ?_
      exact ⟨by rw [hV.out]; rfl, hd_below hbf _ _ _⟩
end Go.Proofs.YtdcpdcnipmfdjaaGreatDoor.Fr

