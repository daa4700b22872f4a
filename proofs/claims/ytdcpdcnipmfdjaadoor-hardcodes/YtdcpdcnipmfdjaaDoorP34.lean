import Derived.Test.YtdcpdcnipmfdjaaDoorP19
import Derived.Test.YtdcpdcnipmfdjaaDoorP30
import Derived.Deep.RegionHeld
import Derived.Deep.RegionHeld3
import Derived.Test.YtdcpdcnipmfdjaaDoorP31
/- The contracts of the document's own value, open and Next: the frame at the beginning of bytes as the program finds it; what lay in memory before stays as it was. -/
namespace Go.Proofs.YtdcpdcnipmfdjaaDoor.Fr
open Go.RowKit WireMath CrcMath FrameMath
set_option maxRecDepth 100000
set_option linter.unusedSimpArgs false

end Go.Proofs.YtdcpdcnipmfdjaaDoor.Fr

/- The contract of the document's own Next: the frame at the beginning of bytes as the program finds it; what lay in memory before stays as it was. -/
namespace Go.Proofs.YtdcpdcnipmfdjaaDoor.Fr
open Go.RowKit WireMath CrcMath FrameMath
set_option maxRecDepth 100000
set_option linter.unusedSimpArgs false

/-- append of a whole slice behind one's own, as one step of a region that draws its order. -/
theorem step_append_bs {ops : Array Oper} {o : Oper} {a : Act} {w : World} {K : Act → World → Prop} {Q : Exit → Act → World → Prop} {E : Prop}
    (hg : o.guard = none) (s x : Operand) (ho : o.op = .call { callee := .builtin .append, args := #[s, x], argTypes := #[25, 25] })
    (n₀ : Nat) (v : Value) (l : List Nat) (hs : a.eval s = v) (hown : Own n₀ w v l) (hn₀ : n₀ ≤ w.heap.size)
    (n₁ : Nat) (xv : Value) (r : List Nat) (hx : a.eval x = xv) (hB : Bs n₁ w xv r) (hlen : l.length + r.length ≤ 140737488355328)
    (hK : ∀ v' w', Own n₀ w' v' (l ++ r) → Below n₀ w w' → K (a.put o.dst v') w') :
    if Region.wanted o (yielded ops a.tmps) = true then Oper.wp Tryd.prog o a w K Q else E := by
  have hw : Region.wanted o (yielded ops a.tmps) = true := by simp [Region.wanted, hg]
  rw [if_pos hw]
  obtain ⟨v', w', hrun, r1, r2, _, _⟩ := run_append_bs w o.type n₀ v l hown hn₀ n₁ xv r hB hlen
  unfold Oper.wp
  simp [execOp, ho, resolve, invoke, builtin, hs, hx, hrun, Result.andThen]
  exact hK v' w' r1 r2

/-- What the document's own Next tells, the bytes at v. -/
def nrV (x : Nx) (v : Value) : Value :=
  match x with
  | .ok (k, _, n) => .tuple #[.agg #[.int .u8 (k : Int), v], .int .i64 (n : Int), .int .i64 0]
  | .error e => .tuple #[.agg #[.int .u8 0, v], .int .i64 0, .int .i64 (e : Int)]

theorem rd_last {l : List Nat} (hl : ∀ c ∈ l, c < 256) {n : Nat} (hn : ¬ (n ≤ l.length ∧ n ≤ 10)) (H : ∀ j N, j < n → rd 10 0 0 l ≠ some (N, j)) : rd 10 0 0 l = none := by
  cases hr : rd 10 0 0 l with
  | none => rfl
  | some x =>
    obtain ⟨_, h2, h3, h4⟩ := rd_parts (n := x.1) (k := x.2) hl hr
    exact absurd hr (H x.2 x.1 (by omega))

theorem item_set {w : World} {g : Nat} {a b : Value} {t : TypeId} (h : w.heap[g]? = some (.cells #[a, b] t (0, 0))) (x y : Value) : ((w.setCell ⟨g, 0, none⟩ x).setCell ⟨g, 1, none⟩ y).heap[g]? = some (.cells #[x, y] t (0, 0)) := by
  simp [World.setCell, Array.getElem?_modify, h]

/-- The document's own Next where there is no frame: its way out. -/
theorem item_none (e : Nat) (X : Nx) (hX : X = .error e) (n : Nat) (w wr : World) (hb : Below n w wr) :
    ∃ v', Ending.returned (.tuple #[.agg #[.int .u8 0, .slice none 0 0], .int .i64 0, .int .i64 (e : Int)]) = .returned (nrV X v') ∧ Bs ((wr.setCell ⟨n, 0, none⟩ (.int .u8 0)).setCell ⟨n, 1, none⟩ (.slice none 0 0)).heap.size ((wr.setCell ⟨n, 0, none⟩ (.int .u8 0)).setCell ⟨n, 1, none⟩ (.slice none 0 0)) v' (nxD X) ∧
      (∀ j, v'.ownBlock = some j → n ≤ j ∧ j < ((wr.setCell ⟨n, 0, none⟩ (.int .u8 0)).setCell ⟨n, 1, none⟩ (.slice none 0 0)).heap.size) ∧ Below n w ((wr.setCell ⟨n, 0, none⟩ (.int .u8 0)).setCell ⟨n, 1, none⟩ (.slice none 0 0)) := by
  subst hX
  exact ⟨.slice none 0 0, rfl, Bs.nil _ _, (fun j hj => by cases hj), (hb.setCell (p := ⟨n, 0, none⟩) (Nat.le_refl _) _).setCell (p := ⟨n, 1, none⟩) (Nat.le_refl _) _⟩

/-- The document's own Next where there is a frame: its way out. -/
theorem item_some (k m : Nat) (d : List Nat) (X : Nx) (hX : X = .ok (k, d, m)) (n n6 : Nat) (w w6 : World) (v6 : Value) (hO : Own n6 w6 v6 d) (h6 : n < n6) (hb : Below n w w6) (z : Int) (hz : z = (m : Int)) :
    ∃ v', Ending.returned (.tuple #[.agg #[.int .u8 (k : Int), v6], .int .i64 z, .int .i64 0]) = .returned (nrV X v') ∧ Bs ((w6.setCell ⟨n, 0, none⟩ (.int .u8 (k : Int))).setCell ⟨n, 1, none⟩ v6).heap.size ((w6.setCell ⟨n, 0, none⟩ (.int .u8 (k : Int))).setCell ⟨n, 1, none⟩ v6) v' (nxD X) ∧
      (∀ j, v'.ownBlock = some j → n ≤ j ∧ j < ((w6.setCell ⟨n, 0, none⟩ (.int .u8 (k : Int))).setCell ⟨n, 1, none⟩ v6).heap.size) ∧ Below n w ((w6.setCell ⟨n, 0, none⟩ (.int .u8 (k : Int))).setCell ⟨n, 1, none⟩ v6) := by
  subst hX hz
  have hsz : ((w6.setCell ⟨n, 0, none⟩ (.int .u8 (k : Int))).setCell ⟨n, 1, none⟩ v6).heap.size = w6.heap.size := by simp [World.setCell]
  refine ⟨v6, rfl, ?_, fun j hj => ?_, (hb.setCell (p := ⟨n, 0, none⟩) (Nat.le_refl _) _).setCell (p := ⟨n, 1, none⟩) (Nat.le_refl _) _⟩
  · rw [hsz]
    refine hO.bs.grown (row := some n) ((Kp.set n 0 _ w6).trans (Kp.set n 1 _ _)) (fun g hg e => ?_)
    have := (World.ownsRow.lt hO g hg).1
    cases e
    omega
  · rw [hsz]
    have := World.ownsRow.lt hO j hj
    omega

end Go.Proofs.YtdcpdcnipmfdjaaDoor.Fr

/- The contracts of the document's own May and Encode: a state's bytes. -/
namespace Go.Proofs.YtdcpdcnipmfdjaaDoor.Fr
open Go.RowKit WireMath CrcMath FrameMath
set_option maxRecDepth 100000
set_option linter.unusedSimpArgs false
set_option linter.unusedVariables false

theorem refMay_yes (t c v : Int) (w : World) (h0 : 0 ≤ v) (h7 : v ≤ 7) : Calls Tryd.prog 7 #[.agg #[.int .u64 t, .int .i64 v, .int .u64 c]] w fun e w' => e = .returned (.bool true) ∧ Below w.heap.size w w' := by
  have hb := (Below.refl w.heap.size w).alloc (Nat.le_refl _) (.cells #[.int .u64 t, .int .i64 v, .int .u64 c] 24)
  go_enter Tryd.func7, Tryd.ntmps7
  go_wp2
  go_ret
  exact ⟨by simp [h7], hb⟩
theorem refMay_no (t c v : Int) (w : World) (h : ¬ (0 ≤ v ∧ v ≤ 7)) : Calls Tryd.prog 7 #[.agg #[.int .u64 t, .int .i64 v, .int .u64 c]] w fun e w' => e = .returned (.bool false) ∧ Below w.heap.size w w' := by
  have hb := (Below.refl w.heap.size w).alloc (Nat.le_refl _) (.cells #[.int .u64 t, .int .i64 v, .int .u64 c] 24)
  by_cases h0 : 0 ≤ v
  · have h7 : ¬ v ≤ 7 := fun h7 => h ⟨h0, h7⟩
    clear h
    go_enter Tryd.func7, Tryd.ntmps7
    go_wp2
    go_ret
    exact ⟨by simp [h7], hb⟩
  · clear h
    go_enter Tryd.func7, Tryd.ntmps7
    go_wp2
    go_ret
    exact ⟨rfl, hb⟩

set_option maxHeartbeats 4000000 in
theorem refEncode_of (t v c : Nat) (w : World) (ht : t < 18446744073709551616) (hv : v < 18446744073709551616) (hv63 : v < 9223372036854775808) (hc : c < 18446744073709551616) :
    Calls Tryd.prog 10 #[.agg #[.int .u64 (t : Int), .int .i64 (v : Int), .int .u64 (c : Int)]] w fun e w' => ∃ a n cp, e = .returned (.slice a n cp) ∧ Own w.heap.size w' (.slice a n cp) (hdB t v c) ∧ Below w.heap.size w w' := by
  have hb := (Below.refl w.heap.size w).alloc (Nat.le_refl _) (.cells #[.int .u64 (t : Int), .int .i64 (v : Int), .int .u64 (c : Int)] 24)
  have hbk := heap_alloc_new w (.cells #[.int .u64 (t : Int), .int .i64 (v : Int), .int .u64 (c : Int)] 24)
  have hsz : (w.alloc (.cells #[.int .u64 (t : Int), .int .i64 (v : Int), .int .u64 (c : Int)] 24)).heap.size = w.heap.size + 1 := by simp
  have hcs : ∀ W, Below (w.heap.size + 1) (w.alloc (.cells #[.int .u64 (t : Int), .int .i64 (v : Int), .int .u64 (c : Int)] 24)) W → W.cell? ⟨w.heap.size, 0, none⟩ = some (.int .u64 (t : Int)) ∧ W.cell? ⟨w.heap.size, 1, none⟩ = some (.int .i64 (v : Int)) ∧ W.cell? ⟨w.heap.size, 2, none⟩ = some (.int .u64 (c : Int)) := fun W hb => by
    have h := (hb.block w.heap.size (by omega)).trans hbk
    exact ⟨by rw [cells_of_block h]; rfl, by rw [cells_of_block h]; rfl, by rw [cells_of_block h]; rfl⟩
  have q1 : IntKind.u64.wrap (v : Int) = (v : Int) := by rw [IntKind.wrap_u64]; omega
  have hu1 := uv_len10 ht
  have hu2 := uv_len10 hv
  have hu3 := uv_len10 hc
  have hE : hdB t v c = frameB 2 ((uv t ++ uv v) ++ uv c) := by unfold hdB hdD; rw [List.append_assoc]
  have hby : ∀ x ∈ (uv t ++ uv v) ++ uv c, x < 256 := fun x hx => by
    have := hdD_bytes t v c x
    unfold hdD at this
    rw [List.append_assoc] at hx
    exact this hx
  have kf : ∀ W bv, Own (w.heap.size + 1) W bv ((uv t ++ uv v) ++ uv c) → Calls Tryd.prog 24 #[.int .u8 2, bv] W fun e w' => ∃ v', e = .returned v' ∧ Own W.heap.size w' v' (hdB t v c) ∧ Below W.heap.size W w' := fun W bv hO => by
    rw [hE]
    exact refFrame_of 2 _ W.heap.size bv W hO.bs (by decide) hby (Nat.le_refl _) (by simp; omega)
  have kt : ∀ W, Calls Tryd.prog 23 #[.int .u64 (t : Int)] W fun e w' => ∃ v', e = .returned v' ∧ Own W.heap.size w' v' (uv t) ∧ Below W.heap.size W w' := fun W => refUvarint_of t W ht
  have kv : ∀ W, Calls Tryd.prog 23 #[.int .u64 (v : Int)] W fun e w' => ∃ v', e = .returned v' ∧ Own W.heap.size w' v' (uv v) ∧ Below W.heap.size W w' := fun W => refUvarint_of v W hv
  have kc : ∀ W, Calls Tryd.prog 23 #[.int .u64 (c : Int)] W fun e w' => ∃ v', e = .returned v' ∧ Own W.heap.size w' v' (uv c) ∧ Below W.heap.size W w' := fun W => refUvarint_of c W hc
  generalize hdB t v c = B at *
  obtain ⟨L, HL⟩ : ∃ L : List Nat, Hid (L = uv t ++ uv v) := ⟨uv t ++ uv v, rfl⟩
  have hLl : L.length ≤ 20 := by rw [HL.out, List.length_append]; omega
  rw [← HL.out] at kf
  clear hE hby
  go_enter Tryd.func10, Tryd.ntmps10
  go_wp2
  generalize w.alloc (.cells #[.int .u64 (t : Int), .int .i64 (v : Int), .int .u64 (c : Int)] 24) = w0 at *
  have hdr : Below (w.heap.size + 1) w0 w0.drew := (Below.refl _ _).drew
  have y0 := hcs _ hdr
  have kt0 := kt w0.drew
  have hszd : w0.drew.heap.size = w.heap.size + 1 := hsz
  rw [hszd] at kt0
  clear kt
  go_region_held3 (fun w' => w'.cell? ⟨w.heap.size, 0, none⟩ = some (.int .u64 (t : Int)) ∧ w'.cell? ⟨w.heap.size, 1, none⟩ = some (.int .i64 (v : Int)))
    (first | exact ⟨y0.1, y0.2.1⟩ | exact ⟨y2.1, y2.2.1⟩ | exact ⟨y3.1, y3.2.1⟩ | exact ⟨y4.1, y4.2.1⟩ | go_keep)
    (first
      | (refine step_append_bs (by rfl) _ _ (by rfl) (w.heap.size + 1) _ (uv t) (by rfl) hO2' (by have := hb03.size; omega) w3.heap.size _ (uv v) (by rfl) hO3.bs (by omega) ?_; intro v4 w4 hO4 hb4; have hb04 := hb03.trans hb4; have y4 := hcs _ hb04)
      | (go_at_call 23; refine kv2.mono ?_; rintro e w3 ⟨v3, rfl, hO3, hb3⟩; have hb03 := hb02.trans (hb3.mono (by have := hb02.size; omega)); have y3 := hcs _ hb03; have hO2' := hO2.below hb3)
      | (go_at_call 23; refine kt0.mono ?_; rintro e w2 ⟨v2, rfl, hO2, hb2⟩; have hb02 := hdr.trans hb2; have y2 := hcs _ hb02; have kv2 := kv w2))
  rw [← HL.out] at hO4
  obtain ⟨a4, p4, hv4⟩ := hO4.shape
  subst hv4
  have z0 := (hcs _ hb04).2.2
  have kc5 := kc w4
  have hs5 : w.heap.size + 1 ≤ w4.heap.size := by have := hb04.size; omega
  clear kv kv2 kt0 hO2 hO2' hO3 y0 y2 y3 y4 kc HL
  go_wp2_with fail
  refine kc5.mono ?_
  rintro e w6 ⟨v6, rfl, hO6, hb6⟩
  have hb06 := hb04.trans (hb6.mono hs5)
  have z6 := (hcs _ hb06).2.2
  have hO6' := hO4.below hb6
  clear kc5 z0
  go_wp2_with (at_builtin; refine wpList_append_bs rfl _ _ rfl (w.heap.size + 1) _ L rfl hO6' ?s1 w6.heap.size _ (uv c) rfl hO6.bs ?s2 ?_)
  case s1 => have := hb06.size; omega
  case s2 => omega
  intro v7 w7 hO7 hb7
  have hb07 := hb06.trans hb7
  have kf7 := kf w7 v7 hO7
  clear kf z6 hO6 hO6' hO4
  go_wp2_with fail
  refine kf7.mono ?_
  rintro e w8 ⟨v8, rfl, hO8, hb8⟩
  have hb08 := hb07.trans (hb8.mono (by have := hb07.size; omega))
  have hbf : Below w.heap.size w w8 := hb.trans (hb08.mono (by omega))
  have hOf := hO8.mono (n₁ := w.heap.size) (by have := hb07.size; omega)
  obtain ⟨a8, p8, hv8⟩ := hO8.shape
  subst hv8
  clear hcs kf7 hO7 hO8
  go_wp2
  go_ret
  exact ⟨_, _, _, rfl, hOf, hbf⟩
end Go.Proofs.YtdcpdcnipmfdjaaDoor.Fr

