import Derived.Test.YtncoandnelgkeaaGreatHc17
import Derived.Test.YtncoandnelgkeaaGreatHc18
import Derived.Test.YtncoandnelgkeaaGreatHc19
import Derived.Test.YtncoandnelgkeaaGreatHc20
/- A state that turns, in the program's form: a block of its own, all that it has in rows of its own. -/
namespace Go.Proofs.YtncoandnelgkeaaGreat
open Go.RowKit QuorumMath RlogMath RaftMath
set_option maxRecDepth 100000
set_option linter.unusedSimpArgs false
set_option linter.unusedVariables false

theorem Cps.frm {m n : Nat} {T : List TypeId} {w w' : World} {st : Value} {M : List Me} {cur : List Ez} (h : Cps m w st M cur) (hf : Frm n T w w') (ht : (25 : TypeId) ∉ T) (ht' : (5 : TypeId) ∉ T) : Cps m w' st M cur := ⟨h.1.frm hf ht, h.2.1, fun z hz => Rk.frm (h.2.2 z hz) hf ht'⟩
theorem CpD.frm {n : Nat} {T : List TypeId} {w w' : World} {z : Ez} (h : CpD w z) (hf : Frm n T w w') (ht' : (5 : TypeId) ∉ T) : CpD w' z := Rk.frm h hf ht'
/-- A message of one's own. -/
def MgC (w : World) (g : Gz) : Prop := Cps 0 w (slv g.sl) g.m.ents g.es ∧ CpD w (g.m.snap, g.ss)
theorem MgC.below {w w' : World} {g : Gz} (h : MgC w g) (hb : Below w.heap.size w w') : MgC w' g := ⟨h.1.below hb, h.2.below hb⟩
theorem MgC.frm {n : Nat} {T : List TypeId} {w w' : World} {g : Gz} (h : MgC w g) (hf : Frm n T w w') (ht : (25 : TypeId) ∉ T) (ht' : (5 : TypeId) ∉ T) : MgC w' g := ⟨h.1.frm hf ht ht', h.2.frm hf ht'⟩
theorem MgC.toN {w : World} {g : Gz} (h : MgC w g) (n : Nat) : MgV n w g := ⟨h.1.toN n, h.1.2.1, h.2.toN n⟩
/-- The turn's block. -/
@[reducible] def tc (z : Rz) (os : Sl) : Obj := .cells #[.int .i64 z.r.node, .int .u64 (z.r.term : Int), .int .i64 z.r.vote, .int .u64 (z.r.base.idx : Int), .int .u64 (z.r.base.term : Int), .int .i64 z.r.base.kind, .slice z.bs.1 z.bs.2.1 z.bs.2.2, .slice z.ls.1 z.ls.2.1 z.ls.2.2, .int .u64 (z.r.commit : Int), .int .i64 z.r.role, .int .i64 z.r.leads, .int .i64 z.r.elapsed, .slice z.vs.1 z.vs.2.1 z.vs.2.2, .slice z.ps.1 z.ps.2.1 z.ps.2.2, .slice os.1 os.2.1 os.2.2] 82
/-- Its rows. -/
def TuP (n : Nat) (w : World) (z : Rz) (gs : List Gz) (os : Sl) : Prop := CpD w (z.r.base, z.bs) ∧ Cps 0 w (slv z.ls) z.r.log z.zs ∧ Ow intE 3 n w (slv z.vs) z.r.votes ∧ Ow peerN 71 n w (slv z.ps) z.r.peers ∧ Ow msgE 34 n w (slv os) gs ∧ ∀ g ∈ gs, MgC w g
theorem TuP.below {n : Nat} {w w' : World} {z : Rz} {gs : List Gz} {os : Sl} (h : TuP n w z gs os) (hb : Below w.heap.size w w') : TuP n w' z gs os := ⟨h.1.below hb, h.2.1.below hb, h.2.2.1.below hb, h.2.2.2.1.below hb, h.2.2.2.2.1.below hb, fun g hg => (h.2.2.2.2.2 g hg).below hb⟩
theorem TuP.frm {n m : Nat} {T : List TypeId} {w w' : World} {z : Rz} {gs : List Gz} {os : Sl} (h : TuP n w z gs os) (hf : Frm m T w w') (hT : ∀ t ∈ rowTs, t ∉ T) : TuP n w' z gs os := ⟨h.1.frm hf (hT _ (by decide)), h.2.1.frm hf (hT _ (by decide)) (hT _ (by decide)), h.2.2.1.frm hf (hT _ (by decide)), h.2.2.2.1.frm hf (hT _ (by decide)), h.2.2.2.2.1.frm hf (hT _ (by decide)), fun g hg => (h.2.2.2.2.2 g hg).frm hf (hT _ (by decide)) (hT _ (by decide))⟩
/-- The turn in block t, begun in world w0; what else is kept beside it. -/
def TuAt (w0 : World) (K : List (Nat × Obj)) (w : World) (t : Nat) (s : Ms) : Prop := Below w0.heap.size w0 w ∧ w0.heap.size ≤ t ∧ ∃ (z : Rz) (gs : List Gz) (os : Sl), w.heap[t]? = some (tc z os) ∧ z.r = s.r ∧ TuP w0.heap.size w z gs os ∧ (gs.map fun g => g.m) = s.out ∧ ∀ x ∈ K, w.heap[x.1]? = some x.2 ∧ x.1 ≠ t ∧ (slv os).ownBlock ≠ some x.1
theorem TuAt.below {w0 w w' : World} {K : List (Nat × Obj)} {t : Nat} {s : Ms} (h : TuAt w0 K w t s) (hb : Below w.heap.size w w') : TuAt w0 K w' t s := by
  obtain ⟨h1, h2, z, gs, os, h3, h4, h5, h6, h7⟩ := h
  exact ⟨h1.trans (hb.mono h1.size), h2, z, gs, os, (hb.block t (Array.getElem?_eq_some_iff.1 h3).1).trans h3, h4, h5.below hb, h6, fun x hx => ⟨(hb.block x.1 (Array.getElem?_eq_some_iff.1 (h7 x hx).1).1).trans (h7 x hx).1, (h7 x hx).2⟩⟩
theorem TuAt.kept {w0 w : World} {K : List (Nat × Obj)} {t : Nat} {s : Ms} (h : TuAt w0 K w t s) {c : Nat} {o : Obj} (hc : (c, o) ∈ K) : w.heap[c]? = some o := by
  obtain ⟨h1, h2, z, gs, os, h3, h4, h5, h6, h7⟩ := h
  exact (h7 _ hc).1
theorem TuAt.lt {w0 w : World} {K : List (Nat × Obj)} {t : Nat} {s : Ms} (h : TuAt w0 K w t s) : t < w.heap.size := by
  obtain ⟨h1, h2, z, gs, os, h3, h4, h5, h6, h7⟩ := h
  exact (Array.getElem?_eq_some_iff.1 h3).1
/-- A new box is kept, too; a box is kept no more. -/
theorem TuAt.keep {w0 w w' : World} {K : List (Nat × Obj)} {t : Nat} {s : Ms} (h : TuAt w0 K w t s) (hb : Below w.heap.size w w') {c : Nat} {o : Obj} (hc : w'.heap[c]? = some o) (hn : w.heap.size ≤ c) : TuAt w0 ((c, o) :: K) w' t s := by
  have hl := h.lt
  obtain ⟨h1, h2, z, gs, os, h3, h4, h5, h6, h7⟩ := h
  refine ⟨h1.trans (hb.mono h1.size), h2, z, gs, os, (hb.block t (Array.getElem?_eq_some_iff.1 h3).1).trans h3, h4, h5.below hb, h6, fun x hx => ?_⟩
  rw [List.mem_cons] at hx
  rcases hx with rfl | hx
  · refine ⟨hc, by show c ≠ t; omega, fun e => ?_⟩
    have := h5.2.2.2.2.1.1.lt e
    have e2 : c < w.heap.size := this
    omega
  · exact ⟨(hb.block x.1 (Array.getElem?_eq_some_iff.1 (h7 x hx).1).1).trans (h7 x hx).1, (h7 x hx).2⟩
theorem TuAt.drop {w0 w : World} {K K' : List (Nat × Obj)} {t : Nat} {s : Ms} (h : TuAt w0 K w t s) (hK : ∀ x ∈ K', x ∈ K) : TuAt w0 K' w t s := by
  obtain ⟨h1, h2, z, gs, os, h3, h4, h5, h6, h7⟩ := h
  exact ⟨h1, h2, z, gs, os, h3, h4, h5, h6, fun x hx => h7 x (hK x hx)⟩
/-- What a method leaves. -/
def TuR (w0 : World) (K : List (Nat × Obj)) (w w' : World) (t : Nat) (T : List TypeId) (s : Ms) : Prop := TuAt w0 K w' t s ∧ Frm w0.heap.size T w w' ∧ w.heap.size ≤ w'.heap.size
theorem TuR.of_below {w0 w w' : World} {K : List (Nat × Obj)} {t : Nat} {s : Ms} (T : List TypeId) (h : TuAt w0 K w t s) (hb : Below w.heap.size w w') : TuR w0 K w w' t T s := ⟨h.below hb, Frm.of_below T hb h.1.size, hb.size⟩
theorem TuR.trans {w0 w w1 w2 : World} {K : List (Nat × Obj)} {t : Nat} {T : List TypeId} {s s' : Ms} (h : TuR w0 K w w1 t T s) (k : TuR w0 K w1 w2 t T s') : TuR w0 K w w2 t T s' := ⟨k.1, h.2.1.trans k.2.1, Nat.le_trans h.2.2 k.2.2⟩
theorem TuR.mono {w0 w w' : World} {K : List (Nat × Obj)} {t : Nat} {T T' : List TypeId} {s : Ms} (h : TuR w0 K w w' t T s) (hT : ∀ t ∈ T, t ∈ T') : TuR w0 K w w' t T' s := ⟨h.1, h.2.1.mono hT, h.2.2⟩
theorem TuR.drop {w0 w w' : World} {K K' : List (Nat × Obj)} {t : Nat} {T : List TypeId} {s : Ms} (h : TuR w0 K w w' t T s) (hK : ∀ x ∈ K', x ∈ K) : TuR w0 K' w w' t T s := ⟨h.1.drop hK, h.2⟩
/-- A store into the turn's own block. -/
theorem TuAt.kset {w w' : World} {K : List (Nat × Obj)} {t : Nat} {os os' : Sl} (h : ∀ x ∈ K, w.heap[x.1]? = some x.2 ∧ x.1 ≠ t ∧ (slv os).ownBlock ≠ some x.1) (hw : ∀ b, b ≠ t → w'.heap[b]? = w.heap[b]?) (ho : os' = os) : ∀ x ∈ K, w'.heap[x.1]? = some x.2 ∧ x.1 ≠ t ∧ (slv os').ownBlock ≠ some x.1 := fun x hx => ⟨(hw x.1 (h x hx).2.1).trans (h x hx).1, (h x hx).2.1, by rw [ho]; exact (h x hx).2.2⟩
theorem frm_grown {n : Nat} {w w' : World} {row : Option Nat} {t : TypeId} (hg : w.grownBy w' row) (hn : n ≤ w.heap.size) (hrow : ∀ k, row = some k → n ≤ k ∧ ∃ cs fr, w.heap[k]? = some (.cells cs t fr)) : Frm n [t] w w' :=
  ⟨fun b hb => hg.block b (by omega) fun e => by have := (hrow b e.symm).1; omega, fun b cs t' fr hc ht => hg.block b (Array.getElem?_eq_some_iff.1 hc).1 fun e => by
    obtain ⟨_, cs', fr', h⟩ := hrow b e.symm
    rw [hc] at h
    simp only [Option.some.injEq, Obj.cells.injEq] at h
    exact ht (by rw [h.2.1]; exact List.mem_singleton.2 rfl)⟩
end Go.Proofs.YtncoandnelgkeaaGreat

/- The program's send, answer. -/
namespace Go.Proofs.YtncoandnelgkeaaGreat
open Go.RowKit QuorumMath RlogMath RaftMath
set_option maxRecDepth 100000
set_option linter.unusedSimpArgs false
set_option linter.unusedVariables false

set_option maxHeartbeats 8000000 in
theorem send_of (w0 : World) (K : List (Nat × Obj)) (w : World) (t : Nat) (s : Ms) (to : Int) (g : Gz) (hS : TuAt w0 K w t s) (hg : MgC w g) (hl : s.out.length ≤ 1000000000) : Calls Tryz.prog 124 #[.pointer (some ⟨t, 0, none⟩), .int .i64 to, gv g] w fun e w' => e = .returned (.tuple #[]) ∧ TuR w0 K w w' t [82, 34] (sayR s { g.m with dst := to }) := by
  obtain ⟨hb0, ht0, z, gs, os, hT, hz, hP, ho, hKp⟩ := hS
  obtain ⟨r, zs, ⟨ba, bn, bc⟩, ⟨la, ln, lc⟩, ⟨va, vn, vc⟩, ⟨pa, pn, pc⟩⟩ := z
  obtain ⟨sr, so⟩ := s
  obtain rfl : r = sr := hz
  obtain ⟨nd, tm, vo, ⟨bi, bt, bk, bd⟩, lg, cm, ro, le, el, vt, pe⟩ := r
  obtain ⟨oa, on, oc⟩ := os
  obtain ⟨⟨mk, ms, md, mt, mi, mp, ents, mc, mo, mm, ⟨si, st, sk, sd⟩⟩, es, ⟨ea, en, ec⟩, ⟨sa, sn, sc⟩⟩ := g
  dsimp only at ho hl
  dsimp only [gv, tc] at *
  obtain ⟨G, HG⟩ : ∃ G : Gz, Hid (G = ⟨⟨mk, nd, to, tm, mi, mp, ents, mc, mo, mm, ⟨si, st, sk, sd⟩⟩, es, (ea, en, ec), (sa, sn, sc)⟩) := ⟨_, rfl⟩
  have HGc : Hid (gc G = (.cells #[.int .i64 mk, .int .i64 nd, .int .i64 to, .int .u64 (tm : Int), .int .u64 (mi : Int), .int .u64 (mp : Int), .slice ea en ec, .int .u64 (mc : Int), .bool mo, .int .u64 (mm : Int), .int .u64 (si : Int), .int .u64 (st : Int), .int .i64 sk, .slice sa sn sc] 34)) := by show _ = _; rw [HG.out]
  have hgl : gs.length ≤ 1000000000 := by have := congrArg List.length ho; rw [List.length_map] at this; omega
  have htl : t < w.heap.size := (Array.getElem?_eq_some_iff.1 hT).1
  have HO : Hid (Ow msgE 34 w0.heap.size w (.slice oa on oc) gs) := hP.2.2.2.2.1
  obtain ⟨oa', oc', hos, -, -⟩ := HO.out.1.rd.shape
  simp only [Value.slice.injEq] at hos
  obtain ⟨rfl, rfl, rfl⟩ := hos
  have HP : Hid (TuP w0.heap.size w _ gs _) := hP
  have HGM : Hid (MgC w ⟨⟨mk, nd, to, tm, mi, mp, ents, mc, mo, mm, ⟨si, st, sk, sd⟩⟩, es, (ea, en, ec), (sa, sn, sc)⟩) := hg
  have HKp : Hid (∀ x ∈ K, w.heap[x.1]? = some x.2 ∧ x.1 ≠ t ∧ (Value.slice oa gs.length oc).ownBlock ≠ some x.1) := hKp
  clear hKp
  obtain ⟨hsz, B5, hb5⟩ := one_box w (.cells #[.int .i64 mk, .int .i64 ms, .int .i64 md, .int .u64 (mt : Int), .int .u64 (mi : Int), .int .u64 (mp : Int), .slice ea en ec, .int .u64 (mc : Int), .bool mo, .int .u64 (mm : Int), .int .u64 (si : Int), .int .u64 (st : Int), .int .i64 sk, .slice sa sn sc] 34)
  clear hP hg
  go_enter Tryz.func124, Tryz.ntmps124
  go_wp2
  (try simp only [Exit.inBlock, Exit.then])
  generalize w.alloc (.cells #[.int .i64 mk, .int .i64 ms, .int .i64 md, .int .u64 (mt : Int), .int .u64 (mi : Int), .int .u64 (mp : Int), .slice ea en ec, .int .u64 (mc : Int), .bool mo, .int .u64 (mm : Int), .int .u64 (si : Int), .int .u64 (st : Int), .int .i64 sk, .slice sa sn sc] 34) = w5 at *
  refine wp_region_L (fun W => Below w.heap.size w W) [] (by kernel_rfl) ?_
  have hbd : Below w.heap.size w w5.drew := hb5.drew
  have gb : w5.drew.heap[w.heap.size]? = some (.cells #[.int .i64 mk, .int .i64 ms, .int .i64 md, .int .u64 (mt : Int), .int .u64 (mi : Int), .int .u64 (mp : Int), .slice ea en ec, .int .u64 (mc : Int), .bool mo, .int .u64 (mm : Int), .int .u64 (si : Int), .int .u64 (st : Int), .int .i64 sk, .slice sa sn sc] 34) := B5
  have HCL : Hid (∀ W, Below w.heap.size w W → _) := fun W hW => r15_cells ((hW.block t htl).trans hT)
  generalize w5.drew = wd at *
  refine wpAnyL_take 0 rfl (by kernel_rfl) (by kernel_rfl) (by kernel_rfl) (by kernel_rfl) (fun _ _ _ h => h) (wanted_none rfl) (by intro w' hS'; have hz := hS'; obtain ⟨-, c0, c1, c2, c3, c4, c5, c6, c7, c8, c9, c10, c11, c12, c13, c14⟩ := HCL.out _ hz; go_simp <;> rfl) hbd ?_
  try simp only [List.getElem_toArray, List.getElem_cons_succ, List.getElem_cons_zero, Act.put, List.setIfInBounds_toArray, List.set_cons_zero, List.set_cons_succ]
  refine wpAnyL_take 1 rfl (by kernel_rfl) (by kernel_rfl) (by kernel_rfl) (by kernel_rfl) (fun _ _ _ h => h) (wanted_none rfl) (by intro w' hS'; have hz := hS'; obtain ⟨-, c0, c1, c2, c3, c4, c5, c6, c7, c8, c9, c10, c11, c12, c13, c14⟩ := HCL.out _ hz; go_simp <;> rfl) hbd ?_
  try simp only [List.getElem_toArray, List.getElem_cons_succ, List.getElem_cons_zero, Act.put, List.setIfInBounds_toArray, List.set_cons_zero, List.set_cons_succ]
  refine wpAnyL_take 2 rfl (by kernel_rfl) (by kernel_rfl) (by kernel_rfl) (by kernel_rfl) (fun _ _ _ h => h) (wanted_none rfl) (by intro w' hS'; have hz := hS'; obtain ⟨-, c0, c1, c2, c3, c4, c5, c6, c7, c8, c9, c10, c11, c12, c13, c14⟩ := HCL.out _ hz; go_simp <;> rfl) hbd ?_
  try simp only [List.getElem_toArray, List.getElem_cons_succ, List.getElem_cons_zero, Act.put, List.setIfInBounds_toArray, List.set_cons_zero, List.set_cons_succ]
  refine wpAnyL_take 3 rfl (by kernel_rfl) (by kernel_rfl) (by kernel_rfl) (by kernel_rfl) (fun _ _ _ h => h) (wanted_none rfl) (by intro w' hS'; have hz := hS'; obtain ⟨-, c0, c1, c2, c3, c4, c5, c6, c7, c8, c9, c10, c11, c12, c13, c14⟩ := HCL.out _ hz; go_simp <;> rfl) hbd ?_
  try simp only [List.getElem_toArray, List.getElem_cons_succ, List.getElem_cons_zero, Act.put, List.setIfInBounds_toArray, List.set_cons_zero, List.set_cons_succ]
  refine wpAnyL_take 4 rfl (by kernel_rfl) (by kernel_rfl) (by kernel_rfl) (by kernel_rfl) (fun _ _ _ h => h) (wanted_none rfl) (by intro w' hS'; have hz := hS'; obtain ⟨-, c0, c1, c2, c3, c4, c5, c6, c7, c8, c9, c10, c11, c12, c13, c14⟩ := HCL.out _ hz; go_simp <;> rfl) hbd ?_
  try simp only [List.getElem_toArray, List.getElem_cons_succ, List.getElem_cons_zero, Act.put, List.setIfInBounds_toArray, List.set_cons_zero, List.set_cons_succ]
  refine wpAnyL_take 5 rfl (by kernel_rfl) (by kernel_rfl) (by kernel_rfl) (by kernel_rfl) (fun _ _ _ h => h) (wanted_none rfl) (by intro w' hS'; have hz := hS'; obtain ⟨-, c0, c1, c2, c3, c4, c5, c6, c7, c8, c9, c10, c11, c12, c13, c14⟩ := HCL.out _ hz; go_simp <;> rfl) hbd ?_
  try simp only [List.getElem_toArray, List.getElem_cons_succ, List.getElem_cons_zero, Act.put, List.setIfInBounds_toArray, List.set_cons_zero, List.set_cons_succ]
  refine wpAnyL_take 6 rfl (by kernel_rfl) (by kernel_rfl) (by kernel_rfl) (by kernel_rfl) (fun _ _ _ h => h) (wanted_none rfl) (by intro w' hS'; have hz := hS'; obtain ⟨-, c0, c1, c2, c3, c4, c5, c6, c7, c8, c9, c10, c11, c12, c13, c14⟩ := HCL.out _ hz; go_simp <;> rfl) hbd ?_
  try simp only [List.getElem_toArray, List.getElem_cons_succ, List.getElem_cons_zero, Act.put, List.setIfInBounds_toArray, List.set_cons_zero, List.set_cons_succ]
  refine wpAnyL_take 7 rfl (by kernel_rfl) (by kernel_rfl) (by kernel_rfl) (by kernel_rfl) (fun _ _ _ h => h) (wanted_none rfl) (by intro w' hS'; have hz := hS'; obtain ⟨-, c0, c1, c2, c3, c4, c5, c6, c7, c8, c9, c10, c11, c12, c13, c14⟩ := HCL.out _ hz; go_simp <;> rfl) hbd ?_
  try simp only [List.getElem_toArray, List.getElem_cons_succ, List.getElem_cons_zero, Act.put, List.setIfInBounds_toArray, List.set_cons_zero, List.set_cons_succ]
  refine wpAnyL_take 8 rfl (by kernel_rfl) (by kernel_rfl) (by kernel_rfl) (by kernel_rfl) (fun _ _ _ h => h) (wanted_none rfl) (by intro w' hS'; have hz := hS'; obtain ⟨-, c0, c1, c2, c3, c4, c5, c6, c7, c8, c9, c10, c11, c12, c13, c14⟩ := HCL.out _ hz; go_simp <;> rfl) hbd ?_
  try simp only [List.getElem_toArray, List.getElem_cons_succ, List.getElem_cons_zero, Act.put, List.setIfInBounds_toArray, List.set_cons_zero, List.set_cons_succ]
  refine wpAnyL_take 9 rfl (by kernel_rfl) (by kernel_rfl) (by kernel_rfl) (by kernel_rfl) (fun _ _ _ h => h) (wanted_none rfl) (by intro w' hS'; have hz := hS'; obtain ⟨-, c0, c1, c2, c3, c4, c5, c6, c7, c8, c9, c10, c11, c12, c13, c14⟩ := HCL.out _ hz; go_simp <;> rfl) hbd ?_
  try simp only [List.getElem_toArray, List.getElem_cons_succ, List.getElem_cons_zero, Act.put, List.setIfInBounds_toArray, List.set_cons_zero, List.set_cons_succ]
  refine wpAnyL_take 10 rfl (by kernel_rfl) (by kernel_rfl) (by kernel_rfl) (by kernel_rfl) (fun _ _ _ h => h) (wanted_none rfl) (by intro w' hS'; have hz := hS'; obtain ⟨-, c0, c1, c2, c3, c4, c5, c6, c7, c8, c9, c10, c11, c12, c13, c14⟩ := HCL.out _ hz; go_simp <;> rfl) hbd ?_
  try simp only [List.getElem_toArray, List.getElem_cons_succ, List.getElem_cons_zero, Act.put, List.setIfInBounds_toArray, List.set_cons_zero, List.set_cons_succ]
  refine wpAnyL_take 11 rfl (by kernel_rfl) (by kernel_rfl) (by kernel_rfl) (by kernel_rfl) (fun _ _ _ h => h) (wanted_none rfl) (by intro w' hS'; have hz := hS'; obtain ⟨-, c0, c1, c2, c3, c4, c5, c6, c7, c8, c9, c10, c11, c12, c13, c14⟩ := HCL.out _ hz; go_simp <;> rfl) hbd ?_
  try simp only [List.getElem_toArray, List.getElem_cons_succ, List.getElem_cons_zero, Act.put, List.setIfInBounds_toArray, List.set_cons_zero, List.set_cons_succ]
  refine wpAnyL_one 12 (by kernel_rfl) rfl (wanted_none rfl) ?_
  intro K' hK'
  obtain ⟨⟨f0, f1, f2, f3, f4, f5, f6, f7, f8, f9, f10, f11, f12, f13⟩, e0, e1, e2, e3, e4, e5, e6, e7, e8, e9, e10, e11, e12, e13⟩ := r14_cells gb
  go_simp
  have hc0 : Below w.heap.size w (wd.setCell ⟨w.heap.size, 1, none⟩ (.int .i64 nd)) := hbd.setCell (p := ⟨w.heap.size, 1, none⟩) (Nat.le_refl _) _
  have gb0 : (wd.setCell ⟨w.heap.size, 1, none⟩ (.int .i64 nd)).heap[w.heap.size]? = some (.cells #[.int .i64 mk, .int .i64 nd, .int .i64 md, .int .u64 (mt : Int), .int .u64 (mi : Int), .int .u64 (mp : Int), .slice ea en ec, .int .u64 (mc : Int), .bool mo, .int .u64 (mm : Int), .int .u64 (si : Int), .int .u64 (st : Int), .int .i64 sk, .slice sa sn sc] 34) := by simp [World.setCell, Array.getElem?_modify, gb]
  refine hK'.out _ _ (.inr hc0) ?_
  clear hK' K'
  try simp only [List.getElem_toArray, List.getElem_cons_succ, List.getElem_cons_zero, Act.put, List.setIfInBounds_toArray, List.set_cons_zero, List.set_cons_succ]
  clear f0 e0 f1 e1 f2 e2 f3 e3 f4 e4 f5 e5 f6 e6 f7 e7 f8 e8 f9 e9 f10 e10 f11 e11 f12 e12 f13 e13
  generalize wd.setCell ⟨w.heap.size, 1, none⟩ (.int .i64 nd) = wd0 at *
  refine wpAnyL_take 13 rfl (by kernel_rfl) (by kernel_rfl) (by kernel_rfl) (by kernel_rfl) (fun _ _ _ h => h) (wanted_none rfl) (by intro w' hS'; have hz := hS'; obtain ⟨-, c0, c1, c2, c3, c4, c5, c6, c7, c8, c9, c10, c11, c12, c13, c14⟩ := HCL.out _ hz; go_simp <;> rfl) hc0 ?_
  try simp only [List.getElem_toArray, List.getElem_cons_succ, List.getElem_cons_zero, Act.put, List.setIfInBounds_toArray, List.set_cons_zero, List.set_cons_succ]
  refine wpAnyL_one 14 (by kernel_rfl) rfl (wanted_none rfl) ?_
  intro K' hK'
  obtain ⟨⟨f0, f1, f2, f3, f4, f5, f6, f7, f8, f9, f10, f11, f12, f13⟩, e0, e1, e2, e3, e4, e5, e6, e7, e8, e9, e10, e11, e12, e13⟩ := r14_cells gb0
  go_simp
  have hc1 : Below w.heap.size w (wd0.setCell ⟨w.heap.size, 2, none⟩ (.int .i64 to)) := hc0.setCell (p := ⟨w.heap.size, 2, none⟩) (Nat.le_refl _) _
  have gb1 : (wd0.setCell ⟨w.heap.size, 2, none⟩ (.int .i64 to)).heap[w.heap.size]? = some (.cells #[.int .i64 mk, .int .i64 nd, .int .i64 to, .int .u64 (mt : Int), .int .u64 (mi : Int), .int .u64 (mp : Int), .slice ea en ec, .int .u64 (mc : Int), .bool mo, .int .u64 (mm : Int), .int .u64 (si : Int), .int .u64 (st : Int), .int .i64 sk, .slice sa sn sc] 34) := by simp [World.setCell, Array.getElem?_modify, gb0]
  refine hK'.out _ _ (.inr hc1) ?_
  clear hK' K'
  try simp only [List.getElem_toArray, List.getElem_cons_succ, List.getElem_cons_zero, Act.put, List.setIfInBounds_toArray, List.set_cons_zero, List.set_cons_succ]
  clear f0 e0 f1 e1 f2 e2 f3 e3 f4 e4 f5 e5 f6 e6 f7 e7 f8 e8 f9 e9 f10 e10 f11 e11 f12 e12 f13 e13
  generalize wd0.setCell ⟨w.heap.size, 2, none⟩ (.int .i64 to) = wd1 at *
  refine wpAnyL_take 15 rfl (by kernel_rfl) (by kernel_rfl) (by kernel_rfl) (by kernel_rfl) (fun _ _ _ h => h) (wanted_none rfl) (by intro w' hS'; have hz := hS'; obtain ⟨-, c0, c1, c2, c3, c4, c5, c6, c7, c8, c9, c10, c11, c12, c13, c14⟩ := HCL.out _ hz; go_simp <;> rfl) hc1 ?_
  try simp only [List.getElem_toArray, List.getElem_cons_succ, List.getElem_cons_zero, Act.put, List.setIfInBounds_toArray, List.set_cons_zero, List.set_cons_succ]
  refine wpAnyL_one 16 (by kernel_rfl) rfl (wanted_none rfl) ?_
  intro K' hK'
  obtain ⟨⟨f0, f1, f2, f3, f4, f5, f6, f7, f8, f9, f10, f11, f12, f13⟩, e0, e1, e2, e3, e4, e5, e6, e7, e8, e9, e10, e11, e12, e13⟩ := r14_cells gb1
  go_simp
  have hc2 : Below w.heap.size w (wd1.setCell ⟨w.heap.size, 3, none⟩ (.int .u64 (tm : Int))) := hc1.setCell (p := ⟨w.heap.size, 3, none⟩) (Nat.le_refl _) _
  have gb2 : (wd1.setCell ⟨w.heap.size, 3, none⟩ (.int .u64 (tm : Int))).heap[w.heap.size]? = some (.cells #[.int .i64 mk, .int .i64 nd, .int .i64 to, .int .u64 (tm : Int), .int .u64 (mi : Int), .int .u64 (mp : Int), .slice ea en ec, .int .u64 (mc : Int), .bool mo, .int .u64 (mm : Int), .int .u64 (si : Int), .int .u64 (st : Int), .int .i64 sk, .slice sa sn sc] 34) := by simp [World.setCell, Array.getElem?_modify, gb1]
  refine hK'.out _ _ (.inr hc2) ?_
  clear hK' K'
  try simp only [List.getElem_toArray, List.getElem_cons_succ, List.getElem_cons_zero, Act.put, List.setIfInBounds_toArray, List.set_cons_zero, List.set_cons_succ]
  clear f0 e0 f1 e1 f2 e2 f3 e3 f4 e4 f5 e5 f6 e6 f7 e7 f8 e8 f9 e9 f10 e10 f11 e11 f12 e12 f13 e13
  generalize wd1.setCell ⟨w.heap.size, 3, none⟩ (.int .u64 (tm : Int)) = wd2 at *
  refine wpAnyL_done (by kernel_rfl) (NoPanic.normal ?_) _
  have hT6 := (hc2.block t htl).trans hT
  have hB6 := gb2
  have hb6 := hc2
  generalize wd2 = w6 at *
  clear gb0 gb1 gb2 hc0 hc1 hc2 gb hbd HCL
  go_wp2
  (try simp only [Exit.inBlock, Exit.then])
  refine wp_region_L (fun W => W.heap[t]? = w6.heap[t]? ∧ W.heap[w.heap.size]? = w6.heap[w.heap.size]?) [10] (by kernel_rfl) ?_
  have y0 : (fun W => W.heap[t]? = w6.heap[t]? ∧ W.heap[w.heap.size]? = w6.heap[w.heap.size]?) w6.drew := ⟨rfl, rfl⟩
  have hT7 : w6.drew.heap[t]? = _ := hT6
  have hB7 : w6.drew.heap[w.heap.size]? = _ := hB6
  have hb7 : Below w.heap.size w w6.drew := hb6.drew
  have hO7 : Ow msgE 34 w0.heap.size w6.drew (.slice oa gs.length oc) gs := HO.out.below hb7
  generalize w6.drew = wd at *
  refine wpAnyL_take 0 rfl (by kernel_rfl) (by kernel_rfl) (by kernel_rfl) (by kernel_rfl) (fun _ _ _ h => h) (wanted_none rfl) (by intro w' hS'; obtain ⟨-, c0, c1, c2, c3, c4, c5, c6, c7, c8, c9, c10, c11, c12, c13, c14⟩ := r15_cells (hS'.1.trans hT6); obtain ⟨-, d0, d1, d2, d3, d4, d5, d6, d7, d8, d9, d10, d11, d12, d13⟩ := r14_cells (hS'.2.trans hB6); go_simp <;> rfl) y0 ?_
  try simp only [List.getElem_toArray, List.getElem_cons_succ, List.getElem_cons_zero, Act.put, List.setIfInBounds_toArray, List.set_cons_zero, List.set_cons_succ]
  refine wpAnyL_take 1 rfl (by kernel_rfl) (by kernel_rfl) (by kernel_rfl) (by kernel_rfl) (fun _ _ _ h => h) (wanted_none rfl) (by intro w' hS'; obtain ⟨-, c0, c1, c2, c3, c4, c5, c6, c7, c8, c9, c10, c11, c12, c13, c14⟩ := r15_cells (hS'.1.trans hT6); obtain ⟨-, d0, d1, d2, d3, d4, d5, d6, d7, d8, d9, d10, d11, d12, d13⟩ := r14_cells (hS'.2.trans hB6); go_simp <;> rfl) y0 ?_
  try simp only [List.getElem_toArray, List.getElem_cons_succ, List.getElem_cons_zero, Act.put, List.setIfInBounds_toArray, List.set_cons_zero, List.set_cons_succ]
  refine wpAnyL_take 2 rfl (by kernel_rfl) (by kernel_rfl) (by kernel_rfl) (by kernel_rfl) (fun _ _ _ h => h) (wanted_none rfl) (by intro w' hS'; obtain ⟨-, c0, c1, c2, c3, c4, c5, c6, c7, c8, c9, c10, c11, c12, c13, c14⟩ := r15_cells (hS'.1.trans hT6); obtain ⟨-, d0, d1, d2, d3, d4, d5, d6, d7, d8, d9, d10, d11, d12, d13⟩ := r14_cells (hS'.2.trans hB6); go_simp <;> rfl) y0 ?_
  try simp only [List.getElem_toArray, List.getElem_cons_succ, List.getElem_cons_zero, Act.put, List.setIfInBounds_toArray, List.set_cons_zero, List.set_cons_succ]
  refine wpAnyL_take 3 rfl (by kernel_rfl) (by kernel_rfl) (by kernel_rfl) (by kernel_rfl) (fun _ _ _ h => h) (wanted_none rfl) (by intro w' hS'; obtain ⟨-, c0, c1, c2, c3, c4, c5, c6, c7, c8, c9, c10, c11, c12, c13, c14⟩ := r15_cells (hS'.1.trans hT6); obtain ⟨-, d0, d1, d2, d3, d4, d5, d6, d7, d8, d9, d10, d11, d12, d13⟩ := r14_cells (hS'.2.trans hB6); go_simp <;> rfl) y0 ?_
  try simp only [List.getElem_toArray, List.getElem_cons_succ, List.getElem_cons_zero, Act.put, List.setIfInBounds_toArray, List.set_cons_zero, List.set_cons_succ]
  refine wpAnyL_take 4 rfl (by kernel_rfl) (by kernel_rfl) (by kernel_rfl) (by kernel_rfl) (fun _ _ _ h => h) (wanted_none rfl) (by intro w' hS'; obtain ⟨-, c0, c1, c2, c3, c4, c5, c6, c7, c8, c9, c10, c11, c12, c13, c14⟩ := r15_cells (hS'.1.trans hT6); obtain ⟨-, d0, d1, d2, d3, d4, d5, d6, d7, d8, d9, d10, d11, d12, d13⟩ := r14_cells (hS'.2.trans hB6); go_simp <;> rfl) y0 ?_
  try simp only [List.getElem_toArray, List.getElem_cons_succ, List.getElem_cons_zero, Act.put, List.setIfInBounds_toArray, List.set_cons_zero, List.set_cons_succ]
  refine wpAnyL_take 5 rfl (by kernel_rfl) (by kernel_rfl) (by kernel_rfl) (by kernel_rfl) (fun _ _ _ h => h) (wanted_none rfl) (by intro w' hS'; obtain ⟨-, c0, c1, c2, c3, c4, c5, c6, c7, c8, c9, c10, c11, c12, c13, c14⟩ := r15_cells (hS'.1.trans hT6); obtain ⟨-, d0, d1, d2, d3, d4, d5, d6, d7, d8, d9, d10, d11, d12, d13⟩ := r14_cells (hS'.2.trans hB6); go_simp <;> rfl) y0 ?_
  try simp only [List.getElem_toArray, List.getElem_cons_succ, List.getElem_cons_zero, Act.put, List.setIfInBounds_toArray, List.set_cons_zero, List.set_cons_succ]
  refine wpAnyL_one 6 (by kernel_rfl) rfl (wanted_none rfl) ?_
  intro K' hK'
  go_simp
  have y1 : (fun W => W.heap[t]? = w6.heap[t]? ∧ W.heap[w.heap.size]? = w6.heap[w.heap.size]?) (wd.alloc (.cells #[.int .i64 mk, .int .i64 nd, .int .i64 to, .int .u64 (tm : Int), .int .u64 (mi : Int), .int .u64 (mp : Int), .slice ea en ec, .int .u64 (mc : Int), .bool mo, .int .u64 (mm : Int), .int .u64 (si : Int), .int .u64 (st : Int), .int .i64 sk, .slice sa sn sc] 34)) := ⟨(heap_alloc_old _ _ (Array.getElem?_eq_some_iff.1 hT7).1).trans y0.1, (heap_alloc_old _ _ (Array.getElem?_eq_some_iff.1 hB7).1).trans y0.2⟩
  have r7H : Hid _ := push_msg G hO7.1 (by omega)
  rw [HGc.out] at r7H
  refine hK'.out _ _ (.inr y1) ?_
  clear hK' K'
  try simp only [List.getElem_toArray, List.getElem_cons_succ, List.getElem_cons_zero, Act.put, List.setIfInBounds_toArray, List.set_cons_zero, List.set_cons_succ]
  refine wpAnyL_one 7 (by kernel_rfl) rfl (wanted_none rfl) ?_
  intro K' hK'
  refine op_by _ _ _ rfl _ _ rfl rfl r7H.out ?_
  intro v8 w8 p8
  obtain ⟨hO8, hb8⟩ := hO7.push (Nat.le_trans hb0.size hb7.size) p8
  have fr8 : Frm w0.heap.size [34] wd w8 := frm_grown p8.2.1 (Nat.le_trans hb0.size hb7.size) (fun k hk => ⟨hO7.2 k hk, by obtain ⟨cs, hc⟩ := hO7.1.block hk; exact ⟨_, _, hc⟩⟩)
  have y8 : (fun W => W.heap[t]? = w6.heap[t]? ∧ W.heap[w.heap.size]? = w6.heap[w.heap.size]?) w8 := ⟨(fr8.2 t _ _ _ hT7 (by decide)).trans y0.1, (p8.2.1.block w.heap.size (Array.getElem?_eq_some_iff.1 hB7).1 (fun e => by
    have h1 := HO.out.1.lt e.symm
    omega)).trans y0.2⟩
  have hsz8 : wd.heap.size ≤ w8.heap.size := p8.2.1.size
  have HK8 : Hid (∀ x ∈ K, w8.heap[x.1]? = some x.2 ∧ x.1 ≠ t ∧ v8.ownBlock ≠ some x.1) := fun x hx => by
    obtain ⟨k1, k2, k3⟩ := HKp.out x hx
    have kl : x.1 < w.heap.size := (Array.getElem?_eq_some_iff.1 k1).1
    refine ⟨(p8.2.1.block x.1 (Nat.lt_of_lt_of_le kl hb7.size) (fun e => k3 e.symm)).trans ((hb7.block x.1 kl).trans k1), k2, fun e => ?_⟩
    rcases p8.2.2 x.1 e with h | h
    · exact k3 h
    · have := hb7.size
      omega
  obtain ⟨va8, vc8, hv8, -⟩ := hO8.1.shape
  clear p8 r7H
  generalize hL8 : gs ++ [G] = L8 at *
  generalize L8.length = n8 at hv8
  subst hv8
  refine hK'.out _ _ (.inr y8) ?_
  clear hK' K'
  try simp only [List.getElem_toArray, List.getElem_cons_succ, List.getElem_cons_zero, Act.put, List.setIfInBounds_toArray, List.set_cons_zero, List.set_cons_succ]
  refine wpAnyL_one 8 (by kernel_rfl) rfl (wanted_none rfl) ?_
  intro K' hK'
  go_simp
  refine hK'.out _ _ (.inr y8) ?_
  clear hK' K'
  try simp only [List.getElem_toArray, List.getElem_cons_succ, List.getElem_cons_zero, Act.put, List.setIfInBounds_toArray, List.set_cons_zero, List.set_cons_succ]
  refine wpAnyL_take 9 rfl (by kernel_rfl) (by kernel_rfl) (by kernel_rfl) (by kernel_rfl) (fun _ _ _ h => h) (wanted_none rfl) (by intro w' hS'; obtain ⟨-, c0, c1, c2, c3, c4, c5, c6, c7, c8, c9, c10, c11, c12, c13, c14⟩ := r15_cells (hS'.1.trans hT6); obtain ⟨-, d0, d1, d2, d3, d4, d5, d6, d7, d8, d9, d10, d11, d12, d13⟩ := r14_cells (hS'.2.trans hB6); go_simp <;> rfl) y8 ?_
  try simp only [List.getElem_toArray, List.getElem_cons_succ, List.getElem_cons_zero, Act.put, List.setIfInBounds_toArray, List.set_cons_zero, List.set_cons_succ]
  refine wpAnyL_one 10 (by kernel_rfl) rfl (wanted_none rfl) ?_
  intro K' hK'
  have hT8 := y8.1.trans hT6
  obtain ⟨⟨f0, f1, f2, f3, f4, f5, f6, f7, f8, f9, f10, f11, f12, f13, f14⟩, e0, e1, e2, e3, e4, e5, e6, e7, e8, e9, e10, e11, e12, e13, e14⟩ := r15_cells hT8
  go_simp
  refine hK'.out _ _ (.inl (by decide)) ?_
  clear hK' K'
  try simp only [List.getElem_toArray, List.getElem_cons_succ, List.getElem_cons_zero, Act.put, List.setIfInBounds_toArray, List.set_cons_zero, List.set_cons_succ]
  refine wpAnyL_done (by kernel_rfl) (NoPanic.normal ?_) _
  have fr1 : Frm w0.heap.size [82, 34] w wd := Frm.of_below _ (hb7.mono (Nat.le_refl _)) hb0.size
  have fr2 := fr1.trans (fr8.mono (T' := [82, 34]) (by simp))
  have fr3 := fr2.trans ((Frm.cell (n := w0.heap.size) (i := 14) ht0 hT8 (.slice va8 n8 vc8)).mono (T' := [82, 34]) (by simp))
  have hTf : (w8.setCell ⟨t, 14, none⟩ (.slice va8 n8 vc8)).heap[t]? = some (.cells #[.int .i64 nd, .int .u64 (tm : Int), .int .i64 vo, .int .u64 (bi : Int), .int .u64 (bt : Int), .int .i64 bk, .slice ba bn bc, .slice la ln lc, .int .u64 (cm : Int), .int .i64 ro, .int .i64 le, .int .i64 el, .slice va vn vc, .slice pa pn pc, .slice va8 n8 vc8] 82) := by simp [World.setCell, Array.getElem?_modify, hT8]
  have hb0f : Below w0.heap.size w0 (w8.setCell ⟨t, 14, none⟩ (.slice va8 n8 vc8)) := (hb0.trans ((hb7.mono hb0.size).trans hb8)).setCell (p := ⟨t, 14, none⟩) ht0 _
  have hOf := hO8.frm (Frm.cell (n := w0.heap.size) (i := 14) ht0 hT8 (.slice va8 n8 vc8)) (by decide)
  have hszf : w.heap.size ≤ (w8.setCell ⟨t, 14, none⟩ (.slice va8 n8 vc8)).heap.size := by have h1 := hb7.size; simp [World.setCell]; omega
  have hfin : Hid (TuR w0 K w (w8.setCell ⟨t, 14, none⟩ (.slice va8 n8 vc8)) t [82, 34] (sayR ⟨⟨nd, tm, vo, ⟨bi, bt, bk, bd⟩, lg, cm, ro, le, el, vt, pe⟩, so⟩ ⟨mk, ms, to, mt, mi, mp, ents, mc, mo, mm, ⟨si, st, sk, sd⟩⟩)) := by
    obtain ⟨k1, k2, k3, k4, k5, k6⟩ := HP.out
    refine ⟨⟨hb0f, ht0, ⟨⟨nd, tm, vo, ⟨bi, bt, bk, bd⟩, lg, cm, ro, le, el, vt, pe⟩, zs, (ba, bn, bc), (la, ln, lc), (va, vn, vc), (pa, pn, pc)⟩, L8, (va8, n8, vc8), hTf, rfl, ⟨k1.frm fr3 (by decide), k2.frm fr3 (by decide) (by decide), k3.frm fr3 (by decide), k4.frm fr3 (by decide), hOf, fun y hy => ?_⟩, ?_, fun x hx => ⟨(set_far (Ne.symm (HK8.out x hx).2.1) _).trans (HK8.out x hx).1, (HK8.out x hx).2⟩⟩, fr3, hszf⟩
    · rw [← hL8, List.mem_append, List.mem_singleton] at hy
      rcases hy with hy | rfl
      · exact (k6 y hy).frm fr3 (by decide) (by decide)
      · rw [HG.out]; exact HGM.out.frm fr3 (by decide) (by decide)
    · rw [← hL8, List.map_append, ho, HG.out]; rfl
  go_wp2
  go_end0
  exact ⟨rfl, hfin.out⟩
end Go.Proofs.YtncoandnelgkeaaGreat

/- The program's Clone of numbers and peers, copyOfLog. -/
namespace Go.Proofs.YtncoandnelgkeaaGreat
open Go.RowKit QuorumMath RlogMath RaftMath
set_option maxRecDepth 100000
set_option linter.unusedSimpArgs false
set_option linter.unusedVariables false

theorem app_ints {w : World} {v x : Value} {xs ys : List Int} (h : Rk intE w 3 v xs) (hx : Rd intE w x ys) (hlen : xs.length ≤ 10000000000) (hly : ys.length ≤ 10000000000) :
    ∀ ty, ∃ v' w', (Builtin.append_ #[29, 29] ty #[v, x]).run Tryz.prog w = .ok v' w' ∧ PushT intE 3 w v (xs ++ ys) v' w' := by
  obtain ⟨i0, i1, i2, i3, i4⟩ := info_get infoInt
  exact append_rd intE w _ _ i0 _ _ Tryz.underlying29 i1 i2 i3 i4 rfl (by decide) v x xs ys h hx hlen hly
set_option maxHeartbeats 2000000 in
theorem clone_ints (d : List Int) (dv : Value) (w : World) (hD : Rd intE w dv d) (hlen : d.length ≤ 1000000000) : Calls Tryz.prog 70 #[dv] w fun e w' => ∃ (a : Option Addr) (n c : Nat), e = .returned (.slice a n c) ∧ Ow intE 3 w.heap.size w' (.slice a n c) d ∧ Below w.heap.size w w' := by
  obtain ⟨ao, cap, rfl, hcap, hn⟩ := hD.shape
  cases ao with
  | none =>
    have hc0 := hn rfl
    subst hc0
    obtain rfl : d = [] := List.eq_nil_of_length_eq_zero (by omega)
    have hnil : ∀ w', (binOp .eql 29 (.slice none 0 0) (.slice none 0 0)).run Tryz.prog w' = .ok (.bool true) w' := fun w' => Lib.run_eql_slice_nil w' 29 3 none 0 0 0 0 Tryz.underlying29
    clear hD
    go_enter Tryz.func70, Tryz.ntmps70
    go_wp2
    go_ret
    exact ⟨none, 0, 0, rfl, Ow.nil _ _ _ _, Below.refl _ _⟩
  | some ad =>
    obtain ⟨q1, q2, q3⟩ := one_box w (.cells #[] 3)
    have hO0 : Ow intE 3 w.heap.size (w.alloc (.cells #[] 3)) (.slice (some ⟨w.heap.size, 0, none⟩) 0 0) [] := ⟨Rk.made (E := intE) (xs := []) q2 rfl (by unfold maxLen; simp), fun k hk => by cases hk; exact Nat.le_refl _⟩
    have hrunH : Hid _ := app_ints hO0.1 (hD.below q3) (by simp) (by omega)
    have hnil : ∀ w', (binOp .eql 29 (.slice (some ad) d.length cap) (.slice none 0 0)).run Tryz.prog w' = .ok (.bool false) w' := fun w' => Lib.run_eql_slice_nil w' 29 3 (some ad) d.length cap 0 0 Tryz.underlying29
    have HO0 : Hid (Ow _ _ _ _ _ _) := hO0
    clear hD q1 q2 hO0
    go_enter Tryz.func70, Tryz.ntmps70
    go_wp2_with (at_builtin; refine wp_by rfl _ _ _ rfl _ _ rfl rfl hrunH.out ?_)
    intro v6 w6 hp6
    obtain ⟨hO6, hb6⟩ := HO0.out.push q3.size hp6
    have hb06 := q3.trans hb6
    obtain ⟨va, vc, rfl, -⟩ := hO6.1.shape
    clear hrunH hp6
    go_wp2
    go_ret
    exact ⟨va, d.length, vc, rfl, hO6, hb06⟩
theorem infoPeerM : (Tryz.prog.info? 71).map (fun i => (i.zero, i.size, i.bytes)) = some (some (.agg #[.int .i64 0, .int .u64 0, .int .u64 0]), peerN.k, 24) := infoPeer
theorem app_peers {w : World} {v x : Value} {xs ys : List Mp} (h : Rk peerN w 71 v xs) (hx : Rd peerN w x ys) (hlen : xs.length ≤ 10000000000) (hly : ys.length ≤ 10000000000) :
    ∀ ty, ∃ v' w', (Builtin.append_ #[30, 30] ty #[v, x]).run Tryz.prog w = .ok v' w' ∧ PushT peerN 71 w v (xs ++ ys) v' w' := by
  obtain ⟨i0, i1, i2, i3, i4⟩ := info_get infoPeerM
  exact append_rd peerN w _ _ i0 _ _ Tryz.underlying30 i1 i2 i3 i4 rfl (by decide) v x xs ys h hx hlen hly
set_option maxHeartbeats 2000000 in
theorem clone_peers (d : List Mp) (dv : Value) (w : World) (hD : Rd peerN w dv d) (hlen : d.length ≤ 1000000000) : Calls Tryz.prog 71 #[dv] w fun e w' => ∃ (a : Option Addr) (n c : Nat), e = .returned (.slice a n c) ∧ Ow peerN 71 w.heap.size w' (.slice a n c) d ∧ Below w.heap.size w w' := by
  obtain ⟨ao, cap, rfl, hcap, hn⟩ := hD.shape
  cases ao with
  | none =>
    have hc0 := hn rfl
    subst hc0
    obtain rfl : d = [] := List.eq_nil_of_length_eq_zero (by omega)
    have hnil : ∀ w', (binOp .eql 30 (.slice none 0 0) (.slice none 0 0)).run Tryz.prog w' = .ok (.bool true) w' := fun w' => Lib.run_eql_slice_nil w' 30 71 none 0 0 0 0 Tryz.underlying30
    clear hD
    go_enter Tryz.func71, Tryz.ntmps71
    go_wp2
    go_ret
    exact ⟨none, 0, 0, rfl, Ow.nil _ _ _ _, Below.refl _ _⟩
  | some ad =>
    obtain ⟨q1, q2, q3⟩ := one_box w (.cells #[] 71)
    have hO0 : Ow peerN 71 w.heap.size (w.alloc (.cells #[] 71)) (.slice (some ⟨w.heap.size, 0, none⟩) 0 0) [] := ⟨Rk.made (E := peerN) (xs := []) q2 rfl (by unfold maxLen; simp), fun k hk => by cases hk; exact Nat.le_refl _⟩
    have hrunH : Hid _ := app_peers hO0.1 (hD.below q3) (by simp) (by omega)
    have hnil : ∀ w', (binOp .eql 30 (.slice (some ad) d.length cap) (.slice none 0 0)).run Tryz.prog w' = .ok (.bool false) w' := fun w' => Lib.run_eql_slice_nil w' 30 71 (some ad) d.length cap 0 0 Tryz.underlying30
    have HO0 : Hid (Ow _ _ _ _ _ _) := hO0
    clear hD q1 q2 hO0
    go_enter Tryz.func71, Tryz.ntmps71
    go_wp2_with (at_builtin; refine wp_by rfl _ _ _ rfl _ _ rfl rfl hrunH.out ?_)
    intro v6 w6 hp6
    obtain ⟨hO6, hb6⟩ := HO0.out.push q3.size hp6
    have hb06 := q3.trans hb6
    obtain ⟨va, vc, rfl, -⟩ := hO6.1.shape
    clear hrunH hp6
    go_wp2
    go_ret
    exact ⟨va, d.length, vc, rfl, hO6, hb06⟩
theorem slice_all {b : Ez} {zs : List Ez} (hm : mayB b.1 (mes zs) = true) : sliceZ b zs (b.1.idx + 1) (zs.length : Int) = zs := by
  unfold sliceZ
  rw [if_pos (by omega)]
  unfold pickZ
  rw [List.filter_eq_self.2 (fun z hz => ?_), Int.toNat_natCast, List.take_length]
  obtain ⟨k, hk⟩ := List.getElem?_of_mem hz
  have := may_num hm (mes_at hk)
  simp
  omega
set_option maxHeartbeats 8000000 in
theorem copyLog_of (b : Ez) (zs : List Ez) (lv : Value) (w : World) (hD : DataV w b) (hL : EntsV w lv zs) (hm : mayB b.1 (mes zs) = true) (hlen : zs.length ≤ 1000000) (hdl : b.1.data.length ≤ 1000000000) (hdz : ∀ z ∈ zs, z.1.data.length ≤ 1000000000) : Calls Tryz.prog 34 #[lgv b lv] w fun e w' => ∃ v, e = .returned v ∧ LogC w.heap.size w' v b.1 (mes zs) ∧ Below w.heap.size w w' := by
  have HE : Hid (∀ W, Below w.heap.size w W → _) := fun W hW => copyE_of b W (hD.below hW) hdl
  have HS : Hid (∀ W, Below w.heap.size w W → _) := fun W hW => pslice_c b zs lv (b.1.idx + 1) (zs.length : Int) W (hL.below hW) (by omega) hdz
  have HM : Hid (mes (sliceZ b zs (b.1.idx + 1) (zs.length : Int)) = mes zs) := by show _ = _; rw [slice_all hm]
  have hidx := (may_last hm).2.1
  have hl := hD.len
  obtain ⟨la, lc, rfl, -, -⟩ := hL.1.shape
  obtain ⟨⟨ix, tm, kd, dt⟩, sa, sn, sc⟩ := b
  dsimp only [lgv] at *
  subst hl
  rw [show ((ix + 1 : Nat) : Int) = (ix : Int) + 1 from rfl] at HS
  have hwx : IntKind.u64.wrap ((ix : Int) + 1) = (ix : Int) + 1 := IntWalk.u64_in _ (by omega)
  obtain ⟨hsz, B1, B2, hb5⟩ := two_box w (.cells #[.int .u64 (ix : Int), .int .u64 (tm : Int), .int .i64 kd, .slice sa dt.length sc, .slice la zs.length lc] 28) (.cells #[.int .u64 0, .int .u64 0, .int .i64 0, .slice none 0 0, .slice none 0 0] 28)
  clear hD hL hm hdz hdl hidx
  go_enter Tryz.func34, Tryz.ntmps34
  go_wp2
  (try simp only [Exit.inBlock, Exit.then])
  generalize (w.alloc (.cells #[.int .u64 (ix : Int), .int .u64 (tm : Int), .int .i64 kd, .slice sa dt.length sc, .slice la zs.length lc] 28)).alloc (.cells #[.int .u64 0, .int .u64 0, .int .i64 0, .slice none 0 0, .slice none 0 0] 28) = w5 at *
  refine wp_region_L (fun W => Below w5.heap.size w5 W) [13] (by kernel_rfl) ?_
  have hbd : Below w5.heap.size w5 w5.drew := (Below.refl _ w5).drew
  have HCL : Hid (∀ W, Below w5.heap.size w5 W → _) := fun W hW => lg_cells ((hW.block w.heap.size (by omega)).trans B1)
  have ke := HE.out w5.drew (hb5.trans (hbd.mono hb5.size))
  dsimp only [ev] at ke
  generalize w5.drew = wd at *
  refine wpAnyL_take 0 rfl (by kernel_rfl) (by kernel_rfl) (by kernel_rfl) (by kernel_rfl) (fun _ _ _ h => h) (wanted_none rfl) (by intro w' hS'; have hz := hS'; obtain ⟨-, c0, c1, c2, c3, c4⟩ := HCL.out _ hz; go_simp <;> rfl) hbd ?_
  try simp only [List.getElem_toArray, List.getElem_cons_succ, List.getElem_cons_zero, Act.put, List.setIfInBounds_toArray, List.set_cons_zero, List.set_cons_succ]
  refine wpAnyL_take 1 rfl (by kernel_rfl) (by kernel_rfl) (by kernel_rfl) (by kernel_rfl) (fun _ _ _ h => h) (wanted_none rfl) (by intro w' hS'; have hz := hS'; obtain ⟨-, c0, c1, c2, c3, c4⟩ := HCL.out _ hz; go_simp <;> rfl) hbd ?_
  try simp only [List.getElem_toArray, List.getElem_cons_succ, List.getElem_cons_zero, Act.put, List.setIfInBounds_toArray, List.set_cons_zero, List.set_cons_succ]
  refine wpAnyL_take 3 rfl (by kernel_rfl) (by kernel_rfl) (by kernel_rfl) (by kernel_rfl) (fun _ _ _ h => h) (wanted_none rfl) (by intro w' hS'; have hz := hS'; obtain ⟨-, c0, c1, c2, c3, c4⟩ := HCL.out _ hz; go_simp <;> rfl) hbd ?_
  try simp only [List.getElem_toArray, List.getElem_cons_succ, List.getElem_cons_zero, Act.put, List.setIfInBounds_toArray, List.set_cons_zero, List.set_cons_succ]
  refine wpAnyL_take 4 rfl (by kernel_rfl) (by kernel_rfl) (by kernel_rfl) (by kernel_rfl) (fun _ _ _ h => h) (wanted_none rfl) (by intro w' hS'; have hz := hS'; obtain ⟨-, c0, c1, c2, c3, c4⟩ := HCL.out _ hz; go_simp <;> rfl) hbd ?_
  try simp only [List.getElem_toArray, List.getElem_cons_succ, List.getElem_cons_zero, Act.put, List.setIfInBounds_toArray, List.set_cons_zero, List.set_cons_succ]
  refine wpAnyL_take 5 rfl (by kernel_rfl) (by kernel_rfl) (by kernel_rfl) (by kernel_rfl) (fun _ _ _ h => h) (wanted_none rfl) (by intro w' hS'; have hz := hS'; obtain ⟨-, c0, c1, c2, c3, c4⟩ := HCL.out _ hz; go_simp <;> rfl) hbd ?_
  try simp only [List.getElem_toArray, List.getElem_cons_succ, List.getElem_cons_zero, Act.put, List.setIfInBounds_toArray, List.set_cons_zero, List.set_cons_succ]
  refine wpAnyL_take 6 rfl (by kernel_rfl) (by kernel_rfl) (by kernel_rfl) (by kernel_rfl) (fun _ _ _ h => h) (wanted_none rfl) (by intro w' hS'; have hz := hS'; obtain ⟨-, c0, c1, c2, c3, c4⟩ := HCL.out _ hz; go_simp <;> rfl) hbd ?_
  try simp only [List.getElem_toArray, List.getElem_cons_succ, List.getElem_cons_zero, Act.put, List.setIfInBounds_toArray, List.set_cons_zero, List.set_cons_succ]
  refine wpAnyL_take 7 rfl (by kernel_rfl) (by kernel_rfl) (by kernel_rfl) (by kernel_rfl) (fun _ _ _ h => h) (wanted_none rfl) (by intro w' hS'; have hz := hS'; obtain ⟨-, c0, c1, c2, c3, c4⟩ := HCL.out _ hz; go_simp <;> rfl) hbd ?_
  try simp only [List.getElem_toArray, List.getElem_cons_succ, List.getElem_cons_zero, Act.put, List.setIfInBounds_toArray, List.set_cons_zero, List.set_cons_succ]
  refine wpAnyL_take 8 rfl (by kernel_rfl) (by kernel_rfl) (by kernel_rfl) (by kernel_rfl) (fun _ _ _ h => h) (wanted_none rfl) (by intro w' hS'; have hz := hS'; obtain ⟨-, c0, c1, c2, c3, c4⟩ := HCL.out _ hz; go_simp <;> rfl) hbd ?_
  try simp only [List.getElem_toArray, List.getElem_cons_succ, List.getElem_cons_zero, Act.put, List.setIfInBounds_toArray, List.set_cons_zero, List.set_cons_succ]
  refine wpAnyL_take 9 rfl (by kernel_rfl) (by kernel_rfl) (by kernel_rfl) (by kernel_rfl) (fun _ _ _ h => h) (wanted_none rfl) (by intro w' hS'; have hz := hS'; obtain ⟨-, c0, c1, c2, c3, c4⟩ := HCL.out _ hz; go_simp <;> rfl) hbd ?_
  try simp only [List.getElem_toArray, List.getElem_cons_succ, List.getElem_cons_zero, Act.put, List.setIfInBounds_toArray, List.set_cons_zero, List.set_cons_succ]
  refine wpAnyL_take 10 rfl (by kernel_rfl) (by kernel_rfl) (by kernel_rfl) (by kernel_rfl) (fun _ _ _ h => h) (wanted_none rfl) (by intro w' hS'; have hz := hS'; obtain ⟨-, c0, c1, c2, c3, c4⟩ := HCL.out _ hz; go_simp <;> rfl) hbd ?_
  try simp only [List.getElem_toArray, List.getElem_cons_succ, List.getElem_cons_zero, Act.put, List.setIfInBounds_toArray, List.set_cons_zero, List.set_cons_succ]
  refine wpAnyL_one 2 (by kernel_rfl) rfl (wanted_none rfl) ?_
  intro K' hK'
  go_simp
  go_at_call 77
  refine ke.mono ?_
  rintro e w3 ⟨⟨ea, en, ec⟩, rfl, hC3, hb3⟩
  dsimp only [ev]
  have hS3 : (fun W => Below w5.heap.size w5 W) w3 := hbd.trans (hb3.mono hbd.size)
  have ks := HS.out w3 (hb5.trans (hS3.mono hb5.size))
  clear ke
  refine hK'.out _ _ (.inr hS3) ?_
  clear hK' K'
  try simp only [List.getElem_toArray, List.getElem_cons_succ, List.getElem_cons_zero, Act.put, List.setIfInBounds_toArray, List.set_cons_zero, List.set_cons_succ]
  refine wpAnyL_one 11 (by kernel_rfl) rfl (wanted_none rfl) ?_
  intro K' hK'
  go_simp
  go_at_call 78
  refine ks.mono ?_
  rintro e w4 ⟨ys, v4, rfl, hC4, hb4⟩
  have hS4 : (fun W => Below w5.heap.size w5 W) w4 := hS3.trans (hb4.mono hS3.size)
  obtain ⟨ya, yc, rfl, -, -⟩ := hC4.1.1.rd.shape
  have hC34 := hC3.below hb4
  have g2 := (hS4.block (w.heap.size + 1) (by omega)).trans B2
  have HF := setRow_heap _ _ _ #[.int .u64 (ix : Int), .int .u64 (tm : Int), .int .i64 kd, .slice ea en ec, .slice ya ys.length yc] _ _ g2
  have hbf := below_row (hb5.trans (hS4.mono hb5.size)) (g := w.heap.size + 1) (by omega) #[.int .u64 (ix : Int), .int .u64 (tm : Int), .int .i64 kd, .slice ea en ec, .slice ya ys.length yc]
  have frf := Frm.row (n := w.heap.size) (by omega) g2 #[.int .u64 (ix : Int), .int .u64 (tm : Int), .int .i64 kd, .slice ea en ec, .slice ya ys.length yc]
  have hCf := hC34.frm frf (by decide)
  have hCs := hC4.frm frf (by decide) (by decide)
  clear ks
  refine hK'.out _ _ (.inr hS4) ?_
  clear hK' K'
  try simp only [List.getElem_toArray, List.getElem_cons_succ, List.getElem_cons_zero, Act.put, List.setIfInBounds_toArray, List.set_cons_zero, List.set_cons_succ]
  refine wpAnyL_take 12 rfl (by kernel_rfl) (by kernel_rfl) (by kernel_rfl) (by kernel_rfl) (fun _ _ _ h => h) (wanted_none rfl) (by intro w' hS'; have hz := hS'; obtain ⟨-, c0, c1, c2, c3, c4⟩ := HCL.out _ hz; go_simp <;> rfl) hS4 ?_
  try simp only [List.getElem_toArray, List.getElem_cons_succ, List.getElem_cons_zero, Act.put, List.setIfInBounds_toArray, List.set_cons_zero, List.set_cons_succ]
  refine wpAnyL_one 13 (by kernel_rfl) rfl (wanted_none rfl) ?_
  intro K' hK'
  refine wp_store_row 28 _ _ rfl (w.heap.size + 1) #[.int .u64 (ix : Int), .int .u64 (tm : Int), .int .i64 kd, .slice ea en ec, .slice ya ys.length yc] rfl rfl _ _ g2 (by kernel_rfl) rfl (by simp [Value.oneCell']) ?_
  refine hK'.out _ _ (.inl (by decide)) ?_
  clear hK' K'
  try simp only [List.getElem_toArray, List.getElem_cons_succ, List.getElem_cons_zero, Act.put, List.setIfInBounds_toArray, List.set_cons_zero, List.set_cons_succ]
  refine wpAnyL_done (by kernel_rfl) (NoPanic.normal ?_) _
  generalize w4.setRow (w.heap.size + 1) #[.int .u64 (ix : Int), .int .u64 (tm : Int), .int .i64 kd, .slice ea en ec, .slice ya ys.length yc] = W8 at *
  go_wp2
  (try simp only [Exit.inBlock, Exit.then])
  refine bodyPost_ret (results_lg1 rfl _ _ (w.heap.size + 1) _ _ _ _ _ rfl HF) rfl ?_
  exact ⟨_, rfl, ⟨(ea, en, ec), ys, _, rfl, hCf, ⟨hCs.1.mono (Nat.le_trans hb5.size hS3.size), by rw [hCs.2.1, HM.out], hCs.2.2⟩⟩, hbf⟩
end Go.Proofs.YtncoandnelgkeaaGreat

