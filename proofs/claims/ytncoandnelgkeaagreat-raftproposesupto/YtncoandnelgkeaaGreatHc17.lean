import Derived.Test.YtncoandnelgkeaaGreatHc15
import Derived.Test.YtncoandnelgkeaaGreatHc16
/- States and messages as they are read. -/
namespace Go.Proofs.YtncoandnelgkeaaGreat
open Go.RowKit QuorumMath RlogMath RaftMath
set_option maxRecDepth 100000
set_option linter.unusedSimpArgs false
set_option linter.unusedVariables false

/-- Peers as elements. -/
def peerN : El Mp := ⟨fun p => [.int .i64 p.node, .int .u64 (p.next : Int), .int .u64 (p.mat : Int)], 3, fun _ => rfl, fun x u hu => by
  simp only [List.mem_cons, List.not_mem_nil, or_false] at hu
  rcases hu with rfl | rfl | rfl <;> rfl, by decide⟩
theorem rdpn_at {w : World} {ao : Option Addr} {n cap : Nat} {xs : List Mp} (h : Rd peerN w (.slice ao n cap) xs) {i : Nat} {x : Mp} (hx : xs[i]? = some x) : ∃ b off, ao = some ⟨b, off, none⟩ ∧ ∀ W, Below w.heap.size w W → W.cell? ⟨b, off + i * 3, none⟩ = some (.int .i64 x.node) ∧ W.cell? ⟨b, off + i * 3 + 1, none⟩ = some (.int .u64 (x.next : Int)) ∧ W.cell? ⟨b, off + i * 3 + 2, none⟩ = some (.int .u64 (x.mat : Int)) := by
  obtain ⟨ao', cap', e, _, _, h2⟩ := h
  cases e
  obtain ⟨b, off, r1, r2⟩ := h2 i x 0 _ hx rfl
  obtain ⟨b', off', r3, r4⟩ := h2 i x 1 _ hx rfl
  cases r1.symm.trans r3
  obtain ⟨b', off', r5, r6⟩ := h2 i x 2 _ hx rfl
  cases r1.symm.trans r5
  have r2' : w.cell? ⟨b, off + i * 3, none⟩ = _ := r2
  have r4' : w.cell? ⟨b, off + i * 3 + 1, none⟩ = _ := r4
  have r6' : w.cell? ⟨b, off + i * 3 + 2, none⟩ = _ := r6
  exact ⟨b, off, r1, fun W hW => ⟨(hW.cell (p := ⟨b, off + i * 3, none⟩) (World.block_lt_of_cell? w _ r2')).trans r2', (hW.cell (p := ⟨b, off + i * 3 + 1, none⟩) (World.block_lt_of_cell? w _ r4')).trans r4', (hW.cell (p := ⟨b, off + i * 3 + 2, none⟩) (World.block_lt_of_cell? w _ r6')).trans r6'⟩⟩
/-- Peers as layer 12 reads them. -/
theorem rdpn_pr {w : World} {v : Value} {xs : List Mp} (h : Rd peerN w v xs) : Rd peerE w v (xs.map pr) := by
  obtain ⟨ao, cap, e, h0, h1, h2⟩ := h
  refine ⟨ao, cap, by rw [List.length_map]; exact e, by rw [List.length_map]; exact h0, h1, fun i x j u hx hu => ?_⟩
  rw [List.getElem?_map] at hx
  cases hp : xs[i]? with
  | none => rw [hp] at hx; cases hx
  | some p =>
    rw [hp] at hx
    obtain rfl := Option.some.inj hx
    exact h2 i p j u hp hu
/-- A state's parts: plain, its log's entries with their slices, its slices. -/
structure Rz where
  r : Mr
  zs : List Ez
  bs : Sl
  ls : Sl
  vs : Sl
  ps : Sl
abbrev slv (s : Sl) : Value := .slice s.1 s.2.1 s.2.2
@[reducible] def rv (z : Rz) : Value := .agg #[.int .i64 z.r.node, .int .u64 (z.r.term : Int), .int .i64 z.r.vote, .int .u64 (z.r.base.idx : Int), .int .u64 (z.r.base.term : Int), .int .i64 z.r.base.kind, .slice z.bs.1 z.bs.2.1 z.bs.2.2, .slice z.ls.1 z.ls.2.1 z.ls.2.2, .int .u64 (z.r.commit : Int), .int .i64 z.r.role, .int .i64 z.r.leads, .int .i64 z.r.elapsed, .slice z.vs.1 z.vs.2.1 z.vs.2.2, .slice z.ps.1 z.ps.2.1 z.ps.2.2]
@[reducible] def rc (z : Rz) : Obj := .cells #[.int .i64 z.r.node, .int .u64 (z.r.term : Int), .int .i64 z.r.vote, .int .u64 (z.r.base.idx : Int), .int .u64 (z.r.base.term : Int), .int .i64 z.r.base.kind, .slice z.bs.1 z.bs.2.1 z.bs.2.2, .slice z.ls.1 z.ls.2.1 z.ls.2.2, .int .u64 (z.r.commit : Int), .int .i64 z.r.role, .int .i64 z.r.leads, .int .i64 z.r.elapsed, .slice z.vs.1 z.vs.2.1 z.vs.2.2, .slice z.ps.1 z.ps.2.1 z.ps.2.2] 32
def RaV (n : Nat) (w : World) (z : Rz) : Prop := DataN n w (z.r.base, z.bs) ∧ EntsN n w (slv z.ls) z.zs ∧ mes z.zs = z.r.log ∧ RdN intE 3 n w (slv z.vs) z.r.votes ∧ RdN peerN 71 n w (slv z.ps) z.r.peers
theorem RaV.below {n : Nat} {w w' : World} {z : Rz} (h : RaV n w z) (hb : Below w.heap.size w w') : RaV n w' z := ⟨h.1.below hb, h.2.1.below hb, h.2.2.1, h.2.2.2.1.below hb, h.2.2.2.2.below hb⟩
/-- The types of what is read of a state, a message. -/
def rowTs : List TypeId := [5, 25, 3, 71, 34]
theorem RaV.frm {n : Nat} {T : List TypeId} {w w' : World} {z : Rz} (h : RaV n w z) (hf : Frm n T w w') (hT : ∀ t ∈ rowTs, t ∉ T) : RaV n w' z := ⟨h.1.frm hf (hT _ (by decide)), h.2.1.frm hf (hT _ (by decide)) (hT _ (by decide)), h.2.2.1, h.2.2.2.1.frm hf (hT _ (by decide)), h.2.2.2.2.frm hf (hT _ (by decide))⟩
/-- A message's parts. -/
structure Gz where
  m : Mm
  es : List Ez
  sl : Sl
  ss : Sl
@[reducible] def gv (z : Gz) : Value := .agg #[.int .i64 z.m.kind, .int .i64 z.m.src, .int .i64 z.m.dst, .int .u64 (z.m.term : Int), .int .u64 (z.m.index : Int), .int .u64 (z.m.prev : Int), .slice z.sl.1 z.sl.2.1 z.sl.2.2, .int .u64 (z.m.commit : Int), .bool z.m.ok, .int .u64 (z.m.mat : Int), .int .u64 (z.m.snap.idx : Int), .int .u64 (z.m.snap.term : Int), .int .i64 z.m.snap.kind, .slice z.ss.1 z.ss.2.1 z.ss.2.2]
def msgE : El Gz := ⟨fun z => [.int .i64 z.m.kind, .int .i64 z.m.src, .int .i64 z.m.dst, .int .u64 (z.m.term : Int), .int .u64 (z.m.index : Int), .int .u64 (z.m.prev : Int), .slice z.sl.1 z.sl.2.1 z.sl.2.2, .int .u64 (z.m.commit : Int), .bool z.m.ok, .int .u64 (z.m.mat : Int), .int .u64 (z.m.snap.idx : Int), .int .u64 (z.m.snap.term : Int), .int .i64 z.m.snap.kind, .slice z.ss.1 z.ss.2.1 z.ss.2.2], 14, fun _ => rfl, fun x u hu => by
  simp only [List.mem_cons, List.not_mem_nil, or_false] at hu
  rcases hu with rfl | rfl | rfl | rfl | rfl | rfl | rfl | rfl | rfl | rfl | rfl | rfl | rfl | rfl <;> rfl, by decide⟩
def MgV (n : Nat) (w : World) (z : Gz) : Prop := EntsN n w (slv z.sl) z.es ∧ mes z.es = z.m.ents ∧ DataN n w (z.m.snap, z.ss)
theorem MgV.below {n : Nat} {w w' : World} {z : Gz} (h : MgV n w z) (hb : Below w.heap.size w w') : MgV n w' z := ⟨h.1.below hb, h.2.1, h.2.2.below hb⟩
theorem MgV.frm {n : Nat} {T : List TypeId} {w w' : World} {z : Gz} (h : MgV n w z) (hf : Frm n T w w') (ht : (25 : TypeId) ∉ T) (ht' : (5 : TypeId) ∉ T) : MgV n w' z := ⟨h.1.frm hf ht ht', h.2.1, h.2.2.frm hf ht'⟩
/-- Messages. -/
def MgsV (n : Nat) (w : World) (v : Value) (gs : List Gz) : Prop := RdN msgE 34 n w v gs ∧ ∀ z ∈ gs, MgV n w z
theorem MgsV.below {n : Nat} {w w' : World} {v : Value} {gs : List Gz} (h : MgsV n w v gs) (hb : Below w.heap.size w w') : MgsV n w' v gs := ⟨h.1.below hb, fun z hz => (h.2 z hz).below hb⟩
theorem MgsV.frm {n : Nat} {T : List TypeId} {w w' : World} {v : Value} {gs : List Gz} (h : MgsV n w v gs) (hf : Frm n T w w') (hT : ∀ t ∈ rowTs, t ∉ T) : MgsV n w' v gs := ⟨h.1.frm hf (hT _ (by decide)), fun z hz => (h.2 z hz).frm hf (hT _ (by decide)) (hT _ (by decide))⟩
/-- A message's box. -/
@[reducible] def gc (g : Gz) : Obj := .cells #[.int .i64 g.m.kind, .int .i64 g.m.src, .int .i64 g.m.dst, .int .u64 (g.m.term : Int), .int .u64 (g.m.index : Int), .int .u64 (g.m.prev : Int), .slice g.sl.1 g.sl.2.1 g.sl.2.2, .int .u64 (g.m.commit : Int), .bool g.m.ok, .int .u64 (g.m.mat : Int), .int .u64 (g.m.snap.idx : Int), .int .u64 (g.m.snap.term : Int), .int .i64 g.m.snap.kind, .slice g.ss.1 g.ss.2.1 g.ss.2.2] 34
/-- A state that turns, in the document's form. -/
@[reducible] def sv (z : Rz) (os : Sl) : Value := .agg #[.int .i64 z.r.node, .int .u64 (z.r.term : Int), .int .i64 z.r.vote, .int .u64 (z.r.base.idx : Int), .int .u64 (z.r.base.term : Int), .int .i64 z.r.base.kind, .slice z.bs.1 z.bs.2.1 z.bs.2.2, .slice z.ls.1 z.ls.2.1 z.ls.2.2, .int .u64 (z.r.commit : Int), .int .i64 z.r.role, .int .i64 z.r.leads, .int .i64 z.r.elapsed, .slice z.vs.1 z.vs.2.1 z.vs.2.2, .slice z.ps.1 z.ps.2.1 z.ps.2.2, .slice os.1 os.2.1 os.2.2]
@[reducible] def sc (z : Rz) (os : Sl) : Obj := .cells #[.int .i64 z.r.node, .int .u64 (z.r.term : Int), .int .i64 z.r.vote, .int .u64 (z.r.base.idx : Int), .int .u64 (z.r.base.term : Int), .int .i64 z.r.base.kind, .slice z.bs.1 z.bs.2.1 z.bs.2.2, .slice z.ls.1 z.ls.2.1 z.ls.2.2, .int .u64 (z.r.commit : Int), .int .i64 z.r.role, .int .i64 z.r.leads, .int .i64 z.r.elapsed, .slice z.vs.1 z.vs.2.1 z.vs.2.2, .slice z.ps.1 z.ps.2.1 z.ps.2.2, .slice os.1 os.2.1 os.2.2] 54
def StV (n : Nat) (w : World) (v : Value) (s : Ms) : Prop := ∃ (z : Rz) (gs : List Gz) (os : Sl), v = sv z os ∧ z.r = s.r ∧ RaV n w z ∧ MgsV n w (slv os) gs ∧ (gs.map fun g => g.m) = s.out
theorem StV.below {n : Nat} {w w' : World} {v : Value} {s : Ms} (h : StV n w v s) (hb : Below w.heap.size w w') : StV n w' v s := by
  obtain ⟨z, gs, os, h1, h2, h3, h4, h5⟩ := h
  exact ⟨z, gs, os, h1, h2, h3.below hb, h4.below hb, h5⟩
theorem StV.frm {n : Nat} {T : List TypeId} {w w' : World} {v : Value} {s : Ms} (h : StV n w v s) (hf : Frm n T w w') (hT : ∀ t ∈ rowTs, t ∉ T) : StV n w' v s := by
  obtain ⟨z, gs, os, h1, h2, h3, h4, h5⟩ := h
  exact ⟨z, gs, os, h1, h2, h3.frm hf hT, h4.frm hf hT, h5⟩
theorem StV.shape {n : Nat} {w : World} {v : Value} {s : Ms} (h : StV n w v s) : ∃ cs : Array Value, v = .agg cs ∧ cs.size = 15 ∧ cs.all (·.oneCell') = true := by
  obtain ⟨z, gs, os, h1, h2, h3, h4, h5⟩ := h
  exact ⟨_, h1, rfl, by simp [Value.oneCell']⟩
def RsV (n : Nat) (w : World) (v : Value) (r : Mr) : Prop := ∃ z : Rz, v = rv z ∧ z.r = r ∧ RaV n w z
theorem RsV.below {n : Nat} {w w' : World} {v : Value} {r : Mr} (h : RsV n w v r) (hb : Below w.heap.size w w') : RsV n w' v r := by
  obtain ⟨z, h1, h2, h3⟩ := h
  exact ⟨z, h1, h2, h3.below hb⟩
theorem RsV.frm {n : Nat} {T : List TypeId} {w w' : World} {v : Value} {r : Mr} (h : RsV n w v r) (hf : Frm n T w w') (hT : ∀ t ∈ rowTs, t ∉ T) : RsV n w' v r := by
  obtain ⟨z, h1, h2, h3⟩ := h
  exact ⟨z, h1, h2, h3.frm hf hT⟩
theorem RsV.shape {n : Nat} {w : World} {v : Value} {r : Mr} (h : RsV n w v r) : ∃ cs : Array Value, v = .agg cs ∧ cs.size = 14 ∧ cs.all (·.oneCell') = true := by
  obtain ⟨z, h1, h2, h3⟩ := h
  exact ⟨_, h1, rfl, by simp [Value.oneCell']⟩
/-- A row of fourteen, of fifteen cells. -/
theorem r14_cells {w : World} {g : Nat} {c0 c1 c2 c3 c4 c5 c6 c7 c8 c9 c10 c11 c12 c13 : Value} {t : TypeId} (h : w.heap[g]? = some (.cells #[c0, c1, c2, c3, c4, c5, c6, c7, c8, c9, c10, c11, c12, c13] t (0, 0))) : (w.frozen? ⟨g, 0, none⟩ = false ∧ w.frozen? ⟨g, 1, none⟩ = false ∧ w.frozen? ⟨g, 2, none⟩ = false ∧ w.frozen? ⟨g, 3, none⟩ = false ∧ w.frozen? ⟨g, 4, none⟩ = false ∧ w.frozen? ⟨g, 5, none⟩ = false ∧ w.frozen? ⟨g, 6, none⟩ = false ∧ w.frozen? ⟨g, 7, none⟩ = false ∧ w.frozen? ⟨g, 8, none⟩ = false ∧ w.frozen? ⟨g, 9, none⟩ = false ∧ w.frozen? ⟨g, 10, none⟩ = false ∧ w.frozen? ⟨g, 11, none⟩ = false ∧ w.frozen? ⟨g, 12, none⟩ = false ∧ w.frozen? ⟨g, 13, none⟩ = false) ∧ w.cell? ⟨g, 0, none⟩ = some (c0) ∧ w.cell? ⟨g, 1, none⟩ = some (c1) ∧ w.cell? ⟨g, 2, none⟩ = some (c2) ∧ w.cell? ⟨g, 3, none⟩ = some (c3) ∧ w.cell? ⟨g, 4, none⟩ = some (c4) ∧ w.cell? ⟨g, 5, none⟩ = some (c5) ∧ w.cell? ⟨g, 6, none⟩ = some (c6) ∧ w.cell? ⟨g, 7, none⟩ = some (c7) ∧ w.cell? ⟨g, 8, none⟩ = some (c8) ∧ w.cell? ⟨g, 9, none⟩ = some (c9) ∧ w.cell? ⟨g, 10, none⟩ = some (c10) ∧ w.cell? ⟨g, 11, none⟩ = some (c11) ∧ w.cell? ⟨g, 12, none⟩ = some (c12) ∧ w.cell? ⟨g, 13, none⟩ = some (c13) :=
  ⟨⟨frozen_of h 0, frozen_of h 1, frozen_of h 2, frozen_of h 3, frozen_of h 4, frozen_of h 5, frozen_of h 6, frozen_of h 7, frozen_of h 8, frozen_of h 9, frozen_of h 10, frozen_of h 11, frozen_of h 12, frozen_of h 13⟩, by rw [cells_of_block h]; rfl, by rw [cells_of_block h]; rfl, by rw [cells_of_block h]; rfl, by rw [cells_of_block h]; rfl, by rw [cells_of_block h]; rfl, by rw [cells_of_block h]; rfl, by rw [cells_of_block h]; rfl, by rw [cells_of_block h]; rfl, by rw [cells_of_block h]; rfl, by rw [cells_of_block h]; rfl, by rw [cells_of_block h]; rfl, by rw [cells_of_block h]; rfl, by rw [cells_of_block h]; rfl, by rw [cells_of_block h]; rfl⟩
theorem r15_cells {w : World} {g : Nat} {c0 c1 c2 c3 c4 c5 c6 c7 c8 c9 c10 c11 c12 c13 c14 : Value} {t : TypeId} (h : w.heap[g]? = some (.cells #[c0, c1, c2, c3, c4, c5, c6, c7, c8, c9, c10, c11, c12, c13, c14] t (0, 0))) : (w.frozen? ⟨g, 0, none⟩ = false ∧ w.frozen? ⟨g, 1, none⟩ = false ∧ w.frozen? ⟨g, 2, none⟩ = false ∧ w.frozen? ⟨g, 3, none⟩ = false ∧ w.frozen? ⟨g, 4, none⟩ = false ∧ w.frozen? ⟨g, 5, none⟩ = false ∧ w.frozen? ⟨g, 6, none⟩ = false ∧ w.frozen? ⟨g, 7, none⟩ = false ∧ w.frozen? ⟨g, 8, none⟩ = false ∧ w.frozen? ⟨g, 9, none⟩ = false ∧ w.frozen? ⟨g, 10, none⟩ = false ∧ w.frozen? ⟨g, 11, none⟩ = false ∧ w.frozen? ⟨g, 12, none⟩ = false ∧ w.frozen? ⟨g, 13, none⟩ = false ∧ w.frozen? ⟨g, 14, none⟩ = false) ∧ w.cell? ⟨g, 0, none⟩ = some (c0) ∧ w.cell? ⟨g, 1, none⟩ = some (c1) ∧ w.cell? ⟨g, 2, none⟩ = some (c2) ∧ w.cell? ⟨g, 3, none⟩ = some (c3) ∧ w.cell? ⟨g, 4, none⟩ = some (c4) ∧ w.cell? ⟨g, 5, none⟩ = some (c5) ∧ w.cell? ⟨g, 6, none⟩ = some (c6) ∧ w.cell? ⟨g, 7, none⟩ = some (c7) ∧ w.cell? ⟨g, 8, none⟩ = some (c8) ∧ w.cell? ⟨g, 9, none⟩ = some (c9) ∧ w.cell? ⟨g, 10, none⟩ = some (c10) ∧ w.cell? ⟨g, 11, none⟩ = some (c11) ∧ w.cell? ⟨g, 12, none⟩ = some (c12) ∧ w.cell? ⟨g, 13, none⟩ = some (c13) ∧ w.cell? ⟨g, 14, none⟩ = some (c14) :=
  ⟨⟨frozen_of h 0, frozen_of h 1, frozen_of h 2, frozen_of h 3, frozen_of h 4, frozen_of h 5, frozen_of h 6, frozen_of h 7, frozen_of h 8, frozen_of h 9, frozen_of h 10, frozen_of h 11, frozen_of h 12, frozen_of h 13, frozen_of h 14⟩, by rw [cells_of_block h]; rfl, by rw [cells_of_block h]; rfl, by rw [cells_of_block h]; rfl, by rw [cells_of_block h]; rfl, by rw [cells_of_block h]; rfl, by rw [cells_of_block h]; rfl, by rw [cells_of_block h]; rfl, by rw [cells_of_block h]; rfl, by rw [cells_of_block h]; rfl, by rw [cells_of_block h]; rfl, by rw [cells_of_block h]; rfl, by rw [cells_of_block h]; rfl, by rw [cells_of_block h]; rfl, by rw [cells_of_block h]; rfl, by rw [cells_of_block h]; rfl⟩
theorem infoMsg : (Tryz.prog.info? 34).map (fun i => (i.zero, i.size, i.bytes)) = some (some (.agg #[.int .i64 0, .int .i64 0, .int .i64 0, .int .u64 0, .int .u64 0, .int .u64 0, .slice none 0 0, .int .u64 0, .bool false, .int .u64 0, .int .u64 0, .int .u64 0, .int .i64 0, .slice none 0 0]), 14, 144) := by kernel_rfl
theorem app_msgs {w : World} {v x : Value} {xs ys : List Gz} (h : Rk msgE w 34 v xs) (hx : Rd msgE w x ys) (hlen : xs.length ≤ 10000000000) (hly : ys.length ≤ 10000000000) :
    ∀ ty, ∃ v' w', (Builtin.append_ #[50, 50] ty #[v, x]).run Tryz.prog w = .ok v' w' ∧ PushT msgE 34 w v (xs ++ ys) v' w' := by
  obtain ⟨i0, i1, i2, i3, i4⟩ := info_get infoMsg
  exact append_rd msgE w _ _ i0 _ _ Tryz.underlying50 i1 i2 i3 i4 rfl (by decide) v x xs ys h hx hlen hly
theorem push_msg {w : World} {v : Value} {xs : List Gz} (g : Gz) (h : Rk msgE w 34 v xs) (hlen : xs.length ≤ 10000000000) :
    ∀ ty, ∃ v' w', (Builtin.append_ #[50, 50] ty #[v, .slice (some ⟨w.heap.size, 0, none⟩) 1 1]).run Tryz.prog (w.alloc (gc g)) = .ok v' w' ∧ PushT msgE 34 w v (xs ++ [g]) v' w' :=
  push_el msgE Tryz.underlying50 infoMsg rfl (by decide) g h hlen
end Go.Proofs.YtncoandnelgkeaaGreat

/- Boxes, results of states and messages. -/
namespace Go.Proofs.YtncoandnelgkeaaGreat
open Go.RowKit QuorumMath RlogMath RaftMath
set_option maxRecDepth 100000
set_option linter.unusedSimpArgs false
set_option linter.unusedVariables false

theorem wanted_none {o : Oper} {y : Nat → Option Bool} (h : o.guard = none) : Region.wanted o y = true := by
  unfold Region.wanted
  rw [h]
theorem two_box (w : World) (A B : Obj) : ((w.alloc A).alloc B).heap.size = w.heap.size + 1 + 1 ∧ ((w.alloc A).alloc B).heap[w.heap.size]? = some A ∧ ((w.alloc A).alloc B).heap[w.heap.size + 1]? = some B ∧ Below w.heap.size w ((w.alloc A).alloc B) := by
  obtain ⟨h1, h2, h3⟩ := one_box w A
  obtain ⟨q1, q2, q3⟩ := one_box (w.alloc A) B
  rw [h1] at q1 q2 q3
  exact ⟨q1, (q3.block _ (Nat.lt_succ_self _)).trans h2, q2, h3.trans (q3.mono (Nat.le_succ _))⟩
theorem three_box (w : World) (A B C : Obj) : (((w.alloc A).alloc B).alloc C).heap.size = w.heap.size + 1 + 1 + 1 ∧ (((w.alloc A).alloc B).alloc C).heap[w.heap.size]? = some A ∧ (((w.alloc A).alloc B).alloc C).heap[w.heap.size + 1]? = some B ∧ (((w.alloc A).alloc B).alloc C).heap[w.heap.size + 1 + 1]? = some C ∧ Below w.heap.size w (((w.alloc A).alloc B).alloc C) := by
  obtain ⟨h1, h2, h3, h4⟩ := two_box w A B
  obtain ⟨q1, q2, q3⟩ := one_box ((w.alloc A).alloc B) C
  rw [h1] at q1 q2 q3
  exact ⟨q1, (q3.block _ (by omega)).trans h2, (q3.block _ (by omega)).trans h3, q2, h4.trans (q3.mono (by omega))⟩
theorem sizeSt : (Tryz.prog.info? 54).map (·.size) = some 15 := by kernel_rfl
theorem results_stv {fn : Func} {p : Tmp} (h : fn.results = #[.cell p 54]) (tmps : Array Value) (w : World) (g : Nat) (cs : Array Value) (h15 : cs.size = 15)
    (hp : tmps.getD p undef = .pointer (some ⟨g, 0, none⟩)) (hg : w.heap[g]? = some (.cells cs 54 (0, 0))) : (results fn tmps).run Tryz.prog w = .ok (.agg cs) w := by
  have hp' : tmps[p]?.getD undef = .pointer (some ⟨g, 0, none⟩) := by simpa using hp
  simp [results, h, hp', asAddr, run_loadVar_row w g 54 54 cs (0, 0) _ hg Tryz.underlying54 rfl (by rw [h15]; exact sizeSt)]
theorem results_st {fn : Func} {p : Tmp} (h : fn.results = #[.cell p 54]) (tmps : Array Value) (w : World) (g : Nat) (c0 c1 c2 c3 c4 c5 c6 c7 c8 c9 c10 c11 c12 c13 c14 : Value)
    (hp : tmps.getD p undef = .pointer (some ⟨g, 0, none⟩)) (hg : w.heap[g]? = some (.cells #[c0, c1, c2, c3, c4, c5, c6, c7, c8, c9, c10, c11, c12, c13, c14] 54 (0, 0))) :
    (results fn tmps).run Tryz.prog w = .ok (.agg #[c0, c1, c2, c3, c4, c5, c6, c7, c8, c9, c10, c11, c12, c13, c14]) w := by
  have hp' : tmps[p]?.getD undef = .pointer (some ⟨g, 0, none⟩) := by simpa using hp
  simp [results, h, hp', asAddr, run_loadVar_row w g 54 54 #[c0, c1, c2, c3, c4, c5, c6, c7, c8, c9, c10, c11, c12, c13, c14] (0, 0) _ hg Tryz.underlying54 rfl (by kernel_rfl)]
theorem results_st3 {fn : Func} {p u0 u1 : Tmp} (h : fn.results = #[.cell p 54, .tmp u0, .tmp u1]) (tmps : Array Value) (w : World) (g : Nat) (c0 c1 c2 c3 c4 c5 c6 c7 c8 c9 c10 c11 c12 c13 c14 : Value)
    (hp : tmps.getD p undef = .pointer (some ⟨g, 0, none⟩)) (hg : w.heap[g]? = some (.cells #[c0, c1, c2, c3, c4, c5, c6, c7, c8, c9, c10, c11, c12, c13, c14] 54 (0, 0))) :
    (results fn tmps).run Tryz.prog w = .ok (.tuple #[.agg #[c0, c1, c2, c3, c4, c5, c6, c7, c8, c9, c10, c11, c12, c13, c14], tmps.getD u0 undef, tmps.getD u1 undef]) w := by
  have hp' : tmps[p]?.getD undef = .pointer (some ⟨g, 0, none⟩) := by simpa using hp
  simp [results, h, hp', asAddr, run_loadVar_row w g 54 54 #[c0, c1, c2, c3, c4, c5, c6, c7, c8, c9, c10, c11, c12, c13, c14] (0, 0) _ hg Tryz.underlying54 rfl (by kernel_rfl)]
theorem results_ra2 {fn : Func} {p u0 : Tmp} (h : fn.results = #[.cell p 32, .tmp u0]) (tmps : Array Value) (w : World) (g : Nat) (c0 c1 c2 c3 c4 c5 c6 c7 c8 c9 c10 c11 c12 c13 : Value)
    (hp : tmps.getD p undef = .pointer (some ⟨g, 0, none⟩)) (hg : w.heap[g]? = some (.cells #[c0, c1, c2, c3, c4, c5, c6, c7, c8, c9, c10, c11, c12, c13] 32 (0, 0))) :
    (results fn tmps).run Tryz.prog w = .ok (.tuple #[.agg #[c0, c1, c2, c3, c4, c5, c6, c7, c8, c9, c10, c11, c12, c13], tmps.getD u0 undef]) w := by
  have hp' : tmps[p]?.getD undef = .pointer (some ⟨g, 0, none⟩) := by simpa using hp
  simp [results, h, hp', asAddr, run_loadVar_row w g 32 32 #[c0, c1, c2, c3, c4, c5, c6, c7, c8, c9, c10, c11, c12, c13] (0, 0) _ hg Tryz.underlying32 rfl (by kernel_rfl)]
theorem results_ra3 {fn : Func} {p u0 u1 : Tmp} (h : fn.results = #[.cell p 32, .tmp u0, .tmp u1]) (tmps : Array Value) (w : World) (g : Nat) (c0 c1 c2 c3 c4 c5 c6 c7 c8 c9 c10 c11 c12 c13 : Value)
    (hp : tmps.getD p undef = .pointer (some ⟨g, 0, none⟩)) (hg : w.heap[g]? = some (.cells #[c0, c1, c2, c3, c4, c5, c6, c7, c8, c9, c10, c11, c12, c13] 32 (0, 0))) :
    (results fn tmps).run Tryz.prog w = .ok (.tuple #[.agg #[c0, c1, c2, c3, c4, c5, c6, c7, c8, c9, c10, c11, c12, c13], tmps.getD u0 undef, tmps.getD u1 undef]) w := by
  have hp' : tmps[p]?.getD undef = .pointer (some ⟨g, 0, none⟩) := by simpa using hp
  simp [results, h, hp', asAddr, run_loadVar_row w g 32 32 #[c0, c1, c2, c3, c4, c5, c6, c7, c8, c9, c10, c11, c12, c13] (0, 0) _ hg Tryz.underlying32 rfl (by kernel_rfl)]
theorem results_ra4 {fn : Func} {p u0 u1 u2 : Tmp} (h : fn.results = #[.cell p 32, .tmp u0, .tmp u1, .tmp u2]) (tmps : Array Value) (w : World) (g : Nat) (c0 c1 c2 c3 c4 c5 c6 c7 c8 c9 c10 c11 c12 c13 : Value)
    (hp : tmps.getD p undef = .pointer (some ⟨g, 0, none⟩)) (hg : w.heap[g]? = some (.cells #[c0, c1, c2, c3, c4, c5, c6, c7, c8, c9, c10, c11, c12, c13] 32 (0, 0))) :
    (results fn tmps).run Tryz.prog w = .ok (.tuple #[.agg #[c0, c1, c2, c3, c4, c5, c6, c7, c8, c9, c10, c11, c12, c13], tmps.getD u0 undef, tmps.getD u1 undef, tmps.getD u2 undef]) w := by
  have hp' : tmps[p]?.getD undef = .pointer (some ⟨g, 0, none⟩) := by simpa using hp
  simp [results, h, hp', asAddr, run_loadVar_row w g 32 32 #[c0, c1, c2, c3, c4, c5, c6, c7, c8, c9, c10, c11, c12, c13] (0, 0) _ hg Tryz.underlying32 rfl (by kernel_rfl)]
theorem results_mg {fn : Func} {p : Tmp} (h : fn.results = #[.cell p 34]) (tmps : Array Value) (w : World) (g : Nat) (c0 c1 c2 c3 c4 c5 c6 c7 c8 c9 c10 c11 c12 c13 : Value)
    (hp : tmps.getD p undef = .pointer (some ⟨g, 0, none⟩)) (hg : w.heap[g]? = some (.cells #[c0, c1, c2, c3, c4, c5, c6, c7, c8, c9, c10, c11, c12, c13] 34 (0, 0))) :
    (results fn tmps).run Tryz.prog w = .ok (.agg #[c0, c1, c2, c3, c4, c5, c6, c7, c8, c9, c10, c11, c12, c13]) w := by
  have hp' : tmps[p]?.getD undef = .pointer (some ⟨g, 0, none⟩) := by simpa using hp
  simp [results, h, hp', asAddr, run_loadVar_row w g 34 34 #[c0, c1, c2, c3, c4, c5, c6, c7, c8, c9, c10, c11, c12, c13] (0, 0) _ hg Tryz.underlying34 rfl (by kernel_rfl)]
end Go.Proofs.YtncoandnelgkeaaGreat

