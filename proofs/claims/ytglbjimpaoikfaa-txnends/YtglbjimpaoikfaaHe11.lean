import Derived.Test.YtglbjimpaoikfaaHe10
import Derived.Test.YtglbjimpaoikfaaHe08
/- Tables, intents, calls as values; which may be. -/
namespace Go.Proofs.Ytglbjimpaoikfaa
open Go.RowKit LeaseMath
set_option maxRecDepth 100000
set_option linter.unusedSimpArgs false
set_option linter.unusedVariables false

/-- A transaction: its client and its number; an intent: its key, transaction, kind, token, ttl; a call. -/
abbrev Cq := Int × Nat
abbrev It := K × Cq × Int × Nat × Int
abbrev Sp := K × K
structure Cl where
  kind : Int
  keys : List K
  token : Nat
  ttl : Int
structure Tb where
  now : Int
  spans : List Sp
  frozen : List Sp
  holds : List Hd
  marks : List Mk
  ints : List It
abbrev Sa := Option Addr × Nat
/-- Their values: where their slices lie is told apart. -/
structure Tz where
  t : Tb
  s : Sa
  f : Sa
  h : Sa
  m : Sa
  i : Sa
@[reducible] def tv (z : Tz) : Value := .agg #[.int .i64 z.t.now, .slice z.s.1 z.t.spans.length z.s.2, .slice z.f.1 z.t.frozen.length z.f.2, .slice z.h.1 z.t.holds.length z.h.2, .slice z.m.1 z.t.marks.length z.m.2, .slice z.i.1 z.t.ints.length z.i.2]
@[reducible] def iv (x : It) : Value := .agg #[.string (bk x.1), .int .i64 x.2.1.1, .int .u64 (x.2.1.2 : Int), .int .i64 x.2.2.1, .int .u64 (x.2.2.2.1 : Int), .int .i64 x.2.2.2.2]
@[reducible] def idv (c : Cq) : Value := .agg #[.int .i64 c.1, .int .u64 (c.2 : Int)]
@[reducible] def idc (c : Cq) : Obj := .cells #[.int .i64 c.1, .int .u64 (c.2 : Int)] 24
@[reducible] def cv (c : Cl) (a : Sa) : Value := .agg #[.int .i64 c.kind, .slice a.1 c.keys.length a.2, .int .u64 (c.token : Int), .int .i64 c.ttl]
@[reducible] def cc_ (c : Cl) (a : Sa) : Obj := .cells #[.int .i64 c.kind, .slice a.1 c.keys.length a.2, .int .u64 (c.token : Int), .int .i64 c.ttl] 43
def itE : El It := ⟨fun x => [.string (bk x.1), .int .i64 x.2.1.1, .int .u64 (x.2.1.2 : Int), .int .i64 x.2.2.1, .int .u64 (x.2.2.2.1 : Int), .int .i64 x.2.2.2.2], 6, fun _ => rfl, fun x u hu => by
  simp only [List.mem_cons, List.not_mem_nil, or_false] at hu
  rcases hu with rfl | rfl | rfl | rfl | rfl | rfl <;> rfl, by decide⟩
def kyE : El K := ⟨fun x => [.string (bk x)], 1, fun _ => rfl, fun x u hu => by
  simp only [List.mem_cons, List.not_mem_nil, or_false] at hu
  subst hu
  rfl, by decide⟩
/-- What a table's slices read. -/
def TbR (w : World) (z : Tz) : Prop := Rd spE w (.slice z.s.1 z.t.spans.length z.s.2) z.t.spans ∧ Rd spE w (.slice z.f.1 z.t.frozen.length z.f.2) z.t.frozen ∧ Rd holdE w (.slice z.h.1 z.t.holds.length z.h.2) z.t.holds ∧ Rd markE w (.slice z.m.1 z.t.marks.length z.m.2) z.t.marks ∧ Rd itE w (.slice z.i.1 z.t.ints.length z.i.2) z.t.ints
theorem TbR.below {w w' : World} {z : Tz} (h : TbR w z) (hb : Below w.heap.size w w') : TbR w' z := ⟨h.1.below hb, h.2.1.below hb, h.2.2.1.below hb, h.2.2.2.1.below hb, h.2.2.2.2.below hb⟩
/-- A value that is a table. -/
def TbV (w : World) (v : Value) (t : Tb) : Prop := ∃ z : Tz, v = tv z ∧ z.t = t ∧ TbR w z
theorem TbV.below {w w' : World} {v : Value} {t : Tb} (h : TbV w v t) (hb : Below w.heap.size w w') : TbV w' v t := by
  obtain ⟨z, h1, h2, h3⟩ := h
  exact ⟨z, h1, h2, h3.below hb⟩
/-- A box and what stands in it, in every later world. -/
theorem box_all (w : World) (cs : Array Value) (t : TypeId) : (w.alloc (.cells cs t)).heap.size = w.heap.size + 1 ∧ Below w.heap.size w (w.alloc (.cells cs t)) ∧ ∀ W, Below (w.heap.size + 1) (w.alloc (.cells cs t)) W → ∀ i u, cs[i]? = some u → W.cell? ⟨w.heap.size, i, none⟩ = some u := by
  obtain ⟨h1, h2, h3⟩ := one_box w (.cells cs t)
  refine ⟨h1, h3, fun W hW i u hu => ?_⟩
  have := (hW.block w.heap.size (Nat.lt_succ_self _)).trans h2
  rw [cells_of_block this]
  exact hu
theorem id_box (w : World) (c : Cq) : (w.alloc (idc c)).heap.size = w.heap.size + 1 ∧ Below w.heap.size w (w.alloc (idc c)) ∧ ∀ W, Below (w.heap.size + 1) (w.alloc (idc c)) W → W.cell? ⟨w.heap.size, 0, none⟩ = some (.int .i64 c.1) ∧ W.cell? ⟨w.heap.size, 1, none⟩ = some (.int .u64 (c.2 : Int)) := by
  obtain ⟨h1, h2, h3⟩ := box_all w _ _
  exact ⟨h1, h2, fun W hW => ⟨h3 W hW 0 _ rfl, h3 W hW 1 _ rfl⟩⟩
theorem cl_box (w : World) (c : Cl) (a : Sa) : (w.alloc (cc_ c a)).heap.size = w.heap.size + 1 ∧ Below w.heap.size w (w.alloc (cc_ c a)) ∧ ∀ W, Below (w.heap.size + 1) (w.alloc (cc_ c a)) W → W.cell? ⟨w.heap.size, 0, none⟩ = some (.int .i64 c.kind) ∧ W.cell? ⟨w.heap.size, 1, none⟩ = some (.slice a.1 c.keys.length a.2) ∧ W.cell? ⟨w.heap.size, 2, none⟩ = some (.int .u64 (c.token : Int)) ∧ W.cell? ⟨w.heap.size, 3, none⟩ = some (.int .i64 c.ttl) := by
  obtain ⟨h1, h2, h3⟩ := box_all w _ _
  exact ⟨h1, h2, fun W hW => ⟨h3 W hW 0 _ rfl, h3 W hW 1 _ rfl, h3 W hW 2 _ rfl, h3 W hW 3 _ rfl⟩⟩
theorem rds_at {w : World} {ao : Option Addr} {n cap : Nat} {zs : List K} (h : Rd kyE w (.slice ao n cap) zs) {i : Nat} {x : K} (hz : zs[i]? = some x) : ∃ b off, ao = some ⟨b, off, none⟩ ∧ ∀ W, Below w.heap.size w W → W.cell? ⟨b, off + i, none⟩ = some (.string (bk x)) := by
  obtain ⟨ao', cap', e, _, _, h2⟩ := h
  cases e
  obtain ⟨b, off, r1, r2⟩ := h2 i x 0 _ hz rfl
  rw [show i * kyE.k + 0 = i from Nat.mul_one i] at r2
  exact ⟨b, off, r1, fun W hW => (hW.cell (p := ⟨b, off + i, none⟩) (World.block_lt_of_cell? w _ r2)).trans r2⟩
/-- Which transactions, kinds, keys, tables may be. -/
def idB (c : Cq) : Bool := decide (0 ≤ c.1) && decide (c.1 < 8) && decide (c.2 ≠ 0)
def turnB (kind ttl : Int) : Bool := if kind = 1 ∨ kind = 3 then decide (1 ≤ ttl) && decide (ttl ≤ 1048576) else decide (kind = 2) && decide (ttl = 0)
def upB (l : List K) : Bool := walk (fun p : K × Unit => decide (p.1.length ≤ 64)) none (l.map fun k => (k, ()))
def keysB (l : List K) : Bool := upB l && decide (1 ≤ l.length) && decide (l.length ≤ 16)
def callB (c : Cl) : Bool := turnB c.kind c.ttl && keysB c.keys && (decide (c.token = 0) == decide (c.kind = 1))
end Go.Proofs.Ytglbjimpaoikfaa

