import Derived.Test.YtglbjimpaoikfaaHe13
import Derived.Test.YtglbjimpaoikfaaHe14
import Derived.Test.YtglbjimpaoikfaaHe16
import Derived.Test.YtglbjimpaoikfaaHe17
/- A transaction's record as a value; which may be. -/
namespace Go.Proofs.Ytglbjimpaoikfaa
open Go.RowKit LeaseMath
set_option maxRecDepth 100000
set_option linter.unusedSimpArgs false
set_option linter.unusedVariables false

structure Tx where
  id : Cq
  kind : Int
  keys : List K
  token : Nat
  ttl : Int
  groups : List Int
  state : Int
  yes : List Int
  done : List Int
  code : Int
structure Xz where
  t : Tx
  k : Sa
  g : Sa
  y : Sa
  d : Sa
@[reducible] def xv (z : Xz) : Value := .agg #[.int .i64 z.t.id.1, .int .u64 (z.t.id.2 : Int), .int .i64 z.t.kind, .slice z.k.1 z.t.keys.length z.k.2, .int .u64 (z.t.token : Int), .int .i64 z.t.ttl, .slice z.g.1 z.t.groups.length z.g.2, .int .i64 z.t.state, .slice z.y.1 z.t.yes.length z.y.2, .slice z.d.1 z.t.done.length z.d.2, .int .i64 z.t.code]
@[reducible] def xc (z : Xz) : Obj := .cells #[.int .i64 z.t.id.1, .int .u64 (z.t.id.2 : Int), .int .i64 z.t.kind, .slice z.k.1 z.t.keys.length z.k.2, .int .u64 (z.t.token : Int), .int .i64 z.t.ttl, .slice z.g.1 z.t.groups.length z.g.2, .int .i64 z.t.state, .slice z.y.1 z.t.yes.length z.y.2, .slice z.d.1 z.t.done.length z.d.2, .int .i64 z.t.code] 29
def XR (w : World) (z : Xz) : Prop := Rd kyE w (.slice z.k.1 z.t.keys.length z.k.2) z.t.keys ∧ Rd intE w (.slice z.g.1 z.t.groups.length z.g.2) z.t.groups ∧ Rd intE w (.slice z.y.1 z.t.yes.length z.y.2) z.t.yes ∧ Rd intE w (.slice z.d.1 z.t.done.length z.d.2) z.t.done
theorem XR.below {w w' : World} {z : Xz} (h : XR w z) (hb : Below w.heap.size w w') : XR w' z := ⟨h.1.below hb, h.2.1.below hb, h.2.2.1.below hb, h.2.2.2.below hb⟩
def noX : Tx := ⟨(0, 0), 0, [], 0, 0, [], 0, [], [], 0⟩
def noXz : Xz := ⟨noX, (none, 0), (none, 0), (none, 0), (none, 0)⟩
/-- A box of eleven cells. -/
theorem cells11 {w : World} {n : Nat} {a b c d e f g h i j k : Value} {t : TypeId} (H : w.heap[n]? = some (.cells #[a, b, c, d, e, f, g, h, i, j, k] t (0, 0))) : w.cell? ⟨n, 0, none⟩ = some a ∧ w.cell? ⟨n, 1, none⟩ = some b ∧ w.cell? ⟨n, 2, none⟩ = some c ∧ w.cell? ⟨n, 3, none⟩ = some d ∧ w.cell? ⟨n, 4, none⟩ = some e ∧ w.cell? ⟨n, 5, none⟩ = some f ∧ w.cell? ⟨n, 6, none⟩ = some g ∧ w.cell? ⟨n, 7, none⟩ = some h ∧ w.cell? ⟨n, 8, none⟩ = some i ∧ w.cell? ⟨n, 9, none⟩ = some j ∧ w.cell? ⟨n, 10, none⟩ = some k := by
  refine ⟨?_, ?_, ?_, ?_, ?_, ?_, ?_, ?_, ?_, ?_, ?_⟩ <;> rw [cells_of_block H] <;> rfl
theorem cells4 {w : World} {g : Nat} {a b c d : Value} {t : TypeId} (H : w.heap[g]? = some (.cells #[a, b, c, d] t (0, 0))) : w.cell? ⟨g, 0, none⟩ = some a ∧ w.cell? ⟨g, 1, none⟩ = some b ∧ w.cell? ⟨g, 2, none⟩ = some c ∧ w.cell? ⟨g, 3, none⟩ = some d := by
  refine ⟨?_, ?_, ?_, ?_⟩ <;> rw [cells_of_block H] <;> rfl
theorem x_box (w : World) (z : Xz) : (w.alloc (xc z)).heap.size = w.heap.size + 1 ∧ (w.alloc (xc z)).heap[w.heap.size]? = some (xc z) ∧ Below w.heap.size w (w.alloc (xc z)) := one_box w (xc z)
/-- What is to be prepared. -/
def callM (x : Tx) : Cl := ⟨x.kind, x.keys, if x.kind = 1 then 0 else x.token, x.ttl⟩
def riseB (l : List Int) : Bool := decide (l.Pairwise (· < ·))
def grpB (l : List Int) : Bool := l.all fun g => decide (1 ≤ g) && decide (g ≤ 16)
def subB (l m : List Int) : Bool := l.all fun g => decide (g ∈ m)
def groupsB (x : Tx) : Bool := decide (0 < x.groups.length) && riseB x.groups && grpB x.groups && riseB x.yes && subB x.yes x.groups && riseB x.done && subB x.done x.groups
def allB (x : Tx) (l : List Int) : Bool := decide (l.length = x.groups.length)
def stateB (x : Tx) : Bool :=
  if x.state = 1 then decide (x.done.length = 0) && decide (x.code = 0) && !(decide (x.token ≠ 0) && allB x x.yes)
  else if x.state = 2 then (decide (x.token ≠ 0) && allB x x.yes) && !allB x x.done && decide (x.code = 0)
  else if x.state = 3 then decide (x.code ≠ 0) && !allB x x.done
  else if x.state = 4 then allB x x.done && (decide (x.code ≠ 0) || (decide (x.token ≠ 0) && allB x x.yes))
  else false
/-- A record may be. -/
def okX (x : Tx) : Bool := idB x.id && callB (callM x) && groupsB x && stateB x
end Go.Proofs.Ytglbjimpaoikfaa

