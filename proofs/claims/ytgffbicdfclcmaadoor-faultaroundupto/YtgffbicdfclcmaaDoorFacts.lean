/- Closed facts on the loaded program: what type assertions, comparisons of interface values, method look-ups and the entries for internal/reflectlite give at its types. -/
import Derived.Test.YtgffbicdfclcmaaDoorProg
import Derived.WalkKit
import Derived.LaidEql
import Derived.LaidEqlPtr
import Derived.Stop.Asserts
import Derived.RowKitTokens
namespace Go.Proofs.YtgffbicdfclcmaaDoor
open Go.RowKit Go.Extern.Stop Go.Stop Go.Extern
set_option maxRecDepth 100000

@[go_sem] theorem eqlNN (w : World) : (binOp .eql 25 .nilIface .nilIface).run Tryd.prog w = .ok (.bool true) w := by kernel_rfl
@[go_sem] theorem eqlIN (t : TypeId) (v : Value) (w : World) : (binOp .eql 25 (.iface t v) .nilIface).run Tryd.prog w = .ok (.bool false) w := by kernel_rfl
@[go_sem] theorem eqlNI (t : TypeId) (v : Value) (w : World) : (binOp .eql 25 .nilIface (.iface t v)).run Tryd.prog w = .ok (.bool false) w := by kernel_rfl
@[go_sem] theorem eqlIN20 (t : TypeId) (v : Value) (w : World) : (binOp .eql 20 (.iface t v) .nilIface).run Tryd.prog w = .ok (.bool false) w := by kernel_rfl
@[go_sem] theorem neqNN (w : World) : (binOp .neq 25 .nilIface .nilIface).run Tryd.prog w = .ok (.bool false) w := by kernel_rfl
@[go_sem] theorem neqIN (t : TypeId) (v : Value) (w : World) : (binOp .neq 25 (.iface t v) .nilIface).run Tryd.prog w = .ok (.bool true) w := by kernel_rfl
@[go_sem] theorem eqlCC (a b : Int) (w : World) : (binOp .eql 25 (.iface 30 (.int .i64 a)) (.iface 30 (.int .i64 b))).run Tryd.prog w = .ok (.bool (a == b)) w := by kernel_rfl
@[go_sem] theorem eqlFC (a b : Value) (w : World) : (binOp .eql 25 (.iface 53 a) (.iface 30 b)).run Tryd.prog w = .ok (.bool false) w := by kernel_rfl
@[go_sem] theorem eqlCF (a b : Value) (w : World) : (binOp .eql 25 (.iface 30 a) (.iface 53 b)).run Tryd.prog w = .ok (.bool false) w := by kernel_rfl
@[go_sem] theorem asCodeN (w : World) : (Instr.typeAssert .nilIface 25 30 true).run Tryd.prog w = .ok (.tuple #[.int .i64 0, .bool false]) w := by kernel_rfl
@[go_sem] theorem asCodeC (v : Value) (w : World) : (Instr.typeAssert (.iface 30 v) 25 30 true).run Tryd.prog w = .ok (.tuple #[v, .bool true]) w := by kernel_rfl
@[go_sem] theorem asCodeF (v : Value) (w : World) : (Instr.typeAssert (.iface 53 v) 25 30 true).run Tryd.prog w = .ok (.tuple #[.int .i64 0, .bool false]) w := by kernel_rfl
@[go_sem] theorem asFaultN (w : World) : (Instr.typeAssert .nilIface 25 53 true).run Tryd.prog w = .ok (.tuple #[.pointer none, .bool false]) w := by kernel_rfl
@[go_sem] theorem asFaultC (v : Value) (w : World) : (Instr.typeAssert (.iface 30 v) 25 53 true).run Tryd.prog w = .ok (.tuple #[.pointer none, .bool false]) w := by kernel_rfl
@[go_sem] theorem asFaultF (v : Value) (w : World) : (Instr.typeAssert (.iface 53 v) 25 53 true).run Tryd.prog w = .ok (.tuple #[v, .bool true]) w := by kernel_rfl
@[go_sem] theorem hasIsF (v : Value) (xT : TypeId) (w : World) : (Instr.typeAssert (.iface 53 v) xT 84 true).run Tryd.prog w = .ok (.tuple #[.iface 53 v, .bool true]) w := run_typeAssert_hasB Tryd.underlying84 (by kernel_rfl) v xT w
@[go_sem] theorem noIsC (v : Value) (xT : TypeId) (w : World) : (Instr.typeAssert (.iface 30 v) xT 84 true).run Tryd.prog w = .ok (.tuple #[.nilIface, .bool false]) w := run_typeAssert_lacksB Tryd.underlying84 (by kernel_rfl) (by kernel_rfl) v xT w
@[go_sem] theorem hasUnwrapF (v : Value) (xT : TypeId) (w : World) : (Instr.typeAssert (.iface 53 v) xT 72 true).run Tryd.prog w = .ok (.tuple #[.iface 53 v, .bool true]) w := run_typeAssert_hasB Tryd.underlying72 (by kernel_rfl) v xT w
@[go_sem] theorem noUnwrapC (v : Value) (xT : TypeId) (w : World) : (Instr.typeAssert (.iface 30 v) xT 72 true).run Tryd.prog w = .ok (.tuple #[.nilIface, .bool false]) w := run_typeAssert_lacksB Tryd.underlying72 (by kernel_rfl) (by kernel_rfl) v xT w
@[go_sem] theorem noUnwrapsC (v : Value) (xT : TypeId) (w : World) : (Instr.typeAssert (.iface 30 v) xT 86 true).run Tryd.prog w = .ok (.tuple #[.nilIface, .bool false]) w := run_typeAssert_lacksB Tryd.underlying86 (by kernel_rfl) (by kernel_rfl) v xT w
@[go_sem] theorem noAsF (v : Value) (xT : TypeId) (w : World) : (Instr.typeAssert (.iface 53 v) xT 103 true).run Tryd.prog w = .ok (.tuple #[.nilIface, .bool false]) w := run_typeAssert_lacksB Tryd.underlying103 (by kernel_rfl) (by kernel_rfl) v xT w
@[go_sem] theorem noAsC (v : Value) (xT : TypeId) (w : World) : (Instr.typeAssert (.iface 30 v) xT 103 true).run Tryd.prog w = .ok (.tuple #[.nilIface, .bool false]) w := run_typeAssert_lacksB Tryd.underlying103 (by kernel_rfl) (by kernel_rfl) v xT w
@[go_sem] theorem methodIs (v : Value) (w : World) : (Go.method 233 53 v "Is").run Tryd.prog w = .ok (66, v) w := by kernel_rfl
@[go_sem] theorem methodUnwrap (v : Value) (w : World) : (Go.method 233 53 v "Unwrap").run Tryd.prog w = .ok (67, v) w := by kernel_rfl
@[go_sem] theorem methodKind (h : Value) (w : World) : (Go.method 233 82 (.agg #[h]) "Kind").run Tryd.prog w = .ok (62, h) w := by kernel_rfl
@[go_sem] theorem methodElem (h : Value) (w : World) : (Go.method 233 82 (.agg #[h]) "Elem").run Tryd.prog w = .ok (72, .agg #[h]) w := by kernel_rfl
@[go_sem] theorem methodImplements (h : Value) (w : World) : (Go.method 233 82 (.agg #[h]) "Implements").run Tryd.prog w = .ok (73, .agg #[h]) w := by kernel_rfl
@[go_sem] theorem methodAssignableTo (h : Value) (w : World) : (Go.method 233 82 (.agg #[h]) "AssignableTo").run Tryd.prog w = .ok (70, .agg #[h]) w := by kernel_rfl
@[go_sem] theorem methodComparable (h : Value) (w : World) : (Go.method 233 82 (.agg #[h]) "Comparable").run Tryd.prog w = .ok (71, .agg #[h]) w := by kernel_rfl

@[go_sem] theorem typeOfF (v : Value) (w : World) : (ReflectliteType.typeOf #[.iface 53 v]).run Tryd.prog w = .ok (.iface 82 (.agg #[.pointer (some ⟨1, 53, none⟩)])) w := by kernel_rfl
@[go_sem] theorem typeOfC (v : Value) (w : World) : (ReflectliteType.typeOf #[.iface 30 v]).run Tryd.prog w = .ok (.iface 82 (.agg #[.pointer (some ⟨1, 30, none⟩)])) w := by kernel_rfl
@[go_sem] theorem elem78 (w : World) : (ReflectliteType.method ReflectliteType.elem #[.agg #[.pointer (some ⟨1, 78, none⟩)]]).run Tryd.prog w = .ok (.iface 82 (.agg #[.pointer (some ⟨1, 53, none⟩)])) w := by kernel_rfl
@[go_sem] theorem elem79 (w : World) : (ReflectliteType.method ReflectliteType.elem #[.agg #[.pointer (some ⟨1, 79, none⟩)]]).run Tryd.prog w = .ok (.iface 82 (.agg #[.pointer (some ⟨1, 30, none⟩)])) w := by kernel_rfl
@[go_sem] theorem implements53 (w : World) : (ReflectliteType.relation "Implements" ReflectliteType.implements_ #[.agg #[.pointer (some ⟨1, 53, none⟩)], .iface 82 (.agg #[.pointer (some ⟨1, 25, none⟩)])]).run Tryd.prog w = .ok (.bool true) w := by kernel_rfl
@[go_sem] theorem implements30 (w : World) : (ReflectliteType.relation "Implements" ReflectliteType.implements_ #[.agg #[.pointer (some ⟨1, 30, none⟩)], .iface 82 (.agg #[.pointer (some ⟨1, 25, none⟩)])]).run Tryd.prog w = .ok (.bool true) w := by kernel_rfl
@[go_sem] theorem assignFF (w : World) : (ReflectliteType.relation "AssignableTo" ReflectliteType.assignableTo #[.agg #[.pointer (some ⟨1, 53, none⟩)], .iface 82 (.agg #[.pointer (some ⟨1, 53, none⟩)])]).run Tryd.prog w = .ok (.bool true) w := by kernel_rfl
@[go_sem] theorem assignCC (w : World) : (ReflectliteType.relation "AssignableTo" ReflectliteType.assignableTo #[.agg #[.pointer (some ⟨1, 30, none⟩)], .iface 82 (.agg #[.pointer (some ⟨1, 30, none⟩)])]).run Tryd.prog w = .ok (.bool true) w := by kernel_rfl
@[go_sem] theorem assignFC (w : World) : (ReflectliteType.relation "AssignableTo" ReflectliteType.assignableTo #[.agg #[.pointer (some ⟨1, 53, none⟩)], .iface 82 (.agg #[.pointer (some ⟨1, 30, none⟩)])]).run Tryd.prog w = .ok (.bool false) w := by kernel_rfl
@[go_sem] theorem assignCF (w : World) : (ReflectliteType.relation "AssignableTo" ReflectliteType.assignableTo #[.agg #[.pointer (some ⟨1, 30, none⟩)], .iface 82 (.agg #[.pointer (some ⟨1, 53, none⟩)])]).run Tryd.prog w = .ok (.bool false) w := by kernel_rfl
@[go_sem] theorem valueOf78 (t : Addr) (w : World) : (ReflectliteValue.unpack (.iface 78 (.pointer (some t)))).run Tryd.prog w
    = .ok (.agg #[.pointer (some ⟨1, 78, none⟩), .pointer (some ⟨w.heap.size, 0, none⟩), .int .u64 150]) (w.alloc (.cells #[.pointer (some t)] 78)) := by kernel_rfl
@[go_sem] theorem valueOf79 (t : Addr) (w : World) : (ReflectliteValue.unpack (.iface 79 (.pointer (some t)))).run Tryd.prog w
    = .ok (.agg #[.pointer (some ⟨1, 79, none⟩), .pointer (some ⟨w.heap.size, 0, none⟩), .int .u64 150]) (w.alloc (.cells #[.pointer (some t)] 79)) := by kernel_rfl
@[go_sem] theorem valueOf53 (t : Addr) (w : World) : (ReflectliteValue.unpack (.iface 53 (.pointer (some t)))).run Tryd.prog w
    = .ok (.agg #[.pointer (some ⟨1, 53, none⟩), .pointer (some ⟨w.heap.size, 0, none⟩), .int .u64 150]) (w.alloc (.cells #[.pointer (some t)] 53)) := by kernel_rfl
@[go_sem] theorem valueOf30 (n : Int) (w : World) : (ReflectliteValue.unpack (.iface 30 (.int .i64 n))).run Tryd.prog w
    = .ok (.agg #[.pointer (some ⟨1, 30, none⟩), .pointer (some ⟨w.heap.size, 0, none⟩), .int .u64 130]) (w.alloc (.cells #[.int .i64 n] 30)) := by kernel_rfl
@[go_sem] theorem type78 (a : Addr) (w : World) : (ReflectliteValue.methodAny (ReflectliteValue.valueError "reflectlite.Value.Type" 0) (fun t _ _ _ => ReflectliteType.toType t) #[.agg #[.pointer (some ⟨1, 78, none⟩), .pointer (some a), .int .u64 150]]).run Tryd.prog w
    = .ok (.iface 82 (.agg #[.pointer (some ⟨1, 78, none⟩)])) w := by kernel_rfl
@[go_sem] theorem type79 (a : Addr) (w : World) : (ReflectliteValue.methodAny (ReflectliteValue.valueError "reflectlite.Value.Type" 0) (fun t _ _ _ => ReflectliteType.toType t) #[.agg #[.pointer (some ⟨1, 79, none⟩), .pointer (some a), .int .u64 150]]).run Tryd.prog w
    = .ok (.iface 82 (.agg #[.pointer (some ⟨1, 79, none⟩)])) w := by kernel_rfl
end Go.Proofs.YtgffbicdfclcmaaDoor
