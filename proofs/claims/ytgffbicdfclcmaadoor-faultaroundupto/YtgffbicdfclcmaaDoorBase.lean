/- The contracts of the small functions of package fault (known, New, trim, Is, Unwrap): each call's result and what became of memory. -/
import Derived.Test.YtgffbicdfclcmaaDoorFacts
namespace Go.Proofs.YtgffbicdfclcmaaDoor
open Go.RowKit Go.Extern.Stop Go.Stop Go.Extern
set_option maxRecDepth 100000

/-- An error value: faults one around the other, each a block of its own; innermost none, or an Errno. -/
def IsErr (w : World) : Value → List (ByteArray × Int) → Option Int → Prop
  | v, [], none => v = .nilIface
  | v, [], some n => v = .iface 30 (.int .i64 n)
  | v, c :: r, t => ∃ b inner, v = .iface 53 (.pointer (some ⟨b, 0, none⟩)) ∧ w.heap[b]? = some (.cells #[.string c.1, .int .i64 c.2, inner, .bool true] 56 (0, 0)) ∧ IsErr w inner r t

theorem IsErr.below {w w' : World} (hb : Below w.heap.size w w') : ∀ {l : List (ByteArray × Int)} {v : Value} {t : Option Int}, IsErr w v l t → IsErr w' v l t
  | [], _, none, h => h
  | [], _, some _, h => h
  | _ :: _, _, _, ⟨b, inner, h1, h2, h3⟩ => ⟨b, inner, h1, by
      rw [hb.block b (by rcases Nat.lt_or_ge b w.heap.size with h | h; exact h; simp [Array.getElem?_eq_none h] at h2)]; exact h2, IsErr.below hb h3⟩

theorem cells_of_block {w : World} {b : Nat} {cs : Array Value} {t : TypeId} (h : w.heap[b]? = some (.cells cs t (0, 0))) (i : Nat) : w.cell? ⟨b, i, none⟩ = cs[i]? := by
  simp [World.cell?, h]

theorem known_nil (w : World) : Calls Tryd.prog 35 #[.nilIface] w fun e w' => e = .returned (.bool true) ∧ w' = w := by
  go_enter Tryd.func35, Tryd.ntmps35
  go_wp2
  go_ret
  exact ⟨rfl, rfl⟩

theorem known_code (n : Int) (w : World) : Calls Tryd.prog 35 #[.iface 30 (.int .i64 n)] w fun e w' => e = .returned (.bool true) ∧ w' = w := by
  go_enter Tryd.func35, Tryd.ntmps35
  go_wp2
  go_ret
  exact ⟨rfl, rfl⟩

theorem known_fault (b : Nat) (k : Bool) (w : World) (h3 : w.cell? ⟨b, 3, none⟩ = some (.bool k)) : Calls Tryd.prog 35 #[.iface 53 (.pointer (some ⟨b, 0, none⟩))] w fun e w' => e = .returned (.bool k) ∧ w' = w := by
  go_enter Tryd.func35, Tryd.ntmps35
  go_wp2
  go_ret
  exact ⟨rfl, rfl⟩
end Go.Proofs.YtgffbicdfclcmaaDoor
