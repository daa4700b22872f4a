import Derived.Test.YtncoandnelgkeaaGreatHb24
import Derived.Test.YtncoandnelgkeaaGreatHb28
/- The document's settle: peers are of the voters. -/
namespace Go.Proofs.YtncoandnelgkeaaGreat
open Go.RowKit QuorumMath RlogMath RaftMath
set_option maxRecDepth 100000
set_option linter.unusedSimpArgs false
set_option linter.unusedVariables false

theorem infoPeerN : (Tryz.prog.info? 71).map (fun i => (i.zero, i.size, i.bytes)) = some (some (.agg #[.int .i64 0, .int .u64 0, .int .u64 0]), peerN.k, 24) := infoPeer
theorem push_peer {w : World} {v : Value} {xs : List Mp} (p : Mp) (h : Rk peerN w 71 v xs) (hlen : xs.length ≤ 10000000000) :
    ∀ ty, ∃ v' w', (Builtin.append_ #[30, 30] ty #[v, .slice (some ⟨w.heap.size, 0, none⟩) 1 1]).run Tryz.prog (w.alloc (.cells #[.int .i64 p.node, .int .u64 (p.next : Int), .int .u64 (p.mat : Int)] 71)) = .ok v' w' ∧ PushT peerN 71 w v (xs ++ [p]) v' w' :=
  push_el peerN Tryz.underlying30 infoPeerN rfl (by decide) p h hlen
theorem p3_cells {w : World} {g : Nat} {a b c : Value} {t : TypeId} (h : w.heap[g]? = some (.cells #[a, b, c] t (0, 0))) : (w.frozen? ⟨g, 0, none⟩ = false ∧ w.frozen? ⟨g, 1, none⟩ = false ∧ w.frozen? ⟨g, 2, none⟩ = false) ∧ w.cell? ⟨g, 0, none⟩ = some a ∧ w.cell? ⟨g, 1, none⟩ = some b ∧ w.cell? ⟨g, 2, none⟩ = some c :=
  ⟨⟨frozen_of h 0, frozen_of h 1, frozen_of h 2⟩, by rw [cells_of_block h]; rfl, by rw [cells_of_block h]; rfl, by rw [cells_of_block h]; rfl⟩
end Go.Proofs.YtncoandnelgkeaaGreat

