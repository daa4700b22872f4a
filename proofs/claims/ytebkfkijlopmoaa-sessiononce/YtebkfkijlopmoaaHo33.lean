import Derived.Test.YtebkfkijlopmoaaHo32
/- The document's Put. -/
namespace Go.Proofs.Ytebkfkijlopmoaa
open Go.RowKit SessionMath
set_option maxRecDepth 100000
set_option linter.unusedSimpArgs false
set_option linter.unusedVariables false

/-- Rows that grow: seats whose replies lie below n. -/
def Gw (n : Nat) (w : World) (v : Value) (M : List Ms) (cur : List Sz) : Prop := Ow seatE 49 n w v cur ∧ mes cur = M ∧ ∀ z ∈ cur, Wi.Bs n w (sv z) z.1.rp
theorem Gw.push {n : Nat} {w w' : World} {st v' : Value} {M : List Ms} {cur : List Sz} {z : Sz} (h : Gw n w st M cur) (hz : Wi.Bs n w (sv z) z.1.rp) (hn : n ≤ w.heap.size) (hp : PushT seatE 49 w st (cur ++ [z]) v' w') : Gw n w' v' (M ++ [z.1]) (cur ++ [z]) ∧ Below n w w' := by
  obtain ⟨h1, h2⟩ := h.1.push hn hp
  refine ⟨⟨h1, ?_, fun y hy => ?_⟩, h2⟩
  · show List.map _ _ = _
    rw [List.map_append]
    exact congrArg (· ++ [z.1]) h.2.1
  · rw [List.mem_append, List.mem_singleton] at hy
    rcases hy with hy | rfl
    · exact (h.2.2 y hy).below h2
    · exact hz.below h2
theorem Gw.seats {n : Nat} {w : World} {v : Value} {M : List Ms} {cur : List Sz} (h : Gw n w v M cur) (hn : n ≤ w.heap.size) : SeatsV w v cur := ⟨h.1.1.rd, fun z hz => (h.2.2 z hz).mono hn⟩
end Go.Proofs.Ytebkfkijlopmoaa

