import Derived.Test.YtebkfkijlopmoaaHo08
/- The document's own reader in its block, and the contracts of its small functions (next, wrong, Done). -/
namespace Go.Proofs.Ytebkfkijlopmoaa.Wi
open Go.RowKit WireMath
set_option maxRecDepth 100000
set_option linter.unusedSimpArgs false

/-- The document's reader in block r: bytes (below block n₀), a place, what was wrong. -/
def Rr (n₀ : Nat) (w : World) (r : Nat) (l : List Nat) (at_ bad : Nat) : Prop :=
  ∃ sv, w.heap[r]? = some (.cells #[sv, .int .i64 (at_ : Int), .int .i64 (bad : Int)] 68 (0, 0)) ∧ Bs n₀ w sv l ∧ at_ ≤ l.length ∧ n₀ ≤ r

theorem Rr.lt {n₀ : Nat} {w : World} {r : Nat} {l : List Nat} {a b : Nat} (h : Rr n₀ w r l a b) : r < w.heap.size := by
  obtain ⟨sv, h1, _⟩ := h
  exact (Array.getElem?_eq_some_iff.1 h1).1
theorem Rr.below {n₀ : Nat} {w w' : World} {r : Nat} {l : List Nat} {a b : Nat} (h : Rr n₀ w r l a b) (hb : Below w.heap.size w w') : Rr n₀ w' r l a b := by
  have hq := h.lt
  obtain ⟨sv, h1, h2, h3, h4⟩ := h
  exact ⟨sv, (hb.block r hq).trans h1, h2.below (hb.mono (by omega)), h3, h4⟩
theorem Bs.kp0 {n₀ q : Nat} {w w' : World} {v : Value} {l : List Nat} (h : Bs n₀ w v l) (hk : Kp q w w') (hn : n₀ ≤ q) : Bs n₀ w' v l := by
  obtain ⟨ao, cap, rfl, h2, h3, h4, h5⟩ := h
  exact ⟨ao, cap, rfl, h2, h3, h4, fun hne => by
    obtain ⟨b, off, e1, e2, e3⟩ := h5 hne
    subst e1
    exact ⟨b, off, rfl, e2, fun j c hj => hk.cell (a := ⟨b, off + j, none⟩) (e3 j c hj) (fun e => absurd (by simpa using e : b = q) (by omega))⟩⟩
/-- The program's reader turns, the document's stays. -/
theorem Rr.kp {n₀ q : Nat} {w w' : World} {r : Nat} {l : List Nat} {a b : Nat} (h : Rr n₀ w r l a b) (hk : Kp q w w') (hn : n₀ ≤ q) (hqr : q ≠ r) : Rr n₀ w' r l a b := by
  have hr := h.lt
  obtain ⟨sv, h1, h2, h3, h4⟩ := h
  exact ⟨sv, (hk.block r hr (fun e => hqr (by simpa using e.symm))).trans h1, h2.kp0 hk hn, h3, h4⟩
/-- The document's reader turns, the program's stays. -/
theorem Rd.kp {q r : Nat} {w w' : World} {l : List Nat} {a b : Nat} (h : Rd w q l a b) (hk : Kp r w w') (hqr : q < r) : Rd w' q l a b := by
  have hq := h.lt
  obtain ⟨sv, h1, h2, h3⟩ := h
  exact ⟨sv, (hk.block q hq (fun e => by have : q = r := by simpa using e
                                         omega)).trans h1, h2.kp0 hk (Nat.le_of_lt hqr), h3⟩

theorem Rr.drewN {n₀ r : Nat} {l : List Nat} {a b : Nat} {w : World} (h : Rr n₀ w r l a b) (k : Nat) : Rr n₀ (w.drewN k) r l a b := h.below (below_drewN (Below.refl _ _) _)

end Go.Proofs.Ytebkfkijlopmoaa.Wi

