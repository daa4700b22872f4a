import Derived.Test.YtebkfkijlopmoaaHs40
/- The document's Decode. -/
namespace Go.Proofs.Ytebkfkijlopmoaa
open Go.RowKit SessionMath WireMath
set_option maxRecDepth 100000
set_option linter.unusedSimpArgs false
set_option linter.unusedVariables false

theorem uv_lt256 {n : Nat} : ∀ c ∈ uv n, c < 256 := by
  intro c hc
  exact uv_bytes n c hc
theorem enc_lt {l : List Ms} (h : ∀ s ∈ l, s.sq < 18446744073709551616 ∧ (∀ c ∈ s.rp, c < 256) ∧ s.rp.length ≤ 4096) {c : Nat} (hc : c ∈ encB l) : c < 256 := by
  unfold encB at hc
  rw [List.mem_append, List.mem_flatMap] at hc
  rcases hc with hc | ⟨s, hs, hc⟩
  · exact uv_lt256 c hc
  · unfold rB sB at hc
    simp only [List.mem_append] at hc
    rcases hc with (hc | hc) | hc | hc
    · exact uv_lt256 c hc
    · exact uv_lt256 c hc
    · exact uv_lt256 c hc
    · exact (h s hs).2.1 c hc
def RDecT (b : List Nat) (e : Ending) (w' : World) : Prop := ∃ v zs', e = .returned (.tuple #[v, .bool (decOk b)]) ∧ SeatsV w' v zs' ∧ if decOk b then mes zs' = (decX 7 b).1 else zs' = []
theorem CpS.far {n Nx i : Nat} {w : World} {v : Value} {M : List Ms} {cur : List Sz} {cs : Array Value} {t : TypeId} (h : CpS n w v M cur) (hb : w.heap[Nx]? = some (.cells cs t (0, 0))) (ht : t ≠ 5) (hne : ∀ k, v.ownBlock = some k → k ≠ Nx) (u : Value) : CpS n (w.setCell ⟨Nx, i, none⟩ u) v M cur := by
  refine ⟨⟨h.1.1.same fun k hk' => ?_, h.1.2⟩, h.2.1, fun z hz => (h.2.2 z hz).far hb ht u⟩
  have hk := hne k hk'
  have hk2 : Nx ≠ k := fun e => hk e.symm
  simp [World.setCell, Array.getElem?_modify, hk2]
theorem rr_block {n₀ : Nat} {w : World} {q : Nat} {l : List Nat} {a b : Nat} (h : Wi.Rr n₀ w q l a b) : ∃ cs, w.heap[q]? = some (.cells cs 68 (0, 0)) := by
  obtain ⟨sv, h1, _⟩ := h
  exact ⟨_, h1⟩
theorem rr_belowN {N n₀ q : Nat} {w w' : World} {l : List Nat} {a b : Nat} (h : Wi.Rr n₀ w q l a b) (hb : Below N w w') (hq : q < N) (hn : n₀ ≤ N) : Wi.Rr n₀ w' q l a b := by
  obtain ⟨sv, h1, h2, h3, h4⟩ := h
  exact ⟨sv, (hb.block q hq).trans h1, Wi.Bs.below h2 (hb.mono hn), h3, h4⟩
theorem st_one {w : World} {g : Nat} {a b c : Value} {t : TypeId} (h : w.heap[g]? = some (.cells #[a, b, c] t (0, 0))) (y : Value) : (w.setCell ⟨g, 1, none⟩ y).heap[g]? = some (.cells #[a, y, c] t (0, 0)) := by
  simp [World.setCell, Array.getElem?_modify, h]
theorem st_two {w : World} {g : Nat} {a b c : Value} {t : TypeId} (h : w.heap[g]? = some (.cells #[a, b, c] t (0, 0))) (y : Value) : (w.setCell ⟨g, 2, none⟩ y).heap[g]? = some (.cells #[a, b, y] t (0, 0)) := by
  simp [World.setCell, Array.getElem?_modify, h]
theorem str_inj {l r : List Nat} (hl : ∀ c ∈ l, c < 256) (hr : ∀ c ∈ r, c < 256) (h : (Wi.str l).toList = (Wi.str r).toList) : l = r := by
  have key : ∀ l : List Nat, (∀ c ∈ l, c < 256) → (l.map UInt8.ofNat).map UInt8.toNat = l := fun l hl => by
    rw [List.map_map]
    conv => rhs; rw [← List.map_id l]
    apply List.map_congr_left
    intro x hx
    have := hl x hx
    simp [Nat.mod_eq_of_lt this]
  have h2 : l.map UInt8.ofNat = r.map UInt8.ofNat := by
    have e : ∀ l : List Nat, (Wi.str l).toList = l.map UInt8.ofNat := fun l => by
      simp [Wi.str, ByteArray.toList_eq]
    rw [e, e] at h
    exact h
  rw [← key l hl, h2, key r hr]
end Go.Proofs.Ytebkfkijlopmoaa

