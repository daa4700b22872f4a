import Derived.Test.YtncoandnelgkeaaGreatHc10
/- The program's agree. -/
namespace RlogMath
end RlogMath
namespace Go.Proofs.YtncoandnelgkeaaGreat
open Go.RowKit QuorumMath RlogMath
set_option maxRecDepth 100000
set_option linter.unusedSimpArgs false
set_option linter.unusedVariables false

/-- The end of a slice, whatever it lies on. -/
theorem Rd.back' {w : World} {ao : Option Addr} {n cap : Nat} {xs : List Ez} (h : Rd entE w (.slice ao n cap) xs) {k : Nat} (hk : k ≤ xs.length) : Rd entE w (.slice (if cap = k then ao else ao.map (fun x => x.add (k * 4))) (n - k) (cap - k)) (xs.drop k) := by
  cases ao with
  | none =>
    obtain ⟨ao', cap', e, h0, h1, h2⟩ := h
    cases e
    have := h1 rfl
    subst this
    obtain rfl : xs = [] := List.eq_nil_of_length_eq_zero (by omega)
    obtain rfl : k = 0 := by simpa using hk
    exact ⟨none, 0, by simp, by simp, fun _ => rfl, fun i x j u hx => by simp at hx⟩
  | some ad =>
    by_cases hn : xs.length = 0
    · obtain rfl : xs = [] := List.eq_nil_of_length_eq_zero hn
      obtain rfl : k = 0 := by simpa using hk
      obtain ⟨ao', cap', e, h0, h1, h2⟩ := h
      cases e
      exact ⟨if cap = 0 then some ad else (some ad).map (fun x => x.add (0 * 4)), cap - 0, rfl, by simp, (by split <;> simp), fun i x j u hx => by simp at hx⟩
    · obtain ⟨b, off, e, -⟩ := rde_at h (List.getElem?_eq_getElem (show 0 < xs.length by omega))
      obtain rfl := Option.some.inj e
      have h9 := Rd.back h hk
      rw [show (Option.map (fun x => Addr.add x (k * 4)) (some (⟨b, off, none⟩ : Addr))) = some ⟨b, off + k * 4, none⟩ by simp [Addr.add_lit]]
      exact h9
end Go.Proofs.YtncoandnelgkeaaGreat

/- Merging: plain mathematics. -/
namespace RlogMath
open QuorumMath
theorem termF_in {x t : Nat} : ∀ {l : List Me}, termF l x = some t → ∃ (k : Nat) (e : Me), l[k]? = some e ∧ e.idx = x ∧ e.term = t
  | [], h => by simp [termF] at h
  | a :: l, h => by
    rw [termF] at h
    split at h
    · exact ⟨0, a, rfl, by assumption, Option.some.inj h⟩
    · obtain ⟨k, e, h1, h2, h3⟩ := termF_in h
      exact ⟨k + 1, e, h1, h2, h3⟩
/-- Where there is a term, there is an entry, or the base. -/
theorem term_place {b : Me} {l : List Me} {x t : Nat} (h : mayB b l = true) (ht : termM b l x = some t) : b.idx ≤ x ∧ x - b.idx ≤ l.length := by
  unfold termM at ht
  split at ht
  · omega
  · obtain ⟨k, e, h1, h2, h3⟩ := termF_in ht
    have h4 := may_num h h1
    have h5 := (List.getElem?_eq_some_iff.1 h1).1
    omega
end RlogMath

/- The program's Merge. -/
namespace Go.Proofs.YtncoandnelgkeaaGreat
open Go.RowKit QuorumMath RlogMath
set_option maxRecDepth 100000
set_option linter.unusedSimpArgs false
set_option linter.unusedVariables false

/-- What Merge tells. -/
def Lg3T (r : Int × Me × List Me × Nat) (e : Ending) (w' : World) : Prop := ∃ v, e = .returned (.tuple #[v, .int .u64 (r.2.2.2 : Int), .int .i64 r.1]) ∧ LogM w' v r.2.1 r.2.2.1
/-- The same, of copies. -/
def Lg3C (r : Int × Me × List Me × Nat) (e : Ending) (w' : World) : Prop := ∃ v, e = .returned (.tuple #[v, .int .u64 (r.2.2.2 : Int), .int .i64 r.1]) ∧ LogC 0 w' v r.2.1 r.2.2.1
theorem Lg3C.lg {r : Int × Me × List Me × Nat} {e : Ending} {w' : World} (h : Lg3C r e w') : Lg3T r e w' := by
  obtain ⟨v, h1, h2⟩ := h
  exact ⟨v, h1, h2.logM⟩
theorem EntsV.front {w : World} {ao : Option Addr} {n cap : Nat} {xs : List Ez} (h : EntsV w (.slice ao n cap) xs) {k : Nat} (hk : k ≤ xs.length) : EntsV w (.slice ao k cap) (xs.take k) := ⟨h.1.front hk, fun z hz => h.2 z (List.mem_of_mem_take hz)⟩
theorem EntsV.back {w : World} {ao : Option Addr} {n cap : Nat} {xs : List Ez} (h : EntsV w (.slice ao n cap) xs) {k : Nat} (hk : k ≤ xs.length) : EntsV w (.slice (if cap = k then ao else ao.map (fun x => x.add (k * 4))) (n - k) (cap - k)) (xs.drop k) := ⟨h.1.back' hk, fun z hz => h.2 z (List.mem_of_mem_drop hz)⟩

end Go.Proofs.YtncoandnelgkeaaGreat

