import Derived.Test.YtfpbgfmnjpamlaaGreatHu16
/- What slices' ends and rows of one read like; what put tells. -/
namespace Go.Proofs.YtfpbgfmnjpamlaaGreat
open Go.RowKit LeaseMath
set_option maxRecDepth 100000
set_option linter.unusedSimpArgs false
set_option linter.unusedVariables false

theorem wanted_none {o : Oper} {y : Nat → Option Bool} (h : o.guard = none) : Region.wanted o y = true := by
 unfold Region.wanted
 rw [h]
theorem rd_back {α : Type} {E : El α} {w : World} {ao : Option Addr} {n cap : Nat} {xs : List α} (h : Rd E w (.slice ao n cap) xs) {k : Nat} (hk : k ≤ xs.length) : Rd E w (.slice (if cap = k then ao else ao.map (fun x => x.add (k * E.k))) (n - k) (cap - k)) (xs.drop k) := by
 cases ao with
 | none =>
  obtain ⟨ao', cap', e, h0, h1, h2⟩ := h
  cases e
  have := h1 rfl
  subst this
  obtain rfl : xs = [] := List.eq_nil_of_length_eq_zero (by omega)
  obtain rfl : k = 0 := by simpa using hk
  exact ⟨none, 0, by simp, by simp, fun _ => rfl, fun i x j u hx => by simp at hx⟩
 | some ad =>
  by_cases hn : xs.length = 0
  ·obtain rfl : xs = [] := List.eq_nil_of_length_eq_zero hn
   obtain rfl : k = 0 := by simpa using hk
   obtain ⟨ao', cap', e, h0, h1, h2⟩ := h
   cases e
   exact ⟨if cap = 0 then some ad else (some ad).map (fun x => x.add (0 * E.k)), cap - 0, rfl, by simp, (by split <;> simp), fun i x j u hx => by simp at hx⟩
  ·have hpos : 0 < xs.length := by omega
   obtain ⟨b, off, e, -⟩ : ∃ b off, (some ad : Option Addr) = some ⟨b, off, none⟩ ∧ True := by
    obtain ⟨ao', cap', e, h0, h1, h2⟩ := id h
    cases e
    obtain ⟨b, off, r1, _⟩ := h2 0 xs[0] 0 ((E.enc xs[0])[0]'(by rw [E.len]; exact E.pos)) (List.getElem?_eq_getElem hpos) (List.getElem?_eq_getElem _)
    exact ⟨b, off, r1, trivial⟩
   obtain rfl := Option.some.inj e
   have h9 := Rd.back h hk
   rw [show (Option.map (fun x => Addr.add x (k * E.k)) (some (⟨b, off, none⟩ : Addr))) = some ⟨b, off + k * E.k, none⟩ by simp [Addr.add_lit]]
   exact h9
/-- What is put: its answer. -/
def putC {β : Type} (l : List (K × β)) (k : Nat) (s : K × β) : List (K × β) × Int := if (keptM l k s).length ≤ 1024 then (keptM l k s, 0) else ([], 2)
theorem putC_has {β : Type} {l : List (K × β)} {k : Nat} {s : K × β} (hl : l.length ≤ 1024) (hk : k ≤ l.length) (h : hasB l k s.1 = true) : putC l k s = (l.take k ++ [s] ++ l.drop (k + 1), 0) := by
 unfold putC
 rw [if_pos (by rw [kept_len hk, h]; simpa using hl)]
 unfold keptM behN
 rw [h]
 rfl
theorem putC_full {β : Type} {l : List (K × β)} {k : Nat} {s : K × β} (hl : l.length = 1024) (hk : k ≤ l.length) (h : hasB l k s.1 = false) : putC l k s = ([], 2) := by
 unfold putC
 rw [if_neg (by rw [kept_len hk, h]; simp; omega)]
theorem putC_not {β : Type} {l : List (K × β)} {k : Nat} {s : K × β} (hl : l.length < 1024) (hk : k ≤ l.length) (h : hasB l k s.1 = false) : putC l k s = (l.take k ++ [s] ++ l.drop k, 0) := by
 unfold putC
 rw [if_pos (by rw [kept_len hk, h]; simp; omega)]
 unfold keptM behN
 rw [h]
 rfl
def PutT {α : Type} (E : El α) (t : TypeId) (n : Nat) (m : List α × Int) (e : Ending) (w' : World) : Prop := ∃ v, e = .returned (.tuple #[v, .int .i64 m.2]) ∧ Ow E t n w' v m.1
end Go.Proofs.YtfpbgfmnjpamlaaGreat

