import Derived.Test.YtoipjmjhplkibaaDoorQ07
import Derived.Test.YtoipjmjhplkibaaDoorQ08
/- The document's own reader in its block, and the contracts of its small functions (next, wrong, Done). -/
namespace Go.Proofs.YtoipjmjhplkibaaDoor.Fr
open Go.RowKit WireMath
set_option maxRecDepth 100000
set_option linter.unusedSimpArgs false

theorem Bs.kp0 {n₀ q : Nat} {w w' : World} {v : Value} {l : List Nat} (h : Bs n₀ w v l) (hk : Kp q w w') (hn : n₀ ≤ q) : Bs n₀ w' v l := by
  obtain ⟨ao, cap, rfl, h2, h3, h4, h5⟩ := h
  exact ⟨ao, cap, rfl, h2, h3, h4, fun hne => by
    obtain ⟨b, off, e1, e2, e3⟩ := h5 hne
    subst e1
    exact ⟨b, off, rfl, e2, fun j c hj => hk.cell (a := ⟨b, off + j, none⟩) (e3 j c hj) (fun e => absurd (by simpa using e : b = q) (by omega))⟩⟩
/-- The document's reader turns, the program's stays. -/
theorem Rd.kp {q r : Nat} {w w' : World} {l : List Nat} {a b : Nat} (h : Rd w q l a b) (hk : Kp r w w') (hqr : q < r) : Rd w' q l a b := by
  have hq := h.lt
  obtain ⟨sv, h1, h2, h3⟩ := h
  exact ⟨sv, (hk.block q hq (fun e => by have : q = r := by simpa using e
                                         omega)).trans h1, h2.kp0 hk (Nat.le_of_lt hqr), h3⟩

theorem src_ne {l : List Nat} {a b c : Nat} {t : List Nat} (h : src l a b = c :: t) : b = 0 ∧ a < l.length ∧ l[a]? = some c ∧ t = src l (a + 1) 0 := by
  unfold src at h
  split at h
  · rename_i hb
    have hl : a < l.length := by
      rcases Nat.lt_or_ge a l.length with h1 | h1
      · exact h1
      · rw [List.drop_eq_nil_of_le h1] at h; cases h
    rw [List.drop_eq_getElem_cons hl] at h
    injection h with h1 h2
    exact ⟨hb, hl, by rw [List.getElem?_eq_getElem hl, h1], by rw [← h2]; rfl⟩
  · cases h
theorem src_nil {l : List Nat} {a b : Nat} (h : src l a b = []) : b ≠ 0 ∨ l.length ≤ a := by
  unfold src at h
  split at h
  · right; simpa using h
  · left; assumption

end Go.Proofs.YtoipjmjhplkibaaDoor.Fr

/- The contracts of the document's ReadUvarint, ReadVarint and ReadFixed: they tell, and leave, what the program's readers do. -/
namespace Go.Proofs.YtoipjmjhplkibaaDoor.Fr
open Go.RowKit WireMath
set_option maxRecDepth 100000
set_option linter.unusedSimpArgs false

theorem src_drop {l : List Nat} {a i : Nat} : (src l a 0).drop i = src l (a + i) 0 := by
  simp [src, List.drop_drop]

theorem uv_none {l : List Nat} {a b : Nat} (h : rd 10 0 0 (src l a b) = none) : uvN l a b = 0 ∧ uvA l a b = a ∧ uvE l a b = wb b 5 := by
  refine ⟨by simp [uvN, h], by simp [uvA, h], by simp [uvE, h]⟩
theorem uv_some {l : List Nat} {a b n k : Nat} (h : rd 10 0 0 (src l a b) = some (n, k)) : uvN l a b = n ∧ uvA l a b = a + k ∧ uvE l a b = b := by
  refine ⟨by simp [uvN, h], by simp [uvA, h], by simp [uvE, h]⟩

/-- Where nothing is read behind what was wrong. -/
theorem rd_bad {l : List Nat} {a b : Nat} (hb : b ≠ 0) : rd 10 0 0 (src l a b) = none := by
  have : src l a b = [] := by unfold src; rw [if_neg hb]
  rw [this]; rfl

end Go.Proofs.YtoipjmjhplkibaaDoor.Fr

