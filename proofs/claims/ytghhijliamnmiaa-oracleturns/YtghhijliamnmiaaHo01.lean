
/- Plain mathematics of windows: which may be; what is extended, taken, taken on. -/
namespace OracleMath
/-- A window: Next, Limit, Spent. -/
abbrev Wn := Nat × Nat × Bool
/-- The last token of all. -/
@[reducible] def topN : Nat := 18446744073709551615
def mayB (x : Wn) : Bool := !decide (x.1 = 0) && (!decide (x.2.1 < x.1 - 1) && (!x.2.2 || (decide (x.1 = topN) && decide (x.2.1 = topN))))
theorem may_iff {x : Wn} : mayB x = true ↔ x.1 ≠ 0 ∧ x.1 ≤ x.2.1 + 1 ∧ (x.2.2 = true → x.1 = topN ∧ x.2.1 = topN) := by
  obtain ⟨n, l, s⟩ := x
  cases s <;> simp [mayB] <;> omega
def OkW (x : Wn) : Prop := x.1 < 18446744073709551616 ∧ x.2.1 < 18446744073709551616
/-- Some more tokens: the code, the window. -/
def extM (x : Wn) (n : Int) : Wn × Int :=
  if mayB x = false ∨ n < 1 ∨ 65536 < n then ((0, 0, false), 1)
  else if x.2.1 = topN then ((0, 0, false), 11)
  else ((x.1, min (x.2.1 + n.toNat) topN, x.2.2), 0)
/-- What is behind a token. -/
def behM (x : Wn) (t : Nat) : Wn := if t = topN then (topN, x.2.1, true) else (t + 1, x.2.1, x.2.2)
/-- A token taken: the window, the token, the code. -/
def takM (x : Wn) : Wn × Nat × Int :=
  if mayB x = false then ((0, 0, false), 0, 1)
  else if x.2.2 = true then ((0, 0, false), 0, 11)
  else if x.2.1 < x.1 then ((0, 0, false), 0, 9)
  else (behM x x.1, x.1, 0)
def recM (x : Wn) : Wn × Int := if mayB x = false then ((0, 0, false), 1) else (behM x x.2.1, 0)
def lefM (x : Wn) : Nat := if mayB x = false ∨ x.2.2 = true then 0 else x.2.1 + 1 - x.1
theorem ok_ext {x : Wn} {n : Int} (h : OkW x) : OkW (extM x n).1 := by
  unfold extM OkW at *
  split
  · decide
  · split
    · decide
    · dsimp only [topN] at *; omega
theorem ok_tak {x : Wn} (h : OkW x) : OkW (takM x).1 := by
  unfold takM behM OkW at *
  repeat' split
  all_goals first | decide | (dsimp only [topN] at *; omega)
theorem ok_rec {x : Wn} (h : OkW x) : OkW (recM x).1 := by
  unfold recM behM OkW at *
  repeat' split
  all_goals first | decide | (dsimp only [topN] at *; omega)
theorem may_ext {x : Wn} {n : Int} (hb : OkW x) (h : (extM x n).2 = 0) : mayB (extM x n).1 = true ∧ (extM x n).1.1 = x.1 ∧ mayB x = true := by
  unfold extM OkW at *
  split at h
  · cases h
  · split at h
    · cases h
    · rename_i h1 h2
      rw [if_neg h1, if_neg h2]
      have hm : mayB x = true := by cases hb : mayB x with | true => rfl | false => exact absurd (.inl hb) h1
      refine ⟨?_, rfl, hm⟩
      obtain ⟨a, l, s⟩ := x
      rw [may_iff] at hm ⊢
      dsimp only [topN] at *
      obtain ⟨g1, g2, g3⟩ := hm
      refine ⟨g1, ?_, fun hs => ?_⟩
      · omega
      · have := g3 hs; omega
theorem may_beh {x : Wn} {t : Nat} (h : mayB x = true) (hs : x.2.2 = false) (ht : t ≤ x.2.1) (hb : x.2.1 < 18446744073709551616) : mayB (behM x t) = true := by
  obtain ⟨a, l, s⟩ := x
  unfold behM
  rw [may_iff] at h
  split
  · rw [may_iff]; dsimp only [topN] at *; refine ⟨by decide, by omega, fun _ => ⟨rfl, by omega⟩⟩
  · rw [may_iff]; dsimp only [topN] at *
    refine ⟨by omega, by omega, fun h => by rw [hs] at h; cases h⟩
theorem may_rec {x : Wn} (h : mayB x = true) (hb : OkW x) : (recM x).2 = 0 ∧ mayB (recM x).1 = true := by
  unfold recM
  rw [if_neg (by rw [h]; simp)]
  refine ⟨rfl, ?_⟩
  show mayB (behM x x.2.1) = true
  unfold behM OkW at *
  obtain ⟨a, l, s⟩ := x
  rw [may_iff] at h
  dsimp only [topN] at *
  split
  · rw [may_iff]; dsimp only [topN]; refine ⟨by decide, by omega, fun _ => ⟨rfl, by omega⟩⟩
  · rw [may_iff]; dsimp only [topN]; refine ⟨by omega, by omega, fun h9 => by have := h.2.2 h9; omega⟩
/-- What stands between two rounds: tokens told are below Next, or all are over. -/
structure Rs (x : Wn) (last : Nat) (some over : Bool) : Prop where
  may : mayB x = true
  low : some = true → last < x.1 ∨ x.2.2 = true
  end_ : over = true → x.2.2 = true
theorem Rs.ext {x : Wn} {last : Nat} {some over : Bool} (h : Rs x last some over) (hb : OkW x) {n : Int} (he : (extM x n).2 = 0) : Rs (extM x n).1 last some over := by
  obtain ⟨h1, h2, h3⟩ := may_ext hb he
  have hs : x.2.2 = true → (extM x n).1.2.2 = true := by
    unfold extM at he ⊢
    split at he
    · cases he
    · split at he
      · cases he
      · rename_i g1 g2
        rw [if_neg g1, if_neg g2]
        exact id
  exact ⟨h1, fun hh => by rw [h2]; rcases h.low hh with g | g; exact .inl g; exact .inr (hs g), fun hh => hs (h.end_ hh)⟩
theorem Rs.recov {x : Wn} {last : Nat} {some over : Bool} (h : Rs x last some over) (hb : OkW x) : (recM x).2 = 0 ∧ Rs (recM x).1 last some over := by
  obtain ⟨h1, h2⟩ := may_rec h.may hb
  refine ⟨h1, h2, fun hh => ?_, fun hh => ?_⟩
  · have g := h.low hh
    unfold recM behM at *
    rw [if_neg (by rw [h.may]; simp)] at *
    obtain ⟨a, l, s⟩ := x
    have hm := may_iff.1 h.may
    dsimp only [topN] at *
    split
    · exact .inr rfl
    · rcases g with g | g
      · exact .inl (by dsimp only; omega)
      · exact .inr g
  · have g := h.end_ hh
    have hm := (may_iff.1 h.may).2.2 g
    unfold recM behM
    rw [if_neg (by rw [h.may]; simp), if_pos hm.2]
theorem Rs.take {x : Wn} {last : Nat} {some over : Bool} (h : Rs x last some over) (hb : OkW x) : ((takM x).2.2 = 0 ∧ x.2.2 = false ∧ over = false ∧ (takM x).2.1 ≠ 0 ∧ (some = true → last < (takM x).2.1) ∧ Rs (takM x).1 (takM x).2.1 true false) ∨ ((takM x).2.1 = 0 ∧ (takM x).2.2 = 9 ∧ x.2.2 = false ∧ over = false) ∨ ((takM x).2.1 = 0 ∧ (takM x).2.2 = 11 ∧ Rs x last some true) := by
  unfold takM
  rw [if_neg (by rw [h.may]; simp)]
  cases hs : x.2.2 with
  | true =>
    right; right
    rw [if_pos rfl]
    exact ⟨rfl, rfl, h.may, h.low, fun _ => hs⟩
  | false =>
    have ho : over = false := by cases hov : over with | false => rfl | true => have := h.end_ hov; rw [hs] at this; cases this
    rw [if_neg (by simp)]
    split
    · right; left
      exact ⟨rfl, rfl, rfl, ho⟩
    · rename_i hl
      left
      have hm := may_iff.1 h.may
      refine ⟨rfl, rfl, ho, hm.1, fun hh => ?_, ?_⟩
      · rcases h.low hh with g | g
        · exact g
        · rw [hs] at g; cases g
      · refine ⟨may_beh h.may hs (by omega) hb.2, fun _ => ?_, fun hh => by cases hh⟩
        show x.1 < (behM x x.1).1 ∨ (behM x x.1).2.2 = true
        unfold behM
        split
        · exact .inr rfl
        · exact .inl (Nat.lt_succ_self _)
end OracleMath

