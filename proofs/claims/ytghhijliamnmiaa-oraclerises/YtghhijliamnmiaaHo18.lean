import Derived.Test.YtghhijliamnmiaaHo17
/- The document's own reader in its block, and the contracts of its small functions (next, wrong, Done). -/
namespace Go.Proofs.Ytghhijliamnmiaa.Wi
open Go.RowKit WireMath
set_option maxRecDepth 100000
set_option linter.unusedSimpArgs false

/-- The document's reader in block r: bytes (below block n₀), a place, what was wrong. -/
def Rr (n₀ : Nat) (w : World) (r : Nat) (l : List Nat) (at_ bad : Nat) : Prop :=
  ∃ sv, w.heap[r]? = some (.cells #[sv, .int .i64 (at_ : Int), .int .i64 (bad : Int)] 59 (0, 0)) ∧ Bs n₀ w sv l ∧ at_ ≤ l.length ∧ n₀ ≤ r

theorem Rr.lt {n₀ : Nat} {w : World} {r : Nat} {l : List Nat} {a b : Nat} (h : Rr n₀ w r l a b) : r < w.heap.size := by
  obtain ⟨sv, h1, _⟩ := h
  exact (Array.getElem?_eq_some_iff.1 h1).1
theorem Rr.below {n₀ : Nat} {w w' : World} {r : Nat} {l : List Nat} {a b : Nat} (h : Rr n₀ w r l a b) (hb : Below w.heap.size w w') : Rr n₀ w' r l a b := by
  have hq := h.lt
  obtain ⟨sv, h1, h2, h3, h4⟩ := h
  exact ⟨sv, (hb.block r hq).trans h1, h2.below (hb.mono (by omega)), h3, h4⟩
theorem Bs.kp0 {n₀ q : Nat} {w w' : World} {v : Value} {l : List Nat} (h : Bs n₀ w v l) (hk : Kp q w w') (hn : n₀ ≤ q) : Bs n₀ w' v l := by
  obtain ⟨ao, cap, rfl, h2, h3, h4, h5⟩ := h
  exact ⟨ao, cap, rfl, h2, h3, h4, fun hne => by
    obtain ⟨b, off, e1, e2, e3⟩ := h5 hne
    subst e1
    exact ⟨b, off, rfl, e2, fun j c hj => hk.cell (a := ⟨b, off + j, none⟩) (e3 j c hj) (fun e => absurd (by simpa using e : b = q) (by omega))⟩⟩
/-- The program's reader turns, the document's stays. -/
theorem Rr.kp {n₀ q : Nat} {w w' : World} {r : Nat} {l : List Nat} {a b : Nat} (h : Rr n₀ w r l a b) (hk : Kp q w w') (hn : n₀ ≤ q) (hqr : q ≠ r) : Rr n₀ w' r l a b := by
  have hr := h.lt
  obtain ⟨sv, h1, h2, h3, h4⟩ := h
  exact ⟨sv, (hk.block r hr (fun e => hqr (by simpa using e.symm))).trans h1, h2.kp0 hk hn, h3, h4⟩
/-- The document's reader turns, the program's stays. -/
theorem Rd.kp {q r : Nat} {w w' : World} {l : List Nat} {a b : Nat} (h : Rd w q l a b) (hk : Kp r w w') (hqr : q < r) : Rd w' q l a b := by
  have hq := h.lt
  obtain ⟨sv, h1, h2, h3⟩ := h
  exact ⟨sv, (hk.block q hq (fun e => by have : q = r := by simpa using e
                                         omega)).trans h1, h2.kp0 hk (Nat.le_of_lt hqr), h3⟩

theorem src_ne {l : List Nat} {a b c : Nat} {t : List Nat} (h : src l a b = c :: t) : b = 0 ∧ a < l.length ∧ l[a]? = some c ∧ t = src l (a + 1) 0 := by
  unfold src at h
  split at h
  · rename_i hb
    have hl : a < l.length := by
      rcases Nat.lt_or_ge a l.length with h1 | h1
      · exact h1
      · rw [List.drop_eq_nil_of_le h1] at h; cases h
    rw [List.drop_eq_getElem_cons hl] at h
    injection h with h1 h2
    exact ⟨hb, hl, by rw [List.getElem?_eq_getElem hl, h1], by rw [← h2]; rfl⟩
  · cases h
theorem src_nil {l : List Nat} {a b : Nat} (h : src l a b = []) : b ≠ 0 ∨ l.length ≤ a := by
  unfold src at h
  split at h
  · right; simpa using h
  · left; assumption

set_option maxHeartbeats 1000000 in
theorem next_none (n₀ r : Nat) (l : List Nat) (a b : Nat) (w : World) (h : Rr n₀ w r l a b) (hs : src l a b = []) :
    Calls Try.prog 37 #[.pointer (some ⟨r, 0, none⟩)] w fun e w' => e = .returned (.tuple #[.int .u8 0, .bool false]) ∧ Below w.heap.size w w' := by
  obtain ⟨sv, h1, h2, h3, h4⟩ := id h
  obtain ⟨ao, cap, rfl, g2, g3, _⟩ := h2
  have c0 : w.cell? ⟨r, 0, none⟩ = some (.slice ao l.length cap) := by rw [cells_of_block h1]; rfl
  have c1 : w.cell? ⟨r, 1, none⟩ = some (.int .i64 (a : Int)) := by rw [cells_of_block h1]; rfl
  have c2 : w.cell? ⟨r, 2, none⟩ = some (.int .i64 (b : Int)) := by rw [cells_of_block h1]; rfl
  by_cases hb : b = 0
  · subst hb
    have hal : l.length ≤ a := by rcases src_nil hs with h | h <;> simp_all
    have hal2 : (l.length : Int) ≤ (a : Int) := by omega
    clear hs
    go_enter Try.func37, Try.ntmps37
    go_wp2
    go_quiet (fail)
    go_wp2
    go_ret2
    exact ⟨rfl, below_drewN (Below.refl _ _) _⟩
  · have hb2 : ¬ (b : Int) = 0 := by omega
    have hb3 : ((b : Int) != 0) = true := by simp; omega
    clear hs
    go_enter Try.func37, Try.ntmps37
    go_wp2
    go_quiet (fail)
    go_wp2
    go_ret2
    exact ⟨rfl, below_drewN (Below.refl _ _) _⟩

theorem Rr.set_at {n₀ r : Nat} {l : List Nat} {a b : Nat} {w : World} (h : Rr n₀ w r l a b) (k : Nat) (hk : k ≤ l.length) : Rr n₀ (w.setCell ⟨r, 1, none⟩ (.int .i64 (k : Int))) r l k b := by
  obtain ⟨sv, h1, h2, h3, h4⟩ := h
  exact ⟨sv, Go.Proofs.Ytghhijliamnmiaa.Wi.set_at h1 _, h2.kp0 (Kp.set r 1 _ _) h4, hk, h4⟩
theorem Rr.set_bad {n₀ r : Nat} {l : List Nat} {a b : Nat} {w : World} (h : Rr n₀ w r l a b) (c : Nat) : Rr n₀ (w.setCell ⟨r, 2, none⟩ (.int .i64 (c : Int))) r l a c := by
  obtain ⟨sv, h1, h2, h3, h4⟩ := h
  exact ⟨sv, Go.Proofs.Ytghhijliamnmiaa.Wi.set_bad h1 _, h2.kp0 (Kp.set r 2 _ _) h4, h3, h4⟩
theorem Rr.drewN {n₀ r : Nat} {l : List Nat} {a b : Nat} {w : World} (h : Rr n₀ w r l a b) (k : Nat) : Rr n₀ (w.drewN k) r l a b := h.below (below_drewN (Below.refl _ _) _)

set_option maxHeartbeats 2000000 in
theorem next_some (n₀ r : Nat) (l : List Nat) (a b c : Nat) (t : List Nat) (w : World) (h : Rr n₀ w r l a b) (hs : src l a b = c :: t) :
    Calls Try.prog 37 #[.pointer (some ⟨r, 0, none⟩)] w fun e w' => e = .returned (.tuple #[.int .u8 (c : Int), .bool true]) ∧ Rr n₀ w' r l (a + 1) b ∧ Kp r w w' := by
  obtain ⟨rfl, hal, hc, -⟩ := src_ne hs
  clear hs
  obtain ⟨sv, h1, h2, h3, h4⟩ := id h
  obtain ⟨ao, cap, rfl, g2, g3, _, g5⟩ := id h2
  obtain ⟨bb, off, rfl, hbb, hcell⟩ := g5 (by rintro rfl; simp at hal)
  have hx := hcell a c hc
  have c0 : w.cell? ⟨r, 0, none⟩ = some (.slice (some ⟨bb, off, none⟩) l.length cap) := by rw [cells_of_block h1]; rfl
  have c1 : w.cell? ⟨r, 1, none⟩ = some (.int .i64 (a : Int)) := by rw [cells_of_block h1]; rfl
  have c2 : w.cell? ⟨r, 2, none⟩ = some (.int .i64 0) := by rw [cells_of_block h1]; rfl
  have f1 := frozen_of h1 1
  have hal2 : ¬ (l.length : Int) ≤ (a : Int) := by omega
  have hal3 : (a : Int) < (l.length : Int) := by omega
  have hm : (l.length : Int) ≤ 9223372036854775807 := by unfold maxLen at g3; omega
  have q1 : IntKind.i64.wrap ((a : Int) + 1) = (a : Int) + 1 := IntWalk.i64_in _ (by omega)
  clear g5 hcell hc
  go_enter Try.func37, Try.ntmps37
  go_wp2
  go_quiet (fail)
  have hR0 := h.drewN nq
  go_wp2
  have hR1 : Rr n₀ ((w.drewN nq).setCell ⟨r, 1, none⟩ (.int .i64 ((a : Int) + 1))) r l (a + 1) 0 := hR0.set_at (a + 1) (by omega)
  have hk1 := Kp.set r 1 (.int .i64 ((a : Int) + 1)) (w.drewN nq)
  go_quiet (fail)
  go_wp2
  go_ret2
  exact ⟨rfl, hR1.drewN _, ((Kp.of_below (below_drewN (Below.refl _ _) _)).trans hk1).trans (Kp.of_below (below_drewN (Below.refl _ _) _))⟩

set_option maxHeartbeats 1000000 in
theorem wrong_of (n₀ r : Nat) (l : List Nat) (a b c k : Nat) (w : World) (hR : Rr n₀ w r l a b) (hk : k ≤ l.length) :
    Calls Try.prog 38 #[.pointer (some ⟨r, 0, none⟩), .int .i64 (c : Int), .int .i64 (k : Int)] w fun e w' => e = .returned (.tuple #[]) ∧ Rr n₀ w' r l (if b = 0 then k else a) (wb b c) ∧ Kp r w w' := by
  obtain ⟨sv, h1, h2, h3, h4⟩ := id hR
  have c2 : w.cell? ⟨r, 2, none⟩ = some (.int .i64 (b : Int)) := by rw [cells_of_block h1]; rfl
  have f2 := frozen_of h1 2
  by_cases hb : b = 0
  · subst hb
    have hs := hR.set_bad c
    obtain ⟨sv', h1', _⟩ := id hs
    have f1 := frozen_of h1' 1
    have c1 : (w.setCell ⟨r, 2, none⟩ (.int .i64 (c : Int))).cell? ⟨r, 1, none⟩ = some (.int .i64 (a : Int)) := by rw [cells_of_block h1']; rfl
    go_enter Try.func38, Try.ntmps38
    go_wp2
    go_end0
    exact ⟨rfl, hs.set_at k hk, (Kp.set r 2 _ _).trans (Kp.set r 1 _ _)⟩
  · have hb2 : ¬ (b : Int) = 0 := by omega
    have hb' : ((b : Int) == 0) = false := by simp; omega
    go_enter Try.func38, Try.ntmps38
    go_wp2
    go_end0
    exact ⟨rfl, by rw [show wb b c = b by unfold wb; rw [if_neg hb]]; exact hR, Kp.refl _ _⟩

end Go.Proofs.Ytghhijliamnmiaa.Wi

