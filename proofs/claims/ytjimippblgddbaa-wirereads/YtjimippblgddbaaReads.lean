/- The law's own reads: both readers tell the same of an item, and stand where they stood alike. -/
import Derived.Test.YtjimippblgddbaaRefBy
import Derived.Test.YtjimippblgddbaaDone
import Derived.Test.YtjimippblgddbaaRf
import Derived.Deep.RegionWith
namespace Go.Proofs.Ytjimippblgddbaa
open Go.RowKit WireMath
set_option maxRecDepth 100000
set_option linter.unusedSimpArgs false

set_option maxHeartbeats 1000000 in
theorem left_q (q : Nat) (l : List Nat) (a b : Nat) (w : World) (h : Rd w q l a b) :
    Calls Try.prog 19 #[.pointer (some ⟨q, 0, none⟩)] w fun e w' => e = .returned (.int .i64 ((l.length : Int) - (a : Int))) ∧ ∃ k, w' = w.drewN k := by
  obtain ⟨sv, h1, h2, h3⟩ := h
  obtain ⟨ao, cap, rfl, g2, g3, _⟩ := h2
  have c0 : w.cell? ⟨q, 0, none⟩ = some (.slice ao l.length cap) := by rw [cells_of_block h1]; rfl
  have c1 : w.cell? ⟨q, 1, none⟩ = some (.int .i64 (a : Int)) := by rw [cells_of_block h1]; rfl
  have q1 : IntKind.i64.wrap ((l.length : Int) - (a : Int)) = (l.length : Int) - (a : Int) := IntWalk.i64_in _ (by unfold maxLen at g3; omega)
  go_enter Try.func19, Try.ntmps19
  go_wp2
  go_quiet (fail)
  go_wp2
  go_ret
  exact ⟨rfl, nq, rfl⟩

/-- What Done tells. -/
def dn (l : List Nat) (a b : Nat) : Nat := if b = 0 ∧ a < l.length then 5 else b

theorem Rd.drewN {q : Nat} {l : List Nat} {a b : Nat} {w : World} (h : Rd w q l a b) (k : Nat) : Rd (w.drewN k) q l a b := h.below (below_drewN (Below.refl _ _) _)

set_option maxHeartbeats 1000000 in
theorem done_q (q : Nat) (l : List Nat) (a b : Nat) (w : World) (h : Rd w q l a b) :
    Calls Try.prog 18 #[.pointer (some ⟨q, 0, none⟩)] w fun e w' => e = .returned (.int .i64 (dn l a b : Int)) ∧ ∃ k, w' = w.drewN k := by
  have hL := left_q q l a b w h
  obtain ⟨sv, h1, h2, h3⟩ := id h
  have c2 : w.cell? ⟨q, 2, none⟩ = some (.int .i64 (b : Int)) := by rw [cells_of_block h1]; rfl
  unfold dn
  by_cases hb : b = 0
  · subst hb
    by_cases hlt : a < l.length
    · have hp : ¬ (l.length : Int) - (a : Int) ≤ 0 := by omega
      rw [if_pos ⟨rfl, hlt⟩]
      go_enter Try.func18, Try.ntmps18
      go_wp2_with (go_at_call 20; refine (err_of q 0 _ c2).mono ?_; rintro e wx ⟨rfl, hwx⟩; rw [hwx]; clear hwx wx)
      refine hL.mono ?_
      rintro e w1 ⟨rfl, k1, rfl⟩
      go_wp2
      go_ret
      exact ⟨rfl, k1, rfl⟩
    · have hp : (l.length : Int) - (a : Int) ≤ 0 := by omega
      rw [if_neg (fun h => hlt h.2)]
      go_enter Try.func18, Try.ntmps18
      go_wp2_with (go_at_call 20; refine (err_of q 0 _ c2).mono ?_; rintro e wx ⟨rfl, hwx⟩; rw [hwx]; clear hwx wx)
      refine hL.mono ?_
      rintro e w1 ⟨rfl, k1, rfl⟩
      have c2' : (w.drewN k1).cell? ⟨q, 2, none⟩ = some (.int .i64 0) := c2
      go_wp2_with fail
      refine (err_of q 0 _ c2').mono ?_
      rintro e wy ⟨rfl, hwy⟩
      rw [hwy]
      clear hwy wy
      go_wp2
      go_ret
      exact ⟨rfl, k1, rfl⟩
  · rw [if_neg (fun h => hb h.1)]
    have hb' : ((b : Int) == 0) = false := by simp; omega
    have hb2 : ¬ (b : Int) = 0 := by omega
    go_enter Try.func18, Try.ntmps18
    go_wp2_with (go_at_call 20; refine (err_of q b _ c2).mono ?_; rintro e wx ⟨rfl, hwx⟩; subst hwx)
    go_ret
    exact ⟨rfl, 0, rfl⟩

set_option maxHeartbeats 1000000 in
theorem rdone_q (n₀ r : Nat) (l : List Nat) (a b : Nat) (w : World) (h : Rr n₀ w r l a b) :
    Calls Try.prog 38 #[.pointer (some ⟨r, 0, none⟩)] w fun e w' => e = .returned (.int .i64 (dn l a b : Int)) ∧ ∃ k, w' = w.drewN k := by
  obtain ⟨sv, h1, h2, h3, h4⟩ := id h
  obtain ⟨ao, cap, rfl, g2, g3, _⟩ := h2
  have c0 : w.cell? ⟨r, 0, none⟩ = some (.slice ao l.length cap) := by rw [cells_of_block h1]; rfl
  have c1 : w.cell? ⟨r, 1, none⟩ = some (.int .i64 (a : Int)) := by rw [cells_of_block h1]; rfl
  have c2 : w.cell? ⟨r, 2, none⟩ = some (.int .i64 (b : Int)) := by rw [cells_of_block h1]; rfl
  unfold dn
  by_cases hb : b = 0
  · subst hb
    by_cases hlt : a < l.length
    · have hp : (a : Int) < (l.length : Int) := by omega
      rw [if_pos ⟨rfl, hlt⟩]
      go_enter Try.func38, Try.ntmps38
      go_wp2
      go_quiet (fail)
      go_wp2
      go_ret
      exact ⟨rfl, nq, rfl⟩
    · have hp : ¬ (a : Int) < (l.length : Int) := by omega
      rw [if_neg (fun h => hlt h.2)]
      go_enter Try.func38, Try.ntmps38
      go_wp2
      go_quiet (fail)
      go_wp2
      go_ret
      exact ⟨rfl, nq, rfl⟩
  · rw [if_neg (fun h => hb h.1)]
    have hb' : ((b : Int) == 0) = false := by simp; omega
    have hb2 : ¬ (b : Int) = 0 := by omega
    go_enter Try.func38, Try.ntmps38
    go_wp2
    go_quiet (fail)
    go_wp2
    go_ret
    exact ⟨rfl, nq, rfl⟩

/-- Both readers stand alike. -/
def Two (n₀ : Nat) (w : World) (q r : Nat) (l : List Nat) (a b : Nat) : Prop := Rd w q l a b ∧ Rr n₀ w r l a b ∧ n₀ ≤ q ∧ q < r

theorem Two.facts {n₀ q r : Nat} {l : List Nat} {a b : Nat} {w : World} (h : Two n₀ w q r l a b) :
    (∃ ao cap, w.cell? ⟨r, 0, none⟩ = some (.slice ao l.length cap)) ∧ w.cell? ⟨r, 1, none⟩ = some (.int .i64 (a : Int)) ∧ w.cell? ⟨r, 2, none⟩ = some (.int .i64 (b : Int)) ∧ w.cell? ⟨q, 2, none⟩ = some (.int .i64 (b : Int)) ∧ IntKind.i64.wrap ((l.length : Int) - (a : Int)) = (l.length : Int) - (a : Int) := by
  obtain ⟨⟨sp, p1, p2, p3⟩, ⟨sv, h1, h2, h3, h4⟩, -, -⟩ := h
  obtain ⟨ao, cap, rfl, g2, g3, _⟩ := h2
  exact ⟨⟨ao, cap, by rw [cells_of_block h1]; rfl⟩, by rw [cells_of_block h1]; rfl, by rw [cells_of_block h1]; rfl, by rw [cells_of_block p1]; rfl, IntWalk.i64_in _ (by unfold maxLen at g3; omega)⟩

/-- What reads leaves. -/
def Left2 (n₀ : Nat) (w : World) (q r : Nat) (l : List Nat) (e : Ending) (w' : World) : Prop := e = .returned (.bool true) ∧ (∃ a b, Two n₀ w' q r l a b) ∧ Below n₀ w w'

theorem byL_bytes {l : List Nat} {a b : Nat} {m : Int} (hl : ∀ c ∈ l, c < 256) : ∀ c ∈ byL l a b m, c < 256 := by
  unfold byL
  intro c hc
  split at hc
  · simp at hc
  · split at hc
    · split at hc
      · exact src_bytes hl c (List.mem_of_mem_drop (List.mem_of_mem_take hc))
      · simp at hc
    · simp at hc

/-- Bytes do not lie in a reader's own block. -/
theorem Bs.kpR {n n₀ r : Nat} {w w' : World} {v : Value} {l s : List Nat} {a b : Nat} (h : Bs n w v s) (hr : Rr n₀ w r l a b) (hk : Kp r w w') : Bs n w' v s := by
  obtain ⟨ao, cap, rfl, h2, h3, h4, h5⟩ := h
  obtain ⟨sv, g1, g2, _⟩ := hr
  obtain ⟨ao2, cap2, rfl, _⟩ := g2
  refine ⟨ao, cap, rfl, h2, h3, h4, fun hne => ?_⟩
  obtain ⟨b, off, e1, e2, e3⟩ := h5 hne
  subst e1
  refine ⟨b, off, rfl, e2, fun j c hj => hk.cell (a := ⟨b, off + j, none⟩) (e3 j c hj) (fun e => ?_)⟩
  have hb : b = r := by simpa using e
  subst hb
  have hx := e3 j c hj
  rw [cells_of_block g1] at hx
  match h : off + j with
  | 0 => rw [h] at hx; simp at hx
  | 1 => rw [h] at hx; simp at hx
  | 2 => rw [h] at hx; simp at hx
  | k + 3 => rw [h] at hx; simp at hx
end Go.Proofs.Ytjimippblgddbaa
