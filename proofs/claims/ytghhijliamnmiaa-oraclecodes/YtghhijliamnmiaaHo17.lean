import Derived.Test.YtghhijliamnmiaaHo16
/- The contracts of a reader's rest, fail and skip. -/
namespace Go.Proofs.Ytghhijliamnmiaa.Wi
open Go.RowKit WireMath
set_option maxRecDepth 100000
set_option linter.unusedSimpArgs false

theorem Bs.dropped {n : Nat} {w : World} {l : List Nat} {ad : Addr} {cap a : Nat} (h : Bs n w (.slice (some ad) l.length cap) l) (ha : a ≤ l.length) :
    (cap = a → Bs n w (.slice (some ad) (l.length - a) 0) (l.drop a)) ∧ (¬ cap = a → Bs n w (.slice (some (ad.add a)) (l.length - a) (cap - a)) (l.drop a)) := by
  obtain ⟨ao, cp, e0, h2, h3, h4, h5⟩ := h
  cases e0
  have hl : (l.drop a).length = l.length - a := List.length_drop
  constructor
  · rintro rfl
    have hd : l.drop cap = [] := List.drop_eq_nil_of_le h2
    rw [hd]
    refine ⟨some ad, 0, by rw [show l.length - cap = 0 by omega]; rfl, Nat.le_refl _, Nat.zero_le _, fun _ => rfl, fun h => absurd rfl h⟩
  · intro _
    refine ⟨some (ad.add a), cap - a, by rw [hl], by rw [hl]; omega, by omega, (fun h => by cases h), fun hne => ?_⟩
    obtain ⟨b, off, e1, e2, e3⟩ := h5 (by rintro rfl; simp at hne)
    obtain rfl := Option.some.inj e1
    refine ⟨b, off + a, by rw [Addr.add_lit], e2, fun j c hj => ?_⟩
    rw [List.getElem?_drop] at hj
    rw [Nat.add_assoc]
    exact e3 (a + j) c hj

set_option maxHeartbeats 1000000 in
theorem rest_of (q : Nat) (l : List Nat) (a b : Nat) (w : World) (h : Rd w q l a b) :
    Calls Try.prog 40 #[.pointer (some ⟨q, 0, none⟩)] w fun e w' => ∃ v, e = .returned v ∧ Bs q w' v (src l a b) ∧ Below w.heap.size w w' := by
  have hq := h.lt
  obtain ⟨sv, h1, h2, h3⟩ := id h
  have c2 : w.cell? ⟨q, 2, none⟩ = some (.int .i64 (b : Int)) := by rw [cells_of_block h1]; rfl
  have c1 : w.cell? ⟨q, 1, none⟩ = some (.int .i64 (a : Int)) := by rw [cells_of_block h1]; rfl
  have c0 : w.cell? ⟨q, 0, none⟩ = some sv := by rw [cells_of_block h1]; rfl
  by_cases hb : b = 0
  · subst hb
    have E : Hid (src l a 0 = l.drop a) := rfl
    obtain ⟨ao, cap, rfl, g2, g3, g4, g5⟩ := id h2
    have hcap : (cap : Int) ≤ 9223372036854775807 := by unfold maxLen at g3; omega
    cases ao with
    | none =>
      have h0 := g4 rfl
      subst h0
      obtain rfl : l = [] := List.eq_nil_of_length_eq_zero (by omega)
      obtain rfl : a = 0 := by simpa using h3
      go_enter Try.func40, Try.ntmps40
      go_wp2_with (go_at_call 35; refine (err_of q 0 _ c2).mono ?_; rintro e wx ⟨rfl, hwx⟩; subst hwx)
      go_quiet (fail)
      go_wp2
      go_ret
      exact ⟨_, rfl, by rw [E.out]; exact Bs.nil _ _, below_drewN (Below.refl _ _) _⟩
    | some ad =>
      have hBd := Bs.dropped h2 h3
      have ha : (a : Int) ≤ (l.length : Int) := by omega
      have hac : (a : Int) ≤ (cap : Int) := by omega
      go_enter Try.func40, Try.ntmps40
      go_wp2_with (go_at_call 35; refine (err_of q 0 _ c2).mono ?_; rintro e wx ⟨rfl, hwx⟩; subst hwx)
      go_quiet (fail)
      go_wp2
      all_goals go_ret
      · exact ⟨_, rfl, by rw [E.out]; exact (hBd.1 ‹_›).below (below_drewN (Below.refl _ _) _), below_drewN (Below.refl _ _) _⟩
      · exact ⟨_, rfl, by rw [E.out]; exact (hBd.2 ‹_›).below (below_drewN (Below.refl _ _) _), below_drewN (Below.refl _ _) _⟩
  · have hb2 : ¬ (b : Int) = 0 := by omega
    have hb' : ((b : Int) == 0) = false := by simp; omega
    have hb3 : ((b : Int) != 0) = true := by simp; omega
    have E : Hid (src l a b = []) := by show _ = _; unfold src; rw [if_neg hb]
    go_enter Try.func40, Try.ntmps40
    go_wp2_with (go_at_call 35; refine (err_of q b _ c2).mono ?_; rintro e wx ⟨rfl, hwx⟩; subst hwx)
    go_ret
    exact ⟨_, rfl, by rw [E.out]; exact Bs.nil _ _, Below.refl _ _⟩

set_option maxHeartbeats 1000000 in
theorem fail_of (q : Nat) (l : List Nat) (a b c : Nat) (w : World) (h : Rd w q l a b) :
    Calls Try.prog 41 #[.pointer (some ⟨q, 0, none⟩), .int .i64 (c : Int)] w fun e w' => e = .returned (.tuple #[]) ∧ Rd w' q l a (wb b c) ∧ Kp q w w' := by
  obtain ⟨sv, h1, h2, h3⟩ := id h
  have c2 : w.cell? ⟨q, 2, none⟩ = some (.int .i64 (b : Int)) := by rw [cells_of_block h1]; rfl
  have f2 := frozen_of h1 2
  by_cases hb : b = 0
  · subst hb
    go_enter Try.func41, Try.ntmps41
    go_wp2_with (go_at_call 35; refine (err_of q 0 _ c2).mono ?_; rintro e wx ⟨rfl, hwx⟩; subst hwx)
    go_end0
    exact ⟨rfl, ⟨sv, set_bad h1 _, h2.kp (Kp.set q 2 _ _), h3⟩, Kp.set q 2 _ _⟩
  · have hb2 : ¬ (b : Int) = 0 := by omega
    have hb' : ((b : Int) == 0) = false := by simp; omega
    go_enter Try.func41, Try.ntmps41
    go_wp2_with (go_at_call 35; refine (err_of q b _ c2).mono ?_; rintro e wx ⟨rfl, hwx⟩; subst hwx)
    go_end0
    exact ⟨rfl, by rw [show wb b c = b by unfold wb; rw [if_neg hb]]; exact h, Kp.refl _ _⟩

set_option maxHeartbeats 1000000 in
theorem skip_of (q : Nat) (l : List Nat) (a b k : Nat) (w : World) (h : Rd w q l a b) (hk : a + k ≤ l.length) :
    Calls Try.prog 33 #[.pointer (some ⟨q, 0, none⟩), .int .i64 (k : Int)] w fun e w' => e = .returned (.tuple #[]) ∧ Rd w' q l (a + k) b ∧ Kp q w w' := by
  obtain ⟨sv, h1, h2, h3⟩ := id h
  have c1 : w.cell? ⟨q, 1, none⟩ = some (.int .i64 (a : Int)) := by rw [cells_of_block h1]; rfl
  have f1 := frozen_of h1 1
  have hm : l.length ≤ maxLen := by obtain ⟨ao, cap, _, g2, g3, _⟩ := h2; omega
  unfold maxLen at hm
  by_cases hb : k = 0
  · subst hb
    go_enter Try.func33, Try.ntmps33
    go_wp2
    go_end0
    exact ⟨rfl, h, Kp.refl _ _⟩
  · have hb2 : ¬ (k : Int) ≤ 0 := by omega
    have hb3 : 0 < k := by omega
    have q1 : IntKind.i64.wrap ((a : Int) + (k : Int)) = (a : Int) + (k : Int) := IntWalk.i64_in _ (by omega)
    go_enter Try.func33, Try.ntmps33
    go_wp2
    go_end0
    exact ⟨rfl, ⟨sv, set_at h1 _, h2.kp (Kp.set q 1 _ _), hk⟩, Kp.set q 1 _ _⟩
end Go.Proofs.Ytghhijliamnmiaa.Wi

