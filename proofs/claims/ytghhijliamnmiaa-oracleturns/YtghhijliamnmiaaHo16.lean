import Derived.Test.YtghhijliamnmiaaHo15
import Derived.Deep.LoopGhost
import Derived.Deep.QuietTactic
import Derived.BigQuiet
import Derived.WalkSmall
/- A reader in its block, and the contracts of its small methods (Read, Err, Left, Done, rest, fail, skip): the answer, and that nothing but the reader's own block has turned. -/
namespace Go.Proofs.Ytghhijliamnmiaa.Wi
open Go.RowKit WireMath
set_option maxRecDepth 100000
set_option linter.unusedSimpArgs false

/-- A reader in block q: bytes, a place, what was wrong. -/
def Rd (w : World) (q : Nat) (l : List Nat) (at_ bad : Nat) : Prop :=
  ∃ sv, w.heap[q]? = some (.cells #[sv, .int .i64 (at_ : Int), .int .i64 (bad : Int)] 64 (0, 0)) ∧ Bs q w sv l ∧ at_ ≤ l.length

theorem Rd.lt {w : World} {q : Nat} {l : List Nat} {a b : Nat} (h : Rd w q l a b) : q < w.heap.size := by
  obtain ⟨sv, h1, _⟩ := h
  exact (Array.getElem?_eq_some_iff.1 h1).1
theorem Rd.below {w w' : World} {q : Nat} {l : List Nat} {a b : Nat} (h : Rd w q l a b) (hb : Below w.heap.size w w') : Rd w' q l a b := by
  have hq := h.lt
  obtain ⟨sv, h1, h2, h3⟩ := h
  exact ⟨sv, (hb.block q hq).trans h1, h2.below (hb.mono (Nat.le_of_lt hq)), h3⟩

/-- All but block q is as it was. -/
def Kp (q : Nat) (w w' : World) : Prop := w.grownBy w' (some q)
theorem Kp.refl (q : Nat) (w : World) : Kp q w w := ⟨rfl, rfl, rfl, Nat.le_refl _, fun _ _ _ => rfl⟩
theorem Kp.trans {q : Nat} {a b c : World} (h : Kp q a b) (k : Kp q b c) : Kp q a c :=
  ⟨k.os.trans h.os, k.tape.trans h.tape, k.output.trans h.output, Nat.le_trans h.size k.size, fun i hi hn => (k.block i (Nat.lt_of_lt_of_le hi h.size) hn).trans (h.block i hi hn)⟩
theorem Kp.of_below {q : Nat} {w w' : World} (h : Below w.heap.size w w') : Kp q w w' := ⟨h.os, h.tape, h.output, h.size, fun i hi _ => h.block i hi⟩
theorem Kp.set (q i : Nat) (v : Value) (w : World) : Kp q w (w.setCell ⟨q, i, none⟩ v) :=
  ⟨rfl, rfl, rfl, by simp [World.setCell], fun k _ hk => Below.heap_setCell _ _ _ _ (fun e => hk (by simp [e]))⟩
theorem Kp.below {q n₀ : Nat} {w w' : World} (h : Kp q w w') (h1 : n₀ ≤ q) (h2 : n₀ ≤ w.heap.size) : Below n₀ w w' :=
  ⟨h.os, h.tape, h.output, h.size, fun k hk => h.block k (by omega) (fun e => by cases e; omega)⟩
theorem Bs.kp {q : Nat} {w w' : World} {v : Value} {l : List Nat} (h : Bs q w v l) (hk : Kp q w w') : Bs q w' v l := by
  obtain ⟨ao, cap, rfl, h2, h3, h4, h5⟩ := h
  exact ⟨ao, cap, rfl, h2, h3, h4, fun hne => by
    obtain ⟨b, off, e1, e2, e3⟩ := h5 hne
    subst e1
    exact ⟨b, off, rfl, e2, fun j c hj => hk.cell (a := ⟨b, off + j, none⟩) (e3 j c hj) (fun e => absurd (by simpa using e : b = q) (by omega))⟩⟩

theorem set_at {w : World} {q : Nat} {a b c : Value} {t : TypeId} (h : w.heap[q]? = some (.cells #[a, b, c] t (0, 0))) (v : Value) : (w.setCell ⟨q, 1, none⟩ v).heap[q]? = some (.cells #[a, v, c] t (0, 0)) := by
  simp [World.setCell, Array.getElem?_modify, h]
theorem set_bad {w : World} {q : Nat} {a b c : Value} {t : TypeId} (h : w.heap[q]? = some (.cells #[a, b, c] t (0, 0))) (v : Value) : (w.setCell ⟨q, 2, none⟩ v).heap[q]? = some (.cells #[a, b, v] t (0, 0)) := by
  simp [World.setCell, Array.getElem?_modify, h]
theorem frozen_of {w : World} {q : Nat} {cs : Array Value} {t : TypeId} (h : w.heap[q]? = some (.cells cs t (0, 0))) (i : Nat) : w.frozen? ⟨q, i, none⟩ = false := by
  simp [World.frozen?, h]

/-- What can be read still. -/
def src (l : List Nat) (at_ bad : Nat) : List Nat := if bad = 0 then l.drop at_ else []
/-- What was wrong first, where this is wrong now. -/
def wb (bad e : Nat) : Nat := if bad = 0 then e else bad

@[go_sem] theorem nil_nil (w : World) : (binOp .eql 37 (.slice none 0 0) (.slice none 0 0)).run Try.prog w = .ok (.bool true) w := by kernel_rfl
@[go_sem] theorem some_nil (a : Addr) (n c : Nat) (w : World) : (binOp .eql 37 (.slice (some a) n c) (.slice none 0 0)).run Try.prog w = .ok (.bool false) w := by kernel_rfl

set_option maxHeartbeats 1000000 in
theorem clone_of (n₀ : Nat) (l : List Nat) (v : Value) (w : World) (hB : Bs n₀ w v l) (hn₀ : n₀ ≤ w.heap.size) (hlen : l.length ≤ 140737488355328) :
    Calls Try.prog 31 #[v] w fun e w' => ∃ v', e = .returned v' ∧ Own w.heap.size w' v' l ∧ Below w.heap.size w w' := by
  obtain ⟨ao, cap, rfl, h2, h3, h4, h5⟩ := id hB
  cases ao with
  | none =>
    have h0 := h4 rfl
    subst h0
    obtain rfl : l = [] := List.eq_nil_of_length_eq_zero (by omega)
    go_enter Try.func31, Try.ntmps31
    go_wp2
    go_ret
    exact ⟨_, rfl, Own.nil _ _, Below.refl _ _⟩
  | some ad =>
    have b0 := (Below.refl w.heap.size w).alloc (Nat.le_refl _) (.cells #[] 5)
    have hO : Own w.heap.size (w.alloc (.cells #[] 5)) (.slice (some ⟨w.heap.size, 0, none⟩) 0 0) [] := World.ownsRow_made w #[] 0 (Nat.le_refl _) (Nat.zero_le _) rfl
    have hB1 := hB.below (b0.mono hn₀)
    have hl : ([] : List Nat).length + l.length ≤ 140737488355328 := by simpa using hlen
    have hs0 : w.heap.size ≤ (w.alloc (.cells #[] 5)).heap.size := b0.size
    go_enter Try.func31, Try.ntmps31
    go_wp2_with (at_builtin; refine wpList_append_bs rfl _ _ rfl w.heap.size _ [] rfl hO hs0 n₀ _ l rfl hB1 hl ?_)
    intro v' w' hO' hb'
    go_wp2
    go_ret
    exact ⟨_, rfl, hO', b0.trans hb'⟩

set_option maxHeartbeats 1000000 in
theorem read_of (n₀ : Nat) (l : List Nat) (v : Value) (w : World) (hB : Bs n₀ w v l) (hn₀ : n₀ ≤ w.heap.size) (hlen : l.length ≤ 140737488355328) :
    Calls Try.prog 24 #[v] w fun e w' => ∃ q, e = .returned (.pointer (some ⟨q, 0, none⟩)) ∧ w.heap.size ≤ q ∧ Rd w' q l 0 0 ∧ Below w.heap.size w w' := by
  go_enter Try.func24, Try.ntmps24
  go_wp2_with fail
  refine (clone_of n₀ l v w hB hn₀ hlen).mono ?_
  rintro e w1 ⟨v1, rfl, hO, hb⟩
  have hBs := hO.bs
  obtain ⟨ao1, cap1, rfl⟩ := hO.shape
  go_wp2
  go_ret
  have b1 := (Below.refl w1.heap.size w1).alloc (Nat.le_refl _) (.cells #[.slice ao1 l.length cap1, .int .i64 0, .int .i64 0] 64)
  exact ⟨_, rfl, hb.size, ⟨_, heap_alloc_new w1 _, hBs.below b1, Nat.zero_le _⟩, hb.trans (b1.mono hb.size)⟩

theorem err_of (q : Nat) (b : Int) (w : World) (h2 : w.cell? ⟨q, 2, none⟩ = some (.int .i64 b)) :
    Calls Try.prog 35 #[.pointer (some ⟨q, 0, none⟩)] w fun e w' => e = .returned (.int .i64 b) ∧ w' = w := by
  go_enter Try.func35, Try.ntmps35
  go_wp2
  go_ret
  exact ⟨rfl, rfl⟩

set_option maxHeartbeats 1000000 in
theorem left_of (q : Nat) (l : List Nat) (a b : Nat) (w : World) (h : Rd w q l a b) :
    Calls Try.prog 36 #[.pointer (some ⟨q, 0, none⟩)] w fun e w' => e = .returned (.int .i64 ((l.length - a : Nat) : Int)) ∧ Below w.heap.size w w' := by
  obtain ⟨sv, h1, h2, h3⟩ := h
  obtain ⟨ao, cap, rfl, g2, g3, _⟩ := h2
  have c0 : w.cell? ⟨q, 0, none⟩ = some (.slice ao l.length cap) := by rw [cells_of_block h1]; rfl
  have c1 : w.cell? ⟨q, 1, none⟩ = some (.int .i64 (a : Int)) := by rw [cells_of_block h1]; rfl
  have e1 : Hid (((l.length - a : Nat) : Int) = (l.length : Int) - (a : Int)) := by show _ = _; omega
  have q1 : IntKind.i64.wrap ((l.length : Int) - (a : Int)) = (l.length : Int) - (a : Int) := IntWalk.i64_in _ (by unfold maxLen at g3; omega)
  go_enter Try.func36, Try.ntmps36
  go_wp2
  go_quiet (fail)
  go_wp2
  go_ret
  exact ⟨by rw [e1.out]; rfl, below_drewN (Below.refl _ _) _⟩
end Go.Proofs.Ytghhijliamnmiaa.Wi

