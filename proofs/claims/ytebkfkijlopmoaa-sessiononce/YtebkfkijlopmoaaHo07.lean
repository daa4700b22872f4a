import Derived.Test.YtebkfkijlopmoaaHo06
import Derived.Deep.LoopGhost
import Derived.Deep.QuietTactic
import Derived.BigQuiet
import Derived.WalkSmall
/- A reader in its block, and the contracts of its small methods (Read, Err, Left, Done, rest, fail, skip): the answer, and that nothing but the reader's own block has turned. -/
namespace Go.Proofs.Ytebkfkijlopmoaa.Wi
open Go.RowKit WireMath
set_option maxRecDepth 100000
set_option linter.unusedSimpArgs false

/-- A reader in block q: bytes, a place, what was wrong. -/
def Rd (w : World) (q : Nat) (l : List Nat) (at_ bad : Nat) : Prop :=
  ∃ sv, w.heap[q]? = some (.cells #[sv, .int .i64 (at_ : Int), .int .i64 (bad : Int)] 78 (0, 0)) ∧ Bs q w sv l ∧ at_ ≤ l.length

theorem Rd.lt {w : World} {q : Nat} {l : List Nat} {a b : Nat} (h : Rd w q l a b) : q < w.heap.size := by
  obtain ⟨sv, h1, _⟩ := h
  exact (Array.getElem?_eq_some_iff.1 h1).1
theorem Rd.below {w w' : World} {q : Nat} {l : List Nat} {a b : Nat} (h : Rd w q l a b) (hb : Below w.heap.size w w') : Rd w' q l a b := by
  have hq := h.lt
  obtain ⟨sv, h1, h2, h3⟩ := h
  exact ⟨sv, (hb.block q hq).trans h1, h2.below (hb.mono (Nat.le_of_lt hq)), h3⟩

/-- All but block q is as it was. -/
def Kp (q : Nat) (w w' : World) : Prop := w.grownBy w' (some q)
theorem Kp.refl (q : Nat) (w : World) : Kp q w w := ⟨rfl, rfl, rfl, Nat.le_refl _, fun _ _ _ => rfl⟩
theorem Kp.trans {q : Nat} {a b c : World} (h : Kp q a b) (k : Kp q b c) : Kp q a c :=
  ⟨k.os.trans h.os, k.tape.trans h.tape, k.output.trans h.output, Nat.le_trans h.size k.size, fun i hi hn => (k.block i (Nat.lt_of_lt_of_le hi h.size) hn).trans (h.block i hi hn)⟩
theorem Kp.set (q i : Nat) (v : Value) (w : World) : Kp q w (w.setCell ⟨q, i, none⟩ v) :=
  ⟨rfl, rfl, rfl, by simp [World.setCell], fun k _ hk => Below.heap_setCell _ _ _ _ (fun e => hk (by simp [e]))⟩
theorem Kp.below {q n₀ : Nat} {w w' : World} (h : Kp q w w') (h1 : n₀ ≤ q) (h2 : n₀ ≤ w.heap.size) : Below n₀ w w' :=
  ⟨h.os, h.tape, h.output, h.size, fun k hk => h.block k (by omega) (fun e => by cases e; omega)⟩
theorem Bs.kp {q : Nat} {w w' : World} {v : Value} {l : List Nat} (h : Bs q w v l) (hk : Kp q w w') : Bs q w' v l := by
  obtain ⟨ao, cap, rfl, h2, h3, h4, h5⟩ := h
  exact ⟨ao, cap, rfl, h2, h3, h4, fun hne => by
    obtain ⟨b, off, e1, e2, e3⟩ := h5 hne
    subst e1
    exact ⟨b, off, rfl, e2, fun j c hj => hk.cell (a := ⟨b, off + j, none⟩) (e3 j c hj) (fun e => absurd (by simpa using e : b = q) (by omega))⟩⟩

theorem frozen_of {w : World} {q : Nat} {cs : Array Value} {t : TypeId} (h : w.heap[q]? = some (.cells cs t (0, 0))) (i : Nat) : w.frozen? ⟨q, i, none⟩ = false := by
  simp [World.frozen?, h]

/-- What was wrong first, where this is wrong now. -/
def wb (bad e : Nat) : Nat := if bad = 0 then e else bad

@[go_sem] theorem nil_nil (w : World) : (binOp .eql 26 (.slice none 0 0) (.slice none 0 0)).run Try.prog w = .ok (.bool true) w := by kernel_rfl
@[go_sem] theorem some_nil (a : Addr) (n c : Nat) (w : World) : (binOp .eql 26 (.slice (some a) n c) (.slice none 0 0)).run Try.prog w = .ok (.bool false) w := by kernel_rfl

set_option maxHeartbeats 1000000 in
theorem clone_of (n₀ : Nat) (l : List Nat) (v : Value) (w : World) (hB : Bs n₀ w v l) (hn₀ : n₀ ≤ w.heap.size) (hlen : l.length ≤ 140737488355328) :
    Calls Try.prog 23 #[v] w fun e w' => ∃ v', e = .returned v' ∧ Own w.heap.size w' v' l ∧ Below w.heap.size w w' := by
  obtain ⟨ao, cap, rfl, h2, h3, h4, h5⟩ := id hB
  cases ao with
  | none =>
    have h0 := h4 rfl
    subst h0
    obtain rfl : l = [] := List.eq_nil_of_length_eq_zero (by omega)
    go_enter Try.func23, Try.ntmps23
    go_wp2
    go_ret
    exact ⟨_, rfl, Own.nil _ _, Below.refl _ _⟩
  | some ad =>
    have b0 := (Below.refl w.heap.size w).alloc (Nat.le_refl _) (.cells #[] 5)
    have hO : Own w.heap.size (w.alloc (.cells #[] 5)) (.slice (some ⟨w.heap.size, 0, none⟩) 0 0) [] := World.ownsRow_made w #[] 0 (Nat.le_refl _) (Nat.zero_le _) rfl
    have hB1 := hB.below (b0.mono hn₀)
    have hl : ([] : List Nat).length + l.length ≤ 140737488355328 := by simpa using hlen
    have hs0 : w.heap.size ≤ (w.alloc (.cells #[] 5)).heap.size := b0.size
    go_enter Try.func23, Try.ntmps23
    go_wp2_with (at_builtin; refine wpList_append_bs rfl _ _ rfl w.heap.size _ [] rfl hO hs0 n₀ _ l rfl hB1 hl ?_)
    intro v' w' hO' hb'
    go_wp2
    go_ret
    exact ⟨_, rfl, hO', b0.trans hb'⟩

end Go.Proofs.Ytebkfkijlopmoaa.Wi

