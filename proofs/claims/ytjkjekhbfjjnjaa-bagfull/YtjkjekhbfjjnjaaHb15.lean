import Derived.Test.YtjkjekhbfjjnjaaHb14
/- The contract of Clear. -/
namespace Go.Proofs.Ytjkjekhbfjjnjaa
open Go.RowKit Go.Maps
set_option maxRecDepth 100000
set_option linter.unusedSimpArgs false
set_option linter.unusedVariables false

def ClrT (w : World) (p m : Nat) (fv : Value) (l : List Msg) (node : Int) (P : Int → Int → Bool) (N : Nat) (e : Ending) (w' : World) : Prop :=
  e = .returned (.int .i64 ((l.length : Int) - ((filt node l).length : Int))) ∧ Did w p m fv (filt node l) P N w'

set_option maxHeartbeats 2000000 in
theorem clear_of {w : World} {p m : Nat} {fv : Value} {l : List Msg} {P : Int → Int → Bool} {N : Nat} (h : BagAt w p m fv l P N) (node : Int) (hlen : l.length ≤ 1000000) :
    Calls Try.prog 21 #[.pointer (some ⟨p, 0, none⟩), .int .i64 node] w (ClrT w p m fv l node P N) := by
  have a1 := (Below.refl w.heap.size w).alloc (Nat.le_refl _) (.cells #[.int .i64 node] 3)
  have h1 := h.below a1
  obtain ⟨q0, q1, q2⟩ := h1.cells
  obtain ⟨n1, n2, n3⟩ := h.ne
  have lp := h.lt p (.inl rfl)
  have lp1 : p < (w.alloc (.cells #[.int .i64 node] 3)).heap.size := by simp; omega
  obtain ⟨ao, cap, hfv, -⟩ := h.row.shape
  have kg := given_of (fv := fv) q1
  have hcell : (w.alloc (.cells #[.int .i64 node] 3)).cell? ⟨w.heap.size, 0, none⟩ = some (.int .i64 node) := by
    rw [cells_of_block (heap_alloc_new w _)]; rfl
  have kd : Calls Try.prog 28 #[fv, .func (.func 29) #[] #[.pointer (some ⟨w.heap.size, 0, none⟩)]] (w.alloc (.cells #[.int .i64 node] 3)) (fun e w' => ∃ a n c, e = .returned (.slice a n c) ∧ n = (filt node l).length ∧ w'.cell? ⟨p, 0, none⟩ = some fv ∧ w'.frozen? ⟨p, 0, none⟩ = false ∧ Hid (Did w p m fv (filt node l) P N (w'.setCell ⟨p, 0, none⟩ (.slice a n c)))) := by
    refine (deletef_of h1.row hcell (fun e => by have := h.row.lt e; omega) hlen).mono ?_
    rintro e w1 ⟨v', rfl, r1, r2, r3⟩
    obtain ⟨a, c, e, -⟩ := r1.shape
    subst e
    refine ⟨a, _, c, rfl, rfl, cell_grown r2 q0 n2, ?_, (h1.stored r2 r1 (fun k hk => .inl (r3 ▸ hk)) fun x hx => h.ok x (List.mem_filter.1 hx).1).pre a1⟩
    rw [frozen_same 0 (r2.block p lp1 fun e => n2 e.symm)]
    exact q2 0
  have hfl := filt_le node l
  have hT : ∀ W, Hid (Did w p m fv (filt node l) P N W) → Hid (ClrT w p m fv l node P N (.returned (.int .i64 ((l.length : Int) - ((filt node l).length : Int)))) W) := fun W hW => ⟨rfl, hW.out⟩
  subst hfv
  generalize ClrT w p m (.slice ao l.length cap) l node P N = T at *
  generalize Did w p m (.slice ao l.length cap) (filt node l) P N = D at *
  generalize (filt node l).length = fl at *
  clear h h1 n2 n3
  go_enter Try.func21, Try.ntmps21
  go_wp2_with (first | (go_at_call 23; refine kg.mono ?_; rintro e wq ⟨rfl, hwq⟩; rw [hwq]; clear hwq wq) | (go_at_call 28; refine kd.mono ?_; rintro e wq ⟨a, n, c, rfl, rfl, s0, s1, hfin⟩; have hF := hT _ hfin))
  first | exact hF.out | (go_ret; exact hF.out)
end Go.Proofs.Ytjkjekhbfjjnjaa

