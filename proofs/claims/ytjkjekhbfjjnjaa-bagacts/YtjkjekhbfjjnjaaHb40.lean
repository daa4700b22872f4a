import Derived.Test.YtjkjekhbfjjnjaaHb32
import Derived.Test.YtjkjekhbfjjnjaaHb33
import Derived.Test.YtjkjekhbfjjnjaaHb34
import Derived.Test.YtjkjekhbfjjnjaaHb35
import Derived.Test.YtjkjekhbfjjnjaaHb36
import Derived.Test.YtjkjekhbfjjnjaaHb37
import Derived.Test.YtjkjekhbfjjnjaaHb38
import Derived.Test.YtjkjekhbfjjnjaaHb39
/- The contract of the law's 'does', whatever the act. -/
namespace Go.Proofs.Ytjkjekhbfjjnjaa
open Go.RowKit Go.Maps
set_option maxRecDepth 100000
set_option linter.unusedSimpArgs false
set_option linter.unusedVariables false

theorem does_of {n : Nat} {w : World} {p m q : Nat} {l : List Msg} {ps : List (Int × Int)} {N : Nat} (h : ASt n w p m q l ps N) (hn : n ≤ w.heap.size) (hN : N ≤ 1000) (x : Ac) (hx : AcOk x) (sa : Option Addr) (sc : Nat) (hBs : ∀ W, Below n w W → @Bs keepAll W.heap.size W (.slice sa x.data.length sc) x.data) :
    Calls Try.prog 9 #[.pointer (some ⟨p, 0, none⟩), .pointer (some ⟨q, 0, none⟩), .agg #[.int .i64 x.what, .int .i64 x.a, .int .i64 x.b, .slice sa x.data.length sc]] w (DoesT n w p m q N) := by
  obtain ⟨Do, A, B, D⟩ := x
  obtain ⟨hA, hB, hD⟩ := hx
  dsimp only at *
  by_cases h1 : Do = 1
  · subst h1; exact does_1 h hn hN A B hA hB sa _ sc
  by_cases h2 : Do = 2
  · subst h2; exact does_2 h hn hN A B hA hB sa _ sc
  by_cases h3 : Do = 3
  · subst h3; exact does_3 h hn hN A B hA hB sa _ sc
  by_cases h4 : Do = 4
  · subst h4
    by_cases hab : A = B
    · subst hab; exact does_4s h hn hN A hA sa _ sc
    · exact does_4 h hn hN A B hA hB sa _ sc hab
  by_cases h5 : Do = 5
  · subst h5; exact does_5 h hn hN A B hA hB sa _ sc
  by_cases h6 : Do = 6
  · subst h6; exact does_6 h hn hN A B hA hB sa _ sc
  have hdm : D.length ≤ maxLen := by
    obtain ⟨_, _, e, r1, r2, _⟩ := hBs w (Below.refl _ _)
    exact Nat.le_trans r1 r2
  exact does_7 h hn hN Do ⟨h1, h2, h3, h4, h5, h6⟩ A B hA hB sa _ sc D hBs hD hdm

/-- What is held may be more. -/
theorem wpAnyL_mono {P : Program} {md : Region.Mode} {ops : Array Oper} {Q : Exit → Act → World → Prop} {S S' : World → Prop} {M : List Nat} (hS : ∀ w, S' w → S w) : ∀ (fuel : Nat) (listed : Array Bool) (a : Act) (w : World), wpAnyL P md ops Q S' M fuel listed a w → wpAnyL P md ops Q S M fuel listed a w
  | 0, _, _, _, h => h
  | fuel + 1, _, _, _, h => ⟨h.1, fun i hi => wpOp_mono (fun a' w' h' => ⟨h'.1.imp id (hS w'), wpAnyL_mono hS fuel _ a' w' h'.2⟩) (h.2 i hi)⟩
/-- Two operations may come up. -/
theorem wpAnyL_two {P : Program} {md : Region.Mode} {ops : Array Oper} {Q : Exit → Act → World → Prop} {S : World → Prop} {M : List Nat} (i j : Nat) {oi oj : Oper} {fuel : Nat} {listed : Array Bool} {a : Act} {w : World} (hr : Region.ready md ops listed = [i, j]) (hoi : ops[i]? = some oi) (hoj : ops[j]? = some oj)
    (hwi : Region.wanted oi (yielded ops a.tmps) = true) (hwj : Region.wanted oj (yielded ops a.tmps) = true)
    (h1 : ∀ K' : Act → World → Prop, Shut (∀ a w, (i ∈ M ∨ S w) → wpAnyL P md ops Q S M fuel (listed.setIfInBounds i true) a w → K' a w) → Oper.wp P oi a w K' Q)
    (h2 : ∀ K' : Act → World → Prop, Shut (∀ a w, (j ∈ M ∨ S w) → wpAnyL P md ops Q S M fuel (listed.setIfInBounds j true) a w → K' a w) → Oper.wp P oj a w K' Q) : wpAnyL P md ops Q S M (fuel + 1) listed a w := by
  refine ⟨fun h0 => (by rw [hr] at h0; cases h0), fun k hk => ?_⟩
  rw [hr] at hk
  simp only [List.mem_cons, List.not_mem_nil, or_false] at hk
  rcases hk with rfl | rfl
  · refine wpOp_step hoi fun K' hK => ?_
    rw [if_pos hwi]
    exact h1 K' fun a w hS hW => hK a w ⟨hS, hW⟩
  · refine wpOp_step hoj fun K' hK => ?_
    rw [if_pos hwj]
    exact h2 K' fun a w hS hW => hK a w ⟨hS, hW⟩
end Go.Proofs.Ytjkjekhbfjjnjaa

