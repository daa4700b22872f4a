import Derived.Test.YtjkjekhbfjjnjaaHb29
/- The state of the law BagActs: a bag and the law's model tell the same. -/
namespace Go.Proofs.Ytjkjekhbfjjnjaa
open Go.RowKit Go.Maps
set_option maxRecDepth 100000
set_option linter.unusedSimpArgs false
set_option linter.unusedVariables false

/-- Who is parted, as the bag has it, by the model's pairs. -/
def partsOf (ps : List (Int × Int)) (x y : Int) : Bool := ps.any fun c => c.1 != c.2 && (x == lo c.1 c.2 && y == hi c.1 c.2)
theorem partsOf_nil : partsOf [] = fun _ _ => false := rfl
theorem partsOf_snoc (ps : List (Int × Int)) (a b : Int) : partsOf (ps ++ [(a, b)]) = if a = b then partsOf ps else partP (partsOf ps) (lo a b) (hi a b) := by
  by_cases h : a = b
  · rw [if_pos h]
    funext x y
    simp [partsOf, h]
  · rw [if_neg h]
    funext x y
    have : (a != b) = true := by simpa using h
    simp only [partsOf, partP, List.any_append, List.any_cons, List.any_nil, Bool.or_false, this, Bool.true_and]
    rw [Bool.or_comm]
theorem lo_hi_eq {a b c d : Int} (hab : a ≠ b) (hcd : c ≠ d) : (lo a b = lo c d ∧ hi a b = hi c d) ↔ ((c = a ∧ d = b) ∨ (c = b ∧ d = a)) := by
  rcases lo_hi a b with ⟨h1, h2, h3⟩ | ⟨h1, h2, h3⟩ | ⟨h1, h2, h3⟩ <;> rcases lo_hi c d with ⟨g1, g2, g3⟩ | ⟨g1, g2, g3⟩ | ⟨g1, g2, g3⟩ <;> rw [h2, h3, g2, g3] <;> omega
theorem mparted_eq : ∀ (ps : List (Int × Int)) (a b : Int), mparted ps a b = partsOf ps (lo a b) (hi a b)
  | [], a, b => rfl
  | c :: ps, a, b => by
    have ih := mparted_eq ps a b
    by_cases hab : a = b
    · subst hab
      have e : partsOf (c :: ps) (lo a a) (hi a a) = false := by
        unfold partsOf
        rw [List.any_eq_false]
        intro d hd
        simp only [Bool.and_eq_true, bne_iff_ne, beq_iff_eq, not_and]
        intro hne h1 h2
        rcases lo_hi a a with ⟨h, _, _⟩ | ⟨h, _, _⟩ | ⟨_, h3, h4⟩
        · omega
        · omega
        · rcases lo_hi d.1 d.2 with ⟨g1, g2, g3⟩ | ⟨g1, g2, g3⟩ | ⟨g1, g2, g3⟩ <;> rw [h3] at h1 <;> rw [h4] at h2 <;> rw [g2] at h1 <;> rw [g3] at h2 <;> omega
      have e2 : partsOf ps (lo a a) (hi a a) = false := by
        have := e
        unfold partsOf at this ⊢
        rw [List.any_cons, Bool.or_eq_false_iff] at this
        exact this.2
      rw [e, mparted, ih, e2]
      simp
    · have hab' : (a != b) = true := by simpa using hab
      have e : partsOf (c :: ps) (lo a b) (hi a b) = ((c.1 != c.2 && (lo a b == lo c.1 c.2 && hi a b == hi c.1 c.2)) || partsOf ps (lo a b) (hi a b)) := by simp [partsOf]
      rw [e, mparted, ih, hab']
      by_cases hc : c.1 = c.2
      · have h1 : ((c.1 == a && c.2 == b) || (c.1 == b && c.2 == a)) = false := by
          simp only [Bool.or_eq_false_iff, Bool.and_eq_false_iff, beq_eq_false_iff_ne]
          omega
        have h2 : (c.1 != c.2) = false := by simpa using hc
        rw [h1, h2]
        simp
      · have h2 : (c.1 != c.2) = true := by simpa using hc
        have h3 : ((c.1 == a && c.2 == b) || (c.1 == b && c.2 == a)) = (lo a b == lo c.1 c.2 && hi a b == hi c.1 c.2) := by
          rw [Bool.eq_iff_iff]
          simp only [Bool.or_eq_true, Bool.and_eq_true, beq_iff_eq]
          exact (lo_hi_eq hab hc).symm
        rw [h2, h3, Bool.true_and]
        cases (lo a b == lo c.1 c.2 && hi a b == hi c.1 c.2) <;> rfl

/-- Both stand alike. -/
structure ASt (n : Nat) (w : World) (p m q : Nat) (l : List Msg) (ps : List (Int × Int)) (N : Nat) : Prop where
  bag : BagNew n w p m l (partsOf ps) N
  mod : ∃ lv pv, ModAt w q lv pv l ps ∧ ∀ k, MineM q lv pv k → n ≤ k
  len : l.length ≤ N
  lenp : ps.length ≤ N
theorem ModAt.kept {w w' : World} {p m q : Nat} {fv lv pv : Value} {l l' : List Msg} {P : Int → Int → Bool} {N : Nat} {ps : List (Int × Int)} (h : ModAt w q lv pv l' ps) (hA : BagAt w p m fv l P N) (hk : Kept (Mine p m fv) w w') : ModAt w' q lv pv l' ps :=
  h.same fun k hm => hk.block k (h.lt k hm) fun hs => apart hA h hs hm
theorem BagAt.kept {w w' : World} {p m q : Nat} {fv lv pv : Value} {l l' : List Msg} {P : Int → Int → Bool} {N : Nat} {ps : List (Int × Int)} (hA : BagAt w p m fv l P N) (h : ModAt w q lv pv l' ps) (hk : Kept (MineM q lv pv) w w') : BagAt w' p m fv l P N :=
  hA.same fun k hs => hk.block k (hA.lt k hs) fun hm => apart hA h hs hm
theorem ASt.below {n : Nat} {w w' : World} {p m q : Nat} {l : List Msg} {ps : List (Int × Int)} {N : Nat} (h : ASt n w p m q l ps N) (hb : Below w.heap.size w w') : ASt n w' p m q l ps N := by
  obtain ⟨lv, pv, h1, h2⟩ := h.mod
  exact ⟨h.bag.below hb, ⟨lv, pv, h1.below hb, h2⟩, h.len, h.lenp⟩
theorem BagAt.moreN {w : World} {p m : Nat} {fv : Value} {l : List Msg} {P : Int → Int → Bool} {N N' : Nat} (h : BagAt w p m fv l P N) (hN : N ≤ N') : BagAt w p m fv l P N' := by
  obtain ⟨c, hc, hM⟩ := h.map
  exact ⟨h.box, h.row, ⟨c, Nat.le_trans hc hN, hM⟩, h.ok⟩
theorem ASt.more {n : Nat} {w : World} {p m q : Nat} {l : List Msg} {ps : List (Int × Int)} {N : Nat} (h : ASt n w p m q l ps N) : ASt n w p m q l ps (N + 1) := by
  obtain ⟨fv, h1, h2⟩ := h.bag
  exact ⟨⟨fv, h1.moreN (by omega), h2⟩, h.mod, by have := h.len; omega, by have := h.lenp; omega⟩
/-- What 'does' tells and leaves. -/
def DoesT (n : Nat) (w : World) (p m q N : Nat) (e : Ending) (w' : World) : Prop := e = .returned (.bool true) ∧ ∃ l' ps', ASt n w' p m q l' ps' (N + 1) ∧ Below n w w'

/-- The bag has acted, then the model. -/
theorem ASt.bagMod {n : Nat} {w w1 w2 : World} {p m q : Nat} {fv lv pv : Value} {l l' : List Msg} {ps ps' : List (Int × Int)} {N : Nat} (hn : n ≤ w.heap.size) (hA : BagAt w p m fv l (partsOf ps) N) (hAn : ∀ k, Mine p m fv k → n ≤ k) (hM : ModAt w q lv pv l ps) (hMn : ∀ k, MineM q lv pv k → n ≤ k)
    (hd : Did w p m fv l' (partsOf ps') (N + 1) w1) (hm : MDid w1 q lv pv l' ps' w2) (hl : l'.length ≤ N + 1) (hlp : ps'.length ≤ N + 1) : ASt n w2 p m q l' ps' (N + 1) ∧ Below n w w2 := by
  obtain ⟨fv', d1, d2, d3⟩ := id hd
  obtain ⟨⟨fv'', b1, b2⟩, hb⟩ := BagNew.did (l := l) hn hAn hd
  have hM1 := hM.kept hA d2
  obtain ⟨lv', pv', m1, m2, m3⟩ := hm
  refine ⟨⟨⟨fv'', b1.kept hM1 m2, b2⟩, ⟨lv', pv', m1, fun k hk => ?_⟩, hl, hlp⟩, hb.trans (m2.below (Nat.le_trans hn d2.size) hMn)⟩
  rcases m3 k hk with h | h
  · exact hMn k h
  · exact Nat.le_trans (Nat.le_trans hn d2.size) h
/-- The model has acted, then the bag. -/
theorem ASt.modBag {n : Nat} {w w1 w2 : World} {p m q : Nat} {fv lv pv : Value} {l l' : List Msg} {ps ps' : List (Int × Int)} {N : Nat} (hn : n ≤ w.heap.size) (hA : BagAt w p m fv l (partsOf ps) N) (hAn : ∀ k, Mine p m fv k → n ≤ k) (hM : ModAt w q lv pv l ps) (hMn : ∀ k, MineM q lv pv k → n ≤ k)
    (hm : MDid w q lv pv l' ps' w1) (hd : BagAt w1 p m fv l (partsOf ps) N → Did w1 p m fv l' (partsOf ps') (N + 1) w2) (hl : l'.length ≤ N + 1) (hlp : ps'.length ≤ N + 1) : ASt n w2 p m q l' ps' (N + 1) ∧ Below n w w2 := by
  obtain ⟨lv', pv', m1, m2, m3⟩ := hm
  have hA1 := hA.kept hM m2
  have hd' := hd hA1
  have hb1 := m2.below hn hMn
  obtain ⟨fv', d1, d2, d3⟩ := id hd'
  obtain ⟨b1, hb⟩ := BagNew.did (l := l) (Nat.le_trans hn m2.size) hAn hd'
  refine ⟨⟨b1, ⟨lv', pv', m1.kept hA1 d2, fun k hk => ?_⟩, hl, hlp⟩, hb1.trans hb⟩
  rcases m3 k hk with h | h
  · exact hMn k h
  · exact Nat.le_trans hn h
theorem Did.more {w w' : World} {p m : Nat} {fv : Value} {l : List Msg} {P : Int → Int → Bool} {N N' : Nat} (h : Did w p m fv l P N w') (hN : N ≤ N') : Did w p m fv l P N' w' := by
  obtain ⟨fv', d1, d2, d3⟩ := h
  exact ⟨fv', d1.moreN hN, d2, d3⟩
end Go.Proofs.Ytjkjekhbfjjnjaa

