import Derived.Test.YtldlimakcdaoaaaHd25
/- The contracts of the document's own In; of In with its closure; of few. -/
namespace Go.Proofs.Ytldlimakcdaoaaa
open Go.RowKit SpanMath
set_option maxRecDepth 100000
set_option linter.unusedSimpArgs false
set_option linter.unusedVariables false

theorem any_from {f : Sp → Bool} {l : List Sp} {i : Nat} {s : Sp} (hs : l[i]? = some s) : (l.drop i).any f = (f s || (l.drop (i + 1)).any f) := by
  obtain ⟨h, rfl⟩ := List.getElem?_eq_some_iff.1 hs
  rw [List.drop_eq_getElem_cons h, List.any_cons]

set_option maxHeartbeats 2000000 in
theorem refIn_of (l : List Sp) (lv : Value) (k : K) (w : World) (hF : Sv w lv l) (hlen : l.length ≤ 1000000) : Calls Try.prog 31 #[lv, .string (bk k)] w fun e w' => e = .returned (.bool (isIn l k)) ∧ Below w.heap.size w w' := by
  obtain ⟨ao, cap, rfl, h2⟩ := id hF
  obtain ⟨B, HB⟩ : ∃ B, Hid (B = isIn l k) := ⟨_, rfl⟩
  rw [← HB.out]
  go_enter Try.func31, Try.ntmps31
  go_wp2
  go_loopg [5] l.length (fun g s5 wr => ∃ i : Nat, i + g = l.length ∧ s5 = .int .i64 (i : Int) ∧ Below w.heap.size w wr ∧ Hid (B = (l.drop i).any fun s => has s k))
  case atStart => exact ⟨0, by simp, rfl, Below.refl _ _, HB⟩
  case round =>
    obtain ⟨i, hig, rfl, hb, HP⟩ := hrel
    clear HB
    by_cases hlt : i < l.length
    · have hlti : (i : Int) < (l.length : Int) := by omega
      have hx : l[i]? = some l[i] := List.getElem?_eq_getElem hlt
      obtain ⟨b, off, rfl, d0, d1⟩ := h2 i l[i] hx
      obtain ⟨s, hs⟩ : ∃ s, s = l[i] := ⟨_, rfl⟩
      rw [← hs] at hx d0 d1
      have HN : Hid (B = (has s k || (l.drop (i + 1)).any fun s => has s k)) := by show _ = _; rw [HP.out, any_from hx]
      have kh := refHas_of s k wr
      obtain ⟨s1, s2⟩ := s
      have c0 := (hb.cell (p := ⟨b, off + i * 2, none⟩) (World.block_lt_of_cell? w _ d0)).trans d0
      have c1 := (hb.cell (p := ⟨b, off + i * 2 + 1, none⟩) (World.block_lt_of_cell? w _ d1)).trans d1
      clear hx hs d0 d1 HP h2 hF
      cases hh : has (s1, s2) k with
      | true =>
        rw [hh] at kh
        have E : Hid (B = true) := by show _ = _; rw [HN.out, hh]; rfl
        clear HN hh
        go_wp2_with fail
        refine kh.mono ?_
        rintro e w1 ⟨rfl, hb1⟩
        go_wp2
        go_ret
        exact ⟨by rw [E.out]; rfl, hb.trans (hb1.mono hb.size)⟩
      | false =>
        rw [hh] at kh
        have E : Hid (B = (l.drop (i + 1)).any fun s => has s k) := by show _ = _; rw [HN.out, hh]; rfl
        clear HN hh
        go_wp2_with fail
        refine kh.mono ?_
        rintro e w1 ⟨rfl, hb1⟩
        go_wp2
        go_roundg (gk - 1)
        case measure => omega
        case rel => exact ⟨i + 1, by omega, by go_num, hb.trans (hb1.mono hb.size), E⟩
    · have hlti : ¬ (i : Int) < (l.length : Int) := by omega
      have E : Hid (B = false) := by show _ = _; rw [HP.out, List.drop_eq_nil_of_le (by omega)]; rfl
      clear h2 HP hF
      go_wp2
      go_ret
      exact ⟨by rw [E.out]; rfl, hb⟩

/-- Where the first stands that has the key. -/
def firstHas (k : K) : List Sp → Nat → Option Nat
  | [], _ => none
  | x :: l, j => if hasP x k then some j else firstHas k l (j + 1)
def idxV : Option Nat → Int
  | none => -1
  | some i => (i : Int)
theorem firstHas_some (k : K) : ∀ (l : List Sp) (j : Nat), (firstHas k l j).isSome = l.any fun s => hasP s k
  | [], j => rfl
  | x :: l, j => by
    rw [firstHas, List.any_cons]
    cases hasP x k with
    | true => rfl
    | false => simpa using firstHas_some k l (j + 1)
theorem firstHas_at {k : K} {l : List Sp} {i : Nat} {s : Sp} (hs : l[i]? = some s) : firstHas k (l.drop i) i = if hasP s k then some i else firstHas k (l.drop (i + 1)) (i + 1) := by
  obtain ⟨h, rfl⟩ := List.getElem?_eq_some_iff.1 hs
  rw [List.drop_eq_getElem_cons h, firstHas]

/-- What In tells. -/
def inP (l : List Sp) (k : K) : Bool := formB l && decide (k.length ≤ 64) && isIn l k
theorem inP_any (l : List Sp) (k : K) (h : formB l = true) : (l.any fun s => hasP s k) = inP l k := by
  unfold inP
  rw [h]
  have hm : ∀ s ∈ l, may s = true := fun s hs => by
    unfold formB at h
    simp only [Bool.and_eq_true, decide_eq_true_eq] at h
    exact h.1.2 s hs
  rw [Bool.eq_iff_iff]
  unfold isIn hasP
  simp only [List.any_eq_true, Bool.and_eq_true, decide_eq_true_eq, true_and]
  constructor
  · rintro ⟨s, hs, ⟨_, h2⟩, h3⟩; exact ⟨h2, s, hs, h3⟩
  · rintro ⟨h2, s, hs, h3⟩; exact ⟨s, hs, ⟨hm s hs, h2⟩, h3⟩

/-- What few tells. -/
theorem few_of (lv : Value) (ao : Option Addr) (n cap : Nat) (hv : lv = .slice ao n cap) (w : World) : Calls Try.prog 67 #[lv] w fun e w' => e = .returned (if 64 < n then .tuple #[.slice none 0 0, .int .i64 2] else .tuple #[lv, .int .i64 0]) ∧ w' = w := by
  subst hv
  by_cases h : 64 < n
  · have hi : (64 : Int) < (n : Int) := by omega
    rw [if_pos h]
    go_enter Try.func67, Try.ntmps67
    go_wp2
    go_ret2
    exact ⟨rfl, rfl⟩
  · have hi : ¬ (64 : Int) < (n : Int) := by omega
    rw [if_neg h]
    go_enter Try.func67, Try.ntmps67
    go_wp2
    go_ret2
    exact ⟨rfl, rfl⟩
end Go.Proofs.Ytldlimakcdaoaaa

/- The contracts of Covers and of outside. -/
namespace Go.Proofs.Ytldlimakcdaoaaa
open Go.RowKit SpanMath
set_option maxRecDepth 100000
set_option linter.unusedSimpArgs false
set_option linter.unusedVariables false

/-- What Covers tells. -/
def covP (l : List Sp) (s : Sp) : Bool := formB l && l.any fun x => decide (meetP x s = some s)
theorem meetV_none : meetV none = .tuple #[.agg #[.string { data := #[] }, .string { data := #[] }], .bool false] := rfl
theorem meetV_some (a b : K) : meetV (some (a, b)) = .tuple #[.agg #[.string (bk a), .string (bk b)], .bool true] := rfl
/-- One box. -/
theorem one_box (w : World) (o : Obj) : (w.alloc o).heap.size = w.heap.size + 1 ∧ (w.alloc o).heap[w.heap.size]? = some o ∧ Below w.heap.size w (w.alloc o) := ⟨by simp, heap_alloc_new w o, (Below.refl _ _).alloc (Nat.le_refl _) _⟩

end Go.Proofs.Ytldlimakcdaoaaa

