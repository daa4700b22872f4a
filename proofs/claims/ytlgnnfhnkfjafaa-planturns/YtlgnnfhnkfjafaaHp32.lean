import Derived.Test.YtlgnnfhnkfjafaaHp31
/- goesWith of plan: is one of the ranges the plan's, with its keeper? -/
namespace Go.Proofs.Ytlgnnfhnkfjafaa
open Go.RowKit SpanMath ChartMath PlanMath
set_option maxRecDepth 100000
set_option linter.unusedSimpArgs false
set_option linter.unusedVariables false

def goP (p : Pl) (q : Int) (r : Rg) : Bool := decide (r.1 = p.2.1) && decide (r.2.1 = q)
def firstG (p : Pl) (q : Int) : List Rg → Nat → Option Nat
  | [], _ => none
  | x :: l, j => if goP p q x then some j else firstG p q l (j + 1)
theorem firstG_at {p : Pl} {q : Int} {l : List Rg} {i : Nat} {s : Rg} (hs : l[i]? = some s) : firstG p q (l.drop i) i = if goP p q s then some i else firstG p q (l.drop (i + 1)) (i + 1) := by
  obtain ⟨h, rfl⟩ := List.getElem?_eq_some_iff.1 hs
  rw [List.drop_eq_getElem_cons h, firstG]
theorem firstG_any {p : Pl} {q : Int} : ∀ (l : List Rg) (j : Nat), (firstG p q l j).isSome = l.any (goP p q)
  | [], _ => rfl
  | x :: l, j => by
    rw [firstG, List.any_cons]
    cases h : goP p q x with
    | true => simp
    | false => simp [firstG_any l (j + 1)]
set_option maxHeartbeats 2000000 in
theorem gindex_of {w : World} {lv : Value} {l : List Rg} (hF : Cv w lv l) {a b : Nat} {p : Pl} {q : Int} (ha : w.heap[a]? = some (.cells (pcs p) 45 (0, 0))) (hb0 : w.heap[b]? = some (.cells #[.int .i64 q] 3 (0, 0))) (hlen : l.length ≤ 1000000) :
    Calls Try.prog 49 #[lv, .func (.func 41) #[] #[.pointer (some ⟨a, 0, none⟩), .pointer (some ⟨b, 0, none⟩)]] w fun e w' => e = .returned (.int .i64 (idxI (firstG p q l 0))) ∧ Below w.heap.size w w' := by
  obtain ⟨ao, cap, rfl, h2⟩ := id hF
  have hqW : Hid (∀ W, Below w.heap.size w W → W.heap[a]? = some (.cells (pcs p) 45 (0, 0)) ∧ W.heap[b]? = some (.cells #[.int .i64 q] 3 (0, 0))) := fun W hW => ⟨(hW.block a (Array.getElem?_eq_some_iff.1 ha).1).trans ha, (hW.block b (Array.getElem?_eq_some_iff.1 hb0).1).trans hb0⟩
  clear ha hb0
  go_enter Try.func49, Try.ntmps49
  go_wp2
  go_loopg [8] l.length (fun g s8 wr => ∃ i : Nat, i + g = l.length ∧ s8 = .int .i64 (i : Int) ∧ Below w.heap.size w wr ∧ Hid (firstG p q (l.drop i) i = firstG p q l 0))
  case atStart => exact ⟨0, by simp, rfl, Below.refl _ _, rfl⟩
  case round =>
    obtain ⟨i, hig, rfl, hb, HF⟩ := hrel
    by_cases hlt : i < l.length
    · have hlti : (i : Int) < (l.length : Int) := by omega
      have hx : l[i]? = some l[i] := List.getElem?_eq_getElem hlt
      obtain ⟨b, off, rfl, d0, d1, d2, d3⟩ := h2 i l[i] hx
      obtain ⟨s, hs⟩ : ∃ s, s = l[i] := ⟨_, rfl⟩
      rw [← hs] at hx d0 d1 d2 d3
      have HN : Hid ((if goP p q s then some i else firstG p q (l.drop (i + 1)) (i + 1)) = firstG p q l 0) := by show _ = _; rw [← HF.out, firstG_at hx]
      have kf := goes1_of (hqW.out wr hb).1 (hqW.out wr hb).2 s
      rw [show (decide (s.1 = p.2.1) && decide (s.2.1 = q)) = goP p q s from rfl] at kf
      obtain ⟨⟨s1, s2⟩, sg, se⟩ := s
      have hlb := World.block_lt_of_cell? w _ d0
      have c0 := (hb.cell (p := ⟨b, off + i * 4, none⟩) hlb).trans d0
      have c1 := (hb.cell (p := ⟨b, off + i * 4 + 1, none⟩) hlb).trans d1
      have c2 := (hb.cell (p := ⟨b, off + i * 4 + 2, none⟩) hlb).trans d2
      have c3 := (hb.cell (p := ⟨b, off + i * 4 + 3, none⟩) hlb).trans d3
      clear hx hs d0 d1 d2 d3 HF h2 hF hqW
      try dsimp only at HN
      cases hh : goP p q ((s1, s2), sg, se) with
      | true =>
        rw [hh] at kf
        have HR : Hid (firstG p q l 0 = some i) := by show _ = _; rw [← HN.out, hh]; rfl
        clear HN hh
        go_wp2_with (go_at_call 41; refine kf.mono ?_; rintro e wc ⟨rfl, hbc⟩)
        go_ret
        exact ⟨by rw [HR.out]; rfl, hb.trans (hbc.mono hb.size)⟩
      | false =>
        rw [hh] at kf
        have HR : Hid (firstG p q (l.drop (i + 1)) (i + 1) = firstG p q l 0) := by show _ = _; rw [← HN.out, hh]; rfl
        clear HN hh
        go_wp2_with (go_at_call 41; refine kf.mono ?_; rintro e wc ⟨rfl, hbc⟩)
        go_roundg (gk - 1)
        case measure => omega
        case rel => exact ⟨i + 1, by omega, by go_num, hb.trans (hbc.mono hb.size), HR⟩
    · have hlti : ¬ (i : Int) < (l.length : Int) := by omega
      have HR : Hid (firstG p q l 0 = none) := by show _ = _; rw [← HF.out, List.drop_eq_nil_of_le (by omega)]; rfl
      clear h2 HF hF hqW
      go_wp2
      go_ret
      exact ⟨by rw [HR.out]; rfl, hb⟩

theorem gcontains_of {w : World} {lv : Value} {l : List Rg} (hF : Cv w lv l) {a b : Nat} {p : Pl} {q : Int} (ha : w.heap[a]? = some (.cells (pcs p) 45 (0, 0))) (hb0 : w.heap[b]? = some (.cells #[.int .i64 q] 3 (0, 0))) (hlen : l.length ≤ 1000000) :
    Calls Try.prog 40 #[lv, .func (.func 41) #[] #[.pointer (some ⟨a, 0, none⟩), .pointer (some ⟨b, 0, none⟩)]] w fun e w' => e = .returned (.bool (l.any (goP p q))) ∧ Below w.heap.size w w' := by
  have ki := gindex_of hF ha hb0 hlen
  rw [← firstG_any l 0]
  obtain ⟨ao, cap, rfl, h2⟩ := id hF
  clear hF ha hb0 h2
  cases hf : firstG p q l 0 with
  | none =>
    rw [hf] at ki
    simp only [idxI] at ki
    clear hf
    go_enter Try.func40, Try.ntmps40
    go_wp2_with fail
    refine ki.mono ?_
    rintro e w1 ⟨rfl, hb1⟩
    go_wp2
    go_ret
    exact ⟨rfl, hb1⟩
  | some i =>
    rw [hf] at ki
    simp only [idxI] at ki
    have hi : (0 : Int) ≤ (i : Int) := by omega
    have hid : decide ((0 : Int) ≤ (i : Int)) = true := decide_eq_true hi
    clear hf
    go_enter Try.func40, Try.ntmps40
    go_wp2_with fail
    refine ki.mono ?_
    rintro e w1 ⟨rfl, hb1⟩
    go_wp2
    go_ret
    exact ⟨rfl, hb1⟩
end Go.Proofs.Ytlgnnfhnkfjafaa

