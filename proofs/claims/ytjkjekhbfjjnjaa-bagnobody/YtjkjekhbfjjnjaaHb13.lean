import Derived.Test.YtjkjekhbfjjnjaaHb12
/- The contracts of Clear's own function and of slices.IndexFunc with it. -/
namespace Go.Proofs.Ytjkjekhbfjjnjaa
open Go.RowKit Go.Maps
set_option maxRecDepth 100000
set_option linter.unusedSimpArgs false
set_option linter.unusedVariables false

theorem goesTo_of {w : World} {q : Nat} {node : Int} (hq : w.cell? ⟨q, 0, none⟩ = some (.int .i64 node)) (f t : Int) (s : ByteArray) :
    Calls Try.prog 29 #[.agg #[.int .i64 f, .int .i64 t, .string s], .pointer (some ⟨q, 0, none⟩)] w fun e w' => e = .returned (.bool (t == node)) ∧ w' = w.alloc (.cells #[.int .i64 f, .int .i64 t, .string s] 62) := by
  have hql := World.block_lt_of_cell? w _ hq
  dsimp only at hql
  go_enter Try.func29, Try.ntmps29
  go_wp2
  go_ret
  exact ⟨rfl, rfl⟩

/-- Where the first stands that goes to a node, from j on. -/
def firstTo (node : Int) : List Msg → Nat → Option Nat
  | [], _ => none
  | x :: l, j => if x.2.1 == node then some j else firstTo node l (j + 1)

def idxV : Option Nat → Int
  | none => -1
  | some i => (i : Int)

set_option maxHeartbeats 2000000 in
theorem index_of {w : World} {v : Value} {l : List Msg} (h : Rk msgE w 62 v l) {q : Nat} {node : Int} (hq : w.cell? ⟨q, 0, none⟩ = some (.int .i64 node)) (hlen : l.length ≤ 1000000) :
    Calls Try.prog 30 #[v, .func (.func 29) #[] #[.pointer (some ⟨q, 0, none⟩)]] w fun e w' => e = .returned (.int .i64 (idxV (firstTo node l 0))) ∧ Below w.heap.size w w' := by
  obtain ⟨ao, cap, hv, hle, -⟩ := h.shape
  have hql := World.block_lt_of_cell? w _ hq
  dsimp only at hql
  have hcell : ∀ W, Below w.heap.size w W → ∀ i x, l[i]? = some x → ∃ g, ao = some ⟨g, 0, none⟩ ∧ W.cell? ⟨g, i * 3, none⟩ = some (.int .i64 x.1) ∧ W.cell? ⟨g, i * 3 + 1, none⟩ = some (.int .i64 x.2.1) ∧ W.cell? ⟨g, i * 3 + 2, none⟩ = some (.string (str x.2.2)) := fun W hW i x hx => by
    obtain ⟨g, cap', e, _, _, _, c0, c1, c2, _⟩ := msg_cells (h.same fun k hk => hW.block k (h.lt hk)) hx
    rw [hv] at e
    cases e
    exact ⟨g, rfl, c0, c1, c2⟩
  have hqW : ∀ W, Below w.heap.size w W → W.cell? ⟨q, 0, none⟩ = some (.int .i64 node) := fun W hW => (hW.cell (p := ⟨q, 0, none⟩) hql).trans hq
  subst hv
  clear h
  go_enter Try.func30, Try.ntmps30
  go_wp2
  go_loopg [8] l.length (fun g s8 wr => ∃ i : Nat, i + g = l.length ∧ s8 = .int .i64 (i : Int) ∧ Below w.heap.size w wr ∧ firstTo node (l.drop i) i = firstTo node l 0)
  case atStart => exact ⟨0, by simp, rfl, Below.refl _ _, rfl⟩
  case round =>
    obtain ⟨i, hig, rfl, hb, hfi⟩ := hrel
    by_cases hlt : i < l.length
    · have hlti : (i : Int) < (l.length : Int) := by omega
      obtain ⟨x, hx⟩ : ∃ x, l[i]? = some x := ⟨l[i], List.getElem?_eq_getElem hlt⟩
      obtain ⟨g, rfl, c0, c1, c2⟩ := hcell wr hb i x hx
      have kf := goesTo_of (hqW wr hb) x.1 x.2.1 (str x.2.2)
      have hdr : l.drop i = x :: l.drop (i + 1) := by
        rw [List.drop_eq_getElem_cons hlt]
        congr 1
        have := List.getElem?_eq_getElem hlt
        rw [hx] at this
        exact (Option.some.inj this).symm
      rw [hdr] at hfi
      have HF : Hid (firstTo node (x :: l.drop (i + 1)) i = firstTo node l 0) := hfi
      clear hfi hcell hdr
      have hba := hb.alloc hb.size (.cells #[.int .i64 x.1, .int .i64 x.2.1, .string (str x.2.2)] 62)
      by_cases ht : x.2.1 = node
      · have htb : (x.2.1 == node) = true := by simpa using ht
        have HR : Hid (firstTo node l 0 = some i) := by
          have := HF.out
          rw [firstTo, htb] at this
          exact this.symm
        rw [htb] at kf
        clear ht htb
        go_wp2_with (go_at_call 29; refine kf.mono ?_; rintro e wc ⟨rfl, rfl⟩)
        go_ret
        exact ⟨by rw [HR.out]; rfl, hba⟩
      · have htb : (x.2.1 == node) = false := by simpa using ht
        have HR : Hid (firstTo node (l.drop (i + 1)) (i + 1) = firstTo node l 0) := by
          have := HF.out
          rw [firstTo, htb] at this
          exact this
        rw [htb] at kf
        clear ht htb
        go_wp2_with (go_at_call 29; refine kf.mono ?_; rintro e wc ⟨rfl, rfl⟩)
        go_roundg (gk - 1)
        case measure => omega
        case rel => exact ⟨i + 1, by omega, by go_num, hba, HR.out⟩
    · have hlti : ¬ (i : Int) < (l.length : Int) := by omega
      have HR : Hid (firstTo node l 0 = none) := by
        rw [List.drop_of_length_le (by omega)] at hfi
        exact hfi.symm
      clear hfi
      go_wp2
      go_ret
      exact ⟨by rw [HR.out]; rfl, hb⟩
end Go.Proofs.Ytjkjekhbfjjnjaa

