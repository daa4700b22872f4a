import Derived.Test.YtjkjekhbfjjnjaaHb13
/- The contracts of slices.DeleteFunc with Clear's own function, and of Clear. -/
namespace Go.Proofs.Ytjkjekhbfjjnjaa
open Go.RowKit Go.Maps
set_option maxRecDepth 100000
set_option linter.unusedSimpArgs false
set_option linter.unusedVariables false

/-- What does not go to a node. -/
def filt (node : Int) (l : List Msg) : List Msg := l.filter fun x => !(x.2.1 == node)
theorem filt_snoc (node : Int) (l : List Msg) (x : Msg) : filt node (l ++ [x]) = if x.2.1 == node then filt node l else filt node l ++ [x] := by
  unfold filt
  rw [List.filter_append]
  cases h : (x.2.1 == node)
  · simp [List.filter_cons, h]
  · simp [List.filter_cons, h]
theorem filt_cons (node : Int) (l : List Msg) (x : Msg) : filt node (x :: l) = if x.2.1 == node then filt node l else x :: filt node l := by
  unfold filt
  cases h : (x.2.1 == node)
  · simp [List.filter_cons, h]
  · simp [List.filter_cons, h]
theorem filt_le (node : Int) (l : List Msg) : (filt node l).length ≤ l.length := List.length_filter_le _ _
theorem firstTo_none {node : Int} : ∀ {l : List Msg} {j : Nat}, firstTo node l j = none → filt node l = l
  | [], _, _ => rfl
  | x :: l, j, h => by
    rw [firstTo] at h
    rw [filt_cons]
    cases hx : (x.2.1 == node)
    · rw [hx] at h
      simp only [Bool.false_eq_true, if_false] at h ⊢
      rw [firstTo_none h]
    · rw [hx] at h
      cases h
theorem firstTo_some {node : Int} : ∀ {l : List Msg} {j i : Nat}, firstTo node l j = some i → ∃ k, i = j + k ∧ k < l.length ∧ filt node (l.take (k + 1)) = l.take k
  | [], _, _, h => by cases h
  | x :: l, j, i, h => by
    rw [firstTo] at h
    cases hx : (x.2.1 == node)
    · rw [hx] at h
      simp only [Bool.false_eq_true, if_false] at h
      obtain ⟨k, e1, e2, e3⟩ := firstTo_some h
      refine ⟨k + 1, by omega, by simpa using e2, ?_⟩
      rw [List.take_succ_cons, filt_cons, hx, e3]
      rfl
    · rw [hx] at h
      obtain rfl := Option.some.inj h
      refine ⟨0, rfl, by simp, ?_⟩
      rw [List.take_succ_cons, filt_cons, hx]
      simp [filt]

/-- What stands in the row within DeleteFunc: i are kept, all from j on are as they were. -/
structure DelI (node : Int) (l : List Msg) (cap : Nat) (cur : Array Value) (i j : Nat) : Prop where
  size : cur.size = cap * 3
  head : cur.toList.take (i * 3) = msgE.flat (filt node (l.take j))
  len : (filt node (l.take j)).length = i
  rest : ∀ k x c, j ≤ k → l[k]? = some x → c < 3 → cur[k * 3 + c]? = (msgE.enc x)[c]?
  lt : i < j

theorem DelI.skip {node : Int} {l : List Msg} {cap : Nat} {cur : Array Value} {i j : Nat} (h : DelI node l cap cur i j) {x : Msg} (hx : l[j]? = some x) (ht : (x.2.1 == node) = true) : DelI node l cap cur i (j + 1) := by
  have e : l.take (j + 1) = l.take j ++ [x] := by
    have hj := (List.getElem?_eq_some_iff.1 hx).1
    rw [List.take_succ_eq_append_getElem hj]
    congr 2
    exact (List.getElem?_eq_some_iff.1 hx).2
  refine ⟨h.size, ?_, ?_, fun k y c hk => h.rest k y c (by omega), by have := h.lt; omega⟩
  · rw [e, filt_snoc, ht]; exact h.head
  · rw [e, filt_snoc, ht]; exact h.len
theorem DelI.keep {node : Int} {l : List Msg} {cap : Nat} {cur : Array Value} {i j : Nat} (h : DelI node l cap cur i j) (hc : l.length ≤ cap) {x : Msg} (hx : l[j]? = some x) (ht : (x.2.1 == node) = false) :
    DelI node l cap (((cur.setIfInBounds (i * 3) (.int .i64 x.1)).setIfInBounds (i * 3 + 1) (.int .i64 x.2.1)).setIfInBounds (i * 3 + 2) (.string (str x.2.2))) (i + 1) (j + 1) := by
  have hj := (List.getElem?_eq_some_iff.1 hx).1
  have e : l.take (j + 1) = l.take j ++ [x] := by
    rw [List.take_succ_eq_append_getElem hj]
    congr 2
    exact (List.getElem?_eq_some_iff.1 hx).2
  have hlt := h.lt
  have hsz := h.size
  have hr : (i + 1) * 3 ≤ cur.size := by rw [hsz]; exact Nat.mul_le_mul_right _ (by omega)
  refine ⟨by simp [hsz], ?_, ?_, fun k y c hk hy hc3 => ?_, by omega⟩
  · rw [e, filt_snoc, ht]
    simp only [Bool.false_eq_true, if_false]
    rw [El.flat_append, El.flat_one, ← h.head]
    simp only [Array.toList_setIfInBounds]
    have hcl : (i + 1) * 3 ≤ cur.toList.length := by rw [Array.length_toList]; exact hr
    generalize cur.toList = L at *
    apply List.ext_getElem?
    intro k
    rw [List.getElem?_take]
    by_cases hk : k < (i + 1) * 3
    · rw [if_pos hk]
      by_cases hk0 : k < i * 3
      · rw [List.getElem?_set_ne (by omega), List.getElem?_set_ne (by omega), List.getElem?_set_ne (by omega), List.getElem?_append_left (by rw [List.length_take]; omega), List.getElem?_take_of_lt hk0]
      · have hk3 : k = i * 3 ∨ k = i * 3 + 1 ∨ k = i * 3 + 2 := by omega
        have hl3 : (List.take (i * 3) L).length = i * 3 := by rw [List.length_take]; omega
        rw [List.getElem?_append_right (by rw [hl3]; omega), hl3]
        rcases hk3 with rfl | rfl | rfl
        · rw [List.getElem?_set_ne (by omega), List.getElem?_set_ne (by omega), List.getElem?_set_self (by omega), Nat.sub_self]
          rfl
        · rw [List.getElem?_set_ne (by omega), List.getElem?_set_self (by simp; omega), show i * 3 + 1 - i * 3 = 1 by omega]
          rfl
        · rw [List.getElem?_set_self (by simp; omega), show i * 3 + 2 - i * 3 = 2 by omega]
          rfl
    · rw [if_neg hk, List.getElem?_eq_none]
      have : (msgE.enc x).length = 3 := rfl
      rw [List.length_append, List.length_take, this]
      omega
  · rw [e, filt_snoc, ht]
    simp [h.len]
  · have hk3 : (i + 1) * 3 ≤ k * 3 := Nat.mul_le_mul_right _ (by omega)
    rw [Array.getElem?_setIfInBounds_ne (by omega), Array.getElem?_setIfInBounds_ne (by omega), Array.getElem?_setIfInBounds_ne (by omega)]
    exact h.rest k y c (by omega) hy hc3

theorem set3 {W : World} {G : Nat} {cur : Array Value} {t : TypeId} (h : W.heap[G]? = some (.cells cur t (0, 0))) (a b c : Nat) (x y z : Value) :
    (((W.setCell ⟨G, a, none⟩ x).setCell ⟨G, b, none⟩ y).setCell ⟨G, c, none⟩ z).heap[G]? = some (.cells (((cur.setIfInBounds a x).setIfInBounds b y).setIfInBounds c z) t (0, 0)) ∧ ∀ k, k ≠ G → (((W.setCell ⟨G, a, none⟩ x).setCell ⟨G, b, none⟩ y).setCell ⟨G, c, none⟩ z).heap[k]? = W.heap[k]? := by
  refine ⟨by simp [World.setCell, Array.getElem?_modify, h], fun k e => ?_⟩
  rw [Below.heap_setCell _ _ _ _ e, Below.heap_setCell _ _ _ _ e, Below.heap_setCell _ _ _ _ e]

/-- What DeleteFunc leaves. -/
def DelfT (w : World) (v : Value) (xs : List Msg) (e : Ending) (w' : World) : Prop :=
  ∃ v', e = .returned v' ∧ Rk msgE w' 62 v' xs ∧ w.grownBy w' v.ownBlock ∧ v'.ownBlock = v.ownBlock

set_option maxHeartbeats 4000000 in
theorem deletef_of {w : World} {v : Value} {l : List Msg} (h : Rk msgE w 62 v l) {q : Nat} {node : Int} (hq : w.cell? ⟨q, 0, none⟩ = some (.int .i64 node)) (hqv : v.ownBlock ≠ some q) (hlen : l.length ≤ 1000000) :
    Calls Try.prog 28 #[v, .func (.func 29) #[] #[.pointer (some ⟨q, 0, none⟩)]] w (DelfT w v (filt node l)) := by
  have ki := index_of h hq hlen
  have hql := World.block_lt_of_cell? w _ hq
  dsimp only at hql
  cases hfi : firstTo node l 0 with
  | none =>
    rw [hfi] at ki
    have hft := firstTo_none hfi
    have hfin : ∀ W, Below w.heap.size w W → Hid (DelfT w v (filt node l) (.returned v) W) := fun W hW => ⟨v, rfl, by rw [hft]; exact h.same fun k hk => hW.block k (h.lt hk), ⟨hW.os, hW.tape, hW.output, hW.size, fun b hb _ => hW.block b hb⟩, rfl⟩
    obtain ⟨ao, cap, hv, -⟩ := h.shape
    subst hv
    generalize DelfT w (.slice ao l.length cap) (filt node l) = T at *
    clear h hft hfi
    unfold idxV at ki
    go_enter Try.func28, Try.ntmps28
    go_wp2_with (go_at_call 30; refine ki.mono ?_; rintro e W ⟨rfl, hW⟩; have hf := hfin W hW)
    first | exact hf.out | (go_ret; exact hf.out)
  | some i0 =>
    rw [hfi] at ki
    obtain ⟨i1, e1, hi1, hi2⟩ := firstTo_some hfi
    obtain rfl : i0 = i1 := by omega
    obtain ⟨G, cap, cur0, hv, hle, hm, hbk, hcs, ht, hcell, hf⟩ := h.cells (by omega)
    have hGl := (Array.getElem?_eq_some_iff.1 hbk).1
    have hGq : G ≠ q := fun e => hqv (by rw [hv, ← e]; rfl)
    have hI0 : DelI node l cap cur0 i0 (i0 + 1) := by
      refine ⟨hcs, ?_, ?_, fun k x c hk hx hc => ?_, by omega⟩
      · rw [hi2, ← El.flat_take, ← ht, List.take_take, Nat.min_eq_left (Nat.mul_le_mul_right _ (by omega))]
      · rw [hi2, List.length_take]; omega
      · rw [← hcell k x c hx hc, cells_of_block hbk]
    -- what is at the end
    have hend : ∀ W cur i, Kept (fun b => b = G) w W → W.heap[G]? = some (.cells cur 62 (0, 0)) → DelI node l cap cur i l.length → Hid (i < l.length ∧ ∃ W2, (∀ ty c, (Builtin.clear_ #[46] ty #[.slice (some ⟨G, i * 3, none⟩) (l.length - i) c]).run Try.prog W = .ok (.tuple #[]) W2) ∧ DelfT w v (filt node l) (.returned (.slice (some ⟨G, 0, none⟩) i cap)) W2) := fun W cur i hK hW hI => by
      have hlt := hI.lt
      have hhd := hI.head
      have hle2 := hI.len
      rw [List.take_of_length_le (Nat.le_refl _)] at hhd hle2
      have hsz := hI.size
      have h3 : i * 3 + (l.length - i) * 3 ≤ cap * 3 := by
        have : (i + (l.length - i)) * 3 ≤ cap * 3 := Nat.mul_le_mul_right _ (by omega)
        rw [Nat.add_mul] at this
        exact this
      refine ⟨hlt, _, fun ty c => run_clear_row W G cur hW (i * 3) (l.length - i) (by omega) (by rw [hsz]; exact h3) ty c, ?_⟩
      refine ⟨_, rfl, ?_, ⟨hK.os, hK.tape, hK.output, by rw [setRow_size]; exact hK.size, fun b hbl hne => ?_⟩, by rw [hv]; rfl⟩
      · unfold Rk
        rw [hle2]
        refine ⟨by rw [El.flat_length, hle2], .inr ⟨G, cap, _, rfl, Nat.zero_le _, setRow_heap W G _ _ _ _ hW, by omega, hm, ?_, ?_⟩⟩
        · simp only [List.size_toArray, List.length_append, List.length_take, List.length_drop, Array.length_toList, zs3_length, hsz]
          show _ = cap * 3
          omega
        · rw [← hhd]
          show List.take (i * 3) (_ ++ _ ++ _) = _
          rw [List.append_assoc, List.take_append_of_le_length (by rw [List.length_take, Array.length_toList, hsz]; omega), List.take_take, Nat.min_self]
      · have hbG : b ≠ G := fun e => hne (by rw [hv, e]; rfl)
        rw [setRow_other _ _ _ _ hbG]
        exact hK.block b hbl hbG
    have hn := hlen
    subst hv
    generalize DelfT w (.slice (some ⟨G, 0, none⟩) l.length cap) (filt node l) = T at *
    clear h hi2 hcs ht hcell hf hfi e1
    unfold idxV at ki
    have hb1 : (i0 : Int) ≤ 1000000 := by omega
    have hb0 : (0 : Int) ≤ (i0 : Int) := by omega
    have hne2 : ((i0 : Int) == -1) = false := by simp
    have hne1 : ¬ (i0 : Int) = -1 := by omega
    go_enter Try.func28, Try.ntmps28
    go_wp2_with (go_at_call 30; refine ki.mono ?_; rintro e W0 ⟨rfl, hW0⟩)
    go_loopg [5, 6] (l.length - (i0 + 1)) (fun g s5 s6 wr => ∃ (i j : Nat) (cur : Array Value), j + g = l.length ∧ s5 = .int .i64 (i : Int) ∧ s6 = .int .i64 (j : Int) ∧ Kept (fun b => b = G) w wr ∧ wr.heap[G]? = some (.cells cur 62 (0, 0)) ∧ DelI node l cap cur i j)
    case atStart => exact ⟨i0, i0 + 1, cur0, by omega, rfl, by go_num, Below.kept hW0, (hW0.block G hGl).trans hbk, hI0⟩
    case round =>
      obtain ⟨i, j, cur, hjg, rfl, rfl, hK, hG, hI⟩ := hrel
      clear hI0 ki hbk hb1 hb0 hne2 hne1
      have hlti := hI.lt
      have hqW := hK.cell hq (fun e => hGq e.symm)
      by_cases hlt : j < l.length
      · have hltj : (j : Int) < (l.length : Int) := by omega
        have hilt : (i : Int) < (l.length : Int) := by omega
        obtain ⟨x, hx⟩ : ∃ x, l[j]? = some x := ⟨l[j], List.getElem?_eq_getElem hlt⟩
        have c0 : wr.cell? ⟨G, j * 3, none⟩ = some (.int .i64 x.1) := by rw [cells_of_block hG]; exact hI.rest j x 0 (Nat.le_refl _) hx (by decide)
        have c1 : wr.cell? ⟨G, j * 3 + 1, none⟩ = some (.int .i64 x.2.1) := by rw [cells_of_block hG]; exact hI.rest j x 1 (Nat.le_refl _) hx (by decide)
        have c2 : wr.cell? ⟨G, j * 3 + 2, none⟩ = some (.string (str x.2.2)) := by rw [cells_of_block hG]; exact hI.rest j x 2 (Nat.le_refl _) hx (by decide)
        have hjb : (j : Int) ≤ 1000000 := by omega
        have hib : (i : Int) ≤ 1000000 := by omega
        have hgr := (Array.getElem?_eq_some_iff.1 hG).1
        have hqr := World.block_lt_of_cell? wr _ hqW
        dsimp only at hqr
        have a1 := (Below.refl wr.heap.size wr).alloc (Nat.le_refl _) (.cells #[.int .i64 x.1, .int .i64 x.2.1, .string (str x.2.2)] 62)
        have a2 := a1.alloc a1.size (.cells #[.int .i64 x.1, .int .i64 x.2.1, .string (str x.2.2)] 62)
        have kf := goesTo_of ((a1.cell (p := ⟨q, 0, none⟩) hqr).trans hqW) x.1 x.2.1 (str x.2.2)
        have hG2 := (a2.block G hgr).trans hG
        have hK2 : Kept (fun b => b = G) w ((wr.alloc (.cells #[.int .i64 x.1, .int .i64 x.2.1, .string (str x.2.2)] 62)).alloc (.cells #[.int .i64 x.1, .int .i64 x.2.1, .string (str x.2.2)] 62)) := hK.trans (Below.kept (S := fun _ => False) a2) (fun b hb => hb.elim)
        cases htb : (x.2.1 == node)
        · rw [htb] at kf
          have hI' := hI.keep hle hx htb
          have s3 := set3 hG (i * 3) (i * 3 + 1) (i * 3 + 2) (.int .i64 x.1) (.int .i64 x.2.1) (.string (str x.2.2))
          have hzs : (((wr.setCell ⟨G, i * 3, none⟩ (.int .i64 x.1)).setCell ⟨G, i * 3 + 1, none⟩ (.int .i64 x.2.1)).setCell ⟨G, i * 3 + 2, none⟩ (.string (str x.2.2))).heap.size = wr.heap.size := by simp [World.setCell]
          have b1 := (Below.refl _ (((wr.setCell ⟨G, i * 3, none⟩ (.int .i64 x.1)).setCell ⟨G, i * 3 + 1, none⟩ (.int .i64 x.2.1)).setCell ⟨G, i * 3 + 2, none⟩ (.string (str x.2.2)))).alloc (Nat.le_refl _) (.cells #[.int .i64 x.1, .int .i64 x.2.1, .string (str x.2.2)] 62)
          have b2 := b1.alloc b1.size (.cells #[.int .i64 x.1, .int .i64 x.2.1, .string (str x.2.2)] 62)
          have hK3 : Hid (Kept (fun b => b = G) w (((((wr.setCell ⟨G, i * 3, none⟩ (.int .i64 x.1)).setCell ⟨G, i * 3 + 1, none⟩ (.int .i64 x.2.1)).setCell ⟨G, i * 3 + 2, none⟩ (.string (str x.2.2))).alloc (.cells #[.int .i64 x.1, .int .i64 x.2.1, .string (str x.2.2)] 62)).alloc (.cells #[.int .i64 x.1, .int .i64 x.2.1, .string (str x.2.2)] 62))) := by
            have hKs : Kept (fun b => b = G) w (((wr.setCell ⟨G, i * 3, none⟩ (.int .i64 x.1)).setCell ⟨G, i * 3 + 1, none⟩ (.int .i64 x.2.1)).setCell ⟨G, i * 3 + 2, none⟩ (.string (str x.2.2))) := ⟨hK.os, hK.tape, hK.output, by rw [hzs]; exact hK.size, fun k hk hS => (s3.2 k hS).trans (hK.block k hk hS)⟩
            exact hKs.trans (Below.kept (S := fun _ => False) b2) (fun b hb => hb.elim)
          have S3 : Hid _ := (b2.block G (by rw [hzs]; exact hgr)).trans s3.1
          have hI2 : Hid _ := hI'
          have d0 : ∃ u, wr.cell? ⟨G, i * 3, none⟩ = some u := by
            rw [cells_of_block hG]
            exact ⟨_, Array.getElem?_eq_getElem (by rw [hI.size]; omega)⟩
          have d1 : ∃ u, wr.cell? ⟨G, i * 3 + 1, none⟩ = some u := by
            rw [cells_of_block hG]
            exact ⟨_, Array.getElem?_eq_getElem (by rw [hI.size]; omega)⟩
          have d2 : ∃ u, wr.cell? ⟨G, i * 3 + 2, none⟩ = some u := by
            rw [cells_of_block hG]
            exact ⟨_, Array.getElem?_eq_getElem (by rw [hI.size]; omega)⟩
          obtain ⟨u0, d0⟩ := d0
          obtain ⟨u1, d1⟩ := d1
          obtain ⟨u2, d2⟩ := d2
          have hfz : ∀ k, wr.frozen? ⟨G, k, none⟩ = false := fun k => frozen_of hG k
          clear htb s3 hI' hI hG hG2 hK hK2 a1 a2 b1 b2 hzs hend hx
          go_wp2_with (go_at_call 29; refine kf.mono ?_; rintro e wc ⟨rfl, rfl⟩)
          go_roundg (gk - 1)
          case measure => omega
          case rel => exact ⟨i + 1, j + 1, _, by omega, by go_num, by go_num, hK3.out, S3.out, hI2.out⟩
        · rw [htb] at kf
          have hI2 : Hid _ := hI.skip hx htb
          have S3 : Hid _ := hG2
          have hK3 : Hid _ := hK2
          clear htb hI hG2 hK hK2 a1 a2 hend hx
          go_wp2_with (go_at_call 29; refine kf.mono ?_; rintro e wc ⟨rfl, rfl⟩)
          go_roundg (gk - 1)
          case measure => omega
          case rel => exact ⟨i, j + 1, _, by omega, rfl, by go_num, hK3.out, S3.out, hI2.out⟩
      · have hltj : ¬ (j : Int) < (l.length : Int) := by omega
        obtain rfl : j = l.length := by omega
        obtain ⟨hil, W2, hcl, hfin⟩ := (hend wr cur i hK hG hI).out
        have HF : Hid _ := hfin
        have hilI : (i : Int) < (l.length : Int) := by omega
        have hile : i ≤ l.length := by omega
        have hicap : i ≤ cap := by omega
        have hcapi : ¬ cap = i := by omega
        clear hfin hend hI hG hK
        go_wp2
        first | exact HF.out | (go_ret; exact HF.out)
end Go.Proofs.Ytjkjekhbfjjnjaa

