import Derived.Test.YtfpbgfmnjpamlaaGreatHv09
import Derived.Test.YtfpbgfmnjpamlaaGreatHv10
import Derived.Test.YtfpbgfmnjpamlaaGreatHv11
import Derived.Laws.CopyRow
/- slices.DeleteFunc at intents and marks of one's own. -/
namespace Go.Proofs.YtfpbgfmnjpamlaaGreat
open Go.RowKit LeaseMath
set_option maxRecDepth 100000
set_option linter.unusedSimpArgs false
set_option linter.unusedVariables false

theorem firstP_none {α : Type} {P : α → Bool} : ∀ {l : List α} {j : Nat}, firstP P l j = none → l.filter (fun x => !P x) = l
 | [], _, _ => rfl
 | x :: l, j, h => by
  rw [firstP] at h
  cases hx : P x with
  | false =>
   rw [hx] at h
   simp only [Bool.false_eq_true, if_false] at h
   rw [List.filter_cons, hx]
   simp [firstP_none h]
  | true =>
   rw [hx] at h
   cases h
theorem firstP_get {α : Type} {P : α → Bool} : ∀ {l : List α} {j i : Nat}, firstP P l j = some i → ∃ k, i = j + k ∧ k < l.length ∧ (l.take (k + 1)).filter (fun x => !P x) = l.take k
 | [], _, _, h => by cases h
 | x :: l, j, i, h => by
  rw [firstP] at h
  cases hx : P x with
  | false =>
   rw [hx] at h
   simp only [Bool.false_eq_true, if_false] at h
   obtain ⟨k, e1, e2, e3⟩ := firstP_get h
   refine ⟨k + 1, by omega, by simpa using e2, ?_⟩
   rw [List.take_succ_cons, List.filter_cons, hx, e3]
   rfl
  | true =>
   rw [hx] at h
   obtain rfl := Option.some.inj h
   refine ⟨0, rfl, by simp, ?_⟩
   simp [hx]
/-- What stands in the row within DeleteFunc: i are kept, all from j on are as they were. -/
structure DelI {α : Type} (E : El α) (P : α → Bool) (l : List α) (cap : Nat) (cur : Array Value) (i j : Nat) : Prop where
 size : cur.size = cap * E.k
 head : cur.toList.take (i * E.k) = E.flat ((l.take j).filter fun x => !P x)
 len : ((l.take j).filter fun x => !P x).length = i
 rest : ∀ n x c, j ≤ n → l[n]? = some x → c < E.k → cur[n * E.k + c]? = (E.enc x)[c]?
 lt : i < j
theorem DelI.skip {α : Type} {E : El α} {P : α → Bool} {l : List α} {cap : Nat} {cur : Array Value} {i j : Nat} (h : DelI E P l cap cur i j) {x : α} (hx : l[j]? = some x) (ht : P x = true) : DelI E P l cap cur i (j + 1) :=
 ⟨h.size, by rw [fl_no hx (by rw [ht]; rfl)]; exact h.head, by rw [fl_no hx (by rw [ht]; rfl)]; exact h.len, fun n y c hn => h.rest n y c (by omega), by have := h.lt; omega⟩
theorem DelI.keep {α : Type} {E : El α} {P : α → Bool} {l : List α} {cap : Nat} {cur cur' : Array Value} {i j : Nat} (h : DelI E P l cap cur i j) (hc : l.length ≤ cap) {x : α} (hx : l[j]? = some x) (ht : P x = false)
  (hs : cur'.size = cur.size) (hin : ∀ c, c < E.k → cur'[i * E.k + c]? = (E.enc x)[c]?) (hout : ∀ n, n < i * E.k ∨ i * E.k + E.k ≤ n → cur'[n]? = cur[n]?) : DelI E P l cap cur' (i + 1) (j + 1) := by
 have hj := (List.getElem?_eq_some_iff.1 hx).1
 have hlt := h.lt
 have hsz := h.size
 have hr : (i + 1) * E.k ≤ cur.size := by rw [hsz]; exact Nat.mul_le_mul_right _ (by omega)
 have e1 : (i + 1) * E.k = i * E.k + E.k := by rw [Nat.add_mul, Nat.one_mul]
 refine ⟨by rw [hs, hsz], ?_, by rw [fl_yes hx (by rw [ht]; rfl), List.length_append, h.len]; rfl, fun n y c hn hy hck => ?_, by omega⟩
 ·rw [fl_yes hx (by rw [ht]; rfl), El.flat_append, El.flat_one, ← h.head]
  apply List.ext_getElem?
  intro n
  rw [List.getElem?_take]
  by_cases hn : n < (i + 1) * E.k
  ·rw [if_pos hn, Array.getElem?_toList]
   by_cases hn0 : n < i * E.k
   ·rw [hout n (.inl hn0), List.getElem?_append_left (by rw [List.length_take, Array.length_toList]; omega), List.getElem?_take_of_lt hn0, Array.getElem?_toList]
   ·have hl3 : (cur.toList.take (i * E.k)).length = i * E.k := by rw [List.length_take, Array.length_toList]; omega
    rw [List.getElem?_append_right (by rw [hl3]; omega), hl3, ← hin (n - i * E.k) (by omega)]
    congr 1
    omega
  ·rw [if_neg hn, List.getElem?_eq_none]
   rw [List.length_append, List.length_take, Array.length_toList, E.len]
   omega
 ·have : (i + 1) * E.k ≤ n * E.k := Nat.mul_le_mul_right _ (by omega)
  rw [hout _ (.inr (by omega))]
  exact h.rest n y c (by omega) hy hck
/-- What DeleteFunc leaves. -/
def DelfT {α : Type} (E : El α) (t : TypeId) (w : World) (v : Value) (xs : List α) (e : Ending) (w' : World) : Prop :=
 ∃ v', e = .returned v' ∧ Rk E w' t v' xs ∧ w.grownBy w' v.ownBlock ∧ v'.ownBlock = v.ownBlock
theorem grown_then {w w1 w2 : World} {G : Nat} (h : w.grownBy w1 (some G)) (hb : Below w1.heap.size w1 w2) : w.grownBy w2 (some G) :=
 ⟨hb.os.trans h.os, hb.tape.trans h.tape, hb.output.trans h.output, Nat.le_trans h.size hb.size, fun i hi hne => (hb.block i (Nat.lt_of_lt_of_le hi h.size)).trans (h.block i hi hne)⟩
theorem grown_set {w w1 : World} {G j : Nat} {u : Value} (h : w.grownBy w1 (some G)) : w.grownBy (w1.setCell ⟨G, j, none⟩ u) (some G) :=
 ⟨h.os, h.tape, h.output, by simpa using h.size, fun i hi hne => (set_other (fun e => hne (by rw [e]))).trans (h.block i hi hne)⟩

theorem zeroI (w : World) : (zeroValue 63).run Tryz.prog w = .ok (.agg #[.string { data := #[] }, .int .i64 0, .int .u64 0, .int .i64 0, .int .u64 0, .int .i64 0]) w := by kernel_rfl
def zsI (n : Nat) : List Value := (Builtin.zeroCells #[.string { data := #[] }, .int .i64 0, .int .u64 0, .int .i64 0, .int .u64 0, .int .i64 0] n).toList
theorem zsI_length (n : Nat) : (zsI n).length = n * 6 := by simp [zsI, Builtin.zeroCells]
theorem zsI_one (n : Nat) : ∀ v ∈ zsI n, v.oneCell' = true := by
 intro v hv
 simp only [zsI, Builtin.zeroCells, Array.toList_map, Array.toList_range, List.mem_map, List.mem_range] at hv
 obtain ⟨i, hi, rfl⟩ := hv
 have h2 : i % 6 = 0 ∨ i % 6 = 1 ∨ i % 6 = 2 ∨ i % 6 = 3 ∨ i % 6 = 4 ∨ i % 6 = 5 := by omega
 rcases h2 with h | h | h | h | h | h
 ·simp [h]; rfl
 ·simp [h]; rfl
 ·simp [h]; rfl
 ·simp [h]; rfl
 ·simp [h]; rfl
 ·simp [h]; rfl
theorem clear_rowI (w : World) (g : Nat) (cur : Array Value) (hbk : w.heap[g]? = some (.cells cur 63 (0, 0))) (o n : Nat) (hn : 0 < n) (hcs : o + n * 6 ≤ cur.size) (ty : TypeId) (c : Nat) :
  (Builtin.clear_ #[25] ty #[.slice (some ⟨g, o, none⟩) n c]).run Tryz.prog w = .ok (.tuple #[]) (w.setRow g (cur.toList.take o ++ zsI n ++ cur.toList.drop (o + n * 6)).toArray) := by
 have hst := run_storeCells_at (P := Tryz.prog) g o 63 (zsI n) 0 cur w hbk (by rw [zsI_length]; omega) (zsI_one _)
 rw [zsI_length] at hst
 simp only [Nat.add_zero] at hst
 obtain ⟨m, rfl⟩ : ∃ m, n = m + 1 := ⟨n - 1, by omega⟩
 obtain ⟨R, hR⟩ : ∃ R, R = (cur.toList.take o ++ zsI (m + 1) ++ cur.toList.drop (o + (m + 1) * 6)).toArray := ⟨_, rfl⟩
 rw [← hR] at hst ⊢
 clear hR
 unfold zsI at hst
 have hzc : (Value.agg #[.string { data := #[] }, .int .i64 0, .int .u64 0, .int .i64 0, .int .u64 0, .int .i64 0]).cells = #[.string { data := #[] }, .int .i64 0, .int .u64 0, .int .i64 0, .int .u64 0, .int .i64 0] := rfl
 simp [Builtin.clear_, run_underlying Tryz.underlying25, zeroI, hzc, hst]

set_option maxHeartbeats 8000000 in
theorem deletefI_of (P : It → Bool) {w : World} {v : Value} {l : List It} (p0 : Value) (h : Rk itE w 63 v l) (hlen : l.length ≤ 1000000) (hP : ∀ z W, z ∈ l → (∀ G, v.ownBlock = some G → w.grownBy W (some G)) → (v.ownBlock = none → Below w.heap.size w W) → Calls Tryz.prog 46 #[iv z, p0] W fun e w' => e = .returned (.bool (P z)) ∧ Below W.heap.size W w') :
  Calls Tryz.prog 45 #[v, .func (.func 46) #[] #[p0]] w (DelfT itE 63 w v (l.filter fun x => !P x)) := by
 have ki := idxFin_ix P l v p0 w h.rd (by omega) (fun z W hz hW => hP z W hz (fun G _ => ⟨hW.os, hW.tape, hW.output, hW.size, fun i hi _ => hW.block i hi⟩) (fun _ => hW))
 cases hfi : firstP P l 0 with
 | none =>
  rw [hfi] at ki
  have hft := firstP_none hfi
  have hfin : ∀ W, Below w.heap.size w W → Hid (DelfT itE 63 w v (l.filter fun x => !P x) (.returned v) W) := fun W hW => ⟨v, rfl, by rw [hft]; exact h.same fun k hk => hW.block k (h.lt hk), ⟨hW.os, hW.tape, hW.output, hW.size, fun b hb _ => hW.block b hb⟩, rfl⟩
  obtain ⟨ao, cap, hv_, -⟩ := h.shape
  subst hv_
  generalize DelfT itE 63 w (.slice ao l.length cap) (l.filter fun x => !P x) = TT at *
  clear h hft hfi hP
  unfold idxP at ki
  go_enter Tryz.func45, Tryz.ntmps45
  go_wp2_with (go_at_call 109; refine ki.mono ?_; rintro e W ⟨rfl, hW⟩; have hf := hfin W hW)
  first | exact hf.out | (go_ret; exact hf.out)
 | some i0 =>
  rw [hfi] at ki
  obtain ⟨i1, e1, hi1, hi2⟩ := firstP_get hfi
  obtain rfl : i0 = i1 := by omega
  obtain ⟨G, cap, cur0, hv_, hle, hm, hbk, hcs, ht, hcell, hf⟩ := h.cells (by omega)
  have hGl := (Array.getElem?_eq_some_iff.1 hbk).1
  have hP2 : Hid (∀ z W, z ∈ l → w.grownBy W (some G) → Calls Tryz.prog 46 #[iv z, p0] W fun e w' => e = .returned (.bool (P z)) ∧ Below W.heap.size W w') := fun z W hz hW => hP z W hz (fun G' hG' => by rw [hv_] at hG'; cases hG'; exact hW) (fun hn => by rw [hv_] at hn; cases hn)
  have hI0 : DelI itE P l cap cur0 i0 (i0 + 1) := by
   refine ⟨hcs, ?_, ?_, fun k x c hk hx hc => ?_, by omega⟩
   ·rw [hi2, ← El.flat_take, ← ht, List.take_take, Nat.min_eq_left (Nat.mul_le_mul_right _ (by omega))]
   ·rw [hi2, List.length_take]; omega
   ·rw [← hcell k x c hx hc, cells_of_block hbk]
  have hend : ∀ W cur i, w.grownBy W (some G) → W.heap[G]? = some (.cells cur 63 (0, 0)) → DelI itE P l cap cur i l.length → Hid (i < l.length ∧ ∃ W2, (∀ ty c, (Builtin.clear_ #[25] ty #[.slice (some ⟨G, i * 6, none⟩) (l.length - i) c]).run Tryz.prog W = .ok (.tuple #[]) W2) ∧ DelfT itE 63 w v (l.filter fun x => !P x) (.returned (.slice (some ⟨G, 0, none⟩) i cap)) W2) := fun W cur i hK hW hI => by
   have hlt := hI.lt
   have hhd : cur.toList.take (i * 6) = _ := hI.head
   have hle2 := hI.len
   rw [List.take_of_length_le (Nat.le_refl _)] at hhd hle2
   have hsz : cur.size = cap * 6 := hI.size
   have h3 : i * 6 + (l.length - i) * 6 ≤ cap * 6 := by
    have : (i + (l.length - i)) * 6 ≤ cap * 6 := Nat.mul_le_mul_right _ (by omega)
    rw [Nat.add_mul] at this
    exact this
   refine ⟨hlt, _, fun ty c => clear_rowI W G cur hW (i * 6) (l.length - i) (by omega) (by rw [hsz]; exact h3) ty c, ?_⟩
   refine ⟨_, rfl, ?_, ⟨hK.os, hK.tape, hK.output, by rw [setRow_size]; exact hK.size, fun b hbl hne => ?_⟩, by rw [hv_]; rfl⟩
   ·unfold Rk
    rw [hle2]
    refine ⟨by rw [El.flat_length, hle2], .inr ⟨G, cap, _, rfl, Nat.zero_le _, setRow_heap W G _ _ _ _ hW, by omega, hm, ?_, ?_⟩⟩
    ·simp only [List.size_toArray, List.length_append, List.length_take, List.length_drop, Array.length_toList, zsI_length, hsz]
     show _ = cap * 6
     omega
    ·rw [← hhd]
     show List.take (i * 6) (_ ++ _ ++ _) = _
     rw [List.append_assoc, List.take_append_of_le_length (by rw [List.length_take, Array.length_toList, hsz]; omega), List.take_take, Nat.min_self]
   ·have hbG : b ≠ G := fun e => hne (by rw [hv_, e]; rfl)
    rw [setRow_other _ _ _ _ hbG]
    exact hK.block b hbl (fun e => hbG (Option.some.inj e))
  subst hv_
  generalize DelfT itE 63 w (.slice (some ⟨G, 0, none⟩) l.length cap) (l.filter fun x => !P x) = TT at *
  clear h hi2 hcs ht hcell hf hfi e1 hP
  unfold idxP at ki
  have hb1 : (i0 : Int) ≤ 1000000 := by omega
  have hb0 : (0 : Int) ≤ (i0 : Int) := by omega
  have hne2 : ((i0 : Int) == -1) = false := by simp
  have hne1 : ¬ (i0 : Int) = -1 := by omega
  go_enter Tryz.func45, Tryz.ntmps45
  go_wp2_with (go_at_call 109; refine ki.mono ?_; rintro e W0 ⟨rfl, hW0⟩)
  go_loopg [5, 6] (l.length - (i0 + 1)) (fun g s5 s6 wr => ∃ (i j : Nat) (cur : Array Value), j + g = l.length ∧ s5 = .int .i64 (i : Int) ∧ s6 = .int .i64 (j : Int) ∧ w.grownBy wr (some G) ∧ wr.heap[G]? = some (.cells cur 63 (0, 0)) ∧ DelI itE P l cap cur i j)
  case atStart => exact ⟨i0, i0 + 1, cur0, by omega, rfl, by go_num, ⟨hW0.os, hW0.tape, hW0.output, hW0.size, fun i hi _ => hW0.block i hi⟩, (hW0.block G hGl).trans hbk, hI0⟩
  case round =>
   obtain ⟨i, j, cur, hjg, rfl, rfl, hK, hG, hI⟩ := hrel
   clear hI0 ki hbk hb1 hb0 hne2 hne1
   have hlti := hI.lt
   by_cases hlt : j < l.length
   ·have hltj : (j : Int) < (l.length : Int) := by omega
    have hilt : (i : Int) < (l.length : Int) := by omega
    obtain ⟨⟨k, ⟨c, q⟩, kd, tk, tt⟩, hx⟩ : ∃ x, l[j]? = some x := ⟨l[j], List.getElem?_eq_getElem hlt⟩
    have hjb : (j : Int) ≤ 1000000 := by omega
    have hib : (i : Int) ≤ 1000000 := by omega
    have hgr := (Array.getElem?_eq_some_iff.1 hG).1
    have hrs := fun cN => hI.rest j (k, (c, q), kd, tk, tt) cN (Nat.le_refl _) hx
    have a0 : wr.cell? ⟨G, j * 6, none⟩ = some (.string (bk k)) := (cells_of_block hG _).trans (hrs 0 (by decide))
    have a1 : wr.cell? ⟨G, j * 6 + 1, none⟩ = some (.int .i64 c) := (cells_of_block hG _).trans (hrs 1 (by decide))
    have a2 : wr.cell? ⟨G, j * 6 + 2, none⟩ = some (.int .u64 (q : Int)) := (cells_of_block hG _).trans (hrs 2 (by decide))
    have a3 : wr.cell? ⟨G, j * 6 + 3, none⟩ = some (.int .i64 kd) := (cells_of_block hG _).trans (hrs 3 (by decide))
    have a4 : wr.cell? ⟨G, j * 6 + 4, none⟩ = some (.int .u64 (tk : Int)) := (cells_of_block hG _).trans (hrs 4 (by decide))
    have a5 : wr.cell? ⟨G, j * 6 + 5, none⟩ = some (.int .i64 tt) := (cells_of_block hG _).trans (hrs 5 (by decide))
    obtain ⟨hsx, hbx, clx⟩ := it_box wr (k, (c, q), kd, tk, tt)
    have hKb := grown_then hK hbx
    have kf := hP2.out (k, (c, q), kd, tk, tt) (wr.alloc (ic (k, (c, q), kd, tk, tt))) (List.mem_of_getElem? hx) hKb
    obtain ⟨b0, b1, b2, b3, b4, b5⟩ := clx _ (Below.refl _ _)
    have hszx : wr.heap.size + 1 ≤ (wr.alloc (ic (k, (c, q), kd, tk, tt))).heap.size := by omega
    cases htb : P (k, (c, q), kd, tk, tt) with
    | false =>
     rw [htb] at kf
     have hkeep : ∀ cur', cur'.size = cur.size → (∀ cN, cN < 6 → cur'[i * 6 + cN]? = (itE.enc (k, (c, q), kd, tk, tt))[cN]?) → (∀ n, n < i * 6 ∨ i * 6 + 6 ≤ n → cur'[n]? = cur[n]?) → Hid (DelI itE P l cap cur' (i + 1) (j + 1)) := fun cur' s1 s2 s3 => hI.keep hle hx htb s1 s2 s3
     have hcz : i * 6 + 6 ≤ cur.size := by
      rw [hI.size]
      have : (i + 1) * 6 ≤ cap * 6 := Nat.mul_le_mul_right _ (by omega)
      show _ ≤ cap * 6
      omega
     dsimp only [iv, ic] at *
     have HK : Hid _ := hkeep ((((((cur.setIfInBounds (i * 6) (.string (bk k))).setIfInBounds (i * 6 + 1) (.int .i64 c)).setIfInBounds (i * 6 + 2) (.int .u64 (q : Int))).setIfInBounds (i * 6 + 3) (.int .i64 kd)).setIfInBounds (i * 6 + 4) (.int .u64 (tk : Int))).setIfInBounds (i * 6 + 5) (.int .i64 tt)) (by simp) (fun cN hc => by
      have h9 : cN = 0 ∨ cN = 1 ∨ cN = 2 ∨ cN = 3 ∨ cN = 4 ∨ cN = 5 := by omega
      rcases h9 with rfl | rfl | rfl | rfl | rfl | rfl <;> simp [Array.getElem?_setIfInBounds, itE] <;> omega) (fun n hn => by
      rw [Array.getElem?_setIfInBounds_ne (by omega), Array.getElem?_setIfInBounds_ne (by omega), Array.getElem?_setIfInBounds_ne (by omega), Array.getElem?_setIfInBounds_ne (by omega), Array.getElem?_setIfInBounds_ne (by omega), Array.getElem?_setIfInBounds_ne (by omega)])
     clear htb hI hend hx hrs hkeep
     go_wp2_with fail
     refine kf.mono ?_
     rintro e w2 ⟨rfl, hb2⟩
     have hx2 := keep_step (Below.refl (wr.heap.size + 1) (wr.alloc (.cells #[.string (bk k), .int .i64 c, .int .u64 (q : Int), .int .i64 kd, .int .u64 (tk : Int), .int .i64 tt] 63))) hszx hb2
     obtain ⟨e0, e1, e2, e3, e4, e5⟩ := clx w2 hx2
     have hG2 := (hx2.block G (by omega)).trans ((hbx.block G hgr).trans hG)
     have hK2 := grown_then hKb hb2
     have f0 := frozen_of hG2 (i * 6)
     obtain ⟨o0, t0⟩ : ∃ u, w2.cell? ⟨G, i * 6, none⟩ = some u := by
      rw [cells_of_block hG2]
      exact ⟨_, Array.getElem?_eq_getElem (by omega)⟩
     have f1 := frozen_of hG2 (i * 6 + 1)
     obtain ⟨o1, t1⟩ : ∃ u, w2.cell? ⟨G, i * 6 + 1, none⟩ = some u := by
      rw [cells_of_block hG2]
      exact ⟨_, Array.getElem?_eq_getElem (by omega)⟩
     have f2 := frozen_of hG2 (i * 6 + 2)
     obtain ⟨o2, t2⟩ : ∃ u, w2.cell? ⟨G, i * 6 + 2, none⟩ = some u := by
      rw [cells_of_block hG2]
      exact ⟨_, Array.getElem?_eq_getElem (by omega)⟩
     have f3 := frozen_of hG2 (i * 6 + 3)
     obtain ⟨o3, t3⟩ : ∃ u, w2.cell? ⟨G, i * 6 + 3, none⟩ = some u := by
      rw [cells_of_block hG2]
      exact ⟨_, Array.getElem?_eq_getElem (by omega)⟩
     have f4 := frozen_of hG2 (i * 6 + 4)
     obtain ⟨o4, t4⟩ : ∃ u, w2.cell? ⟨G, i * 6 + 4, none⟩ = some u := by
      rw [cells_of_block hG2]
      exact ⟨_, Array.getElem?_eq_getElem (by omega)⟩
     have f5 := frozen_of hG2 (i * 6 + 5)
     obtain ⟨o5, t5⟩ : ∃ u, w2.cell? ⟨G, i * 6 + 5, none⟩ = some u := by
      rw [cells_of_block hG2]
      exact ⟨_, Array.getElem?_eq_getElem (by omega)⟩
     have S3 : Hid _ := (set_block (set_block (set_block (set_block (set_block (set_block hG2 (j := i * 6) (.string (bk k))) (j := i * 6 + 1) (.int .i64 c)) (j := i * 6 + 2) (.int .u64 (q : Int))) (j := i * 6 + 3) (.int .i64 kd)) (j := i * 6 + 4) (.int .u64 (tk : Int))) (j := i * 6 + 5) (.int .i64 tt))
     have K3 : Hid _ := (grown_set (j := i * 6 + 5) (u := .int .i64 tt) (grown_set (j := i * 6 + 4) (u := .int .u64 (tk : Int)) (grown_set (j := i * 6 + 3) (u := .int .i64 kd) (grown_set (j := i * 6 + 2) (u := .int .u64 (q : Int)) (grown_set (j := i * 6 + 1) (u := .int .i64 c) (grown_set (j := i * 6) (u := .string (bk k)) hK2))))))
     clear hG2 hK2 hb2 hx2 hKb hbx clx kf a0 a1 a2 a3 a4 a5 b0 b1 b2 b3 b4 b5 hK hG
     go_wp2
     go_roundg (gk - 1)
     case measure => omega
     case rel => exact ⟨i + 1, j + 1, _, by omega, by go_num, by go_num, K3.out, S3.out, HK.out⟩
    | true =>
     rw [htb] at kf
     have HK : Hid _ := hI.skip hx htb
     dsimp only [iv, ic] at *
     clear htb hI hend hx hrs
     go_wp2_with fail
     refine kf.mono ?_
     rintro e w2 ⟨rfl, hb2⟩
     have hx2 := keep_step (Below.refl (wr.heap.size + 1) (wr.alloc (.cells #[.string (bk k), .int .i64 c, .int .u64 (q : Int), .int .i64 kd, .int .u64 (tk : Int), .int .i64 tt] 63))) hszx hb2
     have hG2 : Hid _ := (hx2.block G (by omega)).trans ((hbx.block G hgr).trans hG)
     have hK2 : Hid _ := grown_then hKb hb2
     clear hb2 hx2 hKb hbx clx kf a0 a1 a2 a3 a4 a5 b0 b1 b2 b3 b4 b5 hK hG
     go_wp2
     go_roundg (gk - 1)
     case measure => omega
     case rel => exact ⟨i, j + 1, _, by omega, rfl, by go_num, hK2.out, hG2.out, HK.out⟩
   ·have hltj : ¬ (j : Int) < (l.length : Int) := by omega
    obtain rfl : j = l.length := by omega
    obtain ⟨hil, W2, hcl, hfin⟩ := (hend wr cur i hK hG hI).out
    have HF : Hid _ := hfin
    have hilI : (i : Int) < (l.length : Int) := by omega
    have hile : i ≤ l.length := by omega
    have hicap : i ≤ cap := by omega
    have hcapi : ¬ cap = i := by omega
    clear hfin hend hI hG hK
    go_wp2
    first | exact HF.out | (go_ret; exact HF.out)

theorem zeroM (w : World) : (zeroValue 61).run Tryz.prog w = .ok (.agg #[.string { data := #[] }, .int .u64 0]) w := by kernel_rfl
def zsM (n : Nat) : List Value := (Builtin.zeroCells #[.string { data := #[] }, .int .u64 0] n).toList
theorem zsM_length (n : Nat) : (zsM n).length = n * 2 := by simp [zsM, Builtin.zeroCells]
theorem zsM_one (n : Nat) : ∀ v ∈ zsM n, v.oneCell' = true := by
 intro v hv
 simp only [zsM, Builtin.zeroCells, Array.toList_map, Array.toList_range, List.mem_map, List.mem_range] at hv
 obtain ⟨i, hi, rfl⟩ := hv
 have h2 : i % 2 = 0 ∨ i % 2 = 1 := by omega
 rcases h2 with h | h
 ·simp [h]; rfl
 ·simp [h]; rfl
theorem clear_rowM (w : World) (g : Nat) (cur : Array Value) (hbk : w.heap[g]? = some (.cells cur 61 (0, 0))) (o n : Nat) (hn : 0 < n) (hcs : o + n * 2 ≤ cur.size) (ty : TypeId) (c : Nat) :
  (Builtin.clear_ #[24] ty #[.slice (some ⟨g, o, none⟩) n c]).run Tryz.prog w = .ok (.tuple #[]) (w.setRow g (cur.toList.take o ++ zsM n ++ cur.toList.drop (o + n * 2)).toArray) := by
 have hst := run_storeCells_at (P := Tryz.prog) g o 61 (zsM n) 0 cur w hbk (by rw [zsM_length]; omega) (zsM_one _)
 rw [zsM_length] at hst
 simp only [Nat.add_zero] at hst
 obtain ⟨m, rfl⟩ : ∃ m, n = m + 1 := ⟨n - 1, by omega⟩
 obtain ⟨R, hR⟩ : ∃ R, R = (cur.toList.take o ++ zsM (m + 1) ++ cur.toList.drop (o + (m + 1) * 2)).toArray := ⟨_, rfl⟩
 rw [← hR] at hst ⊢
 clear hR
 unfold zsM at hst
 have hzc : (Value.agg #[.string { data := #[] }, .int .u64 0]).cells = #[.string { data := #[] }, .int .u64 0] := rfl
 simp [Builtin.clear_, run_underlying Tryz.underlying24, zeroM, hzc, hst]

set_option maxHeartbeats 8000000 in
theorem deletefM_of (P : Mk → Bool) {w : World} {v : Value} {l : List Mk} (p0 : Value) (h : Rk markE w 61 v l) (hlen : l.length ≤ 1000000) (hP : ∀ z W, z ∈ l → (∀ G, v.ownBlock = some G → w.grownBy W (some G)) → (v.ownBlock = none → Below w.heap.size w W) → Calls Tryz.prog 113 #[mv z, p0] W fun e w' => e = .returned (.bool (P z)) ∧ Below W.heap.size W w') :
  Calls Tryz.prog 112 #[v, .func (.func 113) #[] #[p0]] w (DelfT markE 61 w v (l.filter fun x => !P x)) := by
 have ki := idxMk_ix P l v p0 w h.rd (by omega) (fun z W hz hW => hP z W hz (fun G _ => ⟨hW.os, hW.tape, hW.output, hW.size, fun i hi _ => hW.block i hi⟩) (fun _ => hW))
 cases hfi : firstP P l 0 with
 | none =>
  rw [hfi] at ki
  have hft := firstP_none hfi
  have hfin : ∀ W, Below w.heap.size w W → Hid (DelfT markE 61 w v (l.filter fun x => !P x) (.returned v) W) := fun W hW => ⟨v, rfl, by rw [hft]; exact h.same fun k hk => hW.block k (h.lt hk), ⟨hW.os, hW.tape, hW.output, hW.size, fun b hb _ => hW.block b hb⟩, rfl⟩
  obtain ⟨ao, cap, hv_, -⟩ := h.shape
  subst hv_
  generalize DelfT markE 61 w (.slice ao l.length cap) (l.filter fun x => !P x) = TT at *
  clear h hft hfi hP
  unfold idxP at ki
  go_enter Tryz.func112, Tryz.ntmps112
  go_wp2_with (go_at_call 162; refine ki.mono ?_; rintro e W ⟨rfl, hW⟩; have hf := hfin W hW)
  first | exact hf.out | (go_ret; exact hf.out)
 | some i0 =>
  rw [hfi] at ki
  obtain ⟨i1, e1, hi1, hi2⟩ := firstP_get hfi
  obtain rfl : i0 = i1 := by omega
  obtain ⟨G, cap, cur0, hv_, hle, hm, hbk, hcs, ht, hcell, hf⟩ := h.cells (by omega)
  have hGl := (Array.getElem?_eq_some_iff.1 hbk).1
  have hP2 : Hid (∀ z W, z ∈ l → w.grownBy W (some G) → Calls Tryz.prog 113 #[mv z, p0] W fun e w' => e = .returned (.bool (P z)) ∧ Below W.heap.size W w') := fun z W hz hW => hP z W hz (fun G' hG' => by rw [hv_] at hG'; cases hG'; exact hW) (fun hn => by rw [hv_] at hn; cases hn)
  have hI0 : DelI markE P l cap cur0 i0 (i0 + 1) := by
   refine ⟨hcs, ?_, ?_, fun k x c hk hx hc => ?_, by omega⟩
   ·rw [hi2, ← El.flat_take, ← ht, List.take_take, Nat.min_eq_left (Nat.mul_le_mul_right _ (by omega))]
   ·rw [hi2, List.length_take]; omega
   ·rw [← hcell k x c hx hc, cells_of_block hbk]
  have hend : ∀ W cur i, w.grownBy W (some G) → W.heap[G]? = some (.cells cur 61 (0, 0)) → DelI markE P l cap cur i l.length → Hid (i < l.length ∧ ∃ W2, (∀ ty c, (Builtin.clear_ #[24] ty #[.slice (some ⟨G, i * 2, none⟩) (l.length - i) c]).run Tryz.prog W = .ok (.tuple #[]) W2) ∧ DelfT markE 61 w v (l.filter fun x => !P x) (.returned (.slice (some ⟨G, 0, none⟩) i cap)) W2) := fun W cur i hK hW hI => by
   have hlt := hI.lt
   have hhd : cur.toList.take (i * 2) = _ := hI.head
   have hle2 := hI.len
   rw [List.take_of_length_le (Nat.le_refl _)] at hhd hle2
   have hsz : cur.size = cap * 2 := hI.size
   have h3 : i * 2 + (l.length - i) * 2 ≤ cap * 2 := by
    have : (i + (l.length - i)) * 2 ≤ cap * 2 := Nat.mul_le_mul_right _ (by omega)
    rw [Nat.add_mul] at this
    exact this
   refine ⟨hlt, _, fun ty c => clear_rowM W G cur hW (i * 2) (l.length - i) (by omega) (by rw [hsz]; exact h3) ty c, ?_⟩
   refine ⟨_, rfl, ?_, ⟨hK.os, hK.tape, hK.output, by rw [setRow_size]; exact hK.size, fun b hbl hne => ?_⟩, by rw [hv_]; rfl⟩
   ·unfold Rk
    rw [hle2]
    refine ⟨by rw [El.flat_length, hle2], .inr ⟨G, cap, _, rfl, Nat.zero_le _, setRow_heap W G _ _ _ _ hW, by omega, hm, ?_, ?_⟩⟩
    ·simp only [List.size_toArray, List.length_append, List.length_take, List.length_drop, Array.length_toList, zsM_length, hsz]
     show _ = cap * 2
     omega
    ·rw [← hhd]
     show List.take (i * 2) (_ ++ _ ++ _) = _
     rw [List.append_assoc, List.take_append_of_le_length (by rw [List.length_take, Array.length_toList, hsz]; omega), List.take_take, Nat.min_self]
   ·have hbG : b ≠ G := fun e => hne (by rw [hv_, e]; rfl)
    rw [setRow_other _ _ _ _ hbG]
    exact hK.block b hbl (fun e => hbG (Option.some.inj e))
  subst hv_
  generalize DelfT markE 61 w (.slice (some ⟨G, 0, none⟩) l.length cap) (l.filter fun x => !P x) = TT at *
  clear h hi2 hcs ht hcell hf hfi e1 hP
  unfold idxP at ki
  have hb1 : (i0 : Int) ≤ 1000000 := by omega
  have hb0 : (0 : Int) ≤ (i0 : Int) := by omega
  have hne2 : ((i0 : Int) == -1) = false := by simp
  have hne1 : ¬ (i0 : Int) = -1 := by omega
  go_enter Tryz.func112, Tryz.ntmps112
  go_wp2_with (go_at_call 162; refine ki.mono ?_; rintro e W0 ⟨rfl, hW0⟩)
  go_loopg [5, 6] (l.length - (i0 + 1)) (fun g s5 s6 wr => ∃ (i j : Nat) (cur : Array Value), j + g = l.length ∧ s5 = .int .i64 (i : Int) ∧ s6 = .int .i64 (j : Int) ∧ w.grownBy wr (some G) ∧ wr.heap[G]? = some (.cells cur 61 (0, 0)) ∧ DelI markE P l cap cur i j)
  case atStart => exact ⟨i0, i0 + 1, cur0, by omega, rfl, by go_num, ⟨hW0.os, hW0.tape, hW0.output, hW0.size, fun i hi _ => hW0.block i hi⟩, (hW0.block G hGl).trans hbk, hI0⟩
  case round =>
   obtain ⟨i, j, cur, hjg, rfl, rfl, hK, hG, hI⟩ := hrel
   clear hI0 ki hbk hb1 hb0 hne2 hne1
   have hlti := hI.lt
   by_cases hlt : j < l.length
   ·have hltj : (j : Int) < (l.length : Int) := by omega
    have hilt : (i : Int) < (l.length : Int) := by omega
    obtain ⟨⟨k, tk⟩, hx⟩ : ∃ x, l[j]? = some x := ⟨l[j], List.getElem?_eq_getElem hlt⟩
    have hjb : (j : Int) ≤ 1000000 := by omega
    have hib : (i : Int) ≤ 1000000 := by omega
    have hgr := (Array.getElem?_eq_some_iff.1 hG).1
    have hrs := fun cN => hI.rest j (k, tk) cN (Nat.le_refl _) hx
    have a0 : wr.cell? ⟨G, j * 2, none⟩ = some (.string (bk k)) := (cells_of_block hG _).trans (hrs 0 (by decide))
    have a1 : wr.cell? ⟨G, j * 2 + 1, none⟩ = some (.int .u64 (tk : Int)) := (cells_of_block hG _).trans (hrs 1 (by decide))
    obtain ⟨hsx, hbx, clx⟩ := mk_box wr (k, tk)
    have hKb := grown_then hK hbx
    have kf := hP2.out (k, tk) (wr.alloc (mc (k, tk))) (List.mem_of_getElem? hx) hKb
    obtain ⟨b0, b1⟩ := clx _ (Below.refl _ _)
    have hszx : wr.heap.size + 1 ≤ (wr.alloc (mc (k, tk))).heap.size := by omega
    cases htb : P (k, tk) with
    | false =>
     rw [htb] at kf
     have hkeep : ∀ cur', cur'.size = cur.size → (∀ cN, cN < 2 → cur'[i * 2 + cN]? = (markE.enc (k, tk))[cN]?) → (∀ n, n < i * 2 ∨ i * 2 + 2 ≤ n → cur'[n]? = cur[n]?) → Hid (DelI markE P l cap cur' (i + 1) (j + 1)) := fun cur' s1 s2 s3 => hI.keep hle hx htb s1 s2 s3
     have hcz : i * 2 + 2 ≤ cur.size := by
      rw [hI.size]
      have : (i + 1) * 2 ≤ cap * 2 := Nat.mul_le_mul_right _ (by omega)
      show _ ≤ cap * 2
      omega
     dsimp only [mv, mc] at *
     have HK : Hid _ := hkeep ((cur.setIfInBounds (i * 2) (.string (bk k))).setIfInBounds (i * 2 + 1) (.int .u64 (tk : Int))) (by simp) (fun cN hc => by
      have h9 : cN = 0 ∨ cN = 1 := by omega
      rcases h9 with rfl | rfl <;> simp [Array.getElem?_setIfInBounds, markE] <;> omega) (fun n hn => by
      rw [Array.getElem?_setIfInBounds_ne (by omega), Array.getElem?_setIfInBounds_ne (by omega)])
     clear htb hI hend hx hrs hkeep
     go_wp2_with fail
     refine kf.mono ?_
     rintro e w2 ⟨rfl, hb2⟩
     have hx2 := keep_step (Below.refl (wr.heap.size + 1) (wr.alloc (.cells #[.string (bk k), .int .u64 (tk : Int)] 61))) hszx hb2
     obtain ⟨e0, e1⟩ := clx w2 hx2
     have hG2 := (hx2.block G (by omega)).trans ((hbx.block G hgr).trans hG)
     have hK2 := grown_then hKb hb2
     have f0 := frozen_of hG2 (i * 2)
     obtain ⟨o0, t0⟩ : ∃ u, w2.cell? ⟨G, i * 2, none⟩ = some u := by
      rw [cells_of_block hG2]
      exact ⟨_, Array.getElem?_eq_getElem (by omega)⟩
     have f1 := frozen_of hG2 (i * 2 + 1)
     obtain ⟨o1, t1⟩ : ∃ u, w2.cell? ⟨G, i * 2 + 1, none⟩ = some u := by
      rw [cells_of_block hG2]
      exact ⟨_, Array.getElem?_eq_getElem (by omega)⟩
     have S3 : Hid _ := (set_block (set_block hG2 (j := i * 2) (.string (bk k))) (j := i * 2 + 1) (.int .u64 (tk : Int)))
     have K3 : Hid _ := (grown_set (j := i * 2 + 1) (u := .int .u64 (tk : Int)) (grown_set (j := i * 2) (u := .string (bk k)) hK2))
     clear hG2 hK2 hb2 hx2 hKb hbx clx kf a0 a1 b0 b1 hK hG
     go_wp2
     go_roundg (gk - 1)
     case measure => omega
     case rel => exact ⟨i + 1, j + 1, _, by omega, by go_num, by go_num, K3.out, S3.out, HK.out⟩
    | true =>
     rw [htb] at kf
     have HK : Hid _ := hI.skip hx htb
     dsimp only [mv, mc] at *
     clear htb hI hend hx hrs
     go_wp2_with fail
     refine kf.mono ?_
     rintro e w2 ⟨rfl, hb2⟩
     have hx2 := keep_step (Below.refl (wr.heap.size + 1) (wr.alloc (.cells #[.string (bk k), .int .u64 (tk : Int)] 61))) hszx hb2
     have hG2 : Hid _ := (hx2.block G (by omega)).trans ((hbx.block G hgr).trans hG)
     have hK2 : Hid _ := grown_then hKb hb2
     clear hb2 hx2 hKb hbx clx kf a0 a1 b0 b1 hK hG
     go_wp2
     go_roundg (gk - 1)
     case measure => omega
     case rel => exact ⟨i, j + 1, _, by omega, rfl, by go_num, hK2.out, hG2.out, HK.out⟩
   ·have hltj : ¬ (j : Int) < (l.length : Int) := by omega
    obtain rfl : j = l.length := by omega
    obtain ⟨hil, W2, hcl, hfin⟩ := (hend wr cur i hK hG hI).out
    have HF : Hid _ := hfin
    have hilI : (i : Int) < (l.length : Int) := by omega
    have hile : i ≤ l.length := by omega
    have hicap : i ≤ cap := by omega
    have hcapi : ¬ cap = i := by omega
    clear hfin hend hI hG hK
    go_wp2
    first | exact HF.out | (go_ret; exact HF.out)
end Go.Proofs.YtfpbgfmnjpamlaaGreat

