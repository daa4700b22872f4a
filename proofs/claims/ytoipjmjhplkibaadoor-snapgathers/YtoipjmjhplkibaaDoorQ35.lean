import Derived.Test.YtoipjmjhplkibaaDoorQ33
import Derived.Test.YtoipjmjhplkibaaDoorQ20
import Derived.Laws.CopyOwn
/- The contracts of a basket's Missing and Bytes. -/
namespace Go.Proofs.YtoipjmjhplkibaaDoor
open Go.RowKit
set_option maxRecDepth 100000
set_option linter.unusedSimpArgs false
set_option linter.unusedVariables false

theorem infoInt : (Tryd.prog.info? 3).map (fun i => (i.zero, i.size, i.bytes)) = some (some (.int .i64 0), 1, 8) := by kernel_rfl

/-- Which chunks are missing among the first ones. -/
def missU (H : List Bool) : Nat → List Nat
  | 0 => []
  | k + 1 => missU H k ++ (if H[k]? = some false then [k] else [])
def missL (H : List Bool) : List Nat := missU H H.length
def ic (l : List Nat) : List Value := l.map fun (c : Nat) => .int .i64 (c : Int)
theorem missU_len (H : List Bool) : ∀ k, (missU H k).length ≤ k
  | 0 => Nat.le_refl _
  | k + 1 => by
    unfold missU
    rw [List.length_append]
    have := missU_len H k
    split <;> simp <;> omega
/-- A row of numbers, of the call's own. -/
def Ir (n₀ : Nat) (w : World) (ov : Value) (l : List Nat) : Prop := w.ownsRow n₀ 3 1 ov l.length (ic l)
theorem Ir.shape {n₀ : Nat} {w : World} {ov : Value} {l : List Nat} (h : Ir n₀ w ov l) : ∃ ao cap, ov = .slice ao l.length cap := by
  rcases h with ⟨-, ⟨hv, hn⟩ | ⟨g, cap, fl, hv, -⟩⟩
  · exact ⟨none, 0, by rw [hv, hn]⟩
  · exact ⟨_, _, hv⟩
theorem Ir.below {n₀ : Nat} {w w' : World} {ov : Value} {l : List Nat} (h : Ir n₀ w ov l) (hb : Below w.heap.size w w') : Ir n₀ w' ov l := ownsRow_below h hb

set_option maxHeartbeats 1000000 in
theorem wp_push_int {w : World} {ops : Array Oper} {rest : List Oper} {o : Oper} {a : Act} {Q : Exit → Act → World → Prop} (hgd : o.guard = none) (s x : Operand)
    (ho : o.op = .call { callee := .builtin .append, args := #[s, x], argTypes := #[40, 40] })
    (n₀ : Nat) (ov : Value) (l : List Nat) (k : Nat) (hI : Ir n₀ w ov l) (hn₀ : n₀ ≤ w.heap.size) (hlen : l.length ≤ 1000000)
    (hs : a.eval s = ov) (hx : a.eval x = .slice (some ⟨w.heap.size, 0, none⟩) 1 1)
    (h : ∀ ov' w', Ir n₀ w' ov' (l ++ [k]) → Below n₀ w w' → wpList Tryd.prog ops Q rest (a.put o.dst ov') w') : wpList Tryd.prog ops Q (o :: rest) a (w.alloc (.cells #[.int .i64 (k : Int)] 3)) := by
  obtain ⟨i0, hi, hz0, hz1, hz2⟩ := info_parts infoInt
  have hb1 := (Below.refl w.heap.size w).alloc (Nat.le_refl _) (.cells #[.int .i64 (k : Int)] 3)
  have h1 := ownsRow_below hI hb1
  have hsz := hb1.size
  refine wpList_append_own2 hgd s x 40 3 ho n₀ i0 (.int .i64 0) 1 8 Tryd.underlying40 hi hz0 hz1 hz2 rfl (by decide) ov l.length (ic l) hs h1
    ⟨w.heap.size, 0, none⟩ 1 1 [.int .i64 (k : Int)] hx rfl ?_ (by intro u hu; rw [List.mem_singleton.1 hu]; rfl) (by unfold maxLen; omega) (by omega) (Nat.le_trans hn₀ hsz) ?_
  · intro j u hj
    rw [Addr.add_lit, cells_of_block (heap_alloc_new w _), Nat.zero_add, ← Array.getElem?_toList]
    exact hj
  intro ov' w' hO hg hfr
  have hbf : Below n₀ w w' := (hb1.mono hn₀).trans ((Below.refl n₀ _).grown hg (Nat.le_trans hn₀ hsz) (fun k hk => (World.ownsRow.lt h1 k hk).1))
  refine h ov' w' ?_ hbf
  unfold Ir
  rw [List.length_append]
  unfold ic
  rw [List.map_append]
  exact hO

set_option maxHeartbeats 2000000 in
theorem missing_of {w : World} {q g1 g2 : Nat} {B : List Nat} {H : List Bool} (hK : BkAt w q g1 g2 B H) : Calls Tryd.prog 11 #[.pointer (some ⟨q, 0, none⟩)] w fun e w' => ∃ ov, e = .returned ov ∧ Ir w.heap.size w' ov (missL H) ∧ Below w.heap.size w w' := by
  have kg := bgiven_of hK
  obtain ⟨c0, c1, ch, h0, h2⟩ := hK.cells
  have hgl := (Array.getElem?_eq_some_iff.1 hK.has).1
  obtain ⟨ML, HM⟩ : ∃ ML, Hid (ML = missL H) := ⟨_, rfl⟩
  rw [← HM.out]
  go_enter Tryd.func11, Tryd.ntmps11
  go_wp2_with fail
  refine kg.mono ?_
  rintro e w1 ⟨rfl, hw⟩
  rw [hw]
  clear hw kg
  go_wp2
  go_loopg [3, 14] H.length (fun g s3 s14 wr => ∃ i : Nat, i + g = H.length ∧ s14 = .int .i64 (i : Int) ∧ Ir w.heap.size wr s3 (missU H i) ∧ Below w.heap.size w wr)
  case atStart => exact ⟨0, by simp, rfl, World.ownsRow_nil _ _ _ 1, Below.refl _ _⟩
  case round =>
    obtain ⟨i, hi, rfl, hI, hbr⟩ := hrel
    obtain ⟨ai, ci, rfl⟩ := hI.shape
    by_cases hlt : i < H.length
    · have hlti : (i : Int) < (H.length : Int) := by omega
      have hx : H[i]? = some H[i] := List.getElem?_eq_getElem hlt
      have hce := (hbr.cell (p := ⟨g2, i, none⟩) hgl).trans (ch i _ hx)
      have hml := missU_len H i
      have hsz := hbr.size
      cases hv : H[i] with
      | false =>
        rw [hv] at hce hx
        have hnx : missU H (i + 1) = missU H i ++ [i] := by rw [missU, if_pos hx]
        obtain ⟨MI, hMI⟩ : ∃ MI, missU H i = MI := ⟨_, rfl⟩
        rw [hMI] at hI hnx hml ⊢
        have hnx' : Hid (missU H (i + 1) = MI ++ [i]) := hnx
        clear hx hv ch hK HM hMI hnx
        go_wp2_with (at_builtin; refine wp_push_int rfl _ _ rfl w.heap.size _ MI i hI hsz ?s1 rfl rfl ?_)
        case s1 => omega
        intro ov' w' hI' hb'
        have hbw := hbr.trans hb'
        clear hI
        go_wp2
        go_roundg (gk - 1)
        case measure => omega
        case rel => exact ⟨i + 1, by omega, by go_num, by rw [hnx'.out]; exact hI', hbw⟩
      | true =>
        rw [hv] at hce hx
        have hnx : missU H (i + 1) = missU H i := by rw [missU, if_neg (by rw [hx]; simp), List.append_nil]
        rw [← hnx] at hI ⊢
        clear hx hv ch hK HM
        go_wp2
        go_roundg (gk - 1)
        case measure => omega
        case rel => exact ⟨i + 1, by omega, by go_num, hI, hbr⟩
    · have hlti : ¬ (i : Int) < (H.length : Int) := by omega
      have hie : i = H.length := by omega
      have hM : ML = missU H i := by rw [HM.out, hie]; rfl
      rw [← hM] at hI ⊢
      clear HM hM hK ch
      go_wp2
      go_ret
      exact ⟨_, rfl, hI, hbr⟩

/-- Are none missing? -/
theorem miss_none {H : List Bool} : missL H = [] ↔ ∀ i, i < H.length → H[i]? = some true := by
  have key : ∀ k, k ≤ H.length → (missU H k = [] ↔ ∀ i, i < k → H[i]? = some true) := by
    intro k
    induction k with
    | zero => intro _; exact ⟨fun _ i hi => by omega, fun _ => rfl⟩
    | succ k ih =>
      intro hk
      have ih' := ih (by omega)
      have hx : H[k]? = some H[k] := List.getElem?_eq_getElem (by omega)
      unfold missU
      rw [List.append_eq_nil_iff, ih']
      constructor
      · rintro ⟨h1, h2⟩ i hi
        by_cases hik : i < k
        · exact h1 i hik
        · obtain rfl : i = k := by omega
          cases hv : H[i] with
          | true => rw [hx, hv]
          | false => rw [if_pos (by rw [hx, hv])] at h2; cases h2
      · intro h
        refine ⟨fun i hi => h i (by omega), ?_⟩
        rw [if_neg (by rw [h k (by omega)]; simp)]
  exact key _ (Nat.le_refl _)

set_option maxHeartbeats 1000000 in
theorem bytes_no {w : World} {q g1 g2 : Nat} {B : List Nat} {H : List Bool} (hK : BkAt w q g1 g2 B H) (h : missL H ≠ []) : Calls Tryd.prog 12 #[.pointer (some ⟨q, 0, none⟩)] w fun e w' => e = .returned (.tuple #[.slice none 0 0, .bool false]) ∧ Below w.heap.size w w' := by
  have kg := bgiven_of hK
  have km := missing_of hK
  have hp : (0 : Int) < ((missL H).length : Int) := by
    have : 0 < (missL H).length := List.length_pos_iff.2 h
    omega
  clear hK h
  generalize missL H = ML at *
  go_enter Tryd.func12, Tryd.ntmps12
  go_wp2_with fail
  refine kg.mono ?_
  rintro e w1 ⟨rfl, hw⟩
  rw [hw]
  clear hw kg
  go_wp2_with fail
  refine km.mono ?_
  rintro e w1 ⟨ov, rfl, hI, hb⟩
  obtain ⟨ai, ci, rfl⟩ := hI.shape
  clear km hI
  go_wp2
  go_ret2
  exact ⟨rfl, hb⟩
set_option maxHeartbeats 1000000 in
theorem bytes_of {w : World} {q g1 g2 : Nat} {B : List Nat} {H : List Bool} (hK : BkAt w q g1 g2 B H) (h : missL H = []) : Calls Tryd.prog 12 #[.pointer (some ⟨q, 0, none⟩)] w fun e w' => ∃ a n c, e = .returned (.tuple #[.slice a n c, .bool true]) ∧ Fr.Bs w'.heap.size w' (.slice a n c) B ∧ Below w.heap.size w w' := by
  have kg := bgiven_of hK
  have km := missing_of hK
  rw [h] at km
  obtain ⟨c0, c1, ch, h0, h2⟩ := hK.cells
  have hfew := hK.few
  have hrow := hK.row
  have hql := (Array.getElem?_eq_some_iff.1 hK.box).1
  have kc : ∀ W, Below w.heap.size w W → Calls Tryd.prog 17 #[.slice (some ⟨g1, 0, none⟩) B.length B.length] W fun e w' => ∃ v', e = .returned v' ∧ Fr.Own W.heap.size w' v' B ∧ Below W.heap.size W w' := fun W hb => by
    have hB : Fr.Bs W.heap.size W (.slice (some ⟨g1, 0, none⟩) B.length B.length) B := by
      have := row_bs ((hb.block g1 (Array.getElem?_eq_some_iff.1 hrow).1).trans hrow) 0 B.length B.length (by omega) (Nat.le_refl _) (by unfold maxLen; omega)
      rw [List.drop_zero, List.take_length] at this
      exact this
    exact Fr.clone_of _ B _ W hB (Nat.le_refl _) (by omega)
  have hcq : ∀ W, Below w.heap.size w W → W.cell? ⟨q, 0, none⟩ = some (.slice (some ⟨g1, 0, none⟩) B.length B.length) := fun W hb => (hb.cell (p := ⟨q, 0, none⟩) hql).trans c0
  clear hK h hrow ch
  go_enter Tryd.func12, Tryd.ntmps12
  go_wp2_with fail
  refine kg.mono ?_
  rintro e w1 ⟨rfl, hw⟩
  rw [hw]
  clear hw kg
  go_wp2_with fail
  refine km.mono ?_
  rintro e w1 ⟨ov, rfl, hI, hb⟩
  obtain ⟨ai, ci, hov⟩ := hI.shape
  have hov2 : ov = .slice ai 0 ci := hov
  subst hov2
  have x0 := hcq w1 hb
  have kc1 := kc w1 hb
  clear km hI kc hcq hov
  go_wp2_with fail
  refine kc1.mono ?_
  rintro e w2 ⟨v2, rfl, hO2, hb2⟩
  obtain ⟨a2, c2, rfl⟩ := hO2.shape
  have hB2 := hO2.bs
  clear kc1 hO2
  go_wp2
  go_ret2
  exact ⟨_, _, _, rfl, hB2, hb.trans (hb2.mono hb.size)⟩
end Go.Proofs.YtoipjmjhplkibaaDoor

/- Chunks that are put in their places: plain mathematics. -/
namespace Go.Proofs.YtoipjmjhplkibaaDoor
set_option linter.unusedSimpArgs false
set_option maxRecDepth 100000

theorem splice_get (B c : List Nat) (k p : Nat) (hk : k + c.length ≤ B.length) : (splice B k c)[p]? = if p < k then B[p]? else if p < k + c.length then c[p - k]? else B[p]? := by
  unfold splice
  have e1 : (B.take k).length = k := by rw [List.length_take]; omega
  by_cases h1 : p < k
  · rw [if_pos h1, List.getElem?_append_left (by omega), List.getElem?_take_of_lt h1]
  · rw [if_neg h1, List.getElem?_append_right (by omega), e1]
    by_cases h2 : p < k + c.length
    · rw [if_pos h2, List.getElem?_append_left (by omega)]
    · rw [if_neg h2, List.getElem?_append_right (by omega), List.getElem?_drop]
      congr 1
      omega
theorem chAt_get (B : List Nat) (j t : Nat) : (chAt B j)[t]? = if t < 256 then B[j * 256 + t]? else none := by
  unfold chAt
  by_cases h : t < 256
  · rw [if_pos h, List.getElem?_take_of_lt h, List.getElem?_drop]
  · rw [if_neg h, List.getElem?_take_eq_none (by omega)]
theorem chAt_splice (B c : List Nat) (m j : Nat) (hm : m * 256 ≤ B.length) (hc : c.length = (chAt B m).length) : chAt (splice B (m * 256) c) j = if j = m then c else chAt B j := by
  rw [chAt_len] at hc
  have hk : m * 256 + c.length ≤ B.length := by omega
  apply List.ext_getElem?
  intro t
  rw [chAt_get]
  by_cases hj : j = m
  · subst hj
    rw [if_pos rfl]
    by_cases ht : t < 256
    · rw [if_pos ht, splice_get B c _ _ hk, if_neg (by omega)]
      by_cases h2 : t < c.length
      · rw [if_pos (by omega)]
        congr 1
        omega
      · rw [if_neg (by omega), List.getElem?_eq_none (by omega), List.getElem?_eq_none (by omega)]
    · rw [if_neg ht, List.getElem?_eq_none (by omega)]
  · rw [if_neg hj, chAt_get]
    by_cases ht : t < 256
    · rw [if_pos ht, if_pos ht, splice_get B c _ _ hk]
      by_cases h1 : j * 256 + t < m * 256
      · rw [if_pos h1]
      · rw [if_neg h1, if_neg (by omega)]
    · rw [if_neg ht, if_neg ht]
theorem chk_flatten : ∀ (n : Nat) (l : List Nat), l.length ≤ n → (chk l).flatten = l
  | 0, l, h => by rw [chk_one (by omega)]; simp
  | n + 1, l, h => by
    by_cases h2 : 256 < l.length
    · rw [chk_more h2, List.flatten_cons, chk_flatten n (l.drop 256) (by rw [List.length_drop]; omega), List.take_append_drop]
    · rw [chk_one h2]; simp

/-- What was put so far: the basket's bytes, which chunks it has, and what the law keeps of them. -/
structure GInv (l B : List Nat) (H : List Bool) (S : List (List Nat)) : Prop where
  bl : B.length = l.length
  b8 : ∀ x ∈ B, x < 256
  hl : H.length = chunks l.length
  sl : S.length = H.length
  yes : ∀ i : Nat, H[i]? = some true → S[i]? = some (chAt B i)
  no : ∀ i : Nat, H[i]? = some false → S[i]? = some []
theorem GInv.start (l : List Nat) : GInv l (List.replicate l.length 0) (List.replicate (chunks l.length) false) (List.replicate (chunks l.length) []) where
  bl := by simp
  b8 := fun x hx => by rw [(List.mem_replicate.1 hx).2]; decide
  hl := by simp
  sl := by simp
  yes := fun i h => by
    rw [List.getElem?_replicate] at h
    split at h <;> cases h
  no := fun i h => by
    rw [List.getElem?_replicate] at h ⊢
    split at h
    · rename_i hi; rw [if_pos hi]
    · cases h
theorem GInv.put {l B : List Nat} {H : List Bool} {S : List (List Nat)} (h : GInv l B H S) (m : Nat) (hm : m < H.length) (c : List Nat) (hc : c.length = (chAt B m).length) (h8 : ∀ x ∈ c, x < 256) : GInv l (splice B (m * 256) c) (H.set m true) (S.set m c) := by
  have hml := (chunks_le (n := B.length) (i := m) (by rw [h.bl, ← h.hl]; exact hm)).1
  have hk : m * 256 + c.length ≤ B.length := by rw [hc, chAt_len]; omega
  refine ⟨by rw [length_splice B _ c hk]; exact h.bl, fun x hx => ?_, by rw [List.length_set]; exact h.hl, by rw [List.length_set, List.length_set]; exact h.sl, fun i hi => ?_, fun i hi => ?_⟩
  · unfold splice at hx
    rcases List.mem_append.1 hx with hx | hx
    · exact h.b8 x (List.mem_of_mem_take hx)
    · rcases List.mem_append.1 hx with hx | hx
      · exact h8 x hx
      · exact h.b8 x (List.mem_of_mem_drop hx)
  · rw [chAt_splice B c m i hml hc]
    by_cases him : i = m
    · subst him
      rw [if_pos rfl, List.getElem?_set_self (by rw [h.sl]; exact hm)]
    · rw [List.getElem?_set_ne (fun e => him e.symm)] at hi ⊢
      rw [if_neg him]
      exact h.yes i hi
  · by_cases him : i = m
    · subst him
      rw [List.getElem?_set_self hm] at hi
      cases hi
    · rw [List.getElem?_set_ne (fun e => him e.symm)] at hi ⊢
      exact h.no i hi
theorem GInv.whole {l B : List Nat} {H : List Bool} {S : List (List Nat)} (h : GInv l B H S) (hm : missL H = []) : S.flatten = B := by
  have e : S = chk B := by
    apply List.ext_getElem?
    intro i
    by_cases hi : i < H.length
    · rw [h.yes i (miss_none.1 hm i hi), chk_at (by rw [h.bl, ← h.hl]; exact hi)]
    · rw [List.getElem?_eq_none (by rw [h.sl]; omega), List.getElem?_eq_none (by rw [chk_len, h.bl, ← h.hl]; omega)]
  rw [e]
  exact chk_flatten _ B (Nat.le_refl _)
theorem GInv.small {l B : List Nat} {H : List Bool} {S : List (List Nat)} (h : GInv l B H S) {i : Nat} {s : List Nat} (hs : S[i]? = some s) : s.length ≤ 256 ∧ ∀ x ∈ s, x < 256 := by
  have hi : i < H.length := by rw [← h.sl]; exact (List.getElem?_eq_some_iff.1 hs).1
  have hx : H[i]? = some H[i] := List.getElem?_eq_getElem hi
  cases hv : H[i] with
  | true =>
    rw [hv] at hx
    have := h.yes i hx
    rw [hs] at this
    obtain rfl := Option.some.inj this
    exact ⟨by rw [chAt_len]; omega, chAt_bytes h.b8 i⟩
  | false =>
    rw [hv] at hx
    have := h.no i hx
    rw [hs] at this
    obtain rfl := Option.some.inj this
    exact ⟨by simp, by simp⟩
end Go.Proofs.YtoipjmjhplkibaaDoor

