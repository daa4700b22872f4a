/- The walk of the law FaultAround: it answers true at every cause, every slice of causes and every code whose text is no longer than a builder can hold, and what lay in memory before stays as it was. -/
import Derived.Test.YtgffbicdfclcmaaDoorSelf
import Derived.Test.YtgffbicdfclcmaaDoorTexts
namespace Go.Proofs.YtgffbicdfclcmaaDoor
open Go.RowKit
set_option maxRecDepth 100000
set_option linter.unusedSimpArgs false

theorem restB_false {ys : List (ByteArray × Int)} {t : Option Int} (h : ys ≠ [] ∨ t ≠ none) : restB false ys t = [58, 32] ++ restB true ys t := by
  match ys, t, h with
  | [], some n, _ => simp [restB]
  | c :: r, t, _ => simp [restB]
  | [], none, h => exact (h.elim (fun h => h rfl) (fun h => h rfl)).elim

theorem restB_one (c : ByteArray × Int) : restB true [c] none = oneB c := by simp [restB, oneB]
theorem restB_around (c : ByteArray × Int) (ys : List (ByteArray × Int)) (t : Option Int) : restB true (c :: ys) t = oneB c ++ restB false ys t := by simp [restB, oneB]

theorem Causes.mono {n₀ n₁ : Nat} {w : World} {sv : Value} {zs : List (ByteArray × Int)} (h : Causes n₀ w sv zs) (hn : n₀ ≤ n₁) : Causes n₁ w sv zs := by
  rcases h with h | ⟨b, off, c, h1, h2, h3⟩
  · exact .inl h
  · exact .inr ⟨b, off, c, h1, by omega, h3⟩

theorem IsErr.drewN {w : World} {v : Value} {l : List (ByteArray × Int)} {t : Option Int} (h : IsErr w v l t) (k : Nat) : IsErr (w.drewN k) v l t := h.below (below_drewN (Below.refl _ _) k)

theorem str_around {ys : List (ByteArray × Int)} {t : Option Int} (c : ByteArray × Int) (h : ys ≠ [] ∨ t ≠ none) : (⟨(restB true (c :: ys) t).toArray⟩ : ByteArray) = ⟨(restB true [c] none).toArray⟩ ++ ⟨#[58, 32]⟩ ++ ⟨(restB true ys t).toArray⟩ := by
  rw [restB_around, restB_false h, restB_one]
  simp [ByteArray.ext_iff]

theorem len_around {ys : List (ByteArray × Int)} {t : Option Int} (c : ByteArray × Int) (h : ys ≠ [] ∨ t ≠ none) : (restB true (c :: ys) t).length = (restB true [c] none).length + (2 + (restB true ys t).length) := by
  rw [restB_around, restB_false h, restB_one]
  simp
  omega

/-- A new slice of one cause. -/
theorem causes_one (op : ByteArray) (co : Int) (W : World) : Causes (W.alloc (.cells #[.string op, .int .i64 co] 32)).heap.size (W.alloc (.cells #[.string op, .int .i64 co] 32)) (.slice (some ⟨W.heap.size, 0, none⟩) 1 1) [(op, co)] := by
  have hbl : (W.alloc (.cells #[.string op, .int .i64 co] 32)).heap[W.heap.size]? = some (.cells #[.string op, .int .i64 co] 32 (0, 0)) := World.alloc_heap_new W _
  refine .inr ⟨W.heap.size, 0, 1, rfl, by simp, fun j hj => ?_⟩
  match j, hj with
  | 0, _ => exact ⟨by rw [cells_of_block hbl]; rfl, by rw [cells_of_block hbl]; rfl⟩

set_option maxHeartbeats 4000000 in
theorem around_A (op : ByteArray) (co : Int) (zs : List (ByteArray × Int)) (a : Option Addr) (len cap : Nat) (pl : Int) (w : World) (hg : Door w) (hC : Causes w.heap.size w (.slice a len cap) zs) (hcap : len ≤ cap) (hm : len ≤ 9223372036854775807)
    (hcs : ∀ c ∈ zs, c.2 ≤ 9223372036854775807) (hco : co ≤ 9223372036854775807) (hlen : (restB true ((op, co) :: zs.take 200) none).length ≤ 140737488355328) (hne : zs.take 200 ≠ []) :
    Calls Tryd.prog 5 #[.agg #[.string op, .int .i64 co], .slice a len cap, .int .i64 pl] w fun e w' => e = .returned (.bool true) ∧ Below w.heap.size w w' := by
  have b0 : Below w.heap.size w (w.alloc (.cells #[.string op, .int .i64 co] 32)) := (Below.refl _ w).alloc (Nat.le_refl _) _
  have hbx : (w.alloc (.cells #[.string op, .int .i64 co] 32)).heap[w.heap.size]? = some (.cells #[.string op, .int .i64 co] 32 (0, 0)) := World.alloc_heap_new w _
  go_enter Tryd.func5, Tryd.ntmps5
  go_wp2
  go_quiet (fail)
  have bq := below_drewN b0 nq
  have hbq : ((w.alloc (.cells #[.string op, .int .i64 co] 32)).drewN nq).heap[w.heap.size]? = some (.cells #[.string op, .int .i64 co] 32 (0, 0)) := hbx
  generalize (w.alloc (.cells #[.string op, .int .i64 co] 32)).drewN nq = W0 at bq hbq ⊢
  clear b0 hbx
  go_wp2_with fail
  refine (cut_of w.heap.size zs a len cap W0 (hC.below bq) hcap hm).mono ?_
  rintro e wx ⟨a', len', cap', rfl, hC', hwx⟩
  subst hwx
  clear hC
  have hyl : (zs.take 200).length ≤ 200 := by rw [List.length_take]; omega
  have hys : ∀ c ∈ zs.take 200, c.2 ≤ 9223372036854775807 := fun c h => hcs c (List.mem_of_mem_take h)
  clear hcs hm hcap
  generalize zs.take 200 = ys at hC' hyl hys hlen hne
  obtain rfl := hC'.length
  have hla := len_around (t := none) (op, co) (.inl hne)
  go_wp2_with fail
  refine (chain_of ys a' _ cap' wx (by omega) (hC'.mono bq.size)).mono ?_
  rintro e w1 ⟨v, rfl, he, b1⟩
  have b1' := bq.trans (b1.mono bq.size)
  obtain ⟨b, hv⟩ : ∃ b, v = .iface 53 (.pointer (some ⟨b, 0, none⟩)) := by
    cases ys with
    | nil => exact absurd rfl hne
    | cons c r => obtain ⟨b, inner, h1, _, _⟩ := he; exact ⟨b, h1⟩
  subst hv
  have hbl : b < w1.heap.size := by
    cases ys with
    | nil => exact absurd rfl hne
    | cons c r => obtain ⟨b', inner, h1, h2, _⟩ := he; cases h1; exact (Array.getElem?_eq_some_iff.1 h2).1
  have hout : ∀ b', (Value.iface 53 (.pointer (some ⟨b, 0, none⟩))) = .iface 53 (.pointer (some ⟨b', 0, none⟩)) → w1.heap.size ≠ b' := by intro b' h; cases h; omega
  have hoo : ys ≠ [] ∨ (none : Option Int) ≠ none := .inl hne
  have htt : ∀ n : Int, (none : Option Int) = some n → n ≤ 9223372036854775807 := by simp
  have hz : ((ys.length : Int) == 0) = false := by have := List.length_pos_iff.2 hne; simp; omega
  go_wp2_with fail
  refine (new_of op co w1 he).mono ?_
  rintro e w2 ⟨rfl, hw2⟩
  have b2 : Below w1.heap.size w1 w2 := by rw [hw2]; exact (Below.refl _ _).alloc (Nat.le_refl _) _
  have hN : w2.heap[w1.heap.size]? = some (.cells #[.string op, .int .i64 co, .iface 53 (.pointer (some ⟨b, 0, none⟩)), .bool true] 56 (0, 0)) := by rw [hw2]; exact World.alloc_heap_new _ _
  have b2' := b1'.trans (b2.mono b1'.size)
  have i2 := he.below b2
  have e2 : IsErr w2 (.iface 53 (.pointer (some ⟨w1.heap.size, 0, none⟩))) ((op, co) :: ys) none := ⟨w1.heap.size, _, rfl, hN, i2⟩
  have hbx2 : w2.heap[w.heap.size]? = some (.cells #[.string op, .int .i64 co] 32 (0, 0)) := (b2.block _ (Nat.lt_of_lt_of_le (Array.getElem?_eq_some_iff.1 hbq).1 b1.size)).trans ((b1.block _ (Array.getElem?_eq_some_iff.1 hbq).1).trans hbq)
  have C2 : Causes w.heap.size w2 (.slice a' ys.length cap') ys := hC'.below ((b1.mono bq.size).trans (b2.mono b1'.size))
  clear hw2
  have hU : ∀ k, Calls Tryd.prog 21 #[.iface 53 (.pointer (some ⟨w1.heap.size, 0, none⟩))] (w2.drewN k) fun e w' => e = .returned (.iface 53 (.pointer (some ⟨b, 0, none⟩))) ∧ w' = w2.drewN k := fun k =>
    unwrap_of w1.heap.size _ (w2.drewN k) (by rw [cells_of_block (show (w2.drewN k).heap[w1.heap.size]? = _ from hN)]; rfl)
  go_wp2_with fail
  go_quiet (first | (go_at_call 17; exact Calls.quiet_of_same (Is_same _ _)) | (go_at_call 21; exact Calls.quiet_of_same (hU _)))
  clear hU
  have b3 := below_drewN b2' nq
  have e3 := e2.drewN nq
  have i3 := i2.drewN nq
  have hN3 : (w2.drewN nq).heap[w1.heap.size]? = some (.cells #[.string op, .int .i64 co, .iface 53 (.pointer (some ⟨b, 0, none⟩)), .bool true] 56 (0, 0)) := hN
  have hbx3 : (w2.drewN nq).heap[w.heap.size]? = some (.cells #[.string op, .int .i64 co] 32 (0, 0)) := hbx2
  have C3 : Causes w.heap.size (w2.drewN nq) (.slice a' ys.length cap') ys := C2.below (below_drewN (Below.refl _ _) nq)
  generalize w2.drewN nq = W3 at b3 e3 i3 hN3 hbx3 C3 ⊢
  clear b2 b2' i2 e2 hbx2 C2 hN
  have hD := depth_of _ _ _ W3 (hg.below b3) e3 (by simp <;> omega)
  have hF := first_of _ _ _ W3 (hg.below b3) e3
  by_cases hz0 : co = 0
  · have hz1 : (co == 0) = true := by simpa using hz0
    rw [show firstI ((op, co) :: ys) none = firstI ys none by rw [firstI, if_pos hz0]] at hF
    have hRF := refFirst_of _ ys a' _ cap' W3 C3 (by omega)
    clear hz0
    generalize firstI ys none = F at hF hRF
    have hfin : ((F == 0) = true ∨ (F == 0) = false) := by cases (F == 0) <;> simp
    obtain hF0 | hF0 := hfin
    all_goals
      go_wp2_with fail
      refine hRF.mono ?_
      rintro e wz ⟨rfl, hwz⟩
      subst hwz
      clear hRF
      have hN3x := True
      clear hN3x
      go_wp2_with fail
      refine hF.mono ?_
      rintro e w4 ⟨rfl, b4⟩
      have b4' := b3.trans (b4.mono b3.size)
      have e4 := e3.below b4
      have i4 := i3.below b4
      have hN4 := (b4.block _ (Array.getElem?_eq_some_iff.1 hN3).1).trans hN3
      have hbx4 := (b4.block _ (Array.getElem?_eq_some_iff.1 hbx3).1).trans hbx3
      clear hF hD
      have hD := depth_of _ _ _ w4 (hg.below b4') e4 (by simp <;> omega)
      rw [show ((((op, co) :: ys).length : Nat) : Int) = ((ys.length : Nat) : Int) + 1 by simp] at hD
      go_wp2_with fail
      refine hD.mono ?_
      rintro e w5 ⟨rfl, b5⟩
      have b5' := b4'.trans (b5.mono b4'.size)
      have e5 := e4.below b5
      have i5 := i4.below b5
      have hN5 := (b5.block _ (Array.getElem?_eq_some_iff.1 hN4).1).trans hN4
      have hbx5 := (b5.block _ (Array.getElem?_eq_some_iff.1 hbx4).1).trans hbx4
      have x0 : w5.cell? ⟨w.heap.size, 0, none⟩ = some (.string op) := by rw [cells_of_block hbx5]; rfl
      have x1 : w5.cell? ⟨w.heap.size, 1, none⟩ = some (.int .i64 co) := by rw [cells_of_block hbx5]; rfl
      clear hD e3 e4 i3 i4 hN3 hN4 hbx3 hbx4 hbx5
      have ba : Below w5.heap.size w5 (w5.alloc (.cells #[.string op, .int .i64 co] 32)) := (Below.refl _ _).alloc (Nat.le_refl _) _
      have hR := refText_of _ [(op, co)] _ 1 1 (w5.alloc (.cells #[.string op, .int .i64 co] 32)) (causes_one op co w5) (Nat.le_refl _) (by simp) (by simpa using hco) (by omega)
      go_wp2_with fail
      refine hR.mono ?_
      rintro e w6 ⟨rfl, b6⟩
      have ba6 := ba.trans (b6.mono ba.size)
      have b6' := b5'.trans (ba6.mono b5'.size)
      have e6 := e5.below ba6
      have i6 := i5.below ba6
      have hN6 := (ba6.block _ (Array.getElem?_eq_some_iff.1 hN5).1).trans hN5
      clear hR e5 i5 hN5 x0 x1
      have hI := text_of ys none _ w6 (hg.below b6') i6 hoo hys htt (by omega)
      go_wp2_with fail
      refine hI.mono ?_
      rintro e w7 ⟨rfl, b7⟩
      have b7' := b6'.trans (b7.mono b6'.size)
      have e7 := e6.below b7
      have i7 := i6.below b7
      have hN7 := (b7.block _ (Array.getElem?_eq_some_iff.1 hN6).1).trans hN6
      have hT := text_of _ _ _ w7 (hg.below b7') e7 (.inl (by simp)) (by intro c h; rcases List.mem_cons.1 h with rfl | h; exact hco; exact hys c h) htt (by omega)
      rw [str_around (op, co) hoo] at hT
      clear hI e6 i6 hN6
      go_wp2_with fail
      refine hT.mono ?_
      rintro e w8 ⟨rfl, b8⟩
      have b8' := b7'.trans (b8.mono b7'.size)
      have i8 := i7.below b8
      have hN8 := (b8.block _ (Array.getElem?_eq_some_iff.1 hN7).1).trans hN7
      have hX := Is_inner op co w1.heap.size w8 i8 (by simp) hN8 hout
      clear hT e7 i7 i8 hN7 hN8
      go_wp2_with fail
      refine hX.mono ?_
      rintro e wz ⟨rfl, hwz⟩
      subst hwz
      clear hX
      go_wp2_with fail
      refine (awake_of wz (hg.below b8')).mono ?_
      rintro e w9 ⟨rfl, b9⟩
      have b9' := b8'.trans (b9.mono b8'.size)
      go_wp2
      go_ret
      exact ⟨rfl, b9'⟩
  · have hz1 : (co == 0) = false := by simpa using hz0
    rw [show firstI ((op, co) :: ys) none = co by rw [firstI, if_neg hz0]] at hF
    clear hz0
    have hN3x := True
    clear hN3x
    go_wp2_with fail
    refine hF.mono ?_
    rintro e w4 ⟨rfl, b4⟩
    have b4' := b3.trans (b4.mono b3.size)
    have e4 := e3.below b4
    have i4 := i3.below b4
    have hN4 := (b4.block _ (Array.getElem?_eq_some_iff.1 hN3).1).trans hN3
    have hbx4 := (b4.block _ (Array.getElem?_eq_some_iff.1 hbx3).1).trans hbx3
    clear hF hD
    have hD := depth_of _ _ _ w4 (hg.below b4') e4 (by simp <;> omega)
    rw [show ((((op, co) :: ys).length : Nat) : Int) = ((ys.length : Nat) : Int) + 1 by simp] at hD
    go_wp2_with fail
    refine hD.mono ?_
    rintro e w5 ⟨rfl, b5⟩
    have b5' := b4'.trans (b5.mono b4'.size)
    have e5 := e4.below b5
    have i5 := i4.below b5
    have hN5 := (b5.block _ (Array.getElem?_eq_some_iff.1 hN4).1).trans hN4
    have hbx5 := (b5.block _ (Array.getElem?_eq_some_iff.1 hbx4).1).trans hbx4
    have x0 : w5.cell? ⟨w.heap.size, 0, none⟩ = some (.string op) := by rw [cells_of_block hbx5]; rfl
    have x1 : w5.cell? ⟨w.heap.size, 1, none⟩ = some (.int .i64 co) := by rw [cells_of_block hbx5]; rfl
    clear hD e3 e4 i3 i4 hN3 hN4 hbx3 hbx4 hbx5
    have ba : Below w5.heap.size w5 (w5.alloc (.cells #[.string op, .int .i64 co] 32)) := (Below.refl _ _).alloc (Nat.le_refl _) _
    have hR := refText_of _ [(op, co)] _ 1 1 (w5.alloc (.cells #[.string op, .int .i64 co] 32)) (causes_one op co w5) (Nat.le_refl _) (by simp) (by simpa using hco) (by omega)
    go_wp2_with fail
    refine hR.mono ?_
    rintro e w6 ⟨rfl, b6⟩
    have ba6 := ba.trans (b6.mono ba.size)
    have b6' := b5'.trans (ba6.mono b5'.size)
    have e6 := e5.below ba6
    have i6 := i5.below ba6
    have hN6 := (ba6.block _ (Array.getElem?_eq_some_iff.1 hN5).1).trans hN5
    clear hR e5 i5 hN5 x0 x1
    have hI := text_of ys none _ w6 (hg.below b6') i6 hoo hys htt (by omega)
    go_wp2_with fail
    refine hI.mono ?_
    rintro e w7 ⟨rfl, b7⟩
    have b7' := b6'.trans (b7.mono b6'.size)
    have e7 := e6.below b7
    have i7 := i6.below b7
    have hN7 := (b7.block _ (Array.getElem?_eq_some_iff.1 hN6).1).trans hN6
    have hT := text_of _ _ _ w7 (hg.below b7') e7 (.inl (by simp)) (by intro c h; rcases List.mem_cons.1 h with rfl | h; exact hco; exact hys c h) htt (by omega)
    rw [str_around (op, co) hoo] at hT
    clear hI e6 i6 hN6
    go_wp2_with fail
    refine hT.mono ?_
    rintro e w8 ⟨rfl, b8⟩
    have b8' := b7'.trans (b8.mono b7'.size)
    have i8 := i7.below b8
    have hN8 := (b8.block _ (Array.getElem?_eq_some_iff.1 hN7).1).trans hN7
    have hX := Is_inner op co w1.heap.size w8 i8 (by simp) hN8 hout
    clear hT e7 i7 i8 hN7 hN8
    go_wp2_with fail
    refine hX.mono ?_
    rintro e wz ⟨rfl, hwz⟩
    subst hwz
    clear hX
    go_wp2_with fail
    refine (awake_of wz (hg.below b8')).mono ?_
    rintro e w9 ⟨rfl, b9⟩
    have b9' := b8'.trans (b9.mono b8'.size)
    go_wp2
    go_ret
    exact ⟨rfl, b9'⟩
set_option maxHeartbeats 4000000 in
theorem around_B (op : ByteArray) (co : Int) (zs : List (ByteArray × Int)) (a : Option Addr) (len cap : Nat) (pl : Int) (w : World) (hg : Door w) (hC : Causes w.heap.size w (.slice a len cap) zs) (hcap : len ≤ cap) (hm : len ≤ 9223372036854775807)
    (hcs : ∀ c ∈ zs, c.2 ≤ 9223372036854775807) (hco : co ≤ 9223372036854775807) (hlen : (restB true ((op, co) :: zs.take 200) (some pl)).length ≤ 140737488355328) (hne : zs.take 200 = []) (hp0 : pl ≠ 0) (hpl : pl ≤ 9223372036854775807) :
    Calls Tryd.prog 5 #[.agg #[.string op, .int .i64 co], .slice a len cap, .int .i64 pl] w fun e w' => e = .returned (.bool true) ∧ Below w.heap.size w w' := by
  have b0 : Below w.heap.size w (w.alloc (.cells #[.string op, .int .i64 co] 32)) := (Below.refl _ w).alloc (Nat.le_refl _) _
  have hbx : (w.alloc (.cells #[.string op, .int .i64 co] 32)).heap[w.heap.size]? = some (.cells #[.string op, .int .i64 co] 32 (0, 0)) := World.alloc_heap_new w _
  go_enter Tryd.func5, Tryd.ntmps5
  go_wp2
  go_quiet (fail)
  have bq := below_drewN b0 nq
  have hbq : ((w.alloc (.cells #[.string op, .int .i64 co] 32)).drewN nq).heap[w.heap.size]? = some (.cells #[.string op, .int .i64 co] 32 (0, 0)) := hbx
  generalize (w.alloc (.cells #[.string op, .int .i64 co] 32)).drewN nq = W0 at bq hbq ⊢
  clear b0 hbx
  go_wp2_with fail
  refine (cut_of w.heap.size zs a len cap W0 (hC.below bq) hcap hm).mono ?_
  rintro e wx ⟨a', len', cap', rfl, hC', hwx⟩
  subst hwx
  clear hC
  have hyl : (zs.take 200).length ≤ 200 := by rw [List.length_take]; omega
  have hys : ∀ c ∈ zs.take 200, c.2 ≤ 9223372036854775807 := fun c h => hcs c (List.mem_of_mem_take h)
  clear hcs hm hcap
  generalize zs.take 200 = ys at hC' hyl hys hlen hne
  subst hne
  obtain rfl := hC'.length
  go_wp2_with fail
  refine (chain_of [] a' _ cap' wx (by simp) (hC'.mono bq.size)).mono ?_
  rintro e w1 ⟨v, rfl, he0, b1⟩
  obtain rfl := he0
  have b1' := bq.trans (b1.mono bq.size)
  have hla := len_around (ys := []) (t := some pl) (op, co) (.inr (by simp))
  have he : IsErr w1 (.iface 30 (.int .i64 pl)) [] (some pl) := rfl
  have hp1 : (pl == 0) = false := by simpa using hp0
  have hout : ∀ b', (Value.iface 30 (.int .i64 pl)) = .iface 53 (.pointer (some ⟨b', 0, none⟩)) → w1.heap.size ≠ b' := by intro b' h; cases h
  have hoo : ([] : List (ByteArray × Int)) ≠ [] ∨ some pl ≠ none := .inr (by simp)
  have htt : ∀ n : Int, some pl = some n → n ≤ 9223372036854775807 := by intro n h; cases h; exact hpl
  clear hp0
  go_wp2_with fail
  refine (new_of op co w1 he).mono ?_
  rintro e w2 ⟨rfl, hw2⟩
  have b2 : Below w1.heap.size w1 w2 := by rw [hw2]; exact (Below.refl _ _).alloc (Nat.le_refl _) _
  have hN : w2.heap[w1.heap.size]? = some (.cells #[.string op, .int .i64 co, .iface 30 (.int .i64 pl), .bool true] 56 (0, 0)) := by rw [hw2]; exact World.alloc_heap_new _ _
  have b2' := b1'.trans (b2.mono b1'.size)
  have i2 := he.below b2
  have e2 : IsErr w2 (.iface 53 (.pointer (some ⟨w1.heap.size, 0, none⟩))) ((op, co) :: ([] : List (ByteArray × Int))) (some pl) := ⟨w1.heap.size, _, rfl, hN, i2⟩
  have hbx2 : w2.heap[w.heap.size]? = some (.cells #[.string op, .int .i64 co] 32 (0, 0)) := (b2.block _ (Nat.lt_of_lt_of_le (Array.getElem?_eq_some_iff.1 hbq).1 b1.size)).trans ((b1.block _ (Array.getElem?_eq_some_iff.1 hbq).1).trans hbq)
  have C2 : Causes w.heap.size w2 (.slice a' ([] : List (ByteArray × Int)).length cap') ([] : List (ByteArray × Int)) := hC'.below ((b1.mono bq.size).trans (b2.mono b1'.size))
  clear hw2
  have hU : ∀ k, Calls Tryd.prog 21 #[.iface 53 (.pointer (some ⟨w1.heap.size, 0, none⟩))] (w2.drewN k) fun e w' => e = .returned (.iface 30 (.int .i64 pl)) ∧ w' = w2.drewN k := fun k =>
    unwrap_of w1.heap.size _ (w2.drewN k) (by rw [cells_of_block (show (w2.drewN k).heap[w1.heap.size]? = _ from hN)]; rfl)
  have hS : ∀ k, Calls Tryd.prog 17 #[.iface 30 (.int .i64 pl), .iface 30 (.int .i64 pl)] (w2.drewN k) fun e w' => e = .returned (.bool true) ∧ w' = w2.drewN k := fun k => Is_self (l := []) (t := some pl) (w2.drewN k) rfl (by simp)
  go_wp2_with fail
  go_quiet (first | (go_at_call_of 17 (Value.iface 30 (Value.int .i64 pl)); exact Calls.quiet_of_same (hS _)) | (go_at_call 17; exact Calls.quiet_of_same (Is_same _ _)) | (go_at_call 21; exact Calls.quiet_of_same (hU _)))
  clear hU
  have b3 := below_drewN b2' nq
  have e3 := e2.drewN nq
  have i3 := i2.drewN nq
  have hN3 : (w2.drewN nq).heap[w1.heap.size]? = some (.cells #[.string op, .int .i64 co, .iface 30 (.int .i64 pl), .bool true] 56 (0, 0)) := hN
  have hbx3 : (w2.drewN nq).heap[w.heap.size]? = some (.cells #[.string op, .int .i64 co] 32 (0, 0)) := hbx2
  have C3 : Causes w.heap.size (w2.drewN nq) (.slice a' ([] : List (ByteArray × Int)).length cap') ([] : List (ByteArray × Int)) := C2.below (below_drewN (Below.refl _ _) nq)
  generalize w2.drewN nq = W3 at b3 e3 i3 hN3 hbx3 C3 ⊢
  clear b2 b2' i2 e2 hbx2 C2 hN
  have hD := depth_of _ _ _ W3 (hg.below b3) e3 (by simp <;> omega)
  have hF := first_of _ _ _ W3 (hg.below b3) e3
  by_cases hz0 : co = 0
  · have hz1 : (co == 0) = true := by simpa using hz0
    rw [show firstI [(op, co)] (some pl) = pl by rw [firstI, if_pos hz0]; rfl] at hF
    have hRF := refFirst_of _ [] a' _ cap' W3 C3 (by simp)
    rw [show firstI [] none = 0 from rfl] at hRF
    clear hz0
    go_wp2_with fail
    refine hRF.mono ?_
    rintro e wz ⟨rfl, hwz⟩
    subst hwz
    clear hRF
    have hN3x := True
    clear hN3x
    go_wp2_with fail
    refine hF.mono ?_
    rintro e w4 ⟨rfl, b4⟩
    have b4' := b3.trans (b4.mono b3.size)
    have e4 := e3.below b4
    have i4 := i3.below b4
    have hN4 := (b4.block _ (Array.getElem?_eq_some_iff.1 hN3).1).trans hN3
    have hbx4 := (b4.block _ (Array.getElem?_eq_some_iff.1 hbx3).1).trans hbx3
    clear hF hD
    have hD := depth_of _ _ _ w4 (hg.below b4') e4 (by simp <;> omega)
    rw [show ((((op, co) :: ([] : List (ByteArray × Int))).length : Nat) : Int) = ((([] : List (ByteArray × Int)).length : Nat) : Int) + 1 by simp] at hD
    go_wp2_with fail
    refine hD.mono ?_
    rintro e w5 ⟨rfl, b5⟩
    have b5' := b4'.trans (b5.mono b4'.size)
    have e5 := e4.below b5
    have i5 := i4.below b5
    have hN5 := (b5.block _ (Array.getElem?_eq_some_iff.1 hN4).1).trans hN4
    have hbx5 := (b5.block _ (Array.getElem?_eq_some_iff.1 hbx4).1).trans hbx4
    have x0 : w5.cell? ⟨w.heap.size, 0, none⟩ = some (.string op) := by rw [cells_of_block hbx5]; rfl
    have x1 : w5.cell? ⟨w.heap.size, 1, none⟩ = some (.int .i64 co) := by rw [cells_of_block hbx5]; rfl
    clear hD e3 e4 i3 i4 hN3 hN4 hbx3 hbx4 hbx5
    have ba : Below w5.heap.size w5 (w5.alloc (.cells #[.string op, .int .i64 co] 32)) := (Below.refl _ _).alloc (Nat.le_refl _) _
    have hR := refText_of _ [(op, co)] _ 1 1 (w5.alloc (.cells #[.string op, .int .i64 co] 32)) (causes_one op co w5) (Nat.le_refl _) (by simp) (by simpa using hco) (by omega)
    go_wp2_with fail
    refine hR.mono ?_
    rintro e w6 ⟨rfl, b6⟩
    have ba6 := ba.trans (b6.mono ba.size)
    have b6' := b5'.trans (ba6.mono b5'.size)
    have e6 := e5.below ba6
    have i6 := i5.below ba6
    have hN6 := (ba6.block _ (Array.getElem?_eq_some_iff.1 hN5).1).trans hN5
    clear hR e5 i5 hN5 x0 x1
    have hI := text_of ([] : List (ByteArray × Int)) (some pl) _ w6 (hg.below b6') i6 hoo hys htt (by omega)
    go_wp2_with fail
    refine hI.mono ?_
    rintro e w7 ⟨rfl, b7⟩
    have b7' := b6'.trans (b7.mono b6'.size)
    have e7 := e6.below b7
    have i7 := i6.below b7
    have hN7 := (b7.block _ (Array.getElem?_eq_some_iff.1 hN6).1).trans hN6
    have hT := text_of _ _ _ w7 (hg.below b7') e7 (.inl (by simp)) (by intro c h; rcases List.mem_cons.1 h with rfl | h; exact hco; exact hys c h) htt (by omega)
    rw [str_around (op, co) hoo] at hT
    clear hI e6 i6 hN6
    go_wp2_with fail
    refine hT.mono ?_
    rintro e w8 ⟨rfl, b8⟩
    have b8' := b7'.trans (b8.mono b7'.size)
    have i8 := i7.below b8
    have hN8 := (b8.block _ (Array.getElem?_eq_some_iff.1 hN7).1).trans hN7
    have hX := Is_inner op co w1.heap.size w8 i8 (by simp) hN8 hout
    clear hT e7 i7 i8 hN7 hN8
    go_wp2_with fail
    refine hX.mono ?_
    rintro e wz ⟨rfl, hwz⟩
    subst hwz
    clear hX
    go_wp2_with fail
    refine (awake_of wz (hg.below b8')).mono ?_
    rintro e w9 ⟨rfl, b9⟩
    have b9' := b8'.trans (b9.mono b8'.size)
    go_wp2
    go_ret
    exact ⟨rfl, b9'⟩
  · have hz1 : (co == 0) = false := by simpa using hz0
    rw [show firstI [(op, co)] (some pl) = co by rw [firstI, if_neg hz0]] at hF
    clear hz0
    have hN3x := True
    clear hN3x
    go_wp2_with fail
    refine hF.mono ?_
    rintro e w4 ⟨rfl, b4⟩
    have b4' := b3.trans (b4.mono b3.size)
    have e4 := e3.below b4
    have i4 := i3.below b4
    have hN4 := (b4.block _ (Array.getElem?_eq_some_iff.1 hN3).1).trans hN3
    have hbx4 := (b4.block _ (Array.getElem?_eq_some_iff.1 hbx3).1).trans hbx3
    clear hF hD
    have hD := depth_of _ _ _ w4 (hg.below b4') e4 (by simp <;> omega)
    rw [show ((((op, co) :: ([] : List (ByteArray × Int))).length : Nat) : Int) = ((([] : List (ByteArray × Int)).length : Nat) : Int) + 1 by simp] at hD
    go_wp2_with fail
    refine hD.mono ?_
    rintro e w5 ⟨rfl, b5⟩
    have b5' := b4'.trans (b5.mono b4'.size)
    have e5 := e4.below b5
    have i5 := i4.below b5
    have hN5 := (b5.block _ (Array.getElem?_eq_some_iff.1 hN4).1).trans hN4
    have hbx5 := (b5.block _ (Array.getElem?_eq_some_iff.1 hbx4).1).trans hbx4
    have x0 : w5.cell? ⟨w.heap.size, 0, none⟩ = some (.string op) := by rw [cells_of_block hbx5]; rfl
    have x1 : w5.cell? ⟨w.heap.size, 1, none⟩ = some (.int .i64 co) := by rw [cells_of_block hbx5]; rfl
    clear hD e3 e4 i3 i4 hN3 hN4 hbx3 hbx4 hbx5
    have ba : Below w5.heap.size w5 (w5.alloc (.cells #[.string op, .int .i64 co] 32)) := (Below.refl _ _).alloc (Nat.le_refl _) _
    have hR := refText_of _ [(op, co)] _ 1 1 (w5.alloc (.cells #[.string op, .int .i64 co] 32)) (causes_one op co w5) (Nat.le_refl _) (by simp) (by simpa using hco) (by omega)
    go_wp2_with fail
    refine hR.mono ?_
    rintro e w6 ⟨rfl, b6⟩
    have ba6 := ba.trans (b6.mono ba.size)
    have b6' := b5'.trans (ba6.mono b5'.size)
    have e6 := e5.below ba6
    have i6 := i5.below ba6
    have hN6 := (ba6.block _ (Array.getElem?_eq_some_iff.1 hN5).1).trans hN5
    clear hR e5 i5 hN5 x0 x1
    have hI := text_of ([] : List (ByteArray × Int)) (some pl) _ w6 (hg.below b6') i6 hoo hys htt (by omega)
    go_wp2_with fail
    refine hI.mono ?_
    rintro e w7 ⟨rfl, b7⟩
    have b7' := b6'.trans (b7.mono b6'.size)
    have e7 := e6.below b7
    have i7 := i6.below b7
    have hN7 := (b7.block _ (Array.getElem?_eq_some_iff.1 hN6).1).trans hN6
    have hT := text_of _ _ _ w7 (hg.below b7') e7 (.inl (by simp)) (by intro c h; rcases List.mem_cons.1 h with rfl | h; exact hco; exact hys c h) htt (by omega)
    rw [str_around (op, co) hoo] at hT
    clear hI e6 i6 hN6
    go_wp2_with fail
    refine hT.mono ?_
    rintro e w8 ⟨rfl, b8⟩
    have b8' := b7'.trans (b8.mono b7'.size)
    have i8 := i7.below b8
    have hN8 := (b8.block _ (Array.getElem?_eq_some_iff.1 hN7).1).trans hN7
    have hX := Is_inner op co w1.heap.size w8 i8 (by simp) hN8 hout
    clear hT e7 i7 i8 hN7 hN8
    go_wp2_with fail
    refine hX.mono ?_
    rintro e wz ⟨rfl, hwz⟩
    subst hwz
    clear hX
    go_wp2_with fail
    refine (awake_of wz (hg.below b8')).mono ?_
    rintro e w9 ⟨rfl, b9⟩
    have b9' := b8'.trans (b9.mono b8'.size)
    go_wp2
    go_ret
    exact ⟨rfl, b9'⟩
set_option maxHeartbeats 4000000 in
theorem around_C (op : ByteArray) (co : Int) (zs : List (ByteArray × Int)) (a : Option Addr) (len cap : Nat) (w : World) (hg : Door w) (hC : Causes w.heap.size w (.slice a len cap) zs) (hcap : len ≤ cap) (hm : len ≤ 9223372036854775807)
    (hcs : ∀ c ∈ zs, c.2 ≤ 9223372036854775807) (hco : co ≤ 9223372036854775807) (hlen : (restB true ((op, co) :: zs.take 200) none).length ≤ 140737488355328) (hne : zs.take 200 = []) :
    Calls Tryd.prog 5 #[.agg #[.string op, .int .i64 co], .slice a len cap, .int .i64 0] w fun e w' => e = .returned (.bool true) ∧ Below w.heap.size w w' := by
  have b0 : Below w.heap.size w (w.alloc (.cells #[.string op, .int .i64 co] 32)) := (Below.refl _ w).alloc (Nat.le_refl _) _
  have hbx : (w.alloc (.cells #[.string op, .int .i64 co] 32)).heap[w.heap.size]? = some (.cells #[.string op, .int .i64 co] 32 (0, 0)) := World.alloc_heap_new w _
  go_enter Tryd.func5, Tryd.ntmps5
  go_wp2
  go_quiet (fail)
  have bq := below_drewN b0 nq
  have hbq : ((w.alloc (.cells #[.string op, .int .i64 co] 32)).drewN nq).heap[w.heap.size]? = some (.cells #[.string op, .int .i64 co] 32 (0, 0)) := hbx
  generalize (w.alloc (.cells #[.string op, .int .i64 co] 32)).drewN nq = W0 at bq hbq ⊢
  clear b0 hbx
  go_wp2_with fail
  refine (cut_of w.heap.size zs a len cap W0 (hC.below bq) hcap hm).mono ?_
  rintro e wx ⟨a', len', cap', rfl, hC', hwx⟩
  subst hwx
  clear hC
  have hyl : (zs.take 200).length ≤ 200 := by rw [List.length_take]; omega
  have hys : ∀ c ∈ zs.take 200, c.2 ≤ 9223372036854775807 := fun c h => hcs c (List.mem_of_mem_take h)
  clear hcs hm hcap
  generalize zs.take 200 = ys at hC' hyl hys hlen hne
  subst hne
  obtain rfl := hC'.length
  go_wp2_with fail
  refine (chain_of [] a' _ cap' wx (by simp) (hC'.mono bq.size)).mono ?_
  rintro e w1 ⟨v, rfl, he0, b1⟩
  obtain rfl := he0
  have b1' := bq.trans (b1.mono bq.size)
  have he : IsErr w1 .nilIface [] none := rfl
  go_wp2_with fail
  refine (new_of op co w1 he).mono ?_
  rintro e w2 ⟨rfl, hw2⟩
  have b2 : Below w1.heap.size w1 w2 := by rw [hw2]; exact (Below.refl _ _).alloc (Nat.le_refl _) _
  have hN : w2.heap[w1.heap.size]? = some (.cells #[.string op, .int .i64 co, .nilIface, .bool true] 56 (0, 0)) := by rw [hw2]; exact World.alloc_heap_new _ _
  have b2' := b1'.trans (b2.mono b1'.size)
  have i2 := he.below b2
  have e2 : IsErr w2 (.iface 53 (.pointer (some ⟨w1.heap.size, 0, none⟩))) ((op, co) :: ([] : List (ByteArray × Int))) none := ⟨w1.heap.size, _, rfl, hN, i2⟩
  have hbx2 : w2.heap[w.heap.size]? = some (.cells #[.string op, .int .i64 co] 32 (0, 0)) := (b2.block _ (Nat.lt_of_lt_of_le (Array.getElem?_eq_some_iff.1 hbq).1 b1.size)).trans ((b1.block _ (Array.getElem?_eq_some_iff.1 hbq).1).trans hbq)
  have C2 : Causes w.heap.size w2 (.slice a' ([] : List (ByteArray × Int)).length cap') ([] : List (ByteArray × Int)) := hC'.below ((b1.mono bq.size).trans (b2.mono b1'.size))
  clear hw2
  have hU : ∀ k, Calls Tryd.prog 21 #[.iface 53 (.pointer (some ⟨w1.heap.size, 0, none⟩))] (w2.drewN k) fun e w' => e = .returned (.nilIface) ∧ w' = w2.drewN k := fun k =>
    unwrap_of w1.heap.size _ (w2.drewN k) (by rw [cells_of_block (show (w2.drewN k).heap[w1.heap.size]? = _ from hN)]; rfl)
  go_wp2_with fail
  go_quiet (first | (go_at_call 17; exact Calls.quiet_of_same (Is_same _ _)) | (go_at_call 21; exact Calls.quiet_of_same (hU _)))
  clear hU
  have b3 := below_drewN b2' nq
  have e3 := e2.drewN nq
  have i3 := i2.drewN nq
  have hN3 : (w2.drewN nq).heap[w1.heap.size]? = some (.cells #[.string op, .int .i64 co, .nilIface, .bool true] 56 (0, 0)) := hN
  have hbx3 : (w2.drewN nq).heap[w.heap.size]? = some (.cells #[.string op, .int .i64 co] 32 (0, 0)) := hbx2
  have C3 : Causes w.heap.size (w2.drewN nq) (.slice a' ([] : List (ByteArray × Int)).length cap') ([] : List (ByteArray × Int)) := C2.below (below_drewN (Below.refl _ _) nq)
  generalize w2.drewN nq = W3 at b3 e3 i3 hN3 hbx3 C3 ⊢
  clear b2 b2' i2 e2 hbx2 C2 hN
  have hD := depth_of _ _ _ W3 (hg.below b3) e3 (by simp <;> omega)
  have hF := first_of _ _ _ W3 (hg.below b3) e3
  by_cases hz0 : co = 0
  · have hz1 : (co == 0) = true := by simpa using hz0
    rw [show firstI [(op, co)] none = 0 by rw [firstI, if_pos hz0]; rfl] at hF
    have hRF := refFirst_of _ [] a' _ cap' W3 C3 (by simp)
    rw [show firstI [] none = 0 from rfl] at hRF
    clear hz0
    go_wp2_with fail
    refine hRF.mono ?_
    rintro e wz ⟨rfl, hwz⟩
    subst hwz
    clear hRF
    have hN3x := True
    clear hN3x
    go_wp2_with fail
    refine hF.mono ?_
    rintro e w4 ⟨rfl, b4⟩
    have b4' := b3.trans (b4.mono b3.size)
    have e4 := e3.below b4
    have i4 := i3.below b4
    have hN4 := (b4.block _ (Array.getElem?_eq_some_iff.1 hN3).1).trans hN3
    have hbx4 := (b4.block _ (Array.getElem?_eq_some_iff.1 hbx3).1).trans hbx3
    clear hF hD
    have hD := depth_of _ _ _ w4 (hg.below b4') e4 (by simp <;> omega)
    rw [show ((((op, co) :: ([] : List (ByteArray × Int))).length : Nat) : Int) = ((([] : List (ByteArray × Int)).length : Nat) : Int) + 1 by simp] at hD
    go_wp2_with fail
    refine hD.mono ?_
    rintro e w5 ⟨rfl, b5⟩
    have b5' := b4'.trans (b5.mono b4'.size)
    have e5 := e4.below b5
    have i5 := i4.below b5
    have hN5 := (b5.block _ (Array.getElem?_eq_some_iff.1 hN4).1).trans hN4
    have hbx5 := (b5.block _ (Array.getElem?_eq_some_iff.1 hbx4).1).trans hbx4
    have x0 : w5.cell? ⟨w.heap.size, 0, none⟩ = some (.string op) := by rw [cells_of_block hbx5]; rfl
    have x1 : w5.cell? ⟨w.heap.size, 1, none⟩ = some (.int .i64 co) := by rw [cells_of_block hbx5]; rfl
    clear hD e3 e4 i3 i4 hN3 hN4 hbx3 hbx4 hbx5
    have ba : Below w5.heap.size w5 (w5.alloc (.cells #[.string op, .int .i64 co] 32)) := (Below.refl _ _).alloc (Nat.le_refl _) _
    have hR := refText_of _ [(op, co)] _ 1 1 (w5.alloc (.cells #[.string op, .int .i64 co] 32)) (causes_one op co w5) (Nat.le_refl _) (by simp) (by simpa using hco) (by omega)
    go_wp2_with fail
    refine hR.mono ?_
    rintro e w6 ⟨rfl, b6⟩
    have ba6 := ba.trans (b6.mono ba.size)
    have b6' := b5'.trans (ba6.mono b5'.size)
    have e6 := e5.below ba6
    have i6 := i5.below ba6
    have hN6 := (ba6.block _ (Array.getElem?_eq_some_iff.1 hN5).1).trans hN5
    clear hR e5 i5 hN5 x0 x1
    have hT := text_of _ _ _ w6 (hg.below b6') e6 (.inl (by simp)) (by simpa using hco) (by simp) (by omega)
    go_wp2_with fail
    refine hT.mono ?_
    rintro e w8 ⟨rfl, b8⟩
    have b8' := b6'.trans (b8.mono b6'.size)
    clear hT
    go_wp2_with fail
    refine (awake_of w8 (hg.below b8')).mono ?_
    rintro e w9 ⟨rfl, b9⟩
    have b9' := b8'.trans (b9.mono b8'.size)
    go_wp2
    go_ret
    exact ⟨rfl, b9'⟩
  · have hz1 : (co == 0) = false := by simpa using hz0
    rw [show firstI [(op, co)] none = co by rw [firstI, if_neg hz0]] at hF
    clear hz0
    have hN3x := True
    clear hN3x
    go_wp2_with fail
    refine hF.mono ?_
    rintro e w4 ⟨rfl, b4⟩
    have b4' := b3.trans (b4.mono b3.size)
    have e4 := e3.below b4
    have i4 := i3.below b4
    have hN4 := (b4.block _ (Array.getElem?_eq_some_iff.1 hN3).1).trans hN3
    have hbx4 := (b4.block _ (Array.getElem?_eq_some_iff.1 hbx3).1).trans hbx3
    clear hF hD
    have hD := depth_of _ _ _ w4 (hg.below b4') e4 (by simp <;> omega)
    rw [show ((((op, co) :: ([] : List (ByteArray × Int))).length : Nat) : Int) = ((([] : List (ByteArray × Int)).length : Nat) : Int) + 1 by simp] at hD
    go_wp2_with fail
    refine hD.mono ?_
    rintro e w5 ⟨rfl, b5⟩
    have b5' := b4'.trans (b5.mono b4'.size)
    have e5 := e4.below b5
    have i5 := i4.below b5
    have hN5 := (b5.block _ (Array.getElem?_eq_some_iff.1 hN4).1).trans hN4
    have hbx5 := (b5.block _ (Array.getElem?_eq_some_iff.1 hbx4).1).trans hbx4
    have x0 : w5.cell? ⟨w.heap.size, 0, none⟩ = some (.string op) := by rw [cells_of_block hbx5]; rfl
    have x1 : w5.cell? ⟨w.heap.size, 1, none⟩ = some (.int .i64 co) := by rw [cells_of_block hbx5]; rfl
    clear hD e3 e4 i3 i4 hN3 hN4 hbx3 hbx4 hbx5
    have ba : Below w5.heap.size w5 (w5.alloc (.cells #[.string op, .int .i64 co] 32)) := (Below.refl _ _).alloc (Nat.le_refl _) _
    have hR := refText_of _ [(op, co)] _ 1 1 (w5.alloc (.cells #[.string op, .int .i64 co] 32)) (causes_one op co w5) (Nat.le_refl _) (by simp) (by simpa using hco) (by omega)
    go_wp2_with fail
    refine hR.mono ?_
    rintro e w6 ⟨rfl, b6⟩
    have ba6 := ba.trans (b6.mono ba.size)
    have b6' := b5'.trans (ba6.mono b5'.size)
    have e6 := e5.below ba6
    have i6 := i5.below ba6
    have hN6 := (ba6.block _ (Array.getElem?_eq_some_iff.1 hN5).1).trans hN5
    clear hR e5 i5 hN5 x0 x1
    have hT := text_of _ _ _ w6 (hg.below b6') e6 (.inl (by simp)) (by simpa using hco) (by simp) (by omega)
    go_wp2_with fail
    refine hT.mono ?_
    rintro e w8 ⟨rfl, b8⟩
    have b8' := b6'.trans (b8.mono b6'.size)
    clear hT
    go_wp2_with fail
    refine (awake_of w8 (hg.below b8')).mono ?_
    rintro e w9 ⟨rfl, b9⟩
    have b9' := b8'.trans (b9.mono b8'.size)
    go_wp2
    go_ret
    exact ⟨rfl, b9'⟩
end Go.Proofs.YtgffbicdfclcmaaDoor
