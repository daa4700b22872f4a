import Derived.Test.YtgfoogeiancecaaGreatDoorHw35
import Derived.Test.YtgfoogeiancecaaGreatDoorHw36
import Derived.Test.YtgfoogeiancecaaGreatDoorHw41
import Derived.Test.YtgfoogeiancecaaGreatDoorHw42
/- The contract of a log's CutFrom, of a record that is there. -/
namespace Go.Proofs.YtgfoogeiancecaaGreatDoor
open Go.RowKit Go.Shelf WalMath DiskMath
attribute [local go_sem] Oper.semAt_some
set_option maxRecDepth 100000
set_option linter.unusedSimpArgs false
set_option linter.unusedVariables false

/-- A segment with its first records alone. -/
def segTo (s : Seg) (j : Nat) : Seg := ⟨s.num, s.recs.take j⟩
/-- What is left of the segments where the i-th is cut behind j records. -/
def cutSg (sg : List Seg) (i : Nat) (s : Seg) (j : Nat) : List Seg := sg.take i ++ [segTo s j]
/-- What is left of the files. -/
def cutFs (sg : List Seg) (i : Nat) (s : Seg) (j : Nat) (fs : Files) : Files := leaveF (cutSg sg i s j) (rmN ((sg.drop (i + 1)).map Seg.num).reverse fs)

theorem set_take {sg : List Seg} {i : Nat} {s t : Seg} (h : sg[i]? = some s) : (sg.set i t).take (i + 1) = sg.take i ++ [t] := by
  have hl := (List.getElem?_eq_some_iff.1 h).1
  rw [List.take_succ_eq_append_getElem (by simpa using hl), List.take_set, List.getElem_set_self]
  congr 1
  exact List.set_eq_of_length_le (by simp; omega)

/-- The segment's places are cut. -/
theorem SegsAt.cutAt {σ : Wm} {w : World} {g len cap : Nat} {sg : List Seg} (h : SegsAt σ w (.slice (some ⟨g, 0, none⟩) len cap) sg) {i : Nat} {s : Seg} (hs : sg[i]? = some s) (j : Nat) (hj : j ≤ s.recs.length) {pa : Option Addr} {pn pc : Nat} (hc : w.cell? ⟨g, i * 2 + 1, none⟩ = some (.slice pa pn pc)) :
    SegsAt σ (w.setCell ⟨g, i * 2 + 1, none⟩ (.slice pa j pc)) (.slice (some ⟨g, 0, none⟩) len cap) (sg.set i (segTo s j)) := by
  obtain ⟨vs, h1, h2, h3⟩ := h.ex
  have hil := (List.getElem?_eq_some_iff.1 hs).1
  have hv := List.getElem?_eq_getElem (show i < vs.length by omega)
  have hx := sg2_get hs hv
  have hgm := h.row g rfl
  have hcell : vs[i] = .slice pa pn pc := by
    obtain ⟨g', cap', e, -, -, -, h8, -⟩ := h2.cells (by intro e; rw [e] at hx; simp at hx)
    cases e
    have := (h8 i _ hx).2
    rw [hc] at this
    exact (Option.some.inj this).symm
  have hsg2 : (sg2 sg vs).set i (.int .i64 (s.num : Int), .slice pa j pc) = sg2 (sg.set i (segTo s j)) (vs.set i (.slice pa j pc)) := by
    apply List.ext_getElem?
    intro n
    unfold sg2
    by_cases hn : i = n
    · subst hn
      rw [List.getElem?_set_self (by rw [List.length_zipWith]; omega), List.getElem?_zipWith, List.getElem?_set_self hil, List.getElem?_set_self (by omega)]
      rfl
    · rw [List.getElem?_set_ne hn, List.getElem?_zipWith, List.getElem?_zipWith, List.getElem?_set_ne hn, List.getElem?_set_ne hn]
  refine ⟨⟨vs.set i (.slice pa j pc), by simp [h1], by rw [← hsg2]; exact h2.set hx _, fun n t u ht hu => ?_⟩, h.row, fun b hb => by have := h.lt b hb; simpa [World.setCell] using this⟩
  have hne : ∀ b, (σ b).1 = 3 → (w.setCell ⟨g, i * 2 + 1, none⟩ (.slice pa j pc)).heap[b]? = w.heap[b]? := fun b hb => set_same _ _ (fun e => by rw [e, hgm] at hb; cases hb)
  by_cases hn : i = n
  · subst hn
    rw [List.getElem?_set_self hil] at ht
    rw [List.getElem?_set_self (by omega)] at hu
    cases ht
    cases hu
    obtain ⟨g1, g2⟩ := h3 i s _ hs hv
    rw [hcell] at g1 g2
    have g3 := g1.took j (by rw [pl2_length, plc_length]; exact hj)
    have how : (Value.slice pa j pc).ownBlock = (Value.slice pa pn pc).ownBlock := by cases pa <;> rfl
    refine ⟨R2.same (w := w) ?_ fun b hb => hne b (by rw [g2 b (how ▸ hb)]), fun b hb => g2 b (how ▸ hb)⟩
    have : (pl2 (plc 0 s.recs)).take j = pl2 (plc 0 (segTo s j).recs) := by
      show _ = pl2 (plc 0 (s.recs.take j))
      rw [← plc_take]
      simp [pl2, List.map_take]
    rw [← this]
    exact g3
  · rw [List.getElem?_set_ne hn] at ht hu
    obtain ⟨g1, g2⟩ := h3 n t u ht hu
    exact ⟨g1.same fun b hb => hne b (by rw [g2 b hb]), g2⟩

/-- leave, of any first segments. -/
theorem leave_to {U : Nat → Prop} {w : World} {v d : Value} {sg : List Seg} {fs : Files} (k : Nat) (hT : Tb w) (hL : Lg U w v d sg fs) (hU2 : ∀ b, U b → 2 ≤ b) (hk0 : 0 < k) (hkl : k ≤ sg.length) (hlen : sg.length ≤ 1000) (hbd : ∀ s ∈ sg, s.num < 100000000 ∧ s.recs.length ≤ 100000) :
    Calls Tryz.prog 32 #[v, .int .i64 (k : Int)] w fun e w' => e = .returned (.tuple #[]) ∧ LgN U w v d (sg.take k) (leaveF (sg.take k) (rmN ((sg.drop k).map Seg.num).reverse fs)) w' := by
  rcases Nat.lt_or_ge k sg.length with h | h
  · exact leave_from k hT hL hU2 hk0 h hlen hbd
  · obtain rfl : k = sg.length := by omega
    obtain ⟨S, σ, q, sv, rfl, hD, hW, hS, hU⟩ := hL.ex
    refine (leave_all hT hD hW hS hlen hbd).mono ?_
    rintro e w' ⟨rfl, S', hD', hst, hk⟩
    refine ⟨rfl, ?_⟩
    rw [List.take_length, List.drop_length]
    exact Lg.disk hW hS hU hD' hst hk

/-- What CutFrom tells and leaves. -/
def CutT (U : Nat → Prop) (w : World) (v d : Value) (sg : List Seg) (fs : Files) (idx : Nat) (e : Ending) (w' : World) : Prop :=
  e = .returned (.int .i64 0) ∧ ∃ i s, sg[i]? = some s ∧ hasIx s idx ∧ LgN U w v d (cutSg sg i s (idx - firstIx s.recs)) (cutFs sg i s (idx - firstIx s.recs) fs) w'

set_option maxHeartbeats 4000000 in
theorem cutfrom_w {U : Nat → Prop} {w : World} {v d : Value} {sg : List Seg} {fs : Files} (idx : Nat) (hT : Tb w) (hL : Lg U w v d sg fs) (hU2 : ∀ b, U b → 2 ≤ b) (hw : Whole sg fs) (hidx : idx < 18446744073709551616) (hin : ∃ s ∈ sg, hasIx s idx) :
    Calls Tryz.prog 10 #[v, .int .u64 (idx : Int)] w (CutT U w v d sg fs idx) := by
  have hlen := hw.len
  obtain ⟨S, σ, q, sv, rfl, hD, hW, hS, hU⟩ := hL.ex
  have ka := wawake_of hT hD hW hw.cons
  have kf : ∀ W, Below w.heap.size w W → Calls Tryz.prog 31 #[.pointer (some ⟨q, 0, none⟩), .int .u64 (idx : Int)] W (FoundT W sg idx) := fun W hb => find_w idx (hW.below hb) hw.len (fun s hs => by
    obtain ⟨h1, h2, h3, h4, h5, -⟩ := hw.at_ s hs
    refine ⟨by omega, h4, fun ha hb => ?_⟩
    by_cases he : s.recs = []
    · rw [he] at ha
      have : idx ≤ 0 := ha
      omega
    · obtain ⟨r, hr, -⟩ := has_rec h4 h5 ⟨he, hb, ha⟩
      have := (List.getElem?_eq_some_iff.1 hr).1
      omega) hidx
  obtain ⟨hq1, hat⟩ := row_k hW
  obtain ⟨sa, sc, hsv, -⟩ := hW.segs.shape
  rw [hsv] at hq1
  have E : ∀ i s w', sg[i]? = some s → hasIx s idx → LgN U w (.pointer (some ⟨q, 0, none⟩)) d (cutSg sg i s (idx - firstIx s.recs)) (cutFs sg i s (idx - firstIx s.recs) fs) w' → Hid (CutT U w (.pointer (some ⟨q, 0, none⟩)) d sg fs idx (.returned (.int .i64 0)) w') := fun i s w' h1 h2 h3 => ⟨rfl, i, s, h1, h2, h3⟩
  obtain ⟨dq, rfl⟩ := hD.shape
  generalize CutT U w (.pointer (some ⟨q, 0, none⟩)) (.pointer (some ⟨dq, 0, none⟩)) sg fs idx = T at *
  go_enter Tryz.func10, Tryz.ntmps10
  go_wp2_with fail
  refine ka.mono ?_
  rintro e w1 ⟨rfl, b1⟩
  have kf1 := kf w1 b1
  clear ka kf
  go_wp2_with fail
  refine kf1.mono ?_
  rintro e w2 ⟨b2', hfnd⟩
  have b2 := b1.trans (b2'.mono b1.size)
  clear kf1
  rcases hfnd with ⟨i, s, hs, hhas, rfl⟩ | ⟨hno, rfl⟩
  · have hsm := List.mem_of_getElem? hs
    obtain ⟨p1, p2, p3, p4, p5, -⟩ := hw.at_ s hsm
    obtain ⟨r, hr, hri⟩ := has_rec p4 p5 hhas
    have hj := (List.getElem?_eq_some_iff.1 hr).1
    obtain ⟨g, cap, pa, pc, e1, h1, h2, h3, h4⟩ := hat i s hs
    rw [hsv] at e1
    cases e1
    have hlti : (i : Int) < (sg.length : Int) := by have := (List.getElem?_eq_some_iff.1 hs).1; omega
    have hil : i < sg.length := by omega
    have hE := fun w' => E i s w' hs hhas
    generalize idx - firstIx s.recs = j at *
    clear hat hq1 E
    subst hsv
    have hrne : s.recs ≠ [] := by intro e; rw [e] at hj; simp at hj
    obtain ⟨pg, rfl, hpl, hpm⟩ : ∃ pg, pa = some ⟨pg, 0, none⟩ ∧ s.recs.length ≤ pc ∧ pc ≤ maxLen := by
      obtain ⟨g', cap', e, -, -, -, -, -, h9⟩ := hW.segs.cells (by intro e; rw [e] at hil; simp at hil)
      cases e
      obtain ⟨v, -, c2, c3, -⟩ := h9 i s hs
      have := (h3 w (Below.refl _ _)).2
      rw [c2] at this
      cases this
      obtain ⟨g1, cap1, e1, h5, h6, -⟩ := c3.cells (by intro e; have := congrArg List.length e; rw [pl2_length, plc_length] at this; simp at this; exact hrne this)
      injection e1 with e2 e3 e4
      rw [pl2_length, plc_length, ← e4] at h5
      rw [← e4] at h6
      exact ⟨g1, e2, h5, h6⟩
    have hgm : σ g = (2, 0) := hW.segs.row g rfl
    have hW2 := hW.below b2
    have hq2 := hW2.block
    have hdr : Below w.heap.size w w2.drew := b2.drew
    have y0 : ∀ W, Below w.heap.size w W → W.cell? ⟨q, 1, none⟩ = some (.slice (some ⟨g, 0, none⟩) sg.length sc) ∧ W.cell? ⟨g, i * 2 + 1, none⟩ = some (.slice (some ⟨pg, 0, none⟩) s.recs.length pc) := fun W hb => ⟨by rw [cells_of_block (hW.below hb).block]; rfl, (h3 W hb).2⟩
    have hWd := hW.below hdr
    have hseg := hWd.segs.cutAt hs j (by omega) (y0 _ hdr).2
    have hfz : w2.drew.frozen? ⟨g, i * 2 + 1, none⟩ = false := by
      obtain ⟨g', cap', e, -, -, -, -, hf, -⟩ := hWd.segs.cells (by intro e; rw [e] at hil; simp at hil)
      cases e
      exact hf _
    have hst : ∀ b, b ≠ g → (w2.drew.setCell ⟨g, i * 2 + 1, none⟩ (.slice (some ⟨pg, 0, none⟩) j pc)).heap[b]? = w2.drew.heap[b]? := fun b hb => set_same _ _ hb
    have hssz : (w2.drew.setCell ⟨g, i * 2 + 1, none⟩ (.slice (some ⟨pg, 0, none⟩) j pc)).heap.size = w2.drew.heap.size := by simp [World.setCell]
    have hqg : q ≠ g := fun e => by have := hW.mark; rw [e, hgm] at this; cases this
    have hW3 : WalAt σ (w2.drew.setCell ⟨g, i * 2 + 1, none⟩ (.slice (some ⟨pg, 0, none⟩) j pc)) q (.pointer (some ⟨dq, 0, none⟩)) (.slice (some ⟨g, 0, none⟩) sg.length sc) (sg.set i (segTo s j)) := ⟨(hst q hqg).trans hWd.block, hseg, hW.mark⟩
    have hD3 : Dk S (w2.drew.setCell ⟨g, i * 2 + 1, none⟩ (.slice (some ⟨pg, 0, none⟩) j pc)) (.pointer (some ⟨dq, 0, none⟩)) fs := diskOf.kept (diskOf.below hD hdr) (by rw [hssz]; exact Nat.le_refl _) fun b hb => hst b (fun e => by have := hS b hb; rw [e, hgm] at this; cases this)
    have hL3 : Lg U (w2.drew.setCell ⟨g, i * 2 + 1, none⟩ (.slice (some ⟨pg, 0, none⟩) j pc)) (.pointer (some ⟨q, 0, none⟩)) (.pointer (some ⟨dq, 0, none⟩)) (sg.set i (segTo s j)) fs := ⟨S, σ, q, _, rfl, hD3, hW3, hS, hU⟩
    have hK3 : Kept U w (w2.drew.setCell ⟨g, i * 2 + 1, none⟩ (.slice (some ⟨pg, 0, none⟩) j pc)) := ⟨hdr.os, hdr.tape, hdr.output, by rw [hssz]; exact hdr.size, fun b hb hns => (hst b (fun e => hns ((hU b).2 (.inr (by rw [e, hgm]; simp))))).trans (hdr.block b hb)⟩
    have hT3 : Tb (w2.drew.setCell ⟨g, i * 2 + 1, none⟩ (.slice (some ⟨pg, 0, none⟩) j pc)) := hT.below (n := 2) ⟨hK3.os, hK3.tape, hK3.output, hK3.size, fun b hb' => hK3.block b (by have := hT.two; omega) (fun h => by have := hU2 b h; omega)⟩ (Nat.le_refl _)
    have kl := leave_to (i + 1) hT3 hL3 hU2 (by omega) (by rw [List.length_set]; omega) (by rw [List.length_set]; omega) (fun t ht => by
      rcases List.mem_or_eq_of_mem_set ht with h | h
      · obtain ⟨h1, h2, -⟩ := hw.at_ t h
        exact ⟨h1, by omega⟩
      · rw [h]
        refine ⟨p1, ?_⟩
        show (s.recs.take j).length ≤ _
        rw [List.length_take]
        omega)
    rw [set_take hs, List.drop_set_of_lt (by omega)] at kl
    have hfin : ∀ w', LgN U (w2.drew.setCell ⟨g, i * 2 + 1, none⟩ (.slice (some ⟨pg, 0, none⟩) j pc)) (.pointer (some ⟨q, 0, none⟩)) (.pointer (some ⟨dq, 0, none⟩)) (sg.take i ++ [segTo s j]) (leaveF (sg.take i ++ [segTo s j]) (rmN ((sg.drop (i + 1)).map Seg.num).reverse fs)) w' → Hid (T (.returned (.int .i64 0)) w') := fun w' h => hE w' (LgN.trans (fun _ h => .inl h) hK3 h)
    have kl2 : Calls Tryz.prog 32 #[.pointer (some ⟨q, 0, none⟩), .int .i64 ((i : Int) + 1)] (w2.drew.setCell ⟨g, i * 2 + 1, none⟩ (.slice (some ⟨pg, 0, none⟩) j pc)) fun e w' => e = .returned (.tuple #[]) ∧ Hid (T (.returned (.int .i64 0)) w') := by
      rw [show (i : Int) + 1 = ((i + 1 : Nat) : Int) by omega]
      exact kl.mono fun e w' h => ⟨h.1, hfin w' h.2⟩
    have hwr : IntKind.i64.wrap ((i : Int) + 1) = (i : Int) + 1 := IntWalk.i64_in _ (by omega)
    have hji : (j : Int) ≤ (pc : Int) := by omega
    have hj0 : ¬ (j : Int) < 0 := by omega
    have hpci : (pc : Int) ≤ 9223372036854775807 := by unfold maxLen at hpm; omega
    have hyS := y0 _ hdr
    generalize hRL : s.recs.length = RL at *
    have hRp : (RL : Int) ≤ (pc : Int) := by omega
    clear y0 hfin kl hT3 hK3 hL3 hD3 hW3 hst hssz hseg hWd hW2 hq2 hW hL hD hw h3 h4 hE hr hs hhas hsm hrne hin
    go_wp2
    refine wp_region_L (fun w' => w'.cell? ⟨q, 1, none⟩ = some (.slice (some ⟨g, 0, none⟩) sg.length sc) ∧ w'.cell? ⟨g, i * 2 + 1, none⟩ = some (.slice (some ⟨pg, 0, none⟩) RL pc)) [17] (by kernel_rfl) ?_
    have yS : (fun w' : World => w'.cell? ⟨q, 1, none⟩ = some (.slice (some ⟨g, 0, none⟩) sg.length sc) ∧ w'.cell? ⟨g, i * 2 + 1, none⟩ = some (.slice (some ⟨pg, 0, none⟩) RL pc)) w2.drew := hyS
    refine wpAnyL_take 0 rfl (by kernel_rfl) (by kernel_rfl) (by kernel_rfl) (by kernel_rfl) (fun _ _ _ h => h) (by rfl) (by intro w' hS'; obtain ⟨x1, x2⟩ := hS'; go_simp <;> rfl) yS ?_
    try simp only [Act.put, List.setIfInBounds_toArray, List.set_cons_zero, List.set_cons_succ]
    refine wpAnyL_take 1 rfl (by kernel_rfl) (by kernel_rfl) (by kernel_rfl) (by kernel_rfl) (fun _ _ _ h => h) (by rfl) (by intro w' hS'; obtain ⟨x1, x2⟩ := hS'; go_simp <;> rfl) yS ?_
    try simp only [Act.put, List.setIfInBounds_toArray, List.set_cons_zero, List.set_cons_succ]
    refine wpAnyL_take 2 rfl (by kernel_rfl) (by kernel_rfl) (by kernel_rfl) (by kernel_rfl) (fun _ _ _ h => h) (by rfl) (by intro w' hS'; obtain ⟨x1, x2⟩ := hS'; go_simp <;> rfl) yS ?_
    try simp only [Act.put, List.setIfInBounds_toArray, List.set_cons_zero, List.set_cons_succ]
    refine wpAnyL_take 3 rfl (by kernel_rfl) (by kernel_rfl) (by kernel_rfl) (by kernel_rfl) (fun _ _ _ h => h) (by rfl) (by intro w' hS'; obtain ⟨x1, x2⟩ := hS'; go_simp <;> rfl) yS ?_
    try simp only [Act.put, List.setIfInBounds_toArray, List.set_cons_zero, List.set_cons_succ]
    refine wpAnyL_take 4 rfl (by kernel_rfl) (by kernel_rfl) (by kernel_rfl) (by kernel_rfl) (fun _ _ _ h => h) (by rfl) (by intro w' hS'; obtain ⟨x1, x2⟩ := hS'; go_simp <;> rfl) yS ?_
    try simp only [Act.put, List.setIfInBounds_toArray, List.set_cons_zero, List.set_cons_succ]
    refine wpAnyL_take 5 rfl (by kernel_rfl) (by kernel_rfl) (by kernel_rfl) (by kernel_rfl) (fun _ _ _ h => h) (by rfl) (by intro w' hS'; obtain ⟨x1, x2⟩ := hS'; go_simp <;> rfl) yS ?_
    try simp only [Act.put, List.setIfInBounds_toArray, List.set_cons_zero, List.set_cons_succ]
    refine wpAnyL_take 6 rfl (by kernel_rfl) (by kernel_rfl) (by kernel_rfl) (by kernel_rfl) (fun _ _ _ h => h) (by rfl) (by intro w' hS'; obtain ⟨x1, x2⟩ := hS'; go_simp <;> rfl) yS ?_
    try simp only [Act.put, List.setIfInBounds_toArray, List.set_cons_zero, List.set_cons_succ]
    refine wpAnyL_take 7 rfl (by kernel_rfl) (by kernel_rfl) (by kernel_rfl) (by kernel_rfl) (fun _ _ _ h => h) (by rfl) (by intro w' hS'; obtain ⟨x1, x2⟩ := hS'; go_simp <;> rfl) yS ?_
    try simp only [Act.put, List.setIfInBounds_toArray, List.set_cons_zero, List.set_cons_succ]
    refine wpAnyL_take 8 rfl (by kernel_rfl) (by kernel_rfl) (by kernel_rfl) (by kernel_rfl) (fun _ _ _ h => h) (by rfl) (by intro w' hS'; obtain ⟨x1, x2⟩ := hS'; go_simp <;> rfl) yS ?_
    try simp only [Act.put, List.setIfInBounds_toArray, List.set_cons_zero, List.set_cons_succ]
    refine wpAnyL_take 9 rfl (by kernel_rfl) (by kernel_rfl) (by kernel_rfl) (by kernel_rfl) (fun _ _ _ h => h) (by rfl) (by intro w' hS'; obtain ⟨x1, x2⟩ := hS'; go_simp <;> rfl) yS ?_
    try simp only [Act.put, List.setIfInBounds_toArray, List.set_cons_zero, List.set_cons_succ]
    refine wpAnyL_take 10 rfl (by kernel_rfl) (by kernel_rfl) (by kernel_rfl) (by kernel_rfl) (fun _ _ _ h => h) (by rfl) (by intro w' hS'; obtain ⟨x1, x2⟩ := hS'; go_simp <;> rfl) yS ?_
    try simp only [Act.put, List.setIfInBounds_toArray, List.set_cons_zero, List.set_cons_succ]
    refine wpAnyL_take 11 rfl (by kernel_rfl) (by kernel_rfl) (by kernel_rfl) (by kernel_rfl) (fun _ _ _ h => h) (by rfl) (by intro w' hS'; obtain ⟨x1, x2⟩ := hS'; go_simp <;> rfl) yS ?_
    try simp only [Act.put, List.setIfInBounds_toArray, List.set_cons_zero, List.set_cons_succ]
    refine wpAnyL_take 12 rfl (by kernel_rfl) (by kernel_rfl) (by kernel_rfl) (by kernel_rfl) (fun _ _ _ h => h) (by rfl) (by intro w' hS'; obtain ⟨x1, x2⟩ := hS'; go_simp <;> rfl) yS ?_
    try simp only [Act.put, List.setIfInBounds_toArray, List.set_cons_zero, List.set_cons_succ]
    refine wpAnyL_take 13 rfl (by kernel_rfl) (by kernel_rfl) (by kernel_rfl) (by kernel_rfl) (fun _ _ _ h => h) (by rfl) (by intro w' hS'; obtain ⟨x1, x2⟩ := hS'; go_simp <;> rfl) yS ?_
    try simp only [Act.put, List.setIfInBounds_toArray, List.set_cons_zero, List.set_cons_succ]
    refine wpAnyL_take 14 rfl (by kernel_rfl) (by kernel_rfl) (by kernel_rfl) (by kernel_rfl) (fun _ _ _ h => h) (by rfl) (by intro w' hS'; obtain ⟨x1, x2⟩ := hS'; go_simp <;> rfl) yS ?_
    try simp only [Act.put, List.setIfInBounds_toArray, List.set_cons_zero, List.set_cons_succ]
    refine wpAnyL_one 15 (by kernel_rfl) rfl (by rfl) ?_
    intro K' hK'
    go_simp
    refine hK'.out _ _ (.inr yS) ?_
    clear hK' K'
    try simp only [Act.put, List.setIfInBounds_toArray, List.set_cons_zero, List.set_cons_succ]
    refine wpAnyL_one 16 (by kernel_rfl) rfl (by rfl) ?_
    intro K' hK'
    go_simp
    refine hK'.out _ _ (.inr yS) ?_
    clear hK' K'
    try simp only [Act.put, List.setIfInBounds_toArray, List.set_cons_zero, List.set_cons_succ]
    refine wpAnyL_one 17 (by kernel_rfl) rfl (by rfl) ?_
    intro K' hK'
    have z4 := hyS.2
    go_simp
    refine hK'.out _ _ (.inl (by simp)) ?_
    clear hK' K' z4 yS hyS
    refine wpAnyL_done (by kernel_rfl) (NoPanic.normal ?_) _
    go_wp2_with fail
    refine kl2.mono ?_
    rintro e w9 ⟨rfl, hT9⟩
    clear kl2
    go_wp2 <;> first | exact hT9.out | (go_ret; exact hT9.out)
  · obtain ⟨s, h1, h2⟩ := hin
    exact absurd h2 (hno s h1)
end Go.Proofs.YtgfoogeiancecaaGreatDoor

/- Plain mathematics of WalSafe: the files of a log that was begun on an empty disk, and what each act leaves of them. -/
namespace Go.Proofs.YtgfoogeiancecaaGreatDoor
open Go.RowKit WalMath DiskMath
set_option linter.unusedSimpArgs false
set_option linter.unusedVariables false

/-- A segment's file, k of its bytes safe. -/
def fl (s : Seg) (k : Nat) : File := ⟨segName s.num, joinR s.recs, k⟩
/-- The files of segments: all but the last are safe, of the last k bytes are. -/
def FF (pre : List Seg) (s : Seg) (k : Nat) : Files := pre.map (fun t => fl t (sz t.recs)) ++ [fl s k]

theorem FF_len (pre : List Seg) (s : Seg) (k : Nat) : (FF pre s k).length = pre.length + 1 := by simp [FF]
theorem FF_names (pre : List Seg) (s : Seg) (k : Nat) : (FF pre s k).map (·.name) = ((pre ++ [s]).map Seg.num).map segName := by simp [FF, fl, Function.comp_def]
theorem FF_last (pre : List Seg) (s : Seg) (k : Nat) : (FF pre s k)[pre.length]? = some (fl s k) := by simp [FF]

theorem rises_lt {α : Type} {O : DiskMath.Ord α} : ∀ {l : List (Fl α)}, (∀ (i j : Nat) (f g : Fl α), l[i]? = some f → l[j]? = some g → i < j → O.lt f.name g.name) → Rises O l
  | [], _ => trivial
  | f :: l, h => ⟨fun g hg => by
      obtain ⟨j, hj⟩ := List.getElem?_of_mem hg
      exact h 0 (j + 1) f g rfl (by simpa using hj) (by omega), rises_lt fun i j a b ha hb hij => h (i + 1) (j + 1) a b (by simpa using ha) (by simpa using hb) (by omega)⟩
theorem rises_left {α : Type} {O : DiskMath.Ord α} : ∀ {l k : List (Fl α)}, Rises O (l ++ k) → Rises O l
  | [], _, _ => trivial
  | f :: l, k, h => ⟨fun g hg => h.1 g (List.mem_append_left _ hg), rises_left (l := l) (k := k) h.2⟩
theorem rises_end {α : Type} {O : DiskMath.Ord α} : ∀ {l : List (Fl α)} {f : Fl α}, Rises O (l ++ [f]) → ∀ g ∈ l, O.lt g.name f.name
  | [], _, _, _, hg => by cases hg
  | x :: l, f, h, g, hg => by
    rcases List.mem_cons.1 hg with rfl | hg
    · exact h.1 f (by simp)
    · exact rises_end (l := l) h.2 g hg
theorem get_snoc {O : DiskMath.Ord ByteArray} {l : Files} {f : File} (h : Rises O (l ++ [f])) (n : ByteArray) : get (l ++ [f]) n = if f.name = n then some f else get l n := by
  by_cases hn : f.name = n
  · rw [if_pos hn, ← hn]
    exact h.get_of_mem (by simp)
  · rw [if_neg hn]
    unfold DiskMath.get
    rw [List.find?_append]
    simp [hn]
theorem put_snoc {l : Files} {f : File} (h : Rises strOrd (l ++ [f])) : putF l f = l ++ [f] := by
  refine rises_ext (put_rises (rises_left h)) h fun n => ?_
  unfold putF
  rw [put_get n (rises_left h), get_snoc h]
theorem out_snoc {l : Files} {f : File} (h : Rises strOrd (l ++ [f])) : out (l ++ [f]) f.name = l := by
  unfold out
  rw [List.filter_append]
  have h1 : l.filter (fun g => decide (g.name ≠ f.name)) = l := by
    rw [List.filter_eq_self]
    intro g hg
    have := rises_end h g hg
    simp only [decide_eq_true_eq]
    intro e
    rw [e] at this
    exact strOrd.irr _ this
  rw [h1]
  simp

/-- The numbers are one, two and so on. -/
def Nums (sg : List Seg) : Prop := sg.length ≤ 1000 ∧ ∀ (i : Nat) (t : Seg), sg[i]? = some t → t.num = i + 1
theorem FF_rises {pre : List Seg} {s : Seg} {k : Nat} (h : Nums (pre ++ [s])) : Rises strOrd (FF pre s k) := by
  have hn : ∀ (i : Nat) (f : File), (FF pre s k)[i]? = some f → f.name = segName (i + 1) ∧ i ≤ 1000 := fun i f hf => by
    have hl := (List.getElem?_eq_some_iff.1 hf).1
    rw [FF_len] at hl
    have h1 := h.1
    rw [List.length_append, List.length_singleton] at h1
    have hs := List.getElem?_eq_getElem (show i < (pre ++ [s]).length by simp; omega)
    have e := congrArg (fun l => l[i]?) (FF_names pre s k)
    simp only [List.getElem?_map, hf, hs, Option.map_some] at e
    rw [h.2 i _ hs] at e
    exact ⟨Option.some.inj e, by omega⟩
  refine rises_lt fun i j f g hf hg hij => ?_
  rw [(hn i f hf).1, (hn j g hg).1]
  have := (hn j g hg).2
  exact segName_lt (by omega) (by omega)
theorem FF_get {pre : List Seg} {s : Seg} {k : Nat} (h : Nums (pre ++ [s])) : get (FF pre s k) (segName s.num) = some (fl s k) := (FF_rises h).get_of_mem (f := fl s k) (by simp [FF])
theorem FF_put {pre : List Seg} {s t : Seg} {k m : Nat} (h : Nums (pre ++ [s])) (hn : t.num = s.num) : putF (FF pre s k) (fl t m) = FF pre t m := by
  rw [put_place (fs := FF pre s k) (i := pre.length) (f := fl s k) (g := fl t m) (FF_rises h) (FF_last pre s k) (by show segName t.num = segName s.num; rw [hn])]
  unfold FF
  rw [List.take_append_of_le_length (by simp), List.take_of_length_le (by simp), List.drop_of_length_le (by simp)]

theorem FF_sync {pre : List Seg} {s : Seg} {k : Nat} (h : Nums (pre ++ [s])) : (dSync (FF pre s k) (segName s.num)).1 = FF pre s (sz s.recs) := by
  unfold dSync
  rw [FF_get h]
  exact FF_put (t := s) h rfl
theorem FF_append {pre : List Seg} {s : Seg} {k : Nat} (h : Nums (pre ++ [s])) (r : Rec) (hs : sz s.recs + (recB r).length ≤ 65536) : dAppend (FF pre s k) (segName s.num) (recB r) = (FF pre ⟨s.num, s.recs ++ [r]⟩ k, 0) := by
  unfold dAppend
  rw [if_neg (by rw [segName_may]; simp), FF_get h]
  dsimp only
  rw [if_neg (by show ¬ (65536 < (joinR s.recs).length + _); unfold sz at hs; omega)]
  have := FF_put (t := ⟨s.num, s.recs ++ [r]⟩) (m := k) (k := k) h rfl
  rw [← this]
  unfold fl
  rw [joinR_append, joinR_single]
theorem FF_new {pre : List Seg} {s : Seg} (r : Rec) (h : Nums (pre ++ [s] ++ [⟨s.num + 1, [r]⟩])) (hl : pre.length < 60) (hs : (recB r).length ≤ 65536) : dAppend (FF pre s (sz s.recs)) (segName (s.num + 1)) (recB r) = (FF (pre ++ [s]) ⟨s.num + 1, [r]⟩ 0, 0) := by
  have hr := FF_rises (k := 0) h
  have e : FF (pre ++ [s]) ⟨s.num + 1, [r]⟩ 0 = FF pre s (sz s.recs) ++ [⟨segName (s.num + 1), recB r, 0⟩] := by
    simp [FF, fl, joinR_single]
  rw [e] at hr ⊢
  have hg : get (FF pre s (sz s.recs)) (segName (s.num + 1)) = none := by
    rw [get_none]
    intro f hf e
    have := rises_end hr f hf
    rw [e] at this
    exact strOrd.irr _ this
  unfold dAppend
  rw [if_neg (by rw [segName_may]; simp), hg]
  dsimp only
  rw [if_neg (by rw [FF_len]; omega), put_snoc hr]
theorem FF_first (r : Rec) (hs : (recB r).length ≤ 65536) : dAppend [] (segName 1) (recB r) = (FF [] ⟨1, [r]⟩ 0, 0) := by
  unfold dAppend
  rw [if_neg (by rw [segName_may]; simp), get_nil]
  dsimp only
  rw [if_neg (by simp; omega)]
  simp [putF, put, putFrom, FF, fl, joinR_single]

theorem joinR_to (rs : List Rec) (j : Nat) : (joinR rs).take (sz (rs.take j)) = joinR (rs.take j) := by
  conv => lhs; rw [← List.take_append_drop j rs, joinR_append]
  have : sz (List.take j (List.take j rs ++ List.drop j rs)) = (joinR (rs.take j)).length := by rw [List.take_append_drop]; rfl
  rw [this, List.take_left']
  rfl
theorem FF_cut {pre : List Seg} {s : Seg} {k : Nat} (h : Nums (pre ++ [s])) (j : Nat) : (dCut (FF pre s k) (segName s.num) (sz (s.recs.take j) : Int)).1 = FF pre (segTo s j) (min k (sz (s.recs.take j))) := by
  have hle := sz_take_le s.recs j
  unfold dCut
  rw [FF_get h]
  dsimp only
  rw [if_neg (by show ¬ (_ ∨ ((joinR s.recs).length : Int) < _); unfold sz at *; omega)]
  have := FF_put (t := segTo s j) (m := min k (sz (s.recs.take j))) (k := k) h rfl
  rw [← this]
  unfold fl segTo
  rw [Int.toNat_natCast, joinR_to]

theorem rm_end : ∀ (n : Nat) (ns : List Nat) (A B : Files), ns.length = n → Rises strOrd (A ++ B) → B.map (·.name) = ns.map segName → rmN ns.reverse (A ++ B) = A
  | 0, ns, A, B, hn, hr, he => by
    obtain rfl := List.eq_nil_of_length_eq_zero hn
    have hB : B = [] := by simpa using he
    subst hB
    simp [rmN]
  | n + 1, ns, A, B, hn, hr, he => by
    obtain ⟨ns', m, rfl⟩ : ∃ ns' m, ns = ns' ++ [m] := by
      rcases List.eq_nil_or_concat ns with h | ⟨a, b, h⟩
      · rw [h] at hn; cases hn
      · exact ⟨a, b, by simpa using h⟩
    obtain ⟨B', f, rfl⟩ : ∃ B' f, B = B' ++ [f] := by
      rcases List.eq_nil_or_concat B with h | ⟨a, b, h⟩
      · rw [h] at he; simp at he
      · exact ⟨a, b, by simpa using h⟩
    rw [List.map_append, List.map_append] at he
    obtain ⟨e1, e2⟩ := List.append_inj' he rfl
    have e3 : f.name = segName m := by simpa using e2
    have hr' : Rises strOrd ((A ++ B') ++ [f]) := by rw [List.append_assoc]; exact hr
    rw [List.reverse_append, List.reverse_singleton, List.singleton_append]
    have hg : get (A ++ (B' ++ [f])) (segName m) = some f := by
      rw [← List.append_assoc, get_snoc hr', if_pos e3]
    have e4 : (dRemove (A ++ (B' ++ [f])) (segName m)).1 = A ++ B' := by
      unfold dRemove
      rw [hg]
      show out _ _ = _
      rw [← e3, ← List.append_assoc]
      exact out_snoc hr'
    show rmN ns'.reverse (dRemove (A ++ (B' ++ [f])) (segName m)).1 = A
    rw [e4]
    exact rm_end n ns' A B' (by simpa using hn) (rises_left hr') e1

/-- How many bytes are safe of the i-th segment's file. -/
def safeAt (pre : List Seg) (i : Nat) (t : Seg) (k : Nat) : Nat := if i = pre.length then k else sz t.recs
theorem FF_take {pre : List Seg} {s t : Seg} {k i : Nat} (hi : (pre ++ [s])[i]? = some t) : (FF pre s k).take (i + 1) = FF (pre.take i) t (safeAt pre i t k) := by
  have hl := (List.getElem?_eq_some_iff.1 hi).1
  rw [List.length_append, List.length_singleton] at hl
  unfold FF safeAt
  by_cases he : i = pre.length
  · subst he
    have : s = t := by simpa using hi
    subst this
    rw [List.take_of_length_le (by simp)]
    simp
  · rw [List.getElem?_append_left (by omega)] at hi
    rw [if_neg he, List.take_append_of_le_length (by simp; omega), ← List.map_take, List.take_succ_eq_append_getElem (by omega), List.map_append]
    rw [List.getElem?_eq_getElem (by omega)] at hi
    rw [Option.some.inj hi]
    simp
theorem nums_take {pre : List Seg} {s t : Seg} {i : Nat} (h : Nums (pre ++ [s])) (hi : (pre ++ [s])[i]? = some t) : Nums (pre.take i ++ [t]) ∧ (pre ++ [s]).take i = pre.take i := by
  have hl := (List.getElem?_eq_some_iff.1 hi).1
  have h1 := h.1
  rw [List.length_append, List.length_singleton] at hl h1
  have e : (pre ++ [s]).take i = pre.take i := by rw [List.take_append_of_le_length (by omega)]
  have e2 : pre.take i ++ [t] = (pre ++ [s]).take (i + 1) := by
    rw [List.take_succ_eq_append_getElem (by simp; omega), e]
    rw [List.getElem?_eq_getElem (by simp; omega)] at hi
    rw [Option.some.inj hi]
  refine ⟨⟨by simp; omega, fun n u hu => ?_⟩, e⟩
  rw [e2] at hu
  have hn : n < i + 1 := by
    have := (List.getElem?_eq_some_iff.1 hu).1
    rw [List.length_take] at this
    omega
  rw [List.getElem?_take_of_lt hn] at hu
  exact h.2 n u hu

/-- What CutFrom leaves of the files. -/
theorem FF_cutFs {pre : List Seg} {s t : Seg} {k i : Nat} (h : Nums (pre ++ [s])) (hi : (pre ++ [s])[i]? = some t) (j : Nat) : cutFs (pre ++ [s]) i t j (FF pre s k) = FF (pre.take i) (segTo t j) (min (safeAt pre i t k) (sz (t.recs.take j))) := by
  obtain ⟨hn, he⟩ := nums_take h hi
  have hrm : rmN (((pre ++ [s]).drop (i + 1)).map Seg.num).reverse (FF pre s k) = FF (pre.take i) t (safeAt pre i t k) := by
    have hr := FF_rises (k := k) h
    have e := FF_take (k := k) hi
    rw [← List.take_append_drop (i + 1) (FF pre s k)] at hr ⊢
    rw [rm_end _ _ _ _ rfl hr, e]
    rw [List.map_drop, FF_names, List.map_drop, List.map_drop]
  unfold cutFs leaveF cutSg
  rw [hrm, List.getLast?_concat]
  exact FF_cut hn j
end Go.Proofs.YtgfoogeiancecaaGreatDoor

/- Plain mathematics of WalSafe: the state of a log that was begun on an empty disk, through appends, syncs, cuts and crashes. -/
namespace Go.Proofs.YtgfoogeiancecaaGreatDoor
open Go.RowKit WalMath DiskMath
set_option linter.unusedSimpArgs false
set_option linter.unusedVariables false

theorem recsOf_snoc (pre : List Seg) (s : Seg) : recsOf (pre ++ [s]) = recsOf pre ++ s.recs := by simp [recsOf]
theorem recsOf_append (a b : List Seg) : recsOf (a ++ b) = recsOf a ++ recsOf b := by simp [recsOf]
theorem recsOf_nil : recsOf [] = [] := rfl
theorem recsOf_at {sg : List Seg} {i : Nat} {t : Seg} (h : sg[i]? = some t) : recsOf sg = recsOf (sg.take i) ++ (t.recs ++ recsOf (sg.drop (i + 1))) := by
  have hl := (List.getElem?_eq_some_iff.1 h).1
  rw [List.getElem?_eq_getElem hl] at h
  conv => lhs; rw [← List.take_append_drop i sg, List.drop_eq_getElem_cons hl, Option.some.inj h]
  rw [recsOf_append]
  simp [recsOf]

/-- Indexes rise by one from o on. -/
def Idx (o : Nat) (rs : List Rec) : Prop := ∀ (n : Nat) (r : Rec), rs[n]? = some r → r.index = o + n + 1
theorem Idx.tail {o : Nat} {r : Rec} {rs : List Rec} (h : Idx o (r :: rs)) : Idx (o + 1) rs := fun n q hq => by
  have := h (n + 1) q (by simpa using hq)
  omega
theorem Idx.chn : ∀ {rs : List Rec} {o : Nat}, Idx o rs → chn o rs
  | [], _, _ => trivial
  | r :: rs, o, h => by
    have h0 := h 0 r rfl
    refine ⟨.inr (by omega), ?_⟩
    rw [show r.index = o + 1 by omega]
    exact h.tail.chn
theorem Idx.chn0 : ∀ {rs : List Rec} {o : Nat}, Idx o rs → WalMath.chn 0 rs
  | [], _, _ => trivial
  | r :: rs, o, h => by
    have h0 := h 0 r rfl
    refine ⟨.inl rfl, ?_⟩
    rw [show r.index = o + 1 by omega]
    exact h.tail.chn
theorem Idx.last : ∀ {rs : List Rec} {o : Nat}, Idx o rs → lastIx o rs = o + rs.length
  | [], _, _ => rfl
  | r :: rs, o, h => by
    have h0 := h 0 r rfl
    show lastIx r.index rs = _
    rw [show r.index = o + 1 by omega, h.tail.last, List.length_cons]
    omega
theorem Idx.last0 {rs : List Rec} {o : Nat} (h : Idx o rs) (hne : rs ≠ []) : lastIx 0 rs = o + rs.length := by
  cases rs with
  | nil => exact absurd rfl hne
  | cons r rs =>
    have h0 := h 0 r rfl
    show lastIx r.index rs = _
    rw [show r.index = o + 1 by omega, h.tail.last, List.length_cons]
    omega
theorem Idx.first {rs : List Rec} {o : Nat} (h : Idx o rs) (hne : rs ≠ []) : firstIx rs = o + 1 := by
  cases rs with
  | nil => exact absurd rfl hne
  | cons r rs =>
    have h0 := h 0 r rfl
    show r.index = _
    omega
theorem Idx.mid {a b c : List Rec} {o : Nat} (h : Idx o (a ++ (b ++ c))) : Idx (o + a.length) b := fun n r hr => by
  have hl := (List.getElem?_eq_some_iff.1 hr).1
  have := h (a.length + n) r (by rw [List.getElem?_append_right (by omega), show a.length + n - a.length = n by omega, List.getElem?_append_left hl]; exact hr)
  omega
theorem Idx.at {sg : List Seg} {i : Nat} {t : Seg} {o : Nat} (h : Idx o (recsOf sg)) (ht : sg[i]? = some t) : Idx (o + (recsOf (sg.take i)).length) t.recs := by
  rw [recsOf_at ht] at h
  exact h.mid
theorem Idx.take {rs : List Rec} {o : Nat} (h : Idx o rs) (n : Nat) : Idx o (rs.take n) := fun m r hr => by
  have : m < n := by
    have := (List.getElem?_eq_some_iff.1 hr).1
    rw [List.length_take] at this
    omega
  rw [List.getElem?_take_of_lt this] at hr
  exact h m r hr
theorem Idx.snoc {rs : List Rec} {r : Rec} (h : Idx 0 rs) (hr : r.index = rs.length + 1) : Idx 0 (rs ++ [r]) := fun n q hq => by
  by_cases hn : n < rs.length
  · rw [List.getElem?_append_left hn] at hq
    exact h n q hq
  · rw [List.getElem?_append_right (by omega)] at hq
    have : n = rs.length := by
      have := (List.getElem?_eq_some_iff.1 hq).1
      simp at this
      omega
    subst this
    simp at hq
    rw [← hq]
    omega

/-- A log that was begun on an empty disk: its segments, the last one's safe bytes; all its records have at most B bytes, and are at most C. -/
structure Gd (pre : List Seg) (s : Seg) (k B C : Nat) : Prop where
  num : Nums (pre ++ [s])
  ok : okAll (recsOf (pre ++ [s]))
  idx : Idx 0 (recsOf (pre ++ [s]))
  big : ∀ t ∈ pre, 4096 < sz t.recs
  sml : ∀ t ∈ pre ++ [s], sz t.recs ≤ 9000
  safe : k ≤ sz s.recs
  bud : sz (recsOf (pre ++ [s])) ≤ B
  cnt : (recsOf (pre ++ [s])).length ≤ C

theorem big_len : ∀ {pre : List Seg}, (∀ t ∈ pre, 4096 < sz t.recs) → 4097 * pre.length ≤ sz (recsOf pre)
  | [], _ => by simp
  | t :: pre, h => by
    have := big_len (pre := pre) fun u hu => h u (List.mem_cons_of_mem _ hu)
    have h1 := h t (by simp)
    have e : recsOf (t :: pre) = t.recs ++ recsOf pre := by simp [recsOf]
    rw [e, sz_append, List.length_cons]
    omega
theorem Gd.len {pre : List Seg} {s : Seg} {k B C : Nat} (h : Gd pre s k B C) (hB : B ≤ 42500) : pre.length ≤ 10 := by
  have := big_len h.big
  have h2 := h.bud
  rw [recsOf_snoc, sz_append] at h2
  omega
theorem mem_recs {sg : List Seg} {t : Seg} (h : t ∈ sg) {r : Rec} (hr : r ∈ t.recs) : r ∈ recsOf sg := List.mem_flatMap.2 ⟨t, h, hr⟩
theorem recs_le {sg : List Seg} {t : Seg} (h : t ∈ sg) : t.recs.length ≤ (recsOf sg).length := by
  obtain ⟨i, hi⟩ := List.getElem?_of_mem h
  rw [recsOf_at hi]
  simp
  omega

theorem Gd.whole {pre : List Seg} {s : Seg} {k B C : Nat} (h : Gd pre s k B C) (hB : B ≤ 42500) (hC : C ≤ 1000) : Whole (pre ++ [s]) (FF pre s k) := by
  have hl := h.len hB
  refine ⟨by simp; omega, fun t ht => ?_⟩
  obtain ⟨i, hi⟩ := List.getElem?_of_mem ht
  have hil := (List.getElem?_eq_some_iff.1 hi).1
  rw [List.length_append, List.length_singleton] at hil
  have hn := h.num.2 i t hi
  have h1 := recs_le ht
  have h2 := h.cnt
  have h3 := h.sml t ht
  refine ⟨by omega, by omega, by omega, fun r hr => h.ok r (mem_recs ht hr), (h.idx.at hi).chn0, ?_⟩
  have hmem : ∃ m, fl t m ∈ FF pre s k := by
    rcases List.mem_append.1 ht with h | h
    · exact ⟨sz t.recs, by unfold FF; exact List.mem_append_left _ (List.mem_map.2 ⟨t, h, rfl⟩)⟩
    · rw [List.mem_singleton.1 h]
      exact ⟨k, by simp [FF]⟩
  obtain ⟨m, hm⟩ := hmem
  exact ⟨fl t m, (FF_rises h.num).get_of_mem hm, rfl⟩
theorem Gd.few {pre : List Seg} {s : Seg} {k B C : Nat} (h : Gd pre s k B C) (hB : B ≤ 42500) (hC : C ≤ 1000) : Few (pre ++ [s]) := by
  have hl := h.len hB
  refine ⟨by simp; omega, fun t ht => ?_, fun i j a b ha hb hij e => ?_, fun t ht u hu e => ?_⟩
  · obtain ⟨h1, h2, -⟩ := (h.whole hB hC).at_ t ht
    exact ⟨h1, h2, h.sml t ht⟩
  · have := h.num.2 i a ha
    have := h.num.2 j b hb
    omega
  · rw [List.getLast?_concat] at ht
    cases ht
    obtain ⟨i, hi⟩ := List.getElem?_of_mem hu
    have h1 := h.num.2 i u hi
    have h2 := h.num.2 pre.length s (by simp)
    have := (List.getElem?_eq_some_iff.1 hi).1
    rw [List.length_append, List.length_singleton] at this
    omega

/-- The same, or nothing at all; sf records are safe. -/
def Gs (sg : List Seg) (fs : Files) (sf B C : Nat) : Prop := (sg = [] ∧ fs = [] ∧ sf = 0) ∨ ∃ pre s k, sg = pre ++ [s] ∧ fs = FF pre s k ∧ Gd pre s k B C ∧ sf ≤ (recsOf pre).length + cutN s.recs k

theorem Gs.nil (B C : Nat) : Gs [] [] 0 B C := .inl ⟨rfl, rfl, rfl⟩
theorem Gs.whole {sg : List Seg} {fs : Files} {sf B C : Nat} (h : Gs sg fs sf B C) (hB : B ≤ 42500) (hC : C ≤ 1000) : Whole sg fs := by
  rcases h with ⟨rfl, rfl, -⟩ | ⟨pre, s, k, rfl, rfl, hG, -⟩
  · exact ⟨by simp, fun t ht => by cases ht⟩
  · exact hG.whole hB hC
theorem Gs.few {sg : List Seg} {fs : Files} {sf B C : Nat} (h : Gs sg fs sf B C) (hB : B ≤ 42500) (hC : C ≤ 1000) : Few sg := by
  rcases h with ⟨rfl, rfl, -⟩ | ⟨pre, s, k, rfl, rfl, hG, -⟩
  · exact ⟨by simp, (fun t ht => by cases ht), (fun i j a b ha => by simp at ha), (fun t ht => by simp at ht)⟩
  · exact hG.few hB hC
theorem Gs.idx {sg : List Seg} {fs : Files} {sf B C : Nat} (h : Gs sg fs sf B C) : Idx 0 (recsOf sg) := by
  rcases h with ⟨rfl, rfl, -⟩ | ⟨pre, s, k, rfl, rfl, hG, -⟩
  · exact fun n r hr => by simp [recsOf] at hr
  · exact hG.idx
theorem Gs.last {sg : List Seg} {fs : Files} {sf B C : Nat} (h : Gs sg fs sf B C) : lastIx 0 (recsOf sg) = (recsOf sg).length := by
  have := h.idx.last
  omega
theorem Gs.ok {sg : List Seg} {fs : Files} {sf B C : Nat} (h : Gs sg fs sf B C) : okAll (recsOf sg) := by
  rcases h with ⟨rfl, rfl, -⟩ | ⟨pre, s, k, rfl, rfl, hG, -⟩
  · exact fun r hr => by simp [recsOf] at hr
  · exact hG.ok
theorem Gs.cnt {sg : List Seg} {fs : Files} {sf B C : Nat} (h : Gs sg fs sf B C) : (recsOf sg).length ≤ C := by
  rcases h with ⟨rfl, rfl, -⟩ | ⟨pre, s, k, rfl, rfl, hG, -⟩
  · simp [recsOf]
  · exact hG.cnt
theorem Gs.safe {sg : List Seg} {fs : Files} {sf B C : Nat} (h : Gs sg fs sf B C) : sf ≤ (recsOf sg).length := by
  rcases h with ⟨rfl, rfl, h⟩ | ⟨pre, s, k, rfl, rfl, hG, h⟩
  · omega
  · have := cutN_le s.recs k
    rw [recsOf_snoc, List.length_append]
    omega
theorem Gs.mono {sg : List Seg} {fs : Files} {sf sf' B B' C C' : Nat} (h : Gs sg fs sf B C) (h1 : sf' ≤ sf) (h2 : B ≤ B') (h3 : C ≤ C') : Gs sg fs sf' B' C' := by
  rcases h with ⟨rfl, rfl, h⟩ | ⟨pre, s, k, rfl, rfl, hG, h⟩
  · exact .inl ⟨rfl, rfl, by omega⟩
  · exact .inr ⟨pre, s, k, rfl, rfl, ⟨hG.num, hG.ok, hG.idx, hG.big, hG.sml, hG.safe, Nat.le_trans hG.bud h2, Nat.le_trans hG.cnt h3⟩, by omega⟩

theorem Gs.sync {sg : List Seg} {fs : Files} {sf B C : Nat} (h : Gs sg fs sf B C) : Gs sg (syncF sg fs) (recsOf sg).length B C := by
  rcases h with ⟨rfl, rfl, -⟩ | ⟨pre, s, k, rfl, rfl, hG, -⟩
  · exact .inl ⟨rfl, rfl, rfl⟩
  · have e : syncF (pre ++ [s]) (FF pre s k) = FF pre s (sz s.recs) := by
      unfold syncF
      rw [List.getLast?_concat]
      exact FF_sync hG.num
    rw [e]
    refine .inr ⟨pre, s, _, rfl, rfl, ⟨hG.num, hG.ok, hG.idx, hG.big, hG.sml, Nat.le_refl _, hG.bud, hG.cnt⟩, ?_⟩
    rw [cutN_all s.recs _ (Nat.le_refl _), recsOf_snoc, List.length_append]
    exact Nat.le_refl _

theorem cutN_snoc (rs : List Rec) (r : Rec) (k : Nat) : cutN rs k ≤ cutN (rs ++ [r]) k := by
  have h1 := cutN_le rs k
  have h2 := cutN_sz rs k
  refine cutN_most _ _ _ (by simp; omega) ?_
  rw [List.take_append_of_le_length h1]
  exact h2

theorem nums_snoc {pre : List Seg} {s : Seg} {t : Seg} (h : Nums (pre ++ [s])) (hl : pre.length ≤ 500) (ht : t.num = s.num + 1) : Nums (pre ++ [s] ++ [t]) := by
  refine ⟨by simp; omega, fun i u hu => ?_⟩
  by_cases hi : i < (pre ++ [s]).length
  · rw [List.getElem?_append_left hi] at hu
    exact h.2 i u hu
  · rw [List.getElem?_append_right (by omega)] at hu
    have he : i = (pre ++ [s]).length := by
      have := (List.getElem?_eq_some_iff.1 hu).1
      simp at this hi
      simp
      omega
    subst he
    simp at hu
    have h2 := h.2 pre.length s (by simp)
    rw [← hu, ht, h2]
    simp
theorem nums_same {pre : List Seg} {s t : Seg} (h : Nums (pre ++ [s])) (ht : t.num = s.num) : Nums (pre ++ [t]) := by
  refine ⟨by have := h.1; simpa using this, fun i u hu => ?_⟩
  by_cases hi : i < pre.length
  · rw [List.getElem?_append_left hi] at hu
    exact h.2 i u (by rw [List.getElem?_append_left hi]; exact hu)
  · have he : i = pre.length := by
      have := (List.getElem?_eq_some_iff.1 hu).1
      simp at this
      omega
    subst he
    have h2 := h.2 pre.length s (by simp)
    simp at hu
    rw [← hu, ht, h2]

/-- A record follows. -/
theorem Gs.append {sg : List Seg} {fs : Files} {sf B C : Nat} (h : Gs sg fs sf B C) (r : Rec) (hok : okRec r) (hlen : (recB r).length ≤ 4900) (hr : r.index = (recsOf sg).length + 1) (hB : B + (recB r).length ≤ 42500) :
    roomN sg < 100000000 ∧ recsOf (addS sg (roomN sg) r) = recsOf sg ++ [r] ∧ ∃ fs2, dAppend (roomF sg fs) (segName (roomN sg)) (recB r) = (fs2, 0) ∧ Gs (addS sg (roomN sg) r) fs2 sf (B + (recB r).length) (C + 1) := by
  rcases h with ⟨rfl, rfl, rfl⟩ | ⟨pre, s, k, rfl, rfl, hG, hs⟩
  · refine ⟨by decide, by simp [addS, recsOf], _, FF_first r (by omega), .inr ⟨[], ⟨1, [r]⟩, 0, rfl, rfl, ⟨⟨by simp, fun i t ht => ?_⟩, ?_, ?_, (fun t ht => by cases ht), ?_, Nat.zero_le _, ?_, ?_⟩, Nat.zero_le _⟩⟩
    · cases i with
      | zero => simp at ht; rw [← ht]
      | succ n => simp at ht
    · intro q hq
      simp [recsOf] at hq
      rw [hq]
      exact hok
    · intro n q hq
      cases n with
      | zero =>
        simp [recsOf] at hq
        rw [← hq, hr]
        rfl
      | succ n => simp [recsOf] at hq
    · intro t ht
      simp at ht
      rw [ht]
      show sz [r] ≤ _
      rw [sz_single]
      omega
    · show sz [r] ≤ _
      rw [sz_single]
      omega
    · simp [recsOf]
  · have hl := hG.len (by omega)
    have hnum := hG.num.2 pre.length s (by simp)
    have hsml := hG.sml s (by simp)
    have hbud := hG.bud
    have hcnt := hG.cnt
    by_cases h4 : sz s.recs ≤ 4096
    · have e1 : roomN (pre ++ [s]) = s.num := by unfold roomN; rw [List.getLast?_concat]; exact if_pos h4
      have e2 : roomF (pre ++ [s]) (FF pre s k) = FF pre s k := by unfold roomF; rw [List.getLast?_concat]; exact if_pos h4
      have e3 : addS (pre ++ [s]) s.num r = pre ++ [⟨s.num, s.recs ++ [r]⟩] := by
        unfold addS
        rw [List.getLast?_concat]
        dsimp only
        rw [if_pos rfl, show (pre ++ [s]).length - 1 = pre.length by simp, List.set_append_right _ _ (Nat.le_refl _)]
        simp
      have e4 : recsOf (pre ++ [⟨s.num, s.recs ++ [r]⟩]) = recsOf (pre ++ [s]) ++ [r] := by simp [recsOf]
      rw [e1, e2, e3, e4]
      refine ⟨by omega, rfl, _, FF_append hG.num r (by omega), .inr ⟨pre, _, k, rfl, rfl, ⟨nums_same hG.num rfl, ?_, ?_, hG.big, ?_, ?_, ?_, ?_⟩, ?_⟩⟩
      · rw [e4]
        intro q hq
        rcases List.mem_append.1 hq with h | h
        · exact hG.ok q h
        · rw [List.mem_singleton.1 h]
          exact hok
      · rw [e4]
        exact hG.idx.snoc hr
      · intro t ht
        rcases List.mem_append.1 ht with h | h
        · exact hG.sml t (List.mem_append_left _ h)
        · rw [List.mem_singleton.1 h]
          show sz (s.recs ++ [r]) ≤ _
          rw [sz_append, sz_single]
          omega
      · show k ≤ sz (s.recs ++ [r])
        have := hG.safe
        rw [sz_append]
        omega
      · rw [e4, sz_append, sz_single]
        omega
      · rw [e4, List.length_append, List.length_singleton]
        omega
      · have := cutN_snoc s.recs r k
        show sf ≤ (recsOf pre).length + cutN (s.recs ++ [r]) k
        omega
    · have e1 : roomN (pre ++ [s]) = s.num + 1 := by unfold roomN; rw [List.getLast?_concat]; exact if_neg h4
      have e2 : roomF (pre ++ [s]) (FF pre s k) = FF pre s (sz s.recs) := by unfold roomF; rw [List.getLast?_concat]; dsimp only; rw [if_neg h4]; exact FF_sync hG.num
      have e3 : addS (pre ++ [s]) (s.num + 1) r = pre ++ [s] ++ [⟨s.num + 1, [r]⟩] := by
        unfold addS
        rw [List.getLast?_concat]
        dsimp only
        rw [if_neg (by omega)]
      have e4 : recsOf (pre ++ [s] ++ [⟨s.num + 1, [r]⟩]) = recsOf (pre ++ [s]) ++ [r] := by simp [recsOf]
      have hN := nums_snoc (t := ⟨s.num + 1, [r]⟩) hG.num (by omega) rfl
      rw [e1, e2, e3, e4]
      refine ⟨by omega, rfl, _, FF_new r hN (by omega) (by omega), .inr ⟨pre ++ [s], _, 0, rfl, rfl, ⟨hN, ?_, ?_, ?_, ?_, Nat.zero_le _, ?_, ?_⟩, ?_⟩⟩
      · rw [e4]
        intro q hq
        rcases List.mem_append.1 hq with h | h
        · exact hG.ok q h
        · rw [List.mem_singleton.1 h]
          exact hok
      · rw [e4]
        exact hG.idx.snoc hr
      · intro t ht
        rcases List.mem_append.1 ht with h | h
        · exact hG.big t h
        · rw [List.mem_singleton.1 h]
          omega
      · intro t ht
        rcases List.mem_append.1 ht with h | h
        · exact hG.sml t h
        · rw [List.mem_singleton.1 h]
          show sz [r] ≤ _
          rw [sz_single]
          omega
      · rw [e4, sz_append, sz_single]
        omega
      · rw [e4, List.length_append, List.length_singleton]
        omega
      · have := cutN_le s.recs k
        rw [recsOf_snoc, List.length_append]
        omega

/-- Which segment has the n-th record. -/
theorem seg_of : ∀ (sg : List Seg) (n : Nat), n < (recsOf sg).length → ∃ i t, sg[i]? = some t ∧ (recsOf (sg.take i)).length ≤ n ∧ n < (recsOf (sg.take i)).length + t.recs.length
  | [], n, h => by simp [recsOf] at h
  | s :: sg, n, h => by
    have e : recsOf (s :: sg) = s.recs ++ recsOf sg := by simp [recsOf]
    rw [e, List.length_append] at h
    by_cases hn : n < s.recs.length
    · exact ⟨0, s, rfl, by simp [recsOf], by simp [recsOf]; omega⟩
    · obtain ⟨i, t, h1, h2, h3⟩ := seg_of sg (n - s.recs.length) (by omega)
      refine ⟨i + 1, t, by simpa using h1, ?_, ?_⟩
      · have e2 : recsOf ((s :: sg).take (i + 1)) = s.recs ++ recsOf (sg.take i) := by simp [recsOf]
        rw [e2, List.length_append]
        omega
      · have e2 : recsOf ((s :: sg).take (i + 1)) = s.recs ++ recsOf (sg.take i) := by simp [recsOf]
        rw [e2, List.length_append]
        omega
theorem Gs.has {sg : List Seg} {fs : Files} {sf B C : Nat} (h : Gs sg fs sf B C) (n : Nat) (hn : n < (recsOf sg).length) : ∃ t ∈ sg, hasIx t (n + 1) := by
  obtain ⟨i, t, h1, h2, h3⟩ := seg_of sg n hn
  have hi := h.idx.at h1
  have hne : t.recs ≠ [] := by intro e; rw [e] at h3; simp at h3; omega
  refine ⟨t, List.mem_of_getElem? h1, hne, ?_, ?_⟩
  · rw [hi.first hne]
    omega
  · rw [hi.last0 hne]
    omega
/-- No other index is there. -/
theorem Gs.hasNot {sg : List Seg} {fs : Files} {sf B C : Nat} (h : Gs sg fs sf B C) (n : Nat) (hn : (recsOf sg).length ≤ n) : ∀ t ∈ sg, ¬ hasIx t (n + 1) := by
  rintro t ht ⟨hne, -, h2⟩
  obtain ⟨i, hi⟩ := List.getElem?_of_mem ht
  have hx := h.idx.at hi
  rw [hx.last0 hne] at h2
  have := congrArg List.length (recsOf_at hi)
  simp only [List.length_append] at this
  omega
/-- The record that Get finds. -/
theorem Gs.rec_at {sg : List Seg} {fs : Files} {sf B C : Nat} (h : Gs sg fs sf B C) {t : Seg} {r : Rec} {n : Nat} (ht : t ∈ sg) (hr : r ∈ t.recs) (hi : r.index = n + 1) : (recsOf sg)[n]? = some r := by
  obtain ⟨m, hm⟩ := List.getElem?_of_mem (mem_recs ht hr)
  have := h.idx m r hm
  have e : m = n := by omega
  rw [← e]
  exact hm

/-- The records from the n-th on are taken away. -/
theorem Gs.cut {sg : List Seg} {fs : Files} {sf B C : Nat} (h : Gs sg fs sf B C) {n i : Nat} {t : Seg} (ht : sg[i]? = some t) (hx : hasIx t (n + 1)) :
    recsOf (cutSg sg i t (n + 1 - firstIx t.recs)) = (recsOf sg).take n ∧ Gs (cutSg sg i t (n + 1 - firstIx t.recs)) (cutFs sg i t (n + 1 - firstIx t.recs) fs) (min sf n) B C := by
  have hid := h.idx.at ht
  obtain ⟨hne, h1, h2⟩ := hx
  rw [hid.first hne] at h1
  rw [hid.last0 hne] at h2
  rw [hid.first hne]
  obtain ⟨j, hj⟩ : ∃ j, j = n + 1 - (0 + (recsOf (sg.take i)).length + 1) := ⟨_, rfl⟩
  rw [← hj]
  have hjn : n = (recsOf (sg.take i)).length + j := by omega
  have hjl : j < t.recs.length := by omega
  have e1 : recsOf (cutSg sg i t j) = (recsOf sg).take n := by
    unfold cutSg
    rw [recsOf_snoc, recsOf_at ht, hjn, List.take_length_add_append, List.take_append_of_le_length (by omega)]
    rfl
  refine ⟨e1, ?_⟩
  rcases h with ⟨rfl, rfl, -⟩ | ⟨pre, s, k, rfl, rfl, hG, hs⟩
  · simp at ht
  obtain ⟨hN, hT⟩ := nums_take hG.num ht
  have hil := (List.getElem?_eq_some_iff.1 ht).1
  rw [List.length_append, List.length_singleton] at hil
  rw [FF_cutFs hG.num ht]
  have e2 : cutSg (pre ++ [s]) i t j = pre.take i ++ [segTo t j] := by unfold cutSg; rw [hT]
  rw [e2] at e1 ⊢
  rw [hT] at hjn
  refine .inr ⟨_, _, _, rfl, rfl, ⟨nums_same hN rfl, ?_, ?_, fun u hu => hG.big u (List.mem_of_mem_take hu), ?_, Nat.min_le_right _ _, ?_, ?_⟩, ?_⟩
  · rw [e1]
    exact fun r hr => hG.ok r (List.mem_of_mem_take hr)
  · rw [e1]
    exact hG.idx.take n
  · intro u hu
    rcases List.mem_append.1 hu with h | h
    · exact hG.sml u (List.mem_append_left _ (List.mem_of_mem_take h))
    · rw [List.mem_singleton.1 h]
      have := hG.sml t (List.mem_of_getElem? ht)
      have h3 := sz_take_le t.recs j
      show sz (t.recs.take j) ≤ _
      omega
  · rw [e1]
    have := sz_take_le (recsOf (pre ++ [s])) n
    have := hG.bud
    omega
  · rw [e1, List.length_take]
    have := hG.cnt
    omega
  · show min sf n ≤ _ + cutN (t.recs.take j) _
    have hm : min (sf - (recsOf (pre.take i)).length) j ≤ cutN (t.recs.take j) (min (safeAt pre i t k) (sz (t.recs.take j))) := by
      refine cutN_most _ _ _ (by rw [List.length_take]; omega) ?_
      rw [List.take_take]
      have hle := sz_take_mono t.recs (m := min (min (sf - (recsOf (pre.take i)).length) j) j) (n := j) (by omega)
      refine Nat.le_min.2 ⟨?_, hle⟩
      unfold safeAt
      by_cases he : i = pre.length
      · subst he
        have hst : s = t := by simpa using ht
        subst hst
        rw [if_pos rfl, List.take_of_length_le (Nat.le_refl _)]
        refine Nat.le_trans (sz_take_mono s.recs (n := cutN s.recs k) ?_) (cutN_sz s.recs k)
        omega
      · rw [if_neg he]
        exact sz_take_le _ _
    omega

theorem joinR_all (rs : List Rec) : (joinR rs).take (sz rs) = joinR rs := List.take_of_length_le (Nat.le_refl _)
/-- What a crash leaves of the files. -/
theorem FF_crash {pre : List Seg} {s : Seg} {k : Nat} (hk : k ≤ sz s.recs) (cuts : List Int) : ∃ c, k ≤ c ∧ c ≤ sz s.recs ∧ crash (FF pre s k) cuts = pre.map (fun t => fl t (sz t.recs)) ++ [⟨segName s.num, (joinR s.recs).take c, c⟩] := by
  have hb := left_bounds (fl s k) cuts[pre.length]? hk
  refine ⟨left (fl s k) cuts[pre.length]?, hb.1, hb.2, ?_⟩
  apply List.ext_getElem?
  intro i
  rw [crash_get?]
  unfold FF
  by_cases hi : i < pre.length
  · rw [List.getElem?_append_left (by simpa using hi), List.getElem?_append_left (by simpa using hi), List.getElem?_map, List.getElem?_eq_getElem hi]
    simp only [Option.map_some]
    have hb2 := left_bounds (fl pre[i] (sz pre[i].recs)) cuts[i]? (Nat.le_refl _)
    have e : left (fl pre[i] (sz pre[i].recs)) cuts[i]? = sz pre[i].recs := Nat.le_antisymm hb2.2 hb2.1
    unfold crashOne
    rw [e]
    unfold fl
    dsimp only
    rw [joinR_all]
  · rw [List.getElem?_append_right (by simp; omega), List.getElem?_append_right (by simp; omega)]
    simp only [List.length_map]
    by_cases he : i = pre.length
    · subst he
      simp [crashOne, fl]
    · obtain ⟨m, hm⟩ : ∃ m, i - pre.length = m + 1 := ⟨i - pre.length - 1, by omega⟩
      rw [hm]
      simp

/-- Behind a crash and an opening a beginning is there, all that was safe among it. -/
theorem Gs.crash {sg : List Seg} {fs : Files} {sf B C : Nat} (h : Gs sg fs sf B C) (cuts : List Int) (hB : B ≤ 42500) (hC : C ≤ 1000) :
    ∃ xs : List (Seg × Nat), Rdl xs ∧ SegFs (DiskMath.crash fs cuts) (xs.map xfile) ∧ ∃ n, sf ≤ n ∧ n ≤ (recsOf sg).length ∧ recsOf (xs.map cutS) = (recsOf sg).take n ∧ Gs (xs.map cutS) (leaveF (xs.map cutS) (DiskMath.crash fs cuts)) n B C := by
  rcases h with ⟨rfl, rfl, rfl⟩ | ⟨pre, s, k, rfl, rfl, hG, hs⟩
  · refine ⟨[], ⟨(fun i x y hx => by simp at hx), (fun x hx => by cases hx), (fun x hx => by cases hx), trivial, (fun i x hx => by simp at hx), (fun x hx => by cases hx), by simp⟩, ⟨rfl, (fun i f x hf => by simp [DiskMath.crash] at hf)⟩, 0, Nat.le_refl _, Nat.zero_le _, rfl, .inl ⟨rfl, rfl, rfl⟩⟩
  obtain ⟨c, hc1, hc2, hce⟩ := FF_crash (pre := pre) hG.safe cuts
  have hl := hG.len hB
  have hw := hG.whole hB hC
  have exs : ∀ x ∈ pre.map (fun t => (t, sz t.recs)) ++ [(s, c)], x.1 ∈ pre ++ [s] := fun x hx => by
    rcases List.mem_append.1 hx with h | h
    · obtain ⟨t, ht, rfl⟩ := List.mem_map.1 h
      exact List.mem_append_left _ ht
    · rw [List.mem_singleton.1 h]
      simp
  have efst : (pre.map (fun t => (t, sz t.recs)) ++ [(s, c)]).map Prod.fst = pre ++ [s] := by simp [Function.comp_def]
  have eget : ∀ (i : Nat) (x : Seg × Nat), (pre.map (fun t => (t, sz t.recs)) ++ [(s, c)])[i]? = some x → (pre ++ [s])[i]? = some x.1 := fun i x hx => by
    rw [← efst, List.getElem?_map, hx]
    rfl
  have erec : xrecs (pre.map (fun t => (t, sz t.recs)) ++ [(s, c)]) = recsOf (pre ++ [s]) := by simp [xrecs, recsOf, List.flatMap_map]
  have ecut : (pre.map (fun t => (t, sz t.recs)) ++ [(s, c)]).map cutS = pre ++ [segTo s (cutN s.recs c)] := by
    rw [List.map_append, List.map_map]
    congr 1
    conv => rhs; rw [← List.map_id pre]
    apply List.map_congr_left
    intro t _
    show (⟨t.num, t.recs.take (cutN t.recs (sz t.recs))⟩ : Seg) = t
    rw [cutN_all t.recs _ (Nat.le_refl _), List.take_of_length_le (Nat.le_refl _)]
  have hcl := cutN_le s.recs c
  have hcs := cutN_sz s.recs c
  refine ⟨pre.map (fun t => (t, sz t.recs)) ++ [(s, c)], ⟨fun i x y hx hy => ?_, fun x hx => ?_, fun x hx r hr => hG.ok r (mem_recs (exs x hx) hr), by rw [erec]; exact hG.idx.chn0, fun i x hx hi => ?_, fun x hx => ?_, by simp; omega⟩, ⟨?_, fun i f x hf hx => ?_⟩, (recsOf pre).length + cutN s.recs c, ?_, ?_, ?_, ?_⟩
  · have h1 := hG.num.2 i x.1 (eget i x hx)
    have h2 := hG.num.2 (i + 1) y.1 (eget (i + 1) y hy)
    omega
  · obtain ⟨i, hi⟩ := List.getElem?_of_mem hx
    have h1 := hG.num.2 i x.1 (eget i x hi)
    have := (hw.at_ x.1 (exs x hx)).1
    omega
  · rw [List.getElem?_append_left (by simp at hi; simpa using hi), List.getElem?_map] at hx
    have hil : i < pre.length := by simp at hi; omega
    rw [List.getElem?_eq_getElem hil] at hx
    cases hx
    exact Nat.le_refl _
  · obtain ⟨-, h1, h2, -⟩ := hw.at_ x.1 (exs x hx)
    exact ⟨by omega, by omega⟩
  · rw [crash_length, FF_len]
    simp
  · rw [hce] at hf
    by_cases hi : i < pre.length
    · rw [List.getElem?_append_left (by simpa using hi), List.getElem?_map, List.getElem?_eq_getElem hi] at hf
      rw [List.map_append, List.getElem?_append_left (by simpa using hi), List.map_map, List.getElem?_map, List.getElem?_eq_getElem hi] at hx
      cases hf
      cases hx
      refine ⟨rfl, ?_⟩
      exact (joinR_all _).symm
    · rw [List.getElem?_append_right (by simp; omega)] at hf
      rw [List.map_append, List.getElem?_append_right (by simp; omega)] at hx
      simp only [List.length_map] at hf hx
      by_cases he : i = pre.length
      · subst he
        simp at hf hx
        rw [← hf, ← hx]
        exact ⟨rfl, rfl⟩
      · obtain ⟨m, hm⟩ : ∃ m, i - pre.length = m + 1 := ⟨i - pre.length - 1, by omega⟩
        rw [hm] at hf
        simp at hf
  · have := cutN_most s.recs c (cutN s.recs k) (cutN_le _ _) (Nat.le_trans (cutN_sz s.recs k) hc1)
    omega
  · rw [recsOf_snoc, List.length_append]
    omega
  · rw [ecut, recsOf_snoc, recsOf_snoc, List.take_length_add_append]
    rfl
  · rw [ecut]
    have efs : leaveF (pre ++ [segTo s (cutN s.recs c)]) (DiskMath.crash (FF pre s k) cuts) = FF pre (segTo s (cutN s.recs c)) (sz (s.recs.take (cutN s.recs c))) := by
      unfold leaveF
      rw [List.getLast?_concat, hce]
      have hr := crash_rises (O := strOrd) cuts (FF_rises (k := k) hG.num)
      rw [hce] at hr
      show (dCut _ (segName s.num) (sz (s.recs.take (cutN s.recs c)) : Int)).1 = _
      unfold dCut
      rw [get_snoc hr, if_pos rfl]
      dsimp only
      have hle : sz (s.recs.take (cutN s.recs c)) ≤ (joinR s.recs).length := sz_take_le s.recs _
      have hc2' : c ≤ (joinR s.recs).length := hc2
      rw [if_neg (by rw [List.length_take]; omega)]
      rw [Int.toNat_natCast, List.take_take, Nat.min_eq_left hcs, joinR_to, Nat.min_eq_right hcs]
      dsimp only
      rw [put_place (i := pre.length) (f := ⟨segName s.num, (joinR s.recs).take c, c⟩) (g := ⟨segName s.num, joinR (s.recs.take (cutN s.recs c)), sz (s.recs.take (cutN s.recs c))⟩) hr (by simp) rfl]
      rw [List.take_append_of_le_length (by simp), List.take_of_length_le (by simp), List.drop_of_length_le (by simp)]
      rfl
    rw [efs]
    have e9 : recsOf (pre ++ [segTo s (cutN s.recs c)]) = (recsOf (pre ++ [s])).take ((recsOf pre).length + cutN s.recs c) := by
      rw [recsOf_snoc, recsOf_snoc, List.take_length_add_append]
      rfl
    refine .inr ⟨pre, _, _, rfl, rfl, ⟨nums_same hG.num rfl, ?_, ?_, hG.big, ?_, Nat.le_refl _, ?_, ?_⟩, ?_⟩
    · rw [e9]
      exact fun r hr => hG.ok r (List.mem_of_mem_take hr)
    · rw [e9]
      exact hG.idx.take _
    · intro u hu
      rcases List.mem_append.1 hu with h | h
      · exact hG.sml u (List.mem_append_left _ h)
      · rw [List.mem_singleton.1 h]
        have := hG.sml s (by simp)
        have h3 := sz_take_le s.recs (cutN s.recs c)
        show sz (s.recs.take _) ≤ _
        omega
    · rw [e9]
      have := sz_take_le (recsOf (pre ++ [s])) ((recsOf pre).length + cutN s.recs c)
      have := hG.bud
      omega
    · rw [e9, List.length_take]
      have := hG.cnt
      omega
    · show _ ≤ _ + cutN (s.recs.take _) (sz (s.recs.take _))
      rw [cutN_all (s.recs.take _) _ (Nat.le_refl _), List.length_take]
      omega
end Go.Proofs.YtgfoogeiancecaaGreatDoor

/- The contracts of a log's Append and CutFrom where nothing is done. -/
namespace Go.Proofs.YtgfoogeiancecaaGreatDoor
open Go.RowKit WalMath DiskMath
set_option maxRecDepth 100000
set_option linter.unusedSimpArgs false
set_option linter.unusedVariables false

set_option maxHeartbeats 1000000 in
theorem append_zero {U : Nat → Prop} {w : World} {v d : Value} {sg : List Seg} {fs : Files} (ba : Option Addr) (bl bc : Nat) (hT : Tb w) (hL : Lg U w v d sg fs) (hc : Cons sg fs) :
    Calls Tryz.prog 17 #[v, .agg #[.int .u64 0, .slice ba bl bc]] w fun e w' => e = .returned (.int .i64 1) ∧ Below w.heap.size w w' := by
  have hb0 : Below w.heap.size w (w.alloc (.cells #[.int .u64 0, .slice ba bl bc] 44)) := (Below.refl _ _).alloc (Nat.le_refl _) _
  have hbk0 := heap_alloc_new w (.cells #[.int .u64 0, .slice ba bl bc] 44)
  obtain ⟨S0, σ0, q, sv0, rfl, hD0, hW0, -, -⟩ := hL.ex
  have kaw := wawake_of (hT.new hb0) (diskOf.below hD0 hb0) (hW0.below hb0) hc
  have hbox : ∀ W, Below (w.alloc (.cells #[.int .u64 0, .slice ba bl bc] 44)).heap.size (w.alloc (.cells #[.int .u64 0, .slice ba bl bc] 44)) W → W.cell? ⟨w.heap.size, 0, none⟩ = some (.int .u64 0) ∧ W.cell? ⟨w.heap.size, 1, none⟩ = some (.slice ba bl bc) ∧ Below w.heap.size w W := fun W hb => by
    have e := (hb.block w.heap.size (by simp)).trans hbk0
    exact ⟨by rw [cells_of_block e]; rfl, by rw [cells_of_block e]; rfl, hb0.trans (hb.mono hb0.size)⟩
  clear hbk0 hW0 hD0 hL
  go_enter Tryz.func17, Tryz.ntmps17
  go_wp2_with fail
  refine kaw.mono ?_
  rintro e w1 ⟨rfl, b1⟩
  obtain ⟨c1, c2, b2⟩ := hbox w1 b1
  clear hbox kaw
  go_wp2
  all_goals first | exact ⟨rfl, b2⟩ | (go_ret; exact ⟨rfl, b2⟩)

set_option maxHeartbeats 1000000 in
theorem append_gap {U : Nat → Prop} {w : World} {v d : Value} {sg : List Seg} {fs : Files} (n : Nat) (ba : Option Addr) (bl bc : Nat) (hT : Tb w) (hL : Lg U w v d sg fs) (hc : Cons sg fs) (hF : ∀ s ∈ sg, s.recs.length ≤ 100000) (hn : 0 < n) (hl : bl ≤ 4096) (hL0 : lastIx 0 (recsOf sg) ≠ 0) (hL1 : lastIx 0 (recsOf sg) < 18446744073709551616) (hne : n ≠ lastIx 0 (recsOf sg) + 1) :
    Calls Tryz.prog 17 #[v, .agg #[.int .u64 (n : Int), .slice ba bl bc]] w fun e w' => e = .returned (.int .i64 12) ∧ Below w.heap.size w w' := by
  have hb0 : Below w.heap.size w (w.alloc (.cells #[.int .u64 (n : Int), .slice ba bl bc] 44)) := (Below.refl _ _).alloc (Nat.le_refl _) _
  have hbk0 := heap_alloc_new w (.cells #[.int .u64 (n : Int), .slice ba bl bc] 44)
  obtain ⟨S0, σ0, q, sv0, rfl, hD0, hW0, -, -⟩ := hL.ex
  have kaw := wawake_of (hT.new hb0) (diskOf.below hD0 hb0) (hW0.below hb0) hc
  have klast : ∀ W, Below w.heap.size w W → Calls Tryz.prog 7 #[.pointer (some ⟨q, 0, none⟩)] W fun e w' => e = .returned (.int .u64 (lastIx 0 (recsOf sg) : Int)) ∧ Below W.heap.size W w' := fun W hb => last_of (hT.new hb) (diskOf.below hD0 hb) (hW0.below hb) hc hF
  have hr0 : ((n : Int) == 0) = false := by simp; omega
  have hr1 : ¬ (n : Int) = 0 := by omega
  have hd4 : ¬ (4096 : Int) < (bl : Int) := by omega
  obtain ⟨L, hLd⟩ : ∃ L, Hid (L = lastIx 0 (recsOf sg)) := ⟨_, rfl⟩
  rw [← hLd.out] at klast hL0 hL1 hne
  have hl0 : ((L : Int) == 0) = false := by simp; omega
  have hl1 : ¬ (L : Int) = 0 := by omega
  obtain ⟨X, hX, hX2⟩ : ∃ X : Int, IntKind.u64.wrap ((L : Int) + 1) = X ∧ (n : Int) ≠ X := by
    refine ⟨_, rfl, ?_⟩
    by_cases h : L + 1 = 18446744073709551616
    · rw [show (L : Int) + 1 = 18446744073709551616 by omega]
      have : IntKind.u64.wrap 18446744073709551616 = 0 := by decide
      omega
    · have : IntKind.u64.wrap ((L : Int) + 1) = (L : Int) + 1 := IntWalk.u64_in _ (by omega)
      omega
  have hX3 : ((n : Int) == X) = false := by simp; exact hX2
  have hX4 : ¬ (n : Int) = X := hX2
  have hX5 : ((n : Int) != X) = true := by simp; exact hX2
  have hl2 : ((L : Int) != 0) = true := by simp; omega
  have hbox : ∀ W, Below (w.alloc (.cells #[.int .u64 (n : Int), .slice ba bl bc] 44)).heap.size (w.alloc (.cells #[.int .u64 (n : Int), .slice ba bl bc] 44)) W → W.cell? ⟨w.heap.size, 0, none⟩ = some (.int .u64 (n : Int)) ∧ W.cell? ⟨w.heap.size, 1, none⟩ = some (.slice ba bl bc) ∧ Below w.heap.size w W := fun W hb => by
    have e := (hb.block w.heap.size (by simp)).trans hbk0
    exact ⟨by rw [cells_of_block e]; rfl, by rw [cells_of_block e]; rfl, hb0.trans (hb.mono hb0.size)⟩
  clear hbk0 hW0 hD0 hL hL0 hL1 hne hX2
  go_enter Tryz.func17, Tryz.ntmps17
  go_wp2_with fail
  refine kaw.mono ?_
  rintro e w1 ⟨rfl, b1⟩
  obtain ⟨c1, c2, b2⟩ := hbox w1 b1
  have kl := klast w1 b2
  clear kaw klast
  go_wp2_with fail
  refine kl.mono ?_
  rintro e w2 ⟨rfl, b3⟩
  obtain ⟨c3, c4, b4⟩ := hbox w2 (b1.trans (b3.mono b1.size))
  clear hbox kl c1 c2
  go_wp2
  all_goals first | exact ⟨rfl, b4⟩ | (go_ret; exact ⟨rfl, b4⟩)

set_option maxHeartbeats 1000000 in
theorem cutfrom_no {U : Nat → Prop} {w : World} {v d : Value} {sg : List Seg} {fs : Files} (idx : Nat) (hT : Tb w) (hL : Lg U w v d sg fs) (hw : Whole sg fs) (hidx : idx < 18446744073709551616) (hno : ∀ s ∈ sg, ¬ hasIx s idx) :
    Calls Tryz.prog 10 #[v, .int .u64 (idx : Int)] w fun e w' => e = .returned (.int .i64 4) ∧ Below w.heap.size w w' := by
  have hlen := hw.len
  obtain ⟨S, σ, q, sv, rfl, hD, hW, hS, hU⟩ := hL.ex
  have ka := wawake_of hT hD hW hw.cons
  have kf : ∀ W, Below w.heap.size w W → Calls Tryz.prog 31 #[.pointer (some ⟨q, 0, none⟩), .int .u64 (idx : Int)] W (FoundT W sg idx) := fun W hb => find_w idx (hW.below hb) hw.len (fun s hs => by
    obtain ⟨h1, h2, h3, h4, h5, -⟩ := hw.at_ s hs
    refine ⟨by omega, h4, fun ha hb => ?_⟩
    by_cases he : s.recs = []
    · rw [he] at ha
      have : idx ≤ 0 := ha
      omega
    · obtain ⟨r, hr, -⟩ := has_rec h4 h5 ⟨he, hb, ha⟩
      have := (List.getElem?_eq_some_iff.1 hr).1
      omega) hidx
  clear hD hW hL
  go_enter Tryz.func10, Tryz.ntmps10
  go_wp2_with fail
  refine ka.mono ?_
  rintro e w1 ⟨rfl, b1⟩
  have kf1 := kf w1 b1
  clear ka kf
  go_wp2_with fail
  refine kf1.mono ?_
  rintro e w2 ⟨b2', hfnd⟩
  have b2 := b1.trans (b2'.mono b1.size)
  clear kf1
  rcases hfnd with ⟨i, s, hs, hhas, rfl⟩ | ⟨hno, rfl⟩
  · exact absurd hhas (hno s (List.mem_of_getElem? hs))
  · clear hno
    go_wp2
    all_goals first | exact ⟨rfl, b2⟩ | (go_ret; exact ⟨rfl, b2⟩)
end Go.Proofs.YtgfoogeiancecaaGreatDoor

