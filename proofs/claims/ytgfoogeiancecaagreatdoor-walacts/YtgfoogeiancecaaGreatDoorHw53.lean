import Derived.Test.YtgfoogeiancecaaGreatDoorHw50
import Derived.Test.YtgfoogeiancecaaGreatDoorHw51
import Derived.Test.YtgfoogeiancecaaGreatDoorHw52
/- The state of WalActs in memory: a log over its disk, the document's files beside it; what each act leaves of both. -/
namespace Go.Proofs.YtgfoogeiancecaaGreatDoor
open Go.RowKit WalMath DiskMath
set_option maxRecDepth 100000
set_option linter.unusedSimpArgs false
set_option linter.unusedVariables false

/-- Blocks that are kept beside a log of the call's own. -/
def Stay (K : List (Nat × Obj)) (S : Nat → Prop) (wr : World) : Prop := ∀ x ∈ K, ¬ S x.1 ∧ wr.heap[x.1]? = some x.2
theorem Stay.step {K : List (Nat × Obj)} {S S' : Nat → Prop} {w w' : World} (h : Stay K S w) (hs : Step S S' w) (hk : Kept S w w') : Stay K S' w' := fun x hx => by
  obtain ⟨h1, h2⟩ := h x hx
  have hl := (Array.getElem?_eq_some_iff.1 h2).1
  exact ⟨fun hb => (hs _ hb).elim h1 fun hb => by omega, (hk.block _ hl h1).trans h2⟩
theorem Stay.below {K : List (Nat × Obj)} {S : Nat → Prop} {w w' : World} (h : Stay K S w) (hb : Below w.heap.size w w') : Stay K S w' := fun x hx => by
  obtain ⟨h1, h2⟩ := h x hx
  exact ⟨h1, (hb.block _ (Array.getElem?_eq_some_iff.1 h2).1).trans h2⟩

/-- The program's log has segments sg on files fs, the document's list has fl. -/
structure Am (K : List (Nat × Obj)) (w0 W : World) (wv dv lv : Value) (sg : List Seg) (fs fl : Files) : Prop where
  ex : ∃ U hU, Lg U W wv dv sg fs ∧ @Fv (keepBut U W hU) W lv fl ∧ (∀ b, U b → w0.heap.size ≤ b) ∧ Stay K U W
  bel : Below w0.heap.size w0 W
/-- The program's disk has files fs, its log is not looked at any more. -/
structure Dm (K : List (Nat × Obj)) (w0 W : World) (dv lv : Value) (fs fl : Files) : Prop where
  ex : ∃ S hS, Dk S W dv fs ∧ @Fv (keepBut S W hS) W lv fl ∧ (∀ b, S b → w0.heap.size ≤ b) ∧ Stay K S W
  bel : Below w0.heap.size w0 W

theorem Am.tb {K : List (Nat × Obj)} {w0 W : World} {wv dv lv : Value} {sg : List Seg} {fs fl : Files} (h : Am K w0 W wv dv lv sg fs fl) (hT : Tb w0) : Tb W := hT.new h.bel
theorem Am.at {K : List (Nat × Obj)} {x : Nat × Obj} {w0 W : World} {wv dv lv : Value} {sg : List Seg} {fs fl : Files} (h : Am K w0 W wv dv lv sg fs fl) (hx : x ∈ K) : W.heap[x.1]? = some x.2 := by
  obtain ⟨U, hU, -, -, -, hst⟩ := h.ex
  exact (hst x hx).2
theorem Dm.at {K : List (Nat × Obj)} {x : Nat × Obj} {w0 W : World} {dv lv : Value} {fs fl : Files} (h : Dm K w0 W dv lv fs fl) (hx : x ∈ K) : W.heap[x.1]? = some x.2 := by
  obtain ⟨U, hU, -, -, -, hst⟩ := h.ex
  exact (hst x hx).2
theorem Am.shape {K : List (Nat × Obj)} {w0 W : World} {wv dv lv : Value} {sg : List Seg} {fs fl : Files} (h : Am K w0 W wv dv lv sg fs fl) : (∃ q, wv = .pointer (some ⟨q, 0, none⟩)) ∧ (∃ q, dv = .pointer (some ⟨q, 0, none⟩)) ∧ ∃ a n c, lv = .slice a n c := by
  obtain ⟨U, hU, h1, h2, -⟩ := h.ex
  obtain ⟨S, σ, q, sv, rfl, hD, -⟩ := h1.ex
  obtain ⟨dq, rfl⟩ := hD.shape
  obtain ⟨a, c, e⟩ := h2.shape
  exact ⟨⟨q, rfl⟩, ⟨dq, rfl⟩, a, _, c, e⟩
theorem Am.below {K : List (Nat × Obj)} {w0 W W' : World} {wv dv lv : Value} {sg : List Seg} {fs fl : Files} (h : Am K w0 W wv dv lv sg fs fl) (hb : Below W.heap.size W W') : Am K w0 W' wv dv lv sg fs fl := by
  obtain ⟨U, hU, h1, h2, h3, h4⟩ := h.ex
  have h1' := h1.below hb
  have h2' : @Fv (keepBut U W' h1'.lt) W' lv fl := (@Fv.below (keepBut U W hU) _ _ _ _ h2 hb).renew
  exact ⟨⟨U, h1'.lt, h1', h2', h3, h4.below hb⟩, h.bel.trans (hb.mono h.bel.size)⟩
/-- A box more is kept. -/
theorem Am.box {K : List (Nat × Obj)} {w0 W : World} {wv dv lv : Value} {sg : List Seg} {fs fl : Files} (h : Am K w0 W wv dv lv sg fs fl) (o : Obj) : Am ((W.heap.size, o) :: K) w0 (W.alloc o) wv dv lv sg fs fl := by
  have hb : Below W.heap.size W (W.alloc o) := (Below.refl _ _).alloc (Nat.le_refl _) _
  obtain ⟨U, hU, h1, h2, h3, h4⟩ := h.ex
  have h1' := h1.below hb
  have h2' : @Fv (keepBut U (W.alloc o) h1'.lt) (W.alloc o) lv fl := (@Fv.below (keepBut U W hU) _ _ _ _ h2 hb).renew
  refine ⟨⟨U, h1'.lt, h1', h2', h3, fun x hx => ?_⟩, h.bel.trans (hb.mono h.bel.size)⟩
  rcases List.mem_cons.1 hx with rfl | hx
  · exact ⟨fun hs => by have := hU _ hs; simp at this, heap_alloc_new W o⟩
  · exact h4.below hb x hx
theorem Am.unbox {K K' : List (Nat × Obj)} {w0 W : World} {wv dv lv : Value} {sg : List Seg} {fs fl : Files} (h : Am K w0 W wv dv lv sg fs fl) (hK : ∀ x ∈ K', x ∈ K) : Am K' w0 W wv dv lv sg fs fl := by
  obtain ⟨U, hU, h1, h2, h3, h4⟩ := h.ex
  exact ⟨⟨U, hU, h1, h2, h3, fun y hy => h4 y (hK y hy)⟩, h.bel⟩
/-- The log was acted with. -/
theorem Am.act {K : List (Nat × Obj)} {w0 W W' : World} {wv dv lv : Value} {sg sg' : List Seg} {fs fs' fl : Files} (h : Am K w0 W wv dv lv sg fs fl) (hN : ∀ U, Lg U W wv dv sg fs → (∀ b, U b → w0.heap.size ≤ b) → LgN U W wv dv sg' fs' W') : Am K w0 W' wv dv lv sg' fs' fl := by
  obtain ⟨U, hU, h1, h2, h3, h4⟩ := h.ex
  obtain ⟨U', g1, g2, g3⟩ := hN U h1 h3
  have hb : Below w0.heap.size W W' := ⟨g3.os, g3.tape, g3.output, g3.size, fun b hb => g3.block b (by have := h.bel.size; omega) (fun hu => by have := h3 b hu; omega)⟩
  exact ⟨⟨U', g1.lt, g1, h2.kept g3 g2, fun b hb' => (g2 b hb').elim (h3 b) fun h' => Nat.le_trans h.bel.size h', h4.step g2 g3⟩, h.bel.trans hb⟩
/-- What the document's own call tells, its list apart from the log's blocks. -/
theorem Am.doc {K : List (Nat × Obj)} {w0 W : World} {wv dv lv : Value} {sg : List Seg} {fs fl : Files} {R : Files × Nat} (h : Am K w0 W wv dv lv sg fs fl) {f : Nat} {ar : Array Value} (hk : ∀ k : Keep, @Fv k W lv fl → Calls Tryz.prog f ar W (@Told k W R)) :
    Calls Tryz.prog f ar W fun e w' => ∃ a n c, e = .returned (.tuple #[.slice a n c, .int .i64 (R.2 : Int)]) ∧ Am K w0 w' wv dv (.slice a n c) sg fs R.1 := by
  obtain ⟨U, hU, h1, h2, h3, h4⟩ := h.ex
  refine (hk (keepBut U W hU) h2).mono ?_
  rintro e w' ⟨lv', rfl, hF', hb⟩
  obtain ⟨a, c, rfl⟩ := hF'.shape
  have h1' := h1.below hb
  exact ⟨a, _, c, rfl, ⟨U, h1'.lt, h1', hF'.renew, h3, h4.below hb⟩, h.bel.trans (hb.mono h.bel.size)⟩
theorem Am.doc1 {K : List (Nat × Obj)} {w0 W : World} {wv dv lv : Value} {sg : List Seg} {fs fl fl' : Files} (h : Am K w0 W wv dv lv sg fs fl) {f : Nat} {ar : Array Value} (hk : ∀ k : Keep, @Fv k W lv fl → Calls Tryz.prog f ar W fun e w' => ∃ ov, e = .returned ov ∧ @Fv k w' ov fl' ∧ Below W.heap.size W w') :
    Calls Tryz.prog f ar W fun e w' => ∃ a n c, e = .returned (.slice a n c) ∧ Am K w0 w' wv dv (.slice a n c) sg fs fl' := by
  obtain ⟨U, hU, h1, h2, h3, h4⟩ := h.ex
  refine (hk (keepBut U W hU) h2).mono ?_
  rintro e w' ⟨lv', rfl, hF', hb⟩
  obtain ⟨a, c, rfl⟩ := hF'.shape
  have h1' := h1.below hb
  exact ⟨a, _, c, rfl, ⟨U, h1'.lt, h1', hF'.renew, h3, h4.below hb⟩, h.bel.trans (hb.mono h.bel.size)⟩
theorem Dm.doc1 {K : List (Nat × Obj)} {w0 W : World} {dv lv : Value} {fs fl fl' : Files} (h : Dm K w0 W dv lv fs fl) {f : Nat} {ar : Array Value} (hk : ∀ k : Keep, @Fv k W lv fl → Calls Tryz.prog f ar W fun e w' => ∃ ov, e = .returned ov ∧ @Fv k w' ov fl' ∧ Below W.heap.size W w') :
    Calls Tryz.prog f ar W fun e w' => ∃ a n c, e = .returned (.slice a n c) ∧ Dm K w0 w' dv (.slice a n c) fs fl' := by
  obtain ⟨U, hU, h1, h2, h3, h4⟩ := h.ex
  refine (hk (keepBut U W hU) h2).mono ?_
  rintro e w' ⟨lv', rfl, hF', hb⟩
  obtain ⟨a, c, rfl⟩ := hF'.shape
  have h1' := diskOf.below h1 hb
  exact ⟨a, _, c, rfl, ⟨U, diskOf.lt h1', h1', hF'.renew, h3, h4.below hb⟩, h.bel.trans (hb.mono h.bel.size)⟩

/-- How many first segments have no index behind ix. -/
theorem first_n : ∀ (sg : List Seg) (ix : Nat), 0 < sg.length → ∃ n, n < sg.length ∧ (∀ (j : Nat) (t : Seg), j < n → sg[j]? = some t → lastIx 0 t.recs ≤ ix) ∧ (n + 1 < sg.length → ∀ t, sg[n]? = some t → ix < lastIx 0 t.recs)
  | [], _, h => by simp at h
  | [s], ix, _ => ⟨0, by simp, (fun j t hj => by omega), fun h => by simp at h⟩
  | s :: u :: sg, ix, _ => by
    by_cases hs : lastIx 0 s.recs ≤ ix
    · obtain ⟨n, h1, h2, h3⟩ := first_n (u :: sg) ix (by simp)
      refine ⟨n + 1, by simp at h1 ⊢; omega, fun j t hj ht => ?_, fun hn t ht => h3 (by simp at hn ⊢; omega) t (by simpa using ht)⟩
      cases j with
      | zero => simp at ht; rw [← ht]; exact hs
      | succ j => exact h2 j t (by omega) (by simpa using ht)
    · exact ⟨0, by simp, (fun j t hj => by omega), fun _ t ht => by simp at ht; rw [← ht]; omega⟩

/-- The bounds that hold on the way. -/
structure Bd (B C : Nat) : Prop where
  b : B ≤ 42500
  c : C ≤ 1000

section
variable {K : List (Nat × Obj)} {w0 W : World} {wv dv lv : Value} {sg : List Seg} {fs : Files} {B C : Nat}

theorem am_last (hT : Tb w0) (h : Am K w0 W wv dv lv sg fs fs) (hA : Ac.As sg fs B C) (hb : Bd B C) : Calls Tryz.prog 7 #[wv] W fun e w' => e = .returned (.int .u64 (lastIx 0 (recsOf sg) : Int)) ∧ Below W.heap.size W w' := by
  obtain ⟨U, hU, h1, h2, h3, h4⟩ := h.ex
  obtain ⟨S, σ, q, sv, rfl, hD, hW, -⟩ := h1.ex
  have hw := hA.whole hb.b hb.c
  exact last_of (h.tb hT) hD hW hw.cons (fun s hs => by have := (hw.at_ s hs).2.1; omega)
theorem am_is (hT : Tb w0) (h : Am K w0 W wv dv lv sg fs fs) (hA : Ac.As sg fs B C) (hb : Bd B C) : Calls Tryz.prog 19 #[wv, dv, lv] W fun e w' => e = .returned (.bool true) ∧ Am K w0 w' wv dv lv sg fs fs := by
  obtain ⟨U, hU, h1, h2, h3, h4⟩ := h.ex
  obtain ⟨S, σ, q, sv, rfl, hD, hW, -⟩ := h1.ex
  exact (is_of (h.tb hT) hD hW hA hb.b hb.c (h2.imp (fun _ _ _ => trivial) (Nat.zero_le _))).mono fun e w' hh => ⟨hh.1, h.below hh.2⟩

theorem am_sync (hT : Tb w0) (h : Am K w0 W wv dv lv sg fs fs) (hA : Ac.As sg fs B C) (hb : Bd B C) : Ac.As sg (syncF sg fs) B C ∧
    Calls Tryz.prog 8 #[wv] W (fun e w' => e = .returned (.tuple #[]) ∧ Hid (Am K w0 w' wv dv lv sg (syncF sg fs) fs)) ∧
    ∀ W', Am K w0 W' wv dv lv sg (syncF sg fs) fs → Calls Tryz.prog 9 #[lv] W' fun e w' => ∃ a n c, e = .returned (.slice a n c) ∧ Am K w0 w' wv dv (.slice a n c) sg (syncF sg fs) (syncF sg fs) := by
  have hw := hA.whole hb.b hb.c
  refine ⟨hA.sync, ?_, fun W' h' => ?_⟩
  · obtain ⟨U, hU, h1, h2, h3, h4⟩ := id h.ex
    refine (sync_w (h.tb hT) h1 hw.cons).mono fun e w' hh => ⟨hh.1, ?_⟩
    obtain ⟨-, U', g1, g2, g3⟩ := hh
    have hb' : Below w0.heap.size W w' := ⟨g3.os, g3.tape, g3.output, g3.size, fun b hb => g3.block b (by have := h.bel.size; omega) (fun hu => by have := h3 b hu; omega)⟩
    exact ⟨⟨U', g1.lt, g1, h2.kept g3 g2, fun b hb' => (g2 b hb').elim (h3 b) fun h' => Nat.le_trans h.bel.size h', h4.step g2 g3⟩, h.bel.trans hb'⟩
  · rw [← Ac.rsync_xsOf]
    rw [← Ac.rsync_xsOf] at h'
    exact h'.doc1 fun k hF => @rsync_of k fs (Ac.xsOf sg) lv W' hF (hA.rst hb.b hb.c)
theorem am_of {sg' : List Seg} {fs' fl : Files} {w' : World} {U : Nat → Prop} {hU : ∀ b, U b → b < W.heap.size} (h2 : @Fv (keepBut U W hU) W lv fl) (h3 : ∀ b, U b → w0.heap.size ≤ b) (h4 : Stay K U W) (hbel : Below w0.heap.size w0 W) (hN : LgN U W wv dv sg' fs' w') : Am K w0 w' wv dv lv sg' fs' fl := by
  obtain ⟨U', g1, g2, g3⟩ := hN
  have hb' : Below w0.heap.size W w' := ⟨g3.os, g3.tape, g3.output, g3.size, fun b hb => g3.block b (by have := hbel.size; omega) (fun hu => by have := h3 b hu; omega)⟩
  exact ⟨⟨U', g1.lt, g1, h2.kept g3 g2, fun b hb' => (g2 b hb').elim (h3 b) fun h' => Nat.le_trans hbel.size h', h4.step g2 g3⟩, hbel.trans hb'⟩

theorem am_cut (hT : Tb w0) (h : Am K w0 W wv dv lv sg fs fs) (hA : Ac.As sg fs B C) (hb : Bd B C) (ix : Nat) (hix : ix < 18446744073709551616) : ∃ (c : Nat) (sg' : List Seg) (fs' : Files), Ac.As sg' fs' B C ∧
    Calls Tryz.prog 10 #[wv, .int .u64 (ix : Int)] W (fun e w' => e = .returned (.int .i64 (c : Int)) ∧ Hid (Am K w0 w' wv dv lv sg' fs' fs)) ∧
    ∀ W', Am K w0 W' wv dv lv sg' fs' fs → Calls Tryz.prog 11 #[lv, .int .u64 (ix : Int)] W' fun e w' => ∃ a n p, e = .returned (.tuple #[.slice a n p, .int .i64 (c : Int)]) ∧ Am K w0 w' wv dv (.slice a n p) sg' fs' fs' := by
  have hw := hA.whole hb.b hb.c
  have hrst := hA.rst hb.b hb.c
  have h2w := hT.two
  obtain ⟨U, hU, h1, h2, h3, h4⟩ := id h.ex
  by_cases hin : ∃ s ∈ sg, hasIx s ix
  · obtain ⟨s, hsm, hx⟩ := id hin
    obtain ⟨i, hi⟩ := List.getElem?_of_mem hsm
    obtain ⟨-, -, -, a4, a5, -⟩ := hw.at_ s hsm
    obtain ⟨r0, hr0, hri0⟩ := has_rec a4 a5 hx
    refine ⟨0, _, _, (hA.cut hi hx).1, ?_, fun W' h' => ?_⟩
    · refine (cutfrom_w ix (h.tb hT) h1 (fun b hb => Nat.le_trans h2w (h3 b hb)) hw hix hin).mono ?_
      rintro e w' ⟨rfl, i', s', g1, g2, g3⟩
      obtain ⟨rfl, -⟩ := hA.place g1 g2 hi hr0 hri0
      rw [hi] at g1
      cases g1
      exact ⟨rfl, am_of h2 h3 h4 h.bel g3⟩
    · refine h'.doc (R := (cutFs sg i s (ix - firstIx s.recs) fs, 0)) fun k hF => (@rcut_of k fs (Ac.xsOf sg) ix lv W' hF hrst).mono fun e w' hC => ?_
      rcases hC with ⟨i', k', x, r, hx', hk', hr', told⟩ | ⟨hno, -⟩
      · obtain ⟨t, ht, rfl⟩ := Ac.xsOf_get hx'
        have hk2 : t.recs[k']? = some r := by rw [Ac.cutS_whole] at hk'; exact hk'
        obtain ⟨rfl, rfl⟩ := hA.place hi hx ht hk2 hr'
        rw [hi] at ht
        cases ht
        rw [Ac.rcut_xsOf fs hi] at told
        exact told
      · refine absurd hri0 (hno i (s, sz s.recs) ?_ (ix - firstIx s.recs) r0 (by rw [Ac.cutS_whole]; exact hr0))
        unfold Ac.xsOf
        rw [List.getElem?_map, hi]
        rfl
  · have hno : ∀ s ∈ sg, ¬ hasIx s ix := fun s hs hx => hin ⟨s, hs, hx⟩
    refine ⟨4, sg, fs, hA, (cutfrom_no ix (h.tb hT) h1 hw hix hno).mono fun e w' hh => ⟨hh.1, h.below hh.2⟩, fun W' h' => ?_⟩
    refine h'.doc (R := (fs, 4)) fun k hF => (@rcut_of k fs (Ac.xsOf sg) ix lv W' hF hrst).mono fun e w' hC => ?_
    rcases hC with ⟨i', k', x, r, hx', hk', hr', -⟩ | ⟨-, told⟩
    · obtain ⟨t, ht, rfl⟩ := Ac.xsOf_get hx'
      have hk2 : t.recs[k']? = some r := by rw [Ac.cutS_whole] at hk'; exact hk'
      exact absurd (hr' ▸ hA.hasIx ht hk2) (hno t (List.mem_of_getElem? ht))
    · exact told

theorem am_comp (hT : Tb w0) (h : Am K w0 W wv dv lv sg fs fs) (hA : Ac.As sg fs B C) (hb : Bd B C) (ix : Nat) (hix : ix < 18446744073709551616) : ∃ (c : Nat) (sg' : List Seg) (fs' : Files), Ac.As sg' fs' B C ∧
    Calls Tryz.prog 12 #[wv, .int .u64 (ix : Int)] W (fun e w' => e = .returned (.int .i64 (c : Int)) ∧ Hid (Am K w0 w' wv dv lv sg' fs' fs)) ∧
    ∀ W', Am K w0 W' wv dv lv sg' fs' fs → Calls Tryz.prog 13 #[lv, .int .u64 (ix : Int)] W' fun e w' => ∃ a n p, e = .returned (.tuple #[.slice a n p, .int .i64 (c : Int)]) ∧ Am K w0 w' wv dv (.slice a n p) sg' fs' fs' := by
  have hw := hA.whole hb.b hb.c
  have hrst := hA.rst hb.b hb.c
  have h2w := hT.two
  obtain ⟨U, hU, h1, h2, h3, h4⟩ := id h.ex
  by_cases hin : ∃ s ∈ sg, hasIx s ix
  · obtain ⟨s, hsm, hx⟩ := id hin
    obtain ⟨i, hi⟩ := List.getElem?_of_mem hsm
    obtain ⟨-, -, -, a4, a5, -⟩ := hw.at_ s hsm
    obtain ⟨r0, hr0, hri0⟩ := has_rec a4 a5 hx
    have hsg : 0 < sg.length := by have := (List.getElem?_eq_some_iff.1 hi).1; omega
    -- how many first segments go
    obtain ⟨n, hn, n1, n2⟩ : ∃ n, n < sg.length ∧ (∀ (j : Nat) (t : Seg), j < n → sg[j]? = some t → lastIx 0 t.recs ≤ ix) ∧ (n + 1 < sg.length → ∀ t, sg[n]? = some t → ix < lastIx 0 t.recs) := first_n sg ix hsg
    refine ⟨0, sg.drop n, rmN ((sg.take n).map Seg.num) fs, hA.compact hb.c n hn, ?_, fun W' h' => ?_⟩
    · refine (compact_w ix (h.tb hT) h1 (fun b hb => Nat.le_trans h2w (h3 b hb)) hw hix).mono ?_
      rintro e w' (⟨-, rfl, m, m0, m1, m2, g3⟩ | ⟨hno, -⟩)
      · obtain rfl := Ac.comp_same hn m0 n1 n2 m1 m2
        exact ⟨rfl, am_of h2 h3 h4 h.bel g3⟩
      · exact absurd hx (hno s hsm)
    · refine h'.doc (R := (rmN ((sg.take n).map Seg.num) fs, 0)) fun k hF => (@rcompact_of k fs (Ac.xsOf sg) ix lv W' hF hrst).mono fun e w' hC => ?_
      rcases hC with ⟨i', k', m, x, r, hx', hk', hr', m0, m1, m2, told⟩ | ⟨hno, -⟩
      · have hget : ∀ (j : Nat) (t : Seg), sg[j]? = some t → (Ac.xsOf sg)[j]? = some (t, sz t.recs) := fun j t ht => by
          unfold Ac.xsOf
          rw [List.getElem?_map, ht]
          rfl
        rw [Ac.xsOf_len] at m0 m2
        obtain rfl := Ac.comp_same hn m0 n1 n2 (fun j t hj ht => by
          have := m1 j _ hj (hget j t ht)
          rw [Ac.cutS_whole] at this
          exact this) (fun hm t ht => by
          have := m2 hm _ (hget m t ht)
          rw [Ac.cutS_whole] at this
          exact this)
        rw [Ac.rmFst_xsOf] at told
        exact told
      · refine absurd hri0 (hno i (s, sz s.recs) ?_ (ix - firstIx s.recs) r0 (by rw [Ac.cutS_whole]; exact hr0))
        unfold Ac.xsOf
        rw [List.getElem?_map, hi]
        rfl
  · have hno : ∀ s ∈ sg, ¬ hasIx s ix := fun s hs hx => hin ⟨s, hs, hx⟩
    refine ⟨4, sg, fs, hA, ?_, fun W' h' => ?_⟩
    · refine (compact_w ix (h.tb hT) h1 (fun b hb => Nat.le_trans h2w (h3 b hb)) hw hix).mono ?_
      rintro e w' (⟨hy, -⟩ | ⟨-, rfl, g3⟩)
      · exact absurd hy hin
      · exact ⟨rfl, am_of h2 h3 h4 h.bel g3⟩
    · refine h'.doc (R := (fs, 4)) fun k hF => (@rcompact_of k fs (Ac.xsOf sg) ix lv W' hF hrst).mono fun e w' hC => ?_
      rcases hC with ⟨i', k', m, x, r, hx', hk', hr', -⟩ | ⟨-, told⟩
      · obtain ⟨t, ht, rfl⟩ := Ac.xsOf_get hx'
        have hk2 : t.recs[k']? = some r := by rw [Ac.cutS_whole] at hk'; exact hk'
        exact absurd (hr' ▸ hA.hasIx ht hk2) (hno t (List.mem_of_getElem? ht))
      · exact told
end
end Go.Proofs.YtgfoogeiancecaaGreatDoor

/- The state of WalActs in memory, further: what appends and crashes leave. -/
namespace Go.Proofs.YtgfoogeiancecaaGreatDoor
open Go.RowKit WalMath DiskMath
set_option maxRecDepth 100000
set_option linter.unusedSimpArgs false
set_option linter.unusedVariables false

theorem rec_over {r : Rec} (hok : okRec r) : (recB r).length ≤ r.data.length + 30 := by
  have := rec_small hok
  have hlen4 := hok.2.2.1
  unfold recB
  rw [FrameMath.frameB_length]
  have h1 := WireMath.uv_len10 hok.2.1
  have h2 : (WireMath.uv ((WireMath.uv r.index ++ r.data).length + 5)).length ≤ 10 := WireMath.uv_len10 (by rw [List.length_append]; omega)
  rw [List.length_append] at *
  omega

theorem bs_at {w0 W : World} {bv : Value} {l : List Nat} (h : @Bs keepAll w0.heap.size w0 bv l) (hb : Below w0.heap.size w0 W) : @Bs keepAll W.heap.size W bv l := by
  letI := keepAll
  exact (h.below hb).mono hb.size

section
variable {K : List (Nat × Obj)} {w0 W : World} {wv dv lv : Value} {sg : List Seg} {fs : Files} {B C : Nat}

theorem as_last {h : Ac.As sg fs B C} : (recsOf sg = [] ∧ lastIx 0 (recsOf sg) = 0) ∨ (recsOf sg ≠ [] ∧ lastIx 0 (recsOf sg) ≠ 0 ∧ lastIx 0 (recsOf sg) < 18446744073709551616) := by
  obtain ⟨o, hidx⟩ := h.idx
  by_cases he : recsOf sg = []
  · exact .inl ⟨he, by rw [he]; rfl⟩
  · refine .inr ⟨he, ?_⟩
    rw [hidx.last0 he]
    have hl : 0 < (recsOf sg).length := List.length_pos_iff.2 he
    have hg := List.getElem?_eq_getElem (l := recsOf sg) (i := (recsOf sg).length - 1) (by omega)
    have h1 := hidx _ _ hg
    have h2 := (h.ok _ (List.getElem_mem (l := recsOf sg) (n := (recsOf sg).length - 1) (by omega))).2.1
    omega

theorem am_app (hT : Tb w0) (h : Am K w0 W wv dv lv sg fs fs) (hA : Ac.As sg fs B C) (r : Rec) (bv : Value) (hix : r.index < 18446744073709551616) (hby : ∀ c ∈ r.data, c < 256) (hBv : @Bs keepAll w0.heap.size w0 bv r.data) (hb : Bd (B + r.data.length + 30) (C + 1)) : ∃ (c : Nat) (sg' : List Seg) (fs' : Files), Ac.As sg' fs' (B + r.data.length + 30) (C + 1) ∧
    Calls Tryz.prog 17 #[wv, .agg #[.int .u64 (r.index : Int), bv]] W (fun e w' => e = .returned (.int .i64 (c : Int)) ∧ Hid (Am K w0 w' wv dv lv sg' fs' fs)) ∧
    ∀ W', Am K w0 W' wv dv lv sg' fs' fs → Calls Tryz.prog 18 #[lv, .agg #[.int .u64 (r.index : Int), bv]] W' fun e w' => ∃ a n p, e = .returned (.tuple #[.slice a n p, .int .i64 (c : Int)]) ∧ Am K w0 w' wv dv (.slice a n p) sg' fs' fs' := by
  have hB0 : B ≤ 42500 := by have := hb.b; omega
  have hC0 : C ≤ 1000 := by have := hb.c; omega
  have hbb := hb.b
  have hw := hA.whole hB0 hC0
  have hF := hA.few hB0 hC0
  have hrst := hA.rst hB0 hC0
  have h2w := hT.two
  obtain ⟨U, hU, h1, h2, h3, h4⟩ := id h.ex
  have hsd : SoundF fs := by
    obtain ⟨S, σ, q, sv, -, hD, -⟩ := h1.ex
    exact diskOf.sound hD
  have hBW : @Bs keepAll W.heap.size W bv r.data := bs_at hBv h.bel
  have kdoc : ∀ {c : Nat} {sg' : List Seg} {fs' : Files}, rappF fs (Ac.xsOf sg) r = (fs', c) → ∀ W', Am K w0 W' wv dv lv sg' fs' fs → Calls Tryz.prog 18 #[lv, .agg #[.int .u64 (r.index : Int), bv]] W' fun e w' => ∃ a n p, e = .returned (.tuple #[.slice a n p, .int .i64 (c : Int)]) ∧ Am K w0 w' wv dv (.slice a n p) sg' fs' fs' := fun {c sg' fs'} he W' h' => by
    refine h'.doc (R := (fs', c)) fun k hF => ?_
    have := @rapp_of k fs (Ac.xsOf sg) r lv bv W' hF hrst hsd (bs_at hBv h'.bel).fr hix hby (by omega)
    rw [he] at this
    exact this
  have hmono : Ac.As sg fs (B + r.data.length + 30) (C + 1) := hA.mono (by omega) (by omega)
  obtain ⟨ba, bc, hbv, -⟩ := id hBW
  by_cases h0 : r.index = 0
  · refine ⟨1, sg, fs, hmono, ?_, kdoc (Ac.rapp_zero sg fs r h0)⟩
    rw [h0, hbv]
    exact (append_zero ba _ bc (h.tb hT) h1 hw.cons).mono fun e w' hh => ⟨hh.1, h.below hh.2⟩
  by_cases hl : 4096 < r.data.length
  · refine ⟨3, sg, fs, hmono, ?_, kdoc (Ac.rapp_long sg fs r h0 hl)⟩
    rw [hbv]
    exact (append_long r.index ba _ bc (h.tb hT) h1 hw.cons (by omega) hl).mono fun e w' hh => ⟨hh.1, h.below hh.2⟩
  have hok : okRec r := ⟨by omega, hix, by omega, hby⟩
  have hok1 : ∀ (hr : recsOf sg = [] ∨ r.index = lastIx 0 (recsOf sg) + 1), ∃ (c : Nat) (sg' : List Seg) (fs' : Files), Ac.As sg' fs' (B + r.data.length + 30) (C + 1) ∧
      Calls Tryz.prog 17 #[wv, .agg #[.int .u64 (r.index : Int), bv]] W (fun e w' => e = .returned (.int .i64 (c : Int)) ∧ Hid (Am K w0 w' wv dv lv sg' fs' fs)) ∧
      ∀ W', Am K w0 W' wv dv lv sg' fs' fs → Calls Tryz.prog 18 #[lv, .agg #[.int .u64 (r.index : Int), bv]] W' fun e w' => ∃ a n p, e = .returned (.tuple #[.slice a n p, .int .i64 (c : Int)]) ∧ Am K w0 w' wv dv (.slice a n p) sg' fs' fs' := fun hr => by
    have hov := rec_over hok
    obtain ⟨hn, -, fs2, hap, hA2⟩ := hA.append r hok (by omega) hr (by omega) hC0
    refine ⟨0, _, fs2, hA2.mono (by omega) (Nat.le_refl _), ?_, kdoc (Ac.rapp_ok hA hB0 hC0 r hok hr hn hap)⟩
    exact (append_ok r (h.tb hT) h1 (fun b hb => Nat.le_trans h2w (h3 b hb)) hw.cons hF hok hBW (hr.imp (fun h => by rw [h]; rfl) id) hn hap).mono fun e w' hh => ⟨hh.1, am_of h2 h3 h4 h.bel hh.2⟩
  rcases as_last (h := hA) with ⟨he, -⟩ | ⟨hne, hl0, hl1⟩
  · exact hok1 (.inl he)
  · by_cases hg : r.index = lastIx 0 (recsOf sg) + 1
    · exact hok1 (.inr hg)
    · refine ⟨12, sg, fs, hmono, ?_, kdoc (Ac.rapp_gap sg fs r h0 hl hne hg hl1)⟩
      rw [hbv]
      exact (append_gap r.index ba _ bc (h.tb hT) h1 hw.cons (fun s hs => by have := (hw.at_ s hs).2.1; omega) (by omega) (by omega) hl0 hl1 hg).mono fun e w' hh => ⟨hh.1, h.below hh.2⟩

theorem am_crash (hT : Tb w0) (h : Am K w0 W wv dv lv sg fs fs) (hA : Ac.As sg fs B C) (hb : Bd B C) (cv : Value) (cuts : List Int) (hN : Nv w0 cv cuts) : ∃ (sg' : List Seg) (f1 fs' : Files), Ac.As sg' fs' B C ∧
    Calls Tryz.prog 14 #[dv, cv] W (fun e w' => e = .returned (.tuple #[]) ∧ Hid (Dm K w0 w' dv lv f1 fs)) ∧
    (∀ W', Dm K w0 W' dv lv f1 fs → Calls Tryz.prog 16 #[lv, cv] W' fun e w' => ∃ a n p, e = .returned (.slice a n p) ∧ Dm K w0 w' dv (.slice a n p) f1 f1) ∧
    (∀ W' lv', Dm K w0 W' dv lv' f1 f1 → Calls Tryz.prog 15 #[lv'] W' fun e w' => ∃ a n p, e = .returned (.slice a n p) ∧ Dm K w0 w' dv (.slice a n p) f1 fs') ∧
    (∀ W' lv', Dm K w0 W' dv lv' f1 fs' → Calls Tryz.prog 5 #[dv] W' fun e w' => ∃ q, e = .returned (.tuple #[.pointer (some ⟨q, 0, none⟩), .int .i64 0]) ∧ Am K w0 w' (.pointer (some ⟨q, 0, none⟩)) dv lv' sg' fs' fs') := by
  obtain ⟨U, hU, h1, h2, h3, h4⟩ := id h.ex
  obtain ⟨S, σ, q, sv, rfl, hD, hW, hS, hUS⟩ := h1.ex
  have hsd := diskOf.sound hD
  have h2w := hT.two
  obtain ⟨xs, hrst, hA'⟩ := hA.crash cuts hb.b hb.c
  have hS0 : ∀ b, S b → w0.heap.size ≤ b := fun b hb => h3 b ((hUS b).2 (.inl hb))
  have hF2 : @Fv (keepBut S W (diskOf.lt hD)) W lv fs := h2.imp (fun b _ hk hs => hk ((hUS b).2 (.inl hs))) (Nat.le_refl _)
  have hst2 : Stay K S W := fun x hx => ⟨fun hs => (h4 x hx).1 ((hUS x.1).2 (.inl hs)), (h4 x hx).2⟩
  have hbk : ∀ {w'}, Kept S W w' → Below w0.heap.size W w' := fun {w'} g => ⟨g.os, g.tape, g.output, g.size, fun b hb => g.block b (by have := h.bel.size; omega) (fun hu => by have := hS0 b hu; omega)⟩
  refine ⟨xs.map cutS, crash fs cuts, leaveF (xs.map cutS) (crash fs cuts), hA', ?_, fun W' h' => ?_, fun W' lv' h' => ?_, fun W' lv' h' => ?_⟩
  · refine (dcrash_of cv cuts hD (fun w' hk => hN.below (h.bel.trans (hbk hk)))).mono ?_
    rintro e w' ⟨rfl, S', g1, g2, g3⟩
    exact ⟨rfl, ⟨S', diskOf.lt g1, g1, hF2.kept g3 g2, fun b hb' => (g2 b hb').elim (hS0 b) fun h' => Nat.le_trans h.bel.size h', hst2.step g2 g3⟩, h.bel.trans (hbk g3)⟩
  · exact h'.doc1 fun k hF => (@crash_of k fs cuts lv cv W' hF (hN.below h'.bel) (by have := hsd.2.1; omega) (fun f hf => ⟨(hsd.2.2 f hf).2.2, (hsd.2.2 f hf).2.1⟩)).mono fun e w' hh => by
      obtain ⟨ov, he, hO, hb'⟩ := hh
      exact ⟨ov, he, @Fo.fv k _ _ _ _ hO, hb'⟩
  · rw [← Ac.ropen_xs]
    exact h'.doc1 fun k hF => @ropen_of k (crash fs cuts) xs lv' W' hF hrst
  · obtain ⟨S1, hS1, g1, g2, g3, g4⟩ := h'.ex
    refine (opens_of xs (hT.new h'.bel) g1 (fun b hb => Nat.le_trans h2w (g3 b hb)) hrst.rd hrst.fs).mono ?_
    rintro e w' ⟨v, U', rfl, j1, j2, j3⟩
    obtain ⟨_, _, q', _, rfl, -⟩ := j1.ex
    have hb' : Below w0.heap.size W' w' := ⟨j3.os, j3.tape, j3.output, j3.size, fun b hb => j3.block b (by have := h'.bel.size; omega) (fun hu => by have := g3 b hu; omega)⟩
    exact ⟨q', rfl, ⟨U', j1.lt, j1, g2.kept j3 j2, fun b hb' => (j2 b hb').elim (g3 b) fun h'' => Nat.le_trans h'.bel.size h'', g4.step j2 j3⟩, h'.bel.trans hb'⟩
end
end Go.Proofs.YtgfoogeiancecaaGreatDoor

/- The law WalActs. -/
namespace Go.Proofs.YtgfoogeiancecaaGreatDoor
open Go.RowKit WalMath DiskMath
set_option maxRecDepth 100000
set_option linter.unusedSimpArgs false
set_option linter.unusedVariables false

/-- The state at the loop's head, i acts being done. -/
def ActI (w0 : World) (l : List Wc) (dv : Value) (i : Nat) (wv lv : Value) (W : World) : Prop := ∃ sg fs, Am [] w0 W wv dv lv sg fs fs ∧ Ac.As sg fs (totB (l.take i) + 30 * i) i
theorem Wv.below {w w' : World} {v : Value} {l : List Wc} (h : Wv w v l) (hb : Below w.heap.size w w') : Wv w' v l := by
  letI := keepAll
  obtain ⟨ao, cap, e, h0, h1, h2⟩ := h
  refine ⟨ao, cap, e, h0, h1, fun i x hx => ?_⟩
  obtain ⟨b, off, vs, r1, ⟨bv, cv, e2, hB, hN⟩, r3⟩ := h2 i x hx
  exact ⟨b, off, vs, r1, ⟨bv, cv, e2, (hB.below hb).mono hb.size, hN.below hb⟩, fun j u hu => (hb.cell (p := ⟨b, off + i * 5 + j, none⟩) (World.block_lt_of_cell? w _ (r3 j u hu))).trans (r3 j u hu)⟩
theorem light_bound {l : List Wc} (h : LightL l) {i : Nat} (hi : i < l.length) : totB (l.take i) + 30 * i ≤ 42500 ∧ i ≤ 999 ∧ totB (l.take i) + 30 * i + l[i].b.length + 30 ≤ 42500 ∧ totB (l.take (i + 1)) = totB (l.take i) + l[i].b.length := by
  have e : totB (l.take (i + 1)) = totB (l.take i) + l[i].b.length := by rw [List.take_succ_eq_append_getElem hi, totB_snoc]
  have e2 : totB (l.take (i + 1)) ≤ totB l := by
    have := totB_append (l.take (i + 1)) (l.drop (i + 1))
    rw [List.take_append_drop] at this
    omega
  obtain ⟨h1, h2⟩ := h
  omega
/-- A box is kept that was made behind the state. -/
theorem Am.boxed {w0 W W' : World} {wv dv lv : Value} {sg : List Seg} {fs fl : Files} (h : Am [] w0 W wv dv lv sg fs fl) (hb : Below W.heap.size W W') (x : Nat × Obj) (hx : W.heap.size ≤ x.1) (ho : W'.heap[x.1]? = some x.2) : Am [x] w0 W' wv dv lv sg fs fl := by
  obtain ⟨U, hU, h1, h2, h3, h4⟩ := h.ex
  have h1' := h1.below hb
  have h2' : @Fv (keepBut U W' h1'.lt) W' lv fl := (@Fv.below (keepBut U W hU) _ _ _ _ h2 hb).renew
  refine ⟨⟨U, h1'.lt, h1', h2', h3, fun y hy => ?_⟩, h.bel.trans (hb.mono h.bel.size)⟩
  rw [List.mem_singleton.1 hy]
  exact ⟨fun hs => by have := hU _ hs; omega, ho⟩

theorem act_set {w : World} {g : Nat} {a b c d e : Value} {t : TypeId} (h : w.heap[g]? = some (.cells #[a, b, c, d, e] t (0, 0))) (y : Value) : (w.setCell ⟨g, 1, none⟩ y).heap[g]? = some (.cells #[a, y, c, d, e] t (0, 0)) := by
  have hl := (Array.getElem?_eq_some_iff.1 h).1
  have h2 := (Array.getElem?_eq_some_iff.1 h).2
  simp [World.setCell, hl, Array.getElem_modify, h2]

set_option maxHeartbeats 8000000 in
theorem walacts_of (l0 : List Wc) (lv : Value) (w : World) (hT : Tb w) (hV : Wv w lv l0) (hok0 : ∀ x ∈ l0, WcOk x) (hsz : ∀ x ∈ l0, x.b.length ≤ 4611686018427387) :
    Calls Tryz.prog 3 #[lv] w fun e w' => e = .returned (.bool true) ∧ Below w.heap.size w w' := by
  letI := keepAll
  have h0 := dnew_of w
  have h2w := hT.two
  have hlit : ∀ W, Below w.heap.size w W → Calls Tryz.prog 6 #[lv] W (LightT W lv l0) := fun W hb => light_of l0 lv W (hV.below hb) hsz
  obtain ⟨la, lc, rfl, -⟩ := id hV
  go_enter Tryz.func3, Tryz.ntmps3
  go_wp2_with fail
  refine h0.mono ?_
  rintro e w1 ⟨S1, d, rfl, hD1, hS1, hb1⟩
  have k1 := opens_of [] (hT.new hb1) hD1 (fun b hb => Nat.le_trans h2w (hS1 b hb)) ⟨(fun i x y hx => by simp at hx), (fun x hx => by cases hx), (fun x hx => by cases hx), trivial, (fun i x hx => by simp at hx), (fun x hx => by cases hx), by simp⟩ ⟨rfl, (fun i f x hf => by simp at hf)⟩
  obtain ⟨dq, rfl⟩ := hD1.shape
  clear h0
  go_wp2_with fail
  refine k1.mono ?_
  rintro e w2 ⟨v, U, rfl, g1, g2, g3⟩
  obtain ⟨_, _, vq, _, rfl, -⟩ := id g1.ex
  have hb2 : Below w.heap.size w1 w2 := ⟨g3.os, g3.tape, g3.output, g3.size, fun b hb => g3.block b (by have := hb1.size; omega) (fun hu => by have := hS1 b hu; omega)⟩
  have B2 := hb1.trans hb2
  have hx2 : Below w2.heap.size w2 (w2.alloc (.cells #[] 71)) := (Below.refl _ _).alloc (Nat.le_refl _) _
  have B3 := B2.trans (hx2.mono B2.size)
  have hI0 : ∀ l, ActI w l (.pointer (some ⟨dq, 0, none⟩)) 0 (.pointer (some ⟨vq, 0, none⟩)) (.slice (some ⟨w2.heap.size, 0, none⟩) 0 0) (w2.alloc (.cells #[] 71)) := fun l => by
    have hL2 : Lg U w2 (.pointer (some ⟨vq, 0, none⟩)) (.pointer (some ⟨dq, 0, none⟩)) [] [] := g1
    have hL3 := hL2.below hx2
    exact ⟨[], [], ⟨⟨U, hL3.lt, hL3, ⟨Nat.le_refl _, _, _, rfl, fun i f hf => by simp at hf⟩, fun b hb => (g2 b hb).elim (hS1 b) (fun h => Nat.le_trans hb1.size h), fun x hx => by cases hx⟩, B3⟩, Ac.As.nil _ _⟩
  have k2 := hlit _ B3
  clear k1 hD1 g1 g2 g3 hlit
  go_wp2_with fail
  refine k2.mono ?_
  rintro e w3 ⟨rfl, la2, lc2, kk, e2, rfl, hkk, hLL⟩
  cases e2
  have hok : ∀ x ∈ l0.take kk, WcOk x := fun x hx => hok0 x (List.mem_of_mem_take hx)
  have hV0 : Wv w (.slice la kk lc) (l0.take kk) := hV.took kk hkk
  have hkl : (l0.take kk).length = kk := by rw [List.length_take]; omega
  clear k2 hV hsz hok0
  generalize l0.take kk = l at *
  subst hkl
  have hI := hI0 l
  clear hI0
  obtain ⟨la', lc', e3, -, -, hat⟩ := id hV0
  cases e3
  go_wp2
  go_loopg [4, 6, 7] l.length (fun g s4 s6 s7 wr => ∃ i : Nat, i + g = l.length ∧ s7 = .int .i64 (i : Int) ∧ ActI w l (.pointer (some ⟨dq, 0, none⟩)) i s4 s6 wr)
  case atStart => exact ⟨0, by simp, rfl, hI⟩
  case round =>
    obtain ⟨i, hi, rfl, hSt⟩ := hrel
    clear hI hx2 B3 B2 hb2 hb1
    by_cases hlt : i < l.length
    · have hlti : (i : Int) < (l.length : Int) := by omega
      have hx : l[i]? = some l[i] := List.getElem?_eq_getElem hlt
      obtain ⟨b, off, vs, rfl, ⟨bv, cv, rfl, hB, hN⟩, hc⟩ := hat i l[i] hx
      obtain ⟨q1, q2, q3, q4⟩ := light_bound hLL hlt
      have hxk := hok l[i] (List.getElem_mem hlt)
      obtain ⟨sg, fs, hM, hA⟩ := hSt
      have hbw := hM.bel
      have hcell : ∀ (j : Nat) (u : Value), [Value.int .i64 l[i].what, .int .u64 (l[i].idx : Int), .bool l[i].step, bv, cv][j]? = some u → wr.cell? ⟨b, off + i * 5 + j, none⟩ = some u := fun j u hu => (hbw.cell (p := ⟨b, off + i * 5 + j, none⟩) (World.block_lt_of_cell? w _ (hc j u hu))).trans (hc j u hu)
      have c0 := hcell 0 _ rfl
      have c1 := hcell 1 _ rfl
      have c2 := hcell 2 _ rfl
      have c3 := hcell 3 _ rfl
      have c4 := hcell 4 _ rfl
      rw [Nat.add_zero] at c0
      generalize l[i] = x at *
      obtain ⟨ab, cb, rfl, hb1, hb2, -⟩ := id hB
      obtain ⟨an, cn, rfl, -⟩ := id hN
      obtain ⟨⟨sq, rfl⟩, -, ⟨a5, n5, p5, rfl⟩⟩ := hM.shape
      have hbd : Bd (totB (l.take i) + 30 * i) i := ⟨q1, by omega⟩
      have hbd2 : Bd (totB (l.take i) + 30 * i + x.b.length + 30) (i + 1) := ⟨q3, by omega⟩
      have hxa : Below wr.heap.size wr (wr.alloc (.cells #[.int .i64 x.what, .int .u64 (x.idx : Int), .bool x.step, .slice ab x.b.length cb, .slice an x.cuts.length cn] 35)) := (Below.refl _ _).alloc (Nat.le_refl _) _
      have hbk := heap_alloc_new wr (.cells #[.int .i64 x.what, .int .u64 (x.idx : Int), .bool x.step, .slice ab x.b.length cb, .slice an x.cuts.length cn] 35)
      clear hcell hc hx hat hV0 hbw
      generalize x.what = xw at *
      by_cases hst : x.step = true
      · rw [hst] at c2 hxa hbk
        have kl := am_last hT (hM.below hxa) hA hbd
        obtain ⟨ix, hwx, hix⟩ : ∃ ix : Nat, IntKind.u64.wrap ((lastIx 0 (recsOf sg) : Int) + 1) = (ix : Int) ∧ ix < 18446744073709551616 := by
          refine ⟨((lastIx 0 (recsOf sg) + 1) % 18446744073709551616), ?_, Nat.mod_lt _ (by omega)⟩
          rw [IntKind.wrap_u64]
          omega
        generalize lastIx 0 (recsOf sg) = L at *
        go_wp2_with fail
        refine kl.mono ?_
        rintro e w4 ⟨rfl, b4⟩
        have hb4 := (b4.block wr.heap.size (by simp)).trans hbk
        have hbw4 := hxa.trans (b4.mono hxa.size)
        have hM5 : Am [(wr.heap.size, Obj.cells #[.int .i64 xw, .int .u64 (ix : Int), .bool true, .slice ab x.b.length cb, .slice an x.cuts.length cn] 35 (0, 0))] w (w4.setCell ⟨wr.heap.size, 1, none⟩ (.int .u64 (ix : Int))) (.pointer (some ⟨sq, 0, none⟩)) (.pointer (some ⟨dq, 0, none⟩)) (.slice a5 n5 p5) sg fs fs :=
          hM.boxed (hbw4.setCell (p := ⟨wr.heap.size, 1, none⟩) (Nat.le_refl _) _) (wr.heap.size, _) (Nat.le_refl _) (act_set hb4 _)
        have e1 : w4.cell? ⟨wr.heap.size, 1, none⟩ = some (.int .u64 (x.idx : Int)) := by rw [cells_of_block hb4]; rfl
        have e2 : w4.frozen? ⟨wr.heap.size, 1, none⟩ = false := frozen_of hb4 1
        obtain ⟨W5, hW5⟩ : ∃ W5, w4.setCell ⟨wr.heap.size, 1, none⟩ (.int .u64 (ix : Int)) = W5 := ⟨_, rfl⟩
        rw [hW5] at hM5
        obtain ⟨st, hst5⟩ : ∃ st, Hid (st = true) := ⟨_, rfl⟩
        rw [← hst5.out] at hM5
        have hb5 := hM5.at (List.mem_singleton.2 rfl)
        have f0 : W5.cell? ⟨wr.heap.size, 0, none⟩ = some (.int .i64 xw) := by rw [cells_of_block hb5]; rfl
        clear c0 c1 c2 c3 c4 kl hM hbk hxa hb4 hbw4 b4 hb5 hst
        by_cases h1 : xw = 1
        · subst h1
          obtain ⟨hA1, k1, k2⟩ := am_sync hT hM5 hA hbd
          clear hM5
          go_wp2_with fail
          refine k1.mono ?_
          rintro e w6 ⟨rfl, hM6⟩
          have k3 := k2 w6 hM6.out
          clear k1 k2 hM6
          go_wp2_with fail
          refine k3.mono ?_
          rintro e w7 ⟨a6, n6, p6, rfl, hM⟩
          clear k3
          have kI := am_is hT hM hA1 hbd
          have hfin : ∀ w', Am [(wr.heap.size, Obj.cells #[.int .i64 1, .int .u64 (ix : Int), .bool st, .slice ab x.b.length cb, .slice an x.cuts.length cn] 35 (0, 0))] w w' (.pointer (some ⟨sq, 0, none⟩)) (.pointer (some ⟨dq, 0, none⟩)) (.slice a6 n6 p6) sg (syncF sg fs) (syncF sg fs) → Hid (ActI w l (.pointer (some ⟨dq, 0, none⟩)) (i + 1) (.pointer (some ⟨sq, 0, none⟩)) (.slice a6 n6 p6) w') := fun w' h => ⟨_, _, h.unbox (fun x hx => by cases hx), hA1.mono (by omega) (by omega)⟩
          clear hM
          go_wp2_with fail
          refine kI.mono ?_
          rintro e w9 ⟨rfl, hM9⟩
          have hf := hfin w9 hM9
          clear kI hfin hM9
          go_wp2
          go_roundg (gk - 1)
          case measure => omega
          case rel => exact ⟨i + 1, by omega, by go_num, hf.out⟩
        · by_cases h2 : xw = 2
          · subst h2
            obtain ⟨c, sg1, fs1, hA1, k1, k2⟩ := am_cut hT hM5 hA hbd ix hix
            have c1 : W5.cell? ⟨wr.heap.size, 1, none⟩ = some (.int .u64 (ix : Int)) := by rw [cells_of_block (hM5.at (List.mem_singleton.2 rfl))]; rfl
            clear hM5
            go_wp2_with fail
            refine k1.mono ?_
            rintro e w6 ⟨rfl, hM6⟩
            have k3 := k2 w6 hM6.out
            have c2 : w6.cell? ⟨wr.heap.size, 1, none⟩ = some (.int .u64 (ix : Int)) := by rw [cells_of_block (hM6.out.at (List.mem_singleton.2 rfl))]; rfl
            clear k1 k2 hM6 c1
            go_wp2_with fail
            refine k3.mono ?_
            rintro e w7 ⟨a6, n6, p6, rfl, hM⟩
            clear k3 c2
            have kI := am_is hT hM hA1 hbd
            have hfin : ∀ w', Am [(wr.heap.size, Obj.cells #[.int .i64 2, .int .u64 (ix : Int), .bool st, .slice ab x.b.length cb, .slice an x.cuts.length cn] 35 (0, 0))] w w' (.pointer (some ⟨sq, 0, none⟩)) (.pointer (some ⟨dq, 0, none⟩)) (.slice a6 n6 p6) sg1 fs1 fs1 → Hid (ActI w l (.pointer (some ⟨dq, 0, none⟩)) (i + 1) (.pointer (some ⟨sq, 0, none⟩)) (.slice a6 n6 p6) w') := fun w' h => ⟨_, _, h.unbox (fun x hx => by cases hx), hA1.mono (by omega) (by omega)⟩
            clear hM
            go_wp2_with fail
            refine kI.mono ?_
            rintro e w9 ⟨rfl, hM9⟩
            have hf := hfin w9 hM9
            clear kI hfin hM9
            go_wp2
            go_roundg (gk - 1)
            case measure => omega
            case rel => exact ⟨i + 1, by omega, by go_num, hf.out⟩
          · by_cases h3 : xw = 3
            · subst h3
              obtain ⟨c, sg1, fs1, hA1, k1, k2⟩ := am_comp hT hM5 hA hbd ix hix
              have c1 : W5.cell? ⟨wr.heap.size, 1, none⟩ = some (.int .u64 (ix : Int)) := by rw [cells_of_block (hM5.at (List.mem_singleton.2 rfl))]; rfl
              clear hM5
              go_wp2_with fail
              refine k1.mono ?_
              rintro e w6 ⟨rfl, hM6⟩
              have k3 := k2 w6 hM6.out
              have c2 : w6.cell? ⟨wr.heap.size, 1, none⟩ = some (.int .u64 (ix : Int)) := by rw [cells_of_block (hM6.out.at (List.mem_singleton.2 rfl))]; rfl
              clear k1 k2 hM6 c1
              go_wp2_with fail
              refine k3.mono ?_
              rintro e w7 ⟨a6, n6, p6, rfl, hM⟩
              clear k3 c2
              have kI := am_is hT hM hA1 hbd
              have hfin : ∀ w', Am [(wr.heap.size, Obj.cells #[.int .i64 3, .int .u64 (ix : Int), .bool st, .slice ab x.b.length cb, .slice an x.cuts.length cn] 35 (0, 0))] w w' (.pointer (some ⟨sq, 0, none⟩)) (.pointer (some ⟨dq, 0, none⟩)) (.slice a6 n6 p6) sg1 fs1 fs1 → Hid (ActI w l (.pointer (some ⟨dq, 0, none⟩)) (i + 1) (.pointer (some ⟨sq, 0, none⟩)) (.slice a6 n6 p6) w') := fun w' h => ⟨_, _, h.unbox (fun x hx => by cases hx), hA1.mono (by omega) (by omega)⟩
              clear hM
              go_wp2_with fail
              refine kI.mono ?_
              rintro e w9 ⟨rfl, hM9⟩
              have hf := hfin w9 hM9
              clear kI hfin hM9
              go_wp2
              go_roundg (gk - 1)
              case measure => omega
              case rel => exact ⟨i + 1, by omega, by go_num, hf.out⟩
            · by_cases h4 : xw = 4
              · subst h4
                obtain ⟨sg1, f1, fs1, hA1, k1, k2, k3, k4⟩ := am_crash hT hM5 hA hbd (.slice an x.cuts.length cn) x.cuts hN
                have c1 : W5.cell? ⟨wr.heap.size, 4, none⟩ = some (.slice an x.cuts.length cn) := by rw [cells_of_block (hM5.at (List.mem_singleton.2 rfl))]; rfl
                clear hM5
                go_wp2_with fail
                refine k1.mono ?_
                rintro e w6 ⟨rfl, hM6⟩
                have k2' := k2 w6 hM6.out
                have c2 : w6.cell? ⟨wr.heap.size, 4, none⟩ = some (.slice an x.cuts.length cn) := by rw [cells_of_block (hM6.out.at (List.mem_singleton.2 rfl))]; rfl
                clear k1 k2 hM6 c1
                go_wp2_with fail
                refine k2'.mono ?_
                rintro e w7 ⟨a7, n7, p7, rfl, hM7⟩
                have k3' := k3 w7 _ hM7
                clear k2' k3 hM7 c2
                go_wp2_with fail
                refine k3'.mono ?_
                rintro e w8 ⟨a6, n6, p6, rfl, hM8⟩
                have k4' := k4 w8 _ hM8
                clear k3' k4 hM8
                go_wp2_with fail
                refine k4'.mono ?_
                rintro e w10 ⟨nq, rfl, hM⟩
                clear k4'
                have kI := am_is hT hM hA1 hbd
                have hfin : ∀ w', Am [(wr.heap.size, Obj.cells #[.int .i64 4, .int .u64 (ix : Int), .bool st, .slice ab x.b.length cb, .slice an x.cuts.length cn] 35 (0, 0))] w w' (.pointer (some ⟨nq, 0, none⟩)) (.pointer (some ⟨dq, 0, none⟩)) (.slice a6 n6 p6) sg1 fs1 fs1 → Hid (ActI w l (.pointer (some ⟨dq, 0, none⟩)) (i + 1) (.pointer (some ⟨nq, 0, none⟩)) (.slice a6 n6 p6) w') := fun w' h => ⟨_, _, h.unbox (fun x hx => by cases hx), hA1.mono (by omega) (by omega)⟩
                clear hM
                go_wp2_with fail
                refine kI.mono ?_
                rintro e w9 ⟨rfl, hM9⟩
                have hf := hfin w9 hM9
                clear kI hfin hM9
                go_wp2
                go_roundg (gk - 1)
                case measure => omega
                case rel => exact ⟨i + 1, by omega, by go_num, hf.out⟩
              · have g1 : (xw == 1) = false := by simp [h1]
                have g2 : (xw == 2) = false := by simp [h2]
                have g3 : (xw == 3) = false := by simp [h3]
                have g4 : (xw == 4) = false := by simp [h4]
                have hM6 := hM5.box (Obj.cells #[.int .u64 (ix : Int), .slice ab x.b.length cb] 44 (0, 0))
                obtain ⟨c, sg1, fs1, hA1, k1, k2⟩ := am_app hT hM6 hA ⟨ix, x.b⟩ (.slice ab x.b.length cb) hix hxk.2 hB hbd2
                have hb6 : (W5.alloc (Obj.cells #[.int .u64 (ix : Int), .slice ab x.b.length cb] 44 (0, 0))).heap[W5.heap.size]? = _ := hM6.at (x := (W5.heap.size, Obj.cells #[.int .u64 (ix : Int), .slice ab x.b.length cb] 44 (0, 0))) (by simp)
                have c1 : W5.cell? ⟨wr.heap.size, 1, none⟩ = some (.int .u64 (ix : Int)) := by rw [cells_of_block (hM5.at (List.mem_singleton.2 rfl))]; rfl
                have c3 : W5.cell? ⟨wr.heap.size, 3, none⟩ = some (.slice ab x.b.length cb) := by rw [cells_of_block (hM5.at (List.mem_singleton.2 rfl))]; rfl
                dsimp only at k1 k2 hA1
                clear hM5 hM6 hb6
                go_wp2_with fail
                refine k1.mono ?_
                rintro e w6 ⟨rfl, hM7⟩
                have k3 := k2 w6 hM7.out
                have hb7 : w6.heap[W5.heap.size]? = _ := hM7.out.at (x := (W5.heap.size, Obj.cells #[.int .u64 (ix : Int), .slice ab x.b.length cb] 44 (0, 0))) (by simp)
                have d0 : w6.cell? ⟨W5.heap.size, 0, none⟩ = some (.int .u64 (ix : Int)) := by rw [cells_of_block hb7]; rfl
                have d1 : w6.cell? ⟨W5.heap.size, 1, none⟩ = some (.slice ab x.b.length cb) := by rw [cells_of_block hb7]; rfl
                clear k1 k2 hM7 c1 c3 hb7
                go_wp2_with fail
                refine k3.mono ?_
                rintro e w7 ⟨a6, n6, p6, rfl, hM⟩
                clear k3 d0 d1
                have kI := am_is hT hM hA1 hbd2
                have hfin : ∀ w', Am ((W5.heap.size, Obj.cells #[.int .u64 (ix : Int), .slice ab x.b.length cb] 44 (0, 0)) :: [(wr.heap.size, Obj.cells #[.int .i64 xw, .int .u64 (ix : Int), .bool st, .slice ab x.b.length cb, .slice an x.cuts.length cn] 35 (0, 0))]) w w' (.pointer (some ⟨sq, 0, none⟩)) (.pointer (some ⟨dq, 0, none⟩)) (.slice a6 n6 p6) sg1 fs1 fs1 → Hid (ActI w l (.pointer (some ⟨dq, 0, none⟩)) (i + 1) (.pointer (some ⟨sq, 0, none⟩)) (.slice a6 n6 p6) w') := fun w' h => ⟨_, _, h.unbox (fun x hx => by cases hx), hA1.mono (by omega) (Nat.le_refl _)⟩
                clear hM
                go_wp2_with fail
                refine kI.mono ?_
                rintro e w9 ⟨rfl, hM9⟩
                have hf := hfin w9 hM9
                clear kI hfin hM9
                go_wp2
                go_roundg (gk - 1)
                case measure => omega
                case rel => exact ⟨i + 1, by omega, by go_num, hf.out⟩
      · have hst' : x.step = false := by simpa using hst
        rw [hst'] at c2 hxa hbk
        obtain ⟨ix, hixe⟩ : ∃ ix, ix = x.idx := ⟨_, rfl⟩
        have hix : ix < 18446744073709551616 := by rw [hixe]; exact hxk.1
        rw [← hixe] at c1 hxa hbk
        clear hixe hst
        have hM5 : Am [(wr.heap.size, Obj.cells #[.int .i64 xw, .int .u64 (ix : Int), .bool false, .slice ab x.b.length cb, .slice an x.cuts.length cn] 35 (0, 0))] w (wr.alloc (.cells #[.int .i64 xw, .int .u64 (ix : Int), .bool false, .slice ab x.b.length cb, .slice an x.cuts.length cn] 35)) (.pointer (some ⟨sq, 0, none⟩)) (.pointer (some ⟨dq, 0, none⟩)) (.slice a5 n5 p5) sg fs fs :=
          hM.boxed hxa (wr.heap.size, _) (Nat.le_refl _) hbk
        obtain ⟨W5, hW5⟩ : ∃ W5, wr.alloc (.cells #[.int .i64 xw, .int .u64 (ix : Int), .bool false, .slice ab x.b.length cb, .slice an x.cuts.length cn] 35) = W5 := ⟨_, rfl⟩
        rw [hW5] at hM5
        have hb5 := hM5.at (List.mem_singleton.2 rfl)
        have f0 : W5.cell? ⟨wr.heap.size, 0, none⟩ = some (.int .i64 xw) := by rw [cells_of_block hb5]; rfl
        have f2 : W5.cell? ⟨wr.heap.size, 2, none⟩ = some (.bool false) := by rw [cells_of_block hb5]; rfl
        obtain ⟨st, hst5⟩ : ∃ st, Hid (st = false) := ⟨_, rfl⟩
        rw [← hst5.out] at hM5
        clear hM hbk hxa hb5 hst'
        by_cases h1 : xw = 1
        · subst h1
          obtain ⟨hA1, k1, k2⟩ := am_sync hT hM5 hA hbd
          clear hM5
          go_wp2_with fail
          refine k1.mono ?_
          rintro e w6 ⟨rfl, hM6⟩
          have k3 := k2 w6 hM6.out
          clear k1 k2 hM6
          go_wp2_with fail
          refine k3.mono ?_
          rintro e w7 ⟨a6, n6, p6, rfl, hM⟩
          clear k3
          have kI := am_is hT hM hA1 hbd
          have hfin : ∀ w', Am [(wr.heap.size, Obj.cells #[.int .i64 1, .int .u64 (ix : Int), .bool st, .slice ab x.b.length cb, .slice an x.cuts.length cn] 35 (0, 0))] w w' (.pointer (some ⟨sq, 0, none⟩)) (.pointer (some ⟨dq, 0, none⟩)) (.slice a6 n6 p6) sg (syncF sg fs) (syncF sg fs) → Hid (ActI w l (.pointer (some ⟨dq, 0, none⟩)) (i + 1) (.pointer (some ⟨sq, 0, none⟩)) (.slice a6 n6 p6) w') := fun w' h => ⟨_, _, h.unbox (fun x hx => by cases hx), hA1.mono (by omega) (by omega)⟩
          clear hM
          go_wp2_with fail
          refine kI.mono ?_
          rintro e w9 ⟨rfl, hM9⟩
          have hf := hfin w9 hM9
          clear kI hfin hM9
          go_wp2
          go_roundg (gk - 1)
          case measure => omega
          case rel => exact ⟨i + 1, by omega, by go_num, hf.out⟩
        · by_cases h2 : xw = 2
          · subst h2
            obtain ⟨c, sg1, fs1, hA1, k1, k2⟩ := am_cut hT hM5 hA hbd ix hix
            have c1 : W5.cell? ⟨wr.heap.size, 1, none⟩ = some (.int .u64 (ix : Int)) := by rw [cells_of_block (hM5.at (List.mem_singleton.2 rfl))]; rfl
            clear hM5
            go_wp2_with fail
            refine k1.mono ?_
            rintro e w6 ⟨rfl, hM6⟩
            have k3 := k2 w6 hM6.out
            have c2 : w6.cell? ⟨wr.heap.size, 1, none⟩ = some (.int .u64 (ix : Int)) := by rw [cells_of_block (hM6.out.at (List.mem_singleton.2 rfl))]; rfl
            clear k1 k2 hM6 c1
            go_wp2_with fail
            refine k3.mono ?_
            rintro e w7 ⟨a6, n6, p6, rfl, hM⟩
            clear k3 c2
            have kI := am_is hT hM hA1 hbd
            have hfin : ∀ w', Am [(wr.heap.size, Obj.cells #[.int .i64 2, .int .u64 (ix : Int), .bool st, .slice ab x.b.length cb, .slice an x.cuts.length cn] 35 (0, 0))] w w' (.pointer (some ⟨sq, 0, none⟩)) (.pointer (some ⟨dq, 0, none⟩)) (.slice a6 n6 p6) sg1 fs1 fs1 → Hid (ActI w l (.pointer (some ⟨dq, 0, none⟩)) (i + 1) (.pointer (some ⟨sq, 0, none⟩)) (.slice a6 n6 p6) w') := fun w' h => ⟨_, _, h.unbox (fun x hx => by cases hx), hA1.mono (by omega) (by omega)⟩
            clear hM
            go_wp2_with fail
            refine kI.mono ?_
            rintro e w9 ⟨rfl, hM9⟩
            have hf := hfin w9 hM9
            clear kI hfin hM9
            go_wp2
            go_roundg (gk - 1)
            case measure => omega
            case rel => exact ⟨i + 1, by omega, by go_num, hf.out⟩
          · by_cases h3 : xw = 3
            · subst h3
              obtain ⟨c, sg1, fs1, hA1, k1, k2⟩ := am_comp hT hM5 hA hbd ix hix
              have c1 : W5.cell? ⟨wr.heap.size, 1, none⟩ = some (.int .u64 (ix : Int)) := by rw [cells_of_block (hM5.at (List.mem_singleton.2 rfl))]; rfl
              clear hM5
              go_wp2_with fail
              refine k1.mono ?_
              rintro e w6 ⟨rfl, hM6⟩
              have k3 := k2 w6 hM6.out
              have c2 : w6.cell? ⟨wr.heap.size, 1, none⟩ = some (.int .u64 (ix : Int)) := by rw [cells_of_block (hM6.out.at (List.mem_singleton.2 rfl))]; rfl
              clear k1 k2 hM6 c1
              go_wp2_with fail
              refine k3.mono ?_
              rintro e w7 ⟨a6, n6, p6, rfl, hM⟩
              clear k3 c2
              have kI := am_is hT hM hA1 hbd
              have hfin : ∀ w', Am [(wr.heap.size, Obj.cells #[.int .i64 3, .int .u64 (ix : Int), .bool st, .slice ab x.b.length cb, .slice an x.cuts.length cn] 35 (0, 0))] w w' (.pointer (some ⟨sq, 0, none⟩)) (.pointer (some ⟨dq, 0, none⟩)) (.slice a6 n6 p6) sg1 fs1 fs1 → Hid (ActI w l (.pointer (some ⟨dq, 0, none⟩)) (i + 1) (.pointer (some ⟨sq, 0, none⟩)) (.slice a6 n6 p6) w') := fun w' h => ⟨_, _, h.unbox (fun x hx => by cases hx), hA1.mono (by omega) (by omega)⟩
              clear hM
              go_wp2_with fail
              refine kI.mono ?_
              rintro e w9 ⟨rfl, hM9⟩
              have hf := hfin w9 hM9
              clear kI hfin hM9
              go_wp2
              go_roundg (gk - 1)
              case measure => omega
              case rel => exact ⟨i + 1, by omega, by go_num, hf.out⟩
            · by_cases h4 : xw = 4
              · subst h4
                obtain ⟨sg1, f1, fs1, hA1, k1, k2, k3, k4⟩ := am_crash hT hM5 hA hbd (.slice an x.cuts.length cn) x.cuts hN
                have c1 : W5.cell? ⟨wr.heap.size, 4, none⟩ = some (.slice an x.cuts.length cn) := by rw [cells_of_block (hM5.at (List.mem_singleton.2 rfl))]; rfl
                clear hM5
                go_wp2_with fail
                refine k1.mono ?_
                rintro e w6 ⟨rfl, hM6⟩
                have k2' := k2 w6 hM6.out
                have c2 : w6.cell? ⟨wr.heap.size, 4, none⟩ = some (.slice an x.cuts.length cn) := by rw [cells_of_block (hM6.out.at (List.mem_singleton.2 rfl))]; rfl
                clear k1 k2 hM6 c1
                go_wp2_with fail
                refine k2'.mono ?_
                rintro e w7 ⟨a7, n7, p7, rfl, hM7⟩
                have k3' := k3 w7 _ hM7
                clear k2' k3 hM7 c2
                go_wp2_with fail
                refine k3'.mono ?_
                rintro e w8 ⟨a6, n6, p6, rfl, hM8⟩
                have k4' := k4 w8 _ hM8
                clear k3' k4 hM8
                go_wp2_with fail
                refine k4'.mono ?_
                rintro e w10 ⟨nq, rfl, hM⟩
                clear k4'
                have kI := am_is hT hM hA1 hbd
                have hfin : ∀ w', Am [(wr.heap.size, Obj.cells #[.int .i64 4, .int .u64 (ix : Int), .bool st, .slice ab x.b.length cb, .slice an x.cuts.length cn] 35 (0, 0))] w w' (.pointer (some ⟨nq, 0, none⟩)) (.pointer (some ⟨dq, 0, none⟩)) (.slice a6 n6 p6) sg1 fs1 fs1 → Hid (ActI w l (.pointer (some ⟨dq, 0, none⟩)) (i + 1) (.pointer (some ⟨nq, 0, none⟩)) (.slice a6 n6 p6) w') := fun w' h => ⟨_, _, h.unbox (fun x hx => by cases hx), hA1.mono (by omega) (by omega)⟩
                clear hM
                go_wp2_with fail
                refine kI.mono ?_
                rintro e w9 ⟨rfl, hM9⟩
                have hf := hfin w9 hM9
                clear kI hfin hM9
                go_wp2
                go_roundg (gk - 1)
                case measure => omega
                case rel => exact ⟨i + 1, by omega, by go_num, hf.out⟩
              · have g1 : (xw == 1) = false := by simp [h1]
                have g2 : (xw == 2) = false := by simp [h2]
                have g3 : (xw == 3) = false := by simp [h3]
                have g4 : (xw == 4) = false := by simp [h4]
                have hM6 := hM5.box (Obj.cells #[.int .u64 (ix : Int), .slice ab x.b.length cb] 44 (0, 0))
                obtain ⟨c, sg1, fs1, hA1, k1, k2⟩ := am_app hT hM6 hA ⟨ix, x.b⟩ (.slice ab x.b.length cb) hix hxk.2 hB hbd2
                have hb6 : (W5.alloc (Obj.cells #[.int .u64 (ix : Int), .slice ab x.b.length cb] 44 (0, 0))).heap[W5.heap.size]? = _ := hM6.at (x := (W5.heap.size, Obj.cells #[.int .u64 (ix : Int), .slice ab x.b.length cb] 44 (0, 0))) (by simp)
                have c1 : W5.cell? ⟨wr.heap.size, 1, none⟩ = some (.int .u64 (ix : Int)) := by rw [cells_of_block (hM5.at (List.mem_singleton.2 rfl))]; rfl
                have c3 : W5.cell? ⟨wr.heap.size, 3, none⟩ = some (.slice ab x.b.length cb) := by rw [cells_of_block (hM5.at (List.mem_singleton.2 rfl))]; rfl
                dsimp only at k1 k2 hA1
                clear hM5 hM6 hb6
                go_wp2_with fail
                refine k1.mono ?_
                rintro e w6 ⟨rfl, hM7⟩
                have k3 := k2 w6 hM7.out
                have hb7 : w6.heap[W5.heap.size]? = _ := hM7.out.at (x := (W5.heap.size, Obj.cells #[.int .u64 (ix : Int), .slice ab x.b.length cb] 44 (0, 0))) (by simp)
                have d0 : w6.cell? ⟨W5.heap.size, 0, none⟩ = some (.int .u64 (ix : Int)) := by rw [cells_of_block hb7]; rfl
                have d1 : w6.cell? ⟨W5.heap.size, 1, none⟩ = some (.slice ab x.b.length cb) := by rw [cells_of_block hb7]; rfl
                clear k1 k2 hM7 c1 c3 hb7
                go_wp2_with fail
                refine k3.mono ?_
                rintro e w7 ⟨a6, n6, p6, rfl, hM⟩
                clear k3 d0 d1
                have kI := am_is hT hM hA1 hbd2
                have hfin : ∀ w', Am ((W5.heap.size, Obj.cells #[.int .u64 (ix : Int), .slice ab x.b.length cb] 44 (0, 0)) :: [(wr.heap.size, Obj.cells #[.int .i64 xw, .int .u64 (ix : Int), .bool st, .slice ab x.b.length cb, .slice an x.cuts.length cn] 35 (0, 0))]) w w' (.pointer (some ⟨sq, 0, none⟩)) (.pointer (some ⟨dq, 0, none⟩)) (.slice a6 n6 p6) sg1 fs1 fs1 → Hid (ActI w l (.pointer (some ⟨dq, 0, none⟩)) (i + 1) (.pointer (some ⟨sq, 0, none⟩)) (.slice a6 n6 p6) w') := fun w' h => ⟨_, _, h.unbox (fun x hx => by cases hx), hA1.mono (by omega) (Nat.le_refl _)⟩
                clear hM
                go_wp2_with fail
                refine kI.mono ?_
                rintro e w9 ⟨rfl, hM9⟩
                have hf := hfin w9 hM9
                clear kI hfin hM9
                go_wp2
                go_roundg (gk - 1)
                case measure => omega
                case rel => exact ⟨i + 1, by omega, by go_num, hf.out⟩
    · have hlti : ¬ (i : Int) < (l.length : Int) := by omega
      obtain ⟨sg, fs, hM, -⟩ := hSt
      have ka := once_of wr (hT.new hM.bel)
      have hbb := hM.bel
      clear hM hat hV0
      go_wp2_with fail
      refine ka.mono ?_
      rintro e w9 ⟨rfl, b9⟩
      clear ka
      go_wp2
      go_ret
      exact ⟨rfl, hbb.trans (b9.mono hbb.size)⟩
end Go.Proofs.YtgfoogeiancecaaGreatDoor

