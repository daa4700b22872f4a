/- What does leaves: an append, the bytes turned behind it. -/
import Derived.Test.YtcnljocgpoaepaaDoesC
import Derived.Test.YtcnljocgpoaepaaTurns
namespace Go.Proofs.Ytcnljocgpoaepaa
open Go.RowKit DiskMath
set_option maxRecDepth 100000
set_option linter.unusedSimpArgs false
set_option linter.unusedVariables false

theorem Rw.kept {n : Nat} {w w' : World} {v : Value} {len : Nat} (h : Rw n w v len) (hs : ∀ k, v.ownBlock = some k → w'.heap[k]? = w.heap[k]?) : Rw n w' v len := by
  obtain ⟨ao, cap, rfl, h2⟩ := h
  refine ⟨ao, cap, rfl, fun h0 => ?_⟩
  obtain ⟨g, off, rfl, hg, cur, hb, hc⟩ := h2 h0
  exact ⟨g, off, rfl, hg, cur, (hs g rfl).trans hb, hc⟩

/-- All but one's own row is as it was. -/
def But (v : Value) (w w' : World) : Prop := w'.os = w.os ∧ w'.tape = w.tape ∧ w'.output = w.output ∧ w'.heap.size = w.heap.size ∧ ∀ k, v.ownBlock ≠ some k → w'.heap[k]? = w.heap[k]?
theorem But.refl (v : Value) (w : World) : But v w w := ⟨rfl, rfl, rfl, rfl, fun _ _ => rfl⟩
theorem But.set {v : Value} {w w' : World} (h : But v w w') {g i : Nat} (hv : v.ownBlock = some g) (u : Value) : But v w (w'.setCell ⟨g, i, none⟩ u) :=
  ⟨h.1, h.2.1, h.2.2.1, by rw [set_size]; exact h.2.2.2.1, fun k hk => (set_block i u (fun e => hk (by rw [hv, e]))).trans (h.2.2.2.2 k hk)⟩

set_option maxHeartbeats 2000000 in
theorem does_append {Dk : (Nat → Prop) → World → Value → Files → Prop} (H : DiskOf Dk) {S : Nat → Prop} (fs : Files) (x : Ac) (d lv bv cv : Value) (w : World) (hS : ∀ b, S b → b < w.heap.size) (hD : Dk S w d fs) (hF : @Fv (keepBut S w hS) w lv fs)
    (hw : x.what ≠ 1 ∧ x.what ≠ 2 ∧ x.what ≠ 3 ∧ x.what ≠ 4 ∧ x.what ≠ 5) (hB : @Bs (keepBut S w hS) w.heap.size w bv x.b) (hby : ∀ c ∈ x.b, c < 256) (hbl : x.b.length ≤ 140737488355328) :
    Calls Try.prog 11 #[d, lv, .agg #[.int .i64 x.what, .string x.name, .string x.to, bv, .int .i64 x.n, cv]] w (DoesT Dk S d w (dAppend fs x.name x.b).1) := by
  have hsd := H.sound hD
  have hlen : fs.length ≤ 1000 := by have := hsd.2.1; omega
  have hfd : ∀ f ∈ fs, f.data.length ≤ 65536 := fun f hf => (hsd.2.2 f hf).2.1
  have hbox := (Below.refl w.heap.size w).alloc (Nat.le_refl _) (.cells #[.int .i64 x.what, .string x.name, .string x.to, bv, .int .i64 x.n, cv] 36)
  have hbx := heap_alloc_new w (.cells #[.int .i64 x.what, .string x.name, .string x.to, bv, .int .i64 x.n, cv] 36)
  have hszx : (w.alloc (.cells #[.int .i64 x.what, .string x.name, .string x.to, bv, .int .i64 x.n, cv] 36)).heap.size = w.heap.size + 1 := by simp
  have hN : ¬ S w.heap.size := fun h => by have := hS _ h; omega
  have c1 : ∀ w' v', Below w.heap.size w w' → @Bs keepAll w'.heap.size w' v' x.b → Calls Try.prog 18 #[d, .string x.name, v'] w' (Did Dk S d w' (dAppend fs x.name x.b)) := fun w' v' hb hv => H.append x.name v' x.b (H.below hD hb) hv hby hbl
  have c2 : ∀ w1 S1 (hS1 : ∀ b, S1 b → b < w1.heap.size), Kept S w w1 → Step S S1 w → Calls Try.prog 32 #[lv, .string x.name, bv] w1 (@Told (keepBut S1 w1 hS1) w1 (dAppend fs x.name x.b)) := fun w1 S1 hS1 hk hs => @append_of (keepBut S1 w1 hS1) fs x.name x.b lv bv w1 (hF.kept hk hs) (hB.kept hk hs) hlen hbl hfd
  have hB1 : ∀ w', Below w.heap.size w w' → @Bs keepAll w.heap.size w' bv x.b := fun w' hb => @Bs.below keepAll _ _ _ _ _ (hB.imp fun _ _ _ => trivial) hb
  obtain ⟨al, cl, hlv⟩ := hF.shape
  obtain ⟨ab, cb, hbv, -⟩ := id hB
  obtain ⟨w1e, w2e, w3e, w4e, w5e⟩ := hw
  have e1 : (x.what == 1) = false := by simpa using w1e
  have e2 : (x.what == 2) = false := by simpa using w2e
  have e3 : (x.what == 3) = false := by simpa using w3e
  have e4 : (x.what == 4) = false := by simpa using w4e
  have e5 : (x.what == 5) = false := by simpa using w5e
  subst hlv hbv
  have hO0 := own_new (w.alloc (.cells #[.int .i64 x.what, .string x.name, .string x.to, .slice ab x.b.length cb, .int .i64 x.n, cv] 36)) #[] [] rfl (by simp)
  have hb0 := (Below.refl _ (w.alloc (.cells #[.int .i64 x.what, .string x.name, .string x.to, .slice ab x.b.length cb, .int .i64 x.n, cv] 36))).alloc (Nat.le_refl _) (.cells #[] 5)
  rw [hszx] at hO0 hb0
  have hbw0 : Below w.heap.size w _ := hbox.trans (hb0.mono (Nat.le_succ _))
  have hs0 : w.heap.size + 1 ≤ ((w.alloc (.cells #[.int .i64 x.what, .string x.name, .string x.to, .slice ab x.b.length cb, .int .i64 x.n, cv] 36)).alloc (.cells #[] 5)).heap.size := by simp
  have hB0 := hB1 _ hbw0
  have hl0 : ([] : List Nat).length + x.b.length ≤ 140737488355328 := by simp; omega
  generalize dAppend fs x.name x.b = R at *
  clear hB hF
  go_enter Try.func11, Try.ntmps11
  go_wp2_with (at_builtin; refine @wpList_append_bs keepAll _ _ _ _ _ _ rfl _ _ rfl (w.heap.size + 1) _ [] rfl hO0 hs0 w.heap.size _ x.b rfl hB0 hl0 ?_)
  intro v1 w1 hO1 hb1
  have hO1' : Own (w.heap.size + 1) w1 v1 x.b := hO1
  clear hO1
  have hbX1 := hb0.trans hb1
  have hbw1 : Below w.heap.size w w1 := hbox.trans (hbX1.mono (Nat.le_succ _))
  have hbk1 := (hbX1.block w.heap.size (Nat.lt_succ_self _)).trans hbx
  have c1' := c1 w1 v1 hbw1 (@Own.bs keepAll _ _ _ _ hO1' (Nat.zero_le _))
  have hR1 := hO1'.rw
  have hown : ∀ k, v1.ownBlock = some k → w.heap.size + 1 ≤ k ∧ k < w1.heap.size := fun k hk => hO1'.lt hk
  obtain ⟨a1, p1, rfl⟩ := hO1'.shape
  have q1 : w1.cell? ⟨w.heap.size, 1, none⟩ = some (.string x.name) := by rw [cells_of_block hbk1]; rfl
  clear c1 hO0 hO1' hB0 hB1
  go_wp2_with fail
  refine c1'.mono ?_
  rintro e w2 ⟨rfl, S2, hD2, hs2, hk2⟩
  have hbk2 : w2.heap[w.heap.size]? = _ := (hk2.block w.heap.size (Array.getElem?_eq_some_iff.1 hbk1).1 hN).trans hbk1
  have hR2 := hR1.kept (w' := w2) fun k hk => hk2.block k (hown k hk).2 fun h => by have := hS k h; have := (hown k hk).1; omega
  have hnS2 : ∀ k, (Value.slice a1 x.b.length p1).ownBlock = some k → ¬ S2 k := fun k hk h => by
    have h1 := hown k hk
    rcases hs2 k h with h | h
    · have := hS k h; omega
    · omega
  have hfin : ∀ wr, But (.slice a1 x.b.length p1) w2 wr → (∃ hS1, Calls Try.prog 32 #[.slice al fs.length cl, .string x.name, .slice ab x.b.length cb] wr (@Told (keepBut S2 wr hS1) wr R)) ∧ (∀ hS1 lv2 wz, @Fv (keepBut S2 wr hS1) wz lv2 R.1 → Below wr.heap.size wr wz → DoesT Dk S d w R.1 (.returned (.tuple #[lv2, .bool true])) wz) ∧ wr.cell? ⟨w.heap.size, 1, none⟩ = some (.string x.name) ∧ wr.cell? ⟨w.heap.size, 3, none⟩ = some (.slice ab x.b.length cb) := by
    intro wr hbut
    obtain ⟨b1, b2, b3, b4, b5⟩ := hbut
    have hbw : ∀ k, k < w.heap.size + 1 → wr.heap[k]? = w2.heap[k]? := fun k hk => b5 k fun e => by have := (hown k e).1; omega
    have hDr : Dk S2 wr d R.1 := H.kept hD2 (by omega) fun b hb => b5 b fun e => hnS2 b e hb
    have hkw2 := Kept.after hbw1 hk2
    have hkr : Kept S w wr := ⟨b1.trans hkw2.os, b2.trans hkw2.tape, b3.trans hkw2.output, by rw [b4]; exact hkw2.size, fun k hk hns => (hbw k (by omega)).trans (hkw2.block k hk hns)⟩
    have hsr := hs2.after hbw1
    have hbkr : wr.heap[w.heap.size]? = _ := (hbw _ (Nat.lt_succ_self _)).trans hbk2
    refine ⟨⟨H.lt hDr, c2 wr S2 (H.lt hDr) hkr hsr⟩, fun hS1 lv2 wz hFz hbz => doesT_of H hDr hsr hkr hFz hbz, by rw [cells_of_block hbkr]; rfl, by rw [cells_of_block hbkr]; rfl⟩
  clear c1' c2 hR1 hk2 hD2
  go_wp2
  go_loopg [11] x.b.length (fun g s11 wr => ∃ i : Nat, i + g = x.b.length ∧ s11 = .int .i64 (i : Int) ∧ Rw (w.heap.size + 1) wr (.slice a1 x.b.length p1) x.b.length ∧ But (.slice a1 x.b.length p1) w2 wr)
  case atStart => exact ⟨0, by simp, rfl, hR2, But.refl _ _⟩
  case round =>
    obtain ⟨i, hi, rfl, hR, hbut⟩ := hrel
    by_cases hlt : i < x.b.length
    · have hlti : (i : Int) < (x.b.length : Int) := by omega
      obtain ⟨g, off, cp, hv, hg, ⟨c, hc⟩, hf, hset⟩ := hR.step hlt
      cases hv
      have hbs := fun u => hbut.set (g := g) (i := off + i) rfl u
      clear hR hfin
      go_wp2
      go_roundg (gk - 1)
      case measure => omega
      case rel => exact ⟨i + 1, by omega, by go_num, (hset _).1, hbs _⟩
    · have hlti : ¬ (i : Int) < (x.b.length : Int) := by omega
      obtain ⟨⟨hS1, c3⟩, hE, q2, q3⟩ := hfin wr hbut
      have hE' := hE hS1
      clear hfin hR hR2 hE
      go_wp2_with fail
      refine c3.mono ?_
      rintro e w3 ⟨lv2, rfl, hF2, hb2⟩
      have hE2 : Hid _ := hE' lv2 w3 hF2 hb2
      clear c3 hE' hF2
      go_wp2
      go_ret2
      exact hE2.out
end Go.Proofs.Ytcnljocgpoaepaa
