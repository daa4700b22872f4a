/- What does leaves: both do the same (written by wip/tools/gen_does.py). -/
import Derived.Test.YtcnljocgpoaepaaKept
namespace Go.Proofs.Ytcnljocgpoaepaa
open Go.RowKit DiskMath
set_option maxRecDepth 100000
set_option linter.unusedSimpArgs false

theorem Kept.then {S : Nat → Prop} {w w1 w2 : World} (h : Kept S w w1) (hb : Below w1.heap.size w1 w2) : Kept S w w2 :=
  ⟨hb.os.trans h.os, hb.tape.trans h.tape, hb.output.trans h.output, Nat.le_trans h.size hb.size, fun k hk hs => (hb.block k (Nat.lt_of_lt_of_le hk h.size)).trans (h.block k hk hs)⟩
theorem DiskOf.below {Dk : (Nat → Prop) → World → Value → Files → Prop} (H : DiskOf Dk) {S : Nat → Prop} {w w' : World} {d : Value} {fs : Files} (h : Dk S w d fs) (hb : Below w.heap.size w w') : Dk S w' d fs :=
  H.kept h hb.size fun b hs => hb.block b (H.lt h b hs)

theorem Kept.after {S : Nat → Prop} {w w1 w2 : World} (hb : Below w.heap.size w w1) (h : Kept S w1 w2) : Kept S w w2 :=
  ⟨h.os.trans hb.os, h.tape.trans hb.tape, h.output.trans hb.output, Nat.le_trans hb.size h.size, fun k hk hs => (h.block k (Nat.lt_of_lt_of_le hk hb.size) hs).trans (hb.block k hk)⟩
theorem Step.after {S S' : Nat → Prop} {w w1 : World} (h : Step S S' w1) (hb : Below w.heap.size w w1) : Step S S' w := fun b hs => (h b hs).imp id fun h => Nat.le_trans hb.size h
theorem Fv.shape {K : Keep} {w : World} {lv : Value} {fs : Files} (h : @Fv K w lv fs) : ∃ ao cap, lv = .slice ao fs.length cap := by
  obtain ⟨_, ao, cap, e, _⟩ := h
  exact ⟨ao, cap, e⟩

/-- What does tells and leaves. -/
def DoesT (Dk : (Nat → Prop) → World → Value → Files → Prop) (S : Nat → Prop) (d : Value) (w : World) (R : Files) (e : Ending) (w' : World) : Prop :=
  ∃ S' lv', e = .returned (.tuple #[lv', .bool true]) ∧ Dk S' w' d R ∧ (∃ hS', @Fv (keepBut S' w' hS') w' lv' R) ∧ Step S S' w ∧ Kept S w w'
theorem doesT_of {Dk : (Nat → Prop) → World → Value → Files → Prop} (H : DiskOf Dk) {S S1 : Nat → Prop} {d lv : Value} {w w1 w2 : World} {R : Files} {hS1 : ∀ b, S1 b → b < w1.heap.size} (hD : Dk S1 w1 d R) (hs : Step S S1 w) (hk : Kept S w w1) (hF : @Fv (keepBut S1 w1 hS1) w2 lv R) (hb : Below w1.heap.size w1 w2) : DoesT Dk S d w R (.returned (.tuple #[lv, .bool true])) w2 :=
  ⟨S1, lv, rfl, H.below hD hb, ⟨H.lt (H.below hD hb), hF.renew⟩, hs, hk.then hb⟩

set_option maxHeartbeats 1000000 in
theorem does_sync {Dk : (Nat → Prop) → World → Value → Files → Prop} (H : DiskOf Dk) {S : Nat → Prop} (fs : Files) (x : Ac) (d lv bv cv : Value) (w : World) (hS : ∀ b, S b → b < w.heap.size) (hD : Dk S w d fs) (hF : @Fv (keepBut S w hS) w lv fs) (hw : x.what = 1) (hn : x.name.size ≤ maxLen) :
    Calls Try.prog 11 #[d, lv, .agg #[.int .i64 x.what, .string x.name, .string x.to, bv, .int .i64 x.n, cv]] w (DoesT Dk S d w (dSync fs x.name).1) := by
  have hlen : fs.length ≤ 1000 := by have := (H.sound hD).2.1; omega
  have hbox := (Below.refl w.heap.size w).alloc (Nat.le_refl _) (.cells #[.int .i64 1, .string x.name, .string x.to, bv, .int .i64 x.n, cv] 36)
  have hbx := heap_alloc_new w (.cells #[.int .i64 1, .string x.name, .string x.to, bv, .int .i64 x.n, cv] 36)
  have hN : ¬ S w.heap.size := fun h => by have := hS _ h; omega
  have c1 := H.sync x.name hn (H.below hD hbox)
  have c2 : ∀ w1 S1 (hS1 : ∀ b, S1 b → b < w1.heap.size), Kept S w w1 → Step S S1 w → Calls Try.prog 27 _ w1 (@Told (keepBut S1 w1 hS1) w1 (dSync fs x.name)) := fun w1 S1 hS1 hk hs => @sync_of (keepBut S1 w1 hS1) fs x.name lv w1 (hF.kept hk hs) hlen
  rw [hw]
  generalize dSync fs x.name = R at *
  go_enter Try.func11, Try.ntmps11
  go_wp2_with fail
  refine c1.mono ?_
  rintro e w1 ⟨rfl, S1, hD1, hs1, hk1⟩
  have d1 : w1.cell? ⟨w.heap.size, 1, none⟩ = some (.string x.name) := hk1.cell (p := ⟨w.heap.size, 1, none⟩) (by rw [cells_of_block hbx]; rfl) hN
  have d2 : w1.cell? ⟨w.heap.size, 2, none⟩ = some (.string x.to) := hk1.cell (p := ⟨w.heap.size, 2, none⟩) (by rw [cells_of_block hbx]; rfl) hN
  have d4 : w1.cell? ⟨w.heap.size, 4, none⟩ = some (.int .i64 x.n) := hk1.cell (p := ⟨w.heap.size, 4, none⟩) (by rw [cells_of_block hbx]; rfl) hN
  have hk2 := Kept.after hbox hk1
  have hs2 := hs1.after hbox
  have c3 := c2 w1 S1 (H.lt hD1) hk2 hs2
  obtain ⟨al, cl, hlv⟩ := hF.shape
  rw [hlv] at c3
  rw [hlv]
  clear c1 c2
  go_wp2_with fail
  refine c3.mono ?_
  rintro e w2 ⟨lv2, rfl, hF2, hb2⟩
  go_wp2
  go_ret2
  exact doesT_of H hD1 hs2 hk2 hF2 hb2

set_option maxHeartbeats 1000000 in
theorem does_cut {Dk : (Nat → Prop) → World → Value → Files → Prop} (H : DiskOf Dk) {S : Nat → Prop} (fs : Files) (x : Ac) (d lv bv cv : Value) (w : World) (hS : ∀ b, S b → b < w.heap.size) (hD : Dk S w d fs) (hF : @Fv (keepBut S w hS) w lv fs) (hw : x.what = 2) (hn : x.name.size ≤ maxLen) :
    Calls Try.prog 11 #[d, lv, .agg #[.int .i64 x.what, .string x.name, .string x.to, bv, .int .i64 x.n, cv]] w (DoesT Dk S d w (dCut fs x.name x.n).1) := by
  have hlen : fs.length ≤ 1000 := by have := (H.sound hD).2.1; omega
  have hbox := (Below.refl w.heap.size w).alloc (Nat.le_refl _) (.cells #[.int .i64 2, .string x.name, .string x.to, bv, .int .i64 x.n, cv] 36)
  have hbx := heap_alloc_new w (.cells #[.int .i64 2, .string x.name, .string x.to, bv, .int .i64 x.n, cv] 36)
  have hN : ¬ S w.heap.size := fun h => by have := hS _ h; omega
  have c1 := H.cut x.name x.n hn (H.below hD hbox)
  have c2 : ∀ w1 S1 (hS1 : ∀ b, S1 b → b < w1.heap.size), Kept S w w1 → Step S S1 w → Calls Try.prog 28 _ w1 (@Told (keepBut S1 w1 hS1) w1 (dCut fs x.name x.n)) := fun w1 S1 hS1 hk hs => @cut_of (keepBut S1 w1 hS1) fs x.name x.n lv w1 (hF.kept hk hs) hlen
  rw [hw]
  generalize dCut fs x.name x.n = R at *
  go_enter Try.func11, Try.ntmps11
  go_wp2_with fail
  refine c1.mono ?_
  rintro e w1 ⟨rfl, S1, hD1, hs1, hk1⟩
  have d1 : w1.cell? ⟨w.heap.size, 1, none⟩ = some (.string x.name) := hk1.cell (p := ⟨w.heap.size, 1, none⟩) (by rw [cells_of_block hbx]; rfl) hN
  have d2 : w1.cell? ⟨w.heap.size, 2, none⟩ = some (.string x.to) := hk1.cell (p := ⟨w.heap.size, 2, none⟩) (by rw [cells_of_block hbx]; rfl) hN
  have d4 : w1.cell? ⟨w.heap.size, 4, none⟩ = some (.int .i64 x.n) := hk1.cell (p := ⟨w.heap.size, 4, none⟩) (by rw [cells_of_block hbx]; rfl) hN
  have hk2 := Kept.after hbox hk1
  have hs2 := hs1.after hbox
  have c3 := c2 w1 S1 (H.lt hD1) hk2 hs2
  obtain ⟨al, cl, hlv⟩ := hF.shape
  rw [hlv] at c3
  rw [hlv]
  clear c1 c2
  go_wp2_with fail
  refine c3.mono ?_
  rintro e w2 ⟨lv2, rfl, hF2, hb2⟩
  go_wp2
  go_ret2
  exact doesT_of H hD1 hs2 hk2 hF2 hb2

set_option maxHeartbeats 1000000 in
theorem does_rename {Dk : (Nat → Prop) → World → Value → Files → Prop} (H : DiskOf Dk) {S : Nat → Prop} (fs : Files) (x : Ac) (d lv bv cv : Value) (w : World) (hS : ∀ b, S b → b < w.heap.size) (hD : Dk S w d fs) (hF : @Fv (keepBut S w hS) w lv fs) (hw : x.what = 3) (hn : x.name.size ≤ maxLen) :
    Calls Try.prog 11 #[d, lv, .agg #[.int .i64 x.what, .string x.name, .string x.to, bv, .int .i64 x.n, cv]] w (DoesT Dk S d w (dRename fs x.name x.to).1) := by
  have hlen : fs.length ≤ 1000 := by have := (H.sound hD).2.1; omega
  have hbox := (Below.refl w.heap.size w).alloc (Nat.le_refl _) (.cells #[.int .i64 3, .string x.name, .string x.to, bv, .int .i64 x.n, cv] 36)
  have hbx := heap_alloc_new w (.cells #[.int .i64 3, .string x.name, .string x.to, bv, .int .i64 x.n, cv] 36)
  have hN : ¬ S w.heap.size := fun h => by have := hS _ h; omega
  have c1 := H.rename x.name x.to hn (H.below hD hbox)
  have c2 : ∀ w1 S1 (hS1 : ∀ b, S1 b → b < w1.heap.size), Kept S w w1 → Step S S1 w → Calls Try.prog 29 _ w1 (@Told (keepBut S1 w1 hS1) w1 (dRename fs x.name x.to)) := fun w1 S1 hS1 hk hs => @rename_of (keepBut S1 w1 hS1) fs x.name x.to lv w1 (hF.kept hk hs) hlen
  rw [hw]
  generalize dRename fs x.name x.to = R at *
  go_enter Try.func11, Try.ntmps11
  go_wp2_with fail
  refine c1.mono ?_
  rintro e w1 ⟨rfl, S1, hD1, hs1, hk1⟩
  have d1 : w1.cell? ⟨w.heap.size, 1, none⟩ = some (.string x.name) := hk1.cell (p := ⟨w.heap.size, 1, none⟩) (by rw [cells_of_block hbx]; rfl) hN
  have d2 : w1.cell? ⟨w.heap.size, 2, none⟩ = some (.string x.to) := hk1.cell (p := ⟨w.heap.size, 2, none⟩) (by rw [cells_of_block hbx]; rfl) hN
  have d4 : w1.cell? ⟨w.heap.size, 4, none⟩ = some (.int .i64 x.n) := hk1.cell (p := ⟨w.heap.size, 4, none⟩) (by rw [cells_of_block hbx]; rfl) hN
  have hk2 := Kept.after hbox hk1
  have hs2 := hs1.after hbox
  have c3 := c2 w1 S1 (H.lt hD1) hk2 hs2
  obtain ⟨al, cl, hlv⟩ := hF.shape
  rw [hlv] at c3
  rw [hlv]
  clear c1 c2
  go_wp2_with fail
  refine c3.mono ?_
  rintro e w2 ⟨lv2, rfl, hF2, hb2⟩
  go_wp2
  go_ret2
  exact doesT_of H hD1 hs2 hk2 hF2 hb2

set_option maxHeartbeats 1000000 in
theorem does_remove {Dk : (Nat → Prop) → World → Value → Files → Prop} (H : DiskOf Dk) {S : Nat → Prop} (fs : Files) (x : Ac) (d lv bv cv : Value) (w : World) (hS : ∀ b, S b → b < w.heap.size) (hD : Dk S w d fs) (hF : @Fv (keepBut S w hS) w lv fs) (hw : x.what = 4) (hn : x.name.size ≤ maxLen) :
    Calls Try.prog 11 #[d, lv, .agg #[.int .i64 x.what, .string x.name, .string x.to, bv, .int .i64 x.n, cv]] w (DoesT Dk S d w (dRemove fs x.name).1) := by
  have hlen : fs.length ≤ 1000 := by have := (H.sound hD).2.1; omega
  have hbox := (Below.refl w.heap.size w).alloc (Nat.le_refl _) (.cells #[.int .i64 4, .string x.name, .string x.to, bv, .int .i64 x.n, cv] 36)
  have hbx := heap_alloc_new w (.cells #[.int .i64 4, .string x.name, .string x.to, bv, .int .i64 x.n, cv] 36)
  have hN : ¬ S w.heap.size := fun h => by have := hS _ h; omega
  have c1 := H.remove x.name hn (H.below hD hbox)
  have c2 : ∀ w1 S1 (hS1 : ∀ b, S1 b → b < w1.heap.size), Kept S w w1 → Step S S1 w → Calls Try.prog 30 _ w1 (@Told (keepBut S1 w1 hS1) w1 (dRemove fs x.name)) := fun w1 S1 hS1 hk hs => @remove_of (keepBut S1 w1 hS1) fs x.name lv w1 (hF.kept hk hs) hlen
  rw [hw]
  generalize dRemove fs x.name = R at *
  go_enter Try.func11, Try.ntmps11
  go_wp2_with fail
  refine c1.mono ?_
  rintro e w1 ⟨rfl, S1, hD1, hs1, hk1⟩
  have d1 : w1.cell? ⟨w.heap.size, 1, none⟩ = some (.string x.name) := hk1.cell (p := ⟨w.heap.size, 1, none⟩) (by rw [cells_of_block hbx]; rfl) hN
  have d2 : w1.cell? ⟨w.heap.size, 2, none⟩ = some (.string x.to) := hk1.cell (p := ⟨w.heap.size, 2, none⟩) (by rw [cells_of_block hbx]; rfl) hN
  have d4 : w1.cell? ⟨w.heap.size, 4, none⟩ = some (.int .i64 x.n) := hk1.cell (p := ⟨w.heap.size, 4, none⟩) (by rw [cells_of_block hbx]; rfl) hN
  have hk2 := Kept.after hbox hk1
  have hs2 := hs1.after hbox
  have c3 := c2 w1 S1 (H.lt hD1) hk2 hs2
  obtain ⟨al, cl, hlv⟩ := hF.shape
  rw [hlv] at c3
  rw [hlv]
  clear c1 c2
  go_wp2_with fail
  refine c3.mono ?_
  rintro e w2 ⟨lv2, rfl, hF2, hb2⟩
  go_wp2
  go_ret2
  exact doesT_of H hD1 hs2 hk2 hF2 hb2

end Go.Proofs.Ytcnljocgpoaepaa
