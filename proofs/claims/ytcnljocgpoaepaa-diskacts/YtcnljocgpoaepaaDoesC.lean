/- What does leaves: a crash. -/
import Derived.Test.YtcnljocgpoaepaaDoes
import Derived.Test.YtcnljocgpoaepaaInts
namespace Go.Proofs.Ytcnljocgpoaepaa
open Go.RowKit DiskMath
set_option maxRecDepth 100000
set_option linter.unusedSimpArgs false

set_option maxHeartbeats 1000000 in
theorem does_crash {Dk : (Nat → Prop) → World → Value → Files → Prop} (H : DiskOf Dk) {S : Nat → Prop} (fs : Files) (x : Ac) (d lv bv cv : Value) (w : World) (hS : ∀ b, S b → b < w.heap.size) (hD : Dk S w d fs) (hF : @Fv (keepBut S w hS) w lv fs) (hw : x.what = 5)
    (hC : ∀ w', Kept S w w' → Nv w' cv x.cuts) (hlc : x.cuts.length * 8 ≤ 140737488355328) :
    Calls Try.prog 11 #[d, lv, .agg #[.int .i64 x.what, .string x.name, .string x.to, bv, .int .i64 x.n, cv]] w (DoesT Dk S d w (crash fs x.cuts)) := by
  have hsd := H.sound hD
  have hlen : fs.length ≤ 1000 := by have := hsd.2.1; omega
  have hss : ∀ f ∈ fs, f.safe ≤ f.data.length ∧ f.data.length ≤ 65536 := fun f hf => ⟨(hsd.2.2 f hf).2.2, (hsd.2.2 f hf).2.1⟩
  have hbox := (Below.refl w.heap.size w).alloc (Nat.le_refl _) (.cells #[.int .i64 5, .string x.name, .string x.to, bv, .int .i64 x.n, cv] 36)
  have hbx := heap_alloc_new w (.cells #[.int .i64 5, .string x.name, .string x.to, bv, .int .i64 x.n, cv] 36)
  have hszx : (w.alloc (.cells #[.int .i64 5, .string x.name, .string x.to, bv, .int .i64 x.n, cv] 36)).heap.size = w.heap.size + 1 := by simp
  have hN : ¬ S w.heap.size := fun h => by have := hS _ h; omega
  have hCx := hC _ (Below.kept hbox)
  have c1 : ∀ w' v', Below w.heap.size w w' → Nn (w.heap.size + 1) w' v' x.cuts → Calls Try.prog 17 #[d, v'] w' (DidC Dk S d w' (crash fs x.cuts)) := fun w' v' hb hv => H.crash v' x.cuts (H.below hD hb) fun w'' hk => by
    obtain ⟨a1, a2, a3, a4, a5⟩ := hv
    refine ⟨a1, a2, a3, a4, fun i c hc => ?_⟩
    obtain ⟨b, off, z1, z2, z3⟩ := a5 i c hc
    exact ⟨b, off, z1, hk.cell (p := ⟨b, off + i, none⟩) z2 fun h => by have := hS b h; omega⟩
  have c2 : ∀ w1 S1 (hS1 : ∀ b, S1 b → b < w1.heap.size), Kept S w w1 → Step S S1 w → Calls Try.prog 31 _ w1 _ := fun w1 S1 hS1 hk hs => @crash_of (keepBut S1 w1 hS1) fs x.cuts lv cv w1 (hF.kept hk hs) (hC w1 hk) hlen hss
  obtain ⟨al, cl, hlv⟩ := hF.shape
  obtain ⟨ac, cc, hcv, -⟩ := id hCx
  rw [hw]
  subst hlv hcv
  generalize crash fs x.cuts = R at *
  have hb1 := (Below.refl _ (w.alloc (.cells #[.int .i64 5, .string x.name, .string x.to, bv, .int .i64 x.n, .slice ac x.cuts.length cc] 36))).alloc (Nat.le_refl _) (.cells #[] 3)
  have hbx1 := (hb1.block w.heap.size (by rw [hszx]; omega)).trans hbx
  have q5 : ((w.alloc (.cells #[.int .i64 5, .string x.name, .string x.to, bv, .int .i64 x.n, .slice ac x.cuts.length cc] 36)).alloc (.cells #[] 3)).cell? ⟨w.heap.size, 5, none⟩ = some (.slice ac x.cuts.length cc) := by rw [cells_of_block hbx1]; rfl
  clear hbx1 hb1
  go_enter Try.func11, Try.ntmps11
  go_wp2_with (at_builtin; refine wp_copy_ints rfl _ _ rfl _ x.cuts (by rw [hszx]; rfl) rfl hCx hlc ?_)
  intro v' w0 hN0 hb0
  have hbw0 : Below w.heap.size w w0 := hbox.trans (hb0.mono (Nat.le_succ _))
  have hbx0 := (hb0.block w.heap.size (Nat.lt_succ_self _)).trans hbx
  have c1' := c1 w0 v' hbw0 hN0
  obtain ⟨a5, p5, rfl, -⟩ := id hN0
  clear c1
  go_wp2_with fail
  refine c1'.mono ?_
  rintro e w1 ⟨rfl, S1, hD1, hs1, hk1⟩
  have d5 : w1.cell? ⟨w.heap.size, 5, none⟩ = some (.slice ac x.cuts.length cc) := hk1.cell (p := ⟨w.heap.size, 5, none⟩) (by rw [cells_of_block hbx0]; rfl) hN
  have hk2 := Kept.after hbw0 hk1
  have hs2 := hs1.after hbw0
  have c3 := c2 w1 S1 (H.lt hD1) hk2 hs2
  clear c1' c2 hN0
  go_wp2_with fail
  refine c3.mono ?_
  rintro e w2 ⟨lv2, rfl, hF2, hb2⟩
  go_wp2
  go_ret2
  exact doesT_of H hD1 hs2 hk2 (@Fo.fv (keepBut S1 w1 (H.lt hD1)) _ _ _ _ hF2) hb2
end Go.Proofs.Ytcnljocgpoaepaa
