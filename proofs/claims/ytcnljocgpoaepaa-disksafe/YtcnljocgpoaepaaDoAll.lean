/- What does leaves, whatever is done. -/
import Derived.Test.YtcnljocgpoaepaaDoesA
namespace Go.Proofs.Ytcnljocgpoaepaa
open Go.RowKit DiskMath
set_option maxRecDepth 100000
set_option linter.unusedSimpArgs false
set_option linter.unusedVariables false

/-- What an act makes of files. -/
def actF (fs : Files) (x : Ac) : Files :=
  if x.what = 1 then (dSync fs x.name).1 else if x.what = 2 then (dCut fs x.name x.n).1 else if x.what = 3 then (dRename fs x.name x.to).1 else
  if x.what = 4 then (dRemove fs x.name).1 else if x.what = 5 then crash fs x.cuts else (dAppend fs x.name x.b).1

/-- An act of the input, with a disk of the call's own. -/
theorem does_of {Dk : (Nat → Prop) → World → Value → Files → Prop} (H : DiskOf Dk) {S : Nat → Prop} (fs : Files) (x : Ac) (d lv bv cv : Value) (w₀ w : World) (hb : Below w₀.heap.size w₀ w) (hSn : ∀ b, S b → w₀.heap.size ≤ b) (hS : ∀ b, S b → b < w.heap.size) (hD : Dk S w d fs) (hF : @Fv (keepBut S w hS) w lv fs)
    (hok : AcOk x) (hB : @Bs keepAll w₀.heap.size w₀ bv x.b) (hN : Nv w₀ cv x.cuts) (hbl : x.b.length ≤ 140737488355328) (hcl : x.cuts.length * 8 ≤ 140737488355328) :
    Calls Try.prog 11 #[d, lv, .agg #[.int .i64 x.what, .string x.name, .string x.to, bv, .int .i64 x.n, cv]] w (DoesT Dk S d w (actF fs x)) := by
  unfold actF
  by_cases h1 : x.what = 1
  · rw [if_pos h1]
    exact does_sync H fs x d lv bv cv w hS hD hF h1 hok.1
  rw [if_neg h1]
  by_cases h2 : x.what = 2
  · rw [if_pos h2]
    exact does_cut H fs x d lv bv cv w hS hD hF h2 hok.1
  rw [if_neg h2]
  by_cases h3 : x.what = 3
  · rw [if_pos h3]
    exact does_rename H fs x d lv bv cv w hS hD hF h3 hok.1
  rw [if_neg h3]
  by_cases h4 : x.what = 4
  · rw [if_pos h4]
    exact does_remove H fs x d lv bv cv w hS hD hF h4 hok.1
  rw [if_neg h4]
  by_cases h5 : x.what = 5
  · rw [if_pos h5]
    exact does_crash H fs x d lv bv cv w hS hD hF h5 (fun w' hk => hN.below (hb.trans (hk.below hb.size hSn))) hcl
  rw [if_neg h5]
  refine does_append H fs x d lv bv cv w hS hD hF ⟨h1, h2, h3, h4, h5⟩ ?_ hok.2.2 hbl
  have h := @Bs.below keepAll _ _ _ _ _ hB hb
  exact @Bs.mono (keepBut S w hS) _ _ _ _ _ (h.imp fun b hlt _ hs => by have := hSn b hs; omega) hb.size
end Go.Proofs.Ytcnljocgpoaepaa
