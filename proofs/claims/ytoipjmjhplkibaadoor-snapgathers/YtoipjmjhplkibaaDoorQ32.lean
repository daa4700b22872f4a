import Derived.Test.YtoipjmjhplkibaaDoorQ24
import Derived.Test.YtoipjmjhplkibaaDoorQ31
/- What a disk's acts turn: its own blocks alone. A disk, by what it does (to be shown of the program's). -/
namespace Go.Proofs.YtoipjmjhplkibaaDoor
open Go.RowKit DiskMath
set_option maxRecDepth 100000
set_option linter.unusedSimpArgs false

/-- All blocks but those of S are as they were. -/
structure Kept (S : Nat → Prop) (w w' : World) : Prop where
  os : w'.os = w.os
  tape : w'.tape = w.tape
  output : w'.output = w.output
  size : w.heap.size ≤ w'.heap.size
  block : ∀ k, k < w.heap.size → ¬ S k → w'.heap[k]? = w.heap[k]?
/-- S, apart from the blocks below n, and what is new. -/
@[reducible] def keepBut (S : Nat → Prop) (w : World) (hS : ∀ b, S b → b < w.heap.size) : Keep := ⟨⟨fun b => ¬ S b, w.heap.size, fun b h hb => by have := hS b hb; omega⟩⟩

theorem Kept.below {S : Nat → Prop} {w w' : World} {n : Nat} (h : Kept S w w') (hn : n ≤ w.heap.size) (hS : ∀ b, S b → n ≤ b) : Below n w w' :=
  ⟨h.os, h.tape, h.output, h.size, fun k hk => h.block k (by omega) fun hs => by have := hS k hs; omega⟩
theorem Below.kept {S : Nat → Prop} {w w' : World} (h : Below w.heap.size w w') : Kept S w w' := ⟨h.os, h.tape, h.output, h.size, fun k hk _ => h.block k hk⟩
theorem Kept.cell {S : Nat → Prop} {w w' : World} (h : Kept S w w') {p : Addr} {v : Value} (hc : w.cell? p = some v) (hp : ¬ S p.block) : w'.cell? p = some v :=
  (World.cell?_of_block (w := w) (h.block p.block (World.block_lt_of_cell? w _ hc) hp)).trans hc

/-- The blocks of a disk behind an act: those it had, and new ones. -/
def Step (S S' : Nat → Prop) (w : World) : Prop := ∀ b, S' b → S b ∨ w.heap.size ≤ b

theorem Bs.kept {S S' : Nat → Prop} {w w' : World} {v : Value} {l : List Nat} {hS : ∀ b, S b → b < w.heap.size} {hS' : ∀ b, S' b → b < w'.heap.size} (h : @Bs (keepBut S w hS) w.heap.size w v l) (hk : Kept S w w') (hs : Step S S' w) : @Bs (keepBut S' w' hS') w'.heap.size w' v l := by
  obtain ⟨ao, cap, h1, h2, h3, h4, h5⟩ := h
  exact ⟨ao, cap, h1, h2, h3, h4, fun hne => by
    obtain ⟨b, off, e1, e2, e3⟩ := h5 hne
    exact ⟨b, off, e1, ⟨Nat.lt_of_lt_of_le e2.1 hk.size, fun hb => (hs b hb).elim e2.2 fun h => by have := e2.1; omega⟩, fun j c hj => hk.cell (p := ⟨b, off + j, none⟩) (e3 j c hj) e2.2⟩⟩
theorem Fv.kept {S S' : Nat → Prop} {w w' : World} {lv : Value} {fs : Files} {hS : ∀ b, S b → b < w.heap.size} {hS' : ∀ b, S' b → b < w'.heap.size} (h : @Fv (keepBut S w hS) w lv fs) (hk : Kept S w w') (hs : Step S S' w) : @Fv (keepBut S' w' hS') w' lv fs := by
  obtain ⟨_, ao, cap, e, h2⟩ := h
  refine ⟨Nat.le_refl _, ao, cap, e, fun i f hf => ?_⟩
  obtain ⟨b, off, sv, r1, r2, r3, r4, r5, r6⟩ := h2 i f hf
  exact ⟨b, off, sv, r1, hk.cell (p := ⟨b, off + i * 3, none⟩) r2 r6, hk.cell (p := ⟨b, off + i * 3 + 1, none⟩) r3 r6, hk.cell (p := ⟨b, off + i * 3 + 2, none⟩) r4 r6, r5.kept hk hs, fun hb => (hs b hb).elim r6 fun h => by have := World.block_lt_of_cell? w _ r2; simp at this; omega⟩
/-- What the document's own acts made, of the world as it is then. -/
theorem Fv.renew {S : Nat → Prop} {w w' : World} {lv : Value} {fs : Files} {hS : ∀ b, S b → b < w.heap.size} {hS' : ∀ b, S b → b < w'.heap.size} (h : @Fv (keepBut S w hS) w' lv fs) : @Fv (keepBut S w' hS') w' lv fs :=
  h.imp (fun _ _ hk => hk) (Nat.le_refl _)

/-- What an act with a disk tells and leaves. -/
def Did (Dk : (Nat → Prop) → World → Value → Files → Prop) (S : Nat → Prop) (d : Value) (w : World) (R : Files × Nat) (e : Ending) (w' : World) : Prop :=
  e = .returned (.int .i64 (R.2 : Int)) ∧ ∃ S', Dk S' w' d R.1 ∧ Step S S' w ∧ Kept S w w'
def DidC (Dk : (Nat → Prop) → World → Value → Files → Prop) (S : Nat → Prop) (d : Value) (w : World) (fs : Files) (e : Ending) (w' : World) : Prop :=
  e = .returned (.tuple #[]) ∧ ∃ S', Dk S' w' d fs ∧ Step S S' w ∧ Kept S w w'

/-- A disk, by what it does. -/
structure DiskOf (Dk : (Nat → Prop) → World → Value → Files → Prop) : Prop where
  lt : ∀ {S w d fs}, Dk S w d fs → ∀ b, S b → b < w.heap.size
  sound : ∀ {S w d fs}, Dk S w d fs → SoundF fs
  kept : ∀ {S w w' d fs}, Dk S w d fs → w.heap.size ≤ w'.heap.size → (∀ b, S b → w'.heap[b]? = w.heap[b]?) → Dk S w' d fs
  append : ∀ {S w d fs} (n : ByteArray) (bv : Value) (bl : List Nat), Dk S w d fs → @Bs keepAll w.heap.size w bv bl → (∀ c ∈ bl, c < 256) → bl.length ≤ 140737488355328 → Calls Tryd.prog 25 #[d, .string n, bv] w (Did Dk S d w (dAppend fs n bl))
  sync : ∀ {S w d fs} (n : ByteArray), n.size ≤ maxLen → Dk S w d fs → Calls Tryd.prog 27 #[d, .string n] w (Did Dk S d w (dSync fs n))
  cut : ∀ {S w d fs} (n : ByteArray) (k : Int), n.size ≤ maxLen → Dk S w d fs → Calls Tryd.prog 24 #[d, .string n, .int .i64 k] w (Did Dk S d w (dCut fs n k))
  rename : ∀ {S w d fs} (n t : ByteArray), n.size ≤ maxLen → Dk S w d fs → Calls Tryd.prog 28 #[d, .string n, .string t] w (Did Dk S d w (dRename fs n t))
  crash : ∀ {S w d fs} (cv : Value) (cuts : List Int), Dk S w d fs → (∀ w', Kept S w w' → Nv w' cv cuts) → Calls Tryd.prog 15 #[d, cv] w (DidC Dk S d w (crash fs cuts))

theorem Kept.then {S : Nat → Prop} {w w1 w2 : World} (h : Kept S w w1) (hb : Below w1.heap.size w1 w2) : Kept S w w2 :=
  ⟨hb.os.trans h.os, hb.tape.trans h.tape, hb.output.trans h.output, Nat.le_trans h.size hb.size, fun k hk hs => (hb.block k (Nat.lt_of_lt_of_le hk h.size)).trans (h.block k hk hs)⟩
theorem DiskOf.below {Dk : (Nat → Prop) → World → Value → Files → Prop} (H : DiskOf Dk) {S : Nat → Prop} {w w' : World} {d : Value} {fs : Files} (h : Dk S w d fs) (hb : Below w.heap.size w w') : Dk S w' d fs :=
  H.kept h hb.size fun b hs => hb.block b (H.lt h b hs)

theorem Kept.after {S : Nat → Prop} {w w1 w2 : World} (hb : Below w.heap.size w w1) (h : Kept S w1 w2) : Kept S w w2 :=
  ⟨h.os.trans hb.os, h.tape.trans hb.tape, h.output.trans hb.output, Nat.le_trans hb.size h.size, fun k hk hs => (h.block k (Nat.lt_of_lt_of_le hk hb.size) hs).trans (hb.block k hk)⟩
theorem Step.after {S S' : Nat → Prop} {w w1 : World} (h : Step S S' w1) (hb : Below w.heap.size w w1) : Step S S' w := fun b hs => (h b hs).imp id fun h => Nat.le_trans hb.size h
theorem Fv.shape {K : Keep} {w : World} {lv : Value} {fs : Files} (h : @Fv K w lv fs) : ∃ ao cap, lv = .slice ao fs.length cap := by
  obtain ⟨_, ao, cap, e, _⟩ := h
  exact ⟨ao, cap, e⟩

end Go.Proofs.YtoipjmjhplkibaaDoor

