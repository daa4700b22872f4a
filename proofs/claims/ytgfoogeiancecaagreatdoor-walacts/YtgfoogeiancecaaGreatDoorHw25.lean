import Derived.Test.YtgfoogeiancecaaGreatDoorHw16
import Derived.Test.YtgfoogeiancecaaGreatDoorHw24
/- What a disk's acts turn: its own blocks alone. A disk, by what it does (to be shown of the program's). -/
namespace Go.Proofs.YtgfoogeiancecaaGreatDoor
open Go.RowKit DiskMath
set_option maxRecDepth 100000
set_option linter.unusedSimpArgs false

/-- All blocks but those of S are as they were. -/
structure Kept (S : Nat → Prop) (w w' : World) : Prop where
  os : w'.os = w.os
  tape : w'.tape = w.tape
  output : w'.output = w.output
  size : w.heap.size ≤ w'.heap.size
  block : ∀ k, k < w.heap.size → ¬ S k → w'.heap[k]? = w.heap[k]?
/-- S, apart from the blocks below n, and what is new. -/
@[reducible] def keepBut (S : Nat → Prop) (w : World) (hS : ∀ b, S b → b < w.heap.size) : Keep := ⟨⟨fun b => ¬ S b, w.heap.size, fun b h hb => by have := hS b hb; omega⟩⟩

theorem Kept.below {S : Nat → Prop} {w w' : World} {n : Nat} (h : Kept S w w') (hn : n ≤ w.heap.size) (hS : ∀ b, S b → n ≤ b) : Below n w w' :=
  ⟨h.os, h.tape, h.output, h.size, fun k hk => h.block k (by omega) fun hs => by have := hS k hs; omega⟩
theorem Below.kept {S : Nat → Prop} {w w' : World} (h : Below w.heap.size w w') : Kept S w w' := ⟨h.os, h.tape, h.output, h.size, fun k hk _ => h.block k hk⟩
theorem Kept.cell {S : Nat → Prop} {w w' : World} (h : Kept S w w') {p : Addr} {v : Value} (hc : w.cell? p = some v) (hp : ¬ S p.block) : w'.cell? p = some v :=
  (World.cell?_of_block (w := w) (h.block p.block (World.block_lt_of_cell? w _ hc) hp)).trans hc

/-- The blocks of a disk behind an act: those it had, and new ones. -/
def Step (S S' : Nat → Prop) (w : World) : Prop := ∀ b, S' b → S b ∨ w.heap.size ≤ b

theorem Bs.kept {S S' : Nat → Prop} {w w' : World} {v : Value} {l : List Nat} {hS : ∀ b, S b → b < w.heap.size} {hS' : ∀ b, S' b → b < w'.heap.size} (h : @Bs (keepBut S w hS) w.heap.size w v l) (hk : Kept S w w') (hs : Step S S' w) : @Bs (keepBut S' w' hS') w'.heap.size w' v l := by
  obtain ⟨ao, cap, h1, h2, h3, h4, h5⟩ := h
  exact ⟨ao, cap, h1, h2, h3, h4, fun hne => by
    obtain ⟨b, off, e1, e2, e3⟩ := h5 hne
    exact ⟨b, off, e1, ⟨Nat.lt_of_lt_of_le e2.1 hk.size, fun hb => (hs b hb).elim e2.2 fun h => by have := e2.1; omega⟩, fun j c hj => hk.cell (p := ⟨b, off + j, none⟩) (e3 j c hj) e2.2⟩⟩
theorem Fv.kept {S S' : Nat → Prop} {w w' : World} {lv : Value} {fs : Files} {hS : ∀ b, S b → b < w.heap.size} {hS' : ∀ b, S' b → b < w'.heap.size} (h : @Fv (keepBut S w hS) w lv fs) (hk : Kept S w w') (hs : Step S S' w) : @Fv (keepBut S' w' hS') w' lv fs := by
  obtain ⟨_, ao, cap, e, h2⟩ := h
  refine ⟨Nat.le_refl _, ao, cap, e, fun i f hf => ?_⟩
  obtain ⟨b, off, sv, r1, r2, r3, r4, r5, r6⟩ := h2 i f hf
  exact ⟨b, off, sv, r1, hk.cell (p := ⟨b, off + i * 3, none⟩) r2 r6, hk.cell (p := ⟨b, off + i * 3 + 1, none⟩) r3 r6, hk.cell (p := ⟨b, off + i * 3 + 2, none⟩) r4 r6, r5.kept hk hs, fun hb => (hs b hb).elim r6 fun h => by have := World.block_lt_of_cell? w _ r2; simp at this; omega⟩
/-- What the document's own acts made, of the world as it is then. -/
theorem Fv.renew {S : Nat → Prop} {w w' : World} {lv : Value} {fs : Files} {hS : ∀ b, S b → b < w.heap.size} {hS' : ∀ b, S b → b < w'.heap.size} (h : @Fv (keepBut S w hS) w' lv fs) : @Fv (keepBut S w' hS') w' lv fs :=
  h.imp (fun _ _ hk => hk) (Nat.le_refl _)

/-- What an act with a disk tells and leaves. -/
def Did (Dk : (Nat → Prop) → World → Value → Files → Prop) (S : Nat → Prop) (d : Value) (w : World) (R : Files × Nat) (e : Ending) (w' : World) : Prop :=
  e = .returned (.int .i64 (R.2 : Int)) ∧ ∃ S', Dk S' w' d R.1 ∧ Step S S' w ∧ Kept S w w'
def DidC (Dk : (Nat → Prop) → World → Value → Files → Prop) (S : Nat → Prop) (d : Value) (w : World) (fs : Files) (e : Ending) (w' : World) : Prop :=
  e = .returned (.tuple #[]) ∧ ∃ S', Dk S' w' d fs ∧ Step S S' w ∧ Kept S w w'

/-- A disk, by what it does. -/
structure DiskOf (Dk : (Nat → Prop) → World → Value → Files → Prop) : Prop where
  lt : ∀ {S w d fs}, Dk S w d fs → ∀ b, S b → b < w.heap.size
  sound : ∀ {S w d fs}, Dk S w d fs → SoundF fs
  kept : ∀ {S w w' d fs}, Dk S w d fs → w.heap.size ≤ w'.heap.size → (∀ b, S b → w'.heap[b]? = w.heap[b]?) → Dk S w' d fs
  append : ∀ {S w d fs} (n : ByteArray) (bv : Value) (bl : List Nat), Dk S w d fs → @Bs keepAll w.heap.size w bv bl → (∀ c ∈ bl, c < 256) → bl.length ≤ 140737488355328 → Calls Tryz.prog 46 #[d, .string n, bv] w (Did Dk S d w (dAppend fs n bl))
  sync : ∀ {S w d fs} (n : ByteArray), n.size ≤ maxLen → Dk S w d fs → Calls Tryz.prog 26 #[d, .string n] w (Did Dk S d w (dSync fs n))
  cut : ∀ {S w d fs} (n : ByteArray) (k : Int), n.size ≤ maxLen → Dk S w d fs → Calls Tryz.prog 66 #[d, .string n, .int .i64 k] w (Did Dk S d w (dCut fs n k))
  remove : ∀ {S w d fs} (n : ByteArray), n.size ≤ maxLen → Dk S w d fs → Calls Tryz.prog 36 #[d, .string n] w (Did Dk S d w (dRemove fs n))
  crash : ∀ {S w d fs} (cv : Value) (cuts : List Int), Dk S w d fs → (∀ w', Kept S w w' → Nv w' cv cuts) → Calls Tryz.prog 14 #[d, cv] w (DidC Dk S d w (crash fs cuts))

theorem Kept.then {S : Nat → Prop} {w w1 w2 : World} (h : Kept S w w1) (hb : Below w1.heap.size w1 w2) : Kept S w w2 :=
  ⟨hb.os.trans h.os, hb.tape.trans h.tape, hb.output.trans h.output, Nat.le_trans h.size hb.size, fun k hk hs => (hb.block k (Nat.lt_of_lt_of_le hk h.size)).trans (h.block k hk hs)⟩
theorem DiskOf.below {Dk : (Nat → Prop) → World → Value → Files → Prop} (H : DiskOf Dk) {S : Nat → Prop} {w w' : World} {d : Value} {fs : Files} (h : Dk S w d fs) (hb : Below w.heap.size w w') : Dk S w' d fs :=
  H.kept h hb.size fun b hs => hb.block b (H.lt h b hs)

theorem Kept.after {S : Nat → Prop} {w w1 w2 : World} (hb : Below w.heap.size w w1) (h : Kept S w1 w2) : Kept S w w2 :=
  ⟨h.os.trans hb.os, h.tape.trans hb.tape, h.output.trans hb.output, Nat.le_trans hb.size h.size, fun k hk hs => (h.block k (Nat.lt_of_lt_of_le hk hb.size) hs).trans (hb.block k hk)⟩
theorem Step.after {S S' : Nat → Prop} {w w1 : World} (h : Step S S' w1) (hb : Below w.heap.size w w1) : Step S S' w := fun b hs => (h b hs).imp id fun h => Nat.le_trans hb.size h
theorem Fv.shape {K : Keep} {w : World} {lv : Value} {fs : Files} (h : @Fv K w lv fs) : ∃ ao cap, lv = .slice ao fs.length cap := by
  obtain ⟨_, ao, cap, e, _⟩ := h
  exact ⟨ao, cap, e⟩

end Go.Proofs.YtgfoogeiancecaaGreatDoor

/- The program's disk in memory: its block, its map, a block and a row a file, all apart by a mark a block. -/
namespace Go.Proofs.YtgfoogeiancecaaGreatDoor
open Go.RowKit DiskMath
set_option maxRecDepth 100000
set_option linter.unusedSimpArgs false
set_option linter.unusedVariables false

theorem out_len {O : DiskMath.Ord ByteArray} : ∀ {l : Files} {n : ByteArray} {f : File}, Rises O l → get l n = some f → (DiskMath.out l n).length = l.length - 1
  | [], n, f, _, h => by simp [get_nil] at h
  | x :: l, n, f, hr, h => by
    rw [get_cons] at h
    unfold DiskMath.out
    rw [List.filter_cons]
    by_cases hx : x.name = n
    · have ha : (l.filter fun g => decide (g.name ≠ n)) = l := by
        rw [List.filter_eq_self]
        intro g hg
        have := hr.1 g hg
        simp only [ne_eq, decide_not, Bool.not_eq_eq_eq_not, Bool.not_true, decide_eq_false_iff_not]
        exact fun e => O.irr n (by rw [hx, e] at this; exact this)
      rw [if_neg (by simp [hx]), ha]
      simp
    · rw [if_neg hx] at h
      have ih := out_len hr.2 h
      unfold DiskMath.out at ih
      have hpos : 0 < l.length := List.length_pos_of_mem (get_mem h)
      rw [if_pos (by simp [hx]), List.length_cons, List.length_cons, ih]
      omega

/-- A block's mark: what it is for (0: nothing of the disk's; 1: the disk; 2: its map; 3: a file; 4: a file's bytes), and whose. -/
abbrev Mark := Nat → Nat × ByteArray
def noName : ByteArray := ⟨#[]⟩

/-- The file of name n at block p, its bytes at v. -/
structure FileAt (w : World) (ρ : Mark) (n : ByteArray) (f : File) (p : Nat) (v : Value) : Prop where
  block : w.heap[p]? = some (.cells #[v, .int .i64 (f.safe : Int)] 113 (0, 0))
  own : Own 0 w v f.data
  mark : ρ p = (3, n)
  row : ∀ k, v.ownBlock = some k → ρ k = (4, n)

/-- The disk at block q, its map at block m. -/
structure DiskAt (ρ : Mark) (M : ByteArray → Option Value) (w : World) (q m : Nat) (fs : Files) : Prop where
  block : w.heap[q]? = some (.cells #[.map (some m)] 52 (0, 0))
  map : Mp w m M fs.length
  markq : ρ q = (1, noName)
  markm : ρ m = (2, noName)
  lt : ∀ b, (ρ b).1 ≠ 0 → b < w.heap.size
  sound : SoundF fs
  byte : ∀ f ∈ fs, ∀ c ∈ f.data, c < 256
  no : ∀ n, get fs n = none → M n = none
  yes : ∀ n f, get fs n = some f → ∃ p v, M n = some (.pointer (some ⟨p, 0, none⟩)) ∧ FileAt w ρ n f p v

/-- A disk. -/
def Dk (S : Nat → Prop) (w : World) (d : Value) (fs : Files) : Prop :=
  ∃ ρ M q m, d = .pointer (some ⟨q, 0, none⟩) ∧ (∀ b, S b ↔ (ρ b).1 ≠ 0) ∧ DiskAt ρ M w q m fs

theorem Own.same {n₀ : Nat} {w w' : World} {v : Value} {l : List Nat} (h : Own n₀ w v l) (hs : ∀ k, v.ownBlock = some k → w'.heap[k]? = w.heap[k]?) : Own n₀ w' v l := by
  obtain ⟨h0, h1 | ⟨g, cap, cur, e1, hg, hbk, r⟩⟩ := h
  · exact ⟨h0, .inl h1⟩
  · exact ⟨h0, .inr ⟨g, cap, cur, e1, hg, (hs g (by rw [e1]; rfl)).trans hbk, r⟩⟩
theorem FileAt.same {w w' : World} {ρ ρ' : Mark} {n : ByteArray} {f : File} {p : Nat} {v : Value} (h : FileAt w ρ n f p v) (hs : ∀ b, ρ b = (3, n) ∨ ρ b = (4, n) → w'.heap[b]? = w.heap[b]? ∧ ρ' b = ρ b) : FileAt w' ρ' n f p v :=
  ⟨(hs p (.inl h.mark)).1.trans h.block, h.own.same fun k hk => (hs k (.inr (h.row k hk))).1, (hs p (.inl h.mark)).2.trans h.mark, fun k hk => (hs k (.inr (h.row k hk))).2.trans (h.row k hk)⟩
theorem Mp.same {w w' : World} {b c : Nat} {M : ByteArray → Option Value} (h : Mp w b M c) (hs : w'.heap[b]? = w.heap[b]?) : Mp w' b M c := by
  obtain ⟨D, ⟨es, clock, h1, h2⟩, h3, h4⟩ := h
  exact ⟨D, ⟨es, clock, hs.trans h1, h2⟩, h3, h4⟩

theorem DiskAt.same {ρ : Mark} {M : ByteArray → Option Value} {w w' : World} {q m : Nat} {fs : Files} (h : DiskAt ρ M w q m fs) (hsz : w.heap.size ≤ w'.heap.size) (hs : ∀ b, (ρ b).1 ≠ 0 → w'.heap[b]? = w.heap[b]?) : DiskAt ρ M w' q m fs :=
  { h with
    block := (hs q (by rw [h.markq]; decide)).trans h.block
    map := h.map.same (hs m (by rw [h.markm]; decide))
    lt := fun b hb => Nat.lt_of_lt_of_le (h.lt b hb) hsz
    yes := fun n f hf => by
      obtain ⟨p, v, h1, h2⟩ := h.yes n f hf
      exact ⟨p, v, h1, h2.same fun b hb => ⟨hs b (by rcases hb with hb | hb <;> (rw [hb]; simp)), rfl⟩⟩ }
theorem DiskAt.below {ρ : Mark} {M : ByteArray → Option Value} {w w' : World} {q m : Nat} {fs : Files} (h : DiskAt ρ M w q m fs) (hb : Below w.heap.size w w') : DiskAt ρ M w' q m fs :=
  h.same hb.size fun b hm => hb.block b (h.lt b hm)

/-- One file turned, or made anew, behind its old mark: all others stay. -/
theorem DiskAt.put {ρ ρ' : Mark} {M M' : ByteArray → Option Value} {w w' : World} {q m : Nat} {fs : Files} (h : DiskAt ρ M w q m fs) (f' : File) (p : Nat) (v : Value)
    (hsz : w.heap.size ≤ w'.heap.size) (hs : ∀ b, (ρ b).1 ≠ 0 → (ρ b).2 ≠ f'.name → b ≠ m → w'.heap[b]? = w.heap[b]?) (hq : w'.heap[q]? = w.heap[q]?) (hMm : Mp w' m M' (if get fs f'.name = none then fs.length + 1 else fs.length))
    (hM : ∀ n, M' n = if n = f'.name then some (.pointer (some ⟨p, 0, none⟩)) else M n) (hρ : ∀ b, (ρ b).1 ≠ 0 → ρ' b = ρ b) (hlt : ∀ b, (ρ' b).1 ≠ 0 → b < w'.heap.size)
    (hF : FileAt w' ρ' f'.name f' p v) (hsd : SoundF (putF fs f')) (hby : ∀ c ∈ f'.data, c < 256) : DiskAt ρ' M' w' q m (putF fs f') := by
  have hg : ∀ n, get (putF fs f') n = if f'.name = n then some f' else get fs n := fun n => put_get n h.sound.1
  refine ⟨hq.trans h.block, ?_, (hρ q (by rw [h.markq]; decide)).trans h.markq, (hρ m (by rw [h.markm]; decide)).trans h.markm, hlt, hsd, ?_, ?_, ?_⟩
  · have e : (putF fs f').length = if get fs f'.name = none then fs.length + 1 else fs.length := put_length h.sound.1
    rw [e]
    exact hMm
  · intro g hg' c hc
    rcases put_mem hg' with rfl | hg'
    · exact hby c hc
    · exact h.byte g hg'.1 c hc
  · intro n hn
    rw [hg] at hn
    by_cases e : f'.name = n
    · rw [if_pos e] at hn; cases hn
    · rw [if_neg e] at hn
      rw [hM, if_neg (fun e' => e e'.symm)]
      exact h.no n hn
  · intro n g hn
    rw [hg] at hn
    by_cases e : f'.name = n
    · rw [if_pos e] at hn
      cases hn
      subst e
      exact ⟨p, v, by rw [hM, if_pos rfl], hF⟩
    · rw [if_neg e] at hn
      obtain ⟨p', v', h1, h2⟩ := h.yes n g hn
      refine ⟨p', v', by rw [hM, if_neg (fun e' => e e'.symm)]; exact h1, h2.same fun b hb => ?_⟩
      have ht : (ρ b).1 ≠ 0 := by rcases hb with hb | hb <;> (rw [hb]; simp)
      have hn' : (ρ b).2 = n := by rcases hb with hb | hb <;> rw [hb]
      refine ⟨hs b ht (fun e' => e (e'.symm.trans hn')) (fun e' => ?_), hρ b ht⟩
      rw [e', h.markm] at hb
      rcases hb with hb | hb <;> (injection hb with hb; cases hb)

/-- One file less. -/
theorem DiskAt.out {ρ : Mark} {M M' : ByteArray → Option Value} {w w' : World} {q m : Nat} {fs : Files} (h : DiskAt ρ M w q m fs) (n : ByteArray) {f : File} (hf : get fs n = some f)
    (hsz : w.heap.size ≤ w'.heap.size) (hs : ∀ b, (ρ b).1 ≠ 0 → b ≠ m → w'.heap[b]? = w.heap[b]?) (hMm : Mp w' m M' (fs.length - 1)) (hM : ∀ k, M' k = if k = n then none else M k) : DiskAt ρ M' w' q m (DiskMath.out fs n) := by
  have hg : ∀ k, get (DiskMath.out fs n) k = if k = n then none else get fs k := fun k => out_get n k fs
  have hqm : q ≠ m := fun e => by
    have := h.markq
    rw [e, h.markm] at this
    injection this with this
    cases this
  refine ⟨(hs q (by rw [h.markq]; decide) hqm).trans h.block, ?_, h.markq, h.markm, fun b hb => Nat.lt_of_lt_of_le (h.lt b hb) hsz, sound_out h.sound n, ?_, ?_, ?_⟩
  · have e : (DiskMath.out fs n).length = fs.length - 1 := out_len h.sound.1 hf
    rw [e]
    exact hMm
  · intro g hg' c hc
    exact h.byte g (List.mem_filter.1 hg').1 c hc
  · intro k hk
    rw [hg] at hk
    rw [hM]
    by_cases e : k = n
    · rw [if_pos e]
    · rw [if_neg e] at hk ⊢
      exact h.no k hk
  · intro k g hk
    rw [hg] at hk
    by_cases e : k = n
    · rw [if_pos e] at hk; cases hk
    · rw [if_neg e] at hk
      obtain ⟨p', v', h1, h2⟩ := h.yes k g hk
      refine ⟨p', v', by rw [hM, if_neg e]; exact h1, h2.same fun b hb => ⟨?_, rfl⟩⟩
      have ht : (ρ b).1 ≠ 0 := by rcases hb with hb | hb <;> (rw [hb]; simp)
      refine hs b ht (fun e' => ?_)
      rw [e', h.markm] at hb
      rcases hb with hb | hb <;> (injection hb with hb; cases hb)
end Go.Proofs.YtgfoogeiancecaaGreatDoor

