import Derived.Test.YtljfhafmedngnaaGreatDoorP33
/- The contracts of a file's cut and crash. -/
namespace Go.Proofs.YtljfhafmedngnaaGreatDoor
open Go.RowKit DiskMath
set_option maxRecDepth 100000
set_option linter.unusedSimpArgs false
set_option linter.unusedVariables false

/-- What is left of a file: its block holds these bytes, in new memory. -/
def FileT (w : World) (p : Nat) (data : List Nat) (safe : Nat) (e : Ending) (w' : World) : Prop :=
  e = .returned (.tuple #[]) ∧ ∃ v', w'.heap[p]? = some (.cells #[v', .int .i64 (safe : Int)] 118 (0, 0)) ∧ Own w.heap.size w' v' data ∧ w.grownBy w' (some p)

theorem box2_0 {w : World} {g : Nat} {a b : Value} {t : TypeId} (h : w.heap[g]? = some (.cells #[a, b] t (0, 0))) (x : Value) : (w.setCell ⟨g, 0, none⟩ x).heap[g]? = some (.cells #[x, b] t (0, 0)) := by
  simp [World.setCell, Array.getElem?_modify, h]
theorem box2_1 {w : World} {g : Nat} {a b : Value} {t : TypeId} (h : w.heap[g]? = some (.cells #[a, b] t (0, 0))) (x : Value) : (w.setCell ⟨g, 1, none⟩ x).heap[g]? = some (.cells #[a, x] t (0, 0)) := by
  simp [World.setCell, Array.getElem?_modify, h]
theorem set_size (w : World) (p : Addr) (x : Value) : (w.setCell p x).heap.size = w.heap.size := by simp [World.setCell]
theorem set_block {w : World} {q k : Nat} (i : Nat) (x : Value) (h : k ≠ q) : (w.setCell ⟨q, i, none⟩ x).heap[k]? = w.heap[k]? := Below.heap_setCell _ _ _ _ h

set_option maxHeartbeats 1000000 in
theorem fcut_of {w : World} {p : Nat} {f : File} {v : Value} (k : Nat) (hp : w.heap[p]? = some (.cells #[v, .int .i64 (f.safe : Int)] 118 (0, 0))) (hO : Own 0 w v f.data) (hk : k ≤ f.data.length) (hl : f.data.length ≤ 65536) :
    Calls Tryz.prog 83 #[.pointer (some ⟨p, 0, none⟩), .int .i64 (k : Int)] w (FileT w p (f.data.take k) (min f.safe k)) := by
  letI := keepAll
  have hB : Bs w.heap.size w v f.data := hO.bs (Nat.zero_le _)
  obtain ⟨ao, cap, rfl, hc1, hc2, _⟩ := id hB
  have c0 : w.cell? ⟨p, 0, none⟩ = some (.slice ao f.data.length cap) := by rw [cells_of_block hp]; rfl
  have hBk := hB.took hk
  have hc := clone_of w.heap.size _ _ w hBk (Nat.le_refl _) (by rw [List.length_take]; omega)
  have hplt : p < w.heap.size := (Array.getElem?_eq_some_iff.1 hp).1
  have hfin : ∀ w1 v', Own w.heap.size w1 v' (f.data.take k) → Below w.heap.size w w1 → FileT w p (f.data.take k) (min f.safe k) (.returned (.tuple #[])) ((w1.setCell ⟨p, 0, none⟩ v').setCell ⟨p, 1, none⟩ (.int .i64 ((min f.safe k : Nat) : Int))) := by
    intro w1 v' hO' hb
    have hp1 := (hb.block p hplt).trans hp
    refine ⟨rfl, v', box2_1 (box2_0 hp1 v') _, ?_, ?_⟩
    · refine hO'.same fun j hj => ?_
      have := (World.ownsRow.lt hO' j hj).1
      rw [set_block 1 _ (by omega), set_block 0 _ (by omega)]
    · refine ⟨hb.os, hb.tape, hb.output, by rw [set_size, set_size]; exact hb.size, fun i hi hne => ?_⟩
      have hne' : i ≠ p := fun e => hne (by rw [e])
      rw [set_block 1 _ hne', set_block 0 _ hne']
      exact hb.block i hi
  have hfr : ∀ w1, Below w.heap.size w w1 → w1.cell? ⟨p, 0, none⟩ = some (.slice ao f.data.length cap) ∧ w1.frozen? ⟨p, 0, none⟩ = false ∧ ∀ v', (w1.setCell ⟨p, 0, none⟩ v').cell? ⟨p, 1, none⟩ = some (.int .i64 (f.safe : Int)) ∧ (w1.setCell ⟨p, 0, none⟩ v').frozen? ⟨p, 1, none⟩ = false := by
    intro w1 hb
    have hp1 := (hb.block p hplt).trans hp
    refine ⟨by rw [cells_of_block hp1]; rfl, frozen_of hp1 0, fun v' => ⟨by rw [cells_of_block (box2_0 hp1 v')]; rfl, frozen_of (box2_0 hp1 v') 1⟩⟩
  have hki : (k : Int) ≤ (cap : Int) := by omega
  have hk2 : k ≤ cap := by omega
  have hk0 : ¬ (k : Int) < 0 := by omega
  have hc3 : (cap : Int) ≤ 9223372036854775807 := by unfold maxLen at hc2; omega
  have hmin : min (f.safe : Int) (k : Int) = ((min f.safe k : Nat) : Int) := by omega
  generalize min f.safe k = mn at *
  generalize FileT w p (f.data.take k) mn = T at *
  generalize f.data.take k = dk at *
  clear hB hBk hO
  go_enter Tryz.func83, Tryz.ntmps83
  go_wp2_with fail
  refine hc.mono ?_
  rintro e w1 ⟨v', rfl, hO', hb⟩
  obtain ⟨d0, g0, d1⟩ := hfr w1 hb
  obtain ⟨d1, g1⟩ := d1 v'
  have hT := hfin w1 v' hO' hb
  obtain ⟨a5, c5, rfl⟩ := hO'.shape
  clear hfr hfin hc hO'
  go_wp2
  go_end0
  exact hT

set_option maxHeartbeats 1000000 in
theorem fcrash_of {w : World} {p : Nat} {f : File} {v : Value} (c : Int) (hp : w.heap[p]? = some (.cells #[v, .int .i64 (f.safe : Int)] 118 (0, 0))) (hO : Own 0 w v f.data) (hs : f.safe ≤ f.data.length) (hl : f.data.length ≤ 65536) :
    Calls Tryz.prog 50 #[.pointer (some ⟨p, 0, none⟩), .int .i64 c] w (FileT w p (f.data.take (left f (some c))) (left f (some c))) := by
  letI := keepAll
  have hB : Bs w.heap.size w v f.data := hO.bs (Nat.zero_le _)
  obtain ⟨ao, cap, rfl, hc1, hc2, _⟩ := id hB
  obtain ⟨st, hst⟩ : ∃ st, st = left f (some c) := ⟨_, rfl⟩
  have hb2 := left_bounds f (some c) hs
  have hv : (st : Int) = (f.safe : Int) + min (max c 0) ((f.data.length : Int) - (f.safe : Int)) := by
    rw [hst]
    unfold left
    dsimp only
    omega
  rw [← hst] at hb2 ⊢
  clear hst
  have c0 : ∀ k, (w.drewN k).cell? ⟨p, 0, none⟩ = some (.slice ao f.data.length cap) := fun k => by
    show w.cell? _ = _
    rw [cells_of_block hp]; rfl
  have c1 : ∀ k, (w.drewN k).cell? ⟨p, 1, none⟩ = some (.int .i64 (f.safe : Int)) := fun k => by
    show w.cell? _ = _
    rw [cells_of_block hp]; rfl
  have hcut : ∀ k, Calls Tryz.prog 83 #[.pointer (some ⟨p, 0, none⟩), .int .i64 (st : Int)] (w.drewN k) (FileT (w.drewN k) p (f.data.take st) (min f.safe st)) := fun k => fcut_of (w := w.drewN k) st hp hO hb2.2 hl
  have hfin : ∀ k w1, FileT (w.drewN k) p (f.data.take st) (min f.safe st) (.returned (.tuple #[])) w1 → (∃ u, w1.cell? ⟨p, 1, none⟩ = some u) ∧ w1.frozen? ⟨p, 1, none⟩ = false ∧ FileT w p (f.data.take st) st (.returned (.tuple #[])) (w1.setCell ⟨p, 1, none⟩ (.int .i64 (st : Int))) := by
    rintro k w1 ⟨-, v', hp1, hO1, hg⟩
    have hplt : p < w.heap.size := (Array.getElem?_eq_some_iff.1 hp).1
    refine ⟨⟨_, by rw [cells_of_block hp1]; rfl⟩, frozen_of hp1 1, rfl, v', box2_1 hp1 _, hO1.same fun j hj => ?_, ?_⟩
    · have := (World.ownsRow.lt hO1 j hj).1
      have hd : (w.drewN k).heap.size = w.heap.size := rfl
      rw [set_block 1 _ (by omega)]
    · refine ⟨hg.os, hg.tape, hg.output, by rw [set_size]; exact hg.size, fun i hi hne => ?_⟩
      rw [set_block 1 _ (fun e => hne (by rw [e]))]
      exact hg.block i hi hne
  have q1 : IntKind.i64.wrap ((f.data.length : Int) - (f.safe : Int)) = (f.data.length : Int) - (f.safe : Int) := IntWalk.i64_in _ (by omega)
  have q2 : IntKind.i64.wrap ((f.safe : Int) + min (max c 0) ((f.data.length : Int) - (f.safe : Int))) = (st : Int) := by rw [← hv]; exact IntWalk.i64_in _ (by omega)
  generalize FileT w p (f.data.take st) st = T at *
  generalize hF : FileT = F at *
  clear hB hO hp hv
  go_enter Tryz.func50, Tryz.ntmps50
  go_wp2
  go_big_quiet (fail)
  go_wp2_with fail
  refine (hcut _).mono ?_
  rintro e w1 h1
  have h1' := h1
  rw [← hF] at h1'
  obtain ⟨rfl, -⟩ := h1'
  obtain ⟨⟨u, d1⟩, g1, hT⟩ := hfin _ w1 h1
  clear hfin hcut h1
  go_wp2
  go_end0
  exact hT
end Go.Proofs.YtljfhafmedngnaaGreatDoor

/- One file of a disk turned: what is left is a disk. -/
namespace Go.Proofs.YtljfhafmedngnaaGreatDoor
open Go.RowKit DiskMath
set_option maxRecDepth 100000
set_option linter.unusedSimpArgs false
set_option linter.unusedVariables false

/-- What is left is a disk with these files. -/
def Leaves (S : Nat → Prop) (w : World) (d : Value) (fs : Files) (w' : World) : Prop := ∃ S', Dk S' w' d fs ∧ Step S S' w ∧ Kept S w w'
theorem Leaves.refl {S : Nat → Prop} {w : World} {d : Value} {fs : Files} (h : Dk S w d fs) : Leaves S w d fs w :=
  ⟨S, h, fun _ hb => .inl hb, ⟨rfl, rfl, rfl, Nat.le_refl _, fun _ _ _ => rfl⟩⟩

theorem DiskAt.qm {ρ : Mark} {M : ByteArray → Option Value} {w : World} {q m : Nat} {fs : Files} (h : DiskAt ρ M w q m fs) : q ≠ m := fun e => by
  have := h.markq
  rw [e, h.markm] at this
  injection this with this
  cases this
theorem mark_ne {ρ : Mark} {a b : Nat} {x y : Nat × ByteArray} (ha : ρ a = x) (hb : ρ b = y) (h : x.1 ≠ y.1) : a ≠ b := fun e => h (by rw [← ha, ← hb, e])

/-- The marks, with a new row. -/
def rowMark (ρ : Mark) (s : Nat) (v : Value) (n : ByteArray) : Mark := fun b => if s ≤ b ∧ v.ownBlock = some b then (4, n) else ρ b

theorem rowMark_old {ρ : Mark} {s : Nat} {v : Value} {n : ByteArray} {b : Nat} (h : b < s) : rowMark ρ s v n b = ρ b := by
  unfold rowMark
  rw [if_neg (fun h' => by omega)]

/-- One file of a disk turned. -/
theorem turn {S : Nat → Prop} {ρ : Mark} {M : ByteArray → Option Value} {w w' : World} {q m : Nat} {fs : Files} (h : DiskAt ρ M w q m fs) (hS : ∀ b, S b ↔ (ρ b).1 ≠ 0) {n : ByteArray} {f : File} {p : Nat} {v : Value} (hf : get fs n = some f) (hM : M n = some (.pointer (some ⟨p, 0, none⟩))) (hF : FileAt w ρ n f p v)
    (data : List Nat) (safe : Nat) (v' : Value) (hp : w'.heap[p]? = some (.cells #[v', .int .i64 (safe : Int)] 118 (0, 0))) (hO : Own 0 w' v' data) (hrow : ∀ k, v'.ownBlock = some k → v.ownBlock = some k ∨ w.heap.size ≤ k)
    (hos : w'.os = w.os) (htape : w'.tape = w.tape) (hout : w'.output = w.output) (hsz : w.heap.size ≤ w'.heap.size) (hblk : ∀ b, b < w.heap.size → b ≠ p → v.ownBlock ≠ some b → w'.heap[b]? = w.heap[b]?)
    (hlen : data.length ≤ 65536) (hsafe : safe ≤ data.length) (hby : ∀ c ∈ data, c < 256) : Leaves S w (.pointer (some ⟨q, 0, none⟩)) (putF fs ⟨n, data, safe⟩) w' := by
  have hg := sound_get h.sound hf
  have hold : ∀ b, (ρ b).1 ≠ 0 → rowMark ρ w.heap.size v' n b = ρ b := fun b hb => rowMark_old (h.lt b hb)
  have hpt : (ρ p).1 ≠ 0 := by rw [hF.mark]; simp
  have hvt : ∀ k, v.ownBlock = some k → (ρ k).1 ≠ 0 := fun k hk => by rw [hF.row k hk]; simp
  have hrl : ∀ k, v'.ownBlock = some k → k < w'.heap.size := fun k hk => (World.ownsRow.lt hO k hk).2
  have hput : get fs n ≠ none := by rw [hf]; simp
  refine ⟨fun b => (rowMark ρ w.heap.size v' n b).1 ≠ 0, ⟨rowMark ρ w.heap.size v' n, M, q, m, rfl, fun b => Iff.rfl, ?_⟩, ?_, ?_⟩
  · refine h.put ⟨n, data, safe⟩ p v' hsz ?_ ?_ ?_ ?_ hold ?_ ⟨hp, hO, (hold p hpt).trans hF.mark, ?_⟩ ?_ hby
    · intro b hb hn _
      refine hblk b (h.lt b hb) (fun e => hn (by rw [e, hF.mark])) (fun e => hn (by rw [hF.row b e]))
    · refine hblk q (h.lt q (by rw [h.markq]; decide)) (mark_ne h.markq hF.mark (by simp)) (fun e => ?_)
      have := hF.row q e
      rw [h.markq] at this
      injection this with this
      cases this
    · show Mp w' m M (if get fs n = none then _ else _)
      rw [if_neg hput]
      refine h.map.same (hblk m (h.lt m (by rw [h.markm]; decide)) (mark_ne h.markm hF.mark (by simp)) (fun e => ?_))
      have := hF.row m e
      rw [h.markm] at this
      injection this with this
      cases this
    · intro k
      show M k = if k = n then _ else _
      by_cases e : k = n
      · rw [if_pos e, e, hM]
      · rw [if_neg e]
    · intro b hb
      unfold rowMark at hb
      split at hb
      · rename_i hh
        exact hrl b hh.2
      · exact Nat.lt_of_lt_of_le (h.lt b hb) hsz
    · intro k hk
      rcases hrow k hk with hk' | hk'
      · rw [hold k (hvt k hk')]
        exact hF.row k hk'
      · unfold rowMark
        rw [if_pos ⟨hk', hk⟩]
    · exact sound_put h.sound hg.1 hlen hsafe (fun e => absurd e hput)
  · intro b hb
    unfold rowMark at hb
    split at hb
    · rename_i hh
      exact .inr hh.1
    · exact .inl ((hS b).2 hb)
  · refine ⟨hos, htape, hout, hsz, fun k hk hns => hblk k hk (fun e => hns ((hS k).2 (by rw [e]; exact hpt))) (fun e => hns ((hS k).2 (hvt k e)))⟩

/-- A file's contract, over the disk. -/
theorem turn_file {S : Nat → Prop} {ρ : Mark} {M : ByteArray → Option Value} {w w' : World} {q m : Nat} {fs : Files} (h : DiskAt ρ M w q m fs) (hS : ∀ b, S b ↔ (ρ b).1 ≠ 0) {n : ByteArray} {f : File} {p : Nat} {v : Value} (hf : get fs n = some f) (hM : M n = some (.pointer (some ⟨p, 0, none⟩))) (hF : FileAt w ρ n f p v)
    {data : List Nat} {safe : Nat} {e : Ending} (hT : FileT w p data safe e w') (hlen : data.length ≤ 65536) (hsafe : safe ≤ data.length) (hby : ∀ c ∈ data, c < 256) : Leaves S w (.pointer (some ⟨q, 0, none⟩)) (putF fs ⟨n, data, safe⟩) w' := by
  obtain ⟨-, v', hp, hO, hg⟩ := hT
  exact turn h hS hf hM hF data safe v' hp (hO.mono (Nat.zero_le _)) (fun k hk => .inr (World.ownsRow.lt hO k hk).1) hg.os hg.tape hg.output hg.size (fun b hb hne _ => hg.block b hb (fun e => hne (Option.some.inj e))) hlen hsafe hby
end Go.Proofs.YtljfhafmedngnaaGreatDoor

