import Derived.Test.YtgfoogeiancecaaGreatDoorHw27
import Derived.Sort.KeysCollected
import Derived.Sort.OwnSorted
/- The contract of the program's names: the files' names, rising, in a row of the call's own. -/
namespace Go.Proofs.YtgfoogeiancecaaGreatDoor
open Go.RowKit DiskMath Go.Maps Go.Sort Go.Shelf
set_option maxRecDepth 100000
set_option linter.unusedSimpArgs false
set_option linter.unusedVariables false

/-- A slice of texts, as it is read. -/
def Tv (n₀ : Nat) (w : World) (v : Value) (l : List ByteArray) : Prop :=
  ∃ ao cap, v = .slice ao l.length cap ∧ ∀ (i : Nat) (s : ByteArray), l[i]? = some s → ∃ b off, ao = some ⟨b, off, none⟩ ∧ w.cell? ⟨b, off + i, none⟩ = some (.string s) ∧ n₀ ≤ b
def bytesOfName (s : ByteArray) : List UInt8 := s.data.toList
theorem bytesOfName_inj {s t : ByteArray} (h : bytesOfName s = bytesOfName t) : s = t := ByteArray.ext (Array.toList_inj.1 h)
theorem enc_name (s : ByteArray) : encStr (bytesOfName s) = .string s := by
  unfold encStr bytesOfName
  rfl

/-- The names, as bytes. -/
def namesB (fs : Files) : List (List UInt8) := fs.map fun f => bytesOfName f.name
theorem namesB_sorted : ∀ {fs : Files}, Rises strOrd fs → (namesB fs).Pairwise (fun x y => decide (x ≤ y) = true) ∧ (namesB fs).Nodup
  | [], _ => ⟨List.Pairwise.nil, List.nodup_nil⟩
  | f :: fs, h => by
    have ih := namesB_sorted h.2
    have hlt : ∀ x ∈ namesB fs, bytesOfName f.name < x := by
      intro x hx
      obtain ⟨g, hg, rfl⟩ := List.mem_map.1 hx
      have := h.1 g hg
      unfold strOrd at this
      simp only [ByteArray.toList_eq] at this
      exact this
    refine ⟨List.Pairwise.cons (fun x hx => ?_) ih.1, List.nodup_cons.2 ⟨fun hm => ?_, ih.2⟩⟩
    · rw [decide_eq_true_iff]
      exact List.le_of_lt (hlt x hx)
    · exact List.lt_irrefl _ (hlt _ hm)

theorem names_sorted {w : World} {m : Nat} {ρ : Mark} {M : ByteArray → Option Value} {q : Nat} {fs : Files} (h : DiskAt ρ M w q m fs) {D : DataW Value} (hown : w.ownsMap Tryz.prog 9 heldElem m fs.length D)
    (hD : ∀ s z, D.atKey (keyLit s) z = match M s with | none => z | some v => .held v) {ss : List (List UInt8)} (hp : ss.Perm (strKeys D)) : ss.mergeSort (fun x y => decide (x ≤ y)) = namesB fs := by
  obtain ⟨hs, hnd⟩ := namesB_sorted h.sound.1
  have hmem : ∀ x, x ∈ namesB fs ↔ Maps.has D (.string x) = true := by
    intro x
    have hx := Mp.has hD (⟨x.toArray⟩ : ByteArray)
    have e1 : keyLit ⟨x.toArray⟩ = .string x := by simp [keyLit]
    rw [e1] at hx
    rw [hx]
    constructor
    · intro hm
      obtain ⟨f, hf, hfx⟩ := List.mem_map.1 hm
      have hn : f.name = ⟨x.toArray⟩ := by rw [← hfx]; simp [bytesOfName]
      have hg := h.sound.1.get_of_mem hf
      rw [hn] at hg
      obtain ⟨p, v, hM, _⟩ := h.yes _ _ hg
      rw [hM]; rfl
    · intro hm
      cases hg : get fs ⟨x.toArray⟩ with
      | none => rw [h.no _ hg] at hm; cases hm
      | some f =>
        refine List.mem_map.2 ⟨f, get_mem hg, ?_⟩
        rw [get_name hg]
        simp [bytesOfName]
  have hp2 : (namesB fs).Perm (strKeys D) := Collected.perm (left := fun _ => false) ⟨hnd, fun x => by rw [hmem]; simp⟩ hown keyed Tryz.underlying9 (fun _ => rfl)
  have hq := hp.trans hp2.symm
  have tr : ∀ a b c : List UInt8, decide (a ≤ b) = true → decide (b ≤ c) = true → decide (a ≤ c) = true := fun a b c h1 h2 => by
    simp only [decide_eq_true_eq] at *
    exact List.le_trans h1 h2
  have to : ∀ a b : List UInt8, (decide (a ≤ b) || decide (b ≤ a)) = true := fun a b => by
    simp only [Bool.or_eq_true, decide_eq_true_eq]
    exact List.le_total a b
  refine List.Perm.eq_of_pairwise (le := fun a b => decide (a ≤ b) = true) (fun a b _ _ h1 h2 => ?_) (List.pairwise_mergeSort tr to ss) hs ((List.mergeSort_perm ss _).trans hq)
  simp only [decide_eq_true_eq] at h1 h2
  exact List.le_antisymm h1 h2

/-- What names tells. -/
def NamesT (w : World) (fs : Files) (e : Ending) (w' : World) : Prop := ∃ v, e = .returned v ∧ Tv w.heap.size w' v (fs.map Fl.name) ∧ Below w.heap.size w w'

set_option maxHeartbeats 1000000 in
theorem names_of {ρ : Mark} {M : ByteArray → Option Value} {w : World} {q m : Nat} {fs : Files} (h : DiskAt ρ M w q m fs) :
    Calls Tryz.prog 39 #[.pointer (some ⟨q, 0, none⟩)] w (NamesT w fs) := by
  have hc := h.cell
  obtain ⟨D, hown, hD1, hD2⟩ := id h.map
  have hl := h.sound.2.1
  have hmax : Maps.size D ≤ maxLen := by rw [hD1]; unfold maxLen; omega
  have hbytes : Maps.size D * 16 ≤ 140737488355328 := by rw [hD1]; omega
  have hfin : ∀ w' v (ss : List (List UInt8)), ss.Perm (strKeys D) → w'.ownsRow (w.alloc (.cells #[.map (some m)] 50)).heap.size 9 1 v ss.length ((ss.mergeSort (fun x y => decide (x ≤ y))).map encStr) → Below (w.alloc (.cells #[.map (some m)] 50)).heap.size (w.alloc (.cells #[.map (some m)] 50)) w' → NamesT w fs (.returned v) w' := by
    intro w' v ss hS hrow hb
    have hsort := names_sorted h hown hD2 hS
    have hlen : ss.length = fs.length := by
      have := congrArg List.length hsort
      rw [List.length_mergeSort] at this
      rw [this]
      simp [namesB]
    rw [hsort, hlen] at hrow
    have hv : ∃ ao cap, v = .slice ao fs.length cap := by
      obtain ⟨_, ⟨r1, r2⟩ | ⟨g, cp, _, r1, _⟩⟩ := hrow
      · exact ⟨none, 0, by rw [r1, r2]⟩
      · exact ⟨_, _, r1⟩
    obtain ⟨ao, cap, rfl⟩ := hv
    refine ⟨_, rfl, ⟨ao, cap, by simp, fun i s hs => ?_⟩, ((Below.refl _ w).alloc (Nat.le_refl _) _).trans (hb.mono (by simp))⟩
    have hi : i < fs.length := by
      have := (List.getElem?_eq_some_iff.1 hs).1
      simpa using this
    obtain ⟨g, cp, e2, _, hcell⟩ := row_cell hrow (by omega)
    simp only [Value.slice.injEq] at e2
    refine ⟨g, 0, e2.1, hcell i _ ?_, ?_⟩
    case refine_2 =>
      have := (World.ownsRow.lt hrow g (by rw [e2.1]; rfl)).1
      simp at this
      omega
    rw [List.getElem?_map] at hs ⊢
    obtain ⟨f, hf, rfl⟩ := Option.map_eq_some_iff.1 hs
    unfold namesB
    rw [List.getElem?_map, hf]
    exact congrArg some (enc_name f.name)
  generalize NamesT w fs = T at *
  clear h
  refine (callsIn_wide (n := 6)).1 ?_
  have hfK : Fence.wide.fn 69 := trivial
  have hfS : Fence.wide.fn 68 := trivial
  refine callsIn_of_wp Tryz.func39 rfl trivial ?_ rfl
  simp only [Tryz.ntmps39, List.size_toArray, List.length_cons, List.length_nil, Nat.reduceAdd, Nat.reduceSub, Array.replicate_succ, Array.replicate_zero, List.push_toArray, List.append_toArray, List.nil_append, List.cons_append]
  gi_wp2_with (first
    | (gi_at_call 69; refine (Tryz.maps_Keys_69 _ _).mono ?_; rintro e w' ⟨rfl, rfl⟩)
    | (gi_at_call 68; refine (Tryz.slices_Sorted_keys_68_69 m fs.length D heldElem w hown hmax hbytes).mono ?_; rintro e w' ⟨v, ss, rfl, hS, hrow, hnil, hb⟩))
  exact hfin _ _ ss hS hrow hb
end Go.Proofs.YtgfoogeiancecaaGreatDoor

/- The contracts of a file's cut and crash. -/
namespace Go.Proofs.YtgfoogeiancecaaGreatDoor
open Go.RowKit DiskMath
set_option maxRecDepth 100000
set_option linter.unusedSimpArgs false
set_option linter.unusedVariables false

/-- What is left of a file: its block holds these bytes, in new memory. -/
def FileT (w : World) (p : Nat) (data : List Nat) (safe : Nat) (e : Ending) (w' : World) : Prop :=
  e = .returned (.tuple #[]) ∧ ∃ v', w'.heap[p]? = some (.cells #[v', .int .i64 (safe : Int)] 113 (0, 0)) ∧ Own w.heap.size w' v' data ∧ w.grownBy w' (some p)

theorem box2_0 {w : World} {g : Nat} {a b : Value} {t : TypeId} (h : w.heap[g]? = some (.cells #[a, b] t (0, 0))) (x : Value) : (w.setCell ⟨g, 0, none⟩ x).heap[g]? = some (.cells #[x, b] t (0, 0)) := by
  simp [World.setCell, Array.getElem?_modify, h]
theorem box2_1 {w : World} {g : Nat} {a b : Value} {t : TypeId} (h : w.heap[g]? = some (.cells #[a, b] t (0, 0))) (x : Value) : (w.setCell ⟨g, 1, none⟩ x).heap[g]? = some (.cells #[a, x] t (0, 0)) := by
  simp [World.setCell, Array.getElem?_modify, h]
theorem set_size (w : World) (p : Addr) (x : Value) : (w.setCell p x).heap.size = w.heap.size := by simp [World.setCell]
theorem set_block {w : World} {q k : Nat} (i : Nat) (x : Value) (h : k ≠ q) : (w.setCell ⟨q, i, none⟩ x).heap[k]? = w.heap[k]? := Below.heap_setCell _ _ _ _ h

set_option maxHeartbeats 1000000 in
theorem fcut_of {w : World} {p : Nat} {f : File} {v : Value} (k : Nat) (hp : w.heap[p]? = some (.cells #[v, .int .i64 (f.safe : Int)] 113 (0, 0))) (hO : Own 0 w v f.data) (hk : k ≤ f.data.length) (hl : f.data.length ≤ 65536) :
    Calls Tryz.prog 70 #[.pointer (some ⟨p, 0, none⟩), .int .i64 (k : Int)] w (FileT w p (f.data.take k) (min f.safe k)) := by
  letI := keepAll
  have hB : Bs w.heap.size w v f.data := hO.bs (Nat.zero_le _)
  obtain ⟨ao, cap, rfl, hc1, hc2, _⟩ := id hB
  have c0 : w.cell? ⟨p, 0, none⟩ = some (.slice ao f.data.length cap) := by rw [cells_of_block hp]; rfl
  have hBk := hB.took hk
  have hc := clone_of w.heap.size _ _ w hBk (Nat.le_refl _) (by rw [List.length_take]; omega)
  have hplt : p < w.heap.size := (Array.getElem?_eq_some_iff.1 hp).1
  have hfin : ∀ w1 v', Own w.heap.size w1 v' (f.data.take k) → Below w.heap.size w w1 → FileT w p (f.data.take k) (min f.safe k) (.returned (.tuple #[])) ((w1.setCell ⟨p, 0, none⟩ v').setCell ⟨p, 1, none⟩ (.int .i64 ((min f.safe k : Nat) : Int))) := by
    intro w1 v' hO' hb
    have hp1 := (hb.block p hplt).trans hp
    refine ⟨rfl, v', box2_1 (box2_0 hp1 v') _, ?_, ?_⟩
    · refine hO'.same fun j hj => ?_
      have := (World.ownsRow.lt hO' j hj).1
      rw [set_block 1 _ (by omega), set_block 0 _ (by omega)]
    · refine ⟨hb.os, hb.tape, hb.output, by rw [set_size, set_size]; exact hb.size, fun i hi hne => ?_⟩
      have hne' : i ≠ p := fun e => hne (by rw [e])
      rw [set_block 1 _ hne', set_block 0 _ hne']
      exact hb.block i hi
  have hfr : ∀ w1, Below w.heap.size w w1 → w1.cell? ⟨p, 0, none⟩ = some (.slice ao f.data.length cap) ∧ w1.frozen? ⟨p, 0, none⟩ = false ∧ ∀ v', (w1.setCell ⟨p, 0, none⟩ v').cell? ⟨p, 1, none⟩ = some (.int .i64 (f.safe : Int)) ∧ (w1.setCell ⟨p, 0, none⟩ v').frozen? ⟨p, 1, none⟩ = false := by
    intro w1 hb
    have hp1 := (hb.block p hplt).trans hp
    refine ⟨by rw [cells_of_block hp1]; rfl, frozen_of hp1 0, fun v' => ⟨by rw [cells_of_block (box2_0 hp1 v')]; rfl, frozen_of (box2_0 hp1 v') 1⟩⟩
  have hki : (k : Int) ≤ (cap : Int) := by omega
  have hk2 : k ≤ cap := by omega
  have hk0 : ¬ (k : Int) < 0 := by omega
  have hc3 : (cap : Int) ≤ 9223372036854775807 := by unfold maxLen at hc2; omega
  have hmin : min (f.safe : Int) (k : Int) = ((min f.safe k : Nat) : Int) := by omega
  generalize min f.safe k = mn at *
  generalize FileT w p (f.data.take k) mn = T at *
  generalize f.data.take k = dk at *
  clear hB hBk hO
  go_enter Tryz.func70, Tryz.ntmps70
  go_wp2_with fail
  refine hc.mono ?_
  rintro e w1 ⟨v', rfl, hO', hb⟩
  obtain ⟨d0, g0, d1⟩ := hfr w1 hb
  obtain ⟨d1, g1⟩ := d1 v'
  have hT := hfin w1 v' hO' hb
  obtain ⟨a5, c5, rfl⟩ := hO'.shape
  clear hfr hfin hc hO'
  go_wp2
  go_end0
  exact hT

set_option maxHeartbeats 1000000 in
theorem fcrash_of {w : World} {p : Nat} {f : File} {v : Value} (c : Int) (hp : w.heap[p]? = some (.cells #[v, .int .i64 (f.safe : Int)] 113 (0, 0))) (hO : Own 0 w v f.data) (hs : f.safe ≤ f.data.length) (hl : f.data.length ≤ 65536) :
    Calls Tryz.prog 40 #[.pointer (some ⟨p, 0, none⟩), .int .i64 c] w (FileT w p (f.data.take (left f (some c))) (left f (some c))) := by
  letI := keepAll
  have hB : Bs w.heap.size w v f.data := hO.bs (Nat.zero_le _)
  obtain ⟨ao, cap, rfl, hc1, hc2, _⟩ := id hB
  obtain ⟨st, hst⟩ : ∃ st, st = left f (some c) := ⟨_, rfl⟩
  have hb2 := left_bounds f (some c) hs
  have hv : (st : Int) = (f.safe : Int) + min (max c 0) ((f.data.length : Int) - (f.safe : Int)) := by
    rw [hst]
    unfold left
    dsimp only
    omega
  rw [← hst] at hb2 ⊢
  clear hst
  have c0 : ∀ k, (w.drewN k).cell? ⟨p, 0, none⟩ = some (.slice ao f.data.length cap) := fun k => by
    show w.cell? _ = _
    rw [cells_of_block hp]; rfl
  have c1 : ∀ k, (w.drewN k).cell? ⟨p, 1, none⟩ = some (.int .i64 (f.safe : Int)) := fun k => by
    show w.cell? _ = _
    rw [cells_of_block hp]; rfl
  have hcut : ∀ k, Calls Tryz.prog 70 #[.pointer (some ⟨p, 0, none⟩), .int .i64 (st : Int)] (w.drewN k) (FileT (w.drewN k) p (f.data.take st) (min f.safe st)) := fun k => fcut_of (w := w.drewN k) st hp hO hb2.2 hl
  have hfin : ∀ k w1, FileT (w.drewN k) p (f.data.take st) (min f.safe st) (.returned (.tuple #[])) w1 → (∃ u, w1.cell? ⟨p, 1, none⟩ = some u) ∧ w1.frozen? ⟨p, 1, none⟩ = false ∧ FileT w p (f.data.take st) st (.returned (.tuple #[])) (w1.setCell ⟨p, 1, none⟩ (.int .i64 (st : Int))) := by
    rintro k w1 ⟨-, v', hp1, hO1, hg⟩
    have hplt : p < w.heap.size := (Array.getElem?_eq_some_iff.1 hp).1
    refine ⟨⟨_, by rw [cells_of_block hp1]; rfl⟩, frozen_of hp1 1, rfl, v', box2_1 hp1 _, hO1.same fun j hj => ?_, ?_⟩
    · have := (World.ownsRow.lt hO1 j hj).1
      have hd : (w.drewN k).heap.size = w.heap.size := rfl
      rw [set_block 1 _ (by omega)]
    · refine ⟨hg.os, hg.tape, hg.output, by rw [set_size]; exact hg.size, fun i hi hne => ?_⟩
      rw [set_block 1 _ (fun e => hne (by rw [e]))]
      exact hg.block i hi hne
  have q1 : IntKind.i64.wrap ((f.data.length : Int) - (f.safe : Int)) = (f.data.length : Int) - (f.safe : Int) := IntWalk.i64_in _ (by omega)
  have q2 : IntKind.i64.wrap ((f.safe : Int) + min (max c 0) ((f.data.length : Int) - (f.safe : Int))) = (st : Int) := by rw [← hv]; exact IntWalk.i64_in _ (by omega)
  generalize FileT w p (f.data.take st) st = T at *
  generalize hF : FileT = F at *
  clear hB hO hp hv
  go_enter Tryz.func40, Tryz.ntmps40
  go_wp2
  go_big_quiet (fail)
  go_wp2_with fail
  refine (hcut _).mono ?_
  rintro e w1 h1
  have h1' := h1
  rw [← hF] at h1'
  obtain ⟨rfl, -⟩ := h1'
  obtain ⟨⟨u, d1⟩, g1, hT⟩ := hfin _ w1 h1
  clear hfin hcut h1
  go_wp2
  go_end0
  exact hT
end Go.Proofs.YtgfoogeiancecaaGreatDoor

/- One file of a disk turned: what is left is a disk. -/
namespace Go.Proofs.YtgfoogeiancecaaGreatDoor
open Go.RowKit DiskMath
set_option maxRecDepth 100000
set_option linter.unusedSimpArgs false
set_option linter.unusedVariables false

/-- What is left is a disk with these files. -/
def Leaves (S : Nat → Prop) (w : World) (d : Value) (fs : Files) (w' : World) : Prop := ∃ S', Dk S' w' d fs ∧ Step S S' w ∧ Kept S w w'
theorem Leaves.refl {S : Nat → Prop} {w : World} {d : Value} {fs : Files} (h : Dk S w d fs) : Leaves S w d fs w :=
  ⟨S, h, fun _ hb => .inl hb, ⟨rfl, rfl, rfl, Nat.le_refl _, fun _ _ _ => rfl⟩⟩

theorem DiskAt.qm {ρ : Mark} {M : ByteArray → Option Value} {w : World} {q m : Nat} {fs : Files} (h : DiskAt ρ M w q m fs) : q ≠ m := fun e => by
  have := h.markq
  rw [e, h.markm] at this
  injection this with this
  cases this
theorem mark_ne {ρ : Mark} {a b : Nat} {x y : Nat × ByteArray} (ha : ρ a = x) (hb : ρ b = y) (h : x.1 ≠ y.1) : a ≠ b := fun e => h (by rw [← ha, ← hb, e])

/-- The marks, with a new row. -/
def rowMark (ρ : Mark) (s : Nat) (v : Value) (n : ByteArray) : Mark := fun b => if s ≤ b ∧ v.ownBlock = some b then (4, n) else ρ b

theorem rowMark_old {ρ : Mark} {s : Nat} {v : Value} {n : ByteArray} {b : Nat} (h : b < s) : rowMark ρ s v n b = ρ b := by
  unfold rowMark
  rw [if_neg (fun h' => by omega)]

/-- One file of a disk turned. -/
theorem turn {S : Nat → Prop} {ρ : Mark} {M : ByteArray → Option Value} {w w' : World} {q m : Nat} {fs : Files} (h : DiskAt ρ M w q m fs) (hS : ∀ b, S b ↔ (ρ b).1 ≠ 0) {n : ByteArray} {f : File} {p : Nat} {v : Value} (hf : get fs n = some f) (hM : M n = some (.pointer (some ⟨p, 0, none⟩))) (hF : FileAt w ρ n f p v)
    (data : List Nat) (safe : Nat) (v' : Value) (hp : w'.heap[p]? = some (.cells #[v', .int .i64 (safe : Int)] 113 (0, 0))) (hO : Own 0 w' v' data) (hrow : ∀ k, v'.ownBlock = some k → v.ownBlock = some k ∨ w.heap.size ≤ k)
    (hos : w'.os = w.os) (htape : w'.tape = w.tape) (hout : w'.output = w.output) (hsz : w.heap.size ≤ w'.heap.size) (hblk : ∀ b, b < w.heap.size → b ≠ p → v.ownBlock ≠ some b → w'.heap[b]? = w.heap[b]?)
    (hlen : data.length ≤ 65536) (hsafe : safe ≤ data.length) (hby : ∀ c ∈ data, c < 256) : Leaves S w (.pointer (some ⟨q, 0, none⟩)) (putF fs ⟨n, data, safe⟩) w' := by
  have hg := sound_get h.sound hf
  have hold : ∀ b, (ρ b).1 ≠ 0 → rowMark ρ w.heap.size v' n b = ρ b := fun b hb => rowMark_old (h.lt b hb)
  have hpt : (ρ p).1 ≠ 0 := by rw [hF.mark]; simp
  have hvt : ∀ k, v.ownBlock = some k → (ρ k).1 ≠ 0 := fun k hk => by rw [hF.row k hk]; simp
  have hrl : ∀ k, v'.ownBlock = some k → k < w'.heap.size := fun k hk => (World.ownsRow.lt hO k hk).2
  have hput : get fs n ≠ none := by rw [hf]; simp
  refine ⟨fun b => (rowMark ρ w.heap.size v' n b).1 ≠ 0, ⟨rowMark ρ w.heap.size v' n, M, q, m, rfl, fun b => Iff.rfl, ?_⟩, ?_, ?_⟩
  · refine h.put ⟨n, data, safe⟩ p v' hsz ?_ ?_ ?_ ?_ hold ?_ ⟨hp, hO, (hold p hpt).trans hF.mark, ?_⟩ ?_ hby
    · intro b hb hn _
      refine hblk b (h.lt b hb) (fun e => hn (by rw [e, hF.mark])) (fun e => hn (by rw [hF.row b e]))
    · refine hblk q (h.lt q (by rw [h.markq]; decide)) (mark_ne h.markq hF.mark (by simp)) (fun e => ?_)
      have := hF.row q e
      rw [h.markq] at this
      injection this with this
      cases this
    · show Mp w' m M (if get fs n = none then _ else _)
      rw [if_neg hput]
      refine h.map.same (hblk m (h.lt m (by rw [h.markm]; decide)) (mark_ne h.markm hF.mark (by simp)) (fun e => ?_))
      have := hF.row m e
      rw [h.markm] at this
      injection this with this
      cases this
    · intro k
      show M k = if k = n then _ else _
      by_cases e : k = n
      · rw [if_pos e, e, hM]
      · rw [if_neg e]
    · intro b hb
      unfold rowMark at hb
      split at hb
      · rename_i hh
        exact hrl b hh.2
      · exact Nat.lt_of_lt_of_le (h.lt b hb) hsz
    · intro k hk
      rcases hrow k hk with hk' | hk'
      · rw [hold k (hvt k hk')]
        exact hF.row k hk'
      · unfold rowMark
        rw [if_pos ⟨hk', hk⟩]
    · exact sound_put h.sound hg.1 hlen hsafe (fun e => absurd e hput)
  · intro b hb
    unfold rowMark at hb
    split at hb
    · rename_i hh
      exact .inr hh.1
    · exact .inl ((hS b).2 hb)
  · refine ⟨hos, htape, hout, hsz, fun k hk hns => hblk k hk (fun e => hns ((hS k).2 (by rw [e]; exact hpt))) (fun e => hns ((hS k).2 (hvt k e)))⟩

/-- A file's contract, over the disk. -/
theorem turn_file {S : Nat → Prop} {ρ : Mark} {M : ByteArray → Option Value} {w w' : World} {q m : Nat} {fs : Files} (h : DiskAt ρ M w q m fs) (hS : ∀ b, S b ↔ (ρ b).1 ≠ 0) {n : ByteArray} {f : File} {p : Nat} {v : Value} (hf : get fs n = some f) (hM : M n = some (.pointer (some ⟨p, 0, none⟩))) (hF : FileAt w ρ n f p v)
    {data : List Nat} {safe : Nat} {e : Ending} (hT : FileT w p data safe e w') (hlen : data.length ≤ 65536) (hsafe : safe ≤ data.length) (hby : ∀ c ∈ data, c < 256) : Leaves S w (.pointer (some ⟨q, 0, none⟩)) (putF fs ⟨n, data, safe⟩) w' := by
  obtain ⟨-, v', hp, hO, hg⟩ := hT
  exact turn h hS hf hM hF data safe v' hp (hO.mono (Nat.zero_le _)) (fun k hk => .inr (World.ownsRow.lt hO k hk).1) hg.os hg.tape hg.output hg.size (fun b hb hne _ => hg.block b hb (fun e => hne (Option.some.inj e))) hlen hsafe hby
end Go.Proofs.YtgfoogeiancecaaGreatDoor

/- The program's Sync, Cut and Remove. -/
namespace Go.Proofs.YtgfoogeiancecaaGreatDoor
open Go.RowKit DiskMath
set_option maxRecDepth 100000
set_option linter.unusedSimpArgs false
set_option linter.unusedVariables false

/-- Names that are too long for the form are no files' names: what is told of them. -/
theorem get_long {fs : Files} (h : SoundF fs) {n : ByteArray} (hn : ¬ n.size ≤ maxLen) : get fs n = none := by
  cases hg : get fs n with
  | none => rfl
  | some f =>
    have := (may_size (sound_get h hg).1).2
    exact absurd (Nat.le_trans this (by unfold maxLen; omega)) hn

set_option maxHeartbeats 1000000 in
theorem dsync_of {S : Nat → Prop} {w : World} {d : Value} {fs : Files} (n : ByteArray) (hn : n.size ≤ maxLen) (h : Dk S w d fs) : Calls Tryz.prog 26 #[d, .string n] w (Did Dk S d w (dSync fs n)) := by
  have hst := Leaves.refl h
  obtain ⟨ρ, M, q, m, rfl, hS, hD⟩ := h
  have hfd := find_of n hD hn
  cases hg : get fs n with
  | none =>
    have hm := hD.no n hg
    have E : Did Dk S (.pointer (some ⟨q, 0, none⟩)) w (dSync fs n) (.returned (.int .i64 4)) w := by
      unfold dSync
      rw [hg]
      exact ⟨rfl, hst⟩
    unfold FindT at hfd
    rw [hm] at hfd
    generalize Did Dk S (.pointer (some ⟨q, 0, none⟩)) w (dSync fs n) = T at *
    clear hst hD
    go_enter Tryz.func26, Tryz.ntmps26
    go_wp2_with fail
    refine hfd.mono ?_
    rintro e w1 ⟨rfl, hw1⟩
    rw [hw1]
    clear hw1 w1 hfd
    go_wp2 <;> first | exact E | (go_ret; exact E)
  | some f =>
    obtain ⟨p, v, hm, hF⟩ := hD.yes n f hg
    have hs := sound_get hD.sound hg
    have E : ∀ w', w' = w.setCell ⟨p, 1, none⟩ (.int .i64 (f.data.length : Int)) → Did Dk S (.pointer (some ⟨q, 0, none⟩)) w (dSync fs n) (.returned (.int .i64 0)) w' := by
      rintro w' rfl
      unfold dSync
      rw [hg]
      refine ⟨rfl, turn hD hS hg hm hF f.data f.data.length v (box2_1 hF.block _) (hF.own.same fun k hk => set_block 1 _ ?_) (fun k hk => .inl hk) rfl rfl rfl (Nat.le_of_eq (set_size _ _ _).symm) (fun b _ hb _ => set_block 1 _ hb) hs.2.1 (Nat.le_refl _) (hD.byte f (get_mem hg))⟩
      exact mark_ne (hF.row k hk) hF.mark (by simp)
    letI := keepAll
    have hB : Bs w.heap.size w v f.data := hF.own.bs (Nat.zero_le _)
    obtain ⟨ao, cap, rfl, hc1, hc2, _⟩ := id hB
    have c0 : w.cell? ⟨p, 0, none⟩ = some (.slice ao f.data.length cap) := by rw [cells_of_block hF.block]; rfl
    have c1 : w.cell? ⟨p, 1, none⟩ = some (.int .i64 (f.safe : Int)) := by rw [cells_of_block hF.block]; rfl
    have g1 := frozen_of hF.block 1
    unfold FindT at hfd
    rw [hm] at hfd
    generalize Did Dk S (.pointer (some ⟨q, 0, none⟩)) w (dSync fs n) = T at *
    clear hst hD hF hB
    go_enter Tryz.func26, Tryz.ntmps26
    go_wp2_with fail
    refine hfd.mono ?_
    rintro e w1 ⟨rfl, hw1⟩
    rw [hw1]
    clear hw1 w1 hfd
    go_wp2 <;> first | rfl | exact E _ rfl | (go_ret; exact E _ rfl)

set_option maxHeartbeats 1000000 in
theorem dcut_of {S : Nat → Prop} {w : World} {d : Value} {fs : Files} (n : ByteArray) (k : Int) (hn : n.size ≤ maxLen) (h : Dk S w d fs) : Calls Tryz.prog 66 #[d, .string n, .int .i64 k] w (Did Dk S d w (dCut fs n k)) := by
  have hst := Leaves.refl h
  obtain ⟨ρ, M, q, m, rfl, hS, hD⟩ := h
  have hfd := find_of n hD hn
  cases hg : get fs n with
  | none =>
    have hm := hD.no n hg
    have E : Did Dk S (.pointer (some ⟨q, 0, none⟩)) w (dCut fs n k) (.returned (.int .i64 4)) w := by
      unfold dCut
      rw [hg]
      exact ⟨rfl, hst⟩
    unfold FindT at hfd
    rw [hm] at hfd
    generalize Did Dk S (.pointer (some ⟨q, 0, none⟩)) w (dCut fs n k) = T at *
    clear hst hD
    go_enter Tryz.func66, Tryz.ntmps66
    go_wp2_with fail
    refine hfd.mono ?_
    rintro e w1 ⟨rfl, hw1⟩
    rw [hw1]
    clear hw1 w1 hfd
    go_wp2 <;> first | exact E | (go_ret; exact E)
  | some f =>
    obtain ⟨p, v, hm, hF⟩ := hD.yes n f hg
    have hs := sound_get hD.sound hg
    letI := keepAll
    have hB : Bs w.heap.size w v f.data := hF.own.bs (Nat.zero_le _)
    have hvs : ∃ ao cap, v = .slice ao f.data.length cap := by
      obtain ⟨ao, cap, e, _⟩ := id hB
      exact ⟨ao, cap, e⟩
    obtain ⟨ao, cap, hv⟩ := hvs
    have c0 : w.cell? ⟨p, 0, none⟩ = some (.slice ao f.data.length cap) := by rw [cells_of_block hF.block, hv]; rfl
    unfold FindT at hfd
    rw [hm] at hfd
    by_cases hk : k < 0 ∨ (f.data.length : Int) < k
    · have E : Did Dk S (.pointer (some ⟨q, 0, none⟩)) w (dCut fs n k) (.returned (.int .i64 1)) w := by
        unfold dCut
        rw [hg]
        dsimp only
        rw [if_pos hk]
        exact ⟨rfl, hst⟩
      generalize Did Dk S (.pointer (some ⟨q, 0, none⟩)) w (dCut fs n k) = T at *
      clear hst hD hF hB
      by_cases hk0 : k < 0
      · clear hk
        go_enter Tryz.func66, Tryz.ntmps66
        go_wp2_with fail
        refine hfd.mono ?_
        rintro e w1 ⟨rfl, hw1⟩
        rw [hw1]
        clear hw1 w1 hfd
        go_wp2 <;> first | exact E | (go_ret; exact E)
      · have hk1 : (f.data.length : Int) < k := by omega
        clear hk
        go_enter Tryz.func66, Tryz.ntmps66
        go_wp2_with fail
        refine hfd.mono ?_
        rintro e w1 ⟨rfl, hw1⟩
        rw [hw1]
        clear hw1 w1 hfd
        go_wp2 <;> first | exact E | (go_ret; exact E)
    · obtain ⟨j, rfl⟩ : ∃ j : Nat, k = (j : Int) := ⟨k.toNat, by omega⟩
      have hj : j ≤ f.data.length := by omega
      have hk0 : ¬ (j : Int) < 0 := by omega
      have hk1 : ¬ (f.data.length : Int) < (j : Int) := by omega
      have hcut := fcut_of j hF.block hF.own hj hs.2.1
      have E : ∀ e w', FileT w p (f.data.take j) (min f.safe j) e w' → Did Dk S (.pointer (some ⟨q, 0, none⟩)) w (dCut fs n (j : Int)) (.returned (.int .i64 0)) w' := by
        intro e w' hT
        unfold dCut
        rw [hg]
        dsimp only
        rw [if_neg hk, Int.toNat_natCast]
        refine ⟨rfl, turn_file hD hS hg hm hF hT ?_ ?_ ?_⟩
        · rw [List.length_take]; omega
        · rw [List.length_take]; omega
        · exact fun c hc => hD.byte f (get_mem hg) c (List.mem_of_mem_take hc)
      have E0 : ∀ e w', FileT w p (f.data.take j) (min f.safe j) e w' → e = .returned (.tuple #[]) := fun e w' hT => hT.1
      generalize Did Dk S (.pointer (some ⟨q, 0, none⟩)) w (dCut fs n (j : Int)) = T at *
      generalize FileT w p (f.data.take j) (min f.safe j) = F at *
      clear hst hD hF hB
      go_enter Tryz.func66, Tryz.ntmps66
      go_wp2_with fail
      refine hfd.mono ?_
      rintro e w1 ⟨rfl, hw1⟩
      rw [hw1]
      clear hw1 w1 hfd
      go_wp2_with fail
      refine hcut.mono ?_
      intro e w1 hT
      have hE := E e w1 hT
      obtain rfl := E0 e w1 hT
      clear E E0 hT hcut
      go_wp2 <;> first | exact hE | (go_ret; exact hE)

set_option maxHeartbeats 1000000 in
theorem dremove_of {S : Nat → Prop} {w : World} {d : Value} {fs : Files} (n : ByteArray) (hn : n.size ≤ maxLen) (h : Dk S w d fs) : Calls Tryz.prog 36 #[d, .string n] w (Did Dk S d w (dRemove fs n)) := by
  have hst := Leaves.refl h
  obtain ⟨ρ, M, q, m, rfl, hS, hD⟩ := h
  have hfd := find_of n hD hn
  cases hg : get fs n with
  | none =>
    have hm := hD.no n hg
    have E : Did Dk S (.pointer (some ⟨q, 0, none⟩)) w (dRemove fs n) (.returned (.int .i64 4)) w := by
      unfold dRemove
      rw [hg]
      exact ⟨rfl, hst⟩
    unfold FindT at hfd
    rw [hm] at hfd
    generalize Did Dk S (.pointer (some ⟨q, 0, none⟩)) w (dRemove fs n) = T at *
    clear hst hD
    go_enter Tryz.func36, Tryz.ntmps36
    go_wp2_with fail
    refine hfd.mono ?_
    rintro e w1 ⟨rfl, hw1⟩
    rw [hw1]
    clear hw1 w1 hfd
    go_wp2 <;> first | exact E | (go_ret; exact E)
  | some f =>
    obtain ⟨p, v, hm, hF⟩ := hD.yes n f hg
    have E : ∀ w', Mp w' m (upd M n none) (fs.length - 1) → w.grownBy w' (some m) → Did Dk S (.pointer (some ⟨q, 0, none⟩)) w (dRemove fs n) (.returned (.int .i64 0)) w' := by
      intro w' hM' hgr
      unfold dRemove
      rw [hg]
      have hin : ∀ b, (ρ b).1 ≠ 0 → b ≠ m → w'.heap[b]? = w.heap[b]? := fun b hb hne => hgr.block b (hD.lt b hb) (fun e => hne (Option.some.inj e))
      refine ⟨rfl, S, ⟨ρ, _, q, m, rfl, hS, hD.out n hg hgr.size hin hM' (fun k => rfl)⟩, fun _ hb => .inl hb, hgr.os, hgr.tape, hgr.output, hgr.size, fun k hk hns => hgr.block k hk (fun e => hns ?_)⟩
      rw [hS, Option.some.inj e, hD.markm]
      simp
    have hc := hD.cell
    have hM := hD.map
    have hmt := Tryz.underlying50
    unfold FindT at hfd
    rw [hm] at hfd
    generalize Did Dk S (.pointer (some ⟨q, 0, none⟩)) w (dRemove fs n) = T at *
    clear hst hD hF
    generalize fs.length = c at *
    go_enter Tryz.func36, Tryz.ntmps36
    go_wp2_with fail
    refine hfd.mono ?_
    rintro e w1 ⟨rfl, hw1⟩
    rw [hw1]
    clear hw1 w1 hfd
    go_wp2_with (refine wp_mp_del rfl _ _ _ _ rfl hmt m c M hM rfl n rfl hn ?_)
    intro w2 hM2 hg2
    have hE := E w2 hM2 hg2
    clear E hM hM2
    go_wp2 <;> first | exact hE | (go_ret; exact hE)
end Go.Proofs.YtgfoogeiancecaaGreatDoor

/- The program's Append. -/
namespace Go.Proofs.YtgfoogeiancecaaGreatDoor
open Go.RowKit DiskMath
set_option maxRecDepth 100000
set_option linter.unusedSimpArgs false
set_option linter.unusedVariables false

/-- The marks, with a new file. -/
def fileMark (ρ : Mark) (p s : Nat) (v : Value) (n : ByteArray) : Mark := fun b => if b = p then (3, n) else if s ≤ b ∧ v.ownBlock = some b then (4, n) else ρ b

/-- A disk with one file more. -/
theorem made {S : Nat → Prop} {ρ : Mark} {M : ByteArray → Option Value} {w w' : World} {q m : Nat} {fs : Files} (h : DiskAt ρ M w q m fs) (hS : ∀ b, S b ↔ (ρ b).1 ≠ 0) {n : ByteArray} {p : Nat} {v : Value} {data : List Nat} {safe : Nat} (hf : get fs n = none) (hp : w'.heap[p]? = some (.cells #[v, .int .i64 (safe : Int)] 113 (0, 0))) (hO : Own 0 w' v data) (hrow : ∀ k, v.ownBlock = some k → w.heap.size ≤ k ∧ k ≠ p) (hpn : w.heap.size ≤ p)
    (hM' : Mp w' m (upd M n (some (.pointer (some ⟨p, 0, none⟩)))) (fs.length + 1)) (hos : w'.os = w.os) (htape : w'.tape = w.tape) (hout : w'.output = w.output) (hsz : w.heap.size ≤ w'.heap.size) (hblk : ∀ b, b < w.heap.size → b ≠ m → w'.heap[b]? = w.heap[b]?)
    (hn : mayName n = true) (hl : fs.length < 64) (hlen : data.length ≤ 65536) (hsafe : safe ≤ data.length) (hby : ∀ c ∈ data, c < 256) : Leaves S w (.pointer (some ⟨q, 0, none⟩)) (putF fs ⟨n, data, safe⟩) w' := by
  have hold : ∀ b, (ρ b).1 ≠ 0 → fileMark ρ p w.heap.size v n b = ρ b := fun b hb => by
    have := h.lt b hb
    unfold fileMark
    rw [if_neg (by omega), if_neg (fun h' => by omega)]
  refine ⟨fun b => (fileMark ρ p w.heap.size v n b).1 ≠ 0, ⟨fileMark ρ p w.heap.size v n, upd M n (some (.pointer (some ⟨p, 0, none⟩))), q, m, rfl, fun b => Iff.rfl, ?_⟩, ?_, ?_⟩
  · refine h.put ⟨n, data, safe⟩ p v hsz (fun b hb _ hne => hblk b (h.lt b hb) hne) (hblk q (h.lt q (by rw [h.markq]; decide)) h.qm) ?_ (fun k => rfl) hold ?_ ⟨hp, hO, ?_, ?_⟩ (sound_put h.sound hn hlen hsafe (fun _ => hl)) hby
    · show Mp w' m _ (if get fs n = none then _ else _)
      rw [if_pos hf]
      exact hM'
    · intro b hb
      unfold fileMark at hb
      split at hb
      · rename_i e
        rw [e]
        exact (Array.getElem?_eq_some_iff.1 hp).1
      · split at hb
        · rename_i hh
          exact (World.ownsRow.lt hO b hh.2).2
        · exact Nat.lt_of_lt_of_le (h.lt b hb) hsz
    · unfold fileMark; rw [if_pos rfl]
    · intro k hk
      unfold fileMark
      rw [if_neg (hrow k hk).2, if_pos ⟨(hrow k hk).1, hk⟩]
  · intro b hb
    unfold fileMark at hb
    split at hb
    · rename_i e
      exact .inr (by omega)
    · split at hb
      · rename_i hh
        exact .inr hh.1
      · exact .inl ((hS b).2 hb)
  · exact ⟨hos, htape, hout, hsz, fun k hk hns => hblk k hk (fun e => hns ((hS k).2 (by rw [e, h.markm]; decide)))⟩

theorem run_mp_len {w : World} {m c : Nat} {M : ByteArray → Option Value} (hM : Mp w m M c) : (Builtin.len_ #[50] 3 #[.map (some m)]).run Tryz.prog w = .ok (.int .i64 (c : Int)) w := by
  obtain ⟨D, h1, h2, _⟩ := hM
  rw [h1.len Tryz.underlying50, h2]

theorem Leaves.below {S : Nat → Prop} {w w' : World} {d : Value} {fs : Files} (h : Dk S w d fs) (hb : Below w.heap.size w w') : Leaves S w d fs w' := by
  obtain ⟨ρ, M, q, m, rfl, hS, hD⟩ := h
  exact ⟨S, ⟨ρ, M, q, m, rfl, hS, hD.below hb⟩, fun _ hb => .inl hb, Below.kept hb⟩

set_option maxHeartbeats 2000000 in
theorem dappend_of {S : Nat → Prop} {w : World} {d : Value} {fs : Files} (n : ByteArray) (bv : Value) (bl : List Nat) (h : Dk S w d fs) (hB : @Bs keepAll w.heap.size w bv bl) (hby : ∀ c ∈ bl, c < 256) (hbm : bl.length ≤ 140737488355328) : Calls Tryz.prog 46 #[d, .string n, bv] w (Did Dk S d w (dAppend fs n bl)) := by
  letI := keepAll
  have hst := Leaves.refl h
  have hstB := fun w' hb => Leaves.below (w' := w') h hb
  obtain ⟨ρ, M, q, m, rfl, hS, hD⟩ := h
  have hgv := given_of hD
  have hnm := nameMay_of n w
  have hvs : ∃ ab cb, bv = .slice ab bl.length cb := by
    obtain ⟨ab, cb, e, _⟩ := id hB
    exact ⟨ab, cb, e⟩
  obtain ⟨ab, cb, rfl⟩ := hvs
  cases hnt : mayName n with
  | false =>
    have E : Hid (Did Dk S (.pointer (some ⟨q, 0, none⟩)) w (dAppend fs n bl) (.returned (.int .i64 1)) w) := by
      unfold Hid dAppend
      rw [if_pos hnt]
      exact ⟨rfl, hst⟩
    rw [hnt] at hnm
    generalize Did Dk S (.pointer (some ⟨q, 0, none⟩)) w (dAppend fs n bl) = T at *
    clear hst hD hstB hB
    go_enter Tryz.func46, Tryz.ntmps46
    go_wp2_with fail
    refine hgv.mono ?_
    rintro e w1 ⟨rfl, hw1⟩
    rw [hw1]
    clear hw1 w1 hgv
    go_wp2_with fail
    refine hnm.mono ?_
    rintro e w1 ⟨rfl, hw1⟩
    rw [hw1]
    clear hw1 w1 hnm
    go_wp2 <;> first | exact E.out | (go_ret; exact E.out)
  | true =>
    have hns := (may_size hnt).2
    have hn : n.size ≤ maxLen := by unfold maxLen; omega
    have hnf : ¬ mayName n = false := by rw [hnt]; simp
    rw [hnt] at hnm
    have hl := hD.sound.2.1
    have hc := hD.cell
    have hM := hD.map
    have hmt := Tryz.underlying50
    have hz := DiskAt.zeroF w
    cases hg : get fs n with
    | some f =>
      obtain ⟨p, v, hm, hF⟩ := hD.yes n f hg
      have hs := sound_get hD.sound hg
      have hvs2 : ∃ ao cap, v = .slice ao f.data.length cap := hF.own.shape
      obtain ⟨ao, cap, hv⟩ := hvs2
      have c0 : w.cell? ⟨p, 0, none⟩ = some (.slice ao f.data.length cap) := by rw [cells_of_block hF.block, hv]; rfl
      have q1 : IntKind.i64.wrap ((f.data.length : Int) + (bl.length : Int)) = (f.data.length : Int) + (bl.length : Int) := IntWalk.i64_in _ (by omega)
      by_cases hfull : 65536 < f.data.length + bl.length
      · have E : Hid (Did Dk S (.pointer (some ⟨q, 0, none⟩)) w (dAppend fs n bl) (.returned (.int .i64 2)) w) := by
          unfold Hid dAppend
          rw [if_neg hnf, hg]
          dsimp only
          rw [if_pos hfull]
          exact ⟨rfl, hst⟩
        have hfi : (65536 : Int) < (f.data.length : Int) + (bl.length : Int) := by omega
        generalize Did Dk S (.pointer (some ⟨q, 0, none⟩)) w (dAppend fs n bl) = T at *
        clear hst hD hstB hB hF
        generalize fs.length = c at *
        go_enter Tryz.func46, Tryz.ntmps46
        go_wp2_with fail
        refine hgv.mono ?_
        rintro e w1 ⟨rfl, hw1⟩
        rw [hw1]
        clear hw1 w1 hgv
        go_wp2_with fail
        refine hnm.mono ?_
        rintro e w1 ⟨rfl, hw1⟩
        rw [hw1]
        clear hw1 w1 hnm
        go_wp2_with (refine wp_mp_look rfl _ _ _ _ rfl hmt hz m c M hM rfl n rfl hn ?_)
        all_goals first | exact E.out | (go_ret; exact E.out)
      · have hfi : ¬ (65536 : Int) < (f.data.length : Int) + (bl.length : Int) := by omega
        have hpt : (ρ p).1 ≠ 0 := by rw [hF.mark]; simp
        have hpl := hD.lt p hpt
        have hvp : ∀ k, v.ownBlock = some k → k ≠ p := fun k hk => mark_ne (hF.row k hk) hF.mark (by simp)
        have E : ∀ v' w', Own 0 w' v' (f.data ++ bl) → w.grownBy w' v.ownBlock → (∀ k, v'.ownBlock = some k → v.ownBlock = some k ∨ w.heap.size ≤ k) → w'.cell? ⟨p, 0, none⟩ = some (.slice ao f.data.length cap) ∧ w'.frozen? ⟨p, 0, none⟩ = false ∧ Hid (Did Dk S (.pointer (some ⟨q, 0, none⟩)) w (dAppend fs n bl) (.returned (.int .i64 0)) (w'.setCell ⟨p, 0, none⟩ v')) := by
          intro v' w' hO' hgr hrow
          have hp1 : w'.heap[p]? = _ := (hgr.block p hpl (fun e => hvp p e.symm rfl)).trans hF.block
          refine ⟨by rw [cells_of_block hp1, hv]; rfl, frozen_of hp1 0, ?_⟩
          unfold Hid dAppend
          rw [if_neg hnf, hg]
          dsimp only
          rw [if_neg hfull]
          refine ⟨rfl, turn hD hS hg hm hF (f.data ++ bl) f.safe v' (box2_0 hp1 v') (hO'.same fun k hk => set_block 0 _ ?_) hrow hgr.os hgr.tape hgr.output (by rw [set_size]; exact hgr.size) (fun b hb hne hnr => ?_) (by rw [List.length_append]; omega) (by rw [List.length_append]; omega) ?_⟩
          · rcases hrow k hk with h1 | h1
            · exact hvp k h1
            · omega
          · rw [set_block 0 _ hne]
            exact hgr.block b hb (fun e => hnr e.symm)
          · intro c hcm
            rcases List.mem_append.1 hcm with h1 | h1
            · exact hD.byte f (get_mem hg) c h1
            · exact hby c h1
        have hO := hF.own
        rw [hv] at hO E
        have hc2 : f.data.length + bl.length ≤ 140737488355328 := by omega
        generalize Did Dk S (.pointer (some ⟨q, 0, none⟩)) w (dAppend fs n bl) = T at *
        clear hst hD hstB hF hvp
        generalize fs.length = c at *
        go_enter Tryz.func46, Tryz.ntmps46
        go_wp2_with fail
        refine hgv.mono ?_
        rintro e w1 ⟨rfl, hw1⟩
        rw [hw1]
        clear hw1 w1 hgv
        go_wp2_with fail
        refine hnm.mono ?_
        rintro e w1 ⟨rfl, hw1⟩
        rw [hw1]
        clear hw1 w1 hnm
        go_wp2_with (first | refine wp_mp_look rfl _ _ _ _ rfl hmt hz m c M hM rfl n rfl hn ?_ | (at_builtin; refine wpList_append_bs2 rfl _ _ rfl 0 _ f.data rfl hO (Nat.zero_le _) w.heap.size _ bl rfl hB hc2 ?_))
        intro v' w' hO' _ hgr hrow
        obtain ⟨d0, g0, hE⟩ := E v' w' hO' hgr hrow
        obtain ⟨a5, c5, h5⟩ := hO'.shape
        rw [List.length_append] at h5
        subst h5
        clear E hO' hO hB hM
        go_wp2 <;> first | exact hE.out | (go_ret; exact hE.out)
    | none =>
      have hm := hD.no n hg
      have hbx := (Below.refl w.heap.size w).alloc (Nat.le_refl _) (.cells #[.slice none 0 0, .int .i64 0] 113)
      have hMx := hM.below hbx
      have hcx : (w.alloc (.cells #[.slice none 0 0, .int .i64 0] 113)).cell? ⟨q, 0, none⟩ = some (.map (some m)) := (hbx.cell (p := ⟨q, 0, none⟩) (World.block_lt_of_cell? w _ hc)).trans hc
      have q1 : IntKind.i64.wrap (bl.length : Int) = (bl.length : Int) := IntWalk.i64_in _ (by omega)
      have hli : ∀ j : Nat, (65536 : Int) < (j : Int) ↔ 65536 < j := fun j => by omega
      by_cases hfull : 64 ≤ fs.length ∨ 65536 < bl.length
      · have E : Hid (Did Dk S (.pointer (some ⟨q, 0, none⟩)) w (dAppend fs n bl) (.returned (.int .i64 2)) (w.alloc (.cells #[.slice none 0 0, .int .i64 0] 113))) := by
          unfold Hid dAppend
          rw [if_neg hnf, hg]
          dsimp only
          rw [if_pos hfull]
          exact ⟨rfl, hstB _ hbx⟩
        generalize Did Dk S (.pointer (some ⟨q, 0, none⟩)) w (dAppend fs n bl) = T at *
        clear hst hD hstB hB hli
        generalize fs.length = c at *
        by_cases hb1 : 65536 < bl.length
        · have hfi : (65536 : Int) < (bl.length : Int) := by omega
          clear hfull
          go_enter Tryz.func46, Tryz.ntmps46
          go_wp2_with fail
          refine hgv.mono ?_
          rintro e w1 ⟨rfl, hw1⟩
          rw [hw1]
          clear hw1 w1 hgv
          go_wp2_with fail
          refine hnm.mono ?_
          rintro e w1 ⟨rfl, hw1⟩
          rw [hw1]
          clear hw1 w1 hnm
          go_wp2_with (refine wp_mp_look rfl _ _ _ _ rfl hmt hz m c M hM rfl n rfl hn ?_)
          all_goals first | exact E.out | (go_ret; exact E.out)
        · have hfi : ¬ (65536 : Int) < (bl.length : Int) := by omega
          have hci : (64 : Int) ≤ (c : Int) := by omega
          have hlr := run_mp_len hMx
          clear hfull
          go_enter Tryz.func46, Tryz.ntmps46
          go_wp2_with fail
          refine hgv.mono ?_
          rintro e w1 ⟨rfl, hw1⟩
          rw [hw1]
          clear hw1 w1 hgv
          go_wp2_with fail
          refine hnm.mono ?_
          rintro e w1 ⟨rfl, hw1⟩
          rw [hw1]
          clear hw1 w1 hnm
          go_wp2_with (refine wp_mp_look rfl _ _ _ _ rfl hmt hz m c M hM rfl n rfl hn ?_)
          all_goals first | exact E.out | (go_ret; exact E.out)
      · have hfi : ¬ (65536 : Int) < (bl.length : Int) := by omega
        have hci : ¬ (64 : Int) ≤ (fs.length : Int) := by omega
        have hlr := run_mp_len hMx
        have hszx : (w.alloc (.cells #[.slice none 0 0, .int .i64 0] 113)).heap.size = w.heap.size + 1 := by simp
        have hpx := heap_alloc_new w (.cells #[.slice none 0 0, .int .i64 0] 113)
        have hOx : Own (w.heap.size + 1) (w.alloc (.cells #[.slice none 0 0, .int .i64 0] 113)) (.slice none 0 0) [] := Own.nil _ _
        have hBx := hB.below hbx
        have hqm := hD.qm
        have hml := hD.lt m (by rw [hD.markm]; decide)
        have E1 : ∀ v' w', Own (w.heap.size + 1) w' v' ([] ++ bl) → Below (w.heap.size + 1) (w.alloc (.cells #[.slice none 0 0, .int .i64 0] 113)) w' → w'.cell? ⟨w.heap.size, 0, none⟩ = some (.slice none 0 0) ∧ w'.frozen? ⟨w.heap.size, 0, none⟩ = false ∧
            Calls Tryz.prog 74 #[.pointer (some ⟨q, 0, none⟩), .string n, .pointer (some ⟨w.heap.size, 0, none⟩)] (w'.setCell ⟨w.heap.size, 0, none⟩ v') fun e w3 => e = .returned (.tuple #[]) ∧ Hid (Did Dk S (.pointer (some ⟨q, 0, none⟩)) w (dAppend fs n bl) (.returned (.int .i64 0)) w3) := by
          intro v' w' hO' hb'
          have hp1 := (hb'.block w.heap.size (Nat.lt_succ_self _)).trans hpx
          have hbw : Below w.heap.size w w' := hbx.trans (hb'.mono (Nat.le_succ _))
          have hbs := hbw.setCell (p := ⟨w.heap.size, 0, none⟩) (Nat.le_refl _) v'
          refine ⟨by rw [cells_of_block hp1]; rfl, frozen_of hp1 0, ?_⟩
          have hc3 : (w'.setCell ⟨w.heap.size, 0, none⟩ v').cell? ⟨q, 0, none⟩ = some (.map (some m)) := (hbs.cell (p := ⟨q, 0, none⟩) (World.block_lt_of_cell? w _ hc)).trans hc
          refine (keep_of n (.pointer (some ⟨w.heap.size, 0, none⟩)) hc3 (hM.below hbs) (by unfold maxLen; omega) (by omega)).mono ?_
          rintro e w3 ⟨rfl, hM3, hg3⟩
          refine ⟨rfl, ?_⟩
          unfold Hid dAppend
          rw [if_neg hnf, hg]
          dsimp only
          rw [if_neg hfull]
          rw [if_pos hm] at hM3
          have hp3 : w3.heap[w.heap.size]? = some (.cells #[v', .int .i64 ((0 : Nat) : Int)] 113 (0, 0)) := by
            refine (hg3.block w.heap.size ?_ (fun e => ?_)).trans (box2_0 hp1 v')
            · rw [set_size]
              exact (Array.getElem?_eq_some_iff.1 hp1).1
            · have := Option.some.inj e
              omega
          have hO3 : Own 0 w3 v' bl := by
            rw [List.nil_append] at hO'
            refine (hO'.mono (Nat.zero_le _)).same fun k hk => ?_
            have hk1 := World.ownsRow.lt hO' k hk
            refine (hg3.block k (by rw [set_size]; exact hk1.2) (fun e => ?_)).trans (set_block 0 _ (by omega))
            have := Option.some.inj e
            omega
          exact ⟨rfl, made hD hS hg hp3 hO3 (fun k hk => by have := (World.ownsRow.lt hO' k hk).1; omega) (Nat.le_refl _) hM3 (hg3.os.trans hbs.os) (hg3.tape.trans hbs.tape) (hg3.output.trans hbs.output) (Nat.le_trans hbs.size hg3.size) (fun b hb hne => (hg3.block b (Nat.lt_of_lt_of_le hb hbs.size) (fun e => hne (Option.some.inj e))).trans (hbs.block b hb)) hnt (by omega) (by omega) (Nat.zero_le _) hby⟩
        have hc2 : ([] : List Nat).length + bl.length ≤ 140737488355328 := by simp; omega
        have hn0 : w.heap.size + 1 ≤ (w.alloc (.cells #[.slice none 0 0, .int .i64 0] 113)).heap.size := by rw [hszx]; exact Nat.le_refl _
        generalize Did Dk S (.pointer (some ⟨q, 0, none⟩)) w (dAppend fs n bl) = T at *
        clear hst hD hstB hfull hB
        generalize fs.length = c at *
        go_enter Tryz.func46, Tryz.ntmps46
        go_wp2_with fail
        refine hgv.mono ?_
        rintro e w1 ⟨rfl, hw1⟩
        rw [hw1]
        clear hw1 w1 hgv
        go_wp2_with fail
        refine hnm.mono ?_
        rintro e w1 ⟨rfl, hw1⟩
        rw [hw1]
        clear hw1 w1 hnm
        go_wp2_with (first | refine wp_mp_look rfl _ _ _ _ rfl hmt hz m c M hM rfl n rfl hn ?_ | (at_builtin; refine wpList_append_bs rfl _ _ rfl (w.heap.size + 1) _ [] rfl hOx hn0 w.heap.size _ bl rfl hBx hc2 ?_))
        intro v' w' hO' hb'
        obtain ⟨d0, g0, hk⟩ := E1 v' w' hO' hb'
        obtain ⟨a5, c5, h5⟩ := hO'.shape
        have h6 : v' = .slice a5 bl.length c5 := h5
        clear h5
        subst h6
        clear E1 hO' hOx hBx hM hMx hlr
        go_wp2_with fail
        refine hk.mono ?_
        rintro e w3 ⟨rfl, hE⟩
        clear hk
        go_wp2 <;> first | exact hE.out | (go_ret; exact hE.out)
end Go.Proofs.YtgfoogeiancecaaGreatDoor

