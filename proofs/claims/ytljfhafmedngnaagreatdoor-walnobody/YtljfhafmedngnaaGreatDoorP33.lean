import Derived.Test.YtljfhafmedngnaaGreatDoorP32
import Derived.Laws.Cover3
import Derived.Deep.RegionWith
import Derived.Sort.KeysCollected
import Derived.Sort.OwnSorted
/- The contracts of the program's given, find and keep. -/
namespace Go.Proofs.YtljfhafmedngnaaGreatDoor
open Go.RowKit DiskMath
set_option maxRecDepth 100000
set_option linter.unusedSimpArgs false
set_option linter.unusedVariables false

theorem DiskAt.cell {ρ : Mark} {M : ByteArray → Option Value} {w : World} {q m : Nat} {fs : Files} (h : DiskAt ρ M w q m fs) : w.cell? ⟨q, 0, none⟩ = some (.map (some m)) := by
  rw [cells_of_block h.block]; rfl
theorem may_size {n : ByteArray} (h : mayName n = true) : 1 ≤ n.size ∧ n.size ≤ 32 := by
  unfold mayName at h
  simp only [Bool.and_eq_true, decide_eq_true_eq] at h
  exact h.1
theorem DiskAt.zeroF (w : World) : (zeroValue 92).run Tryz.prog w = .ok (.pointer none) w := Tryz.zeroValue92 w

set_option maxHeartbeats 1000000 in
theorem given_of {ρ : Mark} {M : ByteArray → Option Value} {w : World} {q m : Nat} {fs : Files} (h : DiskAt ρ M w q m fs) :
    Calls Tryz.prog 48 #[.pointer (some ⟨q, 0, none⟩)] w fun e w' => e = .returned (.bool true) ∧ w' = w := by
  have hc := h.cell
  have hne : ∀ w', (binOp .neq 60 (.map (some m)) (.map none)).run Tryz.prog w' = .ok (.bool true) w' := fun w' => run_neq_map_nil w' 60 9 92 (some m) Tryz.underlying60
  clear h
  go_enter Tryz.func48, Tryz.ntmps48
  go_wp2
  go_ret
  exact ⟨rfl, rfl⟩

/-- What find tells. -/
def FindT (M : ByteArray → Option Value) (n : ByteArray) (e : Ending) : Prop :=
  e = .returned (match M n with | none => .tuple #[.pointer none, .int .i64 4] | some v => .tuple #[v, .int .i64 0])

set_option maxHeartbeats 1000000 in
theorem find_of {ρ : Mark} {M : ByteArray → Option Value} {w : World} {q m : Nat} {fs : Files} (n : ByteArray) (h : DiskAt ρ M w q m fs) (hn : n.size ≤ maxLen) :
    Calls Tryz.prog 75 #[.pointer (some ⟨q, 0, none⟩), .string n] w fun e w' => FindT M n e ∧ w' = w := by
  have hc := h.cell
  have hg := given_of h
  have hM := h.map
  have hmt := Tryz.underlying60
  have hz := DiskAt.zeroF w
  generalize fs.length = c at hM
  clear h
  cases hm : M n with
  | none =>
    go_enter Tryz.func75, Tryz.ntmps75
    go_wp2_with fail
    refine hg.mono ?_
    rintro e w1 ⟨rfl, hw1⟩
    rw [hw1]
    clear hw1 w1 hg
    go_wp2_with (refine wp_mp_look rfl _ _ _ _ rfl hmt hz m c M hM rfl n rfl hn ?_)
    go_ret2
    exact ⟨by unfold FindT; rw [hm]; rfl, rfl⟩
  | some v =>
    go_enter Tryz.func75, Tryz.ntmps75
    go_wp2_with fail
    refine hg.mono ?_
    rintro e w1 ⟨rfl, hw1⟩
    rw [hw1]
    clear hw1 w1 hg
    go_wp2_with (refine wp_mp_look rfl _ _ _ _ rfl hmt hz m c M hM rfl n rfl hn ?_)
    go_ret2
    exact ⟨by unfold FindT; rw [hm]; rfl, rfl⟩
end Go.Proofs.YtljfhafmedngnaaGreatDoor

/- The contract of the program's keep: a file has a name. -/
namespace Go.Proofs.YtljfhafmedngnaaGreatDoor
open Go.RowKit DiskMath Go.Maps
set_option maxRecDepth 100000
set_option linter.unusedSimpArgs false
set_option linter.unusedVariables false

/-- A store into the map, as an equation on the run. -/
theorem run_mp_put {w : World} {m c : Nat} {M : ByteArray → Option Value} (n : ByteArray) (u : Value) (hM : Mp w m M c) (hc : c < maxLen) (hn : n.size ≤ maxLen) :
    ∃ w', (Instr.mapUpdate 60 (.map (some m)) (.string n) u).run Tryz.prog w = .ok () w' ∧ Mp w' m (upd M n (some u)) (if M n = none then c + 1 else c) ∧ w.grownBy w' (some m) := by
  obtain ⟨D, h1, h2, h3⟩ := hM
  obtain ⟨w', hrun, ho, hgr⟩ := h1.update keyed Tryz.underlying60 hc (key_of hn) (d := .held u) (ps := []) rfl
  have hsz : Maps.size (D.put (keyLit n) (.held u)) = if M n = none then c + 1 else c := by
    rw [size_put (h1.tidy keyed), Mp.has h3, h2]
    cases hms : M n <;> simp
  refine ⟨w', hrun, ⟨_, ?_, hsz, fun t' z => ?_⟩, hgr⟩
  · have := own_size ho
    rw [hsz] at this
    exact this
  · unfold upd
    by_cases ht' : t' = n
    · subst ht'
      rw [if_pos rfl, atKey_put_same h1.isMap (keyLit_key _)]
    · rw [if_neg ht', atKey_put_other (fun e => ht' (keyLit_inj e)), h3]

theorem grown_after {w w1 w2 : World} {row : Option Nat} (hb : Below w.heap.size w w1) (hg : w1.grownBy w2 row) : w.grownBy w2 row :=
  ⟨hg.os.trans hb.os, hg.tape.trans hb.tape, hg.output.trans hb.output, Nat.le_trans hb.size hg.size, fun i hi hne => (hg.block i (Nat.lt_of_lt_of_le hi hb.size) hne).trans (hb.block i hi)⟩

/-- What keep leaves. -/
def KeepT (w : World) (m c : Nat) (M : ByteArray → Option Value) (n : ByteArray) (u : Value) (e : Ending) (w' : World) : Prop :=
  e = .returned (.tuple #[]) ∧ Mp w' m (upd M n (some u)) (if M n = none then c + 1 else c) ∧ w.grownBy w' (some m)

set_option maxHeartbeats 1000000 in
theorem keep_of {w : World} {q m c : Nat} {M : ByteArray → Option Value} (n : ByteArray) (u : Value) (hq : w.cell? ⟨q, 0, none⟩ = some (.map (some m))) (hM : Mp w m M c) (hc : c < maxLen) (hn : n.size ≤ 1000) :
    Calls Tryz.prog 71 #[.pointer (some ⟨q, 0, none⟩), .string n, u] w (KeepT w m c M n u) := by
  have hs := sclone_of n w.drew hn
  have hput : ∀ w1, Below w.heap.size w.drew w1 → ∃ w2, (Instr.mapUpdate 60 (.map (some m)) (.string n) u).run Tryz.prog w1 = .ok () w2 ∧ KeepT w m c M n u (.returned (.tuple #[])) w2 := fun w1 hb => by
    have hb' : Below w.heap.size w w1 := (below_drewN (Below.refl _ w) 1).trans hb
    obtain ⟨w2, h1, h2, h3⟩ := run_mp_put n u (hM.below hb') hc (by unfold maxLen; omega)
    exact ⟨w2, h1, rfl, h2, grown_after hb' h3⟩
  have hq1 : ∀ w1, Below w.heap.size w.drew w1 → w1.cell? ⟨q, 0, none⟩ = some (.map (some m)) := fun w1 hb => (hb.cell (p := ⟨q, 0, none⟩) (World.block_lt_of_cell? w _ hq)).trans hq
  generalize KeepT w m c M n u = T at *
  clear hM
  go_enter Tryz.func71, Tryz.ntmps71
  go_wp2
  go_region_with (go_at_call 101; refine hs.mono ?_; rintro e w1 ⟨rfl, hb⟩; obtain ⟨w2, hrun, hT⟩ := hput w1 hb; have hq2 := hq1 w1 hb)
  all_goals
    go_end0
    exact hT
end Go.Proofs.YtljfhafmedngnaaGreatDoor

/- The contract of the program's names: the files' names, rising, in a row of the call's own. -/
namespace Go.Proofs.YtljfhafmedngnaaGreatDoor
open Go.RowKit DiskMath Go.Maps Go.Sort Go.Shelf
set_option maxRecDepth 100000
set_option linter.unusedSimpArgs false
set_option linter.unusedVariables false

/-- A slice of texts, as it is read. -/
def Tv (n₀ : Nat) (w : World) (v : Value) (l : List ByteArray) : Prop :=
  ∃ ao cap, v = .slice ao l.length cap ∧ ∀ (i : Nat) (s : ByteArray), l[i]? = some s → ∃ b off, ao = some ⟨b, off, none⟩ ∧ w.cell? ⟨b, off + i, none⟩ = some (.string s) ∧ n₀ ≤ b
def bytesOfName (s : ByteArray) : List UInt8 := s.data.toList
theorem bytesOfName_inj {s t : ByteArray} (h : bytesOfName s = bytesOfName t) : s = t := ByteArray.ext (Array.toList_inj.1 h)
theorem enc_name (s : ByteArray) : encStr (bytesOfName s) = .string s := by
  unfold encStr bytesOfName
  rfl

/-- The names, as bytes. -/
def namesB (fs : Files) : List (List UInt8) := fs.map fun f => bytesOfName f.name
theorem namesB_sorted : ∀ {fs : Files}, Rises strOrd fs → (namesB fs).Pairwise (fun x y => decide (x ≤ y) = true) ∧ (namesB fs).Nodup
  | [], _ => ⟨List.Pairwise.nil, List.nodup_nil⟩
  | f :: fs, h => by
    have ih := namesB_sorted h.2
    have hlt : ∀ x ∈ namesB fs, bytesOfName f.name < x := by
      intro x hx
      obtain ⟨g, hg, rfl⟩ := List.mem_map.1 hx
      have := h.1 g hg
      unfold strOrd at this
      simp only [ByteArray.toList_eq] at this
      exact this
    refine ⟨List.Pairwise.cons (fun x hx => ?_) ih.1, List.nodup_cons.2 ⟨fun hm => ?_, ih.2⟩⟩
    · rw [decide_eq_true_iff]
      exact List.le_of_lt (hlt x hx)
    · exact List.lt_irrefl _ (hlt _ hm)

theorem names_sorted {w : World} {m : Nat} {ρ : Mark} {M : ByteArray → Option Value} {q : Nat} {fs : Files} (h : DiskAt ρ M w q m fs) {D : DataW Value} (hown : w.ownsMap Tryz.prog 9 heldElem m fs.length D)
    (hD : ∀ s z, D.atKey (keyLit s) z = match M s with | none => z | some v => .held v) {ss : List (List UInt8)} (hp : ss.Perm (strKeys D)) : ss.mergeSort (fun x y => decide (x ≤ y)) = namesB fs := by
  obtain ⟨hs, hnd⟩ := namesB_sorted h.sound.1
  have hmem : ∀ x, x ∈ namesB fs ↔ Maps.has D (.string x) = true := by
    intro x
    have hx := Mp.has hD (⟨x.toArray⟩ : ByteArray)
    have e1 : keyLit ⟨x.toArray⟩ = .string x := by simp [keyLit]
    rw [e1] at hx
    rw [hx]
    constructor
    · intro hm
      obtain ⟨f, hf, hfx⟩ := List.mem_map.1 hm
      have hn : f.name = ⟨x.toArray⟩ := by rw [← hfx]; simp [bytesOfName]
      have hg := h.sound.1.get_of_mem hf
      rw [hn] at hg
      obtain ⟨p, v, hM, _⟩ := h.yes _ _ hg
      rw [hM]; rfl
    · intro hm
      cases hg : get fs ⟨x.toArray⟩ with
      | none => rw [h.no _ hg] at hm; cases hm
      | some f =>
        refine List.mem_map.2 ⟨f, get_mem hg, ?_⟩
        rw [get_name hg]
        simp [bytesOfName]
  have hp2 : (namesB fs).Perm (strKeys D) := Collected.perm (left := fun _ => false) ⟨hnd, fun x => by rw [hmem]; simp⟩ hown keyed Tryz.underlying9 (fun _ => rfl)
  have hq := hp.trans hp2.symm
  have tr : ∀ a b c : List UInt8, decide (a ≤ b) = true → decide (b ≤ c) = true → decide (a ≤ c) = true := fun a b c h1 h2 => by
    simp only [decide_eq_true_eq] at *
    exact List.le_trans h1 h2
  have to : ∀ a b : List UInt8, (decide (a ≤ b) || decide (b ≤ a)) = true := fun a b => by
    simp only [Bool.or_eq_true, decide_eq_true_eq]
    exact List.le_total a b
  refine List.Perm.eq_of_pairwise (le := fun a b => decide (a ≤ b) = true) (fun a b _ _ h1 h2 => ?_) (List.pairwise_mergeSort tr to ss) hs ((List.mergeSort_perm ss _).trans hq)
  simp only [decide_eq_true_eq] at h1 h2
  exact List.le_antisymm h1 h2

/-- What names tells. -/
def NamesT (w : World) (fs : Files) (e : Ending) (w' : World) : Prop := ∃ v, e = .returned v ∧ Tv w.heap.size w' v (fs.map Fl.name) ∧ Below w.heap.size w w'

set_option maxHeartbeats 1000000 in
theorem names_of {ρ : Mark} {M : ByteArray → Option Value} {w : World} {q m : Nat} {fs : Files} (h : DiskAt ρ M w q m fs) :
    Calls Tryz.prog 49 #[.pointer (some ⟨q, 0, none⟩)] w (NamesT w fs) := by
  have hc := h.cell
  obtain ⟨D, hown, hD1, hD2⟩ := id h.map
  have hl := h.sound.2.1
  have hmax : Maps.size D ≤ maxLen := by rw [hD1]; unfold maxLen; omega
  have hbytes : Maps.size D * 16 ≤ 140737488355328 := by rw [hD1]; omega
  have hfin : ∀ w' v (ss : List (List UInt8)), ss.Perm (strKeys D) → w'.ownsRow (w.alloc (.cells #[.map (some m)] 60)).heap.size 9 1 v ss.length ((ss.mergeSort (fun x y => decide (x ≤ y))).map encStr) → Below (w.alloc (.cells #[.map (some m)] 60)).heap.size (w.alloc (.cells #[.map (some m)] 60)) w' → NamesT w fs (.returned v) w' := by
    intro w' v ss hS hrow hb
    have hsort := names_sorted h hown hD2 hS
    have hlen : ss.length = fs.length := by
      have := congrArg List.length hsort
      rw [List.length_mergeSort] at this
      rw [this]
      simp [namesB]
    rw [hsort, hlen] at hrow
    have hv : ∃ ao cap, v = .slice ao fs.length cap := by
      obtain ⟨_, ⟨r1, r2⟩ | ⟨g, cp, _, r1, _⟩⟩ := hrow
      · exact ⟨none, 0, by rw [r1, r2]⟩
      · exact ⟨_, _, r1⟩
    obtain ⟨ao, cap, rfl⟩ := hv
    refine ⟨_, rfl, ⟨ao, cap, by simp, fun i s hs => ?_⟩, ((Below.refl _ w).alloc (Nat.le_refl _) _).trans (hb.mono (by simp))⟩
    have hi : i < fs.length := by
      have := (List.getElem?_eq_some_iff.1 hs).1
      simpa using this
    obtain ⟨g, cp, e2, _, hcell⟩ := row_cell hrow (by omega)
    simp only [Value.slice.injEq] at e2
    refine ⟨g, 0, e2.1, hcell i _ ?_, ?_⟩
    case refine_2 =>
      have := (World.ownsRow.lt hrow g (by rw [e2.1]; rfl)).1
      simp at this
      omega
    rw [List.getElem?_map] at hs ⊢
    obtain ⟨f, hf, rfl⟩ := Option.map_eq_some_iff.1 hs
    unfold namesB
    rw [List.getElem?_map, hf]
    exact congrArg some (enc_name f.name)
  generalize NamesT w fs = T at *
  clear h
  refine (callsIn_wide (n := 6)).1 ?_
  have hfK : Fence.wide.fn 82 := trivial
  have hfS : Fence.wide.fn 81 := trivial
  refine callsIn_of_wp Tryz.func49 rfl trivial ?_ rfl
  simp only [Tryz.ntmps49, List.size_toArray, List.length_cons, List.length_nil, Nat.reduceAdd, Nat.reduceSub, Array.replicate_succ, Array.replicate_zero, List.push_toArray, List.append_toArray, List.nil_append, List.cons_append]
  gi_wp2_with (first
    | (gi_at_call 82; refine (Tryz.maps_Keys_82 _ _).mono ?_; rintro e w' ⟨rfl, rfl⟩)
    | (gi_at_call 81; refine (Tryz.slices_Sorted_keys_81_82 m fs.length D heldElem w hown hmax hbytes).mono ?_; rintro e w' ⟨v, ss, rfl, hS, hrow, hnil, hb⟩))
  exact hfin _ _ ss hS hrow hb
end Go.Proofs.YtljfhafmedngnaaGreatDoor

