import Derived.Test.YtoipjmjhplkibabDoorP34
import Derived.Laws.Cover3
import Derived.Deep.RegionWith
/- The contracts of the program's given, find and keep. -/
namespace Go.Proofs.YtoipjmjhplkibabDoor
open Go.RowKit DiskMath
set_option maxRecDepth 100000
set_option linter.unusedSimpArgs false
set_option linter.unusedVariables false

theorem DiskAt.cell {ρ : Mark} {M : ByteArray → Option Value} {w : World} {q m : Nat} {fs : Files} (h : DiskAt ρ M w q m fs) : w.cell? ⟨q, 0, none⟩ = some (.map (some m)) := by
  rw [cells_of_block h.block]; rfl
theorem may_size {n : ByteArray} (h : mayName n = true) : 1 ≤ n.size ∧ n.size ≤ 32 := by
  unfold mayName at h
  simp only [Bool.and_eq_true, decide_eq_true_eq] at h
  exact h.1
theorem DiskAt.zeroF (w : World) : (zeroValue 61).run Tryd.prog w = .ok (.pointer none) w := Tryd.zeroValue61 w

set_option maxHeartbeats 1000000 in
theorem given_of {ρ : Mark} {M : ByteArray → Option Value} {w : World} {q m : Nat} {fs : Files} (h : DiskAt ρ M w q m fs) :
    Calls Tryd.prog 36 #[.pointer (some ⟨q, 0, none⟩)] w fun e w' => e = .returned (.bool true) ∧ w' = w := by
  have hc := h.cell
  have hne : ∀ w', (binOp .neq 24 (.map (some m)) (.map none)).run Tryd.prog w' = .ok (.bool true) w' := fun w' => run_neq_map_nil w' 24 9 61 (some m) Tryd.underlying24
  clear h
  go_enter Tryd.func36, Tryd.ntmps36
  go_wp2
  go_ret
  exact ⟨rfl, rfl⟩

/-- What find tells. -/
def FindT (M : ByteArray → Option Value) (n : ByteArray) (e : Ending) : Prop :=
  e = .returned (match M n with | none => .tuple #[.pointer none, .int .i64 4] | some v => .tuple #[v, .int .i64 0])

set_option maxHeartbeats 1000000 in
theorem find_of {ρ : Mark} {M : ByteArray → Option Value} {w : World} {q m : Nat} {fs : Files} (n : ByteArray) (h : DiskAt ρ M w q m fs) (hn : n.size ≤ maxLen) :
    Calls Tryd.prog 28 #[.pointer (some ⟨q, 0, none⟩), .string n] w fun e w' => FindT M n e ∧ w' = w := by
  have hc := h.cell
  have hg := given_of h
  have hM := h.map
  have hmt := Tryd.underlying24
  have hz := DiskAt.zeroF w
  generalize fs.length = c at hM
  clear h
  cases hm : M n with
  | none =>
    go_enter Tryd.func28, Tryd.ntmps28
    go_wp2_with fail
    refine hg.mono ?_
    rintro e w1 ⟨rfl, hw1⟩
    rw [hw1]
    clear hw1 w1 hg
    go_wp2_with (refine wp_mp_look rfl _ _ _ _ rfl hmt hz m c M hM rfl n rfl hn ?_)
    go_ret2
    exact ⟨by unfold FindT; rw [hm]; rfl, rfl⟩
  | some v =>
    go_enter Tryd.func28, Tryd.ntmps28
    go_wp2_with fail
    refine hg.mono ?_
    rintro e w1 ⟨rfl, hw1⟩
    rw [hw1]
    clear hw1 w1 hg
    go_wp2_with (refine wp_mp_look rfl _ _ _ _ rfl hmt hz m c M hM rfl n rfl hn ?_)
    go_ret2
    exact ⟨by unfold FindT; rw [hm]; rfl, rfl⟩
end Go.Proofs.YtoipjmjhplkibabDoor

/- The contract of the program's keep: a file has a name. -/
namespace Go.Proofs.YtoipjmjhplkibabDoor
open Go.RowKit DiskMath Go.Maps
set_option maxRecDepth 100000
set_option linter.unusedSimpArgs false
set_option linter.unusedVariables false

/-- A store into the map, as an equation on the run. -/
theorem run_mp_put {w : World} {m c : Nat} {M : ByteArray → Option Value} (n : ByteArray) (u : Value) (hM : Mp w m M c) (hc : c < maxLen) (hn : n.size ≤ maxLen) :
    ∃ w', (Instr.mapUpdate 24 (.map (some m)) (.string n) u).run Tryd.prog w = .ok () w' ∧ Mp w' m (upd M n (some u)) (if M n = none then c + 1 else c) ∧ w.grownBy w' (some m) := by
  obtain ⟨D, h1, h2, h3⟩ := hM
  obtain ⟨w', hrun, ho, hgr⟩ := h1.update keyed Tryd.underlying24 hc (key_of hn) (d := .held u) (ps := []) rfl
  have hsz : Maps.size (D.put (keyLit n) (.held u)) = if M n = none then c + 1 else c := by
    rw [size_put (h1.tidy keyed), Mp.has h3, h2]
    cases hms : M n <;> simp
  refine ⟨w', hrun, ⟨_, ?_, hsz, fun t' z => ?_⟩, hgr⟩
  · have := own_size ho
    rw [hsz] at this
    exact this
  · unfold upd
    by_cases ht' : t' = n
    · subst ht'
      rw [if_pos rfl, atKey_put_same h1.isMap (keyLit_key _)]
    · rw [if_neg ht', atKey_put_other (fun e => ht' (keyLit_inj e)), h3]

theorem grown_after {w w1 w2 : World} {row : Option Nat} (hb : Below w.heap.size w w1) (hg : w1.grownBy w2 row) : w.grownBy w2 row :=
  ⟨hg.os.trans hb.os, hg.tape.trans hb.tape, hg.output.trans hb.output, Nat.le_trans hb.size hg.size, fun i hi hne => (hg.block i (Nat.lt_of_lt_of_le hi hb.size) hne).trans (hb.block i hi)⟩

/-- What keep leaves. -/
def KeepT (w : World) (m c : Nat) (M : ByteArray → Option Value) (n : ByteArray) (u : Value) (e : Ending) (w' : World) : Prop :=
  e = .returned (.tuple #[]) ∧ Mp w' m (upd M n (some u)) (if M n = none then c + 1 else c) ∧ w.grownBy w' (some m)

set_option maxHeartbeats 1000000 in
theorem keep_of {w : World} {q m c : Nat} {M : ByteArray → Option Value} (n : ByteArray) (u : Value) (hq : w.cell? ⟨q, 0, none⟩ = some (.map (some m))) (hM : Mp w m M c) (hc : c < maxLen) (hn : n.size ≤ 1000) :
    Calls Tryd.prog 38 #[.pointer (some ⟨q, 0, none⟩), .string n, u] w (KeepT w m c M n u) := by
  have hs := sclone_of n w.drew hn
  have hput : ∀ w1, Below w.heap.size w.drew w1 → ∃ w2, (Instr.mapUpdate 24 (.map (some m)) (.string n) u).run Tryd.prog w1 = .ok () w2 ∧ KeepT w m c M n u (.returned (.tuple #[])) w2 := fun w1 hb => by
    have hb' : Below w.heap.size w w1 := (below_drewN (Below.refl _ w) 1).trans hb
    obtain ⟨w2, h1, h2, h3⟩ := run_mp_put n u (hM.below hb') hc (by unfold maxLen; omega)
    exact ⟨w2, h1, rfl, h2, grown_after hb' h3⟩
  have hq1 : ∀ w1, Below w.heap.size w.drew w1 → w1.cell? ⟨q, 0, none⟩ = some (.map (some m)) := fun w1 hb => (hb.cell (p := ⟨q, 0, none⟩) (World.block_lt_of_cell? w _ hq)).trans hq
  generalize KeepT w m c M n u = T at *
  clear hM
  go_enter Tryd.func38, Tryd.ntmps38
  go_wp2
  go_region_with (go_at_call 49; refine hs.mono ?_; rintro e w1 ⟨rfl, hb⟩; obtain ⟨w2, hrun, hT⟩ := hput w1 hb; have hq2 := hq1 w1 hb)
  all_goals
    go_end0
    exact hT
end Go.Proofs.YtoipjmjhplkibabDoor

