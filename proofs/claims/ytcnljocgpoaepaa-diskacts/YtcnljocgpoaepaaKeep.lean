/- The contract of the program's keep: a file has a name. -/
import Derived.Test.YtcnljocgpoaepaaFind
import Derived.Deep.RegionWith
namespace Go.Proofs.Ytcnljocgpoaepaa
open Go.RowKit DiskMath Go.Maps
set_option maxRecDepth 100000
set_option linter.unusedSimpArgs false
set_option linter.unusedVariables false

/-- A store into the map, as an equation on the run. -/
theorem run_mp_put {w : World} {m c : Nat} {M : ByteArray → Option Value} (n : ByteArray) (u : Value) (hM : Mp w m M c) (hc : c < maxLen) (hn : n.size ≤ maxLen) :
    ∃ w', (Instr.mapUpdate 50 (.map (some m)) (.string n) u).run Try.prog w = .ok () w' ∧ Mp w' m (upd M n (some u)) (if M n = none then c + 1 else c) ∧ w.grownBy w' (some m) := by
  obtain ⟨D, h1, h2, h3⟩ := hM
  obtain ⟨w', hrun, ho, hgr⟩ := h1.update keyed Try.underlying50 hc (key_of hn) (d := .held u) (ps := []) rfl
  have hsz : Maps.size (D.put (keyLit n) (.held u)) = if M n = none then c + 1 else c := by
    rw [size_put (h1.tidy keyed), Mp.has h3, h2]
    cases hms : M n <;> simp
  refine ⟨w', hrun, ⟨_, ?_, hsz, fun t' z => ?_⟩, hgr⟩
  · have := own_size ho
    rw [hsz] at this
    exact this
  · unfold upd
    by_cases ht' : t' = n
    · subst ht'
      rw [if_pos rfl, atKey_put_same h1.isMap (keyLit_key _)]
    · rw [if_neg ht', atKey_put_other (fun e => ht' (keyLit_inj e)), h3]

theorem grown_after {w w1 w2 : World} {row : Option Nat} (hb : Below w.heap.size w w1) (hg : w1.grownBy w2 row) : w.grownBy w2 row :=
  ⟨hg.os.trans hb.os, hg.tape.trans hb.tape, hg.output.trans hb.output, Nat.le_trans hb.size hg.size, fun i hi hne => (hg.block i (Nat.lt_of_lt_of_le hi hb.size) hne).trans (hb.block i hi)⟩

/-- What keep leaves. -/
def KeepT (w : World) (m c : Nat) (M : ByteArray → Option Value) (n : ByteArray) (u : Value) (e : Ending) (w' : World) : Prop :=
  e = .returned (.tuple #[]) ∧ Mp w' m (upd M n (some u)) (if M n = none then c + 1 else c) ∧ w.grownBy w' (some m)

set_option maxHeartbeats 1000000 in
theorem keep_of {w : World} {q m c : Nat} {M : ByteArray → Option Value} (n : ByteArray) (u : Value) (hq : w.cell? ⟨q, 0, none⟩ = some (.map (some m))) (hM : Mp w m M c) (hc : c < maxLen) (hn : n.size ≤ 1000) :
    Calls Try.prog 24 #[.pointer (some ⟨q, 0, none⟩), .string n, u] w (KeepT w m c M n u) := by
  have hs := sclone_of n w.drew hn
  have hput : ∀ w1, Below w.heap.size w.drew w1 → ∃ w2, (Instr.mapUpdate 50 (.map (some m)) (.string n) u).run Try.prog w1 = .ok () w2 ∧ KeepT w m c M n u (.returned (.tuple #[])) w2 := fun w1 hb => by
    have hb' : Below w.heap.size w w1 := (below_drewN (Below.refl _ w) 1).trans hb
    obtain ⟨w2, h1, h2, h3⟩ := run_mp_put n u (hM.below hb') hc (by unfold maxLen; omega)
    exact ⟨w2, h1, rfl, h2, grown_after hb' h3⟩
  have hq1 : ∀ w1, Below w.heap.size w.drew w1 → w1.cell? ⟨q, 0, none⟩ = some (.map (some m)) := fun w1 hb => (hb.cell (p := ⟨q, 0, none⟩) (World.block_lt_of_cell? w _ hq)).trans hq
  generalize KeepT w m c M n u = T at *
  clear hM
  go_enter Try.func24, Try.ntmps24
  go_wp2
  go_region_with (go_at_call 40; refine hs.mono ?_; rintro e w1 ⟨rfl, hb⟩; obtain ⟨w2, hrun, hT⟩ := hput w1 hb; have hq2 := hq1 w1 hb)
  all_goals
    go_end0
    exact hT
end Go.Proofs.Ytcnljocgpoaepaa
