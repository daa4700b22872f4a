import Derived.Test.YtgfoogeiancecaaGreatDoorHw29
/- The contract of the program's Remove: the disk's blocks stay the same ones. -/
namespace Go.Proofs.YtgfoogeiancecaaGreatDoor
open Go.RowKit DiskMath
set_option maxRecDepth 100000
set_option linter.unusedSimpArgs false
set_option linter.unusedVariables false

/-- What an act tells and leaves that takes no new block. -/
def DidS (S : Nat → Prop) (d : Value) (w : World) (R : Files × Nat) (e : Ending) (w' : World) : Prop :=
  e = .returned (.int .i64 (R.2 : Int)) ∧ Dk S w' d R.1 ∧ Kept S w w'

set_option maxHeartbeats 1000000 in
theorem dremove_same {S : Nat → Prop} {w : World} {d : Value} {fs : Files} (n : ByteArray) (hn : n.size ≤ maxLen) (h : Dk S w d fs) : Calls Tryz.prog 36 #[d, .string n] w (DidS S d w (dRemove fs n)) := by
  have hst := h
  have hkr : Kept S w w := ⟨rfl, rfl, rfl, Nat.le_refl _, fun _ _ _ => rfl⟩
  obtain ⟨ρ, M, q, m, rfl, hS, hD⟩ := h
  have hfd := find_of n hD hn
  cases hg : get fs n with
  | none =>
    have hm := hD.no n hg
    have E : DidS S (.pointer (some ⟨q, 0, none⟩)) w (dRemove fs n) (.returned (.int .i64 4)) w := by
      unfold dRemove
      rw [hg]
      exact ⟨rfl, hst, hkr⟩
    unfold FindT at hfd
    rw [hm] at hfd
    generalize DidS S (.pointer (some ⟨q, 0, none⟩)) w (dRemove fs n) = T at *
    clear hst hD
    go_enter Tryz.func36, Tryz.ntmps36
    go_wp2_with fail
    refine hfd.mono ?_
    rintro e w1 ⟨rfl, hw1⟩
    rw [hw1]
    clear hw1 w1 hfd
    go_wp2 <;> first | exact E | (go_ret; exact E)
  | some f =>
    obtain ⟨p, v, hm, hF⟩ := hD.yes n f hg
    have E : ∀ w', Mp w' m (upd M n none) (fs.length - 1) → w.grownBy w' (some m) → DidS S (.pointer (some ⟨q, 0, none⟩)) w (dRemove fs n) (.returned (.int .i64 0)) w' := by
      intro w' hM' hgr
      unfold dRemove
      rw [hg]
      have hin : ∀ b, (ρ b).1 ≠ 0 → b ≠ m → w'.heap[b]? = w.heap[b]? := fun b hb hne => hgr.block b (hD.lt b hb) (fun e => hne (Option.some.inj e))
      refine ⟨rfl, ⟨ρ, _, q, m, rfl, hS, hD.out n hg hgr.size hin hM' (fun k => rfl)⟩, hgr.os, hgr.tape, hgr.output, hgr.size, fun k hk hns => hgr.block k hk (fun e => hns ?_)⟩
      rw [hS, Option.some.inj e, hD.markm]
      simp
    have hc := hD.cell
    have hM := hD.map
    have hmt := Tryz.underlying50
    unfold FindT at hfd
    rw [hm] at hfd
    generalize DidS S (.pointer (some ⟨q, 0, none⟩)) w (dRemove fs n) = T at *
    clear hst hD hF
    generalize fs.length = c at *
    go_enter Tryz.func36, Tryz.ntmps36
    go_wp2_with fail
    refine hfd.mono ?_
    rintro e w1 ⟨rfl, hw1⟩
    rw [hw1]
    clear hw1 w1 hfd
    go_wp2_with (refine wp_mp_del rfl _ _ _ _ rfl hmt m c M hM rfl n rfl hn ?_)
    intro w2 hM2 hg2
    have hE := E w2 hM2 hg2
    clear E hM hM2
    go_wp2 <;> first | exact hE | (go_ret; exact hE)
end Go.Proofs.YtgfoogeiancecaaGreatDoor

