/- The contracts of the program's given, find and keep. -/
import Derived.Test.YtcnljocgpoaepaaInner
import Derived.Laws.Cover3
namespace Go.Proofs.Ytcnljocgpoaepaa
open Go.RowKit DiskMath
set_option maxRecDepth 100000
set_option linter.unusedSimpArgs false
set_option linter.unusedVariables false

theorem DiskAt.cell {ρ : Mark} {M : ByteArray → Option Value} {w : World} {q m : Nat} {fs : Files} (h : DiskAt ρ M w q m fs) : w.cell? ⟨q, 0, none⟩ = some (.map (some m)) := by
  rw [cells_of_block h.block]; rfl
theorem may_size {n : ByteArray} (h : mayName n = true) : 1 ≤ n.size ∧ n.size ≤ 32 := by
  unfold mayName at h
  simp only [Bool.and_eq_true, decide_eq_true_eq] at h
  exact h.1
theorem DiskAt.zeroF (w : World) : (zeroValue 59).run Try.prog w = .ok (.pointer none) w := Try.zeroValue59 w

set_option maxHeartbeats 1000000 in
theorem given_of {ρ : Mark} {M : ByteArray → Option Value} {w : World} {q m : Nat} {fs : Files} (h : DiskAt ρ M w q m fs) :
    Calls Try.prog 35 #[.pointer (some ⟨q, 0, none⟩)] w fun e w' => e = .returned (.bool true) ∧ w' = w := by
  have hc := h.cell
  have hne : ∀ w', (binOp .neq 50 (.map (some m)) (.map none)).run Try.prog w' = .ok (.bool true) w' := fun w' => run_neq_map_nil w' 50 9 59 (some m) Try.underlying50
  clear h
  go_enter Try.func35, Try.ntmps35
  go_wp2
  go_ret
  exact ⟨rfl, rfl⟩

/-- What find tells. -/
def FindT (M : ByteArray → Option Value) (n : ByteArray) (e : Ending) : Prop :=
  e = .returned (match M n with | none => .tuple #[.pointer none, .int .i64 4] | some v => .tuple #[v, .int .i64 0])

set_option maxHeartbeats 1000000 in
theorem find_of {ρ : Mark} {M : ByteArray → Option Value} {w : World} {q m : Nat} {fs : Files} (n : ByteArray) (h : DiskAt ρ M w q m fs) (hn : n.size ≤ maxLen) :
    Calls Try.prog 33 #[.pointer (some ⟨q, 0, none⟩), .string n] w fun e w' => FindT M n e ∧ w' = w := by
  have hc := h.cell
  have hg := given_of h
  have hM := h.map
  have hmt := Try.underlying50
  have hz := DiskAt.zeroF w
  generalize fs.length = c at hM
  clear h
  cases hm : M n with
  | none =>
    go_enter Try.func33, Try.ntmps33
    go_wp2_with fail
    refine hg.mono ?_
    rintro e w1 ⟨rfl, hw1⟩
    rw [hw1]
    clear hw1 w1 hg
    go_wp2_with (refine wp_mp_look rfl _ _ _ _ rfl hmt hz m c M hM rfl n rfl hn ?_)
    go_ret2
    exact ⟨by unfold FindT; rw [hm]; rfl, rfl⟩
  | some v =>
    go_enter Try.func33, Try.ntmps33
    go_wp2_with fail
    refine hg.mono ?_
    rintro e w1 ⟨rfl, hw1⟩
    rw [hw1]
    clear hw1 w1 hg
    go_wp2_with (refine wp_mp_look rfl _ _ _ _ rfl hmt hz m c M hM rfl n rfl hn ?_)
    go_ret2
    exact ⟨by unfold FindT; rw [hm]; rfl, rfl⟩
end Go.Proofs.Ytcnljocgpoaepaa
