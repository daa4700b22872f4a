import Derived.Test.YtoipjmjhplkibaaDoorP41
/- The program's New, Read and Files. -/
namespace Go.Proofs.YtoipjmjhplkibaaDoor
open Go.RowKit DiskMath
set_option maxRecDepth 100000
set_option linter.unusedSimpArgs false
set_option linter.unusedVariables false

/-- What New leaves: a disk without files, all new. -/
def NewT (w : World) (e : Ending) (w' : World) : Prop :=
  ∃ S d, e = .returned d ∧ Dk S w' d [] ∧ (∀ b, S b → w.heap.size ≤ b) ∧ Below w.heap.size w w'
theorem new_disk (w : World) : NewT w (.returned (.pointer (some ⟨w.heap.size + 1, 0, none⟩))) ((w.alloc (.map #[] 0)).alloc (.cells #[.map (some w.heap.size)] 58)) := by
  have hb1 := (Below.refl w.heap.size w).alloc (Nat.le_refl _) (.map #[] 0)
  have hb2 := (Below.refl _ (w.alloc (.map #[] 0))).alloc (Nat.le_refl _) (.cells #[.map (some w.heap.size)] 58)
  have hs1 : (w.alloc (.map #[] 0)).heap.size = w.heap.size + 1 := by simp
  have hs2 : ((w.alloc (.map #[] 0)).alloc (.cells #[.map (some w.heap.size)] 58)).heap.size = w.heap.size + 2 := by simp
  have hq := heap_alloc_new (w.alloc (.map #[] 0)) (.cells #[.map (some w.heap.size)] 58)
  rw [hs1] at hq
  let ρ : Mark := fun b => if b = w.heap.size + 1 then (1, noName) else if b = w.heap.size then (2, noName) else (0, noName)
  refine ⟨fun b => (ρ b).1 ≠ 0, _, rfl, ⟨ρ, fun _ => none, w.heap.size + 1, w.heap.size, rfl, fun b => Iff.rfl, hq, (Mp.made w).below hb2, ?_, ?_, ?_, ⟨trivial, by simp, by simp⟩, by simp, fun _ _ => rfl, fun n f hf => by simp [get_nil] at hf⟩, ?_, hb1.trans (hb2.mono (by simp))⟩
  · show (if w.heap.size + 1 = w.heap.size + 1 then _ else _) = _
    rw [if_pos rfl]
  · show (if w.heap.size = w.heap.size + 1 then _ else _) = _
    rw [if_neg (by omega), if_pos rfl]
  · intro b hb
    rw [hs2]
    by_cases h1 : b = w.heap.size + 1
    · omega
    · by_cases h2 : b = w.heap.size
      · omega
      · exact absurd (by show (ρ b).1 = 0; simp only [ρ]; rw [if_neg h1, if_neg h2]) hb
  · intro b hb
    by_cases h1 : b = w.heap.size + 1
    · omega
    · by_cases h2 : b = w.heap.size
      · omega
      · exact absurd (by show (ρ b).1 = 0; simp only [ρ]; rw [if_neg h1, if_neg h2]) hb

set_option maxHeartbeats 1000000 in
theorem dnew_of (w : World) : Calls Tryd.prog 13 #[] w (NewT w) := by
  have E : Hid (NewT w (.returned (.pointer (some ⟨w.heap.size + 1, 0, none⟩))) ((w.alloc (.map #[] 0)).alloc (.cells #[.map (some w.heap.size)] 58))) := new_disk w
  have hmk : (Instr.makeMap 56 none).run Tryd.prog w = .ok (.map (some w.heap.size)) (w.alloc (.map #[] 0)) := rfl
  generalize NewT w = T at *
  go_enter Tryd.func13, Tryd.ntmps13
  go_wp2 <;> first | exact E.out | (go_ret; exact E.out)

/-- What Read tells: bytes of its own. -/
def ReadT (w : World) (fs : Files) (n : ByteArray) (e : Ending) (w' : World) : Prop :=
  ∃ v l, e = .returned (.tuple #[v, .bool (get fs n).isSome]) ∧ Own w.heap.size w' v l ∧ Below w.heap.size w w' ∧ l = ((get fs n).map Fl.data).getD []

set_option maxHeartbeats 1000000 in
theorem dread_of {S : Nat → Prop} {w : World} {d : Value} {fs : Files} (n : ByteArray) (hn : n.size ≤ maxLen) (h : Dk S w d fs) : Calls Tryd.prog 32 #[d, .string n] w (ReadT w fs n) := by
  obtain ⟨ρ, M, q, m, rfl, hS, hD⟩ := h
  have hfd := find_of n hD hn
  cases hg : get fs n with
  | none =>
    have hm := hD.no n hg
    have E : Hid (ReadT w fs n (.returned (.tuple #[.slice none 0 0, .bool false])) w) := by
      unfold Hid ReadT
      rw [hg]
      exact ⟨_, [], rfl, Own.nil _ _, Below.refl _ _, rfl⟩
    unfold FindT at hfd
    rw [hm] at hfd
    generalize ReadT w fs n = T at *
    clear hD
    go_enter Tryd.func32, Tryd.ntmps32
    go_wp2_with fail
    refine hfd.mono ?_
    rintro e w1 ⟨rfl, hw1⟩
    rw [hw1]
    clear hw1 w1 hfd
    go_wp2 <;> first | exact E.out | (go_ret2; exact E.out)
  | some f =>
    obtain ⟨p, v, hm, hF⟩ := hD.yes n f hg
    have hs := sound_get hD.sound hg
    letI := keepAll
    have hB : Bs w.heap.size w v f.data := hF.own.bs (Nat.zero_le _)
    have hcl := clone_of w.heap.size f.data v w hB (Nat.le_refl _) (by omega)
    have hvs : ∃ ao cap, v = .slice ao f.data.length cap := hF.own.shape
    obtain ⟨ao, cap, rfl⟩ := hvs
    have c0 : w.cell? ⟨p, 0, none⟩ = some (.slice ao f.data.length cap) := by rw [cells_of_block hF.block]; rfl
    have E : ∀ v' w', Own w.heap.size w' v' f.data → Below w.heap.size w w' → Hid (ReadT w fs n (.returned (.tuple #[v', .bool true])) w') := by
      intro v' w' hO' hb'
      unfold Hid ReadT
      rw [hg]
      exact ⟨_, _, rfl, hO', hb', rfl⟩
    unfold FindT at hfd
    rw [hm] at hfd
    generalize ReadT w fs n = T at *
    clear hD hF hB
    go_enter Tryd.func32, Tryd.ntmps32
    go_wp2_with fail
    refine hfd.mono ?_
    rintro e w1 ⟨rfl, hw1⟩
    rw [hw1]
    clear hw1 w1 hfd
    go_wp2_with fail
    refine hcl.mono ?_
    rintro e w1 ⟨v', rfl, hO', hb'⟩
    have hE := E v' w1 hO' hb'
    clear E hO' hcl
    go_wp2 <;> first | exact hE.out | (go_ret2; exact hE.out)

theorem Own.lt {n₀ : Nat} {w : World} {v : Value} {l : List Nat} (h : Own n₀ w v l) {k : Nat} (hk : v.ownBlock = some k) : n₀ ≤ k ∧ k < w.heap.size := World.ownsRow.lt h k hk
theorem Own.one {n₀ : Nat} {w : World} {v : Value} {l : List Nat} (h : Own n₀ w v l) : v.oneCell' = true := by
  obtain ⟨ao, cap, rfl⟩ := h.shape
  rfl
end Go.Proofs.YtoipjmjhplkibaaDoor

/- The program's Files: all files, by rising names, in memory of the call's own. -/
namespace Go.Proofs.YtoipjmjhplkibaaDoor
open Go.RowKit DiskMath
set_option maxRecDepth 100000
set_option linter.unusedSimpArgs false
set_option linter.unusedVariables false

theorem take_snoc {α : Type} {l : List α} {i : Nat} {x : α} (h : l[i]? = some x) : l.take (i + 1) = l.take i ++ [x] := by
  rw [List.take_add_one, h]
  rfl

end Go.Proofs.YtoipjmjhplkibaaDoor

