/- One file of a disk turned: what is left is a disk. -/
import Derived.Test.YtcnljocgpoaepaaFileOps
namespace Go.Proofs.Ytcnljocgpoaepaa
open Go.RowKit DiskMath
set_option maxRecDepth 100000
set_option linter.unusedSimpArgs false
set_option linter.unusedVariables false

/-- What is left is a disk with these files. -/
def Leaves (S : Nat → Prop) (w : World) (d : Value) (fs : Files) (w' : World) : Prop := ∃ S', Dk S' w' d fs ∧ Step S S' w ∧ Kept S w w'
theorem Leaves.refl {S : Nat → Prop} {w : World} {d : Value} {fs : Files} (h : Dk S w d fs) : Leaves S w d fs w :=
  ⟨S, h, fun _ hb => .inl hb, ⟨rfl, rfl, rfl, Nat.le_refl _, fun _ _ _ => rfl⟩⟩

theorem DiskAt.qm {ρ : Mark} {M : ByteArray → Option Value} {w : World} {q m : Nat} {fs : Files} (h : DiskAt ρ M w q m fs) : q ≠ m := fun e => by
  have := h.markq
  rw [e, h.markm] at this
  injection this with this
  cases this
theorem mark_ne {ρ : Mark} {a b : Nat} {x y : Nat × ByteArray} (ha : ρ a = x) (hb : ρ b = y) (h : x.1 ≠ y.1) : a ≠ b := fun e => h (by rw [← ha, ← hb, e])

/-- The marks, with a new row. -/
def rowMark (ρ : Mark) (s : Nat) (v : Value) (n : ByteArray) : Mark := fun b => if s ≤ b ∧ v.ownBlock = some b then (4, n) else ρ b

theorem rowMark_old {ρ : Mark} {s : Nat} {v : Value} {n : ByteArray} {b : Nat} (h : b < s) : rowMark ρ s v n b = ρ b := by
  unfold rowMark
  rw [if_neg (fun h' => by omega)]

/-- One file of a disk turned. -/
theorem turn {S : Nat → Prop} {ρ : Mark} {M : ByteArray → Option Value} {w w' : World} {q m : Nat} {fs : Files} (h : DiskAt ρ M w q m fs) (hS : ∀ b, S b ↔ (ρ b).1 ≠ 0) {n : ByteArray} {f : File} {p : Nat} {v : Value} (hf : get fs n = some f) (hM : M n = some (.pointer (some ⟨p, 0, none⟩))) (hF : FileAt w ρ n f p v)
    (data : List Nat) (safe : Nat) (v' : Value) (hp : w'.heap[p]? = some (.cells #[v', .int .i64 (safe : Int)] 62 (0, 0))) (hO : Own 0 w' v' data) (hrow : ∀ k, v'.ownBlock = some k → v.ownBlock = some k ∨ w.heap.size ≤ k)
    (hos : w'.os = w.os) (htape : w'.tape = w.tape) (hout : w'.output = w.output) (hsz : w.heap.size ≤ w'.heap.size) (hblk : ∀ b, b < w.heap.size → b ≠ p → v.ownBlock ≠ some b → w'.heap[b]? = w.heap[b]?)
    (hlen : data.length ≤ 65536) (hsafe : safe ≤ data.length) (hby : ∀ c ∈ data, c < 256) : Leaves S w (.pointer (some ⟨q, 0, none⟩)) (putF fs ⟨n, data, safe⟩) w' := by
  have hg := sound_get h.sound hf
  have hold : ∀ b, (ρ b).1 ≠ 0 → rowMark ρ w.heap.size v' n b = ρ b := fun b hb => rowMark_old (h.lt b hb)
  have hpt : (ρ p).1 ≠ 0 := by rw [hF.mark]; simp
  have hvt : ∀ k, v.ownBlock = some k → (ρ k).1 ≠ 0 := fun k hk => by rw [hF.row k hk]; simp
  have hrl : ∀ k, v'.ownBlock = some k → k < w'.heap.size := fun k hk => (World.ownsRow.lt hO k hk).2
  have hput : get fs n ≠ none := by rw [hf]; simp
  refine ⟨fun b => (rowMark ρ w.heap.size v' n b).1 ≠ 0, ⟨rowMark ρ w.heap.size v' n, M, q, m, rfl, fun b => Iff.rfl, ?_⟩, ?_, ?_⟩
  · refine h.put ⟨n, data, safe⟩ p v' hsz ?_ ?_ ?_ ?_ hold ?_ ⟨hp, hO, (hold p hpt).trans hF.mark, ?_⟩ ?_ hby
    · intro b hb hn _
      refine hblk b (h.lt b hb) (fun e => hn (by rw [e, hF.mark])) (fun e => hn (by rw [hF.row b e]))
    · refine hblk q (h.lt q (by rw [h.markq]; decide)) (mark_ne h.markq hF.mark (by simp)) (fun e => ?_)
      have := hF.row q e
      rw [h.markq] at this
      injection this with this
      cases this
    · show Mp w' m M (if get fs n = none then _ else _)
      rw [if_neg hput]
      refine h.map.same (hblk m (h.lt m (by rw [h.markm]; decide)) (mark_ne h.markm hF.mark (by simp)) (fun e => ?_))
      have := hF.row m e
      rw [h.markm] at this
      injection this with this
      cases this
    · intro k
      show M k = if k = n then _ else _
      by_cases e : k = n
      · rw [if_pos e, e, hM]
      · rw [if_neg e]
    · intro b hb
      unfold rowMark at hb
      split at hb
      · rename_i hh
        exact hrl b hh.2
      · exact Nat.lt_of_lt_of_le (h.lt b hb) hsz
    · intro k hk
      rcases hrow k hk with hk' | hk'
      · rw [hold k (hvt k hk')]
        exact hF.row k hk'
      · unfold rowMark
        rw [if_pos ⟨hk', hk⟩]
    · exact sound_put h.sound hg.1 hlen hsafe (fun e => absurd e hput)
  · intro b hb
    unfold rowMark at hb
    split at hb
    · rename_i hh
      exact .inr hh.1
    · exact .inl ((hS b).2 hb)
  · refine ⟨hos, htape, hout, hsz, fun k hk hns => hblk k hk (fun e => hns ((hS k).2 (by rw [e]; exact hpt))) (fun e => hns ((hS k).2 (hvt k e)))⟩

/-- A file's contract, over the disk. -/
theorem turn_file {S : Nat → Prop} {ρ : Mark} {M : ByteArray → Option Value} {w w' : World} {q m : Nat} {fs : Files} (h : DiskAt ρ M w q m fs) (hS : ∀ b, S b ↔ (ρ b).1 ≠ 0) {n : ByteArray} {f : File} {p : Nat} {v : Value} (hf : get fs n = some f) (hM : M n = some (.pointer (some ⟨p, 0, none⟩))) (hF : FileAt w ρ n f p v)
    {data : List Nat} {safe : Nat} {e : Ending} (hT : FileT w p data safe e w') (hlen : data.length ≤ 65536) (hsafe : safe ≤ data.length) (hby : ∀ c ∈ data, c < 256) : Leaves S w (.pointer (some ⟨q, 0, none⟩)) (putF fs ⟨n, data, safe⟩) w' := by
  obtain ⟨-, v', hp, hO, hg⟩ := hT
  exact turn h hS hf hM hF data safe v' hp (hO.mono (Nat.zero_le _)) (fun k hk => .inr (World.ownsRow.lt hO k hk).1) hg.os hg.tape hg.output hg.size (fun b hb hne _ => hg.block b hb (fun e => hne (Option.some.inj e))) hlen hsafe hby
end Go.Proofs.Ytcnljocgpoaepaa
