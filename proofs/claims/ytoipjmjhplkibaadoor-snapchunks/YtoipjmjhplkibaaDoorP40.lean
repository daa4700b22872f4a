import Derived.Test.YtoipjmjhplkibaaDoorP39
/- One file of a disk turned: what is left is a disk. -/
namespace Go.Proofs.YtoipjmjhplkibaaDoor
open Go.RowKit DiskMath
set_option maxRecDepth 100000
set_option linter.unusedSimpArgs false
set_option linter.unusedVariables false

/-- What is left is a disk with these files. -/
def Leaves (S : Nat → Prop) (w : World) (d : Value) (fs : Files) (w' : World) : Prop := ∃ S', Dk S' w' d fs ∧ Step S S' w ∧ Kept S w w'
theorem Leaves.refl {S : Nat → Prop} {w : World} {d : Value} {fs : Files} (h : Dk S w d fs) : Leaves S w d fs w :=
  ⟨S, h, fun _ hb => .inl hb, ⟨rfl, rfl, rfl, Nat.le_refl _, fun _ _ _ => rfl⟩⟩

theorem DiskAt.qm {ρ : Mark} {M : ByteArray → Option Value} {w : World} {q m : Nat} {fs : Files} (h : DiskAt ρ M w q m fs) : q ≠ m := fun e => by
  have := h.markq
  rw [e, h.markm] at this
  injection this with this
  cases this
theorem mark_ne {ρ : Mark} {a b : Nat} {x y : Nat × ByteArray} (ha : ρ a = x) (hb : ρ b = y) (h : x.1 ≠ y.1) : a ≠ b := fun e => h (by rw [← ha, ← hb, e])

/-- The marks, with a new row. -/
def rowMark (ρ : Mark) (s : Nat) (v : Value) (n : ByteArray) : Mark := fun b => if s ≤ b ∧ v.ownBlock = some b then (4, n) else ρ b

theorem rowMark_old {ρ : Mark} {s : Nat} {v : Value} {n : ByteArray} {b : Nat} (h : b < s) : rowMark ρ s v n b = ρ b := by
  unfold rowMark
  rw [if_neg (fun h' => by omega)]

/-- One file of a disk turned. -/
theorem turn {S : Nat → Prop} {ρ : Mark} {M : ByteArray → Option Value} {w w' : World} {q m : Nat} {fs : Files} (h : DiskAt ρ M w q m fs) (hS : ∀ b, S b ↔ (ρ b).1 ≠ 0) {n : ByteArray} {f : File} {p : Nat} {v : Value} (hf : get fs n = some f) (hM : M n = some (.pointer (some ⟨p, 0, none⟩))) (hF : FileAt w ρ n f p v)
    (data : List Nat) (safe : Nat) (v' : Value) (hp : w'.heap[p]? = some (.cells #[v', .int .i64 (safe : Int)] 75 (0, 0))) (hO : Own 0 w' v' data) (hrow : ∀ k, v'.ownBlock = some k → v.ownBlock = some k ∨ w.heap.size ≤ k)
    (hos : w'.os = w.os) (htape : w'.tape = w.tape) (hout : w'.output = w.output) (hsz : w.heap.size ≤ w'.heap.size) (hblk : ∀ b, b < w.heap.size → b ≠ p → v.ownBlock ≠ some b → w'.heap[b]? = w.heap[b]?)
    (hlen : data.length ≤ 65536) (hsafe : safe ≤ data.length) (hby : ∀ c ∈ data, c < 256) : Leaves S w (.pointer (some ⟨q, 0, none⟩)) (putF fs ⟨n, data, safe⟩) w' := by
  have hg := sound_get h.sound hf
  have hold : ∀ b, (ρ b).1 ≠ 0 → rowMark ρ w.heap.size v' n b = ρ b := fun b hb => rowMark_old (h.lt b hb)
  have hpt : (ρ p).1 ≠ 0 := by rw [hF.mark]; simp
  have hvt : ∀ k, v.ownBlock = some k → (ρ k).1 ≠ 0 := fun k hk => by rw [hF.row k hk]; simp
  have hrl : ∀ k, v'.ownBlock = some k → k < w'.heap.size := fun k hk => (World.ownsRow.lt hO k hk).2
  have hput : get fs n ≠ none := by rw [hf]; simp
  refine ⟨fun b => (rowMark ρ w.heap.size v' n b).1 ≠ 0, ⟨rowMark ρ w.heap.size v' n, M, q, m, rfl, fun b => Iff.rfl, ?_⟩, ?_, ?_⟩
  · refine h.put ⟨n, data, safe⟩ p v' hsz ?_ ?_ ?_ ?_ hold ?_ ⟨hp, hO, (hold p hpt).trans hF.mark, ?_⟩ ?_ hby
    · intro b hb hn _
      refine hblk b (h.lt b hb) (fun e => hn (by rw [e, hF.mark])) (fun e => hn (by rw [hF.row b e]))
    · refine hblk q (h.lt q (by rw [h.markq]; decide)) (mark_ne h.markq hF.mark (by simp)) (fun e => ?_)
      have := hF.row q e
      rw [h.markq] at this
      injection this with this
      cases this
    · show Mp w' m M (if get fs n = none then _ else _)
      rw [if_neg hput]
      refine h.map.same (hblk m (h.lt m (by rw [h.markm]; decide)) (mark_ne h.markm hF.mark (by simp)) (fun e => ?_))
      have := hF.row m e
      rw [h.markm] at this
      injection this with this
      cases this
    · intro k
      show M k = if k = n then _ else _
      by_cases e : k = n
      · rw [if_pos e, e, hM]
      · rw [if_neg e]
    · intro b hb
      unfold rowMark at hb
      split at hb
      · rename_i hh
        exact hrl b hh.2
      · exact Nat.lt_of_lt_of_le (h.lt b hb) hsz
    · intro k hk
      rcases hrow k hk with hk' | hk'
      · rw [hold k (hvt k hk')]
        exact hF.row k hk'
      · unfold rowMark
        rw [if_pos ⟨hk', hk⟩]
    · exact sound_put h.sound hg.1 hlen hsafe (fun e => absurd e hput)
  · intro b hb
    unfold rowMark at hb
    split at hb
    · rename_i hh
      exact .inr hh.1
    · exact .inl ((hS b).2 hb)
  · refine ⟨hos, htape, hout, hsz, fun k hk hns => hblk k hk (fun e => hns ((hS k).2 (by rw [e]; exact hpt))) (fun e => hns ((hS k).2 (hvt k e)))⟩

/-- A file's contract, over the disk. -/
theorem turn_file {S : Nat → Prop} {ρ : Mark} {M : ByteArray → Option Value} {w w' : World} {q m : Nat} {fs : Files} (h : DiskAt ρ M w q m fs) (hS : ∀ b, S b ↔ (ρ b).1 ≠ 0) {n : ByteArray} {f : File} {p : Nat} {v : Value} (hf : get fs n = some f) (hM : M n = some (.pointer (some ⟨p, 0, none⟩))) (hF : FileAt w ρ n f p v)
    {data : List Nat} {safe : Nat} {e : Ending} (hT : FileT w p data safe e w') (hlen : data.length ≤ 65536) (hsafe : safe ≤ data.length) (hby : ∀ c ∈ data, c < 256) : Leaves S w (.pointer (some ⟨q, 0, none⟩)) (putF fs ⟨n, data, safe⟩) w' := by
  obtain ⟨-, v', hp, hO, hg⟩ := hT
  exact turn h hS hf hM hF data safe v' hp (hO.mono (Nat.zero_le _)) (fun k hk => .inr (World.ownsRow.lt hO k hk).1) hg.os hg.tape hg.output hg.size (fun b hb hne _ => hg.block b hb (fun e => hne (Option.some.inj e))) hlen hsafe hby
end Go.Proofs.YtoipjmjhplkibaaDoor

/- The program's Sync, Cut and Remove. -/
namespace Go.Proofs.YtoipjmjhplkibaaDoor
open Go.RowKit DiskMath
set_option maxRecDepth 100000
set_option linter.unusedSimpArgs false
set_option linter.unusedVariables false

/-- Names that are too long for the form are no files' names: what is told of them. -/
theorem get_long {fs : Files} (h : SoundF fs) {n : ByteArray} (hn : ¬ n.size ≤ maxLen) : get fs n = none := by
  cases hg : get fs n with
  | none => rfl
  | some f =>
    have := (may_size (sound_get h hg).1).2
    exact absurd (Nat.le_trans this (by unfold maxLen; omega)) hn

set_option maxHeartbeats 1000000 in
theorem dsync_of {S : Nat → Prop} {w : World} {d : Value} {fs : Files} (n : ByteArray) (hn : n.size ≤ maxLen) (h : Dk S w d fs) : Calls Tryd.prog 27 #[d, .string n] w (Did Dk S d w (dSync fs n)) := by
  have hst := Leaves.refl h
  obtain ⟨ρ, M, q, m, rfl, hS, hD⟩ := h
  have hfd := find_of n hD hn
  cases hg : get fs n with
  | none =>
    have hm := hD.no n hg
    have E : Did Dk S (.pointer (some ⟨q, 0, none⟩)) w (dSync fs n) (.returned (.int .i64 4)) w := by
      unfold dSync
      rw [hg]
      exact ⟨rfl, hst⟩
    unfold FindT at hfd
    rw [hm] at hfd
    generalize Did Dk S (.pointer (some ⟨q, 0, none⟩)) w (dSync fs n) = T at *
    clear hst hD
    go_enter Tryd.func27, Tryd.ntmps27
    go_wp2_with fail
    refine hfd.mono ?_
    rintro e w1 ⟨rfl, hw1⟩
    rw [hw1]
    clear hw1 w1 hfd
    go_wp2 <;> first | exact E | (go_ret; exact E)
  | some f =>
    obtain ⟨p, v, hm, hF⟩ := hD.yes n f hg
    have hs := sound_get hD.sound hg
    have E : ∀ w', w' = w.setCell ⟨p, 1, none⟩ (.int .i64 (f.data.length : Int)) → Did Dk S (.pointer (some ⟨q, 0, none⟩)) w (dSync fs n) (.returned (.int .i64 0)) w' := by
      rintro w' rfl
      unfold dSync
      rw [hg]
      refine ⟨rfl, turn hD hS hg hm hF f.data f.data.length v (box2_1 hF.block _) (hF.own.same fun k hk => set_block 1 _ ?_) (fun k hk => .inl hk) rfl rfl rfl (Nat.le_of_eq (set_size _ _ _).symm) (fun b _ hb _ => set_block 1 _ hb) hs.2.1 (Nat.le_refl _) (hD.byte f (get_mem hg))⟩
      exact mark_ne (hF.row k hk) hF.mark (by simp)
    letI := keepAll
    have hB : Bs w.heap.size w v f.data := hF.own.bs (Nat.zero_le _)
    obtain ⟨ao, cap, rfl, hc1, hc2, _⟩ := id hB
    have c0 : w.cell? ⟨p, 0, none⟩ = some (.slice ao f.data.length cap) := by rw [cells_of_block hF.block]; rfl
    have c1 : w.cell? ⟨p, 1, none⟩ = some (.int .i64 (f.safe : Int)) := by rw [cells_of_block hF.block]; rfl
    have g1 := frozen_of hF.block 1
    unfold FindT at hfd
    rw [hm] at hfd
    generalize Did Dk S (.pointer (some ⟨q, 0, none⟩)) w (dSync fs n) = T at *
    clear hst hD hF hB
    go_enter Tryd.func27, Tryd.ntmps27
    go_wp2_with fail
    refine hfd.mono ?_
    rintro e w1 ⟨rfl, hw1⟩
    rw [hw1]
    clear hw1 w1 hfd
    go_wp2 <;> first | rfl | exact E _ rfl | (go_ret; exact E _ rfl)

set_option maxHeartbeats 1000000 in
theorem dcut_of {S : Nat → Prop} {w : World} {d : Value} {fs : Files} (n : ByteArray) (k : Int) (hn : n.size ≤ maxLen) (h : Dk S w d fs) : Calls Tryd.prog 24 #[d, .string n, .int .i64 k] w (Did Dk S d w (dCut fs n k)) := by
  have hst := Leaves.refl h
  obtain ⟨ρ, M, q, m, rfl, hS, hD⟩ := h
  have hfd := find_of n hD hn
  cases hg : get fs n with
  | none =>
    have hm := hD.no n hg
    have E : Did Dk S (.pointer (some ⟨q, 0, none⟩)) w (dCut fs n k) (.returned (.int .i64 4)) w := by
      unfold dCut
      rw [hg]
      exact ⟨rfl, hst⟩
    unfold FindT at hfd
    rw [hm] at hfd
    generalize Did Dk S (.pointer (some ⟨q, 0, none⟩)) w (dCut fs n k) = T at *
    clear hst hD
    go_enter Tryd.func24, Tryd.ntmps24
    go_wp2_with fail
    refine hfd.mono ?_
    rintro e w1 ⟨rfl, hw1⟩
    rw [hw1]
    clear hw1 w1 hfd
    go_wp2 <;> first | exact E | (go_ret; exact E)
  | some f =>
    obtain ⟨p, v, hm, hF⟩ := hD.yes n f hg
    have hs := sound_get hD.sound hg
    letI := keepAll
    have hB : Bs w.heap.size w v f.data := hF.own.bs (Nat.zero_le _)
    have hvs : ∃ ao cap, v = .slice ao f.data.length cap := by
      obtain ⟨ao, cap, e, _⟩ := id hB
      exact ⟨ao, cap, e⟩
    obtain ⟨ao, cap, hv⟩ := hvs
    have c0 : w.cell? ⟨p, 0, none⟩ = some (.slice ao f.data.length cap) := by rw [cells_of_block hF.block, hv]; rfl
    unfold FindT at hfd
    rw [hm] at hfd
    by_cases hk : k < 0 ∨ (f.data.length : Int) < k
    · have E : Did Dk S (.pointer (some ⟨q, 0, none⟩)) w (dCut fs n k) (.returned (.int .i64 1)) w := by
        unfold dCut
        rw [hg]
        dsimp only
        rw [if_pos hk]
        exact ⟨rfl, hst⟩
      generalize Did Dk S (.pointer (some ⟨q, 0, none⟩)) w (dCut fs n k) = T at *
      clear hst hD hF hB
      by_cases hk0 : k < 0
      · clear hk
        go_enter Tryd.func24, Tryd.ntmps24
        go_wp2_with fail
        refine hfd.mono ?_
        rintro e w1 ⟨rfl, hw1⟩
        rw [hw1]
        clear hw1 w1 hfd
        go_wp2 <;> first | exact E | (go_ret; exact E)
      · have hk1 : (f.data.length : Int) < k := by omega
        clear hk
        go_enter Tryd.func24, Tryd.ntmps24
        go_wp2_with fail
        refine hfd.mono ?_
        rintro e w1 ⟨rfl, hw1⟩
        rw [hw1]
        clear hw1 w1 hfd
        go_wp2 <;> first | exact E | (go_ret; exact E)
    · obtain ⟨j, rfl⟩ : ∃ j : Nat, k = (j : Int) := ⟨k.toNat, by omega⟩
      have hj : j ≤ f.data.length := by omega
      have hk0 : ¬ (j : Int) < 0 := by omega
      have hk1 : ¬ (f.data.length : Int) < (j : Int) := by omega
      have hcut := fcut_of j hF.block hF.own hj hs.2.1
      have E : ∀ e w', FileT w p (f.data.take j) (min f.safe j) e w' → Did Dk S (.pointer (some ⟨q, 0, none⟩)) w (dCut fs n (j : Int)) (.returned (.int .i64 0)) w' := by
        intro e w' hT
        unfold dCut
        rw [hg]
        dsimp only
        rw [if_neg hk, Int.toNat_natCast]
        refine ⟨rfl, turn_file hD hS hg hm hF hT ?_ ?_ ?_⟩
        · rw [List.length_take]; omega
        · rw [List.length_take]; omega
        · exact fun c hc => hD.byte f (get_mem hg) c (List.mem_of_mem_take hc)
      have E0 : ∀ e w', FileT w p (f.data.take j) (min f.safe j) e w' → e = .returned (.tuple #[]) := fun e w' hT => hT.1
      generalize Did Dk S (.pointer (some ⟨q, 0, none⟩)) w (dCut fs n (j : Int)) = T at *
      generalize FileT w p (f.data.take j) (min f.safe j) = F at *
      clear hst hD hF hB
      go_enter Tryd.func24, Tryd.ntmps24
      go_wp2_with fail
      refine hfd.mono ?_
      rintro e w1 ⟨rfl, hw1⟩
      rw [hw1]
      clear hw1 w1 hfd
      go_wp2_with fail
      refine hcut.mono ?_
      intro e w1 hT
      have hE := E e w1 hT
      obtain rfl := E0 e w1 hT
      clear E E0 hT hcut
      go_wp2 <;> first | exact hE | (go_ret; exact hE)

end Go.Proofs.YtoipjmjhplkibaaDoor

