import Derived.Test.YtljfhafmedngnaaGreatDoorP34
/- The program's Sync, Cut and Remove. -/
namespace Go.Proofs.YtljfhafmedngnaaGreatDoor
open Go.RowKit DiskMath
set_option maxRecDepth 100000
set_option linter.unusedSimpArgs false
set_option linter.unusedVariables false

/-- Names that are too long for the form are no files' names: what is told of them. -/
theorem get_long {fs : Files} (h : SoundF fs) {n : ByteArray} (hn : ¬ n.size ≤ maxLen) : get fs n = none := by
  cases hg : get fs n with
  | none => rfl
  | some f =>
    have := (may_size (sound_get h hg).1).2
    exact absurd (Nat.le_trans this (by unfold maxLen; omega)) hn

set_option maxHeartbeats 1000000 in
theorem dsync_of {S : Nat → Prop} {w : World} {d : Value} {fs : Files} (n : ByteArray) (hn : n.size ≤ maxLen) (h : Dk S w d fs) : Calls Tryz.prog 36 #[d, .string n] w (Did Dk S d w (dSync fs n)) := by
  have hst := Leaves.refl h
  obtain ⟨ρ, M, q, m, rfl, hS, hD⟩ := h
  have hfd := find_of n hD hn
  cases hg : get fs n with
  | none =>
    have hm := hD.no n hg
    have E : Did Dk S (.pointer (some ⟨q, 0, none⟩)) w (dSync fs n) (.returned (.int .i64 4)) w := by
      unfold dSync
      rw [hg]
      exact ⟨rfl, hst⟩
    unfold FindT at hfd
    rw [hm] at hfd
    generalize Did Dk S (.pointer (some ⟨q, 0, none⟩)) w (dSync fs n) = T at *
    clear hst hD
    go_enter Tryz.func36, Tryz.ntmps36
    go_wp2_with fail
    refine hfd.mono ?_
    rintro e w1 ⟨rfl, hw1⟩
    rw [hw1]
    clear hw1 w1 hfd
    go_wp2 <;> first | exact E | (go_ret; exact E)
  | some f =>
    obtain ⟨p, v, hm, hF⟩ := hD.yes n f hg
    have hs := sound_get hD.sound hg
    have E : ∀ w', w' = w.setCell ⟨p, 1, none⟩ (.int .i64 (f.data.length : Int)) → Did Dk S (.pointer (some ⟨q, 0, none⟩)) w (dSync fs n) (.returned (.int .i64 0)) w' := by
      rintro w' rfl
      unfold dSync
      rw [hg]
      refine ⟨rfl, turn hD hS hg hm hF f.data f.data.length v (box2_1 hF.block _) (hF.own.same fun k hk => set_block 1 _ ?_) (fun k hk => .inl hk) rfl rfl rfl (Nat.le_of_eq (set_size _ _ _).symm) (fun b _ hb _ => set_block 1 _ hb) hs.2.1 (Nat.le_refl _) (hD.byte f (get_mem hg))⟩
      exact mark_ne (hF.row k hk) hF.mark (by simp)
    letI := keepAll
    have hB : Bs w.heap.size w v f.data := hF.own.bs (Nat.zero_le _)
    obtain ⟨ao, cap, rfl, hc1, hc2, _⟩ := id hB
    have c0 : w.cell? ⟨p, 0, none⟩ = some (.slice ao f.data.length cap) := by rw [cells_of_block hF.block]; rfl
    have c1 : w.cell? ⟨p, 1, none⟩ = some (.int .i64 (f.safe : Int)) := by rw [cells_of_block hF.block]; rfl
    have g1 := frozen_of hF.block 1
    unfold FindT at hfd
    rw [hm] at hfd
    generalize Did Dk S (.pointer (some ⟨q, 0, none⟩)) w (dSync fs n) = T at *
    clear hst hD hF hB
    go_enter Tryz.func36, Tryz.ntmps36
    go_wp2_with fail
    refine hfd.mono ?_
    rintro e w1 ⟨rfl, hw1⟩
    rw [hw1]
    clear hw1 w1 hfd
    go_wp2 <;> first | rfl | exact E _ rfl | (go_ret; exact E _ rfl)

set_option maxHeartbeats 1000000 in
theorem dcut_of {S : Nat → Prop} {w : World} {d : Value} {fs : Files} (n : ByteArray) (k : Int) (hn : n.size ≤ maxLen) (h : Dk S w d fs) : Calls Tryz.prog 79 #[d, .string n, .int .i64 k] w (Did Dk S d w (dCut fs n k)) := by
  have hst := Leaves.refl h
  obtain ⟨ρ, M, q, m, rfl, hS, hD⟩ := h
  have hfd := find_of n hD hn
  cases hg : get fs n with
  | none =>
    have hm := hD.no n hg
    have E : Did Dk S (.pointer (some ⟨q, 0, none⟩)) w (dCut fs n k) (.returned (.int .i64 4)) w := by
      unfold dCut
      rw [hg]
      exact ⟨rfl, hst⟩
    unfold FindT at hfd
    rw [hm] at hfd
    generalize Did Dk S (.pointer (some ⟨q, 0, none⟩)) w (dCut fs n k) = T at *
    clear hst hD
    go_enter Tryz.func79, Tryz.ntmps79
    go_wp2_with fail
    refine hfd.mono ?_
    rintro e w1 ⟨rfl, hw1⟩
    rw [hw1]
    clear hw1 w1 hfd
    go_wp2 <;> first | exact E | (go_ret; exact E)
  | some f =>
    obtain ⟨p, v, hm, hF⟩ := hD.yes n f hg
    have hs := sound_get hD.sound hg
    letI := keepAll
    have hB : Bs w.heap.size w v f.data := hF.own.bs (Nat.zero_le _)
    have hvs : ∃ ao cap, v = .slice ao f.data.length cap := by
      obtain ⟨ao, cap, e, _⟩ := id hB
      exact ⟨ao, cap, e⟩
    obtain ⟨ao, cap, hv⟩ := hvs
    have c0 : w.cell? ⟨p, 0, none⟩ = some (.slice ao f.data.length cap) := by rw [cells_of_block hF.block, hv]; rfl
    unfold FindT at hfd
    rw [hm] at hfd
    by_cases hk : k < 0 ∨ (f.data.length : Int) < k
    · have E : Did Dk S (.pointer (some ⟨q, 0, none⟩)) w (dCut fs n k) (.returned (.int .i64 1)) w := by
        unfold dCut
        rw [hg]
        dsimp only
        rw [if_pos hk]
        exact ⟨rfl, hst⟩
      generalize Did Dk S (.pointer (some ⟨q, 0, none⟩)) w (dCut fs n k) = T at *
      clear hst hD hF hB
      by_cases hk0 : k < 0
      · clear hk
        go_enter Tryz.func79, Tryz.ntmps79
        go_wp2_with fail
        refine hfd.mono ?_
        rintro e w1 ⟨rfl, hw1⟩
        rw [hw1]
        clear hw1 w1 hfd
        go_wp2 <;> first | exact E | (go_ret; exact E)
      · have hk1 : (f.data.length : Int) < k := by omega
        clear hk
        go_enter Tryz.func79, Tryz.ntmps79
        go_wp2_with fail
        refine hfd.mono ?_
        rintro e w1 ⟨rfl, hw1⟩
        rw [hw1]
        clear hw1 w1 hfd
        go_wp2 <;> first | exact E | (go_ret; exact E)
    · obtain ⟨j, rfl⟩ : ∃ j : Nat, k = (j : Int) := ⟨k.toNat, by omega⟩
      have hj : j ≤ f.data.length := by omega
      have hk0 : ¬ (j : Int) < 0 := by omega
      have hk1 : ¬ (f.data.length : Int) < (j : Int) := by omega
      have hcut := fcut_of j hF.block hF.own hj hs.2.1
      have E : ∀ e w', FileT w p (f.data.take j) (min f.safe j) e w' → Did Dk S (.pointer (some ⟨q, 0, none⟩)) w (dCut fs n (j : Int)) (.returned (.int .i64 0)) w' := by
        intro e w' hT
        unfold dCut
        rw [hg]
        dsimp only
        rw [if_neg hk, Int.toNat_natCast]
        refine ⟨rfl, turn_file hD hS hg hm hF hT ?_ ?_ ?_⟩
        · rw [List.length_take]; omega
        · rw [List.length_take]; omega
        · exact fun c hc => hD.byte f (get_mem hg) c (List.mem_of_mem_take hc)
      have E0 : ∀ e w', FileT w p (f.data.take j) (min f.safe j) e w' → e = .returned (.tuple #[]) := fun e w' hT => hT.1
      generalize Did Dk S (.pointer (some ⟨q, 0, none⟩)) w (dCut fs n (j : Int)) = T at *
      generalize FileT w p (f.data.take j) (min f.safe j) = F at *
      clear hst hD hF hB
      go_enter Tryz.func79, Tryz.ntmps79
      go_wp2_with fail
      refine hfd.mono ?_
      rintro e w1 ⟨rfl, hw1⟩
      rw [hw1]
      clear hw1 w1 hfd
      go_wp2_with fail
      refine hcut.mono ?_
      intro e w1 hT
      have hE := E e w1 hT
      obtain rfl := E0 e w1 hT
      clear E E0 hT hcut
      go_wp2 <;> first | exact hE | (go_ret; exact hE)

set_option maxHeartbeats 1000000 in
theorem dremove_of {S : Nat → Prop} {w : World} {d : Value} {fs : Files} (n : ByteArray) (hn : n.size ≤ maxLen) (h : Dk S w d fs) : Calls Tryz.prog 46 #[d, .string n] w (Did Dk S d w (dRemove fs n)) := by
  have hst := Leaves.refl h
  obtain ⟨ρ, M, q, m, rfl, hS, hD⟩ := h
  have hfd := find_of n hD hn
  cases hg : get fs n with
  | none =>
    have hm := hD.no n hg
    have E : Did Dk S (.pointer (some ⟨q, 0, none⟩)) w (dRemove fs n) (.returned (.int .i64 4)) w := by
      unfold dRemove
      rw [hg]
      exact ⟨rfl, hst⟩
    unfold FindT at hfd
    rw [hm] at hfd
    generalize Did Dk S (.pointer (some ⟨q, 0, none⟩)) w (dRemove fs n) = T at *
    clear hst hD
    go_enter Tryz.func46, Tryz.ntmps46
    go_wp2_with fail
    refine hfd.mono ?_
    rintro e w1 ⟨rfl, hw1⟩
    rw [hw1]
    clear hw1 w1 hfd
    go_wp2 <;> first | exact E | (go_ret; exact E)
  | some f =>
    obtain ⟨p, v, hm, hF⟩ := hD.yes n f hg
    have E : ∀ w', Mp w' m (upd M n none) (fs.length - 1) → w.grownBy w' (some m) → Did Dk S (.pointer (some ⟨q, 0, none⟩)) w (dRemove fs n) (.returned (.int .i64 0)) w' := by
      intro w' hM' hgr
      unfold dRemove
      rw [hg]
      have hin : ∀ b, (ρ b).1 ≠ 0 → b ≠ m → w'.heap[b]? = w.heap[b]? := fun b hb hne => hgr.block b (hD.lt b hb) (fun e => hne (Option.some.inj e))
      refine ⟨rfl, S, ⟨ρ, _, q, m, rfl, hS, hD.out n hg hgr.size hin hM' (fun k => rfl)⟩, fun _ hb => .inl hb, hgr.os, hgr.tape, hgr.output, hgr.size, fun k hk hns => hgr.block k hk (fun e => hns ?_)⟩
      rw [hS, Option.some.inj e, hD.markm]
      simp
    have hc := hD.cell
    have hM := hD.map
    have hmt := Tryz.underlying60
    unfold FindT at hfd
    rw [hm] at hfd
    generalize Did Dk S (.pointer (some ⟨q, 0, none⟩)) w (dRemove fs n) = T at *
    clear hst hD hF
    generalize fs.length = c at *
    go_enter Tryz.func46, Tryz.ntmps46
    go_wp2_with fail
    refine hfd.mono ?_
    rintro e w1 ⟨rfl, hw1⟩
    rw [hw1]
    clear hw1 w1 hfd
    go_wp2_with (refine wp_mp_del rfl _ _ _ _ rfl hmt m c M hM rfl n rfl hn ?_)
    intro w2 hM2 hg2
    have hE := E w2 hM2 hg2
    clear E hM hM2
    go_wp2 <;> first | exact hE | (go_ret; exact hE)
end Go.Proofs.YtljfhafmedngnaaGreatDoor

