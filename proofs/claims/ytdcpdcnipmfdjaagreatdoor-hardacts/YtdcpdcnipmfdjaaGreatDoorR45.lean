import Derived.Test.YtdcpdcnipmfdjaaGreatDoorR44
/- The program's Sync, Cut and Remove. -/
namespace Go.Proofs.YtdcpdcnipmfdjaaGreatDoor
open Go.RowKit DiskMath
set_option maxRecDepth 100000
set_option linter.unusedSimpArgs false
set_option linter.unusedVariables false

/-- Names that are too long for the form are no files' names: what is told of them. -/
theorem get_long {fs : Files} (h : SoundF fs) {n : ByteArray} (hn : ¬ n.size ≤ maxLen) : get fs n = none := by
  cases hg : get fs n with
  | none => rfl
  | some f =>
    have := (may_size (sound_get h hg).1).2
    exact absurd (Nat.le_trans this (by unfold maxLen; omega)) hn

set_option maxHeartbeats 1000000 in
theorem dsync_of {S : Nat → Prop} {w : World} {d : Value} {fs : Files} (n : ByteArray) (hn : n.size ≤ maxLen) (h : Dk S w d fs) : Calls Tryz.prog 41 #[d, .string n] w (Did Dk S d w (dSync fs n)) := by
  have hst := Leaves.refl h
  obtain ⟨ρ, M, q, m, rfl, hS, hD⟩ := h
  have hfd := find_of n hD hn
  cases hg : get fs n with
  | none =>
    have hm := hD.no n hg
    have E : Did Dk S (.pointer (some ⟨q, 0, none⟩)) w (dSync fs n) (.returned (.int .i64 4)) w := by
      unfold dSync
      rw [hg]
      exact ⟨rfl, hst⟩
    unfold FindT at hfd
    rw [hm] at hfd
    generalize Did Dk S (.pointer (some ⟨q, 0, none⟩)) w (dSync fs n) = T at *
    clear hst hD
    go_enter Tryz.func41, Tryz.ntmps41
    go_wp2_with fail
    refine hfd.mono ?_
    rintro e w1 ⟨rfl, hw1⟩
    rw [hw1]
    clear hw1 w1 hfd
    go_wp2 <;> first | exact E | (go_ret; exact E)
  | some f =>
    obtain ⟨p, v, hm, hF⟩ := hD.yes n f hg
    have hs := sound_get hD.sound hg
    have E : ∀ w', w' = w.setCell ⟨p, 1, none⟩ (.int .i64 (f.data.length : Int)) → Did Dk S (.pointer (some ⟨q, 0, none⟩)) w (dSync fs n) (.returned (.int .i64 0)) w' := by
      rintro w' rfl
      unfold dSync
      rw [hg]
      refine ⟨rfl, turn hD hS hg hm hF f.data f.data.length v (box2_1 hF.block _) (hF.own.same fun k hk => set_block 1 _ ?_) (fun k hk => .inl hk) rfl rfl rfl (Nat.le_of_eq (set_size _ _ _).symm) (fun b _ hb _ => set_block 1 _ hb) hs.2.1 (Nat.le_refl _) (hD.byte f (get_mem hg))⟩
      exact mark_ne (hF.row k hk) hF.mark (by simp)
    letI := keepAll
    have hB : Bs w.heap.size w v f.data := hF.own.bs (Nat.zero_le _)
    obtain ⟨ao, cap, rfl, hc1, hc2, _⟩ := id hB
    have c0 : w.cell? ⟨p, 0, none⟩ = some (.slice ao f.data.length cap) := by rw [cells_of_block hF.block]; rfl
    have c1 : w.cell? ⟨p, 1, none⟩ = some (.int .i64 (f.safe : Int)) := by rw [cells_of_block hF.block]; rfl
    have g1 := frozen_of hF.block 1
    unfold FindT at hfd
    rw [hm] at hfd
    generalize Did Dk S (.pointer (some ⟨q, 0, none⟩)) w (dSync fs n) = T at *
    clear hst hD hF hB
    go_enter Tryz.func41, Tryz.ntmps41
    go_wp2_with fail
    refine hfd.mono ?_
    rintro e w1 ⟨rfl, hw1⟩
    rw [hw1]
    clear hw1 w1 hfd
    go_wp2 <;> first | rfl | exact E _ rfl | (go_ret; exact E _ rfl)

set_option maxHeartbeats 1000000 in
theorem dcut_of {S : Nat → Prop} {w : World} {d : Value} {fs : Files} (n : ByteArray) (k : Int) (hn : n.size ≤ maxLen) (h : Dk S w d fs) : Calls Tryz.prog 89 #[d, .string n, .int .i64 k] w (Did Dk S d w (dCut fs n k)) := by
  have hst := Leaves.refl h
  obtain ⟨ρ, M, q, m, rfl, hS, hD⟩ := h
  have hfd := find_of n hD hn
  cases hg : get fs n with
  | none =>
    have hm := hD.no n hg
    have E : Did Dk S (.pointer (some ⟨q, 0, none⟩)) w (dCut fs n k) (.returned (.int .i64 4)) w := by
      unfold dCut
      rw [hg]
      exact ⟨rfl, hst⟩
    unfold FindT at hfd
    rw [hm] at hfd
    generalize Did Dk S (.pointer (some ⟨q, 0, none⟩)) w (dCut fs n k) = T at *
    clear hst hD
    go_enter Tryz.func89, Tryz.ntmps89
    go_wp2_with fail
    refine hfd.mono ?_
    rintro e w1 ⟨rfl, hw1⟩
    rw [hw1]
    clear hw1 w1 hfd
    go_wp2 <;> first | exact E | (go_ret; exact E)
  | some f =>
    obtain ⟨p, v, hm, hF⟩ := hD.yes n f hg
    have hs := sound_get hD.sound hg
    letI := keepAll
    have hB : Bs w.heap.size w v f.data := hF.own.bs (Nat.zero_le _)
    have hvs : ∃ ao cap, v = .slice ao f.data.length cap := by
      obtain ⟨ao, cap, e, _⟩ := id hB
      exact ⟨ao, cap, e⟩
    obtain ⟨ao, cap, hv⟩ := hvs
    have c0 : w.cell? ⟨p, 0, none⟩ = some (.slice ao f.data.length cap) := by rw [cells_of_block hF.block, hv]; rfl
    unfold FindT at hfd
    rw [hm] at hfd
    by_cases hk : k < 0 ∨ (f.data.length : Int) < k
    · have E : Did Dk S (.pointer (some ⟨q, 0, none⟩)) w (dCut fs n k) (.returned (.int .i64 1)) w := by
        unfold dCut
        rw [hg]
        dsimp only
        rw [if_pos hk]
        exact ⟨rfl, hst⟩
      generalize Did Dk S (.pointer (some ⟨q, 0, none⟩)) w (dCut fs n k) = T at *
      clear hst hD hF hB
      by_cases hk0 : k < 0
      · clear hk
        go_enter Tryz.func89, Tryz.ntmps89
        go_wp2_with fail
        refine hfd.mono ?_
        rintro e w1 ⟨rfl, hw1⟩
        rw [hw1]
        clear hw1 w1 hfd
        go_wp2 <;> first | exact E | (go_ret; exact E)
      · have hk1 : (f.data.length : Int) < k := by omega
        clear hk
        go_enter Tryz.func89, Tryz.ntmps89
        go_wp2_with fail
        refine hfd.mono ?_
        rintro e w1 ⟨rfl, hw1⟩
        rw [hw1]
        clear hw1 w1 hfd
        go_wp2 <;> first | exact E | (go_ret; exact E)
    · obtain ⟨j, rfl⟩ : ∃ j : Nat, k = (j : Int) := ⟨k.toNat, by omega⟩
      have hj : j ≤ f.data.length := by omega
      have hk0 : ¬ (j : Int) < 0 := by omega
      have hk1 : ¬ (f.data.length : Int) < (j : Int) := by omega
      have hcut := fcut_of j hF.block hF.own hj hs.2.1
      have E : ∀ e w', FileT w p (f.data.take j) (min f.safe j) e w' → Did Dk S (.pointer (some ⟨q, 0, none⟩)) w (dCut fs n (j : Int)) (.returned (.int .i64 0)) w' := by
        intro e w' hT
        unfold dCut
        rw [hg]
        dsimp only
        rw [if_neg hk, Int.toNat_natCast]
        refine ⟨rfl, turn_file hD hS hg hm hF hT ?_ ?_ ?_⟩
        · rw [List.length_take]; omega
        · rw [List.length_take]; omega
        · exact fun c hc => hD.byte f (get_mem hg) c (List.mem_of_mem_take hc)
      have E0 : ∀ e w', FileT w p (f.data.take j) (min f.safe j) e w' → e = .returned (.tuple #[]) := fun e w' hT => hT.1
      generalize Did Dk S (.pointer (some ⟨q, 0, none⟩)) w (dCut fs n (j : Int)) = T at *
      generalize FileT w p (f.data.take j) (min f.safe j) = F at *
      clear hst hD hF hB
      go_enter Tryz.func89, Tryz.ntmps89
      go_wp2_with fail
      refine hfd.mono ?_
      rintro e w1 ⟨rfl, hw1⟩
      rw [hw1]
      clear hw1 w1 hfd
      go_wp2_with fail
      refine hcut.mono ?_
      intro e w1 hT
      have hE := E e w1 hT
      obtain rfl := E0 e w1 hT
      clear E E0 hT hcut
      go_wp2 <;> first | exact hE | (go_ret; exact hE)

set_option maxHeartbeats 1000000 in
theorem dremove_of {S : Nat → Prop} {w : World} {d : Value} {fs : Files} (n : ByteArray) (hn : n.size ≤ maxLen) (h : Dk S w d fs) : Calls Tryz.prog 51 #[d, .string n] w (Did Dk S d w (dRemove fs n)) := by
  have hst := Leaves.refl h
  obtain ⟨ρ, M, q, m, rfl, hS, hD⟩ := h
  have hfd := find_of n hD hn
  cases hg : get fs n with
  | none =>
    have hm := hD.no n hg
    have E : Did Dk S (.pointer (some ⟨q, 0, none⟩)) w (dRemove fs n) (.returned (.int .i64 4)) w := by
      unfold dRemove
      rw [hg]
      exact ⟨rfl, hst⟩
    unfold FindT at hfd
    rw [hm] at hfd
    generalize Did Dk S (.pointer (some ⟨q, 0, none⟩)) w (dRemove fs n) = T at *
    clear hst hD
    go_enter Tryz.func51, Tryz.ntmps51
    go_wp2_with fail
    refine hfd.mono ?_
    rintro e w1 ⟨rfl, hw1⟩
    rw [hw1]
    clear hw1 w1 hfd
    go_wp2 <;> first | exact E | (go_ret; exact E)
  | some f =>
    obtain ⟨p, v, hm, hF⟩ := hD.yes n f hg
    have E : ∀ w', Mp w' m (upd M n none) (fs.length - 1) → w.grownBy w' (some m) → Did Dk S (.pointer (some ⟨q, 0, none⟩)) w (dRemove fs n) (.returned (.int .i64 0)) w' := by
      intro w' hM' hgr
      unfold dRemove
      rw [hg]
      have hin : ∀ b, (ρ b).1 ≠ 0 → b ≠ m → w'.heap[b]? = w.heap[b]? := fun b hb hne => hgr.block b (hD.lt b hb) (fun e => hne (Option.some.inj e))
      refine ⟨rfl, S, ⟨ρ, _, q, m, rfl, hS, hD.out n hg hgr.size hin hM' (fun k => rfl)⟩, fun _ hb => .inl hb, hgr.os, hgr.tape, hgr.output, hgr.size, fun k hk hns => hgr.block k hk (fun e => hns ?_)⟩
      rw [hS, Option.some.inj e, hD.markm]
      simp
    have hc := hD.cell
    have hM := hD.map
    have hmt := Tryz.underlying73
    unfold FindT at hfd
    rw [hm] at hfd
    generalize Did Dk S (.pointer (some ⟨q, 0, none⟩)) w (dRemove fs n) = T at *
    clear hst hD hF
    generalize fs.length = c at *
    go_enter Tryz.func51, Tryz.ntmps51
    go_wp2_with fail
    refine hfd.mono ?_
    rintro e w1 ⟨rfl, hw1⟩
    rw [hw1]
    clear hw1 w1 hfd
    go_wp2_with (refine wp_mp_del rfl _ _ _ _ rfl hmt m c M hM rfl n rfl hn ?_)
    intro w2 hM2 hg2
    have hE := E w2 hM2 hg2
    clear E hM hM2
    go_wp2 <;> first | exact hE | (go_ret; exact hE)
end Go.Proofs.YtdcpdcnipmfdjaaGreatDoor

/- The program's Rename. -/
namespace Go.Proofs.YtdcpdcnipmfdjaaGreatDoor
open Go.RowKit DiskMath
set_option maxRecDepth 100000
set_option linter.unusedSimpArgs false
set_option linter.unusedVariables false

/-- The marks, a file's own two blocks under its new name. -/
def nameMark (ρ : Mark) (p : Nat) (v : Value) (t : ByteArray) : Mark := fun b => if b = p then (3, t) else if v.ownBlock = some b then (4, t) else ρ b

/-- A file that was named otherwise. -/
theorem renamed {S : Nat → Prop} {ρ : Mark} {M : ByteArray → Option Value} {w w' : World} {q m : Nat} {fs : Files} (h : DiskAt ρ M w q m fs) (hS : ∀ b, S b ↔ (ρ b).1 ≠ 0) {n t : ByteArray} {f : File} {p : Nat} {v : Value} (hf : get fs n = some f) (hF : FileAt w ρ n f p v) (ht : mayName t = true)
    {M1 : ByteArray → Option Value} (hM1 : ∀ k, M1 k = if k = n then none else M k) (hM' : Mp w' m (upd M1 t (some (.pointer (some ⟨p, 0, none⟩)))) (if M1 t = none then fs.length - 1 + 1 else fs.length - 1)) (hgr : w.grownBy w' (some m)) :
    Leaves S w (.pointer (some ⟨q, 0, none⟩)) (putF (DiskMath.out fs n) ⟨t, f.data, f.safe⟩) w' := by
  have hg := sound_get h.sound hf
  have hpt : (ρ p).1 ≠ 0 := by rw [hF.mark]; simp
  have hvt : ∀ k, v.ownBlock = some k → (ρ k).1 ≠ 0 := fun k hk => by rw [hF.row k hk]; simp
  have hin : ∀ b, (ρ b).1 ≠ 0 → b ≠ m → w'.heap[b]? = w.heap[b]? := fun b hb hne => hgr.block b (h.lt b hb) (fun e => hne (Option.some.inj e))
  have hpm : p ≠ m := mark_ne hF.mark h.markm (by simp)
  have hvm : ∀ k, v.ownBlock = some k → k ≠ m := fun k hk => mark_ne (hF.row k hk) h.markm (by simp)
  have hvp : ∀ k, v.ownBlock = some k → k ≠ p := fun k hk => mark_ne (hF.row k hk) hF.mark (by simp)
  have hsame : ∀ b, (nameMark ρ p v t b).1 ≠ 0 ↔ (ρ b).1 ≠ 0 := by
    intro b
    unfold nameMark
    split
    · rename_i e
      rw [e]
      exact ⟨fun _ => hpt, fun _ => by simp⟩
    · split
      · rename_i e
        exact ⟨fun _ => hvt b e, fun _ => by simp⟩
      · exact Iff.rfl
  have hoth : ∀ b, b ≠ p → v.ownBlock ≠ some b → nameMark ρ p v t b = ρ b := fun b h1 h2 => by
    unfold nameMark
    rw [if_neg h1, if_neg h2]
  have hgo : ∀ k, get (DiskMath.out fs n) k = if k = n then none else get fs k := fun k => out_get n k fs
  have hR := out_rises (n := n) h.sound.1
  have hgp : ∀ k, get (putF (DiskMath.out fs n) ⟨t, f.data, f.safe⟩) k = if t = k then some ⟨t, f.data, f.safe⟩ else get (DiskMath.out fs n) k := fun k => put_get k hR
  have hnn : ∀ k, M1 k = none ↔ get (DiskMath.out fs n) k = none := by
    intro k
    rw [hM1, hgo]
    by_cases e : k = n
    · rw [if_pos e, if_pos e]
      exact ⟨fun _ => rfl, fun _ => rfl⟩
    · rw [if_neg e, if_neg e]
      constructor
      · intro hk
        cases hgk : get fs k with
        | none => rfl
        | some g =>
          obtain ⟨p', v', h1, _⟩ := h.yes k g hgk
          rw [h1] at hk
          cases hk
      · exact h.no k
  refine ⟨S, ⟨nameMark ρ p v t, upd M1 t (some (.pointer (some ⟨p, 0, none⟩))), q, m, rfl, fun b => (hS b).trans (hsame b).symm, ?_⟩, fun _ hb => .inl hb, hgr.os, hgr.tape, hgr.output, hgr.size, fun k hk hns => hgr.block k hk (fun e => hns ?_)⟩
  · refine ⟨(hin q (by rw [h.markq]; decide) h.qm).trans h.block, ?_, ?_, ?_, fun b hb => Nat.lt_of_lt_of_le (h.lt b ((hsame b).1 hb)) hgr.size, ?_, ?_, ?_, ?_⟩
    · have e1 : (putF (DiskMath.out fs n) ⟨t, f.data, f.safe⟩).length = if get (DiskMath.out fs n) t = none then (DiskMath.out fs n).length + 1 else (DiskMath.out fs n).length := put_length hR
      have e2 : (DiskMath.out fs n).length = fs.length - 1 := out_len h.sound.1 hf
      rw [e1, e2]
      simp only [hnn t] at hM'
      exact hM'
    · rw [hoth q (mark_ne h.markq hF.mark (by simp)) (fun e => mark_ne (hF.row q e) h.markq (by simp) rfl)]
      exact h.markq
    · rw [hoth m hpm.symm (fun e => hvm m e rfl)]
      exact h.markm
    · have := sound_rename h.sound n t
      unfold dRename at this
      rw [hf] at this
      dsimp only at this
      rw [if_neg (by rw [ht]; simp)] at this
      exact this
    · intro g hg' c hc
      rcases put_mem hg' with rfl | hg'
      · exact h.byte f (get_mem hf) c hc
      · exact h.byte g (List.mem_filter.1 hg'.1).1 c hc
    · intro k hk
      rw [hgp] at hk
      by_cases e : t = k
      · rw [if_pos e] at hk; cases hk
      · rw [if_neg e] at hk
        unfold upd
        rw [if_neg (fun e' => e e'.symm)]
        exact (hnn k).2 hk
    · intro k g hk
      rw [hgp] at hk
      by_cases e : t = k
      · rw [if_pos e] at hk
        cases hk
        subst e
        refine ⟨p, v, by unfold upd; rw [if_pos rfl], ⟨(hin p hpt hpm).trans hF.block, hF.own.same fun j hj => hin j (hvt j hj) (hvm j hj), ?_, ?_⟩⟩
        · unfold nameMark; rw [if_pos rfl]
        · intro j hj
          unfold nameMark
          rw [if_neg (hvp j hj), if_pos hj]
      · rw [if_neg e, hgo] at hk
        by_cases e2 : k = n
        · rw [if_pos e2] at hk; cases hk
        · rw [if_neg e2] at hk
          obtain ⟨p', v', h1, h2⟩ := h.yes k g hk
          refine ⟨p', v', ?_, h2.same fun b hb => ?_⟩
          · unfold upd
            rw [if_neg (fun e' => e e'.symm), hM1, if_neg e2]
            exact h1
          · have ht' : (ρ b).1 ≠ 0 := by rcases hb with hb | hb <;> (rw [hb]; simp)
            have hn' : (ρ b).2 = k := by rcases hb with hb | hb <;> rw [hb]
            refine ⟨hin b ht' (fun e' => ?_), hoth b (fun e' => ?_) (fun e' => ?_)⟩
            · rw [e', h.markm] at hb
              rcases hb with hb | hb <;> (injection hb with hb; cases hb)
            · rw [e', hF.mark] at hn'
              exact e2 hn'.symm
            · rw [hF.row b e'] at hn'
              exact e2 hn'.symm
  · rw [hS, Option.some.inj e, h.markm]
    simp

set_option maxHeartbeats 1000000 in
theorem drename_of {S : Nat → Prop} {w : World} {d : Value} {fs : Files} (n t : ByteArray) (hn : n.size ≤ maxLen) (h : Dk S w d fs) : Calls Tryz.prog 90 #[d, .string n, .string t] w (Did Dk S d w (dRename fs n t)) := by
  have hst := Leaves.refl h
  obtain ⟨ρ, M, q, m, rfl, hS, hD⟩ := h
  have hfd := find_of n hD hn
  have hnm := nameMay_of t w
  cases hg : get fs n with
  | none =>
    have hm := hD.no n hg
    have E : Hid (Did Dk S (.pointer (some ⟨q, 0, none⟩)) w (dRename fs n t) (.returned (.int .i64 4)) w) := by
      unfold Hid dRename
      rw [hg]
      exact ⟨rfl, hst⟩
    unfold FindT at hfd
    rw [hm] at hfd
    generalize Did Dk S (.pointer (some ⟨q, 0, none⟩)) w (dRename fs n t) = T at *
    clear hst hD
    go_enter Tryz.func90, Tryz.ntmps90
    go_wp2_with fail
    refine hfd.mono ?_
    rintro e w1 ⟨rfl, hw1⟩
    rw [hw1]
    clear hw1 w1 hfd
    go_wp2 <;> first | exact E.out | (go_ret; exact E.out)
  | some f =>
    obtain ⟨p, v, hm, hF⟩ := hD.yes n f hg
    unfold FindT at hfd
    rw [hm] at hfd
    cases htm : mayName t with
    | false =>
      have E : Hid (Did Dk S (.pointer (some ⟨q, 0, none⟩)) w (dRename fs n t) (.returned (.int .i64 1)) w) := by
        unfold Hid dRename
        rw [hg]
        dsimp only
        rw [if_pos htm]
        exact ⟨rfl, hst⟩
      rw [htm] at hnm
      generalize Did Dk S (.pointer (some ⟨q, 0, none⟩)) w (dRename fs n t) = T at *
      clear hst hD hF
      go_enter Tryz.func90, Tryz.ntmps90
      go_wp2_with fail
      refine hfd.mono ?_
      rintro e w1 ⟨rfl, hw1⟩
      rw [hw1]
      clear hw1 w1 hfd
      go_wp2_with fail
      refine hnm.mono ?_
      rintro e w1 ⟨rfl, hw1⟩
      rw [hw1]
      clear hw1 w1 hnm
      go_wp2 <;> first | exact E.out | (go_ret; exact E.out)
    | true =>
      rw [htm] at hnm
      have hl := hD.sound.2.1
      have hts := (may_size htm).2
      have hqm := hD.qm
      have hc := hD.cell
      have hM := hD.map
      have hmt := Tryz.underlying73
      have E : ∀ w2 w3 e, Mp w2 m (upd M n none) (fs.length - 1) → w.grownBy w2 (some m) → KeepT w2 m (fs.length - 1) (upd M n none) t (.pointer (some ⟨p, 0, none⟩)) e w3 → e = .returned (.tuple #[]) ∧ Hid (Did Dk S (.pointer (some ⟨q, 0, none⟩)) w (dRename fs n t) (.returned (.int .i64 0)) w3) := by
        rintro w2 w3 e hM2 hg2 ⟨rfl, hM3, hg3⟩
        refine ⟨rfl, ?_⟩
        unfold Hid dRename
        rw [hg]
        dsimp only
        rw [if_neg (by rw [htm]; simp)]
        refine ⟨rfl, renamed hD hS hg hF htm (fun k => rfl) hM3 ⟨hg3.os.trans hg2.os, hg3.tape.trans hg2.tape, hg3.output.trans hg2.output, Nat.le_trans hg2.size hg3.size, fun i hi hne => (hg3.block i (Nat.lt_of_lt_of_le hi hg2.size) hne).trans (hg2.block i hi hne)⟩⟩
      have hkp : ∀ w2, Mp w2 m (upd M n none) (fs.length - 1) → w.grownBy w2 (some m) → w2.cell? ⟨q, 0, none⟩ = some (.map (some m)) ∧ Calls Tryz.prog 83 #[.pointer (some ⟨q, 0, none⟩), .string t, .pointer (some ⟨p, 0, none⟩)] w2 (KeepT w2 m (fs.length - 1) (upd M n none) t (.pointer (some ⟨p, 0, none⟩))) := fun w2 hM2 hg2 => by
        have hc2 := hg2.cell (a := ⟨q, 0, none⟩) hc (fun e => hqm (Option.some.inj e))
        exact ⟨hc2, keep_of t _ hc2 hM2 (by unfold maxLen; omega) (by omega)⟩
      generalize Did Dk S (.pointer (some ⟨q, 0, none⟩)) w (dRename fs n t) = T at *
      clear hst hD hF
      generalize hKT : KeepT = KT at *
      generalize fs.length = c at *
      go_enter Tryz.func90, Tryz.ntmps90
      go_wp2_with fail
      refine hfd.mono ?_
      rintro e w1 ⟨rfl, hw1⟩
      rw [hw1]
      clear hw1 w1 hfd
      go_wp2_with fail
      refine hnm.mono ?_
      rintro e w1 ⟨rfl, hw1⟩
      rw [hw1]
      clear hw1 w1 hnm
      go_wp2_with (first | refine wp_mp_del rfl _ _ _ _ rfl hmt m c M hM rfl n rfl hn ?_ | fail)
      intro w2 hM2 hg2
      obtain ⟨hc2, hk2⟩ := hkp w2 hM2 hg2
      clear hkp hM
      go_wp2_with fail
      refine hk2.mono ?_
      intro e w3 hT
      obtain ⟨rfl, hE⟩ := E w2 w3 e hM2 hg2 hT
      clear E hk2 hT hM2
      go_wp2 <;> first | exact hE.out | (go_ret; exact hE.out)
end Go.Proofs.YtdcpdcnipmfdjaaGreatDoor

