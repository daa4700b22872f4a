import Derived.Test.YtdcpdcnipmfdjaaGreatDoorR45
/- The program's Append. -/
namespace Go.Proofs.YtdcpdcnipmfdjaaGreatDoor
open Go.RowKit DiskMath
set_option maxRecDepth 100000
set_option linter.unusedSimpArgs false
set_option linter.unusedVariables false

/-- The marks, with a new file. -/
def fileMark (ρ : Mark) (p s : Nat) (v : Value) (n : ByteArray) : Mark := fun b => if b = p then (3, n) else if s ≤ b ∧ v.ownBlock = some b then (4, n) else ρ b

/-- A disk with one file more. -/
theorem made {S : Nat → Prop} {ρ : Mark} {M : ByteArray → Option Value} {w w' : World} {q m : Nat} {fs : Files} (h : DiskAt ρ M w q m fs) (hS : ∀ b, S b ↔ (ρ b).1 ≠ 0) {n : ByteArray} {p : Nat} {v : Value} {data : List Nat} {safe : Nat} (hf : get fs n = none) (hp : w'.heap[p]? = some (.cells #[v, .int .i64 (safe : Int)] 141 (0, 0))) (hO : Own 0 w' v data) (hrow : ∀ k, v.ownBlock = some k → w.heap.size ≤ k ∧ k ≠ p) (hpn : w.heap.size ≤ p)
    (hM' : Mp w' m (upd M n (some (.pointer (some ⟨p, 0, none⟩)))) (fs.length + 1)) (hos : w'.os = w.os) (htape : w'.tape = w.tape) (hout : w'.output = w.output) (hsz : w.heap.size ≤ w'.heap.size) (hblk : ∀ b, b < w.heap.size → b ≠ m → w'.heap[b]? = w.heap[b]?)
    (hn : mayName n = true) (hl : fs.length < 64) (hlen : data.length ≤ 65536) (hsafe : safe ≤ data.length) (hby : ∀ c ∈ data, c < 256) : Leaves S w (.pointer (some ⟨q, 0, none⟩)) (putF fs ⟨n, data, safe⟩) w' := by
  have hold : ∀ b, (ρ b).1 ≠ 0 → fileMark ρ p w.heap.size v n b = ρ b := fun b hb => by
    have := h.lt b hb
    unfold fileMark
    rw [if_neg (by omega), if_neg (fun h' => by omega)]
  refine ⟨fun b => (fileMark ρ p w.heap.size v n b).1 ≠ 0, ⟨fileMark ρ p w.heap.size v n, upd M n (some (.pointer (some ⟨p, 0, none⟩))), q, m, rfl, fun b => Iff.rfl, ?_⟩, ?_, ?_⟩
  · refine h.put ⟨n, data, safe⟩ p v hsz (fun b hb _ hne => hblk b (h.lt b hb) hne) (hblk q (h.lt q (by rw [h.markq]; decide)) h.qm) ?_ (fun k => rfl) hold ?_ ⟨hp, hO, ?_, ?_⟩ (sound_put h.sound hn hlen hsafe (fun _ => hl)) hby
    · show Mp w' m _ (if get fs n = none then _ else _)
      rw [if_pos hf]
      exact hM'
    · intro b hb
      unfold fileMark at hb
      split at hb
      · rename_i e
        rw [e]
        exact (Array.getElem?_eq_some_iff.1 hp).1
      · split at hb
        · rename_i hh
          exact (World.ownsRow.lt hO b hh.2).2
        · exact Nat.lt_of_lt_of_le (h.lt b hb) hsz
    · unfold fileMark; rw [if_pos rfl]
    · intro k hk
      unfold fileMark
      rw [if_neg (hrow k hk).2, if_pos ⟨(hrow k hk).1, hk⟩]
  · intro b hb
    unfold fileMark at hb
    split at hb
    · rename_i e
      exact .inr (by omega)
    · split at hb
      · rename_i hh
        exact .inr hh.1
      · exact .inl ((hS b).2 hb)
  · exact ⟨hos, htape, hout, hsz, fun k hk hns => hblk k hk (fun e => hns ((hS k).2 (by rw [e, h.markm]; decide)))⟩

theorem run_mp_len {w : World} {m c : Nat} {M : ByteArray → Option Value} (hM : Mp w m M c) : (Builtin.len_ #[73] 3 #[.map (some m)]).run Tryz.prog w = .ok (.int .i64 (c : Int)) w := by
  obtain ⟨D, h1, h2, _⟩ := hM
  rw [h1.len Tryz.underlying73, h2]

theorem Leaves.below {S : Nat → Prop} {w w' : World} {d : Value} {fs : Files} (h : Dk S w d fs) (hb : Below w.heap.size w w') : Leaves S w d fs w' := by
  obtain ⟨ρ, M, q, m, rfl, hS, hD⟩ := h
  exact ⟨S, ⟨ρ, M, q, m, rfl, hS, hD.below hb⟩, fun _ hb => .inl hb, Below.kept hb⟩

set_option maxHeartbeats 2000000 in
theorem dappend_of {S : Nat → Prop} {w : World} {d : Value} {fs : Files} (n : ByteArray) (bv : Value) (bl : List Nat) (h : Dk S w d fs) (hB : @Bs keepAll w.heap.size w bv bl) (hby : ∀ c ∈ bl, c < 256) (hbm : bl.length ≤ 140737488355328) : Calls Tryz.prog 61 #[d, .string n, bv] w (Did Dk S d w (dAppend fs n bl)) := by
  letI := keepAll
  have hst := Leaves.refl h
  have hstB := fun w' hb => Leaves.below (w' := w') h hb
  obtain ⟨ρ, M, q, m, rfl, hS, hD⟩ := h
  have hgv := given_of hD
  have hnm := nameMay_of n w
  have hvs : ∃ ab cb, bv = .slice ab bl.length cb := by
    obtain ⟨ab, cb, e, _⟩ := id hB
    exact ⟨ab, cb, e⟩
  obtain ⟨ab, cb, rfl⟩ := hvs
  cases hnt : mayName n with
  | false =>
    have E : Hid (Did Dk S (.pointer (some ⟨q, 0, none⟩)) w (dAppend fs n bl) (.returned (.int .i64 1)) w) := by
      unfold Hid dAppend
      rw [if_pos hnt]
      exact ⟨rfl, hst⟩
    rw [hnt] at hnm
    generalize Did Dk S (.pointer (some ⟨q, 0, none⟩)) w (dAppend fs n bl) = T at *
    clear hst hD hstB hB
    go_enter Tryz.func61, Tryz.ntmps61
    go_wp2_with fail
    refine hgv.mono ?_
    rintro e w1 ⟨rfl, hw1⟩
    rw [hw1]
    clear hw1 w1 hgv
    go_wp2_with fail
    refine hnm.mono ?_
    rintro e w1 ⟨rfl, hw1⟩
    rw [hw1]
    clear hw1 w1 hnm
    go_wp2 <;> first | exact E.out | (go_ret; exact E.out)
  | true =>
    have hns := (may_size hnt).2
    have hn : n.size ≤ maxLen := by unfold maxLen; omega
    have hnf : ¬ mayName n = false := by rw [hnt]; simp
    rw [hnt] at hnm
    have hl := hD.sound.2.1
    have hc := hD.cell
    have hM := hD.map
    have hmt := Tryz.underlying73
    have hz := DiskAt.zeroF w
    cases hg : get fs n with
    | some f =>
      obtain ⟨p, v, hm, hF⟩ := hD.yes n f hg
      have hs := sound_get hD.sound hg
      have hvs2 : ∃ ao cap, v = .slice ao f.data.length cap := hF.own.shape
      obtain ⟨ao, cap, hv⟩ := hvs2
      have c0 : w.cell? ⟨p, 0, none⟩ = some (.slice ao f.data.length cap) := by rw [cells_of_block hF.block, hv]; rfl
      have q1 : IntKind.i64.wrap ((f.data.length : Int) + (bl.length : Int)) = (f.data.length : Int) + (bl.length : Int) := IntWalk.i64_in _ (by omega)
      by_cases hfull : 65536 < f.data.length + bl.length
      · have E : Hid (Did Dk S (.pointer (some ⟨q, 0, none⟩)) w (dAppend fs n bl) (.returned (.int .i64 2)) w) := by
          unfold Hid dAppend
          rw [if_neg hnf, hg]
          dsimp only
          rw [if_pos hfull]
          exact ⟨rfl, hst⟩
        have hfi : (65536 : Int) < (f.data.length : Int) + (bl.length : Int) := by omega
        generalize Did Dk S (.pointer (some ⟨q, 0, none⟩)) w (dAppend fs n bl) = T at *
        clear hst hD hstB hB hF
        generalize fs.length = c at *
        go_enter Tryz.func61, Tryz.ntmps61
        go_wp2_with fail
        refine hgv.mono ?_
        rintro e w1 ⟨rfl, hw1⟩
        rw [hw1]
        clear hw1 w1 hgv
        go_wp2_with fail
        refine hnm.mono ?_
        rintro e w1 ⟨rfl, hw1⟩
        rw [hw1]
        clear hw1 w1 hnm
        go_wp2_with (refine wp_mp_look rfl _ _ _ _ rfl hmt hz m c M hM rfl n rfl hn ?_)
        all_goals first | exact E.out | (go_ret; exact E.out)
      · have hfi : ¬ (65536 : Int) < (f.data.length : Int) + (bl.length : Int) := by omega
        have hpt : (ρ p).1 ≠ 0 := by rw [hF.mark]; simp
        have hpl := hD.lt p hpt
        have hvp : ∀ k, v.ownBlock = some k → k ≠ p := fun k hk => mark_ne (hF.row k hk) hF.mark (by simp)
        have E : ∀ v' w', Own 0 w' v' (f.data ++ bl) → w.grownBy w' v.ownBlock → (∀ k, v'.ownBlock = some k → v.ownBlock = some k ∨ w.heap.size ≤ k) → w'.cell? ⟨p, 0, none⟩ = some (.slice ao f.data.length cap) ∧ w'.frozen? ⟨p, 0, none⟩ = false ∧ Hid (Did Dk S (.pointer (some ⟨q, 0, none⟩)) w (dAppend fs n bl) (.returned (.int .i64 0)) (w'.setCell ⟨p, 0, none⟩ v')) := by
          intro v' w' hO' hgr hrow
          have hp1 : w'.heap[p]? = _ := (hgr.block p hpl (fun e => hvp p e.symm rfl)).trans hF.block
          refine ⟨by rw [cells_of_block hp1, hv]; rfl, frozen_of hp1 0, ?_⟩
          unfold Hid dAppend
          rw [if_neg hnf, hg]
          dsimp only
          rw [if_neg hfull]
          refine ⟨rfl, turn hD hS hg hm hF (f.data ++ bl) f.safe v' (box2_0 hp1 v') (hO'.same fun k hk => set_block 0 _ ?_) hrow hgr.os hgr.tape hgr.output (by rw [set_size]; exact hgr.size) (fun b hb hne hnr => ?_) (by rw [List.length_append]; omega) (by rw [List.length_append]; omega) ?_⟩
          · rcases hrow k hk with h1 | h1
            · exact hvp k h1
            · omega
          · rw [set_block 0 _ hne]
            exact hgr.block b hb (fun e => hnr e.symm)
          · intro c hcm
            rcases List.mem_append.1 hcm with h1 | h1
            · exact hD.byte f (get_mem hg) c h1
            · exact hby c h1
        have hO := hF.own
        rw [hv] at hO E
        have hc2 : f.data.length + bl.length ≤ 140737488355328 := by omega
        generalize Did Dk S (.pointer (some ⟨q, 0, none⟩)) w (dAppend fs n bl) = T at *
        clear hst hD hstB hF hvp
        generalize fs.length = c at *
        go_enter Tryz.func61, Tryz.ntmps61
        go_wp2_with fail
        refine hgv.mono ?_
        rintro e w1 ⟨rfl, hw1⟩
        rw [hw1]
        clear hw1 w1 hgv
        go_wp2_with fail
        refine hnm.mono ?_
        rintro e w1 ⟨rfl, hw1⟩
        rw [hw1]
        clear hw1 w1 hnm
        go_wp2_with (first | refine wp_mp_look rfl _ _ _ _ rfl hmt hz m c M hM rfl n rfl hn ?_ | (at_builtin; refine wpList_append_bs2 rfl _ _ rfl 0 _ f.data rfl hO (Nat.zero_le _) w.heap.size _ bl rfl hB hc2 ?_))
        intro v' w' hO' _ hgr hrow
        obtain ⟨d0, g0, hE⟩ := E v' w' hO' hgr hrow
        obtain ⟨a5, c5, h5⟩ := hO'.shape
        rw [List.length_append] at h5
        subst h5
        clear E hO' hO hB hM
        go_wp2 <;> first | exact hE.out | (go_ret; exact hE.out)
    | none =>
      have hm := hD.no n hg
      have hbx := (Below.refl w.heap.size w).alloc (Nat.le_refl _) (.cells #[.slice none 0 0, .int .i64 0] 141)
      have hMx := hM.below hbx
      have hcx : (w.alloc (.cells #[.slice none 0 0, .int .i64 0] 141)).cell? ⟨q, 0, none⟩ = some (.map (some m)) := (hbx.cell (p := ⟨q, 0, none⟩) (World.block_lt_of_cell? w _ hc)).trans hc
      have q1 : IntKind.i64.wrap (bl.length : Int) = (bl.length : Int) := IntWalk.i64_in _ (by omega)
      have hli : ∀ j : Nat, (65536 : Int) < (j : Int) ↔ 65536 < j := fun j => by omega
      by_cases hfull : 64 ≤ fs.length ∨ 65536 < bl.length
      · have E : Hid (Did Dk S (.pointer (some ⟨q, 0, none⟩)) w (dAppend fs n bl) (.returned (.int .i64 2)) (w.alloc (.cells #[.slice none 0 0, .int .i64 0] 141))) := by
          unfold Hid dAppend
          rw [if_neg hnf, hg]
          dsimp only
          rw [if_pos hfull]
          exact ⟨rfl, hstB _ hbx⟩
        generalize Did Dk S (.pointer (some ⟨q, 0, none⟩)) w (dAppend fs n bl) = T at *
        clear hst hD hstB hB hli
        generalize fs.length = c at *
        by_cases hb1 : 65536 < bl.length
        · have hfi : (65536 : Int) < (bl.length : Int) := by omega
          clear hfull
          go_enter Tryz.func61, Tryz.ntmps61
          go_wp2_with fail
          refine hgv.mono ?_
          rintro e w1 ⟨rfl, hw1⟩
          rw [hw1]
          clear hw1 w1 hgv
          go_wp2_with fail
          refine hnm.mono ?_
          rintro e w1 ⟨rfl, hw1⟩
          rw [hw1]
          clear hw1 w1 hnm
          go_wp2_with (refine wp_mp_look rfl _ _ _ _ rfl hmt hz m c M hM rfl n rfl hn ?_)
          all_goals first | exact E.out | (go_ret; exact E.out)
        · have hfi : ¬ (65536 : Int) < (bl.length : Int) := by omega
          have hci : (64 : Int) ≤ (c : Int) := by omega
          have hlr := run_mp_len hMx
          clear hfull
          go_enter Tryz.func61, Tryz.ntmps61
          go_wp2_with fail
          refine hgv.mono ?_
          rintro e w1 ⟨rfl, hw1⟩
          rw [hw1]
          clear hw1 w1 hgv
          go_wp2_with fail
          refine hnm.mono ?_
          rintro e w1 ⟨rfl, hw1⟩
          rw [hw1]
          clear hw1 w1 hnm
          go_wp2_with (refine wp_mp_look rfl _ _ _ _ rfl hmt hz m c M hM rfl n rfl hn ?_)
          all_goals first | exact E.out | (go_ret; exact E.out)
      · have hfi : ¬ (65536 : Int) < (bl.length : Int) := by omega
        have hci : ¬ (64 : Int) ≤ (fs.length : Int) := by omega
        have hlr := run_mp_len hMx
        have hszx : (w.alloc (.cells #[.slice none 0 0, .int .i64 0] 141)).heap.size = w.heap.size + 1 := by simp
        have hpx := heap_alloc_new w (.cells #[.slice none 0 0, .int .i64 0] 141)
        have hOx : Own (w.heap.size + 1) (w.alloc (.cells #[.slice none 0 0, .int .i64 0] 141)) (.slice none 0 0) [] := Own.nil _ _
        have hBx := hB.below hbx
        have hqm := hD.qm
        have hml := hD.lt m (by rw [hD.markm]; decide)
        have E1 : ∀ v' w', Own (w.heap.size + 1) w' v' ([] ++ bl) → Below (w.heap.size + 1) (w.alloc (.cells #[.slice none 0 0, .int .i64 0] 141)) w' → w'.cell? ⟨w.heap.size, 0, none⟩ = some (.slice none 0 0) ∧ w'.frozen? ⟨w.heap.size, 0, none⟩ = false ∧
            Calls Tryz.prog 83 #[.pointer (some ⟨q, 0, none⟩), .string n, .pointer (some ⟨w.heap.size, 0, none⟩)] (w'.setCell ⟨w.heap.size, 0, none⟩ v') fun e w3 => e = .returned (.tuple #[]) ∧ Hid (Did Dk S (.pointer (some ⟨q, 0, none⟩)) w (dAppend fs n bl) (.returned (.int .i64 0)) w3) := by
          intro v' w' hO' hb'
          have hp1 := (hb'.block w.heap.size (Nat.lt_succ_self _)).trans hpx
          have hbw : Below w.heap.size w w' := hbx.trans (hb'.mono (Nat.le_succ _))
          have hbs := hbw.setCell (p := ⟨w.heap.size, 0, none⟩) (Nat.le_refl _) v'
          refine ⟨by rw [cells_of_block hp1]; rfl, frozen_of hp1 0, ?_⟩
          have hc3 : (w'.setCell ⟨w.heap.size, 0, none⟩ v').cell? ⟨q, 0, none⟩ = some (.map (some m)) := (hbs.cell (p := ⟨q, 0, none⟩) (World.block_lt_of_cell? w _ hc)).trans hc
          refine (keep_of n (.pointer (some ⟨w.heap.size, 0, none⟩)) hc3 (hM.below hbs) (by unfold maxLen; omega) (by omega)).mono ?_
          rintro e w3 ⟨rfl, hM3, hg3⟩
          refine ⟨rfl, ?_⟩
          unfold Hid dAppend
          rw [if_neg hnf, hg]
          dsimp only
          rw [if_neg hfull]
          rw [if_pos hm] at hM3
          have hp3 : w3.heap[w.heap.size]? = some (.cells #[v', .int .i64 ((0 : Nat) : Int)] 141 (0, 0)) := by
            refine (hg3.block w.heap.size ?_ (fun e => ?_)).trans (box2_0 hp1 v')
            · rw [set_size]
              exact (Array.getElem?_eq_some_iff.1 hp1).1
            · have := Option.some.inj e
              omega
          have hO3 : Own 0 w3 v' bl := by
            rw [List.nil_append] at hO'
            refine (hO'.mono (Nat.zero_le _)).same fun k hk => ?_
            have hk1 := World.ownsRow.lt hO' k hk
            refine (hg3.block k (by rw [set_size]; exact hk1.2) (fun e => ?_)).trans (set_block 0 _ (by omega))
            have := Option.some.inj e
            omega
          exact ⟨rfl, made hD hS hg hp3 hO3 (fun k hk => by have := (World.ownsRow.lt hO' k hk).1; omega) (Nat.le_refl _) hM3 (hg3.os.trans hbs.os) (hg3.tape.trans hbs.tape) (hg3.output.trans hbs.output) (Nat.le_trans hbs.size hg3.size) (fun b hb hne => (hg3.block b (Nat.lt_of_lt_of_le hb hbs.size) (fun e => hne (Option.some.inj e))).trans (hbs.block b hb)) hnt (by omega) (by omega) (Nat.zero_le _) hby⟩
        have hc2 : ([] : List Nat).length + bl.length ≤ 140737488355328 := by simp; omega
        have hn0 : w.heap.size + 1 ≤ (w.alloc (.cells #[.slice none 0 0, .int .i64 0] 141)).heap.size := by rw [hszx]; exact Nat.le_refl _
        generalize Did Dk S (.pointer (some ⟨q, 0, none⟩)) w (dAppend fs n bl) = T at *
        clear hst hD hstB hfull hB
        generalize fs.length = c at *
        go_enter Tryz.func61, Tryz.ntmps61
        go_wp2_with fail
        refine hgv.mono ?_
        rintro e w1 ⟨rfl, hw1⟩
        rw [hw1]
        clear hw1 w1 hgv
        go_wp2_with fail
        refine hnm.mono ?_
        rintro e w1 ⟨rfl, hw1⟩
        rw [hw1]
        clear hw1 w1 hnm
        go_wp2_with (first | refine wp_mp_look rfl _ _ _ _ rfl hmt hz m c M hM rfl n rfl hn ?_ | (at_builtin; refine wpList_append_bs rfl _ _ rfl (w.heap.size + 1) _ [] rfl hOx hn0 w.heap.size _ bl rfl hBx hc2 ?_))
        intro v' w' hO' hb'
        obtain ⟨d0, g0, hk⟩ := E1 v' w' hO' hb'
        obtain ⟨a5, c5, h5⟩ := hO'.shape
        have h6 : v' = .slice a5 bl.length c5 := h5
        clear h5
        subst h6
        clear E1 hO' hOx hBx hM hMx hlr
        go_wp2_with fail
        refine hk.mono ?_
        rintro e w3 ⟨rfl, hE⟩
        clear hk
        go_wp2 <;> first | exact hE.out | (go_ret; exact hE.out)
end Go.Proofs.YtdcpdcnipmfdjaaGreatDoor

/- The program's New, Read and Files. -/
namespace Go.Proofs.YtdcpdcnipmfdjaaGreatDoor
open Go.RowKit DiskMath
set_option maxRecDepth 100000
set_option linter.unusedSimpArgs false
set_option linter.unusedVariables false

/-- What New leaves: a disk without files, all new. -/
def NewT (w : World) (e : Ending) (w' : World) : Prop :=
  ∃ S d, e = .returned d ∧ Dk S w' d [] ∧ (∀ b, S b → w.heap.size ≤ b) ∧ Below w.heap.size w w'
theorem new_disk (w : World) : NewT w (.returned (.pointer (some ⟨w.heap.size + 1, 0, none⟩))) ((w.alloc (.map #[] 0)).alloc (.cells #[.map (some w.heap.size)] 75)) := by
  have hb1 := (Below.refl w.heap.size w).alloc (Nat.le_refl _) (.map #[] 0)
  have hb2 := (Below.refl _ (w.alloc (.map #[] 0))).alloc (Nat.le_refl _) (.cells #[.map (some w.heap.size)] 75)
  have hs1 : (w.alloc (.map #[] 0)).heap.size = w.heap.size + 1 := by simp
  have hs2 : ((w.alloc (.map #[] 0)).alloc (.cells #[.map (some w.heap.size)] 75)).heap.size = w.heap.size + 2 := by simp
  have hq := heap_alloc_new (w.alloc (.map #[] 0)) (.cells #[.map (some w.heap.size)] 75)
  rw [hs1] at hq
  let ρ : Mark := fun b => if b = w.heap.size + 1 then (1, noName) else if b = w.heap.size then (2, noName) else (0, noName)
  refine ⟨fun b => (ρ b).1 ≠ 0, _, rfl, ⟨ρ, fun _ => none, w.heap.size + 1, w.heap.size, rfl, fun b => Iff.rfl, hq, (Mp.made w).below hb2, ?_, ?_, ?_, ⟨trivial, by simp, by simp⟩, by simp, fun _ _ => rfl, fun n f hf => by simp [get_nil] at hf⟩, ?_, hb1.trans (hb2.mono (by simp))⟩
  · show (if w.heap.size + 1 = w.heap.size + 1 then _ else _) = _
    rw [if_pos rfl]
  · show (if w.heap.size = w.heap.size + 1 then _ else _) = _
    rw [if_neg (by omega), if_pos rfl]
  · intro b hb
    rw [hs2]
    by_cases h1 : b = w.heap.size + 1
    · omega
    · by_cases h2 : b = w.heap.size
      · omega
      · exact absurd (by show (ρ b).1 = 0; simp only [ρ]; rw [if_neg h1, if_neg h2]) hb
  · intro b hb
    by_cases h1 : b = w.heap.size + 1
    · omega
    · by_cases h2 : b = w.heap.size
      · omega
      · exact absurd (by show (ρ b).1 = 0; simp only [ρ]; rw [if_neg h1, if_neg h2]) hb

set_option maxHeartbeats 1000000 in
theorem dnew_of (w : World) : Calls Tryz.prog 7 #[] w (NewT w) := by
  have E : Hid (NewT w (.returned (.pointer (some ⟨w.heap.size + 1, 0, none⟩))) ((w.alloc (.map #[] 0)).alloc (.cells #[.map (some w.heap.size)] 75))) := new_disk w
  have hmk : (Instr.makeMap 73 none).run Tryz.prog w = .ok (.map (some w.heap.size)) (w.alloc (.map #[] 0)) := rfl
  generalize NewT w = T at *
  go_enter Tryz.func7, Tryz.ntmps7
  go_wp2 <;> first | exact E.out | (go_ret; exact E.out)

/-- What Read tells: bytes of its own. -/
def ReadT (w : World) (fs : Files) (n : ByteArray) (e : Ending) (w' : World) : Prop :=
  ∃ v l, e = .returned (.tuple #[v, .bool (get fs n).isSome]) ∧ Own w.heap.size w' v l ∧ Below w.heap.size w w' ∧ l = ((get fs n).map Fl.data).getD []

set_option maxHeartbeats 1000000 in
theorem dread_of {S : Nat → Prop} {w : World} {d : Value} {fs : Files} (n : ByteArray) (hn : n.size ≤ maxLen) (h : Dk S w d fs) : Calls Tryz.prog 69 #[d, .string n] w (ReadT w fs n) := by
  obtain ⟨ρ, M, q, m, rfl, hS, hD⟩ := h
  have hfd := find_of n hD hn
  cases hg : get fs n with
  | none =>
    have hm := hD.no n hg
    have E : Hid (ReadT w fs n (.returned (.tuple #[.slice none 0 0, .bool false])) w) := by
      unfold Hid ReadT
      rw [hg]
      exact ⟨_, [], rfl, Own.nil _ _, Below.refl _ _, rfl⟩
    unfold FindT at hfd
    rw [hm] at hfd
    generalize ReadT w fs n = T at *
    clear hD
    go_enter Tryz.func69, Tryz.ntmps69
    go_wp2_with fail
    refine hfd.mono ?_
    rintro e w1 ⟨rfl, hw1⟩
    rw [hw1]
    clear hw1 w1 hfd
    go_wp2 <;> first | exact E.out | (go_ret2; exact E.out)
  | some f =>
    obtain ⟨p, v, hm, hF⟩ := hD.yes n f hg
    have hs := sound_get hD.sound hg
    letI := keepAll
    have hB : Bs w.heap.size w v f.data := hF.own.bs (Nat.zero_le _)
    have hcl := clone_of w.heap.size f.data v w hB (Nat.le_refl _) (by omega)
    have hvs : ∃ ao cap, v = .slice ao f.data.length cap := hF.own.shape
    obtain ⟨ao, cap, rfl⟩ := hvs
    have c0 : w.cell? ⟨p, 0, none⟩ = some (.slice ao f.data.length cap) := by rw [cells_of_block hF.block]; rfl
    have E : ∀ v' w', Own w.heap.size w' v' f.data → Below w.heap.size w w' → Hid (ReadT w fs n (.returned (.tuple #[v', .bool true])) w') := by
      intro v' w' hO' hb'
      unfold Hid ReadT
      rw [hg]
      exact ⟨_, _, rfl, hO', hb', rfl⟩
    unfold FindT at hfd
    rw [hm] at hfd
    generalize ReadT w fs n = T at *
    clear hD hF hB
    go_enter Tryz.func69, Tryz.ntmps69
    go_wp2_with fail
    refine hfd.mono ?_
    rintro e w1 ⟨rfl, hw1⟩
    rw [hw1]
    clear hw1 w1 hfd
    go_wp2_with fail
    refine hcl.mono ?_
    rintro e w1 ⟨v', rfl, hO', hb'⟩
    have hE := E v' w1 hO' hb'
    clear E hO' hcl
    go_wp2 <;> first | exact hE.out | (go_ret2; exact hE.out)

/-- Files of one's own: their row, and each one's bytes. -/
def Fw (n₀ : Nat) (w : World) (ov : Value) (fs : Files) : Prop :=
  ∃ cs, w.ownsRow n₀ 94 3 ov fs.length (fcells fs cs) ∧ cs.length = fs.length ∧ n₀ ≤ w.heap.size ∧ ∀ (i : Nat) (sv : Value) (f : File), cs[i]? = some sv → fs[i]? = some f → Own n₀ w sv f.data ∧ ∀ k, sv.ownBlock = some k → ov.ownBlock ≠ some k

theorem Own.lt {n₀ : Nat} {w : World} {v : Value} {l : List Nat} (h : Own n₀ w v l) {k : Nat} (hk : v.ownBlock = some k) : n₀ ≤ k ∧ k < w.heap.size := World.ownsRow.lt h k hk
theorem Own.one {n₀ : Nat} {w : World} {v : Value} {l : List Nat} (h : Own n₀ w v l) : v.oneCell' = true := by
  obtain ⟨ao, cap, rfl⟩ := h.shape
  rfl
theorem Fw.below {n₀ : Nat} {w w' : World} {ov : Value} {fs : Files} (h : Fw n₀ w ov fs) (hb : Below w.heap.size w w') : Fw n₀ w' ov fs := by
  obtain ⟨cs, h1, h2, h3, h4⟩ := h
  exact ⟨cs, ownsRow_below h1 hb, h2, Nat.le_trans h3 hb.size, fun i sv f hi hf => ⟨(h4 i sv f hi hf).1.below hb, (h4 i sv f hi hf).2⟩⟩
theorem Fw.nil (n₀ : Nat) (w : World) (h : n₀ ≤ w.heap.size) : Fw n₀ w (.slice none 0 0) [] := ⟨[], World.ownsRow_nil w n₀ _ 3, rfl, h, fun i sv f hi => by simp at hi⟩
theorem Fw.fo [Keep] {n₀ : Nat} {w : World} {ov : Value} {fs : Files} (h : Fw n₀ w ov fs) (hf : kBase ≤ n₀) : Fo n₀ w ov fs := by
  obtain ⟨cs, h1, h2, h3, h4⟩ := h
  refine ⟨cs, h1, ⟨by rw [h2, List.length_map], fun i sv d hi hd => ?_⟩, hf, h3⟩
  rw [List.getElem?_map] at hd
  obtain ⟨f, hff, rfl⟩ := Option.map_eq_some_iff.1 hd
  obtain ⟨g1, g2⟩ := h4 i sv f hi hff
  exact ⟨g1.bs hf, fun _ k hk => ⟨Nat.zero_le _, (g1.lt hk).2, g2 k hk⟩⟩
theorem Fw.shape {n₀ : Nat} {w : World} {ov : Value} {fs : Files} (h : Fw n₀ w ov fs) : ∃ ao cap, ov = .slice ao fs.length cap := by
  obtain ⟨cs, ⟨_, ⟨r1, r2⟩ | ⟨g, cp, _, r1, _⟩⟩, _⟩ := h
  · exact ⟨none, 0, by rw [r1, r2]⟩
  · exact ⟨_, _, r1⟩

set_option maxHeartbeats 1000000 in
theorem run_push_own (w : World) (ty : TypeId) (n₀ : Nat) (ov : Value) (fs : Files) (f : File) (sv : Value) (hF : Fw n₀ w ov fs) (hlen : fs.length ≤ 1000000)
    (hO : Own n₀ w sv f.data) (hk : ∀ k, sv.ownBlock = some k → ov.ownBlock ≠ some k) :
    ∃ ov' w', (Builtin.append_ #[29, 29] ty #[ov, .slice (some ⟨w.heap.size, 0, none⟩) 1 1]).run Tryz.prog (w.alloc (.cells #[.string f.name, sv, .int .i64 (f.safe : Int)] 94)) = .ok ov' w' ∧ Fw n₀ w' ov' (fs ++ [f]) ∧ Below n₀ w w' := by
  obtain ⟨i0, hi, hz0, hz1, hz2⟩ := info_parts infoFile
  have hb1 := (Below.refl w.heap.size w).alloc (Nat.le_refl _) (.cells #[.string f.name, sv, .int .i64 (f.safe : Int)] 94)
  obtain ⟨cs, g2, g3, hn₀, g4⟩ := hF
  have h2 := ownsRow_below g2 hb1
  have hsz := hb1.size
  obtain ⟨ov', w', hrun, hR, hg, hfr⟩ := run_append_own2 (w.alloc (.cells #[.string f.name, sv, .int .i64 (f.safe : Int)] 94)) n₀ 29 ty 94 i0 _ 3 48 Tryz.underlying29 hi hz0 hz1 hz2 rfl (by decide) ov fs.length (fcells fs cs) h2
    ⟨w.heap.size, 0, none⟩ 1 1 [.string f.name, sv, .int .i64 (f.safe : Int)] rfl (by
      intro j u hj
      rw [Addr.add_lit, cells_of_block (heap_alloc_new w _), Nat.zero_add, ← Array.getElem?_toList]
      exact hj) (by
      intro u hu
      simp only [List.mem_cons, List.not_mem_nil, or_false] at hu
      rcases hu with rfl | rfl | rfl
      · rfl
      · exact hO.one
      · rfl) (by unfold maxLen; omega) (by omega) (Nat.le_trans hn₀ hsz)
  have hmove : ∀ u d, Own n₀ w u d → (∀ k, u.ownBlock = some k → ov.ownBlock ≠ some k) → Own n₀ w' u d ∧ ∀ k, u.ownBlock = some k → ov'.ownBlock ≠ some k := by
    intro u d hu hu2
    refine ⟨(hu.below hb1).same fun k hk' => hg.block k (Nat.lt_of_lt_of_le (hu.lt hk').2 hsz) (fun e => hu2 k hk' e.symm), fun k hk' e => ?_⟩
    rcases hfr k e with h | h
    · exact hu2 k hk' h
    · have := (hu.lt hk').2; omega
  refine ⟨ov', w', hrun, ⟨cs ++ [sv], ?_, by simp [g3], Nat.le_trans hn₀ (Nat.le_trans hsz hg.size), ?_⟩, ?_⟩
  · rw [List.length_append, fcells_append f sv fs cs g3]
    exact hR
  · intro i u g hi' hg'
    by_cases hil : i < cs.length
    · rw [List.getElem?_append_left hil] at hi'
      rw [List.getElem?_append_left (by omega)] at hg'
      obtain ⟨q1, q2⟩ := g4 i u g hi' hg'
      exact hmove u g.data q1 q2
    · have hie : i = cs.length := by
        have := (List.getElem?_eq_some_iff.1 hi').1
        simp at this
        omega
      subst hie
      rw [List.getElem?_append_right (Nat.le_refl _), Nat.sub_self] at hi'
      rw [g3, List.getElem?_append_right (Nat.le_refl _), Nat.sub_self] at hg'
      simp only [List.getElem?_cons_zero, Option.some.injEq] at hi' hg'
      subst hi' hg'
      exact hmove _ _ hO hk
  · exact (hb1.mono hn₀).trans ((Below.refl n₀ _).grown hg (Nat.le_trans hn₀ hsz) (fun k hk => (World.ownsRow.lt h2 k hk).1))

/-- append of a file, as one step of a region that draws its order. -/
theorem step_push_own {ops : Array Oper} {o : Oper} {a : Act} {w : World} {K : Act → World → Prop} {Q : Exit → Act → World → Prop} {E : Prop}
    (hg : o.guard = none) (s x : Operand) (ho : o.op = .call { callee := .builtin .append, args := #[s, x], argTypes := #[29, 29] })
    (n₀ : Nat) (ov : Value) (fs : Files) (f : File) (sv : Value) (hF : Fw n₀ w ov fs) (hlen : fs.length ≤ 1000000) (hO : Own n₀ w sv f.data) (hk : ∀ k, sv.ownBlock = some k → ov.ownBlock ≠ some k)
    (hs : a.eval s = ov) (hx : a.eval x = .slice (some ⟨w.heap.size, 0, none⟩) 1 1)
    (hK : ∀ ov' w', Fw n₀ w' ov' (fs ++ [f]) → Below n₀ w w' → K (a.put o.dst ov') w') :
    if Region.wanted o (yielded ops a.tmps) = true then Oper.wp Tryz.prog o a (w.alloc (.cells #[.string f.name, sv, .int .i64 (f.safe : Int)] 94)) K Q else E := by
  have hw : Region.wanted o (yielded ops a.tmps) = true := by simp [Region.wanted, hg]
  rw [if_pos hw]
  obtain ⟨v', w', hrun, r1, r2⟩ := run_push_own w o.type n₀ ov fs f sv hF hlen hO hk
  unfold Oper.wp
  simp [execOp, ho, resolve, invoke, builtin, hs, hx, hrun, Result.andThen]
  exact hK v' w' r1 r2
end Go.Proofs.YtdcpdcnipmfdjaaGreatDoor

/- The program's Files: all files, by rising names, in memory of the call's own. -/
namespace Go.Proofs.YtdcpdcnipmfdjaaGreatDoor
open Go.RowKit DiskMath
set_option maxRecDepth 100000
set_option linter.unusedSimpArgs false
set_option linter.unusedVariables false

/-- What Files tells. -/
def FilesT (w : World) (fs : Files) (e : Ending) (w' : World) : Prop := ∃ ov, e = .returned ov ∧ Fw w.heap.size w' ov fs ∧ Below w.heap.size w w'

theorem Fw.mono {n₀ n₁ : Nat} {w : World} {ov : Value} {fs : Files} (h : Fw n₀ w ov fs) (hn : n₁ ≤ n₀) : Fw n₁ w ov fs := by
  obtain ⟨cs, h1, h2, h3, h4⟩ := h
  exact ⟨cs, ⟨h1.1, h1.2.imp id fun ⟨g, cap, cur, r1, r2, r3⟩ => ⟨g, cap, cur, r1, Nat.le_trans hn r2, r3⟩⟩, h2, Nat.le_trans hn h3, fun i sv f hi hf => ⟨(h4 i sv f hi hf).1.mono hn, (h4 i sv f hi hf).2⟩⟩
theorem Fw.row {n₀ : Nat} {w : World} {ov : Value} {fs : Files} (h : Fw n₀ w ov fs) {k : Nat} (hk : ov.ownBlock = some k) : n₀ ≤ k ∧ k < w.heap.size := by
  obtain ⟨cs, h1, _⟩ := h
  exact World.ownsRow.lt h1 k hk

theorem take_snoc {α : Type} {l : List α} {i : Nat} {x : α} (h : l[i]? = some x) : l.take (i + 1) = l.take i ++ [x] := by
  rw [List.take_add_one, h]
  rfl

set_option maxHeartbeats 2000000 in
theorem dfiles_of {S : Nat → Prop} {w : World} {d : Value} {fs : Files} (h : Dk S w d fs) : Calls Tryz.prog 33 #[d] w (FilesT w fs) := by
  letI := keepAll
  obtain ⟨ρ, M, q, m, rfl, hS, hD⟩ := h
  have hgv := given_of hD
  have hnm := names_of hD
  have hl := hD.sound.2.1
  have hmt := Tryz.underlying73
  have E : ∀ ov w', Fw w.heap.size w' ov fs → Below w.heap.size w w' → Hid (FilesT w fs (.returned ov) w') := fun ov w' h1 h2 => ⟨ov, rfl, h1, h2⟩
  generalize FilesT w fs = T at *
  go_enter Tryz.func33, Tryz.ntmps33
  go_wp2_with fail
  refine hgv.mono ?_
  rintro e w1 ⟨rfl, hw1⟩
  rw [hw1]
  clear hw1 w1 hgv
  go_wp2_with fail
  refine hnm.mono ?_
  rintro e w1 ⟨nv, rfl, hT1, hb1⟩
  obtain ⟨an, cn, rfl, hnames⟩ := id hT1
  clear hnm
  have hnl : (fs.map Fl.name).length = fs.length := by simp
  rw [hnl]
  go_wp2
  go_loopg [3, 13] fs.length (fun g s3 s13 wr => ∃ i : Nat, i + g = fs.length ∧ s13 = .int .i64 (i : Int) ∧ Fw w1.heap.size wr s3 (fs.take i) ∧ Below w1.heap.size w1 wr)
  case atStart => exact ⟨0, by simp, rfl, Fw.nil _ _ (Nat.le_refl _), Below.refl _ _⟩
  case round =>
    obtain ⟨i, hi, rfl, hW, hbr⟩ := hrel
    by_cases hlt : i < fs.length
    · have hlti : (i : Int) < (fs.length : Int) := by omega
      have hbw : Below w.heap.size w wr := hb1.trans (hbr.mono hb1.size)
      have hDr := hD.below hbw
      have hx : fs[i]? = some fs[i] := List.getElem?_eq_getElem hlt
      have htk : Hid (fs.take (i + 1) = fs.take i ++ [fs[i]]) := take_snoc hx
      have hgf := hD.sound.1.get_of_mem (List.mem_of_getElem? hx)
      have hsd := sound_get hD.sound hgf
      obtain ⟨b, off, hbn, hcn, -⟩ := hnames i fs[i].name (by rw [List.getElem?_map, hx]; rfl)
      subst hbn
      have hcn' : wr.cell? ⟨b, off + i, none⟩ = some (.string fs[i].name) := (hbr.cell (p := ⟨b, off + i, none⟩) (World.block_lt_of_cell? w1 _ hcn)).trans hcn
      generalize fs[i] = f at *
      have hns : f.name.size ≤ maxLen := by have := (may_size hsd.1).2; unfold maxLen; omega
      obtain ⟨p, v, hm, hF⟩ := hDr.yes f.name f hgf
      have hcq := hDr.cell
      have hMr := hDr.map
      have hz := DiskAt.zeroF wr
      have hvs : ∃ ao cap, v = .slice ao f.data.length cap := hF.own.shape
      obtain ⟨ao, cap, rfl⟩ := hvs
      have hdr : Below wr.heap.size wr wr.drew := (Below.refl _ _).drew
      have hcs : ∀ w', Below w.heap.size w w' → w'.cell? ⟨p, 0, none⟩ = some (.slice ao f.data.length cap) ∧ w'.cell? ⟨p, 1, none⟩ = some (.int .i64 (f.safe : Int)) := fun w' hb => by
        have hpl := hD.lt p (by rw [hF.mark]; simp)
        have hp1 := (hb.block p hpl).trans ((hbw.block p hpl).symm.trans hF.block)
        exact ⟨by rw [cells_of_block hp1]; rfl, by rw [cells_of_block hp1]; rfl⟩
      have hcl := clone_of wr.heap.size f.data (.slice ao f.data.length cap) wr.drew ((hF.own.bs (Nat.zero_le _)).below hdr) (Nat.le_refl _) (by omega)
      have hgetD : (M f.name).getD (.pointer none) = .pointer (some ⟨p, 0, none⟩) := by rw [hm]; rfl
      obtain ⟨a3, c3, rfl⟩ := hW.shape
      have hpush : ∀ v4 w4, Own wr.drew.heap.size w4 v4 f.data → Below wr.heap.size wr w4 → Own w1.heap.size w4 v4 f.data ∧ (∀ k, v4.ownBlock = some k → (Value.slice a3 (fs.take i).length c3).ownBlock ≠ some k) ∧ Fw w1.heap.size w4 (.slice a3 (fs.take i).length c3) (fs.take i) := by
        intro v4 w4 hO4 hb4
        refine ⟨hO4.mono hbr.size, fun k hk e => ?_, hW.below hb4⟩
        have h1 := (hO4.lt hk).1
        have h2 := (hW.row e).2
        have h3 : wr.drew.heap.size = wr.heap.size := rfl
        omega
      have hfl : (fs.take i).length ≤ 1000000 := by rw [List.length_take]; omega
      generalize hG : fs.take i = G at *
      generalize fs.length = c at *
      clear hD hDr hF hgf hnames hT1 hx hW hcn
      go_wp2_with (refine wp_mp_at rfl _ _ _ _ rfl hmt hz m c M hMr rfl f.name rfl hns ?_)
      go_region_held3 (fun w' => w'.cell? ⟨p, 0, none⟩ = some (.slice ao f.data.length cap) ∧ w'.cell? ⟨p, 1, none⟩ = some (.int .i64 (f.safe : Int)))
        (first | exact x5 | exact x6 | exact x4 | exact hcs _ (hbw.trans (hdr.mono hbw.size)) | go_keep)
        (first
          | (go_at_call 84; refine hcl.mono ?_; rintro e w4 ⟨v4, rfl, hO4, hb4⟩; have hb4' := hdr.trans hb4; have hbw4 := hbw.trans (hb4'.mono hbw.size); have x4 := hcs _ hbw4; obtain ⟨y1, y2, y3⟩ := hpush v4 w4 hO4 hb4'; obtain ⟨a4, c4, rfl⟩ := hO4.shape; have x6 := hcs _ (hbw4.trans (((Below.refl w4.heap.size w4).alloc (Nat.le_refl _) (.cells #[.string f.name, .slice a4 f.data.length c4, .int .i64 (f.safe : Int)] 94)).mono hbw4.size)))
          | (refine step_push_own (by rfl) _ _ (by rfl) w1.heap.size _ G f _ y3 hfl y1 y2 (by rfl) (by rfl) ?_; intro ov5 w5 hW5 hb5; have x5 := hcs _ (hbw4.trans (hb5.mono hb1.size))))
      have hb15 : Below w1.heap.size w1 w5 := (hbr.trans (hb4'.mono hbr.size)).trans hb5
      clear hpush hcs hcl y1 y2 y3 x4 x5 x6 hO4 hMr
      go_wp2
      go_roundg (gk - 1)
      case measure => omega
      case rel => exact ⟨i + 1, by omega, by go_num, by rw [htk.out]; exact hW5, hb15⟩
    · have hlti : ¬ (i : Int) < (fs.length : Int) := by omega
      rw [List.take_of_length_le (by omega)] at hW
      have hE := E _ _ (hW.mono hb1.size) (hb1.trans (hbr.mono hb1.size))
      clear E hW
      go_wp2 <;> first | exact hE.out | (go_ret; exact hE.out)
end Go.Proofs.YtdcpdcnipmfdjaaGreatDoor

