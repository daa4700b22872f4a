import Derived.Test.YtoipjmjhplkibaaDoorQ42
/- The program's Rename. -/
namespace Go.Proofs.YtoipjmjhplkibaaDoor
open Go.RowKit DiskMath
set_option maxRecDepth 100000
set_option linter.unusedSimpArgs false
set_option linter.unusedVariables false

/-- The marks, a file's own two blocks under its new name. -/
def nameMark (ρ : Mark) (p : Nat) (v : Value) (t : ByteArray) : Mark := fun b => if b = p then (3, t) else if v.ownBlock = some b then (4, t) else ρ b

/-- A file that was named otherwise. -/
theorem renamed {S : Nat → Prop} {ρ : Mark} {M : ByteArray → Option Value} {w w' : World} {q m : Nat} {fs : Files} (h : DiskAt ρ M w q m fs) (hS : ∀ b, S b ↔ (ρ b).1 ≠ 0) {n t : ByteArray} {f : File} {p : Nat} {v : Value} (hf : get fs n = some f) (hF : FileAt w ρ n f p v) (ht : mayName t = true)
    {M1 : ByteArray → Option Value} (hM1 : ∀ k, M1 k = if k = n then none else M k) (hM' : Mp w' m (upd M1 t (some (.pointer (some ⟨p, 0, none⟩)))) (if M1 t = none then fs.length - 1 + 1 else fs.length - 1)) (hgr : w.grownBy w' (some m)) :
    Leaves S w (.pointer (some ⟨q, 0, none⟩)) (putF (DiskMath.out fs n) ⟨t, f.data, f.safe⟩) w' := by
  have hg := sound_get h.sound hf
  have hpt : (ρ p).1 ≠ 0 := by rw [hF.mark]; simp
  have hvt : ∀ k, v.ownBlock = some k → (ρ k).1 ≠ 0 := fun k hk => by rw [hF.row k hk]; simp
  have hin : ∀ b, (ρ b).1 ≠ 0 → b ≠ m → w'.heap[b]? = w.heap[b]? := fun b hb hne => hgr.block b (h.lt b hb) (fun e => hne (Option.some.inj e))
  have hpm : p ≠ m := mark_ne hF.mark h.markm (by simp)
  have hvm : ∀ k, v.ownBlock = some k → k ≠ m := fun k hk => mark_ne (hF.row k hk) h.markm (by simp)
  have hvp : ∀ k, v.ownBlock = some k → k ≠ p := fun k hk => mark_ne (hF.row k hk) hF.mark (by simp)
  have hsame : ∀ b, (nameMark ρ p v t b).1 ≠ 0 ↔ (ρ b).1 ≠ 0 := by
    intro b
    unfold nameMark
    split
    · rename_i e
      rw [e]
      exact ⟨fun _ => hpt, fun _ => by simp⟩
    · split
      · rename_i e
        exact ⟨fun _ => hvt b e, fun _ => by simp⟩
      · exact Iff.rfl
  have hoth : ∀ b, b ≠ p → v.ownBlock ≠ some b → nameMark ρ p v t b = ρ b := fun b h1 h2 => by
    unfold nameMark
    rw [if_neg h1, if_neg h2]
  have hgo : ∀ k, get (DiskMath.out fs n) k = if k = n then none else get fs k := fun k => out_get n k fs
  have hR := out_rises (n := n) h.sound.1
  have hgp : ∀ k, get (putF (DiskMath.out fs n) ⟨t, f.data, f.safe⟩) k = if t = k then some ⟨t, f.data, f.safe⟩ else get (DiskMath.out fs n) k := fun k => put_get k hR
  have hnn : ∀ k, M1 k = none ↔ get (DiskMath.out fs n) k = none := by
    intro k
    rw [hM1, hgo]
    by_cases e : k = n
    · rw [if_pos e, if_pos e]
      exact ⟨fun _ => rfl, fun _ => rfl⟩
    · rw [if_neg e, if_neg e]
      constructor
      · intro hk
        cases hgk : get fs k with
        | none => rfl
        | some g =>
          obtain ⟨p', v', h1, _⟩ := h.yes k g hgk
          rw [h1] at hk
          cases hk
      · exact h.no k
  refine ⟨S, ⟨nameMark ρ p v t, upd M1 t (some (.pointer (some ⟨p, 0, none⟩))), q, m, rfl, fun b => (hS b).trans (hsame b).symm, ?_⟩, fun _ hb => .inl hb, hgr.os, hgr.tape, hgr.output, hgr.size, fun k hk hns => hgr.block k hk (fun e => hns ?_)⟩
  · refine ⟨(hin q (by rw [h.markq]; decide) h.qm).trans h.block, ?_, ?_, ?_, fun b hb => Nat.lt_of_lt_of_le (h.lt b ((hsame b).1 hb)) hgr.size, ?_, ?_, ?_, ?_⟩
    · have e1 : (putF (DiskMath.out fs n) ⟨t, f.data, f.safe⟩).length = if get (DiskMath.out fs n) t = none then (DiskMath.out fs n).length + 1 else (DiskMath.out fs n).length := put_length hR
      have e2 : (DiskMath.out fs n).length = fs.length - 1 := out_len h.sound.1 hf
      rw [e1, e2]
      simp only [hnn t] at hM'
      exact hM'
    · rw [hoth q (mark_ne h.markq hF.mark (by simp)) (fun e => mark_ne (hF.row q e) h.markq (by simp) rfl)]
      exact h.markq
    · rw [hoth m hpm.symm (fun e => hvm m e rfl)]
      exact h.markm
    · have := sound_rename h.sound n t
      unfold dRename at this
      rw [hf] at this
      dsimp only at this
      rw [if_neg (by rw [ht]; simp)] at this
      exact this
    · intro g hg' c hc
      rcases put_mem hg' with rfl | hg'
      · exact h.byte f (get_mem hf) c hc
      · exact h.byte g (List.mem_filter.1 hg'.1).1 c hc
    · intro k hk
      rw [hgp] at hk
      by_cases e : t = k
      · rw [if_pos e] at hk; cases hk
      · rw [if_neg e] at hk
        unfold upd
        rw [if_neg (fun e' => e e'.symm)]
        exact (hnn k).2 hk
    · intro k g hk
      rw [hgp] at hk
      by_cases e : t = k
      · rw [if_pos e] at hk
        cases hk
        subst e
        refine ⟨p, v, by unfold upd; rw [if_pos rfl], ⟨(hin p hpt hpm).trans hF.block, hF.own.same fun j hj => hin j (hvt j hj) (hvm j hj), ?_, ?_⟩⟩
        · unfold nameMark; rw [if_pos rfl]
        · intro j hj
          unfold nameMark
          rw [if_neg (hvp j hj), if_pos hj]
      · rw [if_neg e, hgo] at hk
        by_cases e2 : k = n
        · rw [if_pos e2] at hk; cases hk
        · rw [if_neg e2] at hk
          obtain ⟨p', v', h1, h2⟩ := h.yes k g hk
          refine ⟨p', v', ?_, h2.same fun b hb => ?_⟩
          · unfold upd
            rw [if_neg (fun e' => e e'.symm), hM1, if_neg e2]
            exact h1
          · have ht' : (ρ b).1 ≠ 0 := by rcases hb with hb | hb <;> (rw [hb]; simp)
            have hn' : (ρ b).2 = k := by rcases hb with hb | hb <;> rw [hb]
            refine ⟨hin b ht' (fun e' => ?_), hoth b (fun e' => ?_) (fun e' => ?_)⟩
            · rw [e', h.markm] at hb
              rcases hb with hb | hb <;> (injection hb with hb; cases hb)
            · rw [e', hF.mark] at hn'
              exact e2 hn'.symm
            · rw [hF.row b e'] at hn'
              exact e2 hn'.symm
  · rw [hS, Option.some.inj e, h.markm]
    simp

set_option maxHeartbeats 1000000 in
theorem drename_of {S : Nat → Prop} {w : World} {d : Value} {fs : Files} (n t : ByteArray) (hn : n.size ≤ maxLen) (h : Dk S w d fs) : Calls Tryd.prog 28 #[d, .string n, .string t] w (Did Dk S d w (dRename fs n t)) := by
  have hst := Leaves.refl h
  obtain ⟨ρ, M, q, m, rfl, hS, hD⟩ := h
  have hfd := find_of n hD hn
  have hnm := nameMay_of t w
  cases hg : get fs n with
  | none =>
    have hm := hD.no n hg
    have E : Hid (Did Dk S (.pointer (some ⟨q, 0, none⟩)) w (dRename fs n t) (.returned (.int .i64 4)) w) := by
      unfold Hid dRename
      rw [hg]
      exact ⟨rfl, hst⟩
    unfold FindT at hfd
    rw [hm] at hfd
    generalize Did Dk S (.pointer (some ⟨q, 0, none⟩)) w (dRename fs n t) = T at *
    clear hst hD
    go_enter Tryd.func28, Tryd.ntmps28
    go_wp2_with fail
    refine hfd.mono ?_
    rintro e w1 ⟨rfl, hw1⟩
    rw [hw1]
    clear hw1 w1 hfd
    go_wp2 <;> first | exact E.out | (go_ret; exact E.out)
  | some f =>
    obtain ⟨p, v, hm, hF⟩ := hD.yes n f hg
    unfold FindT at hfd
    rw [hm] at hfd
    cases htm : mayName t with
    | false =>
      have E : Hid (Did Dk S (.pointer (some ⟨q, 0, none⟩)) w (dRename fs n t) (.returned (.int .i64 1)) w) := by
        unfold Hid dRename
        rw [hg]
        dsimp only
        rw [if_pos htm]
        exact ⟨rfl, hst⟩
      rw [htm] at hnm
      generalize Did Dk S (.pointer (some ⟨q, 0, none⟩)) w (dRename fs n t) = T at *
      clear hst hD hF
      go_enter Tryd.func28, Tryd.ntmps28
      go_wp2_with fail
      refine hfd.mono ?_
      rintro e w1 ⟨rfl, hw1⟩
      rw [hw1]
      clear hw1 w1 hfd
      go_wp2_with fail
      refine hnm.mono ?_
      rintro e w1 ⟨rfl, hw1⟩
      rw [hw1]
      clear hw1 w1 hnm
      go_wp2 <;> first | exact E.out | (go_ret; exact E.out)
    | true =>
      rw [htm] at hnm
      have hl := hD.sound.2.1
      have hts := (may_size htm).2
      have hqm := hD.qm
      have hc := hD.cell
      have hM := hD.map
      have hmt := Tryd.underlying56
      have E : ∀ w2 w3 e, Mp w2 m (upd M n none) (fs.length - 1) → w.grownBy w2 (some m) → KeepT w2 m (fs.length - 1) (upd M n none) t (.pointer (some ⟨p, 0, none⟩)) e w3 → e = .returned (.tuple #[]) ∧ Hid (Did Dk S (.pointer (some ⟨q, 0, none⟩)) w (dRename fs n t) (.returned (.int .i64 0)) w3) := by
        rintro w2 w3 e hM2 hg2 ⟨rfl, hM3, hg3⟩
        refine ⟨rfl, ?_⟩
        unfold Hid dRename
        rw [hg]
        dsimp only
        rw [if_neg (by rw [htm]; simp)]
        refine ⟨rfl, renamed hD hS hg hF htm (fun k => rfl) hM3 ⟨hg3.os.trans hg2.os, hg3.tape.trans hg2.tape, hg3.output.trans hg2.output, Nat.le_trans hg2.size hg3.size, fun i hi hne => (hg3.block i (Nat.lt_of_lt_of_le hi hg2.size) hne).trans (hg2.block i hi hne)⟩⟩
      have hkp : ∀ w2, Mp w2 m (upd M n none) (fs.length - 1) → w.grownBy w2 (some m) → w2.cell? ⟨q, 0, none⟩ = some (.map (some m)) ∧ Calls Tryd.prog 38 #[.pointer (some ⟨q, 0, none⟩), .string t, .pointer (some ⟨p, 0, none⟩)] w2 (KeepT w2 m (fs.length - 1) (upd M n none) t (.pointer (some ⟨p, 0, none⟩))) := fun w2 hM2 hg2 => by
        have hc2 := hg2.cell (a := ⟨q, 0, none⟩) hc (fun e => hqm (Option.some.inj e))
        exact ⟨hc2, keep_of t _ hc2 hM2 (by unfold maxLen; omega) (by omega)⟩
      generalize Did Dk S (.pointer (some ⟨q, 0, none⟩)) w (dRename fs n t) = T at *
      clear hst hD hF
      generalize hKT : KeepT = KT at *
      generalize fs.length = c at *
      go_enter Tryd.func28, Tryd.ntmps28
      go_wp2_with fail
      refine hfd.mono ?_
      rintro e w1 ⟨rfl, hw1⟩
      rw [hw1]
      clear hw1 w1 hfd
      go_wp2_with fail
      refine hnm.mono ?_
      rintro e w1 ⟨rfl, hw1⟩
      rw [hw1]
      clear hw1 w1 hnm
      go_wp2_with (first | refine wp_mp_del rfl _ _ _ _ rfl hmt m c M hM rfl n rfl hn ?_ | fail)
      intro w2 hM2 hg2
      obtain ⟨hc2, hk2⟩ := hkp w2 hM2 hg2
      clear hkp hM
      go_wp2_with fail
      refine hk2.mono ?_
      intro e w3 hT
      obtain ⟨rfl, hE⟩ := E w2 w3 e hM2 hg2 hT
      clear E hk2 hT hM2
      go_wp2 <;> first | exact hE.out | (go_ret; exact hE.out)
end Go.Proofs.YtoipjmjhplkibaaDoor

/- The program's Append. -/
namespace Go.Proofs.YtoipjmjhplkibaaDoor
open Go.RowKit DiskMath
set_option maxRecDepth 100000
set_option linter.unusedSimpArgs false
set_option linter.unusedVariables false

/-- The marks, with a new file. -/
def fileMark (ρ : Mark) (p s : Nat) (v : Value) (n : ByteArray) : Mark := fun b => if b = p then (3, n) else if s ≤ b ∧ v.ownBlock = some b then (4, n) else ρ b

/-- A disk with one file more. -/
theorem made {S : Nat → Prop} {ρ : Mark} {M : ByteArray → Option Value} {w w' : World} {q m : Nat} {fs : Files} (h : DiskAt ρ M w q m fs) (hS : ∀ b, S b ↔ (ρ b).1 ≠ 0) {n : ByteArray} {p : Nat} {v : Value} {data : List Nat} {safe : Nat} (hf : get fs n = none) (hp : w'.heap[p]? = some (.cells #[v, .int .i64 (safe : Int)] 75 (0, 0))) (hO : Own 0 w' v data) (hrow : ∀ k, v.ownBlock = some k → w.heap.size ≤ k ∧ k ≠ p) (hpn : w.heap.size ≤ p)
    (hM' : Mp w' m (upd M n (some (.pointer (some ⟨p, 0, none⟩)))) (fs.length + 1)) (hos : w'.os = w.os) (htape : w'.tape = w.tape) (hout : w'.output = w.output) (hsz : w.heap.size ≤ w'.heap.size) (hblk : ∀ b, b < w.heap.size → b ≠ m → w'.heap[b]? = w.heap[b]?)
    (hn : mayName n = true) (hl : fs.length < 64) (hlen : data.length ≤ 65536) (hsafe : safe ≤ data.length) (hby : ∀ c ∈ data, c < 256) : Leaves S w (.pointer (some ⟨q, 0, none⟩)) (putF fs ⟨n, data, safe⟩) w' := by
  have hold : ∀ b, (ρ b).1 ≠ 0 → fileMark ρ p w.heap.size v n b = ρ b := fun b hb => by
    have := h.lt b hb
    unfold fileMark
    rw [if_neg (by omega), if_neg (fun h' => by omega)]
  refine ⟨fun b => (fileMark ρ p w.heap.size v n b).1 ≠ 0, ⟨fileMark ρ p w.heap.size v n, upd M n (some (.pointer (some ⟨p, 0, none⟩))), q, m, rfl, fun b => Iff.rfl, ?_⟩, ?_, ?_⟩
  · refine h.put ⟨n, data, safe⟩ p v hsz (fun b hb _ hne => hblk b (h.lt b hb) hne) (hblk q (h.lt q (by rw [h.markq]; decide)) h.qm) ?_ (fun k => rfl) hold ?_ ⟨hp, hO, ?_, ?_⟩ (sound_put h.sound hn hlen hsafe (fun _ => hl)) hby
    · show Mp w' m _ (if get fs n = none then _ else _)
      rw [if_pos hf]
      exact hM'
    · intro b hb
      unfold fileMark at hb
      split at hb
      · rename_i e
        rw [e]
        exact (Array.getElem?_eq_some_iff.1 hp).1
      · split at hb
        · rename_i hh
          exact (World.ownsRow.lt hO b hh.2).2
        · exact Nat.lt_of_lt_of_le (h.lt b hb) hsz
    · unfold fileMark; rw [if_pos rfl]
    · intro k hk
      unfold fileMark
      rw [if_neg (hrow k hk).2, if_pos ⟨(hrow k hk).1, hk⟩]
  · intro b hb
    unfold fileMark at hb
    split at hb
    · rename_i e
      exact .inr (by omega)
    · split at hb
      · rename_i hh
        exact .inr hh.1
      · exact .inl ((hS b).2 hb)
  · exact ⟨hos, htape, hout, hsz, fun k hk hns => hblk k hk (fun e => hns ((hS k).2 (by rw [e, h.markm]; decide)))⟩

theorem run_mp_len {w : World} {m c : Nat} {M : ByteArray → Option Value} (hM : Mp w m M c) : (Builtin.len_ #[56] 3 #[.map (some m)]).run Tryd.prog w = .ok (.int .i64 (c : Int)) w := by
  obtain ⟨D, h1, h2, _⟩ := hM
  rw [h1.len Tryd.underlying56, h2]

theorem Leaves.below {S : Nat → Prop} {w w' : World} {d : Value} {fs : Files} (h : Dk S w d fs) (hb : Below w.heap.size w w') : Leaves S w d fs w' := by
  obtain ⟨ρ, M, q, m, rfl, hS, hD⟩ := h
  exact ⟨S, ⟨ρ, M, q, m, rfl, hS, hD.below hb⟩, fun _ hb => .inl hb, Below.kept hb⟩

set_option maxHeartbeats 2000000 in
theorem dappend_of {S : Nat → Prop} {w : World} {d : Value} {fs : Files} (n : ByteArray) (bv : Value) (bl : List Nat) (h : Dk S w d fs) (hB : @Bs keepAll w.heap.size w bv bl) (hby : ∀ c ∈ bl, c < 256) (hbm : bl.length ≤ 140737488355328) : Calls Tryd.prog 25 #[d, .string n, bv] w (Did Dk S d w (dAppend fs n bl)) := by
  letI := keepAll
  have hst := Leaves.refl h
  have hstB := fun w' hb => Leaves.below (w' := w') h hb
  obtain ⟨ρ, M, q, m, rfl, hS, hD⟩ := h
  have hgv := given_of hD
  have hnm := nameMay_of n w
  have hvs : ∃ ab cb, bv = .slice ab bl.length cb := by
    obtain ⟨ab, cb, e, _⟩ := id hB
    exact ⟨ab, cb, e⟩
  obtain ⟨ab, cb, rfl⟩ := hvs
  cases hnt : mayName n with
  | false =>
    have E : Hid (Did Dk S (.pointer (some ⟨q, 0, none⟩)) w (dAppend fs n bl) (.returned (.int .i64 1)) w) := by
      unfold Hid dAppend
      rw [if_pos hnt]
      exact ⟨rfl, hst⟩
    rw [hnt] at hnm
    generalize Did Dk S (.pointer (some ⟨q, 0, none⟩)) w (dAppend fs n bl) = T at *
    clear hst hD hstB hB
    go_enter Tryd.func25, Tryd.ntmps25
    go_wp2_with fail
    refine hgv.mono ?_
    rintro e w1 ⟨rfl, hw1⟩
    rw [hw1]
    clear hw1 w1 hgv
    go_wp2_with fail
    refine hnm.mono ?_
    rintro e w1 ⟨rfl, hw1⟩
    rw [hw1]
    clear hw1 w1 hnm
    go_wp2 <;> first | exact E.out | (go_ret; exact E.out)
  | true =>
    have hns := (may_size hnt).2
    have hn : n.size ≤ maxLen := by unfold maxLen; omega
    have hnf : ¬ mayName n = false := by rw [hnt]; simp
    rw [hnt] at hnm
    have hl := hD.sound.2.1
    have hc := hD.cell
    have hM := hD.map
    have hmt := Tryd.underlying56
    have hz := DiskAt.zeroF w
    cases hg : get fs n with
    | some f =>
      obtain ⟨p, v, hm, hF⟩ := hD.yes n f hg
      have hs := sound_get hD.sound hg
      have hvs2 : ∃ ao cap, v = .slice ao f.data.length cap := hF.own.shape
      obtain ⟨ao, cap, hv⟩ := hvs2
      have c0 : w.cell? ⟨p, 0, none⟩ = some (.slice ao f.data.length cap) := by rw [cells_of_block hF.block, hv]; rfl
      have q1 : IntKind.i64.wrap ((f.data.length : Int) + (bl.length : Int)) = (f.data.length : Int) + (bl.length : Int) := IntWalk.i64_in _ (by omega)
      by_cases hfull : 65536 < f.data.length + bl.length
      · have E : Hid (Did Dk S (.pointer (some ⟨q, 0, none⟩)) w (dAppend fs n bl) (.returned (.int .i64 2)) w) := by
          unfold Hid dAppend
          rw [if_neg hnf, hg]
          dsimp only
          rw [if_pos hfull]
          exact ⟨rfl, hst⟩
        have hfi : (65536 : Int) < (f.data.length : Int) + (bl.length : Int) := by omega
        generalize Did Dk S (.pointer (some ⟨q, 0, none⟩)) w (dAppend fs n bl) = T at *
        clear hst hD hstB hB hF
        generalize fs.length = c at *
        go_enter Tryd.func25, Tryd.ntmps25
        go_wp2_with fail
        refine hgv.mono ?_
        rintro e w1 ⟨rfl, hw1⟩
        rw [hw1]
        clear hw1 w1 hgv
        go_wp2_with fail
        refine hnm.mono ?_
        rintro e w1 ⟨rfl, hw1⟩
        rw [hw1]
        clear hw1 w1 hnm
        go_wp2_with (refine wp_mp_look rfl _ _ _ _ rfl hmt hz m c M hM rfl n rfl hn ?_)
        all_goals first | exact E.out | (go_ret; exact E.out)
      · have hfi : ¬ (65536 : Int) < (f.data.length : Int) + (bl.length : Int) := by omega
        have hpt : (ρ p).1 ≠ 0 := by rw [hF.mark]; simp
        have hpl := hD.lt p hpt
        have hvp : ∀ k, v.ownBlock = some k → k ≠ p := fun k hk => mark_ne (hF.row k hk) hF.mark (by simp)
        have E : ∀ v' w', Own 0 w' v' (f.data ++ bl) → w.grownBy w' v.ownBlock → (∀ k, v'.ownBlock = some k → v.ownBlock = some k ∨ w.heap.size ≤ k) → w'.cell? ⟨p, 0, none⟩ = some (.slice ao f.data.length cap) ∧ w'.frozen? ⟨p, 0, none⟩ = false ∧ Hid (Did Dk S (.pointer (some ⟨q, 0, none⟩)) w (dAppend fs n bl) (.returned (.int .i64 0)) (w'.setCell ⟨p, 0, none⟩ v')) := by
          intro v' w' hO' hgr hrow
          have hp1 : w'.heap[p]? = _ := (hgr.block p hpl (fun e => hvp p e.symm rfl)).trans hF.block
          refine ⟨by rw [cells_of_block hp1, hv]; rfl, frozen_of hp1 0, ?_⟩
          unfold Hid dAppend
          rw [if_neg hnf, hg]
          dsimp only
          rw [if_neg hfull]
          refine ⟨rfl, turn hD hS hg hm hF (f.data ++ bl) f.safe v' (box2_0 hp1 v') (hO'.same fun k hk => set_block 0 _ ?_) hrow hgr.os hgr.tape hgr.output (by rw [set_size]; exact hgr.size) (fun b hb hne hnr => ?_) (by rw [List.length_append]; omega) (by rw [List.length_append]; omega) ?_⟩
          · rcases hrow k hk with h1 | h1
            · exact hvp k h1
            · omega
          · rw [set_block 0 _ hne]
            exact hgr.block b hb (fun e => hnr e.symm)
          · intro c hcm
            rcases List.mem_append.1 hcm with h1 | h1
            · exact hD.byte f (get_mem hg) c h1
            · exact hby c h1
        have hO := hF.own
        rw [hv] at hO E
        have hc2 : f.data.length + bl.length ≤ 140737488355328 := by omega
        generalize Did Dk S (.pointer (some ⟨q, 0, none⟩)) w (dAppend fs n bl) = T at *
        clear hst hD hstB hF hvp
        generalize fs.length = c at *
        go_enter Tryd.func25, Tryd.ntmps25
        go_wp2_with fail
        refine hgv.mono ?_
        rintro e w1 ⟨rfl, hw1⟩
        rw [hw1]
        clear hw1 w1 hgv
        go_wp2_with fail
        refine hnm.mono ?_
        rintro e w1 ⟨rfl, hw1⟩
        rw [hw1]
        clear hw1 w1 hnm
        go_wp2_with (first | refine wp_mp_look rfl _ _ _ _ rfl hmt hz m c M hM rfl n rfl hn ?_ | (at_builtin; refine wpList_append_bs2 rfl _ _ rfl 0 _ f.data rfl hO (Nat.zero_le _) w.heap.size _ bl rfl hB hc2 ?_))
        intro v' w' hO' _ hgr hrow
        obtain ⟨d0, g0, hE⟩ := E v' w' hO' hgr hrow
        obtain ⟨a5, c5, h5⟩ := hO'.shape
        rw [List.length_append] at h5
        subst h5
        clear E hO' hO hB hM
        go_wp2 <;> first | exact hE.out | (go_ret; exact hE.out)
    | none =>
      have hm := hD.no n hg
      have hbx := (Below.refl w.heap.size w).alloc (Nat.le_refl _) (.cells #[.slice none 0 0, .int .i64 0] 75)
      have hMx := hM.below hbx
      have hcx : (w.alloc (.cells #[.slice none 0 0, .int .i64 0] 75)).cell? ⟨q, 0, none⟩ = some (.map (some m)) := (hbx.cell (p := ⟨q, 0, none⟩) (World.block_lt_of_cell? w _ hc)).trans hc
      have q1 : IntKind.i64.wrap (bl.length : Int) = (bl.length : Int) := IntWalk.i64_in _ (by omega)
      have hli : ∀ j : Nat, (65536 : Int) < (j : Int) ↔ 65536 < j := fun j => by omega
      by_cases hfull : 64 ≤ fs.length ∨ 65536 < bl.length
      · have E : Hid (Did Dk S (.pointer (some ⟨q, 0, none⟩)) w (dAppend fs n bl) (.returned (.int .i64 2)) (w.alloc (.cells #[.slice none 0 0, .int .i64 0] 75))) := by
          unfold Hid dAppend
          rw [if_neg hnf, hg]
          dsimp only
          rw [if_pos hfull]
          exact ⟨rfl, hstB _ hbx⟩
        generalize Did Dk S (.pointer (some ⟨q, 0, none⟩)) w (dAppend fs n bl) = T at *
        clear hst hD hstB hB hli
        generalize fs.length = c at *
        by_cases hb1 : 65536 < bl.length
        · have hfi : (65536 : Int) < (bl.length : Int) := by omega
          clear hfull
          go_enter Tryd.func25, Tryd.ntmps25
          go_wp2_with fail
          refine hgv.mono ?_
          rintro e w1 ⟨rfl, hw1⟩
          rw [hw1]
          clear hw1 w1 hgv
          go_wp2_with fail
          refine hnm.mono ?_
          rintro e w1 ⟨rfl, hw1⟩
          rw [hw1]
          clear hw1 w1 hnm
          go_wp2_with (refine wp_mp_look rfl _ _ _ _ rfl hmt hz m c M hM rfl n rfl hn ?_)
          all_goals first | exact E.out | (go_ret; exact E.out)
        · have hfi : ¬ (65536 : Int) < (bl.length : Int) := by omega
          have hci : (64 : Int) ≤ (c : Int) := by omega
          have hlr := run_mp_len hMx
          clear hfull
          go_enter Tryd.func25, Tryd.ntmps25
          go_wp2_with fail
          refine hgv.mono ?_
          rintro e w1 ⟨rfl, hw1⟩
          rw [hw1]
          clear hw1 w1 hgv
          go_wp2_with fail
          refine hnm.mono ?_
          rintro e w1 ⟨rfl, hw1⟩
          rw [hw1]
          clear hw1 w1 hnm
          go_wp2_with (refine wp_mp_look rfl _ _ _ _ rfl hmt hz m c M hM rfl n rfl hn ?_)
          all_goals first | exact E.out | (go_ret; exact E.out)
      · have hfi : ¬ (65536 : Int) < (bl.length : Int) := by omega
        have hci : ¬ (64 : Int) ≤ (fs.length : Int) := by omega
        have hlr := run_mp_len hMx
        have hszx : (w.alloc (.cells #[.slice none 0 0, .int .i64 0] 75)).heap.size = w.heap.size + 1 := by simp
        have hpx := heap_alloc_new w (.cells #[.slice none 0 0, .int .i64 0] 75)
        have hOx : Own (w.heap.size + 1) (w.alloc (.cells #[.slice none 0 0, .int .i64 0] 75)) (.slice none 0 0) [] := Own.nil _ _
        have hBx := hB.below hbx
        have hqm := hD.qm
        have hml := hD.lt m (by rw [hD.markm]; decide)
        have E1 : ∀ v' w', Own (w.heap.size + 1) w' v' ([] ++ bl) → Below (w.heap.size + 1) (w.alloc (.cells #[.slice none 0 0, .int .i64 0] 75)) w' → w'.cell? ⟨w.heap.size, 0, none⟩ = some (.slice none 0 0) ∧ w'.frozen? ⟨w.heap.size, 0, none⟩ = false ∧
            Calls Tryd.prog 38 #[.pointer (some ⟨q, 0, none⟩), .string n, .pointer (some ⟨w.heap.size, 0, none⟩)] (w'.setCell ⟨w.heap.size, 0, none⟩ v') fun e w3 => e = .returned (.tuple #[]) ∧ Hid (Did Dk S (.pointer (some ⟨q, 0, none⟩)) w (dAppend fs n bl) (.returned (.int .i64 0)) w3) := by
          intro v' w' hO' hb'
          have hp1 := (hb'.block w.heap.size (Nat.lt_succ_self _)).trans hpx
          have hbw : Below w.heap.size w w' := hbx.trans (hb'.mono (Nat.le_succ _))
          have hbs := hbw.setCell (p := ⟨w.heap.size, 0, none⟩) (Nat.le_refl _) v'
          refine ⟨by rw [cells_of_block hp1]; rfl, frozen_of hp1 0, ?_⟩
          have hc3 : (w'.setCell ⟨w.heap.size, 0, none⟩ v').cell? ⟨q, 0, none⟩ = some (.map (some m)) := (hbs.cell (p := ⟨q, 0, none⟩) (World.block_lt_of_cell? w _ hc)).trans hc
          refine (keep_of n (.pointer (some ⟨w.heap.size, 0, none⟩)) hc3 (hM.below hbs) (by unfold maxLen; omega) (by omega)).mono ?_
          rintro e w3 ⟨rfl, hM3, hg3⟩
          refine ⟨rfl, ?_⟩
          unfold Hid dAppend
          rw [if_neg hnf, hg]
          dsimp only
          rw [if_neg hfull]
          rw [if_pos hm] at hM3
          have hp3 : w3.heap[w.heap.size]? = some (.cells #[v', .int .i64 ((0 : Nat) : Int)] 75 (0, 0)) := by
            refine (hg3.block w.heap.size ?_ (fun e => ?_)).trans (box2_0 hp1 v')
            · rw [set_size]
              exact (Array.getElem?_eq_some_iff.1 hp1).1
            · have := Option.some.inj e
              omega
          have hO3 : Own 0 w3 v' bl := by
            rw [List.nil_append] at hO'
            refine (hO'.mono (Nat.zero_le _)).same fun k hk => ?_
            have hk1 := World.ownsRow.lt hO' k hk
            refine (hg3.block k (by rw [set_size]; exact hk1.2) (fun e => ?_)).trans (set_block 0 _ (by omega))
            have := Option.some.inj e
            omega
          exact ⟨rfl, made hD hS hg hp3 hO3 (fun k hk => by have := (World.ownsRow.lt hO' k hk).1; omega) (Nat.le_refl _) hM3 (hg3.os.trans hbs.os) (hg3.tape.trans hbs.tape) (hg3.output.trans hbs.output) (Nat.le_trans hbs.size hg3.size) (fun b hb hne => (hg3.block b (Nat.lt_of_lt_of_le hb hbs.size) (fun e => hne (Option.some.inj e))).trans (hbs.block b hb)) hnt (by omega) (by omega) (Nat.zero_le _) hby⟩
        have hc2 : ([] : List Nat).length + bl.length ≤ 140737488355328 := by simp; omega
        have hn0 : w.heap.size + 1 ≤ (w.alloc (.cells #[.slice none 0 0, .int .i64 0] 75)).heap.size := by rw [hszx]; exact Nat.le_refl _
        generalize Did Dk S (.pointer (some ⟨q, 0, none⟩)) w (dAppend fs n bl) = T at *
        clear hst hD hstB hfull hB
        generalize fs.length = c at *
        go_enter Tryd.func25, Tryd.ntmps25
        go_wp2_with fail
        refine hgv.mono ?_
        rintro e w1 ⟨rfl, hw1⟩
        rw [hw1]
        clear hw1 w1 hgv
        go_wp2_with fail
        refine hnm.mono ?_
        rintro e w1 ⟨rfl, hw1⟩
        rw [hw1]
        clear hw1 w1 hnm
        go_wp2_with (first | refine wp_mp_look rfl _ _ _ _ rfl hmt hz m c M hM rfl n rfl hn ?_ | (at_builtin; refine wpList_append_bs rfl _ _ rfl (w.heap.size + 1) _ [] rfl hOx hn0 w.heap.size _ bl rfl hBx hc2 ?_))
        intro v' w' hO' hb'
        obtain ⟨d0, g0, hk⟩ := E1 v' w' hO' hb'
        obtain ⟨a5, c5, h5⟩ := hO'.shape
        have h6 : v' = .slice a5 bl.length c5 := h5
        clear h5
        subst h6
        clear E1 hO' hOx hBx hM hMx hlr
        go_wp2_with fail
        refine hk.mono ?_
        rintro e w3 ⟨rfl, hE⟩
        clear hk
        go_wp2 <;> first | exact hE.out | (go_ret; exact hE.out)
end Go.Proofs.YtoipjmjhplkibaaDoor

