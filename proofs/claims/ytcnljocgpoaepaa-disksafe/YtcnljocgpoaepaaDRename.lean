/- The program's Rename. -/
import Derived.Test.YtcnljocgpoaepaaDActs
namespace Go.Proofs.Ytcnljocgpoaepaa
open Go.RowKit DiskMath
set_option maxRecDepth 100000
set_option linter.unusedSimpArgs false
set_option linter.unusedVariables false

/-- The marks, a file's own two blocks under its new name. -/
def nameMark (ρ : Mark) (p : Nat) (v : Value) (t : ByteArray) : Mark := fun b => if b = p then (3, t) else if v.ownBlock = some b then (4, t) else ρ b

/-- A file that was named otherwise. -/
theorem renamed {S : Nat → Prop} {ρ : Mark} {M : ByteArray → Option Value} {w w' : World} {q m : Nat} {fs : Files} (h : DiskAt ρ M w q m fs) (hS : ∀ b, S b ↔ (ρ b).1 ≠ 0) {n t : ByteArray} {f : File} {p : Nat} {v : Value} (hf : get fs n = some f) (hF : FileAt w ρ n f p v) (ht : mayName t = true)
    {M1 : ByteArray → Option Value} (hM1 : ∀ k, M1 k = if k = n then none else M k) (hM' : Mp w' m (upd M1 t (some (.pointer (some ⟨p, 0, none⟩)))) (if M1 t = none then fs.length - 1 + 1 else fs.length - 1)) (hgr : w.grownBy w' (some m)) :
    Leaves S w (.pointer (some ⟨q, 0, none⟩)) (putF (DiskMath.out fs n) ⟨t, f.data, f.safe⟩) w' := by
  have hg := sound_get h.sound hf
  have hpt : (ρ p).1 ≠ 0 := by rw [hF.mark]; simp
  have hvt : ∀ k, v.ownBlock = some k → (ρ k).1 ≠ 0 := fun k hk => by rw [hF.row k hk]; simp
  have hin : ∀ b, (ρ b).1 ≠ 0 → b ≠ m → w'.heap[b]? = w.heap[b]? := fun b hb hne => hgr.block b (h.lt b hb) (fun e => hne (Option.some.inj e))
  have hpm : p ≠ m := mark_ne hF.mark h.markm (by simp)
  have hvm : ∀ k, v.ownBlock = some k → k ≠ m := fun k hk => mark_ne (hF.row k hk) h.markm (by simp)
  have hvp : ∀ k, v.ownBlock = some k → k ≠ p := fun k hk => mark_ne (hF.row k hk) hF.mark (by simp)
  have hsame : ∀ b, (nameMark ρ p v t b).1 ≠ 0 ↔ (ρ b).1 ≠ 0 := by
    intro b
    unfold nameMark
    split
    · rename_i e
      rw [e]
      exact ⟨fun _ => hpt, fun _ => by simp⟩
    · split
      · rename_i e
        exact ⟨fun _ => hvt b e, fun _ => by simp⟩
      · exact Iff.rfl
  have hoth : ∀ b, b ≠ p → v.ownBlock ≠ some b → nameMark ρ p v t b = ρ b := fun b h1 h2 => by
    unfold nameMark
    rw [if_neg h1, if_neg h2]
  have hgo : ∀ k, get (DiskMath.out fs n) k = if k = n then none else get fs k := fun k => out_get n k fs
  have hR := out_rises (n := n) h.sound.1
  have hgp : ∀ k, get (putF (DiskMath.out fs n) ⟨t, f.data, f.safe⟩) k = if t = k then some ⟨t, f.data, f.safe⟩ else get (DiskMath.out fs n) k := fun k => put_get k hR
  have hnn : ∀ k, M1 k = none ↔ get (DiskMath.out fs n) k = none := by
    intro k
    rw [hM1, hgo]
    by_cases e : k = n
    · rw [if_pos e, if_pos e]
      exact ⟨fun _ => rfl, fun _ => rfl⟩
    · rw [if_neg e, if_neg e]
      constructor
      · intro hk
        cases hgk : get fs k with
        | none => rfl
        | some g =>
          obtain ⟨p', v', h1, _⟩ := h.yes k g hgk
          rw [h1] at hk
          cases hk
      · exact h.no k
  refine ⟨S, ⟨nameMark ρ p v t, upd M1 t (some (.pointer (some ⟨p, 0, none⟩))), q, m, rfl, fun b => (hS b).trans (hsame b).symm, ?_⟩, fun _ hb => .inl hb, hgr.os, hgr.tape, hgr.output, hgr.size, fun k hk hns => hgr.block k hk (fun e => hns ?_)⟩
  · refine ⟨(hin q (by rw [h.markq]; decide) h.qm).trans h.block, ?_, ?_, ?_, fun b hb => Nat.lt_of_lt_of_le (h.lt b ((hsame b).1 hb)) hgr.size, ?_, ?_, ?_, ?_⟩
    · have e1 : (putF (DiskMath.out fs n) ⟨t, f.data, f.safe⟩).length = if get (DiskMath.out fs n) t = none then (DiskMath.out fs n).length + 1 else (DiskMath.out fs n).length := put_length hR
      have e2 : (DiskMath.out fs n).length = fs.length - 1 := out_len h.sound.1 hf
      rw [e1, e2]
      simp only [hnn t] at hM'
      exact hM'
    · rw [hoth q (mark_ne h.markq hF.mark (by simp)) (fun e => mark_ne (hF.row q e) h.markq (by simp) rfl)]
      exact h.markq
    · rw [hoth m hpm.symm (fun e => hvm m e rfl)]
      exact h.markm
    · have := sound_rename h.sound n t
      unfold dRename at this
      rw [hf] at this
      dsimp only at this
      rw [if_neg (by rw [ht]; simp)] at this
      exact this
    · intro g hg' c hc
      rcases put_mem hg' with rfl | hg'
      · exact h.byte f (get_mem hf) c hc
      · exact h.byte g (List.mem_filter.1 hg'.1).1 c hc
    · intro k hk
      rw [hgp] at hk
      by_cases e : t = k
      · rw [if_pos e] at hk; cases hk
      · rw [if_neg e] at hk
        unfold upd
        rw [if_neg (fun e' => e e'.symm)]
        exact (hnn k).2 hk
    · intro k g hk
      rw [hgp] at hk
      by_cases e : t = k
      · rw [if_pos e] at hk
        cases hk
        subst e
        refine ⟨p, v, by unfold upd; rw [if_pos rfl], ⟨(hin p hpt hpm).trans hF.block, hF.own.same fun j hj => hin j (hvt j hj) (hvm j hj), ?_, ?_⟩⟩
        · unfold nameMark; rw [if_pos rfl]
        · intro j hj
          unfold nameMark
          rw [if_neg (hvp j hj), if_pos hj]
      · rw [if_neg e, hgo] at hk
        by_cases e2 : k = n
        · rw [if_pos e2] at hk; cases hk
        · rw [if_neg e2] at hk
          obtain ⟨p', v', h1, h2⟩ := h.yes k g hk
          refine ⟨p', v', ?_, h2.same fun b hb => ?_⟩
          · unfold upd
            rw [if_neg (fun e' => e e'.symm), hM1, if_neg e2]
            exact h1
          · have ht' : (ρ b).1 ≠ 0 := by rcases hb with hb | hb <;> (rw [hb]; simp)
            have hn' : (ρ b).2 = k := by rcases hb with hb | hb <;> rw [hb]
            refine ⟨hin b ht' (fun e' => ?_), hoth b (fun e' => ?_) (fun e' => ?_)⟩
            · rw [e', h.markm] at hb
              rcases hb with hb | hb <;> (injection hb with hb; cases hb)
            · rw [e', hF.mark] at hn'
              exact e2 hn'.symm
            · rw [hF.row b e'] at hn'
              exact e2 hn'.symm
  · rw [hS, Option.some.inj e, h.markm]
    simp

set_option maxHeartbeats 1000000 in
theorem drename_of {S : Nat → Prop} {w : World} {d : Value} {fs : Files} (n t : ByteArray) (hn : n.size ≤ maxLen) (h : Dk S w d fs) : Calls Try.prog 21 #[d, .string n, .string t] w (Did Dk S d w (dRename fs n t)) := by
  have hst := Leaves.refl h
  obtain ⟨ρ, M, q, m, rfl, hS, hD⟩ := h
  have hfd := find_of n hD hn
  have hnm := nameMay_of t w
  cases hg : get fs n with
  | none =>
    have hm := hD.no n hg
    have E : Hid (Did Dk S (.pointer (some ⟨q, 0, none⟩)) w (dRename fs n t) (.returned (.int .i64 4)) w) := by
      unfold Hid dRename
      rw [hg]
      exact ⟨rfl, hst⟩
    unfold FindT at hfd
    rw [hm] at hfd
    generalize Did Dk S (.pointer (some ⟨q, 0, none⟩)) w (dRename fs n t) = T at *
    clear hst hD
    go_enter Try.func21, Try.ntmps21
    go_wp2_with fail
    refine hfd.mono ?_
    rintro e w1 ⟨rfl, hw1⟩
    rw [hw1]
    clear hw1 w1 hfd
    go_wp2 <;> first | exact E.out | (go_ret; exact E.out)
  | some f =>
    obtain ⟨p, v, hm, hF⟩ := hD.yes n f hg
    unfold FindT at hfd
    rw [hm] at hfd
    cases htm : mayName t with
    | false =>
      have E : Hid (Did Dk S (.pointer (some ⟨q, 0, none⟩)) w (dRename fs n t) (.returned (.int .i64 1)) w) := by
        unfold Hid dRename
        rw [hg]
        dsimp only
        rw [if_pos htm]
        exact ⟨rfl, hst⟩
      rw [htm] at hnm
      generalize Did Dk S (.pointer (some ⟨q, 0, none⟩)) w (dRename fs n t) = T at *
      clear hst hD hF
      go_enter Try.func21, Try.ntmps21
      go_wp2_with fail
      refine hfd.mono ?_
      rintro e w1 ⟨rfl, hw1⟩
      rw [hw1]
      clear hw1 w1 hfd
      go_wp2_with fail
      refine hnm.mono ?_
      rintro e w1 ⟨rfl, hw1⟩
      rw [hw1]
      clear hw1 w1 hnm
      go_wp2 <;> first | exact E.out | (go_ret; exact E.out)
    | true =>
      rw [htm] at hnm
      have hl := hD.sound.2.1
      have hts := (may_size htm).2
      have hqm := hD.qm
      have hc := hD.cell
      have hM := hD.map
      have hmt := Try.underlying50
      have E : ∀ w2 w3 e, Mp w2 m (upd M n none) (fs.length - 1) → w.grownBy w2 (some m) → KeepT w2 m (fs.length - 1) (upd M n none) t (.pointer (some ⟨p, 0, none⟩)) e w3 → e = .returned (.tuple #[]) ∧ Hid (Did Dk S (.pointer (some ⟨q, 0, none⟩)) w (dRename fs n t) (.returned (.int .i64 0)) w3) := by
        rintro w2 w3 e hM2 hg2 ⟨rfl, hM3, hg3⟩
        refine ⟨rfl, ?_⟩
        unfold Hid dRename
        rw [hg]
        dsimp only
        rw [if_neg (by rw [htm]; simp)]
        refine ⟨rfl, renamed hD hS hg hF htm (fun k => rfl) hM3 ⟨hg3.os.trans hg2.os, hg3.tape.trans hg2.tape, hg3.output.trans hg2.output, Nat.le_trans hg2.size hg3.size, fun i hi hne => (hg3.block i (Nat.lt_of_lt_of_le hi hg2.size) hne).trans (hg2.block i hi hne)⟩⟩
      have hkp : ∀ w2, Mp w2 m (upd M n none) (fs.length - 1) → w.grownBy w2 (some m) → w2.cell? ⟨q, 0, none⟩ = some (.map (some m)) ∧ Calls Try.prog 24 #[.pointer (some ⟨q, 0, none⟩), .string t, .pointer (some ⟨p, 0, none⟩)] w2 (KeepT w2 m (fs.length - 1) (upd M n none) t (.pointer (some ⟨p, 0, none⟩))) := fun w2 hM2 hg2 => by
        have hc2 := hg2.cell (a := ⟨q, 0, none⟩) hc (fun e => hqm (Option.some.inj e))
        exact ⟨hc2, keep_of t _ hc2 hM2 (by unfold maxLen; omega) (by omega)⟩
      generalize Did Dk S (.pointer (some ⟨q, 0, none⟩)) w (dRename fs n t) = T at *
      clear hst hD hF
      generalize hKT : KeepT = KT at *
      generalize fs.length = c at *
      go_enter Try.func21, Try.ntmps21
      go_wp2_with fail
      refine hfd.mono ?_
      rintro e w1 ⟨rfl, hw1⟩
      rw [hw1]
      clear hw1 w1 hfd
      go_wp2_with fail
      refine hnm.mono ?_
      rintro e w1 ⟨rfl, hw1⟩
      rw [hw1]
      clear hw1 w1 hnm
      go_wp2_with (first | refine wp_mp_del rfl _ _ _ _ rfl hmt m c M hM rfl n rfl hn ?_ | fail)
      intro w2 hM2 hg2
      obtain ⟨hc2, hk2⟩ := hkp w2 hM2 hg2
      clear hkp hM
      go_wp2_with fail
      refine hk2.mono ?_
      intro e w3 hT
      obtain ⟨rfl, hE⟩ := E w2 w3 e hM2 hg2 hT
      clear E hk2 hT hM2
      go_wp2 <;> first | exact hE.out | (go_ret; exact hE.out)
end Go.Proofs.Ytcnljocgpoaepaa
