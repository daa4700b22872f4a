/- The law DiskOwns answers true and leaves all memory as it was: the walk. -/
import Derived.Test.YtcnljocgpoaepaaTurns
namespace Go.Proofs.Ytcnljocgpoaepaa
open Go.RowKit DiskMath
set_option maxRecDepth 100000
set_option linter.unusedSimpArgs false
set_option linter.unusedVariables false

theorem append_first (n : ByteArray) (bl : List Nat) : (∃ k, dAppend [] n bl = ([], k) ∧ (k = 1 ∨ k = 2)) ∨ dAppend [] n bl = ([⟨n, bl, 0⟩], 0) := by
  unfold dAppend
  by_cases h1 : mayName n = false
  · rw [if_pos h1]
    exact .inl ⟨1, rfl, .inl rfl⟩
  · rw [if_neg h1, get_nil]
    dsimp only
    by_cases h2 : 64 ≤ ([] : Files).length ∨ 65536 < bl.length
    · rw [if_pos h2]
      exact .inl ⟨2, rfl, .inr rfl⟩
    · rw [if_neg h2]
      right
      simp [putF, put, putFrom]

set_option maxHeartbeats 4000000 in
theorem owns_law (n : ByteArray) (bv : Value) (bl : List Nat) (w : World) (hB : @Bs keepAll w.heap.size w bv bl) (hn : n.size ≤ maxLen) (hby : ∀ c ∈ bl, c < 256) (hlen : bl.length ≤ 140737488355328) :
    Calls Try.prog 5 #[.string n, bv] w fun e w' => e = .returned (.bool true) ∧ Below w.heap.size w w' := by
  letI := keepAll
  have h0 := dnew_of w
  have haw := awake_of
  have hap : ∀ S w' d, Below w.heap.size w w' → Dk S w' d [] → Calls Try.prog 18 #[d, .string n, bv] w' (Did Dk S d w' (dAppend [] n bl)) := fun S w' d hb h => dappend_of n bv bl h ((hB.below hb).mono hb.size) hby hlen
  have hstr : ∀ w', Below w.heap.size w w' → (convert 33 9 bv).run Try.prog w' = .ok (.string (str bl)) w' := fun w' hb => str_of (hB.below hb) hby
  obtain ⟨ab, cb, rfl, -⟩ := id hB
  go_enter Try.func5, Try.ntmps5
  go_wp2_with fail
  refine h0.mono ?_
  rintro e w1 ⟨S1, d, rfl, hD1, hS1, hb1⟩
  obtain ⟨q, rfl⟩ := hD1.shape
  have k1 := hap S1 w1 _ hb1 hD1
  clear h0 hap hD1
  rcases append_first n bl with ⟨k, hk, hk12⟩ | hk
  · rw [hk] at k1
    go_wp2_with fail
    refine k1.mono ?_
    rintro e w2 ⟨rfl, S2, hD2, hs2, hk2⟩
    obtain ⟨hS2, hb2⟩ := fresh_step hS1 hb1.size hs2 hk2
    have hw2 := hb1.trans hb2
    have ha := haw w2
    have hkn : ((k : Int) == 0) = false := by rcases hk12 with rfl | rfl <;> rfl
    clear k1 haw hD2 hk2 hstr
    dsimp only
    go_wp2_with fail
    refine ha.mono ?_
    rintro e w3 ⟨rfl, hb3⟩
    go_wp2
    go_ret
    exact ⟨rfl, hw2.trans (hb3.mono hw2.size)⟩
  · rw [hk] at k1
    go_wp2_with fail
    refine k1.mono ?_
    rintro e w2 ⟨rfl, S2, hD2, hs2, hk2⟩
    obtain ⟨hS2, hb2⟩ := fresh_step hS1 hb1.size hs2 hk2
    have hw2 := hb1.trans hb2
    dsimp only at hD2
    have hrd : ∀ w', Below w2.heap.size w2 w' → Calls Try.prog 12 #[.pointer (some ⟨q, 0, none⟩), .string n] w' fun e w'' => ∃ v, e = .returned (.tuple #[v, .bool true]) ∧ Own w'.heap.size w'' v bl ∧ Below w'.heap.size w' w'' := fun w' hb => by
      refine (dread_of n hn (diskOf.below hD2 hb)).mono ?_
      rintro e w'' ⟨v, l, rfl, hO, hb', hl⟩
      rw [get_cons, if_pos rfl] at hl ⊢
      subst hl
      exact ⟨v, rfl, hO, hb'⟩
    have hfl : ∀ w', Below w2.heap.size w2 w' → Calls Try.prog 15 #[.pointer (some ⟨q, 0, none⟩)] w' (FilesT w' [⟨n, bl, 0⟩]) := fun w' hb => dfiles_of (diskOf.below hD2 hb)
    have k2 := hrd w2 (Below.refl _ _)
    clear k1 hD2 hk2
    dsimp only
    go_wp2_with fail
    refine k2.mono ?_
    rintro e w3 ⟨v, rfl, hO3, hb3⟩
    have hR3 := hO3.rw
    obtain ⟨a3, c3, rfl⟩ := hO3.shape
    clear k2 hO3
    go_wp2
    go_loopg [8] bl.length (fun g s8 wr => ∃ i : Nat, i + g = bl.length ∧ s8 = .int .i64 (i : Int) ∧ Rw w2.heap.size wr (.slice a3 bl.length c3) bl.length ∧ Below w2.heap.size w2 wr)
    case atStart => exact ⟨0, by simp, rfl, hR3, hb3⟩
    case round =>
      obtain ⟨i, hi, rfl, hR, hbr⟩ := hrel
      by_cases hlt : i < bl.length
      · have hlti : (i : Int) < (bl.length : Int) := by omega
        obtain ⟨g, off, cp, hv, hg, ⟨c, hc⟩, hf, hset⟩ := hR.step hlt
        cases hv
        clear hR
        go_wp2
        go_roundg (gk - 1)
        case measure => omega
        case rel => exact ⟨i + 1, by omega, by go_num, (hset _).1, hbr.trans (hset _).2⟩
      · have hlti : ¬ (i : Int) < (bl.length : Int) := by omega
        have k3 := hfl wr hbr
        clear hfl hR3
        go_wp2_with fail
        refine k3.mono ?_
        rintro e w4 ⟨ov, rfl, hW4, hb4⟩
        have hbw4 := hbr.trans (hb4.mono hbr.size)
        obtain ⟨cs, hrow, hcl, hn4, hcs⟩ := hW4
        obtain ⟨sv, rfl⟩ : ∃ sv, cs = [sv] := by
          match cs, hcl with
          | [sv], _ => exact ⟨sv, rfl⟩
        obtain ⟨hOv, hap⟩ := hcs 0 sv _ rfl rfl
        obtain ⟨g0, cp0, rfl, hcp0, hcell⟩ := row_cell hrow (by simp)
        have d1 := hcell 1 sv rfl
        have hRv := hOv.rw
        obtain ⟨av, cv, rfl⟩ := hOv.shape
        simp only [Nat.zero_add] at d1
        dsimp only at hRv hap d1 ⊢
        clear k3 hrow hcell hcs hOv
        have hE5 : ∀ w', Below wr.heap.size w4 w' → Below w2.heap.size w2 w' := fun w' hb => hbw4.trans (hb.mono hbr.size)
        have hcpi : (1 : Int) ≤ (cp0 : Int) := by simp at hcp0; omega
        clear hcl
        go_wp2
        go_loopg [10] bl.length (fun g s10 wx => ∃ i : Nat, i + g = bl.length ∧ s10 = .int .i64 (i : Int) ∧ Rw wr.heap.size wx (.slice av bl.length cv) bl.length ∧ Below wr.heap.size w4 wx ∧ wx.cell? ⟨g0, 1, none⟩ = some (.slice av bl.length cv))
        case atStart => exact ⟨0, by simp, rfl, hRv, Below.refl _ _, d1⟩
        case round =>
          obtain ⟨j, hj, rfl, hR, hbx, d2⟩ := hrel
          by_cases hltj : j < bl.length
          · have hltji : (j : Int) < (bl.length : Int) := by omega
            obtain ⟨g, off, cp, hv, hg, ⟨c, hc⟩, hf, hset⟩ := hR.step hltj
            cases hv
            have hgg : g ≠ g0 := fun e => hap g rfl (by rw [e]; rfl)
            have d3 : ∀ c : Int, (wr.setCell ⟨g, off + j, none⟩ (.int .u8 c)).cell? ⟨g0, 1, none⟩ = some (.slice (some ⟨g, off, none⟩) bl.length cv) := fun c => by
              rw [World.cell?_of_block (set_block _ _ (fun e => hgg e.symm))]
              exact d2
            clear hR
            go_wp2
            go_roundg (gk - 1)
            case measure => omega
            case rel => exact ⟨j + 1, by omega, by go_num, (hset _).1, hbx.trans (hset _).2, d3 _⟩
          · have hltji : ¬ (j : Int) < (bl.length : Int) := by omega
            have hb5 := hE5 wr hbx
            have k5 := hrd wr hb5
            have hw5 := hw2.trans (hb5.mono hw2.size)
            clear hrd hE5 hR d1 hRv
            go_wp2_with fail
            refine k5.mono ?_
            rintro e w6 ⟨y, rfl, hO6, hb6⟩
            have hw6 := hw5.trans (hb6.mono hw5.size)
            have s1 := hstr w6 hw6
            have s2 := str_of (hO6.bs (Nat.zero_le _)) hby
            obtain ⟨a6, c6, rfl⟩ := hO6.shape
            have ha := haw w6
            have hse : ((str bl).toList == (str bl).toList) = true := by simp
            generalize str bl = sb at *
            clear k5 hstr haw hO6
            go_wp2_with fail
            refine ha.mono ?_
            rintro e w7 ⟨rfl, hb7⟩
            go_wp2
            go_ret
            exact ⟨rfl, hw6.trans (hb7.mono hw6.size)⟩
end Go.Proofs.Ytcnljocgpoaepaa
