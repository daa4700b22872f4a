import Derived.Test.YtgfoogeiancecaaGreatDoorHw37
import Derived.Test.YtgfoogeiancecaaGreatDoorHw36
import Derived.Test.YtgfoogeiancecaaGreatDoorHw40
/- The contract of a log's Append where the record may follow and the disk takes it. -/
namespace Go.Proofs.YtgfoogeiancecaaGreatDoor
open Go.RowKit WalMath DiskMath
set_option maxRecDepth 100000
set_option linter.unusedSimpArgs false
set_option linter.unusedVariables false

/-- What may be said of a log's segments in any case. -/
structure Few (sg : List Seg) : Prop where
  len : sg.length ≤ 900
  at_ : ∀ s ∈ sg, s.num < 100000000 ∧ s.recs.length ≤ 1000 ∧ sz s.recs ≤ 9000
  ne : NumNe sg
  new : ∀ s, sg.getLast? = some s → ∀ t ∈ sg, t.num ≠ s.num + 1

/-- An add leaves a log. -/
theorem AddWT.lgn {U S : Nat → Prop} {σ : Wm} {w w' : World} {q : Nat} {d : Value} {sg : List Seg} {fs : Files} {e : Ending} (h : AddWT σ w q d sg e w') (hD : Dk S w d fs) (hS : ∀ b, S b → (σ b).1 = 0) (hU : ∀ b, U b ↔ S b ∨ (σ b).1 ≠ 0) : LgN U w (.pointer (some ⟨q, 0, none⟩)) d sg fs w' := by
  obtain ⟨he, σ', sv', g1, g2, g3, g4, g5, g6, g7, g8⟩ := h
  refine ⟨fun b => S b ∨ (σ' b).1 ≠ 0, ⟨S, σ', q, sv', rfl, diskOf.kept hD g7 fun b hb => g8 b (diskOf.lt hD b hb) (hS b hb), g1, fun b hb => ?_, fun b => Iff.rfl⟩, fun b hb => ?_, ⟨g4, g5, g6, g7, fun b hb hn => g8 b hb ?_⟩⟩
  · by_cases h0 : (σ' b).1 = 0
    · exact h0
    · rcases g2 b h0 with h | h
      · exact absurd (hS b hb) h
      · have := diskOf.lt hD b hb
        omega
  · rcases hb with hb | hb
    · exact .inl ((hU b).2 (.inl hb))
    · exact (g2 b hb).imp (fun h => (hU b).2 (.inr h)) id
  · by_cases h0 : (σ b).1 = 0
    · exact h0
    · exact absurd ((hU b).2 (.inr h0)) hn

theorem Fr.Own.up {n : Nat} {w : World} {v : Value} {l : List Nat} (h : Fr.Own n w v l) : Go.Proofs.YtgfoogeiancecaaGreatDoor.Own n w v l := h

set_option maxHeartbeats 4000000 in
theorem append_ok {U : Nat → Prop} {w : World} {v d bv : Value} {sg : List Seg} {fs fs2 : Files} (r : Rec) (hT : Tb w) (hL : Lg U w v d sg fs) (hU2 : ∀ b, U b → 2 ≤ b) (hc : Cons sg fs) (hF : Few sg) (hok : okRec r) (hB : @Bs keepAll w.heap.size w bv r.data)
    (hch : lastIx 0 (recsOf sg) = 0 ∨ r.index = lastIx 0 (recsOf sg) + 1) (hnum : roomN sg < 100000000) (hap : dAppend (roomF sg fs) (segName (roomN sg)) (recB r) = (fs2, 0)) :
    Calls Tryz.prog 17 #[v, .agg #[.int .u64 (r.index : Int), bv]] w fun e w' => e = .returned (.int .i64 0) ∧ LgN U w v d (addS sg (roomN sg) r) fs2 w' := by
  letI := keepAll
  obtain ⟨ba, bc, rfl, hb1, hb2, -⟩ := id hB
  have hlen4 := hok.2.2.1
  have hrec : (recB r).length ≤ 5000 := by
    have := rec_small hok
    unfold recB
    rw [FrameMath.frameB_length]
    have h1 := WireMath.uv_len10 hok.2.1
    have h2 : (WireMath.uv ((WireMath.uv r.index ++ r.data).length + 5)).length ≤ 10 := WireMath.uv_len10 (by rw [List.length_append]; omega)
    rw [List.length_append] at *
    omega
  have hb0 : Below w.heap.size w (w.alloc (.cells #[.int .u64 (r.index : Int), .slice ba r.data.length bc] 44)) := (Below.refl _ _).alloc (Nat.le_refl _) _
  have hs0 : (w.alloc (.cells #[.int .u64 (r.index : Int), .slice ba r.data.length bc] 44)).heap.size = w.heap.size + 1 := by simp
  have hbk0 := heap_alloc_new w (.cells #[.int .u64 (r.index : Int), .slice ba r.data.length bc] 44)
  have hUl := hL.lt
  obtain ⟨S0, σ0, q, sv0, rfl, hD0, hW0, -, -⟩ := hL.ex
  have kaw := wawake_of (hT.new hb0) (diskOf.below hD0 hb0) (hW0.below hb0) hc
  have klast : ∀ W, Below w.heap.size w W → Calls Tryz.prog 7 #[.pointer (some ⟨q, 0, none⟩)] W fun e w' => e = .returned (.int .u64 (lastIx 0 (recsOf sg) : Int)) ∧ Below W.heap.size W w' := fun W hb => last_of (hT.new hb) (diskOf.below hD0 hb) (hW0.below hb) hc (fun s hs => by have := (hF.at_ s hs).2.1; omega)
  have kby : ∀ W, Below w.heap.size w W → Calls Tryz.prog 44 #[.agg #[.int .u64 (r.index : Int), .slice ba r.data.length bc]] W fun e w' => ∃ v', e = .returned v' ∧ Own W.heap.size w' v' (recB r) ∧ Below W.heap.size W w' := fun W hb => Fr.recbytes_of w.heap.size r _ W (hT.new hb).1 (hB.fr.below hb) hok hb.size
  have krm : ∀ W, Below w.heap.size w W → Calls Tryz.prog 45 #[.pointer (some ⟨q, 0, none⟩)] W fun e w' => e = .returned (.int .i64 (roomN sg : Int)) ∧ LgN U W (.pointer (some ⟨q, 0, none⟩)) d sg (roomF sg fs) w' := fun W hb => room_of (hT.new hb) (hL.below hb) (by have := hF.len; omega) (fun s hs => ⟨(hF.at_ s hs).1, by have := (hF.at_ s hs).2.1; omega⟩)
  obtain ⟨dq, rfl⟩ := hD0.shape
  have hr0 : ((r.index : Int) == 0) = false := by have := hok.1; simp; omega
  have hr1 : ¬ (r.index : Int) = 0 := by have := hok.1; omega
  have hd4 : ¬ (4096 : Int) < (r.data.length : Int) := by omega
  obtain ⟨L, hLd⟩ : ∃ L, Hid (L = lastIx 0 (recsOf sg)) := ⟨_, rfl⟩
  rw [← hLd.out] at klast hch
  obtain ⟨nm, hnm⟩ : ∃ n, Hid (n = roomN sg) := ⟨_, rfl⟩
  rw [← hnm.out] at krm hap hnum ⊢
  have hnm1 : ¬ (99999999 : Int) < (nm : Int) := by omega
  have hby := FrameMath.frameB_lt (k := 1) (by decide) (d := WireMath.uv r.index ++ r.data) (fun c hc => by
    rcases List.mem_append.1 hc with hc | hc
    · exact WireMath.uv_bytes _ c hc
    · exact hok.2.2.2 c hc)
  have hbox0 : (w.alloc (.cells #[.int .u64 (r.index : Int), .slice ba r.data.length bc] 44)).cell? ⟨w.heap.size, 0, none⟩ = some (.int .u64 (r.index : Int)) := by rw [cells_of_block hbk0]; rfl
  have hnU : ∀ k, w.heap.size ≤ k → ¬ U k := fun k hk h => by have := hUl k h; omega
  -- what follows behind room
  have kend : ∀ W w4 b, Below (w.heap.size + 1) (w.alloc (.cells #[.int .u64 (r.index : Int), .slice ba r.data.length bc] 44)) W → Own W.heap.size w4 b (recB r) → Below W.heap.size W w4 → ∀ w5, LgN U w4 (.pointer (some ⟨q, 0, none⟩)) (.pointer (some ⟨dq, 0, none⟩)) sg (roomF sg fs) w5 → Hid (w5.cell? ⟨w.heap.size, 0, none⟩ = some (.int .u64 (r.index : Int)) ∧ w5.cell? ⟨q, 0, none⟩ = some (.pointer (some ⟨dq, 0, none⟩)) ∧ Tb w5 ∧ (∀ W', Below w5.heap.size w5 W' → W'.cell? ⟨q, 0, none⟩ = some (.pointer (some ⟨dq, 0, none⟩)) ∧ Calls Tryz.prog 46 #[.pointer (some ⟨dq, 0, none⟩), .string (segName nm), b] W' fun e w' => e = .returned (.int .i64 0) ∧ w'.cell? ⟨q, 0, none⟩ = some (.pointer (some ⟨dq, 0, none⟩)) ∧ w'.cell? ⟨w.heap.size, 0, none⟩ = some (.int .u64 (r.index : Int)) ∧ Calls Tryz.prog 48 #[.pointer (some ⟨q, 0, none⟩), .int .i64 (nm : Int), .int .u64 (r.index : Int), .int .i64 ((recB r).length : Int)] w' fun e w9 => e = .returned (.tuple #[]) ∧ Hid (LgN U w (.pointer (some ⟨q, 0, none⟩)) (.pointer (some ⟨dq, 0, none⟩)) (addS sg nm r) fs2 w9))) := by
    intro W w4 b hbW hO hb4 w5 hN
    have hbW' : Below w.heap.size w W := hb0.trans (hbW.mono (by omega))
    have hszW : w.heap.size + 1 ≤ W.heap.size := by have := hbW.size; rw [hs0] at this; exact this
    have hbw4 : Below w.heap.size w w4 := hbW'.trans (hb4.mono (by omega))
    have hsz4 := hb4.size
    obtain ⟨U', hL5, hst, hk5⟩ := hN
    have hsz5' := hk5.size
    have cbW : W.cell? ⟨w.heap.size, 0, none⟩ = some (.int .u64 (r.index : Int)) := (hbW.cell (p := ⟨w.heap.size, 0, none⟩) (Nat.lt_succ_self _)).trans hbox0
    have cb4 : w4.cell? ⟨w.heap.size, 0, none⟩ = some (.int .u64 (r.index : Int)) := (hb4.cell (p := ⟨w.heap.size, 0, none⟩) (by show w.heap.size < _; omega)).trans cbW
    have cbx : w5.cell? ⟨w.heap.size, 0, none⟩ = some (.int .u64 (r.index : Int)) := hk5.cell cb4 (hnU _ (Nat.le_refl _))
    obtain ⟨S5, σ5, q5, sv5, e5, hD5, hW5, hS5, hU5⟩ := hL5.ex
    cases e5
    have h2w := hT.two
    have hT5 : Tb w5 := (hT.new hbw4).below (hk5.below (n := 2) (by omega) hU2) (Nat.le_refl _)
    have hO5 : Own W.heap.size w5 b (recB r) := hO.same (fun k hk => hk5.block k (hO.lt hk).2 (hnU k (by have := (hO.lt hk).1; omega)))
    refine ⟨cbx, by rw [cells_of_block hW5.block]; rfl, hT5, fun W' hb' => ⟨by rw [cells_of_block (hW5.below hb').block]; rfl, ?_⟩⟩
    have hap' := diskOf.append (segName nm) b (recB r) (diskOf.below hD5 hb') ((hO5.below hb').bs (Nat.zero_le _)) hby (by omega)
    rw [hap] at hap'
    refine hap'.mono ?_
    rintro e w' ⟨he, S', g1, g2, g3⟩
    have hN7 := Lg.disk (hW5.below hb') hS5 hU5 g1 g2 g3
    obtain ⟨U7, hL7, hst7, hk7⟩ := hN7
    have hnU' : ¬ U' w.heap.size := fun h => by
      rcases hst _ h with h | h
      · exact hnU _ (Nat.le_refl _) h
      · omega
    have hcx : w'.cell? ⟨w.heap.size, 0, none⟩ = some (.int .u64 (r.index : Int)) := hk7.cell ((hb'.cell (p := ⟨w.heap.size, 0, none⟩) (by show w.heap.size < _; omega)).trans cbx) hnU'
    obtain ⟨S7, σ7, q7, sv7, e7, hD7, hW7, hS7, hU7⟩ := hL7.ex
    cases e7
    have hU2' : ∀ b, U' b → 2 ≤ b := fun b hb => (hst b hb).elim (hU2 b) fun h => by omega
    have hT7 : Tb w' := (hT5.new hb').below (hk7.below (n := 2) (by have := hb'.size; omega) hU2') (Nat.le_refl _)
    refine ⟨he, by rw [cells_of_block hW7.block]; rfl, hcx, ?_⟩
    refine (addw_of nm r hT7 hW7 hF.len hF.ne (fun s hs hne t ht => ?_) (fun s hs => ⟨(hF.at_ s hs).1, (hF.at_ s hs).2.1, by have := (hF.at_ s hs).2.2; omega⟩) (by omega) (by omega)).mono ?_
    · have hh : nm = s.num + 1 := by
        rw [hnm.out] at hne ⊢
        unfold roomN at *
        rw [hs] at hne ⊢
        dsimp only at hne ⊢
        split at hne
        · exact absurd rfl hne
        · rename_i h4
          exact if_neg h4
      rw [hh]
      exact hF.new s hs t ht
    · intro e w9 hA
      refine ⟨hA.1, ?_⟩
      exact LgN.trans (hst.after hbw4) (Kept.after hbw4 hk5) (LgN.trans (fun b hb => .inl hb) (Below.kept hb') (LgN.trans hst7 hk7 (hA.lgn hD7 hS7 hU7)))
  generalize LgN U w (.pointer (some ⟨q, 0, none⟩)) (.pointer (some ⟨dq, 0, none⟩)) (addS sg nm r) fs2 = T at *
  have hb1x : ∀ W, Below (w.heap.size + 1) (w.alloc (.cells #[.int .u64 (r.index : Int), .slice ba r.data.length bc] 44)) W → Below w.heap.size w W := fun W h => hb0.trans (h.mono (by omega))
  have hcx : ∀ W, Below (w.heap.size + 1) (w.alloc (.cells #[.int .u64 (r.index : Int), .slice ba r.data.length bc] 44)) W → W.cell? ⟨w.heap.size, 0, none⟩ = some (.int .u64 (r.index : Int)) ∧ W.cell? ⟨w.heap.size, 1, none⟩ = some (.slice ba r.data.length bc) := fun W h => ⟨(h.cell (p := ⟨w.heap.size, 0, none⟩) (Nat.lt_succ_self _)).trans hbox0, (h.cell (p := ⟨w.heap.size, 1, none⟩) (Nat.lt_succ_self _)).trans (by rw [cells_of_block hbk0]; rfl)⟩
  rw [hs0] at kaw
  have hgap : L = 0 ∨ ((L : Int) ≠ 0 ∧ IntKind.u64.wrap ((L : Int) + 1) = (r.index : Int)) := by
    rcases hch with h | h
    · exact .inl h
    · rcases Nat.eq_zero_or_pos L with h0 | h0
      · exact .inl h0
      · have := hok.2.1
        exact .inr ⟨by omega, by rw [show (L : Int) + 1 = (r.index : Int) by omega]; exact IntWalk.u64_in _ (by omega)⟩
  clear hD0 hW0 hL hF hc hUl hnU hap hT hok hch hb0 hbk0 hbox0 hlen4 hby hU2 hB
  go_enter Tryz.func17, Tryz.ntmps17
  go_wp2_with fail
  refine kaw.mono ?_
  rintro e w1 ⟨rfl, b1⟩
  obtain ⟨x0, x1⟩ := hcx w1 b1
  have kl := klast w1 (hb1x w1 b1)
  clear kaw klast
  go_wp2_with fail
  refine kl.mono ?_
  rintro e w2 ⟨rfl, b2⟩
  have b12 := b1.trans (b2.mono (by have := b1.size; rw [hs0] at this; exact this))
  obtain ⟨y0, y1⟩ := hcx w2 b12
  clear kl x0 x1
  have kb := kby w2 (hb1x w2 b12)
  clear kby
  rcases hgap with rfl | ⟨hL0, hgap⟩
  · go_wp2_with fail
    refine kb.mono ?_
    rintro e w4 ⟨b, rfl, hO, b4⟩
    have hO' : Own w2.heap.size w4 b (recB r) := hO
    obtain ⟨bb, bcap, rfl⟩ := hO'.shape
    have kr := krm w4 ((hb1x w2 b12).trans (b4.mono (by have := (hb1x w2 b12).size; exact this)))
    have kE := kend w2 w4 _ b12 hO' b4
    clear kb krm kend y0 y1 hcx hO hO'
    go_wp2_with fail
    refine kr.mono ?_
    rintro e w5 ⟨rfl, hN5⟩
    obtain ⟨z0, z1, hT5, kap⟩ := (kE w5 hN5).out
    clear kr kE hN5
    have hdr : Below w5.heap.size w5 w5.drew := (Below.refl _ _).drew
    have knm := nameOf_of nm w5.drew (hT5.new hdr) hnum
    have x0 := (kap _ hdr).1
    have hd99 : decide ((99999999 : Int) < (nm : Int)) = false := by simp; omega
    go_wp2
    go_region_held3 (fun w' => w'.cell? ⟨q, 0, none⟩ = some (.pointer (some ⟨dq, 0, none⟩)))
      (first | exact x0 | exact v1 | exact (kap _ b6').1 | go_keep)
      (first
        | (go_at_call 47; refine knm.mono ?_; rintro e w6 ⟨rfl, b6⟩; have b6' := hdr.trans (b6.mono hdr.size))
        | (go_at_call 46; refine (kap _ b6').2.mono ?_; rintro e w7 ⟨rfl, v1, v2, kad⟩))
    clear kap knm x0 hdr hT5
    go_wp2_with fail
    refine kad.mono ?_
    rintro e w9 ⟨rfl, hfin⟩
    clear kad
    go_wp2
    go_ret
    exact ⟨by go_num, hfin.out⟩
  · have hL1 : ((L : Int) == 0) = false := by simp; omega
    go_wp2_with fail
    refine kb.mono ?_
    rintro e w4 ⟨b, rfl, hO, b4⟩
    have hO' : Own w2.heap.size w4 b (recB r) := hO
    obtain ⟨bb, bcap, rfl⟩ := hO'.shape
    have kr := krm w4 ((hb1x w2 b12).trans (b4.mono (by have := (hb1x w2 b12).size; exact this)))
    have kE := kend w2 w4 _ b12 hO' b4
    clear kb krm kend y0 y1 hcx hO hO'
    go_wp2_with fail
    refine kr.mono ?_
    rintro e w5 ⟨rfl, hN5⟩
    obtain ⟨z0, z1, hT5, kap⟩ := (kE w5 hN5).out
    clear kr kE hN5
    have hdr : Below w5.heap.size w5 w5.drew := (Below.refl _ _).drew
    have knm := nameOf_of nm w5.drew (hT5.new hdr) hnum
    have x0 := (kap _ hdr).1
    have hd99 : decide ((99999999 : Int) < (nm : Int)) = false := by simp; omega
    go_wp2
    go_region_held3 (fun w' => w'.cell? ⟨q, 0, none⟩ = some (.pointer (some ⟨dq, 0, none⟩)))
      (first | exact x0 | exact v1 | exact (kap _ b6').1 | go_keep)
      (first
        | (go_at_call 47; refine knm.mono ?_; rintro e w6 ⟨rfl, b6⟩; have b6' := hdr.trans (b6.mono hdr.size))
        | (go_at_call 46; refine (kap _ b6').2.mono ?_; rintro e w7 ⟨rfl, v1, v2, kad⟩))
    clear kap knm x0 hdr hT5
    go_wp2_with fail
    refine kad.mono ?_
    rintro e w9 ⟨rfl, hfin⟩
    clear kad
    go_wp2
    go_ret
    exact ⟨by go_num, hfin.out⟩
end Go.Proofs.YtgfoogeiancecaaGreatDoor

/- The contract of a log's Append of a record that is too long: nothing turns. -/
namespace Go.Proofs.YtgfoogeiancecaaGreatDoor
open Go.RowKit WalMath DiskMath
set_option maxRecDepth 100000
set_option linter.unusedSimpArgs false
set_option linter.unusedVariables false

set_option maxHeartbeats 1000000 in
theorem append_long {U : Nat → Prop} {w : World} {v d : Value} {sg : List Seg} {fs : Files} (n : Nat) (ba : Option Addr) (bl bc : Nat) (hT : Tb w) (hL : Lg U w v d sg fs) (hc : Cons sg fs) (hn : 0 < n) (hl : 4096 < bl) :
    Calls Tryz.prog 17 #[v, .agg #[.int .u64 (n : Int), .slice ba bl bc]] w fun e w' => e = .returned (.int .i64 3) ∧ Below w.heap.size w w' := by
  have hb0 : Below w.heap.size w (w.alloc (.cells #[.int .u64 (n : Int), .slice ba bl bc] 44)) := (Below.refl _ _).alloc (Nat.le_refl _) _
  have hbk0 := heap_alloc_new w (.cells #[.int .u64 (n : Int), .slice ba bl bc] 44)
  obtain ⟨S0, σ0, q, sv0, rfl, hD0, hW0, -, -⟩ := hL.ex
  have kaw := wawake_of (hT.new hb0) (diskOf.below hD0 hb0) (hW0.below hb0) hc
  have hr0 : ((n : Int) == 0) = false := by simp; omega
  have hr1 : ¬ (n : Int) = 0 := by omega
  have hd4 : (4096 : Int) < (bl : Int) := by omega
  have hbox : ∀ W, Below (w.alloc (.cells #[.int .u64 (n : Int), .slice ba bl bc] 44)).heap.size (w.alloc (.cells #[.int .u64 (n : Int), .slice ba bl bc] 44)) W → W.cell? ⟨w.heap.size, 0, none⟩ = some (.int .u64 (n : Int)) ∧ W.cell? ⟨w.heap.size, 1, none⟩ = some (.slice ba bl bc) ∧ Below w.heap.size w W := fun W hb => by
    have e := (hb.block w.heap.size (by simp)).trans hbk0
    exact ⟨by rw [cells_of_block e]; rfl, by rw [cells_of_block e]; rfl, hb0.trans (hb.mono hb0.size)⟩
  clear hbk0 hW0 hD0 hL
  go_enter Tryz.func17, Tryz.ntmps17
  go_wp2_with fail
  refine kaw.mono ?_
  rintro e w1 ⟨rfl, b1⟩
  obtain ⟨c1, c2, b2⟩ := hbox w1 b1
  clear hbox kaw
  go_wp2
  all_goals first | exact ⟨rfl, b2⟩ | (go_ret; exact ⟨rfl, b2⟩)
end Go.Proofs.YtgfoogeiancecaaGreatDoor

