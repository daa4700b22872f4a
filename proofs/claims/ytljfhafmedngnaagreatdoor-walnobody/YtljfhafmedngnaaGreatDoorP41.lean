import Derived.Test.YtljfhafmedngnaaGreatDoorP28
import Derived.Test.YtljfhafmedngnaaGreatDoorP40
/- A log in memory over its disk; its last segment; whether a disk was given. -/
namespace Go.Proofs.YtljfhafmedngnaaGreatDoor
open Go.RowKit WalMath DiskMath
set_option maxRecDepth 100000
set_option linter.unusedSimpArgs false
set_option linter.unusedVariables false

/-- The log at block q, its disk d, its segments' row at sv. -/
structure WalAt (σ : Wm) (w : World) (q : Nat) (d sv : Value) (sg : List Seg) : Prop where
  block : w.heap[q]? = some (.cells #[d, sv] 65 (0, 0))
  segs : SegsAt σ w sv sg
  mark : σ q = (1, 0)
theorem WalAt.same {σ σ' : Wm} {w w' : World} {q : Nat} {d sv : Value} {sg : List Seg} (h : WalAt σ w q d sv sg) (hs : ∀ b, (σ b).1 ≠ 0 → w'.heap[b]? = w.heap[b]?) (hσ : ∀ b, (σ b).1 ≠ 0 → σ' b = σ b) (hlt : ∀ b, (σ' b).1 ≠ 0 → b < w'.heap.size) : WalAt σ' w' q d sv sg :=
  ⟨(hs q (by rw [h.mark]; simp)).trans h.block, h.segs.same hs hσ hlt, (hσ q (by rw [h.mark]; simp)).trans h.mark⟩
theorem WalAt.below {σ : Wm} {w w' : World} {q : Nat} {d sv : Value} {sg : List Seg} (h : WalAt σ w q d sv sg) (hb : Below w.heap.size w w') : WalAt σ w' q d sv sg :=
  h.same (fun b hm => hb.block b (h.segs.lt b hm)) (fun _ _ => rfl) fun b hm => Nat.lt_of_lt_of_le (h.segs.lt b hm) hb.size
theorem WalAt.kept {σ : Wm} {S : Nat → Prop} {w w' : World} {q : Nat} {d sv : Value} {sg : List Seg} (h : WalAt σ w q d sv sg) (hk : Kept S w w') (hS : ∀ b, S b → (σ b).1 = 0) : WalAt σ w' q d sv sg :=
  h.same (fun b hm => hk.block b (h.segs.lt b hm) fun hs => hm (hS b hs)) (fun _ _ => rfl) fun b hm => Nat.lt_of_lt_of_le (h.segs.lt b hm) hk.size

/-- A log over its disk: all its blocks are of U. -/
structure Lg (U : Nat → Prop) (w : World) (v d : Value) (sg : List Seg) (fs : Files) : Prop where
  ex : ∃ S σ q sv, v = .pointer (some ⟨q, 0, none⟩) ∧ Dk S w d fs ∧ WalAt σ w q d sv sg ∧ (∀ b, S b → (σ b).1 = 0) ∧ ∀ b, U b ↔ S b ∨ (σ b).1 ≠ 0
theorem Lg.below {U : Nat → Prop} {w w' : World} {v d : Value} {sg : List Seg} {fs : Files} (h : Lg U w v d sg fs) (hb : Below w.heap.size w w') : Lg U w' v d sg fs := by
  obtain ⟨S, σ, q, sv, h1, h2, h3, h4, h5⟩ := h.ex
  exact ⟨S, σ, q, sv, h1, diskOf.below h2 hb, h3.below hb, h4, h5⟩
theorem Lg.lt {U : Nat → Prop} {w : World} {v d : Value} {sg : List Seg} {fs : Files} (h : Lg U w v d sg fs) : ∀ b, U b → b < w.heap.size := by
  obtain ⟨S, σ, q, sv, h1, h2, h3, h4, h5⟩ := h.ex
  intro b hb
  rcases (h5 b).1 hb with hb | hb
  · exact diskOf.lt h2 b hb
  · exact h3.segs.lt b hb
theorem Lg.kept {U : Nat → Prop} {w w' : World} {v d : Value} {sg : List Seg} {fs : Files} (h : Lg U w v d sg fs) (hsz : w.heap.size ≤ w'.heap.size) (hs : ∀ b, U b → w'.heap[b]? = w.heap[b]?) : Lg U w' v d sg fs := by
  obtain ⟨S, σ, q, sv, h1, h2, h3, h4, h5⟩ := h.ex
  exact ⟨S, σ, q, sv, h1, diskOf.kept h2 hsz fun b hb => hs b ((h5 b).2 (.inl hb)), h3.same (fun b hb => hs b ((h5 b).2 (.inr hb))) (fun _ _ => rfl) fun b hb => Nat.lt_of_lt_of_le (h3.segs.lt b hb) hsz, h4, h5⟩

/-- What is left: a log with these segments and files; all else is as it was. -/
def LgN (U : Nat → Prop) (w : World) (v d : Value) (sg : List Seg) (fs : Files) (w' : World) : Prop := ∃ U', Lg U' w' v d sg fs ∧ Step U U' w ∧ Kept U w w'

theorem Kept.refl (S : Nat → Prop) (w : World) : Kept S w w := ⟨rfl, rfl, rfl, Nat.le_refl _, fun _ _ _ => rfl⟩
theorem Kept.trans {S S' : Nat → Prop} {w w1 w2 : World} (h : Kept S w w1) (hs : Step S S' w) (k : Kept S' w1 w2) : Kept S w w2 :=
  ⟨k.os.trans h.os, k.tape.trans h.tape, k.output.trans h.output, Nat.le_trans h.size k.size, fun b hb hns => (k.block b (Nat.lt_of_lt_of_le hb h.size) (fun hb' => (hs b hb').elim hns fun h' => by omega)).trans (h.block b hb hns)⟩
theorem Step.trans {S S' S'' : Nat → Prop} {w w1 : World} (h : Step S S' w) (hsz : w.heap.size ≤ w1.heap.size) (k : Step S' S'' w1) : Step S S'' w := fun b hb => (k b hb).elim (h b) fun h' => .inr (Nat.le_trans hsz h')
theorem LgN.refl {U : Nat → Prop} {w : World} {v d : Value} {sg : List Seg} {fs : Files} (h : Lg U w v d sg fs) : LgN U w v d sg fs w := ⟨U, h, fun _ hb => .inl hb, Kept.refl _ _⟩
theorem LgN.below {U : Nat → Prop} {w w' : World} {v d : Value} {sg : List Seg} {fs : Files} (h : Lg U w v d sg fs) (hb : Below w.heap.size w w') : LgN U w v d sg fs w' := ⟨U, h.below hb, fun _ hb => .inl hb, Below.kept hb⟩
theorem LgN.trans {U U' : Nat → Prop} {w w1 w2 : World} {v d : Value} {sg : List Seg} {fs : Files} (hs : Step U U' w) (hk : Kept U w w1) (h : LgN U' w1 v d sg fs w2) : LgN U w v d sg fs w2 := by
  obtain ⟨U'', h1, h2, h3⟩ := h
  exact ⟨U'', h1, hs.trans hk.size h2, hk.trans hs h3⟩
/-- The disk was acted with: the log lies as it lay. -/
theorem Lg.disk {U S S' : Nat → Prop} {σ : Wm} {w w' : World} {q : Nat} {d sv : Value} {sg : List Seg} {fs : Files} (hW : WalAt σ w q d sv sg) (hS : ∀ b, S b → (σ b).1 = 0) (hU : ∀ b, U b ↔ S b ∨ (σ b).1 ≠ 0) (hD : Dk S' w' d fs) (hs : Step S S' w) (hk : Kept S w w') : LgN U w (.pointer (some ⟨q, 0, none⟩)) d sg fs w' := by
  refine ⟨fun b => S' b ∨ (σ b).1 ≠ 0, ⟨S', σ, q, sv, rfl, hD, hW.kept hk hS, fun b hb => ?_, fun b => Iff.rfl⟩, fun b hb => ?_, ⟨hk.os, hk.tape, hk.output, hk.size, fun b hb hn => hk.block b hb fun h => hn ((hU b).2 (.inl h))⟩⟩
  · rcases hs b hb with h | h
    · exact hS b h
    · by_cases h0 : (σ b).1 = 0
      · exact h0
      · have := hW.segs.lt b h0
        omega
  · rcases hb with hb | hb
    · exact (hs b hb).imp (fun h => (hU b).2 (.inl h)) id
    · exact .inl ((hU b).2 (.inr hb))

set_option maxHeartbeats 1000000 in
theorem end_of (q g n m cap : Nat) (d : Value) (w : World) (h1 : w.cell? ⟨q, 1, none⟩ = some (.slice (some ⟨g, 0, none⟩) n cap)) (hn : n = m + 1) (hn2 : n ≤ 1000) :
    Calls Tryz.prog 37 #[.pointer (some ⟨q, 0, none⟩)] w fun e w' => e = .returned (.pointer (some ⟨g, m * 2, none⟩)) ∧ ∃ k, w' = w.drewN k := by
  have hmn : (m : Int) < (n : Int) := by omega
  have hmn2 : m < n := by omega
  have q1 : IntKind.i64.wrap ((n : Int) - 1) = (m : Int) := by
    rw [show (n : Int) - 1 = (m : Int) by omega]
    exact IntWalk.i64_in _ (by omega)
  clear hn
  go_enter Tryz.func37, Tryz.ntmps37
  go_wp2
  go_quiet (fail)
  go_wp2
  go_ret
  exact ⟨rfl, nq, rfl⟩

theorem noName_get {fs : Files} (h : SoundF fs) : get fs noName = none := by
  cases hg : get fs noName with
  | none => rfl
  | some f =>
    have := (may_size (sound_get h hg).1).1
    exact absurd this (by decide)

set_option maxHeartbeats 1000000 in
theorem wgiven_of {S : Nat → Prop} {w : World} {d : Value} {fs : Files} (h : Dk S w d fs) : Calls Tryz.prog 31 #[d] w fun e w' => e = .returned (.bool true) ∧ ∃ S', Dk S' w' d fs ∧ Step S S' w ∧ Kept S w w' := by
  have hs := diskOf.sync noName (by decide) h
  have hd : dSync fs noName = (fs, 4) := by
    unfold dSync
    rw [noName_get (diskOf.sound h)]
  rw [hd] at hs
  change Calls _ _ #[d, .string ⟨#[]⟩] _ _ at hs
  clear hd
  obtain ⟨q, rfl⟩ := h.shape
  go_enter Tryz.func31, Tryz.ntmps31
  go_wp2_with fail
  refine hs.mono ?_
  rintro e w1 ⟨rfl, hx⟩
  go_wp2
  go_ret
  exact ⟨rfl, hx⟩
end Go.Proofs.YtljfhafmedngnaaGreatDoor

/- The contract of a log's awake, where its disk has what it had. -/
namespace Go.Proofs.YtljfhafmedngnaaGreatDoor
open Go.RowKit WalMath DiskMath
set_option maxRecDepth 100000
set_option linter.unusedSimpArgs false
set_option linter.unusedVariables false

/-- The disk has the last segment as the log has it. -/
def Cons (sg : List Seg) (fs : Files) : Prop := sg.length ≤ 1000 ∧ ∀ (m : Nat) (s : Seg), sg.length = m + 1 → sg[m]? = some s → s.num < 100000000 ∧ s.recs.length ≤ 100000 ∧ ∃ f, get fs (segName s.num) = some f ∧ f.data.length = sz s.recs
theorem segName_max (n : Nat) : (segName n).size ≤ maxLen := by rw [segName_size]; decide

/-- The small contracts at the last segment, over any later world. -/
structure LastK (w : World) (q g m : Nat) (d pv : Value) (s : Seg) (fs : Files) (n cap : Nat) : Prop where
  cells : ∀ W, Below w.heap.size w W → W.cell? ⟨q, 0, none⟩ = some d ∧ W.cell? ⟨q, 1, none⟩ = some (.slice (some ⟨g, 0, none⟩) n cap) ∧ W.cell? ⟨g, m * 2, none⟩ = some (.int .i64 (s.num : Int)) ∧ W.cell? ⟨g, m * 2 + 1, none⟩ = some pv
  kend : ∀ W, Below w.heap.size w W → Calls Tryz.prog 37 #[.pointer (some ⟨q, 0, none⟩)] W fun e w' => e = .returned (.pointer (some ⟨g, m * 2, none⟩)) ∧ Below w.heap.size w w'
  kname : ∀ W, Below w.heap.size w W → Calls Tryz.prog 38 #[.agg #[.int .i64 (s.num : Int), pv]] W fun e w' => e = .returned (.string (segName s.num)) ∧ Below w.heap.size w w'
  ksize : ∀ W, Below w.heap.size w W → Calls Tryz.prog 73 #[.agg #[.int .i64 (s.num : Int), pv]] W fun e w' => e = .returned (.int .i64 (sz s.recs : Int)) ∧ Below w.heap.size w w'
theorem last_k {σ : Wm} {w : World} {q : Nat} {d sv : Value} {sg : List Seg} {fs : Files} (hT : Tb w) (hW : WalAt σ w q d sv sg) (hln : sg.length ≤ 1000) {m : Nat} {s : Seg} (hm : sg.length = m + 1) (hs : sg[m]? = some s) (hnum : s.num < 100000000) (hrl : s.recs.length ≤ 100000) :
    ∃ g cap pv, sv = .slice (some ⟨g, 0, none⟩) sg.length cap ∧ sg.length ≤ cap ∧ cap ≤ maxLen ∧ (∃ a n c, pv = .slice a n c) ∧ LastK w q g m d pv s fs sg.length cap := by
  obtain ⟨g, cap, e, h1, h2, h3, h4, h5, h6⟩ := hW.segs.cells (by intro e; rw [e] at hm; cases hm)
  obtain ⟨pv, c1, c2, c3, c4⟩ := h6 m s hs
  obtain ⟨pa, pc, pe, -⟩ := c3.shape
  have hcells : ∀ W, Below w.heap.size w W → W.cell? ⟨q, 0, none⟩ = some d ∧ W.cell? ⟨q, 1, none⟩ = some (.slice (some ⟨g, 0, none⟩) sg.length cap) ∧ W.cell? ⟨g, m * 2, none⟩ = some (.int .i64 (s.num : Int)) ∧ W.cell? ⟨g, m * 2 + 1, none⟩ = some pv := fun W hb => by
    have hbk := (hb.block q (hW.segs.lt q (by rw [hW.mark]; simp))).trans hW.block
    exact ⟨by rw [cells_of_block hbk]; rfl, by rw [cells_of_block hbk, ← e]; rfl, (hb.cell (p := ⟨g, m * 2, none⟩) (World.block_lt_of_cell? w _ c1)).trans c1, (hb.cell (p := ⟨g, m * 2 + 1, none⟩) (World.block_lt_of_cell? w _ c2)).trans c2⟩
  refine ⟨g, cap, pv, e, h1, h2, ⟨pa, _, pc, pe⟩, hcells, fun W hb => ?_, fun W hb => ?_, fun W hb => ?_⟩
  · refine (end_of q g sg.length m cap d W (hcells W hb).2.1 hm hln).mono ?_
    rintro e w' ⟨h, k, rfl⟩
    exact ⟨h, below_drewN hb k⟩
  · refine (sname_of s.num pv W (hT.new hb) hnum).mono ?_
    rintro e w' ⟨h, hb'⟩
    exact ⟨h, hb.trans (hb'.mono hb.size)⟩
  · have := ssize_of (s.num : Int) pv _ W (c3.pv.below hb) (by rw [plc_length]; omega)
    rw [endI_all] at this
    refine this.mono ?_
    rintro e w' ⟨h, hb'⟩
    exact ⟨h, hb.trans (hb'.mono hb.size)⟩
/-- The disk's own answer for the last segment. -/
theorem last_read {S : Nat → Prop} {w : World} {d : Value} {sg : List Seg} {fs : Files} (hD : Dk S w d fs) (hc : Cons sg fs) {m : Nat} {s : Seg} (hm : sg.length = m + 1) (hs : sg[m]? = some s) :
    ∀ W, Below w.heap.size w W → Calls Tryz.prog 64 #[d, .string (segName s.num)] W fun e w' => ∃ a c, e = .returned (.tuple #[.slice a (sz s.recs) c, .bool true]) ∧ Below w.heap.size w w' := fun W hb => by
  obtain ⟨hnum, hrl, f, hf, hfl⟩ := hc.2 m s hm hs
  refine (dread_of (segName s.num) (segName_max _) (diskOf.below hD hb)).mono ?_
  rintro e w' ⟨v, l, h, hO, hb', hl⟩
  rw [hf] at h hl
  obtain ⟨a, c, rfl⟩ := hO.shape
  subst hl
  refine ⟨a, c, ?_, hb.trans (hb'.mono hb.size)⟩
  rw [h]
  show _ = Ending.returned (.tuple #[.slice a (sz s.recs) c, .bool true])
  rw [← hfl]
  rfl

set_option maxHeartbeats 4000000 in
theorem wawake_of {S : Nat → Prop} {σ : Wm} {w : World} {q : Nat} {d sv : Value} {sg : List Seg} {fs : Files} (hT : Tb w) (hD : Dk S w d fs) (hW : WalAt σ w q d sv sg) (hc : Cons sg fs) :
    Calls Tryz.prog 33 #[.pointer (some ⟨q, 0, none⟩)] w fun e w' => e = .returned (.bool true) ∧ Below w.heap.size w w' := by
  obtain ⟨dq, rfl⟩ := hD.shape
  cases hl : sg.length with
  | zero =>
    obtain ⟨a, c, rfl, -⟩ := hW.segs.shape
    rw [hl] at hW
    have c0 : w.cell? ⟨q, 0, none⟩ = some (.pointer (some ⟨dq, 0, none⟩)) := by rw [cells_of_block hW.block]; rfl
    have c1 : w.cell? ⟨q, 1, none⟩ = some (.slice a 0 c) := by rw [cells_of_block hW.block]; rfl
    clear hW hD hT hc
    go_enter Tryz.func33, Tryz.ntmps33
    go_wp2
    go_ret
    exact ⟨rfl, Below.refl _ _⟩
  | succ m =>
    have hs := List.getElem?_eq_getElem (show m < sg.length by omega)
    generalize sg[m] = s at *
    obtain ⟨hnum, hrl, -⟩ := hc.2 m s hl hs
    obtain ⟨g, cap, pv, rfl, -, -, ⟨pa, pn, pc, rfl⟩, hK⟩ := last_k (fs := fs) hT hW hc.1 hl hs hnum hrl
    have kread := last_read hD hc hl hs
    have hlen := hc.1
    rw [hl] at hK hlen
    obtain ⟨c0, c1, -, -⟩ := hK.cells w (Below.refl _ _)
    have hdr : Below w.heap.size w w.drew := (Below.refl _ _).drew
    have y0 := hK.cells _ hdr
    obtain ⟨hcs, kend, kname, ksize⟩ := hK
    obtain ⟨Z, hZ⟩ : ∃ Z, Hid (Z = sz s.recs) := ⟨_, rfl⟩
    rw [← hZ.out] at ksize kread
    have hm0 : (0 : Int) < ((m + 1 : Nat) : Int) := by omega
    have hm1 : 0 < m + 1 := by omega
    have q1 : ((Z : Int) != (Z : Int)) = false := by simp
    generalize m + 1 = n at *
    clear hW hD hT hc hs hl
    go_enter Tryz.func33, Tryz.ntmps33
    go_wp2
    go_region_held3 (fun w' => w'.cell? ⟨q, 0, none⟩ = some (.pointer (some ⟨dq, 0, none⟩)) ∧ w'.cell? ⟨q, 1, none⟩ = some (.slice (some ⟨g, 0, none⟩) n cap) ∧ w'.cell? ⟨g, m * 2, none⟩ = some (.int .i64 (s.num : Int)) ∧ w'.cell? ⟨g, m * 2 + 1, none⟩ = some (.slice pa pn pc))
      (first | exact y0 | exact hcs _ b4 | exact hcs _ b3 | exact hcs _ b2 | go_keep)
      (first
        | (go_at_call 37; refine (kend _ hdr).mono ?_; rintro e w2 ⟨rfl, b2⟩)
        | (go_at_call 38; refine (kname _ b2).mono ?_; rintro e w3 ⟨rfl, b3⟩)
        | (go_at_call 64; refine (kread _ b3).mono ?_; rintro e w4 ⟨ra, rc, rfl, b4⟩))
    have k2 := kend _ b4
    clear kend kname kread y0
    go_wp2_with fail
    refine k2.mono ?_
    rintro e w5 ⟨rfl, b5⟩
    obtain ⟨-, -, e2, e3⟩ := hcs _ b5
    have k5 := ksize _ b5
    clear hcs ksize k2
    go_wp2_with fail
    refine k5.mono ?_
    rintro e w6 ⟨rfl, b6⟩
    clear k5
    go_wp2
    go_ret
    exact ⟨rfl, b6⟩
end Go.Proofs.YtljfhafmedngnaaGreatDoor

