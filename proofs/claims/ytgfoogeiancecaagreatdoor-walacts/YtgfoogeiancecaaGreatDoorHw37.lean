import Derived.Test.YtgfoogeiancecaaGreatDoorHw30
import Derived.Test.YtgfoogeiancecaaGreatDoorHw19
/- The contract of a log's Sync. -/
namespace Go.Proofs.YtgfoogeiancecaaGreatDoor
open Go.RowKit WalMath DiskMath
set_option maxRecDepth 100000
set_option linter.unusedSimpArgs false
set_option linter.unusedVariables false

/-- What Sync leaves on the disk. -/
def syncF (sg : List Seg) (fs : Files) : Files := match sg.getLast? with | none => fs | some s => (dSync fs (segName s.num)).1

set_option maxHeartbeats 4000000 in
theorem sync_w {U : Nat → Prop} {w : World} {v d : Value} {sg : List Seg} {fs : Files} (hT : Tb w) (hL : Lg U w v d sg fs) (hc : Cons sg fs) :
    Calls Tryz.prog 8 #[v] w fun e w' => e = .returned (.tuple #[]) ∧ LgN U w v d sg (syncF sg fs) w' := by
  obtain ⟨S, σ, q, sv, rfl, hD, hW, hS, hU⟩ := hL.ex
  have ka := wawake_of hT hD hW hc
  obtain ⟨dq, rfl⟩ := hD.shape
  cases hl : sg.length with
  | zero =>
    obtain rfl := List.eq_nil_of_length_eq_zero hl
    have E : ∀ w', Below w.heap.size w w' → Hid (LgN U w (.pointer (some ⟨q, 0, none⟩)) (.pointer (some ⟨dq, 0, none⟩)) [] (syncF [] fs) w') := fun w' hb => LgN.below hL hb
    obtain ⟨a, c, rfl, -⟩ := hW.segs.shape
    have c1 : ∀ w', Below w.heap.size w w' → w'.cell? ⟨q, 1, none⟩ = some (.slice a 0 c) := fun w' hb => by rw [cells_of_block ((hW.below hb).block)]; rfl
    clear hD hW hL hT
    generalize LgN U w (.pointer (some ⟨q, 0, none⟩)) (.pointer (some ⟨dq, 0, none⟩)) [] (syncF [] fs) = T at *
    go_enter Tryz.func8, Tryz.ntmps8
    go_wp2_with fail
    refine ka.mono ?_
    rintro e w1 ⟨rfl, b1⟩
    have hE := E w1 b1
    have c2 := c1 w1 b1
    clear E ka c1
    go_wp2
    go_end0
    exact ⟨rfl, hE.out⟩
  | succ m =>
    have hs := List.getElem?_eq_getElem (show m < sg.length by omega)
    have hsf : syncF sg fs = (dSync fs (segName sg[m].num)).1 := by
      unfold syncF
      rw [List.getLast?_eq_getElem?, show sg.length - 1 = m by omega, hs]
    generalize sg[m] = s at *
    obtain ⟨hnum, hrl, -⟩ := hc.2 m s hl hs
    obtain ⟨g, cap, pv, rfl, -, -, ⟨pa, pn, pc, rfl⟩, hK⟩ := last_k (fs := fs) hT hW hc.1 hl hs hnum hrl
    have hlen := hc.1
    rw [hl] at hK hlen
    have hgm : (σ g).1 ≠ 0 := by rw [hW.segs.row g rfl]; simp
    have hqm : (σ q).1 ≠ 0 := by rw [hW.mark]; simp
    obtain ⟨hcs, kend, kname, -⟩ := hK
    have ky : ∀ W, Below w.heap.size w W → Calls Tryz.prog 26 #[.pointer (some ⟨dq, 0, none⟩), .string (segName s.num)] W fun e w' => (∃ c : Int, e = .returned (.int .i64 c)) ∧ (w'.cell? ⟨q, 0, none⟩ = some (.pointer (some ⟨dq, 0, none⟩)) ∧ w'.cell? ⟨q, 1, none⟩ = some (.slice (some ⟨g, 0, none⟩) (m + 1) cap) ∧ w'.cell? ⟨g, m * 2, none⟩ = some (.int .i64 (s.num : Int)) ∧ w'.cell? ⟨g, m * 2 + 1, none⟩ = some (.slice pa pn pc)) ∧ Hid (LgN U w (.pointer (some ⟨q, 0, none⟩)) (.pointer (some ⟨dq, 0, none⟩)) sg (syncF sg fs) w') := fun W hb => by
      refine (diskOf.sync (segName s.num) (segName_max _) (diskOf.below hD hb)).mono ?_
      rintro e w' ⟨he, S', h1, h2, h3⟩
      have hcw := hcs W hb
      refine ⟨⟨_, he⟩, ⟨h3.cell hcw.1 (fun h => hqm (hS q h)), h3.cell hcw.2.1 (fun h => hqm (hS q h)), h3.cell hcw.2.2.1 (fun h => hgm (hS g h)), h3.cell hcw.2.2.2 (fun h => hgm (hS g h))⟩, ?_⟩
      rw [hsf]
      exact Lg.disk hW hS hU h1 (h2.after hb) (Kept.after hb h3)
    have hm0 : (0 : Int) < ((m + 1 : Nat) : Int) := by omega
    have hm1 : 0 < m + 1 := by omega
    generalize m + 1 = n at *
    generalize LgN U w (.pointer (some ⟨q, 0, none⟩)) (.pointer (some ⟨dq, 0, none⟩)) sg (syncF sg fs) = T at *
    clear hW hD hT hc hs hL hsf hl
    go_enter Tryz.func8, Tryz.ntmps8
    go_wp2_with fail
    refine ka.mono ?_
    rintro e w1 ⟨rfl, b1⟩
    obtain ⟨-, c1, -, -⟩ := hcs w1 b1
    have hdr : Below w.heap.size w w1.drew := b1.drew
    have y0 := hcs _ hdr
    clear ka
    go_wp2
    go_region_held3 (fun w' => w'.cell? ⟨q, 0, none⟩ = some (.pointer (some ⟨dq, 0, none⟩)) ∧ w'.cell? ⟨q, 1, none⟩ = some (.slice (some ⟨g, 0, none⟩) n cap) ∧ w'.cell? ⟨g, m * 2, none⟩ = some (.int .i64 (s.num : Int)) ∧ w'.cell? ⟨g, m * 2 + 1, none⟩ = some (.slice pa pn pc))
      (first | exact y0 | exact y9 | exact hcs _ b3 | exact hcs _ b2 | go_keep)
      (first
        | (go_at_call 27; refine (kend _ hdr).mono ?_; rintro e w2 ⟨rfl, b2⟩)
        | (go_at_call 28; refine (kname _ b2).mono ?_; rintro e w3 ⟨rfl, b3⟩)
        | (go_at_call 26; refine (ky _ b3).mono ?_; rintro e w9 ⟨⟨cc, rfl⟩, y9, hfin⟩))
    clear ky kend kname hcs y0 y9
    go_wp2
    go_end0
    exact ⟨rfl, hfin.out⟩
end Go.Proofs.YtgfoogeiancecaaGreatDoor

/- The contract of a log's room. -/
namespace Go.Proofs.YtgfoogeiancecaaGreatDoor
open Go.RowKit WalMath DiskMath
set_option maxRecDepth 100000
set_option linter.unusedSimpArgs false
set_option linter.unusedVariables false

/-- The number of the segment that the next record goes to, and the disk behind it. -/
def roomN (sg : List Seg) : Nat := match sg.getLast? with | none => 1 | some s => if sz s.recs ≤ 4096 then s.num else s.num + 1
def roomF (sg : List Seg) (fs : Files) : Files := match sg.getLast? with | none => fs | some s => if sz s.recs ≤ 4096 then fs else (dSync fs (segName s.num)).1

set_option maxHeartbeats 4000000 in
theorem room_of {U : Nat → Prop} {w : World} {v d : Value} {sg : List Seg} {fs : Files} (hT : Tb w) (hL : Lg U w v d sg fs) (hln : sg.length ≤ 1000) (hb : ∀ s ∈ sg, s.num < 100000000 ∧ s.recs.length ≤ 100000) :
    Calls Tryz.prog 45 #[v] w fun e w' => e = .returned (.int .i64 (roomN sg : Int)) ∧ LgN U w v d sg (roomF sg fs) w' := by
  obtain ⟨S, σ, q, sv, rfl, hD, hW, hS, hU⟩ := hL.ex
  obtain ⟨dq, rfl⟩ := hD.shape
  have c1 : w.cell? ⟨q, 1, none⟩ = some sv := by rw [cells_of_block hW.block]; rfl
  cases hl : sg.length with
  | zero =>
    obtain rfl := List.eq_nil_of_length_eq_zero hl
    have E : Hid (LgN U w (.pointer (some ⟨q, 0, none⟩)) (.pointer (some ⟨dq, 0, none⟩)) [] (roomF [] fs) w) := LgN.refl hL
    obtain ⟨a, c, rfl, -⟩ := hW.segs.shape
    have hr : roomN [] = 1 := rfl
    rw [hr]
    generalize LgN U w (.pointer (some ⟨q, 0, none⟩)) (.pointer (some ⟨dq, 0, none⟩)) [] (roomF [] fs) = T at *
    clear hD hW hL hT
    go_enter Tryz.func45, Tryz.ntmps45
    go_wp2
    go_ret
    exact ⟨rfl, E.out⟩
  | succ m =>
    have hs := List.getElem?_eq_getElem (show m < sg.length by omega)
    have hgl : sg.getLast? = some sg[m] := by rw [List.getLast?_eq_getElem?, show sg.length - 1 = m by omega, hs]
    have hsb := hb sg[m] (List.getElem_mem _)
    generalize sg[m] = s at *
    obtain ⟨g, cap, pv, rfl, -, -, ⟨pa, pn, pc, rfl⟩, hK⟩ := last_k (fs := fs) hT hW hln hl hs hsb.1 hsb.2
    rw [hl] at hK c1
    obtain ⟨hcs, kend, kname, ksize⟩ := hK
    have hm1 : ((m + 1 : Nat) : Int) ≠ 0 := by omega
    have hm2 : (((m + 1 : Nat) : Int) == 0) = false := by simp; omega
    by_cases h4 : sz s.recs ≤ 4096
    · have hr : roomN sg = s.num := by unfold roomN; rw [hgl]; exact if_pos h4
      have hf : roomF sg fs = fs := by unfold roomF; rw [hgl]; exact if_pos h4
      rw [hr, hf]
      have E : ∀ w', Below w.heap.size w w' → Hid (LgN U w (.pointer (some ⟨q, 0, none⟩)) (.pointer (some ⟨dq, 0, none⟩)) sg fs w') := fun w' hb => LgN.below hL hb
      have h4i : (sz s.recs : Int) ≤ 4096 := by omega
      generalize LgN U w (.pointer (some ⟨q, 0, none⟩)) (.pointer (some ⟨dq, 0, none⟩)) sg fs = T at *
      have k1 := kend w (Below.refl _ _)
      clear hD hW hL hT hr hf hgl hs hl kend kname
      generalize m + 1 = n at *
      go_enter Tryz.func45, Tryz.ntmps45
      go_wp2_with fail
      refine k1.mono ?_
      rintro e w2 ⟨rfl, b2⟩
      obtain ⟨-, -, y2, y3⟩ := hcs w2 b2
      have k2 := ksize w2 b2
      clear k1 ksize
      go_wp2_with fail
      refine k2.mono ?_
      rintro e w3 ⟨rfl, b3⟩
      obtain ⟨-, -, z2, z3⟩ := hcs w3 b3
      have hE := E w3 b3
      clear k2 E hcs y2 y3
      go_wp2
      go_ret
      exact ⟨rfl, hE.out⟩
    · have hr : roomN sg = s.num + 1 := by unfold roomN; rw [hgl]; exact if_neg h4
      have hf : roomF sg fs = (dSync fs (segName s.num)).1 := by unfold roomF; rw [hgl]; exact if_neg h4
      rw [hr, hf]
      have hgm : (σ g).1 ≠ 0 := by rw [hW.segs.row g rfl]; simp
      have hqm : (σ q).1 ≠ 0 := by rw [hW.mark]; simp
      have ky : ∀ W, Below w.heap.size w W → Calls Tryz.prog 26 #[.pointer (some ⟨dq, 0, none⟩), .string (segName s.num)] W fun e w' => (∃ c : Int, e = .returned (.int .i64 c)) ∧ (w'.cell? ⟨q, 0, none⟩ = some (.pointer (some ⟨dq, 0, none⟩)) ∧ w'.cell? ⟨q, 1, none⟩ = some (.slice (some ⟨g, 0, none⟩) (m + 1) cap) ∧ w'.cell? ⟨g, m * 2, none⟩ = some (.int .i64 (s.num : Int)) ∧ w'.cell? ⟨g, m * 2 + 1, none⟩ = some (.slice pa pn pc)) ∧ Hid (LgN U w (.pointer (some ⟨q, 0, none⟩)) (.pointer (some ⟨dq, 0, none⟩)) sg (dSync fs (segName s.num)).1 w') := fun W hbW => by
        refine (diskOf.sync (segName s.num) (segName_max _) (diskOf.below hD hbW)).mono ?_
        rintro e w' ⟨he, S', h1, h2, h3⟩
        have hcw := hcs W hbW
        refine ⟨⟨_, he⟩, ⟨h3.cell hcw.1 (fun h => hqm (hS q h)), h3.cell hcw.2.1 (fun h => hqm (hS q h)), h3.cell hcw.2.2.1 (fun h => hgm (hS g h)), h3.cell hcw.2.2.2 (fun h => hgm (hS g h))⟩, ?_⟩
        exact Lg.disk hW hS hU h1 (h2.after hbW) (Kept.after hbW h3)
      have h4i : ¬ (sz s.recs : Int) ≤ 4096 := by omega
      have q9 : IntKind.i64.wrap ((s.num : Int) + 1) = ((s.num + 1 : Nat) : Int) := by
        rw [show (s.num : Int) + 1 = ((s.num + 1 : Nat) : Int) by omega]
        exact IntWalk.i64_in _ (by omega)
      generalize LgN U w (.pointer (some ⟨q, 0, none⟩)) (.pointer (some ⟨dq, 0, none⟩)) sg (dSync fs (segName s.num)).1 = T at *
      have k1 := kend w (Below.refl _ _)
      clear hD hW hL hT hr hf hgl hs hl kend
      generalize m + 1 = n at *
      go_enter Tryz.func45, Tryz.ntmps45
      go_wp2_with fail
      refine k1.mono ?_
      rintro e w2 ⟨rfl, b2⟩
      obtain ⟨-, -, y2, y3⟩ := hcs w2 b2
      have k2 := ksize w2 b2
      clear k1 ksize
      go_wp2_with fail
      refine k2.mono ?_
      rintro e w3 ⟨rfl, b3⟩
      have hdr : Below w.heap.size w w3.drew := b3.drew
      have x0 := hcs _ hdr
      clear k2 y2 y3
      go_wp2
      go_region_held3 (fun w' => w'.cell? ⟨q, 0, none⟩ = some (.pointer (some ⟨dq, 0, none⟩)) ∧ w'.cell? ⟨q, 1, none⟩ = some (.slice (some ⟨g, 0, none⟩) n cap) ∧ w'.cell? ⟨g, m * 2, none⟩ = some (.int .i64 (s.num : Int)) ∧ w'.cell? ⟨g, m * 2 + 1, none⟩ = some (.slice pa pn pc))
        (first | exact x0 | exact y9 | exact hcs _ b4 | go_keep)
        (first
          | (go_at_call 28; refine (kname _ hdr).mono ?_; rintro e w4 ⟨rfl, b4⟩)
          | (go_at_call 26; refine (ky _ b4).mono ?_; rintro e w9 ⟨⟨cc, rfl⟩, y9, hfin⟩))
      obtain ⟨-, -, z2, -⟩ := y9
      clear ky kname hcs x0
      go_wp2
      go_ret
      exact ⟨by go_num, hfin.out⟩
end Go.Proofs.YtgfoogeiancecaaGreatDoor

/- A record more in the last segment, in memory; the contract of a log's add. -/
namespace Go.Proofs.YtgfoogeiancecaaGreatDoor
open Go.RowKit WalMath DiskMath
set_option maxRecDepth 100000
set_option linter.unusedSimpArgs false
set_option linter.unusedVariables false

theorem SegsAt.addPlace {σ : Wm} {w w1 : World} {sg : List Seg} {g cap m : Nat} {s : Seg} {pv pv' : Value} {l' : List Rec} (h : SegsAt σ w (.slice (some ⟨g, 0, none⟩) sg.length cap) sg) (hs : sg[m]? = some s)
    (hnd : ∀ (i : Nat) (t : Seg), sg[i]? = some t → i ≠ m → t.num ≠ s.num) (hpv : w.cell? ⟨g, m * 2 + 1, none⟩ = some pv) (hR : R2 w1 109 pv' (pl2 (plc 0 l'))) (hg : w.grownBy w1 pv.ownBlock) (hn : ∀ k, pv'.ownBlock = some k → pv.ownBlock = some k ∨ w.heap.size ≤ k) :
    ∃ σ', SegsAt σ' (w1.setCell ⟨g, m * 2 + 1, none⟩ pv') (.slice (some ⟨g, 0, none⟩) sg.length cap) (sg.set m ⟨s.num, l'⟩) ∧ (∀ b, (σ b).1 ≠ 0 → σ' b = σ b) ∧ (∀ b, (σ' b).1 ≠ 0 → (σ b).1 ≠ 0 ∨ w.heap.size ≤ b) ∧ ∀ k, k < w.heap.size → (σ k).1 = 0 ∨ σ k = (1, 0) → (w1.setCell ⟨g, m * 2 + 1, none⟩ pv').heap[k]? = w.heap[k]? := by
  obtain ⟨vs, h1, h2, h3⟩ := h.ex
  have hml := (List.getElem?_eq_some_iff.1 hs).1
  have hv := List.getElem?_eq_getElem (show m < vs.length by omega)
  have hgm := h.row g rfl
  obtain ⟨g', cap', e', -, -, hgl, hc, -⟩ := h2.cells (by intro e; have := sg2_length h1; rw [e] at this; simp at this; omega)
  rw [sg2_length h1] at e'
  cases e'
  have hpe : vs[m] = pv := by
    have := (hc m _ (sg2_get hs hv)).2
    rw [hpv] at this
    exact (Option.some.inj this).symm
  obtain ⟨hp1, hp2⟩ := h3 m s _ hs hv
  rw [hpe] at hp1 hp2
  have hgp : pv.ownBlock ≠ some g := fun e => by have := hp2 g e; rw [hgm] at this; cases this
  have hsz : (w1.setCell ⟨g, m * 2 + 1, none⟩ pv').heap.size = w1.heap.size := by simp [World.setCell]
  have hR1 : R2 w1 62 (.slice (some ⟨g, 0, none⟩) sg.length cap) (sg2 sg vs) := h2.same fun k hk => by
    cases hk
    exact hg.block g hgl (fun e => hgp e.symm)
  have hR2 := hR1.set (sg2_get hs hv) pv'
  have hset : (sg2 sg vs).set m ((Value.int .i64 (s.num : Int)), pv') = sg2 (sg.set m ⟨s.num, l'⟩) (vs.set m pv') := by
    apply List.ext_getElem?
    intro i
    unfold sg2
    rw [List.getElem?_set, List.getElem?_zipWith, List.getElem?_zipWith, List.getElem?_set, List.getElem?_set]
    by_cases e : m = i
    · subst e
      simp [hs, hml, h1]
    · simp [e]
  have hσ : ∀ b, (σ b).1 ≠ 0 → (if w.heap.size ≤ b ∧ pv'.ownBlock = some b then (3, s.num) else σ b) = σ b := fun b hb => if_neg fun e => by have := h.lt b hb; omega
  have hpk : ∀ k, pv'.ownBlock = some k → k ≠ g := fun k hk e => by
    subst e
    rcases hn k hk with h' | h'
    · exact hgp h'
    · omega
  refine ⟨fun b => if w.heap.size ≤ b ∧ pv'.ownBlock = some b then (3, s.num) else σ b, ⟨⟨vs.set m pv', by simp [h1], by rw [← hset]; exact hR2, fun i t v hi hv' => ?_⟩, fun k hk => (hσ k (by rw [h.row k hk]; simp)).trans (h.row k hk), fun b hb => ?_⟩, hσ, fun b hb => ?_, fun k hk h0 => ?_⟩
  · by_cases e : m = i
    · subst e
      rw [List.getElem?_set_self (by omega)] at hi hv'
      cases hi
      cases hv'
      refine ⟨hR.same fun k hk => set_same _ _ (hpk k hk), fun k hk => ?_⟩
      show (if _ then _ else _) = _
      rcases hn k hk with h' | h'
      · rw [if_neg (fun e => by have := hp1.lt h'; omega)]
        exact hp2 k h'
      · rw [if_pos ⟨h', hk⟩]
    · rw [List.getElem?_set_ne e] at hi hv'
      obtain ⟨g1, g2⟩ := h3 i t v hi hv'
      refine ⟨g1.same fun k hk => ?_, fun k hk => (hσ k (by rw [g2 k hk]; simp)).trans (g2 k hk)⟩
      rw [set_same _ _ (fun e => by subst e; have := g2 k hk; rw [hgm] at this; cases this)]
      refine hg.block k (g1.lt hk) (fun e' => ?_)
      have h5 := hp2 k e'.symm
      rw [g2 k hk] at h5
      injection h5 with _ h5
      exact hnd i t hi (fun e => by omega) h5
  · rw [hsz]
    have hb' : ((if w.heap.size ≤ b ∧ pv'.ownBlock = some b then (3, s.num) else σ b) : Nat × Nat).1 ≠ 0 := hb
    split at hb'
    · rename_i e
      exact hR.lt e.2
    · exact Nat.lt_of_lt_of_le (h.lt b hb') hg.size
  · have hb' : ((if w.heap.size ≤ b ∧ pv'.ownBlock = some b then (3, s.num) else σ b) : Nat × Nat).1 ≠ 0 := hb
    split at hb'
    · rename_i e
      exact .inr e.1
    · exact .inl hb'
  · rw [set_same _ _ (fun e => by subst e; rcases h0 with h0 | h0 <;> (rw [hgm] at h0; cases h0))]
    refine hg.block k hk (fun e => ?_)
    have := hp2 k e.symm
    rcases h0 with h0 | h0 <;> (rw [this] at h0; cases h0)

/-- The segments with a record more, at this number. -/
def addS (sg : List Seg) (num : Nat) (r : Rec) : List Seg := match sg.getLast? with
  | none => [⟨num, [r]⟩]
  | some s => if s.num = num then sg.set (sg.length - 1) ⟨s.num, s.recs ++ [r]⟩ else sg ++ [⟨num, [r]⟩]
/-- What add leaves of a log. -/
def AddWT (σ : Wm) (w : World) (q : Nat) (d : Value) (sg : List Seg) (e : Ending) (w' : World) : Prop :=
  e = .returned (.tuple #[]) ∧ ∃ σ' sv', WalAt σ' w' q d sv' sg ∧ (∀ b, (σ' b).1 ≠ 0 → (σ b).1 ≠ 0 ∨ w.heap.size ≤ b) ∧ (∀ b, (σ b).1 ≠ 0 → (σ' b).1 ≠ 0) ∧ w'.os = w.os ∧ w'.tape = w.tape ∧ w'.output = w.output ∧ w.heap.size ≤ w'.heap.size ∧ ∀ k, k < w.heap.size → (σ k).1 = 0 → w'.heap[k]? = w.heap[k]?

/-- The last segment's add. -/
theorem add_last {σ : Wm} {w : World} {q : Nat} {d : Value} {g cap m : Nat} {sg : List Seg} {s : Seg} {pv : Value} (r : Rec) (hW : WalAt σ w q d (.slice (some ⟨g, 0, none⟩) sg.length cap) sg) (hs : sg[m]? = some s) (hnd : ∀ (i : Nat) (t : Seg), sg[i]? = some t → i ≠ m → t.num ≠ s.num)
    (h0 : w.cell? ⟨g, m * 2, none⟩ = some (.int .i64 (s.num : Int))) (h1 : w.cell? ⟨g, m * 2 + 1, none⟩ = some pv) (hrl : s.recs.length ≤ 1000) (hsz : sz s.recs + (recB r).length ≤ 100000) :
    Calls Tryz.prog 76 #[.pointer (some ⟨g, m * 2, none⟩), .int .u64 (r.index : Int), .int .i64 ((recB r).length : Int)] w (AddWT σ w q d (sg.set m ⟨s.num, s.recs ++ [r]⟩)) := by
  obtain ⟨g', cap', e', -, -, -, hgl, hfz, hat⟩ := hW.segs.cells (by intro e; rw [e] at hs; simp at hs)
  cases e'
  obtain ⟨pv2, -, c2, c3, c4⟩ := hat m s hs
  obtain rfl : pv2 = pv := by
    rw [h1] at c2
    exact (Option.some.inj c2).symm
  have hgm := hW.segs.row g rfl
  refine (add_of g (m * 2) (s.num : Int) pv2 (plc 0 s.recs) r.index (recB r).length w h0 h1 (hfz _) c3 (fun e => by have := c4 g e; rw [hgm] at this; cases this) (by rw [plc_length]; omega) (by rw [endI_all]; omega)).mono ?_
  rintro e w' ⟨he, pv', w1, rfl, hR, hg, hn⟩
  rw [endI_all, ← plc_snoc] at hR
  obtain ⟨σ', k1, k2, k3, k4⟩ := hW.segs.addPlace hs hnd h1 hR hg hn
  have hql := hW.segs.lt q (by rw [hW.mark]; simp)
  refine ⟨he, σ', _, ⟨(k4 q hql (.inr hW.mark)).trans hW.block, k1, (k2 q (by rw [hW.mark]; simp)).trans hW.mark⟩, k3, fun b hb => by rw [k2 b hb]; exact hb, hg.os, hg.tape, hg.output, ?_, fun k hk h' => k4 k hk (.inl h')⟩
  rw [show (w1.setCell ⟨g, m * 2 + 1, none⟩ pv').heap.size = w1.heap.size by simp [World.setCell]]
  exact hg.size
end Go.Proofs.YtgfoogeiancecaaGreatDoor

/- The contract of a log's add. -/
namespace Go.Proofs.YtgfoogeiancecaaGreatDoor
open Go.RowKit WalMath DiskMath
set_option maxRecDepth 100000
set_option linter.unusedSimpArgs false
set_option linter.unusedVariables false

/-- Numbers are unlike. -/
def NumNe (sg : List Seg) : Prop := ∀ (i j : Nat) (s t : Seg), sg[i]? = some s → sg[j]? = some t → i ≠ j → s.num ≠ t.num

theorem AddWT.then {σ σ1 : Wm} {w w1 : World} {q : Nat} {d : Value} {sg : List Seg} {e : Ending} {w' : World} (h : AddWT σ1 w1 q d sg e w') (h1 : ∀ b, (σ1 b).1 ≠ 0 → (σ b).1 ≠ 0 ∨ w.heap.size ≤ b) (h2 : ∀ b, (σ b).1 ≠ 0 → (σ1 b).1 ≠ 0) (hos : w1.os = w.os) (htp : w1.tape = w.tape) (hout : w1.output = w.output) (hsz : w.heap.size ≤ w1.heap.size) (hk : ∀ k, k < w.heap.size → (σ k).1 = 0 → w1.heap[k]? = w.heap[k]?) : AddWT σ w q d sg e w' := by
  obtain ⟨he, σ', sv', g1, g2, g3, g4, g5, g6, g7, g8⟩ := h
  refine ⟨he, σ', sv', g1, fun b hb => ?_, fun b hb => g3 b (h2 b hb), g4.trans hos, g5.trans htp, g6.trans hout, Nat.le_trans hsz g7, fun k hk' h0 => ?_⟩
  · rcases g2 b hb with h | h
    · exact h1 b h
    · exact .inr (Nat.le_trans hsz h)
  · have h10 : (σ1 k).1 = 0 := by
      by_cases hh : (σ1 k).1 = 0
      · exact hh
      · rcases h1 k hh with h | h
        · exact absurd h0 h
        · omega
    exact (g8 k (by omega) h10).trans (hk k hk' h0)

theorem AddWT.end {σ : Wm} {w : World} {q : Nat} {d : Value} {sg : List Seg} {e : Ending} {w' : World} (h : AddWT σ w q d sg e w') : e = .returned (.tuple #[]) ∧ Hid (AddWT σ w q d sg (.returned (.tuple #[])) w') := ⟨h.1, rfl, h.2⟩
theorem SegsAt.same2 {σ : Wm} {w w' : World} {sv : Value} {sg : List Seg} (h : SegsAt σ w sv sg) (hs : ∀ b, (σ b).1 = 2 ∨ (σ b).1 = 3 → w'.heap[b]? = w.heap[b]?) (hsz : w.heap.size ≤ w'.heap.size) : SegsAt σ w' sv sg := by
  obtain ⟨vs, h1, h2, h3⟩ := h.ex
  refine ⟨⟨vs, h1, h2.same fun k hk => hs k (by rw [h.row k hk]; simp), fun i s v hi hv => ?_⟩, h.row, fun b hb => Nat.lt_of_lt_of_le (h.lt b hb) hsz⟩
  obtain ⟨h4, h5⟩ := h3 i s v hi hv
  exact ⟨h4.same fun k hk => hs k (by rw [h5 k hk]; simp), h5⟩

/-- What an append of a new segment leaves, and what follows. -/
def AddN (σ : Wm) (w : World) (q : Nat) (d : Value) (sg : List Seg) (num : Nat) (r : Rec) (sv' : Value) (w' : World) : Prop :=
  ∃ g cap, sv' = .slice (some ⟨g, 0, none⟩) (sg.length + 1) cap ∧ (∃ u, w'.cell? ⟨q, 1, none⟩ = some u) ∧ w'.frozen? ⟨q, 1, none⟩ = false ∧
    (Calls Tryz.prog 27 #[.pointer (some ⟨q, 0, none⟩)] (w'.setCell ⟨q, 1, none⟩ sv') fun e w3 => e = .returned (.pointer (some ⟨g, sg.length * 2, none⟩)) ∧ ∃ k, w3 = (w'.setCell ⟨q, 1, none⟩ sv').drewN k) ∧
    ∀ k, Calls Tryz.prog 76 #[.pointer (some ⟨g, sg.length * 2, none⟩), .int .u64 (r.index : Int), .int .i64 ((recB r).length : Int)] ((w'.setCell ⟨q, 1, none⟩ sv').drewN k) (AddWT σ w q d (sg ++ [⟨num, [r]⟩]))
/-- A new segment at the end, and its add. -/
theorem add_new {σ : Wm} {w : World} {q : Nat} {d sv : Value} {sg : List Seg} (num : Nat) (r : Rec) (hW : WalAt σ w q d sv sg) (hlen : sg.length ≤ 900) (hnd : ∀ s ∈ sg, s.num ≠ num) (hsz : (recB r).length ≤ 100000) (ty : TypeId) :
    ∃ sv' w', (Builtin.append_ #[54, 54] ty #[sv, .slice (some ⟨w.heap.size, 0, none⟩) 1 1]).run Tryz.prog (w.alloc (.cells #[.int .i64 (num : Int), .slice none 0 0] 62)) = .ok sv' w' ∧ AddN σ w q d sg num r sv' w' := by
  obtain ⟨sv', w', r1, σ1, p1, p2, p3, p4⟩ := hW.segs.push ⟨num, []⟩ (.slice none 0 0) (R2.nil _ _) (fun k hk => by cases hk) (by omega) ty
  refine ⟨sv', w', r1, ?_⟩
  have hqm : (σ q).1 ≠ 0 := by rw [hW.mark]; simp
  have hql := hW.segs.lt q hqm
  have hq1 : σ1 q = (1, 0) := (p3 q hqm).trans hW.mark
  have hbq : w'.heap[q]? = some (.cells #[d, sv] 56 (0, 0)) := (p2.block q hql (fun e => by have := hW.segs.row q e.symm; rw [hW.mark] at this; cases this)).trans hW.block
  have hsz2 : (w'.setCell ⟨q, 1, none⟩ sv').heap.size = w'.heap.size := by simp [World.setCell]
  have hW2 : WalAt σ1 (w'.setCell ⟨q, 1, none⟩ sv') q d sv' (sg ++ [⟨num, []⟩]) := ⟨seg_set hbq sv', p1.same2 (fun b hb => set_same 1 _ (fun e => by subst e; rw [hq1] at hb; simp at hb)) (by rw [hsz2]; exact Nat.le_refl _), hq1⟩
  have hl : (sg ++ [(⟨num, []⟩ : Seg)]).length = sg.length + 1 := by simp
  obtain ⟨g, cap, e, h1, h2, h3, h4, h5, h6⟩ := hW2.segs.cells (by simp)
  have hs : (sg ++ [(⟨num, []⟩ : Seg)])[sg.length]? = some ⟨num, []⟩ := by simp
  obtain ⟨pv, c1, c2, -⟩ := h6 sg.length _ hs
  rw [hl] at e
  subst e
  refine ⟨g, cap, rfl, ⟨_, by rw [cells_of_block hbq]; rfl⟩, frozen_of hbq 1, ?_, fun k => ?_⟩
  · refine (end_of q g (sg.length + 1) sg.length cap d _ (by rw [cells_of_block hW2.block]; rfl) rfl (by omega)).mono ?_
    rintro e w3 ⟨he, k, hk⟩
    exact ⟨he, k, hk⟩
  · have hbd := below_drewN (Below.refl (w'.setCell ⟨q, 1, none⟩ (.slice (some ⟨g, 0, none⟩) (sg.length + 1) cap)).heap.size (w'.setCell ⟨q, 1, none⟩ (.slice (some ⟨g, 0, none⟩) (sg.length + 1) cap))) k
    have hW3 : WalAt σ1 ((w'.setCell ⟨q, 1, none⟩ (.slice (some ⟨g, 0, none⟩) (sg.length + 1) cap)).drewN k) q d (.slice (some ⟨g, 0, none⟩) (sg ++ [(⟨num, []⟩ : Seg)]).length cap) (sg ++ [⟨num, []⟩]) := by
      rw [hl]
      exact hW2.below hbd
    refine (add_last (pv := pv) r hW3 hs (fun i t hi hne => ?_) ((hbd.cell (p := ⟨g, sg.length * 2, none⟩) (World.block_lt_of_cell? _ _ c1)).trans c1) ((hbd.cell (p := ⟨g, sg.length * 2 + 1, none⟩) (World.block_lt_of_cell? _ _ c2)).trans c2) (by simp) (by simpa [sz_nil] using hsz)).mono ?_
    · have hil : i < sg.length := by
        have := (List.getElem?_eq_some_iff.1 hi).1
        rw [hl] at this
        omega
      rw [List.getElem?_append_left hil] at hi
      exact hnd t (List.mem_of_getElem? hi)
    · intro e w'' hA
      have hset : (sg ++ [(⟨num, []⟩ : Seg)]).set sg.length ⟨num, [] ++ [r]⟩ = sg ++ [⟨num, [r]⟩] := by
        rw [List.set_append_right _ _ (Nat.le_refl _)]
        simp
      rw [hset] at hA
      refine hA.then (fun b hb => ?_) (fun b hb => by rw [p3 b hb]; exact hb) p2.os p2.tape p2.output ?_ fun k' hk' h0 => ?_
      · rcases p4 b hb with h | h | h
        · exact .inl h
        · cases h
        · exact .inr h
      · show _ ≤ (w'.setCell _ _).heap.size
        rw [hsz2]
        exact p2.size
      · show (w'.setCell _ _).heap[k']? = _
        rw [set_same 1 _ (fun e => by subst e; rw [hW.mark] at h0; cases h0)]
        exact p2.block k' hk' (fun e => by have := hW.segs.row k' e.symm; rw [this] at h0; cases h0)

set_option maxHeartbeats 2000000 in
theorem addw_of {σ : Wm} {w : World} {q : Nat} {d sv : Value} {sg : List Seg} (num : Nat) (r : Rec) (hT : Tb w) (hW : WalAt σ w q d sv sg) (hlen : sg.length ≤ 900) (hnd : NumNe sg) (hnew : ∀ s, sg.getLast? = some s → s.num ≠ num → ∀ t ∈ sg, t.num ≠ num) (hb : ∀ s ∈ sg, s.num < 100000000 ∧ s.recs.length ≤ 1000 ∧ sz s.recs ≤ 10000) (hn8 : num < 200000000) (hsz : (recB r).length ≤ 10000) :
    Calls Tryz.prog 48 #[.pointer (some ⟨q, 0, none⟩), .int .i64 (num : Int), .int .u64 (r.index : Int), .int .i64 ((recB r).length : Int)] w (AddWT σ w q d (addS sg num r)) := by
  have c1 : w.cell? ⟨q, 1, none⟩ = some sv := by rw [cells_of_block hW.block]; rfl
  cases hl : sg.length with
  | zero =>
    obtain rfl := List.eq_nil_of_length_eq_zero hl
    have hap := add_new num r hW (by simp) (fun s hs => by cases hs) (by omega)
    obtain ⟨sa, sc, rfl, -⟩ := hW.segs.shape
    have hgoal : AddWT σ w q d (addS [] num r) = AddWT σ w q d ([] ++ [⟨num, [r]⟩]) := rfl
    rw [hgoal]
    clear hW hT hnd hnew hb hgoal
    go_enter Tryz.func48, Tryz.ntmps48
    go_wp2_with (at_builtin; refine wp_by rfl _ _ _ rfl _ _ rfl rfl hap ?_)
    intro sv1 w1 hN1
    obtain ⟨g1, cap1, he1, ⟨u1, z1⟩, z2, ke, kadd⟩ := id hN1
    subst he1
    clear hN1 hap
    go_wp2_with fail
    refine ke.mono ?_
    rintro e w3 ⟨rfl, k, hw3⟩
    have ka := kadd k
    rw [← hw3] at ka
    clear ke kadd hw3
    go_wp2_with fail
    refine ka.mono ?_
    intro e w4 hA
    obtain ⟨rfl, hAH⟩ := hA.end
    clear hA ka
    go_wp2 <;> first | exact hAH.out | (go_end0; exact hAH.out)
  | succ m =>
    have hs := List.getElem?_eq_getElem (show m < sg.length by omega)
    have hgl : sg.getLast? = some sg[m] := by rw [List.getLast?_eq_getElem?, show sg.length - 1 = m by omega, hs]
    have hsb := hb sg[m] (List.getElem_mem _)
    generalize sg[m] = s at *
    obtain ⟨g, cap, pv, rfl, -, -, ⟨pa, pn, pc, rfl⟩, hK⟩ := last_k (fs := []) hT hW (by omega) hl hs hsb.1 (by omega)
    have kend := hK.kend w (Below.refl _ _)
    have hkend := hK.kend
    have hcs := hK.cells
    rw [hl] at hcs c1
    have hm1 : ((m + 1 : Nat) : Int) ≠ 0 := by omega
    have hm2 : (((m + 1 : Nat) : Int) == 0) = false := by simp; omega
    by_cases hnum : s.num = num
    · have hgoal : addS sg num r = sg.set m ⟨s.num, s.recs ++ [r]⟩ := by
        unfold addS
        rw [hgl]
        dsimp only
        rw [if_pos hnum, show sg.length - 1 = m by omega]
      rw [hgoal]
      have kadd : ∀ W, Below w.heap.size w W → Calls Tryz.prog 76 #[.pointer (some ⟨g, m * 2, none⟩), .int .u64 (r.index : Int), .int .i64 ((recB r).length : Int)] W (AddWT σ w q d (sg.set m ⟨s.num, s.recs ++ [r]⟩)) := fun W hbW => by
        refine (add_last (pv := .slice pa pn pc) r (hW.below hbW) hs (fun i t hi hne => hnd i m t s hi hs hne) (hcs W hbW).2.2.1 (hcs W hbW).2.2.2 hsb.2.1 (by omega)).mono ?_
        intro e w' hA
        exact hA.then (fun b hb' => .inl hb') (fun b hb' => hb') hbW.os hbW.tape hbW.output hbW.size (fun k hk _ => hbW.block k hk)
      have q7 : ((s.num : Int) != (num : Int)) = false := by rw [hnum]; simp
      obtain ⟨-, -, z0, z1⟩ := hcs w (Below.refl _ _)
      clear hW hT hnd hnew hb hgoal hgl hs hK hl
      generalize m + 1 = n at *
      subst hnum
      go_enter Tryz.func48, Tryz.ntmps48
      go_wp2_with fail
      refine kend.mono ?_
      rintro e w2 ⟨rfl, b2⟩
      obtain ⟨y0, y1, y2, y3⟩ := hcs w2 b2
      clear kend
      have kend2 := hkend w2 b2
      go_wp2_with fail
      refine kend2.mono ?_
      rintro e w3 ⟨rfl, b3⟩
      have ka := kadd w3 b3
      clear kend2 kadd
      go_wp2_with fail
      refine ka.mono ?_
      intro e w4 hA
      obtain ⟨rfl, hAH⟩ := hA.end
      clear hA ka
      go_wp2 <;> first | exact hAH.out | (go_end0; exact hAH.out)
    · have hgoal : addS sg num r = sg ++ [⟨num, [r]⟩] := by
        unfold addS
        rw [hgl]
        dsimp only
        rw [if_neg hnum]
      rw [hgoal]
      have hap : ∀ W, Below w.heap.size w W → ∀ ty, ∃ sv' w', (Builtin.append_ #[54, 54] ty #[.slice (some ⟨g, 0, none⟩) (m + 1) cap, .slice (some ⟨W.heap.size, 0, none⟩) 1 1]).run Tryz.prog (W.alloc (.cells #[.int .i64 (num : Int), .slice none 0 0] 62)) = .ok sv' w' ∧ AddN σ w q d sg num r sv' w' := fun W hbW ty => by
        have hW' := hW.below hbW
        rw [hl] at hW'
        obtain ⟨sv', w', t1, g1, cap1, t2, t3, t4, t5, t6⟩ := add_new num r hW' (by omega) (hnew s hgl hnum) (by omega) ty
        exact ⟨sv', w', t1, g1, cap1, t2, t3, t4, t5, fun k => (t6 k).mono fun e w'' hA => hA.then (fun b hb' => .inl hb') (fun b hb' => hb') hbW.os hbW.tape hbW.output hbW.size (fun k hk _ => hbW.block k hk)⟩
      have q7 : ((s.num : Int) != (num : Int)) = true := by simp; omega
      clear hW hT hnd hnew hb hgoal hgl hs hK hl hkend
      generalize m + 1 = n at *
      go_enter Tryz.func48, Tryz.ntmps48
      go_wp2_with fail
      refine kend.mono ?_
      rintro e w2 ⟨rfl, b2⟩
      obtain ⟨y0, y1, y2, y3⟩ := hcs w2 b2
      clear kend
      have hap2 := hap w2 b2
      clear hap
      go_wp2_with (at_builtin; refine wp_by rfl _ _ _ rfl _ _ rfl rfl hap2 ?_)
      intro sv1 w1 hN1
      obtain ⟨g1, cap1, he1, ⟨u1, z1'⟩, z2, ke, kadd⟩ := id hN1
      subst he1
      clear hN1 hap2
      go_wp2_with fail
      refine ke.mono ?_
      rintro e w3 ⟨rfl, k, hw3⟩
      have ka := kadd k
      rw [← hw3] at ka
      clear ke kadd hw3
      go_wp2_with fail
      refine ka.mono ?_
      intro e w4 hA
      obtain ⟨rfl, hAH⟩ := hA.end
      clear hA ka
      go_wp2 <;> first | exact hAH.out | (go_end0; exact hAH.out)
end Go.Proofs.YtgfoogeiancecaaGreatDoor

