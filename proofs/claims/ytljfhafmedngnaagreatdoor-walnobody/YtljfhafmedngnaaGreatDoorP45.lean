import Derived.Test.YtljfhafmedngnaaGreatDoorP41
/- The contract of a log's Sync. -/
namespace Go.Proofs.YtljfhafmedngnaaGreatDoor
open Go.RowKit WalMath DiskMath
set_option maxRecDepth 100000
set_option linter.unusedSimpArgs false
set_option linter.unusedVariables false

/-- What Sync leaves on the disk. -/
def syncF (sg : List Seg) (fs : Files) : Files := match sg.getLast? with | none => fs | some s => (dSync fs (segName s.num)).1

set_option maxHeartbeats 4000000 in
theorem sync_w {U : Nat → Prop} {w : World} {v d : Value} {sg : List Seg} {fs : Files} (hT : Tb w) (hL : Lg U w v d sg fs) (hc : Cons sg fs) :
    Calls Tryz.prog 11 #[v] w fun e w' => e = .returned (.tuple #[]) ∧ LgN U w v d sg (syncF sg fs) w' := by
  obtain ⟨S, σ, q, sv, rfl, hD, hW, hS, hU⟩ := hL.ex
  have ka := wawake_of hT hD hW hc
  obtain ⟨dq, rfl⟩ := hD.shape
  cases hl : sg.length with
  | zero =>
    obtain rfl := List.eq_nil_of_length_eq_zero hl
    have E : ∀ w', Below w.heap.size w w' → Hid (LgN U w (.pointer (some ⟨q, 0, none⟩)) (.pointer (some ⟨dq, 0, none⟩)) [] (syncF [] fs) w') := fun w' hb => LgN.below hL hb
    obtain ⟨a, c, rfl, -⟩ := hW.segs.shape
    have c1 : ∀ w', Below w.heap.size w w' → w'.cell? ⟨q, 1, none⟩ = some (.slice a 0 c) := fun w' hb => by rw [cells_of_block ((hW.below hb).block)]; rfl
    clear hD hW hL hT
    generalize LgN U w (.pointer (some ⟨q, 0, none⟩)) (.pointer (some ⟨dq, 0, none⟩)) [] (syncF [] fs) = T at *
    go_enter Tryz.func11, Tryz.ntmps11
    go_wp2_with fail
    refine ka.mono ?_
    rintro e w1 ⟨rfl, b1⟩
    have hE := E w1 b1
    have c2 := c1 w1 b1
    clear E ka c1
    go_wp2
    go_end0
    exact ⟨rfl, hE.out⟩
  | succ m =>
    have hs := List.getElem?_eq_getElem (show m < sg.length by omega)
    have hsf : syncF sg fs = (dSync fs (segName sg[m].num)).1 := by
      unfold syncF
      rw [List.getLast?_eq_getElem?, show sg.length - 1 = m by omega, hs]
    generalize sg[m] = s at *
    obtain ⟨hnum, hrl, -⟩ := hc.2 m s hl hs
    obtain ⟨g, cap, pv, rfl, -, -, ⟨pa, pn, pc, rfl⟩, hK⟩ := last_k (fs := fs) hT hW hc.1 hl hs hnum hrl
    have hlen := hc.1
    rw [hl] at hK hlen
    have hgm : (σ g).1 ≠ 0 := by rw [hW.segs.row g rfl]; simp
    have hqm : (σ q).1 ≠ 0 := by rw [hW.mark]; simp
    obtain ⟨hcs, kend, kname, -⟩ := hK
    have ky : ∀ W, Below w.heap.size w W → Calls Tryz.prog 36 #[.pointer (some ⟨dq, 0, none⟩), .string (segName s.num)] W fun e w' => (∃ c : Int, e = .returned (.int .i64 c)) ∧ (w'.cell? ⟨q, 0, none⟩ = some (.pointer (some ⟨dq, 0, none⟩)) ∧ w'.cell? ⟨q, 1, none⟩ = some (.slice (some ⟨g, 0, none⟩) (m + 1) cap) ∧ w'.cell? ⟨g, m * 2, none⟩ = some (.int .i64 (s.num : Int)) ∧ w'.cell? ⟨g, m * 2 + 1, none⟩ = some (.slice pa pn pc)) ∧ Hid (LgN U w (.pointer (some ⟨q, 0, none⟩)) (.pointer (some ⟨dq, 0, none⟩)) sg (syncF sg fs) w') := fun W hb => by
      refine (diskOf.sync (segName s.num) (segName_max _) (diskOf.below hD hb)).mono ?_
      rintro e w' ⟨he, S', h1, h2, h3⟩
      have hcw := hcs W hb
      refine ⟨⟨_, he⟩, ⟨h3.cell hcw.1 (fun h => hqm (hS q h)), h3.cell hcw.2.1 (fun h => hqm (hS q h)), h3.cell hcw.2.2.1 (fun h => hgm (hS g h)), h3.cell hcw.2.2.2 (fun h => hgm (hS g h))⟩, ?_⟩
      rw [hsf]
      exact Lg.disk hW hS hU h1 (h2.after hb) (Kept.after hb h3)
    have hm0 : (0 : Int) < ((m + 1 : Nat) : Int) := by omega
    have hm1 : 0 < m + 1 := by omega
    generalize m + 1 = n at *
    generalize LgN U w (.pointer (some ⟨q, 0, none⟩)) (.pointer (some ⟨dq, 0, none⟩)) sg (syncF sg fs) = T at *
    clear hW hD hT hc hs hL hsf hl
    go_enter Tryz.func11, Tryz.ntmps11
    go_wp2_with fail
    refine ka.mono ?_
    rintro e w1 ⟨rfl, b1⟩
    obtain ⟨-, c1, -, -⟩ := hcs w1 b1
    have hdr : Below w.heap.size w w1.drew := b1.drew
    have y0 := hcs _ hdr
    clear ka
    go_wp2
    go_region_held3 (fun w' => w'.cell? ⟨q, 0, none⟩ = some (.pointer (some ⟨dq, 0, none⟩)) ∧ w'.cell? ⟨q, 1, none⟩ = some (.slice (some ⟨g, 0, none⟩) n cap) ∧ w'.cell? ⟨g, m * 2, none⟩ = some (.int .i64 (s.num : Int)) ∧ w'.cell? ⟨g, m * 2 + 1, none⟩ = some (.slice pa pn pc))
      (first | exact y0 | exact y9 | exact hcs _ b3 | exact hcs _ b2 | go_keep)
      (first
        | (go_at_call 37; refine (kend _ hdr).mono ?_; rintro e w2 ⟨rfl, b2⟩)
        | (go_at_call 38; refine (kname _ b2).mono ?_; rintro e w3 ⟨rfl, b3⟩)
        | (go_at_call 36; refine (ky _ b3).mono ?_; rintro e w9 ⟨⟨cc, rfl⟩, y9, hfin⟩))
    clear ky kend kname hcs y0 y9
    go_wp2
    go_end0
    exact ⟨rfl, hfin.out⟩
end Go.Proofs.YtljfhafmedngnaaGreatDoor

/- The contract of a log's room. -/
namespace Go.Proofs.YtljfhafmedngnaaGreatDoor
open Go.RowKit WalMath DiskMath
set_option maxRecDepth 100000
set_option linter.unusedSimpArgs false
set_option linter.unusedVariables false

/-- The number of the segment that the next record goes to, and the disk behind it. -/
def roomN (sg : List Seg) : Nat := match sg.getLast? with | none => 1 | some s => if sz s.recs ≤ 4096 then s.num else s.num + 1
def roomF (sg : List Seg) (fs : Files) : Files := match sg.getLast? with | none => fs | some s => if sz s.recs ≤ 4096 then fs else (dSync fs (segName s.num)).1

set_option maxHeartbeats 4000000 in
theorem room_of {U : Nat → Prop} {w : World} {v d : Value} {sg : List Seg} {fs : Files} (hT : Tb w) (hL : Lg U w v d sg fs) (hln : sg.length ≤ 1000) (hb : ∀ s ∈ sg, s.num < 100000000 ∧ s.recs.length ≤ 100000) :
    Calls Tryz.prog 55 #[v] w fun e w' => e = .returned (.int .i64 (roomN sg : Int)) ∧ LgN U w v d sg (roomF sg fs) w' := by
  obtain ⟨S, σ, q, sv, rfl, hD, hW, hS, hU⟩ := hL.ex
  obtain ⟨dq, rfl⟩ := hD.shape
  have c1 : w.cell? ⟨q, 1, none⟩ = some sv := by rw [cells_of_block hW.block]; rfl
  cases hl : sg.length with
  | zero =>
    obtain rfl := List.eq_nil_of_length_eq_zero hl
    have E : Hid (LgN U w (.pointer (some ⟨q, 0, none⟩)) (.pointer (some ⟨dq, 0, none⟩)) [] (roomF [] fs) w) := LgN.refl hL
    obtain ⟨a, c, rfl, -⟩ := hW.segs.shape
    have hr : roomN [] = 1 := rfl
    rw [hr]
    generalize LgN U w (.pointer (some ⟨q, 0, none⟩)) (.pointer (some ⟨dq, 0, none⟩)) [] (roomF [] fs) = T at *
    clear hD hW hL hT
    go_enter Tryz.func55, Tryz.ntmps55
    go_wp2
    go_ret
    exact ⟨rfl, E.out⟩
  | succ m =>
    have hs := List.getElem?_eq_getElem (show m < sg.length by omega)
    have hgl : sg.getLast? = some sg[m] := by rw [List.getLast?_eq_getElem?, show sg.length - 1 = m by omega, hs]
    have hsb := hb sg[m] (List.getElem_mem _)
    generalize sg[m] = s at *
    obtain ⟨g, cap, pv, rfl, -, -, ⟨pa, pn, pc, rfl⟩, hK⟩ := last_k (fs := fs) hT hW hln hl hs hsb.1 hsb.2
    rw [hl] at hK c1
    obtain ⟨hcs, kend, kname, ksize⟩ := hK
    have hm1 : ((m + 1 : Nat) : Int) ≠ 0 := by omega
    have hm2 : (((m + 1 : Nat) : Int) == 0) = false := by simp; omega
    by_cases h4 : sz s.recs ≤ 4096
    · have hr : roomN sg = s.num := by unfold roomN; rw [hgl]; exact if_pos h4
      have hf : roomF sg fs = fs := by unfold roomF; rw [hgl]; exact if_pos h4
      rw [hr, hf]
      have E : ∀ w', Below w.heap.size w w' → Hid (LgN U w (.pointer (some ⟨q, 0, none⟩)) (.pointer (some ⟨dq, 0, none⟩)) sg fs w') := fun w' hb => LgN.below hL hb
      have h4i : (sz s.recs : Int) ≤ 4096 := by omega
      generalize LgN U w (.pointer (some ⟨q, 0, none⟩)) (.pointer (some ⟨dq, 0, none⟩)) sg fs = T at *
      have k1 := kend w (Below.refl _ _)
      clear hD hW hL hT hr hf hgl hs hl kend kname
      generalize m + 1 = n at *
      go_enter Tryz.func55, Tryz.ntmps55
      go_wp2_with fail
      refine k1.mono ?_
      rintro e w2 ⟨rfl, b2⟩
      obtain ⟨-, -, y2, y3⟩ := hcs w2 b2
      have k2 := ksize w2 b2
      clear k1 ksize
      go_wp2_with fail
      refine k2.mono ?_
      rintro e w3 ⟨rfl, b3⟩
      obtain ⟨-, -, z2, z3⟩ := hcs w3 b3
      have hE := E w3 b3
      clear k2 E hcs y2 y3
      go_wp2
      go_ret
      exact ⟨rfl, hE.out⟩
    · have hr : roomN sg = s.num + 1 := by unfold roomN; rw [hgl]; exact if_neg h4
      have hf : roomF sg fs = (dSync fs (segName s.num)).1 := by unfold roomF; rw [hgl]; exact if_neg h4
      rw [hr, hf]
      have hgm : (σ g).1 ≠ 0 := by rw [hW.segs.row g rfl]; simp
      have hqm : (σ q).1 ≠ 0 := by rw [hW.mark]; simp
      have ky : ∀ W, Below w.heap.size w W → Calls Tryz.prog 36 #[.pointer (some ⟨dq, 0, none⟩), .string (segName s.num)] W fun e w' => (∃ c : Int, e = .returned (.int .i64 c)) ∧ (w'.cell? ⟨q, 0, none⟩ = some (.pointer (some ⟨dq, 0, none⟩)) ∧ w'.cell? ⟨q, 1, none⟩ = some (.slice (some ⟨g, 0, none⟩) (m + 1) cap) ∧ w'.cell? ⟨g, m * 2, none⟩ = some (.int .i64 (s.num : Int)) ∧ w'.cell? ⟨g, m * 2 + 1, none⟩ = some (.slice pa pn pc)) ∧ Hid (LgN U w (.pointer (some ⟨q, 0, none⟩)) (.pointer (some ⟨dq, 0, none⟩)) sg (dSync fs (segName s.num)).1 w') := fun W hbW => by
        refine (diskOf.sync (segName s.num) (segName_max _) (diskOf.below hD hbW)).mono ?_
        rintro e w' ⟨he, S', h1, h2, h3⟩
        have hcw := hcs W hbW
        refine ⟨⟨_, he⟩, ⟨h3.cell hcw.1 (fun h => hqm (hS q h)), h3.cell hcw.2.1 (fun h => hqm (hS q h)), h3.cell hcw.2.2.1 (fun h => hgm (hS g h)), h3.cell hcw.2.2.2 (fun h => hgm (hS g h))⟩, ?_⟩
        exact Lg.disk hW hS hU h1 (h2.after hbW) (Kept.after hbW h3)
      have h4i : ¬ (sz s.recs : Int) ≤ 4096 := by omega
      have q9 : IntKind.i64.wrap ((s.num : Int) + 1) = ((s.num + 1 : Nat) : Int) := by
        rw [show (s.num : Int) + 1 = ((s.num + 1 : Nat) : Int) by omega]
        exact IntWalk.i64_in _ (by omega)
      generalize LgN U w (.pointer (some ⟨q, 0, none⟩)) (.pointer (some ⟨dq, 0, none⟩)) sg (dSync fs (segName s.num)).1 = T at *
      have k1 := kend w (Below.refl _ _)
      clear hD hW hL hT hr hf hgl hs hl kend
      generalize m + 1 = n at *
      go_enter Tryz.func55, Tryz.ntmps55
      go_wp2_with fail
      refine k1.mono ?_
      rintro e w2 ⟨rfl, b2⟩
      obtain ⟨-, -, y2, y3⟩ := hcs w2 b2
      have k2 := ksize w2 b2
      clear k1 ksize
      go_wp2_with fail
      refine k2.mono ?_
      rintro e w3 ⟨rfl, b3⟩
      have hdr : Below w.heap.size w w3.drew := b3.drew
      have x0 := hcs _ hdr
      clear k2 y2 y3
      go_wp2
      go_region_held3 (fun w' => w'.cell? ⟨q, 0, none⟩ = some (.pointer (some ⟨dq, 0, none⟩)) ∧ w'.cell? ⟨q, 1, none⟩ = some (.slice (some ⟨g, 0, none⟩) n cap) ∧ w'.cell? ⟨g, m * 2, none⟩ = some (.int .i64 (s.num : Int)) ∧ w'.cell? ⟨g, m * 2 + 1, none⟩ = some (.slice pa pn pc))
        (first | exact x0 | exact y9 | exact hcs _ b4 | go_keep)
        (first
          | (go_at_call 38; refine (kname _ hdr).mono ?_; rintro e w4 ⟨rfl, b4⟩)
          | (go_at_call 36; refine (ky _ b4).mono ?_; rintro e w9 ⟨⟨cc, rfl⟩, y9, hfin⟩))
      obtain ⟨-, -, z2, -⟩ := y9
      clear ky kname hcs x0
      go_wp2
      go_ret
      exact ⟨by go_num, hfin.out⟩
end Go.Proofs.YtljfhafmedngnaaGreatDoor

