import Derived.Test.YtoipjmjhplkibaaGreatDoorP49
import Derived.Test.YtoipjmjhplkibaaGreatDoorP25
/- The law SnapActs answers true and leaves all memory as it was: the walk (written by wip/tools/gen_sacts.py). -/
namespace Go.Proofs.YtoipjmjhplkibaaGreatDoor
open Go.RowKit DiskMath
set_option maxRecDepth 100000
set_option linter.unusedSimpArgs false
set_option linter.unusedVariables false

/-- Files of the input lie apart from a disk of the call's own. -/
theorem Fv.out {w w2 : World} {S : Nat → Prop} {lv : Value} {fs : Files} {hS : ∀ b, S b → b < w2.heap.size} (h : @Fv keepAll w lv fs) (hb : Below w.heap.size w w2) (hSn : ∀ b, S b → w.heap.size ≤ b) : @Fv (keepBut S w2 hS) w2 lv fs := by
  obtain ⟨_, ao, cap, e, h2⟩ := h
  refine ⟨Nat.le_refl _, ao, cap, e, fun i f hf => ?_⟩
  obtain ⟨b, off, sv, r1, r2, r3, r4, r5, r6⟩ := h2 i f hf
  have hlt := World.block_lt_of_cell? w _ r2
  refine ⟨b, off, sv, r1, (hb.cell (p := ⟨b, off + i * 3, none⟩) hlt).trans r2, (hb.cell (p := ⟨b, off + i * 3 + 1, none⟩) hlt).trans r3, (hb.cell (p := ⟨b, off + i * 3 + 2, none⟩) hlt).trans r4, ?_, fun hs => by have := hSn b hs; simp at hlt; omega⟩
  have h := @Bs.below keepAll _ _ _ _ _ r5 hb
  exact @Bs.mono (keepBut S w2 hS) _ _ _ _ _ (h.imp fun b hlt _ hs => by have := hSn b hs; omega) hb.size

set_option maxHeartbeats 8000000 in
theorem sacts_law (rs : List Raw) (l : List Sa) (lv av : Value) (w : World) (hT : Tb w) (hR : @Rv keepAll w lv rs) (hby : ∀ r ∈ rs, ∀ c ∈ r.data, c < 256) (hA : Sv w av l) (hok : ∀ x ∈ l, SaOk x) :
    Calls Tryz.prog 5 #[lv, av] w fun e w' => e = .returned (.bool true) ∧ Below w.heap.size w w' := by
  letI := keepAll
  have h0 := dload_of rs lv w hR hby
  have haw : ∀ W, Below w.heap.size w W → Calls Tryz.prog 26 #[] W fun e w' => e = .returned (.bool true) ∧ Below W.heap.size W w' := fun W hb => sawake_of W (hT.new hb)
  obtain ⟨aa, ca, rfl, h2⟩ := id hA
  have hlv : ∃ ao cap, lv = .slice ao rs.length cap := by
    obtain ⟨ao, cap, e, _⟩ := id hR
    exact ⟨ao, cap, e⟩
  obtain ⟨al, cl, rfl⟩ := hlv
  go_enter Tryz.func5, Tryz.ntmps5
  go_wp2_with fail
  refine h0.mono ?_
  rintro e w1 ⟨hb1, hor⟩
  clear h0
  rcases hor with ⟨h64, hmay, S1, d, rfl, hD1, hS1⟩ | ⟨hno, rfl⟩
  · obtain ⟨q, rfl⟩ := hD1.shape
    have h70 : ¬ (70 : Int) < (rs.length : Int) := by omega
    have hI0 : Both [] w q (.slice al rs.length cl) (rs.map toFl) w1 := by
      have hF0 : @Fv keepAll w (.slice al rs.length cl) (rs.map toFl) := hR.fv hmay (fun _ _ => trivial) (Nat.zero_le _)
      exact ⟨S1, diskOf.lt hD1, hD1, Fv.out hF0 hb1 hS1, hS1, hb1, diskOf.sound hD1, hD1.byte, fun x hx => by cases hx⟩
    clear hD1 hR
    go_wp2
    go_loopg [0, 7, 8] 40 (fun g s0 s7 s8 wr => ∃ (i : Nat) (L : Int), i + g = 40 ∧ s7 = .int .i64 L ∧ s8 = .int .i64 (i : Int) ∧ ∃ fs, Both [] w q s0 fs wr)
    case atStart => exact ⟨0, 0, by simp, rfl, rfl, _, hI0⟩
    case round =>
      obtain ⟨i, L, hi, rfl, rfl, fs, hI⟩ := hrel
      by_cases hgo : i < l.length ∧ i < 40
      · have hlt1 : (i : Int) < (l.length : Int) := by omega
        have hlt2 : (i : Int) < 40 := by omega
        have hx : l[i]? = some l[i] := List.getElem?_eq_getElem hgo.1
        have hxm := List.getElem_mem hgo.1
        obtain ⟨b, off, vs, rfl, ⟨cv, bv, rfl, hNx, hBx⟩, hc⟩ := h2 i l[i] hx
        have hok1 := hok _ hxm
        have hc0 : ∀ w', Below w.heap.size w w' → ∀ (j : Nat) (u : Value), [Value.bool l[i].crash, cv, .int .i64 l[i].group, .int .u64 (l[i].i : Int), .int .u64 (l[i].t : Int), bv][j]? = some u → w'.cell? ⟨b, off + i * 6 + j, none⟩ = some u := fun w' hb j u hu => (hb.cell (p := ⟨b, off + i * 6 + j, none⟩) (World.block_lt_of_cell? w _ (hc j u hu))).trans (hc j u hu)
        generalize l[i] = x at *
        have hbw := (mid_shape hI).2
        have c0 := hc0 wr hbw 0 _ rfl
        have c1 := hc0 wr hbw 1 _ rfl
        have c2 := hc0 wr hbw 2 _ rfl
        have c3 := hc0 wr hbw 3 _ rfl
        have c4 := hc0 wr hbw 4 _ rfl
        have c5 := hc0 wr hbw 5 _ rfl
        rw [Nat.add_zero] at c0
        obtain ⟨an, cn, hcv, -⟩ := id hNx
        subst hcv
        obtain ⟨ab, cb, hbv, hbl1, hbl2, -⟩ := id hBx
        subst hbv
        obtain ⟨a7, c7, hlv7⟩ := (mid_shape hI).1
        subst hlv7
        clear hc0 hc hx hgo hI0 hA h2
        obtain ⟨Z, hZ⟩ : ∃ Z, IntKind.i64.wrap (L + (x.b.length : Int)) = Z := ⟨_, rfl⟩
        have hZ2 : wrap64 (L + (x.b.length : Int)) = Z := by rw [← hZ]; exact (IntWalk.i64_left _).symm
        by_cases hlg : ¬ (200000 : Int) < Z
        · have hlg2 : decide ((200000 : Int) < Z) = false := decide_eq_false hlg
          clear haw
          obtain ⟨KK, HK⟩ : ∃ KK : List (Nat × Obj), Hid (KK = [(wr.heap.size, .cells #[.bool x.crash, .slice an x.cuts.length cn, .int .i64 x.group, .int .u64 (x.i : Int), .int .u64 (x.t : Int), .slice ab x.b.length cb] 59)]) := ⟨_, rfl⟩
          have hIb : Mid KK w q (.slice a7 fs.length c7) fs fs (wr.alloc (.cells #[.bool x.crash, .slice an x.cuts.length cn, .int .i64 x.group, .int .u64 (x.i : Int), .int .u64 (x.t : Int), .slice ab x.b.length cb] 59)) := by rw [HK.out]; exact Mid.box hI _
          have hdrop : ∀ fs1 fs2 lv1 W, Mid KK w q lv1 fs1 fs2 W → Mid [] w q lv1 fs1 fs2 W := fun fs1 fs2 lv1 W h => by rw [HK.out] at h; exact Mid.unbox h
          have hcell : ∀ fs1 fs2 lv1 W, Mid KK w q lv1 fs1 fs2 W → W.cell? ⟨wr.heap.size, 0, none⟩ = some (.bool x.crash) ∧ W.cell? ⟨wr.heap.size, 1, none⟩ = some (.slice an x.cuts.length cn) ∧ W.cell? ⟨wr.heap.size, 2, none⟩ = some (.int .i64 x.group) ∧ W.cell? ⟨wr.heap.size, 3, none⟩ = some (.int .u64 (x.i : Int)) ∧ W.cell? ⟨wr.heap.size, 4, none⟩ = some (.int .u64 (x.t : Int)) ∧ W.cell? ⟨wr.heap.size, 5, none⟩ = some (.slice ab x.b.length cb) := fun fs1 fs2 lv1 W h => by
            rw [HK.out] at h
            have h := Mid.at h (x := (wr.heap.size, .cells #[.bool x.crash, .slice an x.cuts.length cn, .int .i64 x.group, .int .u64 (x.i : Int), .int .u64 (x.t : Int), .slice ab x.b.length cb] 59)) List.mem_cons_self
            exact ⟨by rw [cells_of_block h]; rfl, by rw [cells_of_block h]; rfl, by rw [cells_of_block h]; rfl, by rw [cells_of_block h]; rfl, by rw [cells_of_block h]; rfl, by rw [cells_of_block h]; rfl⟩
          cases hcr : x.crash with
          | true =>
            rw [hcr] at c0
            have kC := crash_mid hIb hNx
            go_wp2_with fail
            rw [show (Value.bool true) = .bool x.crash by rw [hcr]]
            refine kC.mono ?_
            rintro e w4 ⟨rfl, hM4⟩
            obtain ⟨d0, d1, d2, d3, d4, d5⟩ := hcell _ _ _ _ hM4
            have kR := crash_ref hM4 hNx
            clear kC hM4 hIb hI
            go_wp2_with fail
            refine kR.mono ?_
            rintro e w5 ⟨a5, n5, p5, rfl, hI⟩
            clear kR d0 d1 d2 d3 d4 d5
            have kF := files_both hI
            clear hI
            go_wp2_with fail
            refine kF.mono ?_
            rintro e w6 ⟨a6, n6, p6, rfl, hI6, kS⟩
            clear kF
            go_wp2_with fail
            refine kS.mono ?_
            rintro e w7 ⟨rfl, hI7⟩
            have kL := loads_of hT hI7 x.group
            obtain ⟨d0, d1, d2, d3, d4, d5⟩ := hcell _ _ _ _ hI7
            clear kS hI6 hI7
            go_wp2_with fail
            refine kL.mono ?_
            rintro e w8 ⟨rfl, hI8⟩
            have hIn := hdrop _ _ _ _ hI8
            clear kL d0 d1 d2 d3 d4 d5 hcell hdrop hI8 HK
            go_wp2
            go_roundg (gk - 1)
            case measure => omega
            case rel => exact ⟨i + 1, Z, by omega, by first | rfl | go_num, by go_num, _, hIn⟩
          | false =>
            rw [hcr] at c0
            have kS1 := save_both hT hIb x.group x.i x.t x.b ab cb hok1.1 hok1.2.1 hok1.2.2 hBx
            go_wp2_with fail
            rw [show (Value.bool false) = .bool x.crash by rw [hcr]]
            refine kS1.mono ?_
            rintro e w3 ⟨rfl, hM3⟩
            obtain ⟨d0, d1, d2, d3, d4, d5⟩ := hcell _ _ _ _ hM3
            have kR1 := ref_both x.group x.i x.t x.b ab cb hM3 hok1.1 hok1.2.1 hok1.2.2 hBx
            generalize ssaveF fs x.group x.i x.t x.b = R at *
            clear kS1 hM3 hIb hI
            go_wp2_with fail
            refine kR1.mono ?_
            rintro e w4 ⟨a5, n5, p5, rfl, hI⟩
            clear kR1 d0 d1 d2 d3 d4 d5
            generalize R.2 = r2 at *
            have kF := files_both hI
            clear hI
            go_wp2_with fail
            refine kF.mono ?_
            rintro e w6 ⟨a6, n6, p6, rfl, hI6, kS⟩
            clear kF
            go_wp2_with fail
            refine kS.mono ?_
            rintro e w7 ⟨rfl, hI7⟩
            have kL := loads_of hT hI7 x.group
            obtain ⟨d0, d1, d2, d3, d4, d5⟩ := hcell _ _ _ _ hI7
            clear kS hI6 hI7
            go_wp2_with fail
            refine kL.mono ?_
            rintro e w8 ⟨rfl, hI8⟩
            have hIn := hdrop _ _ _ _ hI8
            clear kL d0 d1 d2 d3 d4 d5 hcell hdrop hI8 HK
            go_wp2
            go_roundg (gk - 1)
            case measure => omega
            case rel => exact ⟨i + 1, Z, by omega, by first | rfl | go_num, by go_num, _, hIn⟩
        · have hlg := Classical.not_not.1 hlg
          have hba := hbw.alloc hbw.size (.cells #[.bool x.crash, .slice an x.cuts.length cn, .int .i64 x.group, .int .u64 (x.i : Int), .int .u64 (x.t : Int), .slice ab x.b.length cb] 59)
          have ha := haw _ hba
          clear haw hI hok1 hNx hBx
          go_wp2_with fail
          refine ha.mono ?_
          rintro e w5 ⟨rfl, hb5⟩
          go_wp2
          go_ret
          exact ⟨rfl, hba.trans (hb5.mono hba.size)⟩
      · have hgoi : ¬ ((i : Int) < (l.length : Int) ∧ (i : Int) < 40) := by omega
        have hend : (¬ (i : Int) < (l.length : Int)) ∨ ((i : Int) < (l.length : Int) ∧ ¬ (i : Int) < 40) := by
          by_cases h : (i : Int) < (l.length : Int)
          · exact .inr ⟨h, fun h' => hgoi ⟨h, h'⟩⟩
          · exact .inl h
        have hbw := (mid_shape hI).2
        have ha := haw wr hbw
        clear hA h2 hI0 hI hok hgo hgoi haw
        rcases hend with h | ⟨h, h'⟩ <;>
        (go_wp2_with fail
         refine ha.mono ?_
         rintro e w5 ⟨rfl, hb5⟩
         go_wp2
         go_ret
         exact ⟨rfl, hbw.trans (hb5.mono hbw.size)⟩)
  · have ha := haw w1 hb1
    clear hno hR haw
    go_wp2_with fail
    refine ha.mono ?_
    rintro e w3 ⟨rfl, hb3⟩
    go_wp2
    go_ret
    exact ⟨rfl, hb1.trans (hb3.mono hb1.size)⟩
end Go.Proofs.YtoipjmjhplkibaaGreatDoor

/- The law SnapLoads answers true and leaves all memory as it was: the walk. -/
namespace Go.Proofs.YtoipjmjhplkibaaGreatDoor
open Go.RowKit DiskMath
set_option maxRecDepth 100000
set_option linter.unusedSimpArgs false
set_option linter.unusedVariables false

theorem seven_name : gName 7 = ⟨#[115, 110, 97, 112, 45, 55]⟩ := by
  have h : Lib.decDigits 7 = [55] := dec_one (by decide)
  unfold gName gPre gDig
  rw [h]
  rfl

set_option maxHeartbeats 4000000 in
theorem sloads_law (l : List Nat) (v : Value) (w : World) (hT : Tb w) (hB : @Bs keepAll w.heap.size w v l) (hl : ∀ c ∈ l, c < 256) :
    Calls Tryz.prog 6 #[v] w fun e w' => e = .returned (.bool true) ∧ Below w.heap.size w w' := by
  letI := keepAll
  have haw : ∀ W, Below w.heap.size w W → Calls Tryz.prog 26 #[] W fun e w' => e = .returned (.bool true) ∧ Below W.heap.size W w' := fun W hb => sawake_of W (hT.new hb)
  obtain ⟨a, c, rfl, hlc, hcm, -⟩ := id hB
  by_cases hlong : l.length ≤ 40000
  · have hlg : ¬ (40000 : Int) < (l.length : Int) := by omega
    -- the row of one file
    have hbx := (Below.refl w.heap.size w).alloc (Nat.le_refl _) (.cells #[.string ⟨#[115, 110, 97, 112, 45, 55]⟩, .slice a l.length c, .int .i64 0] 67)
    have hbk := heap_alloc_new w (.cells #[.string ⟨#[115, 110, 97, 112, 45, 55]⟩, .slice a l.length c, .int .i64 0] 67)
    generalize hw0 : w.alloc (.cells #[.string ⟨#[115, 110, 97, 112, 45, 55]⟩, .slice a l.length c, .int .i64 0] 67) = w0 at hbx hbk
    have hR : @Rv keepAll w0 (.slice (some ⟨w.heap.size, 0, none⟩) 1 1) [⟨⟨#[115, 110, 97, 112, 45, 55]⟩, l, 0⟩] := by
      refine ⟨some ⟨w.heap.size, 0, none⟩, 1, rfl, fun i f hf => ?_⟩
      have hi : i = 0 := by
        have := (List.getElem?_eq_some_iff.1 hf).1
        simpa using this
      subst hi
      obtain rfl : _ = f := Option.some.inj hf
      refine ⟨w.heap.size, 0, .slice a l.length c, rfl, by rw [cells_of_block hbk]; rfl, by rw [cells_of_block hbk]; rfl, by rw [cells_of_block hbk]; rfl, (hB.below hbx).mono hbx.size⟩
    have hmay : mayFrom none [(⟨⟨#[115, 110, 97, 112, 45, 55]⟩, l, 0⟩ : Raw)] := ⟨⟨by rw [← seven_name]; exact gName_may (by decide), by show l.length ≤ 65536; omega, by show (0 : Int) ≤ 0; decide, by show (0 : Int) ≤ (l.length : Int); omega, fun q h => by cases h⟩, trivial⟩
    have h0 := dload_of _ _ w0 hR (fun r hr => by
      obtain rfl : r = ⟨⟨#[115, 110, 97, 112, 45, 55]⟩, l, 0⟩ := by simpa using hr
      exact hl)
    have kl : ∀ q W, Both [] w0 q (.slice (some ⟨w.heap.size, 0, none⟩) 1 1) ([(⟨⟨#[115, 110, 97, 112, 45, 55]⟩, l, 0⟩ : Raw)].map toFl) W → Calls Tryz.prog 31 #[.pointer (some ⟨q, 0, none⟩), .slice (some ⟨w.heap.size, 0, none⟩) 1 1, .int .i64 7] W fun e w' => e = .returned (.bool true) ∧ Below w0.heap.size w0 w' := fun q W hW => by
      refine (loads_of (hT.new hbx) hW 7).mono ?_
      rintro e w' ⟨he, hM⟩
      exact ⟨he, (mid_shape hM).2⟩
    clear hB hl
    go_enter Tryz.func6, Tryz.ntmps6
    go_wp2_with fail
    refine h0.mono ?_
    rintro e w1 ⟨hb1, hor⟩
    rcases hor with ⟨h64, hmay', S1, d, rfl, hD1, hS1⟩ | ⟨hno, -⟩
    · obtain ⟨q, rfl⟩ := hD1.shape
      have hI0 : Both [] w0 q (.slice (some ⟨w.heap.size, 0, none⟩) 1 1) ([(⟨⟨#[115, 110, 97, 112, 45, 55]⟩, l, 0⟩ : Raw)].map toFl) w1 := by
        have hF0 : @Fv keepAll w0 (.slice (some ⟨w.heap.size, 0, none⟩) 1 1) ([(⟨⟨#[115, 110, 97, 112, 45, 55]⟩, l, 0⟩ : Raw)].map toFl) := hR.fv hmay (fun _ _ => trivial) (Nat.zero_le _)
        exact ⟨S1, diskOf.lt hD1, hD1, Fv.out hF0 hb1 hS1, hS1, hb1, diskOf.sound hD1, hD1.byte, fun x hx => by cases hx⟩
      have k1 := kl q w1 hI0
      clear kl h0 hI0 hD1 hR hmay hmay'
      go_wp2_with fail
      refine k1.mono ?_
      rintro e w2 ⟨rfl, hb2⟩
      have hbw2 := hbx.trans (hb2.mono hbx.size)
      have ka := haw w2 hbw2
      clear k1 haw
      go_wp2_with fail
      refine ka.mono ?_
      rintro e w3 ⟨rfl, hb3⟩
      clear ka
      go_wp2
      go_ret
      exact ⟨rfl, hbw2.trans (hb3.mono hbw2.size)⟩
    · exact absurd ⟨by simp, hmay⟩ hno
  · have hlg : (40000 : Int) < (l.length : Int) := by omega
    have ka := haw w (Below.refl _ _)
    clear haw hB
    go_enter Tryz.func6, Tryz.ntmps6
    go_wp2_with fail
    refine ka.mono ?_
    rintro e w3 ⟨rfl, hb3⟩
    clear ka
    go_wp2
    go_ret
    exact ⟨rfl, hb3⟩
end Go.Proofs.YtoipjmjhplkibaaGreatDoor

