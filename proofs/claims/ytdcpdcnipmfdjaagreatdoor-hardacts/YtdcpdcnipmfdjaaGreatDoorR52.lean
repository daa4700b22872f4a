import Derived.Test.YtdcpdcnipmfdjaaGreatDoorR51
import Derived.Test.YtdcpdcnipmfdjaaGreatDoorR25
/- The law HardActs answers true and leaves all memory as it was: the walk. -/
namespace Go.Proofs.YtdcpdcnipmfdjaaGreatDoor
open Go.RowKit DiskMath
set_option maxRecDepth 100000
set_option linter.unusedSimpArgs false
set_option linter.unusedVariables false

/-- Files of the input lie apart from a disk of the call's own. -/
theorem Fv.out {w w2 : World} {S : Nat → Prop} {lv : Value} {fs : Files} {hS : ∀ b, S b → b < w2.heap.size} (h : @Fv keepAll w lv fs) (hb : Below w.heap.size w w2) (hSn : ∀ b, S b → w.heap.size ≤ b) : @Fv (keepBut S w2 hS) w2 lv fs := by
  obtain ⟨_, ao, cap, e, h2⟩ := h
  refine ⟨Nat.le_refl _, ao, cap, e, fun i f hf => ?_⟩
  obtain ⟨b, off, sv, r1, r2, r3, r4, r5, r6⟩ := h2 i f hf
  have hlt := World.block_lt_of_cell? w _ r2
  refine ⟨b, off, sv, r1, (hb.cell (p := ⟨b, off + i * 3, none⟩) hlt).trans r2, (hb.cell (p := ⟨b, off + i * 3 + 1, none⟩) hlt).trans r3, (hb.cell (p := ⟨b, off + i * 3 + 2, none⟩) hlt).trans r4, ?_, fun hs => by have := hSn b hs; simp at hlt; omega⟩
  have h := @Bs.below keepAll _ _ _ _ _ r5 hb
  exact @Bs.mono (keepBut S w2 hS) _ _ _ _ _ (h.imp fun b hlt _ hs => by have := hSn b hs; omega) hb.size

/-- What Load tells of a group that may be, beside what the document's own Read and Decode tell. -/
theorem load_told (fs : Files) (g : Nat) (hg : g < 1000) : (∃ t v c : Nat, hloadV fs (g : Int) = .tuple #[.agg #[.int .u64 (t : Int), .int .i64 (v : Int), .int .u64 (c : Int)], .int .i64 0] ∧ ((get fs (gName g) = none ∧ t = 0 ∧ v = 0 ∧ c = 0) ∨ (∃ f, get fs (gName g) = some f ∧ Fr.hdDec f.data = some (t, v, c)))) ∨
    (∃ f, get fs (gName g) = some f ∧ Fr.hdDec f.data = none ∧ hloadV fs (g : Int) = .tuple #[.agg #[.int .u64 0, .int .i64 0, .int .u64 0], .int .i64 5]) := by
  unfold hloadV
  rw [if_pos ⟨by omega, by omega⟩, Int.toNat_natCast]
  unfold loadV
  cases h : get fs (gName g) with
  | none => exact .inl ⟨0, 0, 0, rfl, .inl ⟨rfl, rfl, rfl, rfl⟩⟩
  | some f =>
    cases h2 : Fr.hdDec f.data with
    | none => exact .inr ⟨f, rfl, h2, by dsimp only; rw [h2]; rfl⟩
    | some x =>
      obtain ⟨t, v, c⟩ := x
      exact .inl ⟨t, v, c, by dsimp only; rw [h2]; rfl, .inr ⟨f, rfl, h2⟩⟩

/-- What was saved is loaded. -/
theorem saved_told {fs : Files} (hs : SoundF fs) (g v : Int) (t c : Nat) (ht : t < 18446744073709551616) (hc : c < 18446744073709551616) (h : (hsaveF fs g v t c).2 = 0) : hloadV (hsaveF fs g v t c).1 g = .tuple #[.agg #[.int .u64 (t : Int), .int .i64 v, .int .u64 (c : Int)], .int .i64 0] := by
  unfold hsaveF at h ⊢
  by_cases hgv : (0 ≤ g ∧ g ≤ 999) ∧ (0 ≤ v ∧ v ≤ 7)
  · rw [if_pos hgv] at h ⊢
    obtain ⟨n, rfl⟩ : ∃ n : Nat, v = (n : Int) := ⟨v.toNat, by omega⟩
    obtain ⟨m, rfl⟩ : ∃ m : Nat, g = (m : Int) := ⟨g.toNat, by omega⟩
    rw [Int.toNat_natCast, Int.toNat_natCast] at *
    have hsv := save_get hs (g := m) (by omega) h
    unfold hloadV
    rw [if_pos hgv.1, Int.toNat_natCast]
    unfold loadV
    rw [hsv]
    dsimp only
    rw [Fr.hdDec_back t n c ht (by omega) hc]
    rfl
  · rw [if_neg hgv] at h
    cases h
end Go.Proofs.YtdcpdcnipmfdjaaGreatDoor

/- The law HardActs answers true and leaves all memory as it was: the walk (written by wip/tools/gen_hacts.py). -/
namespace Go.Proofs.YtdcpdcnipmfdjaaGreatDoor
open Go.RowKit DiskMath
set_option maxRecDepth 100000
set_option linter.unusedSimpArgs false
set_option linter.unusedVariables false

set_option maxHeartbeats 8000000 in
theorem hacts_law (rs : List Raw) (l : List Ha) (lv av : Value) (w : World) (hT : Tb w) (hR : @Rv keepAll w lv rs) (hby : ∀ r ∈ rs, ∀ c ∈ r.data, c < 256) (hA : Hv w av l) (hok : ∀ x ∈ l, HaOk x) :
    Calls Tryz.prog 6 #[lv, av] w fun e w' => e = .returned (.bool true) ∧ Below w.heap.size w w' := by
  letI := keepAll
  have h0 := dload_of rs lv w hR hby
  have haw : ∀ W, Below w.heap.size w W → Calls Tryz.prog 25 #[] W fun e w' => e = .returned (.bool true) ∧ Below W.heap.size W w' := fun W hb => hawake_of W (hT.new hb)
  obtain ⟨aa, ca, rfl, h2⟩ := id hA
  have hlv : ∃ ao cap, lv = .slice ao rs.length cap := by
    obtain ⟨ao, cap, e, _⟩ := id hR
    exact ⟨ao, cap, e⟩
  obtain ⟨al, cl, rfl⟩ := hlv
  go_enter Tryz.func6, Tryz.ntmps6
  go_wp2_with fail
  refine h0.mono ?_
  rintro e w1 ⟨hb1, hor⟩
  clear h0
  rcases hor with ⟨h64, hmay, S1, d, rfl, hD1, hS1⟩ | ⟨hno, rfl⟩
  · obtain ⟨q, rfl⟩ := hD1.shape
    have h70 : ¬ (70 : Int) < (rs.length : Int) := by omega
    have hI0 : Both [] w q (.slice al rs.length cl) (rs.map toFl) w1 := by
      have hF0 : @Fv keepAll w (.slice al rs.length cl) (rs.map toFl) := hR.fv hmay (fun _ _ => trivial) (Nat.zero_le _)
      exact ⟨S1, diskOf.lt hD1, hD1, Fv.out hF0 hb1 hS1, hS1, hb1, diskOf.sound hD1, hD1.byte, fun x hx => by cases hx⟩
    clear hD1 hR
    go_wp2
    go_loopg [0, 7] 60 (fun g s0 s7 wr => ∃ i : Nat, i + g = 60 ∧ s7 = .int .i64 (i : Int) ∧ ∃ fs, Both [] w q s0 fs wr)
    case atStart => exact ⟨0, by simp, rfl, _, hI0⟩
    case round =>
      obtain ⟨i, hi, rfl, fs, hI⟩ := hrel
      by_cases hgo : i < l.length ∧ i < 60
      · have hlt1 : (i : Int) < (l.length : Int) := by omega
        have hlt2 : (i : Int) < 60 := by omega
        have hx : l[i]? = some l[i] := List.getElem?_eq_getElem hgo.1
        have hxm := List.getElem_mem hgo.1
        obtain ⟨b, off, vs, rfl, ⟨cv, rfl, hNx⟩, hc⟩ := h2 i l[i] hx
        have hok1 := hok _ hxm
        have hc0 : ∀ w', Below w.heap.size w w' → ∀ (j : Nat) (u : Value), [Value.bool l[i].crash, cv, .int .i64 l[i].group, .int .u64 (l[i].t : Int), .int .i64 l[i].v, .int .u64 (l[i].c : Int)][j]? = some u → w'.cell? ⟨b, off + i * 6 + j, none⟩ = some u := fun w' hb j u hu => (hb.cell (p := ⟨b, off + i * 6 + j, none⟩) (World.block_lt_of_cell? w _ (hc j u hu))).trans (hc j u hu)
        generalize l[i] = x at *
        have hbw := (mid_shape hI).2
        have c0 := hc0 wr hbw 0 _ rfl
        have c1 := hc0 wr hbw 1 _ rfl
        have c2 := hc0 wr hbw 2 _ rfl
        have c3 := hc0 wr hbw 3 _ rfl
        have c4 := hc0 wr hbw 4 _ rfl
        have c5 := hc0 wr hbw 5 _ rfl
        rw [Nat.add_zero] at c0
        obtain ⟨an, cn, hcv, -⟩ := id hNx
        subst hcv
        obtain ⟨a7, c7, hlv7⟩ := (mid_shape hI).1
        subst hlv7
        clear hc0 hc hx hgo hI0 hA h2 haw
        obtain ⟨KK, HK⟩ : ∃ KK : List (Nat × Obj), Hid (KK = [(wr.heap.size, .cells #[.bool x.crash, .slice an x.cuts.length cn, .int .i64 x.group, .int .u64 (x.t : Int), .int .i64 x.v, .int .u64 (x.c : Int)] 64)]) := ⟨_, rfl⟩
        have hIb : Mid KK w q (.slice a7 fs.length c7) fs fs (wr.alloc (.cells #[.bool x.crash, .slice an x.cuts.length cn, .int .i64 x.group, .int .u64 (x.t : Int), .int .i64 x.v, .int .u64 (x.c : Int)] 64)) := by rw [HK.out]; exact Mid.box hI _
        have hdrop : ∀ fs1 fs2 lv1 W, Mid KK w q lv1 fs1 fs2 W → Mid [] w q lv1 fs1 fs2 W := fun fs1 fs2 lv1 W h => by rw [HK.out] at h; exact Mid.unbox h
        have hcell : ∀ fs1 fs2 lv1 W, Mid KK w q lv1 fs1 fs2 W → W.cell? ⟨wr.heap.size, 0, none⟩ = some (.bool x.crash) ∧ W.cell? ⟨wr.heap.size, 1, none⟩ = some (.slice an x.cuts.length cn) ∧ W.cell? ⟨wr.heap.size, 2, none⟩ = some (.int .i64 x.group) ∧ W.cell? ⟨wr.heap.size, 3, none⟩ = some (.int .u64 (x.t : Int)) ∧ W.cell? ⟨wr.heap.size, 4, none⟩ = some (.int .i64 x.v) ∧ W.cell? ⟨wr.heap.size, 5, none⟩ = some (.int .u64 (x.c : Int)) := fun fs1 fs2 lv1 W h => by
          rw [HK.out] at h
          have h := Mid.at h (x := (wr.heap.size, .cells #[.bool x.crash, .slice an x.cuts.length cn, .int .i64 x.group, .int .u64 (x.t : Int), .int .i64 x.v, .int .u64 (x.c : Int)] 64)) List.mem_cons_self
          exact ⟨by rw [cells_of_block h]; rfl, by rw [cells_of_block h]; rfl, by rw [cells_of_block h]; rfl, by rw [cells_of_block h]; rfl, by rw [cells_of_block h]; rfl, by rw [cells_of_block h]; rfl⟩
        cases hcr : x.crash with
        | true =>
          rw [hcr] at c0
          have kC := crash_mid hIb hNx
          go_wp2_with fail
          rw [show (Value.bool true) = .bool x.crash by rw [hcr]]
          refine kC.mono ?_
          rintro e w4 ⟨rfl, hM4⟩
          obtain ⟨d0, d1, d2, d3, d4, d5⟩ := hcell _ _ _ _ hM4
          have kR := crash_ref hM4 hNx
          clear kC hM4 hIb hI
          go_wp2_with fail
          refine kR.mono ?_
          rintro e w5 ⟨a5, n5, p5, rfl, hI⟩
          clear kR d0 d1 d2 d3 d4 d5
          have kF := files_both hI
          clear hI
          go_wp2_with fail
          refine kF.mono ?_
          rintro e w6 ⟨a6, n6, p6, rfl, hI6, kS⟩
          clear kF
          go_wp2_with fail
          refine kS.mono ?_
          rintro e w7 ⟨rfl, hI7⟩
          have kL := load_both hT hI7 x.group
          obtain ⟨d0, d1, d2, d3, d4, d5⟩ := hcell _ _ _ _ hI7
          clear kS hI6 hI7
          by_cases hg : 0 ≤ x.group ∧ x.group ≤ 999
          · obtain ⟨m, hm⟩ : ∃ m : Nat, x.group = (m : Int) := ⟨x.group.toNat, by omega⟩
            have hm1 : m < 1000 := by omega
            have hmi : ¬ (m : Int) < 0 := by omega
            have hmj : ¬ (999 : Int) < (m : Int) := by omega
            rw [hm] at kL d2
            have hD := fun W => digits_of m W hm1
            have hk1 : ¬ 9223372036854775807 < 5 + (gDig m).size := by have := gDig_size hm1; omega
            have HG : Hid ((⟨#[104, 97, 114, 100, 45]⟩ : ByteArray) ++ gDig m = gName m) := rfl
            have hcm : ∀ fs1 fs2 lv1 W, Mid KK w q lv1 fs1 fs2 W → W.cell? ⟨wr.heap.size, 2, none⟩ = some (.int .i64 (m : Int)) := fun fs1 fs2 lv1 W h => by
              have := (hcell fs1 fs2 lv1 W h).2.2.1
              rw [hm] at this
              exact this
            rcases load_told (crash fs x.cuts) m hm1 with ⟨t, v, c, hlv, hor⟩ | ⟨f, hgf, hdn, hlv⟩
            · rw [hlv] at kL
              rcases hor with ⟨hgn, rfl, rfl, rfl⟩ | ⟨f, hgf, hds⟩
              · go_wp2_with fail
                refine kL.mono ?_
                rintro e w8 ⟨rfl, hI8⟩
                have hI9 := Mid.box hI8 (.cells #[.int .u64 0, .int .i64 0, .int .u64 0] 54)
                have e9 := hcm _ _ _ _ hI8
                have hbz := (Below.refl w8.heap.size w8).alloc (Nat.le_refl _) (.cells #[.int .u64 0, .int .i64 0, .int .u64 0] 54)
                have e9' := (hbz.cell (p := ⟨wr.heap.size, 2, none⟩) (World.block_lt_of_cell? w8 _ e9)).trans e9
                have hD9 := hD (w8.alloc (.cells #[.int .u64 0, .int .i64 0, .int .u64 0] 54))
                clear kL e9 hbz hI8 hcell hcm hD d0 d1 d2 d3 d4 d5
                go_wp2_with fail
                refine hD9.mono ?_
                rintro e w10 ⟨rfl, hb10⟩
                have hI10 := Mid.below hI9 hb10
                have kR := rd_both hI10 m
                rw [hgn] at kR
                have hdn0 : Fr.hdDec (((none : Option File).map Fl.data).getD []) = none := rfl
                rw [hdn0] at kR
                simp only [Fr.rdecV, Option.isSome_none] at kR
                clear hD9 hI9 hdn0
                go_wp2_with fail
                rw [HG.out]
                refine kR.mono ?_
                rintro e w10' ⟨hw10, a11, n11, p11, rfl, kDc⟩
                rw [hw10]
                clear hw10 kR
                go_wp2_with fail
                refine kDc.mono ?_
                rintro e w12 ⟨rfl, hI12⟩
                clear kDc
                have hx12 := Mid.at hI12 (x := (w8.heap.size, .cells #[.int .u64 0, .int .i64 0, .int .u64 0] 54)) List.mem_cons_self

                have hbz := (Below.refl w12.heap.size w12).alloc (Nat.le_refl _) (.cells #[.int .u64 0, .int .i64 0, .int .u64 0] 54)
                have hx13 := (hbz.block w8.heap.size (Array.getElem?_eq_some_iff.1 hx12).1).trans hx12
                have y0 : (w12.alloc (.cells #[.int .u64 0, .int .i64 0, .int .u64 0] 54)).cell? ⟨w8.heap.size, 0, none⟩ = some (.int .u64 0) := by rw [cells_of_block hx13]; rfl
                have y1 : (w12.alloc (.cells #[.int .u64 0, .int .i64 0, .int .u64 0] 54)).cell? ⟨w8.heap.size, 1, none⟩ = some (.int .i64 0) := by rw [cells_of_block hx13]; rfl
                have y2 : (w12.alloc (.cells #[.int .u64 0, .int .i64 0, .int .u64 0] 54)).cell? ⟨w8.heap.size, 2, none⟩ = some (.int .u64 0) := by rw [cells_of_block hx13]; rfl
                have hI13 := Mid.below hI12 hbz
                clear hx12 hx13 hbz hI12 hI10
                go_wp2
                go_roundg (gk - 1)
                case measure => omega
                case rel => exact ⟨i + 1, by omega, by go_num, _, hdrop _ _ _ _ (Mid.unbox hI13)⟩
              · go_wp2_with fail
                refine kL.mono ?_
                rintro e w8 ⟨rfl, hI8⟩
                have hI9 := Mid.box hI8 (.cells #[.int .u64 (t : Int), .int .i64 (v : Int), .int .u64 (c : Int)] 54)
                have e9 := hcm _ _ _ _ hI8
                have hbz := (Below.refl w8.heap.size w8).alloc (Nat.le_refl _) (.cells #[.int .u64 (t : Int), .int .i64 (v : Int), .int .u64 (c : Int)] 54)
                have e9' := (hbz.cell (p := ⟨wr.heap.size, 2, none⟩) (World.block_lt_of_cell? w8 _ e9)).trans e9
                have hD9 := hD (w8.alloc (.cells #[.int .u64 (t : Int), .int .i64 (v : Int), .int .u64 (c : Int)] 54))
                clear kL e9 hbz hI8 hcell hcm hD d0 d1 d2 d3 d4 d5
                go_wp2_with fail
                refine hD9.mono ?_
                rintro e w10 ⟨rfl, hb10⟩
                have hI10 := Mid.below hI9 hb10
                have kR := rd_both hI10 m
                rw [hgf] at kR
                simp only [Option.map_some, Option.getD_some, hds, Fr.rdecV, Option.isSome_some] at kR
                clear hD9 hI9
                go_wp2_with fail
                rw [HG.out]
                refine kR.mono ?_
                rintro e w10' ⟨hw10, a11, n11, p11, rfl, kDc⟩
                rw [hw10]
                clear hw10 kR
                go_wp2_with fail
                refine kDc.mono ?_
                rintro e w12 ⟨rfl, hI12⟩
                clear kDc
                have hx12 := Mid.at hI12 (x := (w8.heap.size, .cells #[.int .u64 (t : Int), .int .i64 (v : Int), .int .u64 (c : Int)] 54)) List.mem_cons_self

                have hbz := (Below.refl w12.heap.size w12).alloc (Nat.le_refl _) (.cells #[.int .u64 (t : Int), .int .i64 (v : Int), .int .u64 (c : Int)] 54)
                have hx13 := (hbz.block w8.heap.size (Array.getElem?_eq_some_iff.1 hx12).1).trans hx12
                have y0 : (w12.alloc (.cells #[.int .u64 (t : Int), .int .i64 (v : Int), .int .u64 (c : Int)] 54)).cell? ⟨w8.heap.size, 0, none⟩ = some (.int .u64 (t : Int)) := by rw [cells_of_block hx13]; rfl
                have y1 : (w12.alloc (.cells #[.int .u64 (t : Int), .int .i64 (v : Int), .int .u64 (c : Int)] 54)).cell? ⟨w8.heap.size, 1, none⟩ = some (.int .i64 (v : Int)) := by rw [cells_of_block hx13]; rfl
                have y2 : (w12.alloc (.cells #[.int .u64 (t : Int), .int .i64 (v : Int), .int .u64 (c : Int)] 54)).cell? ⟨w8.heap.size, 2, none⟩ = some (.int .u64 (c : Int)) := by rw [cells_of_block hx13]; rfl
                have hI13 := Mid.below hI12 hbz
                clear hx12 hx13 hbz hI12 hI10
                go_wp2
                go_roundg (gk - 1)
                case measure => omega
                case rel => exact ⟨i + 1, by omega, by go_num, _, hdrop _ _ _ _ (Mid.unbox hI13)⟩
            · rw [hlv] at kL
              go_wp2_with fail
              refine kL.mono ?_
              rintro e w8 ⟨rfl, hI8⟩
              have hI9 := Mid.box hI8 (.cells #[.int .u64 0, .int .i64 0, .int .u64 0] 54)
              have e9 := hcm _ _ _ _ hI8
              have hbz := (Below.refl w8.heap.size w8).alloc (Nat.le_refl _) (.cells #[.int .u64 0, .int .i64 0, .int .u64 0] 54)
              have e9' := (hbz.cell (p := ⟨wr.heap.size, 2, none⟩) (World.block_lt_of_cell? w8 _ e9)).trans e9
              have hD9 := hD (w8.alloc (.cells #[.int .u64 0, .int .i64 0, .int .u64 0] 54))
              clear kL e9 hbz hI8 hcell hcm hD d0 d1 d2 d3 d4 d5
              go_wp2_with fail
              refine hD9.mono ?_
              rintro e w10 ⟨rfl, hb10⟩
              have hI10 := Mid.below hI9 hb10
              have kR := rd_both hI10 m
              rw [hgf] at kR
              simp only [Option.map_some, Option.getD_some, hdn, Fr.rdecV, Option.isSome_some] at kR
              clear hD9 hI9
              go_wp2_with fail
              rw [HG.out]
              refine kR.mono ?_
              rintro e w10' ⟨hw10, a11, n11, p11, rfl, kDc⟩
              rw [hw10]
              clear hw10 kR
              go_wp2_with fail
              refine kDc.mono ?_
              rintro e w12 ⟨rfl, hI12⟩
              clear kDc
              have hx12 := Mid.at hI12 (x := (w8.heap.size, .cells #[.int .u64 0, .int .i64 0, .int .u64 0] 54)) List.mem_cons_self

              have hbz := (Below.refl w12.heap.size w12).alloc (Nat.le_refl _) (.cells #[.int .u64 0, .int .i64 0, .int .u64 0] 54)
              have hx13 := (hbz.block w8.heap.size (Array.getElem?_eq_some_iff.1 hx12).1).trans hx12
              have y0 : (w12.alloc (.cells #[.int .u64 0, .int .i64 0, .int .u64 0] 54)).cell? ⟨w8.heap.size, 0, none⟩ = some (.int .u64 0) := by rw [cells_of_block hx13]; rfl
              have y1 : (w12.alloc (.cells #[.int .u64 0, .int .i64 0, .int .u64 0] 54)).cell? ⟨w8.heap.size, 1, none⟩ = some (.int .i64 0) := by rw [cells_of_block hx13]; rfl
              have y2 : (w12.alloc (.cells #[.int .u64 0, .int .i64 0, .int .u64 0] 54)).cell? ⟨w8.heap.size, 2, none⟩ = some (.int .u64 0) := by rw [cells_of_block hx13]; rfl
              have hI13 := Mid.below hI12 hbz
              clear hx12 hx13 hbz hI12 hI10
              go_wp2
              go_roundg (gk - 1)
              case measure => omega
              case rel => exact ⟨i + 1, by omega, by go_num, _, hdrop _ _ _ _ (Mid.unbox hI13)⟩
          · have hx : (x.group < 0) ∨ (¬ x.group < 0 ∧ 999 < x.group) := by omega
            have hlv : hloadV (crash fs x.cuts) x.group = .tuple #[.agg #[.int .u64 0, .int .i64 0, .int .u64 0], .int .i64 1] := if_neg hg
            rw [hlv] at kL
            clear hg hlv
            rcases hx with h | ⟨h, h'⟩ <;>
            (go_wp2_with fail
             refine kL.mono ?_
             rintro e w8 ⟨rfl, hI8⟩
             have hI9 := Mid.box hI8 (.cells #[.int .u64 0, .int .i64 0, .int .u64 0] 54)
             have e9 := (hcell _ _ _ _ hI8).2.2.1
             have hbz := (Below.refl w8.heap.size w8).alloc (Nat.le_refl _) (.cells #[.int .u64 0, .int .i64 0, .int .u64 0] 54)
             have e9' := (hbz.cell (p := ⟨wr.heap.size, 2, none⟩) (World.block_lt_of_cell? w8 _ e9)).trans e9
             clear kL e9 hbz hcell hI8
             go_wp2
             go_roundg (gk - 1)
             case measure => omega
             case rel => exact ⟨i + 1, by omega, by go_num, _, hdrop _ _ _ _ (Mid.unbox hI9)⟩)
        | false =>
          rw [hcr] at c0
          have kS1 := save_both hT hIb x.group x.v x.t x.c hok1.1 hok1.2
          go_wp2_with fail
          rw [show (Value.bool false) = .bool x.crash by rw [hcr]]
          refine kS1.mono ?_
          rintro e w3 ⟨rfl, hM3⟩
          obtain ⟨d0, d1, d2, d3, d4, d5⟩ := hcell _ _ _ _ hM3
          have kR1 := ref_both x.group x.v x.t x.c hM3 hok1.1 hok1.2
          have hsd : SoundF fs := by obtain ⟨_, _, _, _, _, _, h, _⟩ := hI; exact h
          have htold := saved_told hsd x.group x.v x.t x.c hok1.1 hok1.2
          generalize hsaveF fs x.group x.v x.t x.c = R at *
          clear kS1 hM3 hIb hI
          go_wp2_with fail
          refine kR1.mono ?_
          rintro e w4 ⟨a5, n5, p5, rfl, hI4⟩
          clear kR1 d0 d1 d2 d3 d4 d5
          obtain ⟨d0, d1, d2, d3, d4, d5⟩ := hcell _ _ _ _ hI4
          have kL1 := load_both hT hI4 x.group
          by_cases hR0 : R.2 = 0
          · rw [htold hR0] at kL1
            rw [hR0]
            go_wp2_with fail
            refine kL1.mono ?_
            rintro e w5 ⟨rfl, hI5⟩
            have hI5b := Mid.box hI5 (.cells #[.int .u64 (x.t : Int), .int .i64 x.v, .int .u64 (x.c : Int)] 54)
            have hbz := (Below.refl w5.heap.size w5).alloc (Nat.le_refl _) (.cells #[.int .u64 (x.t : Int), .int .i64 x.v, .int .u64 (x.c : Int)] 54)
            have hI := Mid.below hI5 hbz
            clear kL1 d0 d1 d2 d3 d4 d5 hI4 hI5 hI5b htold
            obtain ⟨d0, d1, d2, d3, d4, d5⟩ := hcell _ _ _ _ hI
            have kF := files_both hI
            clear hI
            go_wp2_with fail
            refine kF.mono ?_
            rintro e w6 ⟨a6, n6, p6, rfl, hI6, kS⟩
            clear kF
            go_wp2_with fail
            refine kS.mono ?_
            rintro e w7 ⟨rfl, hI7⟩
            have kL := load_both hT hI7 x.group
            obtain ⟨d0, d1, d2, d3, d4, d5⟩ := hcell _ _ _ _ hI7
            clear kS hI6 hI7
            by_cases hg : 0 ≤ x.group ∧ x.group ≤ 999
            · obtain ⟨m, hm⟩ : ∃ m : Nat, x.group = (m : Int) := ⟨x.group.toNat, by omega⟩
              have hm1 : m < 1000 := by omega
              have hmi : ¬ (m : Int) < 0 := by omega
              have hmj : ¬ (999 : Int) < (m : Int) := by omega
              rw [hm] at kL d2
              have hD := fun W => digits_of m W hm1
              have hk1 : ¬ 9223372036854775807 < 5 + (gDig m).size := by have := gDig_size hm1; omega
              have HG : Hid ((⟨#[104, 97, 114, 100, 45]⟩ : ByteArray) ++ gDig m = gName m) := rfl
              have hcm : ∀ fs1 fs2 lv1 W, Mid KK w q lv1 fs1 fs2 W → W.cell? ⟨wr.heap.size, 2, none⟩ = some (.int .i64 (m : Int)) := fun fs1 fs2 lv1 W h => by
                have := (hcell fs1 fs2 lv1 W h).2.2.1
                rw [hm] at this
                exact this
              rcases load_told R.1 m hm1 with ⟨t, v, c, hlv, hor⟩ | ⟨f, hgf, hdn, hlv⟩
              · rw [hlv] at kL
                rcases hor with ⟨hgn, rfl, rfl, rfl⟩ | ⟨f, hgf, hds⟩
                · go_wp2_with fail
                  refine kL.mono ?_
                  rintro e w8 ⟨rfl, hI8⟩
                  have hI9 := Mid.box hI8 (.cells #[.int .u64 0, .int .i64 0, .int .u64 0] 54)
                  have e9 := hcm _ _ _ _ hI8
                  have hbz := (Below.refl w8.heap.size w8).alloc (Nat.le_refl _) (.cells #[.int .u64 0, .int .i64 0, .int .u64 0] 54)
                  have e9' := (hbz.cell (p := ⟨wr.heap.size, 2, none⟩) (World.block_lt_of_cell? w8 _ e9)).trans e9
                  have hD9 := hD (w8.alloc (.cells #[.int .u64 0, .int .i64 0, .int .u64 0] 54))
                  clear kL e9 hbz hI8 hcell hcm hD d0 d1 d2 d3 d4 d5
                  go_wp2_with fail
                  refine hD9.mono ?_
                  rintro e w10 ⟨rfl, hb10⟩
                  have hI10 := Mid.below hI9 hb10
                  have kR := rd_both hI10 m
                  rw [hgn] at kR
                  have hdn0 : Fr.hdDec (((none : Option File).map Fl.data).getD []) = none := rfl
                  rw [hdn0] at kR
                  simp only [Fr.rdecV, Option.isSome_none] at kR
                  clear hD9 hI9 hdn0
                  go_wp2_with fail
                  rw [HG.out]
                  refine kR.mono ?_
                  rintro e w10' ⟨hw10, a11, n11, p11, rfl, kDc⟩
                  rw [hw10]
                  clear hw10 kR
                  go_wp2_with fail
                  refine kDc.mono ?_
                  rintro e w12 ⟨rfl, hI12⟩
                  clear kDc
                  have hx12 := Mid.at hI12 (x := (w8.heap.size, .cells #[.int .u64 0, .int .i64 0, .int .u64 0] 54)) List.mem_cons_self

                  have hbz := (Below.refl w12.heap.size w12).alloc (Nat.le_refl _) (.cells #[.int .u64 0, .int .i64 0, .int .u64 0] 54)
                  have hx13 := (hbz.block w8.heap.size (Array.getElem?_eq_some_iff.1 hx12).1).trans hx12
                  have y0 : (w12.alloc (.cells #[.int .u64 0, .int .i64 0, .int .u64 0] 54)).cell? ⟨w8.heap.size, 0, none⟩ = some (.int .u64 0) := by rw [cells_of_block hx13]; rfl
                  have y1 : (w12.alloc (.cells #[.int .u64 0, .int .i64 0, .int .u64 0] 54)).cell? ⟨w8.heap.size, 1, none⟩ = some (.int .i64 0) := by rw [cells_of_block hx13]; rfl
                  have y2 : (w12.alloc (.cells #[.int .u64 0, .int .i64 0, .int .u64 0] 54)).cell? ⟨w8.heap.size, 2, none⟩ = some (.int .u64 0) := by rw [cells_of_block hx13]; rfl
                  have hI13 := Mid.below hI12 hbz
                  clear hx12 hx13 hbz hI12 hI10
                  go_wp2
                  go_roundg (gk - 1)
                  case measure => omega
                  case rel => exact ⟨i + 1, by omega, by go_num, _, hdrop _ _ _ _ (Mid.unbox hI13)⟩
                · go_wp2_with fail
                  refine kL.mono ?_
                  rintro e w8 ⟨rfl, hI8⟩
                  have hI9 := Mid.box hI8 (.cells #[.int .u64 (t : Int), .int .i64 (v : Int), .int .u64 (c : Int)] 54)
                  have e9 := hcm _ _ _ _ hI8
                  have hbz := (Below.refl w8.heap.size w8).alloc (Nat.le_refl _) (.cells #[.int .u64 (t : Int), .int .i64 (v : Int), .int .u64 (c : Int)] 54)
                  have e9' := (hbz.cell (p := ⟨wr.heap.size, 2, none⟩) (World.block_lt_of_cell? w8 _ e9)).trans e9
                  have hD9 := hD (w8.alloc (.cells #[.int .u64 (t : Int), .int .i64 (v : Int), .int .u64 (c : Int)] 54))
                  clear kL e9 hbz hI8 hcell hcm hD d0 d1 d2 d3 d4 d5
                  go_wp2_with fail
                  refine hD9.mono ?_
                  rintro e w10 ⟨rfl, hb10⟩
                  have hI10 := Mid.below hI9 hb10
                  have kR := rd_both hI10 m
                  rw [hgf] at kR
                  simp only [Option.map_some, Option.getD_some, hds, Fr.rdecV, Option.isSome_some] at kR
                  clear hD9 hI9
                  go_wp2_with fail
                  rw [HG.out]
                  refine kR.mono ?_
                  rintro e w10' ⟨hw10, a11, n11, p11, rfl, kDc⟩
                  rw [hw10]
                  clear hw10 kR
                  go_wp2_with fail
                  refine kDc.mono ?_
                  rintro e w12 ⟨rfl, hI12⟩
                  clear kDc
                  have hx12 := Mid.at hI12 (x := (w8.heap.size, .cells #[.int .u64 (t : Int), .int .i64 (v : Int), .int .u64 (c : Int)] 54)) List.mem_cons_self

                  have hbz := (Below.refl w12.heap.size w12).alloc (Nat.le_refl _) (.cells #[.int .u64 (t : Int), .int .i64 (v : Int), .int .u64 (c : Int)] 54)
                  have hx13 := (hbz.block w8.heap.size (Array.getElem?_eq_some_iff.1 hx12).1).trans hx12
                  have y0 : (w12.alloc (.cells #[.int .u64 (t : Int), .int .i64 (v : Int), .int .u64 (c : Int)] 54)).cell? ⟨w8.heap.size, 0, none⟩ = some (.int .u64 (t : Int)) := by rw [cells_of_block hx13]; rfl
                  have y1 : (w12.alloc (.cells #[.int .u64 (t : Int), .int .i64 (v : Int), .int .u64 (c : Int)] 54)).cell? ⟨w8.heap.size, 1, none⟩ = some (.int .i64 (v : Int)) := by rw [cells_of_block hx13]; rfl
                  have y2 : (w12.alloc (.cells #[.int .u64 (t : Int), .int .i64 (v : Int), .int .u64 (c : Int)] 54)).cell? ⟨w8.heap.size, 2, none⟩ = some (.int .u64 (c : Int)) := by rw [cells_of_block hx13]; rfl
                  have hI13 := Mid.below hI12 hbz
                  clear hx12 hx13 hbz hI12 hI10
                  go_wp2
                  go_roundg (gk - 1)
                  case measure => omega
                  case rel => exact ⟨i + 1, by omega, by go_num, _, hdrop _ _ _ _ (Mid.unbox hI13)⟩
              · rw [hlv] at kL
                go_wp2_with fail
                refine kL.mono ?_
                rintro e w8 ⟨rfl, hI8⟩
                have hI9 := Mid.box hI8 (.cells #[.int .u64 0, .int .i64 0, .int .u64 0] 54)
                have e9 := hcm _ _ _ _ hI8
                have hbz := (Below.refl w8.heap.size w8).alloc (Nat.le_refl _) (.cells #[.int .u64 0, .int .i64 0, .int .u64 0] 54)
                have e9' := (hbz.cell (p := ⟨wr.heap.size, 2, none⟩) (World.block_lt_of_cell? w8 _ e9)).trans e9
                have hD9 := hD (w8.alloc (.cells #[.int .u64 0, .int .i64 0, .int .u64 0] 54))
                clear kL e9 hbz hI8 hcell hcm hD d0 d1 d2 d3 d4 d5
                go_wp2_with fail
                refine hD9.mono ?_
                rintro e w10 ⟨rfl, hb10⟩
                have hI10 := Mid.below hI9 hb10
                have kR := rd_both hI10 m
                rw [hgf] at kR
                simp only [Option.map_some, Option.getD_some, hdn, Fr.rdecV, Option.isSome_some] at kR
                clear hD9 hI9
                go_wp2_with fail
                rw [HG.out]
                refine kR.mono ?_
                rintro e w10' ⟨hw10, a11, n11, p11, rfl, kDc⟩
                rw [hw10]
                clear hw10 kR
                go_wp2_with fail
                refine kDc.mono ?_
                rintro e w12 ⟨rfl, hI12⟩
                clear kDc
                have hx12 := Mid.at hI12 (x := (w8.heap.size, .cells #[.int .u64 0, .int .i64 0, .int .u64 0] 54)) List.mem_cons_self

                have hbz := (Below.refl w12.heap.size w12).alloc (Nat.le_refl _) (.cells #[.int .u64 0, .int .i64 0, .int .u64 0] 54)
                have hx13 := (hbz.block w8.heap.size (Array.getElem?_eq_some_iff.1 hx12).1).trans hx12
                have y0 : (w12.alloc (.cells #[.int .u64 0, .int .i64 0, .int .u64 0] 54)).cell? ⟨w8.heap.size, 0, none⟩ = some (.int .u64 0) := by rw [cells_of_block hx13]; rfl
                have y1 : (w12.alloc (.cells #[.int .u64 0, .int .i64 0, .int .u64 0] 54)).cell? ⟨w8.heap.size, 1, none⟩ = some (.int .i64 0) := by rw [cells_of_block hx13]; rfl
                have y2 : (w12.alloc (.cells #[.int .u64 0, .int .i64 0, .int .u64 0] 54)).cell? ⟨w8.heap.size, 2, none⟩ = some (.int .u64 0) := by rw [cells_of_block hx13]; rfl
                have hI13 := Mid.below hI12 hbz
                clear hx12 hx13 hbz hI12 hI10
                go_wp2
                go_roundg (gk - 1)
                case measure => omega
                case rel => exact ⟨i + 1, by omega, by go_num, _, hdrop _ _ _ _ (Mid.unbox hI13)⟩
            · have hx : (x.group < 0) ∨ (¬ x.group < 0 ∧ 999 < x.group) := by omega
              have hlv : hloadV R.1 x.group = .tuple #[.agg #[.int .u64 0, .int .i64 0, .int .u64 0], .int .i64 1] := if_neg hg
              rw [hlv] at kL
              clear hg hlv
              rcases hx with h | ⟨h, h'⟩ <;>
              (go_wp2_with fail
               refine kL.mono ?_
               rintro e w8 ⟨rfl, hI8⟩
               have hI9 := Mid.box hI8 (.cells #[.int .u64 0, .int .i64 0, .int .u64 0] 54)
               have e9 := (hcell _ _ _ _ hI8).2.2.1
               have hbz := (Below.refl w8.heap.size w8).alloc (Nat.le_refl _) (.cells #[.int .u64 0, .int .i64 0, .int .u64 0] 54)
               have e9' := (hbz.cell (p := ⟨wr.heap.size, 2, none⟩) (World.block_lt_of_cell? w8 _ e9)).trans e9
               clear kL e9 hbz hcell hI8
               go_wp2
               go_roundg (gk - 1)
               case measure => omega
               case rel => exact ⟨i + 1, by omega, by go_num, _, hdrop _ _ _ _ (Mid.unbox hI9)⟩)
          · have hRi : ¬ (R.2 : Int) = 0 := by omega
            have hRj : ((R.2 : Int) == 0) = false := by simp; omega
            have hsh : ∃ (t v c e : Int), hloadV R.1 x.group = .tuple #[.agg #[.int .u64 t, .int .i64 v, .int .u64 c], .int .i64 e] := by
              unfold hloadV
              split
              · exact loadV_shape _ _
              · exact ⟨_, _, _, _, rfl⟩
            obtain ⟨zt, zv, zc, ze, hsh⟩ := hsh
            rw [hsh] at kL1
            generalize hr2 : R.2 = r2 at *
            go_wp2_with fail
            refine kL1.mono ?_
            rintro e w5 ⟨rfl, hI5⟩
            have hbz := (Below.refl w5.heap.size w5).alloc (Nat.le_refl _) (.cells #[.int .u64 zt, .int .i64 zv, .int .u64 zc] 54)
            have hI := Mid.below hI5 hbz
            clear kL1 d0 d1 d2 d3 d4 d5 hI4 hI5 htold hsh
            obtain ⟨d0, d1, d2, d3, d4, d5⟩ := hcell _ _ _ _ hI
            have kF := files_both hI
            clear hI
            go_wp2_with fail
            refine kF.mono ?_
            rintro e w6 ⟨a6, n6, p6, rfl, hI6, kS⟩
            clear kF
            go_wp2_with fail
            refine kS.mono ?_
            rintro e w7 ⟨rfl, hI7⟩
            have kL := load_both hT hI7 x.group
            obtain ⟨d0, d1, d2, d3, d4, d5⟩ := hcell _ _ _ _ hI7
            clear kS hI6 hI7
            by_cases hg : 0 ≤ x.group ∧ x.group ≤ 999
            · obtain ⟨m, hm⟩ : ∃ m : Nat, x.group = (m : Int) := ⟨x.group.toNat, by omega⟩
              have hm1 : m < 1000 := by omega
              have hmi : ¬ (m : Int) < 0 := by omega
              have hmj : ¬ (999 : Int) < (m : Int) := by omega
              rw [hm] at kL d2
              have hD := fun W => digits_of m W hm1
              have hk1 : ¬ 9223372036854775807 < 5 + (gDig m).size := by have := gDig_size hm1; omega
              have HG : Hid ((⟨#[104, 97, 114, 100, 45]⟩ : ByteArray) ++ gDig m = gName m) := rfl
              have hcm : ∀ fs1 fs2 lv1 W, Mid KK w q lv1 fs1 fs2 W → W.cell? ⟨wr.heap.size, 2, none⟩ = some (.int .i64 (m : Int)) := fun fs1 fs2 lv1 W h => by
                have := (hcell fs1 fs2 lv1 W h).2.2.1
                rw [hm] at this
                exact this
              rcases load_told R.1 m hm1 with ⟨t, v, c, hlv, hor⟩ | ⟨f, hgf, hdn, hlv⟩
              · rw [hlv] at kL
                rcases hor with ⟨hgn, rfl, rfl, rfl⟩ | ⟨f, hgf, hds⟩
                · go_wp2_with fail
                  refine kL.mono ?_
                  rintro e w8 ⟨rfl, hI8⟩
                  have hI9 := Mid.box hI8 (.cells #[.int .u64 0, .int .i64 0, .int .u64 0] 54)
                  have e9 := hcm _ _ _ _ hI8
                  have hbz := (Below.refl w8.heap.size w8).alloc (Nat.le_refl _) (.cells #[.int .u64 0, .int .i64 0, .int .u64 0] 54)
                  have e9' := (hbz.cell (p := ⟨wr.heap.size, 2, none⟩) (World.block_lt_of_cell? w8 _ e9)).trans e9
                  have hD9 := hD (w8.alloc (.cells #[.int .u64 0, .int .i64 0, .int .u64 0] 54))
                  clear kL e9 hbz hI8 hcell hcm hD d0 d1 d2 d3 d4 d5
                  go_wp2_with fail
                  refine hD9.mono ?_
                  rintro e w10 ⟨rfl, hb10⟩
                  have hI10 := Mid.below hI9 hb10
                  have kR := rd_both hI10 m
                  rw [hgn] at kR
                  have hdn0 : Fr.hdDec (((none : Option File).map Fl.data).getD []) = none := rfl
                  rw [hdn0] at kR
                  simp only [Fr.rdecV, Option.isSome_none] at kR
                  clear hD9 hI9 hdn0
                  go_wp2_with fail
                  rw [HG.out]
                  refine kR.mono ?_
                  rintro e w10' ⟨hw10, a11, n11, p11, rfl, kDc⟩
                  rw [hw10]
                  clear hw10 kR
                  go_wp2_with fail
                  refine kDc.mono ?_
                  rintro e w12 ⟨rfl, hI12⟩
                  clear kDc
                  have hx12 := Mid.at hI12 (x := (w8.heap.size, .cells #[.int .u64 0, .int .i64 0, .int .u64 0] 54)) List.mem_cons_self

                  have hbz := (Below.refl w12.heap.size w12).alloc (Nat.le_refl _) (.cells #[.int .u64 0, .int .i64 0, .int .u64 0] 54)
                  have hx13 := (hbz.block w8.heap.size (Array.getElem?_eq_some_iff.1 hx12).1).trans hx12
                  have y0 : (w12.alloc (.cells #[.int .u64 0, .int .i64 0, .int .u64 0] 54)).cell? ⟨w8.heap.size, 0, none⟩ = some (.int .u64 0) := by rw [cells_of_block hx13]; rfl
                  have y1 : (w12.alloc (.cells #[.int .u64 0, .int .i64 0, .int .u64 0] 54)).cell? ⟨w8.heap.size, 1, none⟩ = some (.int .i64 0) := by rw [cells_of_block hx13]; rfl
                  have y2 : (w12.alloc (.cells #[.int .u64 0, .int .i64 0, .int .u64 0] 54)).cell? ⟨w8.heap.size, 2, none⟩ = some (.int .u64 0) := by rw [cells_of_block hx13]; rfl
                  have hI13 := Mid.below hI12 hbz
                  clear hx12 hx13 hbz hI12 hI10
                  go_wp2
                  go_roundg (gk - 1)
                  case measure => omega
                  case rel => exact ⟨i + 1, by omega, by go_num, _, hdrop _ _ _ _ (Mid.unbox hI13)⟩
                · go_wp2_with fail
                  refine kL.mono ?_
                  rintro e w8 ⟨rfl, hI8⟩
                  have hI9 := Mid.box hI8 (.cells #[.int .u64 (t : Int), .int .i64 (v : Int), .int .u64 (c : Int)] 54)
                  have e9 := hcm _ _ _ _ hI8
                  have hbz := (Below.refl w8.heap.size w8).alloc (Nat.le_refl _) (.cells #[.int .u64 (t : Int), .int .i64 (v : Int), .int .u64 (c : Int)] 54)
                  have e9' := (hbz.cell (p := ⟨wr.heap.size, 2, none⟩) (World.block_lt_of_cell? w8 _ e9)).trans e9
                  have hD9 := hD (w8.alloc (.cells #[.int .u64 (t : Int), .int .i64 (v : Int), .int .u64 (c : Int)] 54))
                  clear kL e9 hbz hI8 hcell hcm hD d0 d1 d2 d3 d4 d5
                  go_wp2_with fail
                  refine hD9.mono ?_
                  rintro e w10 ⟨rfl, hb10⟩
                  have hI10 := Mid.below hI9 hb10
                  have kR := rd_both hI10 m
                  rw [hgf] at kR
                  simp only [Option.map_some, Option.getD_some, hds, Fr.rdecV, Option.isSome_some] at kR
                  clear hD9 hI9
                  go_wp2_with fail
                  rw [HG.out]
                  refine kR.mono ?_
                  rintro e w10' ⟨hw10, a11, n11, p11, rfl, kDc⟩
                  rw [hw10]
                  clear hw10 kR
                  go_wp2_with fail
                  refine kDc.mono ?_
                  rintro e w12 ⟨rfl, hI12⟩
                  clear kDc
                  have hx12 := Mid.at hI12 (x := (w8.heap.size, .cells #[.int .u64 (t : Int), .int .i64 (v : Int), .int .u64 (c : Int)] 54)) List.mem_cons_self

                  have hbz := (Below.refl w12.heap.size w12).alloc (Nat.le_refl _) (.cells #[.int .u64 (t : Int), .int .i64 (v : Int), .int .u64 (c : Int)] 54)
                  have hx13 := (hbz.block w8.heap.size (Array.getElem?_eq_some_iff.1 hx12).1).trans hx12
                  have y0 : (w12.alloc (.cells #[.int .u64 (t : Int), .int .i64 (v : Int), .int .u64 (c : Int)] 54)).cell? ⟨w8.heap.size, 0, none⟩ = some (.int .u64 (t : Int)) := by rw [cells_of_block hx13]; rfl
                  have y1 : (w12.alloc (.cells #[.int .u64 (t : Int), .int .i64 (v : Int), .int .u64 (c : Int)] 54)).cell? ⟨w8.heap.size, 1, none⟩ = some (.int .i64 (v : Int)) := by rw [cells_of_block hx13]; rfl
                  have y2 : (w12.alloc (.cells #[.int .u64 (t : Int), .int .i64 (v : Int), .int .u64 (c : Int)] 54)).cell? ⟨w8.heap.size, 2, none⟩ = some (.int .u64 (c : Int)) := by rw [cells_of_block hx13]; rfl
                  have hI13 := Mid.below hI12 hbz
                  clear hx12 hx13 hbz hI12 hI10
                  go_wp2
                  go_roundg (gk - 1)
                  case measure => omega
                  case rel => exact ⟨i + 1, by omega, by go_num, _, hdrop _ _ _ _ (Mid.unbox hI13)⟩
              · rw [hlv] at kL
                go_wp2_with fail
                refine kL.mono ?_
                rintro e w8 ⟨rfl, hI8⟩
                have hI9 := Mid.box hI8 (.cells #[.int .u64 0, .int .i64 0, .int .u64 0] 54)
                have e9 := hcm _ _ _ _ hI8
                have hbz := (Below.refl w8.heap.size w8).alloc (Nat.le_refl _) (.cells #[.int .u64 0, .int .i64 0, .int .u64 0] 54)
                have e9' := (hbz.cell (p := ⟨wr.heap.size, 2, none⟩) (World.block_lt_of_cell? w8 _ e9)).trans e9
                have hD9 := hD (w8.alloc (.cells #[.int .u64 0, .int .i64 0, .int .u64 0] 54))
                clear kL e9 hbz hI8 hcell hcm hD d0 d1 d2 d3 d4 d5
                go_wp2_with fail
                refine hD9.mono ?_
                rintro e w10 ⟨rfl, hb10⟩
                have hI10 := Mid.below hI9 hb10
                have kR := rd_both hI10 m
                rw [hgf] at kR
                simp only [Option.map_some, Option.getD_some, hdn, Fr.rdecV, Option.isSome_some] at kR
                clear hD9 hI9
                go_wp2_with fail
                rw [HG.out]
                refine kR.mono ?_
                rintro e w10' ⟨hw10, a11, n11, p11, rfl, kDc⟩
                rw [hw10]
                clear hw10 kR
                go_wp2_with fail
                refine kDc.mono ?_
                rintro e w12 ⟨rfl, hI12⟩
                clear kDc
                have hx12 := Mid.at hI12 (x := (w8.heap.size, .cells #[.int .u64 0, .int .i64 0, .int .u64 0] 54)) List.mem_cons_self

                have hbz := (Below.refl w12.heap.size w12).alloc (Nat.le_refl _) (.cells #[.int .u64 0, .int .i64 0, .int .u64 0] 54)
                have hx13 := (hbz.block w8.heap.size (Array.getElem?_eq_some_iff.1 hx12).1).trans hx12
                have y0 : (w12.alloc (.cells #[.int .u64 0, .int .i64 0, .int .u64 0] 54)).cell? ⟨w8.heap.size, 0, none⟩ = some (.int .u64 0) := by rw [cells_of_block hx13]; rfl
                have y1 : (w12.alloc (.cells #[.int .u64 0, .int .i64 0, .int .u64 0] 54)).cell? ⟨w8.heap.size, 1, none⟩ = some (.int .i64 0) := by rw [cells_of_block hx13]; rfl
                have y2 : (w12.alloc (.cells #[.int .u64 0, .int .i64 0, .int .u64 0] 54)).cell? ⟨w8.heap.size, 2, none⟩ = some (.int .u64 0) := by rw [cells_of_block hx13]; rfl
                have hI13 := Mid.below hI12 hbz
                clear hx12 hx13 hbz hI12 hI10
                go_wp2
                go_roundg (gk - 1)
                case measure => omega
                case rel => exact ⟨i + 1, by omega, by go_num, _, hdrop _ _ _ _ (Mid.unbox hI13)⟩
            · have hx : (x.group < 0) ∨ (¬ x.group < 0 ∧ 999 < x.group) := by omega
              have hlv : hloadV R.1 x.group = .tuple #[.agg #[.int .u64 0, .int .i64 0, .int .u64 0], .int .i64 1] := if_neg hg
              rw [hlv] at kL
              clear hg hlv
              rcases hx with h | ⟨h, h'⟩ <;>
              (go_wp2_with fail
               refine kL.mono ?_
               rintro e w8 ⟨rfl, hI8⟩
               have hI9 := Mid.box hI8 (.cells #[.int .u64 0, .int .i64 0, .int .u64 0] 54)
               have e9 := (hcell _ _ _ _ hI8).2.2.1
               have hbz := (Below.refl w8.heap.size w8).alloc (Nat.le_refl _) (.cells #[.int .u64 0, .int .i64 0, .int .u64 0] 54)
               have e9' := (hbz.cell (p := ⟨wr.heap.size, 2, none⟩) (World.block_lt_of_cell? w8 _ e9)).trans e9
               clear kL e9 hbz hcell hI8
               go_wp2
               go_roundg (gk - 1)
               case measure => omega
               case rel => exact ⟨i + 1, by omega, by go_num, _, hdrop _ _ _ _ (Mid.unbox hI9)⟩)
      · have hgoi : ¬ ((i : Int) < (l.length : Int) ∧ (i : Int) < 60) := by omega
        have hend : (¬ (i : Int) < (l.length : Int)) ∨ ((i : Int) < (l.length : Int) ∧ ¬ (i : Int) < 60) := by
          by_cases h : (i : Int) < (l.length : Int)
          · exact .inr ⟨h, fun h' => hgoi ⟨h, h'⟩⟩
          · exact .inl h
        have hbw := (mid_shape hI).2
        have ha := haw wr hbw
        clear hA h2 hI0 hI hok hgo hgoi haw
        rcases hend with h | ⟨h, h'⟩ <;>
        (go_wp2_with fail
         refine ha.mono ?_
         rintro e w5 ⟨rfl, hb5⟩
         go_wp2
         go_ret
         exact ⟨rfl, hbw.trans (hb5.mono hbw.size)⟩)
  · have ha := haw w1 hb1
    clear hno hR haw
    go_wp2_with fail
    refine ha.mono ?_
    rintro e w3 ⟨rfl, hb3⟩
    go_wp2
    go_ret
    exact ⟨rfl, hb1.trans (hb3.mono hb1.size)⟩
end Go.Proofs.YtdcpdcnipmfdjaaGreatDoor

