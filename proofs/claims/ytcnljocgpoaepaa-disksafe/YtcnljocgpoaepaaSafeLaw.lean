/- The law DiskSafe answers true and leaves all memory as it was: the walk. -/
import Derived.Test.YtcnljocgpoaepaaDoAll
namespace Go.Proofs.Ytcnljocgpoaepaa
open Go.RowKit DiskMath
set_option maxRecDepth 100000
set_option linter.unusedSimpArgs false
set_option linter.unusedVariables false

/-- A disk of the call's own and the document's files beside it. -/
def Both (w : World) (q : Nat) (lv : Value) (fs : Files) (wr : World) : Prop :=
  ∃ S hS, Dk S wr (.pointer (some ⟨q, 0, none⟩)) fs ∧ @Fv (keepBut S wr hS) wr lv fs ∧ (∀ b, S b → w.heap.size ≤ b) ∧ Below w.heap.size w wr

/-- One act, with both. -/
theorem both_does (w : World) (q : Nat) (lv : Value) (fs : Files) (wr : World) (h : Both w q lv fs wr) (x : Ac) (bv cv : Value) (hok : AcOk x) (hB : @Bs keepAll w.heap.size w bv x.b) (hN : Nv w cv x.cuts) (hbl : x.b.length ≤ 140737488355328) (hcl : x.cuts.length * 8 ≤ 140737488355328) :
    Calls Try.prog 11 #[.pointer (some ⟨q, 0, none⟩), lv, .agg #[.int .i64 x.what, .string x.name, .string x.to, bv, .int .i64 x.n, cv]] wr fun e w' => ∃ lv', e = .returned (.tuple #[lv', .bool true]) ∧ Both w q lv' (actF fs x) w' := by
  obtain ⟨S, hS, hD, hF, hSn, hb⟩ := h
  refine (does_of diskOf fs x _ lv bv cv w wr hb hSn hS hD hF hok hB hN hbl hcl).mono ?_
  rintro e w' ⟨S', lv', rfl, hD', ⟨hS', hF'⟩, hs', hk'⟩
  obtain ⟨hSn', hb'⟩ := fresh_step hSn hb.size hs' hk'
  exact ⟨lv', rfl, S', hS', hD', hF', hSn', hb.trans hb'⟩

/-- The files as they were told, and as they are told behind a crash. -/
def Told2 (w : World) (q : Nat) (fs : Files) (cuts : List Int) (ov ov2 : Value) (w' : World) : Prop :=
  @Fv keepAll w' ov fs ∧ @Fv keepAll w' ov2 (crash fs cuts) ∧ Below w.heap.size w w' ∧ SoundF fs ∧ (∀ f ∈ fs, ∀ c ∈ f.data, c < 256)

theorem was_of {w wr : World} {q : Nat} {lv : Value} {fs : Files} (h : Both w q lv fs wr) : Calls Try.prog 15 #[.pointer (some ⟨q, 0, none⟩)] wr fun e w' => ∃ ov, e = .returned ov ∧ (∃ ao cap, ov = .slice ao fs.length cap) ∧ Both w q ov fs w' := by
  obtain ⟨S, hS, hD, hF, hSn, hb⟩ := h
  refine (dfiles_of hD).mono ?_
  rintro e w' ⟨ov, rfl, hW, hb'⟩
  have hD' := diskOf.below hD hb'
  have hF1 : @Fv (keepBut S wr hS) w' ov fs := @Fo.fv (keepBut S wr hS) _ _ _ _ (@Fw.fo (keepBut S wr hS) _ _ _ _ hW (Nat.le_refl _))
  exact ⟨ov, rfl, hW.shape, S, diskOf.lt hD', hD', hF1.renew, hSn, hb.trans (hb'.mono hb.size)⟩

theorem crash_both {w wr : World} {q : Nat} {ov cv : Value} {fs : Files} {cuts : List Int} (h : Both w q ov fs wr) (hN : Nv w cv cuts) : Calls Try.prog 17 #[.pointer (some ⟨q, 0, none⟩), cv] wr fun e w' => e = .returned (.tuple #[]) ∧ ∃ S, Dk S w' (.pointer (some ⟨q, 0, none⟩)) (crash fs cuts) ∧ @Fv keepAll w' ov fs ∧ Below w.heap.size w w' ∧ SoundF fs ∧ (∀ f ∈ fs, ∀ c ∈ f.data, c < 256) := by
  obtain ⟨S, hS, hD, hF, hSn, hb⟩ := h
  have hsd := diskOf.sound hD
  have hby := hD.byte
  refine (diskOf.crash cv cuts hD fun w' hk => hN.below (hb.trans (hk.below hb.size hSn))).mono ?_
  rintro e w' ⟨rfl, S', hD', hs', hk'⟩
  obtain ⟨hSn', hb'⟩ := fresh_step hSn hb.size hs' hk'
  have hF' : @Fv (keepBut S' w' (diskOf.lt hD')) w' ov fs := hF.kept hk' hs'
  exact ⟨rfl, S', hD', hF'.imp (fun _ _ _ => trivial) (Nat.zero_le _), hb.trans hb', hsd, hby⟩

theorem now_of {w wr : World} {q : Nat} {ov : Value} {fs : Files} {cuts : List Int} {S : Nat → Prop} (hD : Dk S wr (.pointer (some ⟨q, 0, none⟩)) (crash fs cuts)) (hF : @Fv keepAll wr ov fs) (hb : Below w.heap.size w wr) (hsd : SoundF fs) (hby : ∀ f ∈ fs, ∀ c ∈ f.data, c < 256) :
    Calls Try.prog 15 #[.pointer (some ⟨q, 0, none⟩)] wr fun e w' => ∃ ov2, e = .returned ov2 ∧ (∃ ao cap, ov2 = .slice ao fs.length cap) ∧ Told2 w q fs cuts ov ov2 w' := by
  refine (dfiles_of hD).mono ?_
  rintro e w' ⟨ov2, rfl, hW, hb'⟩
  have hF2 : @Fv keepAll w' ov2 (crash fs cuts) := @Fo.fv keepAll _ _ _ _ (@Fw.fo keepAll _ _ _ _ hW (Nat.zero_le _))
  have hsh := hW.shape
  rw [crash_length] at hsh
  exact ⟨ov2, rfl, hsh, @Fv.below keepAll _ _ _ _ hF hb', hF2, hb.trans (hb'.mono hb.size), hsd, hby⟩

@[go_sem] theorem dec_nlt_no {a b : Nat} (h : b ≤ a) : decide (a < b) = false := decide_eq_false (by omega)

/-- Two new boxes, side by side. -/
theorem two_boxes (w : World) (a0 a1 a2 b0 b1 b2 : Value) :
    let W := ((w.alloc (.cells #[a0, a1, a2] 46)).alloc (.cells #[b0, b1, b2] 46)).drew
    (W.cell? ⟨w.heap.size, 0, none⟩ = some a0 ∧ W.cell? ⟨w.heap.size, 1, none⟩ = some a1 ∧ W.cell? ⟨w.heap.size, 2, none⟩ = some a2) ∧ (W.cell? ⟨w.heap.size + 1, 0, none⟩ = some b0 ∧ W.cell? ⟨w.heap.size + 1, 1, none⟩ = some b1 ∧ W.cell? ⟨w.heap.size + 1, 2, none⟩ = some b2) ∧ Below w.heap.size w W := by
  intro W
  have hs1 : (w.alloc (.cells #[a0, a1, a2] 46)).heap.size = w.heap.size + 1 := by simp
  have h1 : W.heap[w.heap.size]? = some (.cells #[a0, a1, a2] 46 (0, 0)) := by
    show ((w.alloc (.cells #[a0, a1, a2] 46)).alloc (.cells #[b0, b1, b2] 46)).heap[w.heap.size]? = _
    rw [heap_alloc_old _ _ (by rw [hs1]; omega)]
    exact heap_alloc_new w _
  have h2 : W.heap[w.heap.size + 1]? = some (.cells #[b0, b1, b2] 46 (0, 0)) := by
    show ((w.alloc (.cells #[a0, a1, a2] 46)).alloc (.cells #[b0, b1, b2] 46)).heap[w.heap.size + 1]? = _
    have := heap_alloc_new (w.alloc (.cells #[a0, a1, a2] 46)) (.cells #[b0, b1, b2] 46)
    rw [hs1] at this
    exact this
  refine ⟨⟨by rw [cells_of_block h1]; rfl, by rw [cells_of_block h1]; rfl, by rw [cells_of_block h1]; rfl⟩, ⟨by rw [cells_of_block h2]; rfl, by rw [cells_of_block h2]; rfl, by rw [cells_of_block h2]; rfl⟩, ?_⟩
  have hb1 := (Below.refl w.heap.size w).alloc (Nat.le_refl _) (.cells #[a0, a1, a2] 46)
  exact (hb1.alloc hb1.size (.cells #[b0, b1, b2] 46)).drew

/-- What stands at one place, ahead of the crash and behind it. -/
theorem safe_rest {w w5 : World} {q : Nat} {fs : Files} {cuts : List Int} {a3 a5 : Option Addr} {c3 c5 : Nat} (h : Told2 w q fs cuts (.slice a3 fs.length c3) (.slice a5 fs.length c5) w5) (j : Nat) (hj : j < fs.length) : ∃ (f g : File) (ba oa bb ob : Nat) (p1 : Option Addr) (z1 : Nat) (p2 : Option Addr) (z2 : Nat),
    a3 = some ⟨ba, oa, none⟩ ∧ a5 = some ⟨bb, ob, none⟩ ∧ (∀ w', Below w5.heap.size w5 w' → (w'.cell? ⟨ba, oa + j * 3, none⟩ = some (.string f.name) ∧ w'.cell? ⟨ba, oa + j * 3 + 1, none⟩ = some (.slice p1 f.data.length z1) ∧ w'.cell? ⟨ba, oa + j * 3 + 2, none⟩ = some (.int .i64 (f.safe : Int)) ∧
      w'.cell? ⟨bb, ob + j * 3, none⟩ = some (.string f.name) ∧ w'.cell? ⟨bb, ob + j * 3 + 1, none⟩ = some (.slice p2 g.data.length z2) ∧ w'.cell? ⟨bb, ob + j * 3 + 2, none⟩ = some (.int .i64 (g.data.length : Int))) ∧
      (convert 33 9 (.slice p1 g.data.length z1)).run Try.prog w' = .ok (.string (str g.data)) w' ∧ (convert 33 9 (.slice p2 g.data.length z2)).run Try.prog w' = .ok (.string (str g.data)) w') ∧ f.safe ≤ g.data.length ∧ g.data.length ≤ f.data.length ∧ f.data.length ≤ z1 ∧ z1 ≤ maxLen := by
  letI := keepAll
  obtain ⟨⟨-, aa, ca, ea, h1⟩, ⟨-, ab, cb, eb, h2⟩, -, hsd, hby⟩ := h
  cases ea
  simp only [crash_length] at eb
  cases eb
  have hx : fs[j]? = some fs[j] := List.getElem?_eq_getElem hj
  have hy : (crash fs cuts)[j]? = some (crashOne fs[j] cuts[j]?) := by rw [crash_get?, hx]; rfl
  obtain ⟨ba, oa, sa, rfl, x0, x1, x2, hBa, -⟩ := h1 j _ hx
  obtain ⟨bb, ob, sb, rfl, y0, y1, y2, hBb, -⟩ := h2 j _ hy
  obtain ⟨s1, s2, s3, s4, s5⟩ := crash_safe hsd cuts j _ _ hx hy
  obtain ⟨p1, z1, rfl, hz1, hz2, -⟩ := id hBa
  obtain ⟨p2, z2, rfl, -⟩ := id hBb
  have hbf := hby fs[j] (List.mem_of_getElem? hx)
  have hbg : ∀ c ∈ (crashOne fs[j] cuts[j]?).data, c < 256 := fun c hc => hbf c (by rw [← s4] at hc; exact List.mem_of_mem_take hc)
  rw [← s1] at y0
  rw [s5] at y2
  have hBt := hBa.took s3
  rw [s4] at hBt
  refine ⟨fs[j], crashOne fs[j] cuts[j]?, ba, oa, bb, ob, p1, z1, p2, z2, rfl, rfl, fun w' hb => ⟨⟨?_, ?_, ?_, ?_, ?_, ?_⟩, str_of (hBt.below hb) hbg, str_of (hBb.below hb) hbg⟩, s2, s3, hz1, hz2⟩
  · exact (hb.cell (p := ⟨ba, oa + j * 3, none⟩) (World.block_lt_of_cell? w5 _ x0)).trans x0
  · exact (hb.cell (p := ⟨ba, oa + j * 3 + 1, none⟩) (World.block_lt_of_cell? w5 _ x1)).trans x1
  · exact (hb.cell (p := ⟨ba, oa + j * 3 + 2, none⟩) (World.block_lt_of_cell? w5 _ x2)).trans x2
  · exact (hb.cell (p := ⟨bb, ob + j * 3, none⟩) (World.block_lt_of_cell? w5 _ y0)).trans y0
  · exact (hb.cell (p := ⟨bb, ob + j * 3 + 1, none⟩) (World.block_lt_of_cell? w5 _ y1)).trans y1
  · exact (hb.cell (p := ⟨bb, ob + j * 3 + 2, none⟩) (World.block_lt_of_cell? w5 _ y2)).trans y2

set_option maxHeartbeats 4000000 in
theorem safe_law (l : List Ac) (cuts : List Int) (av cv : Value) (w : World) (hA : @Av keepAll w av l) (hok : ∀ x ∈ l, AcOk x) (hN : Nv w cv cuts) (hbl : ∀ x ∈ l, x.b.length ≤ 140737488355328) (hcl : ∀ x ∈ l, x.cuts.length * 8 ≤ 140737488355328) :
    Calls Try.prog 4 #[av, cv] w fun e w' => e = .returned (.bool true) ∧ Below w.heap.size w w' := by
  letI := keepAll
  have h0 := dnew_of w
  have haw := awake_of
  have hhv : ∀ w', Below w.heap.size w w' → Calls Try.prog 10 #[av] w' fun e w'' => HeavyT l e ∧ w'' = w' := fun w' hb => heavy_of l av w' (hA.below hb) (fun x hx => Nat.le_trans (hbl x hx) (by omega))
  obtain ⟨aa, ca, rfl, h2⟩ := id hA
  have hcv : ∃ ac cc, cv = .slice ac cuts.length cc := by
    obtain ⟨ac, cc, e, _⟩ := id hN
    exact ⟨ac, cc, e⟩
  obtain ⟨ac, cc, rfl⟩ := hcv
  go_enter Try.func4, Try.ntmps4
  go_wp2_with fail
  refine h0.mono ?_
  rintro e w1 ⟨S1, d, rfl, hD1, hS1, hb1⟩
  obtain ⟨q, rfl⟩ := hD1.shape
  have k1 := hhv w1 hb1
  clear h0 hhv
  go_wp2_with fail
  refine k1.mono ?_
  rintro e w1' ⟨⟨B, rfl, -⟩, hw1⟩
  rw [hw1]
  clear hw1 w1' k1
  cases B with
  | true =>
    have ha := haw w1
    clear haw hD1
    go_wp2_with fail
    refine ha.mono ?_
    rintro e w3 ⟨rfl, hb3⟩
    go_wp2
    go_ret
    exact ⟨rfl, hb1.trans (hb3.mono hb1.size)⟩
  | false =>
    have hbx := (Below.refl w1.heap.size w1).alloc (Nat.le_refl _) (.cells #[] 46)
    have hI0 : Both w q (.slice (some ⟨w1.heap.size, 0, none⟩) 0 0) [] (w1.alloc (.cells #[] 46)) := by
      have hD2 := diskOf.below hD1 hbx
      exact ⟨S1, diskOf.lt hD2, hD2, ⟨Nat.le_refl _, _, _, rfl, fun i f hf => by simp at hf⟩, hS1, hb1.trans (hbx.mono hb1.size)⟩
    clear hD1 hbx
    go_wp2
    go_loopg [6, 7] 100 (fun g s6 s7 wr => ∃ i : Nat, i + g = 100 ∧ s7 = .int .i64 (i : Int) ∧ ∃ fs, Both w q s6 fs wr)
    case atStart => exact ⟨0, by simp, rfl, [], hI0⟩
    case round =>
      obtain ⟨i, hi, rfl, fs, hI⟩ := hrel
      by_cases hgo : i < l.length ∧ i < 100
      · have hlt1 : (i : Int) < (l.length : Int) := by omega
        have hlt2 : (i : Int) < 100 := by omega
        have hx : l[i]? = some l[i] := List.getElem?_eq_getElem hgo.1
        have hxm := List.getElem_mem hgo.1
        obtain ⟨b, off, vs, rfl, ⟨bv, xcv, rfl, hB, hNx⟩, hc⟩ := h2 i l[i] hx
        have hbw : Below w.heap.size w wr := by obtain ⟨_, _, _, _, _, hb⟩ := hI; exact hb
        have k2 := both_does w q _ fs wr hI l[i] bv xcv (hok _ hxm) hB hNx (hbl _ hxm) (hcl _ hxm)
        have hcell : ∀ (j : Nat) (u : Value), [Value.int .i64 l[i].what, .string l[i].name, .string l[i].to, bv, .int .i64 l[i].n, xcv][j]? = some u → wr.cell? ⟨b, off + i * 6 + j, none⟩ = some u := fun j u hu => (hbw.cell (p := ⟨b, off + i * 6 + j, none⟩) (World.block_lt_of_cell? w _ (hc j u hu))).trans (hc j u hu)
        generalize l[i] = x at *
        have c0 := hcell 0 _ rfl
        have c1 := hcell 1 _ rfl
        have c2 := hcell 2 _ rfl
        have c3 := hcell 3 _ rfl
        have c4 := hcell 4 _ rfl
        have c5 := hcell 5 _ rfl
        rw [Nat.add_zero] at c0
        clear hcell hc hx hgo hI0 hA h2 hI
        obtain ⟨ab, cb, rfl, -⟩ := id hB
        obtain ⟨an, cn, rfl, -⟩ := id hNx
        go_wp2_with fail
        refine k2.mono ?_
        rintro e w2 ⟨lv', rfl, hI2⟩
        clear k2
        go_wp2
        go_roundg (gk - 1)
        case measure => omega
        case rel => exact ⟨i + 1, by omega, by go_num, _, hI2⟩
      · have hgoi : ¬ ((i : Int) < (l.length : Int) ∧ (i : Int) < 100) := by omega
        have hend : (¬ (i : Int) < (l.length : Int)) ∨ ((i : Int) < (l.length : Int) ∧ ¬ (i : Int) < 100) := by
          by_cases h : (i : Int) < (l.length : Int)
          · exact .inr ⟨h, fun h' => hgoi ⟨h, h'⟩⟩
          · exact .inl h
        have k3 := was_of hI
        clear hA h2 hI0 hI hok hbl hcl hgo hgoi
        rcases hend with h | ⟨h, h'⟩ <;>
        (go_wp2_with fail
         refine k3.mono ?_
         rintro e w3 ⟨ov, rfl, ⟨a3, c3, rfl⟩, hB3⟩
         have k4 := crash_both hB3 hN
         clear k3 hB3
         go_wp2_with fail
         refine k4.mono ?_
         rintro e w4 ⟨rfl, S4, hD4, hF4, hb4, hsd, hby⟩
         have k5 := now_of hD4 hF4 hb4 hsd hby
         clear k4 hD4 hF4 hb4 hsd hby
         go_wp2_with fail
         refine k5.mono ?_
         rintro e w5 ⟨ov2, rfl, ⟨a5, c5, rfl⟩, hT⟩
         clear k5
         have hrest := safe_rest hT
         have hfl64 : fs.length ≤ 64 := hT.2.2.2.1.2.1
         go_wp2
         go_loopg [10] fs.length (fun g s10 wr => ∃ j : Nat, j + g = fs.length ∧ s10 = .int .i64 (j : Int) ∧ Below w5.heap.size w5 wr)
         case atStart => exact ⟨0, by simp, rfl, Below.refl _ _⟩
         case round =>
           obtain ⟨j, hj, rfl, hbr⟩ := hrel
           by_cases hltj : j < fs.length
           · have hltji : (j : Int) < (fs.length : Int) := by omega
             obtain ⟨f, g, ba, oa, bb, ob, p1, z1, p2, z2, rfl, rfl, hcs, q1, q2, q3, q4⟩ := hrest j hltj
             have hdr : Below w5.heap.size w5 wr.drew := hbr.drew
             have hrw := (hcs wr hbr).1
             clear hrest haw hT
             go_wp2
             go_region_held3 (fun w' => w'.cell? ⟨ba, oa + j * 3, none⟩ = some (.string f.name) ∧ w'.cell? ⟨ba, oa + j * 3 + 1, none⟩ = some (.slice p1 f.data.length z1) ∧ w'.cell? ⟨ba, oa + j * 3 + 2, none⟩ = some (.int .i64 (f.safe : Int)) ∧ w'.cell? ⟨bb, ob + j * 3, none⟩ = some (.string f.name) ∧ w'.cell? ⟨bb, ob + j * 3 + 1, none⟩ = some (.slice p2 g.data.length z2) ∧ w'.cell? ⟨bb, ob + j * 3 + 2, none⟩ = some (.int .i64 (g.data.length : Int)))
               (first | exact (hcs _ hdr).1 | go_keep) (fail)
             all_goals
               have i1 : ¬ (g.data.length : Int) < (f.safe : Int) := by omega
               have i2 : ¬ (f.data.length : Int) < (g.data.length : Int) := by omega
               have i3 : (g.data.length : Int) ≤ (z1 : Int) := by omega
               have i4 : g.data.length ≤ z1 := by omega
               have i5 : (z1 : Int) ≤ 9223372036854775807 := by unfold maxLen at q4; omega
             · obtain ⟨hx, hy, hb2⟩ := two_boxes wr (.string f.name) (.slice p1 f.data.length z1) (.int .i64 (f.safe : Int)) (.string f.name) (.slice p2 g.data.length z2) (.int .i64 (g.data.length : Int))
               have hbW : Below w5.heap.size w5 _ := hbr.trans (hb2.mono hbr.size)
               have s1 := fun k => (hcs _ (below_drewN hbW k)).2.1
               have s2 := fun k => (hcs _ (below_drewN hbW k)).2.2
               clear hcs hrw hdr
               generalize str g.data = sg at *
               generalize hWW : ((wr.alloc (.cells #[.string f.name, .slice p1 f.data.length z1, .int .i64 (f.safe : Int)] 46)).alloc (.cells #[.string f.name, .slice p2 g.data.length z2, .int .i64 (g.data.length : Int)] 46)).drew = W at *
               obtain ⟨x0, x1, x2⟩ := hx
               obtain ⟨y0, y1, y2⟩ := hy
               generalize wr.heap.size + 1 = B at *
               generalize wr.heap.size = A at *
               go_wp2
               go_big_quiet (fail)
               go_wp2
               go_roundg (gk - 1)
               case measure => omega
               case rel => exact ⟨j + 1, by omega, by go_num, below_drewN hbW _⟩
             · obtain ⟨hx, hy, hb2⟩ := two_boxes wr (.string f.name) (.slice p2 g.data.length z2) (.int .i64 (g.data.length : Int)) (.string f.name) (.slice p1 f.data.length z1) (.int .i64 (f.safe : Int))
               have hbW : Below w5.heap.size w5 _ := hbr.trans (hb2.mono hbr.size)
               have s1 := fun k => (hcs _ (below_drewN hbW k)).2.1
               have s2 := fun k => (hcs _ (below_drewN hbW k)).2.2
               clear hcs hrw hdr
               generalize str g.data = sg at *
               generalize hWW : ((wr.alloc (.cells #[.string f.name, .slice p2 g.data.length z2, .int .i64 (g.data.length : Int)] 46)).alloc (.cells #[.string f.name, .slice p1 f.data.length z1, .int .i64 (f.safe : Int)] 46)).drew = W at *
               obtain ⟨x0, x1, x2⟩ := hx
               obtain ⟨y0, y1, y2⟩ := hy
               generalize wr.heap.size + 1 = B at *
               generalize wr.heap.size = A at *
               go_wp2
               go_big_quiet (fail)
               go_wp2
               go_roundg (gk - 1)
               case measure => omega
               case rel => exact ⟨j + 1, by omega, by go_num, below_drewN hbW _⟩
           · have hltji : ¬ (j : Int) < (fs.length : Int) := by omega
             have ha := haw wr
             have hbw : Below w.heap.size w wr := hT.2.2.1.trans (hbr.mono hT.2.2.1.size)
             clear haw hT hrest
             go_wp2_with fail
             refine ha.mono ?_
             rintro e w6 ⟨rfl, hb6⟩
             go_wp2
             go_ret
             exact ⟨rfl, hbw.trans (hb6.mono hbw.size)⟩)
end Go.Proofs.Ytcnljocgpoaepaa
