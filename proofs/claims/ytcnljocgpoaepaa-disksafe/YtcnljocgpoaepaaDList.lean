/- The program's Files: all files, by rising names, in memory of the call's own. -/
import Derived.Test.YtcnljocgpoaepaaDFiles
namespace Go.Proofs.Ytcnljocgpoaepaa
open Go.RowKit DiskMath
set_option maxRecDepth 100000
set_option linter.unusedSimpArgs false
set_option linter.unusedVariables false

/-- What Files tells. -/
def FilesT (w : World) (fs : Files) (e : Ending) (w' : World) : Prop := ∃ ov, e = .returned ov ∧ Fw w.heap.size w' ov fs ∧ Below w.heap.size w w'

theorem Fw.mono {n₀ n₁ : Nat} {w : World} {ov : Value} {fs : Files} (h : Fw n₀ w ov fs) (hn : n₁ ≤ n₀) : Fw n₁ w ov fs := by
  obtain ⟨cs, h1, h2, h3, h4⟩ := h
  exact ⟨cs, ⟨h1.1, h1.2.imp id fun ⟨g, cap, cur, r1, r2, r3⟩ => ⟨g, cap, cur, r1, Nat.le_trans hn r2, r3⟩⟩, h2, Nat.le_trans hn h3, fun i sv f hi hf => ⟨(h4 i sv f hi hf).1.mono hn, (h4 i sv f hi hf).2⟩⟩
theorem Fw.row {n₀ : Nat} {w : World} {ov : Value} {fs : Files} (h : Fw n₀ w ov fs) {k : Nat} (hk : ov.ownBlock = some k) : n₀ ≤ k ∧ k < w.heap.size := by
  obtain ⟨cs, h1, _⟩ := h
  exact World.ownsRow.lt h1 k hk

theorem take_snoc {α : Type} {l : List α} {i : Nat} {x : α} (h : l[i]? = some x) : l.take (i + 1) = l.take i ++ [x] := by
  rw [List.take_add_one, h]
  rfl

set_option maxHeartbeats 2000000 in
theorem dfiles_of {S : Nat → Prop} {w : World} {d : Value} {fs : Files} (h : Dk S w d fs) : Calls Try.prog 15 #[d] w (FilesT w fs) := by
  letI := keepAll
  obtain ⟨ρ, M, q, m, rfl, hS, hD⟩ := h
  have hgv := given_of hD
  have hnm := names_of hD
  have hl := hD.sound.2.1
  have hmt := Try.underlying50
  have E : ∀ ov w', Fw w.heap.size w' ov fs → Below w.heap.size w w' → Hid (FilesT w fs (.returned ov) w') := fun ov w' h1 h2 => ⟨ov, rfl, h1, h2⟩
  generalize FilesT w fs = T at *
  go_enter Try.func15, Try.ntmps15
  go_wp2_with fail
  refine hgv.mono ?_
  rintro e w1 ⟨rfl, hw1⟩
  rw [hw1]
  clear hw1 w1 hgv
  go_wp2_with fail
  refine hnm.mono ?_
  rintro e w1 ⟨nv, rfl, hT1, hb1⟩
  obtain ⟨an, cn, rfl, hnames⟩ := id hT1
  clear hnm
  have hnl : (fs.map Fl.name).length = fs.length := by simp
  rw [hnl]
  go_wp2
  go_loopg [3, 13] fs.length (fun g s3 s13 wr => ∃ i : Nat, i + g = fs.length ∧ s13 = .int .i64 (i : Int) ∧ Fw w1.heap.size wr s3 (fs.take i) ∧ Below w1.heap.size w1 wr)
  case atStart => exact ⟨0, by simp, rfl, Fw.nil _ _ (Nat.le_refl _), Below.refl _ _⟩
  case round =>
    obtain ⟨i, hi, rfl, hW, hbr⟩ := hrel
    by_cases hlt : i < fs.length
    · have hlti : (i : Int) < (fs.length : Int) := by omega
      have hbw : Below w.heap.size w wr := hb1.trans (hbr.mono hb1.size)
      have hDr := hD.below hbw
      have hx : fs[i]? = some fs[i] := List.getElem?_eq_getElem hlt
      have htk : Hid (fs.take (i + 1) = fs.take i ++ [fs[i]]) := take_snoc hx
      have hgf := hD.sound.1.get_of_mem (List.mem_of_getElem? hx)
      have hsd := sound_get hD.sound hgf
      obtain ⟨b, off, hbn, hcn, -⟩ := hnames i fs[i].name (by rw [List.getElem?_map, hx]; rfl)
      subst hbn
      have hcn' : wr.cell? ⟨b, off + i, none⟩ = some (.string fs[i].name) := (hbr.cell (p := ⟨b, off + i, none⟩) (World.block_lt_of_cell? w1 _ hcn)).trans hcn
      generalize fs[i] = f at *
      have hns : f.name.size ≤ maxLen := by have := (may_size hsd.1).2; unfold maxLen; omega
      obtain ⟨p, v, hm, hF⟩ := hDr.yes f.name f hgf
      have hcq := hDr.cell
      have hMr := hDr.map
      have hz := DiskAt.zeroF wr
      have hvs : ∃ ao cap, v = .slice ao f.data.length cap := hF.own.shape
      obtain ⟨ao, cap, rfl⟩ := hvs
      have hdr : Below wr.heap.size wr wr.drew := (Below.refl _ _).drew
      have hcs : ∀ w', Below w.heap.size w w' → w'.cell? ⟨p, 0, none⟩ = some (.slice ao f.data.length cap) ∧ w'.cell? ⟨p, 1, none⟩ = some (.int .i64 (f.safe : Int)) := fun w' hb => by
        have hpl := hD.lt p (by rw [hF.mark]; simp)
        have hp1 := (hb.block p hpl).trans ((hbw.block p hpl).symm.trans hF.block)
        exact ⟨by rw [cells_of_block hp1]; rfl, by rw [cells_of_block hp1]; rfl⟩
      have hcl := clone_of wr.heap.size f.data (.slice ao f.data.length cap) wr.drew ((hF.own.bs (Nat.zero_le _)).below hdr) (Nat.le_refl _) (by omega)
      have hgetD : (M f.name).getD (.pointer none) = .pointer (some ⟨p, 0, none⟩) := by rw [hm]; rfl
      obtain ⟨a3, c3, rfl⟩ := hW.shape
      have hpush : ∀ v4 w4, Own wr.drew.heap.size w4 v4 f.data → Below wr.heap.size wr w4 → Own w1.heap.size w4 v4 f.data ∧ (∀ k, v4.ownBlock = some k → (Value.slice a3 (fs.take i).length c3).ownBlock ≠ some k) ∧ Fw w1.heap.size w4 (.slice a3 (fs.take i).length c3) (fs.take i) := by
        intro v4 w4 hO4 hb4
        refine ⟨hO4.mono hbr.size, fun k hk e => ?_, hW.below hb4⟩
        have h1 := (hO4.lt hk).1
        have h2 := (hW.row e).2
        have h3 : wr.drew.heap.size = wr.heap.size := rfl
        omega
      have hfl : (fs.take i).length ≤ 1000000 := by rw [List.length_take]; omega
      generalize hG : fs.take i = G at *
      generalize fs.length = c at *
      clear hD hDr hF hgf hnames hT1 hx hW hcn
      go_wp2_with (refine wp_mp_at rfl _ _ _ _ rfl hmt hz m c M hMr rfl f.name rfl hns ?_)
      go_region_held3 (fun w' => w'.cell? ⟨p, 0, none⟩ = some (.slice ao f.data.length cap) ∧ w'.cell? ⟨p, 1, none⟩ = some (.int .i64 (f.safe : Int)))
        (first | exact x5 | exact x6 | exact x4 | exact hcs _ (hbw.trans (hdr.mono hbw.size)) | go_keep)
        (first
          | (go_at_call 25; refine hcl.mono ?_; rintro e w4 ⟨v4, rfl, hO4, hb4⟩; have hb4' := hdr.trans hb4; have hbw4 := hbw.trans (hb4'.mono hbw.size); have x4 := hcs _ hbw4; obtain ⟨y1, y2, y3⟩ := hpush v4 w4 hO4 hb4'; obtain ⟨a4, c4, rfl⟩ := hO4.shape; have x6 := hcs _ (hbw4.trans (((Below.refl w4.heap.size w4).alloc (Nat.le_refl _) (.cells #[.string f.name, .slice a4 f.data.length c4, .int .i64 (f.safe : Int)] 46)).mono hbw4.size)))
          | (refine step_push_own (by rfl) _ _ (by rfl) w1.heap.size _ G f _ y3 hfl y1 y2 (by rfl) (by rfl) ?_; intro ov5 w5 hW5 hb5; have x5 := hcs _ (hbw4.trans (hb5.mono hb1.size))))
      have hb15 : Below w1.heap.size w1 w5 := (hbr.trans (hb4'.mono hbr.size)).trans hb5
      clear hpush hcs hcl y1 y2 y3 x4 x5 x6 hO4 hMr
      go_wp2
      go_roundg (gk - 1)
      case measure => omega
      case rel => exact ⟨i + 1, by omega, by go_num, by rw [htk.out]; exact hW5, hb15⟩
    · have hlti : ¬ (i : Int) < (fs.length : Int) := by omega
      rw [List.take_of_length_le (by omega)] at hW
      have hE := E _ _ (hW.mono hb1.size) (hb1.trans (hbr.mono hb1.size))
      clear E hW
      go_wp2 <;> first | exact hE.out | (go_ret; exact hE.out)
end Go.Proofs.Ytcnljocgpoaepaa
