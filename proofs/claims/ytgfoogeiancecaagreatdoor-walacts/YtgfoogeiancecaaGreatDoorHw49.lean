import Derived.Test.YtgfoogeiancecaaGreatDoorHw47
import Derived.Test.YtgfoogeiancecaaGreatDoorHw48
import Derived.Test.YtgfoogeiancecaaGreatDoorHw34
import Derived.Test.YtgfoogeiancecaaGreatDoorHw35
/- The contract of the document's Open. -/
namespace Go.Proofs.YtgfoogeiancecaaGreatDoor
open Go.RowKit WalMath DiskMath
set_option maxRecDepth 100000
set_option linter.unusedSimpArgs false
set_option linter.unusedVariables false

/-- The files behind the document's Open. -/
def ropenF (fs : Files) (xs : List (Seg × Nat)) : Files := match xs.getLast? with | none => fs | some x => (dCut fs (segName x.1.num) (sz (cutS x).recs : Int)).1

theorem Rdl.num_le {xs : List (Seg × Nat)} (h : Rdl xs) : ∀ (d i : Nat) (x y : Seg × Nat), xs[i]? = some x → xs[i + d]? = some y → x.1.num + d = y.1.num
  | 0, i, x, y, hx, hy => by rw [Nat.add_zero, hx] at hy; cases hy; rfl
  | d + 1, i, x, y, hx, hy => by
    have hl := (List.getElem?_eq_some_iff.1 hy).1
    have hz := List.getElem?_eq_getElem (l := xs) (i := i + d) (by omega)
    have h1 := h.num_le d i x _ hx hz
    have h2 := h.num (i + d) _ y hz hy
    omega

set_option maxHeartbeats 2000000 in
theorem ropen_of [Keep] (fs : Files) (xs : List (Seg × Nat)) (v : Value) (w : World) (hF : Fv w v fs) (h : RSt fs xs) :
    Calls Tryz.prog 15 #[v] w fun e w' => ∃ ov, e = .returned ov ∧ Fv w' ov (ropenF fs xs) ∧ Below w.heap.size w w' := by
  have kS := refSegments_of fs xs v w (hF.imp (fun _ _ _ => trivial) (Nat.zero_le _)) h.fs h.rd h.mx
  have hlen := h.rd.few
  have hflH : Hid (fs.length = xs.length) := h.len
  have hFb : ∀ w', Below w.heap.size w w' → Fv w' v fs := fun w' hb => hF.below hb
  obtain ⟨ao, m, cap, rfl, hm, h2⟩ : ∃ ao m cap, v = .slice ao m cap ∧ Hid (m = fs.length) ∧ Hid (∀ (i : Nat) (f : File), fs[i]? = some f → ∃ b off sv, ao = some ⟨b, off, none⟩ ∧ w.cell? ⟨b, off + i * 3, none⟩ = some (.string f.name) ∧ w.cell? ⟨b, off + i * 3 + 1, none⟩ = some sv ∧ w.cell? ⟨b, off + i * 3 + 2, none⟩ = some (.int .i64 (f.safe : Int)) ∧ Bs w.heap.size w sv f.data) := by
    obtain ⟨hf, ao, cap, rfl, h2⟩ := id hF
    refine ⟨_, _, _, rfl, rfl, fun i f hi => ?_⟩
    obtain ⟨b, off, sv, r1, r2, r3, r4, r5, -⟩ := h2 i f hi
    exact ⟨b, off, sv, r1, r2, r3, r4, r5⟩
  generalize hT : (fun (e : Ending) (w' : World) => ∃ ov, e = .returned ov ∧ Fv w' ov (ropenF fs xs) ∧ Below w.heap.size w w') = T
  have fin : Hid (∀ ov w', Fv w' ov (ropenF fs xs) → Below w.heap.size w w' → T (.returned ov) w') := fun ov w' a b => by rw [← hT]; exact ⟨ov, rfl, a, b⟩
  clear hT
  go_enter Tryz.func15, Tryz.ntmps15
  go_wp2_with fail
  refine kS.mono ?_
  rintro e w1 ⟨ov, D, rfl, hO⟩
  clear kS
  have hR := hO.rd
  have hbw := hO.bel
  clear hO
  have hF1 := hFb w1 hbw
  obtain ⟨oa, on, oc, hovE, hon, hG⟩ : ∃ oa on oc, ov = .slice oa on oc ∧ Hid (on = xs.length) ∧ Hid (∀ (k : Nat) (x : Seg × Nat), xs[k]? = some x → ∃ g, oa = some ⟨g, 0, none⟩ ∧ SgRd w1 g k (k, (cutS x).recs)) := by
    obtain ⟨oa, oc, e, hg⟩ := hR
    exact ⟨oa, _, oc, e, rsg_length xs, fun k x hx => hg k _ (rsg_get hx)⟩
  subst hovE
  clear hR
  rcases Nat.eq_zero_or_pos on with h0 | h0
  · have hfin := fin.out (.slice ao m cap) w1 (by
      have : ropenF fs xs = fs := by unfold ropenF; rw [List.eq_nil_of_length_eq_zero (hon.out.symm.trans h0)]; rfl
      rw [this]
      exact hF1) hbw
    subst h0
    clear fin hF1 hFb hF hG h2
    go_wp2
    exact hfin
  · obtain ⟨k, rfl⟩ : ∃ k, on = k + 1 := ⟨on - 1, by omega⟩
    have hkx := List.getElem?_eq_getElem (l := xs) (i := k) (by rw [← hon.out]; omega)
    generalize xs[k]'(by rw [← hon.out]; omega) = x at *
    obtain ⟨g, rfl, q0, la, lc, ea, ec, q1, q2, -, hE⟩ := hG.out k x hkx
    dsimp only at q0 q1 q2 hE
    have hgl := World.block_lt_of_cell? w1 _ q0
    dsimp only at hgl
    have hk20 : k < 20 := by have := hon.out; omega
    have hkm : k < m := by rw [hm.out, hflH.out, ← hon.out]; omega
    have hkmi : (k : Int) < (m : Int) := by omega
    have hkf := List.getElem?_eq_getElem (l := fs) (i := k) (by rw [← hm.out]; exact hkm)
    have hnmE := (h.fs.2 k _ (xfile x) hkf (by rw [List.getElem?_map, hkx]; rfl)).1
    obtain ⟨b, off, svk, rfl, p0, -⟩ := h2.out k _ hkf
    rw [hnmE] at p0
    change w.cell? ⟨b, off + k * 3, none⟩ = some (.string (segName x.1.num)) at p0
    have hbl0 := World.block_lt_of_cell? w _ p0
    dsimp only at hbl0
    have p1 := (hbw.cell (p := ⟨b, off + k * 3, none⟩) hbl0).trans p0
    have hbl := World.block_lt_of_cell? w1 _ p1
    dsimp only at hbl
    have hbig := h.rd.big x (List.mem_of_getElem? hkx)
    have kN : ∀ W, Calls Tryz.prog 41 #[.string (segName x.1.num)] W fun e w' => e = .returned (.int .i64 (x.1.num : Int)) ∧ w' = W := fun W => by
      have := number_of (segName x.1.num) W
      rw [segNum_name hbig.2] at this
      exact this
    obtain ⟨nm, hnm⟩ : ∃ nm, Hid (nm = segName x.1.num) := ⟨_, rfl⟩
    rw [← hnm.out] at p0 p1 kN
    obtain ⟨W2, hW2⟩ : ∃ W2, w1.alloc (.cells #[.int .i64 (k : Int), .slice la (cutS x).recs.length lc, .slice ea (cutS x).recs.length ec] 74) = W2 := ⟨_, rfl⟩
    have hb12 : Below w1.heap.size w1 W2 := by rw [← hW2]; exact (Below.refl _ _).alloc (Nat.le_refl _) _
    have hbx : W2.heap[w1.heap.size]? = some (.cells #[.int .i64 (k : Int), .slice la (cutS x).recs.length lc, .slice ea (cutS x).recs.length ec] 74 (0, 0)) := by rw [← hW2]; exact heap_alloc_new w1 _
    have hb2 : Below w.heap.size w W2 := hbw.trans (hb12.mono hbw.size)
    have hfs : Hid (∀ (i : Nat) (f : File) (y : Seg × Nat), fs[i]? = some f → xs[i]? = some y → f.name = segName y.1.num ∧ y.1.num < 100000000 ∧ (y.1.num : Int) ≤ (x.1.num : Int) ∧ ∃ sv, b < W2.heap.size ∧ W2.cell? ⟨b, off + i * 3, none⟩ = some (.string f.name) ∧ W2.cell? ⟨b, off + i * 3 + 1, none⟩ = some sv ∧ W2.cell? ⟨b, off + i * 3 + 2, none⟩ = some (.int .i64 (f.safe : Int)) ∧ Bs W2.heap.size W2 sv f.data) := fun i f y hf hy => by
      have hil := (List.getElem?_eq_some_iff.1 hy).1
      obtain ⟨b', off', sv, e, r2, r3, r4, r5⟩ := h2.out i f hf
      cases e
      refine ⟨(h.fs.2 i f (xfile y) hf (by rw [List.getElem?_map, hy]; rfl)).1, (h.rd.big y (List.mem_of_getElem? hy)).2, ?_, sv, Nat.lt_of_lt_of_le hbl0 hb2.size, (hb2.cell (p := ⟨b, off + i * 3, none⟩) hbl0).trans r2, (hb2.cell (p := ⟨b, off + i * 3 + 1, none⟩) hbl0).trans r3, (hb2.cell (p := ⟨b, off + i * 3 + 2, none⟩) hbl0).trans r4, (r5.below hb2).mono hb2.size⟩
      have := h.rd.num_le (k - i) i y x hy (by rw [show i + (k - i) = k by have := hon.out; omega]; exact hkx)
      omega
    have hrl : (cutS x).recs.length ≤ 1000000 := h.rows _ (List.mem_of_getElem? (rsg_get hkx))
    have hsz : Hid (∀ W, Below W2.heap.size W2 W → Calls Tryz.prog 43 #[.agg #[.int .i64 (k : Int), .slice la (cutS x).recs.length lc, .slice ea (cutS x).recs.length ec]] W fun e w' => e = .returned (.int .i64 (sz (cutS x).recs : Int)) ∧ Below W.heap.size W w') := fun W hb => by
      refine rsize_of W _ _ _ _ _ ⟨_, _, _, rfl⟩ (cutS x).recs rfl hrl (fun j e he => ?_)
      obtain ⟨hh, e1, c5⟩ := hE j e he
      have hl5 := World.block_lt_of_cell? w1 _ c5
      have hbW := hb12.trans (hb.mono hb12.size)
      exact ⟨hh, e1, (hbW.cell (p := ⟨hh, j, none⟩) hl5).trans c5⟩
    have hEnd : Hid (∀ W ov, Below W2.heap.size W2 W → Fv W ov (dCut fs (segName x.1.num) (sz (cutS x).recs : Int)).1 → T (.returned ov) W) := fun W ov hb hf => fin.out ov W (by
      have : ropenF fs xs = (dCut fs (segName x.1.num) (sz (cutS x).recs : Int)).1 := by unfold ropenF; rw [List.getLast?_eq_getElem?, ← hon.out, Nat.add_sub_cancel, hkx]
      rw [this]
      exact hf) (hb2.trans (hb.mono hb2.size))
    have p2 : W2.cell? ⟨b, off + k * 3, none⟩ = some (.string nm) := (hb12.cell (p := ⟨b, off + k * 3, none⟩) hbl).trans p1
    have hl1 : w1.heap.size < W2.heap.size := (Array.getElem?_eq_some_iff.1 hbx).1
    have b0 : W2.cell? ⟨w1.heap.size, 0, none⟩ = some (.int .i64 (k : Int)) := by rw [cells_of_block hbx]; rfl
    have hF0 := Fo.none W2 (Nat.le_trans hF.1 hb2.size)
    have hb0 := (Below.refl W2.heap.size W2).alloc (Nat.le_refl _) (.cells #[] 71)
    have hmx : Hid (m = xs.length) := by show _ = _; rw [hm.out, hflH.out]
    have hm20 : m < 20 := by rw [hmx.out]; exact hlen
    have kNm := fun W => refName_of x.1.num W hbig.2
    have hbigH : Hid (x.1.num < 100000000) := hbig.2
    clear hE hG h2 fin hF1 hFb hF h hkf hnmE hkx hbig
    generalize hRsz : (cutS x).recs.length = RL at *
    clear hRsz
    go_wp2_with fail
    refine (kN _).mono ?_
    rintro e wq ⟨rfl, hwq⟩
    rw [hwq]
    clear hwq wq
    go_wp2
    go_loopg [6, 7] m (fun g s6 s7 wr => ∃ i : Nat, i + g = m ∧ s7 = .int .i64 (i : Int) ∧ Fo W2.heap.size wr s6 (fs.take i) ∧ Below W2.heap.size W2 wr)
    case atStart => exact ⟨0, by omega, rfl, hF0, hb0⟩
    case round =>
      obtain ⟨i, hi, hs7, hO, hbr⟩ := hrel
      subst hs7
      clear hF0 hb0
      obtain ⟨ra, rm, rc, hrE⟩ : ∃ ra rm rc, u6 = .slice ra rm rc := by
        obtain ⟨a, c, e⟩ := hO.shape
        exact ⟨_, _, _, e⟩
      subst hrE
      by_cases hlt : i < m
      · have hlti : (i : Int) < (m : Int) := by omega
        have hx := List.getElem?_eq_getElem (l := xs) (i := i) (by rw [← hmx.out]; exact hlt)
        have hf := List.getElem?_eq_getElem (l := fs) (i := i) (by rw [← hm.out]; exact hlt)
        have htk : fs.take (i + 1) = fs.take i ++ [fs[i]'(by rw [← hm.out]; exact hlt)] := List.take_succ_eq_append_getElem _
        generalize xs[i]'(by rw [← hmx.out]; exact hlt) = y at *
        generalize fs[i]'(by rw [← hm.out]; exact hlt) = f at *
        obtain ⟨hfn, hyb, hyx, sv, -, r0, r1, r2, hB⟩ := hfs.out i f y hf hx
        have hbr2 := hbr.size
        have r0' := (hbr.cell (p := ⟨b, off + i * 3, none⟩) (World.block_lt_of_cell? W2 _ r0)).trans r0
        have r1' := (hbr.cell (p := ⟨b, off + i * 3 + 1, none⟩) (World.block_lt_of_cell? W2 _ r1)).trans r1
        have r2' := (hbr.cell (p := ⟨b, off + i * 3 + 2, none⟩) (World.block_lt_of_cell? W2 _ r2)).trans r2
        have hbl3 := World.block_lt_of_cell? wr _ r0'
        dsimp only at hbl3
        have hkg := apart hB (Nat.le_refl _) hO hbr2
        have hBr := (hB.below hbr).mono hbr2
        obtain ⟨sa, sc, rfl, -⟩ := id hB
        have kNi : ∀ W, Calls Tryz.prog 41 #[.string f.name] W fun e w' => e = .returned (.int .i64 (y.1.num : Int)) ∧ w' = W := fun W => by
          have := number_of f.name W
          rw [hfn, segNum_name hyb] at this
          rw [hfn]
          exact this
        have hlb : (fs.take i).length ≤ 1000000 := by rw [List.length_take]; omega
        have htkH : Hid (fs.take (i + 1) = fs.take i ++ [f]) := htk
        have hiH : Hid (i + gk = m) := hi
        have hfnH : Hid (f.name = segName y.1.num) := hfn
        clear hx hf hfn hyb hB r0 r1 r2 hfs htk hi hsz hEnd kN kNm p0 p1 p2 q0 q1 q2 b0
        go_wp2_with fail
        refine (kNi _).mono ?_
        rintro e wq ⟨rfl, hwq⟩
        rw [hwq]
        clear hwq wq kNi
        go_wp2_with (at_builtin; refine wp_push_file rfl _ _ rfl W2.heap.size _ (fs.take i) f _ hO hbr2 hlb hBr hkg rfl rfl ?_)
        intro ov8 w8 hO8 hb8
        rw [← htkH.out] at hO8
        obtain ⟨ra', rm', rc', hrE⟩ : ∃ ra rm rc, ov8 = .slice ra rm rc := by
          obtain ⟨a, c, e⟩ := hO8.shape
          exact ⟨_, _, _, e⟩
        subst hrE
        have hO8H : Hid (Fo W2.heap.size w8 (.slice ra' rm' rc') (fs.take (i + 1))) := hO8
        have hb8H : Hid (Below W2.heap.size W2 w8) := hbr.trans hb8
        clear hO hO8 hb8 r0' r1' r2' hBr hkg
        go_wp2
        go_roundg (m - (i + 1))
        case measure => have := hiH.out; omega
        case rel => exact ⟨i + 1, by omega, by go_num, hO8H.out, hb8H.out⟩
      · obtain rfl : i = m := by omega
        rw [List.take_of_length_le (by rw [hm.out]; exact Nat.le_refl _)] at hO
        have hFr := hO.fv
        have hlti : ¬ (i : Int) < (i : Int) := by omega
        have hCut : ∀ W, Below wr.heap.size wr W → Calls Tryz.prog 35 #[.slice ra rm rc, .string (segName x.1.num), .int .i64 (sz (cutS x).recs : Int)] W (Told W (dCut fs (segName x.1.num) (sz (cutS x).recs : Int))) := fun W hb => cut_of _ _ _ _ W (hFr.below hb) (by rw [← hm.out]; omega)
        have hbxr : wr.heap[w1.heap.size]? = _ := (hbr.block _ hl1).trans hbx
        have z0 : wr.cell? ⟨w1.heap.size, 0, none⟩ = some (.int .i64 (k : Int)) := by rw [cells_of_block hbxr]; rfl
        have z1 : wr.cell? ⟨w1.heap.size, 1, none⟩ = some (.slice la RL lc) := by rw [cells_of_block hbxr]; rfl
        have z2 : wr.cell? ⟨w1.heap.size, 2, none⟩ = some (.slice ea RL ec) := by rw [cells_of_block hbxr]; rfl
        have hl3 : w1.heap.size < wr.heap.size := Nat.lt_of_lt_of_le hl1 hbr.size
        have kSz : Hid (∀ W, Below wr.heap.size wr W → Calls Tryz.prog 43 #[.agg #[.int .i64 (k : Int), .slice la RL lc, .slice ea RL ec]] W fun e w' => e = .returned (.int .i64 (sz (cutS x).recs : Int)) ∧ Below W.heap.size W w') := fun W hb => hsz.out W (hbr.trans (hb.mono hbr.size))
        have hEnd2 : Hid (∀ W ov, Below wr.heap.size wr W → Fv W ov (dCut fs (segName x.1.num) (sz (cutS x).recs : Int)).1 → T (.returned ov) W) := fun W ov hb hf => hEnd.out W ov (hbr.trans (hb.mono hbr.size)) hf
        clear hFr hO hsz hEnd hfs kN p0 p1 p2 q0 q1 q2 b0 hbx hbxr
        generalize sz (cutS x).recs = SZ at *
        generalize segName x.1.num = SN at *
        have hd : Below wr.heap.size wr wr.drew := (Below.refl _ _).drew
        have hS : Hid (∀ w', Below wr.heap.size wr w' → w'.cell? ⟨w1.heap.size, 0, none⟩ = some (.int .i64 (k : Int)) ∧ w'.cell? ⟨w1.heap.size, 1, none⟩ = some (.slice la RL lc) ∧ w'.cell? ⟨w1.heap.size, 2, none⟩ = some (.slice ea RL ec)) := fun w' hb => ⟨(hb.cell (p := ⟨w1.heap.size, 0, none⟩) hl3).trans z0, (hb.cell (p := ⟨w1.heap.size, 1, none⟩) hl3).trans z1, (hb.cell (p := ⟨w1.heap.size, 2, none⟩) hl3).trans z2⟩
        have x0 := hS.out _ hd
        have kNm1 := kNm wr.drew
        go_wp2
        go_region_held3 (fun w' => w'.cell? ⟨w1.heap.size, 0, none⟩ = some (.int .i64 (k : Int)) ∧ w'.cell? ⟨w1.heap.size, 1, none⟩ = some (.slice la RL lc) ∧ w'.cell? ⟨w1.heap.size, 2, none⟩ = some (.slice ea RL ec))
          (first | exact x5 | exact x4 | exact x3 | exact x0)
          (first | (go_at_call 42; refine kNm1.mono ?_; rintro e w3 ⟨rfl, hb3⟩; have hb3' := hd.trans (hb3.mono hd.size); have x3 := hS.out _ hb3'; have k3 := kSz.out _ hb3') | (go_at_call 43; refine k3.mono ?_; rintro e w4 ⟨rfl, hb4⟩; have hb4' := hb3'.trans (hb4.mono hb3'.size); have x4 := hS.out _ hb4'; have k4 := hCut _ hb4') | (go_at_call 35; refine k4.mono ?_; rintro e w5 ⟨lv, rfl, hF5, hb5⟩; have hb5' := hb4'.trans (hb5.mono hb4'.size); have x5 := hS.out _ hb5'; have hfin := hEnd2.out _ _ hb5' hF5))
        clear x0 x3 x4 x5 z0 z1 z2 hEnd2 hCut kSz
        go_wp2
        exact hfin
end Go.Proofs.YtgfoogeiancecaaGreatDoor

/- The contract of the document's Append. -/
namespace Go.Proofs.YtgfoogeiancecaaGreatDoor
open Go.RowKit WalMath DiskMath
set_option maxRecDepth 100000
set_option linter.unusedSimpArgs false
set_option linter.unusedVariables false

/-- A record goes behind the segment n. -/
def rputF (fs : Files) (n : Nat) (r : Rec) : Files × Nat := if (dAppend fs (segName n) (recB r)).2 = 0 then ((dAppend fs (segName n) (recB r)).1, 0) else (fs, 2)
/-- A new segment n, and a record in it. -/
def rnewF (fs : Files) (n : Nat) (r : Rec) : Files × Nat :=
  if 99999999 < n then (fs, 2) else if (dAppend fs (segName n) []).2 = 0 then rputF (dAppend fs (segName n) []).1 n r else ((dAppend fs (segName n) []).1, 2)
/-- What the document's Append tells. -/
def rappF (fs : Files) (xs : List (Seg × Nat)) (r : Rec) : Files × Nat :=
  if r.index = 0 then (fs, 1) else if 4096 < r.data.length then (fs, 3) else if rrecs xs ≠ [] ∧ r.index ≠ (lastIx 0 (rrecs xs) + 1) % 18446744073709551616 then (fs, 12) else
    match xs.getLast? with
    | none => rnewF fs 1 r
    | some x => if 4096 < sz (cutS x).recs then rnewF (dSync fs (segName x.1.num)).1 (x.1.num + 1) r else rputF fs x.1.num r

theorem Sound.hid {l : Files} (h : SoundF l) : Hid (SoundF l) := h
/-- An append whose run is known, at an operation. -/
theorem op_runW {o : Oper} {a : Act} {w : World} {K : Act → World → Prop} {Q : Exit → Act → World → Prop} {Φ : Value → World → Prop} {ts : TypeId} {v xv : Value}
    (hrun : Hid (∀ ty, ∃ v' w', (Builtin.append_ #[ts, ts] ty #[v, xv]).run Tryz.prog w = .ok v' w' ∧ Φ v' w'))
    (s x : Operand) (ho : o.op = .call { callee := .builtin .append, args := #[s, x], argTypes := #[ts, ts] }) (hs : a.eval s = v) (hx : a.eval x = xv)
    (hK : ∀ v' w', Φ v' w' → K (a.put o.dst v') w') : Oper.wp Tryz.prog o a w K Q := by
  obtain ⟨v', w', hr, hφ⟩ := hrun.out o.type
  unfold Oper.wp
  simp [execOp, ho, resolve, invoke, builtin, hs, hx, hr, Result.andThen]
  exact hK v' w' hφ

set_option maxHeartbeats 16000000 in
theorem rapp_of [Keep] (fs : Files) (xs : List (Seg × Nat)) (r : Rec) (v dv : Value) (w : World) (hF : Fv w v fs) (h : RSt fs xs) (hs : SoundF fs) (hB : Fr.Bs w.heap.size w dv r.data) (hix : r.index < 18446744073709551616) (hby : ∀ c ∈ r.data, c < 256) (hdl : r.data.length ≤ 1000000) :
    Calls Tryz.prog 18 #[v, .agg #[.int .u64 (r.index : Int), dv]] w (Told w (rappF fs xs r)) := by
  have hlen := h.rd.few
  have hflH : Hid (fs.length = xs.length) := h.len
  obtain ⟨da, dc, rfl, -⟩ := id hB
  obtain ⟨W0, hW0⟩ : ∃ W0, w.alloc (.cells #[.int .u64 (r.index : Int), .slice da r.data.length dc] 44) = W0 := ⟨_, rfl⟩
  have hb0 : Below w.heap.size w W0 := by rw [← hW0]; exact (Below.refl _ _).alloc (Nat.le_refl _) _
  have hbx : W0.heap[w.heap.size]? = some (.cells #[.int .u64 (r.index : Int), .slice da r.data.length dc] 44 (0, 0)) := by rw [← hW0]; exact heap_alloc_new w _
  have hl0 : w.heap.size < W0.heap.size := (Array.getElem?_eq_some_iff.1 hbx).1
  have hBox : Hid (∀ W, Below W0.heap.size W0 W → W.cell? ⟨w.heap.size, 0, none⟩ = some (.int .u64 (r.index : Int)) ∧ W.cell? ⟨w.heap.size, 1, none⟩ = some (.slice da r.data.length dc) ∧ w.heap.size < W.heap.size) := fun W hb => by
    have hk := (hb.block _ hl0).trans hbx
    exact ⟨by rw [cells_of_block hk]; rfl, by rw [cells_of_block hk]; rfl, Nat.lt_of_lt_of_le hl0 hb.size⟩
  have kR := rread_of fs xs v W0 ((hF.below hb0).imp (fun _ _ _ => trivial) (Nat.zero_le _)) h
  obtain ⟨ao, m, cap, rfl⟩ : ∃ ao m cap, v = .slice ao m cap := by
    obtain ⟨ao, cap, e⟩ := hF.shape
    exact ⟨_, _, _, e⟩
  generalize hT : Told w (rappF fs xs r) = T
  have fin : Hid (∀ ov W R, rappF fs xs r = R → Fv W ov R.1 → Below w.heap.size w W → T (.returned (.tuple #[ov, .int .i64 (R.2 : Int)])) W) := fun ov W R e a b => by rw [← hT, e]; exact ⟨ov, rfl, a, b⟩
  clear hT
  go_enter Tryz.func18, Tryz.ntmps18
  go_wp2_with fail
  refine kR.mono ?_
  rintro e w1 ⟨av, rfl, hA, hb1⟩
  clear kR
  obtain ⟨bx0, bx1, bx2⟩ := hBox.out w1 hb1
  have hbw := hb0.trans (hb1.mono hb0.size)
  have hF1 := hF.below hbw
  obtain ⟨aa, ac, rfl, hA2⟩ := id hA
  obtain ⟨an, han⟩ : ∃ an, Hid (an = (rrecs xs).length) := ⟨_, rfl⟩
  rw [← han.out]
  by_cases hi0 : r.index = 0
  · have hfin := fin.out (.slice ao m cap) w1 (fs, 1) (by unfold rappF; rw [if_pos hi0]) hF1 hbw
    rw [hi0] at bx0
    clear fin hF1 hF hA hA2 h hs hB
    go_wp2
    exact hfin
  have hi0i : ¬ (r.index : Int) = 0 := by omega
  by_cases hd : 4096 < r.data.length
  · have hfin := fin.out (.slice ao m cap) w1 (fs, 3) (by unfold rappF; rw [if_neg hi0, if_pos hd]) hF1 hbw
    have hdi : (4096 : Int) < (r.data.length : Int) := by omega
    clear fin hF1 hF hA hA2 h hs hB hdl hix
    go_wp2
    exact hfin
  have hdi : ¬ (4096 : Int) < (r.data.length : Int) := by omega
  have hfin12 : Hid (∀ W, rrecs xs ≠ [] ∧ r.index ≠ (lastIx 0 (rrecs xs) + 1) % 18446744073709551616 → Below w1.heap.size w1 W → T (.returned (.tuple #[.slice ao m cap, .int .i64 12])) W) := fun W hc hb => fin.out (.slice ao m cap) W (fs, 12) (by unfold rappF; rw [if_neg hi0, if_neg hd, if_pos hc]) (hF1.below hb) (hbw.trans (hb.mono hbw.size))
  have hrest : Hid (¬ (rrecs xs ≠ [] ∧ r.index ≠ (lastIx 0 (rrecs xs) + 1) % 18446744073709551616) → rappF fs xs r = match xs.getLast? with | none => rnewF fs 1 r | some x => if 4096 < sz (cutS x).recs then rnewF (dSync fs (segName x.1.num)).1 (x.1.num + 1) r else rputF fs x.1.num r) := fun hc => by unfold rappF; rw [if_neg hi0, if_neg hd, if_neg hc]
  have kS : Hid (∀ W, Below w1.heap.size w1 W → Calls Tryz.prog 29 #[.slice ao m cap] W (RSegsT W xs)) := fun W hb => refSegments_of fs xs _ W ((hF1.below hb).imp (fun _ _ _ => trivial) (Nat.zero_le _)) h.fs h.rd h.mx
  have hokL : lastIx 0 (rrecs xs) < 18446744073709551616 := by
    rw [lastIx_eq]
    cases hg : (rrecs xs).getLast? with
    | none => simp
    | some q =>
      obtain ⟨x, hx, hq⟩ := List.mem_flatMap.1 (List.mem_of_getLast? hg)
      exact (h.rd.ok x hx q (List.mem_of_mem_take hq)).2.1
  have hAL : Hid (∀ t, an = t + 1 → ∃ hh, aa = some ⟨hh, 0, none⟩ ∧ hh < w1.heap.size ∧ w1.cell? ⟨hh, t * 2, none⟩ = some (.int .u64 (lastIx 0 (rrecs xs) : Int))) := fun t ht => by
    rw [han.out] at ht
    have hgt := List.getElem?_eq_getElem (l := rrecs xs) (i := t) (by omega)
    obtain ⟨hh, da', dc', e, c0, -⟩ := hA2 t _ hgt
    refine ⟨hh, e, World.block_lt_of_cell? w1 _ c0, ?_⟩
    rw [c0, show lastIx 0 (rrecs xs) = ((rrecs xs)[t]'(by omega)).index by rw [lastIx_eq, List.getLast?_eq_getElem?, show (rrecs xs).length - 1 = t by omega, hgt]; rfl]
  have hanb : an ≤ 100000000 := by
    have := h.total xs.length (Nat.le_refl _)
    rw [List.take_of_length_le (Nat.le_refl _)] at this
    rw [han.out]
    omega
  obtain ⟨LI, hLI⟩ : ∃ LI, Hid (LI = lastIx 0 (rrecs xs)) := ⟨_, rfl⟩
  rw [← hLI.out] at hfin12 hrest hokL hAL
  have hwrp : IntKind.u64.wrap ((LI : Int) + 1) = (((LI + 1) % 18446744073709551616 : Nat) : Int) := by rw [IntKind.wrap_u64]; omega
  obtain ⟨QI, hQI⟩ : ∃ QI, Hid (QI = (LI + 1) % 18446744073709551616) := ⟨_, rfl⟩
  rw [← hQI.out] at hfin12 hrest hwrp
  have hiE : Hid (r.index ≠ 0 ∧ r.data.length ≤ 4096 ∧ r.index < 18446744073709551616) := ⟨hi0, by omega, hix⟩
  have hby' : Hid (∀ c ∈ r.data, c < 256) := hby
  have hsH : Hid (SoundF fs) := hs
  have hH : Hid (RSt fs xs) := h
  have hne : Hid (rrecs xs ≠ [] ↔ 0 < an) := by show _ ↔ _; rw [han.out]; exact List.length_pos_iff.symm
  have hdl2 : r.data.length ≤ 4096 := by omega
  clear hF hA hA2 h hs hi0 hd hdl hix hby hokL hQI hLI
  rcases Nat.eq_zero_or_pos an with ha0 | ha0
  · have hE := hrest.out (fun hc => by have := hne.out.1 hc.1; omega)
    have hEH : Hid (rappF fs xs r = _) := hE
    have kS1 := fun nq => kS.out (w1.drewN nq) (below_drewN (Below.refl _ _) _)
    clear hrest hfin12 hAL hE
    subst ha0
    go_wp2
    go_quiet (fail)
    go_wp2_with fail
    refine (kS.out _ (below_drewN (Below.refl _ _) _)).mono ?_
    rintro e w2 ⟨ov, D, rfl, hO⟩
    have hR := hO.rd
    have hbd : Below w1.heap.size w1 (w1.drewN nq) := below_drewN (Below.refl _ _) _
    have hb12 : Below w1.heap.size w1 w2 := hbd.trans (hO.bel.mono hbd.size)
    clear hO
    have hb02 : Below W0.heap.size W0 w2 := hb1.trans (hb12.mono hb1.size)
    have hbw2 := hbw.trans (hb12.mono hbw.size)
    have hF2 := hF1.below hb12
    have hBd := (hB.below hbw2).mono hbw2.size
    have hBx : Hid (∀ W, Below w2.heap.size w2 W → W.cell? ⟨w.heap.size, 0, none⟩ = some (.int .u64 (r.index : Int)) ∧ W.cell? ⟨w.heap.size, 1, none⟩ = some (.slice da r.data.length dc) ∧ w.heap.size < W.heap.size) := fun W hb => hBox.out W (hb02.trans (hb.mono hb02.size))
    have hfin2 : Hid (∀ R, rappF fs xs r = R → ∀ ov W, Below w2.heap.size w2 W → Fv W ov R.1 → T (.returned (.tuple #[ov, .int .i64 (R.2 : Int)])) W) := fun R e ov W hb hf => fin.out ov W R e hf (hbw2.trans (hb.mono hbw2.size))
    have kNm : Hid (∀ (n : Nat) (W : World), n < 100000000 → Calls Tryz.prog 42 #[.int .i64 (n : Int)] W fun e w' => e = .returned (.string (segName n)) ∧ Below W.heap.size W w') := fun n W hn => refName_of n W hn
    have kAp : Hid (∀ (fs' : Files) (n : ByteArray) (bl : List Nat) (lv bv : Value) (W : World), SoundF fs' → Fv W lv fs' → Bs W.heap.size W bv bl → bl.length ≤ 1000000 → Calls Tryz.prog 50 #[lv, .string n, bv] W (Told W (dAppend fs' n bl))) := fun fs' n bl lv bv W a b c d => append_of fs' n bl lv bv W b c (by have := a.2.1; omega) (by omega) (fun f hf => (a.2.2 f hf).2.1)
    obtain ⟨oa, on, oc, hovE, hon, hG⟩ : ∃ oa on oc, ov = .slice oa on oc ∧ Hid (on = xs.length) ∧ Hid (∀ (k : Nat) (x : Seg × Nat), xs[k]? = some x → ∃ g, oa = some ⟨g, 0, none⟩ ∧ SgRd w2 g k (k, (cutS x).recs)) := by
      obtain ⟨oa, oc, e, hg⟩ := hR
      exact ⟨oa, _, oc, e, rsg_length xs, fun k x hx => hg k _ (rsg_get hx)⟩
    subst hovE
    clear hR kS hBox fin hF1 hB bx0 bx1 bx2
    obtain ⟨bx0, bx1, bx2⟩ := hBx.out w2 (Below.refl _ _)
    rcases Nat.eq_zero_or_pos on with h0 | h0
    · have hx0 : xs = [] := List.eq_nil_of_length_eq_zero (hon.out.symm.trans h0)
      have hE2 : Hid (rappF fs xs r = rnewF fs 1 r) := by show _ = _; rw [hEH.out, hx0]; rfl
      subst h0
      clear hG hEH hx0
      have kN1 : Calls Tryz.prog 42 #[.int .i64 1] w2 fun e w' => e = .returned (.string (segName 1)) ∧ Below w2.heap.size w2 w' := kNm.out 1 w2 (by decide)
      go_wp2_with fail
      refine kN1.mono ?_
      rintro e w3 ⟨rfl, hb3⟩
      have hF3 := hF2.below hb3
      clear kN1 hF2
      go_wp2_with fail
      obtain ⟨wa, hwa⟩ : ∃ wa, wa = w3 := ⟨_, rfl⟩
      subst hwa
      have hba := hb3
      have hFa := hF3
      have hsa := hsH
      have hEa := hE2
      have hnb : Hid (1 < 100000000) := by show 1 < 100000000; decide
      clear hF3 hE2 hb3
      have kA4 := kAp.out fs (segName 1) [] (.slice ao m cap) (.slice none 0 0) wa hsa.out hFa (Bs.nil _ _) (by simp)
      have hEd : Hid (rappF fs xs r = if (dAppend fs (segName 1) []).2 = 0 then rputF (dAppend fs (segName 1) []).1 1 r else ((dAppend fs (segName 1) []).1, 2)) := by show _ = _; rw [hEa.out]; unfold rnewF; rw [if_neg (by have := hnb.out; omega)]
      have hsd := Sound.hid (sound_append hsa.out (segName 1) [])
      clear hFa hEa
      generalize dAppend fs (segName 1) [] = D9 at *
      obtain ⟨fsc, D2⟩ := D9
      refine kA4.mono ?_
      rintro e wc ⟨lv4, rfl, hFc, hb4⟩
      have hbc := hba.trans (hb4.mono hba.size)
      dsimp only at hEd hFc hsd
      clear kA4
      by_cases hz : D2 = 0
      · subst hz
        have hEc : Hid (rappF fs xs r = rputF fsc 1 r) := by show _ = _; rw [hEd.out, if_pos rfl]
        have hsc := hsd
        clear hEd hsa
        obtain ⟨la, lm, lc, hl4⟩ : ∃ la lm lc, lv4 = .slice la lm lc := by
          obtain ⟨a, c, e⟩ := hFc.shape
          exact ⟨_, _, _, e⟩
        subst hl4
        have hBdc := (hBd.below hbc).mono hbc.size
        have hbcd : Below w2.heap.size w2 wc.drew := hbc.drew
        have hS0 : (fun W => W.cell? ⟨w.heap.size, 0, none⟩ = some (.int .u64 (r.index : Int)) ∧ W.cell? ⟨w.heap.size, 1, none⟩ = some (.slice da r.data.length dc)) wc.drew := ⟨(hBx.out _ hbcd).1, (hBx.out _ hbcd).2.1⟩
        have hScl : Hid (∀ W, Below w2.heap.size w2 W → (fun W => W.cell? ⟨w.heap.size, 0, none⟩ = some (.int .u64 (r.index : Int)) ∧ W.cell? ⟨w.heap.size, 1, none⟩ = some (.slice da r.data.length dc)) W) := fun W hb => ⟨(hBx.out W hb).1, (hBx.out W hb).2.1⟩
        have hFcH : Hid (Fv wc (.slice la lm lc) fsc) := hFc
        have hd0 : Below wc.heap.size wc wc.drew := (Below.refl _ _).drew
        have hds : Hid (wc.drew.heap.size = wc.heap.size) := rfl
        clear hFc bx0 bx1 bx2
        go_wp2
        refine wp_region_L (fun W => W.cell? ⟨w.heap.size, 0, none⟩ = some (.int .u64 (r.index : Int)) ∧ W.cell? ⟨w.heap.size, 1, none⟩ = some (.slice da r.data.length dc)) [] (by kernel_rfl) ?_
        generalize wc.drew = wd at *
        refine wpAnyL_take 0 rfl (by kernel_rfl) (by kernel_rfl) (by kernel_rfl) (by kernel_rfl) (fun _ _ _ h => h) (by kernel_rfl) (by intro w' hS'; obtain ⟨a0, a1⟩ := hS'; go_simp <;> rfl) hS0 ?_
        try simp only [List.getElem_toArray, List.getElem_cons_succ, List.getElem_cons_zero, Act.put, List.setIfInBounds_toArray, List.set_cons_zero, List.set_cons_succ]
        refine wpAnyL_take 1 rfl (by kernel_rfl) (by kernel_rfl) (by kernel_rfl) (by kernel_rfl) (fun _ _ _ h => h) (by kernel_rfl) (by intro w' hS'; obtain ⟨a0, a1⟩ := hS'; go_simp <;> rfl) hS0 ?_
        try simp only [List.getElem_toArray, List.getElem_cons_succ, List.getElem_cons_zero, Act.put, List.setIfInBounds_toArray, List.set_cons_zero, List.set_cons_succ]
        refine wpAnyL_take 3 rfl (by kernel_rfl) (by kernel_rfl) (by kernel_rfl) (by kernel_rfl) (fun _ _ _ h => h) (by kernel_rfl) (by intro w' hS'; obtain ⟨a0, a1⟩ := hS'; go_simp <;> rfl) hS0 ?_
        try simp only [List.getElem_toArray, List.getElem_cons_succ, List.getElem_cons_zero, Act.put, List.setIfInBounds_toArray, List.set_cons_zero, List.set_cons_succ]
        refine wpAnyL_take 4 rfl (by kernel_rfl) (by kernel_rfl) (by kernel_rfl) (by kernel_rfl) (fun _ _ _ h => h) (by kernel_rfl) (by intro w' hS'; obtain ⟨a0, a1⟩ := hS'; go_simp <;> rfl) hS0 ?_
        try simp only [List.getElem_toArray, List.getElem_cons_succ, List.getElem_cons_zero, Act.put, List.setIfInBounds_toArray, List.set_cons_zero, List.set_cons_succ]
        refine wpAnyL_one 2 (by kernel_rfl) rfl (by kernel_rfl) ?_
        intro K' hK'
        go_simp
        go_at_call 52
        refine (Fr.refUvarint_of r.index wd hiE.out.2.2).mono ?_
        rintro e w5 ⟨v5, rfl, hO5, hb5⟩
        have hbc5 := hbcd.trans (hb5.mono hbcd.size)
        have hS5 := hScl.out w5 hbc5
        refine hK'.out _ _ (.inr hS5) ?_
        clear hK' K'
        try simp only [List.getElem_toArray, List.getElem_cons_succ, List.getElem_cons_zero, Act.put, List.setIfInBounds_toArray, List.set_cons_zero, List.set_cons_succ]
        have hBd5 : Fr.Bs w5.heap.size w5 (.slice da r.data.length dc) r.data := by
          have h1 := hd0.trans (hb5.mono hd0.size)
          exact (hBdc.below h1).mono h1.size
        have hul : (WireMath.uv r.index).length ≤ 10 := WireMath.uv_len10 hiE.out.2.2
        have r5 : Hid _ := fun ty => Fr.run_append_bs w5 ty wd.heap.size v5 _ hO5 hb5.size w5.heap.size _ r.data hBd5 (by omega)
        refine wpAnyL_one 5 (by kernel_rfl) rfl (by kernel_rfl) ?_
        intro K' hK'
        refine op_runW r5 _ _ rfl (by rfl) (by rfl) ?_
        rintro v6 w6 ⟨hO6, hb6, -⟩
        have hbc6 := hbc5.trans (hb6.mono (Nat.le_trans hbcd.size (Nat.le_refl _)))
        have hS6 := hScl.out w6 hbc6
        refine hK'.out _ _ (.inr hS6) ?_
        clear hK' K' r5
        try simp only [List.getElem_toArray, List.getElem_cons_succ, List.getElem_cons_zero, Act.put, List.setIfInBounds_toArray, List.set_cons_zero, List.set_cons_succ]
        have kFm : Calls Tryz.prog 51 #[.int .u8 1, v6] w6 _ := Fr.refFrame_of 1 _ w6.heap.size v6 w6 hO6.bs (by decide) (by
          intro c hc
          rcases List.mem_append.1 hc with h | h
          · exact WireMath.uv_bytes _ c h
          · exact hby'.out c h) (Nat.le_refl _) (by rw [List.length_append]; omega)
        refine wpAnyL_one 6 (by kernel_rfl) rfl (by kernel_rfl) ?_
        intro K' hK'
        go_simp
        go_at_call 51
        refine kFm.mono ?_
        rintro e w7 ⟨v7, rfl, hO7, hb7⟩
        have hbc7 := hbc6.trans (hb7.mono hbc6.size)
        have hS7 := hScl.out w7 hbc7
        refine hK'.out _ _ (.inr hS7) ?_
        clear hK' K' kFm
        try simp only [List.getElem_toArray, List.getElem_cons_succ, List.getElem_cons_zero, Act.put, List.setIfInBounds_toArray, List.set_cons_zero, List.set_cons_succ]
        refine wpAnyL_take 7 rfl (by kernel_rfl) (by kernel_rfl) (by kernel_rfl) (by kernel_rfl) (fun _ _ _ h => h) (by kernel_rfl) (by intro w' hS'; obtain ⟨a0, a1⟩ := hS'; go_simp <;> rfl) hS7 ?_
        try simp only [List.getElem_toArray, List.getElem_cons_succ, List.getElem_cons_zero, Act.put, List.setIfInBounds_toArray, List.set_cons_zero, List.set_cons_succ]
        refine wpAnyL_done (by kernel_rfl) (NoPanic.normal ?_) _
        have hbx7 : Below wc.heap.size wc w7 := (hd0.trans (hb5.mono hd0.size)).trans ((hb6.trans (hb7.mono (Nat.le_trans hb5.size hb6.size))).mono (Nat.le_of_eq hds.out.symm))
        have hF7 := hFcH.out.below hbx7
        have hB7 : Bs w7.heap.size w7 v7 (recB r) := Own.bs (show Own w6.heap.size w7 v7 (recB r) from hO7) (Nat.le_trans hFcH.out.1 (Nat.le_trans hd0.size (Nat.le_trans hb5.size hb6.size)))
        obtain ⟨a7, c7, hv7, -⟩ : ∃ a7 c7, v7 = .slice a7 (recB r).length c7 ∧ True := by
          obtain ⟨a, c, e⟩ := hO7.shape
          exact ⟨a, c, e, trivial⟩
        have hrl : (recB r).length ≤ 1000000 := by
          have h1 := FrameMath.frameB_length 1 (WireMath.uv r.index ++ r.data)
          have h2 : (WireMath.uv ((WireMath.uv r.index ++ r.data).length + 5)).length ≤ 10 := WireMath.uv_len10 (by rw [List.length_append]; omega)
          show (FrameMath.frameB 1 (WireMath.uv r.index ++ r.data)).length ≤ _
          rw [h1]
          rw [List.length_append] at h2 ⊢
          omega
        clear hS0 hS5 hS6 hS7 hO5 hO6 hO7 hb5 hb6 hb7 hBd5 hBdc hScl hbc5 hbc6 hul
        generalize hRB : recB r = RB at *
        subst hv7
        have kN7 : Calls Tryz.prog 42 #[.int .i64 1] w7 fun e w' => e = .returned (.string (segName 1)) ∧ Below w7.heap.size w7 w' := kNm.out 1 w7 hnb.out
        go_wp2_with fail
        refine kN7.mono ?_
        rintro e w8 ⟨rfl, hb8⟩
        have hbc8 := hbc7.trans (hb8.mono hbc7.size)
        have kA8 := kAp.out fsc (segName 1) RB (.slice la lm lc) (.slice a7 RB.length c7) w8 hsc.out (hF7.below hb8) ((hB7.below hb8).mono hb8.size) hrl
        have hF8 := hF7.below hb8
        have hEd : Hid (rappF fs xs r = if (dAppend fsc (segName 1) RB).2 = 0 then ((dAppend fsc (segName 1) RB).1, 0) else (fsc, 2)) := by show _ = _; rw [hEc.out]; unfold rputF; rw [hRB]
        clear kN7 hF7 hB7 hEc
        generalize dAppend fsc (segName 1) RB = D9 at *
        obtain ⟨D1, D2⟩ := D9
        go_wp2_with fail
        refine kA8.mono ?_
        rintro e w9 ⟨lv9, rfl, hF9, hb9⟩
        have hbc9 := hbc8.trans (hb9.mono hbc8.size)
        dsimp only at hEd hF9
        by_cases hz : D2 = 0
        · subst hz
          have hfin := hfin2.out (D1, 0) (by rw [hEd.out, if_pos rfl]) lv9 w9 hbc9 hF9
          clear hEd kA8 hF8 hF9
          go_wp2
          exact hfin
        · have hzi : ¬ (D2 : Int) = 0 := by omega
          have hfin := hfin2.out (fsc, 2) (by rw [hEd.out, if_neg hz]) _ w9 hbc9 (hF8.below hb9)
          clear hEd kA8 hF8 hF9 hz
          go_wp2
          exact hfin
      · have hzi : ¬ (D2 : Int) = 0 := by omega
        have hfin := hfin2.out (fsc, 2) (by rw [hEd.out, if_neg hz]) _ wc hbc hFc
        clear hEd hFc hz hsd
        go_wp2
        exact hfin
    · obtain ⟨k, rfl⟩ : ∃ k, on = k + 1 := ⟨on - 1, by omega⟩
      have hkx := List.getElem?_eq_getElem (l := xs) (i := k) (by rw [← hon.out]; omega)
      generalize xs[k]'(by rw [← hon.out]; omega) = x at *
      obtain ⟨g, rfl, q0, sa, sc, ea, ec, q1, q2, -, hEn⟩ := hG.out k x hkx
      dsimp only at q0 q1 q2 hEn
      have hgl := World.block_lt_of_cell? w2 _ q0
      dsimp only at hgl
      have hk20 : k < 20 := by have := hon.out; omega
      have hmF : Hid (m = fs.length) := by
        obtain ⟨a, c, e⟩ := hF2.shape
        cases e
        rfl
      have hkm : k < m := by rw [hmF.out, hflH.out, ← hon.out]; omega
      have hkmi : (k : Int) < (m : Int) := by omega
      have hkf := List.getElem?_eq_getElem (l := fs) (i := k) (by rw [← hmF.out]; exact hkm)
      have hnmE := (hH.out.fs.2 k _ (xfile x) hkf (by rw [List.getElem?_map, hkx]; rfl)).1
      obtain ⟨b, off, svk, hao, p0, -⟩ : ∃ b off svk, ao = some ⟨b, off, none⟩ ∧ w2.cell? ⟨b, off + k * 3, none⟩ = some (.string (segName x.1.num)) ∧ svk = svk := by
        obtain ⟨_, a', c', e', h2'⟩ := id hF2
        cases e'
        obtain ⟨b, off, sv, r1, r2, -⟩ := h2' k _ hkf
        rw [hnmE] at r2
        exact ⟨b, off, sv, r1, r2, rfl⟩
      subst hao
      have hbl := World.block_lt_of_cell? w2 _ p0
      dsimp only at hbl
      have hbig := hH.out.rd.big x (List.mem_of_getElem? hkx)
      have hrl0 : (cutS x).recs.length ≤ 1000000 := hH.out.rows _ (List.mem_of_getElem? (rsg_get hkx))
      have kN : ∀ W, Calls Tryz.prog 41 #[.string (segName x.1.num)] W fun e w' => e = .returned (.int .i64 (x.1.num : Int)) ∧ w' = W := fun W => by
        have := number_of (segName x.1.num) W
        rw [segNum_name hbig.2] at this
        exact this
      have kSz : Calls Tryz.prog 43 #[.agg #[.int .i64 (k : Int), .slice sa (cutS x).recs.length sc, .slice ea (cutS x).recs.length ec]] w2 fun e w' => e = .returned (.int .i64 (sz (cutS x).recs : Int)) ∧ Below w2.heap.size w2 w' := rsize_of w2 _ _ _ _ _ ⟨_, _, _, rfl⟩ (cutS x).recs rfl hrl0 hEn
      have hE2 : Hid (rappF fs xs r = if 4096 < sz (cutS x).recs then rnewF (dSync fs (segName x.1.num)).1 (x.1.num + 1) r else rputF fs x.1.num r) := by show _ = _; rw [hEH.out, List.getLast?_eq_getElem?, ← hon.out, Nat.add_sub_cancel, hkx]
      have hnb0 : Hid (x.1.num < 100000000) := hbig.2
      have hn1 : Hid (1 ≤ x.1.num) := hbig.1
      clear hG hEH hkf hnmE hkx hEn hbig hrl0
      generalize (cutS x).recs.length = RL at *
      generalize sz (cutS x).recs = SZ at *
      generalize x.1.num = N at *
      generalize hsn : segName N = SN at p0 kN
      have hsnH : Hid (segName N = SN) := hsn
      clear hsn
      go_wp2_with fail
      refine (kN _).mono ?_
      rintro e wq ⟨rfl, hwq⟩
      rw [hwq]
      clear hwq wq kN
      go_wp2_with fail
      refine kSz.mono ?_
      rintro e wc ⟨rfl, hbc⟩
      clear kSz
      by_cases hS : 4096 < SZ
      · have hSi : (4096 : Int) < (SZ : Int) := by omega
        have hNi : (0 : Int) < (N : Int) := by have := hn1.out; omega
        have hNn : 0 < N := by have := hn1.out; omega
        have kNc := kNm.out N wc hnb0.out
        have hFc := hF2.below hbc
        obtain ⟨N1, hN1⟩ : ∃ N1, Hid (N1 = N + 1) := ⟨_, rfl⟩
        have hwr : IntKind.i64.wrap ((N : Int) + 1) = (N1 : Int) := by
          rw [hN1.out, Int.natCast_add]
          exact IntWalk.i64_in _ (by have := hnb0.out; omega)
        clear q0 q1 q2 p0 hF2
        go_wp2_with fail
        refine kNc.mono ?_
        rintro e w5 ⟨rfl, hb5⟩
        have kY5 := sync_of fs (segName N) (.slice (some ⟨b, off, none⟩) m cap) w5 (hFc.below hb5) (by rw [hflH.out]; omega)
        have hb5' := hbc.trans (hb5.mono hbc.size)
        have hsy := Sound.hid (sound_sync hsH.out (segName N))
        have hE3 : Hid (rappF fs xs r = rnewF (dSync fs (segName N)).1 N1 r) := by show _ = _; rw [hE2.out, if_pos hS, hN1.out]
        clear kNc hE2 hFc
        generalize dSync fs (segName N) = D5 at *
        obtain ⟨fsy, D52⟩ := D5
        go_wp2_with fail
        refine kY5.mono ?_
        rintro e w6 ⟨lv6, rfl, hF6, hb6⟩
        dsimp only at hF6 hsy hE3
        have hb6' := hb5'.trans (hb6.mono hb5'.size)
        clear kY5
        obtain ⟨ya, ym, yc, hl6⟩ : ∃ la lm lc, lv6 = .slice la lm lc := by
          obtain ⟨a, c, e⟩ := hF6.shape
          exact ⟨_, _, _, e⟩
        subst hl6
        by_cases h9 : 99999999 < N1
        · have h9i : (99999999 : Int) < (N1 : Int) := by omega
          have hfin := hfin2.out (fsy, 2) (by rw [hE3.out]; unfold rnewF; rw [if_pos h9]) _ w6 hb6' hF6
          clear hE3 hF6 hnb0 hn1 h9
          go_wp2
          exact hfin
        · have h9i : ¬ (99999999 : Int) < (N1 : Int) := by omega
          have hnb : Hid (N1 < 100000000) := by show N1 < 100000000; omega
          have kN6 := kNm.out N1 w6 hnb.out
          clear hnb0 hn1 h9
          go_wp2_with fail
          refine kN6.mono ?_
          rintro e wa ⟨rfl, hb7⟩
          have hba := hb6'.trans (hb7.mono hb6'.size)
          have hFa := hF6.below hb7
          have hsa := hsy
          have hEa := hE3
          clear kN6 hF6 hE3 hsy
          go_wp2_with fail
          have kA4 := kAp.out fsy (segName N1) [] (.slice ya ym yc) (.slice none 0 0) wa hsa.out hFa (Bs.nil _ _) (by simp)
          have hEd : Hid (rappF fs xs r = if (dAppend fsy (segName N1) []).2 = 0 then rputF (dAppend fsy (segName N1) []).1 N1 r else ((dAppend fsy (segName N1) []).1, 2)) := by show _ = _; rw [hEa.out]; unfold rnewF; rw [if_neg (by have := hnb.out; omega)]
          have hsd := Sound.hid (sound_append hsa.out (segName N1) [])
          clear hFa hEa
          generalize dAppend fsy (segName N1) [] = D9 at *
          obtain ⟨fsc, D2⟩ := D9
          refine kA4.mono ?_
          rintro e wc ⟨lv4, rfl, hFc, hb4⟩
          have hbc := hba.trans (hb4.mono hba.size)
          dsimp only at hEd hFc hsd
          clear kA4
          by_cases hz : D2 = 0
          · subst hz
            have hEc : Hid (rappF fs xs r = rputF fsc N1 r) := by show _ = _; rw [hEd.out, if_pos rfl]
            have hsc := hsd
            clear hEd hsa
            obtain ⟨la, lm, lc, hl4⟩ : ∃ la lm lc, lv4 = .slice la lm lc := by
              obtain ⟨a, c, e⟩ := hFc.shape
              exact ⟨_, _, _, e⟩
            subst hl4
            have hBdc := (hBd.below hbc).mono hbc.size
            have hbcd : Below w2.heap.size w2 wc.drew := hbc.drew
            have hS0 : (fun W => W.cell? ⟨w.heap.size, 0, none⟩ = some (.int .u64 (r.index : Int)) ∧ W.cell? ⟨w.heap.size, 1, none⟩ = some (.slice da r.data.length dc)) wc.drew := ⟨(hBx.out _ hbcd).1, (hBx.out _ hbcd).2.1⟩
            have hScl : Hid (∀ W, Below w2.heap.size w2 W → (fun W => W.cell? ⟨w.heap.size, 0, none⟩ = some (.int .u64 (r.index : Int)) ∧ W.cell? ⟨w.heap.size, 1, none⟩ = some (.slice da r.data.length dc)) W) := fun W hb => ⟨(hBx.out W hb).1, (hBx.out W hb).2.1⟩
            have hFcH : Hid (Fv wc (.slice la lm lc) fsc) := hFc
            have hd0 : Below wc.heap.size wc wc.drew := (Below.refl _ _).drew
            have hds : Hid (wc.drew.heap.size = wc.heap.size) := rfl
            clear hFc bx0 bx1 bx2
            go_wp2
            refine wp_region_L (fun W => W.cell? ⟨w.heap.size, 0, none⟩ = some (.int .u64 (r.index : Int)) ∧ W.cell? ⟨w.heap.size, 1, none⟩ = some (.slice da r.data.length dc)) [] (by kernel_rfl) ?_
            generalize wc.drew = wd at *
            refine wpAnyL_take 0 rfl (by kernel_rfl) (by kernel_rfl) (by kernel_rfl) (by kernel_rfl) (fun _ _ _ h => h) (by kernel_rfl) (by intro w' hS'; obtain ⟨a0, a1⟩ := hS'; go_simp <;> rfl) hS0 ?_
            try simp only [List.getElem_toArray, List.getElem_cons_succ, List.getElem_cons_zero, Act.put, List.setIfInBounds_toArray, List.set_cons_zero, List.set_cons_succ]
            refine wpAnyL_take 1 rfl (by kernel_rfl) (by kernel_rfl) (by kernel_rfl) (by kernel_rfl) (fun _ _ _ h => h) (by kernel_rfl) (by intro w' hS'; obtain ⟨a0, a1⟩ := hS'; go_simp <;> rfl) hS0 ?_
            try simp only [List.getElem_toArray, List.getElem_cons_succ, List.getElem_cons_zero, Act.put, List.setIfInBounds_toArray, List.set_cons_zero, List.set_cons_succ]
            refine wpAnyL_take 3 rfl (by kernel_rfl) (by kernel_rfl) (by kernel_rfl) (by kernel_rfl) (fun _ _ _ h => h) (by kernel_rfl) (by intro w' hS'; obtain ⟨a0, a1⟩ := hS'; go_simp <;> rfl) hS0 ?_
            try simp only [List.getElem_toArray, List.getElem_cons_succ, List.getElem_cons_zero, Act.put, List.setIfInBounds_toArray, List.set_cons_zero, List.set_cons_succ]
            refine wpAnyL_take 4 rfl (by kernel_rfl) (by kernel_rfl) (by kernel_rfl) (by kernel_rfl) (fun _ _ _ h => h) (by kernel_rfl) (by intro w' hS'; obtain ⟨a0, a1⟩ := hS'; go_simp <;> rfl) hS0 ?_
            try simp only [List.getElem_toArray, List.getElem_cons_succ, List.getElem_cons_zero, Act.put, List.setIfInBounds_toArray, List.set_cons_zero, List.set_cons_succ]
            refine wpAnyL_one 2 (by kernel_rfl) rfl (by kernel_rfl) ?_
            intro K' hK'
            go_simp
            go_at_call 52
            refine (Fr.refUvarint_of r.index wd hiE.out.2.2).mono ?_
            rintro e w5 ⟨v5, rfl, hO5, hb5⟩
            have hbc5 := hbcd.trans (hb5.mono hbcd.size)
            have hS5 := hScl.out w5 hbc5
            refine hK'.out _ _ (.inr hS5) ?_
            clear hK' K'
            try simp only [List.getElem_toArray, List.getElem_cons_succ, List.getElem_cons_zero, Act.put, List.setIfInBounds_toArray, List.set_cons_zero, List.set_cons_succ]
            have hBd5 : Fr.Bs w5.heap.size w5 (.slice da r.data.length dc) r.data := by
              have h1 := hd0.trans (hb5.mono hd0.size)
              exact (hBdc.below h1).mono h1.size
            have hul : (WireMath.uv r.index).length ≤ 10 := WireMath.uv_len10 hiE.out.2.2
            have r5 : Hid _ := fun ty => Fr.run_append_bs w5 ty wd.heap.size v5 _ hO5 hb5.size w5.heap.size _ r.data hBd5 (by omega)
            refine wpAnyL_one 5 (by kernel_rfl) rfl (by kernel_rfl) ?_
            intro K' hK'
            refine op_runW r5 _ _ rfl (by rfl) (by rfl) ?_
            rintro v6 w6 ⟨hO6, hb6, -⟩
            have hbc6 := hbc5.trans (hb6.mono (Nat.le_trans hbcd.size (Nat.le_refl _)))
            have hS6 := hScl.out w6 hbc6
            refine hK'.out _ _ (.inr hS6) ?_
            clear hK' K' r5
            try simp only [List.getElem_toArray, List.getElem_cons_succ, List.getElem_cons_zero, Act.put, List.setIfInBounds_toArray, List.set_cons_zero, List.set_cons_succ]
            have kFm : Calls Tryz.prog 51 #[.int .u8 1, v6] w6 _ := Fr.refFrame_of 1 _ w6.heap.size v6 w6 hO6.bs (by decide) (by
              intro c hc
              rcases List.mem_append.1 hc with h | h
              · exact WireMath.uv_bytes _ c h
              · exact hby'.out c h) (Nat.le_refl _) (by rw [List.length_append]; omega)
            refine wpAnyL_one 6 (by kernel_rfl) rfl (by kernel_rfl) ?_
            intro K' hK'
            go_simp
            go_at_call 51
            refine kFm.mono ?_
            rintro e w7 ⟨v7, rfl, hO7, hb7⟩
            have hbc7 := hbc6.trans (hb7.mono hbc6.size)
            have hS7 := hScl.out w7 hbc7
            refine hK'.out _ _ (.inr hS7) ?_
            clear hK' K' kFm
            try simp only [List.getElem_toArray, List.getElem_cons_succ, List.getElem_cons_zero, Act.put, List.setIfInBounds_toArray, List.set_cons_zero, List.set_cons_succ]
            refine wpAnyL_take 7 rfl (by kernel_rfl) (by kernel_rfl) (by kernel_rfl) (by kernel_rfl) (fun _ _ _ h => h) (by kernel_rfl) (by intro w' hS'; obtain ⟨a0, a1⟩ := hS'; go_simp <;> rfl) hS7 ?_
            try simp only [List.getElem_toArray, List.getElem_cons_succ, List.getElem_cons_zero, Act.put, List.setIfInBounds_toArray, List.set_cons_zero, List.set_cons_succ]
            refine wpAnyL_done (by kernel_rfl) (NoPanic.normal ?_) _
            have hbx7 : Below wc.heap.size wc w7 := (hd0.trans (hb5.mono hd0.size)).trans ((hb6.trans (hb7.mono (Nat.le_trans hb5.size hb6.size))).mono (Nat.le_of_eq hds.out.symm))
            have hF7 := hFcH.out.below hbx7
            have hB7 : Bs w7.heap.size w7 v7 (recB r) := Own.bs (show Own w6.heap.size w7 v7 (recB r) from hO7) (Nat.le_trans hFcH.out.1 (Nat.le_trans hd0.size (Nat.le_trans hb5.size hb6.size)))
            obtain ⟨a7, c7, hv7, -⟩ : ∃ a7 c7, v7 = .slice a7 (recB r).length c7 ∧ True := by
              obtain ⟨a, c, e⟩ := hO7.shape
              exact ⟨a, c, e, trivial⟩
            have hrl : (recB r).length ≤ 1000000 := by
              have h1 := FrameMath.frameB_length 1 (WireMath.uv r.index ++ r.data)
              have h2 : (WireMath.uv ((WireMath.uv r.index ++ r.data).length + 5)).length ≤ 10 := WireMath.uv_len10 (by rw [List.length_append]; omega)
              show (FrameMath.frameB 1 (WireMath.uv r.index ++ r.data)).length ≤ _
              rw [h1]
              rw [List.length_append] at h2 ⊢
              omega
            clear hS0 hS5 hS6 hS7 hO5 hO6 hO7 hb5 hb6 hb7 hBd5 hBdc hScl hbc5 hbc6 hul
            generalize hRB : recB r = RB at *
            subst hv7
            have kN7 : Calls Tryz.prog 42 #[.int .i64 (N1 : Int)] w7 fun e w' => e = .returned (.string (segName N1)) ∧ Below w7.heap.size w7 w' := kNm.out N1 w7 hnb.out
            go_wp2_with fail
            refine kN7.mono ?_
            rintro e w8 ⟨rfl, hb8⟩
            have hbc8 := hbc7.trans (hb8.mono hbc7.size)
            have kA8 := kAp.out fsc (segName N1) RB (.slice la lm lc) (.slice a7 RB.length c7) w8 hsc.out (hF7.below hb8) ((hB7.below hb8).mono hb8.size) hrl
            have hF8 := hF7.below hb8
            have hEd : Hid (rappF fs xs r = if (dAppend fsc (segName N1) RB).2 = 0 then ((dAppend fsc (segName N1) RB).1, 0) else (fsc, 2)) := by show _ = _; rw [hEc.out]; unfold rputF; rw [hRB]
            clear kN7 hF7 hB7 hEc
            generalize dAppend fsc (segName N1) RB = D9 at *
            obtain ⟨D1, D2⟩ := D9
            go_wp2_with fail
            refine kA8.mono ?_
            rintro e w9 ⟨lv9, rfl, hF9, hb9⟩
            have hbc9 := hbc8.trans (hb9.mono hbc8.size)
            dsimp only at hEd hF9
            by_cases hz : D2 = 0
            · subst hz
              have hfin := hfin2.out (D1, 0) (by rw [hEd.out, if_pos rfl]) lv9 w9 hbc9 hF9
              clear hEd kA8 hF8 hF9
              go_wp2
              exact hfin
            · have hzi : ¬ (D2 : Int) = 0 := by omega
              have hfin := hfin2.out (fsc, 2) (by rw [hEd.out, if_neg hz]) _ w9 hbc9 (hF8.below hb9)
              clear hEd kA8 hF8 hF9 hz
              go_wp2
              exact hfin
          · have hzi : ¬ (D2 : Int) = 0 := by omega
            have hfin := hfin2.out (fsc, 2) (by rw [hEd.out, if_neg hz]) _ wc hbc hFc
            clear hEd hFc hz hsd
            go_wp2
            exact hfin
      · have hSi : ¬ (4096 : Int) < (SZ : Int) := by omega
        have hFc := hF2.below hbc
        have hsc := hsH
        have hnb := hnb0
        have hEc : Hid (rappF fs xs r = rputF fs N r) := by show _ = _; rw [hE2.out, if_neg hS]
        have hSd : decide ((4096 : Int) < (SZ : Int)) = false := decide_eq_false hSi
        clear q0 q1 q2 p0 hF2 hE2 hS hn1 hkmi hkm hk20 hgl hbl hlen hSi
        have hBdc := (hBd.below hbc).mono hbc.size
        have hbcd : Below w2.heap.size w2 wc.drew := hbc.drew
        have hS0 : (fun W => W.cell? ⟨w.heap.size, 0, none⟩ = some (.int .u64 (r.index : Int)) ∧ W.cell? ⟨w.heap.size, 1, none⟩ = some (.slice da r.data.length dc)) wc.drew := ⟨(hBx.out _ hbcd).1, (hBx.out _ hbcd).2.1⟩
        have hScl : Hid (∀ W, Below w2.heap.size w2 W → (fun W => W.cell? ⟨w.heap.size, 0, none⟩ = some (.int .u64 (r.index : Int)) ∧ W.cell? ⟨w.heap.size, 1, none⟩ = some (.slice da r.data.length dc)) W) := fun W hb => ⟨(hBx.out W hb).1, (hBx.out W hb).2.1⟩
        have hFcH : Hid (Fv wc (.slice (some ⟨b, off, none⟩) m cap) fs) := hFc
        have hd0 : Below wc.heap.size wc wc.drew := (Below.refl _ _).drew
        have hds : Hid (wc.drew.heap.size = wc.heap.size) := rfl
        clear hFc bx0 bx1 bx2
        go_wp2
        refine wp_region_L (fun W => W.cell? ⟨w.heap.size, 0, none⟩ = some (.int .u64 (r.index : Int)) ∧ W.cell? ⟨w.heap.size, 1, none⟩ = some (.slice da r.data.length dc)) [] (by kernel_rfl) ?_
        generalize wc.drew = wd at *
        refine wpAnyL_take 0 rfl (by kernel_rfl) (by kernel_rfl) (by kernel_rfl) (by kernel_rfl) (fun _ _ _ h => h) (by kernel_rfl) (by intro w' hS'; obtain ⟨a0, a1⟩ := hS'; go_simp <;> rfl) hS0 ?_
        try simp only [List.getElem_toArray, List.getElem_cons_succ, List.getElem_cons_zero, Act.put, List.setIfInBounds_toArray, List.set_cons_zero, List.set_cons_succ]
        refine wpAnyL_take 1 rfl (by kernel_rfl) (by kernel_rfl) (by kernel_rfl) (by kernel_rfl) (fun _ _ _ h => h) (by kernel_rfl) (by intro w' hS'; obtain ⟨a0, a1⟩ := hS'; go_simp <;> rfl) hS0 ?_
        try simp only [List.getElem_toArray, List.getElem_cons_succ, List.getElem_cons_zero, Act.put, List.setIfInBounds_toArray, List.set_cons_zero, List.set_cons_succ]
        refine wpAnyL_take 3 rfl (by kernel_rfl) (by kernel_rfl) (by kernel_rfl) (by kernel_rfl) (fun _ _ _ h => h) (by kernel_rfl) (by intro w' hS'; obtain ⟨a0, a1⟩ := hS'; go_simp <;> rfl) hS0 ?_
        try simp only [List.getElem_toArray, List.getElem_cons_succ, List.getElem_cons_zero, Act.put, List.setIfInBounds_toArray, List.set_cons_zero, List.set_cons_succ]
        refine wpAnyL_take 4 rfl (by kernel_rfl) (by kernel_rfl) (by kernel_rfl) (by kernel_rfl) (fun _ _ _ h => h) (by kernel_rfl) (by intro w' hS'; obtain ⟨a0, a1⟩ := hS'; go_simp <;> rfl) hS0 ?_
        try simp only [List.getElem_toArray, List.getElem_cons_succ, List.getElem_cons_zero, Act.put, List.setIfInBounds_toArray, List.set_cons_zero, List.set_cons_succ]
        refine wpAnyL_one 2 (by kernel_rfl) rfl (by kernel_rfl) ?_
        intro K' hK'
        go_simp
        go_at_call 52
        refine (Fr.refUvarint_of r.index wd hiE.out.2.2).mono ?_
        rintro e w5 ⟨v5, rfl, hO5, hb5⟩
        have hbc5 := hbcd.trans (hb5.mono hbcd.size)
        have hS5 := hScl.out w5 hbc5
        refine hK'.out _ _ (.inr hS5) ?_
        clear hK' K'
        try simp only [List.getElem_toArray, List.getElem_cons_succ, List.getElem_cons_zero, Act.put, List.setIfInBounds_toArray, List.set_cons_zero, List.set_cons_succ]
        have hBd5 : Fr.Bs w5.heap.size w5 (.slice da r.data.length dc) r.data := by
          have h1 := hd0.trans (hb5.mono hd0.size)
          exact (hBdc.below h1).mono h1.size
        have hul : (WireMath.uv r.index).length ≤ 10 := WireMath.uv_len10 hiE.out.2.2
        have r5 : Hid _ := fun ty => Fr.run_append_bs w5 ty wd.heap.size v5 _ hO5 hb5.size w5.heap.size _ r.data hBd5 (by omega)
        refine wpAnyL_one 5 (by kernel_rfl) rfl (by kernel_rfl) ?_
        intro K' hK'
        refine op_runW r5 _ _ rfl (by rfl) (by rfl) ?_
        rintro v6 w6 ⟨hO6, hb6, -⟩
        have hbc6 := hbc5.trans (hb6.mono (Nat.le_trans hbcd.size (Nat.le_refl _)))
        have hS6 := hScl.out w6 hbc6
        refine hK'.out _ _ (.inr hS6) ?_
        clear hK' K' r5
        try simp only [List.getElem_toArray, List.getElem_cons_succ, List.getElem_cons_zero, Act.put, List.setIfInBounds_toArray, List.set_cons_zero, List.set_cons_succ]
        have kFm : Calls Tryz.prog 51 #[.int .u8 1, v6] w6 _ := Fr.refFrame_of 1 _ w6.heap.size v6 w6 hO6.bs (by decide) (by
          intro c hc
          rcases List.mem_append.1 hc with h | h
          · exact WireMath.uv_bytes _ c h
          · exact hby'.out c h) (Nat.le_refl _) (by rw [List.length_append]; omega)
        refine wpAnyL_one 6 (by kernel_rfl) rfl (by kernel_rfl) ?_
        intro K' hK'
        go_simp
        go_at_call 51
        refine kFm.mono ?_
        rintro e w7 ⟨v7, rfl, hO7, hb7⟩
        have hbc7 := hbc6.trans (hb7.mono hbc6.size)
        have hS7 := hScl.out w7 hbc7
        refine hK'.out _ _ (.inr hS7) ?_
        clear hK' K' kFm
        try simp only [List.getElem_toArray, List.getElem_cons_succ, List.getElem_cons_zero, Act.put, List.setIfInBounds_toArray, List.set_cons_zero, List.set_cons_succ]
        refine wpAnyL_take 7 rfl (by kernel_rfl) (by kernel_rfl) (by kernel_rfl) (by kernel_rfl) (fun _ _ _ h => h) (by kernel_rfl) (by intro w' hS'; obtain ⟨a0, a1⟩ := hS'; go_simp <;> rfl) hS7 ?_
        try simp only [List.getElem_toArray, List.getElem_cons_succ, List.getElem_cons_zero, Act.put, List.setIfInBounds_toArray, List.set_cons_zero, List.set_cons_succ]
        refine wpAnyL_done (by kernel_rfl) (NoPanic.normal ?_) _
        have hbx7 : Below wc.heap.size wc w7 := (hd0.trans (hb5.mono hd0.size)).trans ((hb6.trans (hb7.mono (Nat.le_trans hb5.size hb6.size))).mono (Nat.le_of_eq hds.out.symm))
        have hF7 := hFcH.out.below hbx7
        have hB7 : Bs w7.heap.size w7 v7 (recB r) := Own.bs (show Own w6.heap.size w7 v7 (recB r) from hO7) (Nat.le_trans hFcH.out.1 (Nat.le_trans hd0.size (Nat.le_trans hb5.size hb6.size)))
        obtain ⟨a7, c7, hv7, -⟩ : ∃ a7 c7, v7 = .slice a7 (recB r).length c7 ∧ True := by
          obtain ⟨a, c, e⟩ := hO7.shape
          exact ⟨a, c, e, trivial⟩
        have hrl : (recB r).length ≤ 1000000 := by
          have h1 := FrameMath.frameB_length 1 (WireMath.uv r.index ++ r.data)
          have h2 : (WireMath.uv ((WireMath.uv r.index ++ r.data).length + 5)).length ≤ 10 := WireMath.uv_len10 (by rw [List.length_append]; omega)
          show (FrameMath.frameB 1 (WireMath.uv r.index ++ r.data)).length ≤ _
          rw [h1]
          rw [List.length_append] at h2 ⊢
          omega
        clear hS0 hS5 hS6 hS7 hO5 hO6 hO7 hb5 hb6 hb7 hBd5 hBdc hScl hbc5 hbc6 hul
        generalize hRB : recB r = RB at *
        subst hv7
        have kN7 : Calls Tryz.prog 42 #[.int .i64 (N : Int)] w7 fun e w' => e = .returned (.string (segName N)) ∧ Below w7.heap.size w7 w' := kNm.out N w7 hnb.out
        go_wp2_with fail
        refine kN7.mono ?_
        rintro e w8 ⟨rfl, hb8⟩
        have hbc8 := hbc7.trans (hb8.mono hbc7.size)
        have kA8 := kAp.out fs (segName N) RB (.slice (some ⟨b, off, none⟩) m cap) (.slice a7 RB.length c7) w8 hsc.out (hF7.below hb8) ((hB7.below hb8).mono hb8.size) hrl
        have hF8 := hF7.below hb8
        have hEd : Hid (rappF fs xs r = if (dAppend fs (segName N) RB).2 = 0 then ((dAppend fs (segName N) RB).1, 0) else (fs, 2)) := by show _ = _; rw [hEc.out]; unfold rputF; rw [hRB]
        clear kN7 hF7 hB7 hEc
        generalize dAppend fs (segName N) RB = D9 at *
        obtain ⟨D1, D2⟩ := D9
        go_wp2_with fail
        refine kA8.mono ?_
        rintro e w9 ⟨lv9, rfl, hF9, hb9⟩
        have hbc9 := hbc8.trans (hb9.mono hbc8.size)
        dsimp only at hEd hF9
        by_cases hz : D2 = 0
        · subst hz
          have hfin := hfin2.out (D1, 0) (by rw [hEd.out, if_pos rfl]) lv9 w9 hbc9 hF9
          clear hEd kA8 hF8 hF9
          go_wp2
          exact hfin
        · have hzi : ¬ (D2 : Int) = 0 := by omega
          have hfin := hfin2.out (fs, 2) (by rw [hEd.out, if_neg hz]) _ w9 hbc9 (hF8.below hb9)
          clear hEd kA8 hF8 hF9 hz
          go_wp2
          exact hfin
  · obtain ⟨t, rfl⟩ : ∃ t, an = t + 1 := ⟨an - 1, by omega⟩
    obtain ⟨hh, rfl, hhl, c4⟩ := hAL.out t rfl
    have hti : (t : Int) ≤ 100000000 := by omega
    by_cases hq : r.index = QI
    · have hE := hrest.out (fun hc => hc.2 hq)
      have hEH : Hid (rappF fs xs r = _) := hE
      subst hq
      clear hrest hfin12 hAL hE
      go_wp2
      go_quiet (fail)
      go_wp2_with fail
      refine (kS.out _ (below_drewN (Below.refl _ _) _)).mono ?_
      rintro e w2 ⟨ov, D, rfl, hO⟩
      have hR := hO.rd
      have hbd : Below w1.heap.size w1 (w1.drewN nq) := below_drewN (Below.refl _ _) _
      have hb12 : Below w1.heap.size w1 w2 := hbd.trans (hO.bel.mono hbd.size)
      clear hO
      have hb02 : Below W0.heap.size W0 w2 := hb1.trans (hb12.mono hb1.size)
      have hbw2 := hbw.trans (hb12.mono hbw.size)
      have hF2 := hF1.below hb12
      have hBd := (hB.below hbw2).mono hbw2.size
      have hBx : Hid (∀ W, Below w2.heap.size w2 W → W.cell? ⟨w.heap.size, 0, none⟩ = some (.int .u64 (r.index : Int)) ∧ W.cell? ⟨w.heap.size, 1, none⟩ = some (.slice da r.data.length dc) ∧ w.heap.size < W.heap.size) := fun W hb => hBox.out W (hb02.trans (hb.mono hb02.size))
      have hfin2 : Hid (∀ R, rappF fs xs r = R → ∀ ov W, Below w2.heap.size w2 W → Fv W ov R.1 → T (.returned (.tuple #[ov, .int .i64 (R.2 : Int)])) W) := fun R e ov W hb hf => fin.out ov W R e hf (hbw2.trans (hb.mono hbw2.size))
      have kNm : Hid (∀ (n : Nat) (W : World), n < 100000000 → Calls Tryz.prog 42 #[.int .i64 (n : Int)] W fun e w' => e = .returned (.string (segName n)) ∧ Below W.heap.size W w') := fun n W hn => refName_of n W hn
      have kAp : Hid (∀ (fs' : Files) (n : ByteArray) (bl : List Nat) (lv bv : Value) (W : World), SoundF fs' → Fv W lv fs' → Bs W.heap.size W bv bl → bl.length ≤ 1000000 → Calls Tryz.prog 50 #[lv, .string n, bv] W (Told W (dAppend fs' n bl))) := fun fs' n bl lv bv W a b c d => append_of fs' n bl lv bv W b c (by have := a.2.1; omega) (by omega) (fun f hf => (a.2.2 f hf).2.1)
      obtain ⟨oa, on, oc, hovE, hon, hG⟩ : ∃ oa on oc, ov = .slice oa on oc ∧ Hid (on = xs.length) ∧ Hid (∀ (k : Nat) (x : Seg × Nat), xs[k]? = some x → ∃ g, oa = some ⟨g, 0, none⟩ ∧ SgRd w2 g k (k, (cutS x).recs)) := by
        obtain ⟨oa, oc, e, hg⟩ := hR
        exact ⟨oa, _, oc, e, rsg_length xs, fun k x hx => hg k _ (rsg_get hx)⟩
      subst hovE
      clear hR kS hBox fin hF1 hB bx0 bx1 bx2
      obtain ⟨bx0, bx1, bx2⟩ := hBx.out w2 (Below.refl _ _)
      rcases Nat.eq_zero_or_pos on with h0 | h0
      · have hx0 : xs = [] := List.eq_nil_of_length_eq_zero (hon.out.symm.trans h0)
        have hE2 : Hid (rappF fs xs r = rnewF fs 1 r) := by show _ = _; rw [hEH.out, hx0]; rfl
        subst h0
        clear hG hEH hx0
        have kN1 : Calls Tryz.prog 42 #[.int .i64 1] w2 fun e w' => e = .returned (.string (segName 1)) ∧ Below w2.heap.size w2 w' := kNm.out 1 w2 (by decide)
        go_wp2_with fail
        refine kN1.mono ?_
        rintro e w3 ⟨rfl, hb3⟩
        have hF3 := hF2.below hb3
        clear kN1 hF2
        go_wp2_with fail
        obtain ⟨wa, hwa⟩ : ∃ wa, wa = w3 := ⟨_, rfl⟩
        subst hwa
        have hba := hb3
        have hFa := hF3
        have hsa := hsH
        have hEa := hE2
        have hnb : Hid (1 < 100000000) := by show 1 < 100000000; decide
        clear hF3 hE2 hb3
        have kA4 := kAp.out fs (segName 1) [] (.slice ao m cap) (.slice none 0 0) wa hsa.out hFa (Bs.nil _ _) (by simp)
        have hEd : Hid (rappF fs xs r = if (dAppend fs (segName 1) []).2 = 0 then rputF (dAppend fs (segName 1) []).1 1 r else ((dAppend fs (segName 1) []).1, 2)) := by show _ = _; rw [hEa.out]; unfold rnewF; rw [if_neg (by have := hnb.out; omega)]
        have hsd := Sound.hid (sound_append hsa.out (segName 1) [])
        clear hFa hEa
        generalize dAppend fs (segName 1) [] = D9 at *
        obtain ⟨fsc, D2⟩ := D9
        refine kA4.mono ?_
        rintro e wc ⟨lv4, rfl, hFc, hb4⟩
        have hbc := hba.trans (hb4.mono hba.size)
        dsimp only at hEd hFc hsd
        clear kA4
        by_cases hz : D2 = 0
        · subst hz
          have hEc : Hid (rappF fs xs r = rputF fsc 1 r) := by show _ = _; rw [hEd.out, if_pos rfl]
          have hsc := hsd
          clear hEd hsa
          obtain ⟨la, lm, lc, hl4⟩ : ∃ la lm lc, lv4 = .slice la lm lc := by
            obtain ⟨a, c, e⟩ := hFc.shape
            exact ⟨_, _, _, e⟩
          subst hl4
          have hBdc := (hBd.below hbc).mono hbc.size
          have hbcd : Below w2.heap.size w2 wc.drew := hbc.drew
          have hS0 : (fun W => W.cell? ⟨w.heap.size, 0, none⟩ = some (.int .u64 (r.index : Int)) ∧ W.cell? ⟨w.heap.size, 1, none⟩ = some (.slice da r.data.length dc)) wc.drew := ⟨(hBx.out _ hbcd).1, (hBx.out _ hbcd).2.1⟩
          have hScl : Hid (∀ W, Below w2.heap.size w2 W → (fun W => W.cell? ⟨w.heap.size, 0, none⟩ = some (.int .u64 (r.index : Int)) ∧ W.cell? ⟨w.heap.size, 1, none⟩ = some (.slice da r.data.length dc)) W) := fun W hb => ⟨(hBx.out W hb).1, (hBx.out W hb).2.1⟩
          have hFcH : Hid (Fv wc (.slice la lm lc) fsc) := hFc
          have hd0 : Below wc.heap.size wc wc.drew := (Below.refl _ _).drew
          have hds : Hid (wc.drew.heap.size = wc.heap.size) := rfl
          clear hFc bx0 bx1 bx2
          go_wp2
          refine wp_region_L (fun W => W.cell? ⟨w.heap.size, 0, none⟩ = some (.int .u64 (r.index : Int)) ∧ W.cell? ⟨w.heap.size, 1, none⟩ = some (.slice da r.data.length dc)) [] (by kernel_rfl) ?_
          generalize wc.drew = wd at *
          refine wpAnyL_take 0 rfl (by kernel_rfl) (by kernel_rfl) (by kernel_rfl) (by kernel_rfl) (fun _ _ _ h => h) (by kernel_rfl) (by intro w' hS'; obtain ⟨a0, a1⟩ := hS'; go_simp <;> rfl) hS0 ?_
          try simp only [List.getElem_toArray, List.getElem_cons_succ, List.getElem_cons_zero, Act.put, List.setIfInBounds_toArray, List.set_cons_zero, List.set_cons_succ]
          refine wpAnyL_take 1 rfl (by kernel_rfl) (by kernel_rfl) (by kernel_rfl) (by kernel_rfl) (fun _ _ _ h => h) (by kernel_rfl) (by intro w' hS'; obtain ⟨a0, a1⟩ := hS'; go_simp <;> rfl) hS0 ?_
          try simp only [List.getElem_toArray, List.getElem_cons_succ, List.getElem_cons_zero, Act.put, List.setIfInBounds_toArray, List.set_cons_zero, List.set_cons_succ]
          refine wpAnyL_take 3 rfl (by kernel_rfl) (by kernel_rfl) (by kernel_rfl) (by kernel_rfl) (fun _ _ _ h => h) (by kernel_rfl) (by intro w' hS'; obtain ⟨a0, a1⟩ := hS'; go_simp <;> rfl) hS0 ?_
          try simp only [List.getElem_toArray, List.getElem_cons_succ, List.getElem_cons_zero, Act.put, List.setIfInBounds_toArray, List.set_cons_zero, List.set_cons_succ]
          refine wpAnyL_take 4 rfl (by kernel_rfl) (by kernel_rfl) (by kernel_rfl) (by kernel_rfl) (fun _ _ _ h => h) (by kernel_rfl) (by intro w' hS'; obtain ⟨a0, a1⟩ := hS'; go_simp <;> rfl) hS0 ?_
          try simp only [List.getElem_toArray, List.getElem_cons_succ, List.getElem_cons_zero, Act.put, List.setIfInBounds_toArray, List.set_cons_zero, List.set_cons_succ]
          refine wpAnyL_one 2 (by kernel_rfl) rfl (by kernel_rfl) ?_
          intro K' hK'
          go_simp
          go_at_call 52
          refine (Fr.refUvarint_of r.index wd hiE.out.2.2).mono ?_
          rintro e w5 ⟨v5, rfl, hO5, hb5⟩
          have hbc5 := hbcd.trans (hb5.mono hbcd.size)
          have hS5 := hScl.out w5 hbc5
          refine hK'.out _ _ (.inr hS5) ?_
          clear hK' K'
          try simp only [List.getElem_toArray, List.getElem_cons_succ, List.getElem_cons_zero, Act.put, List.setIfInBounds_toArray, List.set_cons_zero, List.set_cons_succ]
          have hBd5 : Fr.Bs w5.heap.size w5 (.slice da r.data.length dc) r.data := by
            have h1 := hd0.trans (hb5.mono hd0.size)
            exact (hBdc.below h1).mono h1.size
          have hul : (WireMath.uv r.index).length ≤ 10 := WireMath.uv_len10 hiE.out.2.2
          have r5 : Hid _ := fun ty => Fr.run_append_bs w5 ty wd.heap.size v5 _ hO5 hb5.size w5.heap.size _ r.data hBd5 (by omega)
          refine wpAnyL_one 5 (by kernel_rfl) rfl (by kernel_rfl) ?_
          intro K' hK'
          refine op_runW r5 _ _ rfl (by rfl) (by rfl) ?_
          rintro v6 w6 ⟨hO6, hb6, -⟩
          have hbc6 := hbc5.trans (hb6.mono (Nat.le_trans hbcd.size (Nat.le_refl _)))
          have hS6 := hScl.out w6 hbc6
          refine hK'.out _ _ (.inr hS6) ?_
          clear hK' K' r5
          try simp only [List.getElem_toArray, List.getElem_cons_succ, List.getElem_cons_zero, Act.put, List.setIfInBounds_toArray, List.set_cons_zero, List.set_cons_succ]
          have kFm : Calls Tryz.prog 51 #[.int .u8 1, v6] w6 _ := Fr.refFrame_of 1 _ w6.heap.size v6 w6 hO6.bs (by decide) (by
            intro c hc
            rcases List.mem_append.1 hc with h | h
            · exact WireMath.uv_bytes _ c h
            · exact hby'.out c h) (Nat.le_refl _) (by rw [List.length_append]; omega)
          refine wpAnyL_one 6 (by kernel_rfl) rfl (by kernel_rfl) ?_
          intro K' hK'
          go_simp
          go_at_call 51
          refine kFm.mono ?_
          rintro e w7 ⟨v7, rfl, hO7, hb7⟩
          have hbc7 := hbc6.trans (hb7.mono hbc6.size)
          have hS7 := hScl.out w7 hbc7
          refine hK'.out _ _ (.inr hS7) ?_
          clear hK' K' kFm
          try simp only [List.getElem_toArray, List.getElem_cons_succ, List.getElem_cons_zero, Act.put, List.setIfInBounds_toArray, List.set_cons_zero, List.set_cons_succ]
          refine wpAnyL_take 7 rfl (by kernel_rfl) (by kernel_rfl) (by kernel_rfl) (by kernel_rfl) (fun _ _ _ h => h) (by kernel_rfl) (by intro w' hS'; obtain ⟨a0, a1⟩ := hS'; go_simp <;> rfl) hS7 ?_
          try simp only [List.getElem_toArray, List.getElem_cons_succ, List.getElem_cons_zero, Act.put, List.setIfInBounds_toArray, List.set_cons_zero, List.set_cons_succ]
          refine wpAnyL_done (by kernel_rfl) (NoPanic.normal ?_) _
          have hbx7 : Below wc.heap.size wc w7 := (hd0.trans (hb5.mono hd0.size)).trans ((hb6.trans (hb7.mono (Nat.le_trans hb5.size hb6.size))).mono (Nat.le_of_eq hds.out.symm))
          have hF7 := hFcH.out.below hbx7
          have hB7 : Bs w7.heap.size w7 v7 (recB r) := Own.bs (show Own w6.heap.size w7 v7 (recB r) from hO7) (Nat.le_trans hFcH.out.1 (Nat.le_trans hd0.size (Nat.le_trans hb5.size hb6.size)))
          obtain ⟨a7, c7, hv7, -⟩ : ∃ a7 c7, v7 = .slice a7 (recB r).length c7 ∧ True := by
            obtain ⟨a, c, e⟩ := hO7.shape
            exact ⟨a, c, e, trivial⟩
          have hrl : (recB r).length ≤ 1000000 := by
            have h1 := FrameMath.frameB_length 1 (WireMath.uv r.index ++ r.data)
            have h2 : (WireMath.uv ((WireMath.uv r.index ++ r.data).length + 5)).length ≤ 10 := WireMath.uv_len10 (by rw [List.length_append]; omega)
            show (FrameMath.frameB 1 (WireMath.uv r.index ++ r.data)).length ≤ _
            rw [h1]
            rw [List.length_append] at h2 ⊢
            omega
          clear hS0 hS5 hS6 hS7 hO5 hO6 hO7 hb5 hb6 hb7 hBd5 hBdc hScl hbc5 hbc6 hul
          generalize hRB : recB r = RB at *
          subst hv7
          have kN7 : Calls Tryz.prog 42 #[.int .i64 1] w7 fun e w' => e = .returned (.string (segName 1)) ∧ Below w7.heap.size w7 w' := kNm.out 1 w7 hnb.out
          go_wp2_with fail
          refine kN7.mono ?_
          rintro e w8 ⟨rfl, hb8⟩
          have hbc8 := hbc7.trans (hb8.mono hbc7.size)
          have kA8 := kAp.out fsc (segName 1) RB (.slice la lm lc) (.slice a7 RB.length c7) w8 hsc.out (hF7.below hb8) ((hB7.below hb8).mono hb8.size) hrl
          have hF8 := hF7.below hb8
          have hEd : Hid (rappF fs xs r = if (dAppend fsc (segName 1) RB).2 = 0 then ((dAppend fsc (segName 1) RB).1, 0) else (fsc, 2)) := by show _ = _; rw [hEc.out]; unfold rputF; rw [hRB]
          clear kN7 hF7 hB7 hEc
          generalize dAppend fsc (segName 1) RB = D9 at *
          obtain ⟨D1, D2⟩ := D9
          go_wp2_with fail
          refine kA8.mono ?_
          rintro e w9 ⟨lv9, rfl, hF9, hb9⟩
          have hbc9 := hbc8.trans (hb9.mono hbc8.size)
          dsimp only at hEd hF9
          by_cases hz : D2 = 0
          · subst hz
            have hfin := hfin2.out (D1, 0) (by rw [hEd.out, if_pos rfl]) lv9 w9 hbc9 hF9
            clear hEd kA8 hF8 hF9
            go_wp2
            exact hfin
          · have hzi : ¬ (D2 : Int) = 0 := by omega
            have hfin := hfin2.out (fsc, 2) (by rw [hEd.out, if_neg hz]) _ w9 hbc9 (hF8.below hb9)
            clear hEd kA8 hF8 hF9 hz
            go_wp2
            exact hfin
        · have hzi : ¬ (D2 : Int) = 0 := by omega
          have hfin := hfin2.out (fsc, 2) (by rw [hEd.out, if_neg hz]) _ wc hbc hFc
          clear hEd hFc hz hsd
          go_wp2
          exact hfin
      · obtain ⟨k, rfl⟩ : ∃ k, on = k + 1 := ⟨on - 1, by omega⟩
        have hkx := List.getElem?_eq_getElem (l := xs) (i := k) (by rw [← hon.out]; omega)
        generalize xs[k]'(by rw [← hon.out]; omega) = x at *
        obtain ⟨g, rfl, q0, sa, sc, ea, ec, q1, q2, -, hEn⟩ := hG.out k x hkx
        dsimp only at q0 q1 q2 hEn
        have hgl := World.block_lt_of_cell? w2 _ q0
        dsimp only at hgl
        have hk20 : k < 20 := by have := hon.out; omega
        have hmF : Hid (m = fs.length) := by
          obtain ⟨a, c, e⟩ := hF2.shape
          cases e
          rfl
        have hkm : k < m := by rw [hmF.out, hflH.out, ← hon.out]; omega
        have hkmi : (k : Int) < (m : Int) := by omega
        have hkf := List.getElem?_eq_getElem (l := fs) (i := k) (by rw [← hmF.out]; exact hkm)
        have hnmE := (hH.out.fs.2 k _ (xfile x) hkf (by rw [List.getElem?_map, hkx]; rfl)).1
        obtain ⟨b, off, svk, hao, p0, -⟩ : ∃ b off svk, ao = some ⟨b, off, none⟩ ∧ w2.cell? ⟨b, off + k * 3, none⟩ = some (.string (segName x.1.num)) ∧ svk = svk := by
          obtain ⟨_, a', c', e', h2'⟩ := id hF2
          cases e'
          obtain ⟨b, off, sv, r1, r2, -⟩ := h2' k _ hkf
          rw [hnmE] at r2
          exact ⟨b, off, sv, r1, r2, rfl⟩
        subst hao
        have hbl := World.block_lt_of_cell? w2 _ p0
        dsimp only at hbl
        have hbig := hH.out.rd.big x (List.mem_of_getElem? hkx)
        have hrl0 : (cutS x).recs.length ≤ 1000000 := hH.out.rows _ (List.mem_of_getElem? (rsg_get hkx))
        have kN : ∀ W, Calls Tryz.prog 41 #[.string (segName x.1.num)] W fun e w' => e = .returned (.int .i64 (x.1.num : Int)) ∧ w' = W := fun W => by
          have := number_of (segName x.1.num) W
          rw [segNum_name hbig.2] at this
          exact this
        have kSz : Calls Tryz.prog 43 #[.agg #[.int .i64 (k : Int), .slice sa (cutS x).recs.length sc, .slice ea (cutS x).recs.length ec]] w2 fun e w' => e = .returned (.int .i64 (sz (cutS x).recs : Int)) ∧ Below w2.heap.size w2 w' := rsize_of w2 _ _ _ _ _ ⟨_, _, _, rfl⟩ (cutS x).recs rfl hrl0 hEn
        have hE2 : Hid (rappF fs xs r = if 4096 < sz (cutS x).recs then rnewF (dSync fs (segName x.1.num)).1 (x.1.num + 1) r else rputF fs x.1.num r) := by show _ = _; rw [hEH.out, List.getLast?_eq_getElem?, ← hon.out, Nat.add_sub_cancel, hkx]
        have hnb0 : Hid (x.1.num < 100000000) := hbig.2
        have hn1 : Hid (1 ≤ x.1.num) := hbig.1
        clear hG hEH hkf hnmE hkx hEn hbig hrl0
        generalize (cutS x).recs.length = RL at *
        generalize sz (cutS x).recs = SZ at *
        generalize x.1.num = N at *
        generalize hsn : segName N = SN at p0 kN
        have hsnH : Hid (segName N = SN) := hsn
        clear hsn
        go_wp2_with fail
        refine (kN _).mono ?_
        rintro e wq ⟨rfl, hwq⟩
        rw [hwq]
        clear hwq wq kN
        go_wp2_with fail
        refine kSz.mono ?_
        rintro e wc ⟨rfl, hbc⟩
        clear kSz
        by_cases hS : 4096 < SZ
        · have hSi : (4096 : Int) < (SZ : Int) := by omega
          have hNi : (0 : Int) < (N : Int) := by have := hn1.out; omega
          have hNn : 0 < N := by have := hn1.out; omega
          have kNc := kNm.out N wc hnb0.out
          have hFc := hF2.below hbc
          obtain ⟨N1, hN1⟩ : ∃ N1, Hid (N1 = N + 1) := ⟨_, rfl⟩
          have hwr : IntKind.i64.wrap ((N : Int) + 1) = (N1 : Int) := by
            rw [hN1.out, Int.natCast_add]
            exact IntWalk.i64_in _ (by have := hnb0.out; omega)
          clear q0 q1 q2 p0 hF2
          go_wp2_with fail
          refine kNc.mono ?_
          rintro e w5 ⟨rfl, hb5⟩
          have kY5 := sync_of fs (segName N) (.slice (some ⟨b, off, none⟩) m cap) w5 (hFc.below hb5) (by rw [hflH.out]; omega)
          have hb5' := hbc.trans (hb5.mono hbc.size)
          have hsy := Sound.hid (sound_sync hsH.out (segName N))
          have hE3 : Hid (rappF fs xs r = rnewF (dSync fs (segName N)).1 N1 r) := by show _ = _; rw [hE2.out, if_pos hS, hN1.out]
          clear kNc hE2 hFc
          generalize dSync fs (segName N) = D5 at *
          obtain ⟨fsy, D52⟩ := D5
          go_wp2_with fail
          refine kY5.mono ?_
          rintro e w6 ⟨lv6, rfl, hF6, hb6⟩
          dsimp only at hF6 hsy hE3
          have hb6' := hb5'.trans (hb6.mono hb5'.size)
          clear kY5
          obtain ⟨ya, ym, yc, hl6⟩ : ∃ la lm lc, lv6 = .slice la lm lc := by
            obtain ⟨a, c, e⟩ := hF6.shape
            exact ⟨_, _, _, e⟩
          subst hl6
          by_cases h9 : 99999999 < N1
          · have h9i : (99999999 : Int) < (N1 : Int) := by omega
            have hfin := hfin2.out (fsy, 2) (by rw [hE3.out]; unfold rnewF; rw [if_pos h9]) _ w6 hb6' hF6
            clear hE3 hF6 hnb0 hn1 h9
            go_wp2
            exact hfin
          · have h9i : ¬ (99999999 : Int) < (N1 : Int) := by omega
            have hnb : Hid (N1 < 100000000) := by show N1 < 100000000; omega
            have kN6 := kNm.out N1 w6 hnb.out
            clear hnb0 hn1 h9
            go_wp2_with fail
            refine kN6.mono ?_
            rintro e wa ⟨rfl, hb7⟩
            have hba := hb6'.trans (hb7.mono hb6'.size)
            have hFa := hF6.below hb7
            have hsa := hsy
            have hEa := hE3
            clear kN6 hF6 hE3 hsy
            go_wp2_with fail
            have kA4 := kAp.out fsy (segName N1) [] (.slice ya ym yc) (.slice none 0 0) wa hsa.out hFa (Bs.nil _ _) (by simp)
            have hEd : Hid (rappF fs xs r = if (dAppend fsy (segName N1) []).2 = 0 then rputF (dAppend fsy (segName N1) []).1 N1 r else ((dAppend fsy (segName N1) []).1, 2)) := by show _ = _; rw [hEa.out]; unfold rnewF; rw [if_neg (by have := hnb.out; omega)]
            have hsd := Sound.hid (sound_append hsa.out (segName N1) [])
            clear hFa hEa
            generalize dAppend fsy (segName N1) [] = D9 at *
            obtain ⟨fsc, D2⟩ := D9
            refine kA4.mono ?_
            rintro e wc ⟨lv4, rfl, hFc, hb4⟩
            have hbc := hba.trans (hb4.mono hba.size)
            dsimp only at hEd hFc hsd
            clear kA4
            by_cases hz : D2 = 0
            · subst hz
              have hEc : Hid (rappF fs xs r = rputF fsc N1 r) := by show _ = _; rw [hEd.out, if_pos rfl]
              have hsc := hsd
              clear hEd hsa
              obtain ⟨la, lm, lc, hl4⟩ : ∃ la lm lc, lv4 = .slice la lm lc := by
                obtain ⟨a, c, e⟩ := hFc.shape
                exact ⟨_, _, _, e⟩
              subst hl4
              have hBdc := (hBd.below hbc).mono hbc.size
              have hbcd : Below w2.heap.size w2 wc.drew := hbc.drew
              have hS0 : (fun W => W.cell? ⟨w.heap.size, 0, none⟩ = some (.int .u64 (r.index : Int)) ∧ W.cell? ⟨w.heap.size, 1, none⟩ = some (.slice da r.data.length dc)) wc.drew := ⟨(hBx.out _ hbcd).1, (hBx.out _ hbcd).2.1⟩
              have hScl : Hid (∀ W, Below w2.heap.size w2 W → (fun W => W.cell? ⟨w.heap.size, 0, none⟩ = some (.int .u64 (r.index : Int)) ∧ W.cell? ⟨w.heap.size, 1, none⟩ = some (.slice da r.data.length dc)) W) := fun W hb => ⟨(hBx.out W hb).1, (hBx.out W hb).2.1⟩
              have hFcH : Hid (Fv wc (.slice la lm lc) fsc) := hFc
              have hd0 : Below wc.heap.size wc wc.drew := (Below.refl _ _).drew
              have hds : Hid (wc.drew.heap.size = wc.heap.size) := rfl
              clear hFc bx0 bx1 bx2
              go_wp2
              refine wp_region_L (fun W => W.cell? ⟨w.heap.size, 0, none⟩ = some (.int .u64 (r.index : Int)) ∧ W.cell? ⟨w.heap.size, 1, none⟩ = some (.slice da r.data.length dc)) [] (by kernel_rfl) ?_
              generalize wc.drew = wd at *
              refine wpAnyL_take 0 rfl (by kernel_rfl) (by kernel_rfl) (by kernel_rfl) (by kernel_rfl) (fun _ _ _ h => h) (by kernel_rfl) (by intro w' hS'; obtain ⟨a0, a1⟩ := hS'; go_simp <;> rfl) hS0 ?_
              try simp only [List.getElem_toArray, List.getElem_cons_succ, List.getElem_cons_zero, Act.put, List.setIfInBounds_toArray, List.set_cons_zero, List.set_cons_succ]
              refine wpAnyL_take 1 rfl (by kernel_rfl) (by kernel_rfl) (by kernel_rfl) (by kernel_rfl) (fun _ _ _ h => h) (by kernel_rfl) (by intro w' hS'; obtain ⟨a0, a1⟩ := hS'; go_simp <;> rfl) hS0 ?_
              try simp only [List.getElem_toArray, List.getElem_cons_succ, List.getElem_cons_zero, Act.put, List.setIfInBounds_toArray, List.set_cons_zero, List.set_cons_succ]
              refine wpAnyL_take 3 rfl (by kernel_rfl) (by kernel_rfl) (by kernel_rfl) (by kernel_rfl) (fun _ _ _ h => h) (by kernel_rfl) (by intro w' hS'; obtain ⟨a0, a1⟩ := hS'; go_simp <;> rfl) hS0 ?_
              try simp only [List.getElem_toArray, List.getElem_cons_succ, List.getElem_cons_zero, Act.put, List.setIfInBounds_toArray, List.set_cons_zero, List.set_cons_succ]
              refine wpAnyL_take 4 rfl (by kernel_rfl) (by kernel_rfl) (by kernel_rfl) (by kernel_rfl) (fun _ _ _ h => h) (by kernel_rfl) (by intro w' hS'; obtain ⟨a0, a1⟩ := hS'; go_simp <;> rfl) hS0 ?_
              try simp only [List.getElem_toArray, List.getElem_cons_succ, List.getElem_cons_zero, Act.put, List.setIfInBounds_toArray, List.set_cons_zero, List.set_cons_succ]
              refine wpAnyL_one 2 (by kernel_rfl) rfl (by kernel_rfl) ?_
              intro K' hK'
              go_simp
              go_at_call 52
              refine (Fr.refUvarint_of r.index wd hiE.out.2.2).mono ?_
              rintro e w5 ⟨v5, rfl, hO5, hb5⟩
              have hbc5 := hbcd.trans (hb5.mono hbcd.size)
              have hS5 := hScl.out w5 hbc5
              refine hK'.out _ _ (.inr hS5) ?_
              clear hK' K'
              try simp only [List.getElem_toArray, List.getElem_cons_succ, List.getElem_cons_zero, Act.put, List.setIfInBounds_toArray, List.set_cons_zero, List.set_cons_succ]
              have hBd5 : Fr.Bs w5.heap.size w5 (.slice da r.data.length dc) r.data := by
                have h1 := hd0.trans (hb5.mono hd0.size)
                exact (hBdc.below h1).mono h1.size
              have hul : (WireMath.uv r.index).length ≤ 10 := WireMath.uv_len10 hiE.out.2.2
              have r5 : Hid _ := fun ty => Fr.run_append_bs w5 ty wd.heap.size v5 _ hO5 hb5.size w5.heap.size _ r.data hBd5 (by omega)
              refine wpAnyL_one 5 (by kernel_rfl) rfl (by kernel_rfl) ?_
              intro K' hK'
              refine op_runW r5 _ _ rfl (by rfl) (by rfl) ?_
              rintro v6 w6 ⟨hO6, hb6, -⟩
              have hbc6 := hbc5.trans (hb6.mono (Nat.le_trans hbcd.size (Nat.le_refl _)))
              have hS6 := hScl.out w6 hbc6
              refine hK'.out _ _ (.inr hS6) ?_
              clear hK' K' r5
              try simp only [List.getElem_toArray, List.getElem_cons_succ, List.getElem_cons_zero, Act.put, List.setIfInBounds_toArray, List.set_cons_zero, List.set_cons_succ]
              have kFm : Calls Tryz.prog 51 #[.int .u8 1, v6] w6 _ := Fr.refFrame_of 1 _ w6.heap.size v6 w6 hO6.bs (by decide) (by
                intro c hc
                rcases List.mem_append.1 hc with h | h
                · exact WireMath.uv_bytes _ c h
                · exact hby'.out c h) (Nat.le_refl _) (by rw [List.length_append]; omega)
              refine wpAnyL_one 6 (by kernel_rfl) rfl (by kernel_rfl) ?_
              intro K' hK'
              go_simp
              go_at_call 51
              refine kFm.mono ?_
              rintro e w7 ⟨v7, rfl, hO7, hb7⟩
              have hbc7 := hbc6.trans (hb7.mono hbc6.size)
              have hS7 := hScl.out w7 hbc7
              refine hK'.out _ _ (.inr hS7) ?_
              clear hK' K' kFm
              try simp only [List.getElem_toArray, List.getElem_cons_succ, List.getElem_cons_zero, Act.put, List.setIfInBounds_toArray, List.set_cons_zero, List.set_cons_succ]
              refine wpAnyL_take 7 rfl (by kernel_rfl) (by kernel_rfl) (by kernel_rfl) (by kernel_rfl) (fun _ _ _ h => h) (by kernel_rfl) (by intro w' hS'; obtain ⟨a0, a1⟩ := hS'; go_simp <;> rfl) hS7 ?_
              try simp only [List.getElem_toArray, List.getElem_cons_succ, List.getElem_cons_zero, Act.put, List.setIfInBounds_toArray, List.set_cons_zero, List.set_cons_succ]
              refine wpAnyL_done (by kernel_rfl) (NoPanic.normal ?_) _
              have hbx7 : Below wc.heap.size wc w7 := (hd0.trans (hb5.mono hd0.size)).trans ((hb6.trans (hb7.mono (Nat.le_trans hb5.size hb6.size))).mono (Nat.le_of_eq hds.out.symm))
              have hF7 := hFcH.out.below hbx7
              have hB7 : Bs w7.heap.size w7 v7 (recB r) := Own.bs (show Own w6.heap.size w7 v7 (recB r) from hO7) (Nat.le_trans hFcH.out.1 (Nat.le_trans hd0.size (Nat.le_trans hb5.size hb6.size)))
              obtain ⟨a7, c7, hv7, -⟩ : ∃ a7 c7, v7 = .slice a7 (recB r).length c7 ∧ True := by
                obtain ⟨a, c, e⟩ := hO7.shape
                exact ⟨a, c, e, trivial⟩
              have hrl : (recB r).length ≤ 1000000 := by
                have h1 := FrameMath.frameB_length 1 (WireMath.uv r.index ++ r.data)
                have h2 : (WireMath.uv ((WireMath.uv r.index ++ r.data).length + 5)).length ≤ 10 := WireMath.uv_len10 (by rw [List.length_append]; omega)
                show (FrameMath.frameB 1 (WireMath.uv r.index ++ r.data)).length ≤ _
                rw [h1]
                rw [List.length_append] at h2 ⊢
                omega
              clear hS0 hS5 hS6 hS7 hO5 hO6 hO7 hb5 hb6 hb7 hBd5 hBdc hScl hbc5 hbc6 hul
              generalize hRB : recB r = RB at *
              subst hv7
              have kN7 : Calls Tryz.prog 42 #[.int .i64 (N1 : Int)] w7 fun e w' => e = .returned (.string (segName N1)) ∧ Below w7.heap.size w7 w' := kNm.out N1 w7 hnb.out
              go_wp2_with fail
              refine kN7.mono ?_
              rintro e w8 ⟨rfl, hb8⟩
              have hbc8 := hbc7.trans (hb8.mono hbc7.size)
              have kA8 := kAp.out fsc (segName N1) RB (.slice la lm lc) (.slice a7 RB.length c7) w8 hsc.out (hF7.below hb8) ((hB7.below hb8).mono hb8.size) hrl
              have hF8 := hF7.below hb8
              have hEd : Hid (rappF fs xs r = if (dAppend fsc (segName N1) RB).2 = 0 then ((dAppend fsc (segName N1) RB).1, 0) else (fsc, 2)) := by show _ = _; rw [hEc.out]; unfold rputF; rw [hRB]
              clear kN7 hF7 hB7 hEc
              generalize dAppend fsc (segName N1) RB = D9 at *
              obtain ⟨D1, D2⟩ := D9
              go_wp2_with fail
              refine kA8.mono ?_
              rintro e w9 ⟨lv9, rfl, hF9, hb9⟩
              have hbc9 := hbc8.trans (hb9.mono hbc8.size)
              dsimp only at hEd hF9
              by_cases hz : D2 = 0
              · subst hz
                have hfin := hfin2.out (D1, 0) (by rw [hEd.out, if_pos rfl]) lv9 w9 hbc9 hF9
                clear hEd kA8 hF8 hF9
                go_wp2
                exact hfin
              · have hzi : ¬ (D2 : Int) = 0 := by omega
                have hfin := hfin2.out (fsc, 2) (by rw [hEd.out, if_neg hz]) _ w9 hbc9 (hF8.below hb9)
                clear hEd kA8 hF8 hF9 hz
                go_wp2
                exact hfin
            · have hzi : ¬ (D2 : Int) = 0 := by omega
              have hfin := hfin2.out (fsc, 2) (by rw [hEd.out, if_neg hz]) _ wc hbc hFc
              clear hEd hFc hz hsd
              go_wp2
              exact hfin
        · have hSi : ¬ (4096 : Int) < (SZ : Int) := by omega
          have hFc := hF2.below hbc
          have hsc := hsH
          have hnb := hnb0
          have hEc : Hid (rappF fs xs r = rputF fs N r) := by show _ = _; rw [hE2.out, if_neg hS]
          have hSd : decide ((4096 : Int) < (SZ : Int)) = false := decide_eq_false hSi
          clear q0 q1 q2 p0 hF2 hE2 hS hn1 hkmi hkm hk20 hgl hbl hlen hSi
          have hBdc := (hBd.below hbc).mono hbc.size
          have hbcd : Below w2.heap.size w2 wc.drew := hbc.drew
          have hS0 : (fun W => W.cell? ⟨w.heap.size, 0, none⟩ = some (.int .u64 (r.index : Int)) ∧ W.cell? ⟨w.heap.size, 1, none⟩ = some (.slice da r.data.length dc)) wc.drew := ⟨(hBx.out _ hbcd).1, (hBx.out _ hbcd).2.1⟩
          have hScl : Hid (∀ W, Below w2.heap.size w2 W → (fun W => W.cell? ⟨w.heap.size, 0, none⟩ = some (.int .u64 (r.index : Int)) ∧ W.cell? ⟨w.heap.size, 1, none⟩ = some (.slice da r.data.length dc)) W) := fun W hb => ⟨(hBx.out W hb).1, (hBx.out W hb).2.1⟩
          have hFcH : Hid (Fv wc (.slice (some ⟨b, off, none⟩) m cap) fs) := hFc
          have hd0 : Below wc.heap.size wc wc.drew := (Below.refl _ _).drew
          have hds : Hid (wc.drew.heap.size = wc.heap.size) := rfl
          clear hFc bx0 bx1 bx2
          go_wp2
          refine wp_region_L (fun W => W.cell? ⟨w.heap.size, 0, none⟩ = some (.int .u64 (r.index : Int)) ∧ W.cell? ⟨w.heap.size, 1, none⟩ = some (.slice da r.data.length dc)) [] (by kernel_rfl) ?_
          generalize wc.drew = wd at *
          refine wpAnyL_take 0 rfl (by kernel_rfl) (by kernel_rfl) (by kernel_rfl) (by kernel_rfl) (fun _ _ _ h => h) (by kernel_rfl) (by intro w' hS'; obtain ⟨a0, a1⟩ := hS'; go_simp <;> rfl) hS0 ?_
          try simp only [List.getElem_toArray, List.getElem_cons_succ, List.getElem_cons_zero, Act.put, List.setIfInBounds_toArray, List.set_cons_zero, List.set_cons_succ]
          refine wpAnyL_take 1 rfl (by kernel_rfl) (by kernel_rfl) (by kernel_rfl) (by kernel_rfl) (fun _ _ _ h => h) (by kernel_rfl) (by intro w' hS'; obtain ⟨a0, a1⟩ := hS'; go_simp <;> rfl) hS0 ?_
          try simp only [List.getElem_toArray, List.getElem_cons_succ, List.getElem_cons_zero, Act.put, List.setIfInBounds_toArray, List.set_cons_zero, List.set_cons_succ]
          refine wpAnyL_take 3 rfl (by kernel_rfl) (by kernel_rfl) (by kernel_rfl) (by kernel_rfl) (fun _ _ _ h => h) (by kernel_rfl) (by intro w' hS'; obtain ⟨a0, a1⟩ := hS'; go_simp <;> rfl) hS0 ?_
          try simp only [List.getElem_toArray, List.getElem_cons_succ, List.getElem_cons_zero, Act.put, List.setIfInBounds_toArray, List.set_cons_zero, List.set_cons_succ]
          refine wpAnyL_take 4 rfl (by kernel_rfl) (by kernel_rfl) (by kernel_rfl) (by kernel_rfl) (fun _ _ _ h => h) (by kernel_rfl) (by intro w' hS'; obtain ⟨a0, a1⟩ := hS'; go_simp <;> rfl) hS0 ?_
          try simp only [List.getElem_toArray, List.getElem_cons_succ, List.getElem_cons_zero, Act.put, List.setIfInBounds_toArray, List.set_cons_zero, List.set_cons_succ]
          refine wpAnyL_one 2 (by kernel_rfl) rfl (by kernel_rfl) ?_
          intro K' hK'
          go_simp
          go_at_call 52
          refine (Fr.refUvarint_of r.index wd hiE.out.2.2).mono ?_
          rintro e w5 ⟨v5, rfl, hO5, hb5⟩
          have hbc5 := hbcd.trans (hb5.mono hbcd.size)
          have hS5 := hScl.out w5 hbc5
          refine hK'.out _ _ (.inr hS5) ?_
          clear hK' K'
          try simp only [List.getElem_toArray, List.getElem_cons_succ, List.getElem_cons_zero, Act.put, List.setIfInBounds_toArray, List.set_cons_zero, List.set_cons_succ]
          have hBd5 : Fr.Bs w5.heap.size w5 (.slice da r.data.length dc) r.data := by
            have h1 := hd0.trans (hb5.mono hd0.size)
            exact (hBdc.below h1).mono h1.size
          have hul : (WireMath.uv r.index).length ≤ 10 := WireMath.uv_len10 hiE.out.2.2
          have r5 : Hid _ := fun ty => Fr.run_append_bs w5 ty wd.heap.size v5 _ hO5 hb5.size w5.heap.size _ r.data hBd5 (by omega)
          refine wpAnyL_one 5 (by kernel_rfl) rfl (by kernel_rfl) ?_
          intro K' hK'
          refine op_runW r5 _ _ rfl (by rfl) (by rfl) ?_
          rintro v6 w6 ⟨hO6, hb6, -⟩
          have hbc6 := hbc5.trans (hb6.mono (Nat.le_trans hbcd.size (Nat.le_refl _)))
          have hS6 := hScl.out w6 hbc6
          refine hK'.out _ _ (.inr hS6) ?_
          clear hK' K' r5
          try simp only [List.getElem_toArray, List.getElem_cons_succ, List.getElem_cons_zero, Act.put, List.setIfInBounds_toArray, List.set_cons_zero, List.set_cons_succ]
          have kFm : Calls Tryz.prog 51 #[.int .u8 1, v6] w6 _ := Fr.refFrame_of 1 _ w6.heap.size v6 w6 hO6.bs (by decide) (by
            intro c hc
            rcases List.mem_append.1 hc with h | h
            · exact WireMath.uv_bytes _ c h
            · exact hby'.out c h) (Nat.le_refl _) (by rw [List.length_append]; omega)
          refine wpAnyL_one 6 (by kernel_rfl) rfl (by kernel_rfl) ?_
          intro K' hK'
          go_simp
          go_at_call 51
          refine kFm.mono ?_
          rintro e w7 ⟨v7, rfl, hO7, hb7⟩
          have hbc7 := hbc6.trans (hb7.mono hbc6.size)
          have hS7 := hScl.out w7 hbc7
          refine hK'.out _ _ (.inr hS7) ?_
          clear hK' K' kFm
          try simp only [List.getElem_toArray, List.getElem_cons_succ, List.getElem_cons_zero, Act.put, List.setIfInBounds_toArray, List.set_cons_zero, List.set_cons_succ]
          refine wpAnyL_take 7 rfl (by kernel_rfl) (by kernel_rfl) (by kernel_rfl) (by kernel_rfl) (fun _ _ _ h => h) (by kernel_rfl) (by intro w' hS'; obtain ⟨a0, a1⟩ := hS'; go_simp <;> rfl) hS7 ?_
          try simp only [List.getElem_toArray, List.getElem_cons_succ, List.getElem_cons_zero, Act.put, List.setIfInBounds_toArray, List.set_cons_zero, List.set_cons_succ]
          refine wpAnyL_done (by kernel_rfl) (NoPanic.normal ?_) _
          have hbx7 : Below wc.heap.size wc w7 := (hd0.trans (hb5.mono hd0.size)).trans ((hb6.trans (hb7.mono (Nat.le_trans hb5.size hb6.size))).mono (Nat.le_of_eq hds.out.symm))
          have hF7 := hFcH.out.below hbx7
          have hB7 : Bs w7.heap.size w7 v7 (recB r) := Own.bs (show Own w6.heap.size w7 v7 (recB r) from hO7) (Nat.le_trans hFcH.out.1 (Nat.le_trans hd0.size (Nat.le_trans hb5.size hb6.size)))
          obtain ⟨a7, c7, hv7, -⟩ : ∃ a7 c7, v7 = .slice a7 (recB r).length c7 ∧ True := by
            obtain ⟨a, c, e⟩ := hO7.shape
            exact ⟨a, c, e, trivial⟩
          have hrl : (recB r).length ≤ 1000000 := by
            have h1 := FrameMath.frameB_length 1 (WireMath.uv r.index ++ r.data)
            have h2 : (WireMath.uv ((WireMath.uv r.index ++ r.data).length + 5)).length ≤ 10 := WireMath.uv_len10 (by rw [List.length_append]; omega)
            show (FrameMath.frameB 1 (WireMath.uv r.index ++ r.data)).length ≤ _
            rw [h1]
            rw [List.length_append] at h2 ⊢
            omega
          clear hS0 hS5 hS6 hS7 hO5 hO6 hO7 hb5 hb6 hb7 hBd5 hBdc hScl hbc5 hbc6 hul
          generalize hRB : recB r = RB at *
          subst hv7
          have kN7 : Calls Tryz.prog 42 #[.int .i64 (N : Int)] w7 fun e w' => e = .returned (.string (segName N)) ∧ Below w7.heap.size w7 w' := kNm.out N w7 hnb.out
          go_wp2_with fail
          refine kN7.mono ?_
          rintro e w8 ⟨rfl, hb8⟩
          have hbc8 := hbc7.trans (hb8.mono hbc7.size)
          have kA8 := kAp.out fs (segName N) RB (.slice (some ⟨b, off, none⟩) m cap) (.slice a7 RB.length c7) w8 hsc.out (hF7.below hb8) ((hB7.below hb8).mono hb8.size) hrl
          have hF8 := hF7.below hb8
          have hEd : Hid (rappF fs xs r = if (dAppend fs (segName N) RB).2 = 0 then ((dAppend fs (segName N) RB).1, 0) else (fs, 2)) := by show _ = _; rw [hEc.out]; unfold rputF; rw [hRB]
          clear kN7 hF7 hB7 hEc
          generalize dAppend fs (segName N) RB = D9 at *
          obtain ⟨D1, D2⟩ := D9
          go_wp2_with fail
          refine kA8.mono ?_
          rintro e w9 ⟨lv9, rfl, hF9, hb9⟩
          have hbc9 := hbc8.trans (hb9.mono hbc8.size)
          dsimp only at hEd hF9
          by_cases hz : D2 = 0
          · subst hz
            have hfin := hfin2.out (D1, 0) (by rw [hEd.out, if_pos rfl]) lv9 w9 hbc9 hF9
            clear hEd kA8 hF8 hF9
            go_wp2
            exact hfin
          · have hzi : ¬ (D2 : Int) = 0 := by omega
            have hfin := hfin2.out (fs, 2) (by rw [hEd.out, if_neg hz]) _ w9 hbc9 (hF8.below hb9)
            clear hEd kA8 hF8 hF9 hz
            go_wp2
            exact hfin
    · have hqi : ¬ (r.index : Int) = (QI : Int) := by omega
      have hfin := fun nq => hfin12.out (w1.drewN nq) ⟨hne.out.2 ha0, hq⟩ (below_drewN (Below.refl _ _) _)
      clear hrest hfin12 hAL fin hF1
      go_wp2
      go_quiet (fail)
      go_wp2
      exact hfin _
end Go.Proofs.YtgfoogeiancecaaGreatDoor

/- The contract of slices.Delete of a row's beginning: the rest lies from there on, what is behind it is cleared. -/
namespace Go.Proofs.YtgfoogeiancecaaGreatDoor
open Go.RowKit WalMath DiskMath
set_option maxRecDepth 100000
set_option linter.unusedSimpArgs false
set_option linter.unusedVariables false

theorem run_append_rowW (w : World) (ty : TypeId) (i0 : TypeInfo) (hi : Tryz.prog.info? 62 = some i0) (h2 : i0.size = 2) (g : Nat) (cur : Array Value) (hbk : w.heap[g]? = some (.cells cur 62 (0, 0))) (cap : Nat) (a : Addr) (m c : Nat) (news : List Value)
    (hl : news.length = m * 2) (hnews : ∀ j u, news[j]? = some u → w.cell? (a.add j) = some u) (h1 : ∀ u ∈ news, u.oneCell' = true) (hroom : m ≤ cap) (hcs : news.length ≤ cur.size) :
    (Builtin.append_ #[54, 54] ty #[.slice (some ⟨g, 0, none⟩) 0 cap, .slice (some a) m c]).run Tryz.prog w = .ok (.slice (some ⟨g, 0, none⟩) m cap) (w.setRow g (news ++ cur.toList.drop news.length).toArray) := by
  have hfc := run_firstCells_some (P := Tryz.prog) w i0.size m a m c news (by rw [h2]; exact hl) hnews
  have hst := run_storeCells_at (P := Tryz.prog) g 0 62 news 0 cur w hbk (by simpa using hcs) h1
  simp only [Nat.add_zero, Nat.zero_add, List.take_zero, List.nil_append] at hst
  simp [Builtin.append_, run_underlying Tryz.underlying54, sizeOf, typeInfo, hi, Builtin.lenOf, hroom, hfc, Addr.add_lit, hst]

set_option maxHeartbeats 4000000 in
theorem delete_to (w : World) (v : Value) (xs : List (Value × Value)) (k : Nat) (h : R2 w 62 v xs) (hk0 : 0 < k) (hk : k < xs.length) (hsm : xs.length ≤ 1000) (hone : ∀ x ∈ xs, x.1.oneCell' = true ∧ x.2.oneCell' = true) :
    Calls Tryz.prog 37 #[v, .int .i64 0, .int .i64 (k : Int)] w (DelT w v (xs.drop k)) := by
  obtain ⟨i0, hi0, hz0, hz1, hz2⟩ := info_parts infoSegm
  obtain ⟨hl2, ⟨_, r2⟩ | ⟨g, cap, cur, rfl, hg0, hbk, hle, hm, hcs, ht⟩⟩ := id h
  · omega
  obtain ⟨n, hn⟩ : ∃ n, Hid (n = xs.length) := ⟨_, rfl⟩
  rw [← hn.out] at hk hle ⊢
  have hsm' : n ≤ 1000 := by rw [hn.out]; exact hsm
  have hcm : (cap : Int) ≤ 9223372036854775807 := by unfold maxLen at hm; omega
  have hni : (n : Int) ≤ (cap : Int) := by omega
  have hki : (k : Int) ≤ (n : Int) := by omega
  have hkc : (k : Int) ≤ (cap : Int) := by omega
  have hk1 : ¬ (0 : Int) = (k : Int) := by omega
  have hk2 : ((0 : Int) == (k : Int)) = false := by simp; omega
  have hk3 : ¬ (k : Int) < 0 := by omega
  have hkn : ¬ cap = k := by omega
  have hgl := (Array.getElem?_eq_some_iff.1 hbk).1
  have hdl : (c2 (xs.drop k)).length = (n - k) * 2 := by rw [c2_length, List.length_drop, hn.out]
  have hcz : cur.size = cap * 2 := hcs
  obtain ⟨N1, hN1⟩ : ∃ N : Array Value, Hid (N = (c2 (xs.drop k) ++ cur.toList.drop (c2 (xs.drop k)).length).toArray) := ⟨_, rfl⟩
  have hN1s : N1.size = cap * 2 := by
    rw [hN1.out]
    simp only [List.size_toArray, List.length_append, List.length_drop, Array.length_toList, hdl, hcz]
    omega
  have hap : ∀ W, W.heap[g]? = some (.cells cur 62 (0, 0)) → Hid (∀ ty, ∃ v' w', (Builtin.append_ #[54, 54] ty #[.slice (some ⟨g, 0, none⟩) 0 cap, .slice (some ⟨g, k * 2, none⟩) (n - k) (cap - k)]).run Tryz.prog W = .ok v' w' ∧ (v' = .slice (some ⟨g, 0, none⟩) (n - k) cap ∧ w' = W.setRow g N1)) := fun W hW ty => by
    refine ⟨_, _, ?_, rfl, rfl⟩
    rw [hN1.out]
    refine run_append_rowW W ty i0 hi0 hz1 g cur hW cap ⟨g, k * 2, none⟩ (n - k) (cap - k) (c2 (xs.drop k)) hdl (fun j u hj => ?_) (fun u hu => ?_) (by omega) (by rw [hdl, hcz]; omega)
    · have hj' := (List.getElem?_eq_some_iff.1 hj).1
      rw [hdl] at hj'
      rw [Addr.add_lit, cells_of_block hW]
      rw [← c2_drop, ← ht, ← hn.out, List.getElem?_drop, List.getElem?_take_of_lt (by omega)] at hj
      simpa using hj
    · obtain ⟨x, hx, hxu⟩ := List.mem_flatMap.1 hu
      obtain ⟨o1, o2⟩ := hone x (List.mem_of_mem_drop hx)
      simp only [List.mem_cons, List.not_mem_nil, or_false] at hxu
      rcases hxu with rfl | rfl
      · exact o1
      · exact o2
  obtain ⟨N2, hN2⟩ : ∃ N : Array Value, Hid (N = (N1.toList.take ((n - k) * 2 + 0) ++ zs2 k ++ N1.toList.drop ((n - k) * 2 + 0 + (zs2 k).length)).toArray) := ⟨_, rfl⟩
  have hcl : ∀ W ty c, W.heap[g]? = some (.cells N1 62 (0, 0)) → (Builtin.clear_ #[54] ty #[.slice (some ⟨g, (n - k) * 2, none⟩) k c]).run Tryz.prog W = .ok (.tuple #[]) (W.setRow g N2) := fun W ty c hW => by
    have hst := run_storeCells_at (P := Tryz.prog) g ((n - k) * 2) 62 (zs2 k) 0 N1 W hW (by rw [zs2_length, hN1s]; omega) (zs2_one _)
    rw [← hN2.out] at hst
    obtain ⟨m, hm'⟩ : ∃ m, k = m + 1 := ⟨k - 1, by omega⟩
    unfold zs2 at hst
    rw [hm'] at hst ⊢
    have hzc : (Value.agg #[.int .i64 0, .slice none 0 0]).cells = #[.int .i64 0, .slice none 0 0] := rfl
    simp [Builtin.clear_, run_underlying Tryz.underlying54, zeroSegm, hzc, hst]
  have hfin : ∀ W, Below w.heap.size w W → W.heap[g]? = some (.cells cur 62 (0, 0)) → Hid (DelT w (.slice (some ⟨g, 0, none⟩) n cap) (xs.drop k) (.returned (.slice (some ⟨g, 0, none⟩) (n - k) cap)) ((W.setRow g N1).setRow g N2)) := fun W hb hW => by
    have hlen : (xs.drop k).length = n - k := by rw [List.length_drop, ← hn.out]
    have hW1 := setRow_heap W g cur N1 _ _ hW
    refine ⟨_, rfl, ?_, ⟨hb.os, hb.tape, hb.output, by rw [setRow_size, setRow_size]; exact hb.size, fun b hbl hne => ?_⟩, rfl⟩
    · unfold R2
      rw [hlen]
      refine ⟨by rw [c2_length, hlen], .inr ⟨g, cap, N2, rfl, Nat.zero_le _, setRow_heap _ _ _ _ _ _ hW1, by omega, hm, ?_, ?_⟩⟩
      · rw [hN2.out]
        have hz := zs2_length k
        simp only [List.size_toArray, List.length_append, List.length_take, List.length_drop, Array.length_toList, hz, hN1s]
        omega
      · rw [hN2.out]
        simp only [Nat.add_zero, List.append_assoc]
        rw [List.take_append_of_le_length (by rw [List.length_take, Array.length_toList, hN1s]; omega), List.take_take, Nat.min_self, hN1.out]
        simp only [List.toList_toArray]
        rw [List.take_append_of_le_length (by rw [hdl]; exact Nat.le_refl _), List.take_of_length_le (by rw [hdl]; exact Nat.le_refl _)]
    · rw [setRow_other _ _ _ _ (fun e => hne (by rw [e]; rfl)), setRow_other _ _ _ _ (fun e => hne (by rw [e]; rfl))]
      exact hb.block b hbl
  generalize DelT w (.slice (some ⟨g, 0, none⟩) n cap) (xs.drop k) = T at *
  have hnk1 : ((n : Int) - (k : Int)) ≤ (n : Int) := by omega
  have hnkc : ¬ cap = n - k := by omega
  have hnk2 : ((n - k : Nat) : Int) ≤ (n : Int) := by omega
  have hnk3 : n - (n - k) = k := by omega
  have hnk4 : (n - k : Nat) ≤ cap := by omega
  clear hN1 hN2 ht h hdl hn
  go_enter Tryz.func37, Tryz.ntmps37
  go_wp2
  refine wp_region_L (fun _ => True) [] (by kernel_rfl) ?_
  have hbd : w.drew.heap[g]? = some (.cells cur 62 (0, 0)) := hbk
  have r6 := hap w.drew hbd
  have hwd : Hid (Below w.heap.size w w.drew) := (Below.refl _ _).drew
  generalize w.drew = wd at *
  refine wpAnyL_take 0 rfl (by kernel_rfl) (by kernel_rfl) (by kernel_rfl) (by kernel_rfl) (fun _ _ _ h => h) (by kernel_rfl) (by intro w' hS'; go_simp <;> rfl) trivial ?_
  try simp only [List.getElem_toArray, List.getElem_cons_succ, List.getElem_cons_zero, Act.put, List.setIfInBounds_toArray, List.set_cons_zero, List.set_cons_succ]
  refine wpAnyL_take 1 rfl (by kernel_rfl) (by kernel_rfl) (by kernel_rfl) (by kernel_rfl) (fun _ _ _ h => h) (by kernel_rfl) (by intro w' hS'; go_simp <;> rfl) trivial ?_
  try simp only [List.getElem_toArray, List.getElem_cons_succ, List.getElem_cons_zero, Act.put, List.setIfInBounds_toArray, List.set_cons_zero, List.set_cons_succ]
  refine wpAnyL_take 2 rfl (by kernel_rfl) (by kernel_rfl) (by kernel_rfl) (by kernel_rfl) (fun _ _ _ h => h) (by kernel_rfl) (by intro w' hS'; go_simp <;> rfl) trivial ?_
  try simp only [List.getElem_toArray, List.getElem_cons_succ, List.getElem_cons_zero, Act.put, List.setIfInBounds_toArray, List.set_cons_zero, List.set_cons_succ]
  refine wpAnyL_take 3 rfl (by kernel_rfl) (by kernel_rfl) (by kernel_rfl) (by kernel_rfl) (fun _ _ _ h => h) (by kernel_rfl) (by intro w' hS'; go_simp <;> rfl) trivial ?_
  try simp only [List.getElem_toArray, List.getElem_cons_succ, List.getElem_cons_zero, Act.put, List.setIfInBounds_toArray, List.set_cons_zero, List.set_cons_succ]
  refine wpAnyL_take 4 rfl (by kernel_rfl) (by kernel_rfl) (by kernel_rfl) (by kernel_rfl) (fun _ _ _ h => h) (by kernel_rfl) (by intro w' hS'; go_simp <;> rfl) trivial ?_
  try simp only [List.getElem_toArray, List.getElem_cons_succ, List.getElem_cons_zero, Act.put, List.setIfInBounds_toArray, List.set_cons_zero, List.set_cons_succ]
  refine wpAnyL_take 5 rfl (by kernel_rfl) (by kernel_rfl) (by kernel_rfl) (by kernel_rfl) (fun _ _ _ h => h) (by kernel_rfl) (by intro w' hS'; go_simp <;> rfl) trivial ?_
  try simp only [List.getElem_toArray, List.getElem_cons_succ, List.getElem_cons_zero, Act.put, List.setIfInBounds_toArray, List.set_cons_zero, List.set_cons_succ]
  refine wpAnyL_one 6 (by kernel_rfl) rfl (by kernel_rfl) ?_
  intro K' hK'
  refine op_runW r6 _ _ rfl (by rfl) (by rfl) ?_
  rintro v6 w6 ⟨rfl, rfl⟩
  refine hK'.out _ _ (.inr trivial) ?_
  clear hK' K'
  try simp only [List.getElem_toArray, List.getElem_cons_succ, List.getElem_cons_zero, Act.put, List.setIfInBounds_toArray, List.set_cons_zero, List.set_cons_succ]
  refine wpAnyL_take 7 rfl (by kernel_rfl) (by kernel_rfl) (by kernel_rfl) (by kernel_rfl) (fun _ _ _ h => h) (by kernel_rfl) (by intro w' hS'; go_simp <;> rfl) trivial ?_
  try simp only [List.getElem_toArray, List.getElem_cons_succ, List.getElem_cons_zero, Act.put, List.setIfInBounds_toArray, List.set_cons_zero, List.set_cons_succ]
  refine wpAnyL_done (by kernel_rfl) (NoPanic.normal ?_) _
  have E := hfin wd hwd.out hbd
  have hc1 := fun ty c => hcl (wd.setRow g N1) ty c (setRow_heap wd g cur N1 _ _ hbd)
  clear hfin hcl hap r6
  generalize hnk : n - k = nk at *
  go_wp2 <;> first | exact E.out | (go_ret; exact E.out)
end Go.Proofs.YtgfoogeiancecaaGreatDoor

/- What the cutting of a row's beginning leaves of a log. -/
namespace Go.Proofs.YtgfoogeiancecaaGreatDoor
open Go.RowKit WalMath DiskMath
set_option maxRecDepth 100000
set_option linter.unusedSimpArgs false
set_option linter.unusedVariables false

set_option maxHeartbeats 1000000 in
theorem delete_zero (w : World) (a : Option Addr) (n cap : Nat) (hle : n ≤ cap) (hm : cap ≤ maxLen) :
    Calls Tryz.prog 37 #[.slice a n cap, .int .i64 0, .int .i64 0] w fun e w' => e = .returned (.slice a n cap) ∧ Below w.heap.size w w' := by
  have hcm : (cap : Int) ≤ 9223372036854775807 := by unfold maxLen at hm; omega
  have hni : (n : Int) ≤ (cap : Int) := by omega
  go_enter Tryz.func37, Tryz.ntmps37
  go_wp2
  go_ret
  exact ⟨rfl, Below.refl _ _⟩

theorem sg2_drop (sg : List Seg) (vs : List Value) (k : Nat) : (sg2 sg vs).drop k = sg2 (sg.drop k) (vs.drop k) := by
  unfold sg2
  rw [List.drop_zipWith]

/-- What the row's cutting leaves. -/
structure AfterC (U S : Nat → Prop) (σ : Wm) (w : World) (q : Nat) (d : Value) (sg : List Seg) (k : Nat) (fs : Files) (v : Value) (W6 : World) : Prop where
  at_ : WalAt σ W6 q d v (sg.drop k)
  disk : Dk S W6 d fs
  kept : Kept U w W6

theorem front_state {U S : Nat → Prop} {σ : Wm} {w W W' : World} {q g cap k : Nat} {d : Value} {sg : List Seg} {fs : Files} (hW : WalAt σ W q d (.slice (some ⟨g, 0, none⟩) sg.length cap) sg) (hD : Dk S W d fs) (hS : ∀ b, S b → (σ b).1 = 0) (hb : Below W.heap.size W W') (hk : k < sg.length) (hlen : sg.length ≤ 1000) (hcap : sg.length ≤ cap) (hcm : cap ≤ maxLen)
    (hKw : Kept U w W) (hU : ∀ b, U b ↔ S b ∨ (σ b).1 ≠ 0) :
    Calls Tryz.prog 37 #[.slice (some ⟨g, 0, none⟩) sg.length cap, .int .i64 0, .int .i64 (k : Int)] W' fun e w5 => ∃ a n c, e = .returned (.slice a n c) ∧ w5.cell? ⟨q, 1, none⟩ = some (.slice (some ⟨g, 0, none⟩) sg.length cap) ∧ w5.frozen? ⟨q, 1, none⟩ = false ∧ Hid (AfterC U S σ w q d sg k fs (.slice a n c) (w5.setCell ⟨q, 1, none⟩ (.slice a n c))) := by
  have hW' := hW.below hb
  have hgm : σ g = (2, 0) := hW.segs.row g rfl
  have hqg : q ≠ g := fun e => by have := hW.mark; rw [e, hgm] at this; cases this
  have hσl : ∀ b, (σ b).1 ≠ 0 → b < W.heap.size := hW.segs.lt
  have hql : q < W.heap.size := hσl q (by rw [hW.mark]; simp)
  obtain ⟨vs, hv, hR, hat⟩ := hW'.segs.ex
  have hxl := sg2_length hv
  have main : ∀ (v : Value) (w5 : World), Kept (fun b => b = g) W w5 → R2 w5 62 v (sg2 (sg.drop k) (vs.drop k)) → v.ownBlock = some g → W'.heap.size ≤ w5.heap.size → (∀ b, b < W'.heap.size → b ≠ g → w5.heap[b]? = W'.heap[b]?) → w5.cell? ⟨q, 1, none⟩ = some (.slice (some ⟨g, 0, none⟩) sg.length cap) ∧ w5.frozen? ⟨q, 1, none⟩ = false ∧ Hid (AfterC U S σ w q d sg k fs v (w5.setCell ⟨q, 1, none⟩ v)) := by
    intro V w5 hk5 hR5 how hs5 h5'
    have h5 : ∀ b, b < W.heap.size → b ≠ g → w5.heap[b]? = W.heap[b]? := fun b hb' hne => hk5.block b hb' hne
    have hq5 := (h5 q hql hqg).trans hW.block
    have h6 : ∀ b v, b ≠ q → (w5.setCell ⟨q, 1, none⟩ v).heap[b]? = w5.heap[b]? := fun b v hne => set_same 1 _ hne
    have h6s : ∀ v, (w5.setCell ⟨q, 1, none⟩ v).heap.size = w5.heap.size := fun v => by simp [World.setCell]
    have hsz5 := hk5.size
    have hsw := hKw.size
    refine ⟨by rw [cells_of_block hq5]; rfl, frozen_of hq5 1, ⟨⟨seg_set hq5 V, ⟨⟨vs.drop k, by simp [hv], ?_, fun i s v hi hv' => ?_⟩, fun b hb' => ?_, fun b hb' => ?_⟩, hW.mark⟩, ?_, ?_⟩⟩
    · exact hR5.same fun b hb' => h6 b _ fun e => hqg (by rw [how] at hb'; rw [← e]; exact (Option.some.inj hb').symm)
    · rw [List.getElem?_drop] at hi hv'
      obtain ⟨g1, g2⟩ := hat _ s v hi hv'
      refine ⟨g1.same fun b hb' => ?_, g2⟩
      have hm := g2 b hb'
      have hbq : b ≠ q := fun e => by rw [e, hW.mark] at hm; cases hm
      have hbg : b ≠ g := fun e => by rw [e, hgm] at hm; cases hm
      rw [h6 b _ hbq]
      exact h5' b (g1.lt hb') hbg
    · rw [how] at hb'
      rw [← Option.some.inj hb']
      exact hgm
    · rw [h6s]
      have := hσl b hb'
      omega
    · refine diskOf.kept hD (by rw [h6s]; exact hsz5) fun b hb' => ?_
      have hm := hS b hb'
      rw [h6 b _ (fun e => by rw [e, hW.mark] at hm; cases hm)]
      exact h5 b (diskOf.lt hD b hb') (fun e => by rw [e, hgm] at hm; cases hm)
    · refine ⟨hk5.os.trans hKw.os, hk5.tape.trans hKw.tape, hk5.output.trans hKw.output, by rw [h6s]; omega, fun b hb' hns => ?_⟩
      have hm : (σ b).1 = 0 := by
        by_cases h0 : (σ b).1 = 0
        · exact h0
        · exact absurd ((hU b).2 (.inr h0)) hns
      rw [h6 b _ (fun e => by rw [e, hW.mark] at hm; cases hm), h5 b (by omega) (fun e => by rw [e, hgm] at hm; cases hm)]
      exact hKw.block b hb' hns
  rcases Nat.eq_zero_or_pos k with rfl | hk0
  · refine (delete_zero W' (some ⟨g, 0, none⟩) sg.length cap hcap hcm).mono ?_
    rintro e w5 ⟨rfl, hb5⟩
    have hb2 := hb.trans (hb5.mono hb.size)
    refine ⟨_, _, _, rfl, main _ w5 ⟨hb2.os, hb2.tape, hb2.output, hb2.size, fun b hb' _ => hb2.block b hb'⟩ ?_ rfl hb5.size (fun b hb' _ => hb5.block b hb')⟩
    rw [List.drop_zero, List.drop_zero]
    exact hR.same fun b hb' => hb5.block b (hR.lt hb')
  · have kdel := delete_to W' (.slice (some ⟨g, 0, none⟩) sg.length cap) (sg2 sg vs) k hR hk0 (by omega) (by omega) (fun x hx => by
      obtain ⟨i, hi⟩ := List.mem_iff_getElem?.1 hx
      have hil := (List.getElem?_eq_some_iff.1 hi).1
      rw [hxl] at hil
      have hs := List.getElem?_eq_getElem hil
      have hu := List.getElem?_eq_getElem (show i < vs.length by omega)
      have hx2 := sg2_get hs hu
      rw [hi] at hx2
      cases hx2
      obtain ⟨a, c, e, -⟩ := (hat i _ _ hs hu).1.shape
      rw [e]
      exact ⟨rfl, rfl⟩)
    refine kdel.mono ?_
    rintro e w5 ⟨v', rfl, hR5, hg5, how⟩
    obtain ⟨a, c, rfl, -, -⟩ := hR5.shape
    refine ⟨a, _, c, rfl, main _ w5 ⟨hg5.os.trans hb.os, hg5.tape.trans hb.tape, hg5.output.trans hb.output, Nat.le_trans hb.size hg5.size, fun b hb' hne => (hg5.block b (Nat.lt_of_lt_of_le hb' hb.size) (fun e => hne (Option.some.inj e))).trans (hb.block b hb')⟩ ?_ how hg5.size (fun b hb' hne => hg5.block b hb' (fun e => hne (Option.some.inj e)))⟩
    rw [← sg2_drop]
    exact hR5
end Go.Proofs.YtgfoogeiancecaaGreatDoor

