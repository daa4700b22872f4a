import Derived.Test.YtgfoogeiancecaaGreatDoorHw46
import Derived.Test.YtgfoogeiancecaaGreatDoorHw35
/- The contract of the document's CutFrom. -/
namespace Go.Proofs.YtgfoogeiancecaaGreatDoor
open Go.RowKit WalMath DiskMath
set_option maxRecDepth 100000
set_option linter.unusedSimpArgs false
set_option linter.unusedVariables false

theorem rmN_length : ∀ (ns : List Nat) (fs : Files), (rmN ns fs).length ≤ fs.length
  | [], fs => Nat.le_refl _
  | n :: ns, fs => by
    refine Nat.le_trans (rmN_length ns (dRemove fs (segName n)).1) ?_
    unfold dRemove
    split
    · exact Nat.le_refl _
    · exact out_length _ _
theorem endsOf_get {rs : List Rec} {j : Nat} (h : j < rs.length) : (endsOf rs)[j]? = some (sz (rs.take (j + 1))) := by
  unfold endsOf
  rw [List.getElem?_map, plc_get rs 0 j _ (List.getElem?_eq_getElem h)]
  simp
theorem rsg_get {xs : List (Seg × Nat)} {i : Nat} {x : Seg × Nat} (h : xs[i]? = some x) : (rsg xs)[i]? = some (i, (cutS x).recs) := by rw [rsg, List.getElem?_mapIdx, h]; rfl
theorem rsg_inv {xs : List (Seg × Nat)} {i : Nat} {s : Nat × List Rec} (h : (rsg xs)[i]? = some s) : ∃ x, xs[i]? = some x ∧ s = (i, (cutS x).recs) := by
  rw [rsg, List.getElem?_mapIdx] at h
  cases hx : xs[i]? with
  | none => rw [hx] at h; simp at h
  | some x => rw [hx] at h; exact ⟨x, rfl, by simpa using h.symm⟩

/-- The names of the segments, as they are found. -/
def Nms (ao oa : Option Addr) (m : Nat) (xs : List (Seg × Nat)) (W : World) : Prop := ∀ (n : Nat) (x : Seg × Nat), xs[n]? = some x → ∃ b off g, ao = some ⟨b, off, none⟩ ∧ oa = some ⟨g, 0, none⟩ ∧ n < m ∧ b < W.heap.size ∧ g < W.heap.size ∧ W.cell? ⟨g, n * 3, none⟩ = some (.int .i64 (n : Int)) ∧ W.cell? ⟨b, off + n * 3, none⟩ = some (.string (segName x.1.num))
theorem Nms.below {ao oa : Option Addr} {m : Nat} {xs : List (Seg × Nat)} {W W' : World} (h : Nms ao oa m xs W) (hb : Below W.heap.size W W') : Nms ao oa m xs W' := fun n x hx => by
  obtain ⟨b, off, g, h1, h2, h3, h4, h5, h6, h7⟩ := h n x hx
  exact ⟨b, off, g, h1, h2, h3, Nat.lt_of_lt_of_le h4 hb.size, Nat.lt_of_lt_of_le h5 hb.size, (hb.cell (p := ⟨g, n * 3, none⟩) h5).trans h6, (hb.cell (p := ⟨b, off + n * 3, none⟩) h4).trans h7⟩
theorem names_at {fs : Files} {xs : List (Seg × Nat)} {ao oa : Option Addr} {m cap k oc : Nat} {w w1 : World} (hF : @Fv keepAll w (.slice ao m cap) fs) (h : RSt fs xs) (hG : SegRd w1 (.slice oa k oc) (rsg xs)) (hb : Below w.heap.size w w1) : Nms ao oa m xs w1 ∧ k = xs.length ∧ m = xs.length := by
  obtain ⟨-, ao', cap', e, h2⟩ := hF
  cases e
  obtain ⟨oa', oc', e, hg⟩ := hG
  cases e
  refine ⟨fun n x hx => ?_, rsg_length xs, h.len⟩
  have hn := (List.getElem?_eq_some_iff.1 hx).1
  have hf := List.getElem?_eq_getElem (l := fs) (i := n) (by rw [h.len]; exact hn)
  obtain ⟨b, off, sv, r1, r2, -⟩ := h2 n _ hf
  obtain ⟨g, e1, e2⟩ := hg n _ (rsg_get hx)
  rw [(h.fs.2 n _ (xfile x) hf (by rw [List.getElem?_map, hx]; rfl)).1] at r2
  have hl := World.block_lt_of_cell? w _ r2
  exact ⟨b, off, g, r1, e1, by rw [h.len]; exact hn, Nat.lt_of_lt_of_le hl hb.size, World.block_lt_of_cell? w1 _ e2.1, e2.1, (hb.cell (p := ⟨b, off + n * 3, none⟩) hl).trans r2⟩

/-- The files where all the segments behind the n-th are taken away. -/
def rmTo (fs : Files) (xs : List (Seg × Nat)) (n : Nat) : Files := rmN ((xs.drop (n + 1)).map (fun x => x.1.num)).reverse fs
theorem rmTo_step {fs : Files} {xs : List (Seg × Nat)} {n : Nat} {x : Seg × Nat} (h : xs[n + 1]? = some x) : rmTo fs xs n = (dRemove (rmTo fs xs (n + 1)) (segName x.1.num)).1 := by
  have hl := (List.getElem?_eq_some_iff.1 h).1
  unfold rmTo
  rw [List.drop_eq_getElem_cons hl, List.map_cons, List.reverse_cons, rmN_snoc]
  rw [List.getElem?_eq_getElem hl] at h
  rw [Option.some.inj h]
theorem rmTo_all (fs : Files) (xs : List (Seg × Nat)) {n : Nat} (h : xs.length ≤ n + 1) : rmTo fs xs n = fs := by
  unfold rmTo
  rw [List.drop_of_length_le h]
  rfl
theorem rmTo_length (fs : Files) (xs : List (Seg × Nat)) (n : Nat) : (rmTo fs xs n).length ≤ fs.length := rmN_length _ _

/-- What the document's CutFrom tells and leaves. -/
def RCutT [Keep] (w : World) (fs : Files) (xs : List (Seg × Nat)) (ix : Nat) (e : Ending) (w' : World) : Prop :=
  (∃ (i k : Nat) (x : Seg × Nat) (r : Rec), xs[i]? = some x ∧ (cutS x).recs[k]? = some r ∧ r.index = ix ∧ Told w ((dCut (rmTo fs xs i) (segName x.1.num) (sz ((cutS x).recs.take k) : Int)).1, 0) e w') ∨
  ((∀ (i : Nat) (x : Seg × Nat), xs[i]? = some x → ∀ (k : Nat) (r : Rec), (cutS x).recs[k]? = some r → r.index ≠ ix) ∧ Told w (fs, 4) e w')

theorem RSt.rows {fs : Files} {xs : List (Seg × Nat)} (h : RSt fs xs) : ∀ s ∈ rsg xs, s.2.length ≤ 1000000 := fun s hs => by
  obtain ⟨i, hi⟩ := List.mem_iff_getElem?.1 hs
  obtain ⟨x, hx, rfl⟩ := rsg_inv hi
  have := (h.rd.small x (List.mem_of_getElem? hx)).2
  show (x.1.recs.take _).length ≤ _
  rw [List.length_take]
  omega

set_option maxHeartbeats 2000000 in
theorem rcut_of [Keep] (fs : Files) (xs : List (Seg × Nat)) (ix : Nat) (v : Value) (w : World) (hF : Fv w v fs) (h : RSt fs xs) :
    Calls Tryz.prog 11 #[v, .int .u64 (ix : Int)] w (RCutT w fs xs ix) := by
  have kS := refSegments_of fs xs v w (hF.imp (fun _ _ _ => trivial) (Nat.zero_le _)) h.fs h.rd h.mx
  have hlen := h.rd.few
  have hfl := h.len
  obtain ⟨ao, m, cap, rfl⟩ : ∃ ao m cap, v = .slice ao m cap := by
    obtain ⟨ao, cap, e⟩ := hF.shape
    exact ⟨_, _, _, e⟩
  have hflH : Hid (fs.length = xs.length) := hfl
  clear hfl
  generalize hT : RCutT w fs xs ix = T
  have fin1 : Hid (∀ (i k : Nat) (x : Seg × Nat) (r : Rec) e w', xs[i]? = some x → (cutS x).recs[k]? = some r → r.index = ix → Told w ((dCut (rmTo fs xs i) (segName x.1.num) (sz ((cutS x).recs.take k) : Int)).1, 0) e w' → T e w') := fun i k x r e w' a b c d => by rw [← hT]; exact .inl ⟨i, k, x, r, a, b, c, d⟩
  have fin2 : Hid ((∀ (i : Nat) (x : Seg × Nat), xs[i]? = some x → ∀ (k : Nat) (r : Rec), (cutS x).recs[k]? = some r → r.index ≠ ix) → ∀ e w', Told w (fs, 4) e w' → T e w') := fun a e w' b => by rw [← hT]; exact .inr ⟨a, b⟩
  clear hT
  go_enter Tryz.func11, Tryz.ntmps11
  go_wp2_with fail
  refine kS.mono ?_
  rintro e w1 ⟨ov, D, rfl, hO⟩
  clear kS
  have hR := hO.rd
  have hbw := hO.bel
  clear hO
  have hF1 := hF.below hbw
  have kW := where_of (rsg xs) ix _ w1 hR (by rw [rsg_length]; omega) h.rows
  obtain ⟨oa, on, oc, rfl⟩ : ∃ oa on oc, ov = .slice oa on oc := by
    obtain ⟨oa, oc, e, -⟩ := hR
    exact ⟨_, _, _, e⟩
  obtain ⟨hN, hon, hm⟩ := names_at (hF.imp (fun _ _ _ => trivial) (Nat.zero_le _)) h hR hbw
  have hnH : Hid (on = xs.length ∧ m = xs.length) := ⟨hon, hm⟩
  clear hon hm
  go_wp2_with fail
  refine kW.mono ?_
  rintro e w2 ⟨hor, rfl⟩
  clear kW
  rcases hor with ⟨i, k, s, r, hi, hk, hr, rfl⟩ | ⟨hnone, rfl⟩
  · obtain ⟨x, hx, rfl⟩ := rsg_inv hi
    have hil := (List.getElem?_eq_some_iff.1 hx).1
    obtain ⟨q, hq⟩ : ∃ q, on = q + 1 := ⟨xs.length - 1, by have := hnH.out.1; omega⟩
    subst hq
    have hqH : Hid (q + 1 = xs.length) := hnH.out.1
    have hq20 : q < 20 := by have := hqH.out; omega
    have hiq : i ≤ q := by have := hqH.out; omega
    have fin := fun e w' => fin1.out i k x r e w' hx hk hr
    have hfinH : Hid (∀ e w', Told w ((dCut (rmTo fs xs i) (segName x.1.num) (sz ((cutS x).recs.take k) : Int)).1, 0) e w' → T e w') := fin
    have hkl := (List.getElem?_eq_some_iff.1 hk).1
    dsimp only at hkl
    have hkb : k < 1000000 := by have := h.rows _ (List.mem_of_getElem? hi); dsimp only at this; omega
    have hEnd : Hid (∀ W, Below w2.heap.size w2 W → ∀ k', k = k' + 1 → ∃ g ea ec hh, oa = some ⟨g, 0, none⟩ ∧ ea = some ⟨hh, 0, none⟩ ∧ g < W.heap.size ∧ hh < W.heap.size ∧ k' < (cutS x).recs.length ∧ W.cell? ⟨g, i * 3 + 2, none⟩ = some (.slice ea (cutS x).recs.length ec) ∧ W.cell? ⟨hh, k', none⟩ = some (.int .i64 (sz ((cutS x).recs.take k) : Int))) := fun W hb k' hk' => by
      obtain ⟨oa', oc', e, hg⟩ := hR.below hb
      injection e with eA _ _
      subst eA
      obtain ⟨g, e1, -, la, lc, ea, ec, -, c2, -, c4⟩ := hg i _ hi
      obtain ⟨hh, e2, c5⟩ := c4 k' _ (endsOf_get (show k' < (cutS x).recs.length by omega))
      rw [hk']
      exact ⟨g, ea, ec, hh, e1, e2, World.block_lt_of_cell? W _ c2, World.block_lt_of_cell? W _ c5, by omega, c2, c5⟩
    have hxH : Hid (xs[i]? = some x) := hx
    have hF2 : Fv w2 (.slice ao m cap) (rmTo fs xs q) := by rw [rmTo_all fs xs (by rw [← hqH.out]; exact Nat.le_refl _)]; exact hF1
    have hNH : Hid (∀ W, Below w2.heap.size w2 W → Nms ao oa m xs W) := fun W hb => hN.below hb
    have hlF : Hid (∀ n, (rmTo fs xs n).length ≤ 1000) := fun n => by have := rmTo_length fs xs n; rw [hflH.out] at this; omega
    have hmq : Hid (m = q + 1) := by show _ = _; rw [hnH.out.2, hqH.out]
    clear fin1 fin2 fin hN hR hF1 hF hx hi hk hr hil hkl
    go_wp2
    go_loopg [9, 10] (q - i) (fun g s9 s10 wr => ∃ n : Nat, n = i + g ∧ n ≤ q ∧ s10 = .int .i64 (n : Int) ∧ Fv wr s9 (rmTo fs xs n) ∧ Below w2.heap.size w2 wr)
    case atStart => exact ⟨q, by omega, Nat.le_refl _, by go_num, hF2, Below.refl _ _⟩
    case round =>
      obtain ⟨n, hn, hnq, hs10, hFr, hbr⟩ := hrel
      subst hs10
      clear hF2
      have hNr := hNH.out wr hbr
      obtain ⟨ra, rm, rc, hrE⟩ : ∃ ra rm rc, u9 = .slice ra rm rc := by
        obtain ⟨a, c, e⟩ := hFr.shape
        exact ⟨_, _, _, e⟩
      subst hrE
      by_cases hlt : i < n
      · obtain ⟨n', rfl⟩ : ∃ n', n = n' + 1 := ⟨n - 1, by omega⟩
        have hy := List.getElem?_eq_getElem (l := xs) (i := n' + 1) (by have := hqH.out; omega)
        generalize xs[n' + 1]'(by have := hqH.out; omega) = y at *
        obtain ⟨b, off, g, rfl, rfl, hnm, hbl, hgl, c0, c1⟩ := hNr _ _ hy
        have kR := remove_of (rmTo fs xs (n' + 1)) (segName y.1.num) _ wr hFr (hlF.out _)
        rw [show (dRemove (rmTo fs xs (n' + 1)) (segName y.1.num)) = (rmTo fs xs n', (dRemove (rmTo fs xs (n' + 1)) (segName y.1.num)).2) by rw [rmTo_step hy]] at kR
        generalize (dRemove (rmTo fs xs (n' + 1)) (segName y.1.num)).2 = ee at kR
        generalize segName y.1.num = nm at *
        have hlti : (i : Int) < ((n' + 1 : Nat) : Int) := by omega
        have hnqi : ((n' + 1 : Nat) : Int) < (q : Int) + 1 := by omega
        have hnmi : ((n' + 1 : Nat) : Int) < (m : Int) := by omega
        have hnH2 : Hid (n' + 1 = i + gk) := hn
        generalize hNE : n' + 1 = N at *
        have hNEH : Hid (n' + 1 = N) := hNE
        clear hFr hNr hn hNE hy
        go_wp2_with fail
        refine kR.mono ?_
        rintro e w3 ⟨lv, rfl, hF3, hb3⟩
        have hb4 := hbr.trans (hb3.mono hbr.size)
        have hF3H : Hid (Fv w3 lv (rmTo fs xs n')) := hF3
        obtain ⟨la, ln, lc, rfl⟩ : ∃ a n c, lv = .slice a n c := by
          obtain ⟨a, c, e⟩ := hF3.shape
          exact ⟨_, _, _, e⟩
        clear kR hF3 c0 c1
        go_wp2
        go_roundg (n' - i)
        case measure => have := hnH2.out; have := hNEH.out; omega
        case rel => exact ⟨n', by have := hNEH.out; omega, by have := hNEH.out; omega, by have := hNEH.out; go_num, hF3H.out, hb4⟩
      · obtain rfl : n = i := by omega
        obtain ⟨b, off, g, rfl, rfl, hnm, hbl, hgl, c0, c1⟩ := hNr _ _ hxH.out
        have kC : ∀ W, Below wr.heap.size wr W → Calls Tryz.prog 35 #[.slice ra rm rc, .string (segName x.1.num), .int .i64 (sz ((cutS x).recs.take k) : Int)] W (Told W (dCut (rmTo fs xs n) (segName x.1.num) (sz ((cutS x).recs.take k) : Int))) := fun W hb => cut_of _ _ _ _ W (hFr.below hb) (hlF.out _)
        have hfin2 : Hid (∀ e w', Told w ((dCut (rmTo fs xs n) (segName x.1.num) (sz ((cutS x).recs.take k) : Int)).1, 0) e w' → T e w') := hfinH.out
        generalize hRR : dCut (rmTo fs xs n) (segName x.1.num) (sz ((cutS x).recs.take k) : Int) = RR at *
        have hlti : ¬ (n : Int) < (n : Int) := by omega
        have hnqi : (n : Int) < (q : Int) + 1 := by omega
        have hnmi : (n : Int) < (m : Int) := by omega
        have hkC := kC wr (Below.refl _ _)
        have hbw2 := hbw.trans (hbr.mono hbw.size)
        have hsegk : Hid (k = 0 → sz ((cutS x).recs.take k) = 0) := fun e => by rw [e, List.take_zero]; rfl
        have hEnd2 := hEnd.out wr hbr
        generalize segName x.1.num = nm at *
        generalize hSZ : sz ((cutS x).recs.take k) = SZ at *
        clear hFr hNr hn kC hfinH hRR hxH hSZ
        rcases Nat.eq_zero_or_pos k with hk0 | hk0
        · have h0 := hsegk.out hk0
          subst hk0
          subst h0
          clear hsegk hEnd hEnd2
          go_wp2_with fail
          refine hkC.mono ?_
          rintro e w3 ⟨lv, rfl, hF3, hb3⟩
          have hfin := hfin2.out (.returned (.tuple #[lv, .int .i64 0])) w3 ⟨lv, rfl, hF3, hbw2.trans (hb3.mono hbw2.size)⟩
          obtain ⟨la, ln, lc, rfl⟩ : ∃ a n c, lv = .slice a n c := by
            obtain ⟨a, c, e⟩ := hF3.shape
            exact ⟨_, _, _, e⟩
          clear hkC hF3 c0 c1 hfin2
          go_wp2
          exact hfin
        · obtain ⟨k', hk'⟩ : ∃ k', k = k' + 1 := ⟨k - 1, by omega⟩
          obtain ⟨g', ea, ec, hh, e1, rfl, y1, y2, y3, y4, y5⟩ := hEnd2 k' hk'
          cases e1
          subst hk'
          have y3i : (k' : Int) < ((cutS x).recs.length : Int) := by omega
          generalize (cutS x).recs.length = LL at *
          clear hsegk hEnd hEnd2
          go_wp2_with fail
          refine hkC.mono ?_
          rintro e w3 ⟨lv, rfl, hF3, hb3⟩
          have hfin := hfin2.out (.returned (.tuple #[lv, .int .i64 0])) w3 ⟨lv, rfl, hF3, hbw2.trans (hb3.mono hbw2.size)⟩
          obtain ⟨la, ln, lc, rfl⟩ : ∃ a n c, lv = .slice a n c := by
            obtain ⟨a, c, e⟩ := hF3.shape
            exact ⟨_, _, _, e⟩
          clear hkC hF3 c0 c1 hfin2
          go_wp2
          exact hfin
  · have hfin := fin2.out (fun i x hx k r hr => hnone i _ (rsg_get hx) k r hr) _ _ ⟨_, rfl, hF1, hbw⟩
    clear fin1 fin2 hnone hN hR hF1 hF
    go_wp2
    exact hfin
end Go.Proofs.YtgfoogeiancecaaGreatDoor

/- The contract of the document's Compact. -/
namespace Go.Proofs.YtgfoogeiancecaaGreatDoor
open Go.RowKit WalMath DiskMath
set_option maxRecDepth 100000
set_option linter.unusedSimpArgs false
set_option linter.unusedVariables false

/-- The files where the first n segments are taken away. -/
def rmFst (fs : Files) (xs : List (Seg × Nat)) (n : Nat) : Files := rmN ((xs.take n).map (fun x => x.1.num)) fs
theorem rmFst_step {fs : Files} {xs : List (Seg × Nat)} {n : Nat} {x : Seg × Nat} (h : xs[n]? = some x) : rmFst fs xs (n + 1) = (dRemove (rmFst fs xs n) (segName x.1.num)).1 := by
  have hl := (List.getElem?_eq_some_iff.1 h).1
  unfold rmFst
  rw [List.take_succ_eq_append_getElem hl, List.map_append, List.map_singleton, rmN_snoc]
  rw [List.getElem?_eq_getElem hl] at h
  rw [Option.some.inj h]
theorem rmFst_length (fs : Files) (xs : List (Seg × Nat)) (n : Nat) : (rmFst fs xs n).length ≤ fs.length := rmN_length _ _

/-- What the document's Compact tells and leaves. -/
def RCompT [Keep] (w : World) (fs : Files) (xs : List (Seg × Nat)) (ix : Nat) (e : Ending) (w' : World) : Prop :=
  (∃ (i k n : Nat) (x : Seg × Nat) (r : Rec), xs[i]? = some x ∧ (cutS x).recs[k]? = some r ∧ r.index = ix ∧ n < xs.length ∧ (∀ (j : Nat) (y : Seg × Nat), j < n → xs[j]? = some y → lastIx 0 (cutS y).recs ≤ ix) ∧ (n + 1 < xs.length → ∀ y, xs[n]? = some y → ix < lastIx 0 (cutS y).recs) ∧ Told w (rmFst fs xs n, 0) e w') ∨
  ((∀ (i : Nat) (x : Seg × Nat), xs[i]? = some x → ∀ (k : Nat) (r : Rec), (cutS x).recs[k]? = some r → r.index ≠ ix) ∧ Told w (fs, 4) e w')

set_option maxHeartbeats 2000000 in
theorem rcompact_of [Keep] (fs : Files) (xs : List (Seg × Nat)) (ix : Nat) (v : Value) (w : World) (hF : Fv w v fs) (h : RSt fs xs) :
    Calls Tryz.prog 13 #[v, .int .u64 (ix : Int)] w (RCompT w fs xs ix) := by
  have kS := refSegments_of fs xs v w (hF.imp (fun _ _ _ => trivial) (Nat.zero_le _)) h.fs h.rd h.mx
  have hlen := h.rd.few
  have hfl := h.len
  obtain ⟨ao, m, cap, rfl⟩ : ∃ ao m cap, v = .slice ao m cap := by
    obtain ⟨ao, cap, e⟩ := hF.shape
    exact ⟨_, _, _, e⟩
  have hflH : Hid (fs.length = xs.length) := hfl
  clear hfl
  generalize hT : RCompT w fs xs ix = T
  have fin1 : Hid (∀ (i k n : Nat) (x : Seg × Nat) (r : Rec) e w', xs[i]? = some x → (cutS x).recs[k]? = some r → r.index = ix → n < xs.length → (∀ (j : Nat) (y : Seg × Nat), j < n → xs[j]? = some y → lastIx 0 (cutS y).recs ≤ ix) → (n + 1 < xs.length → ∀ y, xs[n]? = some y → ix < lastIx 0 (cutS y).recs) → Told w (rmFst fs xs n, 0) e w' → T e w') := fun i k n x r e w' a b c d f g h => by rw [← hT]; exact .inl ⟨i, k, n, x, r, a, b, c, d, f, g, h⟩
  have fin2 : Hid ((∀ (i : Nat) (x : Seg × Nat), xs[i]? = some x → ∀ (k : Nat) (r : Rec), (cutS x).recs[k]? = some r → r.index ≠ ix) → ∀ e w', Told w (fs, 4) e w' → T e w') := fun a e w' b => by rw [← hT]; exact .inr ⟨a, b⟩
  clear hT
  go_enter Tryz.func13, Tryz.ntmps13
  go_wp2_with fail
  refine kS.mono ?_
  rintro e w1 ⟨ov, D, rfl, hO⟩
  clear kS
  have hR := hO.rd
  have hbw := hO.bel
  clear hO
  have hF1 := hF.below hbw
  have kW := where_of (rsg xs) ix _ w1 hR (by rw [rsg_length]; omega) h.rows
  obtain ⟨oa, on, oc, rfl⟩ : ∃ oa on oc, ov = .slice oa on oc := by
    obtain ⟨oa, oc, e, -⟩ := hR
    exact ⟨_, _, _, e⟩
  obtain ⟨hN, hon, hm⟩ := names_at (hF.imp (fun _ _ _ => trivial) (Nat.zero_le _)) h hR hbw
  have hnH : Hid (on = xs.length ∧ m = xs.length) := ⟨hon, hm⟩
  clear hon hm
  go_wp2_with fail
  refine kW.mono ?_
  rintro e w2 ⟨hor, rfl⟩
  clear kW
  rcases hor with ⟨i, k, s, r, hi, hk, hr, rfl⟩ | ⟨hnone, rfl⟩
  · obtain ⟨x, hx, rfl⟩ := rsg_inv hi
    have hil := (List.getElem?_eq_some_iff.1 hx).1
    obtain ⟨q, hq⟩ : ∃ q, on = q + 1 := ⟨xs.length - 1, by have := hnH.out.1; omega⟩
    subst hq
    have hqH : Hid (q + 1 = xs.length) := hnH.out.1
    have hq20 : q < 20 := by have := hqH.out; omega
    have hfinH : Hid (∀ n e w', n < xs.length → (∀ (j : Nat) (y : Seg × Nat), j < n → xs[j]? = some y → lastIx 0 (cutS y).recs ≤ ix) → (n + 1 < xs.length → ∀ y, xs[n]? = some y → ix < lastIx 0 (cutS y).recs) → Told w (rmFst fs xs n, 0) e w' → T e w') := fun n e w' => fin1.out i k n x r e w' hx hk hr
    have hi20 : i < 20 := by omega
    have hLst : Hid (∀ W, Below w2.heap.size w2 W → ∀ n y, xs[n]? = some y → ∃ g la lc, oa = some ⟨g, 0, none⟩ ∧ g < W.heap.size ∧ (cutS y).recs.length ≤ 1000000 ∧ W.cell? ⟨g, n * 3 + 1, none⟩ = some (.slice la (cutS y).recs.length lc) ∧ (∀ t, (cutS y).recs.length = t + 1 → ∃ hh, la = some ⟨hh, 0, none⟩ ∧ hh < W.heap.size ∧ W.cell? ⟨hh, t * 2, none⟩ = some (.int .u64 (lastIx 0 (cutS y).recs : Int)))) := fun W hb n y hy => by
      obtain ⟨oa', oc', e, hg⟩ := hR.below hb
      injection e with eA _ _
      subst eA
      obtain ⟨g, e1, -, la, lc, ea, ec, c1, -, c3, -⟩ := hg n _ (rsg_get hy)
      refine ⟨g, la, lc, e1, World.block_lt_of_cell? W _ c1, h.rows _ (List.mem_of_getElem? (rsg_get hy)), c1, fun t ht => ?_⟩
      dsimp only at c3
      have hgt := List.getElem?_eq_getElem (l := (cutS y).recs) (i := t) (by omega)
      obtain ⟨hh, da, dc, e2, c4, -⟩ := c3 t _ hgt
      refine ⟨hh, e2, World.block_lt_of_cell? W _ c4, ?_⟩
      rw [c4, show lastIx 0 (cutS y).recs = ((cutS y).recs[t]'(by omega)).index by rw [lastIx_eq, List.getLast?_eq_getElem?, show (cutS y).recs.length - 1 = t by omega, hgt]; rfl]
    have hF2 : Fv w2 (.slice ao m cap) (rmFst fs xs 0) := hF1
    have hNH : Hid (∀ W, Below w2.heap.size w2 W → Nms ao oa m xs W) := fun W hb => hN.below hb
    have hlF : Hid (∀ n, (rmFst fs xs n).length ≤ 1000) := fun n => by have := rmFst_length fs xs n; rw [hflH.out] at this; omega
    have hmq : Hid (m = q + 1) := by show _ = _; rw [hnH.out.2, hqH.out]
    clear fin1 fin2 hN hR hF1 hF hx hi hk hr hil
    go_wp2
    go_loopg [9, 10] q (fun g s9 s10 wr => ∃ n : Nat, n + g = q ∧ s10 = .int .i64 (n : Int) ∧ Fv wr s9 (rmFst fs xs n) ∧ Below w2.heap.size w2 wr ∧ Hid (∀ (j : Nat) (y : Seg × Nat), j < n → xs[j]? = some y → lastIx 0 (cutS y).recs ≤ ix))
    case atStart => exact ⟨0, by omega, rfl, hF2, Below.refl _ _, fun j y hj => by omega⟩
    case round =>
      obtain ⟨n, hn, hs10, hFr, hbr, hpre⟩ := hrel
      subst hs10
      clear hF2
      have hNr := hNH.out wr hbr
      obtain ⟨ra, rm, rc, hrE⟩ : ∃ ra rm rc, u9 = .slice ra rm rc := by
        obtain ⟨a, c, e⟩ := hFr.shape
        exact ⟨_, _, _, e⟩
      subst hrE
      have hbw2 := hbw.trans (hbr.mono hbw.size)
      by_cases hlt : n < q
      · have hy := List.getElem?_eq_getElem (l := xs) (i := n) (by have := hqH.out; omega)
        generalize xs[n]'(by have := hqH.out; omega) = y at *
        obtain ⟨b, off, g, rfl, rfl, hnm, hbl, hgl, c0, c1⟩ := hNr _ _ hy
        obtain ⟨g', la, lc, e1, -, hLl, c2, c3⟩ := hLst.out wr hbr n y hy
        cases e1
        have hlti : (n : Int) < (q : Int) := by omega
        have hnmi : (n : Int) < (m : Int) := by omega
        have hnH2 : Hid (n + gk = q) := hn
        by_cases hgo : lastIx 0 (cutS y).recs ≤ ix
        · have kR : ∀ W, Below wr.heap.size wr W → Calls Tryz.prog 34 #[.slice ra rm rc, .string (segName y.1.num)] W (Told W (rmFst fs xs (n + 1), (dRemove (rmFst fs xs n) (segName y.1.num)).2)) := fun W hb => by
            have := remove_of (rmFst fs xs n) (segName y.1.num) _ W (hFr.below hb) (hlF.out _)
            rw [show (dRemove (rmFst fs xs n) (segName y.1.num)) = (rmFst fs xs (n + 1), (dRemove (rmFst fs xs n) (segName y.1.num)).2) by rw [rmFst_step hy]] at this
            exact this
          generalize (dRemove (rmFst fs xs n) (segName y.1.num)).2 = ee at kR
          have hpre2 : Hid (∀ (j : Nat) (y : Seg × Nat), j < n + 1 → xs[j]? = some y → lastIx 0 (cutS y).recs ≤ ix) := fun j z hj hz => by
            rcases Nat.lt_succ_iff_lt_or_eq.1 hj with hj | hj
            · exact hpre.out j z hj hz
            · subst hj
              rw [hy] at hz
              cases hz
              exact hgo
          generalize segName y.1.num = nm at *
          have hgoi : ¬ (ix : Int) < (lastIx 0 (cutS y).recs : Int) := by omega
          generalize lastIx 0 (cutS y).recs = LI at *
          clear hFr hNr hn hy hpre hgo hLst
          rcases Nat.eq_zero_or_pos (cutS y).recs.length with hz | hz
          · rw [hz] at c2
            clear hz c3 hLl
            go_wp2
            go_quiet (fail)
            go_wp2_with fail
            refine (kR _ (below_drewN (Below.refl _ _) _)).mono ?_
            rintro e w3 ⟨lv, rfl, hF3, hb3⟩
            have hbd : Below wr.heap.size wr (wr.drewN nq) := below_drewN (Below.refl _ _) _
            have hb4 := hbr.trans ((hbd.trans (hb3.mono hbd.size)).mono hbr.size)
            have hF3H : Hid (Fv w3 lv (rmFst fs xs (n + 1))) := hF3
            obtain ⟨la', ln', lc', rfl⟩ : ∃ a n c, lv = .slice a n c := by
              obtain ⟨a, c, e⟩ := hF3.shape
              exact ⟨_, _, _, e⟩
            clear kR hF3 c0 c1 c2 hbd hb3
            go_wp2
            go_roundg (q - (n + 1))
            case measure => have := hnH2.out; omega
            case rel => exact ⟨n + 1, by omega, by go_num, hF3H.out, hb4, hpre2⟩
          · obtain ⟨t, ht⟩ : ∃ t, (cutS y).recs.length = t + 1 := ⟨(cutS y).recs.length - 1, by omega⟩
            obtain ⟨hh, rfl, hhl, c4⟩ := c3 t ht
            have hti : (t : Int) ≤ 1000000 := by omega
            rw [ht] at c2
            clear c3 hLl hz ht
            go_wp2
            go_quiet (fail)
            go_wp2_with fail
            refine (kR _ (below_drewN (Below.refl _ _) _)).mono ?_
            rintro e w3 ⟨lv, rfl, hF3, hb3⟩
            have hbd : Below wr.heap.size wr (wr.drewN nq) := below_drewN (Below.refl _ _) _
            have hb4 := hbr.trans ((hbd.trans (hb3.mono hbd.size)).mono hbr.size)
            have hF3H : Hid (Fv w3 lv (rmFst fs xs (n + 1))) := hF3
            obtain ⟨la', ln', lc', rfl⟩ : ∃ a n c, lv = .slice a n c := by
              obtain ⟨a, c, e⟩ := hF3.shape
              exact ⟨_, _, _, e⟩
            clear kR hF3 c0 c1 c2 hbd hb3
            go_wp2
            go_roundg (q - (n + 1))
            case measure => have := hnH2.out; omega
            case rel => exact ⟨n + 1, by omega, by go_num, hF3H.out, hb4, hpre2⟩
        · have hgoi : (ix : Int) < (lastIx 0 (cutS y).recs : Int) := by omega
          have hfin : Hid (∀ W, Below wr.heap.size wr W → T (.returned (.tuple #[.slice ra rm rc, .int .i64 0])) W) := fun W hb => hfinH.out n _ _ (by have := hqH.out; omega) hpre.out (fun _ z hz => by rw [hy] at hz; cases hz; omega) ⟨_, rfl, hFr.below hb, hbw2.trans (hb.mono hbw2.size)⟩
          obtain ⟨t, ht⟩ : ∃ t, (cutS y).recs.length = t + 1 := by
            refine ⟨(cutS y).recs.length - 1, ?_⟩
            rcases Nat.eq_zero_or_pos (cutS y).recs.length with hz | hz
            · rw [List.eq_nil_of_length_eq_zero hz] at hgo
              exact absurd (Nat.zero_le _) hgo
            · omega
          obtain ⟨hh, rfl, hhl, c4⟩ := c3 t ht
          have hti : (t : Int) ≤ 1000000 := by omega
          rw [ht] at c2
          generalize lastIx 0 (cutS y).recs = LI at *
          clear hFr hNr hn hy hpre hgo hLst hfinH c3 hLl ht
          go_wp2
          go_quiet (fail)
          go_wp2
          exact hfin.out _ (below_drewN (Below.refl _ _) _)
      · obtain rfl : n = q := by omega
        have hfin : Hid (T (.returned (.tuple #[.slice ra rm rc, .int .i64 0])) wr) := hfinH.out n _ _ (by have := hqH.out; omega) hpre.out (fun h1 => by have := hqH.out; omega) ⟨_, rfl, hFr, hbw2⟩
        have hlti : ¬ (n : Int) < (n : Int) := by omega
        clear hFr hNr hn hpre hLst hfinH
        go_wp2
        exact hfin.out
  · have hfin := fin2.out (fun i x hx k r hr => hnone i _ (rsg_get hx) k r hr) _ _ ⟨_, rfl, hF1, hbw⟩
    clear fin1 fin2 hnone hN hR hF1 hF
    go_wp2
    exact hfin
end Go.Proofs.YtgfoogeiancecaaGreatDoor

/- The contract of the document's Read. -/
namespace Go.Proofs.YtgfoogeiancecaaGreatDoor
open Go.RowKit WalMath DiskMath
set_option maxRecDepth 100000
set_option linter.unusedSimpArgs false
set_option linter.unusedVariables false

theorem c2_inv {zs : List (Value × Value)} {j : Nat} {u : Value} (h : (c2 zs)[j]? = some u) : ∃ i z, zs[i]? = some z ∧ ((j = i * 2 ∧ u = z.1) ∨ (j = i * 2 + 1 ∧ u = z.2)) := by
  have hl := (List.getElem?_eq_some_iff.1 h).1
  rw [c2_length] at hl
  have hz := List.getElem?_eq_getElem (l := zs) (i := j / 2) (by omega)
  obtain ⟨h1, h2⟩ := c2_get zs _ _ hz
  refine ⟨j / 2, _, hz, ?_⟩
  rcases Nat.mod_two_eq_zero_or_one j with hm | hm
  · rw [show j / 2 * 2 = j by omega, h] at h1
    exact .inl ⟨by omega, Option.some.inj h1⟩
  · rw [show j / 2 * 2 + 1 = j by omega, h] at h2
    exact .inr ⟨by omega, Option.some.inj h2⟩

theorem run_append_none (w : World) (t ty e : TypeId) (i : TypeInfo) (size c : Nat) (ht : Tryz.prog.underlying t = some (.slice e)) (hi : Tryz.prog.info? e = some i) (v : Value) (n : Nat) (xs : List Value) (hown : w.ownsRow 0 e size v n xs) :
    (Builtin.append_ #[t, t] ty #[v, .slice none 0 c]).run Tryz.prog w = .ok v w := by
  rcases hown.2 with ⟨rfl, rfl⟩ | ⟨g, cap, cur, rfl, _, _, hnc, _⟩
  · simp [Builtin.append_, run_underlying ht, sizeOf, typeInfo, hi, Builtin.lenOf, Builtin.firstCells]
  · simp [Builtin.append_, run_underlying ht, sizeOf, typeInfo, hi, Builtin.lenOf, Builtin.firstCells, hnc, storeCells]

/-- A whole row of records follows. -/
theorem more_recs (w : World) (ty : TypeId) (v : Value) (ys zs : List (Value × Value)) (la : Option Addr) (c : Nat) (h : R2 w 44 v ys) (hz : ∀ (i : Nat) (z : Value × Value), zs[i]? = some z → ∃ hh, la = some ⟨hh, 0, none⟩ ∧ w.cell? ⟨hh, i * 2, none⟩ = some z.1 ∧ w.cell? ⟨hh, i * 2 + 1, none⟩ = some z.2) (h1 : ∀ z ∈ zs, z.1.oneCell' = true ∧ z.2.oneCell' = true) (hy : ys.length ≤ 100000000) (hm : zs.length ≤ 1000000) :
    ∃ v' w', (Builtin.append_ #[72, 72] ty #[v, .slice la zs.length c]).run Tryz.prog w = .ok v' w' ∧ R2 w' 44 v' (ys ++ zs) ∧ w.grownBy w' v.ownBlock ∧ ∀ k, v'.ownBlock = some k → v.ownBlock = some k ∨ w.heap.size ≤ k := by
  obtain ⟨i0, hi, hz0, hz1, hz2⟩ := info_parts infoRec
  cases la with
  | none =>
    obtain rfl : zs = [] := by
      cases zs with
      | nil => rfl
      | cons z zs => obtain ⟨_, e, _⟩ := hz 0 z rfl; cases e
    refine ⟨v, w, run_append_none w _ ty _ i0 2 c Tryz.underlying72 hi v _ _ h, by rw [List.append_nil]; exact h, ⟨rfl, rfl, rfl, Nat.le_refl _, fun _ _ _ => rfl⟩, fun k hk => .inl hk⟩
  | some a =>
    obtain ⟨v', w', r1, r2, r3, r4⟩ := run_append_own2 w 0 72 ty 44 i0 _ 2 _ Tryz.underlying72 hi hz0 hz1 hz2 rfl (by decide) v ys.length (c2 ys) h a zs.length c (c2 zs) (c2_length zs) (fun j u hj => by
        obtain ⟨i, z, hzi, hor⟩ := c2_inv hj
        obtain ⟨hh, e, q1, q2⟩ := hz i z hzi
        cases e
        rw [Addr.add_lit, Nat.zero_add]
        rcases hor with ⟨rfl, rfl⟩ | ⟨rfl, rfl⟩
        · exact q1
        · exact q2) (fun u hu => by
        obtain ⟨j, hj⟩ := List.mem_iff_getElem?.1 hu
        obtain ⟨i, z, hzi, hor⟩ := c2_inv hj
        obtain ⟨q1, q2⟩ := h1 z (List.mem_of_getElem? hzi)
        rcases hor with ⟨rfl, rfl⟩ | ⟨rfl, rfl⟩
        · exact q1
        · exact q2) (by unfold maxLen; omega) (by omega) (Nat.zero_le _)
    refine ⟨v', w', r1, ?_, r3, r4⟩
    unfold R2
    rw [List.length_append, c2_append]
    exact r2

/-- Records, as they are read. -/
def RecRd (W : World) (v : Value) (rs : List Rec) : Prop :=
  ∃ ao cap, v = .slice ao rs.length cap ∧ ∀ (j : Nat) (r : Rec), rs[j]? = some r → ∃ h da dc, ao = some ⟨h, 0, none⟩ ∧ W.cell? ⟨h, j * 2, none⟩ = some (.int .u64 (r.index : Int)) ∧ W.cell? ⟨h, j * 2 + 1, none⟩ = some (.slice da r.data.length dc) ∧ Fr.Bs W.heap.size W (.slice da r.data.length dc) r.data

theorem cell_but {B : Nat} {t : TypeId} {w w' : World} (hB : w.heap[B]? = some (.cells #[] t (0, 0))) (hg : w.grownBy w' (some B)) {b o : Nat} {u : Value} (h : w.cell? ⟨b, o, none⟩ = some u) : w'.cell? ⟨b, o, none⟩ = some u := by
  have hb := World.block_lt_of_cell? w _ h
  dsimp only at hb
  have hne : b ≠ B := by
    rintro rfl
    rw [cells_of_block hB] at h
    simp at h
  exact (World.cell?_of_block (a := ⟨b, o, none⟩) (hg.block b hb (fun e => hne (Option.some.inj e)))).trans h
theorem fbs_but {B : Nat} {t : TypeId} {w w' : World} (hB : w.heap[B]? = some (.cells #[] t (0, 0))) (hg : w.grownBy w' (some B)) {v : Value} {l : List Nat} (h : Fr.Bs w.heap.size w v l) : Fr.Bs w'.heap.size w' v l := by
  obtain ⟨ao, cap, h1, h2, h3, h4, h5⟩ := h
  refine ⟨ao, cap, h1, h2, h3, h4, fun hne => ?_⟩
  obtain ⟨b, off, e1, e2, e3⟩ := h5 hne
  exact ⟨b, off, e1, Nat.lt_of_lt_of_le e2 hg.size, fun j c hj => cell_but hB hg (e3 j c hj)⟩

/-- What stands between two rounds of Read. -/
structure ReadAt (B : Nat) (w1 : World) (v : Value) (rs : List Rec) (wr : World) : Prop where
  row : ∃ ys, R2 wr 44 v ys ∧ ys.length = rs.length ∧ ∀ (k : Nat) (r : Rec) (y : Value × Value), rs[k]? = some r → ys[k]? = some y → y.1 = .int .u64 (r.index : Int) ∧ ∃ da dc, y.2 = .slice da r.data.length dc ∧ Fr.Bs w1.heap.size w1 (.slice da r.data.length dc) r.data
  own : ∀ k, v.ownBlock = some k → k = B ∨ w1.heap.size ≤ k
  grown : w1.grownBy wr (some B)
  empty : w1.heap[B]? = some (.cells #[] 44 (0, 0))

theorem ReadAt.more {B : Nat} {w1 : World} {v : Value} {rs : List Rec} {wr : World} (h : ReadAt B w1 v rs wr) {g k : Nat} {s : Nat × List Rec} (hS : SgRd w1 g k s) (hy : rs.length ≤ 100000000) (hm : s.2.length ≤ 1000000) (ty : TypeId) (la : Option Addr) (lc : Nat) (hla : wr.cell? ⟨g, k * 3 + 1, none⟩ = some (.slice la s.2.length lc)) :
    ∃ v' w', (Builtin.append_ #[72, 72] ty #[v, .slice la s.2.length lc]).run Tryz.prog wr = .ok v' w' ∧ ReadAt B w1 v' (rs ++ s.2) w' := by
  obtain ⟨ys, y1, y2, y3⟩ := h.row
  obtain ⟨-, la', lc', ea, ec, c1, -, c3, -⟩ := hS
  have e := (cell_but h.empty h.grown c1).symm.trans hla
  cases e
  have hex : ∃ zs : List (Value × Value), zs.length = s.2.length ∧ ∀ (j : Nat) (r : Rec) (z : Value × Value), s.2[j]? = some r → zs[j]? = some z → (∃ hh, la = some ⟨hh, 0, none⟩ ∧ wr.cell? ⟨hh, j * 2, none⟩ = some z.1 ∧ wr.cell? ⟨hh, j * 2 + 1, none⟩ = some z.2) ∧ z.1 = .int .u64 (r.index : Int) ∧ ∃ da dc, z.2 = .slice da r.data.length dc ∧ Fr.Bs w1.heap.size w1 (.slice da r.data.length dc) r.data := by
    generalize s.2 = l at c3
    clear hm hla c1
    refine ⟨(List.range l.length).map fun j => if hj : j < l.length then (.int .u64 (l[j].index : Int), match la with | some a => (wr.cell? ⟨a.block, j * 2 + 1, none⟩).getD (.bool true) | none => .bool true) else (.bool true, .bool true), by simp, fun j r z hr hz => ?_⟩
    have hj := (List.getElem?_eq_some_iff.1 hr).1
    obtain ⟨hh, da, dc, rfl, q1, q2, q3⟩ := c3 j r hr
    rw [List.getElem?_map, List.getElem?_range hj] at hz
    simp only [Option.map_some, dif_pos hj, Option.some.injEq] at hz
    subst hz
    rw [List.getElem?_eq_getElem hj] at hr
    have hr := Option.some.inj hr
    have p1 := cell_but h.empty h.grown q1
    have p2 := cell_but h.empty h.grown q2
    dsimp only
    rw [p2, hr]
    exact ⟨⟨hh, rfl, p1, p2⟩, rfl, da, dc, rfl, q3⟩
  obtain ⟨zs, z1, z2⟩ := hex
  have hget : ∀ (i : Nat) (z : Value × Value), zs[i]? = some z → ∃ r, s.2[i]? = some r := fun i z hz => ⟨_, List.getElem?_eq_getElem (by have := (List.getElem?_eq_some_iff.1 hz).1; omega)⟩
  rw [← z1]
  obtain ⟨v', w', r1, r2, r3, r4⟩ := more_recs wr ty v ys zs la lc y1 (fun i z hz => by
      obtain ⟨r, hr⟩ := hget i z hz
      exact (z2 i r z hr hz).1) (fun z hz => by
      obtain ⟨i, hi⟩ := List.mem_iff_getElem?.1 hz
      obtain ⟨r, hr⟩ := hget i z hi
      obtain ⟨-, q1, da, dc, q2, -⟩ := z2 i r z hr hi
      rw [q1, q2]
      exact ⟨rfl, rfl⟩) (by omega) (by omega)
  refine ⟨v', w', r1, ⟨⟨_, r2, by rw [List.length_append, List.length_append]; omega, fun k r y hr hy => ?_⟩, fun k hk => ?_, ?_, h.empty⟩⟩
  · by_cases hk : k < rs.length
    · rw [List.getElem?_append_left hk] at hr
      rw [List.getElem?_append_left (by omega)] at hy
      exact y3 k r y hr hy
    · rw [List.getElem?_append_right (by omega)] at hr
      rw [List.getElem?_append_right (by omega), y2] at hy
      exact (z2 _ r y hr hy).2
  · rcases r4 k hk with h' | h'
    · exact h.own k h'
    · exact .inr (Nat.le_trans h.grown.size h')
  · refine ⟨r3.os.trans h.grown.os, r3.tape.trans h.grown.tape, r3.output.trans h.grown.output, Nat.le_trans h.grown.size r3.size, fun i hi hne => (r3.block i (Nat.lt_of_lt_of_le hi h.grown.size) (fun e => ?_)).trans (h.grown.block i hi hne)⟩
    rcases h.own i e.symm with rfl | h'
    · exact hne rfl
    · omega

theorem ReadAt.rd {B : Nat} {w1 : World} {v : Value} {rs : List Rec} {wr : World} (h : ReadAt B w1 v rs wr) : RecRd wr v rs := by
  obtain ⟨ys, y1, y2, y3⟩ := h.row
  obtain ⟨ao, cap, e, -⟩ := y1.shape
  refine ⟨ao, cap, by rw [e, y2], fun j r hr => ?_⟩
  have hj := (List.getElem?_eq_some_iff.1 hr).1
  have hy := List.getElem?_eq_getElem (l := ys) (i := j) (by omega)
  obtain ⟨q1, da, dc, q2, q3⟩ := y3 j r _ hr hy
  obtain ⟨g, cap', e', -, -, -, hc, -⟩ := y1.cells (by intro e; rw [e] at y2; simp at y2; omega)
  rw [e] at e'
  cases e'
  obtain ⟨p1, p2⟩ := hc j _ hy
  rw [q1] at p1
  rw [q2] at p2
  exact ⟨g, da, dc, rfl, p1, p2, fbs_but h.empty h.grown q3⟩

/-- The records that the document reads. -/
def rrecs (xs : List (Seg × Nat)) : List Rec := xs.flatMap fun x => (cutS x).recs
theorem rrecs_snoc {xs : List (Seg × Nat)} {i : Nat} {x : Seg × Nat} (h : xs[i]? = some x) : rrecs (xs.take (i + 1)) = rrecs (xs.take i) ++ (cutS x).recs := by
  have hl := (List.getElem?_eq_some_iff.1 h).1
  rw [List.getElem?_eq_getElem hl] at h
  rw [List.take_succ_eq_append_getElem hl, Option.some.inj h]
  simp [rrecs]
theorem RSt.total {fs : Files} {xs : List (Seg × Nat)} (h : RSt fs xs) : ∀ i, i ≤ xs.length → (rrecs (xs.take i)).length ≤ i * 100000
  | 0, _ => by simp [rrecs]
  | i + 1, hi => by
    have hx := List.getElem?_eq_getElem (l := xs) (i := i) (by omega)
    rw [rrecs_snoc hx, List.length_append]
    have h1 := h.total i (by omega)
    have h2 := (h.rd.small _ (List.mem_of_getElem? hx)).2
    have h3 : (cutS xs[i]).recs.length ≤ xs[i].1.recs.length := by show (List.take _ _).length ≤ _; rw [List.length_take]; omega
    omega

set_option maxHeartbeats 2000000 in
theorem rread_of (fs : Files) (xs : List (Seg × Nat)) (v : Value) (w : World) (hF : @Fv keepAll w v fs) (h : RSt fs xs) :
    Calls Tryz.prog 49 #[v] w fun e w' => ∃ ov, e = .returned ov ∧ RecRd w' ov (rrecs xs) ∧ Below w.heap.size w w' := by
  letI := keepAll
  have hb0 : Below w.heap.size w (w.alloc (.cells #[] 44)) := (Below.refl _ _).alloc (Nat.le_refl _) _
  have kS := refSegments_of fs xs v _ (hF.below hb0) h.fs h.rd h.mx
  have hB0 : (w.alloc (.cells #[] 44)).heap[w.heap.size]? = some (.cells #[] 44 (0, 0)) := heap_alloc_new w _
  have hlen := h.rd.few
  obtain ⟨ao, m, cap, rfl⟩ : ∃ ao m cap, v = .slice ao m cap := by
    obtain ⟨ao, cap, e⟩ := hF.shape
    exact ⟨_, _, _, e⟩
  generalize hT : (fun (e : Ending) (w' : World) => ∃ ov, e = .returned ov ∧ RecRd w' ov (rrecs xs) ∧ Below w.heap.size w w') = T
  have fin : Hid (∀ ov w', RecRd w' ov (rrecs xs) → Below w.heap.size w w' → T (.returned ov) w') := fun ov w' a b => by rw [← hT]; exact ⟨ov, rfl, a, b⟩
  clear hT
  go_enter Tryz.func49, Tryz.ntmps49
  go_wp2_with fail
  refine kS.mono ?_
  rintro e w1 ⟨ov, D, rfl, hO⟩
  clear kS
  have hR := hO.rd
  have hbw := hO.bel
  clear hO
  have hB1 : w1.heap[w.heap.size]? = some (.cells #[] 44 (0, 0)) := (hbw.block _ (Array.getElem?_eq_some_iff.1 hB0).1).trans hB0
  have hb1 : Below w.heap.size w w1 := hb0.trans (hbw.mono hb0.size)
  obtain ⟨oa, on, oc, hovE, hon, hG⟩ : ∃ oa on oc, ov = .slice oa on oc ∧ Hid (on = xs.length) ∧ Hid (∀ (k : Nat) (x : Seg × Nat), xs[k]? = some x → ∃ g, oa = some ⟨g, 0, none⟩ ∧ SgRd w1 g k (k, (cutS x).recs)) := by
    obtain ⟨oa, oc, e, hg⟩ := hR
    exact ⟨oa, _, oc, e, rsg_length xs, fun k x hx => hg k _ (rsg_get hx)⟩
  subst hovE
  have hst : ReadAt w.heap.size w1 (.slice (some ⟨w.heap.size, 0, none⟩) 0 0) [] w1 := ⟨⟨[], ⟨rfl, .inr ⟨w.heap.size, 0, #[], rfl, Nat.zero_le _, hB1, Nat.le_refl _, Nat.zero_le _, rfl, rfl⟩⟩, rfl, fun k r y hr => by simp at hr⟩, fun k hk => by cases hk; exact .inl rfl, ⟨rfl, rfl, rfl, Nat.le_refl _, fun _ _ _ => rfl⟩, hB1⟩
  have htot : Hid (∀ i, i ≤ xs.length → (rrecs (xs.take i)).length ≤ 100000000) := fun i hi => by have := h.total i hi; omega
  have hsml : Hid (∀ (k : Nat) (x : Seg × Nat), xs[k]? = some x → (cutS x).recs.length ≤ 1000000) := fun k x hx => h.rows _ (List.mem_of_getElem? (rsg_get hx))
  have hon2 : on < 20 := by rw [hon.out]; exact hlen
  clear hF h hR hB0 hb0 hbw hlen
  go_wp2
  go_loopg [3, 5] on (fun g s3 s5 wr => ∃ i : Nat, i + g = on ∧ s5 = .int .i64 (i : Int) ∧ ReadAt w.heap.size w1 s3 (rrecs (xs.take i)) wr)
  case atStart => exact ⟨0, by omega, rfl, hst⟩
  case round =>
    obtain ⟨i, hi, hs5, hr⟩ := hrel
    subst hs5
    clear hst
    obtain ⟨ra, rm, rc, hrE⟩ : ∃ ra rm rc, u3 = .slice ra rm rc := by
      obtain ⟨ys, y1, -⟩ := hr.row
      obtain ⟨a, c, e, -⟩ := y1.shape
      exact ⟨_, _, _, e⟩
    subst hrE
    by_cases hlt : i < on
    · have hlti : (i : Int) < (on : Int) := by omega
      have hx := List.getElem?_eq_getElem (l := xs) (i := i) (by rw [← hon.out]; exact hlt)
      generalize xs[i]'(by rw [← hon.out]; exact hlt) = x at *
      obtain ⟨g, rfl, hS⟩ := hG.out i x hx
      obtain ⟨-, la, lc, ea, ec, c1, -⟩ := id hS
      dsimp only at c1
      have c2' := cell_but hr.empty hr.grown c1
      have hgl := World.block_lt_of_cell? wr _ c2'
      dsimp only at hgl
      have hap := fun ty => hr.more hS (htot.out i (by rw [← hon.out]; omega)) (hsml.out i x hx) ty la lc c2'
      dsimp only at hap
      rw [← rrecs_snoc hx] at hap
      have hiH : Hid (i + gk = on) := hi
      clear hS hr c1 hx hi
      go_wp2_with (at_builtin; refine wp_by rfl _ _ _ rfl _ _ rfl rfl hap ?_)
      rintro v' w' hr'
      have hrH : Hid (ReadAt w.heap.size w1 v' (rrecs (xs.take (i + 1))) w') := hr'
      obtain ⟨ra', rm', rc', hrE⟩ : ∃ ra rm rc, v' = .slice ra rm rc := by
        obtain ⟨ys, y1, -⟩ := hr'.row
        obtain ⟨a, c, e, -⟩ := y1.shape
        exact ⟨_, _, _, e⟩
      subst hrE
      clear hr' hap c2'
      go_wp2
      go_roundg (on - (i + 1))
      case measure => have := hiH.out; omega
      case rel => exact ⟨i + 1, by omega, by go_num, hrH.out⟩
    · obtain rfl : i = on := by omega
      rw [List.take_of_length_le (by rw [hon.out]; exact Nat.le_refl _)] at hr
      have hbE : Below w.heap.size w wr := ⟨hr.grown.os.trans hb1.os, hr.grown.tape.trans hb1.tape, hr.grown.output.trans hb1.output, Nat.le_trans hb1.size hr.grown.size, fun j hj => (hr.grown.block j (Nat.lt_of_lt_of_le hj hb1.size) (fun e => by have := Option.some.inj e; omega)).trans (hb1.block j hj)⟩
      have hfin := fin.out _ _ hr.rd hbE
      clear hr fin hG htot hsml hbE
      go_wp2
      exact hfin
end Go.Proofs.YtgfoogeiancecaaGreatDoor

