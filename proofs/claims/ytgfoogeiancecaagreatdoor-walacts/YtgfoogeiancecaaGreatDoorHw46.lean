import Derived.Test.YtgfoogeiancecaaGreatDoorHw44
import Derived.Test.YtgfoogeiancecaaGreatDoorHw45
import Derived.Test.YtgfoogeiancecaaGreatDoorHw02
import Derived.Test.YtgfoogeiancecaaGreatDoorHw30
/- The contract of the document's own Segments. -/
namespace Go.Proofs.YtgfoogeiancecaaGreatDoor
open Go.RowKit WalMath DiskMath
set_option maxRecDepth 100000
set_option linter.unusedSimpArgs false
set_option linter.unusedVariables false

theorem numOf_digs : ∀ k acc n, numOf acc ((digs k n).map UInt8.ofNat) = acc * 10 ^ k + n % 10 ^ k
  | 0, acc, n => by simp [digs, numOf, Nat.mod_one]
  | k + 1, acc, n => by
    have hd : n / 10 ^ k % 10 < 10 := Nat.mod_lt _ (by decide)
    have e : acc * 10 ^ (k + 1) + n % 10 ^ (k + 1) = (acc * 10 + n / 10 ^ k % 10) * 10 ^ k + n % 10 ^ k := by
      rw [Nat.pow_succ, Nat.mod_mul, Nat.add_mul, Nat.mul_assoc, Nat.mul_comm 10 (10 ^ k), Nat.mul_comm (n / 10 ^ k % 10) (10 ^ k)]
      omega
    have hc : (UInt8.ofNat (48 + n / 10 ^ k % 10)).toNat = 48 + n / 10 ^ k % 10 := by
      rw [UInt8.toNat_ofNat', Nat.mod_eq_of_lt (by omega)]
    have hg : digit (48 + n / 10 ^ k % 10) = true := by simp [digit]; omega
    rw [digs, List.map_cons, numOf, hc, if_pos hg, show 48 + n / 10 ^ k % 10 - 48 = n / 10 ^ k % 10 by omega, numOf_digs k _ n, e]
theorem segNum_name {n : Nat} (hn : n < 100000000) : segNum (segName n) = n := by
  have hp : ((segName n).extract 0 4).toList = [119, 97, 108, 45] := by
    rw [ByteArray.toList_eq, ByteArray.data_extract, Array.toList_extract, segName_list]
    rfl
  unfold segNum
  rw [if_pos ⟨segName_size n, hp⟩, segName_list]
  show numOf 0 ((digs 8 n).map UInt8.ofNat) = n
  rw [numOf_digs, Nat.mod_eq_of_lt hn]
  omega

/-- What the document's Segments tells. -/
def rsg (xs : List (Seg × Nat)) : List (Nat × List Rec) := xs.mapIdx fun i x => (i, (cutS x).recs)
theorem rsg_length (xs : List (Seg × Nat)) : (rsg xs).length = xs.length := by simp [rsg]
theorem rsg_snoc {xs : List (Seg × Nat)} {i : Nat} {x : Seg × Nat} (h : xs[i]? = some x) : (rsg xs).take (i + 1) = (rsg xs).take i ++ [(i, (cutS x).recs)] := by
  have hi := (List.getElem?_eq_some_iff.1 h)
  obtain ⟨hi, rfl⟩ := hi
  rw [List.take_succ_eq_append_getElem (by rw [rsg_length]; exact hi)]
  simp [rsg]
/-- The Index that must follow; 0: any may. -/
def nxt (L : Nat) : Nat := if L = 0 then 0 else L + 1
def RSegsT (w : World) (xs : List (Seg × Nat)) (e : Ending) (w' : World) : Prop := ∃ ov D, e = .returned ov ∧ OutAt w.heap.size D w ov (rsg xs) w'

set_option maxHeartbeats 8000000 in
theorem refSegments_of (fs : Files) (xs : List (Seg × Nat)) (v : Value) (w : World) (hF : @Fv keepAll w v fs) (hs : SegFs fs (xs.map xfile)) (h : Rdl xs) (hmax : ∀ i, i < xs.length → lastIx 0 (xrecs (xs.take i)) + 1 < 18446744073709551616) : Calls Tryz.prog 29 #[v] w (RSegsT w xs) := by
  letI := keepAll
  obtain ⟨-, ao, cap, rfl, hc⟩ := id hF
  have hfl : fs.length = xs.length := by rw [hs.1, List.length_map]
  rw [hfl]
  have hlen := h.few
  have hst : OutAt w.heap.size (fun _ => False) w (.slice (some ⟨w.heap.size, 0, none⟩) 0 0) [] (w.alloc (.cells #[] 74)) := ⟨⟨[], rfl, ⟨rfl, .inr ⟨w.heap.size, 0, #[], rfl, Nat.zero_le _, heap_alloc_new w _, Nat.le_refl _, Nat.zero_le _, rfl, rfl⟩⟩, fun k s z hk => by simp at hk⟩, fun j hj => ⟨id, by cases hj; exact Nat.le_refl _, by cases hj; simp⟩, fun j hj => hj.elim, (Below.refl _ _).alloc (Nat.le_refl _) _⟩
  generalize hT : RSegsT w xs = T
  have fin : ∀ ov D wr, OutAt w.heap.size D w ov (rsg xs) wr → Hid (T (.returned ov) wr) := fun ov D wr hO => by rw [← hT]; exact ⟨ov, D, rfl, hO⟩
  clear hT
  go_enter Tryz.func29, Tryz.ntmps29
  go_wp2
  go_loopg [3, 4, 5, 6] xs.length (fun g s3 s4 s5 s6 wr => ∃ (i nx bf : Nat) (D : Nat → Prop), i + g = xs.length ∧ s6 = .int .i64 (i : Int) ∧ s4 = .int .u64 (nx : Int) ∧ s5 = .int .i64 (bf : Int) ∧ bf < 100000000 ∧ Hid (i < xs.length → nx = nxt (lastIx 0 (xrecs (xs.take i)))) ∧ Hid (∀ x, xs[i]? = some x → bf = 0 ∨ x.1.num = bf + 1) ∧ OutAt w.heap.size D w s3 ((rsg xs).take i) wr)
  case atStart => exact ⟨0, 0, 0, _, by simp, rfl, rfl, rfl, by omega, fun _ => rfl, fun _ _ => .inl rfl, hst⟩
  case round =>
    obtain ⟨i, nx, bf, D, hi, rfl, rfl, rfl, hbf, hnx, hbn, hO⟩ := hrel
    clear hst
    obtain ⟨oa, on, oc, hov⟩ : ∃ a n c, u3 = .slice a n c := by
      obtain ⟨_, _, a, _⟩ := hO.out
      rcases a.2 with ⟨e, _⟩ | ⟨_, _, _, e, _⟩ <;> exact ⟨_, _, _, e⟩
    subst hov
    by_cases hlt : i < xs.length
    · have hlti : (i : Int) < (xs.length : Int) := by omega
      have hx := List.getElem?_eq_getElem hlt
      have hf := List.getElem?_eq_getElem (l := fs) (i := i) (by omega)
      generalize xs[i] = x at *
      generalize fs[i]'(by omega) = f at *
      have hxm : x ∈ xs := List.mem_of_getElem? hx
      obtain ⟨hfn, hfd⟩ := hs.2 i f (xfile x) hf (by rw [List.getElem?_map, hx]; rfl)
      have hbw := hO.bel
      obtain ⟨b, off, sv, rfl, r0, r1, -, r3, -⟩ := hc i f hf
      rw [hfn] at r0
      rw [hfd] at r3
      have hgl := World.block_lt_of_cell? w _ r0
      have c0 : wr.cell? ⟨b, off + i * 3, none⟩ = some (.string (segName x.1.num)) := (hbw.cell (p := ⟨b, off + i * 3, none⟩) hgl).trans r0
      have hnum := h.big x hxm
      have kN := number_of (segName x.1.num) wr
      rw [segNum_name hnum.2] at kN
      have hn0 : ¬ (x.1.num : Int) = 0 := by omega
      have hn1 : ((x.1.num : Int) == 0) = false := by simp; omega
      obtain ⟨da, dc, hsv, hd2, hd3, -⟩ := id r3
      have hdE : Hid ((xfile x).2 = (joinR x.1.recs).take x.2) := rfl
      have hok := h.ok x hxm
      have hsm := h.small x hxm
      obtain ⟨J, hJ⟩ : ∃ J, Hid (J = cutN x.1.recs x.2) := ⟨_, rfl⟩
      have hJl : J ≤ x.1.recs.length := by rw [hJ.out]; exact cutN_le _ _
      obtain ⟨Dt, hDt⟩ : ∃ Dt, Hid (Dt = (xfile x).2) := ⟨_, rfl⟩
      rw [← hDt.out] at r3 hsv hd2
      have hDe : Hid (Dt = (joinR x.1.recs).take x.2) := hDt.out
      have hDl : Dt.length ≤ 100000 := by rw [hDe.out, List.length_take]; have := hsm.1; unfold sz at this; omega
      have hD8 : ∀ c ∈ Dt, c < 256 := fun c hc => by rw [hDe.out] at hc; exact joinR_byte hok c (List.mem_of_mem_take hc)
      have hone : Hid (∀ j r, j < J → x.1.recs[j]? = some r → WalMath.one (Dt.drop (sz (x.1.recs.take j))) = some (r, (recB r).length)) := fun j r hj hr => by rw [hDe.out]; exact one_at _ _ j r hok (by rw [← hJ.out]; exact hj) hr
      have hend : Hid (WalMath.one (Dt.drop (sz (x.1.recs.take J))) = none) := by show _ = _; rw [hDe.out, hJ.out]; exact one_end _ _ hok
      have hJs : sz (x.1.recs.take J) ≤ Dt.length := by
        rw [hDe.out, List.length_take, hJ.out]
        have h1 := cutN_sz x.1.recs x.2
        have h2 := sz_take_le x.1.recs (cutN x.1.recs x.2)
        unfold sz at h1 h2 ⊢
        omega
      have hlast : Hid (i + 1 < xs.length → sz (x.1.recs.take J) = Dt.length ∧ J = x.1.recs.length) := fun hi1 => by
        have hfu := h.full i x hx hi1
        have hJe : J = x.1.recs.length := by rw [hJ.out]; exact cutN_all _ _ hfu
        refine ⟨?_, hJe⟩
        rw [hJe, List.take_of_length_le (Nat.le_refl _), hDe.out, List.length_take]
        unfold sz at hfu ⊢
        omega
      have hcut : Hid ((cutS x).recs = x.1.recs.take J) := by show _ = _; rw [hJ.out]; rfl
      have hsn : Hid ((rsg xs).take (i + 1) = (rsg xs).take i ++ [(i, x.1.recs.take J)]) := by show _ = _; rw [rsg_snoc hx, hcut.out]
      have hsl : ((rsg xs).take i).length ≤ 1000000 := by rw [List.length_take, rsg_length]; omega
      obtain ⟨L, hL⟩ : ∃ L, Hid (L = lastIx 0 (xrecs (xs.take i))) := ⟨_, rfl⟩
      have hL1 : L + 1 < 18446744073709551616 := by rw [hL.out]; exact hmax i hlt
      have hch : Hid (chn L x.1.recs) := by show chn _ _; rw [hL.out]; exact h.at hx
      have hnx1 : Hid (nx = nxt L) := by show _ = _; rw [hL.out]; exact hnx.out hlt
      have hnext : Hid (i + 1 < xs.length → lastIx 0 (xrecs (xs.take (i + 1))) = lastIx L (x.1.recs.take J)) := fun hi1 => by
        rw [xrecs_snoc hx, lastIx_append, ← hL.out, (hlast.out hi1).2, List.take_of_length_le (Nat.le_refl _)]
      have hmx : Hid (i + 1 < xs.length → lastIx L (x.1.recs.take J) + 1 < 18446744073709551616) := fun hi1 => by rw [← hnext.out hi1]; exact hmax _ hi1
      have hbn2 : Hid (∀ y, xs[i + 1]? = some y → x.1.num = 0 ∨ y.1.num = x.1.num + 1) := fun y hy => .inr (h.num i x y hx hy)
      have hw0 : w.heap.size ≤ wr.heap.size := hbw.size
      have hI0 := hO.enter hw0 i
      have hb1 : Hid (bf = 0 ∨ x.1.num = bf + 1) := hbn.out x hx
      have hxH : Hid (xs[i]? = some x) := hx
      generalize hNum : x.1.num = num at *
      generalize hRs : x.1.recs = rs at *
      subst hsv
      have hbM : ∀ W, Below w.heap.size w W → W.cell? ⟨b, off + i * 3 + 1, none⟩ = some (.slice da Dt.length dc) := fun W hb => (hb.cell (p := ⟨b, off + i * 3 + 1, none⟩) hgl).trans r1
      clear hmax hc hs hF hO hnx hbn h hxm hx hf hdE hDt hDe hJ hL hRs hNum
      have hbfi : (bf : Int) + 1 < 9223372036854775807 := by omega
      have step1 : (bf = 0) ∨ (0 < bf ∧ num = bf + 1) := by have := hb1.out; omega
      go_wp2_with fail
      refine kN.mono ?_
      rintro e wq ⟨rfl, hwq⟩
      rw [hwq]
      clear hwq kN
      clear wq
      generalize hwo : wr = wo at *
      clear hwo
      have hJl2 : J ≤ rs.length := hJl
      have htk : ∀ j (hj : j < rs.length), rs.take (j + 1) = rs.take j ++ [rs[j]] := fun j hj => List.take_succ_eq_append_getElem hj
      have hgap : Hid (∀ j, j < J → sz (rs.take j) < Dt.length) := fun j hj => by
        have h1 := sz_take_mono rs (show j + 1 ≤ J by omega)
        rw [htk j (by omega), sz_append, sz_single] at h1
        have := recB_pos (rs[j]'(by omega))
        omega
      have hszJ : Hid (∀ j, j ≤ J → sz (rs.take j) ≤ Dt.length) := fun j hj => Nat.le_trans (sz_take_mono rs hj) hJs
      have hlx : Hid (∀ j (hj : j < rs.length), lastIx L (rs.take (j + 1)) = rs[j].index) := fun j hj => by rw [htk j hj, lastIx_append]; rfl
      have hchj : Hid (∀ j (hj : j < rs.length), lastIx L (rs.take j) = 0 ∨ rs[j].index = lastIx L (rs.take j) + 1) := fun j hj => by
        have h := hch.out
        rw [← List.take_append_drop j rs, chn_append, List.drop_eq_getElem_cons hj] at h
        exact h.2.1
      have hmaxJ : Hid (∀ j (hj : j < rs.length), j < J → rs[j].index + 1 = 18446744073709551616 → j + 1 = J ∧ i + 1 = xs.length) := fun j hj hjJ he => by
        have h1 : j + 1 = J := by
          rcases Nat.lt_or_ge (j + 1) J with h1 | h1
          · exfalso
            have h2 := hchj.out (j + 1) (by omega)
            rw [hlx.out j hj] at h2
            have h3 := (hok (rs[j + 1]'(by omega)) (List.getElem_mem _)).2.1
            omega
          · omega
        refine ⟨h1, ?_⟩
        rcases Nat.lt_or_ge (i + 1) xs.length with h2 | h2
        · exfalso
          have h3 := hmx.out h2
          rw [← h1, hlx.out j hj] at h3
          omega
        · omega
      have hallX : Hid (i + 1 = xs.length → (rsg xs).take i ++ [(i, rs.take J)] = rsg xs) := fun he => by
        rw [← hsn.out, List.take_of_length_le (by rw [rsg_length]; omega)]
      have hnum0 : 0 < num := hnum.1
      have hbfw : IntKind.i64.wrap ((bf : Int) + 1) = (bf : Int) + 1 := IntWalk.i64_in _ (by omega)
      have hcap : (xs.length : Int) ≤ 1000 := by omega
      clear htk hch hmx hcut hb1 hJs hJl hd2 c0 r0
      rcases step1 with hz | ⟨hp, hpn⟩
      all_goals
        first
          | (subst hz; go_wp2)
          | (have hp1 : (0 : Int) < (bf : Int) := by omega
             subst hpn
             clear hbfw hbfi hn1
             go_wp2)
        go_loopg [4, 9] J (fun g s4 s9 wz => ∃ (j nx' : Nat) (lv ev : Value) (D' : Nat → Prop), j + g = J ∧ s9 = .int .i64 (sz (rs.take j) : Int) ∧ s4 = .int .u64 (nx' : Int) ∧ Hid (nx' = nxt (lastIx L (rs.take j)) ∧ lastIx L (rs.take j) + 1 < 18446744073709551616) ∧ InAt w.heap.size D' w wo.heap.size i lv ev (.slice oa on oc) ((rsg xs).take i) (rs.take j) (endsOf (rs.take j)) wz)
        case atStart => exact ⟨0, nx, _, _, D, Nat.zero_add _, rfl, rfl, (by show _ ∧ _; rw [List.take_zero, show lastIx L [] = L from rfl]; exact ⟨hnx1.out, hL1⟩), hI0⟩
        case round =>
          obtain ⟨j, nx', lv, ev, D', hj, h9, h4, hnn, hI⟩ := hrel
          subst h9 h4
          have hdat := hbM _ hI.bel
          have hbx := hI.box
          have hsbl : wo.heap.size < wr.heap.size := (Array.getElem?_eq_some_iff.1 hbx).1
          have hle := hszJ.out j (by omega)
          obtain ⟨la, ln, lc, hlv⟩ : ∃ a n c, lv = .slice a n c := by
            obtain ⟨_, a, _⟩ := hI.recs
            obtain ⟨_, _, e, _⟩ := a.shape
            exact ⟨_, _, _, e⟩
          subst hlv
          obtain ⟨ea, en, ec, hev⟩ : ∃ a n c, ev = .slice a n c := by
            rcases hI.ends.2 with ⟨e, _⟩ | ⟨_, _, _, e, _⟩ <;> exact ⟨_, _, _, e⟩
          subst hev
          by_cases hat : sz (rs.take j) < Dt.length
          · have hati : (sz (rs.take j) : Int) < (Dt.length : Int) := by omega
            obtain ⟨db, doff, rfl⟩ : ∃ db doff, da = some ⟨db, doff, none⟩ := by
              obtain ⟨_, _, e0, _, _, _, h5⟩ := id r3
              cases e0
              obtain ⟨x1, x2, x3, _⟩ := h5 (List.length_pos_iff.1 (show 0 < Dt.length by omega))
              exact ⟨x1, x2, x3⟩
            have hBq := ((r3.below hI.bel).mono hI.bel.size).fr
            have hdrop := hBq.drop (sz (rs.take j)) hle
            have hdl2 : Dt.length ≤ dc := by obtain ⟨_, _, e0, x1, _⟩ := id r3; cases e0; exact x1
            rw [if_neg (show ¬ dc = sz (rs.take j) by omega)] at hdrop
            have hdl3 : (Dt.length : Int) ≤ (dc : Int) := by omega
            have hdl4 : (dc : Int) ≤ 9223372036854775807 := by unfold maxLen at hd3; omega
            have kO := Fr.refOne_of wr.heap.size _ _ wr hdrop (fun x hx => hD8 x (List.mem_of_mem_drop hx)) (Nat.le_refl _) (by rw [List.length_drop]; omega)
            by_cases hjJ : j < J
            · have hjr : j < rs.length := by omega
              have hri := List.getElem?_eq_getElem hjr
              have ho1 := hone.out j _ hjJ hri
              have hsnE : Hid (rs.take (j + 1) = rs.take j ++ [rs[j]]) := List.take_succ_eq_append_getElem hjr
              have hc1 : Hid (lastIx L (rs.take j) = 0 ∨ rs[j].index = lastIx L (rs.take j) + 1) := hchj.out j hjr
              have hl1 : Hid (lastIx L (rs.take (j + 1)) = rs[j].index) := hlx.out j hjr
              have hm1 : Hid (rs[j].index + 1 = 18446744073709551616 → j + 1 = J ∧ i + 1 = xs.length) := hmaxJ.out j hjr hjJ
              have hokr := hok rs[j] (List.getElem_mem hjr)
              have hsz1 := hszJ.out (j + 1) (by omega)
              rw [hsnE.out, sz_append, sz_single] at hsz1
              have hszE : Hid (sz (rs.take (j + 1)) = sz (rs.take j) + (recB rs[j]).length) := by show _ = _; rw [hsnE.out, sz_append, sz_single]
              have hesE : Hid (endsOf (rs.take (j + 1)) = endsOf (rs.take j) ++ [sz (rs.take j) + (recB rs[j]).length]) := by show _ = _; rw [hsnE.out, endsOf_snoc]
              generalize rs[j] = r at *
              have hrp := recB_pos r
              have hrlt : r.index < 18446744073709551616 := hokr.2.1
              have hrpos : 0 < r.index := hokr.1
              rw [ho1] at kO
              have hfol : nx' = 0 ∨ (0 < nx' ∧ r.index = nx') := by
                obtain ⟨g1, g2⟩ := hnn.out
                rcases hc1.out with g3 | g3
                · left; rw [g1, g3]; rfl
                · by_cases g4 : lastIx L (rs.take j) = 0
                  · left; rw [g1, g4]; rfl
                  · right
                    have : nx' = lastIx L (rs.take j) + 1 := by rw [g1]; unfold nxt; rw [if_neg g4]
                    omega
              have hjl3 : (rs.take j).length ≤ 1000000 := by rw [List.length_take]; have := hsm.2; omega
              have hIH : Hid (InAt w.heap.size D' w wo.heap.size i (.slice la ln lc) (.slice ea en ec) (.slice oa on oc) ((rsg xs).take i) (rs.take j) (endsOf (rs.take j)) wr) := hI
              have hallX2 : Hid (j + 1 = J → i + 1 = xs.length → (rsg xs).take i ++ [(i, rs.take (j + 1))] = rsg xs) := fun g1 g2 => by rw [g1]; exact hallX.out g2
              have hnxt : Hid (r.index + 1 = nxt (lastIx L (rs.take (j + 1)))) := by show _ = _; rw [hl1.out]; unfold nxt; rw [if_neg (by omega)]
              have hlp : Hid (r.index + 1 < 18446744073709551616 → lastIx L (rs.take (j + 1)) + 1 < 18446744073709551616) := fun g => by rw [hl1.out]; exact g
              have hjH : Hid (j + gk = J) := hj
              have hszn : (sz (rs.take j) : Int) + ((recB r).length : Int) ≤ 1000000 := by omega
              clear hI hbx hI0 hbM hdrop hBq hj ho1 hokr hri hok hsz1
              have hlei : (sz (rs.take j) : Int) ≤ (Dt.length : Int) := by omega
              have hkz : ¬ ((recB r).length : Int) = 0 := by omega
              have hkz2 : (((recB r).length : Int) == 0) = false := by rw [beq_eq_false_iff_ne]; omega
              generalize hatE : sz (rs.take j) = at_ at *
              generalize hkE : (recB r).length = k_ at *
              have hatH : Hid (sz (rs.take j) = at_) := hatE
              clear hatE hkE
              go_wp2_with fail
              refine kO.mono ?_
              rintro e w2 ⟨hb2, v2, rfl, hB2, hv2⟩
              obtain ⟨va, vc, hvE, -⟩ := id hB2
              subst hvE
              obtain ⟨W4, hW4⟩ : ∃ W4, w2.alloc (.cells #[.int .u64 (r.index : Int), .slice va r.data.length vc] 44) = W4 := ⟨_, rfl⟩
              have hbA : Below w2.heap.size w2 W4 := by rw [← hW4]; exact (Below.refl _ _).alloc (Nat.le_refl _) _
              have hb4 : Below wr.heap.size wr W4 := hb2.trans (hbA.mono hb2.size)
              have hI4 := hIH.out.settle hb4
              have hrb4 : W4.heap[w2.heap.size]? = some (.cells #[.int .u64 (r.index : Int), .slice va r.data.length vc] 44 (0, 0)) := by rw [← hW4]; exact heap_alloc_new w2 _
              have hB4 : Fr.Bs W4.heap.size W4 (.slice va r.data.length vc) r.data := (hB2.below hbA).mono hbA.size
              have hvD : ∀ q, (Value.slice va r.data.length vc).ownBlock = some q → (D' q ∨ (wr.heap.size ≤ q ∧ q < W4.heap.size)) := fun q hq => .inr ⟨(hv2 q hq).1, by have := (hv2 q hq).2; have := hbA.size; omega⟩
              have hap1 : ∀ ty, ∃ v' w', (Builtin.append_ #[72, 72] ty #[.slice la ln lc, .slice (some ⟨W4.heap.size, 0, none⟩) 1 1]).run Tryz.prog (W4.alloc (.cells #[.int .u64 (r.index : Int), .slice va r.data.length vc] 44)) = .ok v' w' ∧ Hid (∃ D5, InAt w.heap.size D5 w wo.heap.size i v' (.slice ea en ec) (.slice oa on oc) ((rsg xs).take i) (rs.take (j + 1)) (endsOf (rs.take j)) (w'.setCell ⟨wo.heap.size, 1, none⟩ v') ∧ w'.heap[wo.heap.size]? = some (.cells #[.int .i64 (i : Int), .slice la ln lc, .slice ea en ec] 74 (0, 0)) ∧ w'.heap[w2.heap.size]? = some (.cells #[.int .u64 (r.index : Int), .slice va r.data.length vc] 44 (0, 0)) ∧ ∃ a n c, v' = .slice a n c) := fun ty => by
                obtain ⟨v', w', g1, g2, g3, g4⟩ := hI4.recs.push r _ hB4 hvD (fun q hq => (hI4.lvD q hq).1) (fun q hq => (hI4.dN q hq).2) hjl3 ty
                obtain ⟨ys, y1, y2, y3⟩ := id g2
                obtain ⟨x1, x2, x3, -⟩ := y1.shape
                rw [← hsnE.out] at g2
                refine ⟨v', w', g1, _, hI4.pushRec g2 g3 g4 (fun q hq => y1.lt hq), (g3.block _ (by have := hb4.size; omega) (fun e => (hI4.lvD _ e.symm).2.1 rfl)).trans hI4.box, (g3.block _ (Array.getElem?_eq_some_iff.1 hrb4).1 (fun e => ?_)).trans hrb4, _, _, _, x3⟩
                have := (hIH.out.lvD _ e.symm).2.2.2
                have := hb2.size
                omega
              have r0 : W4.cell? ⟨w2.heap.size, 0, none⟩ = some (.int .u64 (r.index : Int)) := by rw [cells_of_block hrb4]; rfl
              have r1' : W4.cell? ⟨w2.heap.size, 1, none⟩ = some (.slice va r.data.length vc) := by rw [cells_of_block hrb4]; rfl
              have s1 : W4.cell? ⟨wo.heap.size, 1, none⟩ = some (.slice la ln lc) := by rw [cells_of_block hI4.box]; rfl
              have hsb2 : wo.heap.size < w2.heap.size := by have := hb2.size; omega
              have hwr2 : wr.heap.size ≤ w2.heap.size := hb2.size
              clear hI4 hrb4 hB4 hvD hb4 hbA hB2 hv2 kO hb2
              rcases hfol with hf0 | ⟨hf1, hf2⟩
              all_goals
                first
                  | subst hf0
                  | (have hf3 : ¬ (nx' : Int) = 0 := by omega
                     subst hf2)
                go_wp2_with (at_builtin; refine wp_by rfl _ _ _ rfl _ _ rfl rfl hap1 ?_)
                rintro v5 w5 hP5
                obtain ⟨⟨D5, hI5⟩, hx5, hr5, a5, n5, c5, rfl⟩ := hP5.out
                clear hap1 r0 r1' s1 hW4
                obtain ⟨W5, hW5⟩ : ∃ W5, w5.setCell ⟨wo.heap.size, 1, none⟩ (.slice a5 n5 c5) = W5 := ⟨_, rfl⟩
                rw [hW5] at hI5
                have t1 : w5.cell? ⟨wo.heap.size, 1, none⟩ = some (.slice la ln lc) := by rw [cells_of_block hx5]; rfl
                have t1f := frozen_of hx5 1
                have t2 : W5.cell? ⟨wo.heap.size, 2, none⟩ = some (.slice ea en ec) := by rw [cells_of_block hI5.box]; rfl
                have hr6 : W5.heap[w2.heap.size]? = some (.cells #[.int .u64 (r.index : Int), .slice va r.data.length vc] 44 (0, 0)) := by rw [← hW5, set_same 1 _ (by omega)]; exact hr5
                have hap2 : ∀ ty, ∃ v' w', (Builtin.append_ #[33, 33] ty #[.slice ea en ec, .slice (some ⟨W5.heap.size, 0, none⟩) 1 1]).run Tryz.prog (W5.alloc (.cells #[.int .i64 ((at_ : Int) + (k_ : Int))] 3)) = .ok v' w' ∧ Hid (∃ D6, InAt w.heap.size D6 w wo.heap.size i (.slice a5 n5 c5) v' (.slice oa on oc) ((rsg xs).take i) (rs.take (j + 1)) (endsOf (rs.take (j + 1))) (w'.setCell ⟨wo.heap.size, 2, none⟩ v') ∧ w'.heap[wo.heap.size]? = some (.cells #[.int .i64 (i : Int), .slice a5 n5 c5, .slice ea en ec] 74 (0, 0)) ∧ w'.heap[w2.heap.size]? = some (.cells #[.int .u64 (r.index : Int), .slice va r.data.length vc] 44 (0, 0)) ∧ ∃ a n c, v' = .slice a n c) := fun ty => by
                  obtain ⟨v', w', g1, g2, g3, g4⟩ := hI5.ends.push (at_ + k_) (by rw [endsOf_length]; exact hjl3) ty
                  rw [Int.natCast_add] at g1
                  rw [← hesE.out] at g2
                  obtain ⟨x1, x2, x3, x4⟩ : ∃ a n c, v' = .slice a n c := by
                    rcases g2.2 with ⟨e, _⟩ | ⟨_, _, _, e, _⟩ <;> exact ⟨_, _, _, e⟩
                  refine ⟨v', w', g1, _, hI5.pushEnd g2 g3 g4 (fun q hq => (World.ownsRow.lt g2 q hq).2), (g3.block _ (Array.getElem?_eq_some_iff.1 hI5.box).1 (fun e => (hI5.evD _ e.symm).2.1 rfl)).trans hI5.box, (g3.block _ (Array.getElem?_eq_some_iff.1 hr6).1 (fun e => ?_)).trans hr6, _, _, _, x4⟩
                  have := (hIH.out.evD _ e.symm).2.2.2.1
                  omega
                clear hI5 hx5 hr5 hr6 hP5
                go_wp2_with (at_builtin; refine wp_by rfl _ _ _ rfl _ _ rfl rfl hap2 ?_)
                rintro v6 w6 hP6
                obtain ⟨⟨D6, hI6⟩, hx6, hr7, a6, n6, c6, rfl⟩ := hP6.out
                clear hap2 t1 t1f t2 hW5
                obtain ⟨W6, hW6⟩ : ∃ W6, w6.setCell ⟨wo.heap.size, 2, none⟩ (.slice a6 n6 c6) = W6 := ⟨_, rfl⟩
                rw [hW6] at hI6
                have t3 : w6.cell? ⟨wo.heap.size, 2, none⟩ = some (.slice ea en ec) := by rw [cells_of_block hx6]; rfl
                have t3f := frozen_of hx6 2
                have t4 : W6.cell? ⟨w2.heap.size, 0, none⟩ = some (.int .u64 (r.index : Int)) := by
                  rw [← hW6, cells_of_block (show (w6.setCell ⟨wo.heap.size, 2, none⟩ (.slice a6 n6 c6)).heap[w2.heap.size]? = _ by rw [set_same 2 _ (by omega)]; exact hr7)]
                  rfl
                by_cases hmx : r.index + 1 = 18446744073709551616
                · obtain ⟨hjJ6, hiX6⟩ := hm1.out hmx
                  have hE6 := hallX2.out hjJ6 hiX6
                  have hap3 : ∀ ty, ∃ v' w', (Builtin.append_ #[67, 67] ty #[.slice oa on oc, .slice (some ⟨W6.heap.size, 0, none⟩) 1 1]).run Tryz.prog (W6.alloc (.cells #[.int .i64 (i : Int), .slice a5 n5 c5, .slice a6 n6 c6] 74)) = .ok v' w' ∧ Hid (T (.returned v') w') := fun ty => by
                    obtain ⟨v', w', g1, D2, g2⟩ := hI6.done hsl ty
                    rw [hE6] at g2
                    exact ⟨v', w', g1, fin _ _ _ g2⟩
                  have s0 : W6.cell? ⟨wo.heap.size, 0, none⟩ = some (.int .i64 (i : Int)) := by rw [cells_of_block hI6.box]; rfl
                  have s1 : W6.cell? ⟨wo.heap.size, 1, none⟩ = some (.slice a5 n5 c5) := by rw [cells_of_block hI6.box]; rfl
                  have s2 : W6.cell? ⟨wo.heap.size, 2, none⟩ = some (.slice a6 n6 c6) := by rw [cells_of_block hI6.box]; rfl
                  have hwr6 : IntKind.u64.wrap ((r.index : Int) + 1) = 0 := by rw [IntKind.wrap_u64]; omega
                  clear hI6 hx6 hr7 hP6 hmx hL1 hrlt hE6 hjJ6 hiX6 fin
                  (try clear hbfi)
                  (try clear hbfw)
                  go_wp2_with (at_builtin; refine wp_by rfl _ _ _ rfl _ _ rfl rfl hap3 ?_)
                  rintro v7 w7 hfin
                  clear hap3 s0 s1 s2
                  go_wp2
                  exact hfin.out
                · have hIH6 : Hid (InAt _ _ _ _ _ _ _ _ _ _ _ _) := hI6
                  have hlt6 : (r.index : Int) < 18446744073709551615 := by omega
                  have hmxH : Hid (r.index + 1 < 18446744073709551616) := by show _ < _; omega
                  have hne6 : ¬ (r.index : Int) + 1 = 0 := by omega
                  clear hI6 hx6 hr7 hP6 hmx hL1 hrlt
                  (try clear hbfi)
                  (try clear hbfw)
                  have hwr6 : IntKind.u64.wrap ((r.index : Int) + 1) = ((r.index + 1 : Nat) : Int) := by rw [IntKind.wrap_u64]; omega
                  have hne7 : ¬ ((r.index + 1 : Nat) : Int) = 0 := by omega
                  clear hne6 hlt6
                  generalize r.index + 1 = q6 at *
                  go_wp2
                  go_roundg (J - (j + 1))
                  case measure => have := hjH.out; omega
                  case rel => exact ⟨j + 1, _, _, _, D6, by have := hjH.out; omega, by rw [hszE.out]; go_num, by go_num, ⟨hnxt.out, hlp.out hmxH.out⟩, hIH6.out⟩
            · have hjJ : j = J := by omega
              have hiX : i + 1 = xs.length := by
                rcases Nat.lt_or_ge (i + 1) xs.length with h2 | h2
                · have := (hlast.out h2).1
                  rw [← hjJ] at this
                  omega
                · omega
              have hIJ : Hid (rs.take j = rs.take J) := by show _ = _; rw [hjJ]
              rw [hjJ, hend.out, ← hjJ] at kO
              have hW : ∀ w2, Below wr.heap.size wr w2 → Hid ((∀ ty, ∃ v' w', (Builtin.append_ #[67, 67] ty #[.slice oa on oc, .slice (some ⟨w2.heap.size, 0, none⟩) 1 1]).run Tryz.prog (w2.alloc (.cells #[.int .i64 (i : Int), .slice la ln lc, .slice ea en ec] 74)) = .ok v' w' ∧ Hid (T (.returned v') w')) ∧ w2.cell? ⟨wo.heap.size, 0, none⟩ = some (.int .i64 (i : Int)) ∧ w2.cell? ⟨wo.heap.size, 1, none⟩ = some (.slice la ln lc) ∧ w2.cell? ⟨wo.heap.size, 2, none⟩ = some (.slice ea en ec)) := fun w2 hb2 => by
                have hI2 := hI.below hb2
                refine ⟨fun ty => ?_, by rw [cells_of_block hI2.box]; rfl, by rw [cells_of_block hI2.box]; rfl, by rw [cells_of_block hI2.box]; rfl⟩
                obtain ⟨v', w', g1, D2, g2⟩ := hI2.done hsl ty
                rw [hIJ.out, hallX.out hiX] at g2
                exact ⟨v', w', g1, fin _ _ _ g2⟩
              clear hI hbx hI0 fin hbM hdrop hBq hiX hjJ hj hIJ
              have hlei : (sz (rs.take j) : Int) ≤ (Dt.length : Int) := by omega
              generalize sz (rs.take j) = at_ at *
              go_wp2_with fail
              refine kO.mono ?_
              rintro e w2 ⟨hb2, rfl⟩
              obtain ⟨W4, hW4⟩ : ∃ W4, w2.alloc (.cells #[.int .u64 0, .slice none 0 0] 44) = W4 := ⟨_, rfl⟩
              have hb4 : Below wr.heap.size wr W4 := by rw [← hW4]; exact hb2.alloc hb2.size _
              have hk4 : W4.heap[w2.heap.size]? = some recBox := by rw [← hW4]; exact heap_alloc_new w2 _
              obtain ⟨z0, z1, z2, z3⟩ := box_facts hk4
              obtain ⟨W5, hW5⟩ : ∃ W5, (W4.setCell ⟨w2.heap.size, 0, none⟩ (.int .u64 0)).setCell ⟨w2.heap.size, 1, none⟩ (.slice none 0 0) = W5 := ⟨_, rfl⟩
              have hb5 : Below wr.heap.size wr W5 := by rw [← hW5]; exact (hb4.setCell (p := ⟨w2.heap.size, 0, none⟩) hb2.size _).setCell (p := ⟨w2.heap.size, 1, none⟩) hb2.size _
              obtain ⟨hap, s0, s1, s2⟩ := (hW W5 hb5).out
              clear hW kO hb2 hb4 hb5 hk4
              go_wp2_with (at_builtin; refine wp_by rfl _ _ _ rfl _ _ rfl rfl hap ?_)
              rintro v' w' hfin
              clear hap s0 s1 s2 hW4 hW5 z0 z1 z2 z3
              go_wp2
              exact hfin.out
          · have hjJ : j = J := by
              rcases Nat.lt_or_ge j J with h1 | h1
              · exact absurd (hgap.out j h1) hat
              · omega
            have hati : ¬ (sz (rs.take j) : Int) < (Dt.length : Int) := by omega
            have hap := fun ty => hI.done hsl ty
            rw [hjJ] at hap
            have s0 : wr.cell? ⟨wo.heap.size, 0, none⟩ = some (.int .i64 (i : Int)) := by rw [cells_of_block hbx]; rfl
            have s1 : wr.cell? ⟨wo.heap.size, 1, none⟩ = some (.slice la ln lc) := by rw [cells_of_block hbx]; rfl
            have s2 : wr.cell? ⟨wo.heap.size, 2, none⟩ = some (.slice ea en ec) := by rw [cells_of_block hbx]; rfl
            clear hI hbx hI0 fin hbM
            rw [hjJ] at hati hnn ⊢
            generalize sz (rs.take J) = at_ at *
            go_wp2_with (at_builtin; refine wp_by rfl _ _ _ rfl _ _ rfl rfl hap ?_)
            rintro v' w' D2 hO2
            rw [← hsn.out] at hO2
            have hOH : Hid (OutAt w.heap.size D2 w v' ((rsg xs).take (i + 1)) w') := hO2
            clear hO2 hap s0 s1 s2
            go_wp2
            go_roundg (xs.length - (i + 1))
            case measure => omega
            case rel => exact ⟨i + 1, nx', _, D2, by omega, by go_num, rfl, (by first | rfl | go_num), hnum.2, (fun hi1 => by rw [hnext.out hi1]; exact hnn.out.1), hbn2, hOH.out⟩
    · have E : Hid ((rsg xs).take i = rsg xs) := List.take_of_length_le (by rw [rsg_length]; omega)
      have hlti : ¬ (i : Int) < (xs.length : Int) := by omega
      rw [E.out] at hO
      have hfin := fin _ _ _ hO
      clear fin hnx hbn hO
      go_wp2
      exact hfin.out
end Go.Proofs.YtgfoogeiancecaaGreatDoor

/- The document's segments as they are read; the contracts of its size, where and Sync. -/
namespace Go.Proofs.YtgfoogeiancecaaGreatDoor
open Go.RowKit WalMath DiskMath
set_option maxRecDepth 100000
set_option linter.unusedSimpArgs false
set_option linter.unusedVariables false

/-- One segment's three values, as they are read. -/
def SgRd (W : World) (g k : Nat) (s : Nat × List Rec) : Prop :=
  W.cell? ⟨g, k * 3, none⟩ = some (.int .i64 (s.1 : Int)) ∧ ∃ la lc ea ec, W.cell? ⟨g, k * 3 + 1, none⟩ = some (.slice la s.2.length lc) ∧ W.cell? ⟨g, k * 3 + 2, none⟩ = some (.slice ea s.2.length ec) ∧
    (∀ (j : Nat) (r : Rec), s.2[j]? = some r → ∃ h da dc, la = some ⟨h, 0, none⟩ ∧ W.cell? ⟨h, j * 2, none⟩ = some (.int .u64 (r.index : Int)) ∧ W.cell? ⟨h, j * 2 + 1, none⟩ = some (.slice da r.data.length dc) ∧ Fr.Bs W.heap.size W (.slice da r.data.length dc) r.data) ∧
    ∀ (j e : Nat), (endsOf s.2)[j]? = some e → ∃ h, ea = some ⟨h, 0, none⟩ ∧ W.cell? ⟨h, j, none⟩ = some (.int .i64 (e : Int))
/-- The document's segments, as they are read. -/
def SegRd (W : World) (ov : Value) (ss : List (Nat × List Rec)) : Prop :=
  ∃ ao cap, ov = .slice ao ss.length cap ∧ ∀ (k : Nat) (s : Nat × List Rec), ss[k]? = some s → ∃ g, ao = some ⟨g, 0, none⟩ ∧ SgRd W g k s

theorem SgRd.below {W W' : World} {g k : Nat} {s : Nat × List Rec} (h : SgRd W g k s) (hb : Below W.heap.size W W') : SgRd W' g k s := by
  obtain ⟨h1, la, lc, ea, ec, h2, h3, h4, h5⟩ := h
  have up : ∀ b o u, W.cell? ⟨b, o, none⟩ = some u → W'.cell? ⟨b, o, none⟩ = some u := fun b o u hu => (hb.cell (p := ⟨b, o, none⟩) (World.block_lt_of_cell? W _ hu)).trans hu
  refine ⟨up _ _ _ h1, la, lc, ea, ec, up _ _ _ h2, up _ _ _ h3, fun j r hr => ?_, fun j e he => ?_⟩
  · obtain ⟨h, da, dc, r1, r2, r3, r4⟩ := h4 j r hr
    exact ⟨h, da, dc, r1, up _ _ _ r2, up _ _ _ r3, (r4.below hb).mono hb.size⟩
  · obtain ⟨h, r1, r2⟩ := h5 j e he
    exact ⟨h, r1, up _ _ _ r2⟩
theorem SegRd.below {W W' : World} {ov : Value} {ss : List (Nat × List Rec)} (h : SegRd W ov ss) (hb : Below W.heap.size W W') : SegRd W' ov ss := by
  obtain ⟨ao, cap, e, h2⟩ := h
  refine ⟨ao, cap, e, fun k s hs => ?_⟩
  obtain ⟨g, r1, r2⟩ := h2 k s hs
  exact ⟨g, r1, r2.below hb⟩

theorem sgc_get : ∀ (zs : List (Nat × Value × Value)) (i : Nat) (z : Nat × Value × Value), zs[i]? = some z → (zs.flatMap sgc)[i * 3]? = some (.int .i64 (z.1 : Int)) ∧ (zs.flatMap sgc)[i * 3 + 1]? = some z.2.1 ∧ (zs.flatMap sgc)[i * 3 + 2]? = some z.2.2
  | [], i, z, h => by simp at h
  | y :: zs, 0, z, h => by
    simp only [List.getElem?_cons_zero, Option.some.injEq] at h
    subst h
    exact ⟨rfl, rfl, rfl⟩
  | y :: zs, i + 1, z, h => by
    obtain ⟨h1, h2, h3⟩ := sgc_get zs i z (by simpa using h)
    rw [List.flatMap_cons, show (i + 1) * 3 = i * 3 + 3 by omega]
    have e : ∀ j, (sgc y ++ zs.flatMap sgc)[i * 3 + 3 + j]? = (zs.flatMap sgc)[i * 3 + j]? := fun j => by
      rw [List.getElem?_append_right (by show 3 ≤ _; omega)]
      congr 1
      show i * 3 + 3 + j - 3 = _
      omega
    exact ⟨(e 0).trans h1, (e 1).trans h2, (e 2).trans h3⟩

theorem OutAt.rd {n : Nat} {D : Nat → Prop} {w : World} {ov : Value} {ss : List (Nat × List Rec)} {wr : World} (h : OutAt n D w ov ss wr) : SegRd wr ov ss := by
  obtain ⟨zs, h1, h2, h3⟩ := h.out
  have hsh : ∃ ao cap, ov = .slice ao ss.length cap := by
    rcases h2.2 with ⟨e, e0⟩ | ⟨g, cap, _, e, _⟩
    · exact ⟨none, 0, by rw [e, ← h1, e0]⟩
    · exact ⟨_, _, by rw [e, h1]⟩
  obtain ⟨ao, cap, rfl⟩ := hsh
  refine ⟨ao, cap, rfl, fun k s hs => ?_⟩
  have hk := (List.getElem?_eq_some_iff.1 hs).1
  have hz := List.getElem?_eq_getElem (l := zs) (i := k) (by omega)
  obtain ⟨g1, g2, g3, g4, g5⟩ := h3 k s _ hs hz
  obtain ⟨g, cp, e, _, hcell⟩ := row_cell h2 (by omega)
  rw [h1] at e
  cases e
  obtain ⟨c0, c1, c2⟩ := sgc_get zs k _ hz
  have d0 := hcell _ _ c0
  have d1 := hcell _ _ c1
  have d2 := hcell _ _ c2
  rw [Nat.zero_add] at d0 d1 d2
  obtain ⟨ys, y1, y2, y3⟩ := g2
  obtain ⟨la, lc, hla, -⟩ := y1.shape
  have hea : ∃ ea ec, (zs[k]'(by omega)).2.2 = .slice ea (endsOf s.2).length ec := by
    rcases g3.2 with ⟨e, e0⟩ | ⟨g', cap', _, e, _⟩
    · exact ⟨none, 0, by rw [e, e0]⟩
    · exact ⟨_, _, e⟩
  obtain ⟨ea, ec, hea⟩ := hea
  rw [hla, y2] at d1
  rw [hea, endsOf_length] at d2
  rw [g1] at d0
  refine ⟨g, rfl, d0, la, lc, ea, ec, d1, d2, fun j r hr => ?_, fun j x hx => ?_⟩
  · have hj := (List.getElem?_eq_some_iff.1 hr).1
    have hy := List.getElem?_eq_getElem (l := ys) (i := j) (by omega)
    obtain ⟨q1, q2, -⟩ := y3 j r _ hr hy
    obtain ⟨hb, cp', e', -, -, -, hc, -⟩ := y1.cells (by intro e; rw [e] at y2; simp at y2; omega)
    rw [hla] at e'
    cases e'
    obtain ⟨p1, p2⟩ := hc j _ hy
    obtain ⟨da, dc, hd, -⟩ := id q2
    rw [q1] at p1
    rw [hd] at p2 q2
    exact ⟨hb, da, dc, rfl, p1, p2, q2⟩
  · have hj := (List.getElem?_eq_some_iff.1 hx).1
    obtain ⟨hb, cp', e', -, hc⟩ := row_cell g3 (by omega)
    rw [hea] at e'
    cases e'
    have := hc j (.int .i64 (x : Int)) (by rw [List.getElem?_map, hx]; rfl)
    rw [Nat.zero_add] at this
    exact ⟨hb, rfl, this⟩

/-- How many bytes of a segment are records. -/
theorem rsize_of (w : World) (i : Int) (lv : Value) (ea : Option Addr) (n ec : Nat) (hl : ∃ a b c, lv = .slice a b c) (rs : List Rec) (hn : n = rs.length) (hlen : rs.length ≤ 1000000) (hE : ∀ (j e : Nat), (endsOf rs)[j]? = some e → ∃ h, ea = some ⟨h, 0, none⟩ ∧ w.cell? ⟨h, j, none⟩ = some (.int .i64 (e : Int))) :
    Calls Tryz.prog 43 #[.agg #[.int .i64 i, lv, .slice ea n ec]] w fun e w' => e = .returned (.int .i64 (sz rs : Int)) ∧ Below w.heap.size w w' := by
  obtain ⟨la, ln, lc, rfl⟩ := hl
  have a1 := (Below.refl w.heap.size w).alloc (Nat.le_refl _) (.cells #[.int .i64 i, .slice la ln lc, .slice ea n ec] 74)
  rcases Nat.eq_zero_or_pos n with h0 | h0
  · subst h0
    obtain rfl : rs = [] := List.eq_nil_of_length_eq_zero hn.symm
    clear hE hlen hn
    rw [show sz [] = 0 from rfl]
    go_enter Tryz.func43, Tryz.ntmps43
    go_wp2
    go_ret
    exact ⟨rfl, a1⟩
  · obtain ⟨m, rfl⟩ : ∃ m, n = m + 1 := ⟨n - 1, by omega⟩
    have hlast : (endsOf rs)[m]? = some (sz rs) := by
      have hne : rs ≠ [] := by rintro rfl; simp at hn
      have e := List.dropLast_concat_getLast hne
      have hl2 : (rs.dropLast).length = m := by rw [List.length_dropLast]; omega
      rw [← e, endsOf_snoc, List.getElem?_append_right (by rw [endsOf_length]; omega), endsOf_length, hl2, Nat.sub_self, sz_append, sz_single]
      rfl
    obtain ⟨h, rfl, hc⟩ := hE m _ hlast
    have hhl := World.block_lt_of_cell? w _ hc
    dsimp only at hhl
    have hmb : (m : Int) ≤ 1000000 := by omega
    generalize sz rs = S at *
    clear hE hlast hn
    go_enter Tryz.func43, Tryz.ntmps43
    go_wp2
    go_ret
    exact ⟨rfl, a1⟩
end Go.Proofs.YtgfoogeiancecaaGreatDoor

/- The contracts of the document's Sync and where. -/
namespace Go.Proofs.YtgfoogeiancecaaGreatDoor
open Go.RowKit WalMath DiskMath
set_option maxRecDepth 100000
set_option linter.unusedSimpArgs false
set_option linter.unusedVariables false

/-- What stands for the premises of the document's Segments. -/
structure RSt (fs : Files) (xs : List (Seg × Nat)) : Prop where
  fs : SegFs fs (xs.map xfile)
  rd : Rdl xs
  mx : ∀ i, i < xs.length → lastIx 0 (xrecs (xs.take i)) + 1 < 18446744073709551616

theorem RSt.len {fs : Files} {xs : List (Seg × Nat)} (h : RSt fs xs) : fs.length = xs.length := by rw [h.fs.1, List.length_map]

/-- The files behind the document's Sync. -/
def rsyncF (fs : Files) (xs : List (Seg × Nat)) : Files := match xs.getLast? with | none => fs | some x => (dSync fs (segName x.1.num)).1

set_option maxHeartbeats 1000000 in
theorem rsync_of [Keep] (fs : Files) (xs : List (Seg × Nat)) (v : Value) (w : World) (hF : Fv w v fs) (h : RSt fs xs) :
    Calls Tryz.prog 9 #[v] w fun e w' => ∃ ov, e = .returned ov ∧ Fv w' ov (rsyncF fs xs) ∧ Below w.heap.size w w' := by
  have kS := refSegments_of fs xs v w (hF.imp (fun _ _ _ => trivial) (Nat.zero_le _)) h.fs h.rd h.mx
  have hlen := h.rd.few
  have hfl := h.len
  have hFb : ∀ w', Below w.heap.size w w' → Fv w' v fs := fun w' hb => hF.below hb
  have kY : ∀ w' n, Below w.heap.size w w' → Calls Tryz.prog 30 #[v, .string n] w' (Told w' (dSync fs n)) := fun w' n hb => sync_of fs n v w' (hF.below hb) (by omega)
  obtain ⟨ao, m, cap, rfl, h2⟩ : ∃ ao m cap, v = .slice ao m cap ∧ Hid (∀ (i : Nat) (f : File), fs[i]? = some f → ∃ b off sv, ao = some ⟨b, off, none⟩ ∧ i < m ∧ w.cell? ⟨b, off + i * 3, none⟩ = some (.string f.name)) := by
    obtain ⟨hf, ao, cap, rfl, h2⟩ := id hF
    refine ⟨_, _, _, rfl, fun i f hi => ?_⟩
    obtain ⟨b, off, sv, r1, r2, -⟩ := h2 i f hi
    exact ⟨b, off, sv, r1, (List.getElem?_eq_some_iff.1 hi).1, r2⟩
  have hflH : Hid (fs.length = xs.length) := hfl
  clear hfl
  obtain ⟨R, HR⟩ : ∃ R, Hid (R = rsyncF fs xs) := ⟨_, rfl⟩
  rw [← HR.out]
  go_enter Tryz.func9, Tryz.ntmps9
  go_wp2_with fail
  refine kS.mono ?_
  rintro e w1 ⟨ov, D, rfl, hO⟩
  have hR := hO.rd
  have hbw := hO.bel
  obtain ⟨oa, oc, rfl, hG⟩ := hR
  rw [rsg_length]
  have hF1 := hFb w1 hbw
  have kY1 := fun n => kY w1 n hbw
  rcases Nat.eq_zero_or_pos xs.length with h0 | h0
  · have E : Hid (R = fs) := by show _ = _; rw [HR.out]; unfold rsyncF; rw [List.eq_nil_of_length_eq_zero h0]; rfl
    rw [h0]
    clear kS kY hFb hG h2 hF hO HR h hlen hflH h0 kY1
    go_wp2
    go_ret
    exact ⟨_, rfl, by rw [E.out]; exact hF1, by assumption⟩
  · obtain ⟨k, hk⟩ : ∃ k, xs.length = k + 1 := ⟨xs.length - 1, by omega⟩
    have hkx := List.getElem?_eq_getElem (l := xs) (i := k) (by omega)
    have hkf := List.getElem?_eq_getElem (l := fs) (i := k) (by rw [hflH.out]; omega)
    generalize xs[k]'(by omega) = x at *
    generalize fs[k]'(by rw [hflH.out]; omega) = f at *
    have E : Hid (R = (dSync fs (segName x.1.num)).1) := by show _ = _; rw [HR.out]; unfold rsyncF; rw [List.getLast?_eq_getElem?, hk, Nat.add_sub_cancel, hkx]
    obtain ⟨g, rfl, hg⟩ := hG k (k, (cutS x).recs) (by rw [rsg, List.getElem?_mapIdx, hkx]; rfl)
    obtain ⟨b, off, sv, rfl, hkm, q0⟩ := h2 k f hkf
    rw [(h.fs.2 k f (xfile x) hkf (by rw [List.getElem?_map, hkx]; rfl)).1] at q0
    have q1 := (hbw.cell (p := ⟨b, off + k * 3, none⟩) (World.block_lt_of_cell? w _ q0)).trans q0
    have q2 := hg.1
    dsimp only at q2
    have kY2 := kY1 (segName x.1.num)
    have hl1 := World.block_lt_of_cell? w1 _ q1
    have hl2 := World.block_lt_of_cell? w1 _ q2
    dsimp only at hl1 hl2
    rw [hk]
    have hk2 : k < 20 := by omega
    obtain ⟨nm, hnm⟩ : ∃ nm, Hid (nm = segName x.1.num) := ⟨_, rfl⟩
    change w1.cell? ⟨b, off + k * 3, none⟩ = some (.string (segName x.1.num)) at q1
    rw [← hnm.out] at q1 kY2 E
    clear kS kY hFb hG h2 hF hO HR h hlen hflH h0 kY1 hg hk hkx hkf q0 hnm
    have hkmi : (k : Int) < (m : Int) := by omega
    go_wp2_with fail
    refine kY2.mono ?_
    rintro e w2 ⟨lv, rfl, hF2, hb2⟩
    have hb3 := hbw.trans (hb2.mono hbw.size)
    clear kY2 q1 q2 hl1 hl2 hF1
    obtain ⟨la, lc, rfl⟩ := hF2.shape
    go_wp2
    go_ret
    exact ⟨_, rfl, by rw [E.out]; exact hF2, hb3⟩
end Go.Proofs.YtgfoogeiancecaaGreatDoor

/- The contract of the document's where. -/
namespace Go.Proofs.YtgfoogeiancecaaGreatDoor
open Go.RowKit WalMath DiskMath
set_option maxRecDepth 100000
set_option linter.unusedSimpArgs false
set_option linter.unusedVariables false

/-- What the document's where tells: a place of the record, or none. -/
def WhrT (ss : List (Nat × List Rec)) (ix : Nat) (e : Ending) : Prop :=
  (∃ (i k : Nat) (s : Nat × List Rec) (r : Rec), ss[i]? = some s ∧ s.2[k]? = some r ∧ r.index = ix ∧ e = .returned (.tuple #[.int .i64 (i : Int), .int .i64 (k : Int)])) ∨
  ((∀ (i : Nat) (s : Nat × List Rec), ss[i]? = some s → ∀ (k : Nat) (r : Rec), s.2[k]? = some r → r.index ≠ ix) ∧ e = .returned (.tuple #[.int .i64 (-1), .int .i64 0]))

set_option maxHeartbeats 1000000 in
theorem where_of (ss : List (Nat × List Rec)) (ix : Nat) (v : Value) (w : World) (hG : SegRd w v ss) (hl : ss.length ≤ 1000) (hr : ∀ s ∈ ss, s.2.length ≤ 1000000) :
    Calls Tryz.prog 33 #[v, .int .u64 (ix : Int)] w fun e w' => WhrT ss ix e ∧ w' = w := by
  obtain ⟨ao, cap, rfl, h2⟩ := hG
  generalize hT : (fun e (w' : World) => WhrT ss ix e ∧ w' = w) = T
  have finY : Hid (∀ (i k : Nat) (s : Nat × List Rec) (r : Rec), ss[i]? = some s → s.2[k]? = some r → r.index = ix → T (.returned (.tuple #[.int .i64 (i : Int), .int .i64 (k : Int)])) w) := fun i k s r a b c => by rw [← hT]; exact ⟨.inl ⟨i, k, s, r, a, b, c, rfl⟩, rfl⟩
  have finN : Hid ((∀ (i : Nat) (s : Nat × List Rec), ss[i]? = some s → ∀ (k : Nat) (r : Rec), s.2[k]? = some r → r.index ≠ ix) → T (.returned (.tuple #[.int .i64 (-1), .int .i64 0])) w) := fun a => by rw [← hT]; exact ⟨.inr ⟨a, rfl⟩, rfl⟩
  clear hT
  go_enter Tryz.func33, Tryz.ntmps33
  go_wp2
  go_loopg [6] ss.length (fun g s6 wr => ∃ i : Nat, i + g = ss.length ∧ s6 = .int .i64 (i : Int) ∧ Hid (∀ (j : Nat) (s : Nat × List Rec), j < i → ss[j]? = some s → ∀ (k : Nat) (r : Rec), s.2[k]? = some r → r.index ≠ ix) ∧ wr = w)
  case atStart => exact ⟨0, by simp, rfl, (fun j s h => by omega), rfl⟩
  case round =>
    obtain ⟨i, hi, rfl, hno, rfl⟩ := hrel
    by_cases hlt : i < ss.length
    · have hlti : (i : Int) < (ss.length : Int) := by omega
      have hs := List.getElem?_eq_getElem hlt
      generalize ss[i] = s at *
      have hsl := hr s (List.mem_of_getElem? hs)
      obtain ⟨g, rfl, c0, la, lc, ea, ec, c1, c2, hrec, -⟩ := h2 i s hs
      have hgl := World.block_lt_of_cell? wr _ c0
      dsimp only at hgl
      have hsH : Hid (ss[i]? = some s) := hs
      have hiH : Hid (i + gk = ss.length) := hi
      clear hs h2 hr c0 c2 hi
      go_wp2
      go_loopg [7] s.2.length (fun g5 s7 wz => ∃ k : Nat, k + g5 = s.2.length ∧ s7 = .int .i64 (k : Int) ∧ Hid (∀ (j : Nat) (r : Rec), j < k → s.2[j]? = some r → r.index ≠ ix) ∧ wz = wr)
      case atStart => exact ⟨0, by simp, rfl, (fun j s h => by omega), rfl⟩
      case round =>
        obtain ⟨k, hk, rfl, hno2, hwz⟩ := hrel
        subst hwz
        by_cases hkl : k < s.2.length
        · have hkli : (k : Int) < (s.2.length : Int) := by omega
          have hrk := List.getElem?_eq_getElem hkl
          generalize s.2[k] = r at *
          obtain ⟨b, da, dc, rfl, q0, -⟩ := hrec k r hrk
          have hbl := World.block_lt_of_cell? wr _ q0
          dsimp only at hbl
          have hkH : Hid (k + gk = s.2.length) := hk
          by_cases he : r.index = ix
          · have hfin := finY.out i k s r hsH.out hrk he
            have hei : (r.index : Int) = (ix : Int) := by omega
            rw [he] at q0
            clear hei he hrk hrec hno2 hno finN finY hk
            go_wp2
            exact hfin
          · have hei : ¬ (r.index : Int) = (ix : Int) := by omega
            have hno3 : Hid (∀ (j : Nat) (r : Rec), j < k + 1 → s.2[j]? = some r → r.index ≠ ix) := fun j r' hj hr' => by
              rcases Nat.lt_succ_iff_lt_or_eq.1 hj with hj | hj
              · exact hno2.out j r' hj hr'
              · subst hj
                rw [hrk] at hr'
                cases hr'
                exact he
            clear he hrk hrec hno2 hk
            go_wp2
            go_roundg (s.2.length - (k + 1))
            case measure => have := hkH.out; omega
            case rel => exact ⟨k + 1, by omega, by go_num, hno3, rfl⟩
        · have hkli : ¬ (k : Int) < (s.2.length : Int) := by omega
          have hno3 : Hid (∀ (j : Nat) (t : Nat × List Rec), j < i + 1 → ss[j]? = some t → ∀ (k : Nat) (r : Rec), t.2[k]? = some r → r.index ≠ ix) := fun j t hj ht => by
            rcases Nat.lt_succ_iff_lt_or_eq.1 hj with hj | hj
            · exact hno.out j t hj ht
            · subst hj
              rw [hsH.out] at ht
              cases ht
              exact fun k' r' hr' => hno2.out k' r' (by have := (List.getElem?_eq_some_iff.1 hr').1; omega) hr'
          clear hrec hno2 hno
          go_wp2
          go_roundg (ss.length - (i + 1))
          case measure => have := hiH.out; omega
          case rel => exact ⟨i + 1, by omega, by go_num, hno3, rfl⟩
    · have hlti : ¬ (i : Int) < (ss.length : Int) := by omega
      have hfin := finN.out (fun j s hj => hno.out j s (by have := (List.getElem?_eq_some_iff.1 hj).1; omega) hj)
      clear finN finY hno h2 hr
      go_wp2
      exact hfin
end Go.Proofs.YtgfoogeiancecaaGreatDoor

