import Derived.Test.YtebkfkijlopmoaaHo29
import Derived.Test.YtebkfkijlopmoaaHo31
/- The program's Put. -/
namespace Go.Proofs.Ytebkfkijlopmoaa
open Go.RowKit SessionMath
set_option maxRecDepth 100000
set_option linter.unusedSimpArgs false
set_option linter.unusedVariables false

theorem wanted_none {o : Oper} {y : Nat → Option Bool} (h : o.guard = none) : Region.wanted o y = true := by
  unfold Region.wanted
  rw [h]
/-- What Put tells. -/
def PutT (m : List Ms × Int) (e : Ending) (w' : World) : Prop := ∃ v zs', e = .returned (.tuple #[v, .int .i64 m.2]) ∧ SeatsV w' v zs' ∧ mes zs' = m.1
theorem put_may {l : List Ms} {s : Ms} (h : mayB l = false) : putM l s = ([], 1) := by simp [putM, h]
theorem put_seat {l : List Ms} {s : Ms} (h : seatB s = false) : putM l s = ([], 1) := by simp [putM, h]
theorem put_new {l : List Ms} {s : Ms} (h1 : mayB l = true) (h2 : seatB s = true) (h : newB l s.cl s.sq = true) : putM l s = (keptM l s, 0) := by simp [putM, h1, h2, h]
theorem put_old {l : List Ms} {s : Ms} (h1 : mayB l = true) (h2 : seatB s = true) (h : newB l s.cl s.sq = false) : putM l s = ([], 7) := by simp [putM, h1, h2, h]
theorem rd_back {w : World} {ao : Option Addr} {n cap : Nat} {xs : List Sz} (h : Rd seatE w (.slice ao n cap) xs) {k : Nat} (hk : k ≤ xs.length) : Rd seatE w (.slice (if cap = k then ao else ao.map (fun x => x.add (k * 3))) (n - k) (cap - k)) (xs.drop k) := by
  cases ao with
  | none =>
    obtain ⟨ao', cap', e, h0, h1, h2⟩ := h
    cases e
    have := h1 rfl
    subst this
    obtain rfl : xs = [] := List.eq_nil_of_length_eq_zero (by omega)
    obtain rfl : k = 0 := by simpa using hk
    exact ⟨none, 0, by simp, by simp, fun _ => rfl, fun i x j u hx => by simp at hx⟩
  | some ad =>
    by_cases hn : xs.length = 0
    · obtain rfl : xs = [] := List.eq_nil_of_length_eq_zero hn
      obtain rfl : k = 0 := by simpa using hk
      obtain ⟨ao', cap', e, h0, h1, h2⟩ := h
      cases e
      exact ⟨if cap = 0 then some ad else (some ad).map (fun x => x.add (0 * 3)), cap - 0, rfl, by simp, (by split <;> simp), fun i x j u hx => by simp at hx⟩
    · obtain ⟨b, off, e, -⟩ := rds_at h (List.getElem?_eq_getElem (show 0 < xs.length by omega))
      obtain rfl := Option.some.inj e
      have h9 := Rd.back h hk
      rw [show (Option.map (fun x => Addr.add x (k * 3)) (some (⟨b, off, none⟩ : Addr))) = some ⟨b, off + k * 3, none⟩ by simp [Addr.add_lit]]
      exact h9

set_option maxHeartbeats 4000000 in
theorem put_of (zs : List Sz) (lv rv : Value) (c : Int) (q : Nat) (r : List Nat) (w : World) (hL : SeatsV w lv zs) (hR : Bn w rv r) (hok : ∀ z ∈ zs, SzOk z) (hlen : zs.length ≤ 1000000) (hq : q < 18446744073709551616) (hrl : r.length ≤ 1000000) : Calls Try.prog 13 #[lv, .agg #[.int .i64 c, .int .u64 (q : Int)], rv] w fun e w' => PutT (putM (mes zs) ⟨c, q, r⟩) e w' ∧ Below w.heap.size w w' := by
  obtain ⟨T, HT⟩ : ∃ T, Hid (T = PutT (putM (mes zs) ⟨c, q, r⟩)) := ⟨_, rfl⟩
  rw [← HT.out]
  obtain ⟨hsz, hb0, cl⟩ := id_box w c q
  obtain ⟨c0, c1⟩ := cl _ (Below.refl _ _)
  obtain ⟨ra, rc, rfl⟩ := hR.shape
  have ks := seat_of c q (ra, r.length, rc) (w.alloc (.cells #[.int .i64 c, .int .u64 (q : Int)] 25))
  dsimp only at ks
  rw [hsz] at ks
  have kc : ∀ W, Below w.heap.size w W → _ := fun W hW => check_of zs lv W (hL.below hW) hlen
  have km := fun W => mayBe_of (⟨c, q, r⟩, ra, r.length, rc) W rfl
  dsimp only [ev] at km
  have HL : Hid (SeatsV w lv zs) := hL
  have HR : Hid (Bn w (.slice ra r.length rc) r) := hR
  have HOK : Hid (∀ z ∈ zs, SzOk z) := hok
  obtain ⟨ao, cap, rfl, hcap, hcn⟩ := hL.1.shape
  clear hL hR hok
  have hbw : ∀ W, Below (w.heap.size + 1) (w.alloc (.cells #[.int .i64 c, .int .u64 (q : Int)] 25)) W → Below w.heap.size w W := fun W hW => hb0.trans (hW.mono (Nat.le_succ _))
  have hszr : Hid (w.heap.size + 1 ≤ (w.alloc (.cells #[.int .i64 c, .int .u64 (q : Int)] 25)).heap.size) := by show _ ≤ _; omega
  cases hm : mayB (mes zs) with
  | false =>
    rw [hm] at kc
    simp only [Bool.false_eq_true, if_false] at kc
    have E : Hid (∀ W, T (.returned (.tuple #[.slice none 0 0, .int .i64 1])) W) := fun W => by rw [HT.out, put_may hm]; exact ⟨_, [], rfl, SeatsV.nil _, rfl⟩
    clear HT HL HR HOK hm cl km
    go_enter Try.func13, Try.ntmps13
    go_wp2_with fail
    refine ks.mono ?_
    rintro e w1 ⟨rfl, hb1⟩
    obtain ⟨hsz2, hbx2, cl2⟩ := st_box w1 (⟨c, q, r⟩, ra, r.length, rc)
    dsimp only [ec] at hsz2 hbx2 cl2
    have hb02 := keep_step hb1 hszr.out hbx2
    have hPw : Hid (w.heap.size + 1 ≤ w1.heap.size + 1) := by show _ ≤ _; have h8 := hszr.out; have h9 := hb1.size; omega
    have kc2 := kc _ (hbw _ hb02)
    rw [hsz2] at kc2
    have hsz2r : Hid (w1.heap.size + 1 ≤ (w1.alloc (.cells #[.int .i64 c, .int .u64 (q : Int), .slice ra r.length rc] 49)).heap.size) := by show _ ≤ _; omega
    obtain ⟨x0, x1, x2⟩ := cl2 _ (Below.refl _ _)
    clear ks kc c0 c1 hb1
    go_wp2_with fail
    generalize hP : w1.heap.size = P at *
    generalize w1.alloc (.cells #[.int .i64 c, .int .u64 (q : Int), .slice ra r.length rc] 49) = w2 at *
    clear hP
    refine kc2.mono ?_
    rintro e w3 ⟨rfl, hb3⟩
    have hb03 : Below (w.heap.size + 1) _ w3 := hb02.trans (hb3.mono hPw.out)
    clear kc2 hb3 hb02
    go_wp2
    go_ret2
    exact ⟨E.out _, hbw _ hb03⟩
  | true =>
    rw [hm] at kc
    simp only [if_true] at kc
    have HM : Hid (mayB (mes zs) = true) := hm
    clear hm
    cases hs : seatB ⟨c, q, r⟩ with
    | false =>
      have E : Hid (∀ W, T (.returned (.tuple #[.slice none 0 0, .int .i64 1])) W) := fun W => by rw [HT.out, put_seat hs]; exact ⟨_, [], rfl, SeatsV.nil _, rfl⟩
      rw [hs] at km
      clear HT HL HR HOK HM hs
      go_enter Try.func13, Try.ntmps13
      go_wp2_with fail
      refine ks.mono ?_
      rintro e w1 ⟨rfl, hb1⟩
      obtain ⟨hsz2, hbx2, cl2⟩ := st_box w1 (⟨c, q, r⟩, ra, r.length, rc)
      dsimp only [ec] at hsz2 hbx2 cl2
      have hb02 := keep_step hb1 hszr.out hbx2
      have hPw : Hid (w.heap.size + 1 ≤ w1.heap.size + 1) := by show _ ≤ _; have h8 := hszr.out; have h9 := hb1.size; omega
      have kc2 := kc _ (hbw _ hb02)
      rw [hsz2] at kc2
      have hsz2r : Hid (w1.heap.size + 1 ≤ (w1.alloc (.cells #[.int .i64 c, .int .u64 (q : Int), .slice ra r.length rc] 49)).heap.size) := by show _ ≤ _; omega
      obtain ⟨x0, x1, x2⟩ := cl2 _ (Below.refl _ _)
      clear ks kc c0 c1 hb1
      go_wp2_with fail
      generalize hP : w1.heap.size = P at *
      generalize w1.alloc (.cells #[.int .i64 c, .int .u64 (q : Int), .slice ra r.length rc] 49) = w2 at *
      clear hP
      refine kc2.mono ?_
      rintro e w3 ⟨rfl, hb3⟩
      have hb03 : Below (w.heap.size + 1) _ w3 := hb02.trans (hb3.mono hPw.out)
      obtain ⟨y0, y1, y2⟩ := cl2 _ hb3
      have km3 := km w3
      clear kc2 hb3 hb02 km x0 x1 x2
      go_wp2_with fail
      refine km3.mono ?_
      rintro e w4 ⟨rfl, hb4⟩
      have hb04 := keep_step hb03 hszr.out hb4
      clear km3 hb03 hb4 y0 y1 y2
      go_wp2
      go_ret2
      exact ⟨E.out _, hbw _ hb04⟩
    | true =>
      have HS : Hid (seatB ⟨c, q, r⟩ = true) := hs
      rw [hs] at km
      have hpw := (may_iff.1 HM.out).2
      obtain ⟨K, hK⟩ := plc_ex c hpw
      have HPH : Hid _ := plc_has hpw hK
      have HKE : Hid _ := kept_eq (s := ⟨c, q, r⟩) hpw hK
      have hKl : K ≤ zs.length := by have := hK.1; simpa using this
      have hz8 : zs.length ≤ 8 := by have := may_len HM.out; simpa using this
      have kf := fun W (hW : Below w.heap.size w W) => find_of zs (.slice ao zs.length cap) c K W (HL.out.1.below hW) hlen hK
      have hKi : (0 : Int) ≤ (K : Int) := by omega
      have hKi2 : (K : Int) ≤ (zs.length : Int) := by omega
      have hKi3 : (K : Int) ≤ (cap : Int) := by omega
      have hKi4 : (zs.length : Int) ≤ (cap : Int) := by omega
      clear hs hpw hK
      generalize hB : hasB (mes zs) K c = B at *
      cases B with
      | false =>
        have E : Hid (∀ v xs W, SeatsV W v xs → mes xs = (mes zs).take K ++ [⟨c, q, r⟩] ++ (mes zs).drop K → T (.returned (.tuple #[v, .int .i64 0])) W) := fun v xs W h1 h2 => by
          rw [HT.out, put_new HM.out HS.out (by unfold newB; rw [HPH.out.2 rfl]), HKE.out]
          exact ⟨v, xs, rfl, h1, h2⟩
        by_cases hck : cap = K
        · have hck' : K = cap := hck.symm
          subst hck'
          have HBK : Hid (Rd seatE w (.slice ao 0 0) (zs.drop (K))) := by have h9 := rd_back HL.out.1 (k := K) (by omega); rw [if_pos rfl, Nat.sub_self, show zs.length - (K) = 0 by omega] at h9; exact h9
          obtain ⟨L, HLf⟩ : ∃ L, Hid (L = [zs.take K, [((⟨c, q, r⟩ : Ms), ra, r.length, rc)], zs.drop (K)].flatten) := ⟨_, rfl⟩
          have HLc : L = zs.take K ++ [((⟨c, q, r⟩ : Ms), ra, r.length, rc)] ++ zs.drop (K) := by rw [HLf.out]; simp
          have HLm : Hid (mes L = (mes zs).take K ++ [⟨c, q, r⟩] ++ (mes zs).drop (K)) := by show _ = _; rw [HLc]; simp only [mes, List.map_append, List.map_take, List.map_drop, List.map_cons, List.map_nil]
          have hLw : ∀ z ∈ L, z ∈ zs ∨ z = ((⟨c, q, r⟩ : Ms), ra, r.length, rc) := fun z hz => by
            rw [HLc] at hz
            simp only [List.mem_append, List.mem_singleton] at hz
            rcases hz with (hz | hz) | hz
            · exact .inl (List.mem_of_mem_take hz)
            · exact .inr hz
            · exact .inl (List.mem_of_mem_drop hz)
          have HLD : Hid (∀ z ∈ L, RepV w z) := fun z hz => by
            rcases hLw z hz with h | rfl
            · exact HL.out.2 z h
            · exact HR.out
          have HLr : Hid (∀ z ∈ L, z.1.rp.length ≤ 1000000) := fun z hz => by
            rcases hLw z hz with h | rfl
            · have := (seat_iff.1 ((may_iff.1 HM.out).1 z.1 (List.mem_map.2 ⟨z, h, rfl⟩))).2.2.2.2
              omega
            · exact hrl
          have HLl : Hid (L.length ≤ 1000) := by show _ ≤ _; rw [HLc]; simp; omega
          have HLp : Hid (0 < L.length) := by show _ < _; rw [HLc]; simp only [List.length_append, List.length_singleton]; omega
          have KCT : Hid (∀ (Q : Nat) (W : World), Below w.heap.size w W → ∀ sv, Rd seatE W sv [((⟨c, q, r⟩ : Ms), ra, r.length, rc)] → W.cell? ⟨Q, 0, none⟩ = some (.slice ao K K) → W.cell? ⟨Q, 1, none⟩ = some sv → W.cell? ⟨Q, 2, none⟩ = some (.slice ao 0 0) → Calls Try.prog 26 #[.slice (some ⟨Q, 0, none⟩) 3 3] W fun e w' => ∃ v, e = .returned v ∧ Ow seatE 49 W.heap.size w' v L ∧ Below W.heap.size W w') := fun Q W hW sv hsv h0 h1 h2 => by
            have hF := (HL.out.1.front hKl).below hW
            have hB := HBK.out.below hW
            rw [HLf.out]
            refine sconcat_of Q [.slice ao K K, sv, .slice ao 0 0] [zs.take K, [((⟨c, q, r⟩ : Ms), ra, r.length, rc)], zs.drop (K)] W ?_ ?_ 3 (by decide) rfl rfl (by rw [← HLf.out]; exact HLp.out) (by rw [← HLf.out]; exact HLl.out)
            · intro i v hv
              match i, hv with
              | 0, hv => cases hv; exact h0
              | 1, hv => cases hv; exact h1
              | 2, hv => cases hv; exact h2
              | i + 3, hv => simp at hv
            · intro i v xs hv hx
              match i, hv, hx with
              | 0, hv, hx => cases hv; cases hx; exact hF
              | 1, hv, hx => cases hv; cases hx; exact hsv
              | 2, hv, hx => cases hv; cases hx; exact hB
              | i + 3, hv, hx => simp at hv
          clear HLc hLw HLf
          clear HT HM HS HPH HKE hB HL HR HOK HBK hcn
          go_enter Try.func13, Try.ntmps13
          go_wp2_with fail
          refine ks.mono ?_
          rintro e w1 ⟨rfl, hb1⟩
          obtain ⟨hsz2, hbx2, cl2⟩ := st_box w1 (⟨c, q, r⟩, ra, r.length, rc)
          dsimp only [ec] at hsz2 hbx2 cl2
          have hb02 := keep_step hb1 hszr.out hbx2
          have hPw : Hid (w.heap.size + 1 ≤ w1.heap.size + 1) := by show _ ≤ _; have h8 := hszr.out; have h9 := hb1.size; omega
          have kc2 := kc _ (hbw _ hb02)
          rw [hsz2] at kc2
          have hsz2r : Hid (w1.heap.size + 1 ≤ (w1.alloc (.cells #[.int .i64 c, .int .u64 (q : Int), .slice ra r.length rc] 49)).heap.size) := by show _ ≤ _; omega
          obtain ⟨x0, x1, x2⟩ := cl2 _ (Below.refl _ _)
          clear ks kc c0 c1 hb1
          go_wp2_with fail
          generalize hP : w1.heap.size = P at *
          generalize w1.alloc (.cells #[.int .i64 c, .int .u64 (q : Int), .slice ra r.length rc] 49) = w2 at *
          clear hP
          refine kc2.mono ?_
          rintro e w3 ⟨rfl, hb3⟩
          have hb03 : Below (w.heap.size + 1) _ w3 := hb02.trans (hb3.mono hPw.out)
          obtain ⟨y0, y1, y2⟩ := cl2 _ hb3
          have km3 := km w3
          clear kc2 km x0 x1 x2
          go_wp2_with fail
          refine km3.mono ?_
          rintro e w4 ⟨rfl, hb4⟩
          have hb04 := keep_step hb03 hszr.out hb4
          have hb24 := keep_step hb3 hsz2r.out hb4
          obtain ⟨d0, d1⟩ := cl _ hb04
          have kf4 := kf w4 (hbw _ hb04)
          clear km3 hb03 hb4 y0 y1 y2 hb3 kf
          go_wp2_with fail
          refine kf4.mono ?_
          rintro e w5 ⟨rfl, hb5⟩
          have hb05 := keep_step hb04 hszr.out hb5
          have hb25 := keep_step hb24 hsz2r.out hb5
          clear kf4 hb04 hb24 hb5 d0 d1
          go_wp2
          refine wp_region_L (fun W => (W.cell? ⟨P, 0, none⟩ = some (.int .i64 c) ∧ W.cell? ⟨P, 1, none⟩ = some (.int .u64 (q : Int)) ∧ W.cell? ⟨P, 2, none⟩ = some (.slice ra r.length rc)) ∧ Below (P + 1) w2 W) [] (by kernel_rfl) ?_
          have hd2 := hb25.drew
          have hd0 := hb05.drew
          clear hb25 hb05
          generalize w5.drew = wd at *
          have yS : (fun W => (W.cell? ⟨P, 0, none⟩ = some (.int .i64 c) ∧ W.cell? ⟨P, 1, none⟩ = some (.int .u64 (q : Int)) ∧ W.cell? ⟨P, 2, none⟩ = some (.slice ra r.length rc)) ∧ Below (P + 1) w2 W) wd := ⟨cl2 _ hd2, hd2⟩
          refine wpAnyL_take 0 rfl (by kernel_rfl) (by kernel_rfl) (by kernel_rfl) (by kernel_rfl) (fun _ _ _ h => h) (wanted_none rfl) (by intro w' hS'; obtain ⟨⟨x0, x1, x2⟩, xb⟩ := hS'; go_simp <;> rfl) yS ?_
          try simp only [List.getElem_toArray, List.getElem_cons_succ, List.getElem_cons_zero, Act.put, List.setIfInBounds_toArray, List.set_cons_zero, List.set_cons_succ]
          refine wpAnyL_take 1 rfl (by kernel_rfl) (by kernel_rfl) (by kernel_rfl) (by kernel_rfl) (fun _ _ _ h => h) (wanted_none rfl) (by intro w' hS'; obtain ⟨⟨x0, x1, x2⟩, xb⟩ := hS'; go_simp <;> rfl) yS ?_
          try simp only [List.getElem_toArray, List.getElem_cons_succ, List.getElem_cons_zero, Act.put, List.setIfInBounds_toArray, List.set_cons_zero, List.set_cons_succ]
          refine wpAnyL_take 2 rfl (by kernel_rfl) (by kernel_rfl) (by kernel_rfl) (by kernel_rfl) (fun _ _ _ h => h) (wanted_none rfl) (by intro w' hS'; obtain ⟨⟨x0, x1, x2⟩, xb⟩ := hS'; go_simp <;> rfl) yS ?_
          try simp only [List.getElem_toArray, List.getElem_cons_succ, List.getElem_cons_zero, Act.put, List.setIfInBounds_toArray, List.set_cons_zero, List.set_cons_succ]
          refine wpAnyL_take 3 rfl (by kernel_rfl) (by kernel_rfl) (by kernel_rfl) (by kernel_rfl) (fun _ _ _ h => h) (wanted_none rfl) (by intro w' hS'; obtain ⟨⟨x0, x1, x2⟩, xb⟩ := hS'; go_simp <;> rfl) yS ?_
          try simp only [List.getElem_toArray, List.getElem_cons_succ, List.getElem_cons_zero, Act.put, List.setIfInBounds_toArray, List.set_cons_zero, List.set_cons_succ]
          refine wpAnyL_take 5 rfl (by kernel_rfl) (by kernel_rfl) (by kernel_rfl) (by kernel_rfl) (fun _ _ _ h => h) (wanted_none rfl) (by intro w' hS'; obtain ⟨⟨x0, x1, x2⟩, xb⟩ := hS'; go_simp <;> rfl) yS ?_
          try simp only [List.getElem_toArray, List.getElem_cons_succ, List.getElem_cons_zero, Act.put, List.setIfInBounds_toArray, List.set_cons_zero, List.set_cons_succ]
          refine wpAnyL_one 4 (by kernel_rfl) rfl (wanted_none rfl) ?_
          intro K' hK'
          go_simp
          obtain ⟨z1, z2, z3⟩ := one_box wd (.cells #[.int .i64 c, .int .u64 (q : Int), .slice ra r.length rc] 49)
          have hd2a := keep_step hd2 hsz2r.out z3
          have yS4 : (fun W => (W.cell? ⟨P, 0, none⟩ = some (.int .i64 c) ∧ W.cell? ⟨P, 1, none⟩ = some (.int .u64 (q : Int)) ∧ W.cell? ⟨P, 2, none⟩ = some (.slice ra r.length rc)) ∧ Below (P + 1) w2 W) (wd.alloc (.cells #[.int .i64 c, .int .u64 (q : Int), .slice ra r.length rc] 49)) := ⟨cl2 _ hd2a, hd2a⟩
          refine hK'.out _ _ (.inr yS4) ?_
          clear hK' K'
          try simp only [List.getElem_toArray, List.getElem_cons_succ, List.getElem_cons_zero, Act.put, List.setIfInBounds_toArray, List.set_cons_zero, List.set_cons_succ]
          refine wpAnyL_one 6 (by kernel_rfl) rfl (wanted_none rfl) ?_
          intro K' hK'
          go_simp
          obtain ⟨u1, u2, u3⟩ := one_box (wd.alloc (.cells #[.int .i64 c, .int .u64 (q : Int), .slice ra r.length rc] 49)) (.cells #[.slice ao K K, .slice (some ⟨wd.heap.size, 0, none⟩) 1 1, .slice ao 0 0] 22)
          have hd2b := keep_step hd2a hsz2r.out u3
          have hd0a := keep_step hd0 hszr.out z3
          have hd0b := keep_step hd0a hszr.out u3
          have yS6 : (fun W => (W.cell? ⟨P, 0, none⟩ = some (.int .i64 c) ∧ W.cell? ⟨P, 1, none⟩ = some (.int .u64 (q : Int)) ∧ W.cell? ⟨P, 2, none⟩ = some (.slice ra r.length rc)) ∧ Below (P + 1) w2 W) ((wd.alloc (.cells #[.int .i64 c, .int .u64 (q : Int), .slice ra r.length rc] 49)).alloc (.cells #[.slice ao K K, .slice (some ⟨wd.heap.size, 0, none⟩) 1 1, .slice ao 0 0] 22)) := ⟨cl2 _ hd2b, hd2b⟩
          have hrow : Rd seatE (wd.alloc (.cells #[.int .i64 c, .int .u64 (q : Int), .slice ra r.length rc] 49)) (.slice (some ⟨wd.heap.size, 0, none⟩) 1 1) [((⟨c, q, r⟩ : Ms), ra, r.length, rc)] := (Rk.made (E := seatE) (xs := [((⟨c, q, r⟩ : Ms), ra, r.length, rc)]) z2 rfl (by unfold maxLen; simp)).rd
          have kct := KCT.out (wd.alloc (.cells #[.int .i64 c, .int .u64 (q : Int), .slice ra r.length rc] 49)).heap.size ((wd.alloc (.cells #[.int .i64 c, .int .u64 (q : Int), .slice ra r.length rc] 49)).alloc (.cells #[.slice ao K K, .slice (some ⟨wd.heap.size, 0, none⟩) 1 1, .slice ao 0 0] 22)) (hbw _ hd0b) _ (hrow.below u3) (by rw [cells_of_block u2]; rfl) (by rw [cells_of_block u2]; rfl) (by rw [cells_of_block u2]; rfl)
          clear hrow u2 z2
          refine hK'.out _ _ (.inr yS6) ?_
          clear hK' K'
          try simp only [List.getElem_toArray, List.getElem_cons_succ, List.getElem_cons_zero, Act.put, List.setIfInBounds_toArray, List.set_cons_zero, List.set_cons_succ]
          rw [z1] at *
          generalize (wd.alloc (.cells #[.int .i64 c, .int .u64 (q : Int), .slice ra r.length rc] 49)).alloc (.cells #[.slice ao K K, .slice (some ⟨wd.heap.size, 0, none⟩) 1 1, .slice ao 0 0] 22) = w7 at *
          clear u3 z3 hd2a hd0a yS4 yS
          refine wpAnyL_one 7 (by kernel_rfl) rfl (wanted_none rfl) ?_
          intro K' hK'
          go_simp
          go_at_call 26
          refine kct.mono ?_
          rintro e w8 ⟨v8, rfl, hO8, hb8⟩
          obtain ⟨g8, cap8, cur8, hv8, -⟩ := hO8.1.cells HLp.out
          subst hv8
          have hd28 := keep_step hd2b hsz2r.out hb8
          have hd08 := keep_step hd0b hszr.out hb8
          have yS8 : (fun W => (W.cell? ⟨P, 0, none⟩ = some (.int .i64 c) ∧ W.cell? ⟨P, 1, none⟩ = some (.int .u64 (q : Int)) ∧ W.cell? ⟨P, 2, none⟩ = some (.slice ra r.length rc)) ∧ Below (P + 1) w2 W) w8 := ⟨cl2 _ hd28, hd28⟩
          have kow := own_of w7.heap.size L g8 cap8 w8 hb8.size hO8 (fun z hz => Wi.Bs.mono (Wi.Bs.below (HLD.out z hz) (hbw _ hd08)) (hbw _ hd0b).size) HLl.out HLr.out
          refine hK'.out _ _ (.inr yS8) ?_
          clear hK' K'
          try simp only [List.getElem_toArray, List.getElem_cons_succ, List.getElem_cons_zero, Act.put, List.setIfInBounds_toArray, List.set_cons_zero, List.set_cons_succ]
          clear kct hO8
          refine wpAnyL_one 8 (by kernel_rfl) rfl (wanted_none rfl) ?_
          intro K' hK'
          go_simp
          go_at_call 25
          refine kow.mono ?_
          rintro e w9 ⟨⟨cur, rfl, hO9, hm9, hc9⟩, hb9⟩
          have hd29 : Below (P + 1) w2 w9 := hd28.trans (hb9.mono (Nat.le_trans hsz2r.out hd2b.size))
          have hd09 : Below (w.heap.size + 1) _ w9 := hd08.trans (hb9.mono (Nat.le_trans hszr.out hd0b.size))
          have yS9 : (fun W => (W.cell? ⟨P, 0, none⟩ = some (.int .i64 c) ∧ W.cell? ⟨P, 1, none⟩ = some (.int .u64 (q : Int)) ∧ W.cell? ⟨P, 2, none⟩ = some (.slice ra r.length rc)) ∧ Below (P + 1) w2 W) w9 := ⟨cl2 _ hd29, hd29⟩
          have hsv : SeatsV w9 (.slice (some ⟨g8, 0, none⟩) L.length cap8) cur := ⟨hO9.1.rd, fun z hz => (hc9 z hz).rep⟩
          refine hK'.out _ _ (.inr yS9) ?_
          clear hK' K'
          try simp only [List.getElem_toArray, List.getElem_cons_succ, List.getElem_cons_zero, Act.put, List.setIfInBounds_toArray, List.set_cons_zero, List.set_cons_succ]
          have HFN : Hid (T (.returned (.tuple #[.slice (some ⟨g8, 0, none⟩) L.length cap8, .int .i64 0])) w9) := E.out _ _ _ hsv (hm9.trans HLm.out)
          clear kow hO9 hsv hm9 hc9 E HLm HLD HLr HLl
          refine wpAnyL_take 9 rfl (by kernel_rfl) (by kernel_rfl) (by kernel_rfl) (by kernel_rfl) (fun _ _ _ h => h) (wanted_none rfl) (by intro w' hS'; obtain ⟨⟨x0, x1, x2⟩, xb⟩ := hS'; go_simp <;> rfl) yS9 ?_
          try simp only [List.getElem_toArray, List.getElem_cons_succ, List.getElem_cons_zero, Act.put, List.setIfInBounds_toArray, List.set_cons_zero, List.set_cons_succ]
          refine wpAnyL_take 10 rfl (by kernel_rfl) (by kernel_rfl) (by kernel_rfl) (by kernel_rfl) (fun _ _ _ h => h) (wanted_none rfl) (by intro w' hS'; obtain ⟨⟨x0, x1, x2⟩, xb⟩ := hS'; go_simp <;> rfl) yS9 ?_
          try simp only [List.getElem_toArray, List.getElem_cons_succ, List.getElem_cons_zero, Act.put, List.setIfInBounds_toArray, List.set_cons_zero, List.set_cons_succ]
          refine wpAnyL_done (by kernel_rfl) (NoPanic.normal ?_) _
          go_wp2
          go_ret2
          exact ⟨HFN.out, hbw _ hd09⟩
        · have HBK : Hid (Rd seatE w (.slice (ao.map (fun x => x.add (K * 3))) (zs.length - K) (cap - K)) (zs.drop (K))) := by have h9 := rd_back HL.out.1 (k := K) (by omega); rw [if_neg hck] at h9; exact h9
          obtain ⟨L, HLf⟩ : ∃ L, Hid (L = [zs.take K, [((⟨c, q, r⟩ : Ms), ra, r.length, rc)], zs.drop (K)].flatten) := ⟨_, rfl⟩
          have HLc : L = zs.take K ++ [((⟨c, q, r⟩ : Ms), ra, r.length, rc)] ++ zs.drop (K) := by rw [HLf.out]; simp
          have HLm : Hid (mes L = (mes zs).take K ++ [⟨c, q, r⟩] ++ (mes zs).drop (K)) := by show _ = _; rw [HLc]; simp only [mes, List.map_append, List.map_take, List.map_drop, List.map_cons, List.map_nil]
          have hLw : ∀ z ∈ L, z ∈ zs ∨ z = ((⟨c, q, r⟩ : Ms), ra, r.length, rc) := fun z hz => by
            rw [HLc] at hz
            simp only [List.mem_append, List.mem_singleton] at hz
            rcases hz with (hz | hz) | hz
            · exact .inl (List.mem_of_mem_take hz)
            · exact .inr hz
            · exact .inl (List.mem_of_mem_drop hz)
          have HLD : Hid (∀ z ∈ L, RepV w z) := fun z hz => by
            rcases hLw z hz with h | rfl
            · exact HL.out.2 z h
            · exact HR.out
          have HLr : Hid (∀ z ∈ L, z.1.rp.length ≤ 1000000) := fun z hz => by
            rcases hLw z hz with h | rfl
            · have := (seat_iff.1 ((may_iff.1 HM.out).1 z.1 (List.mem_map.2 ⟨z, h, rfl⟩))).2.2.2.2
              omega
            · exact hrl
          have HLl : Hid (L.length ≤ 1000) := by show _ ≤ _; rw [HLc]; simp; omega
          have HLp : Hid (0 < L.length) := by show _ < _; rw [HLc]; simp only [List.length_append, List.length_singleton]; omega
          have KCT : Hid (∀ (Q : Nat) (W : World), Below w.heap.size w W → ∀ sv, Rd seatE W sv [((⟨c, q, r⟩ : Ms), ra, r.length, rc)] → W.cell? ⟨Q, 0, none⟩ = some (.slice ao K cap) → W.cell? ⟨Q, 1, none⟩ = some sv → W.cell? ⟨Q, 2, none⟩ = some (.slice (ao.map (fun x => x.add (K * 3))) (zs.length - K) (cap - K)) → Calls Try.prog 26 #[.slice (some ⟨Q, 0, none⟩) 3 3] W fun e w' => ∃ v, e = .returned v ∧ Ow seatE 49 W.heap.size w' v L ∧ Below W.heap.size W w') := fun Q W hW sv hsv h0 h1 h2 => by
            have hF := (HL.out.1.front hKl).below hW
            have hB := HBK.out.below hW
            rw [HLf.out]
            refine sconcat_of Q [.slice ao K cap, sv, .slice (ao.map (fun x => x.add (K * 3))) (zs.length - K) (cap - K)] [zs.take K, [((⟨c, q, r⟩ : Ms), ra, r.length, rc)], zs.drop (K)] W ?_ ?_ 3 (by decide) rfl rfl (by rw [← HLf.out]; exact HLp.out) (by rw [← HLf.out]; exact HLl.out)
            · intro i v hv
              match i, hv with
              | 0, hv => cases hv; exact h0
              | 1, hv => cases hv; exact h1
              | 2, hv => cases hv; exact h2
              | i + 3, hv => simp at hv
            · intro i v xs hv hx
              match i, hv, hx with
              | 0, hv, hx => cases hv; cases hx; exact hF
              | 1, hv, hx => cases hv; cases hx; exact hsv
              | 2, hv, hx => cases hv; cases hx; exact hB
              | i + 3, hv, hx => simp at hv
          clear HLc hLw HLf
          clear HT HM HS HPH HKE hB HL HR HOK HBK hcn
          go_enter Try.func13, Try.ntmps13
          go_wp2_with fail
          refine ks.mono ?_
          rintro e w1 ⟨rfl, hb1⟩
          obtain ⟨hsz2, hbx2, cl2⟩ := st_box w1 (⟨c, q, r⟩, ra, r.length, rc)
          dsimp only [ec] at hsz2 hbx2 cl2
          have hb02 := keep_step hb1 hszr.out hbx2
          have hPw : Hid (w.heap.size + 1 ≤ w1.heap.size + 1) := by show _ ≤ _; have h8 := hszr.out; have h9 := hb1.size; omega
          have kc2 := kc _ (hbw _ hb02)
          rw [hsz2] at kc2
          have hsz2r : Hid (w1.heap.size + 1 ≤ (w1.alloc (.cells #[.int .i64 c, .int .u64 (q : Int), .slice ra r.length rc] 49)).heap.size) := by show _ ≤ _; omega
          obtain ⟨x0, x1, x2⟩ := cl2 _ (Below.refl _ _)
          clear ks kc c0 c1 hb1
          go_wp2_with fail
          generalize hP : w1.heap.size = P at *
          generalize w1.alloc (.cells #[.int .i64 c, .int .u64 (q : Int), .slice ra r.length rc] 49) = w2 at *
          clear hP
          refine kc2.mono ?_
          rintro e w3 ⟨rfl, hb3⟩
          have hb03 : Below (w.heap.size + 1) _ w3 := hb02.trans (hb3.mono hPw.out)
          obtain ⟨y0, y1, y2⟩ := cl2 _ hb3
          have km3 := km w3
          clear kc2 km x0 x1 x2
          go_wp2_with fail
          refine km3.mono ?_
          rintro e w4 ⟨rfl, hb4⟩
          have hb04 := keep_step hb03 hszr.out hb4
          have hb24 := keep_step hb3 hsz2r.out hb4
          obtain ⟨d0, d1⟩ := cl _ hb04
          have kf4 := kf w4 (hbw _ hb04)
          clear km3 hb03 hb4 y0 y1 y2 hb3 kf
          go_wp2_with fail
          refine kf4.mono ?_
          rintro e w5 ⟨rfl, hb5⟩
          have hb05 := keep_step hb04 hszr.out hb5
          have hb25 := keep_step hb24 hsz2r.out hb5
          clear kf4 hb04 hb24 hb5 d0 d1
          go_wp2
          refine wp_region_L (fun W => (W.cell? ⟨P, 0, none⟩ = some (.int .i64 c) ∧ W.cell? ⟨P, 1, none⟩ = some (.int .u64 (q : Int)) ∧ W.cell? ⟨P, 2, none⟩ = some (.slice ra r.length rc)) ∧ Below (P + 1) w2 W) [] (by kernel_rfl) ?_
          have hd2 := hb25.drew
          have hd0 := hb05.drew
          clear hb25 hb05
          generalize w5.drew = wd at *
          have yS : (fun W => (W.cell? ⟨P, 0, none⟩ = some (.int .i64 c) ∧ W.cell? ⟨P, 1, none⟩ = some (.int .u64 (q : Int)) ∧ W.cell? ⟨P, 2, none⟩ = some (.slice ra r.length rc)) ∧ Below (P + 1) w2 W) wd := ⟨cl2 _ hd2, hd2⟩
          refine wpAnyL_take 0 rfl (by kernel_rfl) (by kernel_rfl) (by kernel_rfl) (by kernel_rfl) (fun _ _ _ h => h) (wanted_none rfl) (by intro w' hS'; obtain ⟨⟨x0, x1, x2⟩, xb⟩ := hS'; go_simp <;> rfl) yS ?_
          try simp only [List.getElem_toArray, List.getElem_cons_succ, List.getElem_cons_zero, Act.put, List.setIfInBounds_toArray, List.set_cons_zero, List.set_cons_succ]
          refine wpAnyL_take 1 rfl (by kernel_rfl) (by kernel_rfl) (by kernel_rfl) (by kernel_rfl) (fun _ _ _ h => h) (wanted_none rfl) (by intro w' hS'; obtain ⟨⟨x0, x1, x2⟩, xb⟩ := hS'; go_simp <;> rfl) yS ?_
          try simp only [List.getElem_toArray, List.getElem_cons_succ, List.getElem_cons_zero, Act.put, List.setIfInBounds_toArray, List.set_cons_zero, List.set_cons_succ]
          refine wpAnyL_take 2 rfl (by kernel_rfl) (by kernel_rfl) (by kernel_rfl) (by kernel_rfl) (fun _ _ _ h => h) (wanted_none rfl) (by intro w' hS'; obtain ⟨⟨x0, x1, x2⟩, xb⟩ := hS'; go_simp <;> rfl) yS ?_
          try simp only [List.getElem_toArray, List.getElem_cons_succ, List.getElem_cons_zero, Act.put, List.setIfInBounds_toArray, List.set_cons_zero, List.set_cons_succ]
          refine wpAnyL_take 3 rfl (by kernel_rfl) (by kernel_rfl) (by kernel_rfl) (by kernel_rfl) (fun _ _ _ h => h) (wanted_none rfl) (by intro w' hS'; obtain ⟨⟨x0, x1, x2⟩, xb⟩ := hS'; go_simp <;> rfl) yS ?_
          try simp only [List.getElem_toArray, List.getElem_cons_succ, List.getElem_cons_zero, Act.put, List.setIfInBounds_toArray, List.set_cons_zero, List.set_cons_succ]
          refine wpAnyL_take 5 rfl (by kernel_rfl) (by kernel_rfl) (by kernel_rfl) (by kernel_rfl) (fun _ _ _ h => h) (wanted_none rfl) (by intro w' hS'; obtain ⟨⟨x0, x1, x2⟩, xb⟩ := hS'; go_simp <;> rfl) yS ?_
          try simp only [List.getElem_toArray, List.getElem_cons_succ, List.getElem_cons_zero, Act.put, List.setIfInBounds_toArray, List.set_cons_zero, List.set_cons_succ]
          refine wpAnyL_one 4 (by kernel_rfl) rfl (wanted_none rfl) ?_
          intro K' hK'
          go_simp
          obtain ⟨z1, z2, z3⟩ := one_box wd (.cells #[.int .i64 c, .int .u64 (q : Int), .slice ra r.length rc] 49)
          have hd2a := keep_step hd2 hsz2r.out z3
          have yS4 : (fun W => (W.cell? ⟨P, 0, none⟩ = some (.int .i64 c) ∧ W.cell? ⟨P, 1, none⟩ = some (.int .u64 (q : Int)) ∧ W.cell? ⟨P, 2, none⟩ = some (.slice ra r.length rc)) ∧ Below (P + 1) w2 W) (wd.alloc (.cells #[.int .i64 c, .int .u64 (q : Int), .slice ra r.length rc] 49)) := ⟨cl2 _ hd2a, hd2a⟩
          refine hK'.out _ _ (.inr yS4) ?_
          clear hK' K'
          try simp only [List.getElem_toArray, List.getElem_cons_succ, List.getElem_cons_zero, Act.put, List.setIfInBounds_toArray, List.set_cons_zero, List.set_cons_succ]
          refine wpAnyL_one 6 (by kernel_rfl) rfl (wanted_none rfl) ?_
          intro K' hK'
          go_simp
          obtain ⟨u1, u2, u3⟩ := one_box (wd.alloc (.cells #[.int .i64 c, .int .u64 (q : Int), .slice ra r.length rc] 49)) (.cells #[.slice ao K cap, .slice (some ⟨wd.heap.size, 0, none⟩) 1 1, .slice (ao.map (fun x => x.add (K * 3))) (zs.length - K) (cap - K)] 22)
          have hd2b := keep_step hd2a hsz2r.out u3
          have hd0a := keep_step hd0 hszr.out z3
          have hd0b := keep_step hd0a hszr.out u3
          have yS6 : (fun W => (W.cell? ⟨P, 0, none⟩ = some (.int .i64 c) ∧ W.cell? ⟨P, 1, none⟩ = some (.int .u64 (q : Int)) ∧ W.cell? ⟨P, 2, none⟩ = some (.slice ra r.length rc)) ∧ Below (P + 1) w2 W) ((wd.alloc (.cells #[.int .i64 c, .int .u64 (q : Int), .slice ra r.length rc] 49)).alloc (.cells #[.slice ao K cap, .slice (some ⟨wd.heap.size, 0, none⟩) 1 1, .slice (ao.map (fun x => x.add (K * 3))) (zs.length - K) (cap - K)] 22)) := ⟨cl2 _ hd2b, hd2b⟩
          have hrow : Rd seatE (wd.alloc (.cells #[.int .i64 c, .int .u64 (q : Int), .slice ra r.length rc] 49)) (.slice (some ⟨wd.heap.size, 0, none⟩) 1 1) [((⟨c, q, r⟩ : Ms), ra, r.length, rc)] := (Rk.made (E := seatE) (xs := [((⟨c, q, r⟩ : Ms), ra, r.length, rc)]) z2 rfl (by unfold maxLen; simp)).rd
          have kct := KCT.out (wd.alloc (.cells #[.int .i64 c, .int .u64 (q : Int), .slice ra r.length rc] 49)).heap.size ((wd.alloc (.cells #[.int .i64 c, .int .u64 (q : Int), .slice ra r.length rc] 49)).alloc (.cells #[.slice ao K cap, .slice (some ⟨wd.heap.size, 0, none⟩) 1 1, .slice (ao.map (fun x => x.add (K * 3))) (zs.length - K) (cap - K)] 22)) (hbw _ hd0b) _ (hrow.below u3) (by rw [cells_of_block u2]; rfl) (by rw [cells_of_block u2]; rfl) (by rw [cells_of_block u2]; rfl)
          clear hrow u2 z2
          refine hK'.out _ _ (.inr yS6) ?_
          clear hK' K'
          try simp only [List.getElem_toArray, List.getElem_cons_succ, List.getElem_cons_zero, Act.put, List.setIfInBounds_toArray, List.set_cons_zero, List.set_cons_succ]
          rw [z1] at *
          generalize (wd.alloc (.cells #[.int .i64 c, .int .u64 (q : Int), .slice ra r.length rc] 49)).alloc (.cells #[.slice ao K cap, .slice (some ⟨wd.heap.size, 0, none⟩) 1 1, .slice (ao.map (fun x => x.add (K * 3))) (zs.length - K) (cap - K)] 22) = w7 at *
          clear u3 z3 hd2a hd0a yS4 yS
          refine wpAnyL_one 7 (by kernel_rfl) rfl (wanted_none rfl) ?_
          intro K' hK'
          go_simp
          go_at_call 26
          refine kct.mono ?_
          rintro e w8 ⟨v8, rfl, hO8, hb8⟩
          obtain ⟨g8, cap8, cur8, hv8, -⟩ := hO8.1.cells HLp.out
          subst hv8
          have hd28 := keep_step hd2b hsz2r.out hb8
          have hd08 := keep_step hd0b hszr.out hb8
          have yS8 : (fun W => (W.cell? ⟨P, 0, none⟩ = some (.int .i64 c) ∧ W.cell? ⟨P, 1, none⟩ = some (.int .u64 (q : Int)) ∧ W.cell? ⟨P, 2, none⟩ = some (.slice ra r.length rc)) ∧ Below (P + 1) w2 W) w8 := ⟨cl2 _ hd28, hd28⟩
          have kow := own_of w7.heap.size L g8 cap8 w8 hb8.size hO8 (fun z hz => Wi.Bs.mono (Wi.Bs.below (HLD.out z hz) (hbw _ hd08)) (hbw _ hd0b).size) HLl.out HLr.out
          refine hK'.out _ _ (.inr yS8) ?_
          clear hK' K'
          try simp only [List.getElem_toArray, List.getElem_cons_succ, List.getElem_cons_zero, Act.put, List.setIfInBounds_toArray, List.set_cons_zero, List.set_cons_succ]
          clear kct hO8
          refine wpAnyL_one 8 (by kernel_rfl) rfl (wanted_none rfl) ?_
          intro K' hK'
          go_simp
          go_at_call 25
          refine kow.mono ?_
          rintro e w9 ⟨⟨cur, rfl, hO9, hm9, hc9⟩, hb9⟩
          have hd29 : Below (P + 1) w2 w9 := hd28.trans (hb9.mono (Nat.le_trans hsz2r.out hd2b.size))
          have hd09 : Below (w.heap.size + 1) _ w9 := hd08.trans (hb9.mono (Nat.le_trans hszr.out hd0b.size))
          have yS9 : (fun W => (W.cell? ⟨P, 0, none⟩ = some (.int .i64 c) ∧ W.cell? ⟨P, 1, none⟩ = some (.int .u64 (q : Int)) ∧ W.cell? ⟨P, 2, none⟩ = some (.slice ra r.length rc)) ∧ Below (P + 1) w2 W) w9 := ⟨cl2 _ hd29, hd29⟩
          have hsv : SeatsV w9 (.slice (some ⟨g8, 0, none⟩) L.length cap8) cur := ⟨hO9.1.rd, fun z hz => (hc9 z hz).rep⟩
          refine hK'.out _ _ (.inr yS9) ?_
          clear hK' K'
          try simp only [List.getElem_toArray, List.getElem_cons_succ, List.getElem_cons_zero, Act.put, List.setIfInBounds_toArray, List.set_cons_zero, List.set_cons_succ]
          have HFN : Hid (T (.returned (.tuple #[.slice (some ⟨g8, 0, none⟩) L.length cap8, .int .i64 0])) w9) := E.out _ _ _ hsv (hm9.trans HLm.out)
          clear kow hO9 hsv hm9 hc9 E HLm HLD HLr HLl
          refine wpAnyL_take 9 rfl (by kernel_rfl) (by kernel_rfl) (by kernel_rfl) (by kernel_rfl) (fun _ _ _ h => h) (wanted_none rfl) (by intro w' hS'; obtain ⟨⟨x0, x1, x2⟩, xb⟩ := hS'; go_simp <;> rfl) yS9 ?_
          try simp only [List.getElem_toArray, List.getElem_cons_succ, List.getElem_cons_zero, Act.put, List.setIfInBounds_toArray, List.set_cons_zero, List.set_cons_succ]
          refine wpAnyL_take 10 rfl (by kernel_rfl) (by kernel_rfl) (by kernel_rfl) (by kernel_rfl) (fun _ _ _ h => h) (wanted_none rfl) (by intro w' hS'; obtain ⟨⟨x0, x1, x2⟩, xb⟩ := hS'; go_simp <;> rfl) yS9 ?_
          try simp only [List.getElem_toArray, List.getElem_cons_succ, List.getElem_cons_zero, Act.put, List.setIfInBounds_toArray, List.set_cons_zero, List.set_cons_succ]
          refine wpAnyL_done (by kernel_rfl) (NoPanic.normal ?_) _
          go_wp2
          go_ret2
          exact ⟨HFN.out, hbw _ hd09⟩
      | true =>
        obtain ⟨s, hs1, hs2, hs3⟩ := HPH.out.1 rfl
        obtain ⟨z, hz, hzs⟩ : ∃ z, zs[K]? = some z ∧ z.1 = s := by
          rw [List.getElem?_map] at hs1
          obtain ⟨z, h1, h2⟩ := Option.map_eq_some_iff.1 hs1
          exact ⟨z, h1, h2⟩
        subst hzs
        have hnew : newB (mes zs) c q = decide (z.1.sq < q) := by unfold newB; rw [hs3]
        have hKl2 := (List.getElem?_eq_some_iff.1 hz).1
        have hKli : (K : Int) < (zs.length : Int) := by omega
        obtain ⟨b, off, hao, cz⟩ := rds_at HL.out.1 hz
        have hsq := (HOK.out z (List.mem_of_getElem? hz)).1
        obtain ⟨⟨zc, zq, zr⟩, sa, sn, sc⟩ := z
        dsimp only at *
        clear hs1 hs2 hs3 hB
        have hKi5 : (0 : Int) ≤ (K : Int) + 1 := by omega
        have hKi6 : (K : Int) + 1 ≤ (zs.length : Int) := by omega
        have hKi7 : (K : Int) + 1 ≤ (cap : Int) := by omega
        have hKi8 : ((K : Int) + 1).toNat = K + 1 := by omega
        have hKi10 : (K : Int) ≤ (K : Int) + 1 := by omega
        have hKi9 : IntKind.i64.wrap ((K : Int) + 1) = (K : Int) + 1 := IntWalk.i64_in _ (by omega)
        by_cases hqq : q ≤ zq
        · have hqi : (q : Int) ≤ (zq : Int) := by omega
          have E : Hid (∀ W, T (.returned (.tuple #[.slice none 0 0, .int .i64 7])) W) := fun W => by rw [HT.out, put_old HM.out HS.out (by show newB (mes zs) c q = false; rw [hnew, decide_eq_false (by omega)])]; exact ⟨_, [], rfl, SeatsV.nil _, rfl⟩
          subst hao
          clear HT HM HS HPH HKE HL HR HOK hcn hz hnew
          go_enter Try.func13, Try.ntmps13
          go_wp2_with fail
          refine ks.mono ?_
          rintro e w1 ⟨rfl, hb1⟩
          obtain ⟨hsz2, hbx2, cl2⟩ := st_box w1 (⟨c, q, r⟩, ra, r.length, rc)
          dsimp only [ec] at hsz2 hbx2 cl2
          have hb02 := keep_step hb1 hszr.out hbx2
          have hPw : Hid (w.heap.size + 1 ≤ w1.heap.size + 1) := by show _ ≤ _; have h8 := hszr.out; have h9 := hb1.size; omega
          have kc2 := kc _ (hbw _ hb02)
          rw [hsz2] at kc2
          have hsz2r : Hid (w1.heap.size + 1 ≤ (w1.alloc (.cells #[.int .i64 c, .int .u64 (q : Int), .slice ra r.length rc] 49)).heap.size) := by show _ ≤ _; omega
          obtain ⟨x0, x1, x2⟩ := cl2 _ (Below.refl _ _)
          clear ks kc c0 c1 hb1
          go_wp2_with fail
          generalize hP : w1.heap.size = P at *
          generalize w1.alloc (.cells #[.int .i64 c, .int .u64 (q : Int), .slice ra r.length rc] 49) = w2 at *
          clear hP
          refine kc2.mono ?_
          rintro e w3 ⟨rfl, hb3⟩
          have hb03 : Below (w.heap.size + 1) _ w3 := hb02.trans (hb3.mono hPw.out)
          obtain ⟨y0, y1, y2⟩ := cl2 _ hb3
          have km3 := km w3
          clear kc2 km x0 x1 x2
          go_wp2_with fail
          refine km3.mono ?_
          rintro e w4 ⟨rfl, hb4⟩
          have hb04 := keep_step hb03 hszr.out hb4
          have hb24 := keep_step hb3 hsz2r.out hb4
          obtain ⟨d0, d1⟩ := cl _ hb04
          have kf4 := kf w4 (hbw _ hb04)
          clear km3 hb03 hb4 y0 y1 y2 hb3 kf
          go_wp2_with fail
          refine kf4.mono ?_
          rintro e w5 ⟨rfl, hb5⟩
          have hb05 := keep_step hb04 hszr.out hb5
          have hb25 := keep_step hb24 hsz2r.out hb5
          clear kf4 hb04 hb24 hb5 d0 d1
          obtain ⟨d0, d1⟩ := cl _ hb05
          obtain ⟨e0, e1, e2⟩ := cz _ (hbw _ hb05)
          by_cases hck : cap = K
          · omega
          · go_wp2
            go_quiet (fail)
            have hb06 := below_drewN hb05 nq
            clear hb05 hb25 d0 d1 e0 e1 e2
            generalize w5.drewN nq = w6 at *
            go_wp2
            go_ret2
            exact ⟨E.out _, hbw _ hb06⟩
        · have hqi : ¬ (q : Int) ≤ (zq : Int) := by omega
          have hckK : ¬ cap = K := by omega
          have E : Hid (∀ v xs W, SeatsV W v xs → mes xs = (mes zs).take K ++ [⟨c, q, r⟩] ++ (mes zs).drop (K + 1) → T (.returned (.tuple #[v, .int .i64 0])) W) := fun v xs W h1 h2 => by
            rw [HT.out, put_new HM.out HS.out (by show newB (mes zs) c q = true; rw [hnew, decide_eq_true (by omega)]), HKE.out]
            exact ⟨v, xs, rfl, h1, h2⟩
          have HTL : Hid True := trivial
          subst hao
          clear HT HPH HKE
          by_cases hck : cap = K + 1
          · have hck' : K + 1 = cap := hck.symm
            subst hck'
            have HBK : Hid (Rd seatE w (.slice (some ⟨b, off, none⟩) 0 0) (zs.drop (K + 1))) := by have h9 := rd_back HL.out.1 (k := K + 1) (by omega); rw [if_pos rfl, Nat.sub_self, show zs.length - (K + 1) = 0 by omega] at h9; exact h9
            obtain ⟨L, HLf⟩ : ∃ L, Hid (L = [zs.take K, [((⟨c, q, r⟩ : Ms), ra, r.length, rc)], zs.drop (K + 1)].flatten) := ⟨_, rfl⟩
            have HLc : L = zs.take K ++ [((⟨c, q, r⟩ : Ms), ra, r.length, rc)] ++ zs.drop (K + 1) := by rw [HLf.out]; simp
            have HLm : Hid (mes L = (mes zs).take K ++ [⟨c, q, r⟩] ++ (mes zs).drop (K + 1)) := by show _ = _; rw [HLc]; simp only [mes, List.map_append, List.map_take, List.map_drop, List.map_cons, List.map_nil]
            have hLw : ∀ z ∈ L, z ∈ zs ∨ z = ((⟨c, q, r⟩ : Ms), ra, r.length, rc) := fun z hz => by
              rw [HLc] at hz
              simp only [List.mem_append, List.mem_singleton] at hz
              rcases hz with (hz | hz) | hz
              · exact .inl (List.mem_of_mem_take hz)
              · exact .inr hz
              · exact .inl (List.mem_of_mem_drop hz)
            have HLD : Hid (∀ z ∈ L, RepV w z) := fun z hz => by
              rcases hLw z hz with h | rfl
              · exact HL.out.2 z h
              · exact HR.out
            have HLr : Hid (∀ z ∈ L, z.1.rp.length ≤ 1000000) := fun z hz => by
              rcases hLw z hz with h | rfl
              · have := (seat_iff.1 ((may_iff.1 HM.out).1 z.1 (List.mem_map.2 ⟨z, h, rfl⟩))).2.2.2.2
                omega
              · exact hrl
            have HLl : Hid (L.length ≤ 1000) := by show _ ≤ _; rw [HLc]; simp; omega
            have HLp : Hid (0 < L.length) := by show _ < _; rw [HLc]; simp only [List.length_append, List.length_singleton]; omega
            have KCT : Hid (∀ (Q : Nat) (W : World), Below w.heap.size w W → ∀ sv, Rd seatE W sv [((⟨c, q, r⟩ : Ms), ra, r.length, rc)] → W.cell? ⟨Q, 0, none⟩ = some (.slice (some ⟨b, off, none⟩) K (K + 1)) → W.cell? ⟨Q, 1, none⟩ = some sv → W.cell? ⟨Q, 2, none⟩ = some (.slice (some ⟨b, off, none⟩) 0 0) → Calls Try.prog 26 #[.slice (some ⟨Q, 0, none⟩) 3 3] W fun e w' => ∃ v, e = .returned v ∧ Ow seatE 49 W.heap.size w' v L ∧ Below W.heap.size W w') := fun Q W hW sv hsv h0 h1 h2 => by
              have hF := (HL.out.1.front hKl).below hW
              have hB := HBK.out.below hW
              rw [HLf.out]
              refine sconcat_of Q [.slice (some ⟨b, off, none⟩) K (K + 1), sv, .slice (some ⟨b, off, none⟩) 0 0] [zs.take K, [((⟨c, q, r⟩ : Ms), ra, r.length, rc)], zs.drop (K + 1)] W ?_ ?_ 3 (by decide) rfl rfl (by rw [← HLf.out]; exact HLp.out) (by rw [← HLf.out]; exact HLl.out)
              · intro i v hv
                match i, hv with
                | 0, hv => cases hv; exact h0
                | 1, hv => cases hv; exact h1
                | 2, hv => cases hv; exact h2
                | i + 3, hv => simp at hv
              · intro i v xs hv hx
                match i, hv, hx with
                | 0, hv, hx => cases hv; cases hx; exact hF
                | 1, hv, hx => cases hv; cases hx; exact hsv
                | 2, hv, hx => cases hv; cases hx; exact hB
                | i + 3, hv, hx => simp at hv
            clear HLc hLw HLf
            clear HTL HM HS HL HR HOK HBK hcn hz hnew
            go_enter Try.func13, Try.ntmps13
            go_wp2_with fail
            refine ks.mono ?_
            rintro e w1 ⟨rfl, hb1⟩
            obtain ⟨hsz2, hbx2, cl2⟩ := st_box w1 (⟨c, q, r⟩, ra, r.length, rc)
            dsimp only [ec] at hsz2 hbx2 cl2
            have hb02 := keep_step hb1 hszr.out hbx2
            have hPw : Hid (w.heap.size + 1 ≤ w1.heap.size + 1) := by show _ ≤ _; have h8 := hszr.out; have h9 := hb1.size; omega
            have kc2 := kc _ (hbw _ hb02)
            rw [hsz2] at kc2
            have hsz2r : Hid (w1.heap.size + 1 ≤ (w1.alloc (.cells #[.int .i64 c, .int .u64 (q : Int), .slice ra r.length rc] 49)).heap.size) := by show _ ≤ _; omega
            obtain ⟨x0, x1, x2⟩ := cl2 _ (Below.refl _ _)
            clear ks kc c0 c1 hb1
            go_wp2_with fail
            generalize hP : w1.heap.size = P at *
            generalize w1.alloc (.cells #[.int .i64 c, .int .u64 (q : Int), .slice ra r.length rc] 49) = w2 at *
            clear hP
            refine kc2.mono ?_
            rintro e w3 ⟨rfl, hb3⟩
            have hb03 : Below (w.heap.size + 1) _ w3 := hb02.trans (hb3.mono hPw.out)
            obtain ⟨y0, y1, y2⟩ := cl2 _ hb3
            have km3 := km w3
            clear kc2 km x0 x1 x2
            go_wp2_with fail
            refine km3.mono ?_
            rintro e w4 ⟨rfl, hb4⟩
            have hb04 := keep_step hb03 hszr.out hb4
            have hb24 := keep_step hb3 hsz2r.out hb4
            obtain ⟨d0, d1⟩ := cl _ hb04
            have kf4 := kf w4 (hbw _ hb04)
            clear km3 hb03 hb4 y0 y1 y2 hb3 kf
            go_wp2_with fail
            refine kf4.mono ?_
            rintro e w5 ⟨rfl, hb5⟩
            have hb05 := keep_step hb04 hszr.out hb5
            have hb25 := keep_step hb24 hsz2r.out hb5
            clear kf4 hb04 hb24 hb5 d0 d1
            obtain ⟨d0, d1⟩ := cl _ hb05
            obtain ⟨e0, e1, e2⟩ := cz _ (hbw _ hb05)
            go_wp2
            go_quiet (fail)
            have hb06 := below_drewN hb05 nq
            have hb26 := below_drewN hb25 nq
            clear hb05 hb25 d0 d1 e0 e1 e2
            generalize w5.drewN nq = w6 at *
            go_wp2
            refine wp_region_L (fun W => (W.cell? ⟨P, 0, none⟩ = some (.int .i64 c) ∧ W.cell? ⟨P, 1, none⟩ = some (.int .u64 (q : Int)) ∧ W.cell? ⟨P, 2, none⟩ = some (.slice ra r.length rc)) ∧ Below (P + 1) w2 W) [] (by kernel_rfl) ?_
            have hd2 := hb26.drew
            have hd0 := hb06.drew
            clear hb26 hb06
            generalize w6.drew = wd at *
            have yS : (fun W => (W.cell? ⟨P, 0, none⟩ = some (.int .i64 c) ∧ W.cell? ⟨P, 1, none⟩ = some (.int .u64 (q : Int)) ∧ W.cell? ⟨P, 2, none⟩ = some (.slice ra r.length rc)) ∧ Below (P + 1) w2 W) wd := ⟨cl2 _ hd2, hd2⟩
            refine wpAnyL_take 0 rfl (by kernel_rfl) (by kernel_rfl) (by kernel_rfl) (by kernel_rfl) (fun _ _ _ h => h) (wanted_none rfl) (by intro w' hS'; obtain ⟨⟨x0, x1, x2⟩, xb⟩ := hS'; go_simp <;> rfl) yS ?_
            try simp only [List.getElem_toArray, List.getElem_cons_succ, List.getElem_cons_zero, Act.put, List.setIfInBounds_toArray, List.set_cons_zero, List.set_cons_succ]
            refine wpAnyL_take 1 rfl (by kernel_rfl) (by kernel_rfl) (by kernel_rfl) (by kernel_rfl) (fun _ _ _ h => h) (wanted_none rfl) (by intro w' hS'; obtain ⟨⟨x0, x1, x2⟩, xb⟩ := hS'; go_simp <;> rfl) yS ?_
            try simp only [List.getElem_toArray, List.getElem_cons_succ, List.getElem_cons_zero, Act.put, List.setIfInBounds_toArray, List.set_cons_zero, List.set_cons_succ]
            refine wpAnyL_take 2 rfl (by kernel_rfl) (by kernel_rfl) (by kernel_rfl) (by kernel_rfl) (fun _ _ _ h => h) (wanted_none rfl) (by intro w' hS'; obtain ⟨⟨x0, x1, x2⟩, xb⟩ := hS'; go_simp <;> rfl) yS ?_
            try simp only [List.getElem_toArray, List.getElem_cons_succ, List.getElem_cons_zero, Act.put, List.setIfInBounds_toArray, List.set_cons_zero, List.set_cons_succ]
            refine wpAnyL_take 3 rfl (by kernel_rfl) (by kernel_rfl) (by kernel_rfl) (by kernel_rfl) (fun _ _ _ h => h) (wanted_none rfl) (by intro w' hS'; obtain ⟨⟨x0, x1, x2⟩, xb⟩ := hS'; go_simp <;> rfl) yS ?_
            try simp only [List.getElem_toArray, List.getElem_cons_succ, List.getElem_cons_zero, Act.put, List.setIfInBounds_toArray, List.set_cons_zero, List.set_cons_succ]
            refine wpAnyL_take 5 rfl (by kernel_rfl) (by kernel_rfl) (by kernel_rfl) (by kernel_rfl) (fun _ _ _ h => h) (wanted_none rfl) (by intro w' hS'; obtain ⟨⟨x0, x1, x2⟩, xb⟩ := hS'; go_simp <;> rfl) yS ?_
            try simp only [List.getElem_toArray, List.getElem_cons_succ, List.getElem_cons_zero, Act.put, List.setIfInBounds_toArray, List.set_cons_zero, List.set_cons_succ]
            refine wpAnyL_one 4 (by kernel_rfl) rfl (wanted_none rfl) ?_
            intro K' hK'
            go_simp
            obtain ⟨z1, z2, z3⟩ := one_box wd (.cells #[.int .i64 c, .int .u64 (q : Int), .slice ra r.length rc] 49)
            have hd2a := keep_step hd2 hsz2r.out z3
            have yS4 : (fun W => (W.cell? ⟨P, 0, none⟩ = some (.int .i64 c) ∧ W.cell? ⟨P, 1, none⟩ = some (.int .u64 (q : Int)) ∧ W.cell? ⟨P, 2, none⟩ = some (.slice ra r.length rc)) ∧ Below (P + 1) w2 W) (wd.alloc (.cells #[.int .i64 c, .int .u64 (q : Int), .slice ra r.length rc] 49)) := ⟨cl2 _ hd2a, hd2a⟩
            refine hK'.out _ _ (.inr yS4) ?_
            clear hK' K'
            try simp only [List.getElem_toArray, List.getElem_cons_succ, List.getElem_cons_zero, Act.put, List.setIfInBounds_toArray, List.set_cons_zero, List.set_cons_succ]
            refine wpAnyL_one 6 (by kernel_rfl) rfl (wanted_none rfl) ?_
            intro K' hK'
            go_simp
            obtain ⟨u1, u2, u3⟩ := one_box (wd.alloc (.cells #[.int .i64 c, .int .u64 (q : Int), .slice ra r.length rc] 49)) (.cells #[.slice (some ⟨b, off, none⟩) K (K + 1), .slice (some ⟨wd.heap.size, 0, none⟩) 1 1, .slice (some ⟨b, off, none⟩) 0 0] 22)
            have hd2b := keep_step hd2a hsz2r.out u3
            have hd0a := keep_step hd0 hszr.out z3
            have hd0b := keep_step hd0a hszr.out u3
            have yS6 : (fun W => (W.cell? ⟨P, 0, none⟩ = some (.int .i64 c) ∧ W.cell? ⟨P, 1, none⟩ = some (.int .u64 (q : Int)) ∧ W.cell? ⟨P, 2, none⟩ = some (.slice ra r.length rc)) ∧ Below (P + 1) w2 W) ((wd.alloc (.cells #[.int .i64 c, .int .u64 (q : Int), .slice ra r.length rc] 49)).alloc (.cells #[.slice (some ⟨b, off, none⟩) K (K + 1), .slice (some ⟨wd.heap.size, 0, none⟩) 1 1, .slice (some ⟨b, off, none⟩) 0 0] 22)) := ⟨cl2 _ hd2b, hd2b⟩
            have hrow : Rd seatE (wd.alloc (.cells #[.int .i64 c, .int .u64 (q : Int), .slice ra r.length rc] 49)) (.slice (some ⟨wd.heap.size, 0, none⟩) 1 1) [((⟨c, q, r⟩ : Ms), ra, r.length, rc)] := (Rk.made (E := seatE) (xs := [((⟨c, q, r⟩ : Ms), ra, r.length, rc)]) z2 rfl (by unfold maxLen; simp)).rd
            have kct := KCT.out (wd.alloc (.cells #[.int .i64 c, .int .u64 (q : Int), .slice ra r.length rc] 49)).heap.size ((wd.alloc (.cells #[.int .i64 c, .int .u64 (q : Int), .slice ra r.length rc] 49)).alloc (.cells #[.slice (some ⟨b, off, none⟩) K (K + 1), .slice (some ⟨wd.heap.size, 0, none⟩) 1 1, .slice (some ⟨b, off, none⟩) 0 0] 22)) (hbw _ hd0b) _ (hrow.below u3) (by rw [cells_of_block u2]; rfl) (by rw [cells_of_block u2]; rfl) (by rw [cells_of_block u2]; rfl)
            clear hrow u2 z2
            refine hK'.out _ _ (.inr yS6) ?_
            clear hK' K'
            try simp only [List.getElem_toArray, List.getElem_cons_succ, List.getElem_cons_zero, Act.put, List.setIfInBounds_toArray, List.set_cons_zero, List.set_cons_succ]
            rw [z1] at *
            generalize (wd.alloc (.cells #[.int .i64 c, .int .u64 (q : Int), .slice ra r.length rc] 49)).alloc (.cells #[.slice (some ⟨b, off, none⟩) K (K + 1), .slice (some ⟨wd.heap.size, 0, none⟩) 1 1, .slice (some ⟨b, off, none⟩) 0 0] 22) = w7 at *
            clear u3 z3 hd2a hd0a yS4 yS
            refine wpAnyL_one 7 (by kernel_rfl) rfl (wanted_none rfl) ?_
            intro K' hK'
            go_simp
            go_at_call 26
            refine kct.mono ?_
            rintro e w8 ⟨v8, rfl, hO8, hb8⟩
            obtain ⟨g8, cap8, cur8, hv8, -⟩ := hO8.1.cells HLp.out
            subst hv8
            have hd28 := keep_step hd2b hsz2r.out hb8
            have hd08 := keep_step hd0b hszr.out hb8
            have yS8 : (fun W => (W.cell? ⟨P, 0, none⟩ = some (.int .i64 c) ∧ W.cell? ⟨P, 1, none⟩ = some (.int .u64 (q : Int)) ∧ W.cell? ⟨P, 2, none⟩ = some (.slice ra r.length rc)) ∧ Below (P + 1) w2 W) w8 := ⟨cl2 _ hd28, hd28⟩
            have kow := own_of w7.heap.size L g8 cap8 w8 hb8.size hO8 (fun z hz => Wi.Bs.mono (Wi.Bs.below (HLD.out z hz) (hbw _ hd08)) (hbw _ hd0b).size) HLl.out HLr.out
            refine hK'.out _ _ (.inr yS8) ?_
            clear hK' K'
            try simp only [List.getElem_toArray, List.getElem_cons_succ, List.getElem_cons_zero, Act.put, List.setIfInBounds_toArray, List.set_cons_zero, List.set_cons_succ]
            clear kct hO8
            refine wpAnyL_one 8 (by kernel_rfl) rfl (wanted_none rfl) ?_
            intro K' hK'
            go_simp
            go_at_call 25
            refine kow.mono ?_
            rintro e w9 ⟨⟨cur, rfl, hO9, hm9, hc9⟩, hb9⟩
            have hd29 : Below (P + 1) w2 w9 := hd28.trans (hb9.mono (Nat.le_trans hsz2r.out hd2b.size))
            have hd09 : Below (w.heap.size + 1) _ w9 := hd08.trans (hb9.mono (Nat.le_trans hszr.out hd0b.size))
            have yS9 : (fun W => (W.cell? ⟨P, 0, none⟩ = some (.int .i64 c) ∧ W.cell? ⟨P, 1, none⟩ = some (.int .u64 (q : Int)) ∧ W.cell? ⟨P, 2, none⟩ = some (.slice ra r.length rc)) ∧ Below (P + 1) w2 W) w9 := ⟨cl2 _ hd29, hd29⟩
            have hsv : SeatsV w9 (.slice (some ⟨g8, 0, none⟩) L.length cap8) cur := ⟨hO9.1.rd, fun z hz => (hc9 z hz).rep⟩
            refine hK'.out _ _ (.inr yS9) ?_
            clear hK' K'
            try simp only [List.getElem_toArray, List.getElem_cons_succ, List.getElem_cons_zero, Act.put, List.setIfInBounds_toArray, List.set_cons_zero, List.set_cons_succ]
            have HFN : Hid (T (.returned (.tuple #[.slice (some ⟨g8, 0, none⟩) L.length cap8, .int .i64 0])) w9) := E.out _ _ _ hsv (hm9.trans HLm.out)
            clear kow hO9 hsv hm9 hc9 E HLm HLD HLr HLl
            refine wpAnyL_take 9 rfl (by kernel_rfl) (by kernel_rfl) (by kernel_rfl) (by kernel_rfl) (fun _ _ _ h => h) (wanted_none rfl) (by intro w' hS'; obtain ⟨⟨x0, x1, x2⟩, xb⟩ := hS'; go_simp <;> rfl) yS9 ?_
            try simp only [List.getElem_toArray, List.getElem_cons_succ, List.getElem_cons_zero, Act.put, List.setIfInBounds_toArray, List.set_cons_zero, List.set_cons_succ]
            refine wpAnyL_take 10 rfl (by kernel_rfl) (by kernel_rfl) (by kernel_rfl) (by kernel_rfl) (fun _ _ _ h => h) (wanted_none rfl) (by intro w' hS'; obtain ⟨⟨x0, x1, x2⟩, xb⟩ := hS'; go_simp <;> rfl) yS9 ?_
            try simp only [List.getElem_toArray, List.getElem_cons_succ, List.getElem_cons_zero, Act.put, List.setIfInBounds_toArray, List.set_cons_zero, List.set_cons_succ]
            refine wpAnyL_done (by kernel_rfl) (NoPanic.normal ?_) _
            go_wp2
            go_ret2
            exact ⟨HFN.out, hbw _ hd09⟩
          · have HBK : Hid (Rd seatE w (.slice (some ⟨b, off + (K + 1) * 3, none⟩) (zs.length - (K + 1)) (cap - (K + 1))) (zs.drop (K + 1))) := by have h9 := rd_back HL.out.1 (k := K + 1) (by omega); rw [if_neg hck] at h9; exact h9
            obtain ⟨L, HLf⟩ : ∃ L, Hid (L = [zs.take K, [((⟨c, q, r⟩ : Ms), ra, r.length, rc)], zs.drop (K + 1)].flatten) := ⟨_, rfl⟩
            have HLc : L = zs.take K ++ [((⟨c, q, r⟩ : Ms), ra, r.length, rc)] ++ zs.drop (K + 1) := by rw [HLf.out]; simp
            have HLm : Hid (mes L = (mes zs).take K ++ [⟨c, q, r⟩] ++ (mes zs).drop (K + 1)) := by show _ = _; rw [HLc]; simp only [mes, List.map_append, List.map_take, List.map_drop, List.map_cons, List.map_nil]
            have hLw : ∀ z ∈ L, z ∈ zs ∨ z = ((⟨c, q, r⟩ : Ms), ra, r.length, rc) := fun z hz => by
              rw [HLc] at hz
              simp only [List.mem_append, List.mem_singleton] at hz
              rcases hz with (hz | hz) | hz
              · exact .inl (List.mem_of_mem_take hz)
              · exact .inr hz
              · exact .inl (List.mem_of_mem_drop hz)
            have HLD : Hid (∀ z ∈ L, RepV w z) := fun z hz => by
              rcases hLw z hz with h | rfl
              · exact HL.out.2 z h
              · exact HR.out
            have HLr : Hid (∀ z ∈ L, z.1.rp.length ≤ 1000000) := fun z hz => by
              rcases hLw z hz with h | rfl
              · have := (seat_iff.1 ((may_iff.1 HM.out).1 z.1 (List.mem_map.2 ⟨z, h, rfl⟩))).2.2.2.2
                omega
              · exact hrl
            have HLl : Hid (L.length ≤ 1000) := by show _ ≤ _; rw [HLc]; simp; omega
            have HLp : Hid (0 < L.length) := by show _ < _; rw [HLc]; simp only [List.length_append, List.length_singleton]; omega
            have KCT : Hid (∀ (Q : Nat) (W : World), Below w.heap.size w W → ∀ sv, Rd seatE W sv [((⟨c, q, r⟩ : Ms), ra, r.length, rc)] → W.cell? ⟨Q, 0, none⟩ = some (.slice (some ⟨b, off, none⟩) K cap) → W.cell? ⟨Q, 1, none⟩ = some sv → W.cell? ⟨Q, 2, none⟩ = some (.slice (some ⟨b, off + (K + 1) * 3, none⟩) (zs.length - (K + 1)) (cap - (K + 1))) → Calls Try.prog 26 #[.slice (some ⟨Q, 0, none⟩) 3 3] W fun e w' => ∃ v, e = .returned v ∧ Ow seatE 49 W.heap.size w' v L ∧ Below W.heap.size W w') := fun Q W hW sv hsv h0 h1 h2 => by
              have hF := (HL.out.1.front hKl).below hW
              have hB := HBK.out.below hW
              rw [HLf.out]
              refine sconcat_of Q [.slice (some ⟨b, off, none⟩) K cap, sv, .slice (some ⟨b, off + (K + 1) * 3, none⟩) (zs.length - (K + 1)) (cap - (K + 1))] [zs.take K, [((⟨c, q, r⟩ : Ms), ra, r.length, rc)], zs.drop (K + 1)] W ?_ ?_ 3 (by decide) rfl rfl (by rw [← HLf.out]; exact HLp.out) (by rw [← HLf.out]; exact HLl.out)
              · intro i v hv
                match i, hv with
                | 0, hv => cases hv; exact h0
                | 1, hv => cases hv; exact h1
                | 2, hv => cases hv; exact h2
                | i + 3, hv => simp at hv
              · intro i v xs hv hx
                match i, hv, hx with
                | 0, hv, hx => cases hv; cases hx; exact hF
                | 1, hv, hx => cases hv; cases hx; exact hsv
                | 2, hv, hx => cases hv; cases hx; exact hB
                | i + 3, hv, hx => simp at hv
            clear HLc hLw HLf
            clear HTL HM HS HL HR HOK HBK hcn hz hnew
            go_enter Try.func13, Try.ntmps13
            go_wp2_with fail
            refine ks.mono ?_
            rintro e w1 ⟨rfl, hb1⟩
            obtain ⟨hsz2, hbx2, cl2⟩ := st_box w1 (⟨c, q, r⟩, ra, r.length, rc)
            dsimp only [ec] at hsz2 hbx2 cl2
            have hb02 := keep_step hb1 hszr.out hbx2
            have hPw : Hid (w.heap.size + 1 ≤ w1.heap.size + 1) := by show _ ≤ _; have h8 := hszr.out; have h9 := hb1.size; omega
            have kc2 := kc _ (hbw _ hb02)
            rw [hsz2] at kc2
            have hsz2r : Hid (w1.heap.size + 1 ≤ (w1.alloc (.cells #[.int .i64 c, .int .u64 (q : Int), .slice ra r.length rc] 49)).heap.size) := by show _ ≤ _; omega
            obtain ⟨x0, x1, x2⟩ := cl2 _ (Below.refl _ _)
            clear ks kc c0 c1 hb1
            go_wp2_with fail
            generalize hP : w1.heap.size = P at *
            generalize w1.alloc (.cells #[.int .i64 c, .int .u64 (q : Int), .slice ra r.length rc] 49) = w2 at *
            clear hP
            refine kc2.mono ?_
            rintro e w3 ⟨rfl, hb3⟩
            have hb03 : Below (w.heap.size + 1) _ w3 := hb02.trans (hb3.mono hPw.out)
            obtain ⟨y0, y1, y2⟩ := cl2 _ hb3
            have km3 := km w3
            clear kc2 km x0 x1 x2
            go_wp2_with fail
            refine km3.mono ?_
            rintro e w4 ⟨rfl, hb4⟩
            have hb04 := keep_step hb03 hszr.out hb4
            have hb24 := keep_step hb3 hsz2r.out hb4
            obtain ⟨d0, d1⟩ := cl _ hb04
            have kf4 := kf w4 (hbw _ hb04)
            clear km3 hb03 hb4 y0 y1 y2 hb3 kf
            go_wp2_with fail
            refine kf4.mono ?_
            rintro e w5 ⟨rfl, hb5⟩
            have hb05 := keep_step hb04 hszr.out hb5
            have hb25 := keep_step hb24 hsz2r.out hb5
            clear kf4 hb04 hb24 hb5 d0 d1
            obtain ⟨d0, d1⟩ := cl _ hb05
            obtain ⟨e0, e1, e2⟩ := cz _ (hbw _ hb05)
            go_wp2
            go_quiet (fail)
            have hb06 := below_drewN hb05 nq
            have hb26 := below_drewN hb25 nq
            clear hb05 hb25 d0 d1 e0 e1 e2
            generalize w5.drewN nq = w6 at *
            go_wp2
            refine wp_region_L (fun W => (W.cell? ⟨P, 0, none⟩ = some (.int .i64 c) ∧ W.cell? ⟨P, 1, none⟩ = some (.int .u64 (q : Int)) ∧ W.cell? ⟨P, 2, none⟩ = some (.slice ra r.length rc)) ∧ Below (P + 1) w2 W) [] (by kernel_rfl) ?_
            have hd2 := hb26.drew
            have hd0 := hb06.drew
            clear hb26 hb06
            generalize w6.drew = wd at *
            have yS : (fun W => (W.cell? ⟨P, 0, none⟩ = some (.int .i64 c) ∧ W.cell? ⟨P, 1, none⟩ = some (.int .u64 (q : Int)) ∧ W.cell? ⟨P, 2, none⟩ = some (.slice ra r.length rc)) ∧ Below (P + 1) w2 W) wd := ⟨cl2 _ hd2, hd2⟩
            refine wpAnyL_take 0 rfl (by kernel_rfl) (by kernel_rfl) (by kernel_rfl) (by kernel_rfl) (fun _ _ _ h => h) (wanted_none rfl) (by intro w' hS'; obtain ⟨⟨x0, x1, x2⟩, xb⟩ := hS'; go_simp <;> rfl) yS ?_
            try simp only [List.getElem_toArray, List.getElem_cons_succ, List.getElem_cons_zero, Act.put, List.setIfInBounds_toArray, List.set_cons_zero, List.set_cons_succ]
            refine wpAnyL_take 1 rfl (by kernel_rfl) (by kernel_rfl) (by kernel_rfl) (by kernel_rfl) (fun _ _ _ h => h) (wanted_none rfl) (by intro w' hS'; obtain ⟨⟨x0, x1, x2⟩, xb⟩ := hS'; go_simp <;> rfl) yS ?_
            try simp only [List.getElem_toArray, List.getElem_cons_succ, List.getElem_cons_zero, Act.put, List.setIfInBounds_toArray, List.set_cons_zero, List.set_cons_succ]
            refine wpAnyL_take 2 rfl (by kernel_rfl) (by kernel_rfl) (by kernel_rfl) (by kernel_rfl) (fun _ _ _ h => h) (wanted_none rfl) (by intro w' hS'; obtain ⟨⟨x0, x1, x2⟩, xb⟩ := hS'; go_simp <;> rfl) yS ?_
            try simp only [List.getElem_toArray, List.getElem_cons_succ, List.getElem_cons_zero, Act.put, List.setIfInBounds_toArray, List.set_cons_zero, List.set_cons_succ]
            refine wpAnyL_take 3 rfl (by kernel_rfl) (by kernel_rfl) (by kernel_rfl) (by kernel_rfl) (fun _ _ _ h => h) (wanted_none rfl) (by intro w' hS'; obtain ⟨⟨x0, x1, x2⟩, xb⟩ := hS'; go_simp <;> rfl) yS ?_
            try simp only [List.getElem_toArray, List.getElem_cons_succ, List.getElem_cons_zero, Act.put, List.setIfInBounds_toArray, List.set_cons_zero, List.set_cons_succ]
            refine wpAnyL_take 5 rfl (by kernel_rfl) (by kernel_rfl) (by kernel_rfl) (by kernel_rfl) (fun _ _ _ h => h) (wanted_none rfl) (by intro w' hS'; obtain ⟨⟨x0, x1, x2⟩, xb⟩ := hS'; go_simp <;> rfl) yS ?_
            try simp only [List.getElem_toArray, List.getElem_cons_succ, List.getElem_cons_zero, Act.put, List.setIfInBounds_toArray, List.set_cons_zero, List.set_cons_succ]
            refine wpAnyL_one 4 (by kernel_rfl) rfl (wanted_none rfl) ?_
            intro K' hK'
            go_simp
            obtain ⟨z1, z2, z3⟩ := one_box wd (.cells #[.int .i64 c, .int .u64 (q : Int), .slice ra r.length rc] 49)
            have hd2a := keep_step hd2 hsz2r.out z3
            have yS4 : (fun W => (W.cell? ⟨P, 0, none⟩ = some (.int .i64 c) ∧ W.cell? ⟨P, 1, none⟩ = some (.int .u64 (q : Int)) ∧ W.cell? ⟨P, 2, none⟩ = some (.slice ra r.length rc)) ∧ Below (P + 1) w2 W) (wd.alloc (.cells #[.int .i64 c, .int .u64 (q : Int), .slice ra r.length rc] 49)) := ⟨cl2 _ hd2a, hd2a⟩
            refine hK'.out _ _ (.inr yS4) ?_
            clear hK' K'
            try simp only [List.getElem_toArray, List.getElem_cons_succ, List.getElem_cons_zero, Act.put, List.setIfInBounds_toArray, List.set_cons_zero, List.set_cons_succ]
            refine wpAnyL_one 6 (by kernel_rfl) rfl (wanted_none rfl) ?_
            intro K' hK'
            go_simp
            obtain ⟨u1, u2, u3⟩ := one_box (wd.alloc (.cells #[.int .i64 c, .int .u64 (q : Int), .slice ra r.length rc] 49)) (.cells #[.slice (some ⟨b, off, none⟩) K cap, .slice (some ⟨wd.heap.size, 0, none⟩) 1 1, .slice (some ⟨b, off + (K + 1) * 3, none⟩) (zs.length - (K + 1)) (cap - (K + 1))] 22)
            have hd2b := keep_step hd2a hsz2r.out u3
            have hd0a := keep_step hd0 hszr.out z3
            have hd0b := keep_step hd0a hszr.out u3
            have yS6 : (fun W => (W.cell? ⟨P, 0, none⟩ = some (.int .i64 c) ∧ W.cell? ⟨P, 1, none⟩ = some (.int .u64 (q : Int)) ∧ W.cell? ⟨P, 2, none⟩ = some (.slice ra r.length rc)) ∧ Below (P + 1) w2 W) ((wd.alloc (.cells #[.int .i64 c, .int .u64 (q : Int), .slice ra r.length rc] 49)).alloc (.cells #[.slice (some ⟨b, off, none⟩) K cap, .slice (some ⟨wd.heap.size, 0, none⟩) 1 1, .slice (some ⟨b, off + (K + 1) * 3, none⟩) (zs.length - (K + 1)) (cap - (K + 1))] 22)) := ⟨cl2 _ hd2b, hd2b⟩
            have hrow : Rd seatE (wd.alloc (.cells #[.int .i64 c, .int .u64 (q : Int), .slice ra r.length rc] 49)) (.slice (some ⟨wd.heap.size, 0, none⟩) 1 1) [((⟨c, q, r⟩ : Ms), ra, r.length, rc)] := (Rk.made (E := seatE) (xs := [((⟨c, q, r⟩ : Ms), ra, r.length, rc)]) z2 rfl (by unfold maxLen; simp)).rd
            have kct := KCT.out (wd.alloc (.cells #[.int .i64 c, .int .u64 (q : Int), .slice ra r.length rc] 49)).heap.size ((wd.alloc (.cells #[.int .i64 c, .int .u64 (q : Int), .slice ra r.length rc] 49)).alloc (.cells #[.slice (some ⟨b, off, none⟩) K cap, .slice (some ⟨wd.heap.size, 0, none⟩) 1 1, .slice (some ⟨b, off + (K + 1) * 3, none⟩) (zs.length - (K + 1)) (cap - (K + 1))] 22)) (hbw _ hd0b) _ (hrow.below u3) (by rw [cells_of_block u2]; rfl) (by rw [cells_of_block u2]; rfl) (by rw [cells_of_block u2]; rfl)
            clear hrow u2 z2
            refine hK'.out _ _ (.inr yS6) ?_
            clear hK' K'
            try simp only [List.getElem_toArray, List.getElem_cons_succ, List.getElem_cons_zero, Act.put, List.setIfInBounds_toArray, List.set_cons_zero, List.set_cons_succ]
            rw [z1] at *
            generalize (wd.alloc (.cells #[.int .i64 c, .int .u64 (q : Int), .slice ra r.length rc] 49)).alloc (.cells #[.slice (some ⟨b, off, none⟩) K cap, .slice (some ⟨wd.heap.size, 0, none⟩) 1 1, .slice (some ⟨b, off + (K + 1) * 3, none⟩) (zs.length - (K + 1)) (cap - (K + 1))] 22) = w7 at *
            clear u3 z3 hd2a hd0a yS4 yS
            refine wpAnyL_one 7 (by kernel_rfl) rfl (wanted_none rfl) ?_
            intro K' hK'
            go_simp
            go_at_call 26
            refine kct.mono ?_
            rintro e w8 ⟨v8, rfl, hO8, hb8⟩
            obtain ⟨g8, cap8, cur8, hv8, -⟩ := hO8.1.cells HLp.out
            subst hv8
            have hd28 := keep_step hd2b hsz2r.out hb8
            have hd08 := keep_step hd0b hszr.out hb8
            have yS8 : (fun W => (W.cell? ⟨P, 0, none⟩ = some (.int .i64 c) ∧ W.cell? ⟨P, 1, none⟩ = some (.int .u64 (q : Int)) ∧ W.cell? ⟨P, 2, none⟩ = some (.slice ra r.length rc)) ∧ Below (P + 1) w2 W) w8 := ⟨cl2 _ hd28, hd28⟩
            have kow := own_of w7.heap.size L g8 cap8 w8 hb8.size hO8 (fun z hz => Wi.Bs.mono (Wi.Bs.below (HLD.out z hz) (hbw _ hd08)) (hbw _ hd0b).size) HLl.out HLr.out
            refine hK'.out _ _ (.inr yS8) ?_
            clear hK' K'
            try simp only [List.getElem_toArray, List.getElem_cons_succ, List.getElem_cons_zero, Act.put, List.setIfInBounds_toArray, List.set_cons_zero, List.set_cons_succ]
            clear kct hO8
            refine wpAnyL_one 8 (by kernel_rfl) rfl (wanted_none rfl) ?_
            intro K' hK'
            go_simp
            go_at_call 25
            refine kow.mono ?_
            rintro e w9 ⟨⟨cur, rfl, hO9, hm9, hc9⟩, hb9⟩
            have hd29 : Below (P + 1) w2 w9 := hd28.trans (hb9.mono (Nat.le_trans hsz2r.out hd2b.size))
            have hd09 : Below (w.heap.size + 1) _ w9 := hd08.trans (hb9.mono (Nat.le_trans hszr.out hd0b.size))
            have yS9 : (fun W => (W.cell? ⟨P, 0, none⟩ = some (.int .i64 c) ∧ W.cell? ⟨P, 1, none⟩ = some (.int .u64 (q : Int)) ∧ W.cell? ⟨P, 2, none⟩ = some (.slice ra r.length rc)) ∧ Below (P + 1) w2 W) w9 := ⟨cl2 _ hd29, hd29⟩
            have hsv : SeatsV w9 (.slice (some ⟨g8, 0, none⟩) L.length cap8) cur := ⟨hO9.1.rd, fun z hz => (hc9 z hz).rep⟩
            refine hK'.out _ _ (.inr yS9) ?_
            clear hK' K'
            try simp only [List.getElem_toArray, List.getElem_cons_succ, List.getElem_cons_zero, Act.put, List.setIfInBounds_toArray, List.set_cons_zero, List.set_cons_succ]
            have HFN : Hid (T (.returned (.tuple #[.slice (some ⟨g8, 0, none⟩) L.length cap8, .int .i64 0])) w9) := E.out _ _ _ hsv (hm9.trans HLm.out)
            clear kow hO9 hsv hm9 hc9 E HLm HLD HLr HLl
            refine wpAnyL_take 9 rfl (by kernel_rfl) (by kernel_rfl) (by kernel_rfl) (by kernel_rfl) (fun _ _ _ h => h) (wanted_none rfl) (by intro w' hS'; obtain ⟨⟨x0, x1, x2⟩, xb⟩ := hS'; go_simp <;> rfl) yS9 ?_
            try simp only [List.getElem_toArray, List.getElem_cons_succ, List.getElem_cons_zero, Act.put, List.setIfInBounds_toArray, List.set_cons_zero, List.set_cons_succ]
            refine wpAnyL_take 10 rfl (by kernel_rfl) (by kernel_rfl) (by kernel_rfl) (by kernel_rfl) (fun _ _ _ h => h) (wanted_none rfl) (by intro w' hS'; obtain ⟨⟨x0, x1, x2⟩, xb⟩ := hS'; go_simp <;> rfl) yS9 ?_
            try simp only [List.getElem_toArray, List.getElem_cons_succ, List.getElem_cons_zero, Act.put, List.setIfInBounds_toArray, List.set_cons_zero, List.set_cons_succ]
            refine wpAnyL_done (by kernel_rfl) (NoPanic.normal ?_) _
            go_wp2
            go_ret2
            exact ⟨HFN.out, hbw _ hd09⟩
end Go.Proofs.Ytebkfkijlopmoaa

