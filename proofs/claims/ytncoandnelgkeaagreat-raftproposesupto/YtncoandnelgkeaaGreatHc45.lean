import Derived.Test.YtncoandnelgkeaaGreatHc42
import Derived.Test.YtncoandnelgkeaaGreatHc43
/- The program's bytesOf, New. -/
namespace Go.Proofs.YtncoandnelgkeaaGreat
open Go.RowKit QuorumMath RlogMath RaftMath
set_option maxRecDepth 100000
set_option linter.unusedSimpArgs false
set_option linter.unusedVariables false

theorem push_byte {w : World} {v : Value} {xs : List Nat} (z : Nat) (h : Rk byteE w 5 v xs) (hlen : xs.length ≤ 10000000000) :
    ∀ ty, ∃ v' w', (Builtin.append_ #[23, 23] ty #[v, .slice (some ⟨w.heap.size, 0, none⟩) 1 1]).run Tryz.prog (w.alloc (.cells #[.int .u8 (z : Int)] 5)) = .ok v' w' ∧ PushT byteE 5 w v (xs ++ [z]) v' w' :=
  push_el byteE Tryz.underlying23 infoByte rfl (by decide) z h hlen
/-- Nodes as bytes. -/
def bytesI (l : List Int) : List Nat := l.map Int.toNat
theorem bytesI_take {l : List Int} {i : Nat} {x : Int} (h : l[i]? = some x) : bytesI (l.take (i + 1)) = bytesI (l.take i) ++ [x.toNat] := by unfold bytesI; rw [take_succ_get h, List.map_append]; rfl
theorem bytesI_len (l : List Int) : (bytesI l).length = l.length := by simp [bytesI]
set_option maxHeartbeats 2000000 in
theorem bytesOf_of (l : List Int) (lv : Value) (w : World) (hL : Rd intE w lv l) (hlen : l.length ≤ 1000000) (hr : ∀ z ∈ l, 0 ≤ z ∧ z < 256) : Calls Tryz.prog 37 #[lv] w fun e w' => ∃ v, e = .returned v ∧ Ow byteE 5 w.heap.size w' v (bytesI l) ∧ Below w.heap.size w w' := by
  obtain ⟨LR, HR⟩ : ∃ LR, Hid (LR = bytesI l) := ⟨_, rfl⟩
  rw [← HR.out]
  have HL : Hid (Rd intE w lv l) := hL
  have HB : Hid (∀ z ∈ l, 0 ≤ z ∧ z < 256) := hr
  obtain ⟨ao, cap, rfl, -, -⟩ := hL.shape
  clear hL hr
  go_enter Tryz.func37, Tryz.ntmps37
  go_wp2
  go_loopg [3, 8] l.length (fun gh s3 s8 wr => ∃ (i : Nat) (st : Value), i + gh = l.length ∧ s8 = .int .i64 (i : Int) ∧ st = s3 ∧ Ow byteE 5 w.heap.size wr st (bytesI (l.take i)) ∧ Below w.heap.size w wr)
  case atStart => exact ⟨0, _, by simp, rfl, rfl, by rw [List.take_zero]; exact Ow.nil _ _ _ _, Below.refl _ _⟩
  case round =>
    obtain ⟨i, st, hig, rfl, rfl, hO, hb⟩ := hrel
    by_cases hlt : i < l.length
    · have hlti : (i : Int) < (l.length : Int) := by omega
      have hx : l[i]? = some l[i] := List.getElem?_eq_getElem hlt
      obtain ⟨x, hxx⟩ : ∃ x, x = l[i] := ⟨_, rfl⟩
      rw [← hxx] at hx
      clear hxx
      obtain ⟨b, off, rfl, c⟩ := rdi_at HL.out hx
      have c0 := c wr hb
      obtain ⟨hx0, hx1⟩ := HB.out x (List.mem_of_getElem? hx)
      obtain ⟨y, rfl⟩ := Int.eq_ofNat_of_zero_le hx0
      have hw8 : IntKind.u8.wrap (y : Int) = (y : Int) := by rw [IntKind.wrap_u8]; omega
      have HS : Hid (bytesI (l.take (i + 1)) = bytesI (l.take i) ++ [y]) := bytesI_take hx
      have hml : (bytesI (l.take i)).length ≤ 10000000000 := by rw [bytesI_len, List.length_take]; omega
      have hrunH : Hid _ := push_byte y hO.1 hml
      obtain ⟨sa, sc, hst, -⟩ := hO.1.shape
      generalize bytesI (l.take i) = L at *
      subst hst
      clear c hx HR hx0 hx1
      go_wp2_with (at_builtin; refine wp_by rfl _ _ _ rfl _ _ rfl rfl hrunH.out ?_)
      intro v6 w6 hp6
      obtain ⟨hO2, hb2⟩ := hO.push hb.size hp6
      rw [← HS.out] at hO2
      clear hO hrunH hp6 HS
      go_wp2
      go_roundg (gk - 1)
      case measure => omega
      case rel => exact ⟨i + 1, v6, by omega, by go_num, rfl, hO2, hb.trans hb2⟩
    · have hlti : ¬ (i : Int) < (l.length : Int) := by omega
      obtain rfl : l.length = i := by omega
      rw [List.take_length, ← HR.out] at hO
      clear HR HB HL
      go_wp2
      go_ret
      exact ⟨_, rfl, hO, hb⟩
/-- A follower that knows nothing. -/
def newR (nd : Int) (l : List Int) : Mr := ⟨nd, 0, 0, ⟨0, 0, 0, bytesI l⟩, [], 0, 0, 0, 0, [], []⟩
/-- What New tells. -/
def NewT (n : Nat) (nd : Int) (l : List Int) (e : Ending) (w' : World) : Prop := ∃ (z : Rz) (c : Int), e = .returned (.tuple #[rv z, .int .i64 c]) ∧ RaV n w' z ∧ ((nodeB nd && votB l) = true → c = 0 ∧ z.r = newR nd l) ∧ ((nodeB nd && votB l) = false → c = 1)
set_option maxHeartbeats 4000000 in
theorem new_of (n : Nat) (nd : Int) (l : List Int) (lv : Value) (w : World) (hL : Rd intE w lv l) (hlen : l.length ≤ 1000000000000000) : Calls Tryz.prog 12 #[.int .i64 nd, lv] w fun e w' => NewT n nd l e w' ∧ Below w.heap.size w w' := by
  obtain ⟨PT, HPT⟩ : ∃ P, Hid (P = NewT n nd l) := ⟨_, rfl⟩
  rw [← HPT.out]
  obtain ⟨z1, B1, hb1⟩ := one_box w (.cells #[.int .i64 0, .int .u64 0, .int .i64 0, .int .u64 0, .int .u64 0, .int .i64 0, .slice none 0 0, .slice none 0 0, .int .u64 0, .int .i64 0, .int .i64 0, .int .i64 0, .slice none 0 0, .slice none 0 0] 32)
  have k1 := pnode_of nd (w.alloc (.cells #[.int .i64 0, .int .u64 0, .int .i64 0, .int .u64 0, .int .u64 0, .int .i64 0, .slice none 0 0, .slice none 0 0, .int .u64 0, .int .i64 0, .int .i64 0, .int .i64 0, .slice none 0 0, .slice none 0 0] 32))
  have k2 := check_of l lv (w.alloc (.cells #[.int .i64 0, .int .u64 0, .int .i64 0, .int .u64 0, .int .u64 0, .int .i64 0, .slice none 0 0, .slice none 0 0, .int .u64 0, .int .i64 0, .int .i64 0, .int .i64 0, .slice none 0 0, .slice none 0 0] 32)) (hL.below hb1) hlen
  have HB : Hid (votB l = true → ∀ W, Below w.heap.size w W → _) := fun hv W hW => bytesOf_of l lv W (hL.below hW) (by have := (votB_iff.1 hv).2.1; omega) (fun z hz => by have := (votB_iff.1 hv).2.2.1 z hz; omega)
  obtain ⟨la, lc, rfl, -, -⟩ := hL.shape
  obtain ⟨Q, HQ0⟩ : ∃ Q, Hid ((nodeB nd && votB l) = Q) := ⟨_, rfl⟩
  cases hA : nodeB nd with
  | false =>
    have HQ : Hid ((nodeB nd && votB l) = false) := by show _ = _; rw [hA]; rfl
    rw [hA] at k1
    clear HB hL hA k2 HQ0
    have C1 := B1
    have hb02 := hb1
    go_enter Tryz.func12, Tryz.ntmps12
    go_wp2_with fail
    refine k1.mono ?_
    rintro e w2 ⟨rfl, hw2⟩
    rw [← hw2] at C1 hb02
    clear k1 hw2 B1 hb1 z1
    have HF := setRow_heap _ _ _ #[.int .i64 0, .int .u64 0, .int .i64 0, .int .u64 0, .int .u64 0, .int .i64 0, .slice none 0 0, .slice none 0 0, .int .u64 0, .int .i64 0, .int .i64 0, .int .i64 0, .slice none 0 0, .slice none 0 0] _ _ C1
    have hbf := below_row hb02 (g := w.heap.size) (by omega) #[.int .i64 0, .int .u64 0, .int .i64 0, .int .u64 0, .int .u64 0, .int .i64 0, .slice none 0 0, .slice none 0 0, .int .u64 0, .int .i64 0, .int .i64 0, .int .i64 0, .slice none 0 0, .slice none 0 0]
    go_wp2_with (refine wpList_store_row rfl 32 _ _ rfl (w.heap.size) _ rfl rfl _ _ C1 (by kernel_rfl) rfl (by simp [Value.oneCell']) ?_)
    (try simp only [Exit.inBlock, Exit.then])
    refine bodyPost_ret (results_ra2 rfl _ _ (w.heap.size) _ _ _ _ _ _ _ _ _ _ _ _ _ _ rfl HF) rfl ?_
    exact ⟨by rw [HPT.out]; exact ⟨⟨zeroR, [], (none, 0, 0), (none, 0, 0), (none, 0, 0), (none, 0, 0)⟩, 1, rfl, raV_zero n _, (fun h => absurd (HQ.out.symm.trans h) (by decide)), fun _ => rfl⟩, hbf⟩
  | true =>
    rw [hA] at k1
    cases hV : votB l with
    | false =>
      have HQ : Hid ((nodeB nd && votB l) = false) := by show _ = _; rw [hV, Bool.and_false]
      rw [hV] at k2
      clear HB hL hA hV HQ0
      have C1 := B1
      have hb02 := hb1
      go_enter Tryz.func12, Tryz.ntmps12
      go_wp2_with fail
      refine k1.mono ?_
      rintro e w2 ⟨rfl, hw2⟩
      rw [← hw2] at C1 hb02 k2
      clear k1 hw2 B1 hb1 z1
      go_wp2_with fail
      refine k2.mono ?_
      rintro e w3 ⟨rfl, hw3⟩
      rw [← hw3] at C1 hb02
      clear k2 hw3
      have HF := setRow_heap _ _ _ #[.int .i64 0, .int .u64 0, .int .i64 0, .int .u64 0, .int .u64 0, .int .i64 0, .slice none 0 0, .slice none 0 0, .int .u64 0, .int .i64 0, .int .i64 0, .int .i64 0, .slice none 0 0, .slice none 0 0] _ _ C1
      have hbf := below_row hb02 (g := w.heap.size) (by omega) #[.int .i64 0, .int .u64 0, .int .i64 0, .int .u64 0, .int .u64 0, .int .i64 0, .slice none 0 0, .slice none 0 0, .int .u64 0, .int .i64 0, .int .i64 0, .int .i64 0, .slice none 0 0, .slice none 0 0]
      go_wp2_with (refine wpList_store_row rfl 32 _ _ rfl (w.heap.size) _ rfl rfl _ _ C1 (by kernel_rfl) rfl (by simp [Value.oneCell']) ?_)
      (try simp only [Exit.inBlock, Exit.then])
      refine bodyPost_ret (results_ra2 rfl _ _ (w.heap.size) _ _ _ _ _ _ _ _ _ _ _ _ _ _ rfl HF) rfl ?_
      exact ⟨by rw [HPT.out]; exact ⟨⟨zeroR, [], (none, 0, 0), (none, 0, 0), (none, 0, 0), (none, 0, 0)⟩, 1, rfl, raV_zero n _, (fun h => absurd (HQ.out.symm.trans h) (by decide)), fun _ => rfl⟩, hbf⟩
    | true =>
      have HQ : Hid ((nodeB nd && votB l) = true) := by show _ = _; rw [hA, hV]; rfl
      have k3 := HB.out hV _ hb1
      rw [hV] at k2
      clear HB hL hA hV HQ0
      have C1 := B1
      have hb02 := hb1
      go_enter Tryz.func12, Tryz.ntmps12
      go_wp2_with fail
      refine k1.mono ?_
      rintro e w2 ⟨rfl, hw2⟩
      rw [← hw2] at C1 hb02 k2 k3
      clear k1 hw2 B1 hb1
      go_wp2_with fail
      refine k2.mono ?_
      rintro e w3 ⟨rfl, hw3⟩
      rw [← hw3] at C1 hb02 k3
      clear k2 hw3
      go_wp2_with fail
      refine k3.mono ?_
      rintro e w4 ⟨dv, rfl, hO4, hb4⟩
      obtain ⟨da, dc, rfl, -⟩ := hO4.1.shape
      have C4 := (hb4.block w.heap.size (Array.getElem?_eq_some_iff.1 C1).1).trans C1
      have hb04 := hb02.trans (hb4.mono hb02.size)
      have HO4 : Hid _ := hO4
      generalize (bytesI l).length = dn at *
      clear k3 hb4 C1 hb02 hO4
      have HF := setRow_heap _ _ _ #[.int .i64 nd, .int .u64 0, .int .i64 0, .int .u64 0, .int .u64 0, .int .i64 0, .slice da dn dc, .slice none 0 0, .int .u64 0, .int .i64 0, .int .i64 0, .int .i64 0, .slice none 0 0, .slice none 0 0] _ _ C4
      have hbf := below_row hb04 (g := w.heap.size) (by omega) #[.int .i64 nd, .int .u64 0, .int .i64 0, .int .u64 0, .int .u64 0, .int .i64 0, .slice da dn dc, .slice none 0 0, .int .u64 0, .int .i64 0, .int .i64 0, .int .i64 0, .slice none 0 0, .slice none 0 0]
      have Hrow := Rk.frm (n := 0) HO4.out.1 (Frm.row (n := 0) (Nat.zero_le _) C4 #[.int .i64 nd, .int .u64 0, .int .i64 0, .int .u64 0, .int .u64 0, .int .i64 0, .slice da dn dc, .slice none 0 0, .int .u64 0, .int .i64 0, .int .i64 0, .int .i64 0, .slice none 0 0, .slice none 0 0]) (by decide)
      have HFR : Hid _ := Hrow
      clear Hrow
      go_wp2_with (refine wpList_store_row rfl 32 _ _ rfl (w.heap.size) _ rfl rfl _ _ C4 (by kernel_rfl) rfl (by simp [Value.oneCell']) ?_)
      (try simp only [Exit.inBlock, Exit.then])
      refine bodyPost_ret (results_ra2 rfl _ _ (w.heap.size) _ _ _ _ _ _ _ _ _ _ _ _ _ _ rfl HF) rfl ?_
      exact ⟨by rw [HPT.out]; exact ⟨⟨newR nd l, [], (da, dn, dc), (none, 0, 0), (none, 0, 0), (none, 0, 0)⟩, 0, rfl, ⟨.inr HFR.out, EntsN.nil _ _, rfl, RdN.nil _ _ _ _, RdN.nil _ _ _ _⟩, (fun _ => ⟨rfl, rfl⟩), (fun h => absurd (HQ.out.symm.trans h) (by decide))⟩, hbf⟩
end Go.Proofs.YtncoandnelgkeaaGreat

/- The law's light. -/
namespace Go.Proofs.YtncoandnelgkeaaGreat
open Go.RowKit QuorumMath RlogMath RaftMath
set_option maxRecDepth 100000
set_option linter.unusedSimpArgs false
set_option linter.unusedVariables false

/-- A state that is not too great. -/
def LightR (r : Mr) (e : Ending) : Prop := ∃ B : Bool, e = .returned (.bool B) ∧ (B = true → r.log.length ≤ 200 ∧ r.votes.length ≤ 100 ∧ r.peers.length ≤ 100)
set_option maxHeartbeats 8000000 in
theorem light_of (n : Nat) (r : Mr) (v : Value) (w : World) (hS : RsV n w v r) (hlo : ∀ e ∈ r.log, OkM e) (hlg : r.log.length ≤ 1000000000000) : Calls Tryz.prog 7 #[v] w fun e w' => LightR r e ∧ Below w.heap.size w w' := by
  obtain ⟨z, rfl, hz, hR⟩ := hS
  obtain ⟨r', zs, ⟨ba, bn, bc⟩, ⟨la, ln, lc⟩, ⟨va, vn, vc⟩, ⟨pa, pn, pc⟩⟩ := z
  obtain rfl : r' = r := hz
  obtain ⟨nd, tm, vo, ⟨bi, bt, bk, bd⟩, lg, cm, ro, le, el, vt, pe⟩ := r'
  dsimp only [rv] at *
  obtain ⟨T, HT⟩ : ∃ T, Hid (T = LightR ⟨nd, tm, vo, ⟨bi, bt, bk, bd⟩, lg, cm, ro, le, el, vt, pe⟩) := ⟨_, rfl⟩
  rw [← HT.out]
  have hml : mes zs = lg := hR.2.2.1
  have hzl : zs.length = lg.length := by have := congrArg List.length hml; rwa [List.length_map] at this
  have HZO : Hid _ := okz_of hml hlo
  obtain ⟨z1, B1, hb1⟩ := one_box w (.cells #[.int .i64 nd, .int .u64 (tm : Int), .int .i64 vo, .int .u64 (bi : Int), .int .u64 (bt : Int), .int .i64 bk, .slice ba bn bc, .slice la ln lc, .int .u64 (cm : Int), .int .i64 ro, .int .i64 le, .int .i64 el, .slice va vn vc, .slice pa pn pc] 32)
  have HE : Hid (Rd entE w (.slice la ln lc) zs) := hR.2.1.1.rd
  have HD : Hid (∀ z ∈ zs, DataV w z) := fun z hz => (hR.2.1.2 z hz).v
  obtain ⟨la', lc', hls, -, -⟩ := hR.2.1.1.rd.shape
  simp only [slv, Value.slice.injEq] at hls
  obtain ⟨rfl, rfl, rfl⟩ := hls
  obtain ⟨pa', pc', hps, -, -⟩ := hR.2.2.2.2.rd.shape
  simp only [slv, Value.slice.injEq] at hps
  obtain ⟨rfl, rfl, rfl⟩ := hps
  obtain ⟨va', vc', hvs, -, -⟩ := hR.2.2.2.1.rd.shape
  simp only [slv, Value.slice.injEq] at hvs
  obtain ⟨rfl, rfl, rfl⟩ := hvs
  have HTT : Hid (∀ B : Bool, (B = true → zs.length ≤ 200 ∧ vt.length ≤ 100 ∧ pe.length ≤ 100) → T (.returned (.bool B))) := fun B h => by
    rw [HT.out]
    exact ⟨B, rfl, fun hB => ⟨by have := (h hB).1; dsimp only; omega, (h hB).2.1, (h hB).2.2⟩⟩
  clear hR hml hlo HT
  obtain ⟨ZL, HZL⟩ : ∃ ZL, Hid (ZL = zs.length) := ⟨_, rfl⟩
  rw [← HZL.out] at HE HTT B1 hb1 z1 ⊢
  have hZb : ZL ≤ 1000000000000 := by have := HZL.out; omega
  clear hzl
  go_enter Tryz.func7, Tryz.ntmps7
  go_wp2
  go_loopg [3, 4] 300 (fun gh s3 s4 wr => ∃ (i s : Nat), i + gh = 300 ∧ s4 = .int .i64 (i : Int) ∧ s3 = .int .i64 (s : Int) ∧ s ≤ i * 1000000000 ∧ wr = w.alloc (.cells #[.int .i64 nd, .int .u64 (tm : Int), .int .i64 vo, .int .u64 (bi : Int), .int .u64 (bt : Int), .int .i64 bk, .slice ba bn bc, .slice la ZL lc, .int .u64 (cm : Int), .int .i64 ro, .int .i64 le, .int .i64 el, .slice va vt.length vc, .slice pa pe.length pc] 32))
  case atStart => exact ⟨0, 0, by omega, rfl, rfl, by omega, rfl⟩
  case round =>
    obtain ⟨i, s, hig, rfl, rfl, hs, hwr⟩ := hrel
    rw [← hwr] at B1 hb1
    have HWR : Hid _ := hwr
    clear hwr
    obtain ⟨-, o0, o1, o2, o3, o4, o5, o6, o7, o8, o9, o10, o11, o12, o13⟩ := r14_cells B1
    by_cases hlt : i < ZL ∧ i < 300
    · have h1 : (i : Int) < (ZL : Int) := by omega
      have h2 : (i : Int) < 300 := by omega
      have hz : zs[i]? = some (zs[i]'(by have := HZL.out; omega)) := List.getElem?_eq_getElem _
      obtain ⟨z, hzz⟩ : ∃ z, z = zs[i]'(by have := HZL.out; omega) := ⟨_, rfl⟩
      rw [← hzz] at hz
      clear hzz
      obtain ⟨b, off, rfl, c⟩ := rde_at HE.out hz
      obtain ⟨c0, c1, c2, c3⟩ := c wr hb1
      have hdl := (HD.out z (List.mem_of_getElem? hz)).len
      have hdb := (HZO.out z (List.mem_of_getElem? hz)).2
      rw [hdl] at c3
      obtain ⟨zm, zsl⟩ := z
      dsimp only at *
      generalize zm.data.length = dl at *
      have hs2 : s + dl ≤ (i + 1) * 1000000000 := by rw [Nat.add_mul]; omega
      have hwi : IntKind.i64.wrap ((s : Int) + (dl : Int)) = (s : Int) + (dl : Int) := IntWalk.i64_in _ (by omega)
      clear hz c hdl
      go_wp2
      go_roundg (gk - 1)
      case measure => omega
      case rel => exact ⟨i + 1, s + dl, by omega, by go_num, by simp [Int.natCast_add], hs2, HWR.out⟩
    · have hfin : ∀ B : Bool, (B = true → ZL ≤ 200 ∧ vt.length ≤ 100 ∧ pe.length ≤ 100) → T (.returned (.bool B)) ∧ Below w.heap.size w wr := fun B h => ⟨HTT.out B h, hb1⟩
      have HFI : Hid _ := hfin
      clear hfin HTT HE HD HZO
      by_cases hx : i < ZL
      · have h1 : (i : Int) < (ZL : Int) := by omega
        have h2 : ¬ (i : Int) < 300 := by omega
        have qa : ¬ (ZL : Int) ≤ 200 := by omega
        have E0 := HFI.out false (fun h => by cases h)
        have HE0 : Hid _ := E0
        clear HFI E0
        go_wp2
        go_ret
        exact HE0.out
      · have h1 : ¬ (i : Int) < (ZL : Int) := by omega
        by_cases Qa : ZL ≤ 200
        · have qa : (ZL : Int) ≤ 200 := by omega
          by_cases Qb : s ≤ 20000
          · have qb : (s : Int) ≤ 20000 := by omega
            by_cases Qc : vt.length ≤ 100
            · have qc : (vt.length : Int) ≤ 100 := by omega
              by_cases Qd : pe.length ≤ 100
              · have qd : (pe.length : Int) ≤ 100 := by omega
                have E0 := HFI.out true (fun _ => ⟨Qa, Qc, Qd⟩)
                have HE0 : Hid _ := E0
                clear HFI E0 Qa Qb Qc Qd
                go_wp2
                go_ret
                exact HE0.out
              · have qd : ¬ (pe.length : Int) ≤ 100 := by omega
                have E0 := HFI.out false (fun h => by cases h)
                have HE0 : Hid _ := E0
                clear HFI E0 Qd
                go_wp2
                go_ret
                exact HE0.out
            · have qc : ¬ (vt.length : Int) ≤ 100 := by omega
              have E0 := HFI.out false (fun h => by cases h)
              have HE0 : Hid _ := E0
              clear HFI E0 Qc
              go_wp2
              go_ret
              exact HE0.out
          · have qb : ¬ (s : Int) ≤ 20000 := by omega
            have E0 := HFI.out false (fun h => by cases h)
            have HE0 : Hid _ := E0
            clear HFI E0 Qb
            go_wp2
            go_ret
            exact HE0.out
        · have qa : ¬ (ZL : Int) ≤ 200 := by omega
          have E0 := HFI.out false (fun h => by cases h)
          have HE0 : Hid _ := E0
          clear HFI E0 Qa
          go_wp2
          go_ret
          exact HE0.out
end Go.Proofs.YtncoandnelgkeaaGreat

/- The law's own awake. -/
namespace Go.Proofs.YtncoandnelgkeaaGreat
open Go.RowKit QuorumMath RlogMath RaftMath
set_option maxRecDepth 100000
set_option linter.unusedSimpArgs false
set_option linter.unusedVariables false

/-- The only voter, so many ticks on. -/
def awR (i : Nat) : Mr := ⟨1, 0, 0, ⟨0, 0, 0, [1]⟩, [], 0, 0, 0, (i : Int), [], []⟩
theorem awR_ok : OkM ⟨0, 0, 0, [1]⟩ := ⟨by decide, by decide, by decide, by decide⟩
theorem awR_may (i : Nat) (h : i < 12) : mayR (awR i) = true := by
  have : (i : Int) ≤ 1000 := by omega
  have h0 : (0 : Int) ≤ (i : Int) := by omega
  unfold mayR awR
  simp only [decide_eq_true this, decide_eq_true h0]
  rfl
theorem awR_tick (i : Nat) (h : i < 11) : (tickR (awR i)).r = awR (i + 1) := by
  have h1 : (i : Int) < 1000 := by omega
  have h2 : ¬ (10 + 2 * (1 : Int) ≤ (i : Int) + 1) := by omega
  unfold tickR awR
  simp only [if_pos h1]
  rw [if_neg (by decide), if_neg (fun h => h2 h.1)]
  rfl
theorem awR_last : (tickR (awR 11)).r.role = 2 ∧ (tickR (awR 11)).r.term = 1 ∧ (tickR (awR 11)).r.commit = 1 := ⟨rfl, rfl, rfl⟩
/-- The state behind so many ticks. -/
def awS (i : Nat) (r : Mr) : Prop := (i ≤ 11 ∧ r = awR i) ∨ (i = 12 ∧ r = (tickR (awR 11)).r)
set_option maxHeartbeats 8000000 in
theorem awake_of (w : World) : Calls Tryz.prog 9 #[] w fun e w' => e = .returned (.bool true) ∧ Below w.heap.size w w' := by
  obtain ⟨hs0, g0, hb0⟩ := one_box w (.cells #[.int .i64 1] 3)
  have hL : Rd intE (w.alloc (.cells #[.int .i64 1] 3)) (.slice (some ⟨w.heap.size, 0, none⟩) 1 1) [1] := (Rk.made (E := intE) (xs := [1]) g0 rfl (by unfold maxLen; simp)).rd
  have k1 := new_of w.heap.size 1 [1] _ _ hL (by simp)
  go_enter Tryz.func9, Tryz.ntmps9
  go_wp2_with fail
  refine k1.mono ?_
  rintro e w2 ⟨⟨z, c, rfl, hz, hy, -⟩, hb2⟩
  obtain ⟨rfl, hzr⟩ := hy (by decide)
  have hb02 := hb0.trans (hb2.mono hb0.size)
  have HZR : Hid (z.r = awR 0) := hzr
  have HZ : Hid (RaV w.heap.size w2 z) := hz
  clear k1 hs0 g0 hb0 hL hzr hz hy hb2
  obtain ⟨z1, B1, hb1⟩ := one_box w2 (rc z)
  have HZ1 : Hid (RaV w.heap.size (w2.alloc (rc z)) z) := HZ.out.below hb1
  have hb01 := hb02.trans (hb1.mono hb02.size)
  have hg : w.heap.size ≤ w2.heap.size := hb02.size
  dsimp only [rv, rc] at *
  have HB1 : Hid _ := B1
  clear HZ hb1 z1 B1
  go_wp2
  generalize w2.alloc (.cells #[.int .i64 z.r.node, .int .u64 (z.r.term : Int), .int .i64 z.r.vote, .int .u64 (z.r.base.idx : Int), .int .u64 (z.r.base.term : Int), .int .i64 z.r.base.kind, .slice z.bs.1 z.bs.2.1 z.bs.2.2, .slice z.ls.1 z.ls.2.1 z.ls.2.2, .int .u64 (z.r.commit : Int), .int .i64 z.r.role, .int .i64 z.r.leads, .int .i64 z.r.elapsed, .slice z.vs.1 z.vs.2.1 z.vs.2.2, .slice z.ps.1 z.ps.2.1 z.ps.2.2] 32) = w3 at *
  go_loopg [2, 3] 12 (fun gh s2 s3 wr => ∃ (i : Nat) (y : Rz), i + gh = 12 ∧ s3 = .int .i64 (i : Int) ∧ s2 = .int .i64 0 ∧ Hid (awS i y.r) ∧ Hid (RaV w.heap.size wr y) ∧ Hid (wr.heap[w2.heap.size]? = some (rc y)) ∧ Below w.heap.size w wr)
  case atStart => exact ⟨0, z, by omega, rfl, rfl, .inl ⟨by omega, HZR.out⟩, HZ1, HB1, hb01⟩
  case round =>
    obtain ⟨i, y, hig, rfl, rfl, HA, HY, HBY, hb⟩ := hrel
    clear HZ1 HB1 hb01 HZR
    by_cases hlt : i < 12
    · have hlti : (i : Int) < 12 := by omega
      have hyr : y.r = awR i := by
        rcases HA.out with ⟨_, h⟩ | ⟨h, _⟩
        · exact h
        · omega
      have kt := tickP_of w.heap.size (awR i) (rv y) wr ⟨y, rfl, hyr, HY.out⟩ awR_ok (by unfold awR; simp) (by unfold awR; simp) (by unfold awR; simp) (by unfold awR; simp) (by unfold awR; simp)
      have HNX : Hid (∀ r, r = (tickR (awR i)).r → awS (i + 1) r) := fun r hr => by
        by_cases h11 : i < 11
        · exact .inl ⟨by omega, by rw [hr, awR_tick i h11]⟩
        · obtain rfl : i = 11 := by omega
          exact .inr ⟨rfl, hr⟩
      have HM : Hid (mayR (awR i) = true) := awR_may i hlt
      have hBY := HBY.out
      generalize tickR (awR i) = TK at *
      dsimp only [rv, rc] at kt hBY
      clear hyr HA HY HBY
      go_wp2_with (refine wpList_load_row rfl 32 _ rfl (w2.heap.size) rfl _ _ _ _ hBY Tryz.underlying32 rfl (by kernel_rfl) ?_)
      refine kt.mono ?_
      rintro e w5 ⟨⟨x, gs, os, c, rfl, hX, -, hyes, -⟩, hb5⟩
      obtain ⟨rfl, hxr, -⟩ := hyes HM.out
      have HXR : Hid (x.r = TK.r) := hxr
      have hB5 := (hb5.block w2.heap.size (Array.getElem?_eq_some_iff.1 hBY).1).trans hBY
      have hb05 := hb.trans (hb5.mono hb.size)
      have HX : Hid (RaV w.heap.size w5 x) := hX
      clear kt hyes hX hxr hBY hb5
      have HF := setRow_heap _ _ _ #[.int .i64 x.r.node, .int .u64 (x.r.term : Int), .int .i64 x.r.vote, .int .u64 (x.r.base.idx : Int), .int .u64 (x.r.base.term : Int), .int .i64 x.r.base.kind, .slice x.bs.1 x.bs.2.1 x.bs.2.2, .slice x.ls.1 x.ls.2.1 x.ls.2.2, .int .u64 (x.r.commit : Int), .int .i64 x.r.role, .int .i64 x.r.leads, .int .i64 x.r.elapsed, .slice x.vs.1 x.vs.2.1 x.vs.2.2, .slice x.ps.1 x.ps.2.1 x.ps.2.2] _ _ hB5
      have hbf := below_row hb05 (g := w2.heap.size) hg #[.int .i64 x.r.node, .int .u64 (x.r.term : Int), .int .i64 x.r.vote, .int .u64 (x.r.base.idx : Int), .int .u64 (x.r.base.term : Int), .int .i64 x.r.base.kind, .slice x.bs.1 x.bs.2.1 x.bs.2.2, .slice x.ls.1 x.ls.2.1 x.ls.2.2, .int .u64 (x.r.commit : Int), .int .i64 x.r.role, .int .i64 x.r.leads, .int .i64 x.r.elapsed, .slice x.vs.1 x.vs.2.1 x.vs.2.2, .slice x.ps.1 x.ps.2.1 x.ps.2.2]
      have HXF : Hid (RaV w.heap.size _ x) := HX.out.frm (Frm.row hg hB5 #[.int .i64 x.r.node, .int .u64 (x.r.term : Int), .int .i64 x.r.vote, .int .u64 (x.r.base.idx : Int), .int .u64 (x.r.base.term : Int), .int .i64 x.r.base.kind, .slice x.bs.1 x.bs.2.1 x.bs.2.2, .slice x.ls.1 x.ls.2.1 x.ls.2.2, .int .u64 (x.r.commit : Int), .int .i64 x.r.role, .int .i64 x.r.leads, .int .i64 x.r.elapsed, .slice x.vs.1 x.vs.2.1 x.vs.2.2, .slice x.ps.1 x.ps.2.1 x.ps.2.2]) (by decide)
      have HFH : Hid _ := HF
      clear HF HX
      dsimp only [rv]
      go_wp2_with (refine wpList_store_row rfl 32 _ _ rfl (w2.heap.size) _ rfl rfl _ _ hB5 (by kernel_rfl) rfl (by simp [Value.oneCell']) ?_)
      generalize w5.setRow w2.heap.size #[.int .i64 x.r.node, .int .u64 (x.r.term : Int), .int .i64 x.r.vote, .int .u64 (x.r.base.idx : Int), .int .u64 (x.r.base.term : Int), .int .i64 x.r.base.kind, .slice x.bs.1 x.bs.2.1 x.bs.2.2, .slice x.ls.1 x.ls.2.1 x.ls.2.2, .int .u64 (x.r.commit : Int), .int .i64 x.r.role, .int .i64 x.r.leads, .int .i64 x.r.elapsed, .slice x.vs.1 x.vs.2.1 x.vs.2.2, .slice x.ps.1 x.ps.2.1 x.ps.2.2] = w6 at *
      clear hB5
      go_roundg (gk - 1)
      case measure => omega
      case rel => exact ⟨i + 1, x, by omega, by go_num, rfl, HNX.out _ HXR.out, HXF, HFH, hbf⟩
    · have hlti : ¬ (i : Int) < 12 := by omega
      have hfin : y.r.role = 2 ∧ y.r.term = 1 ∧ y.r.commit = 1 := by
        rcases HA.out with ⟨h, _⟩ | ⟨_, h⟩
        · omega
        · rw [h]
          exact awR_last
      obtain ⟨hr1, hr2, hr3⟩ := hfin
      have hBY := HBY.out
      dsimp only [rc] at hBY
      rw [hr1, hr2, hr3] at hBY
      obtain ⟨-, o0, o1, o2, o3, o4, o5, o6, o7, o8, o9, o10, o11, o12, o13⟩ := r14_cells hBY
      clear HA HY HBY hBY hr1 hr2 hr3
      go_wp2
      go_ret
      exact ⟨rfl, hb⟩
end Go.Proofs.YtncoandnelgkeaaGreat

/- The law RaftTicks. -/
namespace Go.Proofs.YtncoandnelgkeaaGreat
open Go.RowKit QuorumMath RlogMath RaftMath
set_option maxRecDepth 100000
set_option linter.unusedSimpArgs false
set_option linter.unusedVariables false

theorem mayR_more {r : Mr} (h : mayR r = true) : r.term ≤ 4611686018427387904 ∧ (votR r).length ≤ 7 := by
  have h1 := may_vlen (mayR_facts h).1
  rw [mayR_eq] at h
  unfold numB at h
  simp only [Bool.and_eq_true, decide_eq_true_eq] at h
  exact ⟨h.1.1.1.1.1.1.2, h1⟩
theorem slv_len {α : Type} {E : El α} {t : TypeId} {n : Nat} {w : World} {s : Sl} {xs : List α} (h : RdN E t n w (.slice s.1 s.2.1 s.2.2) xs) : s.2.1 = xs.length := by
  obtain ⟨ao, cap, e, -, -⟩ := h.rd.shape
  simp only [Value.slice.injEq] at e
  exact e.2.1
end Go.Proofs.YtncoandnelgkeaaGreat

